import Derived.Test.YtgiokmfdafmaoaaGreatJVOwn
import Derived.Test.YtgiokmfdafmaoaaGreatJRefGo
/- VApp. -/
/- A number is laid behind a row of the call's own. -/
namespace Go.Proofs.YtgiokmfdafmaoaaGreat
open Go.RowKit Go.Shelf
set_option linter.unusedVariables false
set_option linter.unusedSimpArgs false

theorem wpList_appendV {w : World} {ops : Array Oper} {rest : List Oper} {o : Oper} {st : Act} {Q : Exit → Act → World → Prop} (hgd : o.guard = none) (s x : Operand) (t : TypeId)
    (hop : o.op = .call { callee := .builtin .append, args := #[s, x], argTypes := #[t, t] }) (ht : Tryz.prog.underlying t = some (.slice zT))
    (B : Nat) (A : Option Addr) (n c : Nat) (L : List ZE) (hs : st.eval s = .slice A n c) (h : OwnV w B A n c L)
    (ad : Addr) (c1 : Nat) (hx : st.eval x = .slice (some ad) 1 c1) (e : ZE) (h0 : w.cell? (ad.add 0) = some (.bool e.p)) (h1 : w.cell? (ad.add 1) = some (.slice e.A e.n e.c)) (he : Own w B (.slice e.A e.n e.c) e.l)
    (hn : n ≤ 100000) (hB : B ≤ w.heap.size)
    (hK : ∀ A' c' w', OwnV w' B A' (n + 1) c' (L ++ [e]) → w.grownBy w' (Value.slice A n c).ownBlock → (∀ w0, Below B w0 w → Below B w0 w') → wpList Tryz.prog ops Q rest (st.put o.dst (.slice A' (n + 1) c')) w') :
    wpList Tryz.prog ops Q (o :: rest) st w := by
  obtain ⟨i, hi, hz, hsz, hby⟩ := z_parts
  refine wpList_append_own w hgd s x t hop B zT i _ 2 32 ht hi hz hsz hby rfl (by omega) _ n (flat L) hs h.row ad 1 c1 (flat [e]) hx rfl ?_ (flat_one e) (by unfold maxLen; omega) (by omega) hB ?_
  · intro j u hj
    match j, hj with
    | 0, hj => cases hj; exact h0
    | 1, hj => cases hj; exact h1
    | j + 2, hj => cases hj
  · intro v' w' hrow hg _
    have hel : ∀ y, y ∈ L ++ [e] → Own w' B (.slice y.A y.n y.c) y.l := fun y hy => by
      rcases List.mem_append.1 hy with hy | hy
      · exact own_growv (h.el y hy) h.row hg
      · rw [List.mem_singleton.1 hy]
        exact own_growv he h.row hg
    have hbel : ∀ w0, Below B w0 w → Below B w0 w' := fun w0 hw => hw.grown hg hB fun k hk => (h.row.lt k hk).1
    rw [← flat_append] at hrow
    have hlen : (L ++ [e]).length = n + 1 := by rw [List.length_append, h.len]; rfl
    rcases hrow.2 with ⟨e2, h2⟩ | ⟨g, cap, cur, e2, _⟩
    · omega
    · subst e2
      exact hK _ _ w' ⟨hrow, hlen, hel⟩ hg hbel
end Go.Proofs.YtgiokmfdafmaoaaGreat
