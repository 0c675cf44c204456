import Derived.Test.YtgiokmfdafmaoaaGreatJUp
import Derived.Laws.AppendOwnNone
/- Copy. -/
/- Copies of what is handed in, and rows whose cells are turned in place. -/
namespace Go.Proofs.YtgiokmfdafmaoaaGreat
open Go.RowKit Go.Shelf
set_option linter.unusedVariables false
set_option linter.unusedSimpArgs false

theorem own_keepsOf {w w' : World} {B : Nat} {v : Value} {l : List Nat} {S : Nat → Prop} (h : Own w B v l) (hk : KeepsOf S w w') (hS : ∀ k, v.ownBlock = some k → S k) : Own w' B v l := by
  refine ⟨⟨h.1.1, ?_⟩, h.2⟩
  rcases h.1.2 with h2 | ⟨g, cap, cur, e, hg, hh, r⟩
  · exact .inl h2
  · exact .inr ⟨g, cap, cur, e, hg, (hk.2 g (hS g (by rw [e]; rfl))).trans hh, r⟩
theorem incr_word (x : Nat) : IntKind.u64.wrap ((x : Int) + 1) = (((x + 1) % B64 : Nat) : Int) := by
  rw [show ((x : Int) + 1) = ((x + 1 : Nat) : Int) by omega, u64_wrap_nat]
/-- The blocks below a world's end, but for a row's own one. -/
def But (n : Nat) (v : Value) (k : Nat) : Prop := k < n ∧ v.ownBlock ≠ some k
theorem set_keeps {w wl : World} {n g m c : Nat} (i : Nat) (u : Value) (hk : KeepsOf (But n (.slice (some ⟨g, 0, none⟩) m c)) wl w) : KeepsOf (But n (.slice (some ⟨g, 0, none⟩) m c)) wl (w.setCell ⟨g, i, none⟩ u) := by
  refine hk.trans ⟨by simp [World.setCell], fun k hS => ?_⟩
  have h : some g ≠ some k := hS.2
  simp [World.setCell, Array.getElem?_modify]
  intro e
  exact absurd (by rw [e]) h
theorem drew_keeps {w wl : World} {S : Nat → Prop} (hk : KeepsOf S wl w) : KeepsOf S wl w.drew := hk.trans ⟨Nat.le_refl _, fun _ _ => rfl⟩
theorem own_drew {w : World} {B : Nat} {v : Value} {l : List Nat} (h : Own w B v l) : Own w.drew B v l := h.below (Below.refl _ w).drew
theorem rd_but {w wl : World} {A A2 : Option Addr} {n m c : Nat} {l l2 : List Nat} {B : Nat} (h : Rd wl A n l) (ho : Own wl B (.slice A2 m c) l2) (hlt : 0 < n → ∀ b off, A = some ⟨b, off, none⟩ → b < B)
    (hk : KeepsOf (But wl.heap.size (.slice A2 m c)) wl w) : Rd w A n l :=
  hk.rd h fun hn b off e => ⟨h.lt hn b off e, fun e2 => by have h1 := (ho.1.lt b e2).1; have h2 := hlt hn b off e; omega⟩
theorem own_but {w wl : World} {v : Value} {A2 : Option Addr} {m c : Nat} {l l2 : List Nat} {B D : Nat} (h : Own wl D v l) (ho : Own wl B (.slice A2 m c) l2) (hlt : ∀ k, (Value.slice A2 m c).ownBlock = some k → k < D)
    (hk : KeepsOf (But wl.heap.size (.slice A2 m c)) wl w) : Own w D v l :=
  own_keepsOf h hk fun k e => ⟨(h.1.lt k e).2, fun e2 => by have h1 := (h.1.lt k e).1; have h2 := hlt k e2; omega⟩
theorem own_at {w : World} {B n c : Nat} {A : Option Addr} {l : List Nat} (h : Own w B (.slice A n c) l) (hn : 0 < n) : ∃ g, A = some ⟨g, 0, none⟩ ∧ B ≤ g ∧ g < w.heap.size := by
  rcases h.1.2 with ⟨e, h0⟩ | ⟨g, cap, cur, e, hg, hh, r⟩
  · cases e; omega
  · cases e
    exact ⟨g, rfl, hg, (Array.getElem?_eq_some_iff.1 hh).1⟩

theorem wpList_copy {P : Program} {w : World} {ops : Array Oper} {rest : List Oper} {o : Oper} {st : Act} {Q : Exit → Act → World → Prop} (hgd : o.guard = none) (s x : Operand) (t : TypeId)
    (ho : o.op = .call { callee := .builtin .append, args := #[s, x], argTypes := #[t, t] })
    (i : TypeInfo) (ht : P.underlying t = some (.slice 36)) (hi : P.info? 36 = some i) (hz : i.zero = some (.int .u64 0)) (hsize : i.size = 1) (hby : i.bytes = 8)
    (hs : st.eval s = .slice (some ⟨w.heap.size, 0, none⟩) 0 0) (A : Option Addr) (m c : Nat) (a : List Nat) (hx : st.eval x = .slice A m c) (hA : A = none → m = 0 ∧ c = 0) (hra : Rd w A m a) (hm : m ≤ 100)
    (h : ∀ A' c' w', Own w' w.heap.size (.slice A' m c') a → Below w.heap.size w w' → wpList P ops Q rest (st.put o.dst (.slice A' m c')) w') :
    wpList P ops Q (o :: rest) st (w.alloc (.cells #[] 36)) := by
  have hown : (w.alloc (.cells #[] 36)).ownsRow w.heap.size 36 1 (.slice (some ⟨w.heap.size, 0, none⟩) 0 0) 0 [] := World.ownsRow_made w #[] 0 (Nat.le_refl _) (Nat.zero_le _) rfl
  have hal := hra.len
  have hB1 : Below w.heap.size w (w.alloc (.cells #[] 36)) := (Below.refl _ w).alloc (Nat.le_refl _) _
  cases A with
  | none =>
    obtain ⟨rfl, rfl⟩ := hA rfl
    have ha : a = [] := List.eq_nil_of_length_eq_zero hal
    subst ha
    exact wpList_append_own_none hgd s x t ho w.heap.size 36 i 1 ht hi _ 0 [] hs hown hx (h _ _ _ ⟨hown, words_nil⟩ hB1)
  | some ad =>
    refine wpList_append_own _ hgd s x t ho w.heap.size 36 i _ 1 8 ht hi hz hsize hby (by rfl) (by omega) _ _ _ hs hown ad m c (a.map u64) hx (by simp [hal]) ?_ ?_ (by simp only [maxLen]; omega) (by omega) (by simp) ?_
    · intro j u hj
      have hjl : j < a.length := by
        have := (List.getElem?_eq_some_iff.1 hj).1
        simpa using this
      obtain ⟨b0, off, e, hlt, hc⟩ := (hra.alloc (.cells #[] 36)).cells (by omega)
      cases e
      have h := hc j (by omega)
      have hu : u = u64 (lim a j) := by
        rw [List.getElem?_map, List.getElem?_eq_getElem hjl] at hj
        simp at hj
        rw [← hj, lim_get hjl]
      rw [hu, ← h]
      congr 1
      unfold Addr.add
      split
      · next h0 => subst h0; simp
      · rfl
    · intro u hu
      obtain ⟨x, _, rfl⟩ := List.mem_map.1 hu
      rfl
    · intro v1 w1 ho1 hg1 _
      have ho2 : Own w1 w.heap.size v1 a := ⟨by rw [hal]; simpa using ho1, hra.words⟩
      obtain ⟨A1, c1, rfl⟩ := own_shape ho2
      rw [hal] at ho2 ⊢
      refine h _ _ _ ho2 (hB1.grown hg1 (by simp) (fun k e => ?_))
      simp [Value.ownBlock] at e
      omega
end Go.Proofs.YtgiokmfdafmaoaaGreat
