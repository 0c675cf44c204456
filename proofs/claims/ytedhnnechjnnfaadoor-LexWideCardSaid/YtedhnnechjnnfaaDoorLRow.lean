/- Rows of plain structs (their cells are values without memory of their own): read, laid behind; generic in the element. -/
import Derived.Test.YtedhnnechjnnfaaDoorLBase
namespace Go.Proofs.YtedhnnechjnnfaaDoor
open Go.RowKit Go.Shelf
set_option linter.unusedVariables false
set_option linter.unusedSimpArgs false

/-- append onto a row of the call's own, as one step of a region that draws. -/
theorem lx_step_append {P : Program} {ops : Array Oper} {o : Oper} {a : Act} {w : World} {K : Act → World → Prop} {Q : Exit → Act → World → Prop} {E : Prop}
    (hg : o.guard = none) (s x : Operand) (t : TypeId) (hop : o.op = Op.call { callee := Callee.builtin Builtin.append, args := #[s, x], argTypes := #[t, t] })
    (base : Nat) (e : TypeId) (i : TypeInfo) (z : Value) (size bytes : Nat) (h1 : P.underlying t = some (.slice e)) (h2 : P.info? e = some i) (h3 : i.zero = some z) (h4 : i.size = size) (h5 : i.bytes = bytes) (h6 : z.cells.size = size) (h7 : 0 < size)
    (v : Value) (n : Nat) (xs : List Value) (hs : a.eval s = v) (hown : w.ownsRow base e size v n xs)
    (ad : Addr) (m c : Nat) (news : List Value) (hx : a.eval x = .slice (some ad) m c) (hn : news.length = m * size) (hc : ∀ j u, news[j]? = some u → w.cell? (ad.add j) = some u) (h1c : ∀ u ∈ news, u.oneCell' = true)
    (b1 : n + m ≤ maxLen) (b2 : (n + m) * bytes ≤ 140737488355328) (b3 : base ≤ w.heap.size)
    (hK : ∀ v' w', w'.ownsRow base e size v' (n + m) (xs ++ news) → w.grownBy w' v.ownBlock → K (a.put o.dst v') w') :
    if Region.wanted o (yielded ops a.tmps) = true then Oper.wp P o a w K Q else E := by
  have hw : Region.wanted o (yielded ops a.tmps) = true := by simp [Region.wanted, hg]
  rw [if_pos hw]
  obtain ⟨v', w', hrun, r1, r2, _⟩ := run_append_own (P := P) w base t o.type e i z size bytes h1 h2 h3 h4 h5 h6 h7 v n xs hown ad m c news hn hc h1c b1 b2 b3
  unfold Oper.wp
  simp [execOp, hop, resolve, invoke, builtin, hs, hx, hrun, Result.andThen]
  exact hK v' w' r1 r2

section
variable {α : Type} (cs : α → List Value) (size : Nat) (T : TypeId)
/-- A row's cells. -/
def flatE (L : List α) : List Value := L.flatMap cs
theorem flatE_len (hs : ∀ e, (cs e).length = size) (L : List α) : (flatE cs L).length = L.length * size := by
  induction L with
  | nil => simp [flatE]
  | cons e L ih =>
    unfold flatE at *
    rw [List.flatMap_cons, List.length_append, ih, hs, List.length_cons, Nat.add_mul]
    omega
theorem flatE_append (L M : List α) : flatE cs (L ++ M) = flatE cs L ++ flatE cs M := by unfold flatE; rw [List.flatMap_append]
theorem flatE_get (hs : ∀ e, (cs e).length = size) {L : List α} {k j : Nat} {e : α} (h : L[k]? = some e) (hj : j < size) : (flatE cs L)[k * size + j]? = (cs e)[j]? := by
  induction L generalizing k with
  | nil => cases h
  | cons x L ih =>
    have hf : flatE cs (x :: L) = cs x ++ flatE cs L := rfl
    cases k with
    | zero =>
      simp at h
      subst h
      rw [hf, Nat.zero_mul, Nat.zero_add, List.getElem?_append_left (by rw [hs]; exact hj)]
    | succ k =>
      rw [List.getElem?_cons_succ] at h
      rw [hf, List.getElem?_append_right (by rw [hs, Nat.add_mul]; omega), hs, ← ih h]
      congr 1
      rw [Nat.add_mul]
      omega
/-- A row of n elements, in a block from B on. -/
structure OwnE (w : World) (B : Nat) (A : Option Addr) (n c : Nat) (L : List α) : Prop where
  row : w.ownsRow B T size (.slice A n c) n (flatE cs L)
  len : L.length = n
variable {cs size T} {w w' : World} {A : Option Addr} {B n c : Nat} {L : List α}
theorem rowE_below {base k : Nat} {e : TypeId} {v : Value} {xs : List Value} (h : w.ownsRow base e size v k xs) (hb : Below w.heap.size w w') : w'.ownsRow base e size v k xs := by
  refine ⟨h.1, ?_⟩
  rcases h.2 with h2 | ⟨g, cap, cur, e, hg, hh, r⟩
  · exact .inl h2
  · exact .inr ⟨g, cap, cur, e, hg, (hb.block g (Array.getElem?_eq_some_iff.1 hh).1).trans hh, r⟩
theorem OwnE.below (h : OwnE cs size T w B A n c L) (hb : Below w.heap.size w w') : OwnE cs size T w' B A n c L := ⟨rowE_below h.row hb, h.len⟩
theorem OwnE.mono {C : Nat} (h : OwnE cs size T w B A n c L) (hC : C ≤ B) : OwnE cs size T w C A n c L := ⟨⟨h.row.1, by
  rcases h.row.2 with h2 | ⟨g, cap, cur, e, hg, r⟩
  · exact .inl h2
  · exact .inr ⟨g, cap, cur, e, by omega, r⟩⟩, h.len⟩
theorem owne_nil (w : World) (B : Nat) : OwnE cs size T w B none 0 0 ([] : List α) := ⟨World.ownsRow_nil _ _ _ _, rfl⟩
theorem OwnE.cap (h : OwnE cs size T w B A n c L) : n ≤ c ∧ c ≤ 9223372036854775807 := by
  rcases h.row.2 with ⟨e, h0⟩ | ⟨g, cap, cur, e, hg, hh, hn, hc, hs, ht⟩
  · cases e
    exact ⟨Nat.le_refl _, Nat.zero_le _⟩
  · cases e
    exact ⟨hn, hc⟩
theorem addrE_at (g j : Nat) : (⟨g, 0, none⟩ : Addr).add j = ⟨g, j, none⟩ := by
  unfold Addr.add
  split
  · rename_i h
    subst h
    rfl
  · simp
/-- The k-th element's cells. -/
theorem OwnE.cell (h : OwnE cs size T w B A n c L) (hs : ∀ e, (cs e).length = size) {k : Nat} {e : α} (he : L[k]? = some e) : ∃ b, A = some ⟨b, 0, none⟩ ∧ B ≤ b ∧ b < w.heap.size ∧ ∀ j u, (cs e)[j]? = some u → w.cell? ⟨b, k * size + j, none⟩ = some u := by
  have hk : k < n := by rw [← h.len]; exact (List.getElem?_eq_some_iff.1 he).1
  rcases h.row.2 with ⟨e2, h0⟩ | ⟨g, cap, cur, e2, hg, hh, r⟩
  · omega
  · cases e2
    refine ⟨g, rfl, hg, (Array.getElem?_eq_some_iff.1 hh).1, fun j u hu => ?_⟩
    have hj : j < size := by rw [← hs e]; exact (List.getElem?_eq_some_iff.1 hu).1
    have h2 := h.row.cells (g := g) rfl (k * size + j) u (by rw [flatE_get cs size hs he hj]; exact hu)
    rwa [addrE_at] at h2
/-- An element is laid behind such a row. -/
theorem wpList_appendE {P : Program} {ops : Array Oper} {rest : List Oper} {o : Oper} {st : Act} {Q : Exit → Act → World → Prop} (hgd : o.guard = none) (s x : Operand) (t : TypeId)
    (hop : o.op = .call { callee := .builtin .append, args := #[s, x], argTypes := #[t, t] }) (i : TypeInfo) (z : Value) (bytes : Nat) (ht : P.underlying t = some (.slice T)) (hi : P.info? T = some i) (hz : i.zero = some z) (hsz : i.size = size) (hby : i.bytes = bytes) (hzc : z.cells.size = size) (h0s : 0 < size) (hb200 : bytes ≤ 1000)
    (hcs : ∀ e, (cs e).length = size) (h1c : ∀ e, ∀ u ∈ cs e, u.oneCell' = true)
    (hs : st.eval s = .slice A n c) (h : OwnE cs size T w B A n c L) (ad : Addr) (c1 : Nat) (hx : st.eval x = .slice (some ad) 1 c1) (e : α) (hc : ∀ j u, (cs e)[j]? = some u → w.cell? (ad.add j) = some u)
    (hn : n ≤ 100000) (hB : B ≤ w.heap.size)
    (hK : ∀ A' c' w', OwnE cs size T w' B A' (n + 1) c' (L ++ [e]) → (∀ w0, Below B w0 w → Below B w0 w') → wpList P ops Q rest (st.put o.dst (.slice A' (n + 1) c')) w') :
    wpList P ops Q (o :: rest) st w := by
  have hone : flatE cs [e] = cs e := by simp [flatE]
  refine wpList_append_own w hgd s x t hop B T i z size bytes ht hi hz hsz hby hzc h0s _ n (flatE cs L) hs h.row ad 1 c1 (flatE cs [e]) hx (by rw [hone, hcs, Nat.one_mul]) (by rw [hone]; exact hc) (by rw [hone]; exact h1c e) (by unfold maxLen; omega) ?_ hB ?_
  · have h1 : (n + 1) * bytes ≤ 100001 * 1000 := Nat.mul_le_mul (by omega) hb200
    omega
  · intro v' w' hrow hg _
    have hbel : ∀ w0, Below B w0 w → Below B w0 w' := fun w0 hw => hw.grown hg hB fun k hk => (h.row.lt k hk).1
    rw [← flatE_append] at hrow
    have hlen : (L ++ [e]).length = n + 1 := by rw [List.length_append, h.len]; rfl
    rcases hrow.2 with ⟨e2, h2⟩ | ⟨g, cap, cur, e2, _⟩
    · omega
    · subst e2
      exact hK _ _ w' ⟨hrow, hlen⟩ hbel
/-- .. and what else stands is kept. -/
theorem wpList_appendK {P : Program} {ops : Array Oper} {rest : List Oper} {o : Oper} {st : Act} {Q : Exit → Act → World → Prop} (hgd : o.guard = none) (s x : Operand) (t : TypeId)
    (hop : o.op = .call { callee := .builtin .append, args := #[s, x], argTypes := #[t, t] }) (i : TypeInfo) (z : Value) (bytes : Nat) (ht : P.underlying t = some (.slice T)) (hi : P.info? T = some i) (hz : i.zero = some z) (hsz : i.size = size) (hby : i.bytes = bytes) (hzc : z.cells.size = size) (h0s : 0 < size) (hb200 : bytes ≤ 1000)
    (hcs : ∀ e, (cs e).length = size) (h1c : ∀ e, ∀ u ∈ cs e, u.oneCell' = true)
    (hs : st.eval s = .slice A n c) (h : OwnE cs size T w B A n c L) (ad : Addr) (c1 : Nat) (hx : st.eval x = .slice (some ad) 1 c1) (e : α) (hc : ∀ j u, (cs e)[j]? = some u → w.cell? (ad.add j) = some u)
    (hn : n ≤ 100000) (hB : B ≤ w.heap.size)
    (hK : ∀ A' c' w', OwnE cs size T w' B A' (n + 1) c' (L ++ [e]) → (∀ w0, Below B w0 w → Below B w0 w') → (∀ k, k < w.heap.size → some k ≠ (Value.slice A n c).ownBlock → w'.heap[k]? = w.heap[k]?) → wpList P ops Q rest (st.put o.dst (.slice A' (n + 1) c')) w') :
    wpList P ops Q (o :: rest) st w := by
  have hone : flatE cs [e] = cs e := by simp [flatE]
  refine wpList_append_own w hgd s x t hop B T i z size bytes ht hi hz hsz hby hzc h0s _ n (flatE cs L) hs h.row ad 1 c1 (flatE cs [e]) hx (by rw [hone, hcs, Nat.one_mul]) (by rw [hone]; exact hc) (by rw [hone]; exact h1c e) (by unfold maxLen; omega) ?_ hB ?_
  · have h1 : (n + 1) * bytes ≤ 100001 * 1000 := Nat.mul_le_mul (by omega) hb200
    omega
  · intro v' w' hrow hg _
    have hbel : ∀ w0, Below B w0 w → Below B w0 w' := fun w0 hw => hw.grown hg hB fun k hk => (h.row.lt k hk).1
    rw [← flatE_append] at hrow
    have hlen : (L ++ [e]).length = n + 1 := by rw [List.length_append, h.len]; rfl
    rcases hrow.2 with ⟨e2, h2⟩ | ⟨g, cap, cur, e2, _⟩
    · omega
    · subst e2
      exact hK _ _ w' ⟨hrow, hlen⟩ hbel fun k hk hne => hg.block k hk hne
/-- .. in a region. -/
theorem step_appendE {P : Program} {ops : Array Oper} {o : Oper} {a : Act} {K : Act → World → Prop} {Q : Exit → Act → World → Prop} {E : Prop} (hgd : o.guard = none) (s x : Operand) (t : TypeId)
    (hop : o.op = Op.call { callee := Callee.builtin Builtin.append, args := #[s, x], argTypes := #[t, t] }) (i : TypeInfo) (z : Value) (bytes : Nat) (ht : P.underlying t = some (.slice T)) (hi : P.info? T = some i) (hz : i.zero = some z) (hsz : i.size = size) (hby : i.bytes = bytes) (hzc : z.cells.size = size) (h0s : 0 < size) (hb200 : bytes ≤ 1000)
    (hcs : ∀ e, (cs e).length = size) (h1c : ∀ e, ∀ u ∈ cs e, u.oneCell' = true)
    (hs : a.eval s = .slice A n c) (h : OwnE cs size T w B A n c L) (ad : Addr) (c1 : Nat) (hx : a.eval x = .slice (some ad) 1 c1) (e : α) (hc : ∀ j u, (cs e)[j]? = some u → w.cell? (ad.add j) = some u)
    (hn : n ≤ 100000) (hB : B ≤ w.heap.size)
    (hK : ∀ A' c' w', OwnE cs size T w' B A' (n + 1) c' (L ++ [e]) → (∀ w0, Below B w0 w → Below B w0 w') → K (a.put o.dst (.slice A' (n + 1) c')) w') :
    if Region.wanted o (yielded ops a.tmps) = true then Oper.wp P o a w K Q else E := by
  have hone : flatE cs [e] = cs e := by simp [flatE]
  refine lx_step_append (P := P) hgd s x t hop B T i z size bytes ht hi hz hsz hby hzc h0s _ n (flatE cs L) hs h.row ad 1 c1 (flatE cs [e]) hx (by rw [hone, hcs, Nat.one_mul]) (by rw [hone]; exact hc) (by rw [hone]; exact h1c e) (by unfold maxLen; omega) ?_ hB ?_
  · have h1 : (n + 1) * bytes ≤ 100001 * 1000 := Nat.mul_le_mul (by omega) hb200
    omega
  · intro v' w' hrow hg2
    have hbel : ∀ w0, Below B w0 w → Below B w0 w' := fun w0 hw => hw.grown hg2 hB fun k hk => (h.row.lt k hk).1
    rw [← flatE_append] at hrow
    have hlen : (L ++ [e]).length = n + 1 := by rw [List.length_append, h.len]; rfl
    rcases hrow.2 with ⟨e2, h2⟩ | ⟨g, cap, cur, e2, _⟩
    · omega
    · subst e2
      exact hK _ _ w' ⟨hrow, hlen⟩ hbel
end
end Go.Proofs.YtedhnnechjnnfaaDoor
