import Derived.Test.YtgiokmfdafmaoaaGreatJZHeld
/- VRow. -/
/- Rows of whole numbers (api.Vec): what a slice of numbers reads. -/
namespace Go.Proofs.YtgiokmfdafmaoaaGreat
open Go.RowKit Go.Shelf
set_option linter.unusedVariables false
set_option linter.unusedSimpArgs false

/-- A whole number as a row holds it: its sign, its slice, its limbs. -/
structure ZE where
  p : Bool
  A : Option Addr
  n : Nat
  c : Nat
  l : List Nat
structure ZE.ok (w : World) (e : ZE) : Prop where
  r : Rd w e.A e.n e.l
  c1 : e.n ≤ e.c
  c2 : e.c ≤ 9223372036854775807
theorem ZE.ok.below {w w' : World} {e : ZE} (h : ZE.ok w e) (hb : Below w.heap.size w w') : ZE.ok w' e := ⟨h.r.below hb, h.c1, h.c2⟩
/-- A slice of n numbers. -/
structure RdV (w : World) (A : Option Addr) (n : Nat) (L : List ZE) : Prop where
  len : L.length = n
  ok : ∀ e, e ∈ L → ZE.ok w e
  cells : 0 < n → ∃ b o, A = some ⟨b, o, none⟩ ∧ b < w.heap.size ∧ ∀ i e, L[i]? = some e → w.cell? ⟨b, o + i * 2, none⟩ = some (.bool e.p) ∧ w.cell? ⟨b, o + i * 2 + 1, none⟩ = some (.slice e.A e.n e.c)
section
variable {w w' : World} {A : Option Addr} {n : Nat} {L : List ZE}
theorem RdV.below (h : RdV w A n L) (hb : Below w.heap.size w w') : RdV w' A n L :=
  ⟨h.len, fun e he => (h.ok e he).below hb, fun hn => by
    obtain ⟨b, o, e, hlt, hc⟩ := h.cells hn
    exact ⟨b, o, e, Nat.lt_of_lt_of_le hlt hb.size, fun i x hx => ⟨(hb.cell (p := ⟨b, o + i * 2, none⟩) hlt).trans (hc i x hx).1, (hb.cell (p := ⟨b, o + i * 2 + 1, none⟩) hlt).trans (hc i x hx).2⟩⟩⟩
theorem rdv_nil (w : World) (A : Option Addr) : RdV w A 0 [] := ⟨rfl, fun _ h => (by cases h), fun h => absurd h (by omega)⟩
/-- The k-th number. -/
theorem RdV.elem (h : RdV w A n L) {k : Nat} (hk : k < n) : ∃ e, L[k]? = some e ∧ ZE.ok w e := by
  have hk2 : k < L.length := by rw [h.len]; exact hk
  exact ⟨L[k], List.getElem?_eq_getElem hk2, h.ok _ (List.getElem_mem hk2)⟩
/-- The cells of the k-th number. -/
theorem RdV.cell (h : RdV w A n L) {k : Nat} {e : ZE} (he : L[k]? = some e) : ∃ b o, A = some ⟨b, o, none⟩ ∧ b < w.heap.size ∧ w.cell? ⟨b, o + k * 2, none⟩ = some (.bool e.p) ∧ w.cell? ⟨b, o + k * 2 + 1, none⟩ = some (.slice e.A e.n e.c) := by
  have hk : k < L.length := (List.getElem?_eq_some_iff.1 he).1
  obtain ⟨b, o, hA, hlt, hc⟩ := h.cells (by rw [← h.len]; omega)
  exact ⟨b, o, hA, hlt, hc k e he⟩
end
/-- May a row's numbers be? -/
def mayV (L : List ZE) : Bool := L.all fun e => mayZ e.p e.l
theorem mayV_no {L : List ZE} {k : Nat} {e : ZE} (he : L[k]? = some e) (h : mayZ e.p e.l = false) : mayV L = false := by
  have hm : e ∈ L := List.mem_of_getElem? he
  cases hv : mayV L with
  | false => rfl
  | true =>
    unfold mayV at hv
    rw [List.all_eq_true] at hv
    rw [hv e hm] at h
    cases h
theorem mayV_yes {L : List ZE} {n : Nat} (hn : L.length = n) (h : ∀ k e, k < n → L[k]? = some e → mayZ e.p e.l = true) : mayV L = true := by
  unfold mayV
  rw [List.all_eq_true]
  intro e he
  obtain ⟨k, hk⟩ := List.getElem?_of_mem he
  exact h k e (by have := (List.getElem?_eq_some_iff.1 hk).1; omega) hk
end Go.Proofs.YtgiokmfdafmaoaaGreat
