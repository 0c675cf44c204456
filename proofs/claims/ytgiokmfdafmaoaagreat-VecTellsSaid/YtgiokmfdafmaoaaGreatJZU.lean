import Derived.Test.YtgiokmfdafmaoaaGreatJZT
/- ZU. -/
/- The document's whole numbers: what answers with an error. -/
namespace Go.Proofs.YtgiokmfdafmaoaaGreat
open Go.RowKit Go.Shelf
set_option linter.unusedVariables false
set_option linter.unusedSimpArgs false

theorem Z1.num {A : Option Addr} {na ca : Nat} {p : Bool} {a : List Nat} {w : World} (h : Z1 w A na ca a) (hm : mayZ p a = true) : ZNm w A na ca (zof p a) ∧ zv p A na ca = zV (zof p a) A na ca := znm_of h.ra hm h.ca1 h.ca2
theorem own_box {w1 w4 : World} {B g : Nat} {v : Value} {l : List Nat} (h1 : g < w1.heap.size) (hg : B ≤ g) (o : Own w4 w1.heap.size v l) (u1 u2 : Value) : Own ((w4.setCell ⟨g, 0, none⟩ u1).setCell ⟨g, 1, none⟩ u2) B v l :=
  own_mono (own_far (own_far (own_mono o (show g + 1 ≤ _ from h1)) (p := ⟨g, 0, none⟩) (Nat.lt_succ_self _) _) (p := ⟨g, 1, none⟩) (Nat.lt_succ_self _) _) (by omega)
theorem box_below {w w4 : World} {B g : Nat} (hg : B ≤ g) (h : Below B w w4) (u1 u2 : Value) : Below B w ((w4.setCell ⟨g, 0, none⟩ u1).setCell ⟨g, 1, none⟩ u2) := (h.setCell (p := ⟨g, 0, none⟩) hg _).setCell (p := ⟨g, 1, none⟩) hg _
section
variable {A A2 : Option Addr} {na ca nb cb : Nat} {p q : Bool} {a b : List Nat} {w : World} {z y : Int}
end
end Go.Proofs.YtgiokmfdafmaoaaGreat
