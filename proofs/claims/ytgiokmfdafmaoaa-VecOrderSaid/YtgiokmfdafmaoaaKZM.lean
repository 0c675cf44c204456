import Derived.Test.YtgiokmfdafmaoaaKZU
import Derived.Test.YtgiokmfdafmaoaaKTimes
import Derived.Test.YtgiokmfdafmaoaaKSame
/- ZW ZC ZK ZS ZM. -/
/- The document's whole numbers: products. -/
namespace Go.Proofs.Ytgiokmfdafmaoaa
open Go.RowKit Go.Shelf
set_option linter.unusedVariables false
set_option linter.unusedSimpArgs false

section
variable {A A2 : Option Addr} {na ca nb cb : Nat} {p q : Bool} {a b : List Nat} {w : World} {z y : Int}
end
end Go.Proofs.Ytgiokmfdafmaoaa

/- The document's whole numbers: compared. -/
namespace Go.Proofs.Ytgiokmfdafmaoaa
open Go.RowKit Go.Shelf
set_option linter.unusedVariables false
set_option linter.unusedSimpArgs false

section
variable {A A2 : Option Addr} {na ca nb cb : Nat} {p q : Bool} {a b : List Nat} {w : World} {z y : Int}
end
end Go.Proofs.Ytgiokmfdafmaoaa

/- The document's whole numbers: what answers with ints. -/
namespace Go.Proofs.Ytgiokmfdafmaoaa
open Go.RowKit Go.Shelf
set_option linter.unusedVariables false
set_option linter.unusedSimpArgs false

end Go.Proofs.Ytgiokmfdafmaoaa

/- The document's whole numbers: the difference. -/
namespace Go.Proofs.Ytgiokmfdafmaoaa
open Go.RowKit Go.Shelf
set_option linter.unusedVariables false
set_option linter.unusedSimpArgs false

section
variable {A A2 : Option Addr} {na ca nb cb : Nat} {p q : Bool} {a b : List Nat} {w : World} {z y : Int}
end
end Go.Proofs.Ytgiokmfdafmaoaa

/- The document's whole numbers: the same. -/
namespace Go.Proofs.Ytgiokmfdafmaoaa
open Go.RowKit Go.Shelf
set_option linter.unusedVariables false
set_option linter.unusedSimpArgs false

set_option maxRecDepth 100000 in
set_option maxHeartbeats 2000000 in
theorem rSameZ_any : SameZIs 17 := by
  intro A A2 na ca nb cb p q a b w h
  have T0 := two_box w p A na ca q A2 nb cb
  have HT := Lib.hid (same_any A A2 na ca nb cb a b _ (h.ra.below T0.b) (h.rb.below T0.b) (by have := h.la; omega) (by have := h.lb; omega))
  have HT0 := Lib.hid T0
  by_cases hpq : p = q
  · subst hpq
    rw [show decide (p = p ∧ a = b) = decide (a = b) by simp]
    clear h T0
    generalize decide (a = b) = d at HT ⊢
    unfold zv
    go_enter Try.func17, Try.ntmps17
    go_wp2_with fail
    refine HT.out.mono ?_
    rintro e w1 ⟨rfl, hb1⟩
    have B1 := below_then HT0.out.b hb1
    clear hb1
    go_wp2
    go_ret
    exact ⟨rfl, B1⟩
  · have hpf : (p = q) = False := by simpa using hpq
    rw [show decide (p = q ∧ a = b) = false by simp [hpq]]
    clear h T0 HT hpq
    unfold zv
    go_enter Try.func17, Try.ntmps17
    go_wp2
    go_ret
    exact ⟨by simp [hpf], HT0.out.b⟩
end Go.Proofs.Ytgiokmfdafmaoaa
