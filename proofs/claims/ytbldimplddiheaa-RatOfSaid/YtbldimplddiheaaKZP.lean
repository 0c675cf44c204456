import Derived.Test.YtbldimplddiheaaKZB
import Derived.Test.YtbldimplddiheaaKDCode
/- ZP. -/
/- whole: its operations. -/
namespace Go.Proofs.Ytbldimplddiheaa
open Go.RowKit Go.Shelf
set_option linter.unusedVariables false
set_option linter.unusedSimpArgs false

theorem mayZ_sgn {p : Bool} {a : List Nat} (h : mayZ p a = true) : p = decide (zof p a < 0) := (zof_neg h).symm
section
variable {A A2 : Option Addr} {na ca nb cb v u : Nat} {p q : Bool} {a b : List Nat} {w : World} {z y : Int}
theorem opp_z (h : ZNm w A na ca z) (hp : p = decide (z < 0)) : (if na = 0 then zv false none 0 0 else zv (!p) A na ca) = (if z = 0 then zV 0 none 0 0 else zV (-z) A na ca) := by
  have h0 := h.zero
  by_cases hz : z = 0
  · rw [if_pos hz, if_pos (h0.2 (by omega))]
    rfl
  · rw [if_neg hz, if_neg (fun e => hz (by have := h0.1 e; omega)), hp]
    unfold zV
    rw [zneg_d]
    simp [hz]
theorem opp_nm (h : ZNm w A na ca z) : ∃ A3 k c, (if z = 0 then zV 0 none 0 0 else zV (-z) A na ca) = zV (-z) A3 k c ∧ ZNm w A3 k c (-z) ∧ k ≤ na := by
  by_cases hz : z = 0
  · subst hz
    exact ⟨none, 0, 0, rfl, zero_znm w, Nat.zero_le _⟩
  · rw [if_neg hz]
    refine ⟨A, na, ca, rfl, ?_, Nat.le_refl _⟩
    show Nm _ _ _ _ (-z).natAbs
    rw [Int.natAbs_neg]
    exact h
end
end Go.Proofs.Ytbldimplddiheaa
