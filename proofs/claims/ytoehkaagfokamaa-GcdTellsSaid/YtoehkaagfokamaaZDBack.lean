import Derived.Test.YtoehkaagfokamaaZDNames
/- DBack. -/
/- The law DivBack: the quotient, multiplied, and what is left over, lead home. -/
namespace Go.Proofs.Ytoehkaagfokamaa
open Go.RowKit Go.Shelf
set_option linter.unusedVariables false
set_option linter.unusedSimpArgs false

section
variable {F : Nat} (A A2 : Option Addr) (na ca nb cb : Nat) (a b : List Nat) (w : World)
theorem div_no (hD : DivIs F) (E : Int) (he : divE a b = E) (h0 : E ≠ 0) (hra : Rd w A na a) (hrb : Rd w A2 nb b) (hna : na ≤ 1000) (hnb : nb ≤ 1000) (q1 : na ≤ ca ∧ ca ≤ 9223372036854775807) (q2 : nb ≤ cb ∧ cb ≤ 9223372036854775807) :
    Calls Try.prog F #[.slice A na ca, .slice A2 nb cb] w fun e w' => ∃ A c A2 c2, e = .returned (.tuple #[.slice A 0 c, .slice A2 0 c2, .int .i64 E]) ∧ Below w.heap.size w w' := by
  have h := hD A A2 na ca nb cb a b w hra hrb hna hnb q1 q2
  rw [quoL_no (by rw [he]; exact h0), remL_no (by rw [he]; exact h0), he] at h
  refine h.mono ?_
  rintro e w' ⟨A3, k3, c3, A4, k4, c4, rfl, o3, o4, hb⟩
  obtain rfl : k3 = 0 := o3.rd.2.1
  obtain rfl : k4 = 0 := o4.rd.2.1
  exact ⟨_, _, _, _, rfl, hb⟩
theorem int_ne0 {n : Nat} (h : n ≠ 0) : ((n : Int) == 0) = false := by simp; omega
end
section
variable (hD : DivIs 32) (hL : DivIs 0) (A A2 : Option Addr) (na ca nb cb : Nat) (a b : List Nat) (w : World)
include hD hL

end

end Go.Proofs.Ytoehkaagfokamaa
