import Derived.Test.YtgiokmfdafmaoaaGreatJRefGcd3
import Derived.Test.YtgiokmfdafmaoaaGreatJMSpec
/- GSpec. -/
/- What Gcd and Lcm are; the law GcdTells. -/
namespace Go.Proofs.YtgiokmfdafmaoaaGreat
open Go.RowKit Go.Shelf
set_option linter.unusedVariables false
set_option linter.unusedSimpArgs false

def GcdIs (F : Nat) : Prop := ∀ (A A2 : Option Addr) (na ca nb cb : Nat) (a b : List Nat) (w : World), Rd w A na a → Rd w A2 nb b → na ≤ 400 → nb ≤ 400 → (na ≤ ca ∧ ca ≤ 9223372036854775807) → (nb ≤ cb ∧ cb ≤ 9223372036854775807) →
  Calls Tryz.prog F #[.slice A na ca, .slice A2 nb cb] w (Answers w (gcdL a b) (err2 a b))
def LcmIs (F : Nat) : Prop := ∀ (A A2 : Option Addr) (na ca nb cb : Nat) (a b : List Nat) (w : World), Rd w A na a → Rd w A2 nb b → na ≤ 400 → nb ≤ 400 → (na ≤ ca ∧ ca ≤ 9223372036854775807) → (nb ≤ cb ∧ cb ≤ 9223372036854775807) →
  Calls Tryz.prog F #[.slice A na ca, .slice A2 nb cb] w (Answers w (lcmL a b) (err2 a b))
section
variable {F : Nat} {A A2 : Option Addr} {na ca nb cb v u : Nat} {w : World}
theorem both_nm (v u : Nat) : both (limbs v) (limbs u) = true := by simp [both, may_limbs]
theorem gcd_nm (hG : GcdIs F) (hva : Nm w A na ca v) (hub : Nm w A2 nb cb u) (hna : na ≤ 400) (hnb : nb ≤ 400) :
    Calls Tryz.prog F #[.slice A na ca, .slice A2 nb cb] w fun e w' => ∃ A' k c, e = .returned (.tuple #[.slice A' k c, .int .i64 0]) ∧ Own w' w.heap.size (.slice A' k c) (limbs (Nat.gcd v u)) ∧ Below w.heap.size w w' := by
  have h := hG A A2 na ca nb cb (limbs v) (limbs u) w hva.rd hub.rd hna hnb ⟨hva.nc, hva.cm⟩ ⟨hub.nc, hub.cm⟩
  rw [show gcdL (limbs v) (limbs u) = limbs (Nat.gcd v u) by simp [gcdL, both_nm, val_limbs], show err2 (limbs v) (limbs u) = 0 by simp [err2, both_nm]] at h
  exact h
theorem lcm_nm (hM : LcmIs F) (hva : Nm w A na ca v) (hub : Nm w A2 nb cb u) (hna : na ≤ 400) (hnb : nb ≤ 400) :
    Calls Tryz.prog F #[.slice A na ca, .slice A2 nb cb] w fun e w' => ∃ A' k c, e = .returned (.tuple #[.slice A' k c, .int .i64 0]) ∧ Own w' w.heap.size (.slice A' k c) (limbs (Nat.lcm v u)) ∧ Below w.heap.size w w' := by
  have h := hM A A2 na ca nb cb (limbs v) (limbs u) w hva.rd hub.rd hna hnb ⟨hva.nc, hva.cm⟩ ⟨hub.nc, hub.cm⟩
  rw [show lcmL (limbs v) (limbs u) = limbs (Nat.lcm v u) by simp [lcmL, both_nm, val_limbs], show err2 (limbs v) (limbs u) = 0 by simp [err2, both_nm]] at h
  exact h
theorem gcd_no {a b : List Nat} (hG : GcdIs F) (hra : Rd w A na a) (hrb : Rd w A2 nb b) (hna : na ≤ 400) (hnb : nb ≤ 400) (q1 : na ≤ ca ∧ ca ≤ 9223372036854775807) (q2 : nb ≤ cb ∧ cb ≤ 9223372036854775807) (hm : both a b = false) :
    Calls Tryz.prog F #[.slice A na ca, .slice A2 nb cb] w fun e w' => ∃ A' c, e = .returned (.tuple #[.slice A' 0 c, .int .i64 8]) ∧ Below w.heap.size w w' := by
  have h := hG A A2 na ca nb cb a b w hra hrb hna hnb q1 q2
  rw [show gcdL a b = [] by simp [gcdL, hm], show err2 a b = 8 by simp [err2, hm]] at h
  refine h.mono ?_
  rintro e w' ⟨A3, k3, c3, rfl, o3, hb⟩
  obtain rfl : k3 = 0 := o3.rd.2.1
  exact ⟨_, _, rfl, hb⟩
theorem lcm_no {a b : List Nat} (hM : LcmIs F) (hra : Rd w A na a) (hrb : Rd w A2 nb b) (hna : na ≤ 400) (hnb : nb ≤ 400) (q1 : na ≤ ca ∧ ca ≤ 9223372036854775807) (q2 : nb ≤ cb ∧ cb ≤ 9223372036854775807) (hm : both a b = false) :
    Calls Tryz.prog F #[.slice A na ca, .slice A2 nb cb] w fun e w' => ∃ A' c, e = .returned (.tuple #[.slice A' 0 c, .int .i64 8]) ∧ Below w.heap.size w w' := by
  have h := hM A A2 na ca nb cb a b w hra hrb hna hnb q1 q2
  rw [show lcmL a b = [] by simp [lcmL, hm], show err2 a b = 8 by simp [err2, hm]] at h
  refine h.mono ?_
  rintro e w' ⟨A3, k3, c3, rfl, o3, hb⟩
  obtain rfl : k3 = 0 := o3.rd.2.1
  exact ⟨_, _, rfl, hb⟩
theorem gcd_len {w2 : World} (hva : Nm w A na ca v) (hub : Nm w2 A2 nb cb u) : (limbs (Nat.gcd v u)).length ≤ na + nb := by
  by_cases h : v = 0
  · subst h
    rw [Nat.gcd_zero_left, hub.rd.len]; omega
  · have := length_of_le (words_limbs v) (n := Nat.gcd v u) (by rw [val_limbs]; exact Nat.gcd_le_left u (Nat.pos_of_ne_zero h))
    rw [hva.rd.len] at this
    omega
theorem lcm_len {w2 : World} (hva : Nm w A na ca v) (hub : Nm w2 A2 nb cb u) : (limbs (Nat.lcm v u)).length ≤ na + nb := by
  have h : Nat.lcm v u ≤ v * u := Nat.div_le_self _ _
  have h2 := length_of_le (words_limbs (v * u)) (n := Nat.lcm v u) (by rw [val_limbs]; exact h)
  have h3 := mul_len hva hub
  omega
end

end Go.Proofs.YtgiokmfdafmaoaaGreat
