import Derived.Test.YtoehkaagfokamaaZMAlive
import Derived.Test.YtoehkaagfokamaaZCopy
/- MSpec. -/
/- The calls of mul and nat by numbers, for laws. -/
namespace Go.Proofs.Ytoehkaagfokamaa
open Go.RowKit Go.Shelf
set_option linter.unusedVariables false

section
variable (A A2 : Option Addr) (na ca nb cb v u : Nat) (w : World)
theorem add_nm (hva : Nm w A na ca v) (hub : Nm w A2 nb cb u) (hna : na ≤ 100000) (hnb : nb ≤ 100000) :
    Calls Try.prog 87 #[.slice A na ca, .slice A2 nb cb] w fun e w' => ∃ A' k c, e = .returned (.tuple #[.slice A' k c, .int .i64 0]) ∧ Own w' w.heap.size (.slice A' k c) (limbs (v + u)) ∧ Below w.heap.size w w' := by
  have h := add_ok A A2 na ca nb cb (limbs v) (limbs u) w hva.rd hub.rd (by omega) (by omega) (by simp [may_limbs])
  rwa [val_limbs, val_limbs] at h
theorem same_eq (hva : Nm w A na ca v) (hub : Nm w A2 nb cb u) (hna : na ≤ 100000) (hnb : nb ≤ 100000) (h : v = u) :
    Calls Try.prog 8 #[.slice A na ca, .slice A2 nb cb] w fun e w' => e = .returned (.bool true) ∧ Below w.heap.size w w' := by
  subst h
  have h := same_any A A2 na ca nb cb (limbs v) (limbs v) w hva.rd hub.rd (by omega) (by omega)
  rwa [decide_eq_true rfl] at h
theorem up_nm (b : Nat) (hva : Nm w A na ca v) (hna : na ≤ 100000) (hb : b ≤ 65536) :
    Calls Try.prog 79 #[.slice A na ca, .int .i64 (b : Int)] w fun e w' => ∃ A' k c, e = .returned (.tuple #[.slice A' k c, .int .i64 0]) ∧ Own w' w.heap.size (.slice A' k c) (limbs (v * 2 ^ b)) ∧ Below w.heap.size w w' := by
  have h := up_ok A na ca (limbs v) b _ _ w hva.rd (by omega) (may_limbs v) hb rfl rfl
  rwa [val_limbs] at h
variable {A A2 : Option Addr} {na ca nb cb v u : Nat} {w w2 : World}
theorem mul_len (hva : Nm w A na ca v) (hub : Nm w2 A2 nb cb u) : (limbs (v * u)).length ≤ na + nb := by
  apply limbs_length_le
  rw [Nat.pow_add]
  exact Nat.lt_of_le_of_lt (Nat.mul_le_mul_left _ (Nat.le_of_lt hub.lt)) (Nat.mul_lt_mul_of_pos_right hva.lt (Nat.pow_pos B64_pos))
theorem add_len (hva : Nm w A na ca v) (hub : Nm w2 A2 nb cb u) {n : Nat} (h1 : na ≤ n) (h2 : nb ≤ n) : (limbs (v + u)).length ≤ n + 1 := by
  have h := length_le_of_val (words_limbs v) (words_limbs u) (n := n) (by rw [hva.rd.len]; exact h1) (by rw [hub.rd.len]; exact h2)
  rwa [val_limbs, val_limbs] at h
theorem pow_len (hva : Nm w A na ca v) {n N : Nat} (h : na * n ≤ N) : (limbs (v ^ n)).length ≤ N + 1 := by
  apply limbs_length_le
  have h1 := Nat.pow_le_pow_left (Nat.le_of_lt hva.lt) n
  rw [← Nat.pow_mul] at h1
  exact Nat.lt_of_le_of_lt h1 (Nat.pow_lt_pow_right B64_gt (by omega))
theorem up_len (hva : Nm w A na ca v) {b : Nat} (hb : b ≤ 2000) : (limbs (v * 2 ^ b)).length ≤ na + 32 := by
  have h := length_shift (words_limbs v) (n := na) (b := b) (by rw [hva.rd.len]; exact Nat.le_refl _) hb
  rwa [val_limbs] at h
theorem nm_blen (hva : Nm w A na ca v) {n : Nat} (h : na ≤ n) : blen v ≤ 64 * n := by
  apply blen_le
  rw [← B64_pow]
  exact Nat.lt_of_lt_of_le hva.lt (Nat.pow_le_pow_right B64_pos h)
end
section
variable (A A2 : Option Addr) (na ca nb cb : Nat) (a b : List Nat) (w : World)
/-- mul's Mul, whatever the numbers are. -/
def mulL (a b : List Nat) : List Nat := if both a b = true then limbs (val a * val b) else []
theorem mul_spec (hra : Rd w A na a) (hrb : Rd w A2 nb b) (hna : na ≤ 100000) (hnb : nb ≤ 100000) (h1 : na ≤ ca ∧ ca ≤ 9223372036854775807) (h2 : nb ≤ cb ∧ cb ≤ 9223372036854775807) :
    Calls Try.prog 14 #[.slice A na ca, .slice A2 nb cb] w (Answers w (mulL a b) (err2 a b)) := by
  cases h : both a b with
  | true =>
    have e1 : mulL a b = limbs (val a * val b) := by simp [mulL, h]
    have e2 : err2 a b = 0 := by simp [err2, h]
    rw [e1, e2]
    have hm : may a = true ∧ may b = true := by simpa [both] using h
    exact mul_nm A A2 na ca nb cb (val a) (val b) w (nm_of hra hm.1 h1.1 h1.2) (nm_of hrb hm.2 h2.1 h2.2) hna hnb
  | false =>
    have e1 : mulL a b = [] := by simp [mulL, h]
    have e2 : err2 a b = 8 := by simp [err2, h]
    rw [e1, e2]
    refine (Mul_bad A A2 na ca nb cb a b w hra hrb (by omega) (by omega) (by rw [both_all]; exact h)).mono ?_
    rintro e w' ⟨rfl, hb⟩
    exact answers_nil hb
end
end Go.Proofs.Ytoehkaagfokamaa
