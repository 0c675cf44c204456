import Derived.Test.YtgiokmfdafmaoaaGreatJVHeld
/- VPrime. -/
/- Rows in lowest terms: what follows. -/
namespace Go.Proofs.YtgiokmfdafmaoaaGreat
set_option linter.unusedVariables false
set_option linter.unusedSimpArgs false

theorem prime_none {f : Nat → Int} {n i : Nat} (h : gcdTo f n = 0) (hi : i < n) : primeV f n i = f i ∧ f i = 0 := by
  have h1 := gcdTo_zero.1 h i hi
  unfold primeV
  rw [if_pos h]
  exact ⟨rfl, h1⟩
theorem prime_back {f : Nat → Int} {n i : Nat} (hi : i < n) : (gcdTo f n : Int) * primeV f n i = f i := by
  by_cases h : gcdTo f n = 0
  · rw [(prime_none h hi).1, (prime_none h hi).2, Int.mul_zero]
  · unfold primeV
    rw [if_neg h]
    exact Int.mul_tdiv_cancel' (Int.ofNat_dvd_left.2 (gcdTo_dvd hi))
theorem prime_one {f : Nat → Int} {n : Nat} (h : gcdTo f n ≠ 0) : gcdTo (primeV f n) n = 1 := gcdTo_prime rfl h fun i hi => (prime_back hi).symm
theorem prime_nought {f : Nat → Int} {n : Nat} (h : gcdTo f n = 0) : gcdTo (primeV f n) n = 0 := gcdTo_zero.2 fun i hi => by rw [(prime_none h hi).1, (prime_none h hi).2]
theorem sgn_abs (m : Int) : sgn m * (m.natAbs : Int) = m := by
  unfold sgn
  split
  · omega
  · split <;> omega
/-- A row scaled by a number that is not 0, in lowest terms. -/
theorem prime_scale {f : Nat → Int} {n i : Nat} {m : Int} (hm : m ≠ 0) (hi : i < n) : primeV (fun i => m * f i) n i = sgn m * primeV f n i := by
  have hg := gcdTo_scale m f n
  by_cases h : gcdTo f n = 0
  · have h2 : gcdTo (fun i => m * f i) n = 0 := by rw [hg, h, Nat.mul_zero]
    rw [(prime_none h2 hi).1, (prime_none h hi).1, (prime_none h hi).2, Int.mul_zero, Int.mul_zero]
  · have h2 : gcdTo (fun i => m * f i) n ≠ 0 := by rw [hg]; exact Nat.mul_ne_zero (by omega) h
    have h3 := prime_back (f := fun i => m * f i) hi
    have h4 := prime_back (f := f) hi
    have h5 : ((gcdTo (fun i => m * f i) n : Nat) : Int) * primeV (fun i => m * f i) n i = ((gcdTo (fun i => m * f i) n : Nat) : Int) * (sgn m * primeV f n i) := by
      rw [h3, hg, Int.natCast_mul]
      have h6 : (m.natAbs : Int) * (gcdTo f n : Int) * (sgn m * primeV f n i) = (sgn m * (m.natAbs : Int)) * ((gcdTo f n : Int) * primeV f n i) := by
        simp only [Int.mul_assoc, Int.mul_comm, Int.mul_left_comm]
      rw [h6, sgn_abs, h4]
    exact Int.eq_of_mul_eq_mul_left (by omega) h5
theorem scale_zero {f : Nat → Int} {n i : Nat} (hi : i < n) : primeV (fun i => 0 * f i) n i = 0 := by
  have h : gcdTo (fun i => 0 * f i) n = 0 := gcdTo_zero.2 fun i _ => Int.zero_mul _
  rw [(prime_none h hi).1]
  exact Int.zero_mul _
/-- Which is ahead is kept by a third row, and turned the other way round. -/
theorem cmp_both (f g h : Nat → Int) (n : Nat) : firstTo (fun i => sgn ((f i + h i) - (g i + h i))) n = firstTo (fun i => sgn (f i - g i)) n :=
  firstTo_congr fun i _ => by rw [show (f i + h i) - (g i + h i) = f i - g i by omega]
theorem cmp_turn (f g : Nat → Int) (n : Nat) : firstTo (fun i => sgn (g i - f i)) n = -(firstTo (fun i => sgn (f i - g i)) n) := by
  rw [← firstTo_neg]
  exact firstTo_congr fun i _ => by rw [← sgn_neg, show -(f i - g i) = g i - f i by omega]
theorem cmp_same {f g : Nat → Int} {n : Nat} : firstTo (fun i => sgn (f i - g i)) n = 0 ↔ ∀ i, i < n → f i = g i := by
  rw [firstTo_zero]
  constructor
  · intro h i hi
    have := sgn_zero.1 (h i hi)
    omega
  · intro h i hi
    exact sgn_zero.2 (by rw [h i hi]; omega)
end Go.Proofs.YtgiokmfdafmaoaaGreat
