import Derived.Test.YtoehkaagfokamaaZNum
import Derived.WalkKit
import Derived.Lib.Hide
import Derived.Laws.Bits64b
/- Dv. -/
/- bits.Div64: two words by one. -/
namespace Go.Proofs.Ytoehkaagfokamaa
set_option linter.unusedVariables false
set_option linter.unusedSimpArgs false
/-- One digit's guess, counted down. -/
structure Gs (u y yn1 yn0 d b q r : Nat) : Prop where
  sum : q * yn1 + r = u
  ge : (u * b + d) / y ≤ q
  le : q ≤ b + 1
  lt : r < b
theorem gs_start {u y yn1 yn0 d b : Nat} (hy : yn1 * b + yn0 = y) (hn : b ≤ 2 * yn1) (h0 : yn0 < b) (hu : u < y) (hd : d < b) (h1 : yn1 < b) : Gs u y yn1 yn0 d b (u / yn1) (u % yn1) := by
  have hb : 0 < yn1 := by omega
  have hyp : 0 < y := by omega
  refine ⟨by rw [Nat.mul_comm]; exact Nat.div_add_mod u yn1, ?_, ?_, Nat.lt_trans (Nat.mod_lt _ hb) h1⟩
  · rw [Nat.le_div_iff_mul_le hb]
    have e := Nat.div_mul_le_self (u * b + d) y
    generalize (u * b + d) / y = q at *
    -- q * yn1 * b ≤ q * y ≤ u * b + d < (u + 1) * b
    have e2 : q * yn1 * b ≤ q * y := by
      rw [← hy, Nat.mul_add, Nat.mul_assoc]; omega
    have e3 : q * yn1 * b < (u + 1) * b := by rw [Nat.add_mul]; omega
    have := Nat.lt_of_mul_lt_mul_right e3
    omega
  · have e : u / yn1 < b + 2 := by
      rw [Nat.div_lt_iff_lt_mul hb, Nat.add_mul, Nat.mul_comm b yn1]; omega
    omega
theorem gs_done {u y yn1 yn0 d b q r : Nat} (hy : yn1 * b + yn0 = y) (hyp : 0 < y) (h : Gs u y yn1 yn0 d b q r) (h2 : q * yn0 ≤ b * r + d) : q = (u * b + d) / y := by
  have e : q ≤ (u * b + d) / y := by
    rw [Nat.le_div_iff_mul_le hyp, ← hy, ← h.sum, Nat.mul_add, Nat.add_mul, Nat.mul_assoc, Nat.mul_comm r b]
    omega
  have := h.ge
  omega
theorem gs_more {u y yn1 yn0 d b q r : Nat} (hy : yn1 * b + yn0 = y) (hyp : 0 < y) (hu : u < y) (hd : d < b) (h : Gs u y yn1 yn0 d b q r) (h2 : b ≤ q ∨ b * r + d < q * yn0) : (u * b + d) / y < q := by
  rw [Nat.div_lt_iff_lt_mul hyp]
  rcases h2 with h2 | h2
  · have e1 : b * y ≤ q * y := Nat.mul_le_mul_right _ h2
    have e2 : (u + 1) * b ≤ y * b := Nat.mul_le_mul_right _ hu
    rw [Nat.add_mul, Nat.mul_comm y b] at e2
    omega
  · rw [← hy, ← h.sum, Nat.mul_add, Nat.add_mul, Nat.mul_assoc, Nat.mul_comm r b]
    omega
theorem gs_next {u y yn1 yn0 d b q r : Nat} (h : Gs u y yn1 yn0 d b q r) (h2 : (u * b + d) / y < q) (h3 : r + yn1 < b) : Gs u y yn1 yn0 d b (q - 1) (r + yn1) := by
  obtain ⟨k, rfl⟩ : ∃ k, q = k + 1 := Nat.exists_eq_succ_of_ne_zero (by rintro rfl; exact Nat.not_lt_zero _ h2)
  have e := h.sum
  rw [Nat.add_mul] at e
  have hl := h.le
  have hle := Nat.le_of_lt_succ h2
  clear h h2
  refine ⟨?_, hle, ?_, h3⟩
  · simp only [Nat.add_sub_cancel]
    omega
  · simp only [Nat.add_sub_cancel]
    omega
theorem gs_break {u y yn1 yn0 d b q r : Nat} (hy : yn1 * b + yn0 = y) (hyp : 0 < y) (h0 : yn0 < b) (h : Gs u y yn1 yn0 d b q r) (h2 : (u * b + d) / y < q) (h3 : b ≤ r + yn1) : q - 1 = (u * b + d) / y := by
  obtain ⟨k, rfl⟩ : ∃ k, q = k + 1 := Nat.exists_eq_succ_of_ne_zero (by rintro rfl; exact Nat.not_lt_zero _ h2)
  have e := h.sum
  rw [Nat.add_mul] at e
  simp only [Nat.add_sub_cancel]
  have hk : k ≤ b := by have := h.le; clear h2; omega
  have e2 : k ≤ (u * b + d) / y := by
    have e3 : k * yn0 ≤ b * (r + yn1) := Nat.mul_le_mul hk (Nat.le_trans (Nat.le_of_lt h0) h3)
    rw [Nat.le_div_iff_mul_le hyp, ← hy, ← e, Nat.mul_add, Nat.add_mul, Nat.add_mul, Nat.mul_assoc]
    rw [Nat.mul_add] at e3
    have e4 : 1 * yn1 * b = b * yn1 := by rw [Nat.one_mul, Nat.mul_comm]
    have e5 : r * b = b * r := Nat.mul_comm _ _
    omega
  exact Nat.le_antisymm e2 (Nat.le_of_lt_succ h2)
/-- Two digits, one behind the other. -/
theorem two_digits {u y d1 d0 b : Nat} (hyp : 0 < y) : ((u * b + d1) / y) * b + (((u * b + d1) % y) * b + d0) / y = ((u * b + d1) * b + d0) / y ∧ (((u * b + d1) % y) * b + d0) % y = ((u * b + d1) * b + d0) % y := by
  have e := Nat.div_add_mod (u * b + d1) y
  generalize u * b + d1 = n at *
  have e2 : n * b + d0 = (n % y * b + d0) + y * (n / y * b) := by
    conv => lhs; rw [← e, Nat.add_mul, Nat.mul_assoc]
    omega
  rw [e2, Nat.add_mul_div_left _ _ hyp, Nat.add_mul_mod_self_left]
  exact ⟨by omega, rfl⟩
/-- What is divided and what it is divided by, raised alike. -/
theorem raised {n y p : Nat} (hp : 0 < p) : (n * p) / (y * p) = n / y ∧ (n * p) % (y * p) / p = n % y :=
  ⟨Nat.mul_div_mul_right _ _ hp, by rw [Nat.mul_mod_mul_right, Nat.mul_div_cancel _ hp]⟩
end Go.Proofs.Ytoehkaagfokamaa
