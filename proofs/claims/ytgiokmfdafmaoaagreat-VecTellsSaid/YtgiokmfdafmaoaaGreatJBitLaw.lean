import Derived.Test.YtgiokmfdafmaoaaGreatJBits
import Derived.Test.YtgiokmfdafmaoaaGreatJRefMay
/- BitLaw. -/
namespace Go.Proofs.YtgiokmfdafmaoaaGreat
open Go.RowKit Go.Shelf
set_option linter.unusedVariables false
set_option linter.unusedSimpArgs false

/-- Are the first k bits of two numbers the same? -/
def sameTo (x y k : Nat) : Bool := (List.range k).all fun j => nbit x j == nbit y j
theorem sameTo_succ (x y k : Nat) : sameTo x y (k + 1) = (sameTo x y k && nbit x k == nbit y k) := by simp [sameTo, List.range_succ]
theorem sameTo_self (x k : Nat) : sameTo x x k = true := by simp [sameTo]
theorem mod_eq_of_sameTo {x y : Nat} : ∀ {k : Nat}, sameTo x y k = true → x % 2 ^ k = y % 2 ^ k
  | 0, _ => by simp [Nat.mod_one]
  | k + 1, h => by
    rw [sameTo_succ, Bool.and_eq_true] at h
    have ih := mod_eq_of_sameTo h.1
    have hb : nbit x k = nbit y k := by simpa using h.2
    unfold nbit at hb
    rw [Nat.pow_succ, Nat.mod_mul, Nat.mod_mul, ih, hb]
theorem nbit_past {x k : Nat} (h : blen x ≤ k) : nbit x k = 0 := by
  unfold nbit
  have h1 := blen_lt x
  rw [Nat.div_eq_of_lt (Nat.lt_of_lt_of_le h1 (Nat.pow_le_pow_right (by omega) h))]
theorem nbit_top {x k : Nat} (h : k + 1 = blen x) : nbit x k = 1 := by
  have h0 : x ≠ 0 := by rintro rfl; simp [blen] at h
  obtain ⟨h1, h2, _⟩ := blen_pos h0
  rw [← h] at h1 h2
  simp only [Nat.add_sub_cancel] at h1
  unfold nbit
  have : x / 2 ^ k = 1 := by
    have a1 : x / 2 ^ k < 2 := by rw [Nat.div_lt_iff_lt_mul (Nat.two_pow_pos k), Nat.mul_comm, ← Nat.pow_succ]; exact h2
    have a2 : 1 ≤ x / 2 ^ k := by rw [Nat.le_div_iff_mul_le (Nat.two_pow_pos k)]; omega
    omega
  rw [this]
theorem eq_of_sameTo {x y k : Nat} (hx : blen x ≤ k) (hy : blen y ≤ k) (h : sameTo x y k = true) : x = y := by
  have e := mod_eq_of_sameTo h
  have h1 := Nat.lt_of_lt_of_le (blen_lt x) (Nat.pow_le_pow_right (by omega : 2 > 0) hx)
  have h2 := Nat.lt_of_lt_of_le (blen_lt y) (Nat.pow_le_pow_right (by omega : 2 > 0) hy)
  rwa [Nat.mod_eq_of_lt h1, Nat.mod_eq_of_lt h2] at e

section
variable (A A2 : Option Addr) (na ca nb cb : Nat) (a b : List Nat) (w : World)

end
end Go.Proofs.YtgiokmfdafmaoaaGreat
