import Derived.Test.YtgiokmfdafmaoaaKLong
import Derived.Test.YtgiokmfdafmaoaaKSame
import Derived.Test.YtgiokmfdafmaoaaKAdd
/- RefMay. -/
/- The document's own answers that later layers stand on: whether a number may be, its bits, how long it is. -/
namespace Go.Proofs.Ytgiokmfdafmaoaa
open Go.RowKit Go.Shelf
set_option linter.unusedVariables false
set_option linter.unusedSimpArgs false

theorem ret_int {k : IntKind} {x y : Int} (h : x = y) : Ending.returned (.int k x) = .returned (.int k y) := by rw [h]
theorem ret_bool {x y : Bool} (h : x = y) : Ending.returned (.bool x) = .returned (.bool y) := by rw [h]
theorem nbit_two (x k : Nat) : nbit x k = 0 ∨ nbit x k = 1 := by
  have : nbit x k < 2 := Nat.mod_lt _ (by omega)
  omega
theorem div_bit (v k : Nat) : v / 2 ^ k = 2 * (v / 2 ^ (k + 1)) + nbit v k := by
  unfold nbit
  rw [Nat.pow_succ, ← Nat.div_div_eq_div_mul]
  omega
theorem val_lt_bits {a : List Nat} (hw : Words a) {M : Nat} (h : a.length ≤ M) : val a < 2 ^ (64 * M) := by
  rw [← B64_pow]; exact Nat.lt_of_lt_of_le (val_lt hw) (Nat.pow_le_pow_right B64_pos h)
theorem blen_top {v k : Nat} (h : v / 2 ^ (k + 1) = 0) (hb : nbit v k = 1) : blen v = k + 1 := by
  have e := div_bit v k
  rw [h, hb] at e
  apply blen_eq
  · have := Nat.div_mul_le_self v (2 ^ k)
    rw [e] at this
    omega
  · rwa [Nat.div_eq_zero_iff_lt (Nat.two_pow_pos _)] at h

section
variable (A A2 : Option Addr) (na ca nb cb : Nat) (a b : List Nat) (w : World)

theorem bad_may (h : may a = true) : bad [a] = 0 := bad_zero (by simp [h])

theorem bad_may' (h : may a = false) : bad [a] = 8 := bad_eight (by simp [h])

theorem bit_int (x r : Nat) (hx : x < B64) : wrap64 (Go.bits BinOp.and IntKind.u64 ((x : Int) / 2 ^ r) 1) = ((x / 2 ^ r % 2 : Nat) : Int) := by
  have e3 : ((x : Nat) : Int) / 2 ^ r = ((x / 2 ^ r : Nat) : Int) := by simp
  have h1 : x / 2 ^ r ≤ x := Nat.div_le_self _ _
  rw [e3]
  generalize x / 2 ^ r = z at *
  rw [and_one_u64 _ (by omega) (by rw [B64_eq] at hx; omega)]
  have e5 : wrap64 ((z : Int) % 2) = (z : Int) % 2 := IntWalk.wrap64_in _ ⟨by omega, by omega⟩
  rw [e5]; omega

end
end Go.Proofs.Ytgiokmfdafmaoaa
