import Derived.Test.YtjipdfebehcggaaGreatDoorZMulCalls
import Derived.Test.YtjipdfebehcggaaGreatDoorZLong
/- Power. -/
/- (mul.number).power and mul.Pow. -/
namespace Go.Proofs.YtjipdfebehcggaaGreatDoor
open Go.RowKit Go.Shelf
set_option linter.unusedVariables false

theorem i64_and1 (n : Int) : bits .and .i64 n 1 = n % 2 := by
  have h1 : (BitVec.ofInt 64 1).toNat = 2 ^ 1 - 1 := by decide
  have key : (BitVec.ofInt 64 n &&& BitVec.ofInt 64 1).toNat = (n % ((2 ^ 64 : Nat) : Int)).toNat % 2 ^ 1 := by
    rw [BitVec.toNat_and, BitVec.toNat_ofInt, h1, Nat.and_two_pow_sub_one_eq_mod]
  show IntKind.i64.wrap ((BitVec.ofInt 64 n &&& BitVec.ofInt 64 1).toNat : Nat) = n % 2
  rw [key, IntKind.wrap_i64]
  omega
theorem i64_bit (n j : Nat) : bits .and .i64 ((n : Int) / 2 ^ j) 1 = ((n / 2 ^ j % 2 : Nat) : Int) := by
  rw [i64_and1]
  have e3 : ((n : Nat) : Int) / 2 ^ j = ((n / 2 ^ j : Nat) : Int) := by simp
  rw [e3]; omega
theorem half_step (n j : Nat) : n / 2 ^ j = 2 * (n / 2 ^ (j + 1)) + n / 2 ^ j % 2 := by
  rw [Nat.pow_succ, ← Nat.div_div_eq_div_mul]; omega
theorem pow_sq (v q : Nat) : v ^ q * v ^ q = v ^ (2 * q) := by rw [Nat.two_mul, Nat.pow_add]
theorem limbs_one : limbs 1 = [1] := by
  have h := limbs_val (l := [1]) (words_cons B64_gt words_nil) rfl
  simpa [val] using h
theorem row_new1 (w : World) : RowL (w.alloc (.cells #[u64 1] 25)) w.heap.size [1] := by
  unfold RowL
  rw [World.alloc_heap_new]
  rfl

end Go.Proofs.YtjipdfebehcggaaGreatDoor
