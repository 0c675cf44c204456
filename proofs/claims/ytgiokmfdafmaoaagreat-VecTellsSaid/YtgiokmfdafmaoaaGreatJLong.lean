import Derived.Shelf.Strconv.Itoa0
import Derived.Test.YtgiokmfdafmaoaaGreatProg
import Derived.Test.YtgiokmfdafmaoaaGreatJUp
import Derived.Lib.ItoaNum
import Derived.WalkSmall
/- Len Long. -/
/- bits.Len64's contract, laid at this program. -/
namespace Go.Proofs
open Go.Shelf
def Tryz.lays129_ren : Go.Shelf.Ren := ⟨fun | 129 => 138 | n => n, fun | 53 => 36 | 3 => 3 | 4 => 4 | 46 => 156 | 5 => 5 | 9 => 9 | n => n, fun | n => n⟩
theorem Tryz.lays129 : Go.Proofs.Lays.n129 Tryz.prog Tryz.lays129_ren := {
  mixed := by kernel_rfl
  f129 := Tryz.func138.trans (congrArg some (by kernel_rfl))
  t3 := Tryz.underlying3
  a3 := Tryz.isAgg3
  z3 := Tryz.sizeOf3
  v3 := Tryz.zeroValue3
  t4 := Tryz.underlying4
  a4 := Tryz.isAgg4
  z4 := Tryz.sizeOf4
  v4 := Tryz.zeroValue4
  t5 := Tryz.underlying5
  a5 := Tryz.isAgg5
  z5 := Tryz.sizeOf5
  v5 := Tryz.zeroValue5
  t9 := Tryz.underlying9
  a9 := Tryz.isAgg9
  z9 := Tryz.sizeOf9
  v9 := Tryz.zeroValue9
  t46 := Tryz.underlying156
  a46 := Tryz.isAgg156
  z46 := Tryz.sizeOf156
  v46 := Tryz.zeroValue156
  t53 := Tryz.underlying36
  a53 := Tryz.isAgg36
  z53 := Tryz.sizeOf36
  v53 := Tryz.zeroValue36 }
end Go.Proofs
namespace Go.Proofs.YtgiokmfdafmaoaaGreat
open Go.Shelf
theorem len64_any (x : Int) (w : World) (h0 : 0 ≤ x) (h1 : x ≤ 18446744073709551615) :
    Calls Tryz.prog 138 #[.int .u64 x] w fun e w' => e = .returned (.int .i64 (Lib.bitLen x.toNat)) ∧ w' = w := Any.bits_Len64 Tryz.lays129 x w h0 h1
end Go.Proofs.YtgiokmfdafmaoaaGreat

namespace Go.Proofs.YtgiokmfdafmaoaaGreat
open Go.RowKit Go.Shelf
set_option linter.unusedVariables false
set_option linter.unusedSimpArgs false

/-- How many bits a number has. -/
def blen (v : Nat) : Nat := if v = 0 then 0 else Nat.log2 v + 1
theorem blen_zero : blen 0 = 0 := rfl
theorem blen_eq {v k : Nat} (h1 : 2 ^ k ≤ v) (h2 : v < 2 ^ (k + 1)) : blen v = k + 1 := by
  have h0 : v ≠ 0 := by have := Nat.two_pow_pos k; omega
  unfold blen
  rw [if_neg h0]
  have a1 := (Nat.le_log2 h0).2 h1
  have a2 := (Nat.log2_lt h0).2 h2
  omega
theorem blen_pos {v : Nat} (h : v ≠ 0) : 2 ^ (blen v - 1) ≤ v ∧ v < 2 ^ blen v ∧ 1 ≤ blen v := by
  unfold blen
  rw [if_neg h]
  exact ⟨by simpa using Nat.log2_self_le h, Nat.lt_log2_self, by omega⟩
theorem blen_lt (v : Nat) : v < 2 ^ blen v := by
  by_cases h : v = 0
  · subst h; simp [blen]
  · exact (blen_pos h).2.1
theorem blen_le {v k : Nat} (h : v < 2 ^ k) : blen v ≤ k := by
  by_cases h0 : v = 0
  · subst h0; simp [blen]
  · have h1 := (blen_pos h0).1
    have h2 := (blen_pos h0).2.2
    have h3 : 2 ^ (blen v - 1) < 2 ^ k := Nat.lt_of_le_of_lt h1 h
    have := (Nat.pow_lt_pow_iff_right (a := 2) (by omega)).1 h3
    omega
theorem blen_limbs {a : List Nat} {n : Nat} (hw : Words a) (hn : a.length = n + 1) (hx : lim a n ≠ 0) : blen (val a) = 64 * n + Lib.bitLen (lim a n) := by
  have hlt : lim a n < 2 ^ 64 := hw.get n
  obtain ⟨h1, h2, h3⟩ := Lib.bitLenAux_bounds 64 (lim a n) hlt hx
  have e : val a = val (a.take n) + B64 ^ n * lim a n := by rw [← val_take_succ, val_take_all (by omega)]
  have h4 : val (a.take n) < B64 ^ n := Nat.lt_of_lt_of_le (val_lt (hw.take n)) (Nat.pow_le_pow_right B64_pos (by rw [List.length_take]; omega))
  have hB : B64 ^ n = 2 ^ (64 * n) := by rw [Nat.pow_mul]; rfl
  show _ = 64 * n + Lib.bitLenAux 64 (lim a n)
  generalize Lib.bitLenAux 64 (lim a n) = L at *
  obtain ⟨M, rfl⟩ : ∃ M, L = M + 1 := ⟨L - 1, by omega⟩
  simp only [Nat.add_sub_cancel] at h2
  rw [← Nat.add_assoc]
  apply blen_eq
  · rw [e, hB, Nat.pow_add]
    exact Nat.le_trans (Nat.mul_le_mul_left _ h2) (Nat.le_add_left _ _)
  · rw [e, hB, Nat.add_assoc, Nat.pow_add]
    rw [hB] at h4
    have h5 : 2 ^ (64 * n) * (lim a n + 1) ≤ 2 ^ (64 * n) * 2 ^ (M + 1) := Nat.mul_le_mul_left _ h3
    rw [Nat.mul_add] at h5
    omega

/-- The bit i. -/
def nbit (v i : Nat) : Nat := v / 2 ^ i % 2
theorem nbit_limb {a : List Nat} (hw : Words a) (i : Nat) : lim a (i / 64) / 2 ^ (i % 64) % 2 = nbit (val a) i := by
  unfold nbit
  have hi : i = 64 * (i / 64) + i % 64 := by omega
  have hr : i % 64 < 64 := by omega
  generalize i / 64 = q at *
  generalize i % 64 = r at *
  subst hi
  rw [lim_val hw, Nat.pow_add, Nat.pow_mul, ← Nat.div_div_eq_div_mul]
  show val a / B64 ^ q % B64 / 2 ^ r % 2 = val a / B64 ^ q / 2 ^ r % 2
  generalize val a / B64 ^ q = v
  have e : B64 = 2 ^ r * 2 ^ (64 - r) := by rw [Nat.mul_comm]; exact B64_split (by omega)
  rw [e, Nat.mod_mul_right_div_self]
  have e2 : (2 : Nat) ^ (64 - r) = 2 * 2 ^ (63 - r) := by rw [show 64 - r = 63 - r + 1 by omega, Nat.pow_succ, Nat.mul_comm]
  rw [e2, Nat.mod_mul_right_mod]

theorem blen_shift {v b : Nat} (h : v ≠ 0) : blen (v * 2 ^ b) = blen v + b := by
  obtain ⟨h1, h2, h3⟩ := blen_pos h
  obtain ⟨k, hk⟩ : ∃ k, blen v = k + 1 := ⟨blen v - 1, by omega⟩
  rw [hk] at h1 h2 ⊢
  rw [show k + 1 + b = (k + b) + 1 by omega]
  apply blen_eq
  · rw [Nat.pow_add]; exact Nat.mul_le_mul_right _ (by simpa using h1)
  · rw [show k + b + 1 = (k + 1) + b by omega, Nat.pow_add]; exact Nat.mul_lt_mul_of_pos_right h2 (Nat.two_pow_pos b)
end Go.Proofs.YtgiokmfdafmaoaaGreat
