import Derived.Test.YtjpphhfhkdkfhaaUp
import Derived.Test.YtjpphhfhkdkfhaaLen
import Derived.Lib.ItoaNum
import Derived.WalkSmall
namespace Go.Proofs.Ytjpphhfhkdkfhaa
open Go.RowKit Go.Shelf
set_option linter.unusedVariables false
set_option linter.unusedSimpArgs false

/-- How many bits a number has. -/
def blen (v : Nat) : Nat := if v = 0 then 0 else Nat.log2 v + 1
theorem blen_zero : blen 0 = 0 := rfl
theorem blen_eq {v k : Nat} (h1 : 2 ^ k ≤ v) (h2 : v < 2 ^ (k + 1)) : blen v = k + 1 := by
  have h0 : v ≠ 0 := by have := Nat.two_pow_pos k; omega
  unfold blen
  rw [if_neg h0]
  have a1 := (Nat.le_log2 h0).2 h1
  have a2 := (Nat.log2_lt h0).2 h2
  omega
theorem blen_pos {v : Nat} (h : v ≠ 0) : 2 ^ (blen v - 1) ≤ v ∧ v < 2 ^ blen v ∧ 1 ≤ blen v := by
  unfold blen
  rw [if_neg h]
  exact ⟨by simpa using Nat.log2_self_le h, Nat.lt_log2_self, by omega⟩
theorem blen_lt (v : Nat) : v < 2 ^ blen v := by
  by_cases h : v = 0
  · subst h; simp [blen]
  · exact (blen_pos h).2.1
theorem blen_le {v k : Nat} (h : v < 2 ^ k) : blen v ≤ k := by
  by_cases h0 : v = 0
  · subst h0; simp [blen]
  · have h1 := (blen_pos h0).1
    have h2 := (blen_pos h0).2.2
    have h3 : 2 ^ (blen v - 1) < 2 ^ k := Nat.lt_of_le_of_lt h1 h
    have := (Nat.pow_lt_pow_iff_right (a := 2) (by omega)).1 h3
    omega
theorem blen_limbs {a : List Nat} {n : Nat} (hw : Words a) (hn : a.length = n + 1) (hx : lim a n ≠ 0) : blen (val a) = 64 * n + Lib.bitLen (lim a n) := by
  have hlt : lim a n < 2 ^ 64 := hw.get n
  obtain ⟨h1, h2, h3⟩ := Lib.bitLenAux_bounds 64 (lim a n) hlt hx
  have e : val a = val (a.take n) + B64 ^ n * lim a n := by rw [← val_take_succ, val_take_all (by omega)]
  have h4 : val (a.take n) < B64 ^ n := Nat.lt_of_lt_of_le (val_lt (hw.take n)) (Nat.pow_le_pow_right B64_pos (by rw [List.length_take]; omega))
  have hB : B64 ^ n = 2 ^ (64 * n) := by rw [Nat.pow_mul]; rfl
  show _ = 64 * n + Lib.bitLenAux 64 (lim a n)
  generalize Lib.bitLenAux 64 (lim a n) = L at *
  obtain ⟨M, rfl⟩ : ∃ M, L = M + 1 := ⟨L - 1, by omega⟩
  simp only [Nat.add_sub_cancel] at h2
  rw [← Nat.add_assoc]
  apply blen_eq
  · rw [e, hB, Nat.pow_add]
    exact Nat.le_trans (Nat.mul_le_mul_left _ h2) (Nat.le_add_left _ _)
  · rw [e, hB, Nat.add_assoc, Nat.pow_add]
    rw [hB] at h4
    have h5 : 2 ^ (64 * n) * (lim a n + 1) ≤ 2 ^ (64 * n) * 2 ^ (M + 1) := Nat.mul_le_mul_left _ h3
    rw [Nat.mul_add] at h5
    omega

/-- The bit i. -/
def nbit (v i : Nat) : Nat := v / 2 ^ i % 2
theorem nbit_limb {a : List Nat} (hw : Words a) (i : Nat) : lim a (i / 64) / 2 ^ (i % 64) % 2 = nbit (val a) i := by
  unfold nbit
  have hi : i = 64 * (i / 64) + i % 64 := by omega
  have hr : i % 64 < 64 := by omega
  generalize i / 64 = q at *
  generalize i % 64 = r at *
  subst hi
  rw [lim_val hw, Nat.pow_add, Nat.pow_mul, ← Nat.div_div_eq_div_mul]
  show val a / B64 ^ q % B64 / 2 ^ r % 2 = val a / B64 ^ q / 2 ^ r % 2
  generalize val a / B64 ^ q = v
  have e : B64 = 2 ^ r * 2 ^ (64 - r) := by rw [Nat.mul_comm]; exact B64_split (by omega)
  rw [e, Nat.mod_mul_right_div_self]
  have e2 : (2 : Nat) ^ (64 - r) = 2 * 2 ^ (63 - r) := by rw [show 64 - r = 63 - r + 1 by omega, Nat.pow_succ, Nat.mul_comm]
  rw [e2, Nat.mod_mul_right_mod]

set_option maxHeartbeats 1000000 in
/-- nat.Long. -/
theorem long_ok (A : Option Addr) (na ca : Nat) (a : List Nat) (w : World) (hra : Rd w A na a) (hna : na ≤ 4294967296) (hm : may a = true) :
    Calls Try.prog 10 #[.slice A na ca] w fun e w' => e = .returned (.tuple #[.int .i64 (blen (val a) : Nat), .int .i64 0]) ∧ Below w.heap.size w w' := by
  have hr := rows2_one (ca := ca) hra (by omega) 27
  have HR := Lib.hid hr
  have HM := Lib.hid hm
  clear hr hm
  by_cases h0 : na = 0
  · subst h0
    have hv : blen (val a) = 0 := by rw [List.eq_nil_of_length_eq_zero hra.len]; rfl
    have HV := Lib.hid hv
    clear hv hra
    go_enter Try.func10, Try.ntmps10
    go_wp2_with (go_at_call 32; refine (mayBe_any w.heap.size 0 1 1 [a] _ HR.out rfl (by omega)).mono ?_; rw [show bad [a] = 0 by unfold bad; rw [if_pos (by simp [HM.out])]]; rintro e w' ⟨rfl, rfl⟩)
    go_ret2
    exact ⟨by rw [HV.out]; rfl, (Below.refl _ _).alloc (Nat.le_refl _) _⟩
  · obtain ⟨n, rfl⟩ : ∃ n, na = n + 1 := ⟨na - 1, by omega⟩
    obtain ⟨b, off, rfl, hb, hc⟩ := hra.cells (by omega)
    have hx : lim a n ≠ 0 := by
      have h1 := may_last (l := a) (fun e => by have := hra.len; rw [e] at this; simp at this)
      rw [HM.out, hra.len, Nat.add_sub_cancel] at h1
      simpa using h1.symm
    have hv := blen_limbs hra.words hra.len hx
    have hci := hc n (by omega)
    have hxl := hra.words.get n
    have hxB : ((lim a n : Nat) : Int) ≤ 18446744073709551615 := by rw [B64_eq] at hxl; omega
    have hL : Lib.bitLen (lim a n) ≤ 64 := Lib.bitLen_le _ 64 (Nat.le_refl _) hxl
    have hne : (((n : Nat) : Int) + 1 == 0) = false := by simp; omega
    have HV := Lib.hid hv
    clear hv hra hc hx hxl
    go_enter Try.func10, Try.ntmps10
    go_wp2_with (first
      | (go_at_call 32; refine (mayBe_any w.heap.size 0 1 1 [a] _ HR.out rfl (by omega)).mono ?_; rw [show bad [a] = 0 by unfold bad; rw [if_pos (by simp [HM.out])]]; rintro e w' ⟨rfl, rfl⟩)
      | (go_at_call 33; refine (len64_any _ _ (by omega) hxB).mono ?_; rw [Int.toNat_natCast]; rintro e w' ⟨rfl, rfl⟩))
    go_ret2
    refine ⟨?_, (Below.refl _ _).alloc (Nat.le_refl _) _⟩
    rw [HV.out]
    simp
    omega
theorem blen_shift {v b : Nat} (h : v ≠ 0) : blen (v * 2 ^ b) = blen v + b := by
  obtain ⟨h1, h2, h3⟩ := blen_pos h
  obtain ⟨k, hk⟩ : ∃ k, blen v = k + 1 := ⟨blen v - 1, by omega⟩
  rw [hk] at h1 h2 ⊢
  rw [show k + 1 + b = (k + b) + 1 by omega]
  apply blen_eq
  · rw [Nat.pow_add]; exact Nat.mul_le_mul_right _ (by simpa using h1)
  · rw [show k + b + 1 = (k + 1) + b by omega, Nat.pow_add]; exact Nat.mul_lt_mul_of_pos_right h2 (Nat.two_pow_pos b)
set_option maxHeartbeats 1000000 in
theorem long_bad (A : Option Addr) (na ca : Nat) (a : List Nat)  (w : World) (hra : Rd w A na a) (hna : na ≤ 4294967296) (hm : may a = false) :
    Calls Try.prog 10 #[.slice A na ca] w fun e w' => e = .returned (.tuple #[.int .i64 0, .int .i64 8]) ∧ Below w.heap.size w w' := by
  have hr := rows2_one (ca := ca) hra (by omega) 27
  have HR := Lib.hid hr
  have HM := Lib.hid hm
  clear hr hm hra
  go_enter Try.func10, Try.ntmps10
  go_wp2_with (go_at_call 32; refine (mayBe_any w.heap.size 0 1 1 [a] _ HR.out rfl (by omega)).mono ?_; rw [show bad [a] = 8 by unfold bad; rw [if_neg (by simp [HM.out])]]; rintro e w' ⟨rfl, rfl⟩)
  go_ret2
  exact ⟨rfl, (Below.refl _ _).alloc (Nat.le_refl _) _⟩
end Go.Proofs.Ytjpphhfhkdkfhaa
