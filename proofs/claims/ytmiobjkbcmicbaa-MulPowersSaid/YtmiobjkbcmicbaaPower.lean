/- (mul.number).power and mul.Pow. -/
import Derived.Test.YtmiobjkbcmicbaaMulCalls
import Derived.Test.YtmiobjkbcmicbaaLong
namespace Go.Proofs.Ytmiobjkbcmicbaa
open Go.RowKit Go.Shelf
set_option linter.unusedVariables false

theorem i64_and1 (n : Int) : bits .and .i64 n 1 = n % 2 := by
  have h1 : (BitVec.ofInt 64 1).toNat = 2 ^ 1 - 1 := by decide
  have key : (BitVec.ofInt 64 n &&& BitVec.ofInt 64 1).toNat = (n % ((2 ^ 64 : Nat) : Int)).toNat % 2 ^ 1 := by
    rw [BitVec.toNat_and, BitVec.toNat_ofInt, h1, Nat.and_two_pow_sub_one_eq_mod]
  show IntKind.i64.wrap ((BitVec.ofInt 64 n &&& BitVec.ofInt 64 1).toNat : Nat) = n % 2
  rw [key, IntKind.wrap_i64]
  omega
theorem i64_bit (n j : Nat) : bits .and .i64 ((n : Int) / 2 ^ j) 1 = ((n / 2 ^ j % 2 : Nat) : Int) := by
  rw [i64_and1]
  have e3 : ((n : Nat) : Int) / 2 ^ j = ((n / 2 ^ j : Nat) : Int) := by simp
  rw [e3]; omega
theorem half_step (n j : Nat) : n / 2 ^ j = 2 * (n / 2 ^ (j + 1)) + n / 2 ^ j % 2 := by
  rw [Nat.pow_succ, ← Nat.div_div_eq_div_mul]; omega
theorem pow_sq (v q : Nat) : v ^ q * v ^ q = v ^ (2 * q) := by rw [Nat.two_mul, Nat.pow_add]
theorem limbs_one : limbs 1 = [1] := by
  have h := limbs_val (l := [1]) (words_cons B64_gt words_nil) rfl
  simpa [val] using h
theorem row_new1 (w : World) : RowL (w.alloc (.cells #[u64 1] 27)) w.heap.size [1] := by
  unfold RowL
  rw [World.alloc_heap_new]
  rfl

set_option maxHeartbeats 400000 in
/-- bits.Len. -/
theorem lenU_any (x : Nat) (hx : x ≤ 1024) (w : World) : Calls Try.prog 34 #[.int .u64 (x : Int)] w fun e w' => ∃ L : Nat, e = .returned (.int .i64 (L : Int)) ∧ L ≤ 11 ∧ x / 2 ^ L = 0 ∧ w' = w := by
  have hL : Lib.bitLen x ≤ 11 ∧ x / 2 ^ Lib.bitLen x = 0 := by
    refine ⟨Lib.bitLen_le x 11 (by omega) (by omega), ?_⟩
    by_cases h : x = 0
    · subst h; simp
    · exact Nat.div_eq_of_lt (Lib.bitLenAux_bounds 64 x (by omega) h).2.2
  go_enter Try.func34, Try.ntmps34
  go_wp2_with (go_at_call 32; refine (len64_any (x : Int) _ (by omega) (by omega)).mono ?_; rintro e w' ⟨rfl, rfl⟩)
  go_ret
  exact ⟨_, rfl, hL.1, hL.2, rfl⟩

set_option maxRecDepth 100000 in
set_option maxHeartbeats 2000000 in
/-- (mul.number).power. -/
theorem power_any (A : Option Addr) (na ca v n N : Nat) (w : World) (hva : Nm w A na ca v) (hn : n ≤ 1024) (hN : N ≤ 16777216) (hv : v < B64 ^ N) (hp : ∀ k, k ≤ n → v ^ k < B64 ^ N) :
    Calls Try.prog 20 #[.slice A na ca, .int .i64 (n : Int)] w fun e w' => ∃ A' k c, e = .returned (.slice A' k c) ∧ Own w' w.heap.size (.slice A' k c) (limbs (v ^ n)) ∧ Below w.heap.size w w' := by
  have ho : Own (w.alloc (.cells #[u64 1] 27)) w.heap.size (.slice (some ⟨w.heap.size, 0, none⟩) 1 1) (limbs 1) := by
    rw [limbs_one]
    exact (row_new1 w).own (Nat.le_refl _) (words_cons B64_gt words_nil) rfl (by simp only [maxLen]; omega)
  have HO := Lib.hid ho
  have HV := Lib.hid hv
  have HP := Lib.hid hp
  have hcv : IntKind.u64.wrap (n : Int) = (n : Int) := by rw [IntKind.wrap_u64]; omega
  clear ho hv hp
  go_enter Try.func20, Try.ntmps20
  go_wp2_with (go_at_call 34; refine (lenU_any n hn _).mono ?_; rintro e w1 ⟨L, rfl, hL, hz, rfl⟩)
  have HZ := Lib.hid hz
  clear hz
  go_loopw [5, 6] (fun s i wr => ∃ k A1 n1 c1, k ≤ L ∧ s = .slice A1 n1 c1 ∧ i = .int .i64 ((k : Int) - 1) ∧ Own wr w.heap.size (.slice A1 n1 c1) (limbs (v ^ (n / 2 ^ k))) ∧ Below w.heap.size w wr) (fun _ i _ => (intOf i + 1).toNat)
  case atStart => exact ⟨L, _, _, _, Nat.le_refl _, rfl, rfl, by rw [HZ.out, Nat.pow_zero]; exact HO.out, (Below.refl _ _).alloc (Nat.le_refl _) _⟩
  case round =>
    obtain ⟨k, A1, n1, c1, hk, rfl, rfl, ho, hB⟩ := hrel
    obtain rfl | ⟨j, rfl⟩ : k = 0 ∨ ∃ j, k = j + 1 := by
      cases k with
      | zero => exact .inl rfl
      | succ j => exact .inr ⟨j, rfl⟩
    · rw [Nat.pow_zero, Nat.div_one] at ho
      have HO2 := Lib.hid ho
      clear ho
      go_wp2
      go_ret
      exact ⟨_, _, _, rfl, HO2.out, hB⟩
    · rw [show (((j + 1 : Nat) : Int) - 1) = (j : Int) by omega]
      have hst := half_step n j
      obtain ⟨q, hq⟩ : ∃ q, n / 2 ^ (j + 1) = q := ⟨_, rfl⟩
      obtain ⟨t, ht⟩ : ∃ t, n / 2 ^ j % 2 = t := ⟨_, rfl⟩
      have hle : n / 2 ^ j ≤ n := Nat.div_le_self _ _
      have hbit := i64_bit n j
      rw [ht] at hst hbit
      rw [hq] at hst ho
      have hj : j < 64 := by omega
      have ho1 := ho.nm
      have hsq := pow_sq v q
      have HST := Lib.hid hst
      have HSQ := Lib.hid hsq
      have HO1 := Lib.hid ho1
      have b1 : v ^ q < B64 ^ N := HP.out q (by omega)
      have b2 : v ^ (2 * q) < B64 ^ N := HP.out (2 * q) (by omega)
      have B1 := Lib.hid b1
      have B2 := Lib.hid b2
      have ht2 : t = 0 ∨ t = 1 := by omega
      clear hst hq hle ho ho1 hsq b1 b2 ht
      rcases ht2 with rfl | rfl
      · go_wp2_with fail
        refine (quick_any A1 A1 n1 c1 n1 c1 (v ^ q) (v ^ q) N _ HO1.out HO1.out hN B1.out B1.out).mono ?_
        rw [HSQ.out]
        rintro e w3 ⟨A3, k3, c3, rfl, o3, hb3⟩
        have HO3 := Lib.hid o3
        clear o3
        go_wp2_with fail
        go_roundw
        case rel => exact ⟨j, A3, k3, c3, by omega, rfl, by go_num, by rw [HST.out]; exact own_mono HO3.out hB.size, below_then hB hb3⟩
        case measure => first | (simp [intOf]; done) | (simp [intOf]; omega)
      · go_wp2_with fail
        refine (quick_any A1 A1 n1 c1 n1 c1 (v ^ q) (v ^ q) N _ HO1.out HO1.out hN B1.out B1.out).mono ?_
        rw [HSQ.out]
        rintro e w3 ⟨A3, k3, c3, rfl, o3, hb3⟩
        have hv3 := (hva.below hB).below hb3
        have o3' := o3.nm
        clear o3
        go_wp2_with fail
        refine (quick_any A3 A k3 c3 na ca (v ^ (2 * q)) v N _ o3' hv3 hN B2.out HV.out).mono ?_
        rw [← Nat.pow_succ]
        rintro e w4 ⟨A4, k4, c4, rfl, o4, hb4⟩
        have HO4 := Lib.hid o4
        clear o4
        go_wp2_with fail
        go_roundw
        case rel => exact ⟨j, A4, k4, c4, by omega, rfl, by go_num, by rw [HST.out]; exact own_mono HO4.out (Nat.le_trans hB.size hb3.size), below_then (below_then hB hb3) hb4⟩
        case measure => first | (simp [intOf]; done) | (simp [intOf]; omega)
end Go.Proofs.Ytmiobjkbcmicbaa
