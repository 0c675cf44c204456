/- The law MulPowers: powers are the document's. -/
import Derived.Test.YtmiobjkbcmicbaaTimes
import Derived.Test.YtmiobjkbcmicbaaMSpec
namespace Go.Proofs.Ytmiobjkbcmicbaa
open Go.RowKit Go.Shelf
set_option linter.unusedVariables false
set_option linter.unusedSimpArgs false

section
variable (A : Option Addr) (na ca : Nat) (a : List Nat) (w : World)

set_option maxRecDepth 100000 in
set_option maxHeartbeats 2000000 in
theorem rPow_bad (n : Int) (hra : Rd w A na a) (hna : na ≤ 1000) (hm : may a = false) :
    Calls Try.prog 16 #[.slice A na ca, .int .i64 n] w fun e w' => e = .returned (.tuple #[.slice none 0 0, .int .i64 8]) ∧ Below w.heap.size w w' := by
  have HM := Lib.hid hm
  clear hm
  go_enter Try.func16, Try.ntmps16
  go_wp2_with fail
  refine (rMay_any A na ca a _ hra (by omega)).mono ?_
  rw [HM.out]
  rintro e w1 ⟨rfl, rfl⟩
  go_wp2_with fail
  go_ret2
  exact ⟨rfl, Below.refl _ _⟩

set_option maxRecDepth 100000 in
set_option maxHeartbeats 2000000 in
theorem rPow_arg (n : Int) (hra : Rd w A na a) (hna : na ≤ 1000) (hm : may a = true) (hn : n < 0 ∨ 1024 < n) :
    Calls Try.prog 16 #[.slice A na ca, .int .i64 n] w fun e w' => e = .returned (.tuple #[.slice none 0 0, .int .i64 2]) ∧ Below w.heap.size w w' := by
  have HM := Lib.hid hm
  clear hm
  by_cases h0 : n < 0
  · clear hn
    go_enter Try.func16, Try.ntmps16
    go_wp2_with fail
    refine (rMay_any A na ca a _ hra (by omega)).mono ?_
    rw [HM.out]
    rintro e w1 ⟨rfl, rfl⟩
    go_wp2_with fail
    go_ret2
    exact ⟨rfl, Below.refl _ _⟩
  · have h1 : 1024 < n := by omega
    clear hn
    go_enter Try.func16, Try.ntmps16
    go_wp2_with fail
    refine (rMay_any A na ca a _ hra (by omega)).mono ?_
    rw [HM.out]
    rintro e w1 ⟨rfl, rfl⟩
    go_wp2_with fail
    go_ret2
    exact ⟨rfl, Below.refl _ _⟩

theorem mul_word {n l : Nat} (h : n * l ≤ 65536) : wrap64 ((n : Int) * (l : Int)) = (n : Int) * (l : Int) ∧ ¬ ((65536 : Int) < (n : Int) * (l : Int)) := by
  rw [← Int.natCast_mul]
  exact ⟨IntWalk.wrap64_in _ ⟨by omega, by omega⟩, by omega⟩
set_option maxRecDepth 100000 in
set_option maxHeartbeats 2000000 in
theorem rPow_ok (v n : Nat) (hva : Nm w A na ca v) (hna : na ≤ 20) (hn : n ≤ 20) (hb : n * blen v ≤ 65536) :
    Calls Try.prog 16 #[.slice A na ca, .int .i64 (n : Int)] w fun e w' => ∃ A' k c, e = .returned (.tuple #[.slice A' k c, .int .i64 0]) ∧ Own w' w.heap.size (.slice A' k c) (limbs (v ^ n)) ∧ Below w.heap.size w w' := by
  have hlen : ∀ k, k ≤ n → (limbs (v ^ k)).length ≤ 401 := fun k hk => pow_len hva (Nat.le_trans (Nat.mul_le_mul hna (show k ≤ 20 by omega)) (by omega))
  have HLen := Lib.hid hlen
  have h0 : ¬ ((n : Int) < 0) := by omega
  have h1 : ¬ ((1024 : Int) < (n : Int)) := by omega
  obtain ⟨f1, f2⟩ := mul_word hb
  clear hlen hb
  go_enter Try.func16, Try.ntmps16
  go_wp2_with fail
  refine (rMay_any A na ca (limbs v) _ hva.rd (by omega)).mono ?_
  rw [may_limbs]
  rintro e w1 ⟨rfl, rfl⟩
  go_wp2_with fail
  refine (rSize_any A na ca (limbs v) _ hva.rd (by omega)).mono ?_
  rw [val_limbs]
  rintro e w1 ⟨rfl, rfl⟩
  go_wp2_with fail
  have ho : Own (w.alloc (.cells #[wd 1] 27)) w.heap.size (.slice (some ⟨w.heap.size, 0, none⟩) 1 1) (limbs 1) := by
    rw [limbs_one]
    exact (row_new1 w).own (Nat.le_refl _) (words_cons B64_gt words_nil) rfl (by simp only [maxLen]; omega)
  have HO := Lib.hid ho
  clear ho
  try rw [f1]
  go_loopw [6, 7] (fun s i wr => ∃ k A1 n1 c1, k ≤ n ∧ s = .slice A1 n1 c1 ∧ i = .int .i64 (k : Int) ∧ Own wr w.heap.size (.slice A1 n1 c1) (limbs (v ^ k)) ∧ Below w.heap.size w wr) (fun _ i _ => n - (intOf i).toNat)
  case atStart => exact ⟨0, _, _, _, by omega, rfl, rfl, by rw [Nat.pow_zero]; exact HO.out, (Below.refl _ _).alloc (Nat.le_refl _) _⟩
  case round =>
    obtain ⟨k, A1, n1, c1, hk, rfl, rfl, ho, hB⟩ := hrel
    by_cases hlt : k < n
    · have l1 : n1 ≤ 401 := by have h1 := HLen.out k hk; have := ho.rd.2.1; omega
      have r1 := ho.rd.1
      have r2 := hva.rd.below hB
      clear ho hva
      go_wp2_with fail
      refine (times_any A1 A n1 c1 na ca (limbs (v ^ k)) (limbs v) _ r1 r2 (by omega) (by omega)).mono ?_
      rw [val_limbs, val_limbs, ← Nat.pow_succ]
      rintro e w3 ⟨A3, k3, c3, rfl, o3, hb3⟩
      have HO3 := Lib.hid o3
      clear o3
      go_wp2_with fail
      go_roundw
      case rel => exact ⟨k + 1, A3, k3, c3, by omega, rfl, by go_num, own_mono HO3.out hB.size, below_then hB hb3⟩
      case measure => first | (simp [intOf]; done) | (simp [intOf]; omega)
    · have hkn : k = n := by omega
      subst hkn
      have HO2 := Lib.hid ho
      clear ho hva
      go_wp2
      go_ret2
      exact ⟨_, _, _, rfl, HO2.out, hB⟩

set_option maxRecDepth 100000 in
set_option maxHeartbeats 2000000 in
theorem mulPowers_long (n : Int) (hb : 20 < na ∨ (20 < n ∧ n ≤ 1024)) (h1 : na ≤ 9223372036854775807) :
    Calls Try.prog 5 #[.slice A na ca, .int .i64 n] w fun e w' => e = .returned (.bool true) ∧ Below w.heap.size w w' := by
  by_cases ha : 20 < na
  · clear hb
    go_enter Try.func5, Try.ntmps5
    go_wp2
    go_ret
    exact ⟨rfl, Below.refl _ _⟩
  · have hc : 20 < n := by omega
    have hd : n ≤ 1024 := by omega
    clear hb
    go_enter Try.func5, Try.ntmps5
    go_wp2
    go_ret
    exact ⟨rfl, Below.refl _ _⟩

set_option maxRecDepth 100000 in
set_option maxHeartbeats 2000000 in
theorem mulPowers_bad (n : Int) (hra : Rd w A na a) (q : na ≤ ca ∧ ca ≤ 9223372036854775807) (h1 : na ≤ 20) (hm : may a = false) (hcase : n ≤ 20 ∨ 1024 < n) :
    Calls Try.prog 5 #[.slice A na ca, .int .i64 n] w fun e w' => e = .returned (.bool true) ∧ Below w.heap.size w w' := by
  rcases hcase with hcase | hcase
  all_goals
    first
    | have g1 : ¬ (20 < n) := by omega
    | have g1 : 20 < n := by omega
      have g2 : ¬ (n ≤ 1024) := by omega
    clear hcase
    go_enter Try.func5, Try.ntmps5
    go_wp2_with fail
    refine (powC_bad A na ca _ a n hra (by omega) hm).mono ?_
    rintro e w1 ⟨rfl, hb1⟩
    replace hra := hra.below hb1
    go_wp2_with fail
    refine (rPow_bad A na ca a _ n hra (by omega) hm).mono ?_
    rintro e w2 ⟨rfl, hb2⟩
    replace hra := hra.below hb2
    replace hb2 := below_then hb1 hb2
    clear hb1
    go_wp2_with fail
    refine (same_eq none none 0 0 0 0 0 0 _ (nm_zero _ none (by omega)) (nm_zero _ none (by omega)) (by omega) (by omega) rfl).mono ?_
    rintro e w3 ⟨rfl, hb3⟩
    replace hra := hra.below hb3
    replace hb3 := below_then hb2 hb3
    clear hb2
    go_wp2_with fail
    go_ret
    exact ⟨rfl, hb3⟩

set_option maxRecDepth 100000 in
set_option maxHeartbeats 2000000 in
theorem mulPowers_arg (n : Int) (hra : Rd w A na a) (q : na ≤ ca ∧ ca ≤ 9223372036854775807) (h1 : na ≤ 20) (hm : may a = true) (hn : n < 0 ∨ 1024 < n) (hcase : n ≤ 20 ∨ 1024 < n) :
    Calls Try.prog 5 #[.slice A na ca, .int .i64 n] w fun e w' => e = .returned (.bool true) ∧ Below w.heap.size w w' := by
  rcases hcase with hcase | hcase
  all_goals
    first
    | have g1 : ¬ (20 < n) := by omega
    | have g1 : 20 < n := by omega
      have g2 : ¬ (n ≤ 1024) := by omega
    clear hcase
    go_enter Try.func5, Try.ntmps5
    go_wp2_with fail
    refine (powC_arg A na ca _ (val a) n (nm_of hra hm q.1 q.2) (by omega) hn).mono ?_
    rintro e w1 ⟨rfl, hb1⟩
    replace hra := hra.below hb1
    go_wp2_with fail
    refine (rPow_arg A na ca a _ n hra (by omega) hm hn).mono ?_
    rintro e w2 ⟨rfl, hb2⟩
    replace hra := hra.below hb2
    replace hb2 := below_then hb1 hb2
    clear hb1
    go_wp2_with fail
    refine (same_eq none none 0 0 0 0 0 0 _ (nm_zero _ none (by omega)) (nm_zero _ none (by omega)) (by omega) (by omega) rfl).mono ?_
    rintro e w3 ⟨rfl, hb3⟩
    replace hra := hra.below hb3
    replace hb3 := below_then hb2 hb3
    clear hb2
    go_wp2_with fail
    go_ret
    exact ⟨rfl, hb3⟩

set_option maxRecDepth 100000 in
set_option maxHeartbeats 2000000 in
theorem mulPowers_ok (v n : Nat) (hva : Nm w A na ca v) (h1 : na ≤ 20) (hn : n ≤ 20) :
    Calls Try.prog 5 #[.slice A na ca, .int .i64 (n : Int)] w fun e w' => e = .returned (.bool true) ∧ Below w.heap.size w w' := by
  have g1 : ¬ ((20 : Int) < (n : Int)) := by omega
  have hb : n * blen v ≤ 65536 := Nat.le_trans (Nat.mul_le_mul hn (nm_blen hva h1)) (by omega)
  have hlen := pow_len hva (n := n) (N := 400) (Nat.le_trans (Nat.mul_le_mul h1 hn) (by omega))
  go_enter Try.func5, Try.ntmps5
  go_wp2_with fail
  refine (pow_nm A na ca v _ n hva (by omega) (by omega) hb).mono ?_
  rintro e w1 ⟨Ax, kx, cx, rfl, ox, hb1⟩
  have rx := ox.nm
  have lx : kx ≤ 401 := by have := ox.rd.2.1; omega
  clear ox
  replace hva := hva.below hb1
  go_wp2_with fail
  refine (rPow_ok A na ca _ v n hva h1 hn hb).mono ?_
  rintro e w2 ⟨Ay, ky, cy, rfl, oy, hb2⟩
  have ry := oy.nm
  have ly : ky ≤ 401 := by have := oy.rd.2.1; omega
  clear oy
  replace hva := hva.below hb2
  replace rx := rx.below hb2
  replace hb2 := below_then hb1 hb2
  clear hb1
  go_wp2_with fail
  refine (same_eq Ax Ay kx cx ky cy (v ^ n) (v ^ n) _ rx ry (by omega) (by omega) rfl).mono ?_
  rintro e w3 ⟨rfl, hb3⟩
  replace hva := hva.below hb3
  replace rx := rx.below hb3
  replace ry := ry.below hb3
  replace hb3 := below_then hb2 hb3
  clear hb2
  go_wp2_with fail
  go_ret
  exact ⟨rfl, hb3⟩

theorem mulPowers_any (n : Int) (hra : Rd w A na a) (q : na ≤ ca ∧ ca ≤ 9223372036854775807) :
    Calls Try.prog 5 #[.slice A na ca, .int .i64 n] w fun e w' => e = .returned (.bool true) ∧ Below w.heap.size w w' := by
  by_cases h : 20 < na ∨ (20 < n ∧ n ≤ 1024)
  · exact mulPowers_long A na ca w n h (by omega)
  · cases hm : may a with
    | false => exact mulPowers_bad A na ca a w n hra q (by omega) hm (by omega)
    | true =>
      by_cases hn : n < 0 ∨ 1024 < n
      · exact mulPowers_arg A na ca a w n hra q (by omega) hm hn (by omega)
      · obtain ⟨k, rfl⟩ := Int.eq_ofNat_of_zero_le (show 0 ≤ n by omega)
        exact mulPowers_ok A na ca w (val a) k (nm_of hra hm q.1 q.2) (by omega) (by omega)
end
end Go.Proofs.Ytmiobjkbcmicbaa
