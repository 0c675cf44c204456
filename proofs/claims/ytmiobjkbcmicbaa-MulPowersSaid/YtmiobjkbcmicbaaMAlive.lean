/- The law MulNames, and the chapter's first examples. -/
import Derived.Test.YtmiobjkbcmicbaaPowCall
namespace Go.Proofs.Ytmiobjkbcmicbaa
open Go.RowKit Go.Shelf
set_option linter.unusedVariables false

section
variable (A A2 : Option Addr) (na ca nb cb v u : Nat) (w : World)
theorem mul_nm (hva : Nm w A na ca v) (hub : Nm w A2 nb cb u) (hna : na ≤ 100000) (hnb : nb ≤ 100000) :
    Calls Try.prog 13 #[.slice A na ca, .slice A2 nb cb] w fun e w' => ∃ A' k c, e = .returned (.tuple #[.slice A' k c, .int .i64 0]) ∧ Own w' w.heap.size (.slice A' k c) (limbs (v * u)) ∧ Below w.heap.size w w' := by
  obtain ⟨N, hN⟩ : ∃ N, N = 100000 := ⟨_, rfl⟩
  exact Mul_ok A A2 na ca nb cb v u N w hva hub (by omega) (nm_lt hva (by omega)) (nm_lt hub (by omega))
theorem pow_nm (n : Nat) (hva : Nm w A na ca v) (hna : na ≤ 100000) (hn : n ≤ 1024) (hb : n * blen v ≤ 65536) :
    Calls Try.prog 9 #[.slice A na ca, .int .i64 (n : Int)] w fun e w' => ∃ A' k c, e = .returned (.tuple #[.slice A' k c, .int .i64 0]) ∧ Own w' w.heap.size (.slice A' k c) (limbs (v ^ n)) ∧ Below w.heap.size w w' := by
  obtain ⟨N, hN⟩ : ∃ N, N = 100000 := ⟨_, rfl⟩
  exact powC_ok A na ca w v n N hva (by omega) (by omega) (by omega) hn hb
end

theorem nm_new1 (w : World) (x : Nat) (T : TypeId) (hx : x < B64) (h0 : (x != 0) = true) : Nm (w.alloc (.cells #[u64 x] T)) (some ⟨w.heap.size, 0, none⟩) 1 1 x := by
  have h := nm_of (c := 1) (rd_new1 w x T hx) (by simpa [may] using h0) (by omega) (by omega)
  simpa [val] using h
theorem nm_new2 (w : World) (x y : Nat) (T : TypeId) (hx : x < B64) (hy : y < B64) (h0 : (y != 0) = true) : Nm (w.alloc (.cells #[u64 x, u64 y] T)) (some ⟨w.heap.size, 0, none⟩) 2 2 (x + B64 * y) := by
  have h := nm_of (c := 2) (rd_new2 w x y T hx hy) (by simpa [may] using h0) (by omega) (by omega)
  simpa [val] using h
/-- 2^64 - 2. -/
def top2 : Nat := 18446744073709551614
theorem top2_lt : top2 < B64 := by unfold top2; rw [B64_eq]; omega
theorem top2_cast : ((top2 : Nat) : Int) = 18446744073709551614 := rfl
theorem top_ne : (top != 0) = true := rfl
theorem top_sq : limbs (top * top) = [1, top2] := by
  have e : top * top = val [1, top2] := by simp [val, B64_eq, top, top2]
  rw [e]
  exact limbs_val (words_cons B64_gt (words_cons top2_lt words_nil)) rfl
/-- 10^20's lower limb. -/
def ten20 : Nat := 7766279631452241920
theorem ten20_lt : ten20 < B64 := by unfold ten20; rw [B64_eq]; omega
theorem ten20_cast : ((ten20 : Nat) : Int) = 7766279631452241920 := rfl
theorem ten_pow : limbs (10 ^ 20) = [ten20, 5] := by
  have e : 10 ^ 20 = val [ten20, 5] := by simp [val, B64_eq, ten20]
  rw [e]
  exact limbs_val (words_cons ten20_lt (words_cons (small_lt (by omega)) words_nil)) rfl
theorem ten_len : 20 * blen 10 ≤ 65536 := by
  have := blen_le (v := 10) (k := 4) (by omega)
  omega
theorem five_zero : limbs (0 * 5) = [] := by rw [Nat.zero_mul, limbs_zero]

set_option maxRecDepth 100000 in
set_option maxHeartbeats 2000000 in
theorem malive_any (w : World) : Calls Try.prog 11 #[] w fun e w' => e = .returned (.bool true) ∧ Below w.heap.size w w' := by
  go_enter Try.func11, Try.ntmps11
  go_wp2_with fail
  rw [← top_cast]
  refine (mul_nm _ _ 1 1 1 1 top top _ ((nm_new1 w top _ top_lt top_ne).below ((Below.refl _ _).alloc (Nat.le_refl _) _)) (by have := nm_new1 (w.alloc (.cells #[u64 top] 27)) top 27 top_lt top_ne; rwa [World.size_alloc] at this) (by omega) (by omega)).mono ?_
  rw [top_sq]
  rintro e w1 ⟨A1, k1, c1, rfl, o1, hb1⟩
  obtain ⟨r1, l1, _, _⟩ := o1.rd
  obtain rfl : k1 = 2 := l1
  clear o1
  replace hb1 := below_new (below_new hb1)
  go_wp2_with fail
  refine (mul_nm none _ 0 0 1 1 0 5 _ (nm_zero _ none (by omega)) (nm_new1 _ 5 _ (small_lt (by omega)) rfl) (by omega) (by omega)).mono ?_
  rw [five_zero]
  rintro e w2 ⟨A2, k2, c2, rfl, o2, hb2⟩
  obtain ⟨r2, l2, _, _⟩ := o2.rd
  obtain rfl : k2 = 0 := l2
  clear o2 r2
  replace hb2 := below_new hb2
  replace r1 := r1.below hb2
  replace hb2 := below_then hb1 hb2
  clear hb1
  go_wp2_with fail
  refine (pow_nm _ 1 1 10 _ 20 (nm_new1 _ 10 _ (small_lt (by omega)) rfl) (by omega) (by omega) ten_len).mono ?_
  rw [ten_pow]
  rintro e w3 ⟨A3, k3, c3, rfl, o3, hb3⟩
  obtain ⟨r3, l3, _, _⟩ := o3.rd
  obtain rfl : k3 = 2 := l3
  clear o3
  replace hb3 := below_new hb3
  replace r1 := r1.below hb3
  replace hb3 := below_then hb2 hb3
  clear hb2
  go_wp2_with fail
  rw [← top2_cast]
  refine (same_any _ _ 2 _ 2 2 [1, top2] [1, top2] _ (r1.alloc _) (rd_new2 _ 1 top2 _ B64_gt top2_lt) (by omega) (by omega)).mono ?_
  rw [decide_eq_true (show [1, top2] = [1, top2] from rfl)]
  rintro e w4 ⟨rfl, hb4⟩
  replace hb4 := below_new hb4
  replace r3 := r3.below hb4
  replace hb4 := below_then hb3 hb4
  clear hb3 r1
  go_wp2_with fail
  rw [← ten20_cast]
  refine (same_any _ _ 2 _ 2 2 [ten20, 5] [ten20, 5] _ (r3.alloc _) (rd_new2 _ ten20 5 _ ten20_lt (small_lt (by omega))) (by omega) (by omega)).mono ?_
  rw [decide_eq_true (show [ten20, 5] = [ten20, 5] from rfl)]
  rintro e w5 ⟨rfl, hb5⟩
  replace hb5 := below_new hb5
  replace hb5 := below_then hb4 hb5
  clear hb4 r3
  go_wp2_with fail
  go_ret
  exact ⟨rfl, hb5⟩

theorem two64_many : 65536 < 1024 * blen (0 + B64 * 1) := by
  have : blen (0 + B64 * 1) = 65 := by
    apply blen_eq <;> rw [B64_eq] <;> simp
  omega

set_option maxRecDepth 100000 in
set_option maxHeartbeats 2000000 in
theorem mulNames_any (w : World) : Calls Try.prog 3 #[] w fun e w' => e = .returned (.bool true) ∧ Below w.heap.size w w' := by
  go_enter Try.func3, Try.ntmps3
  go_wp2_with fail
  refine (pow_nm none 0 0 0 _ 0 (nm_zero _ none (by omega)) (by omega) (by omega) (by omega)).mono ?_
  rw [Nat.pow_zero, limbs_one]
  rintro e w1 ⟨A1, k1, c1, rfl, o1, hb1⟩
  obtain ⟨r1, l1, _, _⟩ := o1.rd
  obtain rfl : k1 = 1 := l1
  clear o1
  go_wp2_with fail
  refine (powC_arg _ 1 1 _ 2 1025 (nm_new1 _ 2 _ (small_lt (by omega)) rfl) (by omega) (by omega)).mono ?_
  rintro e w2 ⟨rfl, hb2⟩
  replace hb2 := below_new hb2
  replace r1 := r1.below hb2
  replace hb2 := below_then hb1 hb2
  clear hb1
  go_wp2_with fail
  refine (powC_many _ 2 2 _ (0 + B64 * 1) 1024 (nm_new2 _ 0 1 _ B64_pos B64_gt rfl) (by omega) (by omega) two64_many).mono ?_
  rintro e w3 ⟨rfl, hb3⟩
  replace hb3 := below_new hb3
  replace r1 := r1.below hb3
  replace hb3 := below_then hb2 hb3
  clear hb2
  go_wp2_with fail
  refine (Split_bad _ none 1 1 0 0 [0] [] _ (rd_new1 _ 0 _ B64_pos) (rd_nil _ none) (by omega) (by omega) rfl).mono ?_
  rintro e w4 ⟨rfl, hb4⟩
  replace hb4 := below_new hb4
  replace r1 := r1.below hb4
  replace hb4 := below_then hb3 hb4
  clear hb3
  go_wp2_with fail
  refine (malive_any _).mono ?_
  rintro e w5 ⟨rfl, hb5⟩
  replace r1 := r1.below hb5
  replace hb5 := below_then hb4 hb5
  clear hb4
  go_wp2_with fail
  refine (same_any _ _ 1 _ 1 1 [1] [1] _ (r1.alloc _) (rd_new1 _ 1 _ B64_gt) (by omega) (by omega)).mono ?_
  rw [decide_eq_true (show [1] = [1] from rfl)]
  rintro e w6 ⟨rfl, hb6⟩
  replace hb6 := below_new hb6
  replace hb6 := below_then hb5 hb6
  clear hb5 r1
  go_wp2_with fail
  go_ret
  exact ⟨rfl, hb6⟩
end Go.Proofs.Ytmiobjkbcmicbaa
