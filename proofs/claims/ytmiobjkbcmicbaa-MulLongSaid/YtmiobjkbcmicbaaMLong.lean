/- The law MulLong: how long a product is; products with powers of two. -/
import Derived.Test.YtmiobjkbcmicbaaMSpec
namespace Go.Proofs.Ytmiobjkbcmicbaa
open Go.RowKit Go.Shelf
set_option linter.unusedVariables false

theorem blen_mul {v u : Nat} (hv : v ≠ 0) (hu : u ≠ 0) : blen (v * u) = blen v + blen u ∨ blen v + blen u = blen (v * u) + 1 := by
  obtain ⟨a1, a2, a3⟩ := blen_pos hv
  obtain ⟨b1, b2, b3⟩ := blen_pos hu
  obtain ⟨i, hi⟩ : ∃ i, blen v = i + 1 := ⟨blen v - 1, by omega⟩
  obtain ⟨j, hj⟩ : ∃ j, blen u = j + 1 := ⟨blen u - 1, by omega⟩
  rw [hi] at a1 a2 ⊢
  rw [hj] at b1 b2 ⊢
  simp only [Nat.add_sub_cancel] at a1 b1
  have h1 : 2 ^ (i + j) ≤ v * u := by rw [Nat.pow_add]; exact Nat.mul_le_mul a1 b1
  have h2 : v * u < 2 ^ (i + j + 1 + 1) := by
    rw [show i + j + 1 + 1 = (i + 1) + (j + 1) by omega, Nat.pow_add]
    exact Nat.lt_of_le_of_lt (Nat.mul_le_mul_left _ (Nat.le_of_lt b2)) (Nat.mul_lt_mul_of_pos_right a2 (Nat.two_pow_pos _))
  by_cases h3 : v * u < 2 ^ (i + j + 1)
  · right
    rw [blen_eq h1 h3]; omega
  · left
    rw [blen_eq (by omega) h2]; omega
theorem u16_facts {x r : Nat} (hx : x ≤ 65535) (h : x % 2001 = r) : r ≤ 2000 ∧ wrap64 (x : Int) = (x : Int) ∧ IntKind.i64.wrap (x : Int) = (x : Int) ∧ Int.tmod (x : Int) 2001 = (r : Int) ∧ (x : Int) % 2001 = (r : Int) := by
  refine ⟨by omega, IntWalk.wrap64_in _ ⟨by omega, by omega⟩, ?_, ?_, by omega⟩
  · rw [IntKind.wrap_i64]; omega
  · rw [Int.tmod_eq_emod_of_nonneg (by omega)]; omega
theorem sum_facts {bn bm : Nat} (h1 : bn ≤ 64 * 200) (h2 : bm ≤ 64 * 200) : wrap64 ((bn : Int) + (bm : Int)) = (bn : Int) + (bm : Int) ∧ wrap64 ((bn : Int) + (bm : Int) - 1) = (bn : Int) + (bm : Int) - 1 :=
  ⟨IntWalk.wrap64_in _ ⟨by omega, by omega⟩, IntWalk.wrap64_in _ ⟨by omega, by omega⟩⟩
theorem sum_is {n m l : Nat} (h : l = n + m) : ((l : Int) == (n : Int) + (m : Int)) = true := by simp; omega
theorem sum_less {n m l : Nat} (h : n + m = l + 1) : ((l : Int) == (n : Int) + (m : Int)) = false ∧ ((l : Int) == (n : Int) + (m : Int) - 1) = true := by
  constructor
  · simp; omega
  · simp; omega
theorem int_ne {n : Nat} (h : n ≠ 0) : ((n : Int) == 0) = false := by simp; omega
theorem long_cases (v u : Nat) : (blen v = 0 ∧ blen (v * u) = 0) ∨ (blen v ≠ 0 ∧ blen u = 0 ∧ blen (v * u) = 0) ∨ (blen v ≠ 0 ∧ blen u ≠ 0 ∧ blen (v * u) = blen v + blen u) ∨ (blen v ≠ 0 ∧ blen u ≠ 0 ∧ blen v + blen u = blen (v * u) + 1) := by
  by_cases hv : v = 0
  · subst hv; left; rw [Nat.zero_mul]; exact ⟨rfl, rfl⟩
  · have h1 := (blen_pos hv).2.2
    by_cases hu : u = 0
    · subst hu; right; left; rw [Nat.mul_zero]; exact ⟨by omega, rfl, rfl⟩
    · have h2 := (blen_pos hu).2.2
      rcases blen_mul hv hu with h | h
      · right; right; left; exact ⟨by omega, by omega, h⟩
      · right; right; right; exact ⟨by omega, by omega, h⟩

section
variable (A A2 : Option Addr) (na ca nb cb : Nat) (a b : List Nat) (w : World)
set_option maxRecDepth 100000 in
set_option maxHeartbeats 2500000 in
theorem mulLong_long (x : Int) (hb : 200 < na ∨ 200 < nb) (h1 : na ≤ 9223372036854775807) (h2 : nb ≤ 9223372036854775807) :
    Calls Try.prog 7 #[.slice A na ca, .slice A2 nb cb, .int .u16 x] w fun e w' => e = .returned (.bool true) ∧ Below w.heap.size w w' := by
  by_cases h50 : 200 < na
  · clear hb
    go_enter Try.func7, Try.ntmps7
    go_wp2_with (go_at_call 11; refine (malive_any _).mono ?_; rintro e w1 ⟨rfl, hb1⟩)
    go_ret
    exact ⟨rfl, hb1⟩
  · skip
    have h99 : 200 < nb := by omega
    clear hb
    go_enter Try.func7, Try.ntmps7
    go_wp2_with (go_at_call 11; refine (malive_any _).mono ?_; rintro e w1 ⟨rfl, hb1⟩)
    go_ret
    exact ⟨rfl, hb1⟩

set_option maxRecDepth 100000 in
set_option maxHeartbeats 2500000 in
theorem mulLong_bad (x : Int) (hra : Rd w A na a) (hrb : Rd w A2 nb b) (h1 : na ≤ 200) (h2 : nb ≤ 200) (hm : [a, b].all may = false) :
    Calls Try.prog 7 #[.slice A na ca, .slice A2 nb cb, .int .u16 x] w fun e w' => e = .returned (.bool true) ∧ Below w.heap.size w w' := by
  go_enter Try.func7, Try.ntmps7
  go_wp2_with fail
  refine (malive_any _).mono ?_
  rintro e w1 ⟨rfl, hb1⟩
  replace hra := hra.below hb1
  replace hrb := hrb.below hb1
  go_wp2_with fail
  refine (Mul_bad A A2 na ca nb cb a b _ hra hrb (by omega) (by omega) hm).mono ?_
  rintro e w2 ⟨rfl, hb2⟩
  replace hra := hra.below hb2
  replace hrb := hrb.below hb2
  replace hb2 := below_then hb1 hb2
  clear hb1
  go_wp2_with fail
  go_ret
  exact ⟨rfl, hb2⟩

set_option maxRecDepth 100000 in
set_option maxHeartbeats 1500000 in
theorem mulLong_ok1 (x v u bn bm bl : Nat) (hx : x ≤ 65535) (hva : Nm w A na ca v) (hub : Nm w A2 nb cb u) (h1 : na ≤ 200) (h2 : nb ≤ 200) (e1 : blen v = bn) (e2 : blen u = bm) (e3 : blen (v * u) = bl)
    (hcase : bn = 0 ∧ bl = 0) :
    Calls Try.prog 7 #[.slice A na ca, .slice A2 nb cb, .int .u16 (x : Int)] w fun e w' => e = .returned (.bool true) ∧ Below w.heap.size w w' := by
  have lvu := mul_len hva hub
  obtain ⟨r, hr⟩ : ∃ r, x % 2001 = r := ⟨_, rfl⟩
  obtain ⟨hr1, w1, w2, w3, w4⟩ := u16_facts hx hr
  have lup := up_len hva (b := r) hr1
  have bb1 := nm_blen hva h1
  have bb2 := nm_blen hub h2
  rw [e1] at bb1
  rw [e2] at bb2
  obtain ⟨w5, w6⟩ := sum_facts bb1 bb2
  have E1 := Lib.hid e1
  have E2 := Lib.hid e2
  have E3 := Lib.hid e3
  clear e1 e2 e3 hr bb1 bb2
  obtain ⟨rfl, rfl⟩ := hcase
  go_enter Try.func7, Try.ntmps7
  go_wp2_with fail
  refine (malive_any _).mono ?_
  rintro e w1 ⟨rfl, hb1⟩
  replace hva := hva.below hb1
  replace hub := hub.below hb1
  go_wp2_with fail
  refine (mul_nm A A2 na ca nb cb v u _ hva hub (by omega) (by omega)).mono ?_
  rintro e w2 ⟨Ax, kx, cx, rfl, ox, hb2⟩
  have rx := ox.nm
  have lx : kx ≤ 400 := by have := ox.rd.2.1; omega
  clear ox
  clear lvu
  replace hva := hva.below hb2
  replace hub := hub.below hb2
  replace hb2 := below_then hb1 hb2
  clear hb1
  go_wp2_with fail
  refine (long_nm A na ca v _ hva (by omega)).mono ?_
  rw [E1.out]
  rintro e w3 ⟨rfl, hb3⟩
  replace hva := hva.below hb3
  replace hub := hub.below hb3
  replace rx := rx.below hb3
  replace hb3 := below_then hb2 hb3
  clear hb2
  go_wp2_with fail
  refine (long_nm A2 nb cb u _ hub (by omega)).mono ?_
  rw [E2.out]
  rintro e w4 ⟨rfl, hb4⟩
  replace hva := hva.below hb4
  replace hub := hub.below hb4
  replace rx := rx.below hb4
  replace hb4 := below_then hb3 hb4
  clear hb3
  go_wp2_with fail
  refine (long_nm Ax kx cx (v * u) _ rx (by omega)).mono ?_
  rw [E3.out]
  rintro e w5 ⟨rfl, hb5⟩
  replace hva := hva.below hb5
  replace hub := hub.below hb5
  replace rx := rx.below hb5
  replace hb5 := below_then hb4 hb5
  clear hb4
  go_wp2_with fail
  refine (up_nm _ 1 1 1 _ r (nm_new1 _ 1 _ B64_gt rfl) (by omega) (by omega)).mono ?_
  rintro e w6 ⟨At, kt, ct, rfl, ot, hb6⟩
  replace hb6 := below_new hb6
  have rt := ot.nm
  have lt0 := up_len (nm_new1 w 1 27 B64_gt rfl) (b := r) hr1
  have lt : kt ≤ 33 := by have := ot.rd.2.1; omega
  clear ot lt0
  have ly0 := mul_len hva rt
  replace hva := hva.below hb6
  replace hub := hub.below hb6
  replace rx := rx.below hb6
  replace hb6 := below_then hb5 hb6
  clear hb5
  go_wp2_with fail
  refine (mul_nm A At na ca kt ct v (1 * 2 ^ r) _ hva rt (by omega) (by omega)).mono ?_
  rintro e w7 ⟨Ay, ky, cy, rfl, oy, hb7⟩
  have ry := oy.nm
  have ly : ky ≤ 233 := by have := oy.rd.2.1; omega
  clear oy
  clear ly0
  replace hva := hva.below hb7
  replace hub := hub.below hb7
  replace rx := rx.below hb7
  replace rt := rt.below hb7
  replace hb7 := below_then hb6 hb7
  clear hb6
  go_wp2_with fail
  refine (up_nm A na ca v _ r hva (by omega) (by omega)).mono ?_
  rintro e w8 ⟨Az, kz, cz, rfl, oz, hb8⟩
  have rz := oz.nm
  have lz : kz ≤ 232 := by have := oz.rd.2.1; omega
  clear oz
  clear lup
  replace hva := hva.below hb8
  replace hub := hub.below hb8
  replace rx := rx.below hb8
  replace rt := rt.below hb8
  replace ry := ry.below hb8
  replace hb8 := below_then hb7 hb8
  clear hb7
  go_wp2_with fail
  refine (same_eq Ay Az ky cy kz cz (v * (1 * 2 ^ r)) (v * 2 ^ r) _ ry rz (by omega) (by omega) (by rw [Nat.one_mul])).mono ?_
  rintro e w9 ⟨rfl, hb9⟩
  replace hva := hva.below hb9
  replace hub := hub.below hb9
  replace rx := rx.below hb9
  replace rt := rt.below hb9
  replace ry := ry.below hb9
  replace rz := rz.below hb9
  replace hb9 := below_then hb8 hb9
  clear hb8
  go_wp2_with fail
  go_ret
  exact ⟨rfl, hb9⟩

set_option maxRecDepth 100000 in
set_option maxHeartbeats 1500000 in
theorem mulLong_ok2 (x v u bn bm bl : Nat) (hx : x ≤ 65535) (hva : Nm w A na ca v) (hub : Nm w A2 nb cb u) (h1 : na ≤ 200) (h2 : nb ≤ 200) (e1 : blen v = bn) (e2 : blen u = bm) (e3 : blen (v * u) = bl)
    (hcase : bn ≠ 0 ∧ bm = 0 ∧ bl = 0) :
    Calls Try.prog 7 #[.slice A na ca, .slice A2 nb cb, .int .u16 (x : Int)] w fun e w' => e = .returned (.bool true) ∧ Below w.heap.size w w' := by
  have lvu := mul_len hva hub
  obtain ⟨r, hr⟩ : ∃ r, x % 2001 = r := ⟨_, rfl⟩
  obtain ⟨hr1, w1, w2, w3, w4⟩ := u16_facts hx hr
  have lup := up_len hva (b := r) hr1
  have bb1 := nm_blen hva h1
  have bb2 := nm_blen hub h2
  rw [e1] at bb1
  rw [e2] at bb2
  obtain ⟨w5, w6⟩ := sum_facts bb1 bb2
  have E1 := Lib.hid e1
  have E2 := Lib.hid e2
  have E3 := Lib.hid e3
  clear e1 e2 e3 hr bb1 bb2
  obtain ⟨hn0, rfl, rfl⟩ := hcase
  have t1 := int_ne hn0
  clear hn0
  go_enter Try.func7, Try.ntmps7
  go_wp2_with fail
  refine (malive_any _).mono ?_
  rintro e w1 ⟨rfl, hb1⟩
  replace hva := hva.below hb1
  replace hub := hub.below hb1
  go_wp2_with fail
  refine (mul_nm A A2 na ca nb cb v u _ hva hub (by omega) (by omega)).mono ?_
  rintro e w2 ⟨Ax, kx, cx, rfl, ox, hb2⟩
  have rx := ox.nm
  have lx : kx ≤ 400 := by have := ox.rd.2.1; omega
  clear ox
  clear lvu
  replace hva := hva.below hb2
  replace hub := hub.below hb2
  replace hb2 := below_then hb1 hb2
  clear hb1
  go_wp2_with fail
  refine (long_nm A na ca v _ hva (by omega)).mono ?_
  rw [E1.out]
  rintro e w3 ⟨rfl, hb3⟩
  replace hva := hva.below hb3
  replace hub := hub.below hb3
  replace rx := rx.below hb3
  replace hb3 := below_then hb2 hb3
  clear hb2
  go_wp2_with fail
  refine (long_nm A2 nb cb u _ hub (by omega)).mono ?_
  rw [E2.out]
  rintro e w4 ⟨rfl, hb4⟩
  replace hva := hva.below hb4
  replace hub := hub.below hb4
  replace rx := rx.below hb4
  replace hb4 := below_then hb3 hb4
  clear hb3
  go_wp2_with fail
  refine (long_nm Ax kx cx (v * u) _ rx (by omega)).mono ?_
  rw [E3.out]
  rintro e w5 ⟨rfl, hb5⟩
  replace hva := hva.below hb5
  replace hub := hub.below hb5
  replace rx := rx.below hb5
  replace hb5 := below_then hb4 hb5
  clear hb4
  go_wp2_with fail
  refine (up_nm _ 1 1 1 _ r (nm_new1 _ 1 _ B64_gt rfl) (by omega) (by omega)).mono ?_
  rintro e w6 ⟨At, kt, ct, rfl, ot, hb6⟩
  replace hb6 := below_new hb6
  have rt := ot.nm
  have lt0 := up_len (nm_new1 w 1 27 B64_gt rfl) (b := r) hr1
  have lt : kt ≤ 33 := by have := ot.rd.2.1; omega
  clear ot lt0
  have ly0 := mul_len hva rt
  replace hva := hva.below hb6
  replace hub := hub.below hb6
  replace rx := rx.below hb6
  replace hb6 := below_then hb5 hb6
  clear hb5
  go_wp2_with fail
  refine (mul_nm A At na ca kt ct v (1 * 2 ^ r) _ hva rt (by omega) (by omega)).mono ?_
  rintro e w7 ⟨Ay, ky, cy, rfl, oy, hb7⟩
  have ry := oy.nm
  have ly : ky ≤ 233 := by have := oy.rd.2.1; omega
  clear oy
  clear ly0
  replace hva := hva.below hb7
  replace hub := hub.below hb7
  replace rx := rx.below hb7
  replace rt := rt.below hb7
  replace hb7 := below_then hb6 hb7
  clear hb6
  go_wp2_with fail
  refine (up_nm A na ca v _ r hva (by omega) (by omega)).mono ?_
  rintro e w8 ⟨Az, kz, cz, rfl, oz, hb8⟩
  have rz := oz.nm
  have lz : kz ≤ 232 := by have := oz.rd.2.1; omega
  clear oz
  clear lup
  replace hva := hva.below hb8
  replace hub := hub.below hb8
  replace rx := rx.below hb8
  replace rt := rt.below hb8
  replace ry := ry.below hb8
  replace hb8 := below_then hb7 hb8
  clear hb7
  go_wp2_with fail
  refine (same_eq Ay Az ky cy kz cz (v * (1 * 2 ^ r)) (v * 2 ^ r) _ ry rz (by omega) (by omega) (by rw [Nat.one_mul])).mono ?_
  rintro e w9 ⟨rfl, hb9⟩
  replace hva := hva.below hb9
  replace hub := hub.below hb9
  replace rx := rx.below hb9
  replace rt := rt.below hb9
  replace ry := ry.below hb9
  replace rz := rz.below hb9
  replace hb9 := below_then hb8 hb9
  clear hb8
  go_wp2_with fail
  go_ret
  exact ⟨rfl, hb9⟩

set_option maxRecDepth 100000 in
set_option maxHeartbeats 1500000 in
theorem mulLong_ok3 (x v u bn bm bl : Nat) (hx : x ≤ 65535) (hva : Nm w A na ca v) (hub : Nm w A2 nb cb u) (h1 : na ≤ 200) (h2 : nb ≤ 200) (e1 : blen v = bn) (e2 : blen u = bm) (e3 : blen (v * u) = bl)
    (hcase : bn ≠ 0 ∧ bm ≠ 0 ∧ bl = bn + bm) :
    Calls Try.prog 7 #[.slice A na ca, .slice A2 nb cb, .int .u16 (x : Int)] w fun e w' => e = .returned (.bool true) ∧ Below w.heap.size w w' := by
  have lvu := mul_len hva hub
  obtain ⟨r, hr⟩ : ∃ r, x % 2001 = r := ⟨_, rfl⟩
  obtain ⟨hr1, w1, w2, w3, w4⟩ := u16_facts hx hr
  have lup := up_len hva (b := r) hr1
  have bb1 := nm_blen hva h1
  have bb2 := nm_blen hub h2
  rw [e1] at bb1
  rw [e2] at bb2
  obtain ⟨w5, w6⟩ := sum_facts bb1 bb2
  have E1 := Lib.hid e1
  have E2 := Lib.hid e2
  have E3 := Lib.hid e3
  clear e1 e2 e3 hr bb1 bb2
  obtain ⟨hn0, hm0, hbl⟩ := hcase
  have t1 := int_ne hn0
  have t2 := int_ne hm0
  have t3 := sum_is hbl
  clear hn0 hm0 hbl
  go_enter Try.func7, Try.ntmps7
  go_wp2_with fail
  refine (malive_any _).mono ?_
  rintro e w1 ⟨rfl, hb1⟩
  replace hva := hva.below hb1
  replace hub := hub.below hb1
  go_wp2_with fail
  refine (mul_nm A A2 na ca nb cb v u _ hva hub (by omega) (by omega)).mono ?_
  rintro e w2 ⟨Ax, kx, cx, rfl, ox, hb2⟩
  have rx := ox.nm
  have lx : kx ≤ 400 := by have := ox.rd.2.1; omega
  clear ox
  clear lvu
  replace hva := hva.below hb2
  replace hub := hub.below hb2
  replace hb2 := below_then hb1 hb2
  clear hb1
  go_wp2_with fail
  refine (long_nm A na ca v _ hva (by omega)).mono ?_
  rw [E1.out]
  rintro e w3 ⟨rfl, hb3⟩
  replace hva := hva.below hb3
  replace hub := hub.below hb3
  replace rx := rx.below hb3
  replace hb3 := below_then hb2 hb3
  clear hb2
  go_wp2_with fail
  refine (long_nm A2 nb cb u _ hub (by omega)).mono ?_
  rw [E2.out]
  rintro e w4 ⟨rfl, hb4⟩
  replace hva := hva.below hb4
  replace hub := hub.below hb4
  replace rx := rx.below hb4
  replace hb4 := below_then hb3 hb4
  clear hb3
  go_wp2_with fail
  refine (long_nm Ax kx cx (v * u) _ rx (by omega)).mono ?_
  rw [E3.out]
  rintro e w5 ⟨rfl, hb5⟩
  replace hva := hva.below hb5
  replace hub := hub.below hb5
  replace rx := rx.below hb5
  replace hb5 := below_then hb4 hb5
  clear hb4
  go_wp2_with fail
  refine (up_nm _ 1 1 1 _ r (nm_new1 _ 1 _ B64_gt rfl) (by omega) (by omega)).mono ?_
  rintro e w6 ⟨At, kt, ct, rfl, ot, hb6⟩
  replace hb6 := below_new hb6
  have rt := ot.nm
  have lt0 := up_len (nm_new1 w 1 27 B64_gt rfl) (b := r) hr1
  have lt : kt ≤ 33 := by have := ot.rd.2.1; omega
  clear ot lt0
  have ly0 := mul_len hva rt
  replace hva := hva.below hb6
  replace hub := hub.below hb6
  replace rx := rx.below hb6
  replace hb6 := below_then hb5 hb6
  clear hb5
  go_wp2_with fail
  refine (mul_nm A At na ca kt ct v (1 * 2 ^ r) _ hva rt (by omega) (by omega)).mono ?_
  rintro e w7 ⟨Ay, ky, cy, rfl, oy, hb7⟩
  have ry := oy.nm
  have ly : ky ≤ 233 := by have := oy.rd.2.1; omega
  clear oy
  clear ly0
  replace hva := hva.below hb7
  replace hub := hub.below hb7
  replace rx := rx.below hb7
  replace rt := rt.below hb7
  replace hb7 := below_then hb6 hb7
  clear hb6
  go_wp2_with fail
  refine (up_nm A na ca v _ r hva (by omega) (by omega)).mono ?_
  rintro e w8 ⟨Az, kz, cz, rfl, oz, hb8⟩
  have rz := oz.nm
  have lz : kz ≤ 232 := by have := oz.rd.2.1; omega
  clear oz
  clear lup
  replace hva := hva.below hb8
  replace hub := hub.below hb8
  replace rx := rx.below hb8
  replace rt := rt.below hb8
  replace ry := ry.below hb8
  replace hb8 := below_then hb7 hb8
  clear hb7
  go_wp2_with fail
  refine (same_eq Ay Az ky cy kz cz (v * (1 * 2 ^ r)) (v * 2 ^ r) _ ry rz (by omega) (by omega) (by rw [Nat.one_mul])).mono ?_
  rintro e w9 ⟨rfl, hb9⟩
  replace hva := hva.below hb9
  replace hub := hub.below hb9
  replace rx := rx.below hb9
  replace rt := rt.below hb9
  replace ry := ry.below hb9
  replace rz := rz.below hb9
  replace hb9 := below_then hb8 hb9
  clear hb8
  go_wp2_with fail
  go_ret
  exact ⟨rfl, hb9⟩

set_option maxRecDepth 100000 in
set_option maxHeartbeats 1500000 in
theorem mulLong_ok4 (x v u bn bm bl : Nat) (hx : x ≤ 65535) (hva : Nm w A na ca v) (hub : Nm w A2 nb cb u) (h1 : na ≤ 200) (h2 : nb ≤ 200) (e1 : blen v = bn) (e2 : blen u = bm) (e3 : blen (v * u) = bl)
    (hcase : bn ≠ 0 ∧ bm ≠ 0 ∧ bn + bm = bl + 1) :
    Calls Try.prog 7 #[.slice A na ca, .slice A2 nb cb, .int .u16 (x : Int)] w fun e w' => e = .returned (.bool true) ∧ Below w.heap.size w w' := by
  have lvu := mul_len hva hub
  obtain ⟨r, hr⟩ : ∃ r, x % 2001 = r := ⟨_, rfl⟩
  obtain ⟨hr1, w1, w2, w3, w4⟩ := u16_facts hx hr
  have lup := up_len hva (b := r) hr1
  have bb1 := nm_blen hva h1
  have bb2 := nm_blen hub h2
  rw [e1] at bb1
  rw [e2] at bb2
  obtain ⟨w5, w6⟩ := sum_facts bb1 bb2
  have E1 := Lib.hid e1
  have E2 := Lib.hid e2
  have E3 := Lib.hid e3
  clear e1 e2 e3 hr bb1 bb2
  obtain ⟨hn0, hm0, hbl⟩ := hcase
  have t1 := int_ne hn0
  have t2 := int_ne hm0
  obtain ⟨t3, t4⟩ := sum_less hbl
  clear hn0 hm0 hbl
  go_enter Try.func7, Try.ntmps7
  go_wp2_with fail
  refine (malive_any _).mono ?_
  rintro e w1 ⟨rfl, hb1⟩
  replace hva := hva.below hb1
  replace hub := hub.below hb1
  go_wp2_with fail
  refine (mul_nm A A2 na ca nb cb v u _ hva hub (by omega) (by omega)).mono ?_
  rintro e w2 ⟨Ax, kx, cx, rfl, ox, hb2⟩
  have rx := ox.nm
  have lx : kx ≤ 400 := by have := ox.rd.2.1; omega
  clear ox
  clear lvu
  replace hva := hva.below hb2
  replace hub := hub.below hb2
  replace hb2 := below_then hb1 hb2
  clear hb1
  go_wp2_with fail
  refine (long_nm A na ca v _ hva (by omega)).mono ?_
  rw [E1.out]
  rintro e w3 ⟨rfl, hb3⟩
  replace hva := hva.below hb3
  replace hub := hub.below hb3
  replace rx := rx.below hb3
  replace hb3 := below_then hb2 hb3
  clear hb2
  go_wp2_with fail
  refine (long_nm A2 nb cb u _ hub (by omega)).mono ?_
  rw [E2.out]
  rintro e w4 ⟨rfl, hb4⟩
  replace hva := hva.below hb4
  replace hub := hub.below hb4
  replace rx := rx.below hb4
  replace hb4 := below_then hb3 hb4
  clear hb3
  go_wp2_with fail
  refine (long_nm Ax kx cx (v * u) _ rx (by omega)).mono ?_
  rw [E3.out]
  rintro e w5 ⟨rfl, hb5⟩
  replace hva := hva.below hb5
  replace hub := hub.below hb5
  replace rx := rx.below hb5
  replace hb5 := below_then hb4 hb5
  clear hb4
  go_wp2_with fail
  refine (up_nm _ 1 1 1 _ r (nm_new1 _ 1 _ B64_gt rfl) (by omega) (by omega)).mono ?_
  rintro e w6 ⟨At, kt, ct, rfl, ot, hb6⟩
  replace hb6 := below_new hb6
  have rt := ot.nm
  have lt0 := up_len (nm_new1 w 1 27 B64_gt rfl) (b := r) hr1
  have lt : kt ≤ 33 := by have := ot.rd.2.1; omega
  clear ot lt0
  have ly0 := mul_len hva rt
  replace hva := hva.below hb6
  replace hub := hub.below hb6
  replace rx := rx.below hb6
  replace hb6 := below_then hb5 hb6
  clear hb5
  go_wp2_with fail
  refine (mul_nm A At na ca kt ct v (1 * 2 ^ r) _ hva rt (by omega) (by omega)).mono ?_
  rintro e w7 ⟨Ay, ky, cy, rfl, oy, hb7⟩
  have ry := oy.nm
  have ly : ky ≤ 233 := by have := oy.rd.2.1; omega
  clear oy
  clear ly0
  replace hva := hva.below hb7
  replace hub := hub.below hb7
  replace rx := rx.below hb7
  replace rt := rt.below hb7
  replace hb7 := below_then hb6 hb7
  clear hb6
  go_wp2_with fail
  refine (up_nm A na ca v _ r hva (by omega) (by omega)).mono ?_
  rintro e w8 ⟨Az, kz, cz, rfl, oz, hb8⟩
  have rz := oz.nm
  have lz : kz ≤ 232 := by have := oz.rd.2.1; omega
  clear oz
  clear lup
  replace hva := hva.below hb8
  replace hub := hub.below hb8
  replace rx := rx.below hb8
  replace rt := rt.below hb8
  replace ry := ry.below hb8
  replace hb8 := below_then hb7 hb8
  clear hb7
  go_wp2_with fail
  refine (same_eq Ay Az ky cy kz cz (v * (1 * 2 ^ r)) (v * 2 ^ r) _ ry rz (by omega) (by omega) (by rw [Nat.one_mul])).mono ?_
  rintro e w9 ⟨rfl, hb9⟩
  replace hva := hva.below hb9
  replace hub := hub.below hb9
  replace rx := rx.below hb9
  replace rt := rt.below hb9
  replace ry := ry.below hb9
  replace rz := rz.below hb9
  replace hb9 := below_then hb8 hb9
  clear hb8
  go_wp2_with fail
  go_ret
  exact ⟨rfl, hb9⟩

theorem mulLong_any (x : Nat) (hx : x ≤ 65535) (hra : Rd w A na a) (hrb : Rd w A2 nb b) (q1 : na ≤ ca ∧ ca ≤ 9223372036854775807) (q2 : nb ≤ cb ∧ cb ≤ 9223372036854775807) :
    Calls Try.prog 7 #[.slice A na ca, .slice A2 nb cb, .int .u16 (x : Int)] w fun e w' => e = .returned (.bool true) ∧ Below w.heap.size w w' := by
  by_cases hl : 200 < na ∨ 200 < nb
  · exact mulLong_long A A2 na ca nb cb w _ hl (by omega) (by omega)
  · cases hm : [a, b].all may with
    | false => exact mulLong_bad A A2 na ca nb cb a b w _ hra hrb (by omega) (by omega) hm
    | true =>
      have hm2 : may a = true ∧ may b = true := by simpa using hm
      have n1 := nm_of hra hm2.1 q1.1 q1.2
      have n2 := nm_of hrb hm2.2 q2.1 q2.2
      rcases long_cases (val a) (val b) with h | h | h | h
      · exact mulLong_ok1 A A2 na ca nb cb w x (val a) (val b) _ _ _ hx n1 n2 (by omega) (by omega) rfl rfl rfl h
      · exact mulLong_ok2 A A2 na ca nb cb w x (val a) (val b) _ _ _ hx n1 n2 (by omega) (by omega) rfl rfl rfl h
      · exact mulLong_ok3 A A2 na ca nb cb w x (val a) (val b) _ _ _ hx n1 n2 (by omega) (by omega) rfl rfl rfl h
      · exact mulLong_ok4 A A2 na ca nb cb w x (val a) (val b) _ _ _ hx n1 n2 (by omega) (by omega) rfl rfl rfl h
end
end Go.Proofs.Ytmiobjkbcmicbaa
