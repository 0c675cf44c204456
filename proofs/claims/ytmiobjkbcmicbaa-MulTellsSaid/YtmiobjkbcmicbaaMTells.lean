/- The law MulTells: products, however they are made, are the document's. -/
import Derived.Test.YtmiobjkbcmicbaaTimes
import Derived.Test.YtmiobjkbcmicbaaMSpec
namespace Go.Proofs.Ytmiobjkbcmicbaa
open Go.RowKit Go.Shelf
set_option linter.unusedVariables false
set_option linter.unusedSimpArgs false

section
variable (A A2 : Option Addr) (na ca nb cb : Nat) (a b : List Nat) (w : World)

theorem school_spec (hra : Rd w A na a) (hrb : Rd w A2 nb b) (hna : na ≤ 100000) (hnb : nb ≤ 100000) (h1 : na ≤ ca ∧ ca ≤ 9223372036854775807) (h2 : nb ≤ cb ∧ cb ≤ 9223372036854775807) :
    Calls Try.prog 14 #[.slice A na ca, .slice A2 nb cb] w (Answers w (mulL a b) (err2 a b)) := by
  cases h : both a b with
  | true =>
    have e1 : mulL a b = limbs (val a * val b) := by simp [mulL, h]
    have e2 : err2 a b = 0 := by simp [err2, h]
    rw [e1, e2]
    have hm : may a = true ∧ may b = true := by simpa [both] using h
    obtain ⟨N, hN⟩ : ∃ N, N = 100000 := ⟨_, rfl⟩
    have n1 := nm_of hra hm.1 h1.1 h1.2
    have n2 := nm_of hrb hm.2 h2.1 h2.2
    exact School_ok A A2 na ca nb cb (val a) (val b) N w n1 n2 (by omega) (nm_lt n1 (by omega)) (nm_lt n2 (by omega))
  | false =>
    have e1 : mulL a b = [] := by simp [mulL, h]
    have e2 : err2 a b = 8 := by simp [err2, h]
    rw [e1, e2]
    refine (School_bad A A2 na ca nb cb a b w hra hrb (by omega) (by omega) (by rw [both_all]; exact h)).mono ?_
    rintro e w' ⟨rfl, hb⟩
    exact answers_nil hb

theorem split_spec (hra : Rd w A na a) (hrb : Rd w A2 nb b) (hna : na ≤ 100000) (hnb : nb ≤ 100000) (h1 : na ≤ ca ∧ ca ≤ 9223372036854775807) (h2 : nb ≤ cb ∧ cb ≤ 9223372036854775807) :
    Calls Try.prog 10 #[.slice A na ca, .slice A2 nb cb] w (Answers w (mulL a b) (err2 a b)) := by
  cases h : both a b with
  | true =>
    have e1 : mulL a b = limbs (val a * val b) := by simp [mulL, h]
    have e2 : err2 a b = 0 := by simp [err2, h]
    rw [e1, e2]
    have hm : may a = true ∧ may b = true := by simpa [both] using h
    obtain ⟨N, hN⟩ : ∃ N, N = 100000 := ⟨_, rfl⟩
    have n1 := nm_of hra hm.1 h1.1 h1.2
    have n2 := nm_of hrb hm.2 h2.1 h2.2
    exact Split_ok A A2 na ca nb cb (val a) (val b) N w n1 n2 (by omega) (nm_lt n1 (by omega)) (nm_lt n2 (by omega))
  | false =>
    have e1 : mulL a b = [] := by simp [mulL, h]
    have e2 : err2 a b = 8 := by simp [err2, h]
    rw [e1, e2]
    refine (Split_bad A A2 na ca nb cb a b w hra hrb (by omega) (by omega) (by rw [both_all]; exact h)).mono ?_
    rintro e w' ⟨rfl, hb⟩
    exact answers_nil hb

set_option maxRecDepth 100000 in
set_option maxHeartbeats 2000000 in
/-- The document's Mul. -/
theorem rMul_spec (hra : Rd w A na a) (hrb : Rd w A2 nb b) (hna : na ≤ 100000) (hnb : nb ≤ 100000) :
    Calls Try.prog 15 #[.slice A na ca, .slice A2 nb cb] w (Answers w (mulL a b) (err2 a b)) := by
  cases hma : may a with
  | false =>
    have hb0 : both a b = false := by simp [both, hma]
    have e1 : mulL a b = [] := by simp [mulL, hb0]
    have e2 : err2 a b = 8 := by simp [err2, hb0]
    rw [e1, e2]
    have HM := Lib.hid hma
    clear hma hb0 e1 e2
    go_enter Try.func15, Try.ntmps15
    go_wp2_with fail
    refine (rMay_any A na ca a _ hra (by omega)).mono ?_
    rw [HM.out]
    rintro e w1 ⟨rfl, rfl⟩
    go_wp2_with fail
    go_ret2
    exact answers_nil (Below.refl _ _)
  | true =>
    cases hmb : may b with
    | false =>
      have hb0 : both a b = false := by simp [both, hmb]
      have e1 : mulL a b = [] := by simp [mulL, hb0]
      have e2 : err2 a b = 8 := by simp [err2, hb0]
      rw [e1, e2]
      have HM := Lib.hid hma
      have HM2 := Lib.hid hmb
      clear hma hmb hb0 e1 e2
      go_enter Try.func15, Try.ntmps15
      go_wp2_with fail
      refine (rMay_any A na ca a _ hra (by omega)).mono ?_
      rw [HM.out]
      rintro e w1 ⟨rfl, rfl⟩
      go_wp2_with fail
      refine (rMay_any A2 nb cb b _ hrb (by omega)).mono ?_
      rw [HM2.out]
      rintro e w1 ⟨rfl, rfl⟩
      go_wp2_with fail
      go_ret2
      exact answers_nil (Below.refl _ _)
    | true =>
      have hb0 : both a b = true := by simp [both, hma, hmb]
      have e1 : mulL a b = limbs (val a * val b) := by simp [mulL, hb0]
      have e2 : err2 a b = 0 := by simp [err2, hb0]
      rw [e1, e2]
      have HM := Lib.hid hma
      have HM2 := Lib.hid hmb
      clear hma hmb hb0 e1 e2
      go_enter Try.func15, Try.ntmps15
      go_wp2_with fail
      refine (rMay_any A na ca a _ hra (by omega)).mono ?_
      rw [HM.out]
      rintro e w1 ⟨rfl, rfl⟩
      go_wp2_with fail
      refine (rMay_any A2 nb cb b _ hrb (by omega)).mono ?_
      rw [HM2.out]
      rintro e w1 ⟨rfl, rfl⟩
      go_wp2_with fail
      refine (times_any A A2 na ca nb cb a b _ hra hrb hna hnb).mono ?_
      rintro e w1 ⟨A3, k3, c3, rfl, o3, hb3⟩
      go_wp2_with fail
      go_ret2
      exact ⟨_, _, _, rfl, o3, hb3⟩
theorem mulL_len (hra : Rd w A na a) (hrb : Rd w A2 nb b) : (mulL a b).length ≤ na + nb := by
  unfold mulL
  split
  · rw [← hra.len, ← hrb.len]; exact length_mul hra.words hrb.words
  · simp

set_option maxRecDepth 100000 in
set_option maxHeartbeats 2000000 in
theorem mulTells_long (hb : 100 < na ∨ 100 < nb) (h1 : na ≤ 9223372036854775807) (h2 : nb ≤ 9223372036854775807) :
    Calls Try.prog 4 #[.slice A na ca, .slice A2 nb cb] w fun e w' => e = .returned (.bool true) ∧ Below w.heap.size w w' := by
  by_cases ha : 100 < na
  · clear hb
    go_enter Try.func4, Try.ntmps4
    go_wp2
    go_ret
    exact ⟨rfl, Below.refl _ _⟩
  · have hc : 100 < nb := by omega
    clear hb
    go_enter Try.func4, Try.ntmps4
    go_wp2
    go_ret
    exact ⟨rfl, Below.refl _ _⟩

set_option maxRecDepth 100000 in
set_option maxHeartbeats 3000000 in
theorem mulTells_short (hra : Rd w A na a) (hrb : Rd w A2 nb b) (h1 : na ≤ 100) (h2 : nb ≤ 100) (q2 : nb ≤ cb ∧ cb ≤ 9223372036854775807) (hca : A = none → na = 0 ∧ ca = 0) :
    Calls Try.prog 4 #[.slice A na ca, .slice A2 nb cb] w fun e w' => e = .returned (.bool true) ∧ Below w.heap.size w w' := by
  obtain ⟨i0, hi0, hz0, hz1, hz2⟩ := info_parts u64_info
  have hlm := mulL_len A A2 na nb a b w hra hrb
  have HCA := Lib.hid hca
  clear hca
  go_enter Try.func4, Try.ntmps4
  go_wp2_with (at_builtin; go_loud (refine wpList_copy rfl _ _ 23 rfl i0 Try.underlying23 hi0 hz0 hz1 hz2 rfl A na ca a rfl HCA.out hra h1 ?_); intro Ao co w1 hown hb1)
  replace hra := hra.below hb1
  replace hrb := hrb.below hb1
  have hro := hown.rd.1
  have qo : na ≤ co ∧ co ≤ 9223372036854775807 := ⟨hown.rd.2.2.1, hown.rd.2.2.2⟩
  clear hown
  go_wp2_with fail
  have ltO := hro.lt
  have ltA := hra.lt
  have hGx : w.heap.size ≤ w1.heap.size := hb1.size
  refine (mul_spec Ao A2 na co nb cb a b _ hro hrb (by omega) (by omega) qo q2).mono ?_
  rintro e w2 ⟨Ax, kx, cx, rfl, ox, hb2⟩
  have lx : kx ≤ 200 := by have := ox.rd.2.1; omega
  generalize hBx : w1.heap.size = Bx at ox ltO ltA hGx
  replace hra := hra.below hb2
  replace hrb := hrb.below hb2
  replace hro := hro.below hb2
  replace hb2 := below_then hb1 hb2
  clear hb1
  go_wp2_with fail
  refine (school_spec Ao A2 na co nb cb a b _ hro hrb (by omega) (by omega) qo q2).mono ?_
  rintro e w3 ⟨Ay, ky, cy, rfl, oy, hb3⟩
  have ly : ky ≤ 200 := by have := oy.rd.2.1; omega
  have ry := oy.rd.1
  clear oy
  replace hra := hra.below hb3
  replace hrb := hrb.below hb3
  replace hro := hro.below hb3
  replace ox := ox.below hb3
  replace hb3 := below_then hb2 hb3
  clear hb2
  go_wp2_with fail
  refine (split_spec Ao A2 na co nb cb a b _ hro hrb (by omega) (by omega) qo q2).mono ?_
  rintro e w4 ⟨Az, kz, cz, rfl, oz, hb4⟩
  have lz : kz ≤ 200 := by have := oz.rd.2.1; omega
  have rz := oz.rd.1
  clear oz
  replace hra := hra.below hb4
  replace hrb := hrb.below hb4
  replace hro := hro.below hb4
  replace ox := ox.below hb4
  replace ry := ry.below hb4
  replace hb4 := below_then hb3 hb4
  clear hb3
  go_wp2_with fail
  refine (rMul_spec A A2 na ca nb cb a b _ hra hrb (by omega) (by omega)).mono ?_
  rintro e w5 ⟨Av, kv, cv, rfl, ov, hb5⟩
  have lv : kv ≤ 200 := by have := ov.rd.2.1; omega
  have rv := ov.rd.1
  clear ov
  replace hra := hra.below hb5
  replace hrb := hrb.below hb5
  replace hro := hro.below hb5
  replace ox := ox.below hb5
  replace ry := ry.below hb5
  replace rz := rz.below hb5
  replace hb5 := below_then hb4 hb5
  clear hb4
  go_wp2_with fail
  refine (same_any _ _ _ _ _ _ (mulL a b) (mulL a b) _ ox.rd.1 rv (by omega) (by omega)).mono ?_
  rw [decide_eq_true (show mulL a b = mulL a b from rfl)]
  rintro e w6 ⟨rfl, hb6⟩
  replace hra := hra.below hb6
  replace hrb := hrb.below hb6
  replace hro := hro.below hb6
  replace ox := ox.below hb6
  replace ry := ry.below hb6
  replace rz := rz.below hb6
  replace rv := rv.below hb6
  replace hb6 := below_then hb5 hb6
  clear hb5
  go_wp2_with fail
  refine (same_any _ _ _ _ _ _ (mulL a b) (mulL a b) _ ry rv (by omega) (by omega)).mono ?_
  rw [decide_eq_true (show mulL a b = mulL a b from rfl)]
  rintro e w7 ⟨rfl, hb7⟩
  replace hra := hra.below hb7
  replace hrb := hrb.below hb7
  replace hro := hro.below hb7
  replace ox := ox.below hb7
  replace rz := rz.below hb7
  replace rv := rv.below hb7
  replace hb7 := below_then hb6 hb7
  clear hb6
  go_wp2_with fail
  refine (same_any _ _ _ _ _ _ (mulL a b) (mulL a b) _ rz rv (by omega) (by omega)).mono ?_
  rw [decide_eq_true (show mulL a b = mulL a b from rfl)]
  rintro e w8 ⟨rfl, hb8⟩
  replace hra := hra.below hb8
  replace hrb := hrb.below hb8
  replace hro := hro.below hb8
  replace ox := ox.below hb8
  replace hb8 := below_then hb7 hb8
  clear hb7
  have hlx : kx ≤ 200 := lx
  go_wp2_with fail
  go_loopw [15] (fun i W => ∃ (k : Nat) (l : List Nat), k ≤ kx ∧ i = .int .i64 (k : Int) ∧ Own W Bx (.slice Ax kx cx) l ∧ KeepsOf (But w8.heap.size (.slice Ax kx cx)) w8 W ∧ Below w.heap.size w W) (fun i _ => kx - (intOf i).toNat)
  case atStart => exact ⟨0, _, by omega, rfl, ox, KeepsOf.refl _, hb8⟩
  case round =>
    obtain ⟨k, l, hk, rfl, ol, hkeep, hB⟩ := hrel
    by_cases hlt : k < kx
    · obtain ⟨g, rfl, hg, _⟩ := own_at ol (by omega)
      have hcell := (own_cell ol hlt).1
      have hfr := (own_cell ol hlt).2
      have OL := Lib.hid ol
      have HK := Lib.hid hkeep
      clear ol hkeep hra hrb hro ox
      go_wp2
      go_roundw
      case rel =>
        rw [incr_word]
        exact ⟨k + 1, _, by omega, by go_num, own_set OL.out hlt (Nat.mod_lt _ B64_pos), set_keeps _ _ HK.out, hB.setCell (p := ⟨g, k, none⟩) (Nat.le_trans hGx hg) _⟩
      case measure => simp [intOf]; omega
    · have hkn : k = kx := by omega
      subst hkn
      replace hra := rd_but hra ox ltA hkeep
      replace hro := rd_but hro ox ltO hkeep
      clear ol hkeep hrb ox ltO ltA hb8
      have hb20 := hB
      clear hB
      go_wp2_with fail
      refine (same_any _ _ _ _ _ _ a a _ hro hra (by omega) (by omega)).mono ?_
      rw [decide_eq_true (show a = a from rfl)]
      rintro e w21 ⟨rfl, hb21⟩
      replace hra := hra.below hb21
      replace hro := hro.below hb21
      replace hb21 := below_then hb20 hb21
      clear hb20
      go_wp2_with fail
      go_ret
      exact ⟨rfl, hb21⟩

theorem mulTells_any (hra : Rd w A na a) (hrb : Rd w A2 nb b) (q1 : na ≤ ca ∧ ca ≤ 9223372036854775807) (q2 : nb ≤ cb ∧ cb ≤ 9223372036854775807) (hca : A = none → na = 0 ∧ ca = 0) :
    Calls Try.prog 4 #[.slice A na ca, .slice A2 nb cb] w fun e w' => e = .returned (.bool true) ∧ Below w.heap.size w w' := by
  by_cases h : 100 < na ∨ 100 < nb
  · exact mulTells_long A A2 na ca nb cb w h (by omega) (by omega)
  · exact mulTells_short A A2 na ca nb cb a b w hra hrb (by omega) (by omega) q2 hca
end
end Go.Proofs.Ytmiobjkbcmicbaa
