import Derived.Test.YtjipdfebehcggaaGreatDoorZZM
import Derived.Test.YtjipdfebehcggaaGreatDoorZDivSpec
import Derived.Test.YtjipdfebehcggaaGreatDoorZPower
import Derived.Test.YtjipdfebehcggaaGreatDoorZZC
import Derived.Test.YtjipdfebehcggaaGreatDoorZZR
import Derived.Test.YtjipdfebehcggaaGreatDoorZZX
import Derived.Shelf.Pu.ParseUintPublic10
import Derived.Ground.MpProg
import Derived.Test.YtjipdfebehcggaaGreatDoorProg
import Derived.Test.YtjipdfebehcggaaGreatDoorZMSpec
import Derived.Test.YtjipdfebehcggaaGreatDoorZBit
import Derived.Test.YtjipdfebehcggaaGreatDoorZRefParse
import Derived.Test.YtjipdfebehcggaaGreatDoorZGTexts
import Derived.Lib.OthersKept
import Derived.Lib.AtoiErrMem
import Derived.Test.YtjipdfebehcggaaGreatDoorZGDig
import Derived.Test.YtjipdfebehcggaaGreatDoorZZB
import Derived.Test.YtjipdfebehcggaaGreatDoorZZP
import Derived.Test.YtjipdfebehcggaaGreatDoorZDNames
import Derived.Test.YtjipdfebehcggaaGreatDoorZZFr
/- ZD ZFloor ZY ZPre Pu GPar ZN ZV ZQ ZAl ZHeld ZQuo. -/
/- The document's whole numbers: the quotient, rounded down. -/
namespace Go.Proofs.YtjipdfebehcggaaGreatDoor
open Go.RowKit Go.Shelf
set_option linter.unusedVariables false
set_option linter.unusedSimpArgs false

section
variable {A A2 : Option Addr} {na ca nb cb : Nat} {p q : Bool} {a b : List Nat} {w : World} {z y : Int}
set_option maxRecDepth 100000 in
set_option maxHeartbeats 2000000 in
theorem rDownZ_any (ha : ZNm w A na ca z) (hb : ZNm w A2 nb cb y) (hna : na ≤ 900) (hnb : nb ≤ 900) (hy : y ≠ 0) : Calls Tryz.prog 39 #[zV z A na ca, zV y A2 nb cb] w (ZOne w (Int.fdiv z y)) := by
  unfold ZOne zV zv
  have hbm : may (limbs y.natAbs) = true := may_limbs _
  have hbe : limbs y.natAbs ≠ [] := fun e => by have := val_limbs y.natAbs; rw [e] at this; simp [val] at this; omega
  have HT := Lib.hid (fun W (hb0 : Below w.heap.size w W) => over_any A A2 na ca nb cb _ _ W (ha.rd.below hb0) (hb.rd.below hb0) hna hnb hbm hbe)
  rw [val_limbs, val_limbs] at HT
  have LQ : Hid ((limbs (z.natAbs / y.natAbs)).length ≤ 900) := by
    have := length_of_le (words_limbs z.natAbs) (n := z.natAbs / y.natAbs) (by rw [val_limbs]; exact Nat.div_le_self _ _)
    rw [ha.rd.len] at this
    show _ ≤ _
    omega
  by_cases hs : decide (z < 0) = decide (y < 0)
  · rw [fdiv_same hy hs, hs]
    obtain ⟨d, hd⟩ : ∃ d, decide (y < 0) = d := ⟨_, rfl⟩
    rw [hd]
    generalize z.natAbs / y.natAbs = Q at HT LQ ⊢
    rw [decide_eq_false (by omega : ¬ ((Q : Nat) : Int) < 0), Int.natAbs_natCast]
    have T0 := tri_box w d A na ca d A2 nb cb
    have HT0 := Lib.hid T0
    clear hs hd ha hb T0 hbm hbe hy
    go_enter Tryz.func39, Tryz.ntmps39
    go_wp2_with fail
    refine (HT.out _ HT0.out.t.b).mono ?_
    rintro e w4 ⟨A3, k3, c3, A4, k4, c4, rfl, o3, o4, hb3⟩
    have T4 := HT0.out.next hb3
    have xa0 := T4.t.x.c0
    have xa1 := T4.t.x.c1
    have xb0 := T4.t.y.c0
    have xb1 := T4.t.y.c1
    have r0 := T4.r.c0
    have r1 := T4.r.c1
    have f0 := T4.r.f 0
    have f1 := T4.r.f 1
    go_wp2
    refine bodyPost_ret (v := zv false A3 k3 c3 ) (by simp [results, Tryz.results39, go_sem, r0, r1, zv]) rfl ?_
    exact ⟨_, _, _, rfl, own_box (show w.heap.size + 1 + 1 < _ from (Array.getElem?_eq_some_iff.1 HT0.out.r).1) (show w.heap.size ≤ w.heap.size + 1 + 1 by omega) o3 _ _, box_below (show w.heap.size ≤ w.heap.size + 1 + 1 by omega) T4.t.b _ _⟩
  · rw [fdiv_diff hy hs]
    have hq0 : ¬ (decide (z < 0) = decide (y < 0)) := hs
    obtain ⟨d1, hd1⟩ : ∃ d, decide (z < 0) = d := ⟨_, rfl⟩
    obtain ⟨d2, hd2⟩ : ∃ d, decide (y < 0) = d := ⟨_, rfl⟩
    rw [hd1, hd2] at hq0
    rw [hd1, hd2]
    have hne : (d1 == d2) = false := by simpa using hq0
    have HX : Hid (∀ (W : World) (B : Nat) (A3 : Option Addr) (k3 c3 M : Nat), Own W B (.slice A3 k3 c3) (limbs M) → decide (-(M : Int) < 0) = decide (k3 ≠ 0)) := by
      show _
      intro W B A3 k3 c3 M o
      have h := o.nm.zero
      rw [Bool.eq_iff_iff]
      simp
      omega
    have HZ : Hid (∀ (W : World) (B : Nat) (A3 : Option Addr) (k3 c3 M : Nat), Own W B (.slice A3 k3 c3) (limbs M) → (k3 = 0 ↔ M = 0)) := by
      show _
      intro W B A3 k3 c3 M o
      exact o.nm.zero
    generalize z.natAbs / y.natAbs = Q at HT LQ ⊢
    generalize z.natAbs % y.natAbs = R at HT ⊢
    rw [Int.natAbs_neg, Int.natAbs_natCast]
    have T0 := tri_box w d1 A na ca d2 A2 nb cb
    have HT0 := Lib.hid T0
    have HQ : Hid (∀ M : Nat, ∃ v, v = decide (-(M : Int) < 0)) := by show _; exact fun M => ⟨_, rfl⟩
    clear hs hd1 hd2 ha hb T0 hbm hbe hy hq0
    by_cases hR : R = 0
    · rw [if_pos hR, Nat.add_zero]
      generalize hv : decide (-(Q : Int) < 0) = v at ⊢
      have HV := Lib.hid hv
      clear hv
      go_enter Tryz.func39, Tryz.ntmps39
      go_wp2_with fail
      refine (HT.out _ HT0.out.t.b).mono ?_
      rintro e w4 ⟨A3, k3, c3, A4, k4, c4, rfl, o3, o4, hb3⟩
      have T4 := HT0.out.next hb3
      have xa0 := T4.t.x.c0
      have xa1 := T4.t.x.c1
      have xb0 := T4.t.y.c0
      have xb1 := T4.t.y.c1
      have r0 := T4.r.c0
      have r1 := T4.r.c1
      have f0 := T4.r.f 0
      have f1 := T4.r.f 1
      have hk4 : k4 = 0 := (HZ.out _ _ _ _ _ _ o4).2 hR
      have hk41 : ((0 : Int) < ↑k4) = False := by subst hk4; simp
      have hk42 : (0 < k4) = False := by subst hk4; simp
      have HE := HX.out _ _ _ _ _ _ o3
      rw [HV.out] at HE
      clear hk4 hR
      by_cases hk : k3 = 0
      · have hk1 : ((0 : Int) < ↑k3) = False := by subst hk; simp
        have hk2 : (0 < k3) = False := by subst hk; simp
        have HD : Hid (v = false) := by show _ = _; rw [HE, hk]; rfl
        clear HE hk
        go_wp2
        refine bodyPost_ret (v := zv false A3 k3 c3 ) (by simp [results, Tryz.results39, go_sem, r0, r1, zv, hne]) rfl ?_
        exact ⟨_, _, _, by rw [HD.out]; rfl, own_box (show w.heap.size + 1 + 1 < _ from (Array.getElem?_eq_some_iff.1 HT0.out.r).1) (show w.heap.size ≤ w.heap.size + 1 + 1 by omega) o3 _ _, box_below (show w.heap.size ≤ w.heap.size + 1 + 1 by omega) T4.t.b _ _⟩
      · have hk1 : ((0 : Int) < ↑k3) := by omega
        have hk2 : 0 < k3 := by omega
        have HD : Hid (v = true) := by show _ = _; rw [HE]; exact decide_eq_true hk
        clear HE hk
        go_wp2
        refine bodyPost_ret (v := zv true A3 k3 c3 ) (by simp [results, Tryz.results39, go_sem, r0, r1, zv, hne]) rfl ?_
        exact ⟨_, _, _, by rw [HD.out]; rfl, own_box (show w.heap.size + 1 + 1 < _ from (Array.getElem?_eq_some_iff.1 HT0.out.r).1) (show w.heap.size ≤ w.heap.size + 1 + 1 by omega) o3 _ _, box_below (show w.heap.size ≤ w.heap.size + 1 + 1 by omega) T4.t.b _ _⟩
    · rw [if_neg hR]
      generalize hv : decide (-((Q + 1 : Nat) : Int) < 0) = v at ⊢
      have HV := Lib.hid hv
      clear hv
      go_enter Tryz.func39, Tryz.ntmps39
      go_wp2_with fail
      refine (HT.out _ HT0.out.t.b).mono ?_
      rintro e w4 ⟨A3, k3, c3, A4, k4, c4, rfl, o3, o4, hb3⟩
      have T4 := HT0.out.next hb3
      have xa0 := T4.t.x.c0
      have xa1 := T4.t.x.c1
      have xb0 := T4.t.y.c0
      have xb1 := T4.t.y.c1
      have r0 := T4.r.c0
      have r1 := T4.r.c1
      have f0 := T4.r.f 0
      have f1 := T4.r.f 1
      have hk4 : k4 ≠ 0 := fun e => hR ((HZ.out _ _ _ _ _ _ o4).1 e)
      have hk41 : ((0 : Int) < ↑k4) := by omega
      have hk42 : 0 < k4 := by omega
      clear hk4 hR
      have hva : Nm w4 A3 k3 c3 Q := o3.nm
      have hl3 : k3 ≤ 1000 := by have := o3.rd.2.1; have := LQ.out; omega
      have T4h := Lib.hid T4
      clear o3 o4 hb3
      go_wp2_with fail
      refine (rSum_nm A3 _ k3 c3 1 1 Q 1 _ (hva.below (bxb _ _)) ⟨by rw [limbs_one]; exact rd_new1 w4 1 _ B64_gt, by omega, by omega⟩ hl3 (by omega)).mono ?_
      rintro e w5 ⟨A5, k5, c5, rfl, o5, hb5⟩
      have T5 := T4h.out.next (below_then (bxb _ _) hb5)
      have HG := (Array.getElem?_eq_some_iff.1 T4h.out.r).1
      clear xa0 xa1 xb0 xb1 r0 r1 f0 f1 hb5 hk41 hk42
      have r0 := T5.r.c0
      have r1 := T5.r.c1
      have f0 := T5.r.f 0
      have f1 := T5.r.f 1
      have hk5 : k5 ≠ 0 := fun e => by have := (HZ.out _ _ _ _ _ _ o5).1 e; omega
      have HE := HX.out _ _ _ _ _ _ o5
      rw [HV.out] at HE
      have HD : Hid (v = true) := by show _ = _; rw [HE]; exact decide_eq_true hk5
      have hk1 : ((0 : Int) < ↑k5) := by omega
      have hk2 : 0 < k5 := by omega
      clear HE hk5
      go_wp2
      refine bodyPost_ret (v := zv true A5 k5 c5) (by simp [results, Tryz.results39, go_sem, r0, r1, zv, hne]) rfl ?_
      exact ⟨_, _, _, by rw [HD.out]; rfl, own_box (show w.heap.size + 1 + 1 < _ by simp; omega) (show w.heap.size ≤ w.heap.size + 1 + 1 by omega) o5 _ _, box_below (show w.heap.size ≤ w.heap.size + 1 + 1 by omega) T5.t.b _ _⟩
end
end Go.Proofs.YtjipdfebehcggaaGreatDoor

/- The document's whole numbers: quotients, rounded down. -/
namespace Go.Proofs.YtjipdfebehcggaaGreatDoor
open Go.RowKit Go.Shelf
set_option linter.unusedVariables false
set_option linter.unusedSimpArgs false

set_option maxRecDepth 100000 in
set_option maxHeartbeats 2000000 in
theorem rFloorZ_any : Quo2Is Int.fdiv 15 := by
  intro A A2 na ca nb cb p q a b w h
  have T0 := tri_box w p A na ca q A2 nb cb
  have H1 := Lib.hid (rTwo_any (p := p) (q := q) (h.below T0.t.b))
  have HT0 := Lib.hid T0
  cases hm : twoM p a q b with
  | false =>
    have hE : quoE p a q b = 8 := by simp [quoE, hm]
    rw [show quoZ Int.fdiv p a q b = 0 by simp [quoZ, hE], hE]
    rw [twoE_no hm] at H1
    clear h hm T0 hE
    unfold zv at *
    go_enter Tryz.func15, Tryz.ntmps15
    go_wp2_with fail
    refine H1.out.mono ?_
    rintro e w1 ⟨rfl, hb1⟩
    have T1 := HT0.out.next hb1
    have xa0 := T1.t.x.c0
    have xa1 := T1.t.x.c1
    have xb0 := T1.t.y.c0
    have xb1 := T1.t.y.c1
    have r0 := T1.r.c0
    have r1 := T1.r.c1
    have f0 := T1.r.f 0
    have f1 := T1.r.f 1
    clear hb1
    go_wp2
    refine bodyPost_ret (v := .tuple #[zv false none 0 0, .int .i64 8]) (by simp [results, Tryz.results15, go_sem, r0, r1, zv]) rfl ?_
    exact zans_zero (box_below (show w.heap.size ≤ w.heap.size + 1 + 1 by omega) T1.t.b _ _)
  | true =>
    by_cases hb0 : b = []
    · have hE : quoE p a q b = 30 := by unfold quoE; rw [if_pos hm, if_pos hb0]
      have hnb : nb = 0 := by rw [← h.rb.len, hb0]; rfl
      rw [show quoZ Int.fdiv p a q b = 0 by simp [quoZ, hE], hE]
      rw [twoE_ok hm] at H1
      clear h hm hE hb0 T0
      subst hnb
      unfold zv at *
      go_enter Tryz.func15, Tryz.ntmps15
      go_wp2_with fail
      refine H1.out.mono ?_
      rintro e w1 ⟨rfl, hb1⟩
      have T1 := HT0.out.next hb1
      have xa0 := T1.t.x.c0
      have xa1 := T1.t.x.c1
      have xb0 := T1.t.y.c0
      have xb1 := T1.t.y.c1
      have r0 := T1.r.c0
      have r1 := T1.r.c1
      have f0 := T1.r.f 0
      have f1 := T1.r.f 1
      clear hb1
      go_wp2
      refine bodyPost_ret (v := .tuple #[zv false none 0 0, .int .i64 30]) (by simp [results, Tryz.results15, go_sem, r0, r1, zv]) rfl ?_
      exact zans_zero (box_below (show w.heap.size ≤ w.heap.size + 1 + 1 by omega) T1.t.b _ _)
    · have hE : quoE p a q b = 0 := by simp [quoE, hm, hb0]
      have hnb : 0 < nb := by rw [← h.rb.len]; exact List.length_pos_iff.2 hb0
      have hz := h.num hm
      have hy : zof q b ≠ 0 := fun e => by have := hz.2.1.zero.2 (by omega); omega
      have HN := Lib.hid (fun W (hb : Below w.heap.size w W) => rDownZ_any (w := W) (hz.1.below hb) (hz.2.1.below hb) (by have := h.la; omega) (by have := h.lb; omega) hy)
      rw [show quoZ Int.fdiv p a q b = Int.fdiv (zof p a) (zof q b) by simp [quoZ, hE], hE]
      rw [twoE_ok hm] at H1
      have hzv1 := hz.2.2.1
      have hzv2 := hz.2.2.2
      rw [← hzv1, ← hzv2] at HN
      clear h hm T0 hz hzv1 hzv2 hE hb0 hy
      generalize Int.fdiv (zof p a) (zof q b) = y at HN ⊢
      unfold zv at *
      go_enter Tryz.func15, Tryz.ntmps15
      go_wp2_with fail
      refine H1.out.mono ?_
      rintro e w1 ⟨rfl, hb1⟩
      have T1 := HT0.out.next hb1
      have HT1 := Lib.hid T1
      have xa0 := T1.t.x.c0
      have xa1 := T1.t.x.c1
      have xb0 := T1.t.y.c0
      have xb1 := T1.t.y.c1
      have r0 := T1.r.c0
      have r1 := T1.r.c1
      have f0 := T1.r.f 0
      have f1 := T1.r.f 1
      clear hb1
      go_wp2_with fail
      refine (HN.out _ T1.t.b).mono ?_
      rintro e w4 ⟨A3, k3, c3, rfl, o3, hb3⟩
      have T4 := HT1.out.next hb3
      clear xa0 xa1 xb0 xb1 r0 r1 f0 f1
      have xa0 := T4.t.x.c0
      have xa1 := T4.t.x.c1
      have xb0 := T4.t.y.c0
      have xb1 := T4.t.y.c1
      have r0 := T4.r.c0
      have r1 := T4.r.c1
      have f0 := T4.r.f 0
      have f1 := T4.r.f 1
      unfold zV zv
      go_wp2
      refine bodyPost_ret (v := .tuple #[zV y A3 k3 c3, .int .i64 0]) (by simp [results, Tryz.results15, go_sem, r0, r1, zV, zv]) rfl ?_
      exact ⟨A3, k3, c3, rfl, own_box (show w.heap.size + 1 + 1 < _ from (Array.getElem?_eq_some_iff.1 T1.r).1) (show w.heap.size ≤ w.heap.size + 1 + 1 by omega) o3 _ _, box_below (show w.heap.size ≤ w.heap.size + 1 + 1 by omega) T4.t.b _ _⟩
end Go.Proofs.YtjipdfebehcggaaGreatDoor

/- The document's whole numbers: quotients, rounded up, and exact. -/
namespace Go.Proofs.YtjipdfebehcggaaGreatDoor
open Go.RowKit Go.Shelf
set_option linter.unusedVariables false
set_option linter.unusedSimpArgs false

set_option maxRecDepth 100000 in
set_option maxHeartbeats 2000000 in
theorem rCeilZ_any : Quo2Is cdiv 17 := by
  intro A A2 na ca nb cb p q a b w h
  have T0 := tri_box w p A na ca q A2 nb cb
  have H1 := Lib.hid (rTwo_any (p := p) (q := q) (h.below T0.t.b))
  have HT0 := Lib.hid T0
  cases hm : twoM p a q b with
  | false =>
    have hE : quoE p a q b = 8 := by simp [quoE, hm]
    rw [show quoZ cdiv p a q b = 0 by simp [quoZ, hE], hE]
    rw [twoE_no hm] at H1
    clear h hm T0 hE
    unfold zv at *
    go_enter Tryz.func17, Tryz.ntmps17
    go_wp2_with fail
    refine H1.out.mono ?_
    rintro e w1 ⟨rfl, hb1⟩
    have T1 := HT0.out.next hb1
    have xa0 := T1.t.x.c0
    have xa1 := T1.t.x.c1
    have xb0 := T1.t.y.c0
    have xb1 := T1.t.y.c1
    have r0 := T1.r.c0
    have r1 := T1.r.c1
    have f0 := T1.r.f 0
    have f1 := T1.r.f 1
    clear hb1
    go_wp2
    refine bodyPost_ret (v := .tuple #[zv false none 0 0, .int .i64 8]) (by simp [results, Tryz.results17, go_sem, r0, r1, zv]) rfl ?_
    exact zans_zero (box_below (show w.heap.size ≤ w.heap.size + 1 + 1 by omega) T1.t.b _ _)
  | true =>
    by_cases hb0 : b = []
    · have hE : quoE p a q b = 30 := by unfold quoE; rw [if_pos hm, if_pos hb0]
      have hnb : nb = 0 := by rw [← h.rb.len, hb0]; rfl
      rw [show quoZ cdiv p a q b = 0 by simp [quoZ, hE], hE]
      rw [twoE_ok hm] at H1
      clear h hm hE hb0 T0
      subst hnb
      unfold zv at *
      go_enter Tryz.func17, Tryz.ntmps17
      go_wp2_with fail
      refine H1.out.mono ?_
      rintro e w1 ⟨rfl, hb1⟩
      have T1 := HT0.out.next hb1
      have xa0 := T1.t.x.c0
      have xa1 := T1.t.x.c1
      have xb0 := T1.t.y.c0
      have xb1 := T1.t.y.c1
      have r0 := T1.r.c0
      have r1 := T1.r.c1
      have f0 := T1.r.f 0
      have f1 := T1.r.f 1
      clear hb1
      go_wp2
      refine bodyPost_ret (v := .tuple #[zv false none 0 0, .int .i64 30]) (by simp [results, Tryz.results17, go_sem, r0, r1, zv]) rfl ?_
      exact zans_zero (box_below (show w.heap.size ≤ w.heap.size + 1 + 1 by omega) T1.t.b _ _)
    · have hE : quoE p a q b = 0 := by unfold quoE; rw [if_pos hm, if_neg hb0]
      have hz := h.num hm
      have hla := h.la
      have hlb := h.lb
      have hnb : 0 < nb := by rw [← h.rb.len]; exact List.length_pos_iff.2 hb0
      have hy : zof q b ≠ 0 := zof_ne (twoM_iff.1 hm).2 hb0
      rw [show quoZ cdiv p a q b = cdiv (zof p a) (zof q b) by simp [quoZ, hE], hE]
      rw [twoE_ok hm] at H1
      have HN := Lib.hid (fun W (hW : Below w.heap.size w W) => rTurned_any (w := W) (hz.1.below hW) (by omega))
      have HD := Lib.hid (fun W A3 k3 c3 (hW : Below w.heap.size w W) (h3 : ZNm W A3 k3 c3 (-(zof p a))) (hk : k3 ≤ 900) => rDownZ_any (w := W) h3 (hz.2.1.below hW) hk (by omega) hy)
      have HT2 := Lib.hid (fun W A3 k3 c3 (h3 : ZNm W A3 k3 c3 (Int.fdiv (-(zof p a)) (zof q b))) (hk : k3 ≤ 1000) => rTurned_any (w := W) h3 hk)
      have L1 : Hid ((limbs (-(zof p a)).natAbs).length ≤ 400) := by show _ ≤ _; rw [Int.natAbs_neg, hz.1.rd.len]; exact hla
      have L2 : Hid ((limbs (Int.fdiv (-(zof p a)) (zof q b)).natAbs).length ≤ 500) := by
        show _ ≤ _
        have h1 : (zof p a).natAbs < B64 ^ na := hz.1.lt
        have h2 := (fdiv_quot (z := -(zof p a)) hy).1
        rw [Int.natAbs_neg] at h2
        refine Nat.le_trans (limbs_length_le (k := na + 1) ?_) (by omega)
        rw [h2, Nat.pow_succ]
        have h3 := Nat.div_le_self (zof p a).natAbs (zof q b).natAbs
        have := B64_gt
        have h4 : B64 ^ na * 2 ≤ B64 ^ na * B64 := Nat.mul_le_mul_left _ (by omega)
        split <;> omega
      have hc : cdiv (zof p a) (zof q b) = -(Int.fdiv (-(zof p a)) (zof q b)) := rfl
      rw [hc]
      have hzv1 := hz.2.2.1
      have hzv2 := hz.2.2.2
      rw [← hzv1] at HN
      rw [← hzv2] at HD
      clear h hm T0 hz hzv1 hzv2 hE hb0 hy hc hla hlb
      generalize Int.fdiv (-(zof p a)) (zof q b) = y at HD HT2 L2 ⊢
      generalize -(zof p a) = z at HN HD L1
      unfold zv at *
      go_enter Tryz.func17, Tryz.ntmps17
      go_wp2_with fail
      refine H1.out.mono ?_
      rintro e w1 ⟨rfl, hb1⟩
      have T1 := HT0.out.next hb1
      have HT1 := Lib.hid (T1.next (Below.refl _ _).drew)
      have xa0 := T1.t.x.c0
      have xa1 := T1.t.x.c1
      have xb0 := T1.t.y.c0
      have xb1 := T1.t.y.c1
      have r0 := T1.r.c0
      have r1 := T1.r.c1
      have f0 := T1.r.f 0
      have f1 := T1.r.f 1
      clear hb1
      go_wp2_with fail
      go_region_held3 (fun W' => W'.cell? ⟨w.heap.size, 0, none⟩ = some (.bool p) ∧ W'.cell? ⟨w.heap.size, 1, none⟩ = some (.slice A na ca) ∧ W'.cell? ⟨w.heap.size + 1, 0, none⟩ = some (.bool q) ∧ W'.cell? ⟨w.heap.size + 1, 1, none⟩ = some (.slice A2 nb cb)) (first | (refine ⟨?_, ?_, ?_, ?_⟩ <;> exact cell_far (cell_far (by assumption) (by omega) _) (by omega) _) | go_keep)
        (first
          | (go_at_call 40; refine (HT2.out _ A5 k5 c5 o5.nm (by have := o5.rd.2.1; have := L2.out; omega)).mono ?_; rintro e w6 ⟨A6, k6, c6, rfl, o6, hb6⟩; have T6 := T5.next hb6; clear xa0 xa1 xb0 xb1 r0 r1 f0 f1; have xa0 := T6.t.x.c0; have xa1 := T6.t.x.c1; have xb0 := T6.t.y.c0; have xb1 := T6.t.y.c1; have r0 := T6.r.c0; have r1 := T6.r.c1; have f0 := T6.r.f 0; have f1 := T6.r.f 1; unfold zV zv)
          | (go_at_call 40; refine (HN.out _ HT1.out.t.b).mono ?_; rintro e w4 ⟨A4, k4, c4, rfl, o4, hb4⟩; have T4 := HT1.out.next hb4; clear xa0 xa1 xb0 xb1 r0 r1 f0 f1; have xa0 := T4.t.x.c0; have xa1 := T4.t.x.c1; have xb0 := T4.t.y.c0; have xb1 := T4.t.y.c1; have r0 := T4.r.c0; have r1 := T4.r.c1; have f0 := T4.r.f 0; have f1 := T4.r.f 1; unfold zV zv)
          | (go_at_call 39; refine (HD.out _ A4 k4 c4 T4.t.b o4.nm (by have := o4.rd.2.1; have := L1.out; omega)).mono ?_; rintro e w5 ⟨A5, k5, c5, rfl, o5, hb5⟩; have T5 := T4.next hb5; clear xa0 xa1 xb0 xb1 r0 r1 f0 f1; have xa0 := T5.t.x.c0; have xa1 := T5.t.x.c1; have xb0 := T5.t.y.c0; have xb1 := T5.t.y.c1; have r0 := T5.r.c0; have r1 := T5.r.c1; have f0 := T5.r.f 0; have f1 := T5.r.f 1; unfold zV zv))
      all_goals
        go_wp2
        refine bodyPost_ret (v := .tuple #[zV (-y) A6 k6 c6, .int .i64 0]) (by simp [results, Tryz.results17, go_sem, r0, r1, zV, zv]) rfl ?_
        exact ⟨A6, k6, c6, rfl, own_box (Array.getElem?_eq_some_iff.1 T5.r).1 (show w.heap.size ≤ w.heap.size + 1 + 1 by omega) o6 _ _, box_below (show w.heap.size ≤ w.heap.size + 1 + 1 by omega) T6.t.b _ _⟩
set_option maxRecDepth 100000 in
set_option maxHeartbeats 4000000 in
theorem rExactZ_any : ExactZIs 19 := by
  intro A A2 na ca nb cb p q a b w h
  have T0 := tri_box w p A na ca q A2 nb cb
  have HF := Lib.hid (fun W (hW : Below w.heap.size w W) => rFloorZ_any A A2 na ca nb cb p q a b W (h.below hW))
  by_cases hE : quoE p a q b = 0
  · have hm : twoM p a q b = true := by
      cases hm : twoM p a q b with
      | true => rfl
      | false => simp [quoE, hm] at hE
    have hb0 : b ≠ [] := fun e => by unfold quoE at hE; rw [if_pos hm, if_pos e] at hE; cases hE
    have hz := h.num hm
    have hla := h.la
    have hlb := h.lb
    have hy : zof q b ≠ 0 := zof_ne (twoM_iff.1 hm).2 hb0
    rw [show quoZ Int.fdiv p a q b = Int.fdiv (zof p a) (zof q b) by simp [quoZ, hE], hE] at HF
    have LQ : Hid ((limbs (Int.fdiv (zof p a) (zof q b)).natAbs).length ≤ 401) := by
      show _ ≤ _
      have h1 : (zof p a).natAbs < B64 ^ na := hz.1.lt
      have h2 := (fdiv_quot (z := zof p a) hy).1
      refine Nat.le_trans (limbs_length_le (k := na + 1) ?_) (by omega)
      rw [h2, Nat.pow_succ]
      have h3 := Nat.div_le_self (zof p a).natAbs (zof q b).natAbs
      have := B64_gt
      have h4 : B64 ^ na * 2 ≤ B64 ^ na * B64 := Nat.mul_le_mul_left _ (by omega)
      split <;> omega
    have LP : Hid ((limbs (Int.fdiv (zof p a) (zof q b) * zof q b).natAbs).length ≤ 810) := by
      show _ ≤ _
      have h1 : (zof p a).natAbs < B64 ^ na := hz.1.lt
      have h5 : (zof q b).natAbs < B64 ^ nb := hz.2.1.lt
      have h2 := (fdiv_quot (z := zof p a) hy).1
      refine Nat.le_trans (limbs_length_le (k := (na + 1) + nb) ?_) (by omega)
      rw [Int.natAbs_mul, Nat.pow_add]
      refine Nat.mul_lt_mul_of_lt_of_le ?_ (Nat.le_of_lt h5) (Nat.pow_pos B64_pos)
      rw [h2, Nat.pow_succ]
      have h3 := Nat.div_le_self (zof p a).natAbs (zof q b).natAbs
      have := B64_gt
      have h4 : B64 ^ na * 2 ≤ B64 ^ na * B64 := Nat.mul_le_mul_left _ (by omega)
      split <;> omega
    have HT := Lib.hid (fun W A3 k3 c3 (hW : Below w.heap.size w W) (h3 : ZNm W A3 k3 c3 (Int.fdiv (zof p a) (zof q b))) (hk : k3 ≤ 800) => rTimesZ_any (w := W) h3 (hz.2.1.below hW) hk (by omega))
    have HC := Lib.hid (fun W A3 k3 c3 (hW : Below w.heap.size w W) (h3 : ZNm W A3 k3 c3 (Int.fdiv (zof p a) (zof q b) * zof q b)) (hk : k3 ≤ 1000) => rComparedZ_any (w := W) h3 (hz.1.below hW) hk (by omega))
    have HD : Hid (zof q b ∣ zof p a ↔ sgn (Int.fdiv (zof p a) (zof q b) * zof q b - zof p a) = 0) := by
      show _ ↔ _
      rw [sgn_zero, ← fdiv_exact hy]
      omega
    have hzv1 := hz.2.2.1
    have hzv2 := hz.2.2.2
    rw [← hzv2] at HT
    rw [← hzv1] at HC
    have hX : exE p a q b = if zof q b ∣ zof p a then 0 else 6 := by unfold exE; rw [if_pos hE]
    have hX2 : exZ p a q b = if zof q b ∣ zof p a then Int.fdiv (zof p a) (zof q b) else 0 := by
      unfold exZ
      rw [hX]
      by_cases hd : zof q b ∣ zof p a
      · rw [if_pos hd, if_pos rfl, if_pos hd]
      · rw [if_neg hd, if_neg (by decide), if_neg hd]
    rw [hX, hX2]
    clear h hm hz hE hb0 hy hzv1 hzv2 hX hX2 hla hlb
    generalize sgn (Int.fdiv (zof p a) (zof q b) * zof q b - zof p a) = n at HC HD
    generalize Int.fdiv (zof p a) (zof q b) * zof q b = x at HT HC LP
    generalize Int.fdiv (zof p a) (zof q b) = z at HF HT LQ ⊢
    by_cases hd : zof q b ∣ zof p a
    · rw [if_pos hd, if_pos hd]
      have hn : n = 0 := HD.out.1 hd
      subst hn
      clear hd HD
      unfold zv at *
      go_enter Tryz.func19, Tryz.ntmps19
      go_wp2_with fail
      refine (HF.out _ T0.t.b).mono ?_
      rintro e w1 ⟨A3, k3, c3, rfl, o3, hb⟩
      have T1 := T0.next (below_then hb (bxb _ (zo (decide (z < 0)) A3 k3 c3)))
      have bq : BoxZ (w1.alloc (zo (decide (z < 0)) A3 k3 c3)) w1.heap.size (decide (z < 0)) A3 k3 c3 := World.alloc_heap_new _ _
      have o4 := Lib.hid (o3.below (bxb _ (zo (decide (z < 0)) A3 k3 c3)))
      have BQ := Lib.hid bq
      have hG := Lib.hid (Array.getElem?_eq_some_iff.1 T0.r).1
      have q0 := bq.c0
      have q1 := bq.c1
      clear bq o3 hb T0
      have xa0 := T1.t.x.c0
      have xa1 := T1.t.x.c1
      have xb0 := T1.t.y.c0
      have xb1 := T1.t.y.c1
      have r0 := T1.r.c0
      have r1 := T1.r.c1
      have f0 := T1.r.f 0
      have f1 := T1.r.f 1
      unfold zV zv
      have HT1 := Lib.hid (T1.next (Below.refl _ _).drew)
      have BQ1 := Lib.hid (BQ.out.below (Below.refl _ _).drew (Array.getElem?_eq_some_iff.1 BQ.out).1)
      have oq1 := Lib.hid (o4.out.below (Below.refl _ _).drew)
      go_wp2_with fail
      go_region_held3 (fun W' => W'.cell? ⟨w.heap.size, 0, none⟩ = some (.bool p) ∧ W'.cell? ⟨w.heap.size, 1, none⟩ = some (.slice A na ca) ∧ W'.cell? ⟨w.heap.size + 1, 0, none⟩ = some (.bool q) ∧ W'.cell? ⟨w.heap.size + 1, 1, none⟩ = some (.slice A2 nb cb) ∧ W'.cell? ⟨w1.heap.size, 0, none⟩ = some (.bool (decide (z < 0))) ∧ W'.cell? ⟨w1.heap.size, 1, none⟩ = some (.slice A3 k3 c3)) (first | (refine ⟨?_, ?_, ?_, ?_, ?_, ?_⟩ <;> exact cell_far (cell_far (by assumption) (by omega) _) (by omega) _) | go_keep)
        (first
          | (go_at_call 43; refine (HT.out _ A3 k3 c3 HT1.out.t.b oq1.out.nm (by have := oq1.out.rd.2.1; have := LQ.out; omega)).mono ?_; rintro e w2 ⟨A5, k5, c5, rfl, o5, hb⟩; have T2 := HT1.out.next hb; have bq := BQ1.out.below hb (Array.getElem?_eq_some_iff.1 BQ1.out).1; have o6 := Lib.hid (oq1.out.below hb); have BQ2 := Lib.hid bq; clear q0 q1 xa0 xa1 xb0 xb1 r0 r1 f0 f1; have q0 := bq.c0; have q1 := bq.c1; clear bq; have xa0 := T2.t.x.c0; have xa1 := T2.t.x.c1; have xb0 := T2.t.y.c0; have xb1 := T2.t.y.c1; have r0 := T2.r.c0; have r1 := T2.r.c1; have f0 := T2.r.f 0; have f1 := T2.r.f 1; unfold zV zv)
          | (go_at_call 42; refine (HC.out _ A5 k5 c5 T2.t.b o5.nm (by have := o5.rd.2.1; have := LP.out; omega)).mono ?_; rintro e w3 ⟨rfl, hb⟩; have T3 := T2.next hb; have bq := BQ2.out.below hb (Array.getElem?_eq_some_iff.1 BQ2.out).1; have o7 := Lib.hid (o6.out.below hb); clear q0 q1 xa0 xa1 xb0 xb1 r0 r1 f0 f1; have q0 := bq.c0; have q1 := bq.c1; clear bq; have xa0 := T3.t.x.c0; have xa1 := T3.t.x.c1; have xb0 := T3.t.y.c0; have xb1 := T3.t.y.c1; have r0 := T3.r.c0; have r1 := T3.r.c1; have f0 := T3.r.f 0; have f1 := T3.r.f 1))
      all_goals
        go_wp2
        refine bodyPost_ret (v := .tuple #[zV z A3 k3 c3, .int .i64 0]) (by simp [results, Tryz.results19, go_sem, r0, r1, zV, zv]) rfl ?_
        exact ⟨A3, k3, c3, rfl, own_box hG.out (show w.heap.size ≤ w.heap.size + 1 + 1 by omega) o7.out _ _, box_below (show w.heap.size ≤ w.heap.size + 1 + 1 by omega) T3.t.b _ _⟩
    · rw [if_neg hd, if_neg hd]
      have hn : n ≠ 0 := fun e => hd (HD.out.2 e)
      have hn1 : (n != 0) = true := by simpa using hn
      clear hd HD
      unfold zv at *
      go_enter Tryz.func19, Tryz.ntmps19
      go_wp2_with fail
      refine (HF.out _ T0.t.b).mono ?_
      rintro e w1 ⟨A3, k3, c3, rfl, o3, hb⟩
      have T1 := T0.next (below_then hb (bxb _ (zo (decide (z < 0)) A3 k3 c3)))
      have bq : BoxZ (w1.alloc (zo (decide (z < 0)) A3 k3 c3)) w1.heap.size (decide (z < 0)) A3 k3 c3 := World.alloc_heap_new _ _
      have o4 := Lib.hid (o3.below (bxb _ (zo (decide (z < 0)) A3 k3 c3)))
      have BQ := Lib.hid bq
      have hG := Lib.hid (Array.getElem?_eq_some_iff.1 T0.r).1
      have q0 := bq.c0
      have q1 := bq.c1
      clear bq o3 hb T0
      have xa0 := T1.t.x.c0
      have xa1 := T1.t.x.c1
      have xb0 := T1.t.y.c0
      have xb1 := T1.t.y.c1
      have r0 := T1.r.c0
      have r1 := T1.r.c1
      have f0 := T1.r.f 0
      have f1 := T1.r.f 1
      unfold zV zv
      have HT1 := Lib.hid (T1.next (Below.refl _ _).drew)
      have BQ1 := Lib.hid (BQ.out.below (Below.refl _ _).drew (Array.getElem?_eq_some_iff.1 BQ.out).1)
      have oq1 := Lib.hid (o4.out.below (Below.refl _ _).drew)
      go_wp2_with fail
      go_region_held3 (fun W' => W'.cell? ⟨w.heap.size, 0, none⟩ = some (.bool p) ∧ W'.cell? ⟨w.heap.size, 1, none⟩ = some (.slice A na ca) ∧ W'.cell? ⟨w.heap.size + 1, 0, none⟩ = some (.bool q) ∧ W'.cell? ⟨w.heap.size + 1, 1, none⟩ = some (.slice A2 nb cb) ∧ W'.cell? ⟨w1.heap.size, 0, none⟩ = some (.bool (decide (z < 0))) ∧ W'.cell? ⟨w1.heap.size, 1, none⟩ = some (.slice A3 k3 c3)) (first | (refine ⟨?_, ?_, ?_, ?_, ?_, ?_⟩ <;> exact cell_far (cell_far (by assumption) (by omega) _) (by omega) _) | go_keep)
        (first
          | (go_at_call 43; refine (HT.out _ A3 k3 c3 HT1.out.t.b oq1.out.nm (by have := oq1.out.rd.2.1; have := LQ.out; omega)).mono ?_; rintro e w2 ⟨A5, k5, c5, rfl, o5, hb⟩; have T2 := HT1.out.next hb; have bq := BQ1.out.below hb (Array.getElem?_eq_some_iff.1 BQ1.out).1; have o6 := Lib.hid (oq1.out.below hb); have BQ2 := Lib.hid bq; clear q0 q1 xa0 xa1 xb0 xb1 r0 r1 f0 f1; have q0 := bq.c0; have q1 := bq.c1; clear bq; have xa0 := T2.t.x.c0; have xa1 := T2.t.x.c1; have xb0 := T2.t.y.c0; have xb1 := T2.t.y.c1; have r0 := T2.r.c0; have r1 := T2.r.c1; have f0 := T2.r.f 0; have f1 := T2.r.f 1; unfold zV zv)
          | (go_at_call 42; refine (HC.out _ A5 k5 c5 T2.t.b o5.nm (by have := o5.rd.2.1; have := LP.out; omega)).mono ?_; rintro e w3 ⟨rfl, hb⟩; have T3 := T2.next hb; have bq := BQ2.out.below hb (Array.getElem?_eq_some_iff.1 BQ2.out).1; have o7 := Lib.hid (o6.out.below hb); clear q0 q1 xa0 xa1 xb0 xb1 r0 r1 f0 f1; have q0 := bq.c0; have q1 := bq.c1; clear bq; have xa0 := T3.t.x.c0; have xa1 := T3.t.x.c1; have xb0 := T3.t.y.c0; have xb1 := T3.t.y.c1; have r0 := T3.r.c0; have r1 := T3.r.c1; have f0 := T3.r.f 0; have f1 := T3.r.f 1))
      all_goals
        go_wp2
        refine bodyPost_ret (v := .tuple #[zv false none 0 0, .int .i64 6]) (by simp [results, Tryz.results19, go_sem, r0, r1, zv]) rfl ?_
        exact zans_zero (box_below (show w.heap.size ≤ w.heap.size + 1 + 1 by omega) T3.t.b _ _)
  · have hX : exE p a q b = quoE p a q b := by unfold exE; rw [if_neg hE]
    have hX2 : exZ p a q b = 0 := by unfold exZ; rw [hX, if_neg hE]
    rw [hX, hX2]
    generalize quoZ Int.fdiv p a q b = s at HF
    generalize quoE p a q b = E at HF hE ⊢
    have hn1 : (E != 0) = true := by simpa using hE
    clear h hX hX2
    unfold zv at *
    go_enter Tryz.func19, Tryz.ntmps19
    go_wp2_with fail
    refine (HF.out _ T0.t.b).mono ?_
    rintro e w1 ⟨A3, k3, c3, rfl, o3, hb⟩
    have T1 := T0.next (below_then hb (bxb _ (zo (decide (s < 0)) A3 k3 c3)))
    clear o3 hb T0
    have xa0 := T1.t.x.c0
    have xa1 := T1.t.x.c1
    have xb0 := T1.t.y.c0
    have xb1 := T1.t.y.c1
    have r0 := T1.r.c0
    have r1 := T1.r.c1
    have f0 := T1.r.f 0
    have f1 := T1.r.f 1
    unfold zV zv
    go_wp2
    refine bodyPost_ret (v := .tuple #[zv false none 0 0, .int .i64 E]) (by simp [results, Tryz.results19, go_sem, r0, r1, zv]) rfl ?_
    exact zans_zero (box_below (show w.heap.size ≤ w.heap.size + 1 + 1 by omega) T1.t.b _ _)
end Go.Proofs.YtjipdfebehcggaaGreatDoor

/- strings.HasPrefix and CutPrefix, of one byte. -/
namespace Go.Proofs.YtjipdfebehcggaaGreatDoor
open Go.RowKit Go.Shelf
set_option linter.unusedVariables false
set_option linter.unusedSimpArgs false

theorem first_list {s : ByteArray} (h : 0 < s.size) : (s.extract 0 1).toList = [s[0]] := by
  rw [Lib.toList_data, ByteArray.data_extract, Array.toList_extract]
  have h1 := head_zero h
  cases hl : s.data.toList with
  | nil => rw [hl] at h1; cases h1
  | cons x r =>
    rw [hl] at h1
    simp only [List.head?_cons, Option.some.injEq] at h1
    rw [← h1]
    rfl
theorem head_eq {s : ByteArray} (h : 0 < s.size) (c : UInt8) : ((s.extract 0 1).toList == [c]) = (s.data.toList.head? == some c) := by
  rw [first_list h, head_zero h]
  rw [Bool.eq_iff_iff]
  simp
theorem head_none {s : ByteArray} (h : s.size = 0) : s.data.toList.head? = none := by
  rw [List.eq_nil_of_length_eq_zero ((size_list s).trans h)]
  rfl
set_option maxRecDepth 100000 in
set_option maxHeartbeats 2000000 in
theorem hasPrefix_any (s : ByteArray) (c : UInt8) (w : World) : Calls Tryz.prog 28 #[.string s, .string ⟨#[c]⟩] w fun e w' => e = .returned (.bool (s.data.toList.head? == some c)) ∧ w' = w := by
  by_cases h0 : s.size = 0
  · have HH := Lib.hid (head_none h0)
    go_enter Tryz.func28, Tryz.ntmps28
    go_wp2
    go_ret
    exact ⟨by rw [HH.out]; rfl, rfl⟩
  · have h1 : 0 < s.size := by omega
    have HH := Lib.hid (head_eq h1 c)
    go_enter Tryz.func28, Tryz.ntmps28
    go_wp2
    go_ret
    exact ⟨by rw [← HH.out]; rfl, rfl⟩
set_option maxRecDepth 100000 in
set_option maxHeartbeats 2000000 in
theorem cutPrefix_any (s : ByteArray) (w : World) (hs : s.size ≤ 70000) : Calls Tryz.prog 27 #[.string s, .string ⟨#[45]⟩] w fun e w' => e = .returned (.tuple #[.string (if minus s then s.extract 1 s.size else s), .bool (minus s)]) ∧ w' = w := by
  by_cases h0 : s.size = 0
  · have hm : minus s = false := by unfold minus; rw [head_none h0]; rfl
    rw [hm]
    clear hm
    go_enter Tryz.func27, Tryz.ntmps27
    go_wp2
    go_ret2
    exact ⟨rfl, rfl⟩
  · have h1 : 0 < s.size := by omega
    have hq := head_eq h1 45
    cases hm : minus s with
    | false =>
      have h2 : ((s.extract 0 1).toList == [45]) = false := by rw [hq]; exact hm
      clear hq hm
      go_enter Tryz.func27, Tryz.ntmps27
      go_wp2
      go_ret2
      exact ⟨rfl, rfl⟩
    | true =>
      have h2 : ((s.extract 0 1).toList == [45]) = true := by rw [hq]; exact hm
      clear hq hm
      go_enter Tryz.func27, Tryz.ntmps27
      go_wp2
      go_ret2
      exact ⟨rfl, rfl⟩
end Go.Proofs.YtjipdfebehcggaaGreatDoor

/- A laying of the library's contracts at this program. -/
namespace Go.Proofs
open Go.Shelf
def Tryz.laysPu14_ren : Go.Shelf.Ren := ⟨fun | 14 => 74 | 16 => 98 | 17 => 99 | 19 => 115 | 20 => 116 | 21 => 117 | 22 => 118 | 23 => 119 | 24 => 120 | 25 => 139 | 27 => 141 | 26 => 140 | 28 => 148 | 29 => 150 | 30 => 152 | 31 => 153 | 32 => 154 | 33 => 155 | 35 => 121 | 34 => 156 | 36 => 157 | 37 => 158 | 38 => 159 | 39 => 160 | 40 => 161 | n => n, fun | 9 => 9 | 3 => 3 | 22 => 25 | 24 => 95 | 25 => 96 | 4 => 4 | 34 => 147 | 5 => 5 | 36 => 149 | 37 => 89 | 0 => 0 | 39 => 150 | 21 => 21 | 44 => 168 | 47 => 181 | 50 => 184 | 48 => 182 | 2 => 2 | 52 => 186 | 55 => 188 | 59 => 191 | 60 => 192 | 20 => 20 | 61 => 193 | 65 => 197 | 66 => 198 | 67 => 199 | n => n, fun | 0 => 2 | 1 => 3 | 2 => 7 | 3 => 8 | 4 => 9 | n => n⟩
theorem Tryz.laysPu14 : Go.Proofs.LaysPu.n14 Tryz.prog Tryz.laysPu14_ren := {
  mixed := by kernel_rfl
  f14 := Tryz.func74.trans (congrArg some (by kernel_rfl))
  f16 := Tryz.func98.trans (congrArg some (by kernel_rfl))
  f17 := Tryz.func99.trans (congrArg some (by kernel_rfl))
  f19 := Tryz.func115.trans (congrArg some (by kernel_rfl))
  f20 := Tryz.func116.trans (congrArg some (by kernel_rfl))
  f21 := Tryz.func117.trans (congrArg some (by kernel_rfl))
  f22 := Tryz.func118.trans (congrArg some (by kernel_rfl))
  f23 := Tryz.func119.trans (congrArg some (by kernel_rfl))
  f24 := Tryz.func120.trans (congrArg some (by kernel_rfl))
  f25 := Tryz.func139.trans (congrArg some (by kernel_rfl))
  f26 := Tryz.func140.trans (congrArg some (by kernel_rfl))
  f27 := Tryz.func141.trans (congrArg some (by kernel_rfl))
  f28 := Tryz.func148.trans (congrArg some (by kernel_rfl))
  f29 := Tryz.func150.trans (congrArg some (by kernel_rfl))
  f30 := Tryz.func152.trans (congrArg some (by kernel_rfl))
  f31 := Tryz.func153.trans (congrArg some (by kernel_rfl))
  f32 := Tryz.func154.trans (congrArg some (by kernel_rfl))
  f33 := Tryz.func155.trans (congrArg some (by kernel_rfl))
  f34 := Tryz.func156.trans (congrArg some (by kernel_rfl))
  f35 := Tryz.func121.trans (congrArg some (by kernel_rfl))
  f36 := Tryz.func157.trans (congrArg some (by kernel_rfl))
  f37 := Tryz.func158.trans (congrArg some (by kernel_rfl))
  f38 := Tryz.func159.trans (congrArg some (by kernel_rfl))
  f39 := Tryz.func160.trans (congrArg some (by kernel_rfl))
  f40 := Tryz.func161.trans (congrArg some (by kernel_rfl))
  t0 := Tryz.underlying0
  a0 := Tryz.isAgg0
  z0 := Tryz.sizeOf0
  v0 := Tryz.zeroValue0
  i0 := by kernel_rfl
  t2 := Tryz.underlying2
  a2 := Tryz.isAgg2
  z2 := Tryz.sizeOf2
  v2 := Tryz.zeroValue2
  i2 := by kernel_rfl
  t3 := Tryz.underlying3
  a3 := Tryz.isAgg3
  z3 := Tryz.sizeOf3
  v3 := Tryz.zeroValue3
  i3 := by kernel_rfl
  t4 := Tryz.underlying4
  a4 := Tryz.isAgg4
  z4 := Tryz.sizeOf4
  v4 := Tryz.zeroValue4
  i4 := by kernel_rfl
  t5 := Tryz.underlying5
  a5 := Tryz.isAgg5
  z5 := Tryz.sizeOf5
  v5 := Tryz.zeroValue5
  i5 := by kernel_rfl
  t9 := Tryz.underlying9
  a9 := Tryz.isAgg9
  z9 := Tryz.sizeOf9
  v9 := Tryz.zeroValue9
  i9 := by kernel_rfl
  t20 := Tryz.underlying20
  a20 := Tryz.isAgg20
  z20 := Tryz.sizeOf20
  v20 := Tryz.zeroValue20
  i20 := by kernel_rfl
  t21 := Tryz.underlying21
  a21 := Tryz.isAgg21
  z21 := Tryz.sizeOf21
  v21 := Tryz.zeroValue21
  i21 := by kernel_rfl
  t22 := Tryz.underlying25
  a22 := Tryz.isAgg25
  z22 := Tryz.sizeOf25
  v22 := Tryz.zeroValue25
  i22 := by kernel_rfl
  t24 := Tryz.underlying95
  a24 := Tryz.isAgg95
  z24 := Tryz.sizeOf95
  v24 := Tryz.zeroValue95
  i24 := by kernel_rfl
  t25 := Tryz.underlying96
  a25 := Tryz.isAgg96
  z25 := Tryz.sizeOf96
  v25 := Tryz.zeroValue96
  i25 := by kernel_rfl
  t34 := Tryz.underlying147
  a34 := Tryz.isAgg147
  z34 := Tryz.sizeOf147
  v34 := Tryz.zeroValue147
  i34 := by kernel_rfl
  c34 := by kernel_rfl
  t36 := Tryz.underlying149
  a36 := Tryz.isAgg149
  z36 := Tryz.sizeOf149
  v36 := Tryz.zeroValue149
  i36 := by kernel_rfl
  t37 := Tryz.underlying89
  a37 := Tryz.isAgg89
  z37 := Tryz.sizeOf89
  v37 := Tryz.zeroValue89
  i37 := by kernel_rfl
  t39 := Tryz.underlying150
  a39 := Tryz.isAgg150
  z39 := Tryz.sizeOf150
  v39 := Tryz.zeroValue150
  i39 := by kernel_rfl
  t44 := Tryz.underlying168
  a44 := Tryz.isAgg168
  z44 := Tryz.sizeOf168
  v44 := Tryz.zeroValue168
  i44 := by kernel_rfl
  t47 := Tryz.underlying181
  a47 := Tryz.isAgg181
  z47 := Tryz.sizeOf181
  v47 := Tryz.zeroValue181
  i47 := by kernel_rfl
  t48 := Tryz.underlying182
  a48 := Tryz.isAgg182
  z48 := Tryz.sizeOf182
  v48 := Tryz.zeroValue182
  i48 := by kernel_rfl
  t50 := Tryz.underlying184
  a50 := Tryz.isAgg184
  z50 := Tryz.sizeOf184
  v50 := Tryz.zeroValue184
  i50 := by kernel_rfl
  t52 := Tryz.underlying186
  a52 := Tryz.isAgg186
  z52 := Tryz.sizeOf186
  v52 := Tryz.zeroValue186
  i52 := by kernel_rfl
  t55 := Tryz.underlying188
  a55 := Tryz.isAgg188
  z55 := Tryz.sizeOf188
  v55 := Tryz.zeroValue188
  i55 := by kernel_rfl
  t59 := Tryz.underlying191
  a59 := Tryz.isAgg191
  z59 := Tryz.sizeOf191
  v59 := Tryz.zeroValue191
  i59 := by kernel_rfl
  t60 := Tryz.underlying192
  a60 := Tryz.isAgg192
  z60 := Tryz.sizeOf192
  v60 := Tryz.zeroValue192
  i60 := by kernel_rfl
  t61 := Tryz.underlying193
  a61 := Tryz.isAgg193
  z61 := Tryz.sizeOf193
  t65 := Tryz.underlying197
  a65 := Tryz.isAgg197
  z65 := Tryz.sizeOf197
  v65 := Tryz.zeroValue197
  i65 := by kernel_rfl
  t66 := Tryz.underlying198
  a66 := Tryz.isAgg198
  z66 := Tryz.sizeOf198
  v66 := Tryz.zeroValue198
  i66 := by kernel_rfl
  t67 := Tryz.underlying199
  a67 := Tryz.isAgg199
  z67 := Tryz.sizeOf199
  v67 := Tryz.zeroValue199
  i67 := by kernel_rfl
  g0 := by kernel_rfl
  m0 := by kernel_rfl
  g1 := by kernel_rfl
  m1 := by kernel_rfl
  g2 := by kernel_rfl
  m2 := by kernel_rfl
  g3 := by kernel_rfl
  m3 := by kernel_rfl
  g4 := by kernel_rfl
  m4 := by kernel_rfl }
end Go.Proofs
namespace Go.Proofs.YtjipdfebehcggaaGreatDoor
open Go.Shelf
theorem parseUint_ok (s : ByteArray) (hmax : s.size ≤ 9223372036854775806) (u : Nat) (h : Lib.parseUintB 64 s.data.toList = .ok u) (w : World) :
    Calls Tryz.prog 74 #[.string s, .int .i64 10, .int .i64 64] w fun e w' => e = .returned (.tuple #[.int .u64 (u : Int), .nilIface]) ∧ (w' = w ∨ w' = Lib.bytesWorld w 5 s) := Any.strconv_ParseUint_10_at64_ok Tryz.laysPu14 s hmax u h w
end Go.Proofs.YtjipdfebehcggaaGreatDoor

/- gcd's isNumber, value and Parse, as they landed. -/
namespace Go.Proofs.YtjipdfebehcggaaGreatDoor
open Go.RowKit Go.Shelf
set_option linter.unusedVariables false
set_option linter.unusedSimpArgs false

theorem numV_append (a b : List UInt8) : numV (a ++ b) = numV a * 10 ^ b.length + numV b := by
  induction b using snoc_ind with
  | h0 => simp [numV_nil]
  | h1 l c ih =>
    rw [← List.append_assoc, numV_snoc, ih, numV_snoc, List.length_append, List.length_singleton, Nat.pow_succ, Nat.add_mul]
    rw [Nat.mul_assoc]
    omega
theorem uint_go {l : List UInt8} {acc : Nat} (h : l.all isD = true) (hb : (acc + 1) * 10 ^ l.length ≤ 10000000000000000000) : Lib.parseUintM 18446744073709551615 acc l = .ok (l.foldl (fun v c => v * 10 + (c.toNat - 48)) acc) := by
  induction l generalizing acc with
  | nil => rfl
  | cons c r ih =>
    rw [List.all_cons, Bool.and_eq_true] at h
    have hc := h.1
    unfold isD at hc
    simp only [Bool.and_eq_true, decide_eq_true_eq] at hc
    rw [List.length_cons, Nat.pow_succ] at hb
    have hp := Nat.pow_pos (n := r.length) (show 0 < 10 by omega)
    have hb2 : (acc + 1) * 10 * 10 ^ r.length ≤ 10000000000000000000 := by
      rw [Nat.mul_assoc, Nat.mul_comm 10]; exact hb
    have hb3 : (acc + 1) * 10 ≤ (acc + 1) * 10 * 10 ^ r.length := Nat.le_mul_of_pos_right _ hp
    have hb4 : (acc * 10 + (c.toNat - 48) + 1) * 10 ^ r.length ≤ 10000000000000000000 := Nat.le_trans (Nat.mul_le_mul_right _ (by omega)) hb2
    rw [Lib.parseUintM, if_pos hc, if_neg (by omega), if_neg (by omega), ih h.2 hb4]
    rfl
theorem uint_num {l : List UInt8} (h : l.all isD = true) (h0 : l ≠ []) (hn : l.length ≤ 19) : Lib.parseUintB 64 l = .ok (numV l) := by
  unfold Lib.parseUintB
  rw [if_neg h0]
  have h2 : (10 : Nat) ^ l.length ≤ 10 ^ 19 := Nat.pow_le_pow_right (by omega) hn
  exact uint_go h (by omega)

section
variable (s : ByteArray) (w : World)

set_option maxRecDepth 100000 in
set_option maxHeartbeats 2000000 in
/-- The range over a text's bytes, where nothing is wrong with its first one. -/
theorem isNum_main (h : s.data.toList ≠ []) (hn : ¬ nought s) (hs : s.size ≤ 4096) :
    Calls Tryz.prog 55 #[.string s] w fun e w' => e = .returned (.bool (okL s.data.toList)) ∧ Below w.heap.size w w' := by
  have HO := Lib.hid (ok_iff h hn)
  have h5 : s.toList ≠ [] := by rw [Lib.toList_data]; exact h
  have h6 : s.toList.isEmpty = false := List.isEmpty_eq_false_iff.2 h5
  have h0 : 0 < s.size := by
    rw [← size_list]; exact List.length_pos_iff.2 h
  have h7 : ¬ ((s[0].toNat : Int) = 48) ∨ (((s[0].toNat : Int) = 48) ∧ s.toList = [48]) := by
    by_cases e : s[0] = 48
    · right
      refine ⟨by rw [e]; rfl, ?_⟩
      have h1 : ¬ 1 < s.size := fun x => hn ⟨by rw [head_zero h0, e], x⟩
      have h2 := head_zero h0
      rw [e] at h2
      rw [Lib.toList_data]
      obtain ⟨x, r, he⟩ := List.exists_cons_of_ne_nil h
      have h3 := size_list s
      rw [he] at h2 h3 ⊢
      simp at h2 h3
      subst h2
      have : r = [] := List.eq_nil_of_length_eq_zero (by omega)
      rw [this]
    · left
      intro e2
      exact e (UInt8.toNat_inj.1 (by show _ = 48; omega))
  clear h hn
  rcases h7 with h7 | ⟨h7, h1⟩
  · go_enter Tryz.func55, Tryz.ntmps55
    go_wp2
    clear h7 h6 h5
    try clear h1
    go_loopw [4] (fun _ wr => ∃ pos : Nat, pos ≤ s.size ∧ wr = w.iter s pos ∧ (s.data.toList.take pos).all isD = true) (fun _ wr => s.size - wr.iterPos w.heap.size)
    case atStart => exact ⟨0, Nat.zero_le _, rfl, rfl⟩
    case round =>
      obtain ⟨pos, hp, rfl, hall⟩ := hrel
      have hB : Below w.heap.size w (w.iter s pos) := (Below.refl _ w).alloc (Nat.le_refl _) _
      by_cases hlt : pos < s.size
      · have hal := all_step hlt
        rw [hall, Bool.true_and] at hal
        cases hd : isD s[pos] with
        | true =>
          rw [hd] at hal
          have hd2 : ¬ ((s[pos].toNat : Int) < 48) ∧ ¬ (57 < (s[pos].toNat : Int)) ∧ s[pos].toNat < 128 := by
            unfold isD at hd
            simp only [Bool.and_eq_true, decide_eq_true_eq] at hd
            omega
          obtain ⟨hd2, hd3, h128⟩ := hd2
          have hnext : ∀ ty, (Instr.next (.pointer (some ⟨w.heap.size, 0, none⟩)) true ty).run Tryz.prog (w.iter s pos) = _ := fun ty => run_next_ascii w s pos ty hlt h128
          have HAL := Lib.hid hal
          have hmu : (w.iter s pos).iterPos w.heap.size = pos := World.iterPos_iter w s pos
          have HMU := Lib.hid hmu
          clear hal hall hd hmu hB
          go_wp2
          go_roundw
          case rel => exact ⟨pos + 1, by omega, rfl, HAL.out⟩
          case measure =>
            rw [HMU.out, World.iterPos_iter]
            omega
        | false =>
          have hbad := all_bad hlt hd
          have HBD := Lib.hid hbad
          by_cases h128 : s[pos].toNat < 128
          · have hnext : ∀ ty, (Instr.next (.pointer (some ⟨w.heap.size, 0, none⟩)) true ty).run Tryz.prog (w.iter s pos) = _ := fun ty => run_next_ascii w s pos ty hlt h128
            have hB2 : Below w.heap.size w (w.iter s (pos + 1)) := (Below.refl _ w).alloc (Nat.le_refl _) _
            have hd2 : (s[pos].toNat : Int) < 48 ∨ (¬ ((s[pos].toNat : Int) < 48) ∧ 57 < (s[pos].toNat : Int)) := by
              unfold isD at hd
              simp only [Bool.and_eq_false_iff, decide_eq_false_iff_not] at hd
              omega
            clear hal hall hd hbad hB
            rcases hd2 with hd2 | ⟨hd2, hd3⟩
            · go_wp2
              go_ret
              exact ⟨by rw [HBD.out]; rfl, hB2⟩
            · go_wp2
              go_ret
              exact ⟨by rw [HBD.out]; rfl, hB2⟩
          · have hhi := (decode_high s pos hlt (by omega)).1
            have hnext : ∀ ty, (Instr.next (.pointer (some ⟨w.heap.size, 0, none⟩)) true ty).run Tryz.prog (w.iter s pos) = _ := fun ty => run_next_any w s pos ty hlt
            have hB2 : Below w.heap.size w (w.iter s (pos + (Utf8.decode s pos).2)) := (Below.refl _ w).alloc (Nat.le_refl _) _
            obtain ⟨r, hr⟩ : ∃ r, (Utf8.decode s pos).1 = r := ⟨_, rfl⟩
            rw [hr] at hhi
            rw [hr] at hnext
            have hd2 : ¬ ((r : Int) < 48) := by omega
            have hd3 : (57 : Int) < (r : Int) := by omega
            clear hal hall hd hbad hB h128 hhi hr
            go_wp2
            go_ret
            exact ⟨by rw [HBD.out]; rfl, hB2⟩
      · obtain rfl : pos = s.size := by omega
        have hF : s.data.toList.take s.size = s.data.toList := List.take_of_length_le (by rw [size_list]; exact Nat.le_refl _)
        rw [hF] at hall
        have hO := HO.out
        rw [hall] at hO
        have HOK := Lib.hid hO
        have hnext : ∀ ty, (Instr.next (.pointer (some ⟨w.heap.size, 0, none⟩)) true ty).run Tryz.prog (w.iter s s.size) = _ := fun ty => run_next_end w s s.size ty hlt
        clear hall hF hO HO
        go_wp2
        go_ret
        exact ⟨by rw [HOK.out]; rfl, hB⟩
  · go_enter Tryz.func55, Tryz.ntmps55
    go_wp2
    clear h7 h6 h5
    try clear h1
    go_loopw [4] (fun _ wr => ∃ pos : Nat, pos ≤ s.size ∧ wr = w.iter s pos ∧ (s.data.toList.take pos).all isD = true) (fun _ wr => s.size - wr.iterPos w.heap.size)
    case atStart => exact ⟨0, Nat.zero_le _, rfl, rfl⟩
    case round =>
      obtain ⟨pos, hp, rfl, hall⟩ := hrel
      have hB : Below w.heap.size w (w.iter s pos) := (Below.refl _ w).alloc (Nat.le_refl _) _
      by_cases hlt : pos < s.size
      · have hal := all_step hlt
        rw [hall, Bool.true_and] at hal
        cases hd : isD s[pos] with
        | true =>
          rw [hd] at hal
          have hd2 : ¬ ((s[pos].toNat : Int) < 48) ∧ ¬ (57 < (s[pos].toNat : Int)) ∧ s[pos].toNat < 128 := by
            unfold isD at hd
            simp only [Bool.and_eq_true, decide_eq_true_eq] at hd
            omega
          obtain ⟨hd2, hd3, h128⟩ := hd2
          have hnext : ∀ ty, (Instr.next (.pointer (some ⟨w.heap.size, 0, none⟩)) true ty).run Tryz.prog (w.iter s pos) = _ := fun ty => run_next_ascii w s pos ty hlt h128
          have HAL := Lib.hid hal
          have hmu : (w.iter s pos).iterPos w.heap.size = pos := World.iterPos_iter w s pos
          have HMU := Lib.hid hmu
          clear hal hall hd hmu hB
          go_wp2
          go_roundw
          case rel => exact ⟨pos + 1, by omega, rfl, HAL.out⟩
          case measure =>
            rw [HMU.out, World.iterPos_iter]
            omega
        | false =>
          have hbad := all_bad hlt hd
          have HBD := Lib.hid hbad
          by_cases h128 : s[pos].toNat < 128
          · have hnext : ∀ ty, (Instr.next (.pointer (some ⟨w.heap.size, 0, none⟩)) true ty).run Tryz.prog (w.iter s pos) = _ := fun ty => run_next_ascii w s pos ty hlt h128
            have hB2 : Below w.heap.size w (w.iter s (pos + 1)) := (Below.refl _ w).alloc (Nat.le_refl _) _
            have hd2 : (s[pos].toNat : Int) < 48 ∨ (¬ ((s[pos].toNat : Int) < 48) ∧ 57 < (s[pos].toNat : Int)) := by
              unfold isD at hd
              simp only [Bool.and_eq_false_iff, decide_eq_false_iff_not] at hd
              omega
            clear hal hall hd hbad hB
            rcases hd2 with hd2 | ⟨hd2, hd3⟩
            · go_wp2
              go_ret
              exact ⟨by rw [HBD.out]; rfl, hB2⟩
            · go_wp2
              go_ret
              exact ⟨by rw [HBD.out]; rfl, hB2⟩
          · have hhi := (decode_high s pos hlt (by omega)).1
            have hnext : ∀ ty, (Instr.next (.pointer (some ⟨w.heap.size, 0, none⟩)) true ty).run Tryz.prog (w.iter s pos) = _ := fun ty => run_next_any w s pos ty hlt
            have hB2 : Below w.heap.size w (w.iter s (pos + (Utf8.decode s pos).2)) := (Below.refl _ w).alloc (Nat.le_refl _) _
            obtain ⟨r, hr⟩ : ∃ r, (Utf8.decode s pos).1 = r := ⟨_, rfl⟩
            rw [hr] at hhi
            rw [hr] at hnext
            have hd2 : ¬ ((r : Int) < 48) := by omega
            have hd3 : (57 : Int) < (r : Int) := by omega
            clear hal hall hd hbad hB h128 hhi hr
            go_wp2
            go_ret
            exact ⟨by rw [HBD.out]; rfl, hB2⟩
      · obtain rfl : pos = s.size := by omega
        have hF : s.data.toList.take s.size = s.data.toList := List.take_of_length_le (by rw [size_list]; exact Nat.le_refl _)
        rw [hF] at hall
        have hO := HO.out
        rw [hall] at hO
        have HOK := Lib.hid hO
        have hnext : ∀ ty, (Instr.next (.pointer (some ⟨w.heap.size, 0, none⟩)) true ty).run Tryz.prog (w.iter s s.size) = _ := fun ty => run_next_end w s s.size ty hlt
        clear hall hF hO HO
        go_wp2
        go_ret
        exact ⟨by rw [HOK.out]; rfl, hB⟩

set_option maxRecDepth 100000 in
set_option maxHeartbeats 2000000 in
theorem isNum_empty (h : s.data.toList = []) :
    Calls Tryz.prog 55 #[.string s] w fun e w' => e = .returned (.bool (okL s.data.toList)) ∧ Below w.heap.size w w' := by
  have HE : Hid (okL s.data.toList = false) := by show _ = _; rw [h]; rfl
  have h1 : s.toList = [] := by rw [Lib.toList_data]; exact h
  go_enter Tryz.func55, Tryz.ntmps55
  go_wp2
  go_ret
  exact ⟨by rw [HE.out]; rfl, Below.refl _ _⟩
set_option maxRecDepth 100000 in
set_option maxHeartbeats 2000000 in
theorem isNum_nought (h : nought s) (hs : s.size ≤ 4096) :
    Calls Tryz.prog 55 #[.string s] w fun e w' => e = .returned (.bool (okL s.data.toList)) ∧ Below w.heap.size w w' := by
  have HE := Lib.hid (ok_nought h)
  obtain ⟨h3, h4⟩ := h
  have h5 : s.toList ≠ [] := by rw [Lib.toList_data]; intro e; rw [e] at h3; cases h3
  have h6 : s.toList.isEmpty = false := List.isEmpty_eq_false_iff.2 h5
  have h0 : 0 < s.size := by omega
  have h7 : s[0] = 48 := by have := head_zero h0; rw [h3] at this; exact (Option.some.inj this).symm
  have h8 : ¬ s.toList = [48] := by
    rw [Lib.toList_data]
    intro e
    have := size_list s
    rw [e] at this
    simp at this
    omega
  have h9 : (s.toList == [48]) = false := beq_eq_false_iff_ne.2 h8
  go_enter Tryz.func55, Tryz.ntmps55
  go_wp2
  go_ret
  exact ⟨by rw [HE.out]; rfl, Below.refl _ _⟩
theorem isNum_any (hs : s.size ≤ 4096) :
    Calls Tryz.prog 55 #[.string s] w fun e w' => e = .returned (.bool (okL s.data.toList)) ∧ Below w.heap.size w w' := by
  by_cases h2 : s.data.toList = []
  · exact isNum_empty s w h2
  · by_cases h3 : nought s
    · exact isNum_nought s w h3 hs
    · exact isNum_main s w h2 h3 hs

theorem ofZ_any (x : Nat) (z : Int) (w : World) (hz : z = (x : Int)) (hx : x < B64) :
    Calls Tryz.prog 26 #[.int .u64 z] w fun e w' => ∃ A' k c, e = .returned (.slice A' k c) ∧ Own w' w.heap.size (.slice A' k c) (limbs x) ∧ Below w.heap.size w w' := hz ▸ of_any x w hx
set_option maxRecDepth 100000 in
set_option maxHeartbeats 4000000 in
/-- gcd.value. -/
theorem value_any (hs : s.size ≤ 4096) (hall : s.data.toList.all isD = true) :
    Calls Tryz.prog 56 #[.string s] w fun e w' => ∃ A k c, e = .returned (.slice A k c) ∧ Own w' w.heap.size (.slice A k c) (limbs (numV s.data.toList)) ∧ Below w.heap.size w w' := by
  have HALL := Lib.hid hall
  clear hall
  go_enter Tryz.func56, Tryz.ntmps56
  go_wp2
  go_loopw [0, 3] (fun a m wr => ∃ (t : ByteArray) (k : Nat) (A3 : Option Addr) (n3 c3 : Nat), a = .string t ∧ t.data.toList = s.data.toList.drop k ∧ k ≤ s.size ∧ (k = 0 ∨ 19 ∣ t.size) ∧ m = .slice A3 n3 c3 ∧ Own wr w.heap.size (.slice A3 n3 c3) (limbs (numV (s.data.toList.take k))) ∧ Below w.heap.size w wr) (fun a _ _ => match a with | .string t => t.size | _ => 0)
  case atStart => exact ⟨s, 0, none, 0, 0, rfl, rfl, by omega, .inl rfl, rfl, by rw [List.take_zero, numV_nil, limbs_zero]; exact own_nil _ _, Below.refl _ _⟩
  case round =>
    obtain ⟨t, k, A3, n3, c3, rfl, ht, hk, h19, rfl, o3, hB⟩ := hrel
    have htl : t.size = s.size - k := by rw [← size_list, ht, List.length_drop, size_list]
    by_cases h0 : t.size = 0
    · have hks : k = s.size := by omega
      have hF : s.data.toList.take k = s.data.toList := List.take_of_length_le (by rw [size_list]; omega)
      rw [hF] at o3
      clear ht h19 hF hks
      go_wp2
      go_ret
      exact ⟨_, _, _, rfl, o3, hB⟩
    · have hp : 0 < t.size := Nat.pos_of_ne_zero h0
      obtain ⟨m, hm⟩ : ∃ m, (t.size - 1) % 19 = m := ⟨_, rfl⟩
      have hm1 : m < 19 := by omega
      have hm2 : m + 1 ≤ t.size := by
        have := Nat.mod_le (t.size - 1) 19
        omega
      have q1 : ((t.size : Int) - 1) % 19 = (m : Int) := by omega
      have q2 : Int.tmod ((t.size : Int) - 1) 19 = (m : Int) := by rw [Int.tmod_eq_emod_of_nonneg (by omega)]; exact q1
      have hts : t.size ≤ 4096 := by omega
      have hm3 : (m : Int) + 1 ≤ (t.size : Int) := by omega
      have HTL := Lib.hid htl
      have HT := Lib.hid ht
      have H19 := Lib.hid h19
      have HM := Lib.hid hm
      have hL : (t.extract 0 (m + 1)).data.toList = (s.data.toList.drop k).take (m + 1) := by
        rw [Lib.extract_data, ht, List.drop_zero, Nat.sub_zero]
      have hLl : ((s.data.toList.drop k).take (m + 1)).length = m + 1 := by rw [List.length_take, ← ht, size_list]; omega
      have hLd : ((s.data.toList.drop k).take (m + 1)).all isD = true := by
        rw [List.all_eq_true]
        intro x hx
        exact List.all_eq_true.1 HALL.out x (List.mem_of_mem_drop (List.mem_of_mem_take hx))
      have hkd : (s.data.toList.take k).all isD = true := by
        rw [List.all_eq_true]
        intro x hx
        exact List.all_eq_true.1 HALL.out x (List.mem_of_mem_take hx)
      have hstep : numV (s.data.toList.take (k + (m + 1))) = 10 ^ 19 * numV (s.data.toList.take k) + numV ((s.data.toList.drop k).take (m + 1)) := by
        rw [List.take_add, numV_append, hLl]
        rcases h19 with h | h
        · subst h
          rw [List.take_zero, numV_nil, Nat.zero_mul, Nat.mul_zero]
        · obtain ⟨q, hq⟩ := h
          have : m = 18 := by omega
          rw [this, Nat.mul_comm]
      have hnext : (t.extract (m + 1) t.size).data.toList = s.data.toList.drop (k + (m + 1)) := by
        rw [Lib.extract_data, ht, List.drop_drop]
        apply List.take_of_length_le
        rw [List.length_drop, size_list]
        omega
      have hnsz : (t.extract (m + 1) t.size).size = t.size - (m + 1) := by rw [ByteArray.size_extract]; omega
      have hdvd : 19 ∣ (t.extract (m + 1) t.size).size := by
        rw [hnsz]
        omega
      obtain ⟨L, hLe⟩ : ∃ L, (s.data.toList.drop k).take (m + 1) = L := ⟨_, rfl⟩
      rw [hLe] at hL hLl hLd hstep
      obtain ⟨u, hu⟩ : ∃ u, numV L = u := ⟨_, rfl⟩
      have huint : Lib.parseUintB 64 (t.extract 0 (m + 1)).data.toList = .ok u := by
        rw [hL, ← hu]
        exact uint_num hLd (fun h => by rw [h] at hLl; simp at hLl) (by omega)
      rw [hu] at hstep
      have huB : u < B64 := by
        have h1 := num_lt L hLd
        have h2 : (10 : Nat) ^ L.length ≤ 10 ^ 19 := Nat.pow_le_pow_right (by omega) (by omega)
        rw [hu] at h1
        rw [B64_eq]
        omega
      have ln3 : n3 ≤ 300 := by
        have h1 := num_lt_bits hkd (n := 4096) (by rw [List.length_take, size_list]; omega)
        have h2 := limbs_length_le h1
        have h3 := o3.rd.2.1
        omega
      obtain ⟨V, hV⟩ : ∃ V, numV (s.data.toList.take k) = V := ⟨_, rfl⟩
      rw [hV] at o3 hstep
      have HPU := Lib.hid (parseUint_ok (t.extract 0 (m + 1)) (by rw [ByteArray.size_extract]; omega) u huint wr)
      have HOC := Lib.hid (fun W => ofZ_any (10 ^ 19) 10000000000000000000 W (by rfl) (by rw [B64_eq]; omega))
      have HOU := Lib.hid (fun W => of_any u W huB)
      have lc : (limbs (10 ^ 19)).length ≤ 1 := limbs_length_le (by rw [Nat.pow_one, B64_eq]; omega)
      have lu : (limbs u).length ≤ 1 := limbs_length_le (by rw [Nat.pow_one]; exact huB)
      have LC := Lib.hid lc
      have LU := Lib.hid lu
      have HST := Lib.hid hstep
      have HNX := Lib.hid hnext
      have HDV := Lib.hid hdvd
      have HNS := Lib.hid hnsz
      clear htl ht h19 hm hL hLl hLd hkd hstep hnext hnsz hdvd hLe hu huint huB hV lc lu hk
      go_wp2_with fail
      refine HPU.out.mono ?_
      rintro e w1 ⟨rfl, hw1⟩
      have hb1 : Below wr.heap.size wr w1 := by
        rcases hw1 with rfl | rfl
        · exact Below.refl _ _
        · exact Lib.bytesWorld_below _ _ _
      replace o3 := o3.below hb1
      replace hb1 := below_then hB hb1
      clear hw1 hB HPU
      go_wp2_with fail
      refine (HOC.out _).mono ?_
      rintro e w2 ⟨A4, n4, c4, rfl, o4, hb2⟩
      have l4 : n4 ≤ 1 := by have := o4.rd.2.1; have := LC.out; omega
      replace o3 := o3.below hb2
      replace hb2 := below_then hb1 hb2
      clear hb1
      go_wp2_with fail
      refine (mul_nm A4 A3 n4 c4 n3 c3 (10 ^ 19) V w2 o4.nm o3.nm (by omega) (by omega)).mono ?_
      rintro e w3 ⟨A5, n5, c5, rfl, o5, hb3⟩
      have l5 : n5 ≤ n4 + n3 := by have h1 := o5.rd.2.1; have h2 := mul_len o4.nm o3.nm; omega
      replace o5 := own_mono o5 hb2.size
      replace hb3 := below_then hb2 hb3
      clear hb2 o4 o3
      go_wp2_with fail
      refine (HOU.out _).mono ?_
      rintro e w4 ⟨A6, n6, c6, rfl, o6, hb4⟩
      have l6 : n6 ≤ 1 := by have := o6.rd.2.1; have := LU.out; omega
      replace o5 := o5.below hb4
      replace hb4 := below_then hb3 hb4
      clear hb3
      go_wp2_with fail
      refine (add_nm A5 A6 n5 c5 n6 c6 _ u w4 o5.nm o6.nm (by omega) (by omega)).mono ?_
      rintro e w5 ⟨A7, n7, c7, rfl, o7, hb5⟩
      replace o7 := own_mono o7 hb4.size
      replace hb5 := below_then hb4 hb5
      clear hb4 o5 o6
      rw [← HST.out] at o7
      go_wp2
      go_roundw
      case rel => exact ⟨_, k + (m + 1), A7, n7, c7, rfl, HNX.out, by have := HTL.out; omega, .inr HDV.out, rfl, o7, hb5⟩
      case measure =>
        show (t.extract (m + 1) t.size).size < t.size
        rw [HNS.out]
        omega

set_option maxRecDepth 100000 in
set_option maxHeartbeats 2000000 in
theorem parse_is : ParseIs 29 := fun s w hs7 => by
  by_cases hl : 4096 < s.size
  · have HE := Lib.hid (parseE_long hl)
    have HL := Lib.hid (parseL_no (s := s) (by rw [HE.out]; decide))
    have hl2 : (4096 : Int) < (s.size : Int) := by omega
    have hl3 : decide ((4096 : Int) < (s.size : Int)) = true := by simpa using hl2
    go_enter Tryz.func29, Tryz.ntmps29
    go_wp2
    go_ret2
    rw [HE.out, HL.out]
    exact answers_nil (Below.refl _ _)
  · have hs : s.size ≤ 4096 := by omega
    have hl2 : ¬ ((4096 : Int) < (s.size : Int)) := by omega
    have hl3 : decide ((4096 : Int) < (s.size : Int)) = false := by simpa using hl2
    have HN := Lib.hid (isNum_any s w hs)
    cases hk : okL s.data.toList with
    | false =>
      rw [hk] at HN
      have HE := Lib.hid (parseE_bad hs hk)
      have HL := Lib.hid (parseL_no (s := s) (by rw [HE.out]; decide))
      clear hk
      go_enter Tryz.func29, Tryz.ntmps29
      go_wp2_with fail
      refine HN.out.mono ?_
      rintro e w1 ⟨rfl, hb1⟩
      go_wp2
      go_ret2
      rw [HE.out, HL.out]
      exact answers_nil hb1
    | true =>
      rw [hk] at HN
      have HE := Lib.hid (parseE_ok hs hk)
      have HL := Lib.hid (parseL_ok HE.out)
      have hall : s.data.toList.all isD = true := by
        unfold okL at hk
        simp only [Bool.and_eq_true] at hk
        exact hk.2
      have HV := Lib.hid (fun W => value_any s W hs hall)
      clear hk hall
      go_enter Tryz.func29, Tryz.ntmps29
      go_wp2_with fail
      refine HN.out.mono ?_
      rintro e w1 ⟨rfl, hb1⟩
      go_wp2_with fail
      refine (HV.out w1).mono ?_
      rintro e w2 ⟨A2, k2, c2, rfl, o2, hb2⟩
      replace o2 := own_mono o2 hb1.size
      replace hb2 := below_then hb1 hb2
      clear hb1
      go_wp2
      go_ret2
      rw [HE.out, HL.out]
      exact ⟨_, _, _, rfl, o2, hb2⟩
end
end Go.Proofs.YtjipdfebehcggaaGreatDoor

/- Whole numbers of texts: the document's, and whole's own; as texts. -/
namespace Go.Proofs.YtjipdfebehcggaaGreatDoor
open Go.RowKit Go.Shelf
set_option linter.unusedVariables false
set_option linter.unusedSimpArgs false

theorem drop_list (s : ByteArray) : (s.extract 1 s.size).data.toList = s.data.toList.drop 1 := by
  rw [ByteArray.data_extract, Array.toList_extract]
  rw [List.extract_eq_take_drop]
  have := size_list s
  rw [List.take_of_length_le (by rw [List.length_drop]; omega)]
theorem drop_size (s : ByteArray) : (s.extract 1 s.size).size = s.size - 1 := by
  rw [← size_list, drop_list, List.length_drop, size_list]
theorem num_pos {l : List UInt8} (h : okL l = true) (h2 : l.head? ≠ some 48) : numV l ≠ 0 := fun e => by
  have h3 := text_num h
  rw [e] at h3
  rw [← h3] at h2
  exact h2 rfl
/-- A text's number, where it is one: its sign, and its size. -/
theorem parseZ_ok {s : ByteArray} (h : parseZE s = 0) : (parseZ s).natAbs = numV (if minus s then s.data.toList.drop 1 else s.data.toList) ∧ decide (parseZ s < 0) = minus s := by
  unfold parseZ
  rw [if_pos h]
  cases hm : minus s with
  | false =>
    simp only [Bool.false_eq_true, if_false]
    exact ⟨by simp, decide_eq_false (by omega)⟩
  | true =>
    simp only [if_true]
    unfold parseZE at h
    rw [hm] at h
    simp only [if_true] at h
    split at h
    · cases h
    · rename_i h48
      have hp : parseE (s.extract 1 s.size) = 0 := h
      have hk : okL (s.data.toList.drop 1) = true := by
        cases hk : okL (s.data.toList.drop 1) with
        | true => rfl
        | false =>
          rw [← drop_list] at hk
          unfold parseE at hp
          rw [hk] at hp
          split at hp <;> cases hp
      have := num_pos hk h48
      exact ⟨by simp, decide_eq_true (by omega)⟩
theorem parseL_z {s : ByteArray} (h : parseZE s = 0) : parseE (if minus s then s.extract 1 s.size else s) = 0 ∧ parseL (if minus s then s.extract 1 s.size else s) = limbs (parseZ s).natAbs := by
  have h2 := parseZ_ok h
  rw [h2.1]
  unfold parseZE at h
  cases hm : minus s with
  | false =>
    rw [hm] at h
    simp only [Bool.false_eq_true, if_false] at h ⊢
    exact ⟨h, by unfold parseL; rw [if_pos h]⟩
  | true =>
    rw [hm] at h
    simp only [if_true] at h ⊢
    split at h
    · cases h
    · exact ⟨h, by unfold parseL; rw [if_pos h, drop_list]⟩
theorem parseZE_no {s : ByteArray} (h : parseZE s ≠ 0) : parseZ s = 0 := by unfold parseZ; rw [if_neg h]
theorem parseE_t {s : ByteArray} (h : ¬ (minus s = true ∧ (s.data.toList.drop 1).head? = some 48)) : parseZE s = parseE (if minus s then s.extract 1 s.size else s) := by
  unfold parseZE
  cases hm : minus s with
  | false => simp
  | true =>
    simp only [if_true]
    rw [if_neg (fun h2 => h ⟨hm, h2⟩)]
theorem parseE_48 {s : ByteArray} (h : minus s = true) (h2 : (s.data.toList.drop 1).head? = some 48) : parseZE s = 8 := by
  unfold parseZE
  rw [if_pos h, if_pos h2]
theorem row_ans {w w1 w2 : World} (R : BoxZ w1 w.heap.size false none 0 0) (hB : Below w.heap.size w w1) (hb : Below w1.heap.size w1 w2) : BoxZ w2 w.heap.size false none 0 0 ∧ Below w.heap.size w w2 :=
  ⟨R.below hb (Array.getElem?_eq_some_iff.1 R).1, below_then hB hb⟩
theorem minus_head {s : ByteArray} (h : 0 < s.size) : minus s = (((s[0].toNat : Nat) : Int) == 45) := by
  unfold minus
  rw [head_zero h, Bool.eq_iff_iff]
  simp only [beq_iff_eq, Option.some.injEq]
  constructor
  · intro e; rw [e]; rfl
  · intro e
    have e2 : s[0].toNat = (45 : UInt8).toNat := by have : (45 : UInt8).toNat = 45 := rfl; omega
    exact UInt8.toNat_inj.1 e2
theorem tail_head {s : ByteArray} (h : 0 < (s.extract 1 s.size).size) : ((((s.extract 1 s.size)[0]).toNat : Int) == 48) = decide ((s.data.toList.drop 1).head? = some 48) := by
  rw [← drop_list, head_zero h, Bool.eq_iff_iff]
  simp only [beq_iff_eq, Option.some.injEq, decide_eq_true_eq]
  constructor
  · intro e
    have e2 : ((s.extract 1 s.size)[0]).toNat = (48 : UInt8).toNat := by have : (48 : UInt8).toNat = 48 := rfl; omega
    exact UInt8.toNat_inj.1 e2
  · intro e; rw [e]; rfl
theorem tail_none {s : ByteArray} (h : s.size ≤ 1) : (s.data.toList.drop 1).head? = none := by
  rw [← drop_list]
  exact head_none (by rw [drop_size]; omega)
set_option maxRecDepth 100000 in
set_option maxHeartbeats 4000000 in
theorem rParseZ_any : ParseZIs 21 := by
  intro s w hs
  have hb0 := bxb w (zo false none 0 0)
  have R0 : BoxZ (w.alloc (zo false none 0 0)) w.heap.size false none 0 0 := World.alloc_heap_new _ _
  have hG : Hid (w.heap.size < (w.alloc (zo false none 0 0)).heap.size) := by show _ < _; simp
  have HB0 := Lib.hid (And.intro R0 hb0)
  clear hb0
  cases hm : minus s with
  | true =>
    have hsz : 0 < s.size := by
      refine Nat.pos_of_ne_zero fun h => ?_
      unfold minus at hm
      rw [head_none h] at hm
      cases hm
    have h45 := minus_head hsz
    rw [hm] at h45
    replace h45 := h45.symm
    by_cases h48 : (s.data.toList.drop 1).head? = some 48
    · have e1 := parseE_48 hm h48
      rw [parseZE_no (by rw [e1]; decide), e1]
      have h1 : 1 < s.size := by
        refine Nat.lt_of_not_le fun h => ?_
        rw [tail_none h] at h48
        cases h48
      have h2 : 0 < (s.extract 1 s.size).size := by rw [drop_size]; omega
      have h3 := tail_head h2
      rw [decide_eq_true h48] at h3
      have h4 : 0 < s.size - 1 := by omega
      clear e1 h48 hm
      go_enter Tryz.func21, Tryz.ntmps21
      have r0 := HB0.out.1.c0
      have r1 := HB0.out.1.c1
      have f0 := HB0.out.1.f 0
      have f1 := HB0.out.1.f 1
      clear R0
      go_wp2
      refine bodyPost_ret (v := .tuple #[zv false none 0 0, .int .i64 8]) (by simp [results, Tryz.results21, go_sem, r0, r1, zv]) rfl ?_
      exact zans_zero HB0.out.2
    · have hno : ¬ (minus s = true ∧ (s.data.toList.drop 1).head? = some 48) := fun h => h48 h.2
      by_cases h1 : 1 < s.size
      · have h2 : 0 < (s.extract 1 s.size).size := by rw [drop_size]; omega
        have h3 := tail_head h2
        rw [decide_eq_false h48] at h3
        have h4 : 0 < s.size - 1 := by omega
        clear h48
        have hq := parseE_t (s := s) hno
        rw [hm] at hq
        simp only [if_true] at hq
        have HQ := Lib.hid (fun W => rParse_any (s.extract 1 s.size) W (by rw [drop_size]; omega))
        by_cases he : parseZE s = 0
        · have h1 := parseZ_ok he
          have h2 := parseL_z he
          rw [hm] at h1 h2
          simp only [if_true] at h1 h2
          rw [h2.1, h2.2] at HQ
          have HN := Lib.hid h1.2
          rw [he]
          clear hq he h1 h2 hm hno
          generalize parseZ s = z at HQ HN ⊢
          go_enter Tryz.func21, Tryz.ntmps21
          go_wp2_with fail
          refine (HQ.out _).mono ?_
          rintro e w3 ⟨A3, k3, c3, rfl, o3, hb3⟩
          have HR := Lib.hid (row_ans HB0.out.1 HB0.out.2 hb3)
          clear hb3 R0
          have r0 := HR.out.1.c0
          have r1 := HR.out.1.c1
          have f0 := HR.out.1.f 0
          have f1 := HR.out.1.f 1
          go_wp2
          refine bodyPost_ret (v := .tuple #[zv true A3 k3 c3, .int .i64 0]) (by simp [results, Tryz.results21, go_sem, r0, r1, zv]) rfl ?_
          exact ⟨A3, k3, c3, by unfold zV; rw [HN.out], own_box hG.out (Nat.le_refl _) o3 _ _, box_below (Nat.le_refl _) HR.out.2 _ _⟩
        · rw [parseZE_no he]
          rw [← hq] at HQ
          have he2 : (parseZE s != 0) = true := by simpa using he
          clear hq hm hno
          generalize parseZE s = E at HQ he he2 ⊢
          clear he
          go_enter Tryz.func21, Tryz.ntmps21
          go_wp2_with fail
          refine (HQ.out _).mono ?_
          rintro e w3 ⟨A3, k3, c3, rfl, o3, hb3⟩
          have HR := Lib.hid (row_ans HB0.out.1 HB0.out.2 hb3)
          clear hb3 R0 o3
          have r0 := HR.out.1.c0
          have r1 := HR.out.1.c1
          have f0 := HR.out.1.f 0
          have f1 := HR.out.1.f 1
          go_wp2
          refine bodyPost_ret (v := .tuple #[zv false none 0 0, .int .i64 E]) (by simp [results, Tryz.results21, go_sem, r0, r1, zv]) rfl ?_
          exact zans_zero (box_below (Nat.le_refl _) HR.out.2 _ _)
      · have h4 : ¬ 0 < s.size - 1 := by omega
        clear h48
        have hq := parseE_t (s := s) hno
        rw [hm] at hq
        simp only [if_true] at hq
        have HQ := Lib.hid (fun W => rParse_any (s.extract 1 s.size) W (by rw [drop_size]; omega))
        by_cases he : parseZE s = 0
        · have h1 := parseZ_ok he
          have h2 := parseL_z he
          rw [hm] at h1 h2
          simp only [if_true] at h1 h2
          rw [h2.1, h2.2] at HQ
          have HN := Lib.hid h1.2
          rw [he]
          clear hq he h1 h2 hm hno
          generalize parseZ s = z at HQ HN ⊢
          go_enter Tryz.func21, Tryz.ntmps21
          go_wp2_with fail
          refine (HQ.out _).mono ?_
          rintro e w3 ⟨A3, k3, c3, rfl, o3, hb3⟩
          have HR := Lib.hid (row_ans HB0.out.1 HB0.out.2 hb3)
          clear hb3 R0
          have r0 := HR.out.1.c0
          have r1 := HR.out.1.c1
          have f0 := HR.out.1.f 0
          have f1 := HR.out.1.f 1
          go_wp2
          refine bodyPost_ret (v := .tuple #[zv true A3 k3 c3, .int .i64 0]) (by simp [results, Tryz.results21, go_sem, r0, r1, zv]) rfl ?_
          exact ⟨A3, k3, c3, by unfold zV; rw [HN.out], own_box hG.out (Nat.le_refl _) o3 _ _, box_below (Nat.le_refl _) HR.out.2 _ _⟩
        · rw [parseZE_no he]
          rw [← hq] at HQ
          have he2 : (parseZE s != 0) = true := by simpa using he
          clear hq hm hno
          generalize parseZE s = E at HQ he he2 ⊢
          clear he
          go_enter Tryz.func21, Tryz.ntmps21
          go_wp2_with fail
          refine (HQ.out _).mono ?_
          rintro e w3 ⟨A3, k3, c3, rfl, o3, hb3⟩
          have HR := Lib.hid (row_ans HB0.out.1 HB0.out.2 hb3)
          clear hb3 R0 o3
          have r0 := HR.out.1.c0
          have r1 := HR.out.1.c1
          have f0 := HR.out.1.f 0
          have f1 := HR.out.1.f 1
          go_wp2
          refine bodyPost_ret (v := .tuple #[zv false none 0 0, .int .i64 E]) (by simp [results, Tryz.results21, go_sem, r0, r1, zv]) rfl ?_
          exact zans_zero (box_below (Nat.le_refl _) HR.out.2 _ _)
  | false =>
    have hno : ¬ (minus s = true ∧ (s.data.toList.drop 1).head? = some 48) := fun h => by rw [hm] at h; cases h.1
    by_cases hsz : 0 < s.size
    · have h45 := minus_head hsz
      rw [hm] at h45
      replace h45 := h45.symm
      have hq := parseE_t (s := s) hno
      rw [hm] at hq
      simp only [Bool.false_eq_true, if_false] at hq
      have HQ := Lib.hid (fun W => rParse_any s W (by omega))
      by_cases he : parseZE s = 0
      · have h1 := parseZ_ok he
        have h2 := parseL_z he
        rw [hm] at h1 h2
        simp only [Bool.false_eq_true, if_false] at h1 h2
        rw [h2.1, h2.2] at HQ
        have HN := Lib.hid h1.2
        rw [he]
        clear hq he h1 h2 hm hno
        generalize parseZ s = z at HQ HN ⊢
        go_enter Tryz.func21, Tryz.ntmps21
        go_wp2_with fail
        refine (HQ.out _).mono ?_
        rintro e w3 ⟨A3, k3, c3, rfl, o3, hb3⟩
        have HR := Lib.hid (row_ans HB0.out.1 HB0.out.2 hb3)
        clear hb3 R0
        have r0 := HR.out.1.c0
        have r1 := HR.out.1.c1
        have f0 := HR.out.1.f 0
        have f1 := HR.out.1.f 1
        go_wp2
        refine bodyPost_ret (v := .tuple #[zv false A3 k3 c3, .int .i64 0]) (by simp [results, Tryz.results21, go_sem, r0, r1, zv]) rfl ?_
        exact ⟨A3, k3, c3, by unfold zV; rw [HN.out], own_box hG.out (Nat.le_refl _) o3 _ _, box_below (Nat.le_refl _) HR.out.2 _ _⟩
      · rw [parseZE_no he]
        rw [← hq] at HQ
        have he2 : (parseZE s != 0) = true := by simpa using he
        clear hq hm hno
        generalize parseZE s = E at HQ he he2 ⊢
        clear he
        go_enter Tryz.func21, Tryz.ntmps21
        go_wp2_with fail
        refine (HQ.out _).mono ?_
        rintro e w3 ⟨A3, k3, c3, rfl, o3, hb3⟩
        have HR := Lib.hid (row_ans HB0.out.1 HB0.out.2 hb3)
        clear hb3 R0 o3
        have r0 := HR.out.1.c0
        have r1 := HR.out.1.c1
        have f0 := HR.out.1.f 0
        have f1 := HR.out.1.f 1
        go_wp2
        refine bodyPost_ret (v := .tuple #[zv false none 0 0, .int .i64 E]) (by simp [results, Tryz.results21, go_sem, r0, r1, zv]) rfl ?_
        exact zans_zero (box_below (Nat.le_refl _) HR.out.2 _ _)
    · have hs0 : s.size = 0 := by omega
      have hq := parseE_t (s := s) hno
      rw [hm] at hq
      simp only [Bool.false_eq_true, if_false] at hq
      have HQ := Lib.hid (fun W => rParse_any s W (by omega))
      by_cases he : parseZE s = 0
      · have h1 := parseZ_ok he
        have h2 := parseL_z he
        rw [hm] at h1 h2
        simp only [Bool.false_eq_true, if_false] at h1 h2
        rw [h2.1, h2.2] at HQ
        have HN := Lib.hid h1.2
        rw [he]
        clear hq he h1 h2 hm hno
        generalize parseZ s = z at HQ HN ⊢
        go_enter Tryz.func21, Tryz.ntmps21
        go_wp2_with fail
        refine (HQ.out _).mono ?_
        rintro e w3 ⟨A3, k3, c3, rfl, o3, hb3⟩
        have HR := Lib.hid (row_ans HB0.out.1 HB0.out.2 hb3)
        clear hb3 R0
        have r0 := HR.out.1.c0
        have r1 := HR.out.1.c1
        have f0 := HR.out.1.f 0
        have f1 := HR.out.1.f 1
        go_wp2
        refine bodyPost_ret (v := .tuple #[zv false A3 k3 c3, .int .i64 0]) (by simp [results, Tryz.results21, go_sem, r0, r1, zv]) rfl ?_
        exact ⟨A3, k3, c3, by unfold zV; rw [HN.out], own_box hG.out (Nat.le_refl _) o3 _ _, box_below (Nat.le_refl _) HR.out.2 _ _⟩
      · rw [parseZE_no he]
        rw [← hq] at HQ
        have he2 : (parseZE s != 0) = true := by simpa using he
        clear hq hm hno
        generalize parseZE s = E at HQ he he2 ⊢
        clear he
        go_enter Tryz.func21, Tryz.ntmps21
        go_wp2_with fail
        refine (HQ.out _).mono ?_
        rintro e w3 ⟨A3, k3, c3, rfl, o3, hb3⟩
        have HR := Lib.hid (row_ans HB0.out.1 HB0.out.2 hb3)
        clear hb3 R0 o3
        have r0 := HR.out.1.c0
        have r1 := HR.out.1.c1
        have f0 := HR.out.1.f 0
        have f1 := HR.out.1.f 1
        go_wp2
        refine bodyPost_ret (v := .tuple #[zv false none 0 0, .int .i64 E]) (by simp [results, Tryz.results21, go_sem, r0, r1, zv]) rfl ?_
        exact zans_zero (box_below (Nat.le_refl _) HR.out.2 _ _)
set_option maxRecDepth 100000 in
set_option maxHeartbeats 4000000 in
theorem parseZ_any : ParseZIs 9 := by
  intro s w hs
  have hb0 := bxb w (zo false none 0 0)
  have R0 : BoxZ (w.alloc (zo false none 0 0)) w.heap.size false none 0 0 := World.alloc_heap_new _ _
  have hG : Hid (w.heap.size < (w.alloc (zo false none 0 0)).heap.size) := by show _ < _; simp
  have HB0 := Lib.hid (And.intro R0 hb0)
  clear hb0
  have HC := Lib.hid (fun W => cutPrefix_any s W hs)
  have HP := Lib.hid (fun (W : World) => hasPrefix_any (s.extract 1 s.size) 48 W)
  rw [drop_list] at HP
  cases hm : minus s with
  | true =>
    have hsz : 0 < s.size := by
      refine Nat.pos_of_ne_zero fun h => ?_
      unfold minus at hm
      rw [head_none h] at hm
      cases hm
    rw [hm] at HC
    simp only [if_true] at HC
    by_cases h48 : (s.data.toList.drop 1).head? = some 48
    · have e1 := parseE_48 hm h48
      rw [parseZE_no (by rw [e1]; decide), e1]
      rw [h48] at HP
      simp only [BEq.rfl] at HP
      clear e1 h48 hm
      go_enter Tryz.func9, Tryz.ntmps9
      go_wp2_with fail
      refine (HC.out _).mono ?_
      rintro e w1 ⟨rfl, rfl⟩
      go_wp2_with fail
      refine (HP.out _).mono ?_
      rintro e w1 ⟨rfl, rfl⟩
      have r0 := HB0.out.1.c0
      have r1 := HB0.out.1.c1
      have f0 := HB0.out.1.f 0
      have f1 := HB0.out.1.f 1
      clear R0
      go_wp2
      refine bodyPost_ret (v := .tuple #[zv false none 0 0, .int .i64 8]) (by simp [results, Tryz.results9, go_sem, r0, r1, zv]) rfl ?_
      exact zans_zero HB0.out.2
    · have hno : ¬ (minus s = true ∧ (s.data.toList.drop 1).head? = some 48) := fun h => h48 h.2
      have h5 : ((s.data.toList.drop 1).head? == some 48) = false := by simpa using h48
      rw [h5] at HP
      clear h48 h5
      have hq := parseE_t (s := s) hno
      rw [hm] at hq
      simp only [if_true] at hq
      have HQ := Lib.hid (fun W => parse_is (s.extract 1 s.size) W (by rw [drop_size]; omega))
      by_cases he : parseZE s = 0
      · have h1 := parseZ_ok he
        have h2 := parseL_z he
        rw [hm] at h1 h2
        simp only [if_true] at h1 h2
        rw [h2.1, h2.2] at HQ
        have HN := Lib.hid h1.2
        rw [he]
        clear hq he h1 h2 hm hno
        generalize parseZ s = z at HQ HN ⊢
        go_enter Tryz.func9, Tryz.ntmps9
        go_wp2_with fail
        refine (HC.out _).mono ?_
        rintro e w1 ⟨rfl, rfl⟩
        go_wp2_with fail
        refine (HP.out _).mono ?_
        rintro e w1 ⟨rfl, rfl⟩
        go_wp2_with fail
        refine (HQ.out _).mono ?_
        rintro e w3 ⟨A3, k3, c3, rfl, o3, hb3⟩
        have HR := Lib.hid (row_ans HB0.out.1 HB0.out.2 hb3)
        clear hb3 R0
        go_wp2_with fail
        refine (signed_own (z := z) (d := true) o3 (fun _ => HN.out)).mono ?_
        rintro e w4 ⟨A9, k9, c9, rfl, o9, hb4⟩
        have HR4 := Lib.hid (row_ans HR.out.1 HR.out.2 hb4)
        clear hb4 o3
        have r0 := HR4.out.1.c0
        have r1 := HR4.out.1.c1
        have f0 := HR4.out.1.f 0
        have f1 := HR4.out.1.f 1
        unfold zV zv
        go_wp2
        refine bodyPost_ret (v := .tuple #[zV z A9 k9 c9, .int .i64 0]) (by simp [results, Tryz.results9, go_sem, r0, r1, zV, zv]) rfl ?_
        exact ⟨A9, k9, c9, rfl, own_box hG.out (Nat.le_refl _) o9 _ _, box_below (Nat.le_refl _) HR4.out.2 _ _⟩
      · rw [parseZE_no he]
        rw [← hq] at HQ
        have he2 : (parseZE s != 0) = true := by simpa using he
        clear hq hm hno
        generalize parseZE s = E at HQ he he2 ⊢
        clear he
        go_enter Tryz.func9, Tryz.ntmps9
        go_wp2_with fail
        refine (HC.out _).mono ?_
        rintro e w1 ⟨rfl, rfl⟩
        go_wp2_with fail
        refine (HP.out _).mono ?_
        rintro e w1 ⟨rfl, rfl⟩
        go_wp2_with fail
        refine (HQ.out _).mono ?_
        rintro e w3 ⟨A3, k3, c3, rfl, o3, hb3⟩
        have HR := Lib.hid (row_ans HB0.out.1 HB0.out.2 hb3)
        clear hb3 R0 o3
        have r0 := HR.out.1.c0
        have r1 := HR.out.1.c1
        have f0 := HR.out.1.f 0
        have f1 := HR.out.1.f 1
        go_wp2
        refine bodyPost_ret (v := .tuple #[zv false none 0 0, .int .i64 E]) (by simp [results, Tryz.results9, go_sem, r0, r1, zv]) rfl ?_
        exact zans_zero (box_below (Nat.le_refl _) HR.out.2 _ _)
  | false =>
    have hno : ¬ (minus s = true ∧ (s.data.toList.drop 1).head? = some 48) := fun h => by rw [hm] at h; cases h.1
    rw [hm] at HC
    simp only [Bool.false_eq_true, if_false] at HC
    have hq := parseE_t (s := s) hno
    rw [hm] at hq
    simp only [Bool.false_eq_true, if_false] at hq
    have HQ := Lib.hid (fun W => parse_is s W hs)
    by_cases he : parseZE s = 0
    · have h1 := parseZ_ok he
      have h2 := parseL_z he
      rw [hm] at h1 h2
      simp only [Bool.false_eq_true, if_false] at h1 h2
      rw [h2.1, h2.2] at HQ
      have HN := Lib.hid h1.2
      rw [he]
      clear hq he h1 h2 hm hno
      generalize parseZ s = z at HQ HN ⊢
      go_enter Tryz.func9, Tryz.ntmps9
      go_wp2_with fail
      refine (HC.out _).mono ?_
      rintro e w1 ⟨rfl, rfl⟩
      go_wp2_with fail
      refine (HQ.out _).mono ?_
      rintro e w3 ⟨A3, k3, c3, rfl, o3, hb3⟩
      have HR := Lib.hid (row_ans HB0.out.1 HB0.out.2 hb3)
      clear hb3 R0
      go_wp2_with fail
      refine (signed_own (z := z) (d := false) o3 (fun _ => HN.out)).mono ?_
      rintro e w4 ⟨A9, k9, c9, rfl, o9, hb4⟩
      have HR4 := Lib.hid (row_ans HR.out.1 HR.out.2 hb4)
      clear hb4 o3
      have r0 := HR4.out.1.c0
      have r1 := HR4.out.1.c1
      have f0 := HR4.out.1.f 0
      have f1 := HR4.out.1.f 1
      unfold zV zv
      go_wp2
      refine bodyPost_ret (v := .tuple #[zV z A9 k9 c9, .int .i64 0]) (by simp [results, Tryz.results9, go_sem, r0, r1, zV, zv]) rfl ?_
      exact ⟨A9, k9, c9, rfl, own_box hG.out (Nat.le_refl _) o9 _ _, box_below (Nat.le_refl _) HR4.out.2 _ _⟩
    · rw [parseZE_no he]
      rw [← hq] at HQ
      have he2 : (parseZE s != 0) = true := by simpa using he
      clear hq hm hno
      generalize parseZE s = E at HQ he he2 ⊢
      clear he
      go_enter Tryz.func9, Tryz.ntmps9
      go_wp2_with fail
      refine (HC.out _).mono ?_
      rintro e w1 ⟨rfl, rfl⟩
      go_wp2_with fail
      refine (HQ.out _).mono ?_
      rintro e w3 ⟨A3, k3, c3, rfl, o3, hb3⟩
      have HR := Lib.hid (row_ans HB0.out.1 HB0.out.2 hb3)
      clear hb3 R0 o3
      have r0 := HR.out.1.c0
      have r1 := HR.out.1.c1
      have f0 := HR.out.1.f 0
      have f1 := HR.out.1.f 1
      go_wp2
      refine bodyPost_ret (v := .tuple #[zv false none 0 0, .int .i64 E]) (by simp [results, Tryz.results9, go_sem, r0, r1, zv]) rfl ?_
      exact zans_zero (box_below (Nat.le_refl _) HR.out.2 _ _)
end Go.Proofs.YtjipdfebehcggaaGreatDoor

/- whole: a number as a text. -/
namespace Go.Proofs.YtjipdfebehcggaaGreatDoor
open Go.RowKit Go.Shelf
set_option linter.unusedVariables false
set_option linter.unusedSimpArgs false

section
variable {A : Option Addr} {na ca : Nat} {p : Bool} {a : List Nat} {w : World}
set_option maxRecDepth 100000 in
set_option maxHeartbeats 2000000 in
theorem textZ_any (h : Z1 w A na ca a) : Calls Tryz.prog 7 #[zv p A na ca] w fun e w' => e = .returned (.tuple #[.string (textZS p a), .int .i64 (textZE p a)]) ∧ Below w.heap.size w w' := by
  have H1 := Lib.hid (mayOne_at1 (p := p) h)
  have HT := Lib.hid (fun W (hW : Below w.heap.size w W) => text_is A na ca a W (h.ra.below hW) (by have := h.la; omega) ⟨h.ca1, h.ca2⟩)
  cases hm : mayZ p a with
  | false =>
    rw [show textZS p a = ⟨#[]⟩ by simp [textZS, textZE, hm], show textZE p a = 8 by simp [textZE, hm]]
    rw [oneE_no hm] at H1
    clear h hm HT
    unfold zv at *
    go_enter Tryz.func7, Tryz.ntmps7
    go_wp2_with fail
    refine H1.out.mono ?_
    rintro e w1 ⟨rfl, T1⟩
    go_wp2
    go_ret2
    exact ⟨rfl, T1.b⟩
  | true =>
    rw [oneE_ok hm] at H1
    have hE : textZE p a = textE a := by simp [textZE, hm]
    have hS : textZS p a = if textE a = 0 then (if p then ⟨#[45]⟩ ++ textS a else textS a) else ⟨#[]⟩ := by unfold textZS; rw [hE]
    rw [hS, hE]
    have hSz : ¬ 9223372036854775807 < 1 + (textS a).size := by have := textS_size a; omega
    clear h hm hS hE
    generalize textS a = S at HT hSz ⊢
    generalize textE a = E at HT ⊢
    by_cases he : E = 0
    · subst he
      rw [if_pos rfl]
      cases p with
      | false =>
        simp only [Bool.false_eq_true, if_false]
        unfold zv at *
        go_enter Tryz.func7, Tryz.ntmps7
        go_wp2_with fail
        refine H1.out.mono ?_
        rintro e w1 ⟨rfl, T1⟩
        have xa0 := T1.x.c0
        have xa1 := T1.x.c1
        go_wp2_with fail
        refine (HT.out _ T1.b).mono ?_
        rintro e w2 ⟨rfl, hb⟩
        have T2 := T1.next hb
        clear xa0 xa1 hb T1
        have xa0 := T2.x.c0
        have xa1 := T2.x.c1
        go_wp2
        go_ret2
        exact ⟨rfl, T2.b⟩
      | true =>
        simp only [if_true]
        unfold zv at *
        go_enter Tryz.func7, Tryz.ntmps7
        go_wp2_with fail
        refine H1.out.mono ?_
        rintro e w1 ⟨rfl, T1⟩
        have xa0 := T1.x.c0
        have xa1 := T1.x.c1
        go_wp2_with fail
        refine (HT.out _ T1.b).mono ?_
        rintro e w2 ⟨rfl, hb⟩
        have T2 := T1.next hb
        clear xa0 xa1 hb T1
        have xa0 := T2.x.c0
        have xa1 := T2.x.c1
        go_wp2
        go_ret2
        exact ⟨rfl, T2.b⟩
    · rw [if_neg he]
      have he2 : (E != 0) = true := by simpa using he
      unfold zv at *
      go_enter Tryz.func7, Tryz.ntmps7
      go_wp2_with fail
      refine H1.out.mono ?_
      rintro e w1 ⟨rfl, T1⟩
      have xa0 := T1.x.c0
      have xa1 := T1.x.c1
      go_wp2_with fail
      refine (HT.out _ T1.b).mono ?_
      rintro e w2 ⟨rfl, hb⟩
      have T2 := T1.next hb
      clear xa0 xa1 hb T1
      have xa0 := T2.x.c0
      have xa1 := T2.x.c1
      go_wp2
      go_ret2
      exact ⟨rfl, T2.b⟩
end
theorem textZ_is : TextZIs 7 := fun _ _ _ _ _ _ h => textZ_any h
end Go.Proofs.YtjipdfebehcggaaGreatDoor

/- whole: which is less, ints, the same. -/
namespace Go.Proofs.YtjipdfebehcggaaGreatDoor
open Go.RowKit Go.Shelf
set_option linter.unusedVariables false
set_option linter.unusedSimpArgs false

theorem sgn_cmp (v u : Nat) : sgn ((v : Int) - u) = cmp3 v u := by unfold sgn cmp3; split <;> split <;> (try split) <;> (try split) <;> omega
theorem big_val {a : List Nat} (hw : Words a) (hm : may a = true) (hl : 1 < a.length) : B64 ≤ val a := by
  refine Nat.le_of_not_lt fun h => ?_
  have h1 := limbs_length_le (k := 1) (show val a < B64 ^ 1 by rw [Nat.pow_one]; exact h)
  rw [limbs_val hw hm] at h1
  omega
theorem val_one {a : List Nat} (hl : a.length ≤ 1) : val a = lim a 0 := by
  cases a with
  | nil => rfl
  | cons x r =>
    have : r = [] := List.eq_nil_of_length_eq_zero (by rw [List.length_cons] at hl; omega)
    subst this
    simp [val, lim]
theorem words_lim {a : List Nat} (hw : Words a) (i : Nat) : lim a i < B64 := by
  by_cases h : i < a.length
  · rw [lim_get h]
    exact hw _ (List.getElem_mem h)
  · rw [lim_past (by omega)]
    exact B64_pos
theorem zof_sgn (p : Bool) (a : List Nat) : zof p a = if p then -(val a : Int) else (val a : Int) := rfl
theorem zof_nil (p : Bool) : zof p [] = 0 := by cases p <;> rfl
section
variable {A A2 : Option Addr} {na ca nb cb v u : Nat} {p q : Bool} {a b : List Nat} {w : World} {z y : Int}
set_option maxRecDepth 100000 in
set_option maxHeartbeats 2000000 in
theorem checkZ_any (h : Z1 w A na ca a) : Calls Tryz.prog 14 #[zv p A na ca] w fun e w' => e = .returned (.int .i64 (oneE p a)) ∧ Below w.heap.size w w' := by
  have H1 := Lib.hid (mayOne_at1 (p := p) h)
  clear h
  generalize oneE p a = E at H1 ⊢
  unfold zv at *
  go_enter Tryz.func14, Tryz.ntmps14
  go_wp2_with fail
  refine H1.out.mono ?_
  rintro e w1 ⟨rfl, T1⟩
  go_wp2
  go_ret
  exact ⟨rfl, T1.b⟩
set_option maxRecDepth 100000 in
set_option maxHeartbeats 2000000 in
theorem wOf_any (n : Int) (h1 : -9223372036854775808 ≤ n) (h2 : n ≤ 9223372036854775807) : Calls Tryz.prog 8 #[.int .i64 n] w (ZOne w n) := by
  have hx : BoxZ (w.alloc (zo false none 0 0)) w.heap.size false none 0 0 := World.alloc_heap_new _ _
  have hs : w.heap.size < (w.alloc (zo false none 0 0)).heap.size := by simp
  have HB := Lib.hid (And.intro (bxb w (zo false none 0 0)) hx)
  have HS := Lib.hid hs
  clear hx hs
  have HT := Lib.hid (fun W => of_any n.natAbs W (by rw [B64_eq]; omega))
  by_cases hn : n < 0
  · have hc : IntKind.u64.wrap n = 18446744073709551616 + n := by rw [IntKind.wrap_u64]; omega
    have hc2 : IntKind.u64.wrap (-(18446744073709551616 + n)) = (n.natAbs : Int) := by rw [IntKind.wrap_u64]; omega
    have HD : Hid (n ≠ 0 → decide (n < 0) = true) := fun _ => decide_eq_true hn
    have HQ : Hid (decide (n < 0) = true) := decide_eq_true hn
    go_enter Tryz.func8, Tryz.ntmps8
    go_wp2_with fail
    refine (HT.out _).mono ?_
    rintro e w4 ⟨A3, k3, c3, rfl, o3, hb3⟩
    have x4 := HB.out.2.below hb3 HS.out
    have B4 := below_then HB.out.1 hb3
    clear hb3
    go_wp2_with fail
    refine (signed_own (z := n) (d := true) o3 HD.out).mono ?_
    rintro e w5 ⟨A9, k9, c9, rfl, o9, hb5⟩
    have HV : Hid (zV n A9 k9 c9 = zv true A9 k9 c9) := by show _ = _; unfold zV; rw [HQ.out]
    rw [HV.out]
    have x5 := x4.below hb5 (Array.getElem?_eq_some_iff.1 x4).1
    have B5 := below_then B4 hb5
    have r0 := x5.c0
    have r1 := x5.c1
    have f0 := x5.f 0
    have f1 := x5.f 1
    clear x4 B4 hb5
    unfold zv
    go_wp2
    refine bodyPost_ret (v := zv true A9 k9 c9) (by simp [results, Tryz.results8, go_sem, r0, r1, zV, zv]) rfl ?_
    exact ⟨A9, k9, c9, by rw [HV.out], own_box HS.out (Nat.le_refl _) o9 _ _, box_below (Nat.le_refl _) B5 _ _⟩
  · have hc : IntKind.u64.wrap n = (n.natAbs : Int) := by rw [IntKind.wrap_u64]; omega
    have HD : Hid (n ≠ 0 → decide (n < 0) = false) := fun _ => decide_eq_false hn
    have HQ : Hid (decide (n < 0) = false) := decide_eq_false hn
    go_enter Tryz.func8, Tryz.ntmps8
    go_wp2_with fail
    refine (HT.out _).mono ?_
    rintro e w4 ⟨A3, k3, c3, rfl, o3, hb3⟩
    have x4 := HB.out.2.below hb3 HS.out
    have B4 := below_then HB.out.1 hb3
    clear hb3
    go_wp2_with fail
    refine (signed_own (z := n) (d := false) o3 HD.out).mono ?_
    rintro e w5 ⟨A9, k9, c9, rfl, o9, hb5⟩
    have HV : Hid (zV n A9 k9 c9 = zv false A9 k9 c9) := by show _ = _; unfold zV; rw [HQ.out]
    rw [HV.out]
    have x5 := x4.below hb5 (Array.getElem?_eq_some_iff.1 x4).1
    have B5 := below_then B4 hb5
    have r0 := x5.c0
    have r1 := x5.c1
    have f0 := x5.f 0
    have f1 := x5.f 1
    clear x4 B4 hb5
    unfold zv
    go_wp2
    refine bodyPost_ret (v := zv false A9 k9 c9) (by simp [results, Tryz.results8, go_sem, r0, r1, zV, zv]) rfl ?_
    exact ⟨A9, k9, c9, by rw [HV.out], own_box HS.out (Nat.le_refl _) o9 _ _, box_below (Nat.le_refl _) B5 _ _⟩
set_option maxRecDepth 100000 in
set_option maxHeartbeats 4000000 in
theorem intZ_any (h : Z1 w A na ca a) : Calls Tryz.prog 6 #[zv p A na ca] w (IAns w (intZ p a) (intE p a)) := by
  have H1 := Lib.hid (mayOne_at1 (p := p) h)
  cases hm : mayZ p a with
  | false =>
    have HE : Hid (intE p a = 8) := by show _ = _; simp [intE, hm]
    have HV : Hid (intZ p a = 0) := by show _ = _; simp [intZ, HE.out]
    rw [oneE_no hm] at H1
    clear h hm
    unfold zv at *
    go_enter Tryz.func6, Tryz.ntmps6
    go_wp2_with fail
    refine H1.out.mono ?_
    rintro e w1 ⟨rfl, T2⟩
    go_wp2
    go_ret2
    exact ⟨by rw [HV.out, HE.out]; rfl, T2.b⟩
  | true =>
    have hma := mayZ_may hm
    have hla := h.la
    have hval := h.ra.len
    rw [oneE_ok hm] at H1
    by_cases hl : 1 < na
    · have HW := Lib.hid (fun W (hW : Below w.heap.size w W) => word_many A na ca a W (h.ra.below hW) (by omega) hma hl)
      have hbig : B64 ≤ val a := big_val h.ra.words hma (by omega)
      rw [B64_eq] at hbig
      have habs := zof_abs p a
      have HE : Hid (intE p a = 4) := by show _ = _; unfold intE; rw [if_pos hm, if_neg (by omega)]
      have HV : Hid (intZ p a = 0) := by show _ = _; simp [intZ, HE.out]
      clear h hm hma hla hval hl hbig habs
      unfold zv at *
      go_enter Tryz.func6, Tryz.ntmps6
      go_wp2_with fail
      refine H1.out.mono ?_
      rintro e w1 ⟨rfl, T1⟩
      have xa0 := T1.x.c0
      have xa1 := T1.x.c1
      go_wp2_with fail
      refine (HW.out _ T1.b).mono ?_
      rintro e w2 ⟨rfl, hb2⟩
      have T2 := T1.next hb2
      clear xa0 xa1 T1 hb2
      have xa0 := T2.x.c0
      have xa1 := T2.x.c1
      go_wp2
      go_ret2
      exact ⟨by rw [HV.out, HE.out]; rfl, T2.b⟩
    · have HW := Lib.hid (fun W (hW : Below w.heap.size w W) => word_ok A na ca a W (h.ra.below hW) hma (by omega))
      have hv1 := val_one (a := a) (by omega)
      have hx := words_lim h.ra.words 0
      rw [B64_eq] at hx
      have hz := zof_sgn p a
      rw [hv1] at hz
      have hneg : p = true → lim a 0 ≠ 0 := fun hp => by
        subst hp
        have := val_pos hma (by simpa [mayZ, hma] using hm)
        rw [hv1] at this
        omega
      generalize lim a 0 = x at HW hv1 hx hz hneg
      clear hval hl hla hv1 hma
      have HE : Hid (intE p a = if -9223372036854775808 ≤ zof p a ∧ zof p a ≤ 9223372036854775807 then 0 else 4) := by show _ = _; unfold intE; rw [if_pos hm]
      have HV : Hid (intZ p a = if -9223372036854775808 ≤ zof p a ∧ zof p a ≤ 9223372036854775807 then zof p a else 0) := by
        show _ = _
        unfold intZ
        rw [HE.out]
        by_cases hr : -9223372036854775808 ≤ zof p a ∧ zof p a ≤ 9223372036854775807
        · rw [if_pos hr, if_pos hr]; rfl
        · rw [if_neg hr, if_neg hr]; rfl
      rw [hz] at HE HV
      clear h hm hz
      unfold zv at *
      cases p with
      | true =>
        by_cases hb : x ≤ 9223372036854775808
        · obtain ⟨y, hy⟩ : ∃ y : Int, y = -(x : Int) := ⟨_, rfl⟩
          have hx0 := hneg rfl
          obtain ⟨u, hu0⟩ : ∃ u : Int, u = 18446744073709551616 - (x : Int) := ⟨_, rfl⟩
          have hu : IntKind.u64.wrap (-(x : Int)) = u := by rw [IntKind.wrap_u64]; omega
          have hw : IntKind.i64.wrap u = y := by rw [IntKind.wrap_i64]; omega
          simp only [if_true] at HE HV
          have hs : decide (y < 0) = true := decide_eq_true (by omega)
          have hs2 : (y < 0) = True := by simp only [eq_iff_iff, iff_true, iff_false]; omega
          rw [if_pos (by omega)] at HE HV
          rw [← hy] at HV
          clear hu0 hx0
          clear hneg hx hb hy
          go_enter Tryz.func6, Tryz.ntmps6
          go_wp2_with fail
          refine H1.out.mono ?_
          rintro e w1 ⟨rfl, T1⟩
          have xa0 := T1.x.c0
          have xa1 := T1.x.c1
          go_wp2_with fail
          refine (HW.out _ T1.b).mono ?_
          rintro e w2 ⟨rfl, hb2⟩
          have T2 := T1.next hb2
          clear xa0 xa1 T1 hb2
          have xa0 := T2.x.c0
          have xa1 := T2.x.c1
          go_wp2
          go_ret2
          exact ⟨by rw [HV.out, HE.out]; rfl, T2.b⟩
        · obtain ⟨y, hy⟩ : ∃ y : Int, y = 18446744073709551616 - (x : Int) := ⟨_, rfl⟩
          have hx0 := hneg rfl
          obtain ⟨u, hu0⟩ : ∃ u : Int, u = 18446744073709551616 - (x : Int) := ⟨_, rfl⟩
          have hu : IntKind.u64.wrap (-(x : Int)) = u := by rw [IntKind.wrap_u64]; omega
          have hw : IntKind.i64.wrap u = y := by rw [IntKind.wrap_i64]; omega
          simp only [if_true] at HE HV
          have hs : decide (y < 0) = false := decide_eq_false (by omega)
          have hs2 : (y < 0) = False := by simp only [eq_iff_iff, iff_true, iff_false]; omega
          rw [if_neg (by omega)] at HE HV
          clear hu0 hx0
          clear hneg hx hb hy
          go_enter Tryz.func6, Tryz.ntmps6
          go_wp2_with fail
          refine H1.out.mono ?_
          rintro e w1 ⟨rfl, T1⟩
          have xa0 := T1.x.c0
          have xa1 := T1.x.c1
          go_wp2_with fail
          refine (HW.out _ T1.b).mono ?_
          rintro e w2 ⟨rfl, hb2⟩
          have T2 := T1.next hb2
          clear xa0 xa1 T1 hb2
          have xa0 := T2.x.c0
          have xa1 := T2.x.c1
          go_wp2
          go_ret2
          exact ⟨by rw [HV.out, HE.out]; rfl, T2.b⟩
      | false =>
        by_cases hb : x ≤ 9223372036854775807
        · obtain ⟨y, hy⟩ : ∃ y : Int, y = (x : Int) := ⟨_, rfl⟩
          have hw : IntKind.i64.wrap (x : Int) = y := by rw [IntKind.wrap_i64]; omega
          simp only [Bool.false_eq_true, if_false] at HE HV
          have hs : decide (y < 0) = false := decide_eq_false (by omega)
          have hs2 : (y < 0) = False := by simp only [eq_iff_iff, iff_true, iff_false]; omega
          rw [if_pos (by omega)] at HE HV
          rw [← hy] at HV
          clear hneg hx hb hy
          go_enter Tryz.func6, Tryz.ntmps6
          go_wp2_with fail
          refine H1.out.mono ?_
          rintro e w1 ⟨rfl, T1⟩
          have xa0 := T1.x.c0
          have xa1 := T1.x.c1
          go_wp2_with fail
          refine (HW.out _ T1.b).mono ?_
          rintro e w2 ⟨rfl, hb2⟩
          have T2 := T1.next hb2
          clear xa0 xa1 T1 hb2
          have xa0 := T2.x.c0
          have xa1 := T2.x.c1
          go_wp2
          go_ret2
          exact ⟨by rw [HV.out, HE.out]; rfl, T2.b⟩
        · obtain ⟨y, hy⟩ : ∃ y : Int, y = (x : Int) - 18446744073709551616 := ⟨_, rfl⟩
          have hw : IntKind.i64.wrap (x : Int) = y := by rw [IntKind.wrap_i64]; omega
          simp only [Bool.false_eq_true, if_false] at HE HV
          have hs : decide (y < 0) = true := decide_eq_true (by omega)
          have hs2 : (y < 0) = True := by simp only [eq_iff_iff, iff_true, iff_false]; omega
          rw [if_neg (by omega)] at HE HV
          clear hneg hx hb hy
          go_enter Tryz.func6, Tryz.ntmps6
          go_wp2_with fail
          refine H1.out.mono ?_
          rintro e w1 ⟨rfl, T1⟩
          have xa0 := T1.x.c0
          have xa1 := T1.x.c1
          go_wp2_with fail
          refine (HW.out _ T1.b).mono ?_
          rintro e w2 ⟨rfl, hb2⟩
          have T2 := T1.next hb2
          clear xa0 xa1 T1 hb2
          have xa0 := T2.x.c0
          have xa1 := T2.x.c1
          go_wp2
          go_ret2
          exact ⟨by rw [HV.out, HE.out]; rfl, T2.b⟩
end
section
variable {A A2 : Option Addr} {na ca nb cb v u : Nat} {p q : Bool} {a b : List Nat} {w : World} {z y : Int}
end
end Go.Proofs.YtjipdfebehcggaaGreatDoor

/- The chapter's first examples. -/
namespace Go.Proofs.YtjipdfebehcggaaGreatDoor
open Go.RowKit Go.Shelf
set_option linter.unusedVariables false
set_option linter.unusedSimpArgs false

def GivesIs (F : Nat) (x y z : Int) : Prop := ∀ (A A2 : Option Addr) (na ca nb cb : Nat) (w : World), ZNm w A na ca x → ZNm w A2 nb cb y → na ≤ 400 → nb ≤ 400 →
  Calls Tryz.prog F #[zV x A na ca, zV y A2 nb cb] w (ZAns w z 0)
theorem small_len {W : World} {B : Nat} {A : Option Addr} {k c : Nat} {x : Int} (o : Own W B (.slice A k c) (limbs x.natAbs)) (h1 : -1000 ≤ x) (h2 : x ≤ 1000) : k ≤ 1 := o.nm.len (N := 1) (by rw [Nat.pow_one, B64_eq]; omega)
theorem int_small {z : Int} (z1 : -1000 ≤ z) (z2 : z ≤ 1000) : intE (decide (z < 0)) (limbs z.natAbs) = 0 ∧ intZ (decide (z < 0)) (limbs z.natAbs) = z := by
  have e : intE (decide (z < 0)) (limbs z.natAbs) = 0 := by unfold intE; rw [if_pos (mayZ_num z), zof_num, if_pos (by omega)]
  refine ⟨e, ?_⟩
  unfold intZ
  rw [e, if_pos rfl, zof_num]
set_option maxRecDepth 100000 in
set_option maxHeartbeats 2000000 in
theorem givesAdd (x y z : Int) (w : World) (hF : GivesIs 36 x y z) (x1 : -1000 ≤ x) (x2 : x ≤ 1000) (y1 : -1000 ≤ y) (y2 : y ≤ 1000) (z1 : -1000 ≤ z) (z2 : z ≤ 1000) :
    Calls Tryz.prog 35 #[.func (.func 36) #[] #[], .int .i64 x, .int .i64 y, .int .i64 z] w fun e w' => e = .returned (.bool true) ∧ Below w.heap.size w w' := by
  have HF := Lib.hid hF
  have HX := Lib.hid (fun W => wOf_any (w := W) x (by omega) (by omega))
  have HY := Lib.hid (fun W => wOf_any (w := W) y (by omega) (by omega))
  have HI := Lib.hid (int_small z1 z2)
  have B := Lib.hid (And.intro x1 (And.intro x2 (And.intro y1 (And.intro y2 (And.intro z1 z2)))))
  clear hF x1 x2 y1 y2 z1 z2
  go_enter Tryz.func35, Tryz.ntmps35
  go_wp2_with fail
  refine (HX.out _).mono ?_
  rintro e w1 ⟨A1, k1, c1, rfl, o1, hb1⟩
  have l1 := Lib.hid (small_len o1 B.out.1 B.out.2.1)
  unfold zV zv
  go_wp2_with fail
  refine (HY.out _).mono ?_
  rintro e w2 ⟨A2, k2, c2, rfl, o2, hb2⟩
  have l2 := Lib.hid (small_len o2 B.out.2.2.1 B.out.2.2.2.1)
  have o1 := Lib.hid (o1.nm.below hb2)
  have hb2 := Lib.hid (below_then hb1 hb2)
  clear hb1
  unfold zV zv
  go_wp2_with fail
  refine (HF.out A1 A2 k1 c1 k2 c2 w2 o1.out o2.nm (by have := l1.out; omega) (by have := l2.out; omega)).mono ?_
  rintro e w3 ⟨A3, k3, c3, rfl, o3, hb3⟩
  have l3 := Lib.hid (small_len o3 B.out.2.2.2.2.1 B.out.2.2.2.2.2)
  have HB := Lib.hid (below_then hb2.out hb3)
  have HJ := Lib.hid (fun W (hW : Below w3.heap.size w3 W) => intZ_any (p := decide (z < 0)) (a := limbs z.natAbs) (w := W) (A := A3) (na := k3) (ca := c3) ⟨o3.nm.rd.below hW, by have := l3.out; omega, o3.nm.nc, o3.nm.cm⟩)
  rw [HI.out.1, HI.out.2] at HJ
  clear hb3 o2 o3
  unfold zV zv IAns at *
  go_wp2_with fail
  refine (HJ.out _ (bxb _ _)).mono ?_
  rintro e w4 ⟨rfl, hb4⟩
  have HB4 := Lib.hid (below_then (below_then HB.out (bxb _ _)) hb4)
  clear hb4
  go_wp2
  go_ret
  exact ⟨by simp, HB4.out⟩
set_option maxRecDepth 100000 in
set_option maxHeartbeats 2000000 in
theorem givesMul (x y z : Int) (w : World) (hF : GivesIs 37 x y z) (x1 : -1000 ≤ x) (x2 : x ≤ 1000) (y1 : -1000 ≤ y) (y2 : y ≤ 1000) (z1 : -1000 ≤ z) (z2 : z ≤ 1000) :
    Calls Tryz.prog 35 #[.func (.func 37) #[] #[], .int .i64 x, .int .i64 y, .int .i64 z] w fun e w' => e = .returned (.bool true) ∧ Below w.heap.size w w' := by
  have HF := Lib.hid hF
  have HX := Lib.hid (fun W => wOf_any (w := W) x (by omega) (by omega))
  have HY := Lib.hid (fun W => wOf_any (w := W) y (by omega) (by omega))
  have HI := Lib.hid (int_small z1 z2)
  have B := Lib.hid (And.intro x1 (And.intro x2 (And.intro y1 (And.intro y2 (And.intro z1 z2)))))
  clear hF x1 x2 y1 y2 z1 z2
  go_enter Tryz.func35, Tryz.ntmps35
  go_wp2_with fail
  refine (HX.out _).mono ?_
  rintro e w1 ⟨A1, k1, c1, rfl, o1, hb1⟩
  have l1 := Lib.hid (small_len o1 B.out.1 B.out.2.1)
  unfold zV zv
  go_wp2_with fail
  refine (HY.out _).mono ?_
  rintro e w2 ⟨A2, k2, c2, rfl, o2, hb2⟩
  have l2 := Lib.hid (small_len o2 B.out.2.2.1 B.out.2.2.2.1)
  have o1 := Lib.hid (o1.nm.below hb2)
  have hb2 := Lib.hid (below_then hb1 hb2)
  clear hb1
  unfold zV zv
  go_wp2_with fail
  refine (HF.out A1 A2 k1 c1 k2 c2 w2 o1.out o2.nm (by have := l1.out; omega) (by have := l2.out; omega)).mono ?_
  rintro e w3 ⟨A3, k3, c3, rfl, o3, hb3⟩
  have l3 := Lib.hid (small_len o3 B.out.2.2.2.2.1 B.out.2.2.2.2.2)
  have HB := Lib.hid (below_then hb2.out hb3)
  have HJ := Lib.hid (fun W (hW : Below w3.heap.size w3 W) => intZ_any (p := decide (z < 0)) (a := limbs z.natAbs) (w := W) (A := A3) (na := k3) (ca := c3) ⟨o3.nm.rd.below hW, by have := l3.out; omega, o3.nm.nc, o3.nm.cm⟩)
  rw [HI.out.1, HI.out.2] at HJ
  clear hb3 o2 o3
  unfold zV zv IAns at *
  go_wp2_with fail
  refine (HJ.out _ (bxb _ _)).mono ?_
  rintro e w4 ⟨rfl, hb4⟩
  have HB4 := Lib.hid (below_then (below_then HB.out (bxb _ _)) hb4)
  clear hb4
  go_wp2
  go_ret
  exact ⟨by simp, HB4.out⟩
set_option maxRecDepth 100000 in
set_option maxHeartbeats 2000000 in
theorem givesFloor (x y z : Int) (w : World) (hF : GivesIs 11 x y z) (x1 : -1000 ≤ x) (x2 : x ≤ 1000) (y1 : -1000 ≤ y) (y2 : y ≤ 1000) (z1 : -1000 ≤ z) (z2 : z ≤ 1000) :
    Calls Tryz.prog 35 #[.func (.func 11) #[] #[], .int .i64 x, .int .i64 y, .int .i64 z] w fun e w' => e = .returned (.bool true) ∧ Below w.heap.size w w' := by
  have HF := Lib.hid hF
  have HX := Lib.hid (fun W => wOf_any (w := W) x (by omega) (by omega))
  have HY := Lib.hid (fun W => wOf_any (w := W) y (by omega) (by omega))
  have HI := Lib.hid (int_small z1 z2)
  have B := Lib.hid (And.intro x1 (And.intro x2 (And.intro y1 (And.intro y2 (And.intro z1 z2)))))
  clear hF x1 x2 y1 y2 z1 z2
  go_enter Tryz.func35, Tryz.ntmps35
  go_wp2_with fail
  refine (HX.out _).mono ?_
  rintro e w1 ⟨A1, k1, c1, rfl, o1, hb1⟩
  have l1 := Lib.hid (small_len o1 B.out.1 B.out.2.1)
  unfold zV zv
  go_wp2_with fail
  refine (HY.out _).mono ?_
  rintro e w2 ⟨A2, k2, c2, rfl, o2, hb2⟩
  have l2 := Lib.hid (small_len o2 B.out.2.2.1 B.out.2.2.2.1)
  have o1 := Lib.hid (o1.nm.below hb2)
  have hb2 := Lib.hid (below_then hb1 hb2)
  clear hb1
  unfold zV zv
  go_wp2_with fail
  refine (HF.out A1 A2 k1 c1 k2 c2 w2 o1.out o2.nm (by have := l1.out; omega) (by have := l2.out; omega)).mono ?_
  rintro e w3 ⟨A3, k3, c3, rfl, o3, hb3⟩
  have l3 := Lib.hid (small_len o3 B.out.2.2.2.2.1 B.out.2.2.2.2.2)
  have HB := Lib.hid (below_then hb2.out hb3)
  have HJ := Lib.hid (fun W (hW : Below w3.heap.size w3 W) => intZ_any (p := decide (z < 0)) (a := limbs z.natAbs) (w := W) (A := A3) (na := k3) (ca := c3) ⟨o3.nm.rd.below hW, by have := l3.out; omega, o3.nm.nc, o3.nm.cm⟩)
  rw [HI.out.1, HI.out.2] at HJ
  clear hb3 o2 o3
  unfold zV zv IAns at *
  go_wp2_with fail
  refine (HJ.out _ (bxb _ _)).mono ?_
  rintro e w4 ⟨rfl, hb4⟩
  have HB4 := Lib.hid (below_then (below_then HB.out (bxb _ _)) hb4)
  clear hb4
  go_wp2
  go_ret
  exact ⟨by simp, HB4.out⟩
set_option maxRecDepth 100000 in
set_option maxHeartbeats 2000000 in
theorem givesCeil (x y z : Int) (w : World) (hF : GivesIs 16 x y z) (x1 : -1000 ≤ x) (x2 : x ≤ 1000) (y1 : -1000 ≤ y) (y2 : y ≤ 1000) (z1 : -1000 ≤ z) (z2 : z ≤ 1000) :
    Calls Tryz.prog 35 #[.func (.func 16) #[] #[], .int .i64 x, .int .i64 y, .int .i64 z] w fun e w' => e = .returned (.bool true) ∧ Below w.heap.size w w' := by
  have HF := Lib.hid hF
  have HX := Lib.hid (fun W => wOf_any (w := W) x (by omega) (by omega))
  have HY := Lib.hid (fun W => wOf_any (w := W) y (by omega) (by omega))
  have HI := Lib.hid (int_small z1 z2)
  have B := Lib.hid (And.intro x1 (And.intro x2 (And.intro y1 (And.intro y2 (And.intro z1 z2)))))
  clear hF x1 x2 y1 y2 z1 z2
  go_enter Tryz.func35, Tryz.ntmps35
  go_wp2_with fail
  refine (HX.out _).mono ?_
  rintro e w1 ⟨A1, k1, c1, rfl, o1, hb1⟩
  have l1 := Lib.hid (small_len o1 B.out.1 B.out.2.1)
  unfold zV zv
  go_wp2_with fail
  refine (HY.out _).mono ?_
  rintro e w2 ⟨A2, k2, c2, rfl, o2, hb2⟩
  have l2 := Lib.hid (small_len o2 B.out.2.2.1 B.out.2.2.2.1)
  have o1 := Lib.hid (o1.nm.below hb2)
  have hb2 := Lib.hid (below_then hb1 hb2)
  clear hb1
  unfold zV zv
  go_wp2_with fail
  refine (HF.out A1 A2 k1 c1 k2 c2 w2 o1.out o2.nm (by have := l1.out; omega) (by have := l2.out; omega)).mono ?_
  rintro e w3 ⟨A3, k3, c3, rfl, o3, hb3⟩
  have l3 := Lib.hid (small_len o3 B.out.2.2.2.2.1 B.out.2.2.2.2.2)
  have HB := Lib.hid (below_then hb2.out hb3)
  have HJ := Lib.hid (fun W (hW : Below w3.heap.size w3 W) => intZ_any (p := decide (z < 0)) (a := limbs z.natAbs) (w := W) (A := A3) (na := k3) (ca := c3) ⟨o3.nm.rd.below hW, by have := l3.out; omega, o3.nm.nc, o3.nm.cm⟩)
  rw [HI.out.1, HI.out.2] at HJ
  clear hb3 o2 o3
  unfold zV zv IAns at *
  go_wp2_with fail
  refine (HJ.out _ (bxb _ _)).mono ?_
  rintro e w4 ⟨rfl, hb4⟩
  have HB4 := Lib.hid (below_then (below_then HB.out (bxb _ _)) hb4)
  clear hb4
  go_wp2
  go_ret
  exact ⟨by simp, HB4.out⟩
theorem isAdd1 (A A2 : Option Addr) (na ca nb cb : Nat) (w : World) (h1 : ZNm w A na ca (-3)) (h2 : ZNm w A2 nb cb (5)) (l1 : na ≤ 400) (l2 : nb ≤ 400) : Calls Tryz.prog 36 #[zV (-3) A na ca, zV (5) A2 nb cb] w (ZAns w (2) 0) := by
  have h := addZ (p := decide ((-3 : Int) < 0)) (q := decide ((5 : Int) < 0)) (w := w) ⟨h1.rd, h2.rd, l1, l2, h1.nc, h1.cm, h2.nc, h2.cm⟩
  rw [twoZ_ok (twoM_num _ _), twoE_ok (twoM_num _ _), zof_num, zof_num] at h
  exact h
theorem isMul1 (A A2 : Option Addr) (na ca nb cb : Nat) (w : World) (h1 : ZNm w A na ca (-3)) (h2 : ZNm w A2 nb cb (5)) (l1 : na ≤ 400) (l2 : nb ≤ 400) : Calls Tryz.prog 37 #[zV (-3) A na ca, zV (5) A2 nb cb] w (ZAns w (-15) 0) := by
  have h := mulZ (p := decide ((-3 : Int) < 0)) (q := decide ((5 : Int) < 0)) (w := w) ⟨h1.rd, h2.rd, l1, l2, h1.nc, h1.cm, h2.nc, h2.cm⟩
  rw [twoZ_ok (twoM_num _ _), twoE_ok (twoM_num _ _), zof_num, zof_num] at h
  exact h
theorem isFloor1 (A A2 : Option Addr) (na ca nb cb : Nat) (w : World) (h1 : ZNm w A na ca (-7)) (h2 : ZNm w A2 nb cb (2)) (l1 : na ≤ 400) (l2 : nb ≤ 400) : Calls Tryz.prog 11 #[zV (-7) A na ca, zV (2) A2 nb cb] w (ZAns w (-4) 0) := by
  have h := floorZ_any (p := decide ((-7 : Int) < 0)) (q := decide ((2 : Int) < 0)) (w := w) ⟨h1.rd, h2.rd, l1, l2, h1.nc, h1.cm, h2.nc, h2.cm⟩
  have hm := twoM_num (-7) (2)
  have hb : limbs (2 : Int).natAbs ≠ [] := fun e => by have := limbs_eq_nil.1 e; omega
  have e : quoE (decide ((-7 : Int) < 0)) (limbs (-7 : Int).natAbs) (decide ((2 : Int) < 0)) (limbs (2 : Int).natAbs) = 0 := by unfold quoE; rw [if_pos hm, if_neg hb]
  have e2 := fun f => show quoZ f (decide ((-7 : Int) < 0)) (limbs (-7 : Int).natAbs) (decide ((2 : Int) < 0)) (limbs (2 : Int).natAbs) = f (-7) (2) by unfold quoZ; rw [if_pos e, zof_num, zof_num]
  rw [e, e2] at h
  exact h
theorem isCeil1 (A A2 : Option Addr) (na ca nb cb : Nat) (w : World) (h1 : ZNm w A na ca (-7)) (h2 : ZNm w A2 nb cb (2)) (l1 : na ≤ 400) (l2 : nb ≤ 400) : Calls Tryz.prog 16 #[zV (-7) A na ca, zV (2) A2 nb cb] w (ZAns w (-3) 0) := by
  have h := ceilZ_any (p := decide ((-7 : Int) < 0)) (q := decide ((2 : Int) < 0)) (w := w) ⟨h1.rd, h2.rd, l1, l2, h1.nc, h1.cm, h2.nc, h2.cm⟩
  have hm := twoM_num (-7) (2)
  have hb : limbs (2 : Int).natAbs ≠ [] := fun e => by have := limbs_eq_nil.1 e; omega
  have e : quoE (decide ((-7 : Int) < 0)) (limbs (-7 : Int).natAbs) (decide ((2 : Int) < 0)) (limbs (2 : Int).natAbs) = 0 := by unfold quoE; rw [if_pos hm, if_neg hb]
  have e2 := fun f => show quoZ f (decide ((-7 : Int) < 0)) (limbs (-7 : Int).natAbs) (decide ((2 : Int) < 0)) (limbs (2 : Int).natAbs) = f (-7) (2) by unfold quoZ; rw [if_pos e, zof_num, zof_num]
  rw [e, e2] at h
  exact h
theorem isFloor2 (A A2 : Option Addr) (na ca nb cb : Nat) (w : World) (h1 : ZNm w A na ca (7)) (h2 : ZNm w A2 nb cb (-2)) (l1 : na ≤ 400) (l2 : nb ≤ 400) : Calls Tryz.prog 11 #[zV (7) A na ca, zV (-2) A2 nb cb] w (ZAns w (-4) 0) := by
  have h := floorZ_any (p := decide ((7 : Int) < 0)) (q := decide ((-2 : Int) < 0)) (w := w) ⟨h1.rd, h2.rd, l1, l2, h1.nc, h1.cm, h2.nc, h2.cm⟩
  have hm := twoM_num (7) (-2)
  have hb : limbs (-2 : Int).natAbs ≠ [] := fun e => by have := limbs_eq_nil.1 e; omega
  have e : quoE (decide ((7 : Int) < 0)) (limbs (7 : Int).natAbs) (decide ((-2 : Int) < 0)) (limbs (-2 : Int).natAbs) = 0 := by unfold quoE; rw [if_pos hm, if_neg hb]
  have e2 := fun f => show quoZ f (decide ((7 : Int) < 0)) (limbs (7 : Int).natAbs) (decide ((-2 : Int) < 0)) (limbs (-2 : Int).natAbs) = f (7) (-2) by unfold quoZ; rw [if_pos e, zof_num, zof_num]
  rw [e, e2] at h
  exact h
set_option maxRecDepth 100000 in
set_option maxHeartbeats 2000000 in
theorem zalive_any (w : World) : Calls Tryz.prog 13 #[] w fun e w' => e = .returned (.bool true) ∧ Below w.heap.size w w' := by
  have H0 := Lib.hid (fun W => givesAdd (-3) 5 (2) W (fun _ _ _ _ _ _ _ h1 h2 l1 l2 => isAdd1 _ _ _ _ _ _ _ h1 h2 l1 l2) (by omega) (by omega) (by omega) (by omega) (by omega) (by omega))
  have H1 := Lib.hid (fun W => givesMul (-3) 5 (-15) W (fun _ _ _ _ _ _ _ h1 h2 l1 l2 => isMul1 _ _ _ _ _ _ _ h1 h2 l1 l2) (by omega) (by omega) (by omega) (by omega) (by omega) (by omega))
  have H2 := Lib.hid (fun W => givesFloor (-7) 2 (-4) W (fun _ _ _ _ _ _ _ h1 h2 l1 l2 => isFloor1 _ _ _ _ _ _ _ h1 h2 l1 l2) (by omega) (by omega) (by omega) (by omega) (by omega) (by omega))
  have H3 := Lib.hid (fun W => givesCeil (-7) 2 (-3) W (fun _ _ _ _ _ _ _ h1 h2 l1 l2 => isCeil1 _ _ _ _ _ _ _ h1 h2 l1 l2) (by omega) (by omega) (by omega) (by omega) (by omega) (by omega))
  have H4 := Lib.hid (fun W => givesFloor (7) (-2) (-4) W (fun _ _ _ _ _ _ _ h1 h2 l1 l2 => isFloor2 _ _ _ _ _ _ _ h1 h2 l1 l2) (by omega) (by omega) (by omega) (by omega) (by omega) (by omega))
  go_enter Tryz.func13, Tryz.ntmps13
  go_wp2_with fail
  refine (H0.out _).mono ?_
  rintro e w1 ⟨rfl, hb1⟩
  have HB1 := Lib.hid (hb1)
  clear hb1
  go_wp2_with fail
  refine (H1.out _).mono ?_
  rintro e w2 ⟨rfl, hb2⟩
  have HB2 := Lib.hid (below_then HB1.out hb2)
  clear hb2
  go_wp2_with fail
  refine (H2.out _).mono ?_
  rintro e w3 ⟨rfl, hb3⟩
  have HB3 := Lib.hid (below_then HB2.out hb3)
  clear hb3
  go_wp2_with fail
  refine (H3.out _).mono ?_
  rintro e w4 ⟨rfl, hb4⟩
  have HB4 := Lib.hid (below_then HB3.out hb4)
  clear hb4
  go_wp2_with fail
  refine (H4.out _).mono ?_
  rintro e w5 ⟨rfl, hb5⟩
  have HB5 := Lib.hid (below_then HB4.out hb5)
  clear hb5
  go_wp2
  go_ret
  exact ⟨rfl, HB5.out⟩
end Go.Proofs.YtjipdfebehcggaaGreatDoor

/- What a law holds: its whole numbers, each in a block of its own. -/
namespace Go.Proofs.YtjipdfebehcggaaGreatDoor
open Go.RowKit Go.Shelf
set_option linter.unusedVariables false
set_option linter.unusedSimpArgs false

/-- A number in a block. -/
structure It where
  g : Nat
  z : Int
  A : Option Addr
  n : Nat
  c : Nat
structure It.ok (W : World) (i : It) : Prop where
  b : BoxZ W i.g (decide (i.z < 0)) i.A i.n i.c
  m : ZNm W i.A i.n i.c i.z
  l : i.n ≤ 400
def Held (W : World) (L : List It) : Prop := ∀ i, i ∈ L → It.ok W i
theorem It.ok.below {W W' : World} {i : It} (h : It.ok W i) (hb : Below W.heap.size W W') : It.ok W' i := ⟨h.b.below hb (Array.getElem?_eq_some_iff.1 h.b).1, h.m.below hb, h.l⟩
theorem Held.next {W W' : World} {L : List It} (h : Held W L) (hb : Below W.heap.size W W') : Held W' L := fun i hi => (h i hi).below hb
theorem Held.cons {W : World} {L : List It} {i : It} (h : Held W L) (hi : It.ok W i) : Held W (i :: L) := fun j hj => by
  rcases List.mem_cons.1 hj with rfl | hj
  · exact hi
  · exact h j hj
theorem held_nil (W : World) : Held W [] := fun i hi => by cases hi
/-- A number that a call has answered, laid in a block. -/
theorem It.fresh {W : World} {B : Nat} {z : Int} {A : Option Addr} {n c : Nat} (o : Own W B (.slice A n c) (limbs z.natAbs)) (hl : n ≤ 400) : It.ok (W.alloc (zo (decide (z < 0)) A n c)) ⟨W.heap.size, z, A, n, c⟩ :=
  ⟨World.alloc_heap_new _ _, o.nm.below (bxb _ _), hl⟩
theorem It.param {w : World} {z : Int} {A : Option Addr} {n c : Nat} (h : ZNm w A n c z) (hl : n ≤ 400) : It.ok (w.alloc (zo (decide (z < 0)) A n c)) ⟨w.heap.size, z, A, n, c⟩ :=
  ⟨World.alloc_heap_new _ _, h.below (bxb _ _), hl⟩
/-- How long a number may be. -/
def Bd (k : Nat) (z : Int) : Prop := z.natAbs < B64 ^ k
theorem Bd.len {W : World} {B k : Nat} {z : Int} {A : Option Addr} {n c : Nat} (h : Bd k z) (o : Own W B (.slice A n c) (limbs z.natAbs)) : n ≤ k := o.nm.len h
theorem Bd.mono {k m : Nat} {z : Int} (h : Bd k z) (hkm : k ≤ m) : Bd m z := Nat.lt_of_lt_of_le h (Nat.pow_le_pow_right B64_pos hkm)
theorem Bd.add {k : Nat} {z y : Int} (h1 : Bd k z) (h2 : Bd k y) : Bd (k + 1) (z + y) := by
  unfold Bd at *
  rw [Nat.pow_succ]
  have := B64_gt
  have h3 : B64 ^ k * 2 ≤ B64 ^ k * B64 := Nat.mul_le_mul_left _ (by omega)
  omega
theorem Bd.neg {k : Nat} {z : Int} (h : Bd k z) : Bd k (-z) := by unfold Bd at *; rw [Int.natAbs_neg]; exact h
theorem Bd.sub {k : Nat} {z y : Int} (h1 : Bd k z) (h2 : Bd k y) : Bd (k + 1) (z - y) := by rw [Int.sub_eq_add_neg]; exact h1.add h2.neg
theorem Bd.mul {k m : Nat} {z y : Int} (h1 : Bd k z) (h2 : Bd m y) : Bd (k + m) (z * y) := by
  unfold Bd at *
  rw [Int.natAbs_mul, Nat.pow_add]
  exact Nat.mul_lt_mul_of_lt_of_le h1 (Nat.le_of_lt h2) (Nat.pos_of_ne_zero (by intro e; omega))
theorem Bd.of {w : World} {A : Option Addr} {n c k : Nat} {z : Int} (h : ZNm w A n c z) (hk : n ≤ k) : Bd k z := Nat.lt_of_lt_of_le h.lt (Nat.pow_le_pow_right B64_pos hk)

section
variable {A A2 : Option Addr} {na ca nb cb : Nat} {w : World} {z y : Int}
theorem z2_num (h1 : ZNm w A na ca z) (h2 : ZNm w A2 nb cb y) (l1 : na ≤ 400) (l2 : nb ≤ 400) : Z2 w A A2 na ca nb cb (limbs z.natAbs) (limbs y.natAbs) := ⟨h1.rd, h2.rd, l1, l2, h1.nc, h1.cm, h2.nc, h2.cm⟩
theorem addN (h1 : ZNm w A na ca z) (h2 : ZNm w A2 nb cb y) (l1 : na ≤ 400) (l2 : nb ≤ 400) : Calls Tryz.prog 36 #[.agg #[.bool (decide (z < 0)), .slice A na ca], .agg #[.bool (decide (y < 0)), .slice A2 nb cb]] w (ZAns w (z + y) 0) := by
  have h := addZ (p := decide (z < 0)) (q := decide (y < 0)) (z2_num h1 h2 l1 l2)
  rw [twoZ_ok (twoM_num _ _), twoE_ok (twoM_num _ _), zof_num, zof_num] at h
  exact h
theorem mulN (h1 : ZNm w A na ca z) (h2 : ZNm w A2 nb cb y) (l1 : na ≤ 400) (l2 : nb ≤ 400) : Calls Tryz.prog 37 #[.agg #[.bool (decide (z < 0)), .slice A na ca], .agg #[.bool (decide (y < 0)), .slice A2 nb cb]] w (ZAns w (z * y) 0) := by
  have h := mulZ (p := decide (z < 0)) (q := decide (y < 0)) (z2_num h1 h2 l1 l2)
  rw [twoZ_ok (twoM_num _ _), twoE_ok (twoM_num _ _), zof_num, zof_num] at h
  exact h
theorem negN (h1 : ZNm w A na ca z) (l1 : na ≤ 400) : Calls Tryz.prog 10 #[.agg #[.bool (decide (z < 0)), .slice A na ca]] w (ZAns w (-z) 0) := by
  have h := negZ (p := decide (z < 0)) (w := w) ⟨h1.rd, l1, h1.nc, h1.cm⟩
  rw [oneZ_ok (mayZ_num _), oneE_ok (mayZ_num _), zof_num] at h
  exact h
theorem checkN (h1 : ZNm w A na ca z) (l1 : na ≤ 400) : Calls Tryz.prog 14 #[.agg #[.bool (decide (z < 0)), .slice A na ca]] w fun e w' => e = .returned (.int .i64 0) ∧ Below w.heap.size w w' := by
  have h := checkZ_any (p := decide (z < 0)) (w := w) ⟨h1.rd, l1, h1.nc, h1.cm⟩
  rw [oneE_ok (mayZ_num _)] at h
  exact h
theorem intN (h1 : ZNm w A na ca z) (l1 : na ≤ 400) (z1 : -9223372036854775808 ≤ z) (z2 : z ≤ 9223372036854775807) : Calls Tryz.prog 6 #[.agg #[.bool (decide (z < 0)), .slice A na ca]] w (IAns w z 0) := by
  have h := intZ_any (p := decide (z < 0)) (w := w) ⟨h1.rd, l1, h1.nc, h1.cm⟩
  have e : intE (decide (z < 0)) (limbs z.natAbs) = 0 := by unfold intE; rw [if_pos (mayZ_num z), zof_num, if_pos ⟨z1, z2⟩]
  rw [e, show intZ (decide (z < 0)) (limbs z.natAbs) = z by unfold intZ; rw [if_pos e, zof_num]] at h
  exact h
theorem sameN (h1 : ZNm w A na ca z) (h2 : ZNm w A2 nb cb y) (l1 : na ≤ 400) (l2 : nb ≤ 400) : Calls Tryz.prog 12 #[.agg #[.bool (decide (z < 0)), .slice A na ca], .agg #[.bool (decide (y < 0)), .slice A2 nb cb]] w fun e w' => e = .returned (.bool (decide (z = y))) ∧ Below w.heap.size w w' := by
  have h := rSameZ_any A A2 na ca nb cb (decide (z < 0)) (decide (y < 0)) (limbs z.natAbs) (limbs y.natAbs) w (z2_num h1 h2 l1 l2)
  have e : decide (decide (z < 0) = decide (y < 0) ∧ limbs z.natAbs = limbs y.natAbs) = decide (z = y) := by
    rw [decide_eq_decide]
    constructor
    · rintro ⟨e1, e2⟩
      have e3 := limbs_inj e2
      rw [decide_eq_decide] at e1
      omega
    · rintro rfl
      exact ⟨rfl, rfl⟩
  rw [e] at h
  exact h
theorem sameT (h1 : ZNm w A na ca z) (h2 : ZNm w A2 nb cb y) (l1 : na ≤ 400) (l2 : nb ≤ 400) (e : z = y) : Calls Tryz.prog 12 #[.agg #[.bool (decide (z < 0)), .slice A na ca], .agg #[.bool (decide (y < 0)), .slice A2 nb cb]] w fun e w' => e = .returned (.bool true) ∧ Below w.heap.size w w' := by
  have h := sameN h1 h2 l1 l2
  rwa [decide_eq_true e] at h
theorem sameT0 (h1 : ZNm w A na ca z) (l1 : na ≤ 400) (e : z = 0) : Calls Tryz.prog 12 #[.agg #[.bool (decide (z < 0)), .slice A na ca], .agg #[.bool false, .slice none 0 0]] w fun e w' => e = .returned (.bool true) ∧ Below w.heap.size w w' := by
  have h := sameT h1 (zero_znm w) l1 (Nat.zero_le _) e
  rwa [show decide ((0 : Int) < 0) = false from decide_eq_false (by omega)] at h
theorem quoE_num {b : Int} (h0 : b ≠ 0) : quoE (decide (z < 0)) (limbs z.natAbs) (decide (b < 0)) (limbs b.natAbs) = 0 := by
  unfold quoE
  rw [if_pos (twoM_num _ _), if_neg (fun e => by have := limbs_eq_nil.1 e; omega)]
theorem floorN (h1 : ZNm w A na ca z) (h2 : ZNm w A2 nb cb y) (l1 : na ≤ 400) (l2 : nb ≤ 400) (h0 : y ≠ 0) : Calls Tryz.prog 11 #[.agg #[.bool (decide (z < 0)), .slice A na ca], .agg #[.bool (decide (y < 0)), .slice A2 nb cb]] w (ZAns w (Int.fdiv z y) 0) := by
  have h := floorZ_any (p := decide (z < 0)) (q := decide (y < 0)) (z2_num h1 h2 l1 l2)
  unfold quoZ at h
  rw [quoE_num h0, if_pos rfl, zof_num, zof_num] at h
  exact h
theorem ceilN (h1 : ZNm w A na ca z) (h2 : ZNm w A2 nb cb y) (l1 : na ≤ 400) (l2 : nb ≤ 400) (h0 : y ≠ 0) : Calls Tryz.prog 16 #[.agg #[.bool (decide (z < 0)), .slice A na ca], .agg #[.bool (decide (y < 0)), .slice A2 nb cb]] w (ZAns w (cdiv z y) 0) := by
  have h := ceilZ_any (p := decide (z < 0)) (q := decide (y < 0)) (z2_num h1 h2 l1 l2)
  unfold quoZ at h
  rw [quoE_num h0, if_pos rfl, zof_num, zof_num] at h
  exact h
theorem exactN (h1 : ZNm w A na ca z) (h2 : ZNm w A2 nb cb y) (l1 : na ≤ 400) (l2 : nb ≤ 400) (h0 : y ≠ 0) : Calls Tryz.prog 18 #[.agg #[.bool (decide (z < 0)), .slice A na ca], .agg #[.bool (decide (y < 0)), .slice A2 nb cb]] w (ZAns w (if y ∣ z then Int.fdiv z y else 0) (if y ∣ z then 0 else 6)) := by
  have h := exactZ_any (p := decide (z < 0)) (q := decide (y < 0)) (z2_num h1 h2 l1 l2)
  unfold exZ exE at h
  rw [quoE_num h0, if_pos rfl, zof_num, zof_num] at h
  by_cases hd : y ∣ z
  · rw [if_pos hd] at h
    rw [if_pos hd, if_pos hd]
    exact h
  · rw [if_neg hd] at h
    rw [if_neg hd, if_neg hd]
    exact h
theorem Bd.fdiv {k : Nat} {z y : Int} (h : Bd k z) (h0 : y ≠ 0) : Bd (k + 1) (Int.fdiv z y) := by
  unfold Bd at *
  rw [(fdiv_quot h0).1, Nat.pow_succ]
  have h1 := Nat.div_le_self z.natAbs y.natAbs
  have := B64_gt
  have h3 : B64 ^ k * 2 ≤ B64 ^ k * B64 := Nat.mul_le_mul_left _ (by omega)
  split <;> omega
theorem Bd.cdiv {k : Nat} {z y : Int} (h : Bd k z) (h0 : y ≠ 0) : Bd (k + 1) (Go.Proofs.YtjipdfebehcggaaGreatDoor.cdiv z y) := by
  unfold Go.Proofs.YtjipdfebehcggaaGreatDoor.cdiv
  exact (Bd.fdiv h.neg h0).neg
end
end Go.Proofs.YtjipdfebehcggaaGreatDoor

/- The law WholeQuotients. -/
namespace Go.Proofs.YtjipdfebehcggaaGreatDoor
open Go.RowKit Go.Shelf
set_option linter.unusedVariables false
set_option linter.unusedSimpArgs false

/-- A number that is no longer than a law may hold. -/
def Ln (z : Int) : Prop := (limbs z.natAbs).length ≤ 400
theorem Ln.len {z : Int} {W : World} {B : Nat} {A : Option Addr} {n c : Nat} (h : Ln z) (o : Own W B (.slice A n c) (limbs z.natAbs)) : n ≤ 400 := by
  have h1 := o.rd.2.1
  unfold Ln at h
  omega
theorem ln_zero : Ln 0 := by unfold Ln; rw [show (0 : Int).natAbs = 0 from rfl, limbs_zero]; exact Nat.zero_le _
theorem Bd.ln {k : Nat} {z : Int} (h : Bd k z) (hk : k ≤ 400) : Ln z := Nat.le_trans (limbs_length_le h) hk
theorem zof_bd {w : World} {A : Option Addr} {na : Nat} {a : List Nat} {p : Bool} (h : Rd w A na a) : Bd na (zof p a) := by
  unfold Bd
  rw [zof_abs]
  have h1 := val_lt h.words
  rw [h.len] at h1
  exact h1
section
variable {A A2 : Option Addr} {na ca nb cb : Nat} {p q : Bool} {a b : List Nat} {w : World}
theorem quo_ok (h : quoE p a q b = 0) : zof q b ≠ 0 := by
  have hm : twoM p a q b = true := by
    cases hm : twoM p a q b with
    | true => rfl
    | false => unfold quoE at h; rw [if_neg (by rw [hm]; decide)] at h; cases h
  have hb : b ≠ [] := fun e => by unfold quoE at h; rw [if_pos hm, if_pos e] at h; cases h
  exact zof_ne (twoM_iff.1 hm).2 hb
theorem ln_floor (h : Z2 w A A2 na ca nb cb a b) (hn : na ≤ 100) : Ln (quoZ Int.fdiv p a q b) := by
  unfold quoZ
  split
  · rename_i h0
    exact (Bd.fdiv (zof_bd h.ra) (quo_ok h0)).ln (by omega)
  · exact ln_zero
theorem ln_ceil (h : Z2 w A A2 na ca nb cb a b) (hn : na ≤ 100) : Ln (quoZ cdiv p a q b) := by
  unfold quoZ
  split
  · rename_i h0
    exact (Bd.cdiv (zof_bd h.ra) (quo_ok h0)).ln (by omega)
  · exact ln_zero
theorem ln_exact (h : Z2 w A A2 na ca nb cb a b) (hn : na ≤ 100) : Ln (exZ p a q b) := by
  unfold exZ
  split
  · rename_i h0
    have h1 : quoE p a q b = 0 := by
      unfold exE at h0
      split at h0
      · assumption
      · exact absurd h0 (by assumption)
    exact (Bd.fdiv (zof_bd h.ra) (quo_ok h1)).ln (by omega)
  · exact ln_zero
end
theorem ln_parse (s : ByteArray) : Ln (parseZ s) := by
  by_cases h : parseZE s = 0
  · unfold Ln
    rw [← (parseL_z h).2]
    exact Nat.le_trans (parse_len _) (by omega)
  · rw [parseZE_no h]
    exact ln_zero
theorem wrap_small {E : Int} (h1 : 0 ≤ E) (h2 : E ≤ 1000) : IntKind.i64.wrap E = E := by rw [IntKind.wrap_i64]; omega
theorem quoE_small (p : Bool) (a : List Nat) (q : Bool) (b : List Nat) : 0 ≤ quoE p a q b ∧ quoE p a q b ≤ 1000 := by unfold quoE; split <;> (try split) <;> omega
theorem exE_small (p : Bool) (a : List Nat) (q : Bool) (b : List Nat) : 0 ≤ exE p a q b ∧ exE p a q b ≤ 1000 := by
  have := quoE_small p a q b
  unfold exE; split <;> (try split) <;> omega
theorem textZE_small (p : Bool) (a : List Nat) : 0 ≤ textZE p a ∧ textZE p a ≤ 1000 := by unfold textZE textE; split <;> (try split) <;> (try split) <;> omega
theorem parseZE_small (s : ByteArray) : 0 ≤ parseZE s ∧ parseZE s ≤ 1000 := by unfold parseZE parseE; split <;> (try split) <;> (try split) <;> (try split) <;> omega
set_option maxRecDepth 100000 in
set_option maxHeartbeats 20000000 in
theorem quotientsZ_short (A A2 : Option Addr) (na ca nb cb : Nat) (p q : Bool) (a b : List Nat) (s : ByteArray) (w : World) (h : Z2 w A A2 na ca nb cb a b) (l1 : na ≤ 6) (l2 : nb ≤ 6) (l3 : s.size ≤ 80) :
    Calls Tryz.prog 4 #[zv p A na ca, zv q A2 nb cb, .string s] w fun e w' => e = .returned (.bool true) ∧ Below w.heap.size w w' := by
  have T0 := two_box w p A na ca q A2 nb cb
  have HFloor0 : Hid (∀ W, Below w.heap.size w W → Calls Tryz.prog 11 #[zv p A na ca, zv q A2 nb cb] W (ZAns W (quoZ Int.fdiv p a q b) (quoE p a q b))) := fun W hb => floorZ_any (w := W) (h.below hb)
  have HFloor1 : Hid (∀ W, Below w.heap.size w W → Calls Tryz.prog 15 #[zv p A na ca, zv q A2 nb cb] W (ZAns W (quoZ Int.fdiv p a q b) (quoE p a q b))) := fun W hb => rFloorZ_any A A2 na ca nb cb p q a b W (h.below hb)
  have LFloor : Hid (Ln (quoZ Int.fdiv p a q b)) := ln_floor h (by omega)
  have wFloor := wrap_small (quoE_small p a q b).1 (quoE_small p a q b).2
  have HCeil0 : Hid (∀ W, Below w.heap.size w W → Calls Tryz.prog 16 #[zv p A na ca, zv q A2 nb cb] W (ZAns W (quoZ cdiv p a q b) (quoE p a q b))) := fun W hb => ceilZ_any (w := W) (h.below hb)
  have HCeil1 : Hid (∀ W, Below w.heap.size w W → Calls Tryz.prog 17 #[zv p A na ca, zv q A2 nb cb] W (ZAns W (quoZ cdiv p a q b) (quoE p a q b))) := fun W hb => rCeilZ_any A A2 na ca nb cb p q a b W (h.below hb)
  have LCeil : Hid (Ln (quoZ cdiv p a q b)) := ln_ceil h (by omega)
  have wCeil := wrap_small (quoE_small p a q b).1 (quoE_small p a q b).2
  have HExact0 : Hid (∀ W, Below w.heap.size w W → Calls Tryz.prog 18 #[zv p A na ca, zv q A2 nb cb] W (ZAns W (exZ p a q b) (exE p a q b))) := fun W hb => exactZ_any (w := W) (h.below hb)
  have HExact1 : Hid (∀ W, Below w.heap.size w W → Calls Tryz.prog 19 #[zv p A na ca, zv q A2 nb cb] W (ZAns W (exZ p a q b) (exE p a q b))) := fun W hb => rExactZ_any A A2 na ca nb cb p q a b W (h.below hb)
  have LExact : Hid (Ln (exZ p a q b)) := ln_exact h (by omega)
  have wExact := wrap_small (exE_small p a q b).1 (exE_small p a q b).2
  have HText0 : Hid (∀ W, Below w.heap.size w W → Calls Tryz.prog 7 #[zv p A na ca] W fun e w' => e = .returned (.tuple #[.string (textZS p a), .int .i64 (textZE p a)]) ∧ Below W.heap.size W w') := fun W hb => textZ_any (w := W) (h.one.below hb)
  have HText1 : Hid (∀ W, Below w.heap.size w W → Calls Tryz.prog 20 #[zv p A na ca] W fun e w' => e = .returned (.tuple #[.string (textZS p a), .int .i64 (textZE p a)]) ∧ Below W.heap.size W w') := fun W hb => rTextZ_any A na ca p a W (h.one.below hb)
  have wText := wrap_small (textZE_small p a).1 (textZE_small p a).2
  have HParse0 : Hid (∀ W, Below w.heap.size w W → Calls Tryz.prog 9 #[.string s] W (ZAns W (parseZ s) (parseZE s))) := fun W hb => parseZ_any s W (by omega)
  have HParse1 : Hid (∀ W, Below w.heap.size w W → Calls Tryz.prog 21 #[.string s] W (ZAns W (parseZ s) (parseZE s))) := fun W hb => rParseZ_any s W (by omega)
  have LParse : Hid (Ln (parseZ s)) := ln_parse s
  have wParse := wrap_small (parseZE_small s).1 (parseZE_small s).2
  generalize quoZ Int.fdiv p a q b = zFloor at HFloor0 HFloor1 LFloor
  generalize quoE p a q b = EFloor at HFloor0 HFloor1 HCeil0 HCeil1 wFloor wCeil
  generalize quoZ cdiv p a q b = zCeil at HCeil0 HCeil1 LCeil
  generalize exZ p a q b = zExact at HExact0 HExact1 LExact
  generalize exE p a q b = EExact at HExact0 HExact1 wExact
  generalize textZS p a = zText at HText0 HText1
  generalize textZE p a = EText at HText0 HText1 wText
  generalize parseZ s = zParse at HParse0 HParse1 LParse
  generalize parseZE s = EParse at HParse0 HParse1 wParse
  have HH0 := Lib.hid (held_nil ((w.alloc (zo p A na ca)).alloc (zo q A2 nb cb)))
  have HT0 := Lib.hid T0
  clear h T0 wCeil
  unfold zv at *
  go_enter Tryz.func4, Tryz.ntmps4
  go_wp2_with fail
  refine (HFloor0.out _ HT0.out.b).mono ?_
  rintro e v1_ ⟨N1, n1, d1, rfl, o1, hb⟩
  have HL := Lib.hid (LFloor.out.len o1)
  have HH1 := Lib.hid ((HH0.out.next (below_then hb (bxb _ (zo (decide (zFloor < 0)) N1 n1 d1)))).cons (It.fresh o1 HL.out))
  have HT1 := Lib.hid (HT0.out.next (below_then hb (bxb _ (zo (decide (zFloor < 0)) N1 n1 d1))))
  clear hb o1 HL HH0 HT0
  unfold zV zv
  have xa0 := HT1.out.x.c0
  have xa1 := HT1.out.x.c1
  have xb0 := HT1.out.y.c0
  have xb1 := HT1.out.y.c1
  go_wp2_with fail
  refine (HFloor1.out _ HT1.out.b).mono ?_
  rintro e v2_ ⟨N2, n2, d2, rfl, o2, hb⟩
  have HL := Lib.hid (LFloor.out.len o2)
  have HH2 := Lib.hid ((HH1.out.next (below_then hb (bxb _ (zo (decide (zFloor < 0)) N2 n2 d2)))).cons (It.fresh o2 HL.out))
  have HT2 := Lib.hid (HT1.out.next (below_then hb (bxb _ (zo (decide (zFloor < 0)) N2 n2 d2))))
  clear hb o2 HL HH1 HT1
  unfold zV zv
  clear xa0 xa1 xb0 xb1
  have xa0 := HT2.out.x.c0
  have xa1 := HT2.out.x.c1
  have xb0 := HT2.out.y.c0
  have xb1 := HT2.out.y.c1
  go_wp2_with fail
  refine (HCeil0.out _ HT2.out.b).mono ?_
  rintro e v3_ ⟨N3, n3, d3, rfl, o3, hb⟩
  have HL := Lib.hid (LCeil.out.len o3)
  have HH3 := Lib.hid ((HH2.out.next (below_then hb (bxb _ (zo (decide (zCeil < 0)) N3 n3 d3)))).cons (It.fresh o3 HL.out))
  have HT3 := Lib.hid (HT2.out.next (below_then hb (bxb _ (zo (decide (zCeil < 0)) N3 n3 d3))))
  clear hb o3 HL HH2 HT2
  unfold zV zv
  clear xa0 xa1 xb0 xb1
  have xa0 := HT3.out.x.c0
  have xa1 := HT3.out.x.c1
  have xb0 := HT3.out.y.c0
  have xb1 := HT3.out.y.c1
  go_wp2_with fail
  refine (HCeil1.out _ HT3.out.b).mono ?_
  rintro e v4_ ⟨N4, n4, d4, rfl, o4, hb⟩
  have HL := Lib.hid (LCeil.out.len o4)
  have HH4 := Lib.hid ((HH3.out.next (below_then hb (bxb _ (zo (decide (zCeil < 0)) N4 n4 d4)))).cons (It.fresh o4 HL.out))
  have HT4 := Lib.hid (HT3.out.next (below_then hb (bxb _ (zo (decide (zCeil < 0)) N4 n4 d4))))
  clear hb o4 HL HH3 HT3
  unfold zV zv
  clear xa0 xa1 xb0 xb1
  have xa0 := HT4.out.x.c0
  have xa1 := HT4.out.x.c1
  have xb0 := HT4.out.y.c0
  have xb1 := HT4.out.y.c1
  go_wp2_with fail
  refine (HExact0.out _ HT4.out.b).mono ?_
  rintro e v5_ ⟨N5, n5, d5, rfl, o5, hb⟩
  have HL := Lib.hid (LExact.out.len o5)
  have HH5 := Lib.hid ((HH4.out.next (below_then hb (bxb _ (zo (decide (zExact < 0)) N5 n5 d5)))).cons (It.fresh o5 HL.out))
  have HT5 := Lib.hid (HT4.out.next (below_then hb (bxb _ (zo (decide (zExact < 0)) N5 n5 d5))))
  clear hb o5 HL HH4 HT4
  unfold zV zv
  clear xa0 xa1 xb0 xb1
  have xa0 := HT5.out.x.c0
  have xa1 := HT5.out.x.c1
  have xb0 := HT5.out.y.c0
  have xb1 := HT5.out.y.c1
  go_wp2_with fail
  refine (HExact1.out _ HT5.out.b).mono ?_
  rintro e v6_ ⟨N6, n6, d6, rfl, o6, hb⟩
  have HL := Lib.hid (LExact.out.len o6)
  have HH6 := Lib.hid ((HH5.out.next (below_then hb (bxb _ (zo (decide (zExact < 0)) N6 n6 d6)))).cons (It.fresh o6 HL.out))
  have HT6 := Lib.hid (HT5.out.next (below_then hb (bxb _ (zo (decide (zExact < 0)) N6 n6 d6))))
  clear hb o6 HL HH5 HT5
  unfold zV zv
  clear xa0 xa1 xb0 xb1
  have xa0 := HT6.out.x.c0
  have xa1 := HT6.out.x.c1
  have xb0 := HT6.out.y.c0
  have xb1 := HT6.out.y.c1
  go_wp2_with fail
  refine (HText0.out _ HT6.out.b).mono ?_
  rintro e v7_ ⟨rfl, hb⟩
  have HH7 := Lib.hid (HH6.out.next hb)
  have HT7 := Lib.hid (HT6.out.next hb)
  clear hb HH6 HT6
  clear xa0 xa1 xb0 xb1
  have xa0 := HT7.out.x.c0
  have xa1 := HT7.out.x.c1
  have xb0 := HT7.out.y.c0
  have xb1 := HT7.out.y.c1
  go_wp2_with fail
  refine (HText1.out _ HT7.out.b).mono ?_
  rintro e v8_ ⟨rfl, hb⟩
  have HH8 := Lib.hid (HH7.out.next hb)
  have HT8 := Lib.hid (HT7.out.next hb)
  clear hb HH7 HT7
  clear xa0 xa1 xb0 xb1
  have xa0 := HT8.out.x.c0
  have xa1 := HT8.out.x.c1
  have xb0 := HT8.out.y.c0
  have xb1 := HT8.out.y.c1
  go_wp2_with fail
  refine (HParse0.out _ HT8.out.b).mono ?_
  rintro e v9_ ⟨N9, n9, d9, rfl, o9, hb⟩
  have HL := Lib.hid (LParse.out.len o9)
  have HH9 := Lib.hid ((HH8.out.next (below_then hb (bxb _ (zo (decide (zParse < 0)) N9 n9 d9)))).cons (It.fresh o9 HL.out))
  have HT9 := Lib.hid (HT8.out.next (below_then hb (bxb _ (zo (decide (zParse < 0)) N9 n9 d9))))
  clear hb o9 HL HH8 HT8
  unfold zV zv
  clear xa0 xa1 xb0 xb1
  have xa0 := HT9.out.x.c0
  have xa1 := HT9.out.x.c1
  have xb0 := HT9.out.y.c0
  have xb1 := HT9.out.y.c1
  go_wp2_with fail
  refine (HParse1.out _ HT9.out.b).mono ?_
  rintro e v10_ ⟨N10, n10, d10, rfl, o10, hb⟩
  have HL := Lib.hid (LParse.out.len o10)
  have HH10 := Lib.hid ((HH9.out.next (below_then hb (bxb _ (zo (decide (zParse < 0)) N10 n10 d10)))).cons (It.fresh o10 HL.out))
  have HT10 := Lib.hid (HT9.out.next (below_then hb (bxb _ (zo (decide (zParse < 0)) N10 n10 d10))))
  clear hb o10 HL HH9 HT9
  unfold zV zv
  clear xa0 xa1 xb0 xb1
  have xFloor00 := (HH10.out _ (.tail _ (.tail _ (.tail _ (.tail _ (.tail _ (.tail _ (.tail _ (.head _))))))))).b.c0
  have xFloor01 := (HH10.out _ (.tail _ (.tail _ (.tail _ (.tail _ (.tail _ (.tail _ (.tail _ (.head _))))))))).b.c1
  have xFloor10 := (HH10.out _ (.tail _ (.tail _ (.tail _ (.tail _ (.tail _ (.tail _ (.head _)))))))).b.c0
  have xFloor11 := (HH10.out _ (.tail _ (.tail _ (.tail _ (.tail _ (.tail _ (.tail _ (.head _)))))))).b.c1
  go_wp2_with fail
  refine (sameT (HH10.out _ (.tail _ (.tail _ (.tail _ (.tail _ (.tail _ (.tail _ (.tail _ (.head _))))))))).m (HH10.out _ (.tail _ (.tail _ (.tail _ (.tail _ (.tail _ (.tail _ (.head _)))))))).m (HH10.out _ (.tail _ (.tail _ (.tail _ (.tail _ (.tail _ (.tail _ (.tail _ (.head _))))))))).l (HH10.out _ (.tail _ (.tail _ (.tail _ (.tail _ (.tail _ (.tail _ (.head _)))))))).l rfl).mono ?_
  rintro e v11_ ⟨rfl, hb⟩
  have HH11 := Lib.hid (HH10.out.next hb)
  have HT11 := Lib.hid (HT10.out.next hb)
  clear hb HH10 HT10
  clear xFloor00 xFloor01 xFloor10 xFloor11
  have xCeil00 := (HH11.out _ (.tail _ (.tail _ (.tail _ (.tail _ (.tail _ (.head _))))))).b.c0
  have xCeil01 := (HH11.out _ (.tail _ (.tail _ (.tail _ (.tail _ (.tail _ (.head _))))))).b.c1
  have xCeil10 := (HH11.out _ (.tail _ (.tail _ (.tail _ (.tail _ (.head _)))))).b.c0
  have xCeil11 := (HH11.out _ (.tail _ (.tail _ (.tail _ (.tail _ (.head _)))))).b.c1
  go_wp2_with fail
  refine (sameT (HH11.out _ (.tail _ (.tail _ (.tail _ (.tail _ (.tail _ (.head _))))))).m (HH11.out _ (.tail _ (.tail _ (.tail _ (.tail _ (.head _)))))).m (HH11.out _ (.tail _ (.tail _ (.tail _ (.tail _ (.tail _ (.head _))))))).l (HH11.out _ (.tail _ (.tail _ (.tail _ (.tail _ (.head _)))))).l rfl).mono ?_
  rintro e v12_ ⟨rfl, hb⟩
  have HH12 := Lib.hid (HH11.out.next hb)
  have HT12 := Lib.hid (HT11.out.next hb)
  clear hb HH11 HT11
  clear xCeil00 xCeil01 xCeil10 xCeil11
  have xExact00 := (HH12.out _ (.tail _ (.tail _ (.tail _ (.head _))))).b.c0
  have xExact01 := (HH12.out _ (.tail _ (.tail _ (.tail _ (.head _))))).b.c1
  have xExact10 := (HH12.out _ (.tail _ (.tail _ (.head _)))).b.c0
  have xExact11 := (HH12.out _ (.tail _ (.tail _ (.head _)))).b.c1
  go_wp2_with fail
  refine (sameT (HH12.out _ (.tail _ (.tail _ (.tail _ (.head _))))).m (HH12.out _ (.tail _ (.tail _ (.head _)))).m (HH12.out _ (.tail _ (.tail _ (.tail _ (.head _))))).l (HH12.out _ (.tail _ (.tail _ (.head _)))).l rfl).mono ?_
  rintro e v13_ ⟨rfl, hb⟩
  have HH13 := Lib.hid (HH12.out.next hb)
  have HT13 := Lib.hid (HT12.out.next hb)
  clear hb HH12 HT12
  clear xExact00 xExact01 xExact10 xExact11
  have xParse00 := (HH13.out _ (.tail _ (.head _))).b.c0
  have xParse01 := (HH13.out _ (.tail _ (.head _))).b.c1
  have xParse10 := (HH13.out _ (.head _)).b.c0
  have xParse11 := (HH13.out _ (.head _)).b.c1
  go_wp2_with fail
  refine (sameT (HH13.out _ (.tail _ (.head _))).m (HH13.out _ (.head _)).m (HH13.out _ (.tail _ (.head _))).l (HH13.out _ (.head _)).l rfl).mono ?_
  rintro e v14_ ⟨rfl, hb⟩
  have HH14 := Lib.hid (HH13.out.next hb)
  have HT14 := Lib.hid (HT13.out.next hb)
  clear hb HH13 HT13
  clear xParse00 xParse01 xParse10 xParse11
  go_wp2
  go_ret
  exact ⟨by simp, HT14.out.b⟩
set_option maxRecDepth 100000 in
set_option maxHeartbeats 4000000 in
theorem quotientsZ_long (A A2 : Option Addr) (na ca nb cb : Nat) (p q : Bool) (s : ByteArray) (w : World) (hl : 6 < na ∨ 6 < nb ∨ 80 < s.size) (m1 : na ≤ 9223372036854775807) (m2 : nb ≤ 9223372036854775807) (m3 : s.size ≤ 9223372036854775807) :
    Calls Tryz.prog 4 #[zv p A na ca, zv q A2 nb cb, .string s] w fun e w' => e = .returned (.bool true) ∧ Below w.heap.size w w' := by
  have T0 := two_box w p A na ca q A2 nb cb
  unfold zv at *
  by_cases k1 : 6 < na
  · clear hl
    go_enter Tryz.func4, Tryz.ntmps4
    go_wp2
    go_ret
    exact ⟨rfl, T0.b⟩
  · by_cases k2 : 6 < nb
    · clear hl
      go_enter Tryz.func4, Tryz.ntmps4
      go_wp2
      go_ret
      exact ⟨rfl, T0.b⟩
    · have k3 : 80 < s.size := by omega
      clear hl
      go_enter Tryz.func4, Tryz.ntmps4
      go_wp2
      go_ret
      exact ⟨rfl, T0.b⟩
theorem quotientsZ_any (A A2 : Option Addr) (na ca nb cb : Nat) (p q : Bool) (a b : List Nat) (s : ByteArray) (w : World) (ra : Rd w A na a) (rb : Rd w A2 nb b) (q1 : na ≤ ca ∧ ca ≤ 9223372036854775807) (q2 : nb ≤ cb ∧ cb ≤ 9223372036854775807) (m3 : s.size ≤ 9223372036854775807) :
    Calls Tryz.prog 4 #[.agg #[.bool p, .slice A na ca], .agg #[.bool q, .slice A2 nb cb], .string s] w fun e w' => e = .returned (.bool true) ∧ Below w.heap.size w w' := by
  by_cases h6 : na ≤ 6 ∧ nb ≤ 6 ∧ s.size ≤ 80
  · exact quotientsZ_short A A2 na ca nb cb p q a b s w ⟨ra, rb, by omega, by omega, q1.1, q1.2, q2.1, q2.2⟩ h6.1 h6.2.1 h6.2.2
  · exact quotientsZ_long A A2 na ca nb cb p q s w (by omega) (by omega) (by omega) m3
end Go.Proofs.YtjipdfebehcggaaGreatDoor
