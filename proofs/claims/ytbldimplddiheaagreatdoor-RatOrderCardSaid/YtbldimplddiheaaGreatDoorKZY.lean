import Derived.Test.YtbldimplddiheaaGreatDoorKZX
import Derived.Test.YtbldimplddiheaaGreatDoorKRefCommon
import Derived.Test.YtbldimplddiheaaGreatDoorKPower
import Derived.Test.YtbldimplddiheaaGreatDoorKZR
/- ZD ZFloor ZY. -/
/- The document's whole numbers: the quotient, rounded down. -/
namespace Go.Proofs.YtbldimplddiheaaGreatDoor
open Go.RowKit Go.Shelf
set_option linter.unusedVariables false
set_option linter.unusedSimpArgs false

section
variable {A A2 : Option Addr} {na ca nb cb : Nat} {p q : Bool} {a b : List Nat} {w : World} {z y : Int}
set_option maxRecDepth 100000 in
set_option maxHeartbeats 2000000 in
theorem rDownZ_any (ha : ZNm w A na ca z) (hb : ZNm w A2 nb cb y) (hna : na ≤ 900) (hnb : nb ≤ 900) (hy : y ≠ 0) : Calls Tryz.prog 68 #[zV z A na ca, zV y A2 nb cb] w (ZOne w (Int.fdiv z y)) := by
  unfold ZOne zV zv
  have hbm : may (limbs y.natAbs) = true := may_limbs _
  have hbe : limbs y.natAbs ≠ [] := fun e => by have := val_limbs y.natAbs; rw [e] at this; simp [val] at this; omega
  have HT := Lib.hid (fun W (hb0 : Below w.heap.size w W) => over_any A A2 na ca nb cb _ _ W (ha.rd.below hb0) (hb.rd.below hb0) hna hnb hbm hbe)
  rw [val_limbs, val_limbs] at HT
  have LQ : Hid ((limbs (z.natAbs / y.natAbs)).length ≤ 900) := by
    have := length_of_le (words_limbs z.natAbs) (n := z.natAbs / y.natAbs) (by rw [val_limbs]; exact Nat.div_le_self _ _)
    rw [ha.rd.len] at this
    show _ ≤ _
    omega
  by_cases hs : decide (z < 0) = decide (y < 0)
  · rw [fdiv_same hy hs, hs]
    obtain ⟨d, hd⟩ : ∃ d, decide (y < 0) = d := ⟨_, rfl⟩
    rw [hd]
    generalize z.natAbs / y.natAbs = Q at HT LQ ⊢
    rw [decide_eq_false (by omega : ¬ ((Q : Nat) : Int) < 0), Int.natAbs_natCast]
    have T0 := tri_box w d A na ca d A2 nb cb
    have HT0 := Lib.hid T0
    clear hs hd ha hb T0 hbm hbe hy
    go_enter Tryz.func68, Tryz.ntmps68
    go_wp2_with fail
    refine (HT.out _ HT0.out.t.b).mono ?_
    rintro e w4 ⟨A3, k3, c3, A4, k4, c4, rfl, o3, o4, hb3⟩
    have T4 := HT0.out.next hb3
    have xa0 := T4.t.x.c0
    have xa1 := T4.t.x.c1
    have xb0 := T4.t.y.c0
    have xb1 := T4.t.y.c1
    have r0 := T4.r.c0
    have r1 := T4.r.c1
    have f0 := T4.r.f 0
    have f1 := T4.r.f 1
    go_wp2
    refine bodyPost_ret (v := zv false A3 k3 c3 ) (by simp [results, Tryz.results68, go_sem, r0, r1, zv]) rfl ?_
    exact ⟨_, _, _, rfl, own_box (show w.heap.size + 1 + 1 < _ from (Array.getElem?_eq_some_iff.1 HT0.out.r).1) (show w.heap.size ≤ w.heap.size + 1 + 1 by omega) o3 _ _, box_below (show w.heap.size ≤ w.heap.size + 1 + 1 by omega) T4.t.b _ _⟩
  · rw [fdiv_diff hy hs]
    have hq0 : ¬ (decide (z < 0) = decide (y < 0)) := hs
    obtain ⟨d1, hd1⟩ : ∃ d, decide (z < 0) = d := ⟨_, rfl⟩
    obtain ⟨d2, hd2⟩ : ∃ d, decide (y < 0) = d := ⟨_, rfl⟩
    rw [hd1, hd2] at hq0
    rw [hd1, hd2]
    have hne : (d1 == d2) = false := by simpa using hq0
    have HX : Hid (∀ (W : World) (B : Nat) (A3 : Option Addr) (k3 c3 M : Nat), Own W B (.slice A3 k3 c3) (limbs M) → decide (-(M : Int) < 0) = decide (k3 ≠ 0)) := by
      show _
      intro W B A3 k3 c3 M o
      have h := o.nm.zero
      rw [Bool.eq_iff_iff]
      simp
      omega
    have HZ : Hid (∀ (W : World) (B : Nat) (A3 : Option Addr) (k3 c3 M : Nat), Own W B (.slice A3 k3 c3) (limbs M) → (k3 = 0 ↔ M = 0)) := by
      show _
      intro W B A3 k3 c3 M o
      exact o.nm.zero
    generalize z.natAbs / y.natAbs = Q at HT LQ ⊢
    generalize z.natAbs % y.natAbs = R at HT ⊢
    rw [Int.natAbs_neg, Int.natAbs_natCast]
    have T0 := tri_box w d1 A na ca d2 A2 nb cb
    have HT0 := Lib.hid T0
    have HQ : Hid (∀ M : Nat, ∃ v, v = decide (-(M : Int) < 0)) := by show _; exact fun M => ⟨_, rfl⟩
    clear hs hd1 hd2 ha hb T0 hbm hbe hy hq0
    by_cases hR : R = 0
    · rw [if_pos hR, Nat.add_zero]
      generalize hv : decide (-(Q : Int) < 0) = v at ⊢
      have HV := Lib.hid hv
      clear hv
      go_enter Tryz.func68, Tryz.ntmps68
      go_wp2_with fail
      refine (HT.out _ HT0.out.t.b).mono ?_
      rintro e w4 ⟨A3, k3, c3, A4, k4, c4, rfl, o3, o4, hb3⟩
      have T4 := HT0.out.next hb3
      have xa0 := T4.t.x.c0
      have xa1 := T4.t.x.c1
      have xb0 := T4.t.y.c0
      have xb1 := T4.t.y.c1
      have r0 := T4.r.c0
      have r1 := T4.r.c1
      have f0 := T4.r.f 0
      have f1 := T4.r.f 1
      have hk4 : k4 = 0 := (HZ.out _ _ _ _ _ _ o4).2 hR
      have hk41 : ((0 : Int) < ↑k4) = False := by subst hk4; simp
      have hk42 : (0 < k4) = False := by subst hk4; simp
      have HE := HX.out _ _ _ _ _ _ o3
      rw [HV.out] at HE
      clear hk4 hR
      by_cases hk : k3 = 0
      · have hk1 : ((0 : Int) < ↑k3) = False := by subst hk; simp
        have hk2 : (0 < k3) = False := by subst hk; simp
        have HD : Hid (v = false) := by show _ = _; rw [HE, hk]; rfl
        clear HE hk
        go_wp2
        refine bodyPost_ret (v := zv false A3 k3 c3 ) (by simp [results, Tryz.results68, go_sem, r0, r1, zv, hne]) rfl ?_
        exact ⟨_, _, _, by rw [HD.out]; rfl, own_box (show w.heap.size + 1 + 1 < _ from (Array.getElem?_eq_some_iff.1 HT0.out.r).1) (show w.heap.size ≤ w.heap.size + 1 + 1 by omega) o3 _ _, box_below (show w.heap.size ≤ w.heap.size + 1 + 1 by omega) T4.t.b _ _⟩
      · have hk1 : ((0 : Int) < ↑k3) := by omega
        have hk2 : 0 < k3 := by omega
        have HD : Hid (v = true) := by show _ = _; rw [HE]; exact decide_eq_true hk
        clear HE hk
        go_wp2
        refine bodyPost_ret (v := zv true A3 k3 c3 ) (by simp [results, Tryz.results68, go_sem, r0, r1, zv, hne]) rfl ?_
        exact ⟨_, _, _, by rw [HD.out]; rfl, own_box (show w.heap.size + 1 + 1 < _ from (Array.getElem?_eq_some_iff.1 HT0.out.r).1) (show w.heap.size ≤ w.heap.size + 1 + 1 by omega) o3 _ _, box_below (show w.heap.size ≤ w.heap.size + 1 + 1 by omega) T4.t.b _ _⟩
    · rw [if_neg hR]
      generalize hv : decide (-((Q + 1 : Nat) : Int) < 0) = v at ⊢
      have HV := Lib.hid hv
      clear hv
      go_enter Tryz.func68, Tryz.ntmps68
      go_wp2_with fail
      refine (HT.out _ HT0.out.t.b).mono ?_
      rintro e w4 ⟨A3, k3, c3, A4, k4, c4, rfl, o3, o4, hb3⟩
      have T4 := HT0.out.next hb3
      have xa0 := T4.t.x.c0
      have xa1 := T4.t.x.c1
      have xb0 := T4.t.y.c0
      have xb1 := T4.t.y.c1
      have r0 := T4.r.c0
      have r1 := T4.r.c1
      have f0 := T4.r.f 0
      have f1 := T4.r.f 1
      have hk4 : k4 ≠ 0 := fun e => hR ((HZ.out _ _ _ _ _ _ o4).1 e)
      have hk41 : ((0 : Int) < ↑k4) := by omega
      have hk42 : 0 < k4 := by omega
      clear hk4 hR
      have hva : Nm w4 A3 k3 c3 Q := o3.nm
      have hl3 : k3 ≤ 1000 := by have := o3.rd.2.1; have := LQ.out; omega
      have T4h := Lib.hid T4
      clear o3 o4 hb3
      go_wp2_with fail
      refine (rSum_nm A3 _ k3 c3 1 1 Q 1 _ (hva.below (bxb _ _)) ⟨by rw [limbs_one]; exact rd_new1 w4 1 _ B64_gt, by omega, by omega⟩ hl3 (by omega)).mono ?_
      rintro e w5 ⟨A5, k5, c5, rfl, o5, hb5⟩
      have T5 := T4h.out.next (below_then (bxb _ _) hb5)
      have HG := (Array.getElem?_eq_some_iff.1 T4h.out.r).1
      clear xa0 xa1 xb0 xb1 r0 r1 f0 f1 hb5 hk41 hk42
      have r0 := T5.r.c0
      have r1 := T5.r.c1
      have f0 := T5.r.f 0
      have f1 := T5.r.f 1
      have hk5 : k5 ≠ 0 := fun e => by have := (HZ.out _ _ _ _ _ _ o5).1 e; omega
      have HE := HX.out _ _ _ _ _ _ o5
      rw [HV.out] at HE
      have HD : Hid (v = true) := by show _ = _; rw [HE]; exact decide_eq_true hk5
      have hk1 : ((0 : Int) < ↑k5) := by omega
      have hk2 : 0 < k5 := by omega
      clear HE hk5
      go_wp2
      refine bodyPost_ret (v := zv true A5 k5 c5) (by simp [results, Tryz.results68, go_sem, r0, r1, zv, hne]) rfl ?_
      exact ⟨_, _, _, by rw [HD.out]; rfl, own_box (show w.heap.size + 1 + 1 < _ by simp; omega) (show w.heap.size ≤ w.heap.size + 1 + 1 by omega) o5 _ _, box_below (show w.heap.size ≤ w.heap.size + 1 + 1 by omega) T5.t.b _ _⟩
end
end Go.Proofs.YtbldimplddiheaaGreatDoor

/- The document's whole numbers: quotients, rounded down. -/
namespace Go.Proofs.YtbldimplddiheaaGreatDoor
open Go.RowKit Go.Shelf
set_option linter.unusedVariables false
set_option linter.unusedSimpArgs false

end Go.Proofs.YtbldimplddiheaaGreatDoor

/- The document's whole numbers: quotients, rounded up, and exact. -/
namespace Go.Proofs.YtbldimplddiheaaGreatDoor
open Go.RowKit Go.Shelf
set_option linter.unusedVariables false
set_option linter.unusedSimpArgs false

end Go.Proofs.YtbldimplddiheaaGreatDoor
