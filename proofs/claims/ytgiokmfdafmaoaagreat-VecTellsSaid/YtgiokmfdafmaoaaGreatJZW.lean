import Derived.Test.YtgiokmfdafmaoaaGreatJZU
import Derived.Test.YtgiokmfdafmaoaaGreatJTimes
/- ZW. -/
/- The document's whole numbers: products. -/
namespace Go.Proofs.YtgiokmfdafmaoaaGreat
open Go.RowKit Go.Shelf
set_option linter.unusedVariables false
set_option linter.unusedSimpArgs false

section
variable {A A2 : Option Addr} {na ca nb cb : Nat} {p q : Bool} {a b : List Nat} {w : World} {z y : Int}
set_option maxRecDepth 100000 in
set_option maxHeartbeats 2000000 in
theorem rTimesZ_any (ha : ZNm w A na ca z) (hb : ZNm w A2 nb cb y) (hna : na ≤ 800) (hnb : nb ≤ 800) : Calls Tryz.prog 75 #[zV z A na ca, zV y A2 nb cb] w (ZOne w (z * y)) := by
  unfold ZOne zV zv
  have hq := ztimes (z := z) (y := y)
  obtain ⟨d1, hd1⟩ : ∃ d, decide (z < 0) = d := ⟨_, rfl⟩
  obtain ⟨d2, hd2⟩ : ∃ d, decide (y < 0) = d := ⟨_, rfl⟩
  rw [hq, hd1, hd2]
  have T0 := tri_box w d1 A na ca d2 A2 nb cb
  have HT := Lib.hid (fun W (hb0 : Below w.heap.size w W) => times_any A A2 na ca nb cb _ _ W (ha.rd.below hb0) (hb.rd.below hb0) (by omega) (by omega))
  rw [val_limbs, val_limbs, ← Int.natAbs_mul] at HT
  have HT0 := Lib.hid T0
  clear hq hd1 hd2 ha hb T0
  generalize z * y = x at HT ⊢
  have HX : Hid (∀ (W : World) (B : Nat) (A3 : Option Addr) (k3 c3 : Nat), Own W B (.slice A3 k3 c3) (limbs x.natAbs) → decide (x ≠ 0) = decide (k3 ≠ 0)) := by
    show _
    intro W B A3 k3 c3 o
    have h := o.nm.zero
    rw [Bool.eq_iff_iff]
    simp
    omega
  by_cases hdd : d1 = d2
  · subst hdd
    have HD : (d1 != d1 && decide (x ≠ 0)) = false := by simp
    rw [HD]
    clear HD
    go_enter Tryz.func75, Tryz.ntmps75
    go_wp2_with fail
    refine (HT.out _ HT0.out.t.b).mono ?_
    rintro e w4 ⟨A3, k3, c3, rfl, o3, hb3⟩
    have T4 := HT0.out.next hb3
    have xa0 := T4.t.x.c0
    have xa1 := T4.t.x.c1
    have xb0 := T4.t.y.c0
    have xb1 := T4.t.y.c1
    have r0 := T4.r.c0
    have r1 := T4.r.c1
    have f0 := T4.r.f 0
    have f1 := T4.r.f 1
    go_wp2_with fail
    refine bodyPost_ret (v := zv false A3 k3 c3) (by simp [results, Tryz.results75, go_sem, r0, r1, zv]) rfl ?_
    exact ⟨A3, k3, c3, by first | rfl | (rw [HD.out]; rfl), own_box (show w.heap.size + 1 + 1 < _ from (Array.getElem?_eq_some_iff.1 HT0.out.r).1) (show w.heap.size ≤ w.heap.size + 1 + 1 by omega) o3 _ _, box_below (show w.heap.size ≤ w.heap.size + 1 + 1 by omega) T4.t.b _ _⟩
  · have hne : (d1 = d2) = False := by simpa using hdd
    have HE : (d1 != d2 && decide (x ≠ 0)) = decide (x ≠ 0) := by simp [hdd]
    rw [HE]
    clear hdd HE
    generalize decide (x ≠ 0) = v at HX ⊢
    go_enter Tryz.func75, Tryz.ntmps75
    go_wp2_with fail
    refine (HT.out _ HT0.out.t.b).mono ?_
    rintro e w4 ⟨A3, k3, c3, rfl, o3, hb3⟩
    have T4 := HT0.out.next hb3
    have xa0 := T4.t.x.c0
    have xa1 := T4.t.x.c1
    have xb0 := T4.t.y.c0
    have xb1 := T4.t.y.c1
    have r0 := T4.r.c0
    have r1 := T4.r.c1
    have f0 := T4.r.f 0
    have f1 := T4.r.f 1
    have HE := HX.out _ _ _ _ _ o3
    by_cases hk : k3 = 0
    · have hk1 : ((0 : Int) < ↑k3) = False := by subst hk; simp
      have hk2 : (0 < k3) = False := by subst hk; simp
      have HD : Hid (v = false) := by show _ = _; rw [HE, hk]; rfl
      clear HE hk
      go_wp2_with fail
      refine bodyPost_ret (v := zv false A3 k3 c3) (by simp [results, Tryz.results75, go_sem, r0, r1, zv, hne]) rfl ?_
      exact ⟨A3, k3, c3, by first | rfl | (rw [HD.out]; rfl), own_box (show w.heap.size + 1 + 1 < _ from (Array.getElem?_eq_some_iff.1 HT0.out.r).1) (show w.heap.size ≤ w.heap.size + 1 + 1 by omega) o3 _ _, box_below (show w.heap.size ≤ w.heap.size + 1 + 1 by omega) T4.t.b _ _⟩
    · have hk1 : ((0 : Int) < ↑k3) := by omega
      have hk2 : 0 < k3 := by omega
      have HD : Hid (v = true) := by show _ = _; rw [HE]; exact decide_eq_true hk
      clear HE hk
      go_wp2_with fail
      refine bodyPost_ret (v := zv true A3 k3 c3) (by simp [results, Tryz.results75, go_sem, r0, r1, zv, hne]) rfl ?_
      exact ⟨A3, k3, c3, by first | rfl | (rw [HD.out]; rfl), own_box (show w.heap.size + 1 + 1 < _ from (Array.getElem?_eq_some_iff.1 HT0.out.r).1) (show w.heap.size ≤ w.heap.size + 1 + 1 by omega) o3 _ _, box_below (show w.heap.size ≤ w.heap.size + 1 + 1 by omega) T4.t.b _ _⟩
end
end Go.Proofs.YtgiokmfdafmaoaaGreat
