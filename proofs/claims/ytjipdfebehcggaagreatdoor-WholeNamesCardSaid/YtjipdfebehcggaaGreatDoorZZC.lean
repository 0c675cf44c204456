import Derived.Test.YtjipdfebehcggaaGreatDoorZZU
import Derived.Test.YtjipdfebehcggaaGreatDoorZTimes
/- ZW ZC. -/
/- The document's whole numbers: products. -/
namespace Go.Proofs.YtjipdfebehcggaaGreatDoor
open Go.RowKit Go.Shelf
set_option linter.unusedVariables false
set_option linter.unusedSimpArgs false

section
variable {A A2 : Option Addr} {na ca nb cb : Nat} {p q : Bool} {a b : List Nat} {w : World} {z y : Int}
set_option maxRecDepth 100000 in
set_option maxHeartbeats 2000000 in
theorem rTimesZ_any (ha : ZNm w A na ca z) (hb : ZNm w A2 nb cb y) (hna : na ≤ 800) (hnb : nb ≤ 800) : Calls Tryz.prog 43 #[zV z A na ca, zV y A2 nb cb] w (ZOne w (z * y)) := by
  unfold ZOne zV zv
  have hq := ztimes (z := z) (y := y)
  obtain ⟨d1, hd1⟩ : ∃ d, decide (z < 0) = d := ⟨_, rfl⟩
  obtain ⟨d2, hd2⟩ : ∃ d, decide (y < 0) = d := ⟨_, rfl⟩
  rw [hq, hd1, hd2]
  have T0 := tri_box w d1 A na ca d2 A2 nb cb
  have HT := Lib.hid (fun W (hb0 : Below w.heap.size w W) => times_any A A2 na ca nb cb _ _ W (ha.rd.below hb0) (hb.rd.below hb0) (by omega) (by omega))
  rw [val_limbs, val_limbs, ← Int.natAbs_mul] at HT
  have HT0 := Lib.hid T0
  clear hq hd1 hd2 ha hb T0
  generalize z * y = x at HT ⊢
  have HX : Hid (∀ (W : World) (B : Nat) (A3 : Option Addr) (k3 c3 : Nat), Own W B (.slice A3 k3 c3) (limbs x.natAbs) → decide (x ≠ 0) = decide (k3 ≠ 0)) := by
    show _
    intro W B A3 k3 c3 o
    have h := o.nm.zero
    rw [Bool.eq_iff_iff]
    simp
    omega
  by_cases hdd : d1 = d2
  · subst hdd
    have HD : (d1 != d1 && decide (x ≠ 0)) = false := by simp
    rw [HD]
    clear HD
    go_enter Tryz.func43, Tryz.ntmps43
    go_wp2_with fail
    refine (HT.out _ HT0.out.t.b).mono ?_
    rintro e w4 ⟨A3, k3, c3, rfl, o3, hb3⟩
    have T4 := HT0.out.next hb3
    have xa0 := T4.t.x.c0
    have xa1 := T4.t.x.c1
    have xb0 := T4.t.y.c0
    have xb1 := T4.t.y.c1
    have r0 := T4.r.c0
    have r1 := T4.r.c1
    have f0 := T4.r.f 0
    have f1 := T4.r.f 1
    go_wp2_with fail
    refine bodyPost_ret (v := zv false A3 k3 c3) (by simp [results, Tryz.results43, go_sem, r0, r1, zv]) rfl ?_
    exact ⟨A3, k3, c3, by first | rfl | (rw [HD.out]; rfl), own_box (show w.heap.size + 1 + 1 < _ from (Array.getElem?_eq_some_iff.1 HT0.out.r).1) (show w.heap.size ≤ w.heap.size + 1 + 1 by omega) o3 _ _, box_below (show w.heap.size ≤ w.heap.size + 1 + 1 by omega) T4.t.b _ _⟩
  · have hne : (d1 = d2) = False := by simpa using hdd
    have HE : (d1 != d2 && decide (x ≠ 0)) = decide (x ≠ 0) := by simp [hdd]
    rw [HE]
    clear hdd HE
    generalize decide (x ≠ 0) = v at HX ⊢
    go_enter Tryz.func43, Tryz.ntmps43
    go_wp2_with fail
    refine (HT.out _ HT0.out.t.b).mono ?_
    rintro e w4 ⟨A3, k3, c3, rfl, o3, hb3⟩
    have T4 := HT0.out.next hb3
    have xa0 := T4.t.x.c0
    have xa1 := T4.t.x.c1
    have xb0 := T4.t.y.c0
    have xb1 := T4.t.y.c1
    have r0 := T4.r.c0
    have r1 := T4.r.c1
    have f0 := T4.r.f 0
    have f1 := T4.r.f 1
    have HE := HX.out _ _ _ _ _ o3
    by_cases hk : k3 = 0
    · have hk1 : ((0 : Int) < ↑k3) = False := by subst hk; simp
      have hk2 : (0 < k3) = False := by subst hk; simp
      have HD : Hid (v = false) := by show _ = _; rw [HE, hk]; rfl
      clear HE hk
      go_wp2_with fail
      refine bodyPost_ret (v := zv false A3 k3 c3) (by simp [results, Tryz.results43, go_sem, r0, r1, zv, hne]) rfl ?_
      exact ⟨A3, k3, c3, by first | rfl | (rw [HD.out]; rfl), own_box (show w.heap.size + 1 + 1 < _ from (Array.getElem?_eq_some_iff.1 HT0.out.r).1) (show w.heap.size ≤ w.heap.size + 1 + 1 by omega) o3 _ _, box_below (show w.heap.size ≤ w.heap.size + 1 + 1 by omega) T4.t.b _ _⟩
    · have hk1 : ((0 : Int) < ↑k3) := by omega
      have hk2 : 0 < k3 := by omega
      have HD : Hid (v = true) := by show _ = _; rw [HE]; exact decide_eq_true hk
      clear HE hk
      go_wp2_with fail
      refine bodyPost_ret (v := zv true A3 k3 c3) (by simp [results, Tryz.results43, go_sem, r0, r1, zv, hne]) rfl ?_
      exact ⟨A3, k3, c3, by first | rfl | (rw [HD.out]; rfl), own_box (show w.heap.size + 1 + 1 < _ from (Array.getElem?_eq_some_iff.1 HT0.out.r).1) (show w.heap.size ≤ w.heap.size + 1 + 1 by omega) o3 _ _, box_below (show w.heap.size ≤ w.heap.size + 1 + 1 by omega) T4.t.b _ _⟩
end
end Go.Proofs.YtjipdfebehcggaaGreatDoor

/- The document's whole numbers: compared. -/
namespace Go.Proofs.YtjipdfebehcggaaGreatDoor
open Go.RowKit Go.Shelf
set_option linter.unusedVariables false
set_option linter.unusedSimpArgs false

section
variable {A A2 : Option Addr} {na ca nb cb : Nat} {p q : Bool} {a b : List Nat} {w : World} {z y : Int}
set_option maxRecDepth 100000 in
set_option maxHeartbeats 2000000 in
theorem rComparedZ_any (ha : ZNm w A na ca z) (hb : ZNm w A2 nb cb y) (hna : na ≤ 1000) (hnb : nb ≤ 1000) : Calls Tryz.prog 42 #[zV z A na ca, zV y A2 nb cb] w fun e w' => e = .returned (.int .i64 (sgn (z - y))) ∧ Below w.heap.size w w' := by
  have HL : Hid ((limbs (-y).natAbs).length ≤ 1000) := by show _ ≤ _; rw [Int.natAbs_neg, hb.rd.len]; exact hnb
  have HT := Lib.hid (fun W (hb0 : Below w.heap.size w W) => rTurned_any (w := W) (hb.below hb0) hnb)
  have HS := Lib.hid (fun W A3 k3 c3 (hb0 : Below w.heap.size w W) (h3 : ZNm W A3 k3 c3 (-y)) (hk : k3 ≤ 1000) => rSumZ_any (w := W) (ha.below hb0) h3 hna hk)
  have HG := Lib.hid (fun W A5 k5 c5 (h5 : ZNm W A5 k5 c5 (z + -y)) => rSigned_any (w := W) h5 (by have := h5.nc; have := h5.cm; omega))
  obtain ⟨p, hp⟩ : ∃ p, zV z A na ca = zv p A na ca := ⟨_, rfl⟩
  obtain ⟨q, hq⟩ : ∃ q, zV y A2 nb cb = zv q A2 nb cb := ⟨_, rfl⟩
  have hzy : z - y = z + -y := by omega
  rw [hzy]
  rw [hq] at HT
  rw [hp] at HS
  rw [hp, hq]
  have HT0 := Lib.hid ((two_box w p A na ca q A2 nb cb).next (Below.refl _ _).drew)
  clear ha hb hp hq hzy
  generalize -y = y1 at HL HT HS HG ⊢
  generalize sgn (z + y1) = s at HG ⊢
  generalize z + y1 = x at HS HG ⊢
  unfold zv at *
  go_enter Tryz.func42, Tryz.ntmps42
  go_wp2_with fail
  go_region_held3 (fun W' => W'.cell? ⟨w.heap.size, 0, none⟩ = some (.bool p) ∧ W'.cell? ⟨w.heap.size, 1, none⟩ = some (.slice A na ca) ∧ W'.cell? ⟨w.heap.size + 1, 0, none⟩ = some (.bool q) ∧ W'.cell? ⟨w.heap.size + 1, 1, none⟩ = some (.slice A2 nb cb)) (first | (refine ⟨?_, ?_, ?_, ?_⟩ <;> exact cell_far (cell_far (by assumption) (by omega) _) (by omega) _) | go_keep)
    (first
      | (go_at_call 40; refine (HT.out _ HT0.out.b).mono ?_; rintro e w4 ⟨A3, k3, c3, rfl, o3, hb3⟩; have T4 := HT0.out.next hb3; have xa0 := T4.x.c0; have xa1 := T4.x.c1; have xb0 := T4.y.c0; have xb1 := T4.y.c1; unfold zV zv)
      | (go_at_call 65; refine (HS.out _ A3 k3 c3 T4.b o3.nm (o3.rd.2.1 ▸ HL.out)).mono ?_; rintro e w5 ⟨A5, k5, c5, rfl, o5, hb5⟩; have T5 := T4.next hb5; clear xa0 xa1 xb0 xb1; have xa0 := T5.x.c0; have xa1 := T5.x.c1; have xb0 := T5.y.c0; have xb1 := T5.y.c1; unfold zV zv)
      | (go_at_call 64; refine (HG.out _ A5 k5 c5 o5.nm).mono ?_; rintro e w6 ⟨rfl, hb6⟩; have T6 := T5.next hb6; clear xa0 xa1 xb0 xb1; have xa0 := T6.x.c0; have xa1 := T6.x.c1; have xb0 := T6.y.c0; have xb1 := T6.y.c1))
  all_goals
    go_wp2
    go_ret
    exact ⟨rfl, T6.b⟩
end
end Go.Proofs.YtjipdfebehcggaaGreatDoor
