import Derived.Test.YtbldimplddiheaaGreatDoorKZB
import Derived.Test.YtbldimplddiheaaGreatDoorKDCode
/- ZP. -/
/- whole: its operations. -/
namespace Go.Proofs.YtbldimplddiheaaGreatDoor
open Go.RowKit Go.Shelf
set_option linter.unusedVariables false
set_option linter.unusedSimpArgs false

theorem mayZ_sgn {p : Bool} {a : List Nat} (h : mayZ p a = true) : p = decide (zof p a < 0) := (zof_neg h).symm
section
variable {A A2 : Option Addr} {na ca nb cb v u : Nat} {p q : Bool} {a b : List Nat} {w : World} {z y : Int}
theorem opp_z (h : ZNm w A na ca z) (hp : p = decide (z < 0)) : (if na = 0 then zv false none 0 0 else zv (!p) A na ca) = (if z = 0 then zV 0 none 0 0 else zV (-z) A na ca) := by
  have h0 := h.zero
  by_cases hz : z = 0
  · rw [if_pos hz, if_pos (h0.2 (by omega))]
    rfl
  · rw [if_neg hz, if_neg (fun e => hz (by have := h0.1 e; omega)), hp]
    unfold zV
    rw [zneg_d]
    simp [hz]
theorem opp_nm (h : ZNm w A na ca z) : ∃ A3 k c, (if z = 0 then zV 0 none 0 0 else zV (-z) A na ca) = zV (-z) A3 k c ∧ ZNm w A3 k c (-z) ∧ k ≤ na := by
  by_cases hz : z = 0
  · subst hz
    exact ⟨none, 0, 0, rfl, zero_znm w, Nat.zero_le _⟩
  · rw [if_neg hz]
    refine ⟨A, na, ca, rfl, ?_, Nat.le_refl _⟩
    show Nm _ _ _ _ (-z).natAbs
    rw [Int.natAbs_neg]
    exact h
theorem opposite_own {B k c : Nat} (o : Own w B (.slice A k c) (limbs z.natAbs)) (hp : p = decide (z < 0)) :
    Calls Tryz.prog 90 #[.agg #[.bool p, .slice A k c]] w fun e w' => ∃ A' k' c', e = .returned (zV (-z) A' k' c') ∧ Own w' B (.slice A' k' c') (limbs (-z).natAbs) ∧ Below w.heap.size w w' := by
  refine (opposite_any (p := p) (A := A) (na := k) (ca := c) (w := w)).mono ?_
  rintro e w1 ⟨rfl, hb⟩
  rw [opp_z o.nm hp, Int.natAbs_neg]
  by_cases hz : z = 0
  · subst hz
    exact ⟨none, 0, 0, rfl, by rw [show (0 : Int).natAbs = 0 from rfl, limbs_zero]; exact own_nil _ _, hb⟩
  · rw [if_neg hz]
    exact ⟨A, k, c, rfl, o.below hb, hb⟩
set_option maxRecDepth 100000 in
set_option maxHeartbeats 2000000 in
theorem addZ (h : Z2 w A A2 na ca nb cb a b) : Calls Tryz.prog 56 #[zv p A na ca, zv q A2 nb cb] w (ZAns w (twoZ p a q b (zof p a + zof q b)) (twoE p a q b)) := by
  have H1 := Lib.hid (mayTwo_at (p := p) (q := q) h)
  have T0 := tri_box w p A na ca q A2 nb cb
  cases hm : twoM p a q b with
  | false =>
    rw [twoZ_no hm, twoE_no hm]
    rw [twoE_no hm] at H1
    clear h hm T0
    unfold zv at *
    go_enter Tryz.func56, Tryz.ntmps56
    go_wp2_with fail
    refine H1.out.mono ?_
    rintro e w1 ⟨rfl, T1⟩
    have xa0 := T1.t.x.c0
    have xa1 := T1.t.x.c1
    have xb0 := T1.t.y.c0
    have xb1 := T1.t.y.c1
    have r0 := T1.r.c0
    have r1 := T1.r.c1
    have f0 := T1.r.f 0
    have f1 := T1.r.f 1
    go_wp2
    refine bodyPost_ret (v := .tuple #[zv false none 0 0, .int .i64 8]) (by simp [results, Tryz.results56, go_sem, r0, r1, zv]) rfl ?_
    exact zans_zero (box_below (show w.heap.size ≤ w.heap.size + 1 + 1 by omega) T1.t.b _ _)
  | true =>
    have hz := h.num hm
    rw [twoZ_ok hm, twoE_ok hm]
    rw [twoE_ok hm] at H1
    have hzv1 := hz.2.2.1
    have hzv2 := hz.2.2.2
    have hla := h.la
    have hlb := h.lb
    have HN := Lib.hid (fun W (hb : Below w.heap.size w W) => sum_any (w := W) (hz.1.below hb) (hz.2.1.below hb) (by omega) (by omega))
    rw [← hzv1, ← hzv2] at HN
    clear h hm T0 hz hzv1 hzv2 hla hlb
    generalize zof p a + zof q b = y at HN ⊢
    unfold zv at *
    go_enter Tryz.func56, Tryz.ntmps56
    go_wp2_with fail
    refine H1.out.mono ?_
    rintro e w1 ⟨rfl, T1⟩
    have HG := Lib.hid (Array.getElem?_eq_some_iff.1 T1.r).1
    have xa0 := T1.t.x.c0
    have xa1 := T1.t.x.c1
    have xb0 := T1.t.y.c0
    have xb1 := T1.t.y.c1
    have r0 := T1.r.c0
    have r1 := T1.r.c1
    have f0 := T1.r.f 0
    have f1 := T1.r.f 1
    go_wp2_with fail
    refine (HN.out _ T1.t.b).mono ?_
    rintro e w4 ⟨A9, k9, c9, rfl, o9, hb9⟩
    have T4 := T1.next hb9
    clear xa0 xa1 xb0 xb1 r0 r1 f0 f1
    have xa0 := T4.t.x.c0
    have xa1 := T4.t.x.c1
    have xb0 := T4.t.y.c0
    have xb1 := T4.t.y.c1
    have r0 := T4.r.c0
    have r1 := T4.r.c1
    have f0 := T4.r.f 0
    have f1 := T4.r.f 1
    unfold zV zv
    go_wp2
    refine bodyPost_ret (v := .tuple #[zV y A9 k9 c9, .int .i64 0]) (by simp [results, Tryz.results56, go_sem, r0, r1, zV, zv]) rfl ?_
    exact ⟨A9, k9, c9, rfl, own_box HG.out (show w.heap.size ≤ w.heap.size + 1 + 1 by omega) o9 _ _, box_below (show w.heap.size ≤ w.heap.size + 1 + 1 by omega) T4.t.b _ _⟩
set_option maxRecDepth 100000 in
set_option maxHeartbeats 2000000 in
theorem subZ (h : Z2 w A A2 na ca nb cb a b) : Calls Tryz.prog 59 #[zv p A na ca, zv q A2 nb cb] w (ZAns w (twoZ p a q b (zof p a - zof q b)) (twoE p a q b)) := by
  have H1 := Lib.hid (mayTwo_at (p := p) (q := q) h)
  have T0 := tri_box w p A na ca q A2 nb cb
  cases hm : twoM p a q b with
  | false =>
    rw [twoZ_no hm, twoE_no hm]
    rw [twoE_no hm] at H1
    clear h hm T0
    unfold zv at *
    go_enter Tryz.func59, Tryz.ntmps59
    go_wp2_with fail
    refine H1.out.mono ?_
    rintro e w1 ⟨rfl, T1⟩
    have xa0 := T1.t.x.c0
    have xa1 := T1.t.x.c1
    have xb0 := T1.t.y.c0
    have xb1 := T1.t.y.c1
    have r0 := T1.r.c0
    have r1 := T1.r.c1
    have f0 := T1.r.f 0
    have f1 := T1.r.f 1
    go_wp2
    refine bodyPost_ret (v := .tuple #[zv false none 0 0, .int .i64 8]) (by simp [results, Tryz.results59, go_sem, r0, r1, zv]) rfl ?_
    exact zans_zero (box_below (show w.heap.size ≤ w.heap.size + 1 + 1 by omega) T1.t.b _ _)
  | true =>
    have hz := h.num hm
    rw [twoZ_ok hm, twoE_ok hm]
    rw [twoE_ok hm] at H1
    have hzv1 := hz.2.2.1
    have hzv2 := hz.2.2.2
    have hla := h.la
    have hlb := h.lb
    have HN := Lib.hid (fun W => opposite_any (p := q) (A := A2) (na := nb) (ca := cb) (w := W))
    rw [opp_z hz.2.1 (mayZ_sgn (twoM_iff.1 hm).2)] at HN
    have HS := Lib.hid (fun W A3 k3 c3 (hb : Below w.heap.size w W) (h3 : ZNm W A3 k3 c3 (-(zof q b))) (hk : k3 ≤ 400) => sum_any (w := W) (hz.1.below hb) h3 (by omega) hk)
    rw [← hzv1] at HS
    have hzy : zof p a - zof q b = zof p a + -(zof q b) := by omega
    rw [hzy]
    obtain ⟨A3, k3, c3, hv, h3, hk⟩ := opp_nm hz.2.1
    rw [hv] at HN
    have H3 := Lib.hid h3
    have hk3 : k3 ≤ 400 := by omega
    clear h hm T0 hz hzv1 hzv2 hzy hv h3 hk hla hlb
    generalize -(zof q b) = y1 at HN HS H3 ⊢
    generalize zof p a + y1 = y at HS ⊢
    unfold zV zv at HN HS
    unfold zv at *
    go_enter Tryz.func59, Tryz.ntmps59
    go_wp2_with fail
    refine H1.out.mono ?_
    rintro e w1 ⟨rfl, T1⟩
    have HG := Lib.hid (Array.getElem?_eq_some_iff.1 T1.r).1
    have HT1 := Lib.hid (T1.next (Below.refl _ _).drew)
    have xa0 := T1.t.x.c0
    have xa1 := T1.t.x.c1
    have xb0 := T1.t.y.c0
    have xb1 := T1.t.y.c1
    have r0 := T1.r.c0
    have r1 := T1.r.c1
    have f0 := T1.r.f 0
    have f1 := T1.r.f 1
    go_wp2_with fail
    go_region_held3 (fun W' => W'.cell? ⟨w.heap.size, 0, none⟩ = some (.bool p) ∧ W'.cell? ⟨w.heap.size, 1, none⟩ = some (.slice A na ca) ∧ W'.cell? ⟨w.heap.size + 1, 0, none⟩ = some (.bool q) ∧ W'.cell? ⟨w.heap.size + 1, 1, none⟩ = some (.slice A2 nb cb)) (first | (refine ⟨?_, ?_, ?_, ?_⟩ <;> exact cell_far (cell_far (by assumption) (by omega) _) (by omega) _) | go_keep)
      (first
        | (go_at_call 90; refine (HN.out _).mono ?_; rintro e w4 ⟨rfl, hb3⟩; have T4 := HT1.out.next hb3; clear xa0 xa1 xb0 xb1 r0 r1 f0 f1; have xa0 := T4.t.x.c0; have xa1 := T4.t.x.c1; have xb0 := T4.t.y.c0; have xb1 := T4.t.y.c1; have r0 := T4.r.c0; have r1 := T4.r.c1; have f0 := T4.r.f 0; have f1 := T4.r.f 1)
        | (go_at_call 88; refine (HS.out _ A3 k3 c3 T4.t.b (H3.out.below T4.t.b) hk3).mono ?_; rintro e w5 ⟨A9, k9, c9, rfl, o9, hb5⟩; have T5 := T4.next hb5; clear xa0 xa1 xb0 xb1 r0 r1 f0 f1; have xa0 := T5.t.x.c0; have xa1 := T5.t.x.c1; have xb0 := T5.t.y.c0; have xb1 := T5.t.y.c1; have r0 := T5.r.c0; have r1 := T5.r.c1; have f0 := T5.r.f 0; have f1 := T5.r.f 1; unfold zV zv))
    all_goals
      go_wp2
      refine bodyPost_ret (v := .tuple #[zV y A9 k9 c9, .int .i64 0]) (by simp [results, Tryz.results59, go_sem, r0, r1, zV, zv]) rfl ?_
      exact ⟨A9, k9, c9, rfl, own_box (Array.getElem?_eq_some_iff.1 T4.r).1 (show w.heap.size ≤ w.heap.size + 1 + 1 by omega) o9 _ _, box_below (show w.heap.size ≤ w.heap.size + 1 + 1 by omega) T5.t.b _ _⟩
set_option maxRecDepth 100000 in
set_option maxHeartbeats 2000000 in
theorem mulZ (h : Z2 w A A2 na ca nb cb a b) : Calls Tryz.prog 35 #[zv p A na ca, zv q A2 nb cb] w (ZAns w (twoZ p a q b (zof p a * zof q b)) (twoE p a q b)) := by
  have H1 := Lib.hid (mayTwo_at (p := p) (q := q) h)
  have T0 := tri_box w p A na ca q A2 nb cb
  cases hm : twoM p a q b with
  | false =>
    rw [twoZ_no hm, twoE_no hm]
    rw [twoE_no hm] at H1
    clear h hm T0
    unfold zv at *
    go_enter Tryz.func35, Tryz.ntmps35
    go_wp2_with fail
    refine H1.out.mono ?_
    rintro e w1 ⟨rfl, T1⟩
    have xa0 := T1.t.x.c0
    have xa1 := T1.t.x.c1
    have xb0 := T1.t.y.c0
    have xb1 := T1.t.y.c1
    have r0 := T1.r.c0
    have r1 := T1.r.c1
    have f0 := T1.r.f 0
    have f1 := T1.r.f 1
    go_wp2
    refine bodyPost_ret (v := .tuple #[zv false none 0 0, .int .i64 8]) (by simp [results, Tryz.results35, go_sem, r0, r1, zv]) rfl ?_
    exact zans_zero (box_below (show w.heap.size ≤ w.heap.size + 1 + 1 by omega) T1.t.b _ _)
  | true =>
    have hz := h.num hm
    rw [twoZ_ok hm, twoE_ok hm]
    rw [twoE_ok hm] at H1
    have hzv1 := hz.2.2.1
    have hzv2 := hz.2.2.2
    have hla := h.la
    have hlb := h.lb
    have HN := Lib.hid (fun W (hb : Below w.heap.size w W) => mul_nm A A2 na ca nb cb (zof p a).natAbs (zof q b).natAbs W (hz.1.below hb) (hz.2.1.below hb) (by omega) (by omega))
    rw [← Int.natAbs_mul] at HN
    have HU := Lib.hid (fun W => unlike_any (A := A) (A2 := A2) (na := na) (ca := ca) (nb := nb) (cb := cb) (p := p) (q := q) (w := W))
    have HD : Hid (zof p a * zof q b ≠ 0 → decide (zof p a * zof q b < 0) = (p != q)) := fun hne => by
      rw [ztimes, ← mayZ_sgn (twoM_iff.1 hm).1, ← mayZ_sgn (twoM_iff.1 hm).2]
      simp [hne]
    clear h hm T0 hz hzv1 hzv2 hla hlb
    generalize zof p a * zof q b = y at HN HD ⊢
    generalize (p != q) = d at HU HD
    unfold zv at *
    go_enter Tryz.func35, Tryz.ntmps35
    go_wp2_with fail
    refine H1.out.mono ?_
    rintro e w1 ⟨rfl, T1⟩
    have HG := Lib.hid (Array.getElem?_eq_some_iff.1 T1.r).1
    have xa0 := T1.t.x.c0
    have xa1 := T1.t.x.c1
    have xb0 := T1.t.y.c0
    have xb1 := T1.t.y.c1
    have r0 := T1.r.c0
    have r1 := T1.r.c1
    have f0 := T1.r.f 0
    have f1 := T1.r.f 1
    go_wp2_with fail
    refine (HN.out _ T1.t.b).mono ?_
    rintro e w3 ⟨A3, k3, c3, rfl, o3, hb3⟩
    have T3 := T1.next hb3
    clear T1 hb3
    clear xa0 xa1 xb0 xb1 r0 r1 f0 f1
    have xa0 := T3.t.x.c0
    have xa1 := T3.t.x.c1
    have xb0 := T3.t.y.c0
    have xb1 := T3.t.y.c1
    have r0 := T3.r.c0
    have r1 := T3.r.c1
    have f0 := T3.r.f 0
    have f1 := T3.r.f 1
    go_wp2_with fail
    refine (HU.out _).mono ?_
    rintro e w4 ⟨rfl, hb4⟩
    replace o3 := o3.below hb4
    have T4 := T3.next hb4
    clear T3 hb4
    clear xa0 xa1 xb0 xb1 r0 r1 f0 f1
    have xa0 := T4.t.x.c0
    have xa1 := T4.t.x.c1
    have xb0 := T4.t.y.c0
    have xb1 := T4.t.y.c1
    have r0 := T4.r.c0
    have r1 := T4.r.c1
    have f0 := T4.r.f 0
    have f1 := T4.r.f 1
    go_wp2_with fail
    refine (signed_own (z := y) (d := d) o3 HD.out).mono ?_
    rintro e w5 ⟨A9, k9, c9, rfl, o9, hb5⟩
    have T5 := T4.next hb5
    clear T4 hb5
    clear xa0 xa1 xb0 xb1 r0 r1 f0 f1
    have xa0 := T5.t.x.c0
    have xa1 := T5.t.x.c1
    have xb0 := T5.t.y.c0
    have xb1 := T5.t.y.c1
    have r0 := T5.r.c0
    have r1 := T5.r.c1
    have f0 := T5.r.f 0
    have f1 := T5.r.f 1
    unfold zV zv
    go_wp2
    refine bodyPost_ret (v := .tuple #[zV y A9 k9 c9, .int .i64 0]) (by simp [results, Tryz.results35, go_sem, r0, r1, zV, zv]) rfl ?_
    exact ⟨A9, k9, c9, rfl, own_box HG.out (show w.heap.size ≤ w.heap.size + 1 + 1 by omega) o9 _ _, box_below (show w.heap.size ≤ w.heap.size + 1 + 1 by omega) T5.t.b _ _⟩
end
end Go.Proofs.YtbldimplddiheaaGreatDoor
