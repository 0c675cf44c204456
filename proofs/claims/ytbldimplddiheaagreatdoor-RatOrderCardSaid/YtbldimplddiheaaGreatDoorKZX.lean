import Derived.Test.YtbldimplddiheaaGreatDoorKZU
import Derived.Test.YtbldimplddiheaaGreatDoorKTimes
import Derived.Test.YtbldimplddiheaaGreatDoorKSame
/- ZW ZC ZK ZS ZM ZX. -/
/- The document's whole numbers: products. -/
namespace Go.Proofs.YtbldimplddiheaaGreatDoor
open Go.RowKit Go.Shelf
set_option linter.unusedVariables false
set_option linter.unusedSimpArgs false

section
variable {A A2 : Option Addr} {na ca nb cb : Nat} {p q : Bool} {a b : List Nat} {w : World} {z y : Int}
set_option maxRecDepth 100000 in
set_option maxHeartbeats 2000000 in
theorem rTimesZ_any (ha : ZNm w A na ca z) (hb : ZNm w A2 nb cb y) (hna : na ≤ 800) (hnb : nb ≤ 800) : Calls Tryz.prog 91 #[zV z A na ca, zV y A2 nb cb] w (ZOne w (z * y)) := by
  unfold ZOne zV zv
  have hq := ztimes (z := z) (y := y)
  obtain ⟨d1, hd1⟩ : ∃ d, decide (z < 0) = d := ⟨_, rfl⟩
  obtain ⟨d2, hd2⟩ : ∃ d, decide (y < 0) = d := ⟨_, rfl⟩
  rw [hq, hd1, hd2]
  have T0 := tri_box w d1 A na ca d2 A2 nb cb
  have HT := Lib.hid (fun W (hb0 : Below w.heap.size w W) => times_any A A2 na ca nb cb _ _ W (ha.rd.below hb0) (hb.rd.below hb0) (by omega) (by omega))
  rw [val_limbs, val_limbs, ← Int.natAbs_mul] at HT
  have HT0 := Lib.hid T0
  clear hq hd1 hd2 ha hb T0
  generalize z * y = x at HT ⊢
  have HX : Hid (∀ (W : World) (B : Nat) (A3 : Option Addr) (k3 c3 : Nat), Own W B (.slice A3 k3 c3) (limbs x.natAbs) → decide (x ≠ 0) = decide (k3 ≠ 0)) := by
    show _
    intro W B A3 k3 c3 o
    have h := o.nm.zero
    rw [Bool.eq_iff_iff]
    simp
    omega
  by_cases hdd : d1 = d2
  · subst hdd
    have HD : (d1 != d1 && decide (x ≠ 0)) = false := by simp
    rw [HD]
    clear HD
    go_enter Tryz.func91, Tryz.ntmps91
    go_wp2_with fail
    refine (HT.out _ HT0.out.t.b).mono ?_
    rintro e w4 ⟨A3, k3, c3, rfl, o3, hb3⟩
    have T4 := HT0.out.next hb3
    have xa0 := T4.t.x.c0
    have xa1 := T4.t.x.c1
    have xb0 := T4.t.y.c0
    have xb1 := T4.t.y.c1
    have r0 := T4.r.c0
    have r1 := T4.r.c1
    have f0 := T4.r.f 0
    have f1 := T4.r.f 1
    go_wp2_with fail
    refine bodyPost_ret (v := zv false A3 k3 c3) (by simp [results, Tryz.results91, go_sem, r0, r1, zv]) rfl ?_
    exact ⟨A3, k3, c3, by first | rfl | (rw [HD.out]; rfl), own_box (show w.heap.size + 1 + 1 < _ from (Array.getElem?_eq_some_iff.1 HT0.out.r).1) (show w.heap.size ≤ w.heap.size + 1 + 1 by omega) o3 _ _, box_below (show w.heap.size ≤ w.heap.size + 1 + 1 by omega) T4.t.b _ _⟩
  · have hne : (d1 = d2) = False := by simpa using hdd
    have HE : (d1 != d2 && decide (x ≠ 0)) = decide (x ≠ 0) := by simp [hdd]
    rw [HE]
    clear hdd HE
    generalize decide (x ≠ 0) = v at HX ⊢
    go_enter Tryz.func91, Tryz.ntmps91
    go_wp2_with fail
    refine (HT.out _ HT0.out.t.b).mono ?_
    rintro e w4 ⟨A3, k3, c3, rfl, o3, hb3⟩
    have T4 := HT0.out.next hb3
    have xa0 := T4.t.x.c0
    have xa1 := T4.t.x.c1
    have xb0 := T4.t.y.c0
    have xb1 := T4.t.y.c1
    have r0 := T4.r.c0
    have r1 := T4.r.c1
    have f0 := T4.r.f 0
    have f1 := T4.r.f 1
    have HE := HX.out _ _ _ _ _ o3
    by_cases hk : k3 = 0
    · have hk1 : ((0 : Int) < ↑k3) = False := by subst hk; simp
      have hk2 : (0 < k3) = False := by subst hk; simp
      have HD : Hid (v = false) := by show _ = _; rw [HE, hk]; rfl
      clear HE hk
      go_wp2_with fail
      refine bodyPost_ret (v := zv false A3 k3 c3) (by simp [results, Tryz.results91, go_sem, r0, r1, zv, hne]) rfl ?_
      exact ⟨A3, k3, c3, by first | rfl | (rw [HD.out]; rfl), own_box (show w.heap.size + 1 + 1 < _ from (Array.getElem?_eq_some_iff.1 HT0.out.r).1) (show w.heap.size ≤ w.heap.size + 1 + 1 by omega) o3 _ _, box_below (show w.heap.size ≤ w.heap.size + 1 + 1 by omega) T4.t.b _ _⟩
    · have hk1 : ((0 : Int) < ↑k3) := by omega
      have hk2 : 0 < k3 := by omega
      have HD : Hid (v = true) := by show _ = _; rw [HE]; exact decide_eq_true hk
      clear HE hk
      go_wp2_with fail
      refine bodyPost_ret (v := zv true A3 k3 c3) (by simp [results, Tryz.results91, go_sem, r0, r1, zv, hne]) rfl ?_
      exact ⟨A3, k3, c3, by first | rfl | (rw [HD.out]; rfl), own_box (show w.heap.size + 1 + 1 < _ from (Array.getElem?_eq_some_iff.1 HT0.out.r).1) (show w.heap.size ≤ w.heap.size + 1 + 1 by omega) o3 _ _, box_below (show w.heap.size ≤ w.heap.size + 1 + 1 by omega) T4.t.b _ _⟩
end
end Go.Proofs.YtbldimplddiheaaGreatDoor

/- The document's whole numbers: compared. -/
namespace Go.Proofs.YtbldimplddiheaaGreatDoor
open Go.RowKit Go.Shelf
set_option linter.unusedVariables false
set_option linter.unusedSimpArgs false

section
variable {A A2 : Option Addr} {na ca nb cb : Nat} {p q : Bool} {a b : List Nat} {w : World} {z y : Int}
set_option maxRecDepth 100000 in
set_option maxHeartbeats 2000000 in
theorem rComparedZ_any (ha : ZNm w A na ca z) (hb : ZNm w A2 nb cb y) (hna : na ≤ 1000) (hnb : nb ≤ 1000) : Calls Tryz.prog 96 #[zV z A na ca, zV y A2 nb cb] w fun e w' => e = .returned (.int .i64 (sgn (z - y))) ∧ Below w.heap.size w w' := by
  have HL : Hid ((limbs (-y).natAbs).length ≤ 1000) := by show _ ≤ _; rw [Int.natAbs_neg, hb.rd.len]; exact hnb
  have HT := Lib.hid (fun W (hb0 : Below w.heap.size w W) => rTurned_any (w := W) (hb.below hb0) hnb)
  have HS := Lib.hid (fun W A3 k3 c3 (hb0 : Below w.heap.size w W) (h3 : ZNm W A3 k3 c3 (-y)) (hk : k3 ≤ 1000) => rSumZ_any (w := W) (ha.below hb0) h3 hna hk)
  have HG := Lib.hid (fun W A5 k5 c5 (h5 : ZNm W A5 k5 c5 (z + -y)) => rSigned_any (w := W) h5 (by have := h5.nc; have := h5.cm; omega))
  obtain ⟨p, hp⟩ : ∃ p, zV z A na ca = zv p A na ca := ⟨_, rfl⟩
  obtain ⟨q, hq⟩ : ∃ q, zV y A2 nb cb = zv q A2 nb cb := ⟨_, rfl⟩
  have hzy : z - y = z + -y := by omega
  rw [hzy]
  rw [hq] at HT
  rw [hp] at HS
  rw [hp, hq]
  have HT0 := Lib.hid ((two_box w p A na ca q A2 nb cb).next (Below.refl _ _).drew)
  clear ha hb hp hq hzy
  generalize -y = y1 at HL HT HS HG ⊢
  generalize sgn (z + y1) = s at HG ⊢
  generalize z + y1 = x at HS HG ⊢
  unfold zv at *
  go_enter Tryz.func96, Tryz.ntmps96
  go_wp2_with fail
  go_region_held3 (fun W' => W'.cell? ⟨w.heap.size, 0, none⟩ = some (.bool p) ∧ W'.cell? ⟨w.heap.size, 1, none⟩ = some (.slice A na ca) ∧ W'.cell? ⟨w.heap.size + 1, 0, none⟩ = some (.bool q) ∧ W'.cell? ⟨w.heap.size + 1, 1, none⟩ = some (.slice A2 nb cb)) (first | (refine ⟨?_, ?_, ?_, ?_⟩ <;> exact cell_far (cell_far (by assumption) (by omega) _) (by omega) _) | go_keep)
    (first
      | (go_at_call 63; refine (HT.out _ HT0.out.b).mono ?_; rintro e w4 ⟨A3, k3, c3, rfl, o3, hb3⟩; have T4 := HT0.out.next hb3; have xa0 := T4.x.c0; have xa1 := T4.x.c1; have xb0 := T4.y.c0; have xb1 := T4.y.c1; unfold zV zv)
      | (go_at_call 89; refine (HS.out _ A3 k3 c3 T4.b o3.nm (o3.rd.2.1 ▸ HL.out)).mono ?_; rintro e w5 ⟨A5, k5, c5, rfl, o5, hb5⟩; have T5 := T4.next hb5; clear xa0 xa1 xb0 xb1; have xa0 := T5.x.c0; have xa1 := T5.x.c1; have xb0 := T5.y.c0; have xb1 := T5.y.c1; unfold zV zv)
      | (go_at_call 125; refine (HG.out _ A5 k5 c5 o5.nm).mono ?_; rintro e w6 ⟨rfl, hb6⟩; have T6 := T5.next hb6; clear xa0 xa1 xb0 xb1; have xa0 := T6.x.c0; have xa1 := T6.x.c1; have xb0 := T6.y.c0; have xb1 := T6.y.c1))
  all_goals
    go_wp2
    go_ret
    exact ⟨rfl, T6.b⟩
end
end Go.Proofs.YtbldimplddiheaaGreatDoor

/- The document's whole numbers: what answers with ints. -/
namespace Go.Proofs.YtbldimplddiheaaGreatDoor
open Go.RowKit Go.Shelf
set_option linter.unusedVariables false
set_option linter.unusedSimpArgs false

end Go.Proofs.YtbldimplddiheaaGreatDoor

/- The document's whole numbers: the difference. -/
namespace Go.Proofs.YtbldimplddiheaaGreatDoor
open Go.RowKit Go.Shelf
set_option linter.unusedVariables false
set_option linter.unusedSimpArgs false

section
variable {A A2 : Option Addr} {na ca nb cb : Nat} {p q : Bool} {a b : List Nat} {w : World} {z y : Int}
end
end Go.Proofs.YtbldimplddiheaaGreatDoor

/- The document's whole numbers: the same. -/
namespace Go.Proofs.YtbldimplddiheaaGreatDoor
open Go.RowKit Go.Shelf
set_option linter.unusedVariables false
set_option linter.unusedSimpArgs false

set_option maxRecDepth 100000 in
set_option maxHeartbeats 2000000 in
theorem rSameZ_any : SameZIs 18 := by
  intro A A2 na ca nb cb p q a b w h
  have T0 := two_box w p A na ca q A2 nb cb
  have HT := Lib.hid (same_any A A2 na ca nb cb a b _ (h.ra.below T0.b) (h.rb.below T0.b) (by have := h.la; omega) (by have := h.lb; omega))
  have HT0 := Lib.hid T0
  by_cases hpq : p = q
  · subst hpq
    rw [show decide (p = p ∧ a = b) = decide (a = b) by simp]
    clear h T0
    generalize decide (a = b) = d at HT ⊢
    unfold zv
    go_enter Tryz.func18, Tryz.ntmps18
    go_wp2_with fail
    refine HT.out.mono ?_
    rintro e w1 ⟨rfl, hb1⟩
    have B1 := below_then HT0.out.b hb1
    clear hb1
    go_wp2
    go_ret
    exact ⟨rfl, B1⟩
  · have hpf : (p = q) = False := by simpa using hpq
    rw [show decide (p = q ∧ a = b) = false by simp [hpq]]
    clear h T0 HT hpq
    unfold zv
    go_enter Tryz.func18, Tryz.ntmps18
    go_wp2
    go_ret
    exact ⟨by simp [hpf], HT0.out.b⟩
end Go.Proofs.YtbldimplddiheaaGreatDoor

/- The document's whole numbers: as texts. -/
namespace Go.Proofs.YtbldimplddiheaaGreatDoor
open Go.RowKit Go.Shelf
set_option linter.unusedVariables false
set_option linter.unusedSimpArgs false

theorem textS_size (a : List Nat) : (textS a).size ≤ 4096 := by
  unfold textS
  split
  · rename_i h
    unfold textE at h
    split at h
    · split at h
      · rename_i h2
        rw [textB_size]
        exact h2
      · cases h
    · cases h
  · exact Nat.zero_le _
set_option maxRecDepth 100000 in
set_option maxHeartbeats 2000000 in
theorem rTextZ_any : TextZIs 71 := by
  intro A na ca p a w h
  have hb0 := bxb w (zo p A na ca)
  have hx : BoxZ (w.alloc (zo p A na ca)) w.heap.size p A na ca := World.alloc_heap_new _ _
  have H1 := Lib.hid (rMayZ_any (p := p) (h.below hb0))
  have HB := Lib.hid (And.intro hb0 hx)
  have hs : w.heap.size < (w.alloc (zo p A na ca)).heap.size := by simp
  have HT := Lib.hid (fun W (hb : Below w.heap.size w W) => rText_any A na ca a W (h.ra.below hb) (by have := h.la; omega) h.ca1 h.ca2)
  cases hm : mayZ p a with
  | false =>
    rw [show textZS p a = ⟨#[]⟩ by simp [textZS, textZE, hm], show textZE p a = 8 by simp [textZE, hm]]
    rw [hm] at H1
    clear h hm hb0 hx hs HT
    unfold zv at *
    go_enter Tryz.func71, Tryz.ntmps71
    go_wp2_with fail
    refine H1.out.mono ?_
    rintro e w1 ⟨rfl, hb1⟩
    have B1 := below_then HB.out.1 hb1
    clear hb1
    go_wp2
    go_ret2
    exact ⟨rfl, B1⟩
  | true =>
    rw [hm] at H1
    have hE : textZE p a = textE a := by simp [textZE, hm]
    have hS : textZS p a = if textE a = 0 then (if p then ⟨#[45]⟩ ++ textS a else textS a) else ⟨#[]⟩ := by unfold textZS; rw [hE]
    rw [hS, hE]
    clear h hm hb0 hS hE
    have hS : ¬ 9223372036854775807 < 1 + (textS a).size := by have := textS_size a; omega
    generalize textS a = S at HT hS ⊢
    generalize textE a = E at HT ⊢
    by_cases he : E = 0
    · subst he
      rw [if_pos rfl]
      cases p with
      | false =>
        simp only [Bool.false_eq_true, if_false]
        unfold zv at *
        go_enter Tryz.func71, Tryz.ntmps71
        go_wp2_with fail
        refine H1.out.mono ?_
        rintro e w1 ⟨rfl, hb1⟩
        have B1 := below_then HB.out.1 hb1
        have xa0 := (hx.below hb1 hs).c0
        have xa1 := (hx.below hb1 hs).c1
        have HL := Lib.hid (And.intro hx hs)
        clear hb1 hx hs
        go_wp2_with fail
        refine (HT.out _ B1).mono ?_
        rintro e w2 ⟨rfl, hb2⟩
        have B2 := below_then B1 hb2
        have ya0 := (hb2.cell (cell_lt xa0)).trans xa0
        have ya1 := (hb2.cell (cell_lt xa1)).trans xa1
        clear hb2 xa0 xa1
        go_wp2
        go_ret2
        exact ⟨rfl, B2⟩
      | true =>
        simp only [if_true]
        unfold zv at *
        go_enter Tryz.func71, Tryz.ntmps71
        go_wp2_with fail
        refine H1.out.mono ?_
        rintro e w1 ⟨rfl, hb1⟩
        have B1 := below_then HB.out.1 hb1
        have xa0 := (hx.below hb1 hs).c0
        have xa1 := (hx.below hb1 hs).c1
        have HL := Lib.hid (And.intro hx hs)
        clear hb1 hx hs
        go_wp2_with fail
        refine (HT.out _ B1).mono ?_
        rintro e w2 ⟨rfl, hb2⟩
        have B2 := below_then B1 hb2
        have ya0 := (hb2.cell (cell_lt xa0)).trans xa0
        have ya1 := (hb2.cell (cell_lt xa1)).trans xa1
        clear hb2 xa0 xa1
        go_wp2
        go_ret2
        exact ⟨rfl, B2⟩
    · rw [if_neg he]
      unfold zv at *
      go_enter Tryz.func71, Tryz.ntmps71
      go_wp2_with fail
      refine H1.out.mono ?_
      rintro e w1 ⟨rfl, hb1⟩
      have B1 := below_then HB.out.1 hb1
      have xa0 := (hx.below hb1 hs).c0
      have xa1 := (hx.below hb1 hs).c1
      have HL := Lib.hid (And.intro hx hs)
      clear hb1 hx hs
      go_wp2_with fail
      refine (HT.out _ B1).mono ?_
      rintro e w2 ⟨rfl, hb2⟩
      have B2 := below_then B1 hb2
      have ya0 := (hb2.cell (cell_lt xa0)).trans xa0
      have ya1 := (hb2.cell (cell_lt xa1)).trans xa1
      clear hb2 xa0 xa1
      go_wp2
      go_ret2
      exact ⟨rfl, B2⟩
end Go.Proofs.YtbldimplddiheaaGreatDoor
