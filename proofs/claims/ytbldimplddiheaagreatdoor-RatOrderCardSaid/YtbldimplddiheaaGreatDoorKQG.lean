import Derived.Test.YtbldimplddiheaaGreatDoorKQD
import Derived.Test.YtbldimplddiheaaGreatDoorKQRef7
import Derived.Test.YtbldimplddiheaaGreatDoorKGDig
/- QG. -/
/- rat: Text. -/
namespace Go.Proofs.YtbldimplddiheaaGreatDoor
open Go.RowKit Go.Shelf
set_option linter.unusedVariables false
set_option linter.unusedSimpArgs false

theorem one_list {d : List Nat} (hm : may d = true) (hw : Words d) : (val d = 1) ↔ d = [1] := by
  constructor
  · intro h
    have h1 := limbs_val hw hm
    rw [h] at h1
    exact h1.symm.trans limbs_one
  · rintro rfl
    rfl
set_option maxRecDepth 100000 in
set_option maxHeartbeats 4000000 in
theorem qtext_is : TextQIs 31 := fun v a d w h => by
  have T0 := uno_q w v
  have H1 := Lib.hid (fun W (hW : Below w.heap.size w W) => checkQ_is v a d W (h.below hW))
  cases hm : mayQ v.p a d with
  | false =>
    rw [hm] at H1
    simp only [Bool.false_eq_true, if_false] at H1
    rw [show qTextS v.p a d = ⟨#[]⟩ by unfold qTextS; rw [if_neg (by rw [hm]; decide)], show qTextE v.p a d = 8 by unfold qTextE; rw [if_neg (by rw [hm]; decide)]]
    clear h hm
    unfold QV.v at *
    go_enter Tryz.func31, Tryz.ntmps31
    go_wp2_with fail
    refine (H1.out _ T0.b).mono ?_
    rintro e w1 ⟨rfl, hb⟩
    have T1 := T0.next hb
    clear hb T0
    have qx0 := T1.x.c0
    have qx1 := T1.x.c1
    have qx2 := T1.x.c2
    go_wp2
    go_ret2
    exact ⟨rfl, T1.b⟩
  | true =>
    rw [hm] at H1
    simp only [if_true] at H1
    have H2 := Lib.hid (fun W (hW : Below w.heap.size w W) => textZ_any (p := v.p) (w := W) (h.below hW).z)
    have hmd := mayQ_iff.1 hm
    by_cases e1 : textZE v.p a = 0
    · have HS := Lib.hid (fun W (hW : Below w.heap.size w W) => isOne_any (w := W) (nm_of (h.below hW).rd hmd.2.1 h.cd1 h.cd2) (by have := h.ld; omega))
      have hone := one_list hmd.2.1 h.rd.words
      by_cases e2 : d = [1]
      · rw [show qTextS v.p a d = textZS v.p a by unfold qTextS; rw [if_pos hm, if_pos e1, if_pos e2], show qTextE v.p a d = 0 by unfold qTextE; rw [if_pos hm, if_pos e1, if_pos e2]]
        rw [e1] at H2
        rw [decide_eq_true (hone.2 e2)] at HS
        generalize textZS v.p a = S at H2 ⊢
        clear h hm hmd hone e1 e2
        unfold QV.v zv at *
        go_enter Tryz.func31, Tryz.ntmps31
        go_wp2_with fail
        refine (H1.out _ T0.b).mono ?_
        rintro e w1 ⟨rfl, hb⟩
        have T1 := T0.next hb
        clear hb T0
        have qx0 := T1.x.c0
        have qx1 := T1.x.c1
        have qx2 := T1.x.c2
        go_wp2_with fail
        refine (H2.out _ T1.b).mono ?_
        rintro e w2 ⟨rfl, hb⟩
        have T2 := T1.next hb
        clear hb T1
        clear qx0 qx1 qx2
        have qx0 := T2.x.c0
        have qx1 := T2.x.c1
        have qx2 := T2.x.c2
        go_wp2_with fail
        refine (HS.out _ T2.b).mono ?_
        rintro e w3 ⟨rfl, hb⟩
        have T3 := T2.next hb
        clear hb T2
        clear qx0 qx1 qx2
        have qx0 := T3.x.c0
        have qx1 := T3.x.c1
        have qx2 := T3.x.c2
        go_wp2
        go_ret2
        exact ⟨rfl, T3.b⟩
      · have H3 := Lib.hid (fun W (hW : Below w.heap.size w W) => text_is v.D v.m v.d d W (h.below hW).rd (by have := h.ld; omega) ⟨h.cd1, h.cd2⟩)
        rw [e1] at H2
        rw [decide_eq_false (fun e => e2 (hone.1 e))] at HS
        have z1 := textZS_size v.p a
        have z2 := textS_size d
        by_cases e3 : textE d = 0
        · rw [show qTextS v.p a d = textZS v.p a ++ ⟨#[47]⟩ ++ textS d by unfold qTextS; rw [if_pos hm, if_pos e1, if_neg e2, if_pos e3], show qTextE v.p a d = 0 by unfold qTextE; rw [if_pos hm, if_pos e1, if_neg e2, e3]]
          rw [e3] at H3
          generalize textZS v.p a = S at H2 z1 ⊢
          generalize textS d = T at H3 z2 ⊢
          have y1 : ¬ 9223372036854775807 < S.size + 1 := by omega
          have y2 : ¬ 9223372036854775807 < S.size + 1 + T.size := by omega
          clear h hm hmd hone e1 e2 e3 z1 z2
          unfold QV.v zv at *
          go_enter Tryz.func31, Tryz.ntmps31
          go_wp2_with fail
          refine (H1.out _ T0.b).mono ?_
          rintro e w1 ⟨rfl, hb⟩
          have T1 := T0.next hb
          clear hb T0
          have qx0 := T1.x.c0
          have qx1 := T1.x.c1
          have qx2 := T1.x.c2
          go_wp2_with fail
          refine (H2.out _ T1.b).mono ?_
          rintro e w2 ⟨rfl, hb⟩
          have T2 := T1.next hb
          clear hb T1
          clear qx0 qx1 qx2
          have qx0 := T2.x.c0
          have qx1 := T2.x.c1
          have qx2 := T2.x.c2
          go_wp2_with fail
          refine (HS.out _ T2.b).mono ?_
          rintro e w3 ⟨rfl, hb⟩
          have T3 := T2.next hb
          clear hb T2
          clear qx0 qx1 qx2
          have qx0 := T3.x.c0
          have qx1 := T3.x.c1
          have qx2 := T3.x.c2
          go_wp2_with fail
          refine (H3.out _ T3.b).mono ?_
          rintro e w4 ⟨rfl, hb⟩
          have T4 := T3.next hb
          clear hb T3
          clear qx0 qx1 qx2
          have qx0 := T4.x.c0
          have qx1 := T4.x.c1
          have qx2 := T4.x.c2
          go_wp2
          go_ret2
          exact ⟨rfl, T4.b⟩
        · rw [show qTextS v.p a d = ⟨#[]⟩ by unfold qTextS; rw [if_pos hm, if_pos e1, if_neg e2, if_neg e3], show qTextE v.p a d = textE d by unfold qTextE; rw [if_pos hm, if_pos e1, if_neg e2]]
          generalize textZS v.p a = S at H2
          generalize textS d = T at H3
          generalize textE d = E at H3 e3 ⊢
          have e4 : (E != 0) = true := by simpa using e3
          have e5 : (E == 0) = false := by simpa using e3
          clear h hm hmd hone e1 e2 e3 z1 z2
          unfold QV.v zv at *
          go_enter Tryz.func31, Tryz.ntmps31
          go_wp2_with fail
          refine (H1.out _ T0.b).mono ?_
          rintro e w1 ⟨rfl, hb⟩
          have T1 := T0.next hb
          clear hb T0
          have qx0 := T1.x.c0
          have qx1 := T1.x.c1
          have qx2 := T1.x.c2
          go_wp2_with fail
          refine (H2.out _ T1.b).mono ?_
          rintro e w2 ⟨rfl, hb⟩
          have T2 := T1.next hb
          clear hb T1
          clear qx0 qx1 qx2
          have qx0 := T2.x.c0
          have qx1 := T2.x.c1
          have qx2 := T2.x.c2
          go_wp2_with fail
          refine (HS.out _ T2.b).mono ?_
          rintro e w3 ⟨rfl, hb⟩
          have T3 := T2.next hb
          clear hb T2
          clear qx0 qx1 qx2
          have qx0 := T3.x.c0
          have qx1 := T3.x.c1
          have qx2 := T3.x.c2
          go_wp2_with fail
          refine (H3.out _ T3.b).mono ?_
          rintro e w4 ⟨rfl, hb⟩
          have T4 := T3.next hb
          clear hb T3
          clear qx0 qx1 qx2
          have qx0 := T4.x.c0
          have qx1 := T4.x.c1
          have qx2 := T4.x.c2
          go_wp2
          go_ret2
          exact ⟨rfl, T4.b⟩
    · rw [show qTextS v.p a d = textZS v.p a by unfold qTextS; rw [if_pos hm, if_neg e1], show qTextE v.p a d = textZE v.p a by unfold qTextE; rw [if_pos hm, if_neg e1]]
      generalize textZS v.p a = S at H2 ⊢
      generalize textZE v.p a = E at H2 e1 ⊢
      have e4 : (E != 0) = true := by simpa using e1
      have e5 : (E == 0) = false := by simpa using e1
      clear h hm hmd e1
      unfold QV.v zv at *
      go_enter Tryz.func31, Tryz.ntmps31
      go_wp2_with fail
      refine (H1.out _ T0.b).mono ?_
      rintro e w1 ⟨rfl, hb⟩
      have T1 := T0.next hb
      clear hb T0
      have qx0 := T1.x.c0
      have qx1 := T1.x.c1
      have qx2 := T1.x.c2
      go_wp2_with fail
      refine (H2.out _ T1.b).mono ?_
      rintro e w2 ⟨rfl, hb⟩
      have T2 := T1.next hb
      clear hb T1
      clear qx0 qx1 qx2
      have qx0 := T2.x.c0
      have qx1 := T2.x.c1
      have qx2 := T2.x.c2
      go_wp2
      go_ret2
      exact ⟨rfl, T2.b⟩
end Go.Proofs.YtbldimplddiheaaGreatDoor
