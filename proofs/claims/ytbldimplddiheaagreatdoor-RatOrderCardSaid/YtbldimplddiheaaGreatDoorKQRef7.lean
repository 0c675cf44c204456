import Derived.Test.YtbldimplddiheaaGreatDoorKQRef3
/- QRef4 QRef7. -/
/- The document's fractions: quotients, whole numbers below and above, texts. -/
namespace Go.Proofs.YtbldimplddiheaaGreatDoor
open Go.RowKit Go.Shelf
set_option linter.unusedVariables false
set_option linter.unusedSimpArgs false

/-- The world behind a fraction's block and a whole number's. -/
structure QMix (w W : World) (x : QV) : Prop where
  b : Below w.heap.size w W
  x : BoxQ W w.heap.size x
  r : BoxZ W (w.heap.size + 1) false none 0 0
theorem QMix.next {w W W' : World} {x : QV} (h : QMix w W x) (hb : Below W.heap.size W W') : QMix w W' x := ⟨below_then h.b hb, h.x.next hb, h.r.below hb (Array.getElem?_eq_some_iff.1 h.r).1⟩
theorem q_mix (w : World) (x : QV) : QMix w ((w.alloc x.o).alloc (zo false none 0 0)) x := by
  have h := (uno_q w x).next (bxb _ (zo false none 0 0))
  have h2 := World.alloc_heap_new (w.alloc x.o) (zo false none 0 0)
  rw [World.size_alloc] at h2
  exact ⟨h.b, h.x, h2⟩
section
variable {A D : Option Addr} {na ca nd cd u : Nat} {a d a2 d2 : List Nat} {w : World} {z : Int} {x y : Rat} {v v2 : QV}
set_option maxRecDepth 100000 in
set_option maxHeartbeats 4000000 in
theorem rFloorQ_any (h : Q1 w v a d) : Calls Tryz.prog 29 #[v.v] w (ZAns w (if mayQ v.p a d then (qof v.p a d).floor else 0) (if mayQ v.p a d then 0 else 8)) := by
  have T0 := q_mix w v
  have H1 := Lib.hid (fun W (hW : Below w.heap.size w W) => rMayQ_any (w := W) (h.below hW))
  cases hm : mayQ v.p a d with
  | false =>
    rw [hm] at H1
    simp only [Bool.false_eq_true, if_false]
    clear h hm
    unfold QV.v at *
    go_enter Tryz.func29, Tryz.ntmps29
    go_wp2_with fail
    refine (H1.out _ T0.b).mono ?_
    rintro e w1 ⟨rfl, hb⟩
    have T1 := T0.next hb
    clear hb T0
    have qx0 := T1.x.c0
    have qx1 := T1.x.c1
    have qx2 := T1.x.c2
    have r0 := T1.r.c0
    have r1 := T1.r.c1
    have f0 := T1.r.f 0
    have f1 := T1.r.f 1
    go_wp2
    refine bodyPost_ret (v := .tuple #[zv false none 0 0, .int .i64 8]) (by simp [results, Tryz.results29, go_sem, r0, r1, zv]) rfl ?_
    exact zans_zero (box_below (show w.heap.size ≤ w.heap.size + 1 by omega) T1.b _ _)
  | true =>
    rw [hm] at H1
    simp only [if_true]
    have n1 := h.num hm
    have k1 := h.la
    have k2 := h.ld
    have s1 := n1.s
    have P := Lib.hid (fun W (hW : Below w.heap.size w W) => rDownZ_any (w := W) (A2 := v.D) (nb := v.m) (cb := v.d) (y := ((qof v.p a d).den : Int)) (n1.a.below hW) (by show Nm _ _ _ _ (((qof v.p a d).den : Int)).natAbs; rw [Int.natAbs_natCast]; exact (n1.below hW).d) (by omega) (by omega) (by have := (qof v.p a d).den_nz; omega))
    rw [floor_rat] at P
    unfold zV zv at P
    rw [← s1, show decide (((qof v.p a d).den : Int) < 0) = false from decide_eq_false (by omega)] at P
    clear h hm n1 k1 k2 s1
    generalize (qof v.p a d).floor = z at P ⊢
    unfold QV.v at *
    go_enter Tryz.func29, Tryz.ntmps29
    go_wp2_with fail
    refine (H1.out _ T0.b).mono ?_
    rintro e w1 ⟨rfl, hb⟩
    have T1 := T0.next hb
    clear hb T0
    have qx0 := T1.x.c0
    have qx1 := T1.x.c1
    have qx2 := T1.x.c2
    have r0 := T1.r.c0
    have r1 := T1.r.c1
    have f0 := T1.r.f 0
    have f1 := T1.r.f 1
    go_wp2_with fail
    refine (P.out _ T1.b).mono ?_
    rintro e w2 ⟨A3, k3, c3, rfl, o3, hb⟩
    have T2 := T1.next hb
    have hG := Lib.hid (Array.getElem?_eq_some_iff.1 T1.r).1
    clear hb T1
    clear qx0 qx1 qx2 r0 r1 f0 f1
    have qx0 := T2.x.c0
    have qx1 := T2.x.c1
    have qx2 := T2.x.c2
    have r0 := T2.r.c0
    have r1 := T2.r.c1
    have f0 := T2.r.f 0
    have f1 := T2.r.f 1
    unfold zV zv
    go_wp2
    refine bodyPost_ret (v := .tuple #[zV z A3 k3 c3, .int .i64 0]) (by simp [results, Tryz.results29, go_sem, r0, r1, zV, zv]) rfl ?_
    exact ⟨A3, k3, c3, rfl, own_box hG.out (show w.heap.size ≤ w.heap.size + 1 by omega) o3 _ _, box_below (show w.heap.size ≤ w.heap.size + 1 by omega) T2.b _ _⟩
end
end Go.Proofs.YtbldimplddiheaaGreatDoor

/- The document's fractions: as texts. -/
namespace Go.Proofs.YtbldimplddiheaaGreatDoor
open Go.RowKit Go.Shelf
set_option linter.unusedVariables false
set_option linter.unusedSimpArgs false

/-- A fraction as a text. -/
def qTextE (p : Bool) (a d : List Nat) : Int := if mayQ p a d then (if textZE p a = 0 then (if d = [1] then 0 else textE d) else textZE p a) else 8
def qTextS (p : Bool) (a d : List Nat) : ByteArray := if mayQ p a d then (if textZE p a = 0 then (if d = [1] then textZS p a else (if textE d = 0 then textZS p a ++ ⟨#[47]⟩ ++ textS d else ⟨#[]⟩)) else textZS p a) else ⟨#[]⟩
theorem textZS_size (p : Bool) (a : List Nat) : (textZS p a).size ≤ 4097 := by
  have h := textS_size a
  unfold textZS
  split
  · split
    · rw [ByteArray.size_append]
      have : (⟨#[45]⟩ : ByteArray).size = 1 := rfl
      omega
    · omega
  · exact Nat.zero_le _
section
variable {a d : List Nat} {w : World} {v : QV}
set_option maxRecDepth 100000 in
set_option maxHeartbeats 4000000 in
theorem rTextQ_any (h : Q1 w v a d) : Calls Tryz.prog 32 #[v.v] w fun e w' => e = .returned (.tuple #[.string (qTextS v.p a d), .int .i64 (qTextE v.p a d)]) ∧ Below w.heap.size w w' := by
  have T0 := uno_q w v
  have H1 := Lib.hid (fun W (hW : Below w.heap.size w W) => rMayQ_any (w := W) (h.below hW))
  cases hm : mayQ v.p a d with
  | false =>
    rw [hm] at H1
    rw [show qTextS v.p a d = ⟨#[]⟩ by unfold qTextS; rw [if_neg (by rw [hm]; decide)], show qTextE v.p a d = 8 by unfold qTextE; rw [if_neg (by rw [hm]; decide)]]
    clear h hm
    unfold QV.v at *
    go_enter Tryz.func32, Tryz.ntmps32
    go_wp2_with fail
    refine (H1.out _ T0.b).mono ?_
    rintro e w1 ⟨rfl, hb⟩
    have T1 := T0.next hb
    clear hb T0
    go_wp2
    go_ret2
    exact ⟨rfl, T1.b⟩
  | true =>
    rw [hm] at H1
    have H2 := Lib.hid (fun W (hW : Below w.heap.size w W) => rTextZ_any v.A v.n v.c v.p a W (h.below hW).z)
    by_cases e1 : textZE v.p a = 0
    · have HS := Lib.hid (fun W T (hW : Below w.heap.size w W) => same_any v.D (some ⟨W.heap.size, 0, none⟩) v.m v.d 1 1 d [1] (W.alloc (.cells #[.int .u64 1] T)) ((h.below hW).rd.below (bxb W (.cells #[.int .u64 1] T))) (rd_new1 W 1 T B64_gt) (by have := h.ld; omega) (by omega))
      by_cases e2 : d = [1]
      · rw [show qTextS v.p a d = textZS v.p a by unfold qTextS; rw [if_pos hm, if_pos e1, if_pos e2], show qTextE v.p a d = 0 by unfold qTextE; rw [if_pos hm, if_pos e1, if_pos e2]]
        rw [e1] at H2
        rw [decide_eq_true e2] at HS
        generalize textZS v.p a = S at H2 ⊢
        clear h hm e1 e2
        unfold QV.v zv at *
        go_enter Tryz.func32, Tryz.ntmps32
        go_wp2_with fail
        refine (H1.out _ T0.b).mono ?_
        rintro e w1 ⟨rfl, hb⟩
        have T1 := T0.next hb
        clear hb T0
        have qx0 := T1.x.c0
        have qx1 := T1.x.c1
        have qx2 := T1.x.c2
        go_wp2_with fail
        refine (H2.out _ T1.b).mono ?_
        rintro e w2 ⟨rfl, hb⟩
        have T2 := T1.next hb
        clear hb T1
        clear qx0 qx1 qx2
        have qx0 := T2.x.c0
        have qx1 := T2.x.c1
        have qx2 := T2.x.c2
        go_wp2_with fail
        refine (HS.out w2 63 T2.b).mono ?_
        rintro e w3 ⟨rfl, hb⟩
        have T3 := T2.next (below_then (bxb _ (.cells #[.int .u64 1] 63)) hb)
        clear hb T2
        clear qx0 qx1 qx2
        have qx0 := T3.x.c0
        have qx1 := T3.x.c1
        have qx2 := T3.x.c2
        go_wp2
        go_ret2
        exact ⟨rfl, T3.b⟩
      · have H3 := Lib.hid (fun W (hW : Below w.heap.size w W) => rText_any v.D v.m v.d d W (h.below hW).rd (by have := h.ld; omega) h.cd1 h.cd2)
        rw [e1] at H2
        rw [decide_eq_false e2] at HS
        have z1 := textZS_size v.p a
        have z2 := textS_size d
        by_cases e3 : textE d = 0
        · rw [show qTextS v.p a d = textZS v.p a ++ ⟨#[47]⟩ ++ textS d by unfold qTextS; rw [if_pos hm, if_pos e1, if_neg e2, if_pos e3], show qTextE v.p a d = 0 by unfold qTextE; rw [if_pos hm, if_pos e1, if_neg e2, e3]]
          rw [e3] at H3
          generalize textZS v.p a = S at H2 z1 ⊢
          generalize textS d = T at H3 z2 ⊢
          have y1 : ¬ 9223372036854775807 < S.size + 1 := by omega
          have y2 : ¬ 9223372036854775807 < S.size + 1 + T.size := by omega
          clear h hm e1 e2 e3 z1 z2
          unfold QV.v zv at *
          go_enter Tryz.func32, Tryz.ntmps32
          go_wp2_with fail
          refine (H1.out _ T0.b).mono ?_
          rintro e w1 ⟨rfl, hb⟩
          have T1 := T0.next hb
          clear hb T0
          have qx0 := T1.x.c0
          have qx1 := T1.x.c1
          have qx2 := T1.x.c2
          go_wp2_with fail
          refine (H2.out _ T1.b).mono ?_
          rintro e w2 ⟨rfl, hb⟩
          have T2 := T1.next hb
          clear hb T1
          clear qx0 qx1 qx2
          have qx0 := T2.x.c0
          have qx1 := T2.x.c1
          have qx2 := T2.x.c2
          go_wp2_with fail
          refine (HS.out w2 63 T2.b).mono ?_
          rintro e w3 ⟨rfl, hb⟩
          have T3 := T2.next (below_then (bxb _ (.cells #[.int .u64 1] 63)) hb)
          clear hb T2
          clear qx0 qx1 qx2
          have qx0 := T3.x.c0
          have qx1 := T3.x.c1
          have qx2 := T3.x.c2
          go_wp2_with fail
          refine (H3.out _ T3.b).mono ?_
          rintro e w4 ⟨rfl, hb⟩
          have T4 := T3.next hb
          clear hb T3
          clear qx0 qx1 qx2
          have qx0 := T4.x.c0
          have qx1 := T4.x.c1
          have qx2 := T4.x.c2
          go_wp2
          go_ret2
          exact ⟨rfl, T4.b⟩
        · rw [show qTextS v.p a d = ⟨#[]⟩ by unfold qTextS; rw [if_pos hm, if_pos e1, if_neg e2, if_neg e3], show qTextE v.p a d = textE d by unfold qTextE; rw [if_pos hm, if_pos e1, if_neg e2]]
          generalize textZS v.p a = S at H2
          generalize textS d = T at H3
          generalize textE d = E at H3 e3 ⊢
          have e4 : (E != 0) = true := by simpa using e3
          clear h hm e1 e2 e3 z1 z2
          unfold QV.v zv at *
          go_enter Tryz.func32, Tryz.ntmps32
          go_wp2_with fail
          refine (H1.out _ T0.b).mono ?_
          rintro e w1 ⟨rfl, hb⟩
          have T1 := T0.next hb
          clear hb T0
          have qx0 := T1.x.c0
          have qx1 := T1.x.c1
          have qx2 := T1.x.c2
          go_wp2_with fail
          refine (H2.out _ T1.b).mono ?_
          rintro e w2 ⟨rfl, hb⟩
          have T2 := T1.next hb
          clear hb T1
          clear qx0 qx1 qx2
          have qx0 := T2.x.c0
          have qx1 := T2.x.c1
          have qx2 := T2.x.c2
          go_wp2_with fail
          refine (HS.out w2 63 T2.b).mono ?_
          rintro e w3 ⟨rfl, hb⟩
          have T3 := T2.next (below_then (bxb _ (.cells #[.int .u64 1] 63)) hb)
          clear hb T2
          clear qx0 qx1 qx2
          have qx0 := T3.x.c0
          have qx1 := T3.x.c1
          have qx2 := T3.x.c2
          go_wp2_with fail
          refine (H3.out _ T3.b).mono ?_
          rintro e w4 ⟨rfl, hb⟩
          have T4 := T3.next hb
          clear hb T3
          clear qx0 qx1 qx2
          have qx0 := T4.x.c0
          have qx1 := T4.x.c1
          have qx2 := T4.x.c2
          go_wp2
          go_ret2
          exact ⟨rfl, T4.b⟩
    · rw [show qTextS v.p a d = textZS v.p a by unfold qTextS; rw [if_pos hm, if_neg e1], show qTextE v.p a d = textZE v.p a by unfold qTextE; rw [if_pos hm, if_neg e1]]
      generalize textZS v.p a = S at H2 ⊢
      generalize textZE v.p a = E at H2 e1 ⊢
      have e4 : (E != 0) = true := by simpa using e1
      clear h hm e1
      unfold QV.v zv at *
      go_enter Tryz.func32, Tryz.ntmps32
      go_wp2_with fail
      refine (H1.out _ T0.b).mono ?_
      rintro e w1 ⟨rfl, hb⟩
      have T1 := T0.next hb
      clear hb T0
      have qx0 := T1.x.c0
      have qx1 := T1.x.c1
      have qx2 := T1.x.c2
      go_wp2_with fail
      refine (H2.out _ T1.b).mono ?_
      rintro e w2 ⟨rfl, hb⟩
      have T2 := T1.next hb
      clear hb T1
      clear qx0 qx1 qx2
      have qx0 := T2.x.c0
      have qx1 := T2.x.c1
      have qx2 := T2.x.c2
      go_wp2
      go_ret2
      exact ⟨rfl, T2.b⟩
end
end Go.Proofs.YtbldimplddiheaaGreatDoor
