import Derived.Test.YtbldimplddiheaaGreatDoorKQRef7
/- QRef5. -/
/- The document's fractions: quotients. -/
namespace Go.Proofs.YtbldimplddiheaaGreatDoor
open Go.RowKit Go.Shelf
set_option linter.unusedVariables false
set_option linter.unusedSimpArgs false

theorem set_num {w : World} {g n c : Nat} {p : Bool} {A : Option Addr} (h : BoxZ w g p A n c) (q : Bool) (B : Option Addr) (m d : Nat) : BoxZ ((w.setCell ⟨g, 0, none⟩ (.bool q)).setCell ⟨g, 1, none⟩ (.slice B m d)) g q B m d := by
  have h1 := Go.Joins.block_setCell (i := 0) h (.bool q)
  exact Go.Joins.block_setCell (i := 1) h1 (.slice B m d)
theorem set_tri {w W : World} {x y z : QV} {g : Nat} (h : TriQ w W x y z) (hg : w.heap.size + 1 + 1 < g) (q : Bool) (B : Option Addr) (m d : Nat) : TriQ w ((W.setCell ⟨g, 0, none⟩ (.bool q)).setCell ⟨g, 1, none⟩ (.slice B m d)) x y z := by
  have hb : Below g W ((W.setCell ⟨g, 0, none⟩ (.bool q)).setCell ⟨g, 1, none⟩ (.slice B m d)) := box_below (Nat.le_refl g) (Below.refl g W) _ _
  exact ⟨h.b.trans (hb.mono (by omega)), h.x.below hb (by omega), h.y.below hb (by omega), h.r.below hb (by omega)⟩
section
variable {A D : Option Addr} {na ca nd cd u : Nat} {a d a2 d2 : List Nat} {w : World} {z : Int} {x y : Rat} {v v2 : QV}
set_option maxRecDepth 100000 in
set_option maxHeartbeats 8000000 in
theorem rDivQ_any (h : Q1 w v a d) (h2 : Q1 w v2 a2 d2) : Calls Tryz.prog 26 #[v.v, v2.v] w (QAns w (both2 v v2 a d a2 d2 && decide (qof v2.p a2 d2 ≠ 0)) (qof v.p a d / qof v2.p a2 d2) (if both2 v v2 a d a2 d2 then 30 else 8)) := by
  have T0 := tri_q w v v2 QV.zero
  have H1 := Lib.hid (rTwoQ_any (h.below T0.b) (h2.below T0.b))
  cases hm : both2 v v2 a d a2 d2 with
  | false =>
    rw [hm] at H1
    unfold QAns
    simp only [Bool.false_eq_true, if_false, Bool.false_and] at H1 ⊢
    clear h h2 hm
    unfold QV.v at *
    go_enter Tryz.func26, Tryz.ntmps26
    go_wp2_with fail
    refine H1.out.mono ?_
    rintro e w1 ⟨rfl, hb⟩
    have T1 := T0.next hb
    clear hb T0
    have qx0 := T1.x.c0
    have qx1 := T1.x.c1
    have qx2 := T1.x.c2
    have qy0 := T1.y.c0
    have qy1 := T1.y.c1
    have qy2 := T1.y.c2
    have qr0 := T1.r.c0
    have qr1 := T1.r.c1
    have qr2 := T1.r.c2
    have f0 := T1.r.f 0
    have f1 := T1.r.f 1
    have f2 := T1.r.f 2
    go_wp2
    refine bodyPost_ret (v := .tuple #[QV.zero.v, .int .i64 8]) (by simp [results, Tryz.results26, go_sem, qr0, qr1, qr2, QV.v, QV.zero]) rfl ?_
    exact ⟨rfl, box_below3 (show w.heap.size ≤ w.heap.size + 1 + 1 by omega) T1.b _ _ _⟩
  | true =>
    rw [hm] at H1
    unfold QAns
    simp only [if_true, Bool.true_and] at H1 ⊢
    have hm1 : mayQ v.p a d = true ∧ mayQ v2.p a2 d2 = true := by simpa [both2] using hm
    have n1 := h.num hm1.1
    have n2 := h2.num hm1.2
    have k1 := h.la
    have k2 := h.ld
    have k3 := h2.la
    have k4 := h2.ld
    clear h h2 hm hm1
    generalize qof v.p a d = x at *
    generalize qof v2.p a2 d2 = y at *
    by_cases hy : y = 0
    · rw [decide_eq_false (by simpa using hy)]
      simp only [Bool.false_eq_true, if_false]
      have hn0 : v2.n = 0 := n2.a.zero.2 (by rw [Rat.num_eq_zero.2 hy]; rfl)
      clear n1 n2 k1 k2 k3 k4 hy
      obtain ⟨p2, A2, nn, cc, D2, mm, dd⟩ := v2
      obtain rfl : nn = 0 := hn0
      dsimp only [QV.v] at *
      go_enter Tryz.func26, Tryz.ntmps26
      go_wp2_with fail
      refine H1.out.mono ?_
      rintro e w1 ⟨rfl, hb⟩
      have T1 := T0.next hb
      clear hb T0
      have qx0 := T1.x.c0
      have qx1 := T1.x.c1
      have qx2 := T1.x.c2
      have qy0 := T1.y.c0
      have qy1 := T1.y.c1
      have qy2 := T1.y.c2
      have qr0 := T1.r.c0
      have qr1 := T1.r.c1
      have qr2 := T1.r.c2
      have f0 := T1.r.f 0
      have f1 := T1.r.f 1
      have f2 := T1.r.f 2
      go_wp2
      refine bodyPost_ret (v := .tuple #[QV.zero.v, .int .i64 30]) (by simp [results, Tryz.results26, go_sem, qr0, qr1, qr2, QV.v, QV.zero]) rfl ?_
      exact ⟨rfl, box_below3 (show w.heap.size ≤ w.heap.size + 1 + 1 by omega) T1.b _ _ _⟩
    · rw [decide_eq_true (by simpa using hy)]
      simp only [if_true]
      have hn0 : v2.n ≠ 0 := fun e => num_ne hy (by have := n2.a.zero.1 e; omega)
      have hn1 : ((v2.n : Int) == 0) = false := by simpa using hn0
      have s1 := n1.s
      have s2 := n2.s
      have hq := div_rat2 x y hy
      have B1 : Bd 60 x.num := Bd.of n1.a k1
      have B2 : Bd 60 y.num := Bd.of n2.a k3
      have D1 : x.den < B64 ^ 60 := Nat.lt_of_lt_of_le n1.d.lt (Nat.pow_le_pow_right B64_pos k2)
      have D2' : Bd 60 (y.den : Int) := by unfold Bd; rw [Int.natAbs_natCast]; exact Nat.lt_of_lt_of_le n2.d.lt (Nat.pow_le_pow_right B64_pos k4)
      have L1 : Hid (Bd 120 (x.num * (y.den : Int))) := B1.mul D2'
      have L4 : Hid ((limbs (x.den * y.num.natAbs)).length ≤ 400) := by
        show _ ≤ _
        refine Nat.le_trans (limbs_length_le (k := 120) ?_) (by omega)
        rw [show 120 = 60 + 60 from rfl, Nat.pow_add]
        exact Nat.mul_lt_mul_of_lt_of_le D1 (Nat.le_of_lt B2) (Nat.pow_pos B64_pos)
      have hne : x.den * y.num.natAbs ≠ 0 := Nat.mul_ne_zero x.den_nz (by have := num_ne hy; omega)
      have P1 := Lib.hid (fun W (hW : Below w.heap.size w W) => rtimes_any (w := W) (n1.a.below hW) (n2.d.below hW) (by omega) (by omega))
      unfold zV zv at P1
      rw [← s1] at P1
      have P2 := Lib.hid (fun W {A2 : Option Addr} {n2 c2 : Nat} (h2 : ZNm W A2 n2 c2 (x.num * (y.den : Int))) (k2 : n2 ≤ 400) => rTurned_any (w := W) h2 (by omega))
      have P4 := Lib.hid (fun W (hW : Below w.heap.size w W) => times_any v.D v2.A v.m v.d v2.n v2.c _ _ W (n1.d.below hW).rd (n2.a.below hW).rd (by omega) (by omega))
      rw [val_limbs, val_limbs] at P4
      have P5 := Lib.hid (fun W {A2 D2 : Option Addr} {n2 c2 n3 c3 : Nat} {z : Int} (h2 : ZNm W A2 n2 c2 z) (h3 : Nm W D2 n3 c3 (x.den * y.num.natAbs)) (k2 : n2 ≤ 400) (k3 : n3 ≤ 400) => rLow_any (w := W) h2 h3 hne k2 k3)
      rw [← hq]
      by_cases hneg : y.num < 0
      · rw [if_pos hneg]
        have s3 : v2.p = true := s2.trans (decide_eq_true hneg)
        have HN1 := Lib.hid hn1
        clear hn1
        clear n1 n2 k1 k2 k3 k4 hy hn0 s1 s2 hq B1 B2 D1 D2' hne hneg
        generalize x.num * (y.den : Int) = z at *
        generalize x.den * y.num.natAbs = u at *
        obtain ⟨p2, A2, nn, cc, D2, mm, dd⟩ := v2
        obtain rfl : p2 = true := s3
        have hn1 : ((nn : Int) == 0) = false := HN1.out
        clear HN1
        unfold zV zv at *
        dsimp only [QV.v] at *
        go_enter Tryz.func26, Tryz.ntmps26
        go_wp2_with fail
        refine H1.out.mono ?_
        rintro e w1 ⟨rfl, hb⟩
        have T1 := T0.next hb
        clear hb T0
        have qx0 := T1.x.c0
        have qx1 := T1.x.c1
        have qx2 := T1.x.c2
        have qy0 := T1.y.c0
        have qy1 := T1.y.c1
        have qy2 := T1.y.c2
        have qr0 := T1.r.c0
        have qr1 := T1.r.c1
        have qr2 := T1.r.c2
        have f0 := T1.r.f 0
        have f1 := T1.r.f 1
        have f2 := T1.r.f 2
        go_wp2_with fail
        refine (P1.out _ T1.b).mono ?_
        rintro e w2 ⟨A3, n3, d3, rfl, o3, hb⟩
        have T2 := T1.next (below_then hb (bxb _ (zo (decide (z < 0)) A3 n3 d3)))
        have bn : BoxZ (w2.alloc (zo (decide (z < 0)) A3 n3 d3)) w2.heap.size (decide (z < 0)) A3 n3 d3 := World.alloc_heap_new _ _
        have BN := Lib.hid bn
        have o4 := Lib.hid (o3.below (bxb _ (zo (decide (z < 0)) A3 n3 d3)))
        have m0 := bn.c0
        have m1 := bn.c1
        have g0 := cells_frozen bn (j := 0)
        have g1 := cells_frozen bn (j := 1)
        have T1L : Hid (w.heap.size + 1 + 1 < w2.heap.size) := Nat.lt_of_lt_of_le T1.r.lt hb.size
        clear hb bn o3 T1
        clear qx0 qx1 qx2 qy0 qy1 qy2 qr0 qr1 qr2 f0 f1 f2
        have qx0 := T2.x.c0
        have qx1 := T2.x.c1
        have qx2 := T2.x.c2
        have qy0 := T2.y.c0
        have qy1 := T2.y.c1
        have qy2 := T2.y.c2
        have qr0 := T2.r.c0
        have qr1 := T2.r.c1
        have qr2 := T2.r.c2
        have f0 := T2.r.f 0
        have f1 := T2.r.f 1
        have f2 := T2.r.f 2
        unfold zV zv
        go_wp2_with fail
        refine (P2.out _ o4.out.nm (by have := L1.out.len o4.out; omega)).mono ?_
        rintro e w3 ⟨A4, n4, d4, rfl, o5, hb⟩
        have T3 := T2.next hb
        have bn := BN.out.below hb (Array.getElem?_eq_some_iff.1 BN.out).1
        have hlt : w2.heap.size < (w2.alloc (zo (decide (z < 0)) A3 n3 d3)).heap.size := by simp
        obtain ⟨z2, hz2⟩ : ∃ z2 : Int, z2 = -z := ⟨_, rfl⟩
        rw [← hz2] at o5 ⊢
        have hL1 : Bd 120 z2 := by rw [hz2]; exact L1.out.neg
        have bn2 := set_num bn (decide (z2 < 0)) A4 n4 d4
        have o6 := own_far (own_far o5 (p := ⟨w2.heap.size, 0, none⟩) hlt (.bool (decide (z2 < 0)))) (p := ⟨w2.heap.size, 1, none⟩) hlt (.slice A4 n4 d4)
        have hge : w.heap.size + 1 + 1 < w2.heap.size := T1L.out
        have T4 := set_tri T3 hge (decide (z2 < 0)) A4 n4 d4
        have HT4 := Lib.hid (T4.next (Below.refl _ _).drew)
        have BN4 := Lib.hid (bn2.below (Below.refl _ _).drew (Array.getElem?_eq_some_iff.1 bn2).1)
        have O6 := Lib.hid (o6.below (Below.refl _ _).drew)
        have HL1 := Lib.hid hL1
        have HZ2 := Lib.hid hz2
        clear m0 m1 g0 g1
        have m0 := bn.c0
        have m1 := bn.c1
        have g0 := cells_frozen bn (j := 0)
        have g1 := cells_frozen bn (j := 1)
        have HT4n := Lib.hid T4
        have BN4n := Lib.hid bn2
        clear bn bn2 o5 o6 hb T2 hL1 hz2 hlt hge T4
        clear qx0 qx1 qx2 qy0 qy1 qy2 qr0 qr1 qr2 f0 f1 f2
        have qx0 := T3.x.c0
        have qx1 := T3.x.c1
        have qx2 := T3.x.c2
        have qy0 := T3.y.c0
        have qy1 := T3.y.c1
        have qy2 := T3.y.c2
        have qr0 := T3.r.c0
        have qr1 := T3.r.c1
        have qr2 := T3.r.c2
        have f0 := T3.r.f 0
        have f1 := T3.r.f 1
        have f2 := T3.r.f 2
        unfold zV zv
        go_wp2_with fail
        clear m0 m1 g0 g1 qx0 qx1 qx2 qy0 qy1 qy2 qr0 qr1 qr2 f0 f1 f2
        generalize ((w3.setCell ⟨w2.heap.size, 0, none⟩ (.bool (decide (z2 < 0)))).setCell ⟨w2.heap.size, 1, none⟩ (.slice A4 n4 d4)) = W4 at *
        have qx0 := HT4n.out.x.c0
        have qx1 := HT4n.out.x.c1
        have qx2 := HT4n.out.x.c2
        have qy0 := HT4n.out.y.c0
        have qy1 := HT4n.out.y.c1
        have qy2 := HT4n.out.y.c2
        have qr0 := HT4n.out.r.c0
        have qr1 := HT4n.out.r.c1
        have qr2 := HT4n.out.r.c2
        have f0 := HT4n.out.r.f 0
        have f1 := HT4n.out.r.f 1
        have f2 := HT4n.out.r.f 2
        have m0 := BN4n.out.c0
        have m1 := BN4n.out.c1
        have hT1L := T1L.out
        go_region_held3 (fun W' => W'.cell? ⟨w.heap.size, 0, none⟩ = some (.bool v.p) ∧ W'.cell? ⟨w.heap.size, 1, none⟩ = some (.slice v.A v.n v.c) ∧ W'.cell? ⟨w.heap.size, 2, none⟩ = some (.slice v.D v.m v.d) ∧ W'.cell? ⟨w.heap.size + 1, 0, none⟩ = some (.bool true) ∧ W'.cell? ⟨w.heap.size + 1, 1, none⟩ = some (.slice A2 nn cc) ∧ W'.cell? ⟨w.heap.size + 1, 2, none⟩ = some (.slice D2 mm dd) ∧ W'.cell? ⟨w2.heap.size, 0, none⟩ = some (.bool (decide (z2 < 0))) ∧ W'.cell? ⟨w2.heap.size, 1, none⟩ = some (.slice A4 n4 d4)) (first | (refine ⟨?_, ?_, ?_, ?_, ?_, ?_, ?_, ?_⟩ <;> exact cell_far (cell_far (cell_far (by assumption) (by omega) _) (by omega) _) (by omega) _) | go_keep)
          (first
            | (go_at_call 65; refine (P4.out _ HT4.out.b).mono ?_; rintro e w4 ⟨A7, n7, d7, rfl, o7, hb⟩; have T5 := HT4.out.next hb; have bn := BN4.out.below hb (Array.getElem?_eq_some_iff.1 BN4.out).1; have o8 := O6.out.below hb; clear m0 m1 qx0 qx1 qx2 qy0 qy1 qy2 qr0 qr1 qr2 f0 f1 f2; have m0 := bn.c0; have m1 := bn.c1; have BN3 := Lib.hid bn; clear bn; have qx0 := T5.x.c0; have qx1 := T5.x.c1; have qx2 := T5.x.c2; have qy0 := T5.y.c0; have qy1 := T5.y.c1; have qy2 := T5.y.c2; have qr0 := T5.r.c0; have qr1 := T5.r.c1; have qr2 := T5.r.c2; have f0 := T5.r.f 0; have f1 := T5.r.f 1; have f2 := T5.r.f 2)
            | (go_at_call 64; refine (P5.out _ o8.nm o7.nm (by have := HL1.out.len o8; omega) (by have := o7.rd.2.1; have := L4.out; omega)).mono ?_; rintro e w5 ⟨vr, rfl, o9, hb⟩; have T6 := T5.next hb; have bn := BN3.out.below hb (Array.getElem?_eq_some_iff.1 BN3.out).1; clear m0 m1 qx0 qx1 qx2 qy0 qy1 qy2 qr0 qr1 qr2 f0 f1 f2; have m0 := bn.c0; have m1 := bn.c1; clear bn; have qx0 := T6.x.c0; have qx1 := T6.x.c1; have qx2 := T6.x.c2; have qy0 := T6.y.c0; have qy1 := T6.y.c1; have qy2 := T6.y.c2; have qr0 := T6.r.c0; have qr1 := T6.r.c1; have qr2 := T6.r.c2; have f0 := T6.r.f 0; have f1 := T6.r.f 1; have f2 := T6.r.f 2; unfold QV.v))
        all_goals
          go_wp2
          rw [HZ2.out] at o9
          refine bodyPost_ret (v := .tuple #[vr.v, .int .i64 0]) (by simp [results, Tryz.results26, go_sem, qr0, qr1, qr2, QV.v]) rfl ?_
          exact ⟨vr, rfl, o9.box3 T5.r.lt (show w.heap.size ≤ w.heap.size + 1 + 1 by omega) _ _ _, box_below3 (show w.heap.size ≤ w.heap.size + 1 + 1 by omega) T6.b _ _ _⟩
      · rw [if_neg hneg]
        have s3 : v2.p = false := s2.trans (decide_eq_false hneg)
        have HN1 := Lib.hid hn1
        clear hn1
        clear n1 n2 k1 k2 k3 k4 hy hn0 s1 s2 hq B1 B2 D1 D2' hne hneg P2
        generalize x.num * (y.den : Int) = z at *
        generalize x.den * y.num.natAbs = u at *
        obtain ⟨p2, A2, nn, cc, D2, mm, dd⟩ := v2
        obtain rfl : p2 = false := s3
        have hn1 : ((nn : Int) == 0) = false := HN1.out
        clear HN1
        unfold zV zv at *
        dsimp only [QV.v] at *
        go_enter Tryz.func26, Tryz.ntmps26
        go_wp2_with fail
        refine H1.out.mono ?_
        rintro e w1 ⟨rfl, hb⟩
        have T1 := T0.next hb
        clear hb T0
        have qx0 := T1.x.c0
        have qx1 := T1.x.c1
        have qx2 := T1.x.c2
        have qy0 := T1.y.c0
        have qy1 := T1.y.c1
        have qy2 := T1.y.c2
        have qr0 := T1.r.c0
        have qr1 := T1.r.c1
        have qr2 := T1.r.c2
        have f0 := T1.r.f 0
        have f1 := T1.r.f 1
        have f2 := T1.r.f 2
        go_wp2_with fail
        refine (P1.out _ T1.b).mono ?_
        rintro e w2 ⟨A3, n3, d3, rfl, o3, hb⟩
        have T2 := T1.next (below_then hb (bxb _ (zo (decide (z < 0)) A3 n3 d3)))
        have bn : BoxZ (w2.alloc (zo (decide (z < 0)) A3 n3 d3)) w2.heap.size (decide (z < 0)) A3 n3 d3 := World.alloc_heap_new _ _
        have BN := Lib.hid bn
        have o4 := Lib.hid (o3.below (bxb _ (zo (decide (z < 0)) A3 n3 d3)))
        have m0 := bn.c0
        have m1 := bn.c1
        have g0 := cells_frozen bn (j := 0)
        have g1 := cells_frozen bn (j := 1)
        have T1L : Hid (w.heap.size + 1 + 1 < w2.heap.size) := Nat.lt_of_lt_of_le T1.r.lt hb.size
        clear hb bn o3 T1
        clear qx0 qx1 qx2 qy0 qy1 qy2 qr0 qr1 qr2 f0 f1 f2
        have qx0 := T2.x.c0
        have qx1 := T2.x.c1
        have qx2 := T2.x.c2
        have qy0 := T2.y.c0
        have qy1 := T2.y.c1
        have qy2 := T2.y.c2
        have qr0 := T2.r.c0
        have qr1 := T2.r.c1
        have qr2 := T2.r.c2
        have f0 := T2.r.f 0
        have f1 := T2.r.f 1
        have f2 := T2.r.f 2
        unfold zV zv
        have HT2 := Lib.hid (T2.next (Below.refl _ _).drew)
        have BN2 := Lib.hid (BN.out.below (Below.refl _ _).drew (Array.getElem?_eq_some_iff.1 BN.out).1)
        have o5 := Lib.hid (o4.out.below (Below.refl _ _).drew)
        clear g0 g1
        have hT1L := T1L.out
        go_wp2_with fail
        go_region_held3 (fun W' => W'.cell? ⟨w.heap.size, 0, none⟩ = some (.bool v.p) ∧ W'.cell? ⟨w.heap.size, 1, none⟩ = some (.slice v.A v.n v.c) ∧ W'.cell? ⟨w.heap.size, 2, none⟩ = some (.slice v.D v.m v.d) ∧ W'.cell? ⟨w.heap.size + 1, 0, none⟩ = some (.bool false) ∧ W'.cell? ⟨w.heap.size + 1, 1, none⟩ = some (.slice A2 nn cc) ∧ W'.cell? ⟨w.heap.size + 1, 2, none⟩ = some (.slice D2 mm dd) ∧ W'.cell? ⟨w2.heap.size, 0, none⟩ = some (.bool (decide (z < 0))) ∧ W'.cell? ⟨w2.heap.size, 1, none⟩ = some (.slice A3 n3 d3)) (first | (refine ⟨?_, ?_, ?_, ?_, ?_, ?_, ?_, ?_⟩ <;> exact cell_far (cell_far (cell_far (by assumption) (by omega) _) (by omega) _) (by omega) _) | go_keep)
          (first
            | (go_at_call 65; refine (P4.out _ HT2.out.b).mono ?_; rintro e w4 ⟨A7, n7, d7, rfl, o7, hb⟩; have T4 := HT2.out.next hb; have bn := BN2.out.below hb (Array.getElem?_eq_some_iff.1 BN2.out).1; have o8 := o5.out.below hb; clear m0 m1 qx0 qx1 qx2 qy0 qy1 qy2 qr0 qr1 qr2 f0 f1 f2; have m0 := bn.c0; have m1 := bn.c1; have BN3 := Lib.hid bn; clear bn; have qx0 := T4.x.c0; have qx1 := T4.x.c1; have qx2 := T4.x.c2; have qy0 := T4.y.c0; have qy1 := T4.y.c1; have qy2 := T4.y.c2; have qr0 := T4.r.c0; have qr1 := T4.r.c1; have qr2 := T4.r.c2; have f0 := T4.r.f 0; have f1 := T4.r.f 1; have f2 := T4.r.f 2)
            | (go_at_call 64; refine (P5.out _ o8.nm o7.nm (by have := L1.out.len o8; omega) (by have := o7.rd.2.1; have := L4.out; omega)).mono ?_; rintro e w5 ⟨vr, rfl, o9, hb⟩; have T5 := T4.next hb; have bn := BN3.out.below hb (Array.getElem?_eq_some_iff.1 BN3.out).1; clear m0 m1 qx0 qx1 qx2 qy0 qy1 qy2 qr0 qr1 qr2 f0 f1 f2; have m0 := bn.c0; have m1 := bn.c1; clear bn; have qx0 := T5.x.c0; have qx1 := T5.x.c1; have qx2 := T5.x.c2; have qy0 := T5.y.c0; have qy1 := T5.y.c1; have qy2 := T5.y.c2; have qr0 := T5.r.c0; have qr1 := T5.r.c1; have qr2 := T5.r.c2; have f0 := T5.r.f 0; have f1 := T5.r.f 1; have f2 := T5.r.f 2; unfold QV.v))
        all_goals
          go_wp2
          refine bodyPost_ret (v := .tuple #[vr.v, .int .i64 0]) (by simp [results, Tryz.results26, go_sem, qr0, qr1, qr2, QV.v]) rfl ?_
          exact ⟨vr, rfl, o9.box3 T4.r.lt (show w.heap.size ≤ w.heap.size + 1 + 1 by omega) _ _ _, box_below3 (show w.heap.size ≤ w.heap.size + 1 + 1 by omega) T5.b _ _ _⟩
end
end Go.Proofs.YtbldimplddiheaaGreatDoor
