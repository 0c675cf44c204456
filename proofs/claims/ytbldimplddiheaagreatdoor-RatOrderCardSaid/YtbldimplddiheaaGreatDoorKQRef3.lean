import Derived.Test.YtbldimplddiheaaGreatDoorKQ
import Derived.Test.YtbldimplddiheaaGreatDoorKZY
import Derived.Test.YtbldimplddiheaaGreatDoorKZX
/- QRef QRef2 QRef3. -/
/- The document's fractions: facetroomref06's calls. -/
namespace Go.Proofs.YtbldimplddiheaaGreatDoor
open Go.RowKit Go.Shelf
set_option linter.unusedVariables false
set_option linter.unusedSimpArgs false

/-- The world behind a whole number's block and a fraction's. -/
structure MixQ (w W : World) (p : Bool) (A : Option Addr) (na ca : Nat) (y : QV) : Prop where
  b : Below w.heap.size w W
  x : BoxZ W w.heap.size p A na ca
  r : BoxQ W (w.heap.size + 1) y
theorem MixQ.next {w W W' : World} {p : Bool} {A : Option Addr} {na ca : Nat} {y : QV} (h : MixQ w W p A na ca y) (hb : Below W.heap.size W W') : MixQ w W' p A na ca y := ⟨below_then h.b hb, h.x.below hb (Array.getElem?_eq_some_iff.1 h.x).1, h.r.next hb⟩
theorem mix_q (w : World) (p : Bool) (A : Option Addr) (na ca : Nat) (y : QV) : MixQ w ((w.alloc (zo p A na ca)).alloc y.o) p A na ca y := by
  have h := (uno_box w p A na ca).next (bxb _ y.o)
  have h2 := World.alloc_heap_new (w.alloc (zo p A na ca)) y.o
  rw [World.size_alloc] at h2
  exact ⟨h.b, h.x, h2⟩
section
variable {A D : Option Addr} {na ca nd cd u : Nat} {a d a2 d2 : List Nat} {w : World} {z : Int} {x y : Rat} {v v2 : QV}
set_option maxRecDepth 100000 in
set_option maxHeartbeats 4000000 in
theorem rMayQ_any (h : Q1 w v a d) : Calls Tryz.prog 67 #[v.v] w fun e w' => e = .returned (.bool (mayQ v.p a d)) ∧ Below w.heap.size w w' := by
  have T0 := uno_q w v
  have H1 := Lib.hid (fun W (hW : Below w.heap.size w W) => rMayZ_any (p := v.p) (w := W) (h.z.below hW))
  have H2 := Lib.hid (fun W (hW : Below w.heap.size w W) => rMay_any v.D v.m v.d d W (h.rd.below hW) (by have := h.ld; omega))
  cases e1 : mayZ v.p a with
  | false =>
    have HR : Hid (mayQ v.p a d = false) := by show _ = _; simp [mayQ, e1]
    rw [e1] at H1
    clear h e1 H2
    unfold QV.v zv at *
    go_enter Tryz.func67, Tryz.ntmps67
    go_wp2_with fail
    refine (H1.out _ T0.b).mono ?_
    rintro e w1 ⟨rfl, hb⟩
    have T1 := T0.next hb
    clear hb T0
    go_wp2
    go_ret
    exact ⟨by rw [HR.out]; rfl, T1.b⟩
  | true =>
    rw [e1] at H1
    cases e2 : may d with
    | false =>
      have HR : Hid (mayQ v.p a d = false) := by show _ = _; simp [mayQ, e2]
      rw [e2] at H2
      clear h e1 e2
      unfold QV.v zv at *
      go_enter Tryz.func67, Tryz.ntmps67
      go_wp2_with fail
      refine (H1.out _ T0.b).mono ?_
      rintro e w1 ⟨rfl, hb⟩
      have T1 := T0.next hb
      clear hb T0
      have xa0 := T1.x.c0
      have xa1 := T1.x.c1
      have xa2 := T1.x.c2
      go_wp2_with fail
      refine (H2.out _ T1.b).mono ?_
      rintro e w2 ⟨rfl, rfl⟩
      go_wp2
      go_ret
      exact ⟨by rw [HR.out]; rfl, T1.b⟩
    | true =>
      rw [e2] at H2
      by_cases h0 : v.m = 0
      · have hd0 : d = [] := List.eq_nil_of_length_eq_zero (h.rd.len.trans h0)
        have HR : Hid (mayQ v.p a d = false) := by show _ = _; simp [mayQ, hd0]
        have h1 : ¬ 0 < v.m := by omega
        clear h e1 e2 hd0 h0
        unfold QV.v zv at *
        go_enter Tryz.func67, Tryz.ntmps67
        go_wp2_with fail
        refine (H1.out _ T0.b).mono ?_
        rintro e w1 ⟨rfl, hb⟩
        have T1 := T0.next hb
        clear hb T0
        have xa0 := T1.x.c0
        have xa1 := T1.x.c1
        have xa2 := T1.x.c2
        go_wp2_with fail
        refine (H2.out _ T1.b).mono ?_
        rintro e w2 ⟨rfl, rfl⟩
        go_wp2
        go_ret
        exact ⟨by rw [HR.out]; rfl, T1.b⟩
      · have hd0 : d ≠ [] := fun e => h0 (by rw [← h.rd.len, e]; rfl)
        have h1 : 0 < v.m := by omega
        have HR : Hid (mayQ v.p a d = decide (limbs (Nat.gcd (val a) (val d)) = [1])) := by
          show _ = _
          rw [Bool.eq_iff_iff, mayQ_iff, decide_eq_true_iff]
          have h1 : limbs 1 = [1] := limbs_val (l := [1]) (fun x hx => by simp at hx; subst hx; exact B64_gt) rfl
          constructor
          · rintro ⟨_, _, _, h4⟩
            rw [h4, h1]
          · intro h4
            rw [← h1] at h4
            exact ⟨e1, e2, hd0, limbs_inj h4⟩
        have na := nm_of h.ra (mayZ_may e1) h.ca1 h.ca2
        have nd := nm_of h.rd e2 h.cd1 h.cd2
        have hla := h.la
        have hld := h.ld
        have HC := Lib.hid (fun W (hW : Below w.heap.size w W) => common_any (A := v.A) (A2 := v.D) (na := v.n) (ca := v.c) (nb := v.m) (cb := v.d) (v := val a) (u := val d) (w := W) (na.below hW) (nd.below hW) (by omega) (by omega))
        have LG : Hid ((limbs (Nat.gcd (val a) (val d))).length ≤ 400) := by
          show _ ≤ _
          refine Nat.le_trans (limbs_length_le (k := v.m) (Nat.lt_of_le_of_lt (Nat.le_of_dvd (val_pos e2 hd0) (Nat.gcd_dvd_right _ _)) nd.lt)) (by omega)
        rw [HR.out]
        clear h e1 e2 hd0 h0 HR na nd hla hld
        generalize limbs (Nat.gcd (val a) (val d)) = G at HC LG ⊢
        unfold QV.v zv at *
        go_enter Tryz.func67, Tryz.ntmps67
        go_wp2_with fail
        refine (H1.out _ T0.b).mono ?_
        rintro e w1 ⟨rfl, hb⟩
        have T1 := T0.next hb
        clear hb T0
        have xa0 := T1.x.c0
        have xa1 := T1.x.c1
        have xa2 := T1.x.c2
        go_wp2_with fail
        refine (H2.out _ T1.b).mono ?_
        rintro e w2 ⟨rfl, rfl⟩
        go_wp2_with fail
        refine (HC.out _ T1.b).mono ?_
        rintro e w3 ⟨G1, kg, cg, rfl, og, hb⟩
        have T3 := T1.next hb
        have hkg : kg ≤ 400 := by have := og.rd.2.1; have := LG.out; omega
        have HS := Lib.hid (fun T => same_any G1 (some ⟨w3.heap.size, 0, none⟩) kg cg 1 1 G [1] (w3.alloc (.cells #[.int .u64 1] T)) ((og.below (bxb w3 (.cells #[.int .u64 1] T))).rd.1) (rd_new1 w3 1 T B64_gt) (by omega) (by omega))
        clear hb xa0 xa1 xa2 T1 og hkg
        go_wp2_with fail
        refine (HS.out _).mono ?_
        rintro e w4 ⟨rfl, hb⟩
        have T4 := T3.next (below_then (bxb _ _) hb)
        clear hb
        go_wp2
        go_ret
        exact ⟨rfl, T4.b⟩
set_option maxRecDepth 100000 in
set_option maxHeartbeats 4000000 in
theorem rLow_any (ha : ZNm w A na ca z) (hd : Nm w D nd cd u) (hu : u ≠ 0) (l1 : na ≤ 400) (l2 : nd ≤ 400) : Calls Tryz.prog 64 #[zV z A na ca, .slice D nd cd] w (QOne w (mkRat z u)) := by
  have hm := mk_parts z hu
  have hg : Nat.gcd z.natAbs u ≠ 0 := fun e => hu (Nat.gcd_eq_zero_iff.1 e).2
  have hge : limbs (Nat.gcd z.natAbs u) ≠ [] := fun e => hg (limbs_eq_nil.1 e)
  have T0 := mix_q w (decide (z < 0)) A na ca QV.zero
  have HC := Lib.hid (fun W (hW : Below w.heap.size w W) => common_any (A := A) (A2 := D) (na := na) (ca := ca) (nb := nd) (cb := cd) (v := z.natAbs) (u := u) (w := W) (ha.below hW) (hd.below hW) (by omega) (by omega))
  have LG : Hid ((limbs (Nat.gcd z.natAbs u)).length ≤ 400) := by
    show _ ≤ _
    refine Nat.le_trans (limbs_length_le (k := nd) (Nat.lt_of_le_of_lt (Nat.le_of_dvd (Nat.pos_of_ne_zero hu) (Nat.gcd_dvd_right _ _)) hd.lt)) l2
  have H1 := Lib.hid (fun W (G : Option Addr) (kg cg : Nat) (hW : Below w.heap.size w W) (h : Nm W G kg cg (Nat.gcd z.natAbs u)) (hk : kg ≤ 400) => over_any A G na ca kg cg _ _ W (ha.below hW).rd h.rd (by omega) (by omega) (may_limbs _) hge)
  have H2 := Lib.hid (fun W (G : Option Addr) (kg cg : Nat) (hW : Below w.heap.size w W) (h : Nm W G kg cg (Nat.gcd z.natAbs u)) (hk : kg ≤ 400) => over_any D G nd cd kg cg _ _ W (hd.below hW).rd h.rd (by omega) (by omega) (may_limbs _) hge)
  rw [val_limbs, val_limbs] at H1 H2
  have HM := Lib.hid hm
  clear hm hg hge ha hd hu l1 l2
  generalize Nat.gcd z.natAbs u = g at HC LG H1 H2 HM
  unfold zV zv QOne
  go_enter Tryz.func64, Tryz.ntmps64
  go_wp2_with fail
  refine (HC.out _ T0.b).mono ?_
  rintro e w1 ⟨G, kg, cg, rfl, og, hb⟩
  have T1 := T0.next hb
  have hkg : kg ≤ 400 := by have := og.rd.2.1; have := LG.out; omega
  clear hb
  have xa0 := T1.x.c0
  have xa1 := T1.x.c1
  have r0 := T1.r.c0
  have r1 := T1.r.c1
  have r2 := T1.r.c2
  have f0 := T1.r.f 0
  have f1 := T1.r.f 1
  have f2 := T1.r.f 2
  go_wp2_with fail
  refine (H1.out _ G kg cg T1.b og.nm hkg).mono ?_
  rintro e w2 ⟨A3, k3, c3, A4, k4, c4, rfl, o3, o4, hb⟩
  have T2 := T1.next hb
  have og2 := og.below hb
  clear hb og o4
  clear xa0 xa1 r0 r1 r2 f0 f1 f2
  have xa0 := T2.x.c0
  have xa1 := T2.x.c1
  have r0 := T2.r.c0
  have r1 := T2.r.c1
  have r2 := T2.r.c2
  have f0 := T2.r.f 0
  have f1 := T2.r.f 1
  have f2 := T2.r.f 2
  go_wp2_with fail
  refine (H2.out _ G kg cg T2.b og2.nm hkg).mono ?_
  rintro e w3 ⟨A5, k5, c5, A6, k6, c6, rfl, o5, o6, hb⟩
  have T3 := T2.next hb
  have o3 := o3.below hb
  have hs := T1.r.lt
  have hs2 := T2.r.lt
  clear hb og2 o6 hkg
  clear xa0 xa1 r0 r1 r2 f0 f1 f2
  have xa0 := T3.x.c0
  have xa1 := T3.x.c1
  have r0 := T3.r.c0
  have r1 := T3.r.c1
  have r2 := T3.r.c2
  have f0 := T3.r.f 0
  have f1 := T3.r.f 1
  have f2 := T3.r.f 2
  have Q := Lib.hid (And.intro hs hs2)
  clear hs hs2
  go_wp2
  refine bodyPost_ret (v := (QV.mk (decide (z < 0)) A3 k3 c3 A5 k5 c5).v) (by simp [results, Tryz.results64, go_sem, r0, r1, r2, QV.v]) rfl ?_
  refine ⟨_, rfl, ⟨HM.out.2.1.symm, ?_, ?_⟩, box_below3 (show w.heap.size ≤ w.heap.size + 1 by omega) T3.b _ _ _⟩
  · rw [HM.out.1]; exact own_box3 Q.out.1 (show w.heap.size ≤ w.heap.size + 1 by omega) o3 _ _ _
  · rw [HM.out.2.2]; exact own_box3 Q.out.2 (show w.heap.size ≤ w.heap.size + 1 by omega) o5 _ _ _
set_option maxRecDepth 100000 in
set_option maxHeartbeats 4000000 in
theorem rtimes_any (ha : ZNm w A na ca z) (hd : Nm w D nd cd u) (l1 : na ≤ 400) (l2 : nd ≤ 400) : Calls Tryz.prog 62 #[zV z A na ca, .slice D nd cd] w (ZOne w (z * u)) := by
  have HN := Lib.hid (fun W (hW : Below w.heap.size w W) => rTimesZ_any (A2 := D) (nb := nd) (cb := cd) (y := (u : Int)) (w := W) (ha.below hW) (by show Nm _ _ _ _ ((u : Int)).natAbs; rw [Int.natAbs_natCast]; exact hd.below hW) (by omega) (by omega))
  have T0 := duo_box w (decide (z < 0)) A na ca
  unfold zV zv at HN
  rw [show decide ((u : Int) < 0) = false from decide_eq_false (by omega)] at HN
  clear ha hd l1 l2
  generalize z * (u : Int) = y at HN ⊢
  unfold zV zv ZOne at *
  have xa0 := T0.x.c0
  have xa1 := T0.x.c1
  have r0 := T0.r.c0
  have r1 := T0.r.c1
  have f0 := T0.r.f 0
  have f1 := T0.r.f 1
  go_enter Tryz.func62, Tryz.ntmps62
  go_wp2_with fail
  refine (HN.out _ T0.b).mono ?_
  rintro e w1 ⟨A3, k3, c3, rfl, o3, hb⟩
  have T1 := T0.next hb
  have hG := Lib.hid (Array.getElem?_eq_some_iff.1 T0.r).1
  clear hb T0
  clear xa0 xa1 r0 r1 f0 f1
  have xa0 := T1.x.c0
  have xa1 := T1.x.c1
  have r0 := T1.r.c0
  have r1 := T1.r.c1
  have f0 := T1.r.f 0
  have f1 := T1.r.f 1
  unfold zV zv
  go_wp2
  refine bodyPost_ret (v := zV y A3 k3 c3) (by simp [results, Tryz.results62, go_sem, r0, r1, zV, zv]) rfl ?_
  exact ⟨A3, k3, c3, rfl, own_box hG.out (show w.heap.size ≤ w.heap.size + 1 by omega) o3 _ _, box_below (show w.heap.size ≤ w.heap.size + 1 by omega) T1.b _ _⟩
set_option maxRecDepth 100000 in
set_option maxHeartbeats 8000000 in
theorem rSumQ_any (h1 : QNm w v x) (h2 : QNm w v2 y) (l1 : v.n ≤ 60) (l2 : v.m ≤ 60) (l3 : v2.n ≤ 60) (l4 : v2.m ≤ 60) : Calls Tryz.prog 58 #[v.v, v2.v] w (QOne w (x + y)) := by
  have T0 := tri_q w v v2 QV.zero
  have HT0 := Lib.hid (T0.next (Below.refl _ _).drew)
  have s1 := h1.s
  have s2 := h2.s
  have B1 : Bd 60 x.num := Bd.of h1.a l1
  have B2 : Bd 60 y.num := Bd.of h2.a l3
  have D1 : x.den < B64 ^ 60 := Nat.lt_of_lt_of_le h1.d.lt (Nat.pow_le_pow_right B64_pos l2)
  have D2 : y.den < B64 ^ 60 := Nat.lt_of_lt_of_le h2.d.lt (Nat.pow_le_pow_right B64_pos l4)
  have D1' : Bd 60 (x.den : Int) := by unfold Bd; rw [Int.natAbs_natCast]; exact D1
  have D2' : Bd 60 (y.den : Int) := by unfold Bd; rw [Int.natAbs_natCast]; exact D2
  have P1 := Lib.hid (fun W (hW : Below w.heap.size w W) => rtimes_any (w := W) (h1.a.below hW) (h2.d.below hW) (by omega) (by omega))
  have P2 := Lib.hid (fun W (hW : Below w.heap.size w W) => rtimes_any (w := W) (h2.a.below hW) (h1.d.below hW) (by omega) (by omega))
  have P4 := Lib.hid (fun W (hW : Below w.heap.size w W) => times_any v.D v2.D v.m v.d v2.m v2.d _ _ W (h1.d.below hW).rd (h2.d.below hW).rd (by omega) (by omega))
  rw [val_limbs, val_limbs] at P4
  have hq := sum_rat x y
  have hne : x.den * y.den ≠ 0 := Nat.mul_ne_zero x.den_nz y.den_nz
  unfold zV zv at P1 P2
  rw [← s1] at P1
  rw [← s2] at P2
  rw [← hq]
  have L1 : Hid (Bd 120 (x.num * (y.den : Int))) := B1.mul D2'
  have L2 : Hid (Bd 120 (y.num * (x.den : Int))) := B2.mul D1'
  have L3 : Hid (Bd 121 (x.num * (y.den : Int) + y.num * (x.den : Int))) := L1.out.add L2.out
  have L4 : Hid ((limbs (x.den * y.den)).length ≤ 400) := by
    show _ ≤ _
    refine Nat.le_trans (limbs_length_le (k := 120) ?_) (by omega)
    rw [show 120 = 60 + 60 from rfl, Nat.pow_add]
    exact Nat.mul_lt_mul_of_lt_of_le D1 (Nat.le_of_lt D2) (Nat.pow_pos B64_pos)
  have P3 := Lib.hid (fun W {A2 A3 : Option Addr} {n2 c2 n3 c3 : Nat} (h2 : ZNm W A2 n2 c2 (x.num * (y.den : Int))) (h3 : ZNm W A3 n3 c3 (y.num * (x.den : Int))) (k2 : n2 ≤ 400) (k3 : n3 ≤ 400) => rSumZ_any (w := W) h2 h3 (by omega) (by omega))
  have P5 := Lib.hid (fun W {A2 D2 : Option Addr} {n2 c2 n3 c3 : Nat} (h2 : ZNm W A2 n2 c2 (x.num * (y.den : Int) + y.num * (x.den : Int))) (h3 : Nm W D2 n3 c3 (x.den * y.den)) (k2 : n2 ≤ 400) (k3 : n3 ≤ 400) => rLow_any (w := W) h2 h3 hne k2 k3)
  clear h1 h2 l1 l2 l3 l4 s1 s2 B1 B2 D1 D2 D1' D2' hq hne
  generalize x.num * (y.den : Int) = z1 at *
  generalize y.num * (x.den : Int) = z2 at *
  generalize z1 + z2 = z3 at *
  generalize x.den * y.den = u at *
  generalize mkRat z3 u = q at *
  unfold zV zv QV.v at *
  have qx0 := T0.x.c0
  have qx1 := T0.x.c1
  have qx2 := T0.x.c2
  have qy0 := T0.y.c0
  have qy1 := T0.y.c1
  have qy2 := T0.y.c2
  have qr0 := T0.r.c0
  have qr1 := T0.r.c1
  have qr2 := T0.r.c2
  have f0 := T0.r.f 0
  have f1 := T0.r.f 1
  have f2 := T0.r.f 2
  go_enter Tryz.func58, Tryz.ntmps58
  go_wp2_with fail
  go_region_held3 (fun W' => W'.cell? ⟨w.heap.size, 0, none⟩ = some (.bool v.p) ∧ W'.cell? ⟨w.heap.size, 1, none⟩ = some (.slice v.A v.n v.c) ∧ W'.cell? ⟨w.heap.size, 2, none⟩ = some (.slice v.D v.m v.d) ∧ W'.cell? ⟨w.heap.size + 1, 0, none⟩ = some (.bool v2.p) ∧ W'.cell? ⟨w.heap.size + 1, 1, none⟩ = some (.slice v2.A v2.n v2.c) ∧ W'.cell? ⟨w.heap.size + 1, 2, none⟩ = some (.slice v2.D v2.m v2.d)) (first | (refine ⟨?_, ?_, ?_, ?_, ?_, ?_⟩ <;> exact cell_far (cell_far (cell_far (by assumption) (by omega) _) (by omega) _) (by omega) _) | go_keep)
    (first
      | (go_at_call 62; refine (P2.out _ T1.b).mono ?_; rintro e w2 ⟨A4, n4, d4, rfl, o4, hb⟩; have T2 := T1.next hb; clear qx0 qx1 qx2 qy0 qy1 qy2 qr0 qr1 qr2 f0 f1 f2; have qx0 := T2.x.c0; have qx1 := T2.x.c1; have qx2 := T2.x.c2; have qy0 := T2.y.c0; have qy1 := T2.y.c1; have qy2 := T2.y.c2; have qr0 := T2.r.c0; have qr1 := T2.r.c1; have qr2 := T2.r.c2; have f0 := T2.r.f 0; have f1 := T2.r.f 1; have f2 := T2.r.f 2; have o5 := o3.below hb; unfold zV zv)
      | (go_at_call 62; refine (P1.out _ HT0.out.b).mono ?_; rintro e w1 ⟨A3, n3, d3, rfl, o3, hb⟩; have T1 := HT0.out.next hb; clear qx0 qx1 qx2 qy0 qy1 qy2 qr0 qr1 qr2 f0 f1 f2; have qx0 := T1.x.c0; have qx1 := T1.x.c1; have qx2 := T1.x.c2; have qy0 := T1.y.c0; have qy1 := T1.y.c1; have qy2 := T1.y.c2; have qr0 := T1.r.c0; have qr1 := T1.r.c1; have qr2 := T1.r.c2; have f0 := T1.r.f 0; have f1 := T1.r.f 1; have f2 := T1.r.f 2; unfold zV zv)
      | (go_at_call 89; refine (P3.out _ o5.nm o4.nm (by have := L1.out.len o5; omega) (by have := L2.out.len o4; omega)).mono ?_; rintro e w3 ⟨A6, n6, d6, rfl, o6, hb⟩; have T3 := T2.next hb; clear qx0 qx1 qx2 qy0 qy1 qy2 qr0 qr1 qr2 f0 f1 f2; have qx0 := T3.x.c0; have qx1 := T3.x.c1; have qx2 := T3.x.c2; have qy0 := T3.y.c0; have qy1 := T3.y.c1; have qy2 := T3.y.c2; have qr0 := T3.r.c0; have qr1 := T3.r.c1; have qr2 := T3.r.c2; have f0 := T3.r.f 0; have f1 := T3.r.f 1; have f2 := T3.r.f 2; unfold zV zv)
      | (go_at_call 65; refine (P4.out _ T3.b).mono ?_; rintro e w4 ⟨A7, n7, d7, rfl, o7, hb⟩; have T4 := T3.next hb; clear qx0 qx1 qx2 qy0 qy1 qy2 qr0 qr1 qr2 f0 f1 f2; have qx0 := T4.x.c0; have qx1 := T4.x.c1; have qx2 := T4.x.c2; have qy0 := T4.y.c0; have qy1 := T4.y.c1; have qy2 := T4.y.c2; have qr0 := T4.r.c0; have qr1 := T4.r.c1; have qr2 := T4.r.c2; have f0 := T4.r.f 0; have f1 := T4.r.f 1; have f2 := T4.r.f 2; have o8 := o6.below hb)
      | (go_at_call 64; refine (P5.out _ o8.nm o7.nm (by have := L3.out.len o8; omega) (by have := o7.rd.2.1; have := L4.out; omega)).mono ?_; rintro e w5 ⟨vr, rfl, o9, hb⟩; have T5 := T4.next hb; clear qx0 qx1 qx2 qy0 qy1 qy2 qr0 qr1 qr2 f0 f1 f2; have qx0 := T5.x.c0; have qx1 := T5.x.c1; have qx2 := T5.x.c2; have qy0 := T5.y.c0; have qy1 := T5.y.c1; have qy2 := T5.y.c2; have qr0 := T5.r.c0; have qr1 := T5.r.c1; have qr2 := T5.r.c2; have f0 := T5.r.f 0; have f1 := T5.r.f 1; have f2 := T5.r.f 2; unfold QV.v))
  all_goals
    go_wp2
    refine bodyPost_ret (v := vr.v) (by simp [results, Tryz.results58, go_sem, qr0, qr1, qr2, QV.v]) rfl ?_
    exact ⟨vr, rfl, o9.box3 T4.r.lt (show w.heap.size ≤ w.heap.size + 1 + 1 by omega) _ _ _, box_below3 (show w.heap.size ≤ w.heap.size + 1 + 1 by omega) T5.b _ _ _⟩
set_option maxRecDepth 100000 in
set_option maxHeartbeats 8000000 in
theorem rProdQ_any (h1 : QNm w v x) (h2 : QNm w v2 y) (l1 : v.n ≤ 60) (l2 : v.m ≤ 60) (l3 : v2.n ≤ 60) (l4 : v2.m ≤ 60) : Calls Tryz.prog 61 #[v.v, v2.v] w (QOne w (x * y)) := by
  have T0 := tri_q w v v2 QV.zero
  have HT0 := Lib.hid (T0.next (Below.refl _ _).drew)
  have s1 := h1.s
  have s2 := h2.s
  have B1 : Bd 60 x.num := Bd.of h1.a l1
  have B2 : Bd 60 y.num := Bd.of h2.a l3
  have D1 : x.den < B64 ^ 60 := Nat.lt_of_lt_of_le h1.d.lt (Nat.pow_le_pow_right B64_pos l2)
  have D2 : y.den < B64 ^ 60 := Nat.lt_of_lt_of_le h2.d.lt (Nat.pow_le_pow_right B64_pos l4)
  have P1 := Lib.hid (fun W (hW : Below w.heap.size w W) => rTimesZ_any (w := W) (h1.a.below hW) (h2.a.below hW) (by omega) (by omega))
  have P4 := Lib.hid (fun W (hW : Below w.heap.size w W) => times_any v.D v2.D v.m v.d v2.m v2.d _ _ W (h1.d.below hW).rd (h2.d.below hW).rd (by omega) (by omega))
  rw [val_limbs, val_limbs] at P4
  have hq := mul_rat x y
  have hne : x.den * y.den ≠ 0 := Nat.mul_ne_zero x.den_nz y.den_nz
  unfold zV zv at P1
  rw [← s1, ← s2] at P1
  rw [← hq]
  have L1 : Hid (Bd 120 (x.num * y.num)) := B1.mul B2
  have L4 : Hid ((limbs (x.den * y.den)).length ≤ 400) := by
    show _ ≤ _
    refine Nat.le_trans (limbs_length_le (k := 120) ?_) (by omega)
    rw [show 120 = 60 + 60 from rfl, Nat.pow_add]
    exact Nat.mul_lt_mul_of_lt_of_le D1 (Nat.le_of_lt D2) (Nat.pow_pos B64_pos)
  have P5 := Lib.hid (fun W {A2 D2 : Option Addr} {n2 c2 n3 c3 : Nat} (h2 : ZNm W A2 n2 c2 (x.num * y.num)) (h3 : Nm W D2 n3 c3 (x.den * y.den)) (k2 : n2 ≤ 400) (k3 : n3 ≤ 400) => rLow_any (w := W) h2 h3 hne k2 k3)
  clear h1 h2 l1 l2 l3 l4 s1 s2 B1 B2 D1 D2 hq hne
  generalize x.num * y.num = z3 at *
  generalize x.den * y.den = u at *
  generalize mkRat z3 u = q at *
  unfold zV zv QV.v at *
  have qx0 := T0.x.c0
  have qx1 := T0.x.c1
  have qx2 := T0.x.c2
  have qy0 := T0.y.c0
  have qy1 := T0.y.c1
  have qy2 := T0.y.c2
  have qr0 := T0.r.c0
  have qr1 := T0.r.c1
  have qr2 := T0.r.c2
  have f0 := T0.r.f 0
  have f1 := T0.r.f 1
  have f2 := T0.r.f 2
  go_enter Tryz.func61, Tryz.ntmps61
  go_wp2_with fail
  go_region_held3 (fun W' => W'.cell? ⟨w.heap.size, 0, none⟩ = some (.bool v.p) ∧ W'.cell? ⟨w.heap.size, 1, none⟩ = some (.slice v.A v.n v.c) ∧ W'.cell? ⟨w.heap.size, 2, none⟩ = some (.slice v.D v.m v.d) ∧ W'.cell? ⟨w.heap.size + 1, 0, none⟩ = some (.bool v2.p) ∧ W'.cell? ⟨w.heap.size + 1, 1, none⟩ = some (.slice v2.A v2.n v2.c) ∧ W'.cell? ⟨w.heap.size + 1, 2, none⟩ = some (.slice v2.D v2.m v2.d)) (first | (refine ⟨?_, ?_, ?_, ?_, ?_, ?_⟩ <;> exact cell_far (cell_far (cell_far (by assumption) (by omega) _) (by omega) _) (by omega) _) | go_keep)
    (first
      | (go_at_call 91; refine (P1.out _ HT0.out.b).mono ?_; rintro e w3 ⟨A6, n6, d6, rfl, o6, hb⟩; have T3 := HT0.out.next hb; clear qx0 qx1 qx2 qy0 qy1 qy2 qr0 qr1 qr2 f0 f1 f2; have qx0 := T3.x.c0; have qx1 := T3.x.c1; have qx2 := T3.x.c2; have qy0 := T3.y.c0; have qy1 := T3.y.c1; have qy2 := T3.y.c2; have qr0 := T3.r.c0; have qr1 := T3.r.c1; have qr2 := T3.r.c2; have f0 := T3.r.f 0; have f1 := T3.r.f 1; have f2 := T3.r.f 2; unfold zV zv)
      | (go_at_call 65; refine (P4.out _ T3.b).mono ?_; rintro e w4 ⟨A7, n7, d7, rfl, o7, hb⟩; have T4 := T3.next hb; clear qx0 qx1 qx2 qy0 qy1 qy2 qr0 qr1 qr2 f0 f1 f2; have qx0 := T4.x.c0; have qx1 := T4.x.c1; have qx2 := T4.x.c2; have qy0 := T4.y.c0; have qy1 := T4.y.c1; have qy2 := T4.y.c2; have qr0 := T4.r.c0; have qr1 := T4.r.c1; have qr2 := T4.r.c2; have f0 := T4.r.f 0; have f1 := T4.r.f 1; have f2 := T4.r.f 2; have o8 := o6.below hb)
      | (go_at_call 64; refine (P5.out _ o8.nm o7.nm (by have := L1.out.len o8; omega) (by have := o7.rd.2.1; have := L4.out; omega)).mono ?_; rintro e w5 ⟨vr, rfl, o9, hb⟩; have T5 := T4.next hb; clear qx0 qx1 qx2 qy0 qy1 qy2 qr0 qr1 qr2 f0 f1 f2; have qx0 := T5.x.c0; have qx1 := T5.x.c1; have qx2 := T5.x.c2; have qy0 := T5.y.c0; have qy1 := T5.y.c1; have qy2 := T5.y.c2; have qr0 := T5.r.c0; have qr1 := T5.r.c1; have qr2 := T5.r.c2; have f0 := T5.r.f 0; have f1 := T5.r.f 1; have f2 := T5.r.f 2; unfold QV.v))
  all_goals
    go_wp2
    refine bodyPost_ret (v := vr.v) (by simp [results, Tryz.results61, go_sem, qr0, qr1, qr2, QV.v]) rfl ?_
    exact ⟨vr, rfl, o9.box3 T4.r.lt (show w.heap.size ≤ w.heap.size + 1 + 1 by omega) _ _ _, box_below3 (show w.heap.size ≤ w.heap.size + 1 + 1 by omega) T5.b _ _ _⟩
end
end Go.Proofs.YtbldimplddiheaaGreatDoor

/- The document's fractions: what answers with an error. -/
namespace Go.Proofs.YtbldimplddiheaaGreatDoor
open Go.RowKit Go.Shelf
set_option linter.unusedVariables false
set_option linter.unusedSimpArgs false

/-- A call answered a fraction the other way round: its number new, its second number as it was. -/
def QTurn (w : World) (v : QV) (x : Rat) (e : Ending) (w' : World) : Prop := ∃ (A' : Option Addr) (k c : Nat), e = .returned (QV.mk (decide ((-x).num < 0)) A' k c v.D v.m v.d).v ∧ Own w' w.heap.size (.slice A' k c) (limbs (-x).num.natAbs) ∧ Below w.heap.size w w'
def both2 (v v2 : QV) (a d a2 d2 : List Nat) : Bool := mayQ v.p a d && mayQ v2.p a2 d2
section
variable {A D : Option Addr} {na ca nd cd u : Nat} {a d a2 d2 : List Nat} {w : World} {z : Int} {x y : Rat} {v v2 : QV}
set_option maxRecDepth 100000 in
set_option maxHeartbeats 4000000 in
theorem rTurnedQ_any (h1 : QNm w v x) (l1 : v.n ≤ 400) : Calls Tryz.prog 60 #[v.v] w (QTurn w v x) := by
  have T0 := duo_q w v QV.zero
  have HT0 := Lib.hid (T0.next (Below.refl _ _).drew)
  have s1 := h1.s
  have P1 := Lib.hid (fun W (hW : Below w.heap.size w W) => rTurned_any (w := W) (h1.a.below hW) (by omega))
  unfold zV zv at P1
  rw [← s1] at P1
  unfold QTurn
  rw [Rat.neg_num]
  clear h1 l1 s1
  generalize -x.num = z at *
  unfold QV.v at *
  have qx0 := T0.x.c0
  have qx1 := T0.x.c1
  have qx2 := T0.x.c2
  have qr0 := T0.y.c0
  have qr1 := T0.y.c1
  have qr2 := T0.y.c2
  have f0 := T0.y.f 0
  have f1 := T0.y.f 1
  have f2 := T0.y.f 2
  go_enter Tryz.func60, Tryz.ntmps60
  go_wp2_with fail
  go_region_held3 (fun W' => W'.cell? ⟨w.heap.size, 0, none⟩ = some (.bool v.p) ∧ W'.cell? ⟨w.heap.size, 1, none⟩ = some (.slice v.A v.n v.c) ∧ W'.cell? ⟨w.heap.size, 2, none⟩ = some (.slice v.D v.m v.d)) (first | (refine ⟨?_, ?_, ?_⟩ <;> exact cell_far (cell_far (cell_far (by assumption) (by omega) _) (by omega) _) (by omega) _) | go_keep)
    (first
      | (go_at_call 63; refine (P1.out _ HT0.out.b).mono ?_; rintro e w1 ⟨A3, k3, c3, rfl, o3, hb⟩; have T1 := HT0.out.next hb; clear qx0 qx1 qx2 qr0 qr1 qr2 f0 f1 f2; have qx0 := T1.x.c0; have qx1 := T1.x.c1; have qx2 := T1.x.c2; have qr0 := T1.y.c0; have qr1 := T1.y.c1; have qr2 := T1.y.c2; have f0 := T1.y.f 0; have f1 := T1.y.f 1; have f2 := T1.y.f 2; unfold zV zv))
  all_goals
    go_wp2
    refine bodyPost_ret (v := (QV.mk (decide (z < 0)) A3 k3 c3 v.D v.m v.d).v) (by simp [results, Tryz.results60, go_sem, qr0, qr1, qr2, QV.v]) rfl ?_
    exact ⟨A3, k3, c3, rfl, own_box3 HT0.out.y.lt (show w.heap.size ≤ w.heap.size + 1 by omega) o3 _ _ _, box_below3 (show w.heap.size ≤ w.heap.size + 1 by omega) T1.b _ _ _⟩
set_option maxRecDepth 100000 in
set_option maxHeartbeats 4000000 in
theorem rTwoQ_any (h : Q1 w v a d) (h2 : Q1 w v2 a2 d2) : Calls Tryz.prog 57 #[v.v, v2.v] w fun e w' => e = .returned (.int .i64 (if both2 v v2 a d a2 d2 then 0 else 8)) ∧ Below w.heap.size w w' := by
  have T0 := duo_q w v v2
  have H1 := Lib.hid (fun W (hW : Below w.heap.size w W) => rMayQ_any (w := W) (h.below hW))
  have H2 := Lib.hid (fun W (hW : Below w.heap.size w W) => rMayQ_any (w := W) (h2.below hW))
  cases e1 : mayQ v.p a d with
  | false =>
    have HR : Hid (both2 v v2 a d a2 d2 = false) := by show _ = _; simp [both2, e1]
    rw [e1] at H1
    rw [HR.out]
    simp only [Bool.false_eq_true, if_false]
    clear h h2 e1 H2
    unfold QV.v at *
    go_enter Tryz.func57, Tryz.ntmps57
    go_wp2_with fail
    refine (H1.out _ T0.b).mono ?_
    rintro e w1 ⟨rfl, hb⟩
    have T1 := T0.next hb
    clear hb T0
    go_wp2
    go_ret
    exact ⟨rfl, T1.b⟩
  | true =>
    rw [e1] at H1
    cases e2 : mayQ v2.p a2 d2 with
    | false =>
      have HR : Hid (both2 v v2 a d a2 d2 = false) := by show _ = _; simp [both2, e2]
      rw [e2] at H2
      rw [HR.out]
      simp only [Bool.false_eq_true, if_false]
      clear h h2 e1 e2
      unfold QV.v at *
      go_enter Tryz.func57, Tryz.ntmps57
      go_wp2_with fail
      refine (H1.out _ T0.b).mono ?_
      rintro e w1 ⟨rfl, hb⟩
      have T1 := T0.next hb
      clear hb T0
      have qx0 := T1.x.c0
      have qx1 := T1.x.c1
      have qx2 := T1.x.c2
      have qy0 := T1.y.c0
      have qy1 := T1.y.c1
      have qy2 := T1.y.c2
      go_wp2_with fail
      refine (H2.out _ T1.b).mono ?_
      rintro e w2 ⟨rfl, hb⟩
      have T2 := T1.next hb
      clear hb
      go_wp2
      go_ret
      exact ⟨rfl, T2.b⟩
    | true =>
      have HR : Hid (both2 v v2 a d a2 d2 = true) := by show _ = _; simp [both2, e1, e2]
      rw [e2] at H2
      rw [HR.out]
      simp only [if_true]
      clear h h2 e1 e2
      unfold QV.v at *
      go_enter Tryz.func57, Tryz.ntmps57
      go_wp2_with fail
      refine (H1.out _ T0.b).mono ?_
      rintro e w1 ⟨rfl, hb⟩
      have T1 := T0.next hb
      clear hb T0
      have qx0 := T1.x.c0
      have qx1 := T1.x.c1
      have qx2 := T1.x.c2
      have qy0 := T1.y.c0
      have qy1 := T1.y.c1
      have qy2 := T1.y.c2
      go_wp2_with fail
      refine (H2.out _ T1.b).mono ?_
      rintro e w2 ⟨rfl, hb⟩
      have T2 := T1.next hb
      clear hb
      go_wp2
      go_ret
      exact ⟨rfl, T2.b⟩
set_option maxRecDepth 100000 in
set_option maxHeartbeats 8000000 in
theorem rAddQ_any (h : Q1 w v a d) (h2 : Q1 w v2 a2 d2) : Calls Tryz.prog 22 #[v.v, v2.v] w (QAns w (both2 v v2 a d a2 d2) (qof v.p a d + qof v2.p a2 d2) 8) := by
  have T0 := tri_q w v v2 QV.zero
  have H1 := Lib.hid (rTwoQ_any (h.below T0.b) (h2.below T0.b))
  cases hm : both2 v v2 a d a2 d2 with
  | false =>
    rw [hm] at H1
    simp only [Bool.false_eq_true, if_false] at H1
    unfold QAns
    simp only [Bool.false_eq_true, if_false]
    clear h h2 hm
    unfold QV.v at *
    go_enter Tryz.func22, Tryz.ntmps22
    go_wp2_with fail
    refine H1.out.mono ?_
    rintro e w1 ⟨rfl, hb⟩
    have T1 := T0.next hb
    clear hb T0
    have qx0 := T1.x.c0
    have qx1 := T1.x.c1
    have qx2 := T1.x.c2
    have qy0 := T1.y.c0
    have qy1 := T1.y.c1
    have qy2 := T1.y.c2
    have qr0 := T1.r.c0
    have qr1 := T1.r.c1
    have qr2 := T1.r.c2
    have f0 := T1.r.f 0
    have f1 := T1.r.f 1
    have f2 := T1.r.f 2
    go_wp2
    refine bodyPost_ret (v := .tuple #[QV.zero.v, .int .i64 8]) (by simp [results, Tryz.results22, go_sem, qr0, qr1, qr2, QV.v, QV.zero]) rfl ?_
    exact ⟨rfl, box_below3 (show w.heap.size ≤ w.heap.size + 1 + 1 by omega) T1.b _ _ _⟩
  | true =>
    rw [hm] at H1
    simp only [if_true] at H1
    unfold QAns
    simp only [if_true]
    have hm1 : mayQ v.p a d = true ∧ mayQ v2.p a2 d2 = true := by simpa [both2] using hm
    have n1 := h.num hm1.1
    have n2 := h2.num hm1.2
    have k1 := h.la
    have k2 := h.ld
    have k3 := h2.la
    have k4 := h2.ld
    have P := Lib.hid (fun W (hW : Below w.heap.size w W) => rSumQ_any (w := W) (n1.below hW) (n2.below hW) (by omega) (by omega) (by omega) (by omega))
    generalize qof v.p a d + qof v2.p a2 d2 = q at P ⊢
    clear h h2 hm hm1 n1 n2 k1 k2 k3 k4
    unfold QV.v at *
    go_enter Tryz.func22, Tryz.ntmps22
    go_wp2_with fail
    refine H1.out.mono ?_
    rintro e w1 ⟨rfl, hb⟩
    have T1 := T0.next hb
    clear hb T0
    have qx0 := T1.x.c0
    have qx1 := T1.x.c1
    have qx2 := T1.x.c2
    have qy0 := T1.y.c0
    have qy1 := T1.y.c1
    have qy2 := T1.y.c2
    have qr0 := T1.r.c0
    have qr1 := T1.r.c1
    have qr2 := T1.r.c2
    have f0 := T1.r.f 0
    have f1 := T1.r.f 1
    have f2 := T1.r.f 2
    go_wp2_with fail
    refine (P.out _ T1.b).mono ?_
    rintro e w2 ⟨vr, rfl, o9, hb⟩
    have T2 := T1.next hb
    clear hb
    clear qx0 qx1 qx2 qy0 qy1 qy2 qr0 qr1 qr2 f0 f1 f2
    have qx0 := T2.x.c0
    have qx1 := T2.x.c1
    have qx2 := T2.x.c2
    have qy0 := T2.y.c0
    have qy1 := T2.y.c1
    have qy2 := T2.y.c2
    have qr0 := T2.r.c0
    have qr1 := T2.r.c1
    have qr2 := T2.r.c2
    have f0 := T2.r.f 0
    have f1 := T2.r.f 1
    have f2 := T2.r.f 2
    unfold QV.v
    go_wp2
    refine bodyPost_ret (v := .tuple #[vr.v, .int .i64 0]) (by simp [results, Tryz.results22, go_sem, qr0, qr1, qr2, QV.v]) rfl ?_
    exact ⟨vr, rfl, o9.box3 T1.r.lt (show w.heap.size ≤ w.heap.size + 1 + 1 by omega) _ _ _, box_below3 (show w.heap.size ≤ w.heap.size + 1 + 1 by omega) T2.b _ _ _⟩
set_option maxRecDepth 100000 in
set_option maxHeartbeats 8000000 in
theorem rMulQ_any (h : Q1 w v a d) (h2 : Q1 w v2 a2 d2) : Calls Tryz.prog 25 #[v.v, v2.v] w (QAns w (both2 v v2 a d a2 d2) (qof v.p a d * qof v2.p a2 d2) 8) := by
  have T0 := tri_q w v v2 QV.zero
  have H1 := Lib.hid (rTwoQ_any (h.below T0.b) (h2.below T0.b))
  cases hm : both2 v v2 a d a2 d2 with
  | false =>
    rw [hm] at H1
    simp only [Bool.false_eq_true, if_false] at H1
    unfold QAns
    simp only [Bool.false_eq_true, if_false]
    clear h h2 hm
    unfold QV.v at *
    go_enter Tryz.func25, Tryz.ntmps25
    go_wp2_with fail
    refine H1.out.mono ?_
    rintro e w1 ⟨rfl, hb⟩
    have T1 := T0.next hb
    clear hb T0
    have qx0 := T1.x.c0
    have qx1 := T1.x.c1
    have qx2 := T1.x.c2
    have qy0 := T1.y.c0
    have qy1 := T1.y.c1
    have qy2 := T1.y.c2
    have qr0 := T1.r.c0
    have qr1 := T1.r.c1
    have qr2 := T1.r.c2
    have f0 := T1.r.f 0
    have f1 := T1.r.f 1
    have f2 := T1.r.f 2
    go_wp2
    refine bodyPost_ret (v := .tuple #[QV.zero.v, .int .i64 8]) (by simp [results, Tryz.results25, go_sem, qr0, qr1, qr2, QV.v, QV.zero]) rfl ?_
    exact ⟨rfl, box_below3 (show w.heap.size ≤ w.heap.size + 1 + 1 by omega) T1.b _ _ _⟩
  | true =>
    rw [hm] at H1
    simp only [if_true] at H1
    unfold QAns
    simp only [if_true]
    have hm1 : mayQ v.p a d = true ∧ mayQ v2.p a2 d2 = true := by simpa [both2] using hm
    have n1 := h.num hm1.1
    have n2 := h2.num hm1.2
    have k1 := h.la
    have k2 := h.ld
    have k3 := h2.la
    have k4 := h2.ld
    have P := Lib.hid (fun W (hW : Below w.heap.size w W) => rProdQ_any (w := W) (n1.below hW) (n2.below hW) (by omega) (by omega) (by omega) (by omega))
    generalize qof v.p a d * qof v2.p a2 d2 = q at P ⊢
    clear h h2 hm hm1 n1 n2 k1 k2 k3 k4
    unfold QV.v at *
    go_enter Tryz.func25, Tryz.ntmps25
    go_wp2_with fail
    refine H1.out.mono ?_
    rintro e w1 ⟨rfl, hb⟩
    have T1 := T0.next hb
    clear hb T0
    have qx0 := T1.x.c0
    have qx1 := T1.x.c1
    have qx2 := T1.x.c2
    have qy0 := T1.y.c0
    have qy1 := T1.y.c1
    have qy2 := T1.y.c2
    have qr0 := T1.r.c0
    have qr1 := T1.r.c1
    have qr2 := T1.r.c2
    have f0 := T1.r.f 0
    have f1 := T1.r.f 1
    have f2 := T1.r.f 2
    go_wp2_with fail
    refine (P.out _ T1.b).mono ?_
    rintro e w2 ⟨vr, rfl, o9, hb⟩
    have T2 := T1.next hb
    clear hb
    clear qx0 qx1 qx2 qy0 qy1 qy2 qr0 qr1 qr2 f0 f1 f2
    have qx0 := T2.x.c0
    have qx1 := T2.x.c1
    have qx2 := T2.x.c2
    have qy0 := T2.y.c0
    have qy1 := T2.y.c1
    have qy2 := T2.y.c2
    have qr0 := T2.r.c0
    have qr1 := T2.r.c1
    have qr2 := T2.r.c2
    have f0 := T2.r.f 0
    have f1 := T2.r.f 1
    have f2 := T2.r.f 2
    unfold QV.v
    go_wp2
    refine bodyPost_ret (v := .tuple #[vr.v, .int .i64 0]) (by simp [results, Tryz.results25, go_sem, qr0, qr1, qr2, QV.v]) rfl ?_
    exact ⟨vr, rfl, o9.box3 T1.r.lt (show w.heap.size ≤ w.heap.size + 1 + 1 by omega) _ _ _, box_below3 (show w.heap.size ≤ w.heap.size + 1 + 1 by omega) T2.b _ _ _⟩
end
end Go.Proofs.YtbldimplddiheaaGreatDoor

/- The document's fractions: differences, which is less, the same. -/
namespace Go.Proofs.YtbldimplddiheaaGreatDoor
open Go.RowKit Go.Shelf
set_option linter.unusedVariables false
set_option linter.unusedSimpArgs false

section
variable {A D : Option Addr} {na ca nd cd u : Nat} {a d a2 d2 : List Nat} {w : World} {z : Int} {x y : Rat} {v v2 : QV}
set_option maxRecDepth 100000 in
set_option maxHeartbeats 8000000 in
theorem rSubQ_any (h : Q1 w v a d) (h2 : Q1 w v2 a2 d2) : Calls Tryz.prog 24 #[v.v, v2.v] w (QAns w (both2 v v2 a d a2 d2) (qof v.p a d - qof v2.p a2 d2) 8) := by
  have T0 := tri_q w v v2 QV.zero
  have H1 := Lib.hid (rTwoQ_any (h.below T0.b) (h2.below T0.b))
  cases hm : both2 v v2 a d a2 d2 with
  | false =>
    rw [hm] at H1
    simp only [Bool.false_eq_true, if_false] at H1
    unfold QAns
    simp only [Bool.false_eq_true, if_false]
    clear h h2 hm
    unfold QV.v at *
    go_enter Tryz.func24, Tryz.ntmps24
    go_wp2_with fail
    refine H1.out.mono ?_
    rintro e w1 ⟨rfl, hb⟩
    have T1 := T0.next hb
    clear hb T0
    have qx0 := T1.x.c0
    have qx1 := T1.x.c1
    have qx2 := T1.x.c2
    have qy0 := T1.y.c0
    have qy1 := T1.y.c1
    have qy2 := T1.y.c2
    have qr0 := T1.r.c0
    have qr1 := T1.r.c1
    have qr2 := T1.r.c2
    have f0 := T1.r.f 0
    have f1 := T1.r.f 1
    have f2 := T1.r.f 2
    go_wp2
    refine bodyPost_ret (v := .tuple #[QV.zero.v, .int .i64 8]) (by simp [results, Tryz.results24, go_sem, qr0, qr1, qr2, QV.v, QV.zero]) rfl ?_
    exact ⟨rfl, box_below3 (show w.heap.size ≤ w.heap.size + 1 + 1 by omega) T1.b _ _ _⟩
  | true =>
    rw [hm] at H1
    simp only [if_true] at H1
    unfold QAns
    simp only [if_true]
    have hm1 : mayQ v.p a d = true ∧ mayQ v2.p a2 d2 = true := by simpa [both2] using hm
    have n1 := h.num hm1.1
    have n2 := h2.num hm1.2
    have k1 := h.la
    have k2 := h.ld
    have k3 := h2.la
    have k4 := h2.ld
    have P1 := Lib.hid (fun W (hW : Below w.heap.size w W) => rTurnedQ_any (w := W) (n2.below hW) (by omega))
    have LT : Hid ((limbs (-(qof v2.p a2 d2)).num.natAbs).length ≤ 60) := by show _ ≤ _; rw [Rat.neg_num, Int.natAbs_neg, n2.a.rd.len]; exact k3
    have P2 := Lib.hid (fun W {A3 : Option Addr} {n3 c3 : Nat} (hW : Below w.heap.size w W) (h3 : ZNm W A3 n3 c3 (-(qof v2.p a2 d2)).num) (hk : n3 ≤ 60) => rSumQ_any (w := W) (v2 := QV.mk (decide ((-(qof v2.p a2 d2)).num < 0)) A3 n3 c3 v2.D v2.m v2.d) (y := -(qof v2.p a2 d2)) (n1.below hW) ⟨rfl, h3, by rw [Rat.neg_den]; exact (n2.below hW).d⟩ (by omega) (by omega) hk k4)
    rw [Rat.sub_eq_add_neg]
    unfold QTurn at P1
    generalize (-(qof v2.p a2 d2)).num = z at P1 LT P2
    generalize qof v.p a d + -(qof v2.p a2 d2) = q at P2 ⊢
    clear h h2 hm hm1 n1 n2 k1 k2 k3 k4
    unfold QV.v at *
    go_enter Tryz.func24, Tryz.ntmps24
    go_wp2_with fail
    refine H1.out.mono ?_
    rintro e w1 ⟨rfl, hb⟩
    have T1 := T0.next hb
    clear hb T0
    have qx0 := T1.x.c0
    have qx1 := T1.x.c1
    have qx2 := T1.x.c2
    have qy0 := T1.y.c0
    have qy1 := T1.y.c1
    have qy2 := T1.y.c2
    have qr0 := T1.r.c0
    have qr1 := T1.r.c1
    have qr2 := T1.r.c2
    have f0 := T1.r.f 0
    have f1 := T1.r.f 1
    have f2 := T1.r.f 2
    have HT1 := Lib.hid (T1.next (Below.refl _ _).drew)
    go_wp2_with fail
    go_region_held3 (fun W' => W'.cell? ⟨w.heap.size, 0, none⟩ = some (.bool v.p) ∧ W'.cell? ⟨w.heap.size, 1, none⟩ = some (.slice v.A v.n v.c) ∧ W'.cell? ⟨w.heap.size, 2, none⟩ = some (.slice v.D v.m v.d) ∧ W'.cell? ⟨w.heap.size + 1, 0, none⟩ = some (.bool v2.p) ∧ W'.cell? ⟨w.heap.size + 1, 1, none⟩ = some (.slice v2.A v2.n v2.c) ∧ W'.cell? ⟨w.heap.size + 1, 2, none⟩ = some (.slice v2.D v2.m v2.d)) (first | (refine ⟨?_, ?_, ?_, ?_, ?_, ?_⟩ <;> exact cell_far (cell_far (cell_far (by assumption) (by omega) _) (by omega) _) (by omega) _) | go_keep)
      (first
        | (go_at_call 60; refine (P1.out _ HT1.out.b).mono ?_; rintro e w2 ⟨A3, n3, d3, rfl, o3, hb⟩; have T2 := HT1.out.next hb; clear qx0 qx1 qx2 qy0 qy1 qy2 qr0 qr1 qr2 f0 f1 f2; have qx0 := T2.x.c0; have qx1 := T2.x.c1; have qx2 := T2.x.c2; have qy0 := T2.y.c0; have qy1 := T2.y.c1; have qy2 := T2.y.c2; have qr0 := T2.r.c0; have qr1 := T2.r.c1; have qr2 := T2.r.c2; have f0 := T2.r.f 0; have f1 := T2.r.f 1; have f2 := T2.r.f 2)
        | (go_at_call 58; refine (P2.out _ T2.b o3.nm (by have := o3.rd.2.1; have := LT.out; omega)).mono ?_; rintro e w3 ⟨vr, rfl, o9, hb⟩; have T3 := T2.next hb; clear qx0 qx1 qx2 qy0 qy1 qy2 qr0 qr1 qr2 f0 f1 f2; have qx0 := T3.x.c0; have qx1 := T3.x.c1; have qx2 := T3.x.c2; have qy0 := T3.y.c0; have qy1 := T3.y.c1; have qy2 := T3.y.c2; have qr0 := T3.r.c0; have qr1 := T3.r.c1; have qr2 := T3.r.c2; have f0 := T3.r.f 0; have f1 := T3.r.f 1; have f2 := T3.r.f 2; unfold QV.v))
    all_goals
      go_wp2
      refine bodyPost_ret (v := .tuple #[vr.v, .int .i64 0]) (by simp [results, Tryz.results24, go_sem, qr0, qr1, qr2, QV.v]) rfl ?_
      exact ⟨vr, rfl, o9.box3 T2.r.lt (show w.heap.size ≤ w.heap.size + 1 + 1 by omega) _ _ _, box_below3 (show w.heap.size ≤ w.heap.size + 1 + 1 by omega) T3.b _ _ _⟩
set_option maxRecDepth 100000 in
set_option maxHeartbeats 8000000 in
theorem rComparedQ_any (h1 : QNm w v x) (h2 : QNm w v2 y) (l1 : v.n ≤ 60) (l2 : v.m ≤ 60) (l3 : v2.n ≤ 60) (l4 : v2.m ≤ 60) : Calls Tryz.prog 66 #[v.v, v2.v] w fun e w' => e = .returned (.int .i64 (sgn (x - y).num)) ∧ Below w.heap.size w w' := by
  have T0 := duo_q w v v2
  have HT0 := Lib.hid (T0.next (Below.refl _ _).drew)
  have s1 := h1.s
  have s2 := h2.s
  have B1 : Bd 60 x.num := Bd.of h1.a l1
  have B2 : Bd 60 y.num := Bd.of h2.a l3
  have D1' : Bd 60 (x.den : Int) := by unfold Bd; rw [Int.natAbs_natCast]; exact Nat.lt_of_lt_of_le h1.d.lt (Nat.pow_le_pow_right B64_pos l2)
  have D2' : Bd 60 (y.den : Int) := by unfold Bd; rw [Int.natAbs_natCast]; exact Nat.lt_of_lt_of_le h2.d.lt (Nat.pow_le_pow_right B64_pos l4)
  have P1 := Lib.hid (fun W (hW : Below w.heap.size w W) => rtimes_any (w := W) (h1.a.below hW) (h2.d.below hW) (by omega) (by omega))
  have P2 := Lib.hid (fun W (hW : Below w.heap.size w W) => rtimes_any (w := W) (h2.a.below hW) (h1.d.below hW) (by omega) (by omega))
  unfold zV zv at P1 P2
  rw [← s1] at P1
  rw [← s2] at P2
  rw [← sgn_rat]
  have L1 : Hid (Bd 120 (x.num * (y.den : Int))) := B1.mul D2'
  have L2 : Hid (Bd 120 (y.num * (x.den : Int))) := B2.mul D1'
  have P3 := Lib.hid (fun W {A2 A3 : Option Addr} {n2 c2 n3 c3 : Nat} (h2 : ZNm W A2 n2 c2 (x.num * (y.den : Int))) (h3 : ZNm W A3 n3 c3 (y.num * (x.den : Int))) (k2 : n2 ≤ 400) (k3 : n3 ≤ 400) => rComparedZ_any (w := W) h2 h3 (by omega) (by omega))
  clear h1 h2 l1 l2 l3 l4 s1 s2 B1 B2 D1' D2'
  generalize x.num * (y.den : Int) = z1 at *
  generalize y.num * (x.den : Int) = z2 at *
  generalize sgn (z1 - z2) = n at *
  unfold zV zv QV.v at *
  have qx0 := T0.x.c0
  have qx1 := T0.x.c1
  have qx2 := T0.x.c2
  have qy0 := T0.y.c0
  have qy1 := T0.y.c1
  have qy2 := T0.y.c2
  go_enter Tryz.func66, Tryz.ntmps66
  go_wp2_with fail
  go_region_held3 (fun W' => W'.cell? ⟨w.heap.size, 0, none⟩ = some (.bool v.p) ∧ W'.cell? ⟨w.heap.size, 1, none⟩ = some (.slice v.A v.n v.c) ∧ W'.cell? ⟨w.heap.size, 2, none⟩ = some (.slice v.D v.m v.d) ∧ W'.cell? ⟨w.heap.size + 1, 0, none⟩ = some (.bool v2.p) ∧ W'.cell? ⟨w.heap.size + 1, 1, none⟩ = some (.slice v2.A v2.n v2.c) ∧ W'.cell? ⟨w.heap.size + 1, 2, none⟩ = some (.slice v2.D v2.m v2.d)) (first | (refine ⟨?_, ?_, ?_, ?_, ?_, ?_⟩ <;> exact cell_far (cell_far (cell_far (by assumption) (by omega) _) (by omega) _) (by omega) _) | go_keep)
    (first
      | (go_at_call 62; refine (P2.out _ T1.b).mono ?_; rintro e w2 ⟨A4, n4, d4, rfl, o4, hb⟩; have T2 := T1.next hb; clear qx0 qx1 qx2 qy0 qy1 qy2; have qx0 := T2.x.c0; have qx1 := T2.x.c1; have qx2 := T2.x.c2; have qy0 := T2.y.c0; have qy1 := T2.y.c1; have qy2 := T2.y.c2; have o5 := o3.below hb; unfold zV zv)
      | (go_at_call 62; refine (P1.out _ HT0.out.b).mono ?_; rintro e w1 ⟨A3, n3, d3, rfl, o3, hb⟩; have T1 := HT0.out.next hb; clear qx0 qx1 qx2 qy0 qy1 qy2; have qx0 := T1.x.c0; have qx1 := T1.x.c1; have qx2 := T1.x.c2; have qy0 := T1.y.c0; have qy1 := T1.y.c1; have qy2 := T1.y.c2; unfold zV zv)
      | (go_at_call 96; refine (P3.out _ o5.nm o4.nm (by have := L1.out.len o5; omega) (by have := L2.out.len o4; omega)).mono ?_; rintro e w3 ⟨rfl, hb⟩; have T3 := T2.next hb; clear qx0 qx1 qx2 qy0 qy1 qy2; have qx0 := T3.x.c0; have qx1 := T3.x.c1; have qx2 := T3.x.c2; have qy0 := T3.y.c0; have qy1 := T3.y.c1; have qy2 := T3.y.c2))
  all_goals
    go_wp2
    go_ret
    exact ⟨rfl, T3.b⟩
set_option maxRecDepth 100000 in
set_option maxHeartbeats 4000000 in
theorem rCmpQ_any (h : Q1 w v a d) (h2 : Q1 w v2 a2 d2) : Calls Tryz.prog 27 #[v.v, v2.v] w (IAns w (if both2 v v2 a d a2 d2 then sgn (qof v.p a d - qof v2.p a2 d2).num else 0) (if both2 v v2 a d a2 d2 then 0 else 8)) := by
  have T0 := duo_q w v v2
  have H1 := Lib.hid (fun W (hW : Below w.heap.size w W) => rTwoQ_any (w := W) (h.below hW) (h2.below hW))
  cases hm : both2 v v2 a d a2 d2 with
  | false =>
    rw [hm] at H1
    simp only [Bool.false_eq_true, if_false] at H1 ⊢
    clear h h2 hm
    unfold QV.v at *
    go_enter Tryz.func27, Tryz.ntmps27
    go_wp2_with fail
    refine (H1.out _ T0.b).mono ?_
    rintro e w1 ⟨rfl, hb⟩
    have T1 := T0.next hb
    clear hb T0
    have qx0 := T1.x.c0
    have qx1 := T1.x.c1
    have qx2 := T1.x.c2
    have qy0 := T1.y.c0
    have qy1 := T1.y.c1
    have qy2 := T1.y.c2
    go_wp2
    go_ret2
    exact ⟨rfl, T1.b⟩
  | true =>
    rw [hm] at H1
    simp only [if_true] at H1 ⊢
    have hm1 : mayQ v.p a d = true ∧ mayQ v2.p a2 d2 = true := by simpa [both2] using hm
    have n1 := h.num hm1.1
    have n2 := h2.num hm1.2
    have k1 := h.la
    have k2 := h.ld
    have k3 := h2.la
    have k4 := h2.ld
    have P := Lib.hid (fun W (hW : Below w.heap.size w W) => rComparedQ_any (w := W) (n1.below hW) (n2.below hW) (by omega) (by omega) (by omega) (by omega))
    generalize sgn (qof v.p a d - qof v2.p a2 d2).num = n at P ⊢
    clear h h2 hm hm1 n1 n2 k1 k2 k3 k4
    unfold QV.v at *
    go_enter Tryz.func27, Tryz.ntmps27
    go_wp2_with fail
    refine (H1.out _ T0.b).mono ?_
    rintro e w1 ⟨rfl, hb⟩
    have T1 := T0.next hb
    clear hb T0
    have qx0 := T1.x.c0
    have qx1 := T1.x.c1
    have qx2 := T1.x.c2
    have qy0 := T1.y.c0
    have qy1 := T1.y.c1
    have qy2 := T1.y.c2
    go_wp2_with fail
    refine (P.out _ T1.b).mono ?_
    rintro e w2 ⟨rfl, hb⟩
    have T2 := T1.next hb
    clear hb
    go_wp2
    go_ret2
    exact ⟨rfl, T2.b⟩
set_option maxRecDepth 100000 in
set_option maxHeartbeats 4000000 in
theorem rCheckQ_any (h : Q1 w v a d) : Calls Tryz.prog 33 #[v.v] w fun e w' => e = .returned (.int .i64 (if mayQ v.p a d then 0 else 8)) ∧ Below w.heap.size w w' := by
  have T0 := uno_q w v
  have H1 := Lib.hid (fun W (hW : Below w.heap.size w W) => rMayQ_any (w := W) (h.below hW))
  cases hm : mayQ v.p a d with
  | false =>
    rw [hm] at H1
    simp only [Bool.false_eq_true, if_false]
    clear h hm
    unfold QV.v at *
    go_enter Tryz.func33, Tryz.ntmps33
    go_wp2_with fail
    refine (H1.out _ T0.b).mono ?_
    rintro e w1 ⟨rfl, hb⟩
    have T1 := T0.next hb
    clear hb T0
    go_wp2
    go_ret
    exact ⟨rfl, T1.b⟩
  | true =>
    rw [hm] at H1
    simp only [if_true]
    clear h hm
    unfold QV.v at *
    go_enter Tryz.func33, Tryz.ntmps33
    go_wp2_with fail
    refine (H1.out _ T0.b).mono ?_
    rintro e w1 ⟨rfl, hb⟩
    have T1 := T0.next hb
    clear hb T0
    go_wp2
    go_ret
    exact ⟨rfl, T1.b⟩
set_option maxRecDepth 100000 in
set_option maxHeartbeats 4000000 in
theorem rGreat_any (n : Int) : Calls Tryz.prog 20 #[v.v, .int .i64 n] w fun e w' => e = .returned (.bool (decide (n < (v.n : Int)) || decide (n < (v.m : Int)))) ∧ Below w.heap.size w w' := by
  have T0 := uno_q w v
  unfold QV.v at *
  by_cases k1 : n < (v.n : Int)
  · go_enter Tryz.func20, Tryz.ntmps20
    go_wp2
    go_ret
    exact ⟨by simp <;> omega, T0.b⟩
  · by_cases k2 : n < (v.m : Int)
    · go_enter Tryz.func20, Tryz.ntmps20
      go_wp2
      go_ret
      exact ⟨by simp <;> omega, T0.b⟩
    · go_enter Tryz.func20, Tryz.ntmps20
      go_wp2
      go_ret
      exact ⟨by simp <;> omega, T0.b⟩
set_option maxRecDepth 100000 in
set_option maxHeartbeats 4000000 in
theorem rSameQ_any (h : Q1 w v a d) (h2 : Q1 w v2 a2 d2) : Calls Tryz.prog 28 #[v.v, v2.v] w fun e w' => e = .returned (.bool (decide ((v.p = v2.p ∧ a = a2) ∧ d = d2))) ∧ Below w.heap.size w w' := by
  have T0 := duo_q w v v2
  have H1 := Lib.hid (fun W (hW : Below w.heap.size w W) => rSameZ_any v.A v2.A v.n v.c v2.n v2.c v.p v2.p a a2 W ⟨(h.below hW).ra, (h2.below hW).ra, by have := h.la; omega, by have := h2.la; omega, h.ca1, h.ca2, h2.ca1, h2.ca2⟩)
  have H2 := Lib.hid (fun W (hW : Below w.heap.size w W) => same_any v.D v2.D v.m v.d v2.m v2.d d d2 W (h.below hW).rd (h2.below hW).rd (by have := h.ld; omega) (by have := h2.ld; omega))
  by_cases e1 : v.p = v2.p ∧ a = a2
  · have HR : Hid (decide ((v.p = v2.p ∧ a = a2) ∧ d = d2) = decide (d = d2)) := by show _ = _; simp [e1]
    rw [decide_eq_true e1] at H1
    rw [HR.out]
    generalize decide (d = d2) = s at H2 ⊢
    clear h h2 HR e1
    unfold QV.v zv at *
    go_enter Tryz.func28, Tryz.ntmps28
    go_wp2_with fail
    refine (H1.out _ T0.b).mono ?_
    rintro e w1 ⟨rfl, hb⟩
    have T1 := T0.next hb
    clear hb T0
    have qx0 := T1.x.c0
    have qx1 := T1.x.c1
    have qx2 := T1.x.c2
    have qy0 := T1.y.c0
    have qy1 := T1.y.c1
    have qy2 := T1.y.c2
    go_wp2_with fail
    refine (H2.out _ T1.b).mono ?_
    rintro e w2 ⟨rfl, hb⟩
    have T2 := T1.next hb
    clear hb
    go_wp2
    go_ret
    exact ⟨rfl, T2.b⟩
  · have HR : Hid (decide ((v.p = v2.p ∧ a = a2) ∧ d = d2) = false) := by show _ = _; simp [e1]
    rw [decide_eq_false e1] at H1
    rw [HR.out]
    clear h h2 HR e1
    unfold QV.v zv at *
    go_enter Tryz.func28, Tryz.ntmps28
    go_wp2_with fail
    refine (H1.out _ T0.b).mono ?_
    rintro e w1 ⟨rfl, hb⟩
    have T1 := T0.next hb
    clear hb T0
    have qx0 := T1.x.c0
    have qx1 := T1.x.c1
    have qx2 := T1.x.c2
    have qy0 := T1.y.c0
    have qy1 := T1.y.c1
    have qy2 := T1.y.c2
    go_wp2
    go_ret
    exact ⟨rfl, T1.b⟩
end
end Go.Proofs.YtbldimplddiheaaGreatDoor
