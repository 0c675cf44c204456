import Derived.Test.YtjipdfebehcggaaZZRing
/- ZOrder. -/
/- The law WholeOrder. -/
namespace Go.Proofs.Ytjipdfebehcggaa
open Go.RowKit Go.Shelf
set_option linter.unusedVariables false
set_option linter.unusedSimpArgs false

set_option maxRecDepth 100000 in
set_option maxHeartbeats 20000000 in
theorem orderZ_ok (A A2 A3 : Option Addr) (na ca nb cb nc cc : Nat) (z y x : Int) (w : World) (hz : ZNm w A na ca z) (hy : ZNm w A2 nb cb y) (hx : ZNm w A3 nc cc x) (l1 : na ≤ 50) (l2 : nb ≤ 50) (l3 : nc ≤ 50) :
    Calls Try.prog 5 #[zV z A na ca, zV y A2 nb cb, zV x A3 nc cc] w fun e w' => e = .returned (.bool true) ∧ Below w.heap.size w w' := by
  have Lz : Hid (Bd 50 z) := Bd.of hz l1
  have Ly : Hid (Bd 50 y) := Bd.of hy l2
  have Lx : Hid (Bd 50 x) := Bd.of hx l3
  obtain ⟨d, ed⟩ : ∃ s : Int, s = z - y := ⟨_, rfl⟩
  have Ld : Hid (Bd 51 d) := by show Bd _ _; rw [ed]; exact Lz.out.sub Ly.out
  have Ed := Lib.hid ed
  clear ed
  obtain ⟨u1, eu1⟩ : ∃ s : Int, s = z + x := ⟨_, rfl⟩
  have Lu1 : Hid (Bd 51 u1) := by show Bd _ _; rw [eu1]; exact Lz.out.add Lx.out
  have Eu1 := Lib.hid eu1
  clear eu1
  obtain ⟨u2, eu2⟩ : ∃ s : Int, s = y + x := ⟨_, rfl⟩
  have Lu2 : Hid (Bd 51 u2) := by show Bd _ _; rw [eu2]; exact Ly.out.add Lx.out
  have Eu2 := Lib.hid eu2
  clear eu2
  obtain ⟨u, eu⟩ : ∃ s : Int, s = z * x := ⟨_, rfl⟩
  have Lu : Hid (Bd 100 u) := by show Bd _ _; rw [eu]; exact Lz.out.mul Lx.out
  have Eu := Lib.hid eu
  clear eu
  obtain ⟨v, ev⟩ : ∃ s : Int, s = y * x := ⟨_, rfl⟩
  have Lv : Hid (Bd 100 v) := by show Bd _ _; rw [ev]; exact Ly.out.mul Lx.out
  have Ev := Lib.hid ev
  clear ev
  obtain ⟨n, hn⟩ : ∃ n : Int, n = sgn (z - y) := ⟨_, rfl⟩
  obtain ⟨g, hg⟩ : ∃ n : Int, n = sgn x := ⟨_, rfl⟩
  obtain ⟨o, ho⟩ : ∃ n : Int, n = sgn (y - z) := ⟨_, rfl⟩
  obtain ⟨f, hf⟩ : ∃ n : Int, n = sgn (u - v) := ⟨_, rfl⟩
  have hm : sgn d = n := by rw [hn, Ed.out]
  have hk : sgn (u1 - u2) = n := by rw [hn, Eu1.out, Eu2.out]; congr 1; omega
  have Q1 : o = -n := by rw [ho, hn, ← sgn_neg]; congr 1; omega
  have Q2 : f = n * g := by rw [hf, hn, hg, ← sgn_mul, Eu.out, Ev.out, Int.sub_mul]
  have Q3 : decide (z = y) = decide (n = 0) := by rw [decide_eq_decide, hn, sgn_zero]; omega
  have hn1 := sgn_one (z - y)
  rw [← hn] at hn1
  have hg1 := sgn_one x
  rw [← hg] at hg1
  have W1 : IntKind.i64.wrap (-n) = -n := by rw [IntKind.wrap_i64]; omega
  have W2 : IntKind.i64.wrap (n * g) = n * g := by rcases hn1 with h | h | h <;> rcases hg1 with h2 | h2 | h2 <;> rw [h, h2] <;> rfl
  have HM := Lib.hid hm
  have HK := Lib.hid hk
  have HN := Lib.hid hn
  have HG := Lib.hid hg
  have HO := Lib.hid ho
  have HF := Lib.hid hf
  have HQ1 := Lib.hid Q1
  have HQ2 := Lib.hid Q2
  have HQ3 := Lib.hid Q3
  have HW1 := Lib.hid W1
  have HW2 := Lib.hid W2
  have Hn1 := Lib.hid hn1
  have Hg1 := Lib.hid hg1
  clear hm hk hn hg ho hf Q1 Q2 Q3 W1 W2 hn1 hg1
  have K0 := held_nil w
  have D0 := Below.refl w.heap.size w
  have K1 := (K0.next (bxb _ (zo (decide (z < 0)) A na ca))).cons (It.param (hz) (show na ≤ 400 by omega))
  have D1 := D0.alloc (Nat.le_refl _) (zo (decide (z < 0)) A na ca)
  have K2 := (K1.next (bxb _ (zo (decide (y < 0)) A2 nb cb))).cons (It.param (hy.below D1) (show nb ≤ 400 by omega))
  have D2 := below_then D1 (bxb _ (zo (decide (y < 0)) A2 nb cb))
  have K3 := (K2.next (bxb _ (zo (decide (x < 0)) A3 nc cc))).cons (It.param (hx.below D2) (show nc ≤ 400 by omega))
  have D3 := below_then D2 (bxb _ (zo (decide (x < 0)) A3 nc cc))
  simp only [World.size_alloc] at K3
  have HH0 := Lib.hid K3
  have HB0 := Lib.hid D3
  clear K0 K1 K2 K3
  clear D0 D1 D2 D3
  clear hz hy hx
  unfold zV zv
  go_enter Try.func5, Try.ntmps5
  go_wp2_with fail
  refine (zalive_any _).mono ?_
  rintro e v1_ ⟨rfl, hb⟩
  have HH1 := Lib.hid (HH0.out.next hb)
  have HB1 := Lib.hid (below_then HB0.out hb)
  clear hb HH0 HB0
  have xz0 := (HH1.out _ (.tail _ (.tail _ (.head _)))).b.c0
  have xz1 := (HH1.out _ (.tail _ (.tail _ (.head _)))).b.c1
  have xy0 := (HH1.out _ (.tail _ (.head _))).b.c0
  have xy1 := (HH1.out _ (.tail _ (.head _))).b.c1
  have xx0 := (HH1.out _ (.head _)).b.c0
  have xx1 := (HH1.out _ (.head _)).b.c1
  go_wp2_with fail
  refine (HN.out ▸ cmpN (HH1.out _ (.tail _ (.tail _ (.head _)))).m (HH1.out _ (.tail _ (.head _))).m (HH1.out _ (.tail _ (.tail _ (.head _)))).l (HH1.out _ (.tail _ (.head _))).l).mono ?_
  rintro e v2_ ⟨rfl, hb⟩
  have HH2 := Lib.hid (HH1.out.next hb)
  have HB2 := Lib.hid (below_then HB1.out hb)
  clear hb HH1 HB1
  clear xz0 xz1 xy0 xy1 xx0 xx1
  have xz0 := (HH2.out _ (.tail _ (.tail _ (.head _)))).b.c0
  have xz1 := (HH2.out _ (.tail _ (.tail _ (.head _)))).b.c1
  have xy0 := (HH2.out _ (.tail _ (.head _))).b.c0
  have xy1 := (HH2.out _ (.tail _ (.head _))).b.c1
  go_wp2_with fail
  refine (Ed.out ▸ subN (HH2.out _ (.tail _ (.tail _ (.head _)))).m (HH2.out _ (.tail _ (.head _))).m (HH2.out _ (.tail _ (.tail _ (.head _)))).l (HH2.out _ (.tail _ (.head _))).l).mono ?_
  rintro e v3_ ⟨N3, n3, d3, rfl, o3, hb⟩
  have HL := Lib.hid (Ld.out.len o3)
  have HH3 := Lib.hid ((HH2.out.next (below_then hb (bxb _ (zo (decide (d < 0)) N3 n3 d3)))).cons (It.fresh o3 (by have := HL.out; omega)))
  have HB3 := Lib.hid (below_then HB2.out (below_then hb (bxb _ (zo (decide (d < 0)) N3 n3 d3))))
  clear hb o3 HL HH2 HB2
  unfold zV zv
  clear xz0 xz1 xy0 xy1
  have xx0 := (HH3.out _ (.tail _ (.head _))).b.c0
  have xx1 := (HH3.out _ (.tail _ (.head _))).b.c1
  go_wp2_with fail
  refine (HG.out ▸ signN (HH3.out _ (.tail _ (.head _))).m (HH3.out _ (.tail _ (.head _))).l).mono ?_
  rintro e v4_ ⟨rfl, hb⟩
  have HH4 := Lib.hid (HH3.out.next hb)
  have HB4 := Lib.hid (below_then HB3.out hb)
  clear hb HH3 HB3
  clear xx0 xx1
  have xd0 := (HH4.out _ (.head _)).b.c0
  have xd1 := (HH4.out _ (.head _)).b.c1
  go_wp2_with fail
  refine (HM.out ▸ signN (HH4.out _ (.head _)).m (HH4.out _ (.head _)).l).mono ?_
  rintro e v5_ ⟨rfl, hb⟩
  have HH5 := Lib.hid (HH4.out.next hb)
  have HB5 := Lib.hid (below_then HB4.out hb)
  clear hb HH4 HB4
  clear xd0 xd1
  have xz0 := (HH5.out _ (.tail _ (.tail _ (.tail _ (.head _))))).b.c0
  have xz1 := (HH5.out _ (.tail _ (.tail _ (.tail _ (.head _))))).b.c1
  have xy0 := (HH5.out _ (.tail _ (.tail _ (.head _)))).b.c0
  have xy1 := (HH5.out _ (.tail _ (.tail _ (.head _)))).b.c1
  go_wp2_with fail
  refine (HO.out ▸ cmpN (HH5.out _ (.tail _ (.tail _ (.head _)))).m (HH5.out _ (.tail _ (.tail _ (.tail _ (.head _))))).m (HH5.out _ (.tail _ (.tail _ (.head _)))).l (HH5.out _ (.tail _ (.tail _ (.tail _ (.head _))))).l).mono ?_
  rintro e v6_ ⟨rfl, hb⟩
  have HH6 := Lib.hid (HH5.out.next hb)
  have HB6 := Lib.hid (below_then HB5.out hb)
  clear hb HH5 HB5
  clear xz0 xz1 xy0 xy1
  have xz0 := (HH6.out _ (.tail _ (.tail _ (.tail _ (.head _))))).b.c0
  have xz1 := (HH6.out _ (.tail _ (.tail _ (.tail _ (.head _))))).b.c1
  have xx0 := (HH6.out _ (.tail _ (.head _))).b.c0
  have xx1 := (HH6.out _ (.tail _ (.head _))).b.c1
  go_wp2_with fail
  refine (Eu1.out ▸ addN (HH6.out _ (.tail _ (.tail _ (.tail _ (.head _))))).m (HH6.out _ (.tail _ (.head _))).m (HH6.out _ (.tail _ (.tail _ (.tail _ (.head _))))).l (HH6.out _ (.tail _ (.head _))).l).mono ?_
  rintro e v7_ ⟨N7, n7, d7, rfl, o7, hb⟩
  have HL := Lib.hid (Lu1.out.len o7)
  have HH7 := Lib.hid ((HH6.out.next (below_then hb (bxb _ (zo (decide (u1 < 0)) N7 n7 d7)))).cons (It.fresh o7 (by have := HL.out; omega)))
  have HB7 := Lib.hid (below_then HB6.out (below_then hb (bxb _ (zo (decide (u1 < 0)) N7 n7 d7))))
  clear hb o7 HL HH6 HB6
  unfold zV zv
  clear xz0 xz1 xx0 xx1
  have xy0 := (HH7.out _ (.tail _ (.tail _ (.tail _ (.head _))))).b.c0
  have xy1 := (HH7.out _ (.tail _ (.tail _ (.tail _ (.head _))))).b.c1
  have xx0 := (HH7.out _ (.tail _ (.tail _ (.head _)))).b.c0
  have xx1 := (HH7.out _ (.tail _ (.tail _ (.head _)))).b.c1
  go_wp2_with fail
  refine (Eu2.out ▸ addN (HH7.out _ (.tail _ (.tail _ (.tail _ (.head _))))).m (HH7.out _ (.tail _ (.tail _ (.head _)))).m (HH7.out _ (.tail _ (.tail _ (.tail _ (.head _))))).l (HH7.out _ (.tail _ (.tail _ (.head _)))).l).mono ?_
  rintro e v8_ ⟨N8, n8, d8, rfl, o8, hb⟩
  have HL := Lib.hid (Lu2.out.len o8)
  have HH8 := Lib.hid ((HH7.out.next (below_then hb (bxb _ (zo (decide (u2 < 0)) N8 n8 d8)))).cons (It.fresh o8 (by have := HL.out; omega)))
  have HB8 := Lib.hid (below_then HB7.out (below_then hb (bxb _ (zo (decide (u2 < 0)) N8 n8 d8))))
  clear hb o8 HL HH7 HB7
  unfold zV zv
  clear xy0 xy1 xx0 xx1
  have xu10 := (HH8.out _ (.tail _ (.head _))).b.c0
  have xu11 := (HH8.out _ (.tail _ (.head _))).b.c1
  have xu20 := (HH8.out _ (.head _)).b.c0
  have xu21 := (HH8.out _ (.head _)).b.c1
  go_wp2_with fail
  refine (HK.out ▸ cmpN (HH8.out _ (.tail _ (.head _))).m (HH8.out _ (.head _)).m (HH8.out _ (.tail _ (.head _))).l (HH8.out _ (.head _)).l).mono ?_
  rintro e v9_ ⟨rfl, hb⟩
  have HH9 := Lib.hid (HH8.out.next hb)
  have HB9 := Lib.hid (below_then HB8.out hb)
  clear hb HH8 HB8
  clear xu10 xu11 xu20 xu21
  have xz0 := (HH9.out _ (.tail _ (.tail _ (.tail _ (.tail _ (.tail _ (.head _))))))).b.c0
  have xz1 := (HH9.out _ (.tail _ (.tail _ (.tail _ (.tail _ (.tail _ (.head _))))))).b.c1
  have xx0 := (HH9.out _ (.tail _ (.tail _ (.tail _ (.head _))))).b.c0
  have xx1 := (HH9.out _ (.tail _ (.tail _ (.tail _ (.head _))))).b.c1
  go_wp2_with fail
  refine (Eu.out ▸ mulN (HH9.out _ (.tail _ (.tail _ (.tail _ (.tail _ (.tail _ (.head _))))))).m (HH9.out _ (.tail _ (.tail _ (.tail _ (.head _))))).m (HH9.out _ (.tail _ (.tail _ (.tail _ (.tail _ (.tail _ (.head _))))))).l (HH9.out _ (.tail _ (.tail _ (.tail _ (.head _))))).l).mono ?_
  rintro e v10_ ⟨N10, n10, d10, rfl, o10, hb⟩
  have HL := Lib.hid (Lu.out.len o10)
  have HH10 := Lib.hid ((HH9.out.next (below_then hb (bxb _ (zo (decide (u < 0)) N10 n10 d10)))).cons (It.fresh o10 (by have := HL.out; omega)))
  have HB10 := Lib.hid (below_then HB9.out (below_then hb (bxb _ (zo (decide (u < 0)) N10 n10 d10))))
  clear hb o10 HL HH9 HB9
  unfold zV zv
  clear xz0 xz1 xx0 xx1
  have xy0 := (HH10.out _ (.tail _ (.tail _ (.tail _ (.tail _ (.tail _ (.head _))))))).b.c0
  have xy1 := (HH10.out _ (.tail _ (.tail _ (.tail _ (.tail _ (.tail _ (.head _))))))).b.c1
  have xx0 := (HH10.out _ (.tail _ (.tail _ (.tail _ (.tail _ (.head _)))))).b.c0
  have xx1 := (HH10.out _ (.tail _ (.tail _ (.tail _ (.tail _ (.head _)))))).b.c1
  go_wp2_with fail
  refine (Ev.out ▸ mulN (HH10.out _ (.tail _ (.tail _ (.tail _ (.tail _ (.tail _ (.head _))))))).m (HH10.out _ (.tail _ (.tail _ (.tail _ (.tail _ (.head _)))))).m (HH10.out _ (.tail _ (.tail _ (.tail _ (.tail _ (.tail _ (.head _))))))).l (HH10.out _ (.tail _ (.tail _ (.tail _ (.tail _ (.head _)))))).l).mono ?_
  rintro e v11_ ⟨N11, n11, d11, rfl, o11, hb⟩
  have HL := Lib.hid (Lv.out.len o11)
  have HH11 := Lib.hid ((HH10.out.next (below_then hb (bxb _ (zo (decide (v < 0)) N11 n11 d11)))).cons (It.fresh o11 (by have := HL.out; omega)))
  have HB11 := Lib.hid (below_then HB10.out (below_then hb (bxb _ (zo (decide (v < 0)) N11 n11 d11))))
  clear hb o11 HL HH10 HB10
  unfold zV zv
  clear xy0 xy1 xx0 xx1
  have xu0 := (HH11.out _ (.tail _ (.head _))).b.c0
  have xu1 := (HH11.out _ (.tail _ (.head _))).b.c1
  have xv0 := (HH11.out _ (.head _)).b.c0
  have xv1 := (HH11.out _ (.head _)).b.c1
  go_wp2_with fail
  refine (HF.out ▸ cmpN (HH11.out _ (.tail _ (.head _))).m (HH11.out _ (.head _)).m (HH11.out _ (.tail _ (.head _))).l (HH11.out _ (.head _)).l).mono ?_
  rintro e v12_ ⟨rfl, hb⟩
  have HH12 := Lib.hid (HH11.out.next hb)
  have HB12 := Lib.hid (below_then HB11.out hb)
  clear hb HH11 HB11
  clear xu0 xu1 xv0 xv1
  have xz0 := (HH12.out _ (.tail _ (.tail _ (.tail _ (.tail _ (.tail _ (.tail _ (.tail _ (.head _))))))))).b.c0
  have xz1 := (HH12.out _ (.tail _ (.tail _ (.tail _ (.tail _ (.tail _ (.tail _ (.tail _ (.head _))))))))).b.c1
  have xy0 := (HH12.out _ (.tail _ (.tail _ (.tail _ (.tail _ (.tail _ (.tail _ (.head _)))))))).b.c0
  have xy1 := (HH12.out _ (.tail _ (.tail _ (.tail _ (.tail _ (.tail _ (.tail _ (.head _)))))))).b.c1
  have W1 : IntKind.i64.wrap (-n) = o := HW1.out.trans HQ1.out.symm
  have W2 : IntKind.i64.wrap (n * g) = f := HW2.out.trans HQ2.out.symm
  obtain ⟨s, hs⟩ : ∃ s : Bool, (n == 0) = s := ⟨_, rfl⟩
  have hs2 : decide (n = 0) = s := by rw [← hs]; rfl
  have HS := Lib.hid (HQ3.out.trans hs2)
  have hs3 : (n = 0) = (s = true) := by rw [← hs2]; simp
  clear hs2 hs3
  go_wp2_with fail
  refine (HS.out ▸ sameN (HH12.out _ (.tail _ (.tail _ (.tail _ (.tail _ (.tail _ (.tail _ (.tail _ (.head _))))))))).m (HH12.out _ (.tail _ (.tail _ (.tail _ (.tail _ (.tail _ (.tail _ (.head _)))))))).m (HH12.out _ (.tail _ (.tail _ (.tail _ (.tail _ (.tail _ (.tail _ (.tail _ (.head _))))))))).l (HH12.out _ (.tail _ (.tail _ (.tail _ (.tail _ (.tail _ (.tail _ (.head _)))))))).l).mono ?_
  rintro e v13_ ⟨rfl, hb⟩
  have HH13 := Lib.hid (HH12.out.next hb)
  have HB13 := Lib.hid (below_then HB12.out hb)
  clear hb HH12 HB12
  clear xz0 xz1 xy0 xy1
  go_wp2
  go_ret
  exact ⟨by simp, HB13.out⟩
section
variable (A A2 A3 : Option Addr) (na ca nb cb nc cc : Nat) (p q r : Bool) (a b c : List Nat) (w : World)
set_option maxRecDepth 100000 in
set_option maxHeartbeats 4000000 in
theorem orderZ_bad (h : Z2 w A A2 na ca nb cb a b) (h3 : Z1 w A3 nc cc c) (l1 : na ≤ 50) (l2 : nb ≤ 50) (l3 : nc ≤ 50) (hm : ¬ (mayZ p a = true ∧ mayZ q b = true ∧ mayZ r c = true)) :
    Calls Try.prog 5 #[zv p A na ca, zv q A2 nb cb, zv r A3 nc cc] w fun e w' => e = .returned (.bool true) ∧ Below w.heap.size w w' := by
  have T0 := thr_box w p A na ca q A2 nb cb r A3 nc cc
  have HC := Lib.hid (fun W (hW : Below w.heap.size w W) => cmpZ_any (p := p) (q := q) (w := W) (h.below hW))
  have HA := Lib.hid (fun W (hW : Below w.heap.size w W) => subZ (p := p) (q := q) (w := W) (h.below hW))
  have HG := Lib.hid (fun W (hW : Below w.heap.size w W) => signZ_any (p := r) (w := W) (h3.below hW))
  generalize twoZ p a q b (zof p a - zof q b) = s at HA
  generalize twoZ p a q b (sgn (zof p a - zof q b)) = n at HC
  generalize oneZ r c (sgn (zof r c)) = g at HG
  clear h h3
  unfold zv IAns at *
  cases e1 : twoM p a q b with
  | false =>
    rw [twoE_no e1] at HC HA
    generalize oneE r c = E at HG
    clear e1 hm
    go_enter Try.func5, Try.ntmps5
    go_wp2_with fail
    refine (zalive_any _).mono ?_
    rintro e w1 ⟨rfl, hb⟩
    have T1 := T0.next hb
    clear hb T0
    have xa0 := T1.t.x.c0
    have xa1 := T1.t.x.c1
    have xb0 := T1.t.y.c0
    have xb1 := T1.t.y.c1
    have xc0 := T1.z.c0
    have xc1 := T1.z.c1
    go_wp2_with fail
    refine (HC.out _ T1.t.b).mono ?_
    rintro e w2 ⟨rfl, hb⟩
    have T2 := T1.next hb
    clear hb T1
    clear xa0 xa1 xb0 xb1 xc0 xc1
    have xa0 := T2.t.x.c0
    have xa1 := T2.t.x.c1
    have xb0 := T2.t.y.c0
    have xb1 := T2.t.y.c1
    have xc0 := T2.z.c0
    have xc1 := T2.z.c1
    go_wp2_with fail
    refine (HA.out _ T2.t.b).mono ?_
    rintro e w3 ⟨A9, k9, c9, rfl, o9, hb⟩
    have T3 := T2.next (below_then hb (bxb _ (zo (decide (s < 0)) A9 k9 c9)))
    clear hb o9 T2
    clear xa0 xa1 xb0 xb1 xc0 xc1
    have xa0 := T3.t.x.c0
    have xa1 := T3.t.x.c1
    have xb0 := T3.t.y.c0
    have xb1 := T3.t.y.c1
    have xc0 := T3.z.c0
    have xc1 := T3.z.c1
    unfold zV zv
    go_wp2_with fail
    refine (HG.out _ T3.t.b).mono ?_
    rintro e w4 ⟨rfl, hb⟩
    have T4 := T3.next hb
    clear hb T3
    clear xa0 xa1 xb0 xb1 xc0 xc1
    have xa0 := T4.t.x.c0
    have xa1 := T4.t.x.c1
    have xb0 := T4.t.y.c0
    have xb1 := T4.t.y.c1
    have xc0 := T4.z.c0
    have xc1 := T4.z.c1
    go_wp2
    go_ret
    exact ⟨by simp, T4.t.b⟩
  | true =>
    rw [twoE_ok e1] at HC HA
    have e3 : mayZ r c = false := by
      cases e3 : mayZ r c with
      | false => rfl
      | true => exact absurd ⟨(twoM_iff.1 e1).1, (twoM_iff.1 e1).2, e3⟩ hm
    rw [oneE_no e3] at HG
    clear e1 e3 hm
    go_enter Try.func5, Try.ntmps5
    go_wp2_with fail
    refine (zalive_any _).mono ?_
    rintro e w1 ⟨rfl, hb⟩
    have T1 := T0.next hb
    clear hb T0
    have xa0 := T1.t.x.c0
    have xa1 := T1.t.x.c1
    have xb0 := T1.t.y.c0
    have xb1 := T1.t.y.c1
    have xc0 := T1.z.c0
    have xc1 := T1.z.c1
    go_wp2_with fail
    refine (HC.out _ T1.t.b).mono ?_
    rintro e w2 ⟨rfl, hb⟩
    have T2 := T1.next hb
    clear hb T1
    clear xa0 xa1 xb0 xb1 xc0 xc1
    have xa0 := T2.t.x.c0
    have xa1 := T2.t.x.c1
    have xb0 := T2.t.y.c0
    have xb1 := T2.t.y.c1
    have xc0 := T2.z.c0
    have xc1 := T2.z.c1
    go_wp2_with fail
    refine (HA.out _ T2.t.b).mono ?_
    rintro e w3 ⟨A9, k9, c9, rfl, o9, hb⟩
    have T3 := T2.next (below_then hb (bxb _ (zo (decide (s < 0)) A9 k9 c9)))
    clear hb o9 T2
    clear xa0 xa1 xb0 xb1 xc0 xc1
    have xa0 := T3.t.x.c0
    have xa1 := T3.t.x.c1
    have xb0 := T3.t.y.c0
    have xb1 := T3.t.y.c1
    have xc0 := T3.z.c0
    have xc1 := T3.z.c1
    unfold zV zv
    go_wp2_with fail
    refine (HG.out _ T3.t.b).mono ?_
    rintro e w4 ⟨rfl, hb⟩
    have T4 := T3.next hb
    clear hb T3
    clear xa0 xa1 xb0 xb1 xc0 xc1
    have xa0 := T4.t.x.c0
    have xa1 := T4.t.x.c1
    have xb0 := T4.t.y.c0
    have xb1 := T4.t.y.c1
    have xc0 := T4.z.c0
    have xc1 := T4.z.c1
    go_wp2
    go_ret
    exact ⟨by simp, T4.t.b⟩
set_option maxRecDepth 100000 in
set_option maxHeartbeats 4000000 in
theorem orderZ_long (hl : 50 < na ∨ 50 < nb ∨ 50 < nc) (m1 : na ≤ 9223372036854775807) (m2 : nb ≤ 9223372036854775807) (m3 : nc ≤ 9223372036854775807) :
    Calls Try.prog 5 #[zv p A na ca, zv q A2 nb cb, zv r A3 nc cc] w fun e w' => e = .returned (.bool true) ∧ Below w.heap.size w w' := by
  have T0 := thr_box w p A na ca q A2 nb cb r A3 nc cc
  unfold zv at *
  by_cases k1 : 50 < na
  · clear hl
    go_enter Try.func5, Try.ntmps5
    go_wp2_with fail
    refine (zalive_any _).mono ?_
    rintro e w1 ⟨rfl, hb⟩
    have T1 := T0.next hb
    clear hb T0
    have xa0 := T1.t.x.c0
    have xa1 := T1.t.x.c1
    have xb0 := T1.t.y.c0
    have xb1 := T1.t.y.c1
    have xc0 := T1.z.c0
    have xc1 := T1.z.c1
    go_wp2
    go_ret
    exact ⟨rfl, T1.t.b⟩
  · by_cases k2 : 50 < nb
    · clear hl
      go_enter Try.func5, Try.ntmps5
      go_wp2_with fail
      refine (zalive_any _).mono ?_
      rintro e w1 ⟨rfl, hb⟩
      have T1 := T0.next hb
      clear hb T0
      have xa0 := T1.t.x.c0
      have xa1 := T1.t.x.c1
      have xb0 := T1.t.y.c0
      have xb1 := T1.t.y.c1
      have xc0 := T1.z.c0
      have xc1 := T1.z.c1
      go_wp2
      go_ret
      exact ⟨rfl, T1.t.b⟩
    · have k3 : 50 < nc := by omega
      clear hl
      go_enter Try.func5, Try.ntmps5
      go_wp2_with fail
      refine (zalive_any _).mono ?_
      rintro e w1 ⟨rfl, hb⟩
      have T1 := T0.next hb
      clear hb T0
      have xa0 := T1.t.x.c0
      have xa1 := T1.t.x.c1
      have xb0 := T1.t.y.c0
      have xb1 := T1.t.y.c1
      have xc0 := T1.z.c0
      have xc1 := T1.z.c1
      go_wp2
      go_ret
      exact ⟨rfl, T1.t.b⟩
theorem orderZ_any (ra : Rd w A na a) (rb : Rd w A2 nb b) (rc : Rd w A3 nc c) (q1 : na ≤ ca ∧ ca ≤ 9223372036854775807) (q2 : nb ≤ cb ∧ cb ≤ 9223372036854775807) (q3 : nc ≤ cc ∧ cc ≤ 9223372036854775807) :
    Calls Try.prog 5 #[.agg #[.bool p, .slice A na ca], .agg #[.bool q, .slice A2 nb cb], .agg #[.bool r, .slice A3 nc cc]] w fun e w' => e = .returned (.bool true) ∧ Below w.heap.size w w' := by
  by_cases h5 : na ≤ 50 ∧ nb ≤ 50 ∧ nc ≤ 50
  · have h : Z2 w A A2 na ca nb cb a b := ⟨ra, rb, by omega, by omega, q1.1, q1.2, q2.1, q2.2⟩
    have h3 : Z1 w A3 nc cc c := ⟨rc, by omega, q3.1, q3.2⟩
    by_cases hm : mayZ p a = true ∧ mayZ q b = true ∧ mayZ r c = true
    · have n1 := znm_of ra hm.1 q1.1 q1.2
      have n2 := znm_of rb hm.2.1 q2.1 q2.2
      have n3 := znm_of rc hm.2.2 q3.1 q3.2
      have h := orderZ_ok A A2 A3 na ca nb cb nc cc (zof p a) (zof q b) (zof r c) w n1.1 n2.1 n3.1 h5.1 h5.2.1 h5.2.2
      rw [← n1.2, ← n2.2, ← n3.2] at h
      exact h
    · exact orderZ_bad A A2 A3 na ca nb cb nc cc p q r a b c w h h3 h5.1 h5.2.1 h5.2.2 hm
  · exact orderZ_long A A2 A3 na ca nb cb nc cc p q r w (by omega) (by omega) (by omega) (by omega)
end
end Go.Proofs.Ytjipdfebehcggaa
