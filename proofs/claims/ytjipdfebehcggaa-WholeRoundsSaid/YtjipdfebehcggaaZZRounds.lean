import Derived.Test.YtjipdfebehcggaaZZRing
/- ZRounds. -/
/- The law WholeRounds. -/
namespace Go.Proofs.Ytjipdfebehcggaa
open Go.RowKit Go.Shelf
set_option linter.unusedVariables false
set_option linter.unusedSimpArgs false

theorem intM {A : Option Addr} {na ca : Nat} {w : World} {z m : Int} (h1 : ZNm w A na ca z) (l1 : na ≤ 400) (e : z = m) (z1 : -9223372036854775808 ≤ m) (z2 : m ≤ 9223372036854775807) : Calls Try.prog 19 #[.agg #[.bool (decide (z < 0)), .slice A na ca]] w (IAns w m 0) := by
  subst e
  exact intN h1 l1 z1 z2
theorem exactM {A A2 : Option Addr} {na ca nb cb : Nat} {w : World} {z y x E : Int} (h1 : ZNm w A na ca z) (h2 : ZNm w A2 nb cb y) (l1 : na ≤ 400) (l2 : nb ≤ 400) (h0 : y ≠ 0) (e1 : x = (if y ∣ z then Int.fdiv z y else 0)) (e2 : (if y ∣ z then (0 : Int) else 6) = E) : Calls Try.prog 30 #[.agg #[.bool (decide (z < 0)), .slice A na ca], .agg #[.bool (decide (y < 0)), .slice A2 nb cb]] w (ZAns w x E) := by
  subst e1
  subst e2
  exact exactN h1 h2 l1 l2 h0
theorem absCmp {A A2 : Option Addr} {na ca nb cb v u : Nat} {w : World} (h1 : Nm w A na ca v) (h2 : Nm w A2 nb cb u) (l1 : na ≤ 400) (l2 : nb ≤ 400) :
    Calls Try.prog 13 #[.agg #[.bool false, .slice A na ca], .agg #[.bool false, .slice A2 nb cb]] w (IAns w (sgn ((v : Int) - u)) 0) := by
  have h := cmpZ_any (p := false) (q := false) (a := limbs v) (b := limbs u) (w := w) ⟨h1.rd, h2.rd, l1, l2, h1.nc, h1.cm, h2.nc, h2.cm⟩
  have hm : twoM false (limbs v) false (limbs u) = true := by simp [twoM, mayZ, may_limbs]
  rw [twoZ_ok hm, twoE_ok hm, zof_sgn, zof_sgn, val_limbs, val_limbs] at h
  exact h
theorem bd_if {k : Nat} {z : Int} {P : Prop} [Decidable P] (h : Bd k z) : Bd k (if P then z else 0) := by
  split
  · exact h
  · unfold Bd; exact Nat.pow_pos B64_pos
set_option maxRecDepth 100000 in
set_option maxHeartbeats 20000000 in
theorem roundsZ_ok (A A2 : Option Addr) (na ca nb cb : Nat) (z y : Int) (w : World) (hz : ZNm w A na ca z) (hy : ZNm w A2 nb cb y) (l1 : na ≤ 50) (l2 : nb ≤ 50) (hy0 : y ≠ 0) :
    Calls Try.prog 6 #[zV z A na ca, zV y A2 nb cb] w fun e w' => e = .returned (.bool true) ∧ Below w.heap.size w w' := by
  have Lz : Hid (Bd 50 z) := Bd.of hz l1
  have Ly : Hid (Bd 50 y) := Bd.of hy l2
  obtain ⟨q, eq⟩ : ∃ s : Int, s = Int.fdiv z y := ⟨_, rfl⟩
  have Lq : Hid (Bd 51 q) := by show Bd _ _; rw [eq]; exact Lz.out.fdiv hy0
  have Eq := Lib.hid eq
  clear eq
  obtain ⟨p, ep⟩ : ∃ s : Int, s = q * y := ⟨_, rfl⟩
  have Lp : Hid (Bd 101 p) := by show Bd _ _; rw [ep]; exact Lq.out.mul Ly.out
  have Ep := Lib.hid ep
  clear ep
  obtain ⟨r, er⟩ : ∃ s : Int, s = z - p := ⟨_, rfl⟩
  have Lr : Hid (Bd 102 r) := by show Bd _ _; rw [er]; exact (Lz.out.mono (by omega)).sub Lp.out
  have Er := Lib.hid er
  clear er
  obtain ⟨up, eup⟩ : ∃ s : Int, s = cdiv z y := ⟨_, rfl⟩
  have Lup : Hid (Bd 51 up) := by show Bd _ _; rw [eup]; exact Lz.out.cdiv hy0
  have Eup := Lib.hid eup
  clear eup
  obtain ⟨ng, eng⟩ : ∃ s : Int, s = -z := ⟨_, rfl⟩
  have Lng : Hid (Bd 50 ng) := by show Bd _ _; rw [eng]; exact Lz.out.neg
  have Eng := Lib.hid eng
  clear eng
  obtain ⟨lo, elo⟩ : ∃ s : Int, s = Int.fdiv ng y := ⟨_, rfl⟩
  have Llo : Hid (Bd 51 lo) := by show Bd _ _; rw [elo]; exact Lng.out.fdiv hy0
  have Elo := Lib.hid elo
  clear elo
  obtain ⟨tu, etu⟩ : ∃ s : Int, s = -lo := ⟨_, rfl⟩
  have Ltu : Hid (Bd 51 tu) := by show Bd _ _; rw [etu]; exact Llo.out.neg
  have Etu := Lib.hid etu
  clear etu
  obtain ⟨x, ex⟩ : ∃ s : Int, s = (if y ∣ z then Int.fdiv z y else 0) := ⟨_, rfl⟩
  have Lx : Hid (Bd 51 x) := by show Bd _ _; rw [ex]; exact bd_if (Lz.out.fdiv hy0)
  have Ex := Lib.hid ex
  clear ex
  obtain ⟨on, eon⟩ : ∃ s : Int, s = up - q := ⟨_, rfl⟩
  have Lon : Hid (Bd 52 on) := by show Bd _ _; rw [eon]; exact Lup.out.sub Lq.out
  have Eon := Lib.hid eon
  clear eon
  have hr := rest_sgn (z := z) hy0
  rw [← Eq.out, ← Ep.out, ← Er.out] at hr
  have hon := cdiv_fdiv (z := z) hy0
  rw [← Eup.out, ← Eq.out, ← Eon.out] at hon
  have htu : up = tu := by rw [Eup.out, Etu.out, Elo.out, Eng.out]; rfl
  have HTU := Lib.hid htu
  have hn : sgn ((r.natAbs : Int) - (y.natAbs : Int)) = -1 := by unfold sgn; rw [if_pos (by omega)]
  have HN := Lib.hid hn
  have HY0 := Lib.hid hy0
  obtain ⟨s, hs⟩ : ∃ s, s = sgn r := ⟨_, rfl⟩
  obtain ⟨t, ht⟩ : ∃ s, s = sgn y := ⟨_, rfl⟩
  have HS := Lib.hid hs
  have HT := Lib.hid ht
  rw [← hs, ← ht] at hr
  clear hs ht hn htu hy0
  by_cases hd : y ∣ z
  · have hs0 : s = 0 := hr.1.2 hd
    have s1 : (s == 0) = true := by simpa using hs0
    have s2 : (s != 0) = false := by simpa using hs0
    have on0 : on = 0 := by rw [hon, if_pos hd]
    have HX : Hid ((if y ∣ z then (0 : Int) else 6) = 0) := by show _ = _; rw [if_pos hd]
    have hxq : x = q := by rw [Ex.out, Eq.out, if_pos hd]
    have HXQ := Lib.hid hxq
    have HO := Lib.hid on0
    clear hd hr hon hxq on0 hs0
    have K0 := held_nil w
    have D0 := Below.refl w.heap.size w
    have K1 := (K0.next (bxb _ (zo (decide (z < 0)) A na ca))).cons (It.param (hz) (show na ≤ 400 by omega))
    have D1 := D0.alloc (Nat.le_refl _) (zo (decide (z < 0)) A na ca)
    have K2 := (K1.next (bxb _ (zo (decide (y < 0)) A2 nb cb))).cons (It.param (hy.below D1) (show nb ≤ 400 by omega))
    have D2 := below_then D1 (bxb _ (zo (decide (y < 0)) A2 nb cb))
    simp only [World.size_alloc] at K2
    have HH0 := Lib.hid K2
    have HB0 := Lib.hid D2
    clear K0 K1 K2
    clear D0 D1 D2
    clear hz hy
    unfold zV zv
    go_enter Try.func6, Try.ntmps6
    go_wp2_with fail
    refine (zalive_any _).mono ?_
    rintro e v1_ ⟨rfl, hb⟩
    have HH1 := Lib.hid (HH0.out.next hb)
    have HB1 := Lib.hid (below_then HB0.out hb)
    clear hb HH0 HB0
    have xz0 := (HH1.out _ (.tail _ (.head _))).b.c0
    have xz1 := (HH1.out _ (.tail _ (.head _))).b.c1
    have xy0 := (HH1.out _ (.head _)).b.c0
    have xy1 := (HH1.out _ (.head _)).b.c1
    go_wp2_with fail
    refine (Eq.out ▸ floorN (HH1.out _ (.tail _ (.head _))).m (HH1.out _ (.head _)).m (HH1.out _ (.tail _ (.head _))).l (HH1.out _ (.head _)).l HY0.out).mono ?_
    rintro e v2_ ⟨N2, n2, d2, rfl, o2, hb⟩
    have HL := Lib.hid (Lq.out.len o2)
    have HH2 := Lib.hid ((HH1.out.next (below_then hb (bxb _ (zo (decide (q < 0)) N2 n2 d2)))).cons (It.fresh o2 (by have := HL.out; omega)))
    have HB2 := Lib.hid (below_then HB1.out (below_then hb (bxb _ (zo (decide (q < 0)) N2 n2 d2))))
    clear hb o2 HL HH1 HB1
    unfold zV zv
    clear xz0 xz1 xy0 xy1
    have xq0 := (HH2.out _ (.head _)).b.c0
    have xq1 := (HH2.out _ (.head _)).b.c1
    have xy0 := (HH2.out _ (.tail _ (.head _))).b.c0
    have xy1 := (HH2.out _ (.tail _ (.head _))).b.c1
    go_wp2_with fail
    refine (Ep.out ▸ mulN (HH2.out _ (.head _)).m (HH2.out _ (.tail _ (.head _))).m (HH2.out _ (.head _)).l (HH2.out _ (.tail _ (.head _))).l).mono ?_
    rintro e v3_ ⟨N3, n3, d3, rfl, o3, hb⟩
    have HL := Lib.hid (Lp.out.len o3)
    have HH3 := Lib.hid ((HH2.out.next (below_then hb (bxb _ (zo (decide (p < 0)) N3 n3 d3)))).cons (It.fresh o3 (by have := HL.out; omega)))
    have HB3 := Lib.hid (below_then HB2.out (below_then hb (bxb _ (zo (decide (p < 0)) N3 n3 d3))))
    clear hb o3 HL HH2 HB2
    unfold zV zv
    clear xq0 xq1 xy0 xy1
    have xz0 := (HH3.out _ (.tail _ (.tail _ (.tail _ (.head _))))).b.c0
    have xz1 := (HH3.out _ (.tail _ (.tail _ (.tail _ (.head _))))).b.c1
    have xp0 := (HH3.out _ (.head _)).b.c0
    have xp1 := (HH3.out _ (.head _)).b.c1
    go_wp2_with fail
    refine (Er.out ▸ subN (HH3.out _ (.tail _ (.tail _ (.tail _ (.head _))))).m (HH3.out _ (.head _)).m (HH3.out _ (.tail _ (.tail _ (.tail _ (.head _))))).l (HH3.out _ (.head _)).l).mono ?_
    rintro e v4_ ⟨N4, n4, d4, rfl, o4, hb⟩
    have HL := Lib.hid (Lr.out.len o4)
    have HH4 := Lib.hid ((HH3.out.next (below_then hb (bxb _ (zo (decide (r < 0)) N4 n4 d4)))).cons (It.fresh o4 (by have := HL.out; omega)))
    have HB4 := Lib.hid (below_then HB3.out (below_then hb (bxb _ (zo (decide (r < 0)) N4 n4 d4))))
    clear hb o4 HL HH3 HB3
    unfold zV zv
    clear xz0 xz1 xp0 xp1
    have xr0 := (HH4.out _ (.head _)).b.c0
    have xr1 := (HH4.out _ (.head _)).b.c1
    go_wp2_with fail
    refine (HS.out ▸ signN (HH4.out _ (.head _)).m (HH4.out _ (.head _)).l).mono ?_
    rintro e v5_ ⟨rfl, hb⟩
    have HH5 := Lib.hid (HH4.out.next hb)
    have HB5 := Lib.hid (below_then HB4.out hb)
    clear hb HH4 HB4
    clear xr0 xr1
    have xy0 := (HH5.out _ (.tail _ (.tail _ (.tail _ (.head _))))).b.c0
    have xy1 := (HH5.out _ (.tail _ (.tail _ (.tail _ (.head _))))).b.c1
    go_wp2_with fail
    refine (HT.out ▸ signN (HH5.out _ (.tail _ (.tail _ (.tail _ (.head _))))).m (HH5.out _ (.tail _ (.tail _ (.tail _ (.head _))))).l).mono ?_
    rintro e v6_ ⟨rfl, hb⟩
    have HH6 := Lib.hid (HH5.out.next hb)
    have HB6 := Lib.hid (below_then HB5.out hb)
    clear hb HH5 HB5
    clear xy0 xy1
    have xr0 := (HH6.out _ (.head _)).b.c0
    have xr1 := (HH6.out _ (.head _)).b.c1
    have xy0 := (HH6.out _ (.tail _ (.tail _ (.tail _ (.head _))))).b.c0
    have xy1 := (HH6.out _ (.tail _ (.tail _ (.tail _ (.head _))))).b.c1
    have zy := (Array.getElem?_eq_some_iff.1 (HH6.out _ (.tail _ (.tail _ (.tail _ (.head _))))).b).1
    have zr := (Array.getElem?_eq_some_iff.1 (HH6.out _ (.head _)).b).1
    go_wp2_with fail
    have hA := below_then (bxb v6_ (zo false N4 n4 d4)) (bxb _ (zo false A2 nb cb))
    have HH7 := Lib.hid (HH6.out.next hA)
    have HB7 := Lib.hid (below_then HB6.out hA)
    clear hA HH6 HB6
    refine (HN.out ▸ absCmp (HH7.out _ (.head _)).m (HH7.out _ (.tail _ (.tail _ (.tail _ (.head _))))).m (HH7.out _ (.head _)).l (HH7.out _ (.tail _ (.tail _ (.tail _ (.head _))))).l).mono ?_
    rintro e v8_ ⟨rfl, hb⟩
    have HH8 := Lib.hid (HH7.out.next hb)
    have HB8 := Lib.hid (below_then HB7.out hb)
    clear hb HH7 HB7
    clear xr0 xr1 xy0 xy1 zy zr
    have xz0 := (HH8.out _ (.tail _ (.tail _ (.tail _ (.tail _ (.head _)))))).b.c0
    have xz1 := (HH8.out _ (.tail _ (.tail _ (.tail _ (.tail _ (.head _)))))).b.c1
    have xy0 := (HH8.out _ (.tail _ (.tail _ (.tail _ (.head _))))).b.c0
    have xy1 := (HH8.out _ (.tail _ (.tail _ (.tail _ (.head _))))).b.c1
    go_wp2_with fail
    refine (Eup.out ▸ ceilN (HH8.out _ (.tail _ (.tail _ (.tail _ (.tail _ (.head _)))))).m (HH8.out _ (.tail _ (.tail _ (.tail _ (.head _))))).m (HH8.out _ (.tail _ (.tail _ (.tail _ (.tail _ (.head _)))))).l (HH8.out _ (.tail _ (.tail _ (.tail _ (.head _))))).l HY0.out).mono ?_
    rintro e v9_ ⟨N9, n9, d9, rfl, o9, hb⟩
    have HL := Lib.hid (Lup.out.len o9)
    have HH9 := Lib.hid ((HH8.out.next (below_then hb (bxb _ (zo (decide (up < 0)) N9 n9 d9)))).cons (It.fresh o9 (by have := HL.out; omega)))
    have HB9 := Lib.hid (below_then HB8.out (below_then hb (bxb _ (zo (decide (up < 0)) N9 n9 d9))))
    clear hb o9 HL HH8 HB8
    unfold zV zv
    clear xz0 xz1 xy0 xy1
    have xz0 := (HH9.out _ (.tail _ (.tail _ (.tail _ (.tail _ (.tail _ (.head _))))))).b.c0
    have xz1 := (HH9.out _ (.tail _ (.tail _ (.tail _ (.tail _ (.tail _ (.head _))))))).b.c1
    go_wp2_with fail
    refine (Eng.out ▸ negN (HH9.out _ (.tail _ (.tail _ (.tail _ (.tail _ (.tail _ (.head _))))))).m (HH9.out _ (.tail _ (.tail _ (.tail _ (.tail _ (.tail _ (.head _))))))).l).mono ?_
    rintro e v10_ ⟨N10, n10, d10, rfl, o10, hb⟩
    have HL := Lib.hid (Lng.out.len o10)
    have HH10 := Lib.hid ((HH9.out.next (below_then hb (bxb _ (zo (decide (ng < 0)) N10 n10 d10)))).cons (It.fresh o10 (by have := HL.out; omega)))
    have HB10 := Lib.hid (below_then HB9.out (below_then hb (bxb _ (zo (decide (ng < 0)) N10 n10 d10))))
    clear hb o10 HL HH9 HB9
    unfold zV zv
    clear xz0 xz1
    have xng0 := (HH10.out _ (.head _)).b.c0
    have xng1 := (HH10.out _ (.head _)).b.c1
    have xy0 := (HH10.out _ (.tail _ (.tail _ (.tail _ (.tail _ (.tail _ (.head _))))))).b.c0
    have xy1 := (HH10.out _ (.tail _ (.tail _ (.tail _ (.tail _ (.tail _ (.head _))))))).b.c1
    go_wp2_with fail
    refine (Elo.out ▸ floorN (HH10.out _ (.head _)).m (HH10.out _ (.tail _ (.tail _ (.tail _ (.tail _ (.tail _ (.head _))))))).m (HH10.out _ (.head _)).l (HH10.out _ (.tail _ (.tail _ (.tail _ (.tail _ (.tail _ (.head _))))))).l HY0.out).mono ?_
    rintro e v11_ ⟨N11, n11, d11, rfl, o11, hb⟩
    have HL := Lib.hid (Llo.out.len o11)
    have HH11 := Lib.hid ((HH10.out.next (below_then hb (bxb _ (zo (decide (lo < 0)) N11 n11 d11)))).cons (It.fresh o11 (by have := HL.out; omega)))
    have HB11 := Lib.hid (below_then HB10.out (below_then hb (bxb _ (zo (decide (lo < 0)) N11 n11 d11))))
    clear hb o11 HL HH10 HB10
    unfold zV zv
    clear xng0 xng1 xy0 xy1
    have xlo0 := (HH11.out _ (.head _)).b.c0
    have xlo1 := (HH11.out _ (.head _)).b.c1
    go_wp2_with fail
    refine (Etu.out ▸ negN (HH11.out _ (.head _)).m (HH11.out _ (.head _)).l).mono ?_
    rintro e v12_ ⟨N12, n12, d12, rfl, o12, hb⟩
    have HL := Lib.hid (Ltu.out.len o12)
    have HH12 := Lib.hid ((HH11.out.next (below_then hb (bxb _ (zo (decide (tu < 0)) N12 n12 d12)))).cons (It.fresh o12 (by have := HL.out; omega)))
    have HB12 := Lib.hid (below_then HB11.out (below_then hb (bxb _ (zo (decide (tu < 0)) N12 n12 d12))))
    clear hb o12 HL HH11 HB11
    unfold zV zv
    clear xlo0 xlo1
    have xz0 := (HH12.out _ (.tail _ (.tail _ (.tail _ (.tail _ (.tail _ (.tail _ (.tail _ (.tail _ (.head _)))))))))).b.c0
    have xz1 := (HH12.out _ (.tail _ (.tail _ (.tail _ (.tail _ (.tail _ (.tail _ (.tail _ (.tail _ (.head _)))))))))).b.c1
    have xy0 := (HH12.out _ (.tail _ (.tail _ (.tail _ (.tail _ (.tail _ (.tail _ (.tail _ (.head _))))))))).b.c0
    have xy1 := (HH12.out _ (.tail _ (.tail _ (.tail _ (.tail _ (.tail _ (.tail _ (.tail _ (.head _))))))))).b.c1
    go_wp2_with fail
    refine (exactM (HH12.out _ (.tail _ (.tail _ (.tail _ (.tail _ (.tail _ (.tail _ (.tail _ (.tail _ (.head _)))))))))).m (HH12.out _ (.tail _ (.tail _ (.tail _ (.tail _ (.tail _ (.tail _ (.tail _ (.head _))))))))).m (HH12.out _ (.tail _ (.tail _ (.tail _ (.tail _ (.tail _ (.tail _ (.tail _ (.tail _ (.head _)))))))))).l (HH12.out _ (.tail _ (.tail _ (.tail _ (.tail _ (.tail _ (.tail _ (.tail _ (.head _))))))))).l HY0.out Ex.out HX.out).mono ?_
    rintro e v13_ ⟨N13, n13, d13, rfl, o13, hb⟩
    have HL := Lib.hid (Lx.out.len o13)
    have HH13 := Lib.hid ((HH12.out.next (below_then hb (bxb _ (zo (decide (x < 0)) N13 n13 d13)))).cons (It.fresh o13 (by have := HL.out; omega)))
    have HB13 := Lib.hid (below_then HB12.out (below_then hb (bxb _ (zo (decide (x < 0)) N13 n13 d13))))
    clear hb o13 HL HH12 HB12
    unfold zV zv
    clear xz0 xz1 xy0 xy1
    have xup0 := (HH13.out _ (.tail _ (.tail _ (.tail _ (.tail _ (.head _)))))).b.c0
    have xup1 := (HH13.out _ (.tail _ (.tail _ (.tail _ (.tail _ (.head _)))))).b.c1
    have xq0 := (HH13.out _ (.tail _ (.tail _ (.tail _ (.tail _ (.tail _ (.tail _ (.tail _ (.head _))))))))).b.c0
    have xq1 := (HH13.out _ (.tail _ (.tail _ (.tail _ (.tail _ (.tail _ (.tail _ (.tail _ (.head _))))))))).b.c1
    go_wp2_with fail
    refine (Eon.out ▸ subN (HH13.out _ (.tail _ (.tail _ (.tail _ (.tail _ (.head _)))))).m (HH13.out _ (.tail _ (.tail _ (.tail _ (.tail _ (.tail _ (.tail _ (.tail _ (.head _))))))))).m (HH13.out _ (.tail _ (.tail _ (.tail _ (.tail _ (.head _)))))).l (HH13.out _ (.tail _ (.tail _ (.tail _ (.tail _ (.tail _ (.tail _ (.tail _ (.head _))))))))).l).mono ?_
    rintro e v14_ ⟨N14, n14, d14, rfl, o14, hb⟩
    have HL := Lib.hid (Lon.out.len o14)
    have HH14 := Lib.hid ((HH13.out.next (below_then hb (bxb _ (zo (decide (on < 0)) N14 n14 d14)))).cons (It.fresh o14 (by have := HL.out; omega)))
    have HB14 := Lib.hid (below_then HB13.out (below_then hb (bxb _ (zo (decide (on < 0)) N14 n14 d14))))
    clear hb o14 HL HH13 HB13
    unfold zV zv
    clear xup0 xup1 xq0 xq1
    have xon0 := (HH14.out _ (.head _)).b.c0
    have xon1 := (HH14.out _ (.head _)).b.c1
    go_wp2_with fail
    refine (intM (HH14.out _ (.head _)).m (HH14.out _ (.head _)).l HO.out (by omega) (by omega)).mono ?_
    rintro e v15_ ⟨rfl, hb⟩
    have HH15 := Lib.hid (HH14.out.next hb)
    have HB15 := Lib.hid (below_then HB14.out hb)
    clear hb HH14 HB14
    clear xon0 xon1
    have xup0 := (HH15.out _ (.tail _ (.tail _ (.tail _ (.tail _ (.tail _ (.head _))))))).b.c0
    have xup1 := (HH15.out _ (.tail _ (.tail _ (.tail _ (.tail _ (.tail _ (.head _))))))).b.c1
    have xtu0 := (HH15.out _ (.tail _ (.tail _ (.head _)))).b.c0
    have xtu1 := (HH15.out _ (.tail _ (.tail _ (.head _)))).b.c1
    go_wp2_with fail
    refine (sameT (HH15.out _ (.tail _ (.tail _ (.tail _ (.tail _ (.tail _ (.head _))))))).m (HH15.out _ (.tail _ (.tail _ (.head _)))).m (HH15.out _ (.tail _ (.tail _ (.tail _ (.tail _ (.tail _ (.head _))))))).l (HH15.out _ (.tail _ (.tail _ (.head _)))).l HTU.out).mono ?_
    rintro e v16_ ⟨rfl, hb⟩
    have HH16 := Lib.hid (HH15.out.next hb)
    have HB16 := Lib.hid (below_then HB15.out hb)
    clear hb HH15 HB15
    clear xup0 xup1 xtu0 xtu1
    have xx0 := (HH16.out _ (.tail _ (.head _))).b.c0
    have xx1 := (HH16.out _ (.tail _ (.head _))).b.c1
    have xq0 := (HH16.out _ (.tail _ (.tail _ (.tail _ (.tail _ (.tail _ (.tail _ (.tail _ (.tail _ (.head _)))))))))).b.c0
    have xq1 := (HH16.out _ (.tail _ (.tail _ (.tail _ (.tail _ (.tail _ (.tail _ (.tail _ (.tail _ (.head _)))))))))).b.c1
    go_wp2_with fail
    refine (sameT (HH16.out _ (.tail _ (.head _))).m (HH16.out _ (.tail _ (.tail _ (.tail _ (.tail _ (.tail _ (.tail _ (.tail _ (.tail _ (.head _)))))))))).m (HH16.out _ (.tail _ (.head _))).l (HH16.out _ (.tail _ (.tail _ (.tail _ (.tail _ (.tail _ (.tail _ (.tail _ (.tail _ (.head _)))))))))).l HXQ.out).mono ?_
    rintro e u9 ⟨rfl, hb⟩
    have HB := below_then HB16.out hb
    clear hb
    go_wp2
    go_ret
    exact ⟨by simp, HB⟩
  · have hs0 : s ≠ 0 := fun e => hd (hr.1.1 e)
    have hst : s = t := hr.2.1.resolve_left hs0
    have s1 : (s == 0) = false := by simpa using hs0
    have s2 : (s != 0) = true := by simpa using hs0
    have on0 : on = 1 := by rw [hon, if_neg hd]
    have HX : Hid ((if y ∣ z then (0 : Int) else 6) = 6) := by show _ = _; rw [if_neg hd]
    have HO := Lib.hid on0
    subst hst
    clear hd hr hon on0
    have K0 := held_nil w
    have D0 := Below.refl w.heap.size w
    have K1 := (K0.next (bxb _ (zo (decide (z < 0)) A na ca))).cons (It.param (hz) (show na ≤ 400 by omega))
    have D1 := D0.alloc (Nat.le_refl _) (zo (decide (z < 0)) A na ca)
    have K2 := (K1.next (bxb _ (zo (decide (y < 0)) A2 nb cb))).cons (It.param (hy.below D1) (show nb ≤ 400 by omega))
    have D2 := below_then D1 (bxb _ (zo (decide (y < 0)) A2 nb cb))
    simp only [World.size_alloc] at K2
    have HH0 := Lib.hid K2
    have HB0 := Lib.hid D2
    clear K0 K1 K2
    clear D0 D1 D2
    clear hz hy
    unfold zV zv
    go_enter Try.func6, Try.ntmps6
    go_wp2_with fail
    refine (zalive_any _).mono ?_
    rintro e v1_ ⟨rfl, hb⟩
    have HH1 := Lib.hid (HH0.out.next hb)
    have HB1 := Lib.hid (below_then HB0.out hb)
    clear hb HH0 HB0
    have xz0 := (HH1.out _ (.tail _ (.head _))).b.c0
    have xz1 := (HH1.out _ (.tail _ (.head _))).b.c1
    have xy0 := (HH1.out _ (.head _)).b.c0
    have xy1 := (HH1.out _ (.head _)).b.c1
    go_wp2_with fail
    refine (Eq.out ▸ floorN (HH1.out _ (.tail _ (.head _))).m (HH1.out _ (.head _)).m (HH1.out _ (.tail _ (.head _))).l (HH1.out _ (.head _)).l HY0.out).mono ?_
    rintro e v2_ ⟨N2, n2, d2, rfl, o2, hb⟩
    have HL := Lib.hid (Lq.out.len o2)
    have HH2 := Lib.hid ((HH1.out.next (below_then hb (bxb _ (zo (decide (q < 0)) N2 n2 d2)))).cons (It.fresh o2 (by have := HL.out; omega)))
    have HB2 := Lib.hid (below_then HB1.out (below_then hb (bxb _ (zo (decide (q < 0)) N2 n2 d2))))
    clear hb o2 HL HH1 HB1
    unfold zV zv
    clear xz0 xz1 xy0 xy1
    have xq0 := (HH2.out _ (.head _)).b.c0
    have xq1 := (HH2.out _ (.head _)).b.c1
    have xy0 := (HH2.out _ (.tail _ (.head _))).b.c0
    have xy1 := (HH2.out _ (.tail _ (.head _))).b.c1
    go_wp2_with fail
    refine (Ep.out ▸ mulN (HH2.out _ (.head _)).m (HH2.out _ (.tail _ (.head _))).m (HH2.out _ (.head _)).l (HH2.out _ (.tail _ (.head _))).l).mono ?_
    rintro e v3_ ⟨N3, n3, d3, rfl, o3, hb⟩
    have HL := Lib.hid (Lp.out.len o3)
    have HH3 := Lib.hid ((HH2.out.next (below_then hb (bxb _ (zo (decide (p < 0)) N3 n3 d3)))).cons (It.fresh o3 (by have := HL.out; omega)))
    have HB3 := Lib.hid (below_then HB2.out (below_then hb (bxb _ (zo (decide (p < 0)) N3 n3 d3))))
    clear hb o3 HL HH2 HB2
    unfold zV zv
    clear xq0 xq1 xy0 xy1
    have xz0 := (HH3.out _ (.tail _ (.tail _ (.tail _ (.head _))))).b.c0
    have xz1 := (HH3.out _ (.tail _ (.tail _ (.tail _ (.head _))))).b.c1
    have xp0 := (HH3.out _ (.head _)).b.c0
    have xp1 := (HH3.out _ (.head _)).b.c1
    go_wp2_with fail
    refine (Er.out ▸ subN (HH3.out _ (.tail _ (.tail _ (.tail _ (.head _))))).m (HH3.out _ (.head _)).m (HH3.out _ (.tail _ (.tail _ (.tail _ (.head _))))).l (HH3.out _ (.head _)).l).mono ?_
    rintro e v4_ ⟨N4, n4, d4, rfl, o4, hb⟩
    have HL := Lib.hid (Lr.out.len o4)
    have HH4 := Lib.hid ((HH3.out.next (below_then hb (bxb _ (zo (decide (r < 0)) N4 n4 d4)))).cons (It.fresh o4 (by have := HL.out; omega)))
    have HB4 := Lib.hid (below_then HB3.out (below_then hb (bxb _ (zo (decide (r < 0)) N4 n4 d4))))
    clear hb o4 HL HH3 HB3
    unfold zV zv
    clear xz0 xz1 xp0 xp1
    have xr0 := (HH4.out _ (.head _)).b.c0
    have xr1 := (HH4.out _ (.head _)).b.c1
    go_wp2_with fail
    refine (HS.out ▸ signN (HH4.out _ (.head _)).m (HH4.out _ (.head _)).l).mono ?_
    rintro e v5_ ⟨rfl, hb⟩
    have HH5 := Lib.hid (HH4.out.next hb)
    have HB5 := Lib.hid (below_then HB4.out hb)
    clear hb HH4 HB4
    clear xr0 xr1
    have xy0 := (HH5.out _ (.tail _ (.tail _ (.tail _ (.head _))))).b.c0
    have xy1 := (HH5.out _ (.tail _ (.tail _ (.tail _ (.head _))))).b.c1
    go_wp2_with fail
    refine (HT.out ▸ signN (HH5.out _ (.tail _ (.tail _ (.tail _ (.head _))))).m (HH5.out _ (.tail _ (.tail _ (.tail _ (.head _))))).l).mono ?_
    rintro e v6_ ⟨rfl, hb⟩
    have HH6 := Lib.hid (HH5.out.next hb)
    have HB6 := Lib.hid (below_then HB5.out hb)
    clear hb HH5 HB5
    clear xy0 xy1
    have xr0 := (HH6.out _ (.head _)).b.c0
    have xr1 := (HH6.out _ (.head _)).b.c1
    have xy0 := (HH6.out _ (.tail _ (.tail _ (.tail _ (.head _))))).b.c0
    have xy1 := (HH6.out _ (.tail _ (.tail _ (.tail _ (.head _))))).b.c1
    have zy := (Array.getElem?_eq_some_iff.1 (HH6.out _ (.tail _ (.tail _ (.tail _ (.head _))))).b).1
    have zr := (Array.getElem?_eq_some_iff.1 (HH6.out _ (.head _)).b).1
    go_wp2_with fail
    have hA := below_then (bxb v6_ (zo false N4 n4 d4)) (bxb _ (zo false A2 nb cb))
    have HH7 := Lib.hid (HH6.out.next hA)
    have HB7 := Lib.hid (below_then HB6.out hA)
    clear hA HH6 HB6
    refine (HN.out ▸ absCmp (HH7.out _ (.head _)).m (HH7.out _ (.tail _ (.tail _ (.tail _ (.head _))))).m (HH7.out _ (.head _)).l (HH7.out _ (.tail _ (.tail _ (.tail _ (.head _))))).l).mono ?_
    rintro e v8_ ⟨rfl, hb⟩
    have HH8 := Lib.hid (HH7.out.next hb)
    have HB8 := Lib.hid (below_then HB7.out hb)
    clear hb HH7 HB7
    clear xr0 xr1 xy0 xy1 zy zr
    have xz0 := (HH8.out _ (.tail _ (.tail _ (.tail _ (.tail _ (.head _)))))).b.c0
    have xz1 := (HH8.out _ (.tail _ (.tail _ (.tail _ (.tail _ (.head _)))))).b.c1
    have xy0 := (HH8.out _ (.tail _ (.tail _ (.tail _ (.head _))))).b.c0
    have xy1 := (HH8.out _ (.tail _ (.tail _ (.tail _ (.head _))))).b.c1
    go_wp2_with fail
    refine (Eup.out ▸ ceilN (HH8.out _ (.tail _ (.tail _ (.tail _ (.tail _ (.head _)))))).m (HH8.out _ (.tail _ (.tail _ (.tail _ (.head _))))).m (HH8.out _ (.tail _ (.tail _ (.tail _ (.tail _ (.head _)))))).l (HH8.out _ (.tail _ (.tail _ (.tail _ (.head _))))).l HY0.out).mono ?_
    rintro e v9_ ⟨N9, n9, d9, rfl, o9, hb⟩
    have HL := Lib.hid (Lup.out.len o9)
    have HH9 := Lib.hid ((HH8.out.next (below_then hb (bxb _ (zo (decide (up < 0)) N9 n9 d9)))).cons (It.fresh o9 (by have := HL.out; omega)))
    have HB9 := Lib.hid (below_then HB8.out (below_then hb (bxb _ (zo (decide (up < 0)) N9 n9 d9))))
    clear hb o9 HL HH8 HB8
    unfold zV zv
    clear xz0 xz1 xy0 xy1
    have xz0 := (HH9.out _ (.tail _ (.tail _ (.tail _ (.tail _ (.tail _ (.head _))))))).b.c0
    have xz1 := (HH9.out _ (.tail _ (.tail _ (.tail _ (.tail _ (.tail _ (.head _))))))).b.c1
    go_wp2_with fail
    refine (Eng.out ▸ negN (HH9.out _ (.tail _ (.tail _ (.tail _ (.tail _ (.tail _ (.head _))))))).m (HH9.out _ (.tail _ (.tail _ (.tail _ (.tail _ (.tail _ (.head _))))))).l).mono ?_
    rintro e v10_ ⟨N10, n10, d10, rfl, o10, hb⟩
    have HL := Lib.hid (Lng.out.len o10)
    have HH10 := Lib.hid ((HH9.out.next (below_then hb (bxb _ (zo (decide (ng < 0)) N10 n10 d10)))).cons (It.fresh o10 (by have := HL.out; omega)))
    have HB10 := Lib.hid (below_then HB9.out (below_then hb (bxb _ (zo (decide (ng < 0)) N10 n10 d10))))
    clear hb o10 HL HH9 HB9
    unfold zV zv
    clear xz0 xz1
    have xng0 := (HH10.out _ (.head _)).b.c0
    have xng1 := (HH10.out _ (.head _)).b.c1
    have xy0 := (HH10.out _ (.tail _ (.tail _ (.tail _ (.tail _ (.tail _ (.head _))))))).b.c0
    have xy1 := (HH10.out _ (.tail _ (.tail _ (.tail _ (.tail _ (.tail _ (.head _))))))).b.c1
    go_wp2_with fail
    refine (Elo.out ▸ floorN (HH10.out _ (.head _)).m (HH10.out _ (.tail _ (.tail _ (.tail _ (.tail _ (.tail _ (.head _))))))).m (HH10.out _ (.head _)).l (HH10.out _ (.tail _ (.tail _ (.tail _ (.tail _ (.tail _ (.head _))))))).l HY0.out).mono ?_
    rintro e v11_ ⟨N11, n11, d11, rfl, o11, hb⟩
    have HL := Lib.hid (Llo.out.len o11)
    have HH11 := Lib.hid ((HH10.out.next (below_then hb (bxb _ (zo (decide (lo < 0)) N11 n11 d11)))).cons (It.fresh o11 (by have := HL.out; omega)))
    have HB11 := Lib.hid (below_then HB10.out (below_then hb (bxb _ (zo (decide (lo < 0)) N11 n11 d11))))
    clear hb o11 HL HH10 HB10
    unfold zV zv
    clear xng0 xng1 xy0 xy1
    have xlo0 := (HH11.out _ (.head _)).b.c0
    have xlo1 := (HH11.out _ (.head _)).b.c1
    go_wp2_with fail
    refine (Etu.out ▸ negN (HH11.out _ (.head _)).m (HH11.out _ (.head _)).l).mono ?_
    rintro e v12_ ⟨N12, n12, d12, rfl, o12, hb⟩
    have HL := Lib.hid (Ltu.out.len o12)
    have HH12 := Lib.hid ((HH11.out.next (below_then hb (bxb _ (zo (decide (tu < 0)) N12 n12 d12)))).cons (It.fresh o12 (by have := HL.out; omega)))
    have HB12 := Lib.hid (below_then HB11.out (below_then hb (bxb _ (zo (decide (tu < 0)) N12 n12 d12))))
    clear hb o12 HL HH11 HB11
    unfold zV zv
    clear xlo0 xlo1
    have xz0 := (HH12.out _ (.tail _ (.tail _ (.tail _ (.tail _ (.tail _ (.tail _ (.tail _ (.tail _ (.head _)))))))))).b.c0
    have xz1 := (HH12.out _ (.tail _ (.tail _ (.tail _ (.tail _ (.tail _ (.tail _ (.tail _ (.tail _ (.head _)))))))))).b.c1
    have xy0 := (HH12.out _ (.tail _ (.tail _ (.tail _ (.tail _ (.tail _ (.tail _ (.tail _ (.head _))))))))).b.c0
    have xy1 := (HH12.out _ (.tail _ (.tail _ (.tail _ (.tail _ (.tail _ (.tail _ (.tail _ (.head _))))))))).b.c1
    go_wp2_with fail
    refine (exactM (HH12.out _ (.tail _ (.tail _ (.tail _ (.tail _ (.tail _ (.tail _ (.tail _ (.tail _ (.head _)))))))))).m (HH12.out _ (.tail _ (.tail _ (.tail _ (.tail _ (.tail _ (.tail _ (.tail _ (.head _))))))))).m (HH12.out _ (.tail _ (.tail _ (.tail _ (.tail _ (.tail _ (.tail _ (.tail _ (.tail _ (.head _)))))))))).l (HH12.out _ (.tail _ (.tail _ (.tail _ (.tail _ (.tail _ (.tail _ (.tail _ (.head _))))))))).l HY0.out Ex.out HX.out).mono ?_
    rintro e v13_ ⟨N13, n13, d13, rfl, o13, hb⟩
    have HL := Lib.hid (Lx.out.len o13)
    have HH13 := Lib.hid ((HH12.out.next (below_then hb (bxb _ (zo (decide (x < 0)) N13 n13 d13)))).cons (It.fresh o13 (by have := HL.out; omega)))
    have HB13 := Lib.hid (below_then HB12.out (below_then hb (bxb _ (zo (decide (x < 0)) N13 n13 d13))))
    clear hb o13 HL HH12 HB12
    unfold zV zv
    clear xz0 xz1 xy0 xy1
    have xup0 := (HH13.out _ (.tail _ (.tail _ (.tail _ (.tail _ (.head _)))))).b.c0
    have xup1 := (HH13.out _ (.tail _ (.tail _ (.tail _ (.tail _ (.head _)))))).b.c1
    have xq0 := (HH13.out _ (.tail _ (.tail _ (.tail _ (.tail _ (.tail _ (.tail _ (.tail _ (.head _))))))))).b.c0
    have xq1 := (HH13.out _ (.tail _ (.tail _ (.tail _ (.tail _ (.tail _ (.tail _ (.tail _ (.head _))))))))).b.c1
    go_wp2_with fail
    refine (Eon.out ▸ subN (HH13.out _ (.tail _ (.tail _ (.tail _ (.tail _ (.head _)))))).m (HH13.out _ (.tail _ (.tail _ (.tail _ (.tail _ (.tail _ (.tail _ (.tail _ (.head _))))))))).m (HH13.out _ (.tail _ (.tail _ (.tail _ (.tail _ (.head _)))))).l (HH13.out _ (.tail _ (.tail _ (.tail _ (.tail _ (.tail _ (.tail _ (.tail _ (.head _))))))))).l).mono ?_
    rintro e v14_ ⟨N14, n14, d14, rfl, o14, hb⟩
    have HL := Lib.hid (Lon.out.len o14)
    have HH14 := Lib.hid ((HH13.out.next (below_then hb (bxb _ (zo (decide (on < 0)) N14 n14 d14)))).cons (It.fresh o14 (by have := HL.out; omega)))
    have HB14 := Lib.hid (below_then HB13.out (below_then hb (bxb _ (zo (decide (on < 0)) N14 n14 d14))))
    clear hb o14 HL HH13 HB13
    unfold zV zv
    clear xup0 xup1 xq0 xq1
    have xon0 := (HH14.out _ (.head _)).b.c0
    have xon1 := (HH14.out _ (.head _)).b.c1
    go_wp2_with fail
    refine (intM (HH14.out _ (.head _)).m (HH14.out _ (.head _)).l HO.out (by omega) (by omega)).mono ?_
    rintro e v15_ ⟨rfl, hb⟩
    have HH15 := Lib.hid (HH14.out.next hb)
    have HB15 := Lib.hid (below_then HB14.out hb)
    clear hb HH14 HB14
    clear xon0 xon1
    have xup0 := (HH15.out _ (.tail _ (.tail _ (.tail _ (.tail _ (.tail _ (.head _))))))).b.c0
    have xup1 := (HH15.out _ (.tail _ (.tail _ (.tail _ (.tail _ (.tail _ (.head _))))))).b.c1
    have xtu0 := (HH15.out _ (.tail _ (.tail _ (.head _)))).b.c0
    have xtu1 := (HH15.out _ (.tail _ (.tail _ (.head _)))).b.c1
    go_wp2_with fail
    refine (sameT (HH15.out _ (.tail _ (.tail _ (.tail _ (.tail _ (.tail _ (.head _))))))).m (HH15.out _ (.tail _ (.tail _ (.head _)))).m (HH15.out _ (.tail _ (.tail _ (.tail _ (.tail _ (.tail _ (.head _))))))).l (HH15.out _ (.tail _ (.tail _ (.head _)))).l HTU.out).mono ?_
    rintro e v16_ ⟨rfl, hb⟩
    have HH16 := Lib.hid (HH15.out.next hb)
    have HB16 := Lib.hid (below_then HB15.out hb)
    clear hb HH15 HB15
    clear xup0 xup1 xtu0 xtu1
    have xx0 := (HH16.out _ (.tail _ (.head _))).b.c0
    have xx1 := (HH16.out _ (.tail _ (.head _))).b.c1
    have xq0 := (HH16.out _ (.tail _ (.tail _ (.tail _ (.tail _ (.tail _ (.tail _ (.tail _ (.tail _ (.head _)))))))))).b.c0
    have xq1 := (HH16.out _ (.tail _ (.tail _ (.tail _ (.tail _ (.tail _ (.tail _ (.tail _ (.tail _ (.head _)))))))))).b.c1
    go_wp2_with fail
    go_ret
    exact ⟨by simp, HB16.out⟩

section
variable (A A2 : Option Addr) (na ca nb cb : Nat) (p q : Bool) (a b : List Nat) (w : World)
set_option maxRecDepth 100000 in
set_option maxHeartbeats 4000000 in
theorem roundsZ_bad (h : Z2 w A A2 na ca nb cb a b) (l1 : na ≤ 50) (l2 : nb ≤ 50) (hm : quoE p a q b = 8 ∨ quoE p a q b = 30) :
    Calls Try.prog 6 #[zv p A na ca, zv q A2 nb cb] w fun e w' => e = .returned (.bool true) ∧ Below w.heap.size w w' := by
  have T0 := two_box w p A na ca q A2 nb cb
  have HF := Lib.hid (fun W (hW : Below w.heap.size w W) => floorZ_any (p := p) (q := q) (w := W) (h.below hW))
  have HC := Lib.hid (fun W (hW : Below w.heap.size w W) => ceilZ_any (p := p) (q := q) (w := W) (h.below hW))
  generalize quoZ Int.fdiv p a q b = s at HF
  generalize quoZ cdiv p a q b = t at HC
  clear h
  unfold zv at *
  rcases hm with hm | hm
  · rw [hm] at HF HC
    clear hm
    go_enter Try.func6, Try.ntmps6
    go_wp2_with fail
    refine (zalive_any _).mono ?_
    rintro e w1 ⟨rfl, hb⟩
    have T1 := T0.next hb
    clear hb T0
    have xa0 := T1.x.c0
    have xa1 := T1.x.c1
    have xb0 := T1.y.c0
    have xb1 := T1.y.c1
    go_wp2_with fail
    refine (HF.out _ T1.b).mono ?_
    rintro e w2 ⟨A8, k8, c8, rfl, o8, hb⟩
    have T2 := T1.next (below_then hb (bxb _ (zo (decide (s < 0)) A8 k8 c8)))
    clear hb o8 T1
    clear xa0 xa1 xb0 xb1
    have xa0 := T2.x.c0
    have xa1 := T2.x.c1
    have xb0 := T2.y.c0
    have xb1 := T2.y.c1
    unfold zV zv
    go_wp2_with fail
    refine (HC.out _ T2.b).mono ?_
    rintro e w3 ⟨A9, k9, c9, rfl, o9, hb⟩
    have T3 := T2.next (below_then hb (bxb _ (zo (decide (t < 0)) A9 k9 c9)))
    clear hb o9 T2
    clear xa0 xa1 xb0 xb1
    have xa0 := T3.x.c0
    have xa1 := T3.x.c1
    have xb0 := T3.y.c0
    have xb1 := T3.y.c1
    unfold zV zv
    go_wp2
    go_ret
    exact ⟨by simp, T3.b⟩
  · rw [hm] at HF HC
    clear hm
    go_enter Try.func6, Try.ntmps6
    go_wp2_with fail
    refine (zalive_any _).mono ?_
    rintro e w1 ⟨rfl, hb⟩
    have T1 := T0.next hb
    clear hb T0
    have xa0 := T1.x.c0
    have xa1 := T1.x.c1
    have xb0 := T1.y.c0
    have xb1 := T1.y.c1
    go_wp2_with fail
    refine (HF.out _ T1.b).mono ?_
    rintro e w2 ⟨A8, k8, c8, rfl, o8, hb⟩
    have T2 := T1.next (below_then hb (bxb _ (zo (decide (s < 0)) A8 k8 c8)))
    clear hb o8 T1
    clear xa0 xa1 xb0 xb1
    have xa0 := T2.x.c0
    have xa1 := T2.x.c1
    have xb0 := T2.y.c0
    have xb1 := T2.y.c1
    unfold zV zv
    go_wp2_with fail
    refine (HC.out _ T2.b).mono ?_
    rintro e w3 ⟨A9, k9, c9, rfl, o9, hb⟩
    have T3 := T2.next (below_then hb (bxb _ (zo (decide (t < 0)) A9 k9 c9)))
    clear hb o9 T2
    clear xa0 xa1 xb0 xb1
    have xa0 := T3.x.c0
    have xa1 := T3.x.c1
    have xb0 := T3.y.c0
    have xb1 := T3.y.c1
    unfold zV zv
    go_wp2
    go_ret
    exact ⟨by simp, T3.b⟩
set_option maxRecDepth 100000 in
set_option maxHeartbeats 4000000 in
theorem roundsZ_long (hl : 50 < na ∨ 50 < nb) (m1 : na ≤ 9223372036854775807) (m2 : nb ≤ 9223372036854775807) :
    Calls Try.prog 6 #[zv p A na ca, zv q A2 nb cb] w fun e w' => e = .returned (.bool true) ∧ Below w.heap.size w w' := by
  have T0 := two_box w p A na ca q A2 nb cb
  unfold zv at *
  by_cases k1 : 50 < na
  · clear hl
    go_enter Try.func6, Try.ntmps6
    go_wp2_with fail
    refine (zalive_any _).mono ?_
    rintro e w1 ⟨rfl, hb⟩
    have T1 := T0.next hb
    clear hb T0
    have xa0 := T1.x.c0
    have xa1 := T1.x.c1
    have xb0 := T1.y.c0
    have xb1 := T1.y.c1
    go_wp2
    go_ret
    exact ⟨rfl, T1.b⟩
  · have k2 : 50 < nb := by omega
    clear hl
    go_enter Try.func6, Try.ntmps6
    go_wp2_with fail
    refine (zalive_any _).mono ?_
    rintro e w1 ⟨rfl, hb⟩
    have T1 := T0.next hb
    clear hb T0
    have xa0 := T1.x.c0
    have xa1 := T1.x.c1
    have xb0 := T1.y.c0
    have xb1 := T1.y.c1
    go_wp2
    go_ret
    exact ⟨rfl, T1.b⟩
theorem roundsZ_any (ra : Rd w A na a) (rb : Rd w A2 nb b) (q1 : na ≤ ca ∧ ca ≤ 9223372036854775807) (q2 : nb ≤ cb ∧ cb ≤ 9223372036854775807) :
    Calls Try.prog 6 #[.agg #[.bool p, .slice A na ca], .agg #[.bool q, .slice A2 nb cb]] w fun e w' => e = .returned (.bool true) ∧ Below w.heap.size w w' := by
  by_cases h5 : na ≤ 50 ∧ nb ≤ 50
  · have h : Z2 w A A2 na ca nb cb a b := ⟨ra, rb, by omega, by omega, q1.1, q1.2, q2.1, q2.2⟩
    cases hm : twoM p a q b with
    | false => exact roundsZ_bad A A2 na ca nb cb p q a b w h h5.1 h5.2 (.inl (by unfold quoE; rw [if_neg (by rw [hm]; decide)]))
    | true =>
      by_cases hb : b = []
      · exact roundsZ_bad A A2 na ca nb cb p q a b w h h5.1 h5.2 (.inr (by unfold quoE; rw [if_pos hm, if_pos hb]))
      · have n1 := znm_of ra (twoM_iff.1 hm).1 q1.1 q1.2
        have n2 := znm_of rb (twoM_iff.1 hm).2 q2.1 q2.2
        have h := roundsZ_ok A A2 na ca nb cb (zof p a) (zof q b) w n1.1 n2.1 h5.1 h5.2 (zof_ne (twoM_iff.1 hm).2 hb)
        rw [← n1.2, ← n2.2] at h
        exact h
  · exact roundsZ_long A A2 na ca nb cb p q w (by omega) (by omega) (by omega)
end
end Go.Proofs.Ytjipdfebehcggaa
