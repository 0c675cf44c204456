import Derived.Test.YtbldimplddiheaaGreatDoorKQWords
import Derived.Test.YtbldimplddiheaaGreatDoorKQJ
import Derived.Test.YtbldimplddiheaaGreatDoorKQG
/- QNames QEndN. -/
/- The law RatNames, from what the calls of rat are. -/
namespace Go.Proofs.YtbldimplddiheaaGreatDoor
open Go.RowKit Go.Shelf
set_option linter.unusedVariables false
set_option linter.unusedSimpArgs false

theorem qn_a : (Rat.divInt 0 7).num = 0 ∧ (Rat.divInt 0 7).den = 1 := by decide +kernel
theorem qn_b : (Rat.divInt 2 3 * Rat.divInt 3 4).num = 1 ∧ (Rat.divInt 2 3 * Rat.divInt 3 4).den = 2 := by decide +kernel
theorem qn_c : (-1 : Int) = sgn (Rat.divInt 1 3 - Rat.divInt 1 2).num := by decide +kernel
theorem qn_lo : (-2 : Int) = (Rat.divInt (-3) 2).floor := by decide +kernel
theorem qn_up : (-1 : Int) = (Rat.divInt (-3) 2).ceil := by decide +kernel
theorem cmpMn {w : World} {v v2 : QV} {x y : Rat} {F : Nat} {i : Int} (hF : CmpQIs F) (h1 : QNm w v x) (h2 : QNm w v2 y) (l1 : v.n ≤ 60) (l2 : v.m ≤ 60) (l3 : v2.n ≤ 60) (l4 : v2.m ≤ 60) (e : i = sgn (x - y).num) : Calls Tryz.prog F #[v.v, v2.v] w (IAns w i 0) := by
  subst e
  exact cmpQN hF h1 h2 l1 l2 l3 l4
theorem wholeMn {w : World} {v : QV} {x : Rat} {F : Nat} {f : Rat → Int} {z : Int} (hF : WholeQIs f F) (h1 : QNm w v x) (l1 : v.n ≤ 60) (l2 : v.m ≤ 60) (e : z = f x) : Calls Tryz.prog F #[v.v] w (ZAns w z 0) := by
  subst e
  exact wholeQN hF h1 l1 l2
theorem divM0 {w : World} {v v2 : QV} {x y : Rat} {F : Nat} (hF : DivQIs F) (h1 : QNm w v x) (h2 : QNm w v2 y) (l1 : v.n ≤ 60) (l2 : v.m ≤ 60) (l3 : v2.n ≤ 60) (l4 : v2.m ≤ 60) (hy : y = 0) :
    Calls Tryz.prog F #[.agg #[.bool v.p, .slice v.A v.n v.c, .slice v.D v.m v.d], .agg #[.bool v2.p, .slice v2.A v2.n v2.c, .slice v2.D v2.m v2.d]] w fun e w' => e = .returned (.tuple #[.agg #[.bool false, .slice none 0 0, .slice none 0 0], .int .i64 30]) ∧ Below w.heap.size w w' := divN0 hF h1 h2 l1 l2 l3 l4 hy
theorem check0 {w : World} (hF : CheckQIs 19) : Calls Tryz.prog 19 #[.agg #[.bool false, .slice none 0 0, .slice none 0 0]] w fun e w' => e = .returned (.int .i64 8) ∧ Below w.heap.size w w' :=
  hF QV.zero [] [] w ⟨rd_nil _ _, rd_nil _ _, Nat.zero_le _, Nat.zero_le _, Nat.zero_le _, by decide, Nat.zero_le _, by decide⟩
set_option maxRecDepth 100000 in
set_option maxHeartbeats 20000000 in
theorem namesQ_any (hAl : ∀ W, Calls Tryz.prog 17 #[] W fun e w' => e = .returned (.bool true) ∧ Below W.heap.size W w') (hOf : OfQIs 8) (hMul : OpQIs (fun x y => x * y) 10) (hDiv : DivQIs 15) (hCmp : CmpQIs 12) (hCheck : CheckQIs 19) (hFloor : WholeQIs Rat.floor 13) (hCeil : WholeQIs Rat.ceil 14) (hText : TextQIs 31) (w : World) : Calls Tryz.prog 3 #[] w fun e w' => e = .returned (.bool true) ∧ Below w.heap.size w w' := by
  have HAl := Lib.hid hAl
  have HOf := Lib.hid hOf
  have HMul := Lib.hid hMul
  have HDiv := Lib.hid hDiv
  have HCmp := Lib.hid hCmp
  have HCheck := Lib.hid hCheck
  have HFloor := Lib.hid hFloor
  have HCeil := Lib.hid hCeil
  have HText := Lib.hid hText
  clear hAl hOf hMul hDiv hCmp hCheck hFloor hCeil hText
  obtain ⟨i0, ei0⟩ : ∃ t : Int, t = 0 := ⟨_, rfl⟩
  have Li0 : Hid (Bd 1 i0) := by show Bd _ _; rw [ei0]; unfold Bd; rw [Nat.pow_one, B64_eq]; decide
  have Ei0 := Lib.hid ei0
  clear ei0
  obtain ⟨i7, ei7⟩ : ∃ t : Int, t = 7 := ⟨_, rfl⟩
  have Li7 : Hid (Bd 1 i7) := by show Bd _ _; rw [ei7]; unfold Bd; rw [Nat.pow_one, B64_eq]; decide
  have Ei7 := Lib.hid ei7
  clear ei7
  obtain ⟨i1, ei1⟩ : ∃ t : Int, t = 1 := ⟨_, rfl⟩
  have Li1 : Hid (Bd 1 i1) := by show Bd _ _; rw [ei1]; unfold Bd; rw [Nat.pow_one, B64_eq]; decide
  have Ei1 := Lib.hid ei1
  clear ei1
  obtain ⟨lo, elo⟩ : ∃ t : Int, t = -2 := ⟨_, rfl⟩
  have Llo : Hid (Bd 1 lo) := by show Bd _ _; rw [elo]; unfold Bd; rw [Nat.pow_one, B64_eq]; decide
  have Elo := Lib.hid elo
  clear elo
  obtain ⟨up, eup⟩ : ∃ t : Int, t = -1 := ⟨_, rfl⟩
  have Lup : Hid (Bd 1 up) := by show Bd _ _; rw [eup]; unfold Bd; rw [Nat.pow_one, B64_eq]; decide
  have Eup := Lib.hid eup
  clear eup
  obtain ⟨xa, exa⟩ : ∃ s : Rat, s = Rat.divInt 0 7 := ⟨_, rfl⟩
  have Lxa : Hid (BdQ 1 1 xa) := by show BdQ _ _ _; rw [exa]; exact bd_small (by decide +kernel) (by decide +kernel)
  have Exa := Lib.hid exa
  clear exa
  obtain ⟨xm1, exm1⟩ : ∃ s : Rat, s = Rat.divInt 2 3 := ⟨_, rfl⟩
  have Lxm1 : Hid (BdQ 1 1 xm1) := by show BdQ _ _ _; rw [exm1]; exact bd_small (by decide +kernel) (by decide +kernel)
  have Exm1 := Lib.hid exm1
  clear exm1
  obtain ⟨xm2, exm2⟩ : ∃ s : Rat, s = Rat.divInt 3 4 := ⟨_, rfl⟩
  have Lxm2 : Hid (BdQ 1 1 xm2) := by show BdQ _ _ _; rw [exm2]; exact bd_small (by decide +kernel) (by decide +kernel)
  have Exm2 := Lib.hid exm2
  clear exm2
  obtain ⟨xb, exb⟩ : ∃ s : Rat, s = Rat.divInt 2 3 * Rat.divInt 3 4 := ⟨_, rfl⟩
  have Lxb : Hid (BdQ 1 1 xb) := by show BdQ _ _ _; rw [exb]; exact bd_small (by decide +kernel) (by decide +kernel)
  have Exb := Lib.hid exb
  clear exb
  obtain ⟨xt, ext⟩ : ∃ s : Rat, s = Rat.divInt 1 3 := ⟨_, rfl⟩
  have Lxt : Hid (BdQ 1 1 xt) := by show BdQ _ _ _; rw [ext]; exact bd_small (by decide +kernel) (by decide +kernel)
  have Ext := Lib.hid ext
  clear ext
  obtain ⟨xh, exh⟩ : ∃ s : Rat, s = Rat.divInt 1 2 := ⟨_, rfl⟩
  have Lxh : Hid (BdQ 1 1 xh) := by show BdQ _ _ _; rw [exh]; exact bd_small (by decide +kernel) (by decide +kernel)
  have Exh := Lib.hid exh
  clear exh
  obtain ⟨xf, exf⟩ : ∃ s : Rat, s = Rat.divInt (-3) 2 := ⟨_, rfl⟩
  have Lxf : Hid (BdQ 1 1 xf) := by show BdQ _ _ _; rw [exf]; exact bd_small (by decide +kernel) (by decide +kernel)
  have Exf := Lib.hid exf
  clear exf
  obtain ⟨xz, exz⟩ : ∃ s : Rat, s = Rat.divInt 0 1 := ⟨_, rfl⟩
  have Lxz : Hid (BdQ 1 1 xz) := by show BdQ _ _ _; rw [exz]; exact bd_small (by decide +kernel) (by decide +kernel)
  have Exz := Lib.hid exz
  clear exz
  have TA : Hid (qTextE (decide (xa.num < 0)) (limbs xa.num.natAbs) (limbs xa.den) = 0 ∧ qTextS (decide (xa.num < 0)) (limbs xa.num.natAbs) (limbs xa.den) = ⟨#[48]⟩) := by show _ ∧ _; exact qText_num (k := 0) (m := 1) (s := ⟨#[48]⟩) (t := ⟨#[49]⟩) (Exa.out ▸ qn_a.1) (Exa.out ▸ qn_a.2) (digit_text 0 48 (by decide) (by decide)) (digit_text 1 49 (by decide) (by decide)) (by decide) (by decide) (by decide)
  have TB : Hid (qTextE (decide (xb.num < 0)) (limbs xb.num.natAbs) (limbs xb.den) = 0 ∧ qTextS (decide (xb.num < 0)) (limbs xb.num.natAbs) (limbs xb.den) = ⟨#[49, 47, 50]⟩) := by show _ ∧ _; exact qText_num (k := 1) (m := 2) (s := ⟨#[49]⟩) (t := ⟨#[50]⟩) (Exb.out ▸ qn_b.1) (Exb.out ▸ qn_b.2) (digit_text 1 49 (by decide) (by decide)) (digit_text 2 50 (by decide) (by decide)) (by decide) (by decide) (by decide)
  have K0 := heldq_nil w
  have J0 := held_nil w
  have D0 := Below.refl w.heap.size w
  try simp only [World.size_alloc] at K0
  try simp only [World.size_alloc] at J0
  have HH0 := Lib.hid K0
  have HZ0 := Lib.hid J0
  have HB0 := Lib.hid D0
  clear K0 J0 D0
  try dsimp only [QV.v, zv, zV]
  go_enter Tryz.func3, Tryz.ntmps3
  go_wp2_with fail
  refine (wofM _ Ei0.out (by omega) (by omega)).mono ?_
  rintro e ua_ ⟨Pa, pa, qa, rfl, ooa, hb⟩
  have la : pa ≤ 1 := Li0.out.len ooa
  have Ha := Lib.hid ooa.nm
  have hbb := hb
  clear hb ooa
  unfold zV zv
  have hA := hbb
  have HH1 := Lib.hid (HH0.out.next hA)
  have HZ1 := Lib.hid (HZ0.out.next hA)
  have HB1 := Lib.hid (below_then HB0.out hA)
  clear HH0 HZ0 HB0
  clear hA
  clear hbb
  go_wp2_with fail
  refine (wofM _ Ei7.out (by omega) (by omega)).mono ?_
  rintro e ub_ ⟨Pb, pb, qb, rfl, oob, hb⟩
  have lb : pb ≤ 1 := Li7.out.len oob
  have Hb := Lib.hid oob.nm
  have hbb := hb
  clear hb oob
  unfold zV zv
  have hA := hbb
  have HH2 := Lib.hid (HH1.out.next hA)
  have HZ2 := Lib.hid (HZ1.out.next hA)
  have HB2 := Lib.hid (below_then HB1.out hA)
  clear HH1 HZ1 HB1
  clear hA
  have Ha := Lib.hid (Ha.out.below hbb)
  clear hbb
  go_wp2_with fail
  refine (ofQN (x := xa) HOf.out Ha.out Hb.out (by omega) (by omega) (by have := Ei7.out; omega) (by rw [Ei0.out, Ei7.out, Exa.out])).mono ?_
  rintro e v3_ ⟨q3, rfl, o3, hb⟩
  have HL := Lib.hid (Lxa.out.len o3)
  have HH3 : Hid (HeldQ (v3_.alloc (.cells #[.bool q3.p, .slice q3.A q3.n q3.c, .slice q3.D q3.m q3.d] qT)) [⟨v3_.heap.size, q3, xa⟩]) := Lib.hid ((HH2.out.next (below_then hb (bxb _ q3.o))).cons (IQ.fresh o3 (by have := HL.out; omega) (by have := HL.out; omega)))
  have HZ3 : Hid (Held (v3_.alloc (.cells #[.bool q3.p, .slice q3.A q3.n q3.c, .slice q3.D q3.m q3.d] qT)) []) := Lib.hid (HZ2.out.next (below_then hb (bxb _ q3.o)))
  have HB3 : Hid (Below w.heap.size w (v3_.alloc (.cells #[.bool q3.p, .slice q3.A q3.n q3.c, .slice q3.D q3.m q3.d] qT))) := Lib.hid (below_then HB2.out (below_then hb (bxb _ q3.o)))
  clear hb o3 HL HH2 HZ2 HB2
  unfold QV.v
  clear Ha Hb
  go_wp2_with fail
  refine (wofM _ Ei1.out (by omega) (by omega)).mono ?_
  rintro e ua_ ⟨Pa, pa, qa, rfl, ooa, hb⟩
  have la : pa ≤ 1 := Li1.out.len ooa
  have Ha := Lib.hid ooa.nm
  have hbb := hb
  clear hb ooa
  unfold zV zv
  have hA := hbb
  have HH4 := Lib.hid (HH3.out.next hA)
  have HZ4 := Lib.hid (HZ3.out.next hA)
  have HB4 := Lib.hid (below_then HB3.out hA)
  clear HH3 HZ3 HB3
  clear hA
  clear hbb
  go_wp2_with fail
  refine (wofM _ Ei0.out (by omega) (by omega)).mono ?_
  rintro e ub_ ⟨Pb, pb, qb, rfl, oob, hb⟩
  have lb : pb ≤ 1 := Li0.out.len oob
  have Hb := Lib.hid oob.nm
  have hbb := hb
  clear hb oob
  unfold zV zv
  have hA := hbb
  have HH5 := Lib.hid (HH4.out.next hA)
  have HZ5 := Lib.hid (HZ4.out.next hA)
  have HB5 := Lib.hid (below_then HB4.out hA)
  clear HH4 HZ4 HB4
  clear hA
  have Ha := Lib.hid (Ha.out.below hbb)
  clear hbb
  go_wp2_with fail
  refine (ofQ0 HOf.out Ha.out Hb.out (by omega) (by omega) Ei0.out).mono ?_
  rintro e v6_ ⟨rfl, hb⟩
  have HH6 := Lib.hid (HH5.out.next hb)
  have HZ6 := Lib.hid (HZ5.out.next hb)
  have HB6 := Lib.hid (below_then HB5.out hb)
  clear HH5 HZ5 HB5
  clear hb
  have hA := bxb v6_ qz
  have HH7 := Lib.hid (HH6.out.next hA)
  have HZ7 := Lib.hid (HZ6.out.next hA)
  have HB7 := Lib.hid (below_then HB6.out hA)
  clear HH6 HZ6 HB6
  clear hA
  clear Ha Hb
  go_wp2_with fail
  refine (ofS_any (x := xm1) HOf.out 2 3 (by omega) (by omega) (by omega) (by omega) (by omega) Exm1.out.symm).mono ?_
  rintro e v8_ ⟨qxm1, rfl, oxm1, hb⟩
  have HL := Lib.hid (Lxm1.out.len oxm1)
  have jxm1 := Lib.hid (And.intro oxm1.nm HL.out)
  have hbb := hb
  clear hb oxm1 HL
  have hA := hbb
  have HH8 := Lib.hid (HH7.out.next hA)
  have HZ8 := Lib.hid (HZ7.out.next hA)
  have HB8 := Lib.hid (below_then HB7.out hA)
  clear HH7 HZ7 HB7
  clear hA
  clear hbb
  unfold QV.v
  go_wp2_with fail
  refine (ofS_any (x := xm2) HOf.out 3 4 (by omega) (by omega) (by omega) (by omega) (by omega) Exm2.out.symm).mono ?_
  rintro e v9_ ⟨qxm2, rfl, oxm2, hb⟩
  have HL := Lib.hid (Lxm2.out.len oxm2)
  have jxm2 := Lib.hid (And.intro oxm2.nm HL.out)
  have hbb := hb
  clear hb oxm2 HL
  have hA := hbb
  have HH9 := Lib.hid (HH8.out.next hA)
  have HZ9 := Lib.hid (HZ8.out.next hA)
  have HB9 := Lib.hid (below_then HB8.out hA)
  clear HH8 HZ8 HB8
  clear hA
  have jxm1 := Lib.hid (And.intro (jxm1.out.1.below hbb) jxm1.out.2)
  clear hbb
  unfold QV.v
  go_wp2_with fail
  refine (opM (t := xb) HMul.out jxm1.out.1 jxm2.out.1 (by have := jxm1.out.2; omega) (by have := jxm1.out.2; omega) (by have := jxm2.out.2; omega) (by have := jxm2.out.2; omega) (by rw [Exb.out, Exm1.out, Exm2.out])).mono ?_
  rintro e v10_ ⟨q10, rfl, o10, hb⟩
  have HL := Lib.hid (Lxb.out.len o10)
  have HH10 : Hid (HeldQ (v10_.alloc (.cells #[.bool q10.p, .slice q10.A q10.n q10.c, .slice q10.D q10.m q10.d] qT)) [⟨v10_.heap.size, q10, xb⟩, ⟨v3_.heap.size, q3, xa⟩]) := Lib.hid ((HH9.out.next (below_then hb (bxb _ q10.o))).cons (IQ.fresh o10 (by have := HL.out; omega) (by have := HL.out; omega)))
  have HZ10 : Hid (Held (v10_.alloc (.cells #[.bool q10.p, .slice q10.A q10.n q10.c, .slice q10.D q10.m q10.d] qT)) []) := Lib.hid (HZ9.out.next (below_then hb (bxb _ q10.o)))
  have HB10 : Hid (Below w.heap.size w (v10_.alloc (.cells #[.bool q10.p, .slice q10.A q10.n q10.c, .slice q10.D q10.m q10.d] qT))) := Lib.hid (below_then HB9.out (below_then hb (bxb _ q10.o)))
  clear hb o10 HL HH9 HZ9 HB9
  unfold QV.v
  clear jxm1 jxm2
  go_wp2_with fail
  refine (ofS_any (x := xt) HOf.out 1 3 (by omega) (by omega) (by omega) (by omega) (by omega) Ext.out.symm).mono ?_
  rintro e v11_ ⟨qxt, rfl, oxt, hb⟩
  have HL := Lib.hid (Lxt.out.len oxt)
  have jxt := Lib.hid (And.intro oxt.nm HL.out)
  have hbb := hb
  clear hb oxt HL
  have hA := hbb
  have HH11 := Lib.hid (HH10.out.next hA)
  have HZ11 := Lib.hid (HZ10.out.next hA)
  have HB11 := Lib.hid (below_then HB10.out hA)
  clear HH10 HZ10 HB10
  clear hA
  clear hbb
  unfold QV.v
  go_wp2_with fail
  refine (ofS_any (x := xh) HOf.out 1 2 (by omega) (by omega) (by omega) (by omega) (by omega) Exh.out.symm).mono ?_
  rintro e v12_ ⟨qxh, rfl, oxh, hb⟩
  have HL := Lib.hid (Lxh.out.len oxh)
  have jxh := Lib.hid (And.intro oxh.nm HL.out)
  have hbb := hb
  clear hb oxh HL
  have hA := hbb
  have HH12 := Lib.hid (HH11.out.next hA)
  have HZ12 := Lib.hid (HZ11.out.next hA)
  have HB12 := Lib.hid (below_then HB11.out hA)
  clear HH11 HZ11 HB11
  clear hA
  have jxt := Lib.hid (And.intro (jxt.out.1.below hbb) jxt.out.2)
  clear hbb
  unfold QV.v
  go_wp2_with fail
  refine (cmpMn (i := -1) HCmp.out jxt.out.1 jxh.out.1 (by have := jxt.out.2; omega) (by have := jxt.out.2; omega) (by have := jxh.out.2; omega) (by have := jxh.out.2; omega) (by rw [Ext.out, Exh.out]; exact qn_c)).mono ?_
  rintro e v13_ ⟨rfl, hb⟩
  have HH13 := Lib.hid (HH12.out.next hb)
  have HZ13 := Lib.hid (HZ12.out.next hb)
  have HB13 := Lib.hid (below_then HB12.out hb)
  clear HH12 HZ12 HB12
  clear hb
  clear jxt jxh
  go_wp2_with fail
  refine (ofS_any (x := xf) HOf.out (-3) 2 (by omega) (by omega) (by omega) (by omega) (by omega) Exf.out.symm).mono ?_
  rintro e v14_ ⟨qxf, rfl, oxf, hb⟩
  have HL := Lib.hid (Lxf.out.len oxf)
  have jxf := Lib.hid (And.intro oxf.nm HL.out)
  have hbb := hb
  clear hb oxf HL
  have hA := hbb
  have HH14 := Lib.hid (HH13.out.next hA)
  have HZ14 := Lib.hid (HZ13.out.next hA)
  have HB14 := Lib.hid (below_then HB13.out hA)
  clear HH13 HZ13 HB13
  clear hA
  clear hbb
  unfold QV.v
  go_wp2_with fail
  refine (wholeMn (z := lo) HFloor.out jxf.out.1 (by have := jxf.out.2; omega) (by have := jxf.out.2; omega) (by rw [Elo.out, Exf.out]; exact qn_lo)).mono ?_
  rintro e v15_ ⟨N15, n15, d15, rfl, o15, hb⟩
  have HL := Lib.hid (Llo.out.len o15)
  have HZ15 : Hid (Held (v15_.alloc (.cells #[.bool (decide (lo < 0)), .slice N15 n15 d15] zT)) [⟨v15_.heap.size, lo, N15, n15, d15⟩]) := Lib.hid ((HZ14.out.next (below_then hb (bxb _ (zo (decide (lo < 0)) N15 n15 d15)))).cons (It.fresh o15 (by have := HL.out; omega)))
  have HH15 : Hid (HeldQ (v15_.alloc (.cells #[.bool (decide (lo < 0)), .slice N15 n15 d15] zT)) [⟨v10_.heap.size, q10, xb⟩, ⟨v3_.heap.size, q3, xa⟩]) := Lib.hid (HH14.out.next (below_then hb (bxb _ (zo (decide (lo < 0)) N15 n15 d15))))
  have HB15 : Hid (Below w.heap.size w (v15_.alloc (.cells #[.bool (decide (lo < 0)), .slice N15 n15 d15] zT))) := Lib.hid (below_then HB14.out (below_then hb (bxb _ (zo (decide (lo < 0)) N15 n15 d15))))
  clear hb o15 HL HH14 HZ14 HB14
  unfold zV zv
  clear jxf
  go_wp2_with fail
  refine (ofS_any (x := xf) HOf.out (-3) 2 (by omega) (by omega) (by omega) (by omega) (by omega) Exf.out.symm).mono ?_
  rintro e v16_ ⟨qxf, rfl, oxf, hb⟩
  have HL := Lib.hid (Lxf.out.len oxf)
  have jxf := Lib.hid (And.intro oxf.nm HL.out)
  have hbb := hb
  clear hb oxf HL
  have hA := hbb
  have HH16 := Lib.hid (HH15.out.next hA)
  have HZ16 := Lib.hid (HZ15.out.next hA)
  have HB16 := Lib.hid (below_then HB15.out hA)
  clear HH15 HZ15 HB15
  clear hA
  clear hbb
  unfold QV.v
  go_wp2_with fail
  refine (wholeMn (z := up) HCeil.out jxf.out.1 (by have := jxf.out.2; omega) (by have := jxf.out.2; omega) (by rw [Eup.out, Exf.out]; exact qn_up)).mono ?_
  rintro e v17_ ⟨N17, n17, d17, rfl, o17, hb⟩
  have HL := Lib.hid (Lup.out.len o17)
  have HZ17 : Hid (Held (v17_.alloc (.cells #[.bool (decide (up < 0)), .slice N17 n17 d17] zT)) [⟨v17_.heap.size, up, N17, n17, d17⟩, ⟨v15_.heap.size, lo, N15, n15, d15⟩]) := Lib.hid ((HZ16.out.next (below_then hb (bxb _ (zo (decide (up < 0)) N17 n17 d17)))).cons (It.fresh o17 (by have := HL.out; omega)))
  have HH17 : Hid (HeldQ (v17_.alloc (.cells #[.bool (decide (up < 0)), .slice N17 n17 d17] zT)) [⟨v10_.heap.size, q10, xb⟩, ⟨v3_.heap.size, q3, xa⟩]) := Lib.hid (HH16.out.next (below_then hb (bxb _ (zo (decide (up < 0)) N17 n17 d17))))
  have HB17 : Hid (Below w.heap.size w (v17_.alloc (.cells #[.bool (decide (up < 0)), .slice N17 n17 d17] zT))) := Lib.hid (below_then HB16.out (below_then hb (bxb _ (zo (decide (up < 0)) N17 n17 d17))))
  clear hb o17 HL HH16 HZ16 HB16
  unfold zV zv
  clear jxf
  go_wp2_with fail
  refine (ofS_any (x := xh) HOf.out 1 2 (by omega) (by omega) (by omega) (by omega) (by omega) Exh.out.symm).mono ?_
  rintro e v18_ ⟨qxh, rfl, oxh, hb⟩
  have HL := Lib.hid (Lxh.out.len oxh)
  have jxh := Lib.hid (And.intro oxh.nm HL.out)
  have hbb := hb
  clear hb oxh HL
  have hA := hbb
  have HH18 := Lib.hid (HH17.out.next hA)
  have HZ18 := Lib.hid (HZ17.out.next hA)
  have HB18 := Lib.hid (below_then HB17.out hA)
  clear HH17 HZ17 HB17
  clear hA
  clear hbb
  unfold QV.v
  go_wp2_with fail
  refine (ofS_any (x := xz) HOf.out 0 1 (by omega) (by omega) (by omega) (by omega) (by omega) Exz.out.symm).mono ?_
  rintro e v19_ ⟨qxz, rfl, oxz, hb⟩
  have HL := Lib.hid (Lxz.out.len oxz)
  have jxz := Lib.hid (And.intro oxz.nm HL.out)
  have hbb := hb
  clear hb oxz HL
  have hA := hbb
  have HH19 := Lib.hid (HH18.out.next hA)
  have HZ19 := Lib.hid (HZ18.out.next hA)
  have HB19 := Lib.hid (below_then HB18.out hA)
  clear HH18 HZ18 HB18
  clear hA
  have jxh := Lib.hid (And.intro (jxh.out.1.below hbb) jxh.out.2)
  clear hbb
  unfold QV.v
  go_wp2_with fail
  refine (divM0 HDiv.out jxh.out.1 jxz.out.1 (by have := jxh.out.2; omega) (by have := jxh.out.2; omega) (by have := jxz.out.2; omega) (by have := jxz.out.2; omega) (by rw [Exz.out]; decide +kernel)).mono ?_
  rintro e v20_ ⟨rfl, hb⟩
  have HH20 := Lib.hid (HH19.out.next hb)
  have HZ20 := Lib.hid (HZ19.out.next hb)
  have HB20 := Lib.hid (below_then HB19.out hb)
  clear HH19 HZ19 HB19
  clear hb
  have hA := bxb v20_ qz
  have HH21 := Lib.hid (HH20.out.next hA)
  have HZ21 := Lib.hid (HZ20.out.next hA)
  have HB21 := Lib.hid (below_then HB20.out hA)
  clear HH20 HZ20 HB20
  clear hA
  clear jxh jxz
  have cxa0 := (HH21.out _ (.tail _ (.head _))).b.c0
  have cxa1 := (HH21.out _ (.tail _ (.head _))).b.c1
  have cxa2 := (HH21.out _ (.tail _ (.head _))).b.c2
  go_wp2_with fail
  refine (tells_any HText.out (HH21.out _ (.tail _ (.head _))).m (HH21.out _ (.tail _ (.head _))).ln (HH21.out _ (.tail _ (.head _))).ld _ TA.out).mono ?_
  rintro e v22_ ⟨rfl, hb⟩
  have HH22 := Lib.hid (HH21.out.next hb)
  have HZ22 := Lib.hid (HZ21.out.next hb)
  have HB22 := Lib.hid (below_then HB21.out hb)
  clear HH21 HZ21 HB21
  clear hb
  clear cxa0 cxa1 cxa2
  have cxb0 := (HH22.out _ (.head _)).b.c0
  have cxb1 := (HH22.out _ (.head _)).b.c1
  have cxb2 := (HH22.out _ (.head _)).b.c2
  go_wp2_with fail
  refine (tells_any HText.out (HH22.out _ (.head _)).m (HH22.out _ (.head _)).ln (HH22.out _ (.head _)).ld _ TB.out).mono ?_
  rintro e v23_ ⟨rfl, hb⟩
  have HH23 := Lib.hid (HH22.out.next hb)
  have HZ23 := Lib.hid (HZ22.out.next hb)
  have HB23 := Lib.hid (below_then HB22.out hb)
  clear HH22 HZ22 HB22
  clear hb
  clear cxb0 cxb1 cxb2
  have xlo0 := (HZ23.out _ (.tail _ (.head _))).b.c0
  have xlo1 := (HZ23.out _ (.tail _ (.head _))).b.c1
  have xup0 := (HZ23.out _ (.head _)).b.c0
  have xup1 := (HZ23.out _ (.head _)).b.c1
  have HHd := Lib.hid (HH23.out.next (Below.refl _ _).drew)
  have HZd := Lib.hid (HZ23.out.next (Below.refl _ _).drew)
  have HBd := Lib.hid (below_then HB23.out (Below.refl _ _).drew)
  go_wp2_with fail
  go_region_held3 (fun W' => W'.cell? ⟨v15_.heap.size, 0, none⟩ = some (.bool (decide (lo < 0))) ∧ W'.cell? ⟨v15_.heap.size, 1, none⟩ = some (.slice N15 n15 d15) ∧ W'.cell? ⟨v17_.heap.size, 0, none⟩ = some (.bool (decide (up < 0))) ∧ W'.cell? ⟨v17_.heap.size, 1, none⟩ = some (.slice N17 n17 d17)) (first | (with_reducible exact ⟨xlo0, xlo1, xup0, xup1⟩) | (with_reducible refine ⟨cell_far (cell_far (xlo0) ?_ _) ?_ _, cell_far (cell_far (xlo1) ?_ _) ?_ _, cell_far (cell_far (xup0) ?_ _) ?_ _, cell_far (cell_far (xup1) ?_ _) ?_ _⟩ <;> omega) | go_keep)
    (first
      | (have hmk5 := HBr5; go_at_call 19; refine (check0 HCheck.out).mono ?_; rintro e ur6_ ⟨rfl, hbr6⟩; have HHr6 := Lib.hid (HHr5.out.next hbr6); have HZr6 := Lib.hid (HZr5.out.next hbr6); have HBr6 := Lib.hid (below_then HBr5.out hbr6); clear xlo0 xlo1 xup0 xup1; have xlo0 := (HZr6.out _ (.tail _ (.head _))).b.c0; have xlo1 := (HZr6.out _ (.tail _ (.head _))).b.c1; have xup0 := (HZr6.out _ (.head _)).b.c0; have xup1 := (HZr6.out _ (.head _)).b.c1; (try unfold QV.v); (try unfold zV); (try unfold zv))
      | (have hmk4 := HBr4; go_at_call 18; refine (sameT (HZr4.out _ (.head _)).m Hb.out (HZr4.out _ (.head _)).l lb rfl).mono ?_; rintro e ur5_ ⟨rfl, hbr5⟩; have HHr5 := Lib.hid (HHr4.out.next hbr5); have HZr5 := Lib.hid (HZr4.out.next hbr5); have HBr5 := Lib.hid (below_then HBr4.out hbr5); clear xlo0 xlo1 xup0 xup1; have xlo0 := (HZr5.out _ (.tail _ (.head _))).b.c0; have xlo1 := (HZr5.out _ (.tail _ (.head _))).b.c1; have xup0 := (HZr5.out _ (.head _)).b.c0; have xup1 := (HZr5.out _ (.head _)).b.c1; (try unfold QV.v); (try unfold zV); (try unfold zv))
      | (have hmk3 := HBr3; go_at_call 9; refine (wofM _ Eup.out (by omega) (by omega)).mono ?_; rintro e ur4_ ⟨Pb, pb, qb, rfl, oob, hbr4⟩; have HHr4 := Lib.hid (HHr3.out.next hbr4); have HZr4 := Lib.hid (HZr3.out.next hbr4); have HBr4 := Lib.hid (below_then HBr3.out hbr4); clear xlo0 xlo1 xup0 xup1; have xlo0 := (HZr4.out _ (.tail _ (.head _))).b.c0; have xlo1 := (HZr4.out _ (.tail _ (.head _))).b.c1; have xup0 := (HZr4.out _ (.head _)).b.c0; have xup1 := (HZr4.out _ (.head _)).b.c1; have lb : pb ≤ 400 := Nat.le_trans (Lup.out.len oob) (by omega); have Hb := Lib.hid oob.nm; (try unfold QV.v); (try unfold zV); (try unfold zv))
      | (have hmk2 := HBr2; go_at_call 18; refine (sameT (HZr2.out _ (.tail _ (.head _))).m Ha.out (HZr2.out _ (.tail _ (.head _))).l la rfl).mono ?_; rintro e ur3_ ⟨rfl, hbr3⟩; have HHr3 := Lib.hid (HHr2.out.next hbr3); have HZr3 := Lib.hid (HZr2.out.next hbr3); have HBr3 := Lib.hid (below_then HBr2.out hbr3); clear xlo0 xlo1 xup0 xup1; have xlo0 := (HZr3.out _ (.tail _ (.head _))).b.c0; have xlo1 := (HZr3.out _ (.tail _ (.head _))).b.c1; have xup0 := (HZr3.out _ (.head _)).b.c0; have xup1 := (HZr3.out _ (.head _)).b.c1; (try unfold QV.v); (try unfold zV); (try unfold zv))
      | (have hmk1 := HBr1; go_at_call 9; refine (wofM _ Elo.out (by omega) (by omega)).mono ?_; rintro e ur2_ ⟨Pa, pa, qa, rfl, ooa, hbr2⟩; have HHr2 := Lib.hid (HHr1.out.next hbr2); have HZr2 := Lib.hid (HZr1.out.next hbr2); have HBr2 := Lib.hid (below_then HBr1.out hbr2); clear xlo0 xlo1 xup0 xup1; have xlo0 := (HZr2.out _ (.tail _ (.head _))).b.c0; have xlo1 := (HZr2.out _ (.tail _ (.head _))).b.c1; have xup0 := (HZr2.out _ (.head _)).b.c0; have xup1 := (HZr2.out _ (.head _)).b.c1; have la : pa ≤ 400 := Nat.le_trans (Llo.out.len ooa) (by omega); have Ha := Lib.hid ooa.nm; (try unfold QV.v); (try unfold zV); (try unfold zv))
      | (go_at_call 17; refine (HAl.out _).mono ?_; rintro e ur1_ ⟨rfl, hbr1⟩; have HHr1 := Lib.hid (HHd.out.next hbr1); have HZr1 := Lib.hid (HZd.out.next hbr1); have HBr1 := Lib.hid (below_then HBd.out hbr1); clear xlo0 xlo1 xup0 xup1; have xlo0 := (HZr1.out _ (.tail _ (.head _))).b.c0; have xlo1 := (HZr1.out _ (.tail _ (.head _))).b.c1; have xup0 := (HZr1.out _ (.head _)).b.c0; have xup1 := (HZr1.out _ (.head _)).b.c1; (try unfold QV.v); (try unfold zV); (try unfold zv)))
  clear xlo0 xlo1 xup0 xup1
  have HH24 := HHr6
  have HZ24 := HZr6
  have HB24 := HBr6
  go_wp2
  go_ret
  exact ⟨by simp, HB24.out⟩
end Go.Proofs.YtbldimplddiheaaGreatDoor

/- The law RatNames. -/
namespace Go.Proofs.YtbldimplddiheaaGreatDoor
open Go.RowKit Go.Shelf
set_option linter.unusedVariables false

theorem namesQ_all (w : World) : Calls Tryz.prog 3 #[] w fun e w' => e = .returned (.bool true) ∧ Below w.heap.size w w' :=
  namesQ_any (fun W => qalive_any qof_is qadd_is qdiv_is qtext_is W) qof_is qmul_is qdiv_is qcmp_is checkQ_is qfloor_is qceil_is qtext_is w
end Go.Proofs.YtbldimplddiheaaGreatDoor
