import Derived.Test.YtbldimplddiheaaGreatDoorKQN
import Derived.Test.YtbldimplddiheaaGreatDoorKQWords
import Derived.Test.YtbldimplddiheaaGreatDoorKQJ
import Derived.Test.YtbldimplddiheaaGreatDoorKQG
import Derived.Test.YtbldimplddiheaaGreatDoorKQFr
/- QField QField0 QFieldA QEndF. -/
/- The law RatField, from what the calls of rat are. -/
namespace Go.Proofs.YtbldimplddiheaaGreatDoor
open Go.RowKit Go.Shelf
set_option linter.unusedVariables false
set_option linter.unusedSimpArgs false

theorem sameQT {w : World} {v v2 : QV} {x y : Rat} {F : Nat} (hF : SameQIs F) (h1 : QNm w v x) (h2 : QNm w v2 y) (l1 : v.n ≤ 60) (l2 : v.m ≤ 60) (l3 : v2.n ≤ 60) (l4 : v2.m ≤ 60) (e : x = y) : Calls Tryz.prog F #[v.v, v2.v] w fun e w' => e = .returned (.bool true) ∧ Below w.heap.size w w' := by
  have h := sameQN hF h1 h2 l1 l2 l3 l4
  rwa [decide_eq_true e] at h
set_option maxRecDepth 100000 in
set_option maxHeartbeats 20000000 in
theorem fieldQ_ok (va vb vc : QV) (x y z : Rat) (w : World) (hva : QNm w va x) (hvb : QNm w vb y) (hvc : QNm w vc z) (l1 : va.n ≤ 8 ∧ va.m ≤ 8) (l2 : vb.n ≤ 8 ∧ vb.m ≤ 8) (l3 : vc.n ≤ 8 ∧ vc.m ≤ 8) (hy : y ≠ 0)
    (hAl : ∀ W, Calls Tryz.prog 17 #[] W fun e w' => e = .returned (.bool true) ∧ Below W.heap.size W w')
    (hAdd : OpQIs (fun x y => x + y) 21) (hSub : OpQIs (fun x y => x - y) 23) (hMul : OpQIs (fun x y => x * y) 10) (hDiv : DivQIs 15) (hCheck : CheckQIs 19) :
    Calls Tryz.prog 5 #[va.v, vb.v, vc.v] w fun e w' => e = .returned (.bool true) ∧ Below w.heap.size w w' := by
  have nva : va.n ≤ 60 := by omega
  have nvb : vb.n ≤ 60 := by omega
  have nvc : vc.n ≤ 60 := by omega
  have mva : va.m ≤ 60 := by omega
  have mvb : vb.m ≤ 60 := by omega
  have mvc : vc.m ≤ 60 := by omega
  have Lx : Hid (BdQ 8 8 x) := BdQ.of hva l1.1 l1.2
  have Ly : Hid (BdQ 8 8 y) := BdQ.of hvb l2.1 l2.2
  have Lz : Hid (BdQ 8 8 z) := BdQ.of hvc l3.1 l3.2
  have G1 := Lib.hid (fun W (n : Int) => rGreat_any (v := va) (w := W) n)
  have G2 := Lib.hid (fun W (n : Int) => rGreat_any (v := vb) (w := W) n)
  have G3 := Lib.hid (fun W (n : Int) => rGreat_any (v := vc) (w := W) n)
  have g1 : ∀ (n m : Nat), n ≤ 8 ∧ m ≤ 8 → (decide ((8 : Int) < (n : Int)) || decide ((8 : Int) < (m : Int))) = false := fun n m h => by simp; omega
  have HAl := Lib.hid hAl
  have HAdd := Lib.hid hAdd
  have HSub := Lib.hid hSub
  have HMul := Lib.hid hMul
  have HDiv := Lib.hid hDiv
  have HCheck := Lib.hid hCheck
  have HY := Lib.hid hy
  have GG := Lib.hid (And.intro (g1 _ _ l1) (And.intro (g1 _ _ l2) (g1 _ _ l3)))
  clear hAl hAdd hSub hMul hDiv hCheck hy g1
  obtain ⟨ab, eab⟩ : ∃ s : Rat, s = x + y := ⟨_, rfl⟩
  have Lab : Hid (BdQ 17 16 ab) := by show BdQ _ _ _; rw [eab]; exact Lx.out.add Ly.out (K := 16) (by omega) (by omega)
  have Eab := Lib.hid eab
  clear eab
  obtain ⟨ba, eba⟩ : ∃ s : Rat, s = y + x := ⟨_, rfl⟩
  have Lba : Hid (BdQ 17 16 ba) := by show BdQ _ _ _; rw [eba]; exact Ly.out.add Lx.out (K := 16) (by omega) (by omega)
  have Eba := Lib.hid eba
  clear eba
  obtain ⟨bc, ebc⟩ : ∃ s : Rat, s = y + z := ⟨_, rfl⟩
  have Lbc : Hid (BdQ 17 16 bc) := by show BdQ _ _ _; rw [ebc]; exact Ly.out.add Lz.out (K := 16) (by omega) (by omega)
  have Ebc := Lib.hid ebc
  clear ebc
  obtain ⟨u1, eu1⟩ : ∃ s : Rat, s = ab + z := ⟨_, rfl⟩
  have Lu1 : Hid (BdQ 26 24 u1) := by show BdQ _ _ _; rw [eu1]; exact Lab.out.add Lz.out (K := 25) (by omega) (by omega)
  have Eu1 := Lib.hid eu1
  clear eu1
  obtain ⟨u2, eu2⟩ : ∃ s : Rat, s = x + bc := ⟨_, rfl⟩
  have Lu2 : Hid (BdQ 26 24 u2) := by show BdQ _ _ _; rw [eu2]; exact Lx.out.add Lbc.out (K := 25) (by omega) (by omega)
  have Eu2 := Lib.hid eu2
  clear eu2
  obtain ⟨pp, epp⟩ : ∃ s : Rat, s = x * y := ⟨_, rfl⟩
  have Lpp : Hid (BdQ 16 16 pp) := by show BdQ _ _ _; rw [epp]; exact Lx.out.mul Ly.out
  have Epp := Lib.hid epp
  clear epp
  obtain ⟨qq, eqq⟩ : ∃ s : Rat, s = y * x := ⟨_, rfl⟩
  have Lqq : Hid (BdQ 16 16 qq) := by show BdQ _ _ _; rw [eqq]; exact Ly.out.mul Lx.out
  have Eqq := Lib.hid eqq
  clear eqq
  obtain ⟨ac, eac⟩ : ∃ s : Rat, s = x * z := ⟨_, rfl⟩
  have Lac : Hid (BdQ 16 16 ac) := by show BdQ _ _ _; rw [eac]; exact Lx.out.mul Lz.out
  have Eac := Lib.hid eac
  clear eac
  obtain ⟨uu, euu⟩ : ∃ s : Rat, s = x * bc := ⟨_, rfl⟩
  have Luu : Hid (BdQ 25 24 uu) := by show BdQ _ _ _; rw [euu]; exact Lx.out.mul Lbc.out
  have Euu := Lib.hid euu
  clear euu
  obtain ⟨vv, evv⟩ : ∃ s : Rat, s = pp + ac := ⟨_, rfl⟩
  have Lvv : Hid (BdQ 33 32 vv) := by show BdQ _ _ _; rw [evv]; exact Lpp.out.add Lac.out (K := 32) (by omega) (by omega)
  have Evv := Lib.hid evv
  clear evv
  obtain ⟨mm, emm⟩ : ∃ s : Rat, s = y * z := ⟨_, rfl⟩
  have Lmm : Hid (BdQ 16 16 mm) := by show BdQ _ _ _; rw [emm]; exact Ly.out.mul Lz.out
  have Emm := Lib.hid emm
  clear emm
  obtain ⟨nn, enn⟩ : ∃ s : Rat, s = pp * z := ⟨_, rfl⟩
  have Lnn : Hid (BdQ 24 24 nn) := by show BdQ _ _ _; rw [enn]; exact Lpp.out.mul Lz.out
  have Enn := Lib.hid enn
  clear enn
  obtain ⟨oo, eoo⟩ : ∃ s : Rat, s = x * mm := ⟨_, rfl⟩
  have Loo : Hid (BdQ 24 24 oo) := by show BdQ _ _ _; rw [eoo]; exact Lx.out.mul Lmm.out
  have Eoo := Lib.hid eoo
  clear eoo
  obtain ⟨dd, edd⟩ : ∃ s : Rat, s = x - y := ⟨_, rfl⟩
  have Ldd : Hid (BdQ 17 16 dd) := by show BdQ _ _ _; rw [edd]; exact Lx.out.sub Ly.out (K := 16) (by omega) (by omega)
  have Edd := Lib.hid edd
  clear edd
  obtain ⟨bk, ebk⟩ : ∃ s : Rat, s = dd + y := ⟨_, rfl⟩
  have Lbk : Hid (BdQ 26 24 bk) := by show BdQ _ _ _; rw [ebk]; exact Ldd.out.add Ly.out (K := 25) (by omega) (by omega)
  have Ebk := Lib.hid ebk
  clear ebk
  obtain ⟨zq, ezq⟩ : ∃ s : Rat, s = x / y := ⟨_, rfl⟩
  have Lzq : Hid (BdQ 16 16 zq) := by show BdQ _ _ _; rw [ezq]; exact Lx.out.div Ly.out HY.out
  have Ezq := Lib.hid ezq
  clear ezq
  obtain ⟨wq, ewq⟩ : ∃ s : Rat, s = zq * y := ⟨_, rfl⟩
  have Lwq : Hid (BdQ 24 24 wq) := by show BdQ _ _ _; rw [ewq]; exact Lzq.out.mul Ly.out
  have Ewq := Lib.hid ewq
  clear ewq
  have Q : Hid (ab = ba ∧ u1 = u2 ∧ pp = qq ∧ uu = vv ∧ nn = oo ∧ bk = x ∧ wq = x) := by
    refine ⟨?_, ?_, ?_, ?_, ?_, ?_, ?_⟩
    · rw [Eab.out, Eba.out, Rat.add_comm]
    · rw [Eu1.out, Eu2.out, Eab.out, Ebc.out, Rat.add_assoc]
    · rw [Epp.out, Eqq.out, Rat.mul_comm]
    · rw [Euu.out, Evv.out, Epp.out, Eac.out, Ebc.out, Rat.mul_add]
    · rw [Enn.out, Eoo.out, Epp.out, Emm.out, Rat.mul_assoc]
    · rw [Ebk.out, Edd.out, Rat.sub_add_cancel]
    · rw [Ewq.out, Ezq.out, Rat.div_mul_cancel HY.out]
  have HSame : Hid (SameQIs 28) := fun _ _ _ _ _ _ _ h1 h2 => rSameQ_any h1 h2
  have K0 := heldq_nil w
  have D0 := Below.refl w.heap.size w
  have K1 := (K0.next (bxb _ va.o)).cons (IQ.param (hva) nva mva)
  have D1 := below_then D0 (bxb _ va.o)
  have K2 := (K1.next (bxb _ vb.o)).cons (IQ.param (hvb.below D1) nvb mvb)
  have D2 := below_then D1 (bxb _ vb.o)
  have K3 := (K2.next (bxb _ vc.o)).cons (IQ.param (hvc.below D2) nvc mvc)
  have D3 := below_then D2 (bxb _ vc.o)
  try simp only [World.size_alloc] at K3
  have HH0 := Lib.hid K3
  have HB0 := Lib.hid D3
  clear K0 D0 K1 D1 K2 D2 K3 D3
  clear hva hvb hvc
  clear l1 l2 l3
  try dsimp only [QV.v]
  go_enter Tryz.func5, Tryz.ntmps5
  go_wp2_with fail
  refine (HAl.out _).mono ?_
  rintro e v1_ ⟨rfl, hb⟩
  have HH1 := Lib.hid (HH0.out.next hb)
  have HB1 := Lib.hid (below_then HB0.out hb)
  clear hb HH0 HB0
  have cx0 := (HH1.out _ (.tail _ (.tail _ (.head _)))).b.c0
  have cx1 := (HH1.out _ (.tail _ (.tail _ (.head _)))).b.c1
  have cx2 := (HH1.out _ (.tail _ (.tail _ (.head _)))).b.c2
  have cy0 := (HH1.out _ (.tail _ (.head _))).b.c0
  have cy1 := (HH1.out _ (.tail _ (.head _))).b.c1
  have cy2 := (HH1.out _ (.tail _ (.head _))).b.c2
  have cz0 := (HH1.out _ (.head _)).b.c0
  have cz1 := (HH1.out _ (.head _)).b.c1
  have cz2 := (HH1.out _ (.head _)).b.c2
  go_wp2_with fail
  refine (G1.out _ 8).mono ?_
  rintro e v2_ ⟨rfl, hb⟩
  have HH2 := Lib.hid (HH1.out.next hb)
  have HB2 := Lib.hid (below_then HB1.out hb)
  clear hb HH1 HB1
  rw [GG.out.1]
  clear cx0 cx1 cx2 cy0 cy1 cy2 cz0 cz1 cz2
  have cx0 := (HH2.out _ (.tail _ (.tail _ (.head _)))).b.c0
  have cx1 := (HH2.out _ (.tail _ (.tail _ (.head _)))).b.c1
  have cx2 := (HH2.out _ (.tail _ (.tail _ (.head _)))).b.c2
  have cy0 := (HH2.out _ (.tail _ (.head _))).b.c0
  have cy1 := (HH2.out _ (.tail _ (.head _))).b.c1
  have cy2 := (HH2.out _ (.tail _ (.head _))).b.c2
  have cz0 := (HH2.out _ (.head _)).b.c0
  have cz1 := (HH2.out _ (.head _)).b.c1
  have cz2 := (HH2.out _ (.head _)).b.c2
  go_wp2_with fail
  refine (G2.out _ 8).mono ?_
  rintro e v3_ ⟨rfl, hb⟩
  have HH3 := Lib.hid (HH2.out.next hb)
  have HB3 := Lib.hid (below_then HB2.out hb)
  clear hb HH2 HB2
  rw [GG.out.2.1]
  clear cx0 cx1 cx2 cy0 cy1 cy2 cz0 cz1 cz2
  have cx0 := (HH3.out _ (.tail _ (.tail _ (.head _)))).b.c0
  have cx1 := (HH3.out _ (.tail _ (.tail _ (.head _)))).b.c1
  have cx2 := (HH3.out _ (.tail _ (.tail _ (.head _)))).b.c2
  have cy0 := (HH3.out _ (.tail _ (.head _))).b.c0
  have cy1 := (HH3.out _ (.tail _ (.head _))).b.c1
  have cy2 := (HH3.out _ (.tail _ (.head _))).b.c2
  have cz0 := (HH3.out _ (.head _)).b.c0
  have cz1 := (HH3.out _ (.head _)).b.c1
  have cz2 := (HH3.out _ (.head _)).b.c2
  go_wp2_with fail
  refine (G3.out _ 8).mono ?_
  rintro e v4_ ⟨rfl, hb⟩
  have HH4 := Lib.hid (HH3.out.next hb)
  have HB4 := Lib.hid (below_then HB3.out hb)
  clear hb HH3 HB3
  rw [GG.out.2.2]
  clear cx0 cx1 cx2 cy0 cy1 cy2 cz0 cz1 cz2
  have cx0 := (HH4.out _ (.tail _ (.tail _ (.head _)))).b.c0
  have cx1 := (HH4.out _ (.tail _ (.tail _ (.head _)))).b.c1
  have cx2 := (HH4.out _ (.tail _ (.tail _ (.head _)))).b.c2
  have cy0 := (HH4.out _ (.tail _ (.head _))).b.c0
  have cy1 := (HH4.out _ (.tail _ (.head _))).b.c1
  have cy2 := (HH4.out _ (.tail _ (.head _))).b.c2
  have cz0 := (HH4.out _ (.head _)).b.c0
  have cz1 := (HH4.out _ (.head _)).b.c1
  have cz2 := (HH4.out _ (.head _)).b.c2
  go_wp2_with fail
  refine (checkQN HCheck.out (HH4.out _ (.tail _ (.tail _ (.head _)))).m (HH4.out _ (.tail _ (.tail _ (.head _)))).ln (HH4.out _ (.tail _ (.tail _ (.head _)))).ld).mono ?_
  rintro e v5_ ⟨rfl, hb⟩
  have HH5 := Lib.hid (HH4.out.next hb)
  have HB5 := Lib.hid (below_then HB4.out hb)
  clear hb HH4 HB4
  clear cx0 cx1 cx2 cy0 cy1 cy2 cz0 cz1 cz2
  have cx0 := (HH5.out _ (.tail _ (.tail _ (.head _)))).b.c0
  have cx1 := (HH5.out _ (.tail _ (.tail _ (.head _)))).b.c1
  have cx2 := (HH5.out _ (.tail _ (.tail _ (.head _)))).b.c2
  have cy0 := (HH5.out _ (.tail _ (.head _))).b.c0
  have cy1 := (HH5.out _ (.tail _ (.head _))).b.c1
  have cy2 := (HH5.out _ (.tail _ (.head _))).b.c2
  have cz0 := (HH5.out _ (.head _)).b.c0
  have cz1 := (HH5.out _ (.head _)).b.c1
  have cz2 := (HH5.out _ (.head _)).b.c2
  go_wp2_with fail
  refine (checkQN HCheck.out (HH5.out _ (.tail _ (.head _))).m (HH5.out _ (.tail _ (.head _))).ln (HH5.out _ (.tail _ (.head _))).ld).mono ?_
  rintro e v6_ ⟨rfl, hb⟩
  have HH6 := Lib.hid (HH5.out.next hb)
  have HB6 := Lib.hid (below_then HB5.out hb)
  clear hb HH5 HB5
  clear cx0 cx1 cx2 cy0 cy1 cy2 cz0 cz1 cz2
  have cx0 := (HH6.out _ (.tail _ (.tail _ (.head _)))).b.c0
  have cx1 := (HH6.out _ (.tail _ (.tail _ (.head _)))).b.c1
  have cx2 := (HH6.out _ (.tail _ (.tail _ (.head _)))).b.c2
  have cy0 := (HH6.out _ (.tail _ (.head _))).b.c0
  have cy1 := (HH6.out _ (.tail _ (.head _))).b.c1
  have cy2 := (HH6.out _ (.tail _ (.head _))).b.c2
  have cz0 := (HH6.out _ (.head _)).b.c0
  have cz1 := (HH6.out _ (.head _)).b.c1
  have cz2 := (HH6.out _ (.head _)).b.c2
  go_wp2_with fail
  refine (checkQN HCheck.out (HH6.out _ (.head _)).m (HH6.out _ (.head _)).ln (HH6.out _ (.head _)).ld).mono ?_
  rintro e v7_ ⟨rfl, hb⟩
  have HH7 := Lib.hid (HH6.out.next hb)
  have HB7 := Lib.hid (below_then HB6.out hb)
  clear hb HH6 HB6
  clear cx0 cx1 cx2 cy0 cy1 cy2 cz0 cz1 cz2
  have cx0 := (HH7.out _ (.tail _ (.tail _ (.head _)))).b.c0
  have cx1 := (HH7.out _ (.tail _ (.tail _ (.head _)))).b.c1
  have cx2 := (HH7.out _ (.tail _ (.tail _ (.head _)))).b.c2
  have cy0 := (HH7.out _ (.tail _ (.head _))).b.c0
  have cy1 := (HH7.out _ (.tail _ (.head _))).b.c1
  have cy2 := (HH7.out _ (.tail _ (.head _))).b.c2
  have cz0 := (HH7.out _ (.head _)).b.c0
  have cz1 := (HH7.out _ (.head _)).b.c1
  have cz2 := (HH7.out _ (.head _)).b.c2
  go_wp2_with fail
  refine (Eab.out ▸ opN HAdd.out (HH7.out _ (.tail _ (.tail _ (.head _)))).m (HH7.out _ (.tail _ (.head _))).m (HH7.out _ (.tail _ (.tail _ (.head _)))).ln (HH7.out _ (.tail _ (.tail _ (.head _)))).ld (HH7.out _ (.tail _ (.head _))).ln (HH7.out _ (.tail _ (.head _))).ld).mono ?_
  rintro e v8_ ⟨q8, rfl, o8, hb⟩
  have HL := Lib.hid (Lab.out.len o8)
  have HH8 : Hid (HeldQ (v8_.alloc (.cells #[.bool q8.p, .slice q8.A q8.n q8.c, .slice q8.D q8.m q8.d] qT)) [⟨v8_.heap.size, q8, ab⟩, ⟨w.heap.size + 1 + 1, vc, z⟩, ⟨w.heap.size + 1, vb, y⟩, ⟨w.heap.size, va, x⟩]) := Lib.hid ((HH7.out.next (below_then hb (bxb _ q8.o))).cons (IQ.fresh o8 (by have := HL.out; omega) (by have := HL.out; omega)))
  have HB8 : Hid (Below w.heap.size w (v8_.alloc (.cells #[.bool q8.p, .slice q8.A q8.n q8.c, .slice q8.D q8.m q8.d] qT))) := Lib.hid (below_then HB7.out (below_then hb (bxb _ q8.o)))
  clear hb o8 HL HH7 HB7
  unfold QV.v
  clear cx0 cx1 cx2 cy0 cy1 cy2 cz0 cz1 cz2
  have cy0 := (HH8.out _ (.tail _ (.tail _ (.head _)))).b.c0
  have cy1 := (HH8.out _ (.tail _ (.tail _ (.head _)))).b.c1
  have cy2 := (HH8.out _ (.tail _ (.tail _ (.head _)))).b.c2
  have cx0 := (HH8.out _ (.tail _ (.tail _ (.tail _ (.head _))))).b.c0
  have cx1 := (HH8.out _ (.tail _ (.tail _ (.tail _ (.head _))))).b.c1
  have cx2 := (HH8.out _ (.tail _ (.tail _ (.tail _ (.head _))))).b.c2
  go_wp2_with fail
  refine (Eba.out ▸ opN HAdd.out (HH8.out _ (.tail _ (.tail _ (.head _)))).m (HH8.out _ (.tail _ (.tail _ (.tail _ (.head _))))).m (HH8.out _ (.tail _ (.tail _ (.head _)))).ln (HH8.out _ (.tail _ (.tail _ (.head _)))).ld (HH8.out _ (.tail _ (.tail _ (.tail _ (.head _))))).ln (HH8.out _ (.tail _ (.tail _ (.tail _ (.head _))))).ld).mono ?_
  rintro e v9_ ⟨q9, rfl, o9, hb⟩
  have HL := Lib.hid (Lba.out.len o9)
  have HH9 : Hid (HeldQ (v9_.alloc (.cells #[.bool q9.p, .slice q9.A q9.n q9.c, .slice q9.D q9.m q9.d] qT)) [⟨v9_.heap.size, q9, ba⟩, ⟨v8_.heap.size, q8, ab⟩, ⟨w.heap.size + 1 + 1, vc, z⟩, ⟨w.heap.size + 1, vb, y⟩, ⟨w.heap.size, va, x⟩]) := Lib.hid ((HH8.out.next (below_then hb (bxb _ q9.o))).cons (IQ.fresh o9 (by have := HL.out; omega) (by have := HL.out; omega)))
  have HB9 : Hid (Below w.heap.size w (v9_.alloc (.cells #[.bool q9.p, .slice q9.A q9.n q9.c, .slice q9.D q9.m q9.d] qT))) := Lib.hid (below_then HB8.out (below_then hb (bxb _ q9.o)))
  clear hb o9 HL HH8 HB8
  unfold QV.v
  clear cy0 cy1 cy2 cx0 cx1 cx2
  have cy0 := (HH9.out _ (.tail _ (.tail _ (.tail _ (.head _))))).b.c0
  have cy1 := (HH9.out _ (.tail _ (.tail _ (.tail _ (.head _))))).b.c1
  have cy2 := (HH9.out _ (.tail _ (.tail _ (.tail _ (.head _))))).b.c2
  have cz0 := (HH9.out _ (.tail _ (.tail _ (.head _)))).b.c0
  have cz1 := (HH9.out _ (.tail _ (.tail _ (.head _)))).b.c1
  have cz2 := (HH9.out _ (.tail _ (.tail _ (.head _)))).b.c2
  go_wp2_with fail
  refine (Ebc.out ▸ opN HAdd.out (HH9.out _ (.tail _ (.tail _ (.tail _ (.head _))))).m (HH9.out _ (.tail _ (.tail _ (.head _)))).m (HH9.out _ (.tail _ (.tail _ (.tail _ (.head _))))).ln (HH9.out _ (.tail _ (.tail _ (.tail _ (.head _))))).ld (HH9.out _ (.tail _ (.tail _ (.head _)))).ln (HH9.out _ (.tail _ (.tail _ (.head _)))).ld).mono ?_
  rintro e v10_ ⟨q10, rfl, o10, hb⟩
  have HL := Lib.hid (Lbc.out.len o10)
  have HH10 : Hid (HeldQ (v10_.alloc (.cells #[.bool q10.p, .slice q10.A q10.n q10.c, .slice q10.D q10.m q10.d] qT)) [⟨v10_.heap.size, q10, bc⟩, ⟨v9_.heap.size, q9, ba⟩, ⟨v8_.heap.size, q8, ab⟩, ⟨w.heap.size + 1 + 1, vc, z⟩, ⟨w.heap.size + 1, vb, y⟩, ⟨w.heap.size, va, x⟩]) := Lib.hid ((HH9.out.next (below_then hb (bxb _ q10.o))).cons (IQ.fresh o10 (by have := HL.out; omega) (by have := HL.out; omega)))
  have HB10 : Hid (Below w.heap.size w (v10_.alloc (.cells #[.bool q10.p, .slice q10.A q10.n q10.c, .slice q10.D q10.m q10.d] qT))) := Lib.hid (below_then HB9.out (below_then hb (bxb _ q10.o)))
  clear hb o10 HL HH9 HB9
  unfold QV.v
  clear cy0 cy1 cy2 cz0 cz1 cz2
  have cab0 := (HH10.out _ (.tail _ (.tail _ (.head _)))).b.c0
  have cab1 := (HH10.out _ (.tail _ (.tail _ (.head _)))).b.c1
  have cab2 := (HH10.out _ (.tail _ (.tail _ (.head _)))).b.c2
  have cz0 := (HH10.out _ (.tail _ (.tail _ (.tail _ (.head _))))).b.c0
  have cz1 := (HH10.out _ (.tail _ (.tail _ (.tail _ (.head _))))).b.c1
  have cz2 := (HH10.out _ (.tail _ (.tail _ (.tail _ (.head _))))).b.c2
  go_wp2_with fail
  refine (Eu1.out ▸ opN HAdd.out (HH10.out _ (.tail _ (.tail _ (.head _)))).m (HH10.out _ (.tail _ (.tail _ (.tail _ (.head _))))).m (HH10.out _ (.tail _ (.tail _ (.head _)))).ln (HH10.out _ (.tail _ (.tail _ (.head _)))).ld (HH10.out _ (.tail _ (.tail _ (.tail _ (.head _))))).ln (HH10.out _ (.tail _ (.tail _ (.tail _ (.head _))))).ld).mono ?_
  rintro e v11_ ⟨q11, rfl, o11, hb⟩
  have HL := Lib.hid (Lu1.out.len o11)
  have HH11 : Hid (HeldQ (v11_.alloc (.cells #[.bool q11.p, .slice q11.A q11.n q11.c, .slice q11.D q11.m q11.d] qT)) [⟨v11_.heap.size, q11, u1⟩, ⟨v10_.heap.size, q10, bc⟩, ⟨v9_.heap.size, q9, ba⟩, ⟨v8_.heap.size, q8, ab⟩, ⟨w.heap.size + 1 + 1, vc, z⟩, ⟨w.heap.size + 1, vb, y⟩, ⟨w.heap.size, va, x⟩]) := Lib.hid ((HH10.out.next (below_then hb (bxb _ q11.o))).cons (IQ.fresh o11 (by have := HL.out; omega) (by have := HL.out; omega)))
  have HB11 : Hid (Below w.heap.size w (v11_.alloc (.cells #[.bool q11.p, .slice q11.A q11.n q11.c, .slice q11.D q11.m q11.d] qT))) := Lib.hid (below_then HB10.out (below_then hb (bxb _ q11.o)))
  clear hb o11 HL HH10 HB10
  unfold QV.v
  clear cab0 cab1 cab2 cz0 cz1 cz2
  have cx0 := (HH11.out _ (.tail _ (.tail _ (.tail _ (.tail _ (.tail _ (.tail _ (.head _)))))))).b.c0
  have cx1 := (HH11.out _ (.tail _ (.tail _ (.tail _ (.tail _ (.tail _ (.tail _ (.head _)))))))).b.c1
  have cx2 := (HH11.out _ (.tail _ (.tail _ (.tail _ (.tail _ (.tail _ (.tail _ (.head _)))))))).b.c2
  have cbc0 := (HH11.out _ (.tail _ (.head _))).b.c0
  have cbc1 := (HH11.out _ (.tail _ (.head _))).b.c1
  have cbc2 := (HH11.out _ (.tail _ (.head _))).b.c2
  go_wp2_with fail
  refine (Eu2.out ▸ opN HAdd.out (HH11.out _ (.tail _ (.tail _ (.tail _ (.tail _ (.tail _ (.tail _ (.head _)))))))).m (HH11.out _ (.tail _ (.head _))).m (HH11.out _ (.tail _ (.tail _ (.tail _ (.tail _ (.tail _ (.tail _ (.head _)))))))).ln (HH11.out _ (.tail _ (.tail _ (.tail _ (.tail _ (.tail _ (.tail _ (.head _)))))))).ld (HH11.out _ (.tail _ (.head _))).ln (HH11.out _ (.tail _ (.head _))).ld).mono ?_
  rintro e v12_ ⟨q12, rfl, o12, hb⟩
  have HL := Lib.hid (Lu2.out.len o12)
  have HH12 : Hid (HeldQ (v12_.alloc (.cells #[.bool q12.p, .slice q12.A q12.n q12.c, .slice q12.D q12.m q12.d] qT)) [⟨v12_.heap.size, q12, u2⟩, ⟨v11_.heap.size, q11, u1⟩, ⟨v10_.heap.size, q10, bc⟩, ⟨v9_.heap.size, q9, ba⟩, ⟨v8_.heap.size, q8, ab⟩, ⟨w.heap.size + 1 + 1, vc, z⟩, ⟨w.heap.size + 1, vb, y⟩, ⟨w.heap.size, va, x⟩]) := Lib.hid ((HH11.out.next (below_then hb (bxb _ q12.o))).cons (IQ.fresh o12 (by have := HL.out; omega) (by have := HL.out; omega)))
  have HB12 : Hid (Below w.heap.size w (v12_.alloc (.cells #[.bool q12.p, .slice q12.A q12.n q12.c, .slice q12.D q12.m q12.d] qT))) := Lib.hid (below_then HB11.out (below_then hb (bxb _ q12.o)))
  clear hb o12 HL HH11 HB11
  unfold QV.v
  clear cx0 cx1 cx2 cbc0 cbc1 cbc2
  have cx0 := (HH12.out _ (.tail _ (.tail _ (.tail _ (.tail _ (.tail _ (.tail _ (.tail _ (.head _))))))))).b.c0
  have cx1 := (HH12.out _ (.tail _ (.tail _ (.tail _ (.tail _ (.tail _ (.tail _ (.tail _ (.head _))))))))).b.c1
  have cx2 := (HH12.out _ (.tail _ (.tail _ (.tail _ (.tail _ (.tail _ (.tail _ (.tail _ (.head _))))))))).b.c2
  have cy0 := (HH12.out _ (.tail _ (.tail _ (.tail _ (.tail _ (.tail _ (.tail _ (.head _)))))))).b.c0
  have cy1 := (HH12.out _ (.tail _ (.tail _ (.tail _ (.tail _ (.tail _ (.tail _ (.head _)))))))).b.c1
  have cy2 := (HH12.out _ (.tail _ (.tail _ (.tail _ (.tail _ (.tail _ (.tail _ (.head _)))))))).b.c2
  go_wp2_with fail
  refine (Epp.out ▸ opN HMul.out (HH12.out _ (.tail _ (.tail _ (.tail _ (.tail _ (.tail _ (.tail _ (.tail _ (.head _))))))))).m (HH12.out _ (.tail _ (.tail _ (.tail _ (.tail _ (.tail _ (.tail _ (.head _)))))))).m (HH12.out _ (.tail _ (.tail _ (.tail _ (.tail _ (.tail _ (.tail _ (.tail _ (.head _))))))))).ln (HH12.out _ (.tail _ (.tail _ (.tail _ (.tail _ (.tail _ (.tail _ (.tail _ (.head _))))))))).ld (HH12.out _ (.tail _ (.tail _ (.tail _ (.tail _ (.tail _ (.tail _ (.head _)))))))).ln (HH12.out _ (.tail _ (.tail _ (.tail _ (.tail _ (.tail _ (.tail _ (.head _)))))))).ld).mono ?_
  rintro e v13_ ⟨q13, rfl, o13, hb⟩
  have HL := Lib.hid (Lpp.out.len o13)
  have HH13 : Hid (HeldQ (v13_.alloc (.cells #[.bool q13.p, .slice q13.A q13.n q13.c, .slice q13.D q13.m q13.d] qT)) [⟨v13_.heap.size, q13, pp⟩, ⟨v12_.heap.size, q12, u2⟩, ⟨v11_.heap.size, q11, u1⟩, ⟨v10_.heap.size, q10, bc⟩, ⟨v9_.heap.size, q9, ba⟩, ⟨v8_.heap.size, q8, ab⟩, ⟨w.heap.size + 1 + 1, vc, z⟩, ⟨w.heap.size + 1, vb, y⟩, ⟨w.heap.size, va, x⟩]) := Lib.hid ((HH12.out.next (below_then hb (bxb _ q13.o))).cons (IQ.fresh o13 (by have := HL.out; omega) (by have := HL.out; omega)))
  have HB13 : Hid (Below w.heap.size w (v13_.alloc (.cells #[.bool q13.p, .slice q13.A q13.n q13.c, .slice q13.D q13.m q13.d] qT))) := Lib.hid (below_then HB12.out (below_then hb (bxb _ q13.o)))
  clear hb o13 HL HH12 HB12
  unfold QV.v
  clear cx0 cx1 cx2 cy0 cy1 cy2
  have cy0 := (HH13.out _ (.tail _ (.tail _ (.tail _ (.tail _ (.tail _ (.tail _ (.tail _ (.head _))))))))).b.c0
  have cy1 := (HH13.out _ (.tail _ (.tail _ (.tail _ (.tail _ (.tail _ (.tail _ (.tail _ (.head _))))))))).b.c1
  have cy2 := (HH13.out _ (.tail _ (.tail _ (.tail _ (.tail _ (.tail _ (.tail _ (.tail _ (.head _))))))))).b.c2
  have cx0 := (HH13.out _ (.tail _ (.tail _ (.tail _ (.tail _ (.tail _ (.tail _ (.tail _ (.tail _ (.head _)))))))))).b.c0
  have cx1 := (HH13.out _ (.tail _ (.tail _ (.tail _ (.tail _ (.tail _ (.tail _ (.tail _ (.tail _ (.head _)))))))))).b.c1
  have cx2 := (HH13.out _ (.tail _ (.tail _ (.tail _ (.tail _ (.tail _ (.tail _ (.tail _ (.tail _ (.head _)))))))))).b.c2
  go_wp2_with fail
  refine (Eqq.out ▸ opN HMul.out (HH13.out _ (.tail _ (.tail _ (.tail _ (.tail _ (.tail _ (.tail _ (.tail _ (.head _))))))))).m (HH13.out _ (.tail _ (.tail _ (.tail _ (.tail _ (.tail _ (.tail _ (.tail _ (.tail _ (.head _)))))))))).m (HH13.out _ (.tail _ (.tail _ (.tail _ (.tail _ (.tail _ (.tail _ (.tail _ (.head _))))))))).ln (HH13.out _ (.tail _ (.tail _ (.tail _ (.tail _ (.tail _ (.tail _ (.tail _ (.head _))))))))).ld (HH13.out _ (.tail _ (.tail _ (.tail _ (.tail _ (.tail _ (.tail _ (.tail _ (.tail _ (.head _)))))))))).ln (HH13.out _ (.tail _ (.tail _ (.tail _ (.tail _ (.tail _ (.tail _ (.tail _ (.tail _ (.head _)))))))))).ld).mono ?_
  rintro e v14_ ⟨q14, rfl, o14, hb⟩
  have HL := Lib.hid (Lqq.out.len o14)
  have HH14 : Hid (HeldQ (v14_.alloc (.cells #[.bool q14.p, .slice q14.A q14.n q14.c, .slice q14.D q14.m q14.d] qT)) [⟨v14_.heap.size, q14, qq⟩, ⟨v13_.heap.size, q13, pp⟩, ⟨v12_.heap.size, q12, u2⟩, ⟨v11_.heap.size, q11, u1⟩, ⟨v10_.heap.size, q10, bc⟩, ⟨v9_.heap.size, q9, ba⟩, ⟨v8_.heap.size, q8, ab⟩, ⟨w.heap.size + 1 + 1, vc, z⟩, ⟨w.heap.size + 1, vb, y⟩, ⟨w.heap.size, va, x⟩]) := Lib.hid ((HH13.out.next (below_then hb (bxb _ q14.o))).cons (IQ.fresh o14 (by have := HL.out; omega) (by have := HL.out; omega)))
  have HB14 : Hid (Below w.heap.size w (v14_.alloc (.cells #[.bool q14.p, .slice q14.A q14.n q14.c, .slice q14.D q14.m q14.d] qT))) := Lib.hid (below_then HB13.out (below_then hb (bxb _ q14.o)))
  clear hb o14 HL HH13 HB13
  unfold QV.v
  clear cy0 cy1 cy2 cx0 cx1 cx2
  have cx0 := (HH14.out _ (.tail _ (.tail _ (.tail _ (.tail _ (.tail _ (.tail _ (.tail _ (.tail _ (.tail _ (.head _))))))))))).b.c0
  have cx1 := (HH14.out _ (.tail _ (.tail _ (.tail _ (.tail _ (.tail _ (.tail _ (.tail _ (.tail _ (.tail _ (.head _))))))))))).b.c1
  have cx2 := (HH14.out _ (.tail _ (.tail _ (.tail _ (.tail _ (.tail _ (.tail _ (.tail _ (.tail _ (.tail _ (.head _))))))))))).b.c2
  have cz0 := (HH14.out _ (.tail _ (.tail _ (.tail _ (.tail _ (.tail _ (.tail _ (.tail _ (.head _))))))))).b.c0
  have cz1 := (HH14.out _ (.tail _ (.tail _ (.tail _ (.tail _ (.tail _ (.tail _ (.tail _ (.head _))))))))).b.c1
  have cz2 := (HH14.out _ (.tail _ (.tail _ (.tail _ (.tail _ (.tail _ (.tail _ (.tail _ (.head _))))))))).b.c2
  go_wp2_with fail
  refine (Eac.out ▸ opN HMul.out (HH14.out _ (.tail _ (.tail _ (.tail _ (.tail _ (.tail _ (.tail _ (.tail _ (.tail _ (.tail _ (.head _))))))))))).m (HH14.out _ (.tail _ (.tail _ (.tail _ (.tail _ (.tail _ (.tail _ (.tail _ (.head _))))))))).m (HH14.out _ (.tail _ (.tail _ (.tail _ (.tail _ (.tail _ (.tail _ (.tail _ (.tail _ (.tail _ (.head _))))))))))).ln (HH14.out _ (.tail _ (.tail _ (.tail _ (.tail _ (.tail _ (.tail _ (.tail _ (.tail _ (.tail _ (.head _))))))))))).ld (HH14.out _ (.tail _ (.tail _ (.tail _ (.tail _ (.tail _ (.tail _ (.tail _ (.head _))))))))).ln (HH14.out _ (.tail _ (.tail _ (.tail _ (.tail _ (.tail _ (.tail _ (.tail _ (.head _))))))))).ld).mono ?_
  rintro e v15_ ⟨q15, rfl, o15, hb⟩
  have HL := Lib.hid (Lac.out.len o15)
  have HH15 : Hid (HeldQ (v15_.alloc (.cells #[.bool q15.p, .slice q15.A q15.n q15.c, .slice q15.D q15.m q15.d] qT)) [⟨v15_.heap.size, q15, ac⟩, ⟨v14_.heap.size, q14, qq⟩, ⟨v13_.heap.size, q13, pp⟩, ⟨v12_.heap.size, q12, u2⟩, ⟨v11_.heap.size, q11, u1⟩, ⟨v10_.heap.size, q10, bc⟩, ⟨v9_.heap.size, q9, ba⟩, ⟨v8_.heap.size, q8, ab⟩, ⟨w.heap.size + 1 + 1, vc, z⟩, ⟨w.heap.size + 1, vb, y⟩, ⟨w.heap.size, va, x⟩]) := Lib.hid ((HH14.out.next (below_then hb (bxb _ q15.o))).cons (IQ.fresh o15 (by have := HL.out; omega) (by have := HL.out; omega)))
  have HB15 : Hid (Below w.heap.size w (v15_.alloc (.cells #[.bool q15.p, .slice q15.A q15.n q15.c, .slice q15.D q15.m q15.d] qT))) := Lib.hid (below_then HB14.out (below_then hb (bxb _ q15.o)))
  clear hb o15 HL HH14 HB14
  unfold QV.v
  clear cx0 cx1 cx2 cz0 cz1 cz2
  have cx0 := (HH15.out _ (.tail _ (.tail _ (.tail _ (.tail _ (.tail _ (.tail _ (.tail _ (.tail _ (.tail _ (.tail _ (.head _)))))))))))).b.c0
  have cx1 := (HH15.out _ (.tail _ (.tail _ (.tail _ (.tail _ (.tail _ (.tail _ (.tail _ (.tail _ (.tail _ (.tail _ (.head _)))))))))))).b.c1
  have cx2 := (HH15.out _ (.tail _ (.tail _ (.tail _ (.tail _ (.tail _ (.tail _ (.tail _ (.tail _ (.tail _ (.tail _ (.head _)))))))))))).b.c2
  have cbc0 := (HH15.out _ (.tail _ (.tail _ (.tail _ (.tail _ (.tail _ (.head _))))))).b.c0
  have cbc1 := (HH15.out _ (.tail _ (.tail _ (.tail _ (.tail _ (.tail _ (.head _))))))).b.c1
  have cbc2 := (HH15.out _ (.tail _ (.tail _ (.tail _ (.tail _ (.tail _ (.head _))))))).b.c2
  go_wp2_with fail
  refine (Euu.out ▸ opN HMul.out (HH15.out _ (.tail _ (.tail _ (.tail _ (.tail _ (.tail _ (.tail _ (.tail _ (.tail _ (.tail _ (.tail _ (.head _)))))))))))).m (HH15.out _ (.tail _ (.tail _ (.tail _ (.tail _ (.tail _ (.head _))))))).m (HH15.out _ (.tail _ (.tail _ (.tail _ (.tail _ (.tail _ (.tail _ (.tail _ (.tail _ (.tail _ (.tail _ (.head _)))))))))))).ln (HH15.out _ (.tail _ (.tail _ (.tail _ (.tail _ (.tail _ (.tail _ (.tail _ (.tail _ (.tail _ (.tail _ (.head _)))))))))))).ld (HH15.out _ (.tail _ (.tail _ (.tail _ (.tail _ (.tail _ (.head _))))))).ln (HH15.out _ (.tail _ (.tail _ (.tail _ (.tail _ (.tail _ (.head _))))))).ld).mono ?_
  rintro e v16_ ⟨q16, rfl, o16, hb⟩
  have HL := Lib.hid (Luu.out.len o16)
  have HH16 : Hid (HeldQ (v16_.alloc (.cells #[.bool q16.p, .slice q16.A q16.n q16.c, .slice q16.D q16.m q16.d] qT)) [⟨v16_.heap.size, q16, uu⟩, ⟨v15_.heap.size, q15, ac⟩, ⟨v14_.heap.size, q14, qq⟩, ⟨v13_.heap.size, q13, pp⟩, ⟨v12_.heap.size, q12, u2⟩, ⟨v11_.heap.size, q11, u1⟩, ⟨v10_.heap.size, q10, bc⟩, ⟨v9_.heap.size, q9, ba⟩, ⟨v8_.heap.size, q8, ab⟩, ⟨w.heap.size + 1 + 1, vc, z⟩, ⟨w.heap.size + 1, vb, y⟩, ⟨w.heap.size, va, x⟩]) := Lib.hid ((HH15.out.next (below_then hb (bxb _ q16.o))).cons (IQ.fresh o16 (by have := HL.out; omega) (by have := HL.out; omega)))
  have HB16 : Hid (Below w.heap.size w (v16_.alloc (.cells #[.bool q16.p, .slice q16.A q16.n q16.c, .slice q16.D q16.m q16.d] qT))) := Lib.hid (below_then HB15.out (below_then hb (bxb _ q16.o)))
  clear hb o16 HL HH15 HB15
  unfold QV.v
  clear cx0 cx1 cx2 cbc0 cbc1 cbc2
  have cpp0 := (HH16.out _ (.tail _ (.tail _ (.tail _ (.head _))))).b.c0
  have cpp1 := (HH16.out _ (.tail _ (.tail _ (.tail _ (.head _))))).b.c1
  have cpp2 := (HH16.out _ (.tail _ (.tail _ (.tail _ (.head _))))).b.c2
  have cac0 := (HH16.out _ (.tail _ (.head _))).b.c0
  have cac1 := (HH16.out _ (.tail _ (.head _))).b.c1
  have cac2 := (HH16.out _ (.tail _ (.head _))).b.c2
  go_wp2_with fail
  refine (Evv.out ▸ opN HAdd.out (HH16.out _ (.tail _ (.tail _ (.tail _ (.head _))))).m (HH16.out _ (.tail _ (.head _))).m (HH16.out _ (.tail _ (.tail _ (.tail _ (.head _))))).ln (HH16.out _ (.tail _ (.tail _ (.tail _ (.head _))))).ld (HH16.out _ (.tail _ (.head _))).ln (HH16.out _ (.tail _ (.head _))).ld).mono ?_
  rintro e v17_ ⟨q17, rfl, o17, hb⟩
  have HL := Lib.hid (Lvv.out.len o17)
  have HH17 : Hid (HeldQ (v17_.alloc (.cells #[.bool q17.p, .slice q17.A q17.n q17.c, .slice q17.D q17.m q17.d] qT)) [⟨v17_.heap.size, q17, vv⟩, ⟨v16_.heap.size, q16, uu⟩, ⟨v15_.heap.size, q15, ac⟩, ⟨v14_.heap.size, q14, qq⟩, ⟨v13_.heap.size, q13, pp⟩, ⟨v12_.heap.size, q12, u2⟩, ⟨v11_.heap.size, q11, u1⟩, ⟨v10_.heap.size, q10, bc⟩, ⟨v9_.heap.size, q9, ba⟩, ⟨v8_.heap.size, q8, ab⟩, ⟨w.heap.size + 1 + 1, vc, z⟩, ⟨w.heap.size + 1, vb, y⟩, ⟨w.heap.size, va, x⟩]) := Lib.hid ((HH16.out.next (below_then hb (bxb _ q17.o))).cons (IQ.fresh o17 (by have := HL.out; omega) (by have := HL.out; omega)))
  have HB17 : Hid (Below w.heap.size w (v17_.alloc (.cells #[.bool q17.p, .slice q17.A q17.n q17.c, .slice q17.D q17.m q17.d] qT))) := Lib.hid (below_then HB16.out (below_then hb (bxb _ q17.o)))
  clear hb o17 HL HH16 HB16
  unfold QV.v
  clear cpp0 cpp1 cpp2 cac0 cac1 cac2
  have cy0 := (HH17.out _ (.tail _ (.tail _ (.tail _ (.tail _ (.tail _ (.tail _ (.tail _ (.tail _ (.tail _ (.tail _ (.tail _ (.head _))))))))))))).b.c0
  have cy1 := (HH17.out _ (.tail _ (.tail _ (.tail _ (.tail _ (.tail _ (.tail _ (.tail _ (.tail _ (.tail _ (.tail _ (.tail _ (.head _))))))))))))).b.c1
  have cy2 := (HH17.out _ (.tail _ (.tail _ (.tail _ (.tail _ (.tail _ (.tail _ (.tail _ (.tail _ (.tail _ (.tail _ (.tail _ (.head _))))))))))))).b.c2
  have cz0 := (HH17.out _ (.tail _ (.tail _ (.tail _ (.tail _ (.tail _ (.tail _ (.tail _ (.tail _ (.tail _ (.tail _ (.head _)))))))))))).b.c0
  have cz1 := (HH17.out _ (.tail _ (.tail _ (.tail _ (.tail _ (.tail _ (.tail _ (.tail _ (.tail _ (.tail _ (.tail _ (.head _)))))))))))).b.c1
  have cz2 := (HH17.out _ (.tail _ (.tail _ (.tail _ (.tail _ (.tail _ (.tail _ (.tail _ (.tail _ (.tail _ (.tail _ (.head _)))))))))))).b.c2
  go_wp2_with fail
  refine (Emm.out ▸ opN HMul.out (HH17.out _ (.tail _ (.tail _ (.tail _ (.tail _ (.tail _ (.tail _ (.tail _ (.tail _ (.tail _ (.tail _ (.tail _ (.head _))))))))))))).m (HH17.out _ (.tail _ (.tail _ (.tail _ (.tail _ (.tail _ (.tail _ (.tail _ (.tail _ (.tail _ (.tail _ (.head _)))))))))))).m (HH17.out _ (.tail _ (.tail _ (.tail _ (.tail _ (.tail _ (.tail _ (.tail _ (.tail _ (.tail _ (.tail _ (.tail _ (.head _))))))))))))).ln (HH17.out _ (.tail _ (.tail _ (.tail _ (.tail _ (.tail _ (.tail _ (.tail _ (.tail _ (.tail _ (.tail _ (.tail _ (.head _))))))))))))).ld (HH17.out _ (.tail _ (.tail _ (.tail _ (.tail _ (.tail _ (.tail _ (.tail _ (.tail _ (.tail _ (.tail _ (.head _)))))))))))).ln (HH17.out _ (.tail _ (.tail _ (.tail _ (.tail _ (.tail _ (.tail _ (.tail _ (.tail _ (.tail _ (.tail _ (.head _)))))))))))).ld).mono ?_
  rintro e v18_ ⟨q18, rfl, o18, hb⟩
  have HL := Lib.hid (Lmm.out.len o18)
  have HH18 : Hid (HeldQ (v18_.alloc (.cells #[.bool q18.p, .slice q18.A q18.n q18.c, .slice q18.D q18.m q18.d] qT)) [⟨v18_.heap.size, q18, mm⟩, ⟨v17_.heap.size, q17, vv⟩, ⟨v16_.heap.size, q16, uu⟩, ⟨v15_.heap.size, q15, ac⟩, ⟨v14_.heap.size, q14, qq⟩, ⟨v13_.heap.size, q13, pp⟩, ⟨v12_.heap.size, q12, u2⟩, ⟨v11_.heap.size, q11, u1⟩, ⟨v10_.heap.size, q10, bc⟩, ⟨v9_.heap.size, q9, ba⟩, ⟨v8_.heap.size, q8, ab⟩, ⟨w.heap.size + 1 + 1, vc, z⟩, ⟨w.heap.size + 1, vb, y⟩, ⟨w.heap.size, va, x⟩]) := Lib.hid ((HH17.out.next (below_then hb (bxb _ q18.o))).cons (IQ.fresh o18 (by have := HL.out; omega) (by have := HL.out; omega)))
  have HB18 : Hid (Below w.heap.size w (v18_.alloc (.cells #[.bool q18.p, .slice q18.A q18.n q18.c, .slice q18.D q18.m q18.d] qT))) := Lib.hid (below_then HB17.out (below_then hb (bxb _ q18.o)))
  clear hb o18 HL HH17 HB17
  unfold QV.v
  clear cy0 cy1 cy2 cz0 cz1 cz2
  have cpp0 := (HH18.out _ (.tail _ (.tail _ (.tail _ (.tail _ (.tail _ (.head _))))))).b.c0
  have cpp1 := (HH18.out _ (.tail _ (.tail _ (.tail _ (.tail _ (.tail _ (.head _))))))).b.c1
  have cpp2 := (HH18.out _ (.tail _ (.tail _ (.tail _ (.tail _ (.tail _ (.head _))))))).b.c2
  have cz0 := (HH18.out _ (.tail _ (.tail _ (.tail _ (.tail _ (.tail _ (.tail _ (.tail _ (.tail _ (.tail _ (.tail _ (.tail _ (.head _))))))))))))).b.c0
  have cz1 := (HH18.out _ (.tail _ (.tail _ (.tail _ (.tail _ (.tail _ (.tail _ (.tail _ (.tail _ (.tail _ (.tail _ (.tail _ (.head _))))))))))))).b.c1
  have cz2 := (HH18.out _ (.tail _ (.tail _ (.tail _ (.tail _ (.tail _ (.tail _ (.tail _ (.tail _ (.tail _ (.tail _ (.tail _ (.head _))))))))))))).b.c2
  go_wp2_with fail
  refine (Enn.out ▸ opN HMul.out (HH18.out _ (.tail _ (.tail _ (.tail _ (.tail _ (.tail _ (.head _))))))).m (HH18.out _ (.tail _ (.tail _ (.tail _ (.tail _ (.tail _ (.tail _ (.tail _ (.tail _ (.tail _ (.tail _ (.tail _ (.head _))))))))))))).m (HH18.out _ (.tail _ (.tail _ (.tail _ (.tail _ (.tail _ (.head _))))))).ln (HH18.out _ (.tail _ (.tail _ (.tail _ (.tail _ (.tail _ (.head _))))))).ld (HH18.out _ (.tail _ (.tail _ (.tail _ (.tail _ (.tail _ (.tail _ (.tail _ (.tail _ (.tail _ (.tail _ (.tail _ (.head _))))))))))))).ln (HH18.out _ (.tail _ (.tail _ (.tail _ (.tail _ (.tail _ (.tail _ (.tail _ (.tail _ (.tail _ (.tail _ (.tail _ (.head _))))))))))))).ld).mono ?_
  rintro e v19_ ⟨q19, rfl, o19, hb⟩
  have HL := Lib.hid (Lnn.out.len o19)
  have HH19 : Hid (HeldQ (v19_.alloc (.cells #[.bool q19.p, .slice q19.A q19.n q19.c, .slice q19.D q19.m q19.d] qT)) [⟨v19_.heap.size, q19, nn⟩, ⟨v18_.heap.size, q18, mm⟩, ⟨v17_.heap.size, q17, vv⟩, ⟨v16_.heap.size, q16, uu⟩, ⟨v15_.heap.size, q15, ac⟩, ⟨v14_.heap.size, q14, qq⟩, ⟨v13_.heap.size, q13, pp⟩, ⟨v12_.heap.size, q12, u2⟩, ⟨v11_.heap.size, q11, u1⟩, ⟨v10_.heap.size, q10, bc⟩, ⟨v9_.heap.size, q9, ba⟩, ⟨v8_.heap.size, q8, ab⟩, ⟨w.heap.size + 1 + 1, vc, z⟩, ⟨w.heap.size + 1, vb, y⟩, ⟨w.heap.size, va, x⟩]) := Lib.hid ((HH18.out.next (below_then hb (bxb _ q19.o))).cons (IQ.fresh o19 (by have := HL.out; omega) (by have := HL.out; omega)))
  have HB19 : Hid (Below w.heap.size w (v19_.alloc (.cells #[.bool q19.p, .slice q19.A q19.n q19.c, .slice q19.D q19.m q19.d] qT))) := Lib.hid (below_then HB18.out (below_then hb (bxb _ q19.o)))
  clear hb o19 HL HH18 HB18
  unfold QV.v
  clear cpp0 cpp1 cpp2 cz0 cz1 cz2
  have cx0 := (HH19.out _ (.tail _ (.tail _ (.tail _ (.tail _ (.tail _ (.tail _ (.tail _ (.tail _ (.tail _ (.tail _ (.tail _ (.tail _ (.tail _ (.tail _ (.head _)))))))))))))))).b.c0
  have cx1 := (HH19.out _ (.tail _ (.tail _ (.tail _ (.tail _ (.tail _ (.tail _ (.tail _ (.tail _ (.tail _ (.tail _ (.tail _ (.tail _ (.tail _ (.tail _ (.head _)))))))))))))))).b.c1
  have cx2 := (HH19.out _ (.tail _ (.tail _ (.tail _ (.tail _ (.tail _ (.tail _ (.tail _ (.tail _ (.tail _ (.tail _ (.tail _ (.tail _ (.tail _ (.tail _ (.head _)))))))))))))))).b.c2
  have cmm0 := (HH19.out _ (.tail _ (.head _))).b.c0
  have cmm1 := (HH19.out _ (.tail _ (.head _))).b.c1
  have cmm2 := (HH19.out _ (.tail _ (.head _))).b.c2
  go_wp2_with fail
  refine (Eoo.out ▸ opN HMul.out (HH19.out _ (.tail _ (.tail _ (.tail _ (.tail _ (.tail _ (.tail _ (.tail _ (.tail _ (.tail _ (.tail _ (.tail _ (.tail _ (.tail _ (.tail _ (.head _)))))))))))))))).m (HH19.out _ (.tail _ (.head _))).m (HH19.out _ (.tail _ (.tail _ (.tail _ (.tail _ (.tail _ (.tail _ (.tail _ (.tail _ (.tail _ (.tail _ (.tail _ (.tail _ (.tail _ (.tail _ (.head _)))))))))))))))).ln (HH19.out _ (.tail _ (.tail _ (.tail _ (.tail _ (.tail _ (.tail _ (.tail _ (.tail _ (.tail _ (.tail _ (.tail _ (.tail _ (.tail _ (.tail _ (.head _)))))))))))))))).ld (HH19.out _ (.tail _ (.head _))).ln (HH19.out _ (.tail _ (.head _))).ld).mono ?_
  rintro e v20_ ⟨q20, rfl, o20, hb⟩
  have HL := Lib.hid (Loo.out.len o20)
  have HH20 : Hid (HeldQ (v20_.alloc (.cells #[.bool q20.p, .slice q20.A q20.n q20.c, .slice q20.D q20.m q20.d] qT)) [⟨v20_.heap.size, q20, oo⟩, ⟨v19_.heap.size, q19, nn⟩, ⟨v18_.heap.size, q18, mm⟩, ⟨v17_.heap.size, q17, vv⟩, ⟨v16_.heap.size, q16, uu⟩, ⟨v15_.heap.size, q15, ac⟩, ⟨v14_.heap.size, q14, qq⟩, ⟨v13_.heap.size, q13, pp⟩, ⟨v12_.heap.size, q12, u2⟩, ⟨v11_.heap.size, q11, u1⟩, ⟨v10_.heap.size, q10, bc⟩, ⟨v9_.heap.size, q9, ba⟩, ⟨v8_.heap.size, q8, ab⟩, ⟨w.heap.size + 1 + 1, vc, z⟩, ⟨w.heap.size + 1, vb, y⟩, ⟨w.heap.size, va, x⟩]) := Lib.hid ((HH19.out.next (below_then hb (bxb _ q20.o))).cons (IQ.fresh o20 (by have := HL.out; omega) (by have := HL.out; omega)))
  have HB20 : Hid (Below w.heap.size w (v20_.alloc (.cells #[.bool q20.p, .slice q20.A q20.n q20.c, .slice q20.D q20.m q20.d] qT))) := Lib.hid (below_then HB19.out (below_then hb (bxb _ q20.o)))
  clear hb o20 HL HH19 HB19
  unfold QV.v
  clear cx0 cx1 cx2 cmm0 cmm1 cmm2
  have cx0 := (HH20.out _ (.tail _ (.tail _ (.tail _ (.tail _ (.tail _ (.tail _ (.tail _ (.tail _ (.tail _ (.tail _ (.tail _ (.tail _ (.tail _ (.tail _ (.tail _ (.head _))))))))))))))))).b.c0
  have cx1 := (HH20.out _ (.tail _ (.tail _ (.tail _ (.tail _ (.tail _ (.tail _ (.tail _ (.tail _ (.tail _ (.tail _ (.tail _ (.tail _ (.tail _ (.tail _ (.tail _ (.head _))))))))))))))))).b.c1
  have cx2 := (HH20.out _ (.tail _ (.tail _ (.tail _ (.tail _ (.tail _ (.tail _ (.tail _ (.tail _ (.tail _ (.tail _ (.tail _ (.tail _ (.tail _ (.tail _ (.tail _ (.head _))))))))))))))))).b.c2
  have cy0 := (HH20.out _ (.tail _ (.tail _ (.tail _ (.tail _ (.tail _ (.tail _ (.tail _ (.tail _ (.tail _ (.tail _ (.tail _ (.tail _ (.tail _ (.tail _ (.head _)))))))))))))))).b.c0
  have cy1 := (HH20.out _ (.tail _ (.tail _ (.tail _ (.tail _ (.tail _ (.tail _ (.tail _ (.tail _ (.tail _ (.tail _ (.tail _ (.tail _ (.tail _ (.tail _ (.head _)))))))))))))))).b.c1
  have cy2 := (HH20.out _ (.tail _ (.tail _ (.tail _ (.tail _ (.tail _ (.tail _ (.tail _ (.tail _ (.tail _ (.tail _ (.tail _ (.tail _ (.tail _ (.tail _ (.head _)))))))))))))))).b.c2
  go_wp2_with fail
  refine (Edd.out ▸ opN HSub.out (HH20.out _ (.tail _ (.tail _ (.tail _ (.tail _ (.tail _ (.tail _ (.tail _ (.tail _ (.tail _ (.tail _ (.tail _ (.tail _ (.tail _ (.tail _ (.tail _ (.head _))))))))))))))))).m (HH20.out _ (.tail _ (.tail _ (.tail _ (.tail _ (.tail _ (.tail _ (.tail _ (.tail _ (.tail _ (.tail _ (.tail _ (.tail _ (.tail _ (.tail _ (.head _)))))))))))))))).m (HH20.out _ (.tail _ (.tail _ (.tail _ (.tail _ (.tail _ (.tail _ (.tail _ (.tail _ (.tail _ (.tail _ (.tail _ (.tail _ (.tail _ (.tail _ (.tail _ (.head _))))))))))))))))).ln (HH20.out _ (.tail _ (.tail _ (.tail _ (.tail _ (.tail _ (.tail _ (.tail _ (.tail _ (.tail _ (.tail _ (.tail _ (.tail _ (.tail _ (.tail _ (.tail _ (.head _))))))))))))))))).ld (HH20.out _ (.tail _ (.tail _ (.tail _ (.tail _ (.tail _ (.tail _ (.tail _ (.tail _ (.tail _ (.tail _ (.tail _ (.tail _ (.tail _ (.tail _ (.head _)))))))))))))))).ln (HH20.out _ (.tail _ (.tail _ (.tail _ (.tail _ (.tail _ (.tail _ (.tail _ (.tail _ (.tail _ (.tail _ (.tail _ (.tail _ (.tail _ (.tail _ (.head _)))))))))))))))).ld).mono ?_
  rintro e v21_ ⟨q21, rfl, o21, hb⟩
  have HL := Lib.hid (Ldd.out.len o21)
  have HH21 : Hid (HeldQ (v21_.alloc (.cells #[.bool q21.p, .slice q21.A q21.n q21.c, .slice q21.D q21.m q21.d] qT)) [⟨v21_.heap.size, q21, dd⟩, ⟨v20_.heap.size, q20, oo⟩, ⟨v19_.heap.size, q19, nn⟩, ⟨v18_.heap.size, q18, mm⟩, ⟨v17_.heap.size, q17, vv⟩, ⟨v16_.heap.size, q16, uu⟩, ⟨v15_.heap.size, q15, ac⟩, ⟨v14_.heap.size, q14, qq⟩, ⟨v13_.heap.size, q13, pp⟩, ⟨v12_.heap.size, q12, u2⟩, ⟨v11_.heap.size, q11, u1⟩, ⟨v10_.heap.size, q10, bc⟩, ⟨v9_.heap.size, q9, ba⟩, ⟨v8_.heap.size, q8, ab⟩, ⟨w.heap.size + 1 + 1, vc, z⟩, ⟨w.heap.size + 1, vb, y⟩, ⟨w.heap.size, va, x⟩]) := Lib.hid ((HH20.out.next (below_then hb (bxb _ q21.o))).cons (IQ.fresh o21 (by have := HL.out; omega) (by have := HL.out; omega)))
  have HB21 : Hid (Below w.heap.size w (v21_.alloc (.cells #[.bool q21.p, .slice q21.A q21.n q21.c, .slice q21.D q21.m q21.d] qT))) := Lib.hid (below_then HB20.out (below_then hb (bxb _ q21.o)))
  clear hb o21 HL HH20 HB20
  unfold QV.v
  clear cx0 cx1 cx2 cy0 cy1 cy2
  have cdd0 := (HH21.out _ (.head _)).b.c0
  have cdd1 := (HH21.out _ (.head _)).b.c1
  have cdd2 := (HH21.out _ (.head _)).b.c2
  have cy0 := (HH21.out _ (.tail _ (.tail _ (.tail _ (.tail _ (.tail _ (.tail _ (.tail _ (.tail _ (.tail _ (.tail _ (.tail _ (.tail _ (.tail _ (.tail _ (.tail _ (.head _))))))))))))))))).b.c0
  have cy1 := (HH21.out _ (.tail _ (.tail _ (.tail _ (.tail _ (.tail _ (.tail _ (.tail _ (.tail _ (.tail _ (.tail _ (.tail _ (.tail _ (.tail _ (.tail _ (.tail _ (.head _))))))))))))))))).b.c1
  have cy2 := (HH21.out _ (.tail _ (.tail _ (.tail _ (.tail _ (.tail _ (.tail _ (.tail _ (.tail _ (.tail _ (.tail _ (.tail _ (.tail _ (.tail _ (.tail _ (.tail _ (.head _))))))))))))))))).b.c2
  go_wp2_with fail
  refine (Ebk.out ▸ opN HAdd.out (HH21.out _ (.head _)).m (HH21.out _ (.tail _ (.tail _ (.tail _ (.tail _ (.tail _ (.tail _ (.tail _ (.tail _ (.tail _ (.tail _ (.tail _ (.tail _ (.tail _ (.tail _ (.tail _ (.head _))))))))))))))))).m (HH21.out _ (.head _)).ln (HH21.out _ (.head _)).ld (HH21.out _ (.tail _ (.tail _ (.tail _ (.tail _ (.tail _ (.tail _ (.tail _ (.tail _ (.tail _ (.tail _ (.tail _ (.tail _ (.tail _ (.tail _ (.tail _ (.head _))))))))))))))))).ln (HH21.out _ (.tail _ (.tail _ (.tail _ (.tail _ (.tail _ (.tail _ (.tail _ (.tail _ (.tail _ (.tail _ (.tail _ (.tail _ (.tail _ (.tail _ (.tail _ (.head _))))))))))))))))).ld).mono ?_
  rintro e v22_ ⟨q22, rfl, o22, hb⟩
  have HL := Lib.hid (Lbk.out.len o22)
  have HH22 : Hid (HeldQ (v22_.alloc (.cells #[.bool q22.p, .slice q22.A q22.n q22.c, .slice q22.D q22.m q22.d] qT)) [⟨v22_.heap.size, q22, bk⟩, ⟨v21_.heap.size, q21, dd⟩, ⟨v20_.heap.size, q20, oo⟩, ⟨v19_.heap.size, q19, nn⟩, ⟨v18_.heap.size, q18, mm⟩, ⟨v17_.heap.size, q17, vv⟩, ⟨v16_.heap.size, q16, uu⟩, ⟨v15_.heap.size, q15, ac⟩, ⟨v14_.heap.size, q14, qq⟩, ⟨v13_.heap.size, q13, pp⟩, ⟨v12_.heap.size, q12, u2⟩, ⟨v11_.heap.size, q11, u1⟩, ⟨v10_.heap.size, q10, bc⟩, ⟨v9_.heap.size, q9, ba⟩, ⟨v8_.heap.size, q8, ab⟩, ⟨w.heap.size + 1 + 1, vc, z⟩, ⟨w.heap.size + 1, vb, y⟩, ⟨w.heap.size, va, x⟩]) := Lib.hid ((HH21.out.next (below_then hb (bxb _ q22.o))).cons (IQ.fresh o22 (by have := HL.out; omega) (by have := HL.out; omega)))
  have HB22 : Hid (Below w.heap.size w (v22_.alloc (.cells #[.bool q22.p, .slice q22.A q22.n q22.c, .slice q22.D q22.m q22.d] qT))) := Lib.hid (below_then HB21.out (below_then hb (bxb _ q22.o)))
  clear hb o22 HL HH21 HB21
  unfold QV.v
  clear cdd0 cdd1 cdd2 cy0 cy1 cy2
  have cx0 := (HH22.out _ (.tail _ (.tail _ (.tail _ (.tail _ (.tail _ (.tail _ (.tail _ (.tail _ (.tail _ (.tail _ (.tail _ (.tail _ (.tail _ (.tail _ (.tail _ (.tail _ (.tail _ (.head _))))))))))))))))))).b.c0
  have cx1 := (HH22.out _ (.tail _ (.tail _ (.tail _ (.tail _ (.tail _ (.tail _ (.tail _ (.tail _ (.tail _ (.tail _ (.tail _ (.tail _ (.tail _ (.tail _ (.tail _ (.tail _ (.tail _ (.head _))))))))))))))))))).b.c1
  have cx2 := (HH22.out _ (.tail _ (.tail _ (.tail _ (.tail _ (.tail _ (.tail _ (.tail _ (.tail _ (.tail _ (.tail _ (.tail _ (.tail _ (.tail _ (.tail _ (.tail _ (.tail _ (.tail _ (.head _))))))))))))))))))).b.c2
  have cy0 := (HH22.out _ (.tail _ (.tail _ (.tail _ (.tail _ (.tail _ (.tail _ (.tail _ (.tail _ (.tail _ (.tail _ (.tail _ (.tail _ (.tail _ (.tail _ (.tail _ (.tail _ (.head _)))))))))))))))))).b.c0
  have cy1 := (HH22.out _ (.tail _ (.tail _ (.tail _ (.tail _ (.tail _ (.tail _ (.tail _ (.tail _ (.tail _ (.tail _ (.tail _ (.tail _ (.tail _ (.tail _ (.tail _ (.tail _ (.head _)))))))))))))))))).b.c1
  have cy2 := (HH22.out _ (.tail _ (.tail _ (.tail _ (.tail _ (.tail _ (.tail _ (.tail _ (.tail _ (.tail _ (.tail _ (.tail _ (.tail _ (.tail _ (.tail _ (.tail _ (.tail _ (.head _)))))))))))))))))).b.c2
  go_wp2_with fail
  refine (Ezq.out ▸ divN HDiv.out (HH22.out _ (.tail _ (.tail _ (.tail _ (.tail _ (.tail _ (.tail _ (.tail _ (.tail _ (.tail _ (.tail _ (.tail _ (.tail _ (.tail _ (.tail _ (.tail _ (.tail _ (.tail _ (.head _))))))))))))))))))).m (HH22.out _ (.tail _ (.tail _ (.tail _ (.tail _ (.tail _ (.tail _ (.tail _ (.tail _ (.tail _ (.tail _ (.tail _ (.tail _ (.tail _ (.tail _ (.tail _ (.tail _ (.head _)))))))))))))))))).m (HH22.out _ (.tail _ (.tail _ (.tail _ (.tail _ (.tail _ (.tail _ (.tail _ (.tail _ (.tail _ (.tail _ (.tail _ (.tail _ (.tail _ (.tail _ (.tail _ (.tail _ (.tail _ (.head _))))))))))))))))))).ln (HH22.out _ (.tail _ (.tail _ (.tail _ (.tail _ (.tail _ (.tail _ (.tail _ (.tail _ (.tail _ (.tail _ (.tail _ (.tail _ (.tail _ (.tail _ (.tail _ (.tail _ (.tail _ (.head _))))))))))))))))))).ld (HH22.out _ (.tail _ (.tail _ (.tail _ (.tail _ (.tail _ (.tail _ (.tail _ (.tail _ (.tail _ (.tail _ (.tail _ (.tail _ (.tail _ (.tail _ (.tail _ (.tail _ (.head _)))))))))))))))))).ln (HH22.out _ (.tail _ (.tail _ (.tail _ (.tail _ (.tail _ (.tail _ (.tail _ (.tail _ (.tail _ (.tail _ (.tail _ (.tail _ (.tail _ (.tail _ (.tail _ (.tail _ (.head _)))))))))))))))))).ld HY.out).mono ?_
  rintro e v23_ ⟨q23, rfl, o23, hb⟩
  have HL := Lib.hid (Lzq.out.len o23)
  have HH23 : Hid (HeldQ (v23_.alloc (.cells #[.bool q23.p, .slice q23.A q23.n q23.c, .slice q23.D q23.m q23.d] qT)) [⟨v23_.heap.size, q23, zq⟩, ⟨v22_.heap.size, q22, bk⟩, ⟨v21_.heap.size, q21, dd⟩, ⟨v20_.heap.size, q20, oo⟩, ⟨v19_.heap.size, q19, nn⟩, ⟨v18_.heap.size, q18, mm⟩, ⟨v17_.heap.size, q17, vv⟩, ⟨v16_.heap.size, q16, uu⟩, ⟨v15_.heap.size, q15, ac⟩, ⟨v14_.heap.size, q14, qq⟩, ⟨v13_.heap.size, q13, pp⟩, ⟨v12_.heap.size, q12, u2⟩, ⟨v11_.heap.size, q11, u1⟩, ⟨v10_.heap.size, q10, bc⟩, ⟨v9_.heap.size, q9, ba⟩, ⟨v8_.heap.size, q8, ab⟩, ⟨w.heap.size + 1 + 1, vc, z⟩, ⟨w.heap.size + 1, vb, y⟩, ⟨w.heap.size, va, x⟩]) := Lib.hid ((HH22.out.next (below_then hb (bxb _ q23.o))).cons (IQ.fresh o23 (by have := HL.out; omega) (by have := HL.out; omega)))
  have HB23 : Hid (Below w.heap.size w (v23_.alloc (.cells #[.bool q23.p, .slice q23.A q23.n q23.c, .slice q23.D q23.m q23.d] qT))) := Lib.hid (below_then HB22.out (below_then hb (bxb _ q23.o)))
  clear hb o23 HL HH22 HB22
  unfold QV.v
  clear cx0 cx1 cx2 cy0 cy1 cy2
  have cab0 := (HH23.out _ (.tail _ (.tail _ (.tail _ (.tail _ (.tail _ (.tail _ (.tail _ (.tail _ (.tail _ (.tail _ (.tail _ (.tail _ (.tail _ (.tail _ (.tail _ (.head _))))))))))))))))).b.c0
  have cab1 := (HH23.out _ (.tail _ (.tail _ (.tail _ (.tail _ (.tail _ (.tail _ (.tail _ (.tail _ (.tail _ (.tail _ (.tail _ (.tail _ (.tail _ (.tail _ (.tail _ (.head _))))))))))))))))).b.c1
  have cab2 := (HH23.out _ (.tail _ (.tail _ (.tail _ (.tail _ (.tail _ (.tail _ (.tail _ (.tail _ (.tail _ (.tail _ (.tail _ (.tail _ (.tail _ (.tail _ (.tail _ (.head _))))))))))))))))).b.c2
  have cba0 := (HH23.out _ (.tail _ (.tail _ (.tail _ (.tail _ (.tail _ (.tail _ (.tail _ (.tail _ (.tail _ (.tail _ (.tail _ (.tail _ (.tail _ (.tail _ (.head _)))))))))))))))).b.c0
  have cba1 := (HH23.out _ (.tail _ (.tail _ (.tail _ (.tail _ (.tail _ (.tail _ (.tail _ (.tail _ (.tail _ (.tail _ (.tail _ (.tail _ (.tail _ (.tail _ (.head _)))))))))))))))).b.c1
  have cba2 := (HH23.out _ (.tail _ (.tail _ (.tail _ (.tail _ (.tail _ (.tail _ (.tail _ (.tail _ (.tail _ (.tail _ (.tail _ (.tail _ (.tail _ (.tail _ (.head _)))))))))))))))).b.c2
  go_wp2_with fail
  refine (sameQT HSame.out (HH23.out _ (.tail _ (.tail _ (.tail _ (.tail _ (.tail _ (.tail _ (.tail _ (.tail _ (.tail _ (.tail _ (.tail _ (.tail _ (.tail _ (.tail _ (.tail _ (.head _))))))))))))))))).m (HH23.out _ (.tail _ (.tail _ (.tail _ (.tail _ (.tail _ (.tail _ (.tail _ (.tail _ (.tail _ (.tail _ (.tail _ (.tail _ (.tail _ (.tail _ (.head _)))))))))))))))).m (HH23.out _ (.tail _ (.tail _ (.tail _ (.tail _ (.tail _ (.tail _ (.tail _ (.tail _ (.tail _ (.tail _ (.tail _ (.tail _ (.tail _ (.tail _ (.tail _ (.head _))))))))))))))))).ln (HH23.out _ (.tail _ (.tail _ (.tail _ (.tail _ (.tail _ (.tail _ (.tail _ (.tail _ (.tail _ (.tail _ (.tail _ (.tail _ (.tail _ (.tail _ (.tail _ (.head _))))))))))))))))).ld (HH23.out _ (.tail _ (.tail _ (.tail _ (.tail _ (.tail _ (.tail _ (.tail _ (.tail _ (.tail _ (.tail _ (.tail _ (.tail _ (.tail _ (.tail _ (.head _)))))))))))))))).ln (HH23.out _ (.tail _ (.tail _ (.tail _ (.tail _ (.tail _ (.tail _ (.tail _ (.tail _ (.tail _ (.tail _ (.tail _ (.tail _ (.tail _ (.tail _ (.head _)))))))))))))))).ld Q.out.1).mono ?_
  rintro e v24_ ⟨rfl, hb⟩
  have HH24 := Lib.hid (HH23.out.next hb)
  have HB24 := Lib.hid (below_then HB23.out hb)
  clear hb HH23 HB23
  clear cab0 cab1 cab2 cba0 cba1 cba2
  have cu10 := (HH24.out _ (.tail _ (.tail _ (.tail _ (.tail _ (.tail _ (.tail _ (.tail _ (.tail _ (.tail _ (.tail _ (.tail _ (.tail _ (.head _)))))))))))))).b.c0
  have cu11 := (HH24.out _ (.tail _ (.tail _ (.tail _ (.tail _ (.tail _ (.tail _ (.tail _ (.tail _ (.tail _ (.tail _ (.tail _ (.tail _ (.head _)))))))))))))).b.c1
  have cu12 := (HH24.out _ (.tail _ (.tail _ (.tail _ (.tail _ (.tail _ (.tail _ (.tail _ (.tail _ (.tail _ (.tail _ (.tail _ (.tail _ (.head _)))))))))))))).b.c2
  have cu20 := (HH24.out _ (.tail _ (.tail _ (.tail _ (.tail _ (.tail _ (.tail _ (.tail _ (.tail _ (.tail _ (.tail _ (.tail _ (.head _))))))))))))).b.c0
  have cu21 := (HH24.out _ (.tail _ (.tail _ (.tail _ (.tail _ (.tail _ (.tail _ (.tail _ (.tail _ (.tail _ (.tail _ (.tail _ (.head _))))))))))))).b.c1
  have cu22 := (HH24.out _ (.tail _ (.tail _ (.tail _ (.tail _ (.tail _ (.tail _ (.tail _ (.tail _ (.tail _ (.tail _ (.tail _ (.head _))))))))))))).b.c2
  go_wp2_with fail
  refine (sameQT HSame.out (HH24.out _ (.tail _ (.tail _ (.tail _ (.tail _ (.tail _ (.tail _ (.tail _ (.tail _ (.tail _ (.tail _ (.tail _ (.tail _ (.head _)))))))))))))).m (HH24.out _ (.tail _ (.tail _ (.tail _ (.tail _ (.tail _ (.tail _ (.tail _ (.tail _ (.tail _ (.tail _ (.tail _ (.head _))))))))))))).m (HH24.out _ (.tail _ (.tail _ (.tail _ (.tail _ (.tail _ (.tail _ (.tail _ (.tail _ (.tail _ (.tail _ (.tail _ (.tail _ (.head _)))))))))))))).ln (HH24.out _ (.tail _ (.tail _ (.tail _ (.tail _ (.tail _ (.tail _ (.tail _ (.tail _ (.tail _ (.tail _ (.tail _ (.tail _ (.head _)))))))))))))).ld (HH24.out _ (.tail _ (.tail _ (.tail _ (.tail _ (.tail _ (.tail _ (.tail _ (.tail _ (.tail _ (.tail _ (.tail _ (.head _))))))))))))).ln (HH24.out _ (.tail _ (.tail _ (.tail _ (.tail _ (.tail _ (.tail _ (.tail _ (.tail _ (.tail _ (.tail _ (.tail _ (.head _))))))))))))).ld Q.out.2.1).mono ?_
  rintro e v25_ ⟨rfl, hb⟩
  have HH25 := Lib.hid (HH24.out.next hb)
  have HB25 := Lib.hid (below_then HB24.out hb)
  clear hb HH24 HB24
  clear cu10 cu11 cu12 cu20 cu21 cu22
  have cpp0 := (HH25.out _ (.tail _ (.tail _ (.tail _ (.tail _ (.tail _ (.tail _ (.tail _ (.tail _ (.tail _ (.tail _ (.head _)))))))))))).b.c0
  have cpp1 := (HH25.out _ (.tail _ (.tail _ (.tail _ (.tail _ (.tail _ (.tail _ (.tail _ (.tail _ (.tail _ (.tail _ (.head _)))))))))))).b.c1
  have cpp2 := (HH25.out _ (.tail _ (.tail _ (.tail _ (.tail _ (.tail _ (.tail _ (.tail _ (.tail _ (.tail _ (.tail _ (.head _)))))))))))).b.c2
  have cqq0 := (HH25.out _ (.tail _ (.tail _ (.tail _ (.tail _ (.tail _ (.tail _ (.tail _ (.tail _ (.tail _ (.head _))))))))))).b.c0
  have cqq1 := (HH25.out _ (.tail _ (.tail _ (.tail _ (.tail _ (.tail _ (.tail _ (.tail _ (.tail _ (.tail _ (.head _))))))))))).b.c1
  have cqq2 := (HH25.out _ (.tail _ (.tail _ (.tail _ (.tail _ (.tail _ (.tail _ (.tail _ (.tail _ (.tail _ (.head _))))))))))).b.c2
  go_wp2_with fail
  refine (sameQT HSame.out (HH25.out _ (.tail _ (.tail _ (.tail _ (.tail _ (.tail _ (.tail _ (.tail _ (.tail _ (.tail _ (.tail _ (.head _)))))))))))).m (HH25.out _ (.tail _ (.tail _ (.tail _ (.tail _ (.tail _ (.tail _ (.tail _ (.tail _ (.tail _ (.head _))))))))))).m (HH25.out _ (.tail _ (.tail _ (.tail _ (.tail _ (.tail _ (.tail _ (.tail _ (.tail _ (.tail _ (.tail _ (.head _)))))))))))).ln (HH25.out _ (.tail _ (.tail _ (.tail _ (.tail _ (.tail _ (.tail _ (.tail _ (.tail _ (.tail _ (.tail _ (.head _)))))))))))).ld (HH25.out _ (.tail _ (.tail _ (.tail _ (.tail _ (.tail _ (.tail _ (.tail _ (.tail _ (.tail _ (.head _))))))))))).ln (HH25.out _ (.tail _ (.tail _ (.tail _ (.tail _ (.tail _ (.tail _ (.tail _ (.tail _ (.tail _ (.head _))))))))))).ld Q.out.2.2.1).mono ?_
  rintro e v26_ ⟨rfl, hb⟩
  have HH26 := Lib.hid (HH25.out.next hb)
  have HB26 := Lib.hid (below_then HB25.out hb)
  clear hb HH25 HB25
  clear cpp0 cpp1 cpp2 cqq0 cqq1 cqq2
  have cuu0 := (HH26.out _ (.tail _ (.tail _ (.tail _ (.tail _ (.tail _ (.tail _ (.tail _ (.head _))))))))).b.c0
  have cuu1 := (HH26.out _ (.tail _ (.tail _ (.tail _ (.tail _ (.tail _ (.tail _ (.tail _ (.head _))))))))).b.c1
  have cuu2 := (HH26.out _ (.tail _ (.tail _ (.tail _ (.tail _ (.tail _ (.tail _ (.tail _ (.head _))))))))).b.c2
  have cvv0 := (HH26.out _ (.tail _ (.tail _ (.tail _ (.tail _ (.tail _ (.tail _ (.head _)))))))).b.c0
  have cvv1 := (HH26.out _ (.tail _ (.tail _ (.tail _ (.tail _ (.tail _ (.tail _ (.head _)))))))).b.c1
  have cvv2 := (HH26.out _ (.tail _ (.tail _ (.tail _ (.tail _ (.tail _ (.tail _ (.head _)))))))).b.c2
  go_wp2_with fail
  refine (sameQT HSame.out (HH26.out _ (.tail _ (.tail _ (.tail _ (.tail _ (.tail _ (.tail _ (.tail _ (.head _))))))))).m (HH26.out _ (.tail _ (.tail _ (.tail _ (.tail _ (.tail _ (.tail _ (.head _)))))))).m (HH26.out _ (.tail _ (.tail _ (.tail _ (.tail _ (.tail _ (.tail _ (.tail _ (.head _))))))))).ln (HH26.out _ (.tail _ (.tail _ (.tail _ (.tail _ (.tail _ (.tail _ (.tail _ (.head _))))))))).ld (HH26.out _ (.tail _ (.tail _ (.tail _ (.tail _ (.tail _ (.tail _ (.head _)))))))).ln (HH26.out _ (.tail _ (.tail _ (.tail _ (.tail _ (.tail _ (.tail _ (.head _)))))))).ld Q.out.2.2.2.1).mono ?_
  rintro e v27_ ⟨rfl, hb⟩
  have HH27 := Lib.hid (HH26.out.next hb)
  have HB27 := Lib.hid (below_then HB26.out hb)
  clear hb HH26 HB26
  clear cuu0 cuu1 cuu2 cvv0 cvv1 cvv2
  have cnn0 := (HH27.out _ (.tail _ (.tail _ (.tail _ (.tail _ (.head _)))))).b.c0
  have cnn1 := (HH27.out _ (.tail _ (.tail _ (.tail _ (.tail _ (.head _)))))).b.c1
  have cnn2 := (HH27.out _ (.tail _ (.tail _ (.tail _ (.tail _ (.head _)))))).b.c2
  have coo0 := (HH27.out _ (.tail _ (.tail _ (.tail _ (.head _))))).b.c0
  have coo1 := (HH27.out _ (.tail _ (.tail _ (.tail _ (.head _))))).b.c1
  have coo2 := (HH27.out _ (.tail _ (.tail _ (.tail _ (.head _))))).b.c2
  go_wp2_with fail
  refine (sameQT HSame.out (HH27.out _ (.tail _ (.tail _ (.tail _ (.tail _ (.head _)))))).m (HH27.out _ (.tail _ (.tail _ (.tail _ (.head _))))).m (HH27.out _ (.tail _ (.tail _ (.tail _ (.tail _ (.head _)))))).ln (HH27.out _ (.tail _ (.tail _ (.tail _ (.tail _ (.head _)))))).ld (HH27.out _ (.tail _ (.tail _ (.tail _ (.head _))))).ln (HH27.out _ (.tail _ (.tail _ (.tail _ (.head _))))).ld Q.out.2.2.2.2.1).mono ?_
  rintro e v28_ ⟨rfl, hb⟩
  have HH28 := Lib.hid (HH27.out.next hb)
  have HB28 := Lib.hid (below_then HB27.out hb)
  clear hb HH27 HB27
  clear cnn0 cnn1 cnn2 coo0 coo1 coo2
  have cbk0 := (HH28.out _ (.tail _ (.head _))).b.c0
  have cbk1 := (HH28.out _ (.tail _ (.head _))).b.c1
  have cbk2 := (HH28.out _ (.tail _ (.head _))).b.c2
  have cx0 := (HH28.out _ (.tail _ (.tail _ (.tail _ (.tail _ (.tail _ (.tail _ (.tail _ (.tail _ (.tail _ (.tail _ (.tail _ (.tail _ (.tail _ (.tail _ (.tail _ (.tail _ (.tail _ (.tail _ (.head _)))))))))))))))))))).b.c0
  have cx1 := (HH28.out _ (.tail _ (.tail _ (.tail _ (.tail _ (.tail _ (.tail _ (.tail _ (.tail _ (.tail _ (.tail _ (.tail _ (.tail _ (.tail _ (.tail _ (.tail _ (.tail _ (.tail _ (.tail _ (.head _)))))))))))))))))))).b.c1
  have cx2 := (HH28.out _ (.tail _ (.tail _ (.tail _ (.tail _ (.tail _ (.tail _ (.tail _ (.tail _ (.tail _ (.tail _ (.tail _ (.tail _ (.tail _ (.tail _ (.tail _ (.tail _ (.tail _ (.tail _ (.head _)))))))))))))))))))).b.c2
  go_wp2_with fail
  refine (sameQT HSame.out (HH28.out _ (.tail _ (.head _))).m (HH28.out _ (.tail _ (.tail _ (.tail _ (.tail _ (.tail _ (.tail _ (.tail _ (.tail _ (.tail _ (.tail _ (.tail _ (.tail _ (.tail _ (.tail _ (.tail _ (.tail _ (.tail _ (.tail _ (.head _)))))))))))))))))))).m (HH28.out _ (.tail _ (.head _))).ln (HH28.out _ (.tail _ (.head _))).ld (HH28.out _ (.tail _ (.tail _ (.tail _ (.tail _ (.tail _ (.tail _ (.tail _ (.tail _ (.tail _ (.tail _ (.tail _ (.tail _ (.tail _ (.tail _ (.tail _ (.tail _ (.tail _ (.tail _ (.head _)))))))))))))))))))).ln (HH28.out _ (.tail _ (.tail _ (.tail _ (.tail _ (.tail _ (.tail _ (.tail _ (.tail _ (.tail _ (.tail _ (.tail _ (.tail _ (.tail _ (.tail _ (.tail _ (.tail _ (.tail _ (.tail _ (.head _)))))))))))))))))))).ld Q.out.2.2.2.2.2.1).mono ?_
  rintro e v29_ ⟨rfl, hb⟩
  have HH29 := Lib.hid (HH28.out.next hb)
  have HB29 := Lib.hid (below_then HB28.out hb)
  clear hb HH28 HB28
  clear cbk0 cbk1 cbk2 cx0 cx1 cx2
  have cab0 := (HH29.out _ (.tail _ (.tail _ (.tail _ (.tail _ (.tail _ (.tail _ (.tail _ (.tail _ (.tail _ (.tail _ (.tail _ (.tail _ (.tail _ (.tail _ (.tail _ (.head _))))))))))))))))).b.c0
  have cab1 := (HH29.out _ (.tail _ (.tail _ (.tail _ (.tail _ (.tail _ (.tail _ (.tail _ (.tail _ (.tail _ (.tail _ (.tail _ (.tail _ (.tail _ (.tail _ (.tail _ (.head _))))))))))))))))).b.c1
  have cab2 := (HH29.out _ (.tail _ (.tail _ (.tail _ (.tail _ (.tail _ (.tail _ (.tail _ (.tail _ (.tail _ (.tail _ (.tail _ (.tail _ (.tail _ (.tail _ (.tail _ (.head _))))))))))))))))).b.c2
  go_wp2_with fail
  refine (checkQN HCheck.out (HH29.out _ (.tail _ (.tail _ (.tail _ (.tail _ (.tail _ (.tail _ (.tail _ (.tail _ (.tail _ (.tail _ (.tail _ (.tail _ (.tail _ (.tail _ (.tail _ (.head _))))))))))))))))).m (HH29.out _ (.tail _ (.tail _ (.tail _ (.tail _ (.tail _ (.tail _ (.tail _ (.tail _ (.tail _ (.tail _ (.tail _ (.tail _ (.tail _ (.tail _ (.tail _ (.head _))))))))))))))))).ln (HH29.out _ (.tail _ (.tail _ (.tail _ (.tail _ (.tail _ (.tail _ (.tail _ (.tail _ (.tail _ (.tail _ (.tail _ (.tail _ (.tail _ (.tail _ (.tail _ (.head _))))))))))))))))).ld).mono ?_
  rintro e v30_ ⟨rfl, hb⟩
  have HH30 := Lib.hid (HH29.out.next hb)
  have HB30 := Lib.hid (below_then HB29.out hb)
  clear hb HH29 HB29
  clear cab0 cab1 cab2
  have cpp0 := (HH30.out _ (.tail _ (.tail _ (.tail _ (.tail _ (.tail _ (.tail _ (.tail _ (.tail _ (.tail _ (.tail _ (.head _)))))))))))).b.c0
  have cpp1 := (HH30.out _ (.tail _ (.tail _ (.tail _ (.tail _ (.tail _ (.tail _ (.tail _ (.tail _ (.tail _ (.tail _ (.head _)))))))))))).b.c1
  have cpp2 := (HH30.out _ (.tail _ (.tail _ (.tail _ (.tail _ (.tail _ (.tail _ (.tail _ (.tail _ (.tail _ (.tail _ (.head _)))))))))))).b.c2
  go_wp2_with fail
  refine (checkQN HCheck.out (HH30.out _ (.tail _ (.tail _ (.tail _ (.tail _ (.tail _ (.tail _ (.tail _ (.tail _ (.tail _ (.tail _ (.head _)))))))))))).m (HH30.out _ (.tail _ (.tail _ (.tail _ (.tail _ (.tail _ (.tail _ (.tail _ (.tail _ (.tail _ (.tail _ (.head _)))))))))))).ln (HH30.out _ (.tail _ (.tail _ (.tail _ (.tail _ (.tail _ (.tail _ (.tail _ (.tail _ (.tail _ (.tail _ (.head _)))))))))))).ld).mono ?_
  rintro e v31_ ⟨rfl, hb⟩
  have HH31 := Lib.hid (HH30.out.next hb)
  have HB31 := Lib.hid (below_then HB30.out hb)
  clear hb HH30 HB30
  clear cpp0 cpp1 cpp2
  have czq0 := (HH31.out _ (.head _)).b.c0
  have czq1 := (HH31.out _ (.head _)).b.c1
  have czq2 := (HH31.out _ (.head _)).b.c2
  have cy0 := (HH31.out _ (.tail _ (.tail _ (.tail _ (.tail _ (.tail _ (.tail _ (.tail _ (.tail _ (.tail _ (.tail _ (.tail _ (.tail _ (.tail _ (.tail _ (.tail _ (.tail _ (.tail _ (.head _))))))))))))))))))).b.c0
  have cy1 := (HH31.out _ (.tail _ (.tail _ (.tail _ (.tail _ (.tail _ (.tail _ (.tail _ (.tail _ (.tail _ (.tail _ (.tail _ (.tail _ (.tail _ (.tail _ (.tail _ (.tail _ (.tail _ (.head _))))))))))))))))))).b.c1
  have cy2 := (HH31.out _ (.tail _ (.tail _ (.tail _ (.tail _ (.tail _ (.tail _ (.tail _ (.tail _ (.tail _ (.tail _ (.tail _ (.tail _ (.tail _ (.tail _ (.tail _ (.tail _ (.tail _ (.head _))))))))))))))))))).b.c2
  go_wp2_with fail
  refine (Ewq.out ▸ opN HMul.out (HH31.out _ (.head _)).m (HH31.out _ (.tail _ (.tail _ (.tail _ (.tail _ (.tail _ (.tail _ (.tail _ (.tail _ (.tail _ (.tail _ (.tail _ (.tail _ (.tail _ (.tail _ (.tail _ (.tail _ (.tail _ (.head _))))))))))))))))))).m (HH31.out _ (.head _)).ln (HH31.out _ (.head _)).ld (HH31.out _ (.tail _ (.tail _ (.tail _ (.tail _ (.tail _ (.tail _ (.tail _ (.tail _ (.tail _ (.tail _ (.tail _ (.tail _ (.tail _ (.tail _ (.tail _ (.tail _ (.tail _ (.head _))))))))))))))))))).ln (HH31.out _ (.tail _ (.tail _ (.tail _ (.tail _ (.tail _ (.tail _ (.tail _ (.tail _ (.tail _ (.tail _ (.tail _ (.tail _ (.tail _ (.tail _ (.tail _ (.tail _ (.tail _ (.head _))))))))))))))))))).ld).mono ?_
  rintro e v32_ ⟨q32, rfl, o32, hb⟩
  have HL := Lib.hid (Lwq.out.len o32)
  have HH32 : Hid (HeldQ (v32_.alloc (.cells #[.bool q32.p, .slice q32.A q32.n q32.c, .slice q32.D q32.m q32.d] qT)) [⟨v32_.heap.size, q32, wq⟩, ⟨v23_.heap.size, q23, zq⟩, ⟨v22_.heap.size, q22, bk⟩, ⟨v21_.heap.size, q21, dd⟩, ⟨v20_.heap.size, q20, oo⟩, ⟨v19_.heap.size, q19, nn⟩, ⟨v18_.heap.size, q18, mm⟩, ⟨v17_.heap.size, q17, vv⟩, ⟨v16_.heap.size, q16, uu⟩, ⟨v15_.heap.size, q15, ac⟩, ⟨v14_.heap.size, q14, qq⟩, ⟨v13_.heap.size, q13, pp⟩, ⟨v12_.heap.size, q12, u2⟩, ⟨v11_.heap.size, q11, u1⟩, ⟨v10_.heap.size, q10, bc⟩, ⟨v9_.heap.size, q9, ba⟩, ⟨v8_.heap.size, q8, ab⟩, ⟨w.heap.size + 1 + 1, vc, z⟩, ⟨w.heap.size + 1, vb, y⟩, ⟨w.heap.size, va, x⟩]) := Lib.hid ((HH31.out.next (below_then hb (bxb _ q32.o))).cons (IQ.fresh o32 (by have := HL.out; omega) (by have := HL.out; omega)))
  have HB32 : Hid (Below w.heap.size w (v32_.alloc (.cells #[.bool q32.p, .slice q32.A q32.n q32.c, .slice q32.D q32.m q32.d] qT))) := Lib.hid (below_then HB31.out (below_then hb (bxb _ q32.o)))
  clear hb o32 HL HH31 HB31
  unfold QV.v
  clear czq0 czq1 czq2 cy0 cy1 cy2
  have cwq0 := (HH32.out _ (.head _)).b.c0
  have cwq1 := (HH32.out _ (.head _)).b.c1
  have cwq2 := (HH32.out _ (.head _)).b.c2
  have cx0 := (HH32.out _ (.tail _ (.tail _ (.tail _ (.tail _ (.tail _ (.tail _ (.tail _ (.tail _ (.tail _ (.tail _ (.tail _ (.tail _ (.tail _ (.tail _ (.tail _ (.tail _ (.tail _ (.tail _ (.tail _ (.head _))))))))))))))))))))).b.c0
  have cx1 := (HH32.out _ (.tail _ (.tail _ (.tail _ (.tail _ (.tail _ (.tail _ (.tail _ (.tail _ (.tail _ (.tail _ (.tail _ (.tail _ (.tail _ (.tail _ (.tail _ (.tail _ (.tail _ (.tail _ (.tail _ (.head _))))))))))))))))))))).b.c1
  have cx2 := (HH32.out _ (.tail _ (.tail _ (.tail _ (.tail _ (.tail _ (.tail _ (.tail _ (.tail _ (.tail _ (.tail _ (.tail _ (.tail _ (.tail _ (.tail _ (.tail _ (.tail _ (.tail _ (.tail _ (.tail _ (.head _))))))))))))))))))))).b.c2
  go_wp2_with fail
  refine (sameQT HSame.out (HH32.out _ (.head _)).m (HH32.out _ (.tail _ (.tail _ (.tail _ (.tail _ (.tail _ (.tail _ (.tail _ (.tail _ (.tail _ (.tail _ (.tail _ (.tail _ (.tail _ (.tail _ (.tail _ (.tail _ (.tail _ (.tail _ (.tail _ (.head _))))))))))))))))))))).m (HH32.out _ (.head _)).ln (HH32.out _ (.head _)).ld (HH32.out _ (.tail _ (.tail _ (.tail _ (.tail _ (.tail _ (.tail _ (.tail _ (.tail _ (.tail _ (.tail _ (.tail _ (.tail _ (.tail _ (.tail _ (.tail _ (.tail _ (.tail _ (.tail _ (.tail _ (.head _))))))))))))))))))))).ln (HH32.out _ (.tail _ (.tail _ (.tail _ (.tail _ (.tail _ (.tail _ (.tail _ (.tail _ (.tail _ (.tail _ (.tail _ (.tail _ (.tail _ (.tail _ (.tail _ (.tail _ (.tail _ (.tail _ (.tail _ (.head _))))))))))))))))))))).ld Q.out.2.2.2.2.2.2).mono ?_
  rintro e v33_ ⟨rfl, hb⟩
  have HH33 := Lib.hid (HH32.out.next hb)
  have HB33 := Lib.hid (below_then HB32.out hb)
  clear hb HH32 HB32
  clear cwq0 cwq1 cwq2 cx0 cx1 cx2
  go_wp2
  go_ret
  exact ⟨by simp, HB33.out⟩
end Go.Proofs.YtbldimplddiheaaGreatDoor

/- The law RatField, from what the calls of rat are. -/
namespace Go.Proofs.YtbldimplddiheaaGreatDoor
open Go.RowKit Go.Shelf
set_option linter.unusedVariables false
set_option linter.unusedSimpArgs false

theorem sameQT0 {w : World} {v v2 : QV} {x y : Rat} {F : Nat} (hF : SameQIs F) (h1 : QNm w v x) (h2 : QNm w v2 y) (l1 : v.n ≤ 60) (l2 : v.m ≤ 60) (l3 : v2.n ≤ 60) (l4 : v2.m ≤ 60) (e : x = y) : Calls Tryz.prog F #[v.v, v2.v] w fun e w' => e = .returned (.bool true) ∧ Below w.heap.size w w' := by
  have h := sameQN hF h1 h2 l1 l2 l3 l4
  rwa [decide_eq_true e] at h
set_option maxRecDepth 100000 in
set_option maxHeartbeats 20000000 in
theorem fieldQ_zero (va vc : QV) (pb : Bool) (Ab Db : Option Addr) (cb mb db : Nat) (x y z : Rat) (w : World) (hva : QNm w va x) (hvb : QNm w (QV.mk pb Ab 0 cb Db mb db) y) (hvc : QNm w vc z) (l1 : va.n ≤ 8 ∧ va.m ≤ 8) (l2 : 0 ≤ 8 ∧ mb ≤ 8) (l3 : vc.n ≤ 8 ∧ vc.m ≤ 8) (hy : y = 0)
    (hAl : ∀ W, Calls Tryz.prog 17 #[] W fun e w' => e = .returned (.bool true) ∧ Below W.heap.size W w')
    (hAdd : OpQIs (fun x y => x + y) 21) (hSub : OpQIs (fun x y => x - y) 23) (hMul : OpQIs (fun x y => x * y) 10) (hDiv : DivQIs 15) (hCheck : CheckQIs 19) :
    Calls Tryz.prog 5 #[va.v, (QV.mk pb Ab 0 cb Db mb db).v, vc.v] w fun e w' => e = .returned (.bool true) ∧ Below w.heap.size w w' := by
  have nva : va.n ≤ 60 := by omega
  have nvb : (QV.mk pb Ab 0 cb Db mb db).n ≤ 60 := Nat.zero_le _
  have nvc : vc.n ≤ 60 := by omega
  have mva : va.m ≤ 60 := by omega
  have mvb : (QV.mk pb Ab 0 cb Db mb db).m ≤ 60 := by show mb ≤ 60; omega
  have mvc : vc.m ≤ 60 := by omega
  have Lx : Hid (BdQ 8 8 x) := BdQ.of hva l1.1 l1.2
  have Ly : Hid (BdQ 8 8 y) := BdQ.of hvb l2.1 l2.2
  have Lz : Hid (BdQ 8 8 z) := BdQ.of hvc l3.1 l3.2
  have G1 := Lib.hid (fun W (n : Int) => rGreat_any (v := va) (w := W) n)
  have G2 := Lib.hid (fun W (n : Int) => rGreat_any (v := QV.mk pb Ab 0 cb Db mb db) (w := W) n)
  have G3 := Lib.hid (fun W (n : Int) => rGreat_any (v := vc) (w := W) n)
  have g1 : ∀ (n m : Nat), n ≤ 8 ∧ m ≤ 8 → (decide ((8 : Int) < (n : Int)) || decide ((8 : Int) < (m : Int))) = false := fun n m h => by simp; omega
  have HAl := Lib.hid hAl
  have HAdd := Lib.hid hAdd
  have HSub := Lib.hid hSub
  have HMul := Lib.hid hMul
  have HDiv := Lib.hid hDiv
  have HCheck := Lib.hid hCheck
  have HY := Lib.hid hy
  have GG := Lib.hid (And.intro (g1 _ _ l1) (And.intro (g1 _ _ l2) (g1 _ _ l3)))
  clear hAl hAdd hSub hMul hDiv hCheck hy g1
  obtain ⟨ab, eab⟩ : ∃ s : Rat, s = x + y := ⟨_, rfl⟩
  have Lab : Hid (BdQ 17 16 ab) := by show BdQ _ _ _; rw [eab]; exact Lx.out.add Ly.out (K := 16) (by omega) (by omega)
  have Eab := Lib.hid eab
  clear eab
  obtain ⟨ba, eba⟩ : ∃ s : Rat, s = y + x := ⟨_, rfl⟩
  have Lba : Hid (BdQ 17 16 ba) := by show BdQ _ _ _; rw [eba]; exact Ly.out.add Lx.out (K := 16) (by omega) (by omega)
  have Eba := Lib.hid eba
  clear eba
  obtain ⟨bc, ebc⟩ : ∃ s : Rat, s = y + z := ⟨_, rfl⟩
  have Lbc : Hid (BdQ 17 16 bc) := by show BdQ _ _ _; rw [ebc]; exact Ly.out.add Lz.out (K := 16) (by omega) (by omega)
  have Ebc := Lib.hid ebc
  clear ebc
  obtain ⟨u1, eu1⟩ : ∃ s : Rat, s = ab + z := ⟨_, rfl⟩
  have Lu1 : Hid (BdQ 26 24 u1) := by show BdQ _ _ _; rw [eu1]; exact Lab.out.add Lz.out (K := 25) (by omega) (by omega)
  have Eu1 := Lib.hid eu1
  clear eu1
  obtain ⟨u2, eu2⟩ : ∃ s : Rat, s = x + bc := ⟨_, rfl⟩
  have Lu2 : Hid (BdQ 26 24 u2) := by show BdQ _ _ _; rw [eu2]; exact Lx.out.add Lbc.out (K := 25) (by omega) (by omega)
  have Eu2 := Lib.hid eu2
  clear eu2
  obtain ⟨pp, epp⟩ : ∃ s : Rat, s = x * y := ⟨_, rfl⟩
  have Lpp : Hid (BdQ 16 16 pp) := by show BdQ _ _ _; rw [epp]; exact Lx.out.mul Ly.out
  have Epp := Lib.hid epp
  clear epp
  obtain ⟨qq, eqq⟩ : ∃ s : Rat, s = y * x := ⟨_, rfl⟩
  have Lqq : Hid (BdQ 16 16 qq) := by show BdQ _ _ _; rw [eqq]; exact Ly.out.mul Lx.out
  have Eqq := Lib.hid eqq
  clear eqq
  obtain ⟨ac, eac⟩ : ∃ s : Rat, s = x * z := ⟨_, rfl⟩
  have Lac : Hid (BdQ 16 16 ac) := by show BdQ _ _ _; rw [eac]; exact Lx.out.mul Lz.out
  have Eac := Lib.hid eac
  clear eac
  obtain ⟨uu, euu⟩ : ∃ s : Rat, s = x * bc := ⟨_, rfl⟩
  have Luu : Hid (BdQ 25 24 uu) := by show BdQ _ _ _; rw [euu]; exact Lx.out.mul Lbc.out
  have Euu := Lib.hid euu
  clear euu
  obtain ⟨vv, evv⟩ : ∃ s : Rat, s = pp + ac := ⟨_, rfl⟩
  have Lvv : Hid (BdQ 33 32 vv) := by show BdQ _ _ _; rw [evv]; exact Lpp.out.add Lac.out (K := 32) (by omega) (by omega)
  have Evv := Lib.hid evv
  clear evv
  obtain ⟨mm, emm⟩ : ∃ s : Rat, s = y * z := ⟨_, rfl⟩
  have Lmm : Hid (BdQ 16 16 mm) := by show BdQ _ _ _; rw [emm]; exact Ly.out.mul Lz.out
  have Emm := Lib.hid emm
  clear emm
  obtain ⟨nn, enn⟩ : ∃ s : Rat, s = pp * z := ⟨_, rfl⟩
  have Lnn : Hid (BdQ 24 24 nn) := by show BdQ _ _ _; rw [enn]; exact Lpp.out.mul Lz.out
  have Enn := Lib.hid enn
  clear enn
  obtain ⟨oo, eoo⟩ : ∃ s : Rat, s = x * mm := ⟨_, rfl⟩
  have Loo : Hid (BdQ 24 24 oo) := by show BdQ _ _ _; rw [eoo]; exact Lx.out.mul Lmm.out
  have Eoo := Lib.hid eoo
  clear eoo
  obtain ⟨dd, edd⟩ : ∃ s : Rat, s = x - y := ⟨_, rfl⟩
  have Ldd : Hid (BdQ 17 16 dd) := by show BdQ _ _ _; rw [edd]; exact Lx.out.sub Ly.out (K := 16) (by omega) (by omega)
  have Edd := Lib.hid edd
  clear edd
  obtain ⟨bk, ebk⟩ : ∃ s : Rat, s = dd + y := ⟨_, rfl⟩
  have Lbk : Hid (BdQ 26 24 bk) := by show BdQ _ _ _; rw [ebk]; exact Ldd.out.add Ly.out (K := 25) (by omega) (by omega)
  have Ebk := Lib.hid ebk
  clear ebk
  have Q : Hid (ab = ba ∧ u1 = u2 ∧ pp = qq ∧ uu = vv ∧ nn = oo ∧ bk = x ∧ True) := by
    refine ⟨?_, ?_, ?_, ?_, ?_, ?_, ?_⟩
    · rw [Eab.out, Eba.out, Rat.add_comm]
    · rw [Eu1.out, Eu2.out, Eab.out, Ebc.out, Rat.add_assoc]
    · rw [Epp.out, Eqq.out, Rat.mul_comm]
    · rw [Euu.out, Evv.out, Epp.out, Eac.out, Ebc.out, Rat.mul_add]
    · rw [Enn.out, Eoo.out, Epp.out, Emm.out, Rat.mul_assoc]
    · rw [Ebk.out, Edd.out, Rat.sub_add_cancel]
    · trivial
  have HSame : Hid (SameQIs 28) := fun _ _ _ _ _ _ _ h1 h2 => rSameQ_any h1 h2
  have K0 := heldq_nil w
  have D0 := Below.refl w.heap.size w
  have K1 := (K0.next (bxb _ va.o)).cons (IQ.param (hva) nva mva)
  have D1 := below_then D0 (bxb _ va.o)
  have K2 := (K1.next (bxb _ (QV.mk pb Ab 0 cb Db mb db).o)).cons (IQ.param (hvb.below D1) nvb mvb)
  have D2 := below_then D1 (bxb _ (QV.mk pb Ab 0 cb Db mb db).o)
  have K3 := (K2.next (bxb _ vc.o)).cons (IQ.param (hvc.below D2) nvc mvc)
  have D3 := below_then D2 (bxb _ vc.o)
  try simp only [World.size_alloc] at K3
  have HH0 := Lib.hid K3
  have HB0 := Lib.hid D3
  clear K0 D0 K1 D1 K2 D2 K3 D3
  clear hva hvb hvc
  clear l1 l2 l3
  try dsimp only [QV.v]
  go_enter Tryz.func5, Tryz.ntmps5
  go_wp2_with fail
  refine (HAl.out _).mono ?_
  rintro e v1_ ⟨rfl, hb⟩
  have HH1 := Lib.hid (HH0.out.next hb)
  have HB1 := Lib.hid (below_then HB0.out hb)
  clear hb HH0 HB0
  have cx0 := (HH1.out _ (.tail _ (.tail _ (.head _)))).b.c0
  have cx1 := (HH1.out _ (.tail _ (.tail _ (.head _)))).b.c1
  have cx2 := (HH1.out _ (.tail _ (.tail _ (.head _)))).b.c2
  have cy0 := (HH1.out _ (.tail _ (.head _))).b.c0
  have cy1 := (HH1.out _ (.tail _ (.head _))).b.c1
  have cy2 := (HH1.out _ (.tail _ (.head _))).b.c2
  have cz0 := (HH1.out _ (.head _)).b.c0
  have cz1 := (HH1.out _ (.head _)).b.c1
  have cz2 := (HH1.out _ (.head _)).b.c2
  go_wp2_with fail
  refine (G1.out _ 8).mono ?_
  rintro e v2_ ⟨rfl, hb⟩
  have HH2 := Lib.hid (HH1.out.next hb)
  have HB2 := Lib.hid (below_then HB1.out hb)
  clear hb HH1 HB1
  rw [GG.out.1]
  clear cx0 cx1 cx2 cy0 cy1 cy2 cz0 cz1 cz2
  have cx0 := (HH2.out _ (.tail _ (.tail _ (.head _)))).b.c0
  have cx1 := (HH2.out _ (.tail _ (.tail _ (.head _)))).b.c1
  have cx2 := (HH2.out _ (.tail _ (.tail _ (.head _)))).b.c2
  have cy0 := (HH2.out _ (.tail _ (.head _))).b.c0
  have cy1 := (HH2.out _ (.tail _ (.head _))).b.c1
  have cy2 := (HH2.out _ (.tail _ (.head _))).b.c2
  have cz0 := (HH2.out _ (.head _)).b.c0
  have cz1 := (HH2.out _ (.head _)).b.c1
  have cz2 := (HH2.out _ (.head _)).b.c2
  go_wp2_with fail
  refine (G2.out _ 8).mono ?_
  rintro e v3_ ⟨rfl, hb⟩
  have HH3 := Lib.hid (HH2.out.next hb)
  have HB3 := Lib.hid (below_then HB2.out hb)
  clear hb HH2 HB2
  rw [GG.out.2.1]
  clear cx0 cx1 cx2 cy0 cy1 cy2 cz0 cz1 cz2
  have cx0 := (HH3.out _ (.tail _ (.tail _ (.head _)))).b.c0
  have cx1 := (HH3.out _ (.tail _ (.tail _ (.head _)))).b.c1
  have cx2 := (HH3.out _ (.tail _ (.tail _ (.head _)))).b.c2
  have cy0 := (HH3.out _ (.tail _ (.head _))).b.c0
  have cy1 := (HH3.out _ (.tail _ (.head _))).b.c1
  have cy2 := (HH3.out _ (.tail _ (.head _))).b.c2
  have cz0 := (HH3.out _ (.head _)).b.c0
  have cz1 := (HH3.out _ (.head _)).b.c1
  have cz2 := (HH3.out _ (.head _)).b.c2
  go_wp2_with fail
  refine (G3.out _ 8).mono ?_
  rintro e v4_ ⟨rfl, hb⟩
  have HH4 := Lib.hid (HH3.out.next hb)
  have HB4 := Lib.hid (below_then HB3.out hb)
  clear hb HH3 HB3
  rw [GG.out.2.2]
  clear cx0 cx1 cx2 cy0 cy1 cy2 cz0 cz1 cz2
  have cx0 := (HH4.out _ (.tail _ (.tail _ (.head _)))).b.c0
  have cx1 := (HH4.out _ (.tail _ (.tail _ (.head _)))).b.c1
  have cx2 := (HH4.out _ (.tail _ (.tail _ (.head _)))).b.c2
  have cy0 := (HH4.out _ (.tail _ (.head _))).b.c0
  have cy1 := (HH4.out _ (.tail _ (.head _))).b.c1
  have cy2 := (HH4.out _ (.tail _ (.head _))).b.c2
  have cz0 := (HH4.out _ (.head _)).b.c0
  have cz1 := (HH4.out _ (.head _)).b.c1
  have cz2 := (HH4.out _ (.head _)).b.c2
  go_wp2_with fail
  refine (checkQN HCheck.out (HH4.out _ (.tail _ (.tail _ (.head _)))).m (HH4.out _ (.tail _ (.tail _ (.head _)))).ln (HH4.out _ (.tail _ (.tail _ (.head _)))).ld).mono ?_
  rintro e v5_ ⟨rfl, hb⟩
  have HH5 := Lib.hid (HH4.out.next hb)
  have HB5 := Lib.hid (below_then HB4.out hb)
  clear hb HH4 HB4
  clear cx0 cx1 cx2 cy0 cy1 cy2 cz0 cz1 cz2
  have cx0 := (HH5.out _ (.tail _ (.tail _ (.head _)))).b.c0
  have cx1 := (HH5.out _ (.tail _ (.tail _ (.head _)))).b.c1
  have cx2 := (HH5.out _ (.tail _ (.tail _ (.head _)))).b.c2
  have cy0 := (HH5.out _ (.tail _ (.head _))).b.c0
  have cy1 := (HH5.out _ (.tail _ (.head _))).b.c1
  have cy2 := (HH5.out _ (.tail _ (.head _))).b.c2
  have cz0 := (HH5.out _ (.head _)).b.c0
  have cz1 := (HH5.out _ (.head _)).b.c1
  have cz2 := (HH5.out _ (.head _)).b.c2
  go_wp2_with fail
  refine (checkQN HCheck.out (HH5.out _ (.tail _ (.head _))).m (HH5.out _ (.tail _ (.head _))).ln (HH5.out _ (.tail _ (.head _))).ld).mono ?_
  rintro e v6_ ⟨rfl, hb⟩
  have HH6 := Lib.hid (HH5.out.next hb)
  have HB6 := Lib.hid (below_then HB5.out hb)
  clear hb HH5 HB5
  clear cx0 cx1 cx2 cy0 cy1 cy2 cz0 cz1 cz2
  have cx0 := (HH6.out _ (.tail _ (.tail _ (.head _)))).b.c0
  have cx1 := (HH6.out _ (.tail _ (.tail _ (.head _)))).b.c1
  have cx2 := (HH6.out _ (.tail _ (.tail _ (.head _)))).b.c2
  have cy0 := (HH6.out _ (.tail _ (.head _))).b.c0
  have cy1 := (HH6.out _ (.tail _ (.head _))).b.c1
  have cy2 := (HH6.out _ (.tail _ (.head _))).b.c2
  have cz0 := (HH6.out _ (.head _)).b.c0
  have cz1 := (HH6.out _ (.head _)).b.c1
  have cz2 := (HH6.out _ (.head _)).b.c2
  go_wp2_with fail
  refine (checkQN HCheck.out (HH6.out _ (.head _)).m (HH6.out _ (.head _)).ln (HH6.out _ (.head _)).ld).mono ?_
  rintro e v7_ ⟨rfl, hb⟩
  have HH7 := Lib.hid (HH6.out.next hb)
  have HB7 := Lib.hid (below_then HB6.out hb)
  clear hb HH6 HB6
  clear cx0 cx1 cx2 cy0 cy1 cy2 cz0 cz1 cz2
  have cx0 := (HH7.out _ (.tail _ (.tail _ (.head _)))).b.c0
  have cx1 := (HH7.out _ (.tail _ (.tail _ (.head _)))).b.c1
  have cx2 := (HH7.out _ (.tail _ (.tail _ (.head _)))).b.c2
  have cy0 := (HH7.out _ (.tail _ (.head _))).b.c0
  have cy1 := (HH7.out _ (.tail _ (.head _))).b.c1
  have cy2 := (HH7.out _ (.tail _ (.head _))).b.c2
  have cz0 := (HH7.out _ (.head _)).b.c0
  have cz1 := (HH7.out _ (.head _)).b.c1
  have cz2 := (HH7.out _ (.head _)).b.c2
  go_wp2_with fail
  refine (Eab.out ▸ opN HAdd.out (HH7.out _ (.tail _ (.tail _ (.head _)))).m (HH7.out _ (.tail _ (.head _))).m (HH7.out _ (.tail _ (.tail _ (.head _)))).ln (HH7.out _ (.tail _ (.tail _ (.head _)))).ld (HH7.out _ (.tail _ (.head _))).ln (HH7.out _ (.tail _ (.head _))).ld).mono ?_
  rintro e v8_ ⟨q8, rfl, o8, hb⟩
  have HL := Lib.hid (Lab.out.len o8)
  have HH8 : Hid (HeldQ (v8_.alloc (.cells #[.bool q8.p, .slice q8.A q8.n q8.c, .slice q8.D q8.m q8.d] qT)) [⟨v8_.heap.size, q8, ab⟩, ⟨w.heap.size + 1 + 1, vc, z⟩, ⟨w.heap.size + 1, (QV.mk pb Ab 0 cb Db mb db), y⟩, ⟨w.heap.size, va, x⟩]) := Lib.hid ((HH7.out.next (below_then hb (bxb _ q8.o))).cons (IQ.fresh o8 (by have := HL.out; omega) (by have := HL.out; omega)))
  have HB8 : Hid (Below w.heap.size w (v8_.alloc (.cells #[.bool q8.p, .slice q8.A q8.n q8.c, .slice q8.D q8.m q8.d] qT))) := Lib.hid (below_then HB7.out (below_then hb (bxb _ q8.o)))
  clear hb o8 HL HH7 HB7
  unfold QV.v
  clear cx0 cx1 cx2 cy0 cy1 cy2 cz0 cz1 cz2
  have cy0 := (HH8.out _ (.tail _ (.tail _ (.head _)))).b.c0
  have cy1 := (HH8.out _ (.tail _ (.tail _ (.head _)))).b.c1
  have cy2 := (HH8.out _ (.tail _ (.tail _ (.head _)))).b.c2
  have cx0 := (HH8.out _ (.tail _ (.tail _ (.tail _ (.head _))))).b.c0
  have cx1 := (HH8.out _ (.tail _ (.tail _ (.tail _ (.head _))))).b.c1
  have cx2 := (HH8.out _ (.tail _ (.tail _ (.tail _ (.head _))))).b.c2
  go_wp2_with fail
  refine (Eba.out ▸ opN HAdd.out (HH8.out _ (.tail _ (.tail _ (.head _)))).m (HH8.out _ (.tail _ (.tail _ (.tail _ (.head _))))).m (HH8.out _ (.tail _ (.tail _ (.head _)))).ln (HH8.out _ (.tail _ (.tail _ (.head _)))).ld (HH8.out _ (.tail _ (.tail _ (.tail _ (.head _))))).ln (HH8.out _ (.tail _ (.tail _ (.tail _ (.head _))))).ld).mono ?_
  rintro e v9_ ⟨q9, rfl, o9, hb⟩
  have HL := Lib.hid (Lba.out.len o9)
  have HH9 : Hid (HeldQ (v9_.alloc (.cells #[.bool q9.p, .slice q9.A q9.n q9.c, .slice q9.D q9.m q9.d] qT)) [⟨v9_.heap.size, q9, ba⟩, ⟨v8_.heap.size, q8, ab⟩, ⟨w.heap.size + 1 + 1, vc, z⟩, ⟨w.heap.size + 1, (QV.mk pb Ab 0 cb Db mb db), y⟩, ⟨w.heap.size, va, x⟩]) := Lib.hid ((HH8.out.next (below_then hb (bxb _ q9.o))).cons (IQ.fresh o9 (by have := HL.out; omega) (by have := HL.out; omega)))
  have HB9 : Hid (Below w.heap.size w (v9_.alloc (.cells #[.bool q9.p, .slice q9.A q9.n q9.c, .slice q9.D q9.m q9.d] qT))) := Lib.hid (below_then HB8.out (below_then hb (bxb _ q9.o)))
  clear hb o9 HL HH8 HB8
  unfold QV.v
  clear cy0 cy1 cy2 cx0 cx1 cx2
  have cy0 := (HH9.out _ (.tail _ (.tail _ (.tail _ (.head _))))).b.c0
  have cy1 := (HH9.out _ (.tail _ (.tail _ (.tail _ (.head _))))).b.c1
  have cy2 := (HH9.out _ (.tail _ (.tail _ (.tail _ (.head _))))).b.c2
  have cz0 := (HH9.out _ (.tail _ (.tail _ (.head _)))).b.c0
  have cz1 := (HH9.out _ (.tail _ (.tail _ (.head _)))).b.c1
  have cz2 := (HH9.out _ (.tail _ (.tail _ (.head _)))).b.c2
  go_wp2_with fail
  refine (Ebc.out ▸ opN HAdd.out (HH9.out _ (.tail _ (.tail _ (.tail _ (.head _))))).m (HH9.out _ (.tail _ (.tail _ (.head _)))).m (HH9.out _ (.tail _ (.tail _ (.tail _ (.head _))))).ln (HH9.out _ (.tail _ (.tail _ (.tail _ (.head _))))).ld (HH9.out _ (.tail _ (.tail _ (.head _)))).ln (HH9.out _ (.tail _ (.tail _ (.head _)))).ld).mono ?_
  rintro e v10_ ⟨q10, rfl, o10, hb⟩
  have HL := Lib.hid (Lbc.out.len o10)
  have HH10 : Hid (HeldQ (v10_.alloc (.cells #[.bool q10.p, .slice q10.A q10.n q10.c, .slice q10.D q10.m q10.d] qT)) [⟨v10_.heap.size, q10, bc⟩, ⟨v9_.heap.size, q9, ba⟩, ⟨v8_.heap.size, q8, ab⟩, ⟨w.heap.size + 1 + 1, vc, z⟩, ⟨w.heap.size + 1, (QV.mk pb Ab 0 cb Db mb db), y⟩, ⟨w.heap.size, va, x⟩]) := Lib.hid ((HH9.out.next (below_then hb (bxb _ q10.o))).cons (IQ.fresh o10 (by have := HL.out; omega) (by have := HL.out; omega)))
  have HB10 : Hid (Below w.heap.size w (v10_.alloc (.cells #[.bool q10.p, .slice q10.A q10.n q10.c, .slice q10.D q10.m q10.d] qT))) := Lib.hid (below_then HB9.out (below_then hb (bxb _ q10.o)))
  clear hb o10 HL HH9 HB9
  unfold QV.v
  clear cy0 cy1 cy2 cz0 cz1 cz2
  have cab0 := (HH10.out _ (.tail _ (.tail _ (.head _)))).b.c0
  have cab1 := (HH10.out _ (.tail _ (.tail _ (.head _)))).b.c1
  have cab2 := (HH10.out _ (.tail _ (.tail _ (.head _)))).b.c2
  have cz0 := (HH10.out _ (.tail _ (.tail _ (.tail _ (.head _))))).b.c0
  have cz1 := (HH10.out _ (.tail _ (.tail _ (.tail _ (.head _))))).b.c1
  have cz2 := (HH10.out _ (.tail _ (.tail _ (.tail _ (.head _))))).b.c2
  go_wp2_with fail
  refine (Eu1.out ▸ opN HAdd.out (HH10.out _ (.tail _ (.tail _ (.head _)))).m (HH10.out _ (.tail _ (.tail _ (.tail _ (.head _))))).m (HH10.out _ (.tail _ (.tail _ (.head _)))).ln (HH10.out _ (.tail _ (.tail _ (.head _)))).ld (HH10.out _ (.tail _ (.tail _ (.tail _ (.head _))))).ln (HH10.out _ (.tail _ (.tail _ (.tail _ (.head _))))).ld).mono ?_
  rintro e v11_ ⟨q11, rfl, o11, hb⟩
  have HL := Lib.hid (Lu1.out.len o11)
  have HH11 : Hid (HeldQ (v11_.alloc (.cells #[.bool q11.p, .slice q11.A q11.n q11.c, .slice q11.D q11.m q11.d] qT)) [⟨v11_.heap.size, q11, u1⟩, ⟨v10_.heap.size, q10, bc⟩, ⟨v9_.heap.size, q9, ba⟩, ⟨v8_.heap.size, q8, ab⟩, ⟨w.heap.size + 1 + 1, vc, z⟩, ⟨w.heap.size + 1, (QV.mk pb Ab 0 cb Db mb db), y⟩, ⟨w.heap.size, va, x⟩]) := Lib.hid ((HH10.out.next (below_then hb (bxb _ q11.o))).cons (IQ.fresh o11 (by have := HL.out; omega) (by have := HL.out; omega)))
  have HB11 : Hid (Below w.heap.size w (v11_.alloc (.cells #[.bool q11.p, .slice q11.A q11.n q11.c, .slice q11.D q11.m q11.d] qT))) := Lib.hid (below_then HB10.out (below_then hb (bxb _ q11.o)))
  clear hb o11 HL HH10 HB10
  unfold QV.v
  clear cab0 cab1 cab2 cz0 cz1 cz2
  have cx0 := (HH11.out _ (.tail _ (.tail _ (.tail _ (.tail _ (.tail _ (.tail _ (.head _)))))))).b.c0
  have cx1 := (HH11.out _ (.tail _ (.tail _ (.tail _ (.tail _ (.tail _ (.tail _ (.head _)))))))).b.c1
  have cx2 := (HH11.out _ (.tail _ (.tail _ (.tail _ (.tail _ (.tail _ (.tail _ (.head _)))))))).b.c2
  have cbc0 := (HH11.out _ (.tail _ (.head _))).b.c0
  have cbc1 := (HH11.out _ (.tail _ (.head _))).b.c1
  have cbc2 := (HH11.out _ (.tail _ (.head _))).b.c2
  go_wp2_with fail
  refine (Eu2.out ▸ opN HAdd.out (HH11.out _ (.tail _ (.tail _ (.tail _ (.tail _ (.tail _ (.tail _ (.head _)))))))).m (HH11.out _ (.tail _ (.head _))).m (HH11.out _ (.tail _ (.tail _ (.tail _ (.tail _ (.tail _ (.tail _ (.head _)))))))).ln (HH11.out _ (.tail _ (.tail _ (.tail _ (.tail _ (.tail _ (.tail _ (.head _)))))))).ld (HH11.out _ (.tail _ (.head _))).ln (HH11.out _ (.tail _ (.head _))).ld).mono ?_
  rintro e v12_ ⟨q12, rfl, o12, hb⟩
  have HL := Lib.hid (Lu2.out.len o12)
  have HH12 : Hid (HeldQ (v12_.alloc (.cells #[.bool q12.p, .slice q12.A q12.n q12.c, .slice q12.D q12.m q12.d] qT)) [⟨v12_.heap.size, q12, u2⟩, ⟨v11_.heap.size, q11, u1⟩, ⟨v10_.heap.size, q10, bc⟩, ⟨v9_.heap.size, q9, ba⟩, ⟨v8_.heap.size, q8, ab⟩, ⟨w.heap.size + 1 + 1, vc, z⟩, ⟨w.heap.size + 1, (QV.mk pb Ab 0 cb Db mb db), y⟩, ⟨w.heap.size, va, x⟩]) := Lib.hid ((HH11.out.next (below_then hb (bxb _ q12.o))).cons (IQ.fresh o12 (by have := HL.out; omega) (by have := HL.out; omega)))
  have HB12 : Hid (Below w.heap.size w (v12_.alloc (.cells #[.bool q12.p, .slice q12.A q12.n q12.c, .slice q12.D q12.m q12.d] qT))) := Lib.hid (below_then HB11.out (below_then hb (bxb _ q12.o)))
  clear hb o12 HL HH11 HB11
  unfold QV.v
  clear cx0 cx1 cx2 cbc0 cbc1 cbc2
  have cx0 := (HH12.out _ (.tail _ (.tail _ (.tail _ (.tail _ (.tail _ (.tail _ (.tail _ (.head _))))))))).b.c0
  have cx1 := (HH12.out _ (.tail _ (.tail _ (.tail _ (.tail _ (.tail _ (.tail _ (.tail _ (.head _))))))))).b.c1
  have cx2 := (HH12.out _ (.tail _ (.tail _ (.tail _ (.tail _ (.tail _ (.tail _ (.tail _ (.head _))))))))).b.c2
  have cy0 := (HH12.out _ (.tail _ (.tail _ (.tail _ (.tail _ (.tail _ (.tail _ (.head _)))))))).b.c0
  have cy1 := (HH12.out _ (.tail _ (.tail _ (.tail _ (.tail _ (.tail _ (.tail _ (.head _)))))))).b.c1
  have cy2 := (HH12.out _ (.tail _ (.tail _ (.tail _ (.tail _ (.tail _ (.tail _ (.head _)))))))).b.c2
  go_wp2_with fail
  refine (Epp.out ▸ opN HMul.out (HH12.out _ (.tail _ (.tail _ (.tail _ (.tail _ (.tail _ (.tail _ (.tail _ (.head _))))))))).m (HH12.out _ (.tail _ (.tail _ (.tail _ (.tail _ (.tail _ (.tail _ (.head _)))))))).m (HH12.out _ (.tail _ (.tail _ (.tail _ (.tail _ (.tail _ (.tail _ (.tail _ (.head _))))))))).ln (HH12.out _ (.tail _ (.tail _ (.tail _ (.tail _ (.tail _ (.tail _ (.tail _ (.head _))))))))).ld (HH12.out _ (.tail _ (.tail _ (.tail _ (.tail _ (.tail _ (.tail _ (.head _)))))))).ln (HH12.out _ (.tail _ (.tail _ (.tail _ (.tail _ (.tail _ (.tail _ (.head _)))))))).ld).mono ?_
  rintro e v13_ ⟨q13, rfl, o13, hb⟩
  have HL := Lib.hid (Lpp.out.len o13)
  have HH13 : Hid (HeldQ (v13_.alloc (.cells #[.bool q13.p, .slice q13.A q13.n q13.c, .slice q13.D q13.m q13.d] qT)) [⟨v13_.heap.size, q13, pp⟩, ⟨v12_.heap.size, q12, u2⟩, ⟨v11_.heap.size, q11, u1⟩, ⟨v10_.heap.size, q10, bc⟩, ⟨v9_.heap.size, q9, ba⟩, ⟨v8_.heap.size, q8, ab⟩, ⟨w.heap.size + 1 + 1, vc, z⟩, ⟨w.heap.size + 1, (QV.mk pb Ab 0 cb Db mb db), y⟩, ⟨w.heap.size, va, x⟩]) := Lib.hid ((HH12.out.next (below_then hb (bxb _ q13.o))).cons (IQ.fresh o13 (by have := HL.out; omega) (by have := HL.out; omega)))
  have HB13 : Hid (Below w.heap.size w (v13_.alloc (.cells #[.bool q13.p, .slice q13.A q13.n q13.c, .slice q13.D q13.m q13.d] qT))) := Lib.hid (below_then HB12.out (below_then hb (bxb _ q13.o)))
  clear hb o13 HL HH12 HB12
  unfold QV.v
  clear cx0 cx1 cx2 cy0 cy1 cy2
  have cy0 := (HH13.out _ (.tail _ (.tail _ (.tail _ (.tail _ (.tail _ (.tail _ (.tail _ (.head _))))))))).b.c0
  have cy1 := (HH13.out _ (.tail _ (.tail _ (.tail _ (.tail _ (.tail _ (.tail _ (.tail _ (.head _))))))))).b.c1
  have cy2 := (HH13.out _ (.tail _ (.tail _ (.tail _ (.tail _ (.tail _ (.tail _ (.tail _ (.head _))))))))).b.c2
  have cx0 := (HH13.out _ (.tail _ (.tail _ (.tail _ (.tail _ (.tail _ (.tail _ (.tail _ (.tail _ (.head _)))))))))).b.c0
  have cx1 := (HH13.out _ (.tail _ (.tail _ (.tail _ (.tail _ (.tail _ (.tail _ (.tail _ (.tail _ (.head _)))))))))).b.c1
  have cx2 := (HH13.out _ (.tail _ (.tail _ (.tail _ (.tail _ (.tail _ (.tail _ (.tail _ (.tail _ (.head _)))))))))).b.c2
  go_wp2_with fail
  refine (Eqq.out ▸ opN HMul.out (HH13.out _ (.tail _ (.tail _ (.tail _ (.tail _ (.tail _ (.tail _ (.tail _ (.head _))))))))).m (HH13.out _ (.tail _ (.tail _ (.tail _ (.tail _ (.tail _ (.tail _ (.tail _ (.tail _ (.head _)))))))))).m (HH13.out _ (.tail _ (.tail _ (.tail _ (.tail _ (.tail _ (.tail _ (.tail _ (.head _))))))))).ln (HH13.out _ (.tail _ (.tail _ (.tail _ (.tail _ (.tail _ (.tail _ (.tail _ (.head _))))))))).ld (HH13.out _ (.tail _ (.tail _ (.tail _ (.tail _ (.tail _ (.tail _ (.tail _ (.tail _ (.head _)))))))))).ln (HH13.out _ (.tail _ (.tail _ (.tail _ (.tail _ (.tail _ (.tail _ (.tail _ (.tail _ (.head _)))))))))).ld).mono ?_
  rintro e v14_ ⟨q14, rfl, o14, hb⟩
  have HL := Lib.hid (Lqq.out.len o14)
  have HH14 : Hid (HeldQ (v14_.alloc (.cells #[.bool q14.p, .slice q14.A q14.n q14.c, .slice q14.D q14.m q14.d] qT)) [⟨v14_.heap.size, q14, qq⟩, ⟨v13_.heap.size, q13, pp⟩, ⟨v12_.heap.size, q12, u2⟩, ⟨v11_.heap.size, q11, u1⟩, ⟨v10_.heap.size, q10, bc⟩, ⟨v9_.heap.size, q9, ba⟩, ⟨v8_.heap.size, q8, ab⟩, ⟨w.heap.size + 1 + 1, vc, z⟩, ⟨w.heap.size + 1, (QV.mk pb Ab 0 cb Db mb db), y⟩, ⟨w.heap.size, va, x⟩]) := Lib.hid ((HH13.out.next (below_then hb (bxb _ q14.o))).cons (IQ.fresh o14 (by have := HL.out; omega) (by have := HL.out; omega)))
  have HB14 : Hid (Below w.heap.size w (v14_.alloc (.cells #[.bool q14.p, .slice q14.A q14.n q14.c, .slice q14.D q14.m q14.d] qT))) := Lib.hid (below_then HB13.out (below_then hb (bxb _ q14.o)))
  clear hb o14 HL HH13 HB13
  unfold QV.v
  clear cy0 cy1 cy2 cx0 cx1 cx2
  have cx0 := (HH14.out _ (.tail _ (.tail _ (.tail _ (.tail _ (.tail _ (.tail _ (.tail _ (.tail _ (.tail _ (.head _))))))))))).b.c0
  have cx1 := (HH14.out _ (.tail _ (.tail _ (.tail _ (.tail _ (.tail _ (.tail _ (.tail _ (.tail _ (.tail _ (.head _))))))))))).b.c1
  have cx2 := (HH14.out _ (.tail _ (.tail _ (.tail _ (.tail _ (.tail _ (.tail _ (.tail _ (.tail _ (.tail _ (.head _))))))))))).b.c2
  have cz0 := (HH14.out _ (.tail _ (.tail _ (.tail _ (.tail _ (.tail _ (.tail _ (.tail _ (.head _))))))))).b.c0
  have cz1 := (HH14.out _ (.tail _ (.tail _ (.tail _ (.tail _ (.tail _ (.tail _ (.tail _ (.head _))))))))).b.c1
  have cz2 := (HH14.out _ (.tail _ (.tail _ (.tail _ (.tail _ (.tail _ (.tail _ (.tail _ (.head _))))))))).b.c2
  go_wp2_with fail
  refine (Eac.out ▸ opN HMul.out (HH14.out _ (.tail _ (.tail _ (.tail _ (.tail _ (.tail _ (.tail _ (.tail _ (.tail _ (.tail _ (.head _))))))))))).m (HH14.out _ (.tail _ (.tail _ (.tail _ (.tail _ (.tail _ (.tail _ (.tail _ (.head _))))))))).m (HH14.out _ (.tail _ (.tail _ (.tail _ (.tail _ (.tail _ (.tail _ (.tail _ (.tail _ (.tail _ (.head _))))))))))).ln (HH14.out _ (.tail _ (.tail _ (.tail _ (.tail _ (.tail _ (.tail _ (.tail _ (.tail _ (.tail _ (.head _))))))))))).ld (HH14.out _ (.tail _ (.tail _ (.tail _ (.tail _ (.tail _ (.tail _ (.tail _ (.head _))))))))).ln (HH14.out _ (.tail _ (.tail _ (.tail _ (.tail _ (.tail _ (.tail _ (.tail _ (.head _))))))))).ld).mono ?_
  rintro e v15_ ⟨q15, rfl, o15, hb⟩
  have HL := Lib.hid (Lac.out.len o15)
  have HH15 : Hid (HeldQ (v15_.alloc (.cells #[.bool q15.p, .slice q15.A q15.n q15.c, .slice q15.D q15.m q15.d] qT)) [⟨v15_.heap.size, q15, ac⟩, ⟨v14_.heap.size, q14, qq⟩, ⟨v13_.heap.size, q13, pp⟩, ⟨v12_.heap.size, q12, u2⟩, ⟨v11_.heap.size, q11, u1⟩, ⟨v10_.heap.size, q10, bc⟩, ⟨v9_.heap.size, q9, ba⟩, ⟨v8_.heap.size, q8, ab⟩, ⟨w.heap.size + 1 + 1, vc, z⟩, ⟨w.heap.size + 1, (QV.mk pb Ab 0 cb Db mb db), y⟩, ⟨w.heap.size, va, x⟩]) := Lib.hid ((HH14.out.next (below_then hb (bxb _ q15.o))).cons (IQ.fresh o15 (by have := HL.out; omega) (by have := HL.out; omega)))
  have HB15 : Hid (Below w.heap.size w (v15_.alloc (.cells #[.bool q15.p, .slice q15.A q15.n q15.c, .slice q15.D q15.m q15.d] qT))) := Lib.hid (below_then HB14.out (below_then hb (bxb _ q15.o)))
  clear hb o15 HL HH14 HB14
  unfold QV.v
  clear cx0 cx1 cx2 cz0 cz1 cz2
  have cx0 := (HH15.out _ (.tail _ (.tail _ (.tail _ (.tail _ (.tail _ (.tail _ (.tail _ (.tail _ (.tail _ (.tail _ (.head _)))))))))))).b.c0
  have cx1 := (HH15.out _ (.tail _ (.tail _ (.tail _ (.tail _ (.tail _ (.tail _ (.tail _ (.tail _ (.tail _ (.tail _ (.head _)))))))))))).b.c1
  have cx2 := (HH15.out _ (.tail _ (.tail _ (.tail _ (.tail _ (.tail _ (.tail _ (.tail _ (.tail _ (.tail _ (.tail _ (.head _)))))))))))).b.c2
  have cbc0 := (HH15.out _ (.tail _ (.tail _ (.tail _ (.tail _ (.tail _ (.head _))))))).b.c0
  have cbc1 := (HH15.out _ (.tail _ (.tail _ (.tail _ (.tail _ (.tail _ (.head _))))))).b.c1
  have cbc2 := (HH15.out _ (.tail _ (.tail _ (.tail _ (.tail _ (.tail _ (.head _))))))).b.c2
  go_wp2_with fail
  refine (Euu.out ▸ opN HMul.out (HH15.out _ (.tail _ (.tail _ (.tail _ (.tail _ (.tail _ (.tail _ (.tail _ (.tail _ (.tail _ (.tail _ (.head _)))))))))))).m (HH15.out _ (.tail _ (.tail _ (.tail _ (.tail _ (.tail _ (.head _))))))).m (HH15.out _ (.tail _ (.tail _ (.tail _ (.tail _ (.tail _ (.tail _ (.tail _ (.tail _ (.tail _ (.tail _ (.head _)))))))))))).ln (HH15.out _ (.tail _ (.tail _ (.tail _ (.tail _ (.tail _ (.tail _ (.tail _ (.tail _ (.tail _ (.tail _ (.head _)))))))))))).ld (HH15.out _ (.tail _ (.tail _ (.tail _ (.tail _ (.tail _ (.head _))))))).ln (HH15.out _ (.tail _ (.tail _ (.tail _ (.tail _ (.tail _ (.head _))))))).ld).mono ?_
  rintro e v16_ ⟨q16, rfl, o16, hb⟩
  have HL := Lib.hid (Luu.out.len o16)
  have HH16 : Hid (HeldQ (v16_.alloc (.cells #[.bool q16.p, .slice q16.A q16.n q16.c, .slice q16.D q16.m q16.d] qT)) [⟨v16_.heap.size, q16, uu⟩, ⟨v15_.heap.size, q15, ac⟩, ⟨v14_.heap.size, q14, qq⟩, ⟨v13_.heap.size, q13, pp⟩, ⟨v12_.heap.size, q12, u2⟩, ⟨v11_.heap.size, q11, u1⟩, ⟨v10_.heap.size, q10, bc⟩, ⟨v9_.heap.size, q9, ba⟩, ⟨v8_.heap.size, q8, ab⟩, ⟨w.heap.size + 1 + 1, vc, z⟩, ⟨w.heap.size + 1, (QV.mk pb Ab 0 cb Db mb db), y⟩, ⟨w.heap.size, va, x⟩]) := Lib.hid ((HH15.out.next (below_then hb (bxb _ q16.o))).cons (IQ.fresh o16 (by have := HL.out; omega) (by have := HL.out; omega)))
  have HB16 : Hid (Below w.heap.size w (v16_.alloc (.cells #[.bool q16.p, .slice q16.A q16.n q16.c, .slice q16.D q16.m q16.d] qT))) := Lib.hid (below_then HB15.out (below_then hb (bxb _ q16.o)))
  clear hb o16 HL HH15 HB15
  unfold QV.v
  clear cx0 cx1 cx2 cbc0 cbc1 cbc2
  have cpp0 := (HH16.out _ (.tail _ (.tail _ (.tail _ (.head _))))).b.c0
  have cpp1 := (HH16.out _ (.tail _ (.tail _ (.tail _ (.head _))))).b.c1
  have cpp2 := (HH16.out _ (.tail _ (.tail _ (.tail _ (.head _))))).b.c2
  have cac0 := (HH16.out _ (.tail _ (.head _))).b.c0
  have cac1 := (HH16.out _ (.tail _ (.head _))).b.c1
  have cac2 := (HH16.out _ (.tail _ (.head _))).b.c2
  go_wp2_with fail
  refine (Evv.out ▸ opN HAdd.out (HH16.out _ (.tail _ (.tail _ (.tail _ (.head _))))).m (HH16.out _ (.tail _ (.head _))).m (HH16.out _ (.tail _ (.tail _ (.tail _ (.head _))))).ln (HH16.out _ (.tail _ (.tail _ (.tail _ (.head _))))).ld (HH16.out _ (.tail _ (.head _))).ln (HH16.out _ (.tail _ (.head _))).ld).mono ?_
  rintro e v17_ ⟨q17, rfl, o17, hb⟩
  have HL := Lib.hid (Lvv.out.len o17)
  have HH17 : Hid (HeldQ (v17_.alloc (.cells #[.bool q17.p, .slice q17.A q17.n q17.c, .slice q17.D q17.m q17.d] qT)) [⟨v17_.heap.size, q17, vv⟩, ⟨v16_.heap.size, q16, uu⟩, ⟨v15_.heap.size, q15, ac⟩, ⟨v14_.heap.size, q14, qq⟩, ⟨v13_.heap.size, q13, pp⟩, ⟨v12_.heap.size, q12, u2⟩, ⟨v11_.heap.size, q11, u1⟩, ⟨v10_.heap.size, q10, bc⟩, ⟨v9_.heap.size, q9, ba⟩, ⟨v8_.heap.size, q8, ab⟩, ⟨w.heap.size + 1 + 1, vc, z⟩, ⟨w.heap.size + 1, (QV.mk pb Ab 0 cb Db mb db), y⟩, ⟨w.heap.size, va, x⟩]) := Lib.hid ((HH16.out.next (below_then hb (bxb _ q17.o))).cons (IQ.fresh o17 (by have := HL.out; omega) (by have := HL.out; omega)))
  have HB17 : Hid (Below w.heap.size w (v17_.alloc (.cells #[.bool q17.p, .slice q17.A q17.n q17.c, .slice q17.D q17.m q17.d] qT))) := Lib.hid (below_then HB16.out (below_then hb (bxb _ q17.o)))
  clear hb o17 HL HH16 HB16
  unfold QV.v
  clear cpp0 cpp1 cpp2 cac0 cac1 cac2
  have cy0 := (HH17.out _ (.tail _ (.tail _ (.tail _ (.tail _ (.tail _ (.tail _ (.tail _ (.tail _ (.tail _ (.tail _ (.tail _ (.head _))))))))))))).b.c0
  have cy1 := (HH17.out _ (.tail _ (.tail _ (.tail _ (.tail _ (.tail _ (.tail _ (.tail _ (.tail _ (.tail _ (.tail _ (.tail _ (.head _))))))))))))).b.c1
  have cy2 := (HH17.out _ (.tail _ (.tail _ (.tail _ (.tail _ (.tail _ (.tail _ (.tail _ (.tail _ (.tail _ (.tail _ (.tail _ (.head _))))))))))))).b.c2
  have cz0 := (HH17.out _ (.tail _ (.tail _ (.tail _ (.tail _ (.tail _ (.tail _ (.tail _ (.tail _ (.tail _ (.tail _ (.head _)))))))))))).b.c0
  have cz1 := (HH17.out _ (.tail _ (.tail _ (.tail _ (.tail _ (.tail _ (.tail _ (.tail _ (.tail _ (.tail _ (.tail _ (.head _)))))))))))).b.c1
  have cz2 := (HH17.out _ (.tail _ (.tail _ (.tail _ (.tail _ (.tail _ (.tail _ (.tail _ (.tail _ (.tail _ (.tail _ (.head _)))))))))))).b.c2
  go_wp2_with fail
  refine (Emm.out ▸ opN HMul.out (HH17.out _ (.tail _ (.tail _ (.tail _ (.tail _ (.tail _ (.tail _ (.tail _ (.tail _ (.tail _ (.tail _ (.tail _ (.head _))))))))))))).m (HH17.out _ (.tail _ (.tail _ (.tail _ (.tail _ (.tail _ (.tail _ (.tail _ (.tail _ (.tail _ (.tail _ (.head _)))))))))))).m (HH17.out _ (.tail _ (.tail _ (.tail _ (.tail _ (.tail _ (.tail _ (.tail _ (.tail _ (.tail _ (.tail _ (.tail _ (.head _))))))))))))).ln (HH17.out _ (.tail _ (.tail _ (.tail _ (.tail _ (.tail _ (.tail _ (.tail _ (.tail _ (.tail _ (.tail _ (.tail _ (.head _))))))))))))).ld (HH17.out _ (.tail _ (.tail _ (.tail _ (.tail _ (.tail _ (.tail _ (.tail _ (.tail _ (.tail _ (.tail _ (.head _)))))))))))).ln (HH17.out _ (.tail _ (.tail _ (.tail _ (.tail _ (.tail _ (.tail _ (.tail _ (.tail _ (.tail _ (.tail _ (.head _)))))))))))).ld).mono ?_
  rintro e v18_ ⟨q18, rfl, o18, hb⟩
  have HL := Lib.hid (Lmm.out.len o18)
  have HH18 : Hid (HeldQ (v18_.alloc (.cells #[.bool q18.p, .slice q18.A q18.n q18.c, .slice q18.D q18.m q18.d] qT)) [⟨v18_.heap.size, q18, mm⟩, ⟨v17_.heap.size, q17, vv⟩, ⟨v16_.heap.size, q16, uu⟩, ⟨v15_.heap.size, q15, ac⟩, ⟨v14_.heap.size, q14, qq⟩, ⟨v13_.heap.size, q13, pp⟩, ⟨v12_.heap.size, q12, u2⟩, ⟨v11_.heap.size, q11, u1⟩, ⟨v10_.heap.size, q10, bc⟩, ⟨v9_.heap.size, q9, ba⟩, ⟨v8_.heap.size, q8, ab⟩, ⟨w.heap.size + 1 + 1, vc, z⟩, ⟨w.heap.size + 1, (QV.mk pb Ab 0 cb Db mb db), y⟩, ⟨w.heap.size, va, x⟩]) := Lib.hid ((HH17.out.next (below_then hb (bxb _ q18.o))).cons (IQ.fresh o18 (by have := HL.out; omega) (by have := HL.out; omega)))
  have HB18 : Hid (Below w.heap.size w (v18_.alloc (.cells #[.bool q18.p, .slice q18.A q18.n q18.c, .slice q18.D q18.m q18.d] qT))) := Lib.hid (below_then HB17.out (below_then hb (bxb _ q18.o)))
  clear hb o18 HL HH17 HB17
  unfold QV.v
  clear cy0 cy1 cy2 cz0 cz1 cz2
  have cpp0 := (HH18.out _ (.tail _ (.tail _ (.tail _ (.tail _ (.tail _ (.head _))))))).b.c0
  have cpp1 := (HH18.out _ (.tail _ (.tail _ (.tail _ (.tail _ (.tail _ (.head _))))))).b.c1
  have cpp2 := (HH18.out _ (.tail _ (.tail _ (.tail _ (.tail _ (.tail _ (.head _))))))).b.c2
  have cz0 := (HH18.out _ (.tail _ (.tail _ (.tail _ (.tail _ (.tail _ (.tail _ (.tail _ (.tail _ (.tail _ (.tail _ (.tail _ (.head _))))))))))))).b.c0
  have cz1 := (HH18.out _ (.tail _ (.tail _ (.tail _ (.tail _ (.tail _ (.tail _ (.tail _ (.tail _ (.tail _ (.tail _ (.tail _ (.head _))))))))))))).b.c1
  have cz2 := (HH18.out _ (.tail _ (.tail _ (.tail _ (.tail _ (.tail _ (.tail _ (.tail _ (.tail _ (.tail _ (.tail _ (.tail _ (.head _))))))))))))).b.c2
  go_wp2_with fail
  refine (Enn.out ▸ opN HMul.out (HH18.out _ (.tail _ (.tail _ (.tail _ (.tail _ (.tail _ (.head _))))))).m (HH18.out _ (.tail _ (.tail _ (.tail _ (.tail _ (.tail _ (.tail _ (.tail _ (.tail _ (.tail _ (.tail _ (.tail _ (.head _))))))))))))).m (HH18.out _ (.tail _ (.tail _ (.tail _ (.tail _ (.tail _ (.head _))))))).ln (HH18.out _ (.tail _ (.tail _ (.tail _ (.tail _ (.tail _ (.head _))))))).ld (HH18.out _ (.tail _ (.tail _ (.tail _ (.tail _ (.tail _ (.tail _ (.tail _ (.tail _ (.tail _ (.tail _ (.tail _ (.head _))))))))))))).ln (HH18.out _ (.tail _ (.tail _ (.tail _ (.tail _ (.tail _ (.tail _ (.tail _ (.tail _ (.tail _ (.tail _ (.tail _ (.head _))))))))))))).ld).mono ?_
  rintro e v19_ ⟨q19, rfl, o19, hb⟩
  have HL := Lib.hid (Lnn.out.len o19)
  have HH19 : Hid (HeldQ (v19_.alloc (.cells #[.bool q19.p, .slice q19.A q19.n q19.c, .slice q19.D q19.m q19.d] qT)) [⟨v19_.heap.size, q19, nn⟩, ⟨v18_.heap.size, q18, mm⟩, ⟨v17_.heap.size, q17, vv⟩, ⟨v16_.heap.size, q16, uu⟩, ⟨v15_.heap.size, q15, ac⟩, ⟨v14_.heap.size, q14, qq⟩, ⟨v13_.heap.size, q13, pp⟩, ⟨v12_.heap.size, q12, u2⟩, ⟨v11_.heap.size, q11, u1⟩, ⟨v10_.heap.size, q10, bc⟩, ⟨v9_.heap.size, q9, ba⟩, ⟨v8_.heap.size, q8, ab⟩, ⟨w.heap.size + 1 + 1, vc, z⟩, ⟨w.heap.size + 1, (QV.mk pb Ab 0 cb Db mb db), y⟩, ⟨w.heap.size, va, x⟩]) := Lib.hid ((HH18.out.next (below_then hb (bxb _ q19.o))).cons (IQ.fresh o19 (by have := HL.out; omega) (by have := HL.out; omega)))
  have HB19 : Hid (Below w.heap.size w (v19_.alloc (.cells #[.bool q19.p, .slice q19.A q19.n q19.c, .slice q19.D q19.m q19.d] qT))) := Lib.hid (below_then HB18.out (below_then hb (bxb _ q19.o)))
  clear hb o19 HL HH18 HB18
  unfold QV.v
  clear cpp0 cpp1 cpp2 cz0 cz1 cz2
  have cx0 := (HH19.out _ (.tail _ (.tail _ (.tail _ (.tail _ (.tail _ (.tail _ (.tail _ (.tail _ (.tail _ (.tail _ (.tail _ (.tail _ (.tail _ (.tail _ (.head _)))))))))))))))).b.c0
  have cx1 := (HH19.out _ (.tail _ (.tail _ (.tail _ (.tail _ (.tail _ (.tail _ (.tail _ (.tail _ (.tail _ (.tail _ (.tail _ (.tail _ (.tail _ (.tail _ (.head _)))))))))))))))).b.c1
  have cx2 := (HH19.out _ (.tail _ (.tail _ (.tail _ (.tail _ (.tail _ (.tail _ (.tail _ (.tail _ (.tail _ (.tail _ (.tail _ (.tail _ (.tail _ (.tail _ (.head _)))))))))))))))).b.c2
  have cmm0 := (HH19.out _ (.tail _ (.head _))).b.c0
  have cmm1 := (HH19.out _ (.tail _ (.head _))).b.c1
  have cmm2 := (HH19.out _ (.tail _ (.head _))).b.c2
  go_wp2_with fail
  refine (Eoo.out ▸ opN HMul.out (HH19.out _ (.tail _ (.tail _ (.tail _ (.tail _ (.tail _ (.tail _ (.tail _ (.tail _ (.tail _ (.tail _ (.tail _ (.tail _ (.tail _ (.tail _ (.head _)))))))))))))))).m (HH19.out _ (.tail _ (.head _))).m (HH19.out _ (.tail _ (.tail _ (.tail _ (.tail _ (.tail _ (.tail _ (.tail _ (.tail _ (.tail _ (.tail _ (.tail _ (.tail _ (.tail _ (.tail _ (.head _)))))))))))))))).ln (HH19.out _ (.tail _ (.tail _ (.tail _ (.tail _ (.tail _ (.tail _ (.tail _ (.tail _ (.tail _ (.tail _ (.tail _ (.tail _ (.tail _ (.tail _ (.head _)))))))))))))))).ld (HH19.out _ (.tail _ (.head _))).ln (HH19.out _ (.tail _ (.head _))).ld).mono ?_
  rintro e v20_ ⟨q20, rfl, o20, hb⟩
  have HL := Lib.hid (Loo.out.len o20)
  have HH20 : Hid (HeldQ (v20_.alloc (.cells #[.bool q20.p, .slice q20.A q20.n q20.c, .slice q20.D q20.m q20.d] qT)) [⟨v20_.heap.size, q20, oo⟩, ⟨v19_.heap.size, q19, nn⟩, ⟨v18_.heap.size, q18, mm⟩, ⟨v17_.heap.size, q17, vv⟩, ⟨v16_.heap.size, q16, uu⟩, ⟨v15_.heap.size, q15, ac⟩, ⟨v14_.heap.size, q14, qq⟩, ⟨v13_.heap.size, q13, pp⟩, ⟨v12_.heap.size, q12, u2⟩, ⟨v11_.heap.size, q11, u1⟩, ⟨v10_.heap.size, q10, bc⟩, ⟨v9_.heap.size, q9, ba⟩, ⟨v8_.heap.size, q8, ab⟩, ⟨w.heap.size + 1 + 1, vc, z⟩, ⟨w.heap.size + 1, (QV.mk pb Ab 0 cb Db mb db), y⟩, ⟨w.heap.size, va, x⟩]) := Lib.hid ((HH19.out.next (below_then hb (bxb _ q20.o))).cons (IQ.fresh o20 (by have := HL.out; omega) (by have := HL.out; omega)))
  have HB20 : Hid (Below w.heap.size w (v20_.alloc (.cells #[.bool q20.p, .slice q20.A q20.n q20.c, .slice q20.D q20.m q20.d] qT))) := Lib.hid (below_then HB19.out (below_then hb (bxb _ q20.o)))
  clear hb o20 HL HH19 HB19
  unfold QV.v
  clear cx0 cx1 cx2 cmm0 cmm1 cmm2
  have cx0 := (HH20.out _ (.tail _ (.tail _ (.tail _ (.tail _ (.tail _ (.tail _ (.tail _ (.tail _ (.tail _ (.tail _ (.tail _ (.tail _ (.tail _ (.tail _ (.tail _ (.head _))))))))))))))))).b.c0
  have cx1 := (HH20.out _ (.tail _ (.tail _ (.tail _ (.tail _ (.tail _ (.tail _ (.tail _ (.tail _ (.tail _ (.tail _ (.tail _ (.tail _ (.tail _ (.tail _ (.tail _ (.head _))))))))))))))))).b.c1
  have cx2 := (HH20.out _ (.tail _ (.tail _ (.tail _ (.tail _ (.tail _ (.tail _ (.tail _ (.tail _ (.tail _ (.tail _ (.tail _ (.tail _ (.tail _ (.tail _ (.tail _ (.head _))))))))))))))))).b.c2
  have cy0 := (HH20.out _ (.tail _ (.tail _ (.tail _ (.tail _ (.tail _ (.tail _ (.tail _ (.tail _ (.tail _ (.tail _ (.tail _ (.tail _ (.tail _ (.tail _ (.head _)))))))))))))))).b.c0
  have cy1 := (HH20.out _ (.tail _ (.tail _ (.tail _ (.tail _ (.tail _ (.tail _ (.tail _ (.tail _ (.tail _ (.tail _ (.tail _ (.tail _ (.tail _ (.tail _ (.head _)))))))))))))))).b.c1
  have cy2 := (HH20.out _ (.tail _ (.tail _ (.tail _ (.tail _ (.tail _ (.tail _ (.tail _ (.tail _ (.tail _ (.tail _ (.tail _ (.tail _ (.tail _ (.tail _ (.head _)))))))))))))))).b.c2
  go_wp2_with fail
  refine (Edd.out ▸ opN HSub.out (HH20.out _ (.tail _ (.tail _ (.tail _ (.tail _ (.tail _ (.tail _ (.tail _ (.tail _ (.tail _ (.tail _ (.tail _ (.tail _ (.tail _ (.tail _ (.tail _ (.head _))))))))))))))))).m (HH20.out _ (.tail _ (.tail _ (.tail _ (.tail _ (.tail _ (.tail _ (.tail _ (.tail _ (.tail _ (.tail _ (.tail _ (.tail _ (.tail _ (.tail _ (.head _)))))))))))))))).m (HH20.out _ (.tail _ (.tail _ (.tail _ (.tail _ (.tail _ (.tail _ (.tail _ (.tail _ (.tail _ (.tail _ (.tail _ (.tail _ (.tail _ (.tail _ (.tail _ (.head _))))))))))))))))).ln (HH20.out _ (.tail _ (.tail _ (.tail _ (.tail _ (.tail _ (.tail _ (.tail _ (.tail _ (.tail _ (.tail _ (.tail _ (.tail _ (.tail _ (.tail _ (.tail _ (.head _))))))))))))))))).ld (HH20.out _ (.tail _ (.tail _ (.tail _ (.tail _ (.tail _ (.tail _ (.tail _ (.tail _ (.tail _ (.tail _ (.tail _ (.tail _ (.tail _ (.tail _ (.head _)))))))))))))))).ln (HH20.out _ (.tail _ (.tail _ (.tail _ (.tail _ (.tail _ (.tail _ (.tail _ (.tail _ (.tail _ (.tail _ (.tail _ (.tail _ (.tail _ (.tail _ (.head _)))))))))))))))).ld).mono ?_
  rintro e v21_ ⟨q21, rfl, o21, hb⟩
  have HL := Lib.hid (Ldd.out.len o21)
  have HH21 : Hid (HeldQ (v21_.alloc (.cells #[.bool q21.p, .slice q21.A q21.n q21.c, .slice q21.D q21.m q21.d] qT)) [⟨v21_.heap.size, q21, dd⟩, ⟨v20_.heap.size, q20, oo⟩, ⟨v19_.heap.size, q19, nn⟩, ⟨v18_.heap.size, q18, mm⟩, ⟨v17_.heap.size, q17, vv⟩, ⟨v16_.heap.size, q16, uu⟩, ⟨v15_.heap.size, q15, ac⟩, ⟨v14_.heap.size, q14, qq⟩, ⟨v13_.heap.size, q13, pp⟩, ⟨v12_.heap.size, q12, u2⟩, ⟨v11_.heap.size, q11, u1⟩, ⟨v10_.heap.size, q10, bc⟩, ⟨v9_.heap.size, q9, ba⟩, ⟨v8_.heap.size, q8, ab⟩, ⟨w.heap.size + 1 + 1, vc, z⟩, ⟨w.heap.size + 1, (QV.mk pb Ab 0 cb Db mb db), y⟩, ⟨w.heap.size, va, x⟩]) := Lib.hid ((HH20.out.next (below_then hb (bxb _ q21.o))).cons (IQ.fresh o21 (by have := HL.out; omega) (by have := HL.out; omega)))
  have HB21 : Hid (Below w.heap.size w (v21_.alloc (.cells #[.bool q21.p, .slice q21.A q21.n q21.c, .slice q21.D q21.m q21.d] qT))) := Lib.hid (below_then HB20.out (below_then hb (bxb _ q21.o)))
  clear hb o21 HL HH20 HB20
  unfold QV.v
  clear cx0 cx1 cx2 cy0 cy1 cy2
  have cdd0 := (HH21.out _ (.head _)).b.c0
  have cdd1 := (HH21.out _ (.head _)).b.c1
  have cdd2 := (HH21.out _ (.head _)).b.c2
  have cy0 := (HH21.out _ (.tail _ (.tail _ (.tail _ (.tail _ (.tail _ (.tail _ (.tail _ (.tail _ (.tail _ (.tail _ (.tail _ (.tail _ (.tail _ (.tail _ (.tail _ (.head _))))))))))))))))).b.c0
  have cy1 := (HH21.out _ (.tail _ (.tail _ (.tail _ (.tail _ (.tail _ (.tail _ (.tail _ (.tail _ (.tail _ (.tail _ (.tail _ (.tail _ (.tail _ (.tail _ (.tail _ (.head _))))))))))))))))).b.c1
  have cy2 := (HH21.out _ (.tail _ (.tail _ (.tail _ (.tail _ (.tail _ (.tail _ (.tail _ (.tail _ (.tail _ (.tail _ (.tail _ (.tail _ (.tail _ (.tail _ (.tail _ (.head _))))))))))))))))).b.c2
  go_wp2_with fail
  refine (Ebk.out ▸ opN HAdd.out (HH21.out _ (.head _)).m (HH21.out _ (.tail _ (.tail _ (.tail _ (.tail _ (.tail _ (.tail _ (.tail _ (.tail _ (.tail _ (.tail _ (.tail _ (.tail _ (.tail _ (.tail _ (.tail _ (.head _))))))))))))))))).m (HH21.out _ (.head _)).ln (HH21.out _ (.head _)).ld (HH21.out _ (.tail _ (.tail _ (.tail _ (.tail _ (.tail _ (.tail _ (.tail _ (.tail _ (.tail _ (.tail _ (.tail _ (.tail _ (.tail _ (.tail _ (.tail _ (.head _))))))))))))))))).ln (HH21.out _ (.tail _ (.tail _ (.tail _ (.tail _ (.tail _ (.tail _ (.tail _ (.tail _ (.tail _ (.tail _ (.tail _ (.tail _ (.tail _ (.tail _ (.tail _ (.head _))))))))))))))))).ld).mono ?_
  rintro e v22_ ⟨q22, rfl, o22, hb⟩
  have HL := Lib.hid (Lbk.out.len o22)
  have HH22 : Hid (HeldQ (v22_.alloc (.cells #[.bool q22.p, .slice q22.A q22.n q22.c, .slice q22.D q22.m q22.d] qT)) [⟨v22_.heap.size, q22, bk⟩, ⟨v21_.heap.size, q21, dd⟩, ⟨v20_.heap.size, q20, oo⟩, ⟨v19_.heap.size, q19, nn⟩, ⟨v18_.heap.size, q18, mm⟩, ⟨v17_.heap.size, q17, vv⟩, ⟨v16_.heap.size, q16, uu⟩, ⟨v15_.heap.size, q15, ac⟩, ⟨v14_.heap.size, q14, qq⟩, ⟨v13_.heap.size, q13, pp⟩, ⟨v12_.heap.size, q12, u2⟩, ⟨v11_.heap.size, q11, u1⟩, ⟨v10_.heap.size, q10, bc⟩, ⟨v9_.heap.size, q9, ba⟩, ⟨v8_.heap.size, q8, ab⟩, ⟨w.heap.size + 1 + 1, vc, z⟩, ⟨w.heap.size + 1, (QV.mk pb Ab 0 cb Db mb db), y⟩, ⟨w.heap.size, va, x⟩]) := Lib.hid ((HH21.out.next (below_then hb (bxb _ q22.o))).cons (IQ.fresh o22 (by have := HL.out; omega) (by have := HL.out; omega)))
  have HB22 : Hid (Below w.heap.size w (v22_.alloc (.cells #[.bool q22.p, .slice q22.A q22.n q22.c, .slice q22.D q22.m q22.d] qT))) := Lib.hid (below_then HB21.out (below_then hb (bxb _ q22.o)))
  clear hb o22 HL HH21 HB21
  unfold QV.v
  clear cdd0 cdd1 cdd2 cy0 cy1 cy2
  have cx0 := (HH22.out _ (.tail _ (.tail _ (.tail _ (.tail _ (.tail _ (.tail _ (.tail _ (.tail _ (.tail _ (.tail _ (.tail _ (.tail _ (.tail _ (.tail _ (.tail _ (.tail _ (.tail _ (.head _))))))))))))))))))).b.c0
  have cx1 := (HH22.out _ (.tail _ (.tail _ (.tail _ (.tail _ (.tail _ (.tail _ (.tail _ (.tail _ (.tail _ (.tail _ (.tail _ (.tail _ (.tail _ (.tail _ (.tail _ (.tail _ (.tail _ (.head _))))))))))))))))))).b.c1
  have cx2 := (HH22.out _ (.tail _ (.tail _ (.tail _ (.tail _ (.tail _ (.tail _ (.tail _ (.tail _ (.tail _ (.tail _ (.tail _ (.tail _ (.tail _ (.tail _ (.tail _ (.tail _ (.tail _ (.head _))))))))))))))))))).b.c2
  have cy0 := (HH22.out _ (.tail _ (.tail _ (.tail _ (.tail _ (.tail _ (.tail _ (.tail _ (.tail _ (.tail _ (.tail _ (.tail _ (.tail _ (.tail _ (.tail _ (.tail _ (.tail _ (.head _)))))))))))))))))).b.c0
  have cy1 := (HH22.out _ (.tail _ (.tail _ (.tail _ (.tail _ (.tail _ (.tail _ (.tail _ (.tail _ (.tail _ (.tail _ (.tail _ (.tail _ (.tail _ (.tail _ (.tail _ (.tail _ (.head _)))))))))))))))))).b.c1
  have cy2 := (HH22.out _ (.tail _ (.tail _ (.tail _ (.tail _ (.tail _ (.tail _ (.tail _ (.tail _ (.tail _ (.tail _ (.tail _ (.tail _ (.tail _ (.tail _ (.tail _ (.tail _ (.head _)))))))))))))))))).b.c2
  go_wp2_with fail
  refine (divN0 HDiv.out (HH22.out _ (.tail _ (.tail _ (.tail _ (.tail _ (.tail _ (.tail _ (.tail _ (.tail _ (.tail _ (.tail _ (.tail _ (.tail _ (.tail _ (.tail _ (.tail _ (.tail _ (.tail _ (.head _))))))))))))))))))).m (HH22.out _ (.tail _ (.tail _ (.tail _ (.tail _ (.tail _ (.tail _ (.tail _ (.tail _ (.tail _ (.tail _ (.tail _ (.tail _ (.tail _ (.tail _ (.tail _ (.tail _ (.head _)))))))))))))))))).m (HH22.out _ (.tail _ (.tail _ (.tail _ (.tail _ (.tail _ (.tail _ (.tail _ (.tail _ (.tail _ (.tail _ (.tail _ (.tail _ (.tail _ (.tail _ (.tail _ (.tail _ (.tail _ (.head _))))))))))))))))))).ln (HH22.out _ (.tail _ (.tail _ (.tail _ (.tail _ (.tail _ (.tail _ (.tail _ (.tail _ (.tail _ (.tail _ (.tail _ (.tail _ (.tail _ (.tail _ (.tail _ (.tail _ (.tail _ (.head _))))))))))))))))))).ld (HH22.out _ (.tail _ (.tail _ (.tail _ (.tail _ (.tail _ (.tail _ (.tail _ (.tail _ (.tail _ (.tail _ (.tail _ (.tail _ (.tail _ (.tail _ (.tail _ (.tail _ (.head _)))))))))))))))))).ln (HH22.out _ (.tail _ (.tail _ (.tail _ (.tail _ (.tail _ (.tail _ (.tail _ (.tail _ (.tail _ (.tail _ (.tail _ (.tail _ (.tail _ (.tail _ (.tail _ (.tail _ (.head _)))))))))))))))))).ld HY.out).mono ?_
  rintro e v23_ ⟨rfl, hb⟩
  have HH23 := Lib.hid (HH22.out.next hb)
  have HB23 := Lib.hid (below_then HB22.out hb)
  clear hb HH22 HB22
  have hA := bxb v23_ (.cells #[.bool false, .slice none 0 0, .slice none 0 0] qT)
  have HH24 := Lib.hid (HH23.out.next hA)
  have HB24 := Lib.hid (below_then HB23.out hA)
  clear hA HH23 HB23
  clear cx0 cx1 cx2 cy0 cy1 cy2
  have cab0 := (HH24.out _ (.tail _ (.tail _ (.tail _ (.tail _ (.tail _ (.tail _ (.tail _ (.tail _ (.tail _ (.tail _ (.tail _ (.tail _ (.tail _ (.tail _ (.head _)))))))))))))))).b.c0
  have cab1 := (HH24.out _ (.tail _ (.tail _ (.tail _ (.tail _ (.tail _ (.tail _ (.tail _ (.tail _ (.tail _ (.tail _ (.tail _ (.tail _ (.tail _ (.tail _ (.head _)))))))))))))))).b.c1
  have cab2 := (HH24.out _ (.tail _ (.tail _ (.tail _ (.tail _ (.tail _ (.tail _ (.tail _ (.tail _ (.tail _ (.tail _ (.tail _ (.tail _ (.tail _ (.tail _ (.head _)))))))))))))))).b.c2
  have cba0 := (HH24.out _ (.tail _ (.tail _ (.tail _ (.tail _ (.tail _ (.tail _ (.tail _ (.tail _ (.tail _ (.tail _ (.tail _ (.tail _ (.tail _ (.head _))))))))))))))).b.c0
  have cba1 := (HH24.out _ (.tail _ (.tail _ (.tail _ (.tail _ (.tail _ (.tail _ (.tail _ (.tail _ (.tail _ (.tail _ (.tail _ (.tail _ (.tail _ (.head _))))))))))))))).b.c1
  have cba2 := (HH24.out _ (.tail _ (.tail _ (.tail _ (.tail _ (.tail _ (.tail _ (.tail _ (.tail _ (.tail _ (.tail _ (.tail _ (.tail _ (.tail _ (.head _))))))))))))))).b.c2
  go_wp2_with fail
  refine (sameQT0 HSame.out (HH24.out _ (.tail _ (.tail _ (.tail _ (.tail _ (.tail _ (.tail _ (.tail _ (.tail _ (.tail _ (.tail _ (.tail _ (.tail _ (.tail _ (.tail _ (.head _)))))))))))))))).m (HH24.out _ (.tail _ (.tail _ (.tail _ (.tail _ (.tail _ (.tail _ (.tail _ (.tail _ (.tail _ (.tail _ (.tail _ (.tail _ (.tail _ (.head _))))))))))))))).m (HH24.out _ (.tail _ (.tail _ (.tail _ (.tail _ (.tail _ (.tail _ (.tail _ (.tail _ (.tail _ (.tail _ (.tail _ (.tail _ (.tail _ (.tail _ (.head _)))))))))))))))).ln (HH24.out _ (.tail _ (.tail _ (.tail _ (.tail _ (.tail _ (.tail _ (.tail _ (.tail _ (.tail _ (.tail _ (.tail _ (.tail _ (.tail _ (.tail _ (.head _)))))))))))))))).ld (HH24.out _ (.tail _ (.tail _ (.tail _ (.tail _ (.tail _ (.tail _ (.tail _ (.tail _ (.tail _ (.tail _ (.tail _ (.tail _ (.tail _ (.head _))))))))))))))).ln (HH24.out _ (.tail _ (.tail _ (.tail _ (.tail _ (.tail _ (.tail _ (.tail _ (.tail _ (.tail _ (.tail _ (.tail _ (.tail _ (.tail _ (.head _))))))))))))))).ld Q.out.1).mono ?_
  rintro e v25_ ⟨rfl, hb⟩
  have HH25 := Lib.hid (HH24.out.next hb)
  have HB25 := Lib.hid (below_then HB24.out hb)
  clear hb HH24 HB24
  clear cab0 cab1 cab2 cba0 cba1 cba2
  have cu10 := (HH25.out _ (.tail _ (.tail _ (.tail _ (.tail _ (.tail _ (.tail _ (.tail _ (.tail _ (.tail _ (.tail _ (.tail _ (.head _))))))))))))).b.c0
  have cu11 := (HH25.out _ (.tail _ (.tail _ (.tail _ (.tail _ (.tail _ (.tail _ (.tail _ (.tail _ (.tail _ (.tail _ (.tail _ (.head _))))))))))))).b.c1
  have cu12 := (HH25.out _ (.tail _ (.tail _ (.tail _ (.tail _ (.tail _ (.tail _ (.tail _ (.tail _ (.tail _ (.tail _ (.tail _ (.head _))))))))))))).b.c2
  have cu20 := (HH25.out _ (.tail _ (.tail _ (.tail _ (.tail _ (.tail _ (.tail _ (.tail _ (.tail _ (.tail _ (.tail _ (.head _)))))))))))).b.c0
  have cu21 := (HH25.out _ (.tail _ (.tail _ (.tail _ (.tail _ (.tail _ (.tail _ (.tail _ (.tail _ (.tail _ (.tail _ (.head _)))))))))))).b.c1
  have cu22 := (HH25.out _ (.tail _ (.tail _ (.tail _ (.tail _ (.tail _ (.tail _ (.tail _ (.tail _ (.tail _ (.tail _ (.head _)))))))))))).b.c2
  go_wp2_with fail
  refine (sameQT0 HSame.out (HH25.out _ (.tail _ (.tail _ (.tail _ (.tail _ (.tail _ (.tail _ (.tail _ (.tail _ (.tail _ (.tail _ (.tail _ (.head _))))))))))))).m (HH25.out _ (.tail _ (.tail _ (.tail _ (.tail _ (.tail _ (.tail _ (.tail _ (.tail _ (.tail _ (.tail _ (.head _)))))))))))).m (HH25.out _ (.tail _ (.tail _ (.tail _ (.tail _ (.tail _ (.tail _ (.tail _ (.tail _ (.tail _ (.tail _ (.tail _ (.head _))))))))))))).ln (HH25.out _ (.tail _ (.tail _ (.tail _ (.tail _ (.tail _ (.tail _ (.tail _ (.tail _ (.tail _ (.tail _ (.tail _ (.head _))))))))))))).ld (HH25.out _ (.tail _ (.tail _ (.tail _ (.tail _ (.tail _ (.tail _ (.tail _ (.tail _ (.tail _ (.tail _ (.head _)))))))))))).ln (HH25.out _ (.tail _ (.tail _ (.tail _ (.tail _ (.tail _ (.tail _ (.tail _ (.tail _ (.tail _ (.tail _ (.head _)))))))))))).ld Q.out.2.1).mono ?_
  rintro e v26_ ⟨rfl, hb⟩
  have HH26 := Lib.hid (HH25.out.next hb)
  have HB26 := Lib.hid (below_then HB25.out hb)
  clear hb HH25 HB25
  clear cu10 cu11 cu12 cu20 cu21 cu22
  have cpp0 := (HH26.out _ (.tail _ (.tail _ (.tail _ (.tail _ (.tail _ (.tail _ (.tail _ (.tail _ (.tail _ (.head _))))))))))).b.c0
  have cpp1 := (HH26.out _ (.tail _ (.tail _ (.tail _ (.tail _ (.tail _ (.tail _ (.tail _ (.tail _ (.tail _ (.head _))))))))))).b.c1
  have cpp2 := (HH26.out _ (.tail _ (.tail _ (.tail _ (.tail _ (.tail _ (.tail _ (.tail _ (.tail _ (.tail _ (.head _))))))))))).b.c2
  have cqq0 := (HH26.out _ (.tail _ (.tail _ (.tail _ (.tail _ (.tail _ (.tail _ (.tail _ (.tail _ (.head _)))))))))).b.c0
  have cqq1 := (HH26.out _ (.tail _ (.tail _ (.tail _ (.tail _ (.tail _ (.tail _ (.tail _ (.tail _ (.head _)))))))))).b.c1
  have cqq2 := (HH26.out _ (.tail _ (.tail _ (.tail _ (.tail _ (.tail _ (.tail _ (.tail _ (.tail _ (.head _)))))))))).b.c2
  go_wp2_with fail
  refine (sameQT0 HSame.out (HH26.out _ (.tail _ (.tail _ (.tail _ (.tail _ (.tail _ (.tail _ (.tail _ (.tail _ (.tail _ (.head _))))))))))).m (HH26.out _ (.tail _ (.tail _ (.tail _ (.tail _ (.tail _ (.tail _ (.tail _ (.tail _ (.head _)))))))))).m (HH26.out _ (.tail _ (.tail _ (.tail _ (.tail _ (.tail _ (.tail _ (.tail _ (.tail _ (.tail _ (.head _))))))))))).ln (HH26.out _ (.tail _ (.tail _ (.tail _ (.tail _ (.tail _ (.tail _ (.tail _ (.tail _ (.tail _ (.head _))))))))))).ld (HH26.out _ (.tail _ (.tail _ (.tail _ (.tail _ (.tail _ (.tail _ (.tail _ (.tail _ (.head _)))))))))).ln (HH26.out _ (.tail _ (.tail _ (.tail _ (.tail _ (.tail _ (.tail _ (.tail _ (.tail _ (.head _)))))))))).ld Q.out.2.2.1).mono ?_
  rintro e v27_ ⟨rfl, hb⟩
  have HH27 := Lib.hid (HH26.out.next hb)
  have HB27 := Lib.hid (below_then HB26.out hb)
  clear hb HH26 HB26
  clear cpp0 cpp1 cpp2 cqq0 cqq1 cqq2
  have cuu0 := (HH27.out _ (.tail _ (.tail _ (.tail _ (.tail _ (.tail _ (.tail _ (.head _)))))))).b.c0
  have cuu1 := (HH27.out _ (.tail _ (.tail _ (.tail _ (.tail _ (.tail _ (.tail _ (.head _)))))))).b.c1
  have cuu2 := (HH27.out _ (.tail _ (.tail _ (.tail _ (.tail _ (.tail _ (.tail _ (.head _)))))))).b.c2
  have cvv0 := (HH27.out _ (.tail _ (.tail _ (.tail _ (.tail _ (.tail _ (.head _))))))).b.c0
  have cvv1 := (HH27.out _ (.tail _ (.tail _ (.tail _ (.tail _ (.tail _ (.head _))))))).b.c1
  have cvv2 := (HH27.out _ (.tail _ (.tail _ (.tail _ (.tail _ (.tail _ (.head _))))))).b.c2
  go_wp2_with fail
  refine (sameQT0 HSame.out (HH27.out _ (.tail _ (.tail _ (.tail _ (.tail _ (.tail _ (.tail _ (.head _)))))))).m (HH27.out _ (.tail _ (.tail _ (.tail _ (.tail _ (.tail _ (.head _))))))).m (HH27.out _ (.tail _ (.tail _ (.tail _ (.tail _ (.tail _ (.tail _ (.head _)))))))).ln (HH27.out _ (.tail _ (.tail _ (.tail _ (.tail _ (.tail _ (.tail _ (.head _)))))))).ld (HH27.out _ (.tail _ (.tail _ (.tail _ (.tail _ (.tail _ (.head _))))))).ln (HH27.out _ (.tail _ (.tail _ (.tail _ (.tail _ (.tail _ (.head _))))))).ld Q.out.2.2.2.1).mono ?_
  rintro e v28_ ⟨rfl, hb⟩
  have HH28 := Lib.hid (HH27.out.next hb)
  have HB28 := Lib.hid (below_then HB27.out hb)
  clear hb HH27 HB27
  clear cuu0 cuu1 cuu2 cvv0 cvv1 cvv2
  have cnn0 := (HH28.out _ (.tail _ (.tail _ (.tail _ (.head _))))).b.c0
  have cnn1 := (HH28.out _ (.tail _ (.tail _ (.tail _ (.head _))))).b.c1
  have cnn2 := (HH28.out _ (.tail _ (.tail _ (.tail _ (.head _))))).b.c2
  have coo0 := (HH28.out _ (.tail _ (.tail _ (.head _)))).b.c0
  have coo1 := (HH28.out _ (.tail _ (.tail _ (.head _)))).b.c1
  have coo2 := (HH28.out _ (.tail _ (.tail _ (.head _)))).b.c2
  go_wp2_with fail
  refine (sameQT0 HSame.out (HH28.out _ (.tail _ (.tail _ (.tail _ (.head _))))).m (HH28.out _ (.tail _ (.tail _ (.head _)))).m (HH28.out _ (.tail _ (.tail _ (.tail _ (.head _))))).ln (HH28.out _ (.tail _ (.tail _ (.tail _ (.head _))))).ld (HH28.out _ (.tail _ (.tail _ (.head _)))).ln (HH28.out _ (.tail _ (.tail _ (.head _)))).ld Q.out.2.2.2.2.1).mono ?_
  rintro e v29_ ⟨rfl, hb⟩
  have HH29 := Lib.hid (HH28.out.next hb)
  have HB29 := Lib.hid (below_then HB28.out hb)
  clear hb HH28 HB28
  clear cnn0 cnn1 cnn2 coo0 coo1 coo2
  have cbk0 := (HH29.out _ (.head _)).b.c0
  have cbk1 := (HH29.out _ (.head _)).b.c1
  have cbk2 := (HH29.out _ (.head _)).b.c2
  have cx0 := (HH29.out _ (.tail _ (.tail _ (.tail _ (.tail _ (.tail _ (.tail _ (.tail _ (.tail _ (.tail _ (.tail _ (.tail _ (.tail _ (.tail _ (.tail _ (.tail _ (.tail _ (.tail _ (.head _))))))))))))))))))).b.c0
  have cx1 := (HH29.out _ (.tail _ (.tail _ (.tail _ (.tail _ (.tail _ (.tail _ (.tail _ (.tail _ (.tail _ (.tail _ (.tail _ (.tail _ (.tail _ (.tail _ (.tail _ (.tail _ (.tail _ (.head _))))))))))))))))))).b.c1
  have cx2 := (HH29.out _ (.tail _ (.tail _ (.tail _ (.tail _ (.tail _ (.tail _ (.tail _ (.tail _ (.tail _ (.tail _ (.tail _ (.tail _ (.tail _ (.tail _ (.tail _ (.tail _ (.tail _ (.head _))))))))))))))))))).b.c2
  go_wp2_with fail
  refine (sameQT0 HSame.out (HH29.out _ (.head _)).m (HH29.out _ (.tail _ (.tail _ (.tail _ (.tail _ (.tail _ (.tail _ (.tail _ (.tail _ (.tail _ (.tail _ (.tail _ (.tail _ (.tail _ (.tail _ (.tail _ (.tail _ (.tail _ (.head _))))))))))))))))))).m (HH29.out _ (.head _)).ln (HH29.out _ (.head _)).ld (HH29.out _ (.tail _ (.tail _ (.tail _ (.tail _ (.tail _ (.tail _ (.tail _ (.tail _ (.tail _ (.tail _ (.tail _ (.tail _ (.tail _ (.tail _ (.tail _ (.tail _ (.tail _ (.head _))))))))))))))))))).ln (HH29.out _ (.tail _ (.tail _ (.tail _ (.tail _ (.tail _ (.tail _ (.tail _ (.tail _ (.tail _ (.tail _ (.tail _ (.tail _ (.tail _ (.tail _ (.tail _ (.tail _ (.tail _ (.head _))))))))))))))))))).ld Q.out.2.2.2.2.2.1).mono ?_
  rintro e v30_ ⟨rfl, hb⟩
  have HH30 := Lib.hid (HH29.out.next hb)
  have HB30 := Lib.hid (below_then HB29.out hb)
  clear hb HH29 HB29
  clear cbk0 cbk1 cbk2 cx0 cx1 cx2
  have cab0 := (HH30.out _ (.tail _ (.tail _ (.tail _ (.tail _ (.tail _ (.tail _ (.tail _ (.tail _ (.tail _ (.tail _ (.tail _ (.tail _ (.tail _ (.tail _ (.head _)))))))))))))))).b.c0
  have cab1 := (HH30.out _ (.tail _ (.tail _ (.tail _ (.tail _ (.tail _ (.tail _ (.tail _ (.tail _ (.tail _ (.tail _ (.tail _ (.tail _ (.tail _ (.tail _ (.head _)))))))))))))))).b.c1
  have cab2 := (HH30.out _ (.tail _ (.tail _ (.tail _ (.tail _ (.tail _ (.tail _ (.tail _ (.tail _ (.tail _ (.tail _ (.tail _ (.tail _ (.tail _ (.tail _ (.head _)))))))))))))))).b.c2
  go_wp2_with fail
  refine (checkQN HCheck.out (HH30.out _ (.tail _ (.tail _ (.tail _ (.tail _ (.tail _ (.tail _ (.tail _ (.tail _ (.tail _ (.tail _ (.tail _ (.tail _ (.tail _ (.tail _ (.head _)))))))))))))))).m (HH30.out _ (.tail _ (.tail _ (.tail _ (.tail _ (.tail _ (.tail _ (.tail _ (.tail _ (.tail _ (.tail _ (.tail _ (.tail _ (.tail _ (.tail _ (.head _)))))))))))))))).ln (HH30.out _ (.tail _ (.tail _ (.tail _ (.tail _ (.tail _ (.tail _ (.tail _ (.tail _ (.tail _ (.tail _ (.tail _ (.tail _ (.tail _ (.tail _ (.head _)))))))))))))))).ld).mono ?_
  rintro e v31_ ⟨rfl, hb⟩
  have HH31 := Lib.hid (HH30.out.next hb)
  have HB31 := Lib.hid (below_then HB30.out hb)
  clear hb HH30 HB30
  clear cab0 cab1 cab2
  have cpp0 := (HH31.out _ (.tail _ (.tail _ (.tail _ (.tail _ (.tail _ (.tail _ (.tail _ (.tail _ (.tail _ (.head _))))))))))).b.c0
  have cpp1 := (HH31.out _ (.tail _ (.tail _ (.tail _ (.tail _ (.tail _ (.tail _ (.tail _ (.tail _ (.tail _ (.head _))))))))))).b.c1
  have cpp2 := (HH31.out _ (.tail _ (.tail _ (.tail _ (.tail _ (.tail _ (.tail _ (.tail _ (.tail _ (.tail _ (.head _))))))))))).b.c2
  go_wp2_with fail
  refine (checkQN HCheck.out (HH31.out _ (.tail _ (.tail _ (.tail _ (.tail _ (.tail _ (.tail _ (.tail _ (.tail _ (.tail _ (.head _))))))))))).m (HH31.out _ (.tail _ (.tail _ (.tail _ (.tail _ (.tail _ (.tail _ (.tail _ (.tail _ (.tail _ (.head _))))))))))).ln (HH31.out _ (.tail _ (.tail _ (.tail _ (.tail _ (.tail _ (.tail _ (.tail _ (.tail _ (.tail _ (.head _))))))))))).ld).mono ?_
  rintro e v32_ ⟨rfl, hb⟩
  have HH32 := Lib.hid (HH31.out.next hb)
  have HB32 := Lib.hid (below_then HB31.out hb)
  clear hb HH31 HB31
  clear cpp0 cpp1 cpp2
  have cy0 := (HH32.out _ (.tail _ (.tail _ (.tail _ (.tail _ (.tail _ (.tail _ (.tail _ (.tail _ (.tail _ (.tail _ (.tail _ (.tail _ (.tail _ (.tail _ (.tail _ (.tail _ (.head _)))))))))))))))))).b.c0
  have cy1 := (HH32.out _ (.tail _ (.tail _ (.tail _ (.tail _ (.tail _ (.tail _ (.tail _ (.tail _ (.tail _ (.tail _ (.tail _ (.tail _ (.tail _ (.tail _ (.tail _ (.tail _ (.head _)))))))))))))))))).b.c1
  have cy2 := (HH32.out _ (.tail _ (.tail _ (.tail _ (.tail _ (.tail _ (.tail _ (.tail _ (.tail _ (.tail _ (.tail _ (.tail _ (.tail _ (.tail _ (.tail _ (.tail _ (.tail _ (.head _)))))))))))))))))).b.c2
  go_wp2
  go_ret
  exact ⟨by simp, HB32.out⟩
end Go.Proofs.YtbldimplddiheaaGreatDoor

/- The law RatField: fractions that may not be, long ones; all. -/
namespace Go.Proofs.YtbldimplddiheaaGreatDoor
open Go.RowKit Go.Shelf
set_option linter.unusedVariables false
set_option linter.unusedSimpArgs false

/-- A call of two fractions, when nothing but its error is asked. -/
theorem opWeak {f : Rat → Rat → Rat} {F : Nat} (hF : OpQIs f F) {w : World} {v v2 : QV} {a d a2 d2 : List Nat} (h : Q1 w v a d) (h2 : Q1 w v2 a2 d2) :
    Calls Tryz.prog F #[v.v, v2.v] w fun e w' => ∃ vr : QV, e = .returned (.tuple #[vr.v, .int .i64 (if both2 v v2 a d a2 d2 then 0 else 8)]) ∧ Below w.heap.size w w' := by
  refine (hF v v2 a d a2 d2 w h h2).mono ?_
  intro e w' h
  unfold QAns at h
  cases hm : both2 v v2 a d a2 d2 with
  | true =>
    rw [hm, if_pos rfl] at h
    obtain ⟨vr, he, o, hb⟩ := h
    exact ⟨vr, he, hb⟩
  | false =>
    rw [hm, if_neg (by decide)] at h
    exact ⟨QV.zero, h.1, h.2⟩
section
variable (va vb vc : QV) (a d a2 d2 a3 d3 : List Nat) (w : World)
set_option maxRecDepth 100000 in
set_option maxHeartbeats 4000000 in
theorem fieldQ_bad (hva : Q1 w va a d) (hvb : Q1 w vb a2 d2) (hvc : Q1 w vc a3 d3) (l1 : va.n ≤ 8 ∧ va.m ≤ 8) (l2 : vb.n ≤ 8 ∧ vb.m ≤ 8) (l3 : vc.n ≤ 8 ∧ vc.m ≤ 8)
    (hm : ¬ (mayQ va.p a d = true ∧ mayQ vb.p a2 d2 = true ∧ mayQ vc.p a3 d3 = true))
    (hAl : ∀ W, Calls Tryz.prog 17 #[] W fun e w' => e = .returned (.bool true) ∧ Below W.heap.size W w') (hAdd : OpQIs (fun x y => x + y) 21) (hCheck : CheckQIs 19) :
    Calls Tryz.prog 5 #[va.v, vb.v, vc.v] w fun e w' => e = .returned (.bool true) ∧ Below w.heap.size w w' := by
  have T0 := tri_q w va vb vc
  have HAl := Lib.hid hAl
  have C1 := Lib.hid (fun W (hW : Below w.heap.size w W) => hCheck va a d W (hva.below hW))
  have C2 := Lib.hid (fun W (hW : Below w.heap.size w W) => hCheck vb a2 d2 W (hvb.below hW))
  have C3 := Lib.hid (fun W (hW : Below w.heap.size w W) => hCheck vc a3 d3 W (hvc.below hW))
  have HA := Lib.hid (fun W (hW : Below w.heap.size w W) => opWeak hAdd (hva.below hW) (hvb.below hW))
  have G1 := Lib.hid (fun W (n : Int) => rGreat_any (v := va) (w := W) n)
  have G2 := Lib.hid (fun W (n : Int) => rGreat_any (v := vb) (w := W) n)
  have G3 := Lib.hid (fun W (n : Int) => rGreat_any (v := vc) (w := W) n)
  have g1 : ∀ (n m : Nat), n ≤ 8 ∧ m ≤ 8 → (decide ((8 : Int) < (n : Int)) || decide ((8 : Int) < (m : Int))) = false := fun n m h => by simp; omega
  have GG := Lib.hid (And.intro (g1 _ _ l1) (And.intro (g1 _ _ l2) (g1 _ _ l3)))
  clear hva hvb hvc l1 l2 l3 g1 hAl hAdd hCheck
  cases e1 : mayQ va.p a d with
  | false =>
    rw [e1] at C1
    rw [show both2 va vb a d a2 d2 = false by unfold both2; rw [e1]; rfl] at HA
    simp only [Bool.false_eq_true, if_false] at C1 HA
    clear e1
    clear hm
    dsimp only [QV.v]
    go_enter Tryz.func5, Tryz.ntmps5
    go_wp2_with fail
    refine (HAl.out _).mono ?_
    rintro e w1 ⟨rfl, hb⟩
    have T1 := T0.next hb
    clear hb T0
    have cx0 := T1.x.c0
    have cx1 := T1.x.c1
    have cx2 := T1.x.c2
    have cy0 := T1.y.c0
    have cy1 := T1.y.c1
    have cy2 := T1.y.c2
    have cr0 := T1.r.c0
    have cr1 := T1.r.c1
    have cr2 := T1.r.c2
    go_wp2_with fail
    refine (G1.out _ 8).mono ?_
    rintro e w2 ⟨rfl, hb⟩
    rw [GG.out.1]
    have T2 := T1.next hb
    clear hb T1
    clear cx0 cx1 cx2 cy0 cy1 cy2 cr0 cr1 cr2
    have cx0 := T2.x.c0
    have cx1 := T2.x.c1
    have cx2 := T2.x.c2
    have cy0 := T2.y.c0
    have cy1 := T2.y.c1
    have cy2 := T2.y.c2
    have cr0 := T2.r.c0
    have cr1 := T2.r.c1
    have cr2 := T2.r.c2
    go_wp2_with fail
    refine (G2.out _ 8).mono ?_
    rintro e w3 ⟨rfl, hb⟩
    rw [GG.out.2.1]
    have T3 := T2.next hb
    clear hb T2
    clear cx0 cx1 cx2 cy0 cy1 cy2 cr0 cr1 cr2
    have cx0 := T3.x.c0
    have cx1 := T3.x.c1
    have cx2 := T3.x.c2
    have cy0 := T3.y.c0
    have cy1 := T3.y.c1
    have cy2 := T3.y.c2
    have cr0 := T3.r.c0
    have cr1 := T3.r.c1
    have cr2 := T3.r.c2
    go_wp2_with fail
    refine (G3.out _ 8).mono ?_
    rintro e w4 ⟨rfl, hb⟩
    rw [GG.out.2.2]
    have T4 := T3.next hb
    clear hb T3
    clear cx0 cx1 cx2 cy0 cy1 cy2 cr0 cr1 cr2
    have cx0 := T4.x.c0
    have cx1 := T4.x.c1
    have cx2 := T4.x.c2
    have cy0 := T4.y.c0
    have cy1 := T4.y.c1
    have cy2 := T4.y.c2
    have cr0 := T4.r.c0
    have cr1 := T4.r.c1
    have cr2 := T4.r.c2
    go_wp2_with fail
    refine (C1.out _ T4.b).mono ?_
    rintro e w5 ⟨rfl, hb⟩
    have T5 := T4.next hb
    clear hb T4
    clear cx0 cx1 cx2 cy0 cy1 cy2 cr0 cr1 cr2
    have cx0 := T5.x.c0
    have cx1 := T5.x.c1
    have cx2 := T5.x.c2
    have cy0 := T5.y.c0
    have cy1 := T5.y.c1
    have cy2 := T5.y.c2
    have cr0 := T5.r.c0
    have cr1 := T5.r.c1
    have cr2 := T5.r.c2
    go_wp2_with fail
    refine (HA.out _ T5.b).mono ?_
    rintro e w99 ⟨v9, rfl, hb⟩
    have T99 := T5.next hb
    clear hb T5
    unfold QV.v
    go_wp2
    go_ret
    exact ⟨by simp, below_then T99.b (bxb _ v9.o)⟩
  | true =>
    rw [e1] at C1
    simp only [if_true] at C1
    cases e2 : mayQ vb.p a2 d2 with
    | false =>
      rw [e2] at C2
      rw [show both2 va vb a d a2 d2 = false by unfold both2; rw [e2, Bool.and_false]] at HA
      simp only [Bool.false_eq_true, if_false] at C2 HA
      clear e1 e2
      clear hm
      dsimp only [QV.v]
      go_enter Tryz.func5, Tryz.ntmps5
      go_wp2_with fail
      refine (HAl.out _).mono ?_
      rintro e w1 ⟨rfl, hb⟩
      have T1 := T0.next hb
      clear hb T0
      have cx0 := T1.x.c0
      have cx1 := T1.x.c1
      have cx2 := T1.x.c2
      have cy0 := T1.y.c0
      have cy1 := T1.y.c1
      have cy2 := T1.y.c2
      have cr0 := T1.r.c0
      have cr1 := T1.r.c1
      have cr2 := T1.r.c2
      go_wp2_with fail
      refine (G1.out _ 8).mono ?_
      rintro e w2 ⟨rfl, hb⟩
      rw [GG.out.1]
      have T2 := T1.next hb
      clear hb T1
      clear cx0 cx1 cx2 cy0 cy1 cy2 cr0 cr1 cr2
      have cx0 := T2.x.c0
      have cx1 := T2.x.c1
      have cx2 := T2.x.c2
      have cy0 := T2.y.c0
      have cy1 := T2.y.c1
      have cy2 := T2.y.c2
      have cr0 := T2.r.c0
      have cr1 := T2.r.c1
      have cr2 := T2.r.c2
      go_wp2_with fail
      refine (G2.out _ 8).mono ?_
      rintro e w3 ⟨rfl, hb⟩
      rw [GG.out.2.1]
      have T3 := T2.next hb
      clear hb T2
      clear cx0 cx1 cx2 cy0 cy1 cy2 cr0 cr1 cr2
      have cx0 := T3.x.c0
      have cx1 := T3.x.c1
      have cx2 := T3.x.c2
      have cy0 := T3.y.c0
      have cy1 := T3.y.c1
      have cy2 := T3.y.c2
      have cr0 := T3.r.c0
      have cr1 := T3.r.c1
      have cr2 := T3.r.c2
      go_wp2_with fail
      refine (G3.out _ 8).mono ?_
      rintro e w4 ⟨rfl, hb⟩
      rw [GG.out.2.2]
      have T4 := T3.next hb
      clear hb T3
      clear cx0 cx1 cx2 cy0 cy1 cy2 cr0 cr1 cr2
      have cx0 := T4.x.c0
      have cx1 := T4.x.c1
      have cx2 := T4.x.c2
      have cy0 := T4.y.c0
      have cy1 := T4.y.c1
      have cy2 := T4.y.c2
      have cr0 := T4.r.c0
      have cr1 := T4.r.c1
      have cr2 := T4.r.c2
      go_wp2_with fail
      refine (C1.out _ T4.b).mono ?_
      rintro e w5 ⟨rfl, hb⟩
      have T5 := T4.next hb
      clear hb T4
      clear cx0 cx1 cx2 cy0 cy1 cy2 cr0 cr1 cr2
      have cx0 := T5.x.c0
      have cx1 := T5.x.c1
      have cx2 := T5.x.c2
      have cy0 := T5.y.c0
      have cy1 := T5.y.c1
      have cy2 := T5.y.c2
      have cr0 := T5.r.c0
      have cr1 := T5.r.c1
      have cr2 := T5.r.c2
      go_wp2_with fail
      refine (C2.out _ T5.b).mono ?_
      rintro e w6 ⟨rfl, hb⟩
      have T6 := T5.next hb
      clear hb T5
      clear cx0 cx1 cx2 cy0 cy1 cy2 cr0 cr1 cr2
      have cx0 := T6.x.c0
      have cx1 := T6.x.c1
      have cx2 := T6.x.c2
      have cy0 := T6.y.c0
      have cy1 := T6.y.c1
      have cy2 := T6.y.c2
      have cr0 := T6.r.c0
      have cr1 := T6.r.c1
      have cr2 := T6.r.c2
      go_wp2_with fail
      refine (HA.out _ T6.b).mono ?_
      rintro e w99 ⟨v9, rfl, hb⟩
      have T99 := T6.next hb
      clear hb T6
      unfold QV.v
      go_wp2
      go_ret
      exact ⟨by simp, below_then T99.b (bxb _ v9.o)⟩
    | true =>
      rw [e2] at C2
      rw [show both2 va vb a d a2 d2 = true by unfold both2; rw [e1, e2]; rfl] at HA
      have e3 : mayQ vc.p a3 d3 = false := by
        cases e3 : mayQ vc.p a3 d3 with
        | false => rfl
        | true => exact absurd ⟨e1, e2, e3⟩ hm
      rw [e3] at C3
      simp only [if_true] at C2 HA
      simp only [Bool.false_eq_true, if_false] at C3
      clear e1 e2 e3
      clear hm
      dsimp only [QV.v]
      go_enter Tryz.func5, Tryz.ntmps5
      go_wp2_with fail
      refine (HAl.out _).mono ?_
      rintro e w1 ⟨rfl, hb⟩
      have T1 := T0.next hb
      clear hb T0
      have cx0 := T1.x.c0
      have cx1 := T1.x.c1
      have cx2 := T1.x.c2
      have cy0 := T1.y.c0
      have cy1 := T1.y.c1
      have cy2 := T1.y.c2
      have cr0 := T1.r.c0
      have cr1 := T1.r.c1
      have cr2 := T1.r.c2
      go_wp2_with fail
      refine (G1.out _ 8).mono ?_
      rintro e w2 ⟨rfl, hb⟩
      rw [GG.out.1]
      have T2 := T1.next hb
      clear hb T1
      clear cx0 cx1 cx2 cy0 cy1 cy2 cr0 cr1 cr2
      have cx0 := T2.x.c0
      have cx1 := T2.x.c1
      have cx2 := T2.x.c2
      have cy0 := T2.y.c0
      have cy1 := T2.y.c1
      have cy2 := T2.y.c2
      have cr0 := T2.r.c0
      have cr1 := T2.r.c1
      have cr2 := T2.r.c2
      go_wp2_with fail
      refine (G2.out _ 8).mono ?_
      rintro e w3 ⟨rfl, hb⟩
      rw [GG.out.2.1]
      have T3 := T2.next hb
      clear hb T2
      clear cx0 cx1 cx2 cy0 cy1 cy2 cr0 cr1 cr2
      have cx0 := T3.x.c0
      have cx1 := T3.x.c1
      have cx2 := T3.x.c2
      have cy0 := T3.y.c0
      have cy1 := T3.y.c1
      have cy2 := T3.y.c2
      have cr0 := T3.r.c0
      have cr1 := T3.r.c1
      have cr2 := T3.r.c2
      go_wp2_with fail
      refine (G3.out _ 8).mono ?_
      rintro e w4 ⟨rfl, hb⟩
      rw [GG.out.2.2]
      have T4 := T3.next hb
      clear hb T3
      clear cx0 cx1 cx2 cy0 cy1 cy2 cr0 cr1 cr2
      have cx0 := T4.x.c0
      have cx1 := T4.x.c1
      have cx2 := T4.x.c2
      have cy0 := T4.y.c0
      have cy1 := T4.y.c1
      have cy2 := T4.y.c2
      have cr0 := T4.r.c0
      have cr1 := T4.r.c1
      have cr2 := T4.r.c2
      go_wp2_with fail
      refine (C1.out _ T4.b).mono ?_
      rintro e w5 ⟨rfl, hb⟩
      have T5 := T4.next hb
      clear hb T4
      clear cx0 cx1 cx2 cy0 cy1 cy2 cr0 cr1 cr2
      have cx0 := T5.x.c0
      have cx1 := T5.x.c1
      have cx2 := T5.x.c2
      have cy0 := T5.y.c0
      have cy1 := T5.y.c1
      have cy2 := T5.y.c2
      have cr0 := T5.r.c0
      have cr1 := T5.r.c1
      have cr2 := T5.r.c2
      go_wp2_with fail
      refine (C2.out _ T5.b).mono ?_
      rintro e w6 ⟨rfl, hb⟩
      have T6 := T5.next hb
      clear hb T5
      clear cx0 cx1 cx2 cy0 cy1 cy2 cr0 cr1 cr2
      have cx0 := T6.x.c0
      have cx1 := T6.x.c1
      have cx2 := T6.x.c2
      have cy0 := T6.y.c0
      have cy1 := T6.y.c1
      have cy2 := T6.y.c2
      have cr0 := T6.r.c0
      have cr1 := T6.r.c1
      have cr2 := T6.r.c2
      go_wp2_with fail
      refine (C3.out _ T6.b).mono ?_
      rintro e w7 ⟨rfl, hb⟩
      have T7 := T6.next hb
      clear hb T6
      clear cx0 cx1 cx2 cy0 cy1 cy2 cr0 cr1 cr2
      have cx0 := T7.x.c0
      have cx1 := T7.x.c1
      have cx2 := T7.x.c2
      have cy0 := T7.y.c0
      have cy1 := T7.y.c1
      have cy2 := T7.y.c2
      have cr0 := T7.r.c0
      have cr1 := T7.r.c1
      have cr2 := T7.r.c2
      go_wp2_with fail
      refine (HA.out _ T7.b).mono ?_
      rintro e w99 ⟨v9, rfl, hb⟩
      have T99 := T7.next hb
      clear hb T7
      unfold QV.v
      go_wp2
      go_ret
      exact ⟨by simp, below_then T99.b (bxb _ v9.o)⟩
set_option maxRecDepth 100000 in
set_option maxHeartbeats 4000000 in
theorem fieldQ_long (hl : ¬ ((va.n ≤ 8 ∧ va.m ≤ 8) ∧ (vb.n ≤ 8 ∧ vb.m ≤ 8) ∧ vc.n ≤ 8 ∧ vc.m ≤ 8)) (hAl : ∀ W, Calls Tryz.prog 17 #[] W fun e w' => e = .returned (.bool true) ∧ Below W.heap.size W w') :
    Calls Tryz.prog 5 #[va.v, vb.v, vc.v] w fun e w' => e = .returned (.bool true) ∧ Below w.heap.size w w' := by
  have T0 := tri_q w va vb vc
  have HAl := Lib.hid hAl
  have G1 := Lib.hid (fun W (n : Int) => rGreat_any (v := va) (w := W) n)
  have G2 := Lib.hid (fun W (n : Int) => rGreat_any (v := vb) (w := W) n)
  have G3 := Lib.hid (fun W (n : Int) => rGreat_any (v := vc) (w := W) n)
  have g1 : ∀ (n m : Nat), ¬ (n ≤ 8 ∧ m ≤ 8) → (decide ((8 : Int) < (n : Int)) || decide ((8 : Int) < (m : Int))) = true := fun n m h => by simp; omega
  have g2 : ∀ (n m : Nat), n ≤ 8 ∧ m ≤ 8 → (decide ((8 : Int) < (n : Int)) || decide ((8 : Int) < (m : Int))) = false := fun n m h => by simp; omega
  clear hAl
  by_cases k1 : va.n ≤ 8 ∧ va.m ≤ 8
  · have e1 := g2 _ _ k1
    by_cases k2 : vb.n ≤ 8 ∧ vb.m ≤ 8
    · have e2 := g2 _ _ k2
      have e3 := g1 vc.n vc.m (fun h => hl ⟨k1, k2, h⟩)
      clear g1 g2 hl k1 k2
      dsimp only [QV.v]
      go_enter Tryz.func5, Tryz.ntmps5
      go_wp2_with fail
      refine (HAl.out _).mono ?_
      rintro e w1 ⟨rfl, hb⟩
      have T1 := T0.next hb
      clear hb T0
      have cx0 := T1.x.c0
      have cx1 := T1.x.c1
      have cx2 := T1.x.c2
      have cy0 := T1.y.c0
      have cy1 := T1.y.c1
      have cy2 := T1.y.c2
      have cr0 := T1.r.c0
      have cr1 := T1.r.c1
      have cr2 := T1.r.c2
      go_wp2_with fail
      refine (G1.out _ 8).mono ?_
      rintro e w2 ⟨rfl, hb⟩
      rw [e1]
      have T2 := T1.next hb
      clear hb T1
      clear cx0 cx1 cx2 cy0 cy1 cy2 cr0 cr1 cr2
      have cx0 := T2.x.c0
      have cx1 := T2.x.c1
      have cx2 := T2.x.c2
      have cy0 := T2.y.c0
      have cy1 := T2.y.c1
      have cy2 := T2.y.c2
      have cr0 := T2.r.c0
      have cr1 := T2.r.c1
      have cr2 := T2.r.c2
      go_wp2_with fail
      refine (G2.out _ 8).mono ?_
      rintro e w3 ⟨rfl, hb⟩
      rw [e2]
      have T3 := T2.next hb
      clear hb T2
      clear cx0 cx1 cx2 cy0 cy1 cy2 cr0 cr1 cr2
      have cx0 := T3.x.c0
      have cx1 := T3.x.c1
      have cx2 := T3.x.c2
      have cy0 := T3.y.c0
      have cy1 := T3.y.c1
      have cy2 := T3.y.c2
      have cr0 := T3.r.c0
      have cr1 := T3.r.c1
      have cr2 := T3.r.c2
      go_wp2_with fail
      refine (G3.out _ 8).mono ?_
      rintro e w4 ⟨rfl, hb⟩
      rw [e3]
      have T4 := T3.next hb
      clear hb T3
      clear cx0 cx1 cx2 cy0 cy1 cy2 cr0 cr1 cr2
      have cx0 := T4.x.c0
      have cx1 := T4.x.c1
      have cx2 := T4.x.c2
      have cy0 := T4.y.c0
      have cy1 := T4.y.c1
      have cy2 := T4.y.c2
      have cr0 := T4.r.c0
      have cr1 := T4.r.c1
      have cr2 := T4.r.c2
      go_wp2
      go_ret
      exact ⟨rfl, T4.b⟩
    · have e2 := g1 _ _ k2
      clear g1 g2 hl k1 k2
      dsimp only [QV.v]
      go_enter Tryz.func5, Tryz.ntmps5
      go_wp2_with fail
      refine (HAl.out _).mono ?_
      rintro e w1 ⟨rfl, hb⟩
      have T1 := T0.next hb
      clear hb T0
      have cx0 := T1.x.c0
      have cx1 := T1.x.c1
      have cx2 := T1.x.c2
      have cy0 := T1.y.c0
      have cy1 := T1.y.c1
      have cy2 := T1.y.c2
      have cr0 := T1.r.c0
      have cr1 := T1.r.c1
      have cr2 := T1.r.c2
      go_wp2_with fail
      refine (G1.out _ 8).mono ?_
      rintro e w2 ⟨rfl, hb⟩
      rw [e1]
      have T2 := T1.next hb
      clear hb T1
      clear cx0 cx1 cx2 cy0 cy1 cy2 cr0 cr1 cr2
      have cx0 := T2.x.c0
      have cx1 := T2.x.c1
      have cx2 := T2.x.c2
      have cy0 := T2.y.c0
      have cy1 := T2.y.c1
      have cy2 := T2.y.c2
      have cr0 := T2.r.c0
      have cr1 := T2.r.c1
      have cr2 := T2.r.c2
      go_wp2_with fail
      refine (G2.out _ 8).mono ?_
      rintro e w3 ⟨rfl, hb⟩
      rw [e2]
      have T3 := T2.next hb
      clear hb T2
      clear cx0 cx1 cx2 cy0 cy1 cy2 cr0 cr1 cr2
      have cx0 := T3.x.c0
      have cx1 := T3.x.c1
      have cx2 := T3.x.c2
      have cy0 := T3.y.c0
      have cy1 := T3.y.c1
      have cy2 := T3.y.c2
      have cr0 := T3.r.c0
      have cr1 := T3.r.c1
      have cr2 := T3.r.c2
      go_wp2
      go_ret
      exact ⟨rfl, T3.b⟩
  · have e1 := g1 _ _ k1
    clear g1 g2 hl k1
    dsimp only [QV.v]
    go_enter Tryz.func5, Tryz.ntmps5
    go_wp2_with fail
    refine (HAl.out _).mono ?_
    rintro e w1 ⟨rfl, hb⟩
    have T1 := T0.next hb
    clear hb T0
    have cx0 := T1.x.c0
    have cx1 := T1.x.c1
    have cx2 := T1.x.c2
    have cy0 := T1.y.c0
    have cy1 := T1.y.c1
    have cy2 := T1.y.c2
    have cr0 := T1.r.c0
    have cr1 := T1.r.c1
    have cr2 := T1.r.c2
    go_wp2_with fail
    refine (G1.out _ 8).mono ?_
    rintro e w2 ⟨rfl, hb⟩
    rw [e1]
    have T2 := T1.next hb
    clear hb T1
    clear cx0 cx1 cx2 cy0 cy1 cy2 cr0 cr1 cr2
    have cx0 := T2.x.c0
    have cx1 := T2.x.c1
    have cx2 := T2.x.c2
    have cy0 := T2.y.c0
    have cy1 := T2.y.c1
    have cy2 := T2.y.c2
    have cr0 := T2.r.c0
    have cr1 := T2.r.c1
    have cr2 := T2.r.c2
    go_wp2
    go_ret
    exact ⟨rfl, T2.b⟩
theorem fieldQ_any (r1 : Rd w va.A va.n a) (s1 : Rd w va.D va.m d) (r2 : Rd w vb.A vb.n a2) (s2 : Rd w vb.D vb.m d2) (r3 : Rd w vc.A vc.n a3) (s3 : Rd w vc.D vc.m d3)
    (c1 : va.n ≤ va.c ∧ va.c ≤ 9223372036854775807) (c2 : va.m ≤ va.d ∧ va.d ≤ 9223372036854775807) (c3 : vb.n ≤ vb.c ∧ vb.c ≤ 9223372036854775807) (c4 : vb.m ≤ vb.d ∧ vb.d ≤ 9223372036854775807) (c5 : vc.n ≤ vc.c ∧ vc.c ≤ 9223372036854775807) (c6 : vc.m ≤ vc.d ∧ vc.d ≤ 9223372036854775807)
    (hAl : ∀ W, Calls Tryz.prog 17 #[] W fun e w' => e = .returned (.bool true) ∧ Below W.heap.size W w') (hAdd : OpQIs (fun x y => x + y) 21) (hSub : OpQIs (fun x y => x - y) 23) (hMul : OpQIs (fun x y => x * y) 10) (hDiv : DivQIs 15) (hCheck : CheckQIs 19) :
    Calls Tryz.prog 5 #[va.v, vb.v, vc.v] w fun e w' => e = .returned (.bool true) ∧ Below w.heap.size w w' := by
  by_cases h8 : (va.n ≤ 8 ∧ va.m ≤ 8) ∧ (vb.n ≤ 8 ∧ vb.m ≤ 8) ∧ vc.n ≤ 8 ∧ vc.m ≤ 8
  · have q1 : Q1 w va a d := ⟨r1, s1, by omega, by omega, c1.1, c1.2, c2.1, c2.2⟩
    have q2 : Q1 w vb a2 d2 := ⟨r2, s2, by omega, by omega, c3.1, c3.2, c4.1, c4.2⟩
    have q3 : Q1 w vc a3 d3 := ⟨r3, s3, by omega, by omega, c5.1, c5.2, c6.1, c6.2⟩
    by_cases hm : mayQ va.p a d = true ∧ mayQ vb.p a2 d2 = true ∧ mayQ vc.p a3 d3 = true
    · by_cases hy : qof vb.p a2 d2 = 0
      · have hn := q2.num hm.2.1
        obtain ⟨pb, Ab, nb, cb, Db, mb, db⟩ := vb
        have h0 : nb = 0 := by
          have h1 := hn.a.zero
          rw [hy] at h1
          exact h1.2 rfl
        subst h0
        exact fieldQ_zero va vc pb Ab Db cb mb db _ _ _ w (q1.num hm.1) hn (q3.num hm.2.2) h8.1 h8.2.1 h8.2.2 hy hAl hAdd hSub hMul hDiv hCheck
      · exact fieldQ_ok va vb vc _ _ _ w (q1.num hm.1) (q2.num hm.2.1) (q3.num hm.2.2) h8.1 h8.2.1 h8.2.2 hy hAl hAdd hSub hMul hDiv hCheck
    · exact fieldQ_bad va vb vc a d a2 d2 a3 d3 w q1 q2 q3 h8.1 h8.2.1 h8.2.2 hm hAl hAdd hCheck
  · exact fieldQ_long va vb vc w h8 hAl
end
end Go.Proofs.YtbldimplddiheaaGreatDoor

/- The law RatField, of all fractions. -/
namespace Go.Proofs.YtbldimplddiheaaGreatDoor
open Go.RowKit Go.Shelf
set_option linter.unusedVariables false

theorem fieldQ_all (va vb vc : QV) (a d a2 d2 a3 d3 : List Nat) (w : World) (r1 : Rd w va.A va.n a) (s1 : Rd w va.D va.m d) (r2 : Rd w vb.A vb.n a2) (s2 : Rd w vb.D vb.m d2) (r3 : Rd w vc.A vc.n a3) (s3 : Rd w vc.D vc.m d3) (c1 : va.n ≤ va.c ∧ va.c ≤ 9223372036854775807) (e1 : va.m ≤ va.d ∧ va.d ≤ 9223372036854775807) (c2 : vb.n ≤ vb.c ∧ vb.c ≤ 9223372036854775807) (e2 : vb.m ≤ vb.d ∧ vb.d ≤ 9223372036854775807) (c3 : vc.n ≤ vc.c ∧ vc.c ≤ 9223372036854775807) (e3 : vc.m ≤ vc.d ∧ vc.d ≤ 9223372036854775807) :
    Calls Tryz.prog 5 #[va.v, vb.v, vc.v] w fun e w' => e = .returned (.bool true) ∧ Below w.heap.size w w' :=
  fieldQ_any va vb vc a d a2 d2 a3 d3 w r1 s1 r2 s2 r3 s3 c1 e1 c2 e2 c3 e3 (fun W => qalive_any qof_is qadd_is qdiv_is qtext_is W) qadd_is qsub_is qmul_is qdiv_is checkQ_is
end Go.Proofs.YtbldimplddiheaaGreatDoor
