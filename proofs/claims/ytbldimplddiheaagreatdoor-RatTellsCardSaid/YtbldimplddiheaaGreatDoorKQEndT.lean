import Derived.Test.YtbldimplddiheaaGreatDoorKQRef7
import Derived.Test.YtbldimplddiheaaGreatDoorKQN
import Derived.Test.YtbldimplddiheaaGreatDoorKQFr
import Derived.Test.YtbldimplddiheaaGreatDoorKQRef5
import Derived.Test.YtbldimplddiheaaGreatDoorKQJ
import Derived.Test.YtbldimplddiheaaGreatDoorKQG
/- QRef6 QTells QEndT. -/
/- The document's fractions: the whole number above. -/
namespace Go.Proofs.YtbldimplddiheaaGreatDoor
open Go.RowKit Go.Shelf
set_option linter.unusedVariables false
set_option linter.unusedSimpArgs false

section
variable {A D : Option Addr} {na ca nd cd u : Nat} {a d a2 d2 : List Nat} {w : World} {z : Int} {x y : Rat} {v v2 : QV}
set_option maxRecDepth 100000 in
set_option maxHeartbeats 4000000 in
theorem rCeilQ_any (h : Q1 w v a d) : Calls Tryz.prog 30 #[v.v] w (ZAns w (if mayQ v.p a d then (qof v.p a d).ceil else 0) (if mayQ v.p a d then 0 else 8)) := by
  have T0 := q_mix w v
  have H1 := Lib.hid (fun W (hW : Below w.heap.size w W) => rMayQ_any (w := W) (h.below hW))
  cases hm : mayQ v.p a d with
  | false =>
    rw [hm] at H1
    simp only [Bool.false_eq_true, if_false]
    clear h hm
    unfold QV.v at *
    go_enter Tryz.func30, Tryz.ntmps30
    go_wp2_with fail
    refine (H1.out _ T0.b).mono ?_
    rintro e w1 ⟨rfl, hb⟩
    have T1 := T0.next hb
    clear hb T0
    have qx0 := T1.x.c0
    have qx1 := T1.x.c1
    have qx2 := T1.x.c2
    have r0 := T1.r.c0
    have r1 := T1.r.c1
    have f0 := T1.r.f 0
    have f1 := T1.r.f 1
    go_wp2
    refine bodyPost_ret (v := .tuple #[zv false none 0 0, .int .i64 8]) (by simp [results, Tryz.results30, go_sem, r0, r1, zv]) rfl ?_
    exact zans_zero (box_below (show w.heap.size ≤ w.heap.size + 1 by omega) T1.b _ _)
  | true =>
    rw [hm] at H1
    simp only [if_true]
    have n1 := h.num hm
    have k1 := h.la
    have k2 := h.ld
    have s1 := n1.s
    have hne : (((qof v.p a d).den : Nat) : Int) ≠ 0 := by have := (qof v.p a d).den_nz; omega
    have B1 : Bd 60 (qof v.p a d).num := Bd.of n1.a k1
    have P1 := Lib.hid (fun W (hW : Below w.heap.size w W) => rTurned_any (w := W) (n1.a.below hW) (by omega))
    have P2 := Lib.hid (fun W {A3 : Option Addr} {n3 c3 : Nat} (hW : Below w.heap.size w W) (h3 : ZNm W A3 n3 c3 (-(qof v.p a d).num)) (hk : n3 ≤ 400) => rDownZ_any (w := W) (A2 := v.D) (nb := v.m) (cb := v.d) (y := (((qof v.p a d).den : Nat) : Int)) h3 (by show Nm _ _ _ _ ((((qof v.p a d).den : Nat) : Int)).natAbs; rw [Int.natAbs_natCast]; exact (n1.below hW).d) (by omega) (by omega) hne)
    have P3 := Lib.hid (fun W {A3 : Option Addr} {n3 c3 : Nat} (h3 : ZNm W A3 n3 c3 (Int.fdiv (-(qof v.p a d).num) (((qof v.p a d).den : Nat) : Int))) (hk : n3 ≤ 400) => rTurned_any (w := W) h3 (by omega))
    have L1 : Hid (Bd 60 (-(qof v.p a d).num)) := B1.neg
    have L2 : Hid (Bd 61 (Int.fdiv (-(qof v.p a d).num) (((qof v.p a d).den : Nat) : Int))) := L1.out.fdiv hne
    have hc : (qof v.p a d).ceil = -(Int.fdiv (-(qof v.p a d).num) (((qof v.p a d).den : Nat) : Int)) := by rw [← ceil_rat]; rfl
    rw [hc]
    unfold zV zv at P1 P2
    rw [← s1] at P1
    rw [show decide ((((qof v.p a d).den : Nat) : Int) < 0) = false from decide_eq_false (by omega)] at P2
    clear h hm n1 k1 k2 s1 hne hc B1
    generalize Int.fdiv (-(qof v.p a d).num) (((qof v.p a d).den : Nat) : Int) = z2 at *
    generalize -(qof v.p a d).num = z1 at *
    unfold QV.v at *
    go_enter Tryz.func30, Tryz.ntmps30
    go_wp2_with fail
    refine (H1.out _ T0.b).mono ?_
    rintro e w1 ⟨rfl, hb⟩
    have T1 := T0.next hb
    have HT1 := Lib.hid (T1.next (Below.refl _ _).drew)
    clear hb T0
    have qx0 := T1.x.c0
    have qx1 := T1.x.c1
    have qx2 := T1.x.c2
    have r0 := T1.r.c0
    have r1 := T1.r.c1
    have f0 := T1.r.f 0
    have f1 := T1.r.f 1
    go_wp2_with fail
    go_region_held3 (fun W' => W'.cell? ⟨w.heap.size, 0, none⟩ = some (.bool v.p) ∧ W'.cell? ⟨w.heap.size, 1, none⟩ = some (.slice v.A v.n v.c) ∧ W'.cell? ⟨w.heap.size, 2, none⟩ = some (.slice v.D v.m v.d)) (first | (refine ⟨?_, ?_, ?_⟩ <;> exact cell_far (cell_far (by assumption) (by omega) _) (by omega) _) | go_keep)
      (first
        | (go_at_call 63; refine (P3.out _ o3.nm (by have := L2.out.len o3; omega)).mono ?_; rintro e w4 ⟨A4, k4, c4, rfl, o4, hb⟩; have T4 := T3.next hb; clear qx0 qx1 qx2 r0 r1 f0 f1; have qx0 := T4.x.c0; have qx1 := T4.x.c1; have qx2 := T4.x.c2; have r0 := T4.r.c0; have r1 := T4.r.c1; have f0 := T4.r.f 0; have f1 := T4.r.f 1; unfold zV zv)
        | (go_at_call 63; refine (P1.out _ HT1.out.b).mono ?_; rintro e w2 ⟨A2, k2, c2, rfl, o2, hb⟩; have T2 := HT1.out.next hb; clear qx0 qx1 qx2 r0 r1 f0 f1; have qx0 := T2.x.c0; have qx1 := T2.x.c1; have qx2 := T2.x.c2; have r0 := T2.r.c0; have r1 := T2.r.c1; have f0 := T2.r.f 0; have f1 := T2.r.f 1; unfold zV zv)
        | (go_at_call 68; refine (P2.out _ T2.b o2.nm (by have := L1.out.len o2; omega)).mono ?_; rintro e w3 ⟨A3, k3, c3, rfl, o3, hb⟩; have T3 := T2.next hb; clear qx0 qx1 qx2 r0 r1 f0 f1; have qx0 := T3.x.c0; have qx1 := T3.x.c1; have qx2 := T3.x.c2; have r0 := T3.r.c0; have r1 := T3.r.c1; have f0 := T3.r.f 0; have f1 := T3.r.f 1; unfold zV zv))
    all_goals
      go_wp2
      refine bodyPost_ret (v := .tuple #[zV (-z2) A4 k4 c4, .int .i64 0]) (by simp [results, Tryz.results30, go_sem, r0, r1, zV, zv]) rfl ?_
      exact ⟨A4, k4, c4, rfl, own_box (Array.getElem?_eq_some_iff.1 T3.r).1 (show w.heap.size ≤ w.heap.size + 1 by omega) o4 _ _, box_below (show w.heap.size ≤ w.heap.size + 1 by omega) T4.b _ _⟩
end
end Go.Proofs.YtbldimplddiheaaGreatDoor

/- The law RatTells, from what the calls of rat are. -/
namespace Go.Proofs.YtbldimplddiheaaGreatDoor
open Go.RowKit Go.Shelf
set_option linter.unusedVariables false
set_option linter.unusedSimpArgs false

section
variable {w : World} {v v2 : QV} {a d a2 d2 : List Nat} {F G : Nat}
theorem bd_num (h : Q1 w v a d) (hm : mayQ v.p a d = true) (l : v.n ≤ 3 ∧ v.m ≤ 3) : BdQ 3 3 (qof v.p a d) := BdQ.of (h.num hm) l.1 l.2
theorem both_iff : both2 v v2 a d a2 d2 = true ↔ mayQ v.p a d = true ∧ mayQ v2.p a2 d2 = true := by unfold both2; simp
theorem twinOp {f : Rat → Rat → Rat} (hF : OpQIs f F) (hG : OpQIs f G) (h : Q1 w v a d) (h2 : Q1 w v2 a2 d2) (bd : both2 v v2 a d a2 d2 = true → BdQ 60 60 (f (qof v.p a d) (qof v2.p a2 d2))) :
    ∃ (p : Bool) (l m : List Nat) (E : Int), IntKind.i64.wrap E = E ∧ (∀ W, Below w.heap.size w W → Calls Tryz.prog F #[v.v, v2.v] W (QAnsL W p l m E)) ∧ (∀ W, Below w.heap.size w W → Calls Tryz.prog G #[v.v, v2.v] W (QAnsL W p l m E)) :=
  ⟨_, _, _, _, wrap_small (by split <;> omega) (by split <;> omega), fun W hW => (hF v v2 a d a2 d2 W (h.below hW) (h2.below hW)).mono fun e w' h => h.l bd, fun W hW => (hG v v2 a d a2 d2 W (h.below hW) (h2.below hW)).mono fun e w' h => h.l bd⟩
theorem twinDiv (hF : DivQIs F) (hG : DivQIs G) (h : Q1 w v a d) (h2 : Q1 w v2 a2 d2) (bd : both2 v v2 a d a2 d2 = true → qof v2.p a2 d2 ≠ 0 → BdQ 60 60 (qof v.p a d / qof v2.p a2 d2)) :
    ∃ (p : Bool) (l m : List Nat) (E : Int), IntKind.i64.wrap E = E ∧ (∀ W, Below w.heap.size w W → Calls Tryz.prog F #[v.v, v2.v] W (QAnsL W p l m E)) ∧ (∀ W, Below w.heap.size w W → Calls Tryz.prog G #[v.v, v2.v] W (QAnsL W p l m E)) := by
  have bd2 : (both2 v v2 a d a2 d2 && decide (qof v2.p a2 d2 ≠ 0)) = true → BdQ 60 60 (qof v.p a d / qof v2.p a2 d2) := fun h => by
    rw [Bool.and_eq_true] at h
    exact bd h.1 (of_decide_eq_true h.2)
  exact ⟨_, _, _, _, wrap_small (by split <;> (try split) <;> omega) (by split <;> (try split) <;> omega), fun W hW => (hF v v2 a d a2 d2 W (h.below hW) (h2.below hW)).mono fun e w' h => h.l bd2, fun W hW => (hG v v2 a d a2 d2 W (h.below hW) (h2.below hW)).mono fun e w' h => h.l bd2⟩
theorem twinCmp (hF : CmpQIs F) (hG : CmpQIs G) (h : Q1 w v a d) (h2 : Q1 w v2 a2 d2) :
    ∃ (i E : Int), IntKind.i64.wrap E = E ∧ (∀ W, Below w.heap.size w W → Calls Tryz.prog F #[v.v, v2.v] W (IAns W i E)) ∧ (∀ W, Below w.heap.size w W → Calls Tryz.prog G #[v.v, v2.v] W (IAns W i E)) :=
  ⟨_, _, wrap_small (by split <;> omega) (by split <;> omega), fun W hW => hF v v2 a d a2 d2 W (h.below hW) (h2.below hW), fun W hW => hG v v2 a d a2 d2 W (h.below hW) (h2.below hW)⟩
theorem twinWhole {f : Rat → Int} (hF : WholeQIs f F) (hG : WholeQIs f G) (h : Q1 w v a d) (bd : mayQ v.p a d = true → Bd 4 (f (qof v.p a d))) :
    ∃ (z E : Int), Hid (Bd 4 z) ∧ IntKind.i64.wrap E = E ∧ (∀ W, Below w.heap.size w W → Calls Tryz.prog F #[v.v] W (ZAns W z E)) ∧ (∀ W, Below w.heap.size w W → Calls Tryz.prog G #[v.v] W (ZAns W z E)) :=
  ⟨_, _, (by
    show Bd 4 _
    split
    · exact bd (by assumption)
    · unfold Bd
      rw [Int.natAbs_zero]
      exact Nat.pow_pos B64_pos), wrap_small (by split <;> omega) (by split <;> omega), fun W hW => hF v a d W (h.below hW), fun W hW => hG v a d W (h.below hW)⟩
theorem qTextE_small (p : Bool) (a d : List Nat) : 0 ≤ qTextE p a d ∧ qTextE p a d ≤ 1000 := by
  have h1 := textZE_small p a
  unfold qTextE textE
  split <;> (try split) <;> (try split) <;> (try split) <;> (try split) <;> omega
theorem twinText (hF : TextQIs F) (hG : TextQIs G) (h : Q1 w v a d) :
    ∃ (s : ByteArray) (E : Int), IntKind.i64.wrap E = E ∧ (∀ W, Below w.heap.size w W → Calls Tryz.prog F #[v.v] W fun e w' => e = .returned (.tuple #[.string s, .int .i64 E]) ∧ Below W.heap.size W w') ∧ (∀ W, Below w.heap.size w W → Calls Tryz.prog G #[v.v] W fun e w' => e = .returned (.tuple #[.string s, .int .i64 E]) ∧ Below W.heap.size W w') :=
  ⟨_, _, wrap_small (qTextE_small v.p a d).1 (qTextE_small v.p a d).2, fun W hW => hF v a d W (h.below hW), fun W hW => hG v a d W (h.below hW)⟩
theorem twinCheck (hF : CheckQIs F) (hG : CheckQIs G) (h : Q1 w v a d) :
    ∃ (E : Int), IntKind.i64.wrap E = E ∧ (∀ W, Below w.heap.size w W → Calls Tryz.prog F #[v.v] W fun e w' => e = .returned (.int .i64 E) ∧ Below W.heap.size W w') ∧ (∀ W, Below w.heap.size w W → Calls Tryz.prog G #[v.v] W fun e w' => e = .returned (.int .i64 E) ∧ Below W.heap.size W w') :=
  ⟨_, wrap_small (by split <;> omega) (by split <;> omega), fun W hW => hF v a d W (h.below hW), fun W hW => hG v a d W (h.below hW)⟩
theorem twinSame (hF : SameQIs F) (hG : SameQIs G) (h : Q1 w v a d) (h2 : Q1 w v2 a2 d2) :
    ∃ (t : Bool), (∀ W, Below w.heap.size w W → Calls Tryz.prog F #[v.v, v2.v] W fun e w' => e = .returned (.bool t) ∧ Below W.heap.size W w') ∧ (∀ W, Below w.heap.size w W → Calls Tryz.prog G #[v.v, v2.v] W fun e w' => e = .returned (.bool t) ∧ Below W.heap.size W w') :=
  ⟨_, fun W hW => hF v v2 a d a2 d2 W (h.below hW) (h2.below hW), fun W hW => hG v v2 a d a2 d2 W (h.below hW) (h2.below hW)⟩
theorem Bd.floor {x : Rat} {k m : Nat} (h : BdQ k m x) : Bd (k + 1) x.floor := by
  rw [← floor_rat]
  have e : Bd k x.num := h.1
  exact e.fdiv (by have := x.den_nz; omega)
theorem Bd.ceil {x : Rat} {k m : Nat} (h : BdQ k m x) : Bd (k + 1) x.ceil := by
  rw [← ceil_rat]
  have e : Bd k x.num := h.1
  exact e.cdiv (by have := x.den_nz; omega)
end
section
variable (va vb : QV) (a d a2 d2 : List Nat) (w : World)
set_option maxRecDepth 100000 in
set_option maxHeartbeats 20000000 in
theorem tellsQ_short (hva : Q1 w va a d) (hvb : Q1 w vb a2 d2) (l1 : va.n ≤ 3 ∧ va.m ≤ 3) (l2 : vb.n ≤ 3 ∧ vb.m ≤ 3)
    (hAdd : OpQIs (fun x y => x + y) 21) (hSub : OpQIs (fun x y => x - y) 23) (hMul : OpQIs (fun x y => x * y) 10) (hDiv : DivQIs 15) (hCmp : CmpQIs 12) (hFloor : WholeQIs Rat.floor 13) (hCeil : WholeQIs Rat.ceil 14) (hText : TextQIs 31) (hCheck : CheckQIs 19) (hSame : SameQIs 34) :
    Calls Tryz.prog 4 #[va.v, vb.v] w fun e w' => e = .returned (.bool true) ∧ Below w.heap.size w w' := by
  obtain ⟨pAdd, aAdd, dAdd, EAdd, wAdd, HAdd0, HAdd1⟩ := twinOp (G := 22) hAdd (fun _ _ _ _ _ _ _ h1 h2 => rAddQ_any h1 h2) hva hvb (fun hm => by have h := both_iff.1 hm; have x := bd_num hva h.1 l1; have y := bd_num hvb h.2 l2; exact (x.add y (K := 6) (by omega) (by omega)).mono (by omega) (by omega))
  obtain ⟨pSub, aSub, dSub, ESub, wSub, HSub0, HSub1⟩ := twinOp (G := 24) hSub (fun _ _ _ _ _ _ _ h1 h2 => rSubQ_any h1 h2) hva hvb (fun hm => by have h := both_iff.1 hm; have x := bd_num hva h.1 l1; have y := bd_num hvb h.2 l2; exact (x.sub y (K := 6) (by omega) (by omega)).mono (by omega) (by omega))
  obtain ⟨pMul, aMul, dMul, EMul, wMul, HMul0, HMul1⟩ := twinOp (G := 25) hMul (fun _ _ _ _ _ _ _ h1 h2 => rMulQ_any h1 h2) hva hvb (fun hm => by have h := both_iff.1 hm; have x := bd_num hva h.1 l1; have y := bd_num hvb h.2 l2; exact (x.mul y).mono (by omega) (by omega))
  obtain ⟨pDiv, aDiv, dDiv, EDiv, wDiv, HDiv0, HDiv1⟩ := twinDiv (G := 26) hDiv (fun _ _ _ _ _ _ _ h1 h2 => rDivQ_any h1 h2) hva hvb (fun hm h0 => by have h := both_iff.1 hm; have x := bd_num hva h.1 l1; have y := bd_num hvb h.2 l2; exact (x.div y h0).mono (by omega) (by omega))
  obtain ⟨iCmp, ECmp, wCmp, HCmp0, HCmp1⟩ := twinCmp (G := 27) hCmp (fun _ _ _ _ _ _ _ h1 h2 => rCmpQ_any h1 h2) hva hvb
  obtain ⟨zFloor, EFloor, LzFloor, wFloor, HFloor0, HFloor1⟩ := twinWhole (G := 29) hFloor (fun _ _ _ _ h1 => rFloorQ_any h1) hva (fun hm => Bd.floor (bd_num hva hm l1))
  obtain ⟨zCeil, ECeil, LzCeil, wCeil, HCeil0, HCeil1⟩ := twinWhole (G := 30) hCeil (fun _ _ _ _ h1 => rCeilQ_any h1) hva (fun hm => Bd.ceil (bd_num hva hm l1))
  obtain ⟨sText, EText, wText, HText0, HText1⟩ := twinText (G := 32) hText (fun _ _ _ _ h1 => rTextQ_any h1) hva
  obtain ⟨ECheck, wCheck, HCheck0, HCheck1⟩ := twinCheck (G := 33) hCheck (fun _ _ _ _ h1 => rCheckQ_any h1) hva
  obtain ⟨tS, HSm0, HSm1⟩ := twinSame (G := 28) hSame (fun _ _ _ _ _ _ _ h1 h2 => rSameQ_any h1 h2) hva hvb
  have HAdd0 := Lib.hid HAdd0
  have HAdd1 := Lib.hid HAdd1
  have HSub0 := Lib.hid HSub0
  have HSub1 := Lib.hid HSub1
  have HMul0 := Lib.hid HMul0
  have HMul1 := Lib.hid HMul1
  have HDiv0 := Lib.hid HDiv0
  have HDiv1 := Lib.hid HDiv1
  have HCmp0 := Lib.hid HCmp0
  have HCmp1 := Lib.hid HCmp1
  have HFloor0 := Lib.hid HFloor0
  have HFloor1 := Lib.hid HFloor1
  have HCeil0 := Lib.hid HCeil0
  have HCeil1 := Lib.hid HCeil1
  have HText0 := Lib.hid HText0
  have HText1 := Lib.hid HText1
  have HCheck0 := Lib.hid HCheck0
  have HCheck1 := Lib.hid HCheck1
  have HSm0 := Lib.hid HSm0
  have HSm1 := Lib.hid HSm1
  have HSame : Hid (SameQIs 28) := fun _ _ _ _ _ _ _ h1 h2 => rSameQ_any h1 h2
  have G1 := Lib.hid (fun W (n : Int) => rGreat_any (v := va) (w := W) n)
  have G2 := Lib.hid (fun W (n : Int) => rGreat_any (v := vb) (w := W) n)
  have g1 : ∀ (n m : Nat), n ≤ 3 ∧ m ≤ 3 → (decide ((3 : Int) < (n : Int)) || decide ((3 : Int) < (m : Int))) = false := fun n m h => by simp; omega
  have GG := Lib.hid (And.intro (g1 _ _ l1) (g1 _ _ l2))
  clear hAdd hSub hMul hDiv hCmp hFloor hCeil hText hCheck hSame g1 l1 l2
  have K0 := heldl_nil w
  have J0 := held_nil w
  have D0 := Below.refl w.heap.size w
  have K1 := (K0.next (bxb _ va.o)).cons (IL.new (hva) rfl)
  have J1 := J0.next (bxb _ va.o)
  have D1 := below_then D0 (bxb _ va.o)
  have K2 := (K1.next (bxb _ vb.o)).cons (IL.new (hvb.below D1) rfl)
  have J2 := J1.next (bxb _ vb.o)
  have D2 := below_then D1 (bxb _ vb.o)
  try simp only [World.size_alloc] at K2
  try simp only [World.size_alloc] at J2
  have HH0 := Lib.hid K2
  have HZ0 := Lib.hid J2
  have HB0 := Lib.hid D2
  clear K0 J0 D0 K1 J1 D1 K2 J2 D2
  clear hva hvb
  try dsimp only [QV.v, zv, zV]
  go_enter Tryz.func4, Tryz.ntmps4
  have cx0 := (HH0.out _ (.tail _ (.head _))).b.c0
  have cx1 := (HH0.out _ (.tail _ (.head _))).b.c1
  have cx2 := (HH0.out _ (.tail _ (.head _))).b.c2
  have cy0 := (HH0.out _ (.head _)).b.c0
  have cy1 := (HH0.out _ (.head _)).b.c1
  have cy2 := (HH0.out _ (.head _)).b.c2
  go_wp2_with fail
  refine (G1.out _ 3).mono ?_
  rintro e v1_ ⟨rfl, hb⟩
  have HH1 := Lib.hid (HH0.out.next hb)
  have HZ1 := Lib.hid (HZ0.out.next hb)
  have HB1 := Lib.hid (below_then HB0.out hb)
  clear HH0 HZ0 HB0
  clear hb
  rw [GG.out.1]
  clear cx0 cx1 cx2 cy0 cy1 cy2
  have cx0 := (HH1.out _ (.tail _ (.head _))).b.c0
  have cx1 := (HH1.out _ (.tail _ (.head _))).b.c1
  have cx2 := (HH1.out _ (.tail _ (.head _))).b.c2
  have cy0 := (HH1.out _ (.head _)).b.c0
  have cy1 := (HH1.out _ (.head _)).b.c1
  have cy2 := (HH1.out _ (.head _)).b.c2
  go_wp2_with fail
  refine (G2.out _ 3).mono ?_
  rintro e v2_ ⟨rfl, hb⟩
  have HH2 := Lib.hid (HH1.out.next hb)
  have HZ2 := Lib.hid (HZ1.out.next hb)
  have HB2 := Lib.hid (below_then HB1.out hb)
  clear HH1 HZ1 HB1
  clear hb
  rw [GG.out.2]
  clear cx0 cx1 cx2 cy0 cy1 cy2
  have cx0 := (HH2.out _ (.tail _ (.head _))).b.c0
  have cx1 := (HH2.out _ (.tail _ (.head _))).b.c1
  have cx2 := (HH2.out _ (.tail _ (.head _))).b.c2
  have cy0 := (HH2.out _ (.head _)).b.c0
  have cy1 := (HH2.out _ (.head _)).b.c1
  have cy2 := (HH2.out _ (.head _)).b.c2
  go_wp2_with fail
  refine (HAdd0.out _ HB2.out).mono ?_
  rintro e v3_ ⟨q3, rfl, o3, s3, hb⟩
  have HH3 : Hid (HeldL (v3_.alloc (.cells #[.bool q3.p, .slice q3.A q3.n q3.c, .slice q3.D q3.m q3.d] qT)) [⟨v3_.heap.size, q3, pAdd, aAdd, dAdd⟩, ⟨w.heap.size + 1, vb, vb.p, a2, d2⟩, ⟨w.heap.size, va, va.p, a, d⟩]) := Lib.hid ((HH2.out.next (below_then hb (bxb _ q3.o))).cons (IL.new o3 s3))
  have HZ3 : Hid (Held (v3_.alloc (.cells #[.bool q3.p, .slice q3.A q3.n q3.c, .slice q3.D q3.m q3.d] qT)) []) := Lib.hid (HZ2.out.next (below_then hb (bxb _ q3.o)))
  have HB3 : Hid (Below w.heap.size w (v3_.alloc (.cells #[.bool q3.p, .slice q3.A q3.n q3.c, .slice q3.D q3.m q3.d] qT))) := Lib.hid (below_then HB2.out (below_then hb (bxb _ q3.o)))
  clear hb o3 s3 HH2 HZ2 HB2
  unfold QV.v
  clear cx0 cx1 cx2 cy0 cy1 cy2
  have cx0 := (HH3.out _ (.tail _ (.tail _ (.head _)))).b.c0
  have cx1 := (HH3.out _ (.tail _ (.tail _ (.head _)))).b.c1
  have cx2 := (HH3.out _ (.tail _ (.tail _ (.head _)))).b.c2
  have cy0 := (HH3.out _ (.tail _ (.head _))).b.c0
  have cy1 := (HH3.out _ (.tail _ (.head _))).b.c1
  have cy2 := (HH3.out _ (.tail _ (.head _))).b.c2
  go_wp2_with fail
  refine (HAdd1.out _ HB3.out).mono ?_
  rintro e v4_ ⟨q4, rfl, o4, s4, hb⟩
  have HH4 : Hid (HeldL (v4_.alloc (.cells #[.bool q4.p, .slice q4.A q4.n q4.c, .slice q4.D q4.m q4.d] qT)) [⟨v4_.heap.size, q4, pAdd, aAdd, dAdd⟩, ⟨v3_.heap.size, q3, pAdd, aAdd, dAdd⟩, ⟨w.heap.size + 1, vb, vb.p, a2, d2⟩, ⟨w.heap.size, va, va.p, a, d⟩]) := Lib.hid ((HH3.out.next (below_then hb (bxb _ q4.o))).cons (IL.new o4 s4))
  have HZ4 : Hid (Held (v4_.alloc (.cells #[.bool q4.p, .slice q4.A q4.n q4.c, .slice q4.D q4.m q4.d] qT)) []) := Lib.hid (HZ3.out.next (below_then hb (bxb _ q4.o)))
  have HB4 : Hid (Below w.heap.size w (v4_.alloc (.cells #[.bool q4.p, .slice q4.A q4.n q4.c, .slice q4.D q4.m q4.d] qT))) := Lib.hid (below_then HB3.out (below_then hb (bxb _ q4.o)))
  clear hb o4 s4 HH3 HZ3 HB3
  unfold QV.v
  clear cx0 cx1 cx2 cy0 cy1 cy2
  have cx0 := (HH4.out _ (.tail _ (.tail _ (.tail _ (.head _))))).b.c0
  have cx1 := (HH4.out _ (.tail _ (.tail _ (.tail _ (.head _))))).b.c1
  have cx2 := (HH4.out _ (.tail _ (.tail _ (.tail _ (.head _))))).b.c2
  have cy0 := (HH4.out _ (.tail _ (.tail _ (.head _)))).b.c0
  have cy1 := (HH4.out _ (.tail _ (.tail _ (.head _)))).b.c1
  have cy2 := (HH4.out _ (.tail _ (.tail _ (.head _)))).b.c2
  go_wp2_with fail
  refine (HSub0.out _ HB4.out).mono ?_
  rintro e v5_ ⟨q5, rfl, o5, s5, hb⟩
  have HH5 : Hid (HeldL (v5_.alloc (.cells #[.bool q5.p, .slice q5.A q5.n q5.c, .slice q5.D q5.m q5.d] qT)) [⟨v5_.heap.size, q5, pSub, aSub, dSub⟩, ⟨v4_.heap.size, q4, pAdd, aAdd, dAdd⟩, ⟨v3_.heap.size, q3, pAdd, aAdd, dAdd⟩, ⟨w.heap.size + 1, vb, vb.p, a2, d2⟩, ⟨w.heap.size, va, va.p, a, d⟩]) := Lib.hid ((HH4.out.next (below_then hb (bxb _ q5.o))).cons (IL.new o5 s5))
  have HZ5 : Hid (Held (v5_.alloc (.cells #[.bool q5.p, .slice q5.A q5.n q5.c, .slice q5.D q5.m q5.d] qT)) []) := Lib.hid (HZ4.out.next (below_then hb (bxb _ q5.o)))
  have HB5 : Hid (Below w.heap.size w (v5_.alloc (.cells #[.bool q5.p, .slice q5.A q5.n q5.c, .slice q5.D q5.m q5.d] qT))) := Lib.hid (below_then HB4.out (below_then hb (bxb _ q5.o)))
  clear hb o5 s5 HH4 HZ4 HB4
  unfold QV.v
  clear cx0 cx1 cx2 cy0 cy1 cy2
  have cx0 := (HH5.out _ (.tail _ (.tail _ (.tail _ (.tail _ (.head _)))))).b.c0
  have cx1 := (HH5.out _ (.tail _ (.tail _ (.tail _ (.tail _ (.head _)))))).b.c1
  have cx2 := (HH5.out _ (.tail _ (.tail _ (.tail _ (.tail _ (.head _)))))).b.c2
  have cy0 := (HH5.out _ (.tail _ (.tail _ (.tail _ (.head _))))).b.c0
  have cy1 := (HH5.out _ (.tail _ (.tail _ (.tail _ (.head _))))).b.c1
  have cy2 := (HH5.out _ (.tail _ (.tail _ (.tail _ (.head _))))).b.c2
  go_wp2_with fail
  refine (HSub1.out _ HB5.out).mono ?_
  rintro e v6_ ⟨q6, rfl, o6, s6, hb⟩
  have HH6 : Hid (HeldL (v6_.alloc (.cells #[.bool q6.p, .slice q6.A q6.n q6.c, .slice q6.D q6.m q6.d] qT)) [⟨v6_.heap.size, q6, pSub, aSub, dSub⟩, ⟨v5_.heap.size, q5, pSub, aSub, dSub⟩, ⟨v4_.heap.size, q4, pAdd, aAdd, dAdd⟩, ⟨v3_.heap.size, q3, pAdd, aAdd, dAdd⟩, ⟨w.heap.size + 1, vb, vb.p, a2, d2⟩, ⟨w.heap.size, va, va.p, a, d⟩]) := Lib.hid ((HH5.out.next (below_then hb (bxb _ q6.o))).cons (IL.new o6 s6))
  have HZ6 : Hid (Held (v6_.alloc (.cells #[.bool q6.p, .slice q6.A q6.n q6.c, .slice q6.D q6.m q6.d] qT)) []) := Lib.hid (HZ5.out.next (below_then hb (bxb _ q6.o)))
  have HB6 : Hid (Below w.heap.size w (v6_.alloc (.cells #[.bool q6.p, .slice q6.A q6.n q6.c, .slice q6.D q6.m q6.d] qT))) := Lib.hid (below_then HB5.out (below_then hb (bxb _ q6.o)))
  clear hb o6 s6 HH5 HZ5 HB5
  unfold QV.v
  clear cx0 cx1 cx2 cy0 cy1 cy2
  have cx0 := (HH6.out _ (.tail _ (.tail _ (.tail _ (.tail _ (.tail _ (.head _))))))).b.c0
  have cx1 := (HH6.out _ (.tail _ (.tail _ (.tail _ (.tail _ (.tail _ (.head _))))))).b.c1
  have cx2 := (HH6.out _ (.tail _ (.tail _ (.tail _ (.tail _ (.tail _ (.head _))))))).b.c2
  have cy0 := (HH6.out _ (.tail _ (.tail _ (.tail _ (.tail _ (.head _)))))).b.c0
  have cy1 := (HH6.out _ (.tail _ (.tail _ (.tail _ (.tail _ (.head _)))))).b.c1
  have cy2 := (HH6.out _ (.tail _ (.tail _ (.tail _ (.tail _ (.head _)))))).b.c2
  go_wp2_with fail
  refine (HMul0.out _ HB6.out).mono ?_
  rintro e v7_ ⟨q7, rfl, o7, s7, hb⟩
  have HH7 : Hid (HeldL (v7_.alloc (.cells #[.bool q7.p, .slice q7.A q7.n q7.c, .slice q7.D q7.m q7.d] qT)) [⟨v7_.heap.size, q7, pMul, aMul, dMul⟩, ⟨v6_.heap.size, q6, pSub, aSub, dSub⟩, ⟨v5_.heap.size, q5, pSub, aSub, dSub⟩, ⟨v4_.heap.size, q4, pAdd, aAdd, dAdd⟩, ⟨v3_.heap.size, q3, pAdd, aAdd, dAdd⟩, ⟨w.heap.size + 1, vb, vb.p, a2, d2⟩, ⟨w.heap.size, va, va.p, a, d⟩]) := Lib.hid ((HH6.out.next (below_then hb (bxb _ q7.o))).cons (IL.new o7 s7))
  have HZ7 : Hid (Held (v7_.alloc (.cells #[.bool q7.p, .slice q7.A q7.n q7.c, .slice q7.D q7.m q7.d] qT)) []) := Lib.hid (HZ6.out.next (below_then hb (bxb _ q7.o)))
  have HB7 : Hid (Below w.heap.size w (v7_.alloc (.cells #[.bool q7.p, .slice q7.A q7.n q7.c, .slice q7.D q7.m q7.d] qT))) := Lib.hid (below_then HB6.out (below_then hb (bxb _ q7.o)))
  clear hb o7 s7 HH6 HZ6 HB6
  unfold QV.v
  clear cx0 cx1 cx2 cy0 cy1 cy2
  have cx0 := (HH7.out _ (.tail _ (.tail _ (.tail _ (.tail _ (.tail _ (.tail _ (.head _)))))))).b.c0
  have cx1 := (HH7.out _ (.tail _ (.tail _ (.tail _ (.tail _ (.tail _ (.tail _ (.head _)))))))).b.c1
  have cx2 := (HH7.out _ (.tail _ (.tail _ (.tail _ (.tail _ (.tail _ (.tail _ (.head _)))))))).b.c2
  have cy0 := (HH7.out _ (.tail _ (.tail _ (.tail _ (.tail _ (.tail _ (.head _))))))).b.c0
  have cy1 := (HH7.out _ (.tail _ (.tail _ (.tail _ (.tail _ (.tail _ (.head _))))))).b.c1
  have cy2 := (HH7.out _ (.tail _ (.tail _ (.tail _ (.tail _ (.tail _ (.head _))))))).b.c2
  go_wp2_with fail
  refine (HMul1.out _ HB7.out).mono ?_
  rintro e v8_ ⟨q8, rfl, o8, s8, hb⟩
  have HH8 : Hid (HeldL (v8_.alloc (.cells #[.bool q8.p, .slice q8.A q8.n q8.c, .slice q8.D q8.m q8.d] qT)) [⟨v8_.heap.size, q8, pMul, aMul, dMul⟩, ⟨v7_.heap.size, q7, pMul, aMul, dMul⟩, ⟨v6_.heap.size, q6, pSub, aSub, dSub⟩, ⟨v5_.heap.size, q5, pSub, aSub, dSub⟩, ⟨v4_.heap.size, q4, pAdd, aAdd, dAdd⟩, ⟨v3_.heap.size, q3, pAdd, aAdd, dAdd⟩, ⟨w.heap.size + 1, vb, vb.p, a2, d2⟩, ⟨w.heap.size, va, va.p, a, d⟩]) := Lib.hid ((HH7.out.next (below_then hb (bxb _ q8.o))).cons (IL.new o8 s8))
  have HZ8 : Hid (Held (v8_.alloc (.cells #[.bool q8.p, .slice q8.A q8.n q8.c, .slice q8.D q8.m q8.d] qT)) []) := Lib.hid (HZ7.out.next (below_then hb (bxb _ q8.o)))
  have HB8 : Hid (Below w.heap.size w (v8_.alloc (.cells #[.bool q8.p, .slice q8.A q8.n q8.c, .slice q8.D q8.m q8.d] qT))) := Lib.hid (below_then HB7.out (below_then hb (bxb _ q8.o)))
  clear hb o8 s8 HH7 HZ7 HB7
  unfold QV.v
  clear cx0 cx1 cx2 cy0 cy1 cy2
  have cx0 := (HH8.out _ (.tail _ (.tail _ (.tail _ (.tail _ (.tail _ (.tail _ (.tail _ (.head _))))))))).b.c0
  have cx1 := (HH8.out _ (.tail _ (.tail _ (.tail _ (.tail _ (.tail _ (.tail _ (.tail _ (.head _))))))))).b.c1
  have cx2 := (HH8.out _ (.tail _ (.tail _ (.tail _ (.tail _ (.tail _ (.tail _ (.tail _ (.head _))))))))).b.c2
  have cy0 := (HH8.out _ (.tail _ (.tail _ (.tail _ (.tail _ (.tail _ (.tail _ (.head _)))))))).b.c0
  have cy1 := (HH8.out _ (.tail _ (.tail _ (.tail _ (.tail _ (.tail _ (.tail _ (.head _)))))))).b.c1
  have cy2 := (HH8.out _ (.tail _ (.tail _ (.tail _ (.tail _ (.tail _ (.tail _ (.head _)))))))).b.c2
  go_wp2_with fail
  refine (HDiv0.out _ HB8.out).mono ?_
  rintro e v9_ ⟨q9, rfl, o9, s9, hb⟩
  have HH9 : Hid (HeldL (v9_.alloc (.cells #[.bool q9.p, .slice q9.A q9.n q9.c, .slice q9.D q9.m q9.d] qT)) [⟨v9_.heap.size, q9, pDiv, aDiv, dDiv⟩, ⟨v8_.heap.size, q8, pMul, aMul, dMul⟩, ⟨v7_.heap.size, q7, pMul, aMul, dMul⟩, ⟨v6_.heap.size, q6, pSub, aSub, dSub⟩, ⟨v5_.heap.size, q5, pSub, aSub, dSub⟩, ⟨v4_.heap.size, q4, pAdd, aAdd, dAdd⟩, ⟨v3_.heap.size, q3, pAdd, aAdd, dAdd⟩, ⟨w.heap.size + 1, vb, vb.p, a2, d2⟩, ⟨w.heap.size, va, va.p, a, d⟩]) := Lib.hid ((HH8.out.next (below_then hb (bxb _ q9.o))).cons (IL.new o9 s9))
  have HZ9 : Hid (Held (v9_.alloc (.cells #[.bool q9.p, .slice q9.A q9.n q9.c, .slice q9.D q9.m q9.d] qT)) []) := Lib.hid (HZ8.out.next (below_then hb (bxb _ q9.o)))
  have HB9 : Hid (Below w.heap.size w (v9_.alloc (.cells #[.bool q9.p, .slice q9.A q9.n q9.c, .slice q9.D q9.m q9.d] qT))) := Lib.hid (below_then HB8.out (below_then hb (bxb _ q9.o)))
  clear hb o9 s9 HH8 HZ8 HB8
  unfold QV.v
  clear cx0 cx1 cx2 cy0 cy1 cy2
  have cx0 := (HH9.out _ (.tail _ (.tail _ (.tail _ (.tail _ (.tail _ (.tail _ (.tail _ (.tail _ (.head _)))))))))).b.c0
  have cx1 := (HH9.out _ (.tail _ (.tail _ (.tail _ (.tail _ (.tail _ (.tail _ (.tail _ (.tail _ (.head _)))))))))).b.c1
  have cx2 := (HH9.out _ (.tail _ (.tail _ (.tail _ (.tail _ (.tail _ (.tail _ (.tail _ (.tail _ (.head _)))))))))).b.c2
  have cy0 := (HH9.out _ (.tail _ (.tail _ (.tail _ (.tail _ (.tail _ (.tail _ (.tail _ (.head _))))))))).b.c0
  have cy1 := (HH9.out _ (.tail _ (.tail _ (.tail _ (.tail _ (.tail _ (.tail _ (.tail _ (.head _))))))))).b.c1
  have cy2 := (HH9.out _ (.tail _ (.tail _ (.tail _ (.tail _ (.tail _ (.tail _ (.tail _ (.head _))))))))).b.c2
  go_wp2_with fail
  refine (HDiv1.out _ HB9.out).mono ?_
  rintro e v10_ ⟨q10, rfl, o10, s10, hb⟩
  have HH10 : Hid (HeldL (v10_.alloc (.cells #[.bool q10.p, .slice q10.A q10.n q10.c, .slice q10.D q10.m q10.d] qT)) [⟨v10_.heap.size, q10, pDiv, aDiv, dDiv⟩, ⟨v9_.heap.size, q9, pDiv, aDiv, dDiv⟩, ⟨v8_.heap.size, q8, pMul, aMul, dMul⟩, ⟨v7_.heap.size, q7, pMul, aMul, dMul⟩, ⟨v6_.heap.size, q6, pSub, aSub, dSub⟩, ⟨v5_.heap.size, q5, pSub, aSub, dSub⟩, ⟨v4_.heap.size, q4, pAdd, aAdd, dAdd⟩, ⟨v3_.heap.size, q3, pAdd, aAdd, dAdd⟩, ⟨w.heap.size + 1, vb, vb.p, a2, d2⟩, ⟨w.heap.size, va, va.p, a, d⟩]) := Lib.hid ((HH9.out.next (below_then hb (bxb _ q10.o))).cons (IL.new o10 s10))
  have HZ10 : Hid (Held (v10_.alloc (.cells #[.bool q10.p, .slice q10.A q10.n q10.c, .slice q10.D q10.m q10.d] qT)) []) := Lib.hid (HZ9.out.next (below_then hb (bxb _ q10.o)))
  have HB10 : Hid (Below w.heap.size w (v10_.alloc (.cells #[.bool q10.p, .slice q10.A q10.n q10.c, .slice q10.D q10.m q10.d] qT))) := Lib.hid (below_then HB9.out (below_then hb (bxb _ q10.o)))
  clear hb o10 s10 HH9 HZ9 HB9
  unfold QV.v
  clear cx0 cx1 cx2 cy0 cy1 cy2
  have cx0 := (HH10.out _ (.tail _ (.tail _ (.tail _ (.tail _ (.tail _ (.tail _ (.tail _ (.tail _ (.tail _ (.head _))))))))))).b.c0
  have cx1 := (HH10.out _ (.tail _ (.tail _ (.tail _ (.tail _ (.tail _ (.tail _ (.tail _ (.tail _ (.tail _ (.head _))))))))))).b.c1
  have cx2 := (HH10.out _ (.tail _ (.tail _ (.tail _ (.tail _ (.tail _ (.tail _ (.tail _ (.tail _ (.tail _ (.head _))))))))))).b.c2
  have cy0 := (HH10.out _ (.tail _ (.tail _ (.tail _ (.tail _ (.tail _ (.tail _ (.tail _ (.tail _ (.head _)))))))))).b.c0
  have cy1 := (HH10.out _ (.tail _ (.tail _ (.tail _ (.tail _ (.tail _ (.tail _ (.tail _ (.tail _ (.head _)))))))))).b.c1
  have cy2 := (HH10.out _ (.tail _ (.tail _ (.tail _ (.tail _ (.tail _ (.tail _ (.tail _ (.tail _ (.head _)))))))))).b.c2
  go_wp2_with fail
  refine (HCmp0.out _ HB10.out).mono ?_
  rintro e v11_ ⟨rfl, hb⟩
  have HH11 := Lib.hid (HH10.out.next hb)
  have HZ11 := Lib.hid (HZ10.out.next hb)
  have HB11 := Lib.hid (below_then HB10.out hb)
  clear HH10 HZ10 HB10
  clear hb
  clear cx0 cx1 cx2 cy0 cy1 cy2
  have cx0 := (HH11.out _ (.tail _ (.tail _ (.tail _ (.tail _ (.tail _ (.tail _ (.tail _ (.tail _ (.tail _ (.head _))))))))))).b.c0
  have cx1 := (HH11.out _ (.tail _ (.tail _ (.tail _ (.tail _ (.tail _ (.tail _ (.tail _ (.tail _ (.tail _ (.head _))))))))))).b.c1
  have cx2 := (HH11.out _ (.tail _ (.tail _ (.tail _ (.tail _ (.tail _ (.tail _ (.tail _ (.tail _ (.tail _ (.head _))))))))))).b.c2
  have cy0 := (HH11.out _ (.tail _ (.tail _ (.tail _ (.tail _ (.tail _ (.tail _ (.tail _ (.tail _ (.head _)))))))))).b.c0
  have cy1 := (HH11.out _ (.tail _ (.tail _ (.tail _ (.tail _ (.tail _ (.tail _ (.tail _ (.tail _ (.head _)))))))))).b.c1
  have cy2 := (HH11.out _ (.tail _ (.tail _ (.tail _ (.tail _ (.tail _ (.tail _ (.tail _ (.tail _ (.head _)))))))))).b.c2
  go_wp2_with fail
  refine (HCmp1.out _ HB11.out).mono ?_
  rintro e v12_ ⟨rfl, hb⟩
  have HH12 := Lib.hid (HH11.out.next hb)
  have HZ12 := Lib.hid (HZ11.out.next hb)
  have HB12 := Lib.hid (below_then HB11.out hb)
  clear HH11 HZ11 HB11
  clear hb
  clear cx0 cx1 cx2 cy0 cy1 cy2
  have cAdd00 := (HH12.out _ (.tail _ (.tail _ (.tail _ (.tail _ (.tail _ (.tail _ (.tail _ (.head _))))))))).b.c0
  have cAdd01 := (HH12.out _ (.tail _ (.tail _ (.tail _ (.tail _ (.tail _ (.tail _ (.tail _ (.head _))))))))).b.c1
  have cAdd02 := (HH12.out _ (.tail _ (.tail _ (.tail _ (.tail _ (.tail _ (.tail _ (.tail _ (.head _))))))))).b.c2
  have cAdd10 := (HH12.out _ (.tail _ (.tail _ (.tail _ (.tail _ (.tail _ (.tail _ (.head _)))))))).b.c0
  have cAdd11 := (HH12.out _ (.tail _ (.tail _ (.tail _ (.tail _ (.tail _ (.tail _ (.head _)))))))).b.c1
  have cAdd12 := (HH12.out _ (.tail _ (.tail _ (.tail _ (.tail _ (.tail _ (.tail _ (.head _)))))))).b.c2
  go_wp2_with fail
  refine (sameL HSame.out (HH12.out _ (.tail _ (.tail _ (.tail _ (.tail _ (.tail _ (.tail _ (.tail _ (.head _))))))))).q (HH12.out _ (.tail _ (.tail _ (.tail _ (.tail _ (.tail _ (.tail _ (.head _)))))))).q (HH12.out _ (.tail _ (.tail _ (.tail _ (.tail _ (.tail _ (.tail _ (.tail _ (.head _))))))))).s (HH12.out _ (.tail _ (.tail _ (.tail _ (.tail _ (.tail _ (.tail _ (.head _)))))))).s).mono ?_
  rintro e v13_ ⟨rfl, hb⟩
  have HH13 := Lib.hid (HH12.out.next hb)
  have HZ13 := Lib.hid (HZ12.out.next hb)
  have HB13 := Lib.hid (below_then HB12.out hb)
  clear HH12 HZ12 HB12
  clear hb
  clear cAdd00 cAdd01 cAdd02 cAdd10 cAdd11 cAdd12
  have cSub00 := (HH13.out _ (.tail _ (.tail _ (.tail _ (.tail _ (.tail _ (.head _))))))).b.c0
  have cSub01 := (HH13.out _ (.tail _ (.tail _ (.tail _ (.tail _ (.tail _ (.head _))))))).b.c1
  have cSub02 := (HH13.out _ (.tail _ (.tail _ (.tail _ (.tail _ (.tail _ (.head _))))))).b.c2
  have cSub10 := (HH13.out _ (.tail _ (.tail _ (.tail _ (.tail _ (.head _)))))).b.c0
  have cSub11 := (HH13.out _ (.tail _ (.tail _ (.tail _ (.tail _ (.head _)))))).b.c1
  have cSub12 := (HH13.out _ (.tail _ (.tail _ (.tail _ (.tail _ (.head _)))))).b.c2
  go_wp2_with fail
  refine (sameL HSame.out (HH13.out _ (.tail _ (.tail _ (.tail _ (.tail _ (.tail _ (.head _))))))).q (HH13.out _ (.tail _ (.tail _ (.tail _ (.tail _ (.head _)))))).q (HH13.out _ (.tail _ (.tail _ (.tail _ (.tail _ (.tail _ (.head _))))))).s (HH13.out _ (.tail _ (.tail _ (.tail _ (.tail _ (.head _)))))).s).mono ?_
  rintro e v14_ ⟨rfl, hb⟩
  have HH14 := Lib.hid (HH13.out.next hb)
  have HZ14 := Lib.hid (HZ13.out.next hb)
  have HB14 := Lib.hid (below_then HB13.out hb)
  clear HH13 HZ13 HB13
  clear hb
  clear cSub00 cSub01 cSub02 cSub10 cSub11 cSub12
  have cMul00 := (HH14.out _ (.tail _ (.tail _ (.tail _ (.head _))))).b.c0
  have cMul01 := (HH14.out _ (.tail _ (.tail _ (.tail _ (.head _))))).b.c1
  have cMul02 := (HH14.out _ (.tail _ (.tail _ (.tail _ (.head _))))).b.c2
  have cMul10 := (HH14.out _ (.tail _ (.tail _ (.head _)))).b.c0
  have cMul11 := (HH14.out _ (.tail _ (.tail _ (.head _)))).b.c1
  have cMul12 := (HH14.out _ (.tail _ (.tail _ (.head _)))).b.c2
  go_wp2_with fail
  refine (sameL HSame.out (HH14.out _ (.tail _ (.tail _ (.tail _ (.head _))))).q (HH14.out _ (.tail _ (.tail _ (.head _)))).q (HH14.out _ (.tail _ (.tail _ (.tail _ (.head _))))).s (HH14.out _ (.tail _ (.tail _ (.head _)))).s).mono ?_
  rintro e v15_ ⟨rfl, hb⟩
  have HH15 := Lib.hid (HH14.out.next hb)
  have HZ15 := Lib.hid (HZ14.out.next hb)
  have HB15 := Lib.hid (below_then HB14.out hb)
  clear HH14 HZ14 HB14
  clear hb
  clear cMul00 cMul01 cMul02 cMul10 cMul11 cMul12
  have cDiv00 := (HH15.out _ (.tail _ (.head _))).b.c0
  have cDiv01 := (HH15.out _ (.tail _ (.head _))).b.c1
  have cDiv02 := (HH15.out _ (.tail _ (.head _))).b.c2
  have cDiv10 := (HH15.out _ (.head _)).b.c0
  have cDiv11 := (HH15.out _ (.head _)).b.c1
  have cDiv12 := (HH15.out _ (.head _)).b.c2
  go_wp2_with fail
  refine (sameL HSame.out (HH15.out _ (.tail _ (.head _))).q (HH15.out _ (.head _)).q (HH15.out _ (.tail _ (.head _))).s (HH15.out _ (.head _)).s).mono ?_
  rintro e v16_ ⟨rfl, hb⟩
  have HH16 := Lib.hid (HH15.out.next hb)
  have HZ16 := Lib.hid (HZ15.out.next hb)
  have HB16 := Lib.hid (below_then HB15.out hb)
  clear HH15 HZ15 HB15
  clear hb
  clear cDiv00 cDiv01 cDiv02 cDiv10 cDiv11 cDiv12
  have cx0 := (HH16.out _ (.tail _ (.tail _ (.tail _ (.tail _ (.tail _ (.tail _ (.tail _ (.tail _ (.tail _ (.head _))))))))))).b.c0
  have cx1 := (HH16.out _ (.tail _ (.tail _ (.tail _ (.tail _ (.tail _ (.tail _ (.tail _ (.tail _ (.tail _ (.head _))))))))))).b.c1
  have cx2 := (HH16.out _ (.tail _ (.tail _ (.tail _ (.tail _ (.tail _ (.tail _ (.tail _ (.tail _ (.tail _ (.head _))))))))))).b.c2
  go_wp2_with fail
  refine (HFloor0.out _ HB16.out).mono ?_
  rintro e v17_ ⟨N17, n17, d17, rfl, o17, hb⟩
  have HL := Lib.hid (LzFloor.out.len o17)
  have HZ17 : Hid (Held (v17_.alloc (.cells #[.bool (decide (zFloor < 0)), .slice N17 n17 d17] zT)) [⟨v17_.heap.size, zFloor, N17, n17, d17⟩]) := Lib.hid ((HZ16.out.next (below_then hb (bxb _ (zo (decide (zFloor < 0)) N17 n17 d17)))).cons (It.fresh o17 (by have := HL.out; omega)))
  have HH17 : Hid (HeldL (v17_.alloc (.cells #[.bool (decide (zFloor < 0)), .slice N17 n17 d17] zT)) [⟨v10_.heap.size, q10, pDiv, aDiv, dDiv⟩, ⟨v9_.heap.size, q9, pDiv, aDiv, dDiv⟩, ⟨v8_.heap.size, q8, pMul, aMul, dMul⟩, ⟨v7_.heap.size, q7, pMul, aMul, dMul⟩, ⟨v6_.heap.size, q6, pSub, aSub, dSub⟩, ⟨v5_.heap.size, q5, pSub, aSub, dSub⟩, ⟨v4_.heap.size, q4, pAdd, aAdd, dAdd⟩, ⟨v3_.heap.size, q3, pAdd, aAdd, dAdd⟩, ⟨w.heap.size + 1, vb, vb.p, a2, d2⟩, ⟨w.heap.size, va, va.p, a, d⟩]) := Lib.hid (HH16.out.next (below_then hb (bxb _ (zo (decide (zFloor < 0)) N17 n17 d17))))
  have HB17 : Hid (Below w.heap.size w (v17_.alloc (.cells #[.bool (decide (zFloor < 0)), .slice N17 n17 d17] zT))) := Lib.hid (below_then HB16.out (below_then hb (bxb _ (zo (decide (zFloor < 0)) N17 n17 d17))))
  clear hb o17 HL HH16 HZ16 HB16
  unfold zV zv
  clear cx0 cx1 cx2
  have cx0 := (HH17.out _ (.tail _ (.tail _ (.tail _ (.tail _ (.tail _ (.tail _ (.tail _ (.tail _ (.tail _ (.head _))))))))))).b.c0
  have cx1 := (HH17.out _ (.tail _ (.tail _ (.tail _ (.tail _ (.tail _ (.tail _ (.tail _ (.tail _ (.tail _ (.head _))))))))))).b.c1
  have cx2 := (HH17.out _ (.tail _ (.tail _ (.tail _ (.tail _ (.tail _ (.tail _ (.tail _ (.tail _ (.tail _ (.head _))))))))))).b.c2
  go_wp2_with fail
  refine (HFloor1.out _ HB17.out).mono ?_
  rintro e v18_ ⟨N18, n18, d18, rfl, o18, hb⟩
  have HL := Lib.hid (LzFloor.out.len o18)
  have HZ18 : Hid (Held (v18_.alloc (.cells #[.bool (decide (zFloor < 0)), .slice N18 n18 d18] zT)) [⟨v18_.heap.size, zFloor, N18, n18, d18⟩, ⟨v17_.heap.size, zFloor, N17, n17, d17⟩]) := Lib.hid ((HZ17.out.next (below_then hb (bxb _ (zo (decide (zFloor < 0)) N18 n18 d18)))).cons (It.fresh o18 (by have := HL.out; omega)))
  have HH18 : Hid (HeldL (v18_.alloc (.cells #[.bool (decide (zFloor < 0)), .slice N18 n18 d18] zT)) [⟨v10_.heap.size, q10, pDiv, aDiv, dDiv⟩, ⟨v9_.heap.size, q9, pDiv, aDiv, dDiv⟩, ⟨v8_.heap.size, q8, pMul, aMul, dMul⟩, ⟨v7_.heap.size, q7, pMul, aMul, dMul⟩, ⟨v6_.heap.size, q6, pSub, aSub, dSub⟩, ⟨v5_.heap.size, q5, pSub, aSub, dSub⟩, ⟨v4_.heap.size, q4, pAdd, aAdd, dAdd⟩, ⟨v3_.heap.size, q3, pAdd, aAdd, dAdd⟩, ⟨w.heap.size + 1, vb, vb.p, a2, d2⟩, ⟨w.heap.size, va, va.p, a, d⟩]) := Lib.hid (HH17.out.next (below_then hb (bxb _ (zo (decide (zFloor < 0)) N18 n18 d18))))
  have HB18 : Hid (Below w.heap.size w (v18_.alloc (.cells #[.bool (decide (zFloor < 0)), .slice N18 n18 d18] zT))) := Lib.hid (below_then HB17.out (below_then hb (bxb _ (zo (decide (zFloor < 0)) N18 n18 d18))))
  clear hb o18 HL HH17 HZ17 HB17
  unfold zV zv
  clear cx0 cx1 cx2
  have cx0 := (HH18.out _ (.tail _ (.tail _ (.tail _ (.tail _ (.tail _ (.tail _ (.tail _ (.tail _ (.tail _ (.head _))))))))))).b.c0
  have cx1 := (HH18.out _ (.tail _ (.tail _ (.tail _ (.tail _ (.tail _ (.tail _ (.tail _ (.tail _ (.tail _ (.head _))))))))))).b.c1
  have cx2 := (HH18.out _ (.tail _ (.tail _ (.tail _ (.tail _ (.tail _ (.tail _ (.tail _ (.tail _ (.tail _ (.head _))))))))))).b.c2
  go_wp2_with fail
  refine (HCeil0.out _ HB18.out).mono ?_
  rintro e v19_ ⟨N19, n19, d19, rfl, o19, hb⟩
  have HL := Lib.hid (LzCeil.out.len o19)
  have HZ19 : Hid (Held (v19_.alloc (.cells #[.bool (decide (zCeil < 0)), .slice N19 n19 d19] zT)) [⟨v19_.heap.size, zCeil, N19, n19, d19⟩, ⟨v18_.heap.size, zFloor, N18, n18, d18⟩, ⟨v17_.heap.size, zFloor, N17, n17, d17⟩]) := Lib.hid ((HZ18.out.next (below_then hb (bxb _ (zo (decide (zCeil < 0)) N19 n19 d19)))).cons (It.fresh o19 (by have := HL.out; omega)))
  have HH19 : Hid (HeldL (v19_.alloc (.cells #[.bool (decide (zCeil < 0)), .slice N19 n19 d19] zT)) [⟨v10_.heap.size, q10, pDiv, aDiv, dDiv⟩, ⟨v9_.heap.size, q9, pDiv, aDiv, dDiv⟩, ⟨v8_.heap.size, q8, pMul, aMul, dMul⟩, ⟨v7_.heap.size, q7, pMul, aMul, dMul⟩, ⟨v6_.heap.size, q6, pSub, aSub, dSub⟩, ⟨v5_.heap.size, q5, pSub, aSub, dSub⟩, ⟨v4_.heap.size, q4, pAdd, aAdd, dAdd⟩, ⟨v3_.heap.size, q3, pAdd, aAdd, dAdd⟩, ⟨w.heap.size + 1, vb, vb.p, a2, d2⟩, ⟨w.heap.size, va, va.p, a, d⟩]) := Lib.hid (HH18.out.next (below_then hb (bxb _ (zo (decide (zCeil < 0)) N19 n19 d19))))
  have HB19 : Hid (Below w.heap.size w (v19_.alloc (.cells #[.bool (decide (zCeil < 0)), .slice N19 n19 d19] zT))) := Lib.hid (below_then HB18.out (below_then hb (bxb _ (zo (decide (zCeil < 0)) N19 n19 d19))))
  clear hb o19 HL HH18 HZ18 HB18
  unfold zV zv
  clear cx0 cx1 cx2
  have cx0 := (HH19.out _ (.tail _ (.tail _ (.tail _ (.tail _ (.tail _ (.tail _ (.tail _ (.tail _ (.tail _ (.head _))))))))))).b.c0
  have cx1 := (HH19.out _ (.tail _ (.tail _ (.tail _ (.tail _ (.tail _ (.tail _ (.tail _ (.tail _ (.tail _ (.head _))))))))))).b.c1
  have cx2 := (HH19.out _ (.tail _ (.tail _ (.tail _ (.tail _ (.tail _ (.tail _ (.tail _ (.tail _ (.tail _ (.head _))))))))))).b.c2
  go_wp2_with fail
  refine (HCeil1.out _ HB19.out).mono ?_
  rintro e v20_ ⟨N20, n20, d20, rfl, o20, hb⟩
  have HL := Lib.hid (LzCeil.out.len o20)
  have HZ20 : Hid (Held (v20_.alloc (.cells #[.bool (decide (zCeil < 0)), .slice N20 n20 d20] zT)) [⟨v20_.heap.size, zCeil, N20, n20, d20⟩, ⟨v19_.heap.size, zCeil, N19, n19, d19⟩, ⟨v18_.heap.size, zFloor, N18, n18, d18⟩, ⟨v17_.heap.size, zFloor, N17, n17, d17⟩]) := Lib.hid ((HZ19.out.next (below_then hb (bxb _ (zo (decide (zCeil < 0)) N20 n20 d20)))).cons (It.fresh o20 (by have := HL.out; omega)))
  have HH20 : Hid (HeldL (v20_.alloc (.cells #[.bool (decide (zCeil < 0)), .slice N20 n20 d20] zT)) [⟨v10_.heap.size, q10, pDiv, aDiv, dDiv⟩, ⟨v9_.heap.size, q9, pDiv, aDiv, dDiv⟩, ⟨v8_.heap.size, q8, pMul, aMul, dMul⟩, ⟨v7_.heap.size, q7, pMul, aMul, dMul⟩, ⟨v6_.heap.size, q6, pSub, aSub, dSub⟩, ⟨v5_.heap.size, q5, pSub, aSub, dSub⟩, ⟨v4_.heap.size, q4, pAdd, aAdd, dAdd⟩, ⟨v3_.heap.size, q3, pAdd, aAdd, dAdd⟩, ⟨w.heap.size + 1, vb, vb.p, a2, d2⟩, ⟨w.heap.size, va, va.p, a, d⟩]) := Lib.hid (HH19.out.next (below_then hb (bxb _ (zo (decide (zCeil < 0)) N20 n20 d20))))
  have HB20 : Hid (Below w.heap.size w (v20_.alloc (.cells #[.bool (decide (zCeil < 0)), .slice N20 n20 d20] zT))) := Lib.hid (below_then HB19.out (below_then hb (bxb _ (zo (decide (zCeil < 0)) N20 n20 d20))))
  clear hb o20 HL HH19 HZ19 HB19
  unfold zV zv
  clear cx0 cx1 cx2
  have cx0 := (HH20.out _ (.tail _ (.tail _ (.tail _ (.tail _ (.tail _ (.tail _ (.tail _ (.tail _ (.tail _ (.head _))))))))))).b.c0
  have cx1 := (HH20.out _ (.tail _ (.tail _ (.tail _ (.tail _ (.tail _ (.tail _ (.tail _ (.tail _ (.tail _ (.head _))))))))))).b.c1
  have cx2 := (HH20.out _ (.tail _ (.tail _ (.tail _ (.tail _ (.tail _ (.tail _ (.tail _ (.tail _ (.tail _ (.head _))))))))))).b.c2
  go_wp2_with fail
  refine (HText0.out _ HB20.out).mono ?_
  rintro e v21_ ⟨rfl, hb⟩
  have HH21 := Lib.hid (HH20.out.next hb)
  have HZ21 := Lib.hid (HZ20.out.next hb)
  have HB21 := Lib.hid (below_then HB20.out hb)
  clear HH20 HZ20 HB20
  clear hb
  clear cx0 cx1 cx2
  have cx0 := (HH21.out _ (.tail _ (.tail _ (.tail _ (.tail _ (.tail _ (.tail _ (.tail _ (.tail _ (.tail _ (.head _))))))))))).b.c0
  have cx1 := (HH21.out _ (.tail _ (.tail _ (.tail _ (.tail _ (.tail _ (.tail _ (.tail _ (.tail _ (.tail _ (.head _))))))))))).b.c1
  have cx2 := (HH21.out _ (.tail _ (.tail _ (.tail _ (.tail _ (.tail _ (.tail _ (.tail _ (.tail _ (.tail _ (.head _))))))))))).b.c2
  go_wp2_with fail
  refine (HText1.out _ HB21.out).mono ?_
  rintro e v22_ ⟨rfl, hb⟩
  have HH22 := Lib.hid (HH21.out.next hb)
  have HZ22 := Lib.hid (HZ21.out.next hb)
  have HB22 := Lib.hid (below_then HB21.out hb)
  clear HH21 HZ21 HB21
  clear hb
  clear cx0 cx1 cx2
  have xFloor00 := (HZ22.out _ (.tail _ (.tail _ (.tail _ (.head _))))).b.c0
  have xFloor01 := (HZ22.out _ (.tail _ (.tail _ (.tail _ (.head _))))).b.c1
  have xFloor10 := (HZ22.out _ (.tail _ (.tail _ (.head _)))).b.c0
  have xFloor11 := (HZ22.out _ (.tail _ (.tail _ (.head _)))).b.c1
  go_wp2_with fail
  refine (sameT (HZ22.out _ (.tail _ (.tail _ (.tail _ (.head _))))).m (HZ22.out _ (.tail _ (.tail _ (.head _)))).m (HZ22.out _ (.tail _ (.tail _ (.tail _ (.head _))))).l (HZ22.out _ (.tail _ (.tail _ (.head _)))).l rfl).mono ?_
  rintro e v23_ ⟨rfl, hb⟩
  have HH23 := Lib.hid (HH22.out.next hb)
  have HZ23 := Lib.hid (HZ22.out.next hb)
  have HB23 := Lib.hid (below_then HB22.out hb)
  clear HH22 HZ22 HB22
  clear hb
  clear xFloor00 xFloor01 xFloor10 xFloor11
  have xCeil00 := (HZ23.out _ (.tail _ (.head _))).b.c0
  have xCeil01 := (HZ23.out _ (.tail _ (.head _))).b.c1
  have xCeil10 := (HZ23.out _ (.head _)).b.c0
  have xCeil11 := (HZ23.out _ (.head _)).b.c1
  go_wp2_with fail
  refine (sameT (HZ23.out _ (.tail _ (.head _))).m (HZ23.out _ (.head _)).m (HZ23.out _ (.tail _ (.head _))).l (HZ23.out _ (.head _)).l rfl).mono ?_
  rintro e v24_ ⟨rfl, hb⟩
  have HH24 := Lib.hid (HH23.out.next hb)
  have HZ24 := Lib.hid (HZ23.out.next hb)
  have HB24 := Lib.hid (below_then HB23.out hb)
  clear HH23 HZ23 HB23
  clear hb
  clear xCeil00 xCeil01 xCeil10 xCeil11
  have cx0 := (HH24.out _ (.tail _ (.tail _ (.tail _ (.tail _ (.tail _ (.tail _ (.tail _ (.tail _ (.tail _ (.head _))))))))))).b.c0
  have cx1 := (HH24.out _ (.tail _ (.tail _ (.tail _ (.tail _ (.tail _ (.tail _ (.tail _ (.tail _ (.tail _ (.head _))))))))))).b.c1
  have cx2 := (HH24.out _ (.tail _ (.tail _ (.tail _ (.tail _ (.tail _ (.tail _ (.tail _ (.tail _ (.tail _ (.head _))))))))))).b.c2
  have cy0 := (HH24.out _ (.tail _ (.tail _ (.tail _ (.tail _ (.tail _ (.tail _ (.tail _ (.tail _ (.head _)))))))))).b.c0
  have cy1 := (HH24.out _ (.tail _ (.tail _ (.tail _ (.tail _ (.tail _ (.tail _ (.tail _ (.tail _ (.head _)))))))))).b.c1
  have cy2 := (HH24.out _ (.tail _ (.tail _ (.tail _ (.tail _ (.tail _ (.tail _ (.tail _ (.tail _ (.head _)))))))))).b.c2
  have HHd := Lib.hid (HH24.out.next (Below.refl _ _).drew)
  have HZd := Lib.hid (HZ24.out.next (Below.refl _ _).drew)
  have HBd := Lib.hid (below_then HB24.out (Below.refl _ _).drew)
  go_wp2_with fail
  go_region_held3 (fun W' => W'.cell? ⟨w.heap.size, 0, none⟩ = some (.bool va.p) ∧ W'.cell? ⟨w.heap.size, 1, none⟩ = some (.slice va.A va.n va.c) ∧ W'.cell? ⟨w.heap.size, 2, none⟩ = some (.slice va.D va.m va.d) ∧ W'.cell? ⟨w.heap.size + 1, 0, none⟩ = some (.bool vb.p) ∧ W'.cell? ⟨w.heap.size + 1, 1, none⟩ = some (.slice vb.A vb.n vb.c) ∧ W'.cell? ⟨w.heap.size + 1, 2, none⟩ = some (.slice vb.D vb.m vb.d)) (first | (with_reducible exact ⟨cx0, cx1, cx2, cy0, cy1, cy2⟩) | (with_reducible refine ⟨cell_far (cell_far (cx0) ?_ _) ?_ _, cell_far (cell_far (cx1) ?_ _) ?_ _, cell_far (cell_far (cx2) ?_ _) ?_ _, cell_far (cell_far (cy0) ?_ _) ?_ _, cell_far (cell_far (cy1) ?_ _) ?_ _, cell_far (cell_far (cy2) ?_ _) ?_ _⟩ <;> omega) | go_keep)
    (first
      | (have hmk3 := HBr3; go_at_call 28; refine (HSm1.out _ HBr3.out).mono ?_; rintro e ur4_ ⟨rfl, hbr4⟩; have HHr4 := Lib.hid (HHr3.out.next hbr4); have HZr4 := Lib.hid (HZr3.out.next hbr4); have HBr4 := Lib.hid (below_then HBr3.out hbr4); clear cx0 cx1 cx2 cy0 cy1 cy2; have cx0 := (HHr4.out _ (.tail _ (.tail _ (.tail _ (.tail _ (.tail _ (.tail _ (.tail _ (.tail _ (.tail _ (.head _))))))))))).b.c0; have cx1 := (HHr4.out _ (.tail _ (.tail _ (.tail _ (.tail _ (.tail _ (.tail _ (.tail _ (.tail _ (.tail _ (.head _))))))))))).b.c1; have cx2 := (HHr4.out _ (.tail _ (.tail _ (.tail _ (.tail _ (.tail _ (.tail _ (.tail _ (.tail _ (.tail _ (.head _))))))))))).b.c2; have cy0 := (HHr4.out _ (.tail _ (.tail _ (.tail _ (.tail _ (.tail _ (.tail _ (.tail _ (.tail _ (.head _)))))))))).b.c0; have cy1 := (HHr4.out _ (.tail _ (.tail _ (.tail _ (.tail _ (.tail _ (.tail _ (.tail _ (.tail _ (.head _)))))))))).b.c1; have cy2 := (HHr4.out _ (.tail _ (.tail _ (.tail _ (.tail _ (.tail _ (.tail _ (.tail _ (.tail _ (.head _)))))))))).b.c2; try unfold QV.v; try unfold zV; try unfold zv)
      | (have hmk2 := HBr2; go_at_call 34; refine (HSm0.out _ HBr2.out).mono ?_; rintro e ur3_ ⟨rfl, hbr3⟩; have HHr3 := Lib.hid (HHr2.out.next hbr3); have HZr3 := Lib.hid (HZr2.out.next hbr3); have HBr3 := Lib.hid (below_then HBr2.out hbr3); clear cx0 cx1 cx2 cy0 cy1 cy2; have cx0 := (HHr3.out _ (.tail _ (.tail _ (.tail _ (.tail _ (.tail _ (.tail _ (.tail _ (.tail _ (.tail _ (.head _))))))))))).b.c0; have cx1 := (HHr3.out _ (.tail _ (.tail _ (.tail _ (.tail _ (.tail _ (.tail _ (.tail _ (.tail _ (.tail _ (.head _))))))))))).b.c1; have cx2 := (HHr3.out _ (.tail _ (.tail _ (.tail _ (.tail _ (.tail _ (.tail _ (.tail _ (.tail _ (.tail _ (.head _))))))))))).b.c2; have cy0 := (HHr3.out _ (.tail _ (.tail _ (.tail _ (.tail _ (.tail _ (.tail _ (.tail _ (.tail _ (.head _)))))))))).b.c0; have cy1 := (HHr3.out _ (.tail _ (.tail _ (.tail _ (.tail _ (.tail _ (.tail _ (.tail _ (.tail _ (.head _)))))))))).b.c1; have cy2 := (HHr3.out _ (.tail _ (.tail _ (.tail _ (.tail _ (.tail _ (.tail _ (.tail _ (.tail _ (.head _)))))))))).b.c2; try unfold QV.v; try unfold zV; try unfold zv)
      | (have hmk1 := HBr1; go_at_call 33; refine (HCheck1.out _ HBr1.out).mono ?_; rintro e ur2_ ⟨rfl, hbr2⟩; have HHr2 := Lib.hid (HHr1.out.next hbr2); have HZr2 := Lib.hid (HZr1.out.next hbr2); have HBr2 := Lib.hid (below_then HBr1.out hbr2); clear cx0 cx1 cx2 cy0 cy1 cy2; have cx0 := (HHr2.out _ (.tail _ (.tail _ (.tail _ (.tail _ (.tail _ (.tail _ (.tail _ (.tail _ (.tail _ (.head _))))))))))).b.c0; have cx1 := (HHr2.out _ (.tail _ (.tail _ (.tail _ (.tail _ (.tail _ (.tail _ (.tail _ (.tail _ (.tail _ (.head _))))))))))).b.c1; have cx2 := (HHr2.out _ (.tail _ (.tail _ (.tail _ (.tail _ (.tail _ (.tail _ (.tail _ (.tail _ (.tail _ (.head _))))))))))).b.c2; have cy0 := (HHr2.out _ (.tail _ (.tail _ (.tail _ (.tail _ (.tail _ (.tail _ (.tail _ (.tail _ (.head _)))))))))).b.c0; have cy1 := (HHr2.out _ (.tail _ (.tail _ (.tail _ (.tail _ (.tail _ (.tail _ (.tail _ (.tail _ (.head _)))))))))).b.c1; have cy2 := (HHr2.out _ (.tail _ (.tail _ (.tail _ (.tail _ (.tail _ (.tail _ (.tail _ (.tail _ (.head _)))))))))).b.c2; try unfold QV.v; try unfold zV; try unfold zv)
      | (go_at_call 19; refine (HCheck0.out _ HBd.out).mono ?_; rintro e ur1_ ⟨rfl, hbr1⟩; have HHr1 := Lib.hid (HHd.out.next hbr1); have HZr1 := Lib.hid (HZd.out.next hbr1); have HBr1 := Lib.hid (below_then HBd.out hbr1); clear cx0 cx1 cx2 cy0 cy1 cy2; have cx0 := (HHr1.out _ (.tail _ (.tail _ (.tail _ (.tail _ (.tail _ (.tail _ (.tail _ (.tail _ (.tail _ (.head _))))))))))).b.c0; have cx1 := (HHr1.out _ (.tail _ (.tail _ (.tail _ (.tail _ (.tail _ (.tail _ (.tail _ (.tail _ (.tail _ (.head _))))))))))).b.c1; have cx2 := (HHr1.out _ (.tail _ (.tail _ (.tail _ (.tail _ (.tail _ (.tail _ (.tail _ (.tail _ (.tail _ (.head _))))))))))).b.c2; have cy0 := (HHr1.out _ (.tail _ (.tail _ (.tail _ (.tail _ (.tail _ (.tail _ (.tail _ (.tail _ (.head _)))))))))).b.c0; have cy1 := (HHr1.out _ (.tail _ (.tail _ (.tail _ (.tail _ (.tail _ (.tail _ (.tail _ (.tail _ (.head _)))))))))).b.c1; have cy2 := (HHr1.out _ (.tail _ (.tail _ (.tail _ (.tail _ (.tail _ (.tail _ (.tail _ (.tail _ (.head _)))))))))).b.c2; try unfold QV.v; try unfold zV; try unfold zv))
  clear cx0 cx1 cx2 cy0 cy1 cy2
  have HH25 := HHr4
  have HZ25 := HZr4
  have HB25 := HBr4
  go_wp2
  go_ret
  exact ⟨by simp, HB25.out⟩
set_option maxRecDepth 100000 in
set_option maxHeartbeats 4000000 in
theorem tellsQ_long (hl : ¬ ((va.n ≤ 3 ∧ va.m ≤ 3) ∧ vb.n ≤ 3 ∧ vb.m ≤ 3)) :
    Calls Tryz.prog 4 #[va.v, vb.v] w fun e w' => e = .returned (.bool true) ∧ Below w.heap.size w w' := by
  have T0 := duo_q w va vb
  have G1 := Lib.hid (fun W (n : Int) => rGreat_any (v := va) (w := W) n)
  have G2 := Lib.hid (fun W (n : Int) => rGreat_any (v := vb) (w := W) n)
  have g1 : ∀ (n m : Nat), ¬ (n ≤ 3 ∧ m ≤ 3) → (decide ((3 : Int) < (n : Int)) || decide ((3 : Int) < (m : Int))) = true := fun n m h => by simp; omega
  have g2 : ∀ (n m : Nat), n ≤ 3 ∧ m ≤ 3 → (decide ((3 : Int) < (n : Int)) || decide ((3 : Int) < (m : Int))) = false := fun n m h => by simp; omega
  by_cases k1 : va.n ≤ 3 ∧ va.m ≤ 3
  · have e1 := g2 _ _ k1
    have e2 := g1 vb.n vb.m (fun h => hl ⟨k1, h⟩)
    clear g1 g2 hl k1
    dsimp only [QV.v]
    go_enter Tryz.func4, Tryz.ntmps4
    have cx0 := T0.x.c0
    have cx1 := T0.x.c1
    have cx2 := T0.x.c2
    have cy0 := T0.y.c0
    have cy1 := T0.y.c1
    have cy2 := T0.y.c2
    go_wp2_with fail
    refine (G1.out _ 3).mono ?_
    rintro e w1 ⟨rfl, hb⟩
    rw [e1]
    have T1 := T0.next hb
    clear hb
    clear cx0 cx1 cx2 cy0 cy1 cy2
    have cx0 := T1.x.c0
    have cx1 := T1.x.c1
    have cx2 := T1.x.c2
    have cy0 := T1.y.c0
    have cy1 := T1.y.c1
    have cy2 := T1.y.c2
    go_wp2_with fail
    refine (G2.out _ 3).mono ?_
    rintro e w2 ⟨rfl, hb⟩
    rw [e2]
    have T2 := T1.next hb
    clear hb
    clear cx0 cx1 cx2 cy0 cy1 cy2
    have cx0 := T2.x.c0
    have cx1 := T2.x.c1
    have cx2 := T2.x.c2
    have cy0 := T2.y.c0
    have cy1 := T2.y.c1
    have cy2 := T2.y.c2
    go_wp2
    go_ret
    exact ⟨rfl, T2.b⟩
  · have e1 := g1 _ _ k1
    clear g1 g2 hl k1
    dsimp only [QV.v]
    go_enter Tryz.func4, Tryz.ntmps4
    have cx0 := T0.x.c0
    have cx1 := T0.x.c1
    have cx2 := T0.x.c2
    have cy0 := T0.y.c0
    have cy1 := T0.y.c1
    have cy2 := T0.y.c2
    go_wp2_with fail
    refine (G1.out _ 3).mono ?_
    rintro e w1 ⟨rfl, hb⟩
    rw [e1]
    have T1 := T0.next hb
    clear hb
    clear cx0 cx1 cx2 cy0 cy1 cy2
    have cx0 := T1.x.c0
    have cx1 := T1.x.c1
    have cx2 := T1.x.c2
    have cy0 := T1.y.c0
    have cy1 := T1.y.c1
    have cy2 := T1.y.c2
    go_wp2
    go_ret
    exact ⟨rfl, T1.b⟩
end
end Go.Proofs.YtbldimplddiheaaGreatDoor

/- The law RatTells, of all fractions. -/
namespace Go.Proofs.YtbldimplddiheaaGreatDoor
open Go.RowKit Go.Shelf
set_option linter.unusedVariables false

theorem tellsQ_all (va vb : QV) (a d a2 d2 : List Nat) (w : World) (r1 : Rd w va.A va.n a) (s1 : Rd w va.D va.m d) (r2 : Rd w vb.A vb.n a2) (s2 : Rd w vb.D vb.m d2) (c1 : va.n ≤ va.c ∧ va.c ≤ 9223372036854775807) (e1 : va.m ≤ va.d ∧ va.d ≤ 9223372036854775807) (c2 : vb.n ≤ vb.c ∧ vb.c ≤ 9223372036854775807) (e2 : vb.m ≤ vb.d ∧ vb.d ≤ 9223372036854775807) :
    Calls Tryz.prog 4 #[va.v, vb.v] w fun e w' => e = .returned (.bool true) ∧ Below w.heap.size w w' := by
  by_cases h : (va.n ≤ 3 ∧ va.m ≤ 3) ∧ vb.n ≤ 3 ∧ vb.m ≤ 3
  · exact tellsQ_short va vb a d a2 d2 w ⟨r1, s1, by omega, by omega, c1.1, c1.2, e1.1, e1.2⟩ ⟨r2, s2, by omega, by omega, c2.1, c2.2, e2.1, e2.2⟩ h.1 h.2 qadd_is qsub_is qmul_is qdiv_is qcmp_is qfloor_is qceil_is qtext_is checkQ_is qsame_is
  · exact tellsQ_long va vb w h
end Go.Proofs.YtbldimplddiheaaGreatDoor
