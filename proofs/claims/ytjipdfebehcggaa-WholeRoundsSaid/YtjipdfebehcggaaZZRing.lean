import Derived.Test.YtjipdfebehcggaaZZQ
import Derived.Test.YtjipdfebehcggaaZZR
import Derived.Test.YtjipdfebehcggaaZZFr
import Derived.Test.YtjipdfebehcggaaZZM
/- ZAl ZHeld ZRing. -/
/- The chapter's first examples. -/
namespace Go.Proofs.Ytjipdfebehcggaa
open Go.RowKit Go.Shelf
set_option linter.unusedVariables false
set_option linter.unusedSimpArgs false

def GivesIs (F : Nat) (x y z : Int) : Prop := ∀ (A A2 : Option Addr) (na ca nb cb : Nat) (w : World), ZNm w A na ca x → ZNm w A2 nb cb y → na ≤ 400 → nb ≤ 400 →
  Calls Try.prog F #[zV x A na ca, zV y A2 nb cb] w (ZAns w z 0)
theorem small_len {W : World} {B : Nat} {A : Option Addr} {k c : Nat} {x : Int} (o : Own W B (.slice A k c) (limbs x.natAbs)) (h1 : -1000 ≤ x) (h2 : x ≤ 1000) : k ≤ 1 := o.nm.len (N := 1) (by rw [Nat.pow_one, B64_eq]; omega)
theorem int_small {z : Int} (z1 : -1000 ≤ z) (z2 : z ≤ 1000) : intE (decide (z < 0)) (limbs z.natAbs) = 0 ∧ intZ (decide (z < 0)) (limbs z.natAbs) = z := by
  have e : intE (decide (z < 0)) (limbs z.natAbs) = 0 := by unfold intE; rw [if_pos (mayZ_num z), zof_num, if_pos (by omega)]
  refine ⟨e, ?_⟩
  unfold intZ
  rw [e, if_pos rfl, zof_num]
set_option maxRecDepth 100000 in
set_option maxHeartbeats 2000000 in
theorem givesAdd (x y z : Int) (w : World) (hF : GivesIs 7 x y z) (x1 : -1000 ≤ x) (x2 : x ≤ 1000) (y1 : -1000 ≤ y) (y2 : y ≤ 1000) (z1 : -1000 ≤ z) (z2 : z ≤ 1000) :
    Calls Try.prog 53 #[.func (.func 7) #[] #[], .int .i64 x, .int .i64 y, .int .i64 z] w fun e w' => e = .returned (.bool true) ∧ Below w.heap.size w w' := by
  have HF := Lib.hid hF
  have HX := Lib.hid (fun W => ofZ_any (w := W) x (by omega) (by omega))
  have HY := Lib.hid (fun W => ofZ_any (w := W) y (by omega) (by omega))
  have HI := Lib.hid (int_small z1 z2)
  have B := Lib.hid (And.intro x1 (And.intro x2 (And.intro y1 (And.intro y2 (And.intro z1 z2)))))
  clear hF x1 x2 y1 y2 z1 z2
  go_enter Try.func53, Try.ntmps53
  go_wp2_with fail
  refine (HX.out _).mono ?_
  rintro e w1 ⟨A1, k1, c1, rfl, o1, hb1⟩
  have l1 := Lib.hid (small_len o1 B.out.1 B.out.2.1)
  unfold zV zv
  go_wp2_with fail
  refine (HY.out _).mono ?_
  rintro e w2 ⟨A2, k2, c2, rfl, o2, hb2⟩
  have l2 := Lib.hid (small_len o2 B.out.2.2.1 B.out.2.2.2.1)
  have o1 := Lib.hid (o1.nm.below hb2)
  have hb2 := Lib.hid (below_then hb1 hb2)
  clear hb1
  unfold zV zv
  go_wp2_with fail
  refine (HF.out A1 A2 k1 c1 k2 c2 w2 o1.out o2.nm (by have := l1.out; omega) (by have := l2.out; omega)).mono ?_
  rintro e w3 ⟨A3, k3, c3, rfl, o3, hb3⟩
  have l3 := Lib.hid (small_len o3 B.out.2.2.2.2.1 B.out.2.2.2.2.2)
  have HB := Lib.hid (below_then hb2.out hb3)
  have HJ := Lib.hid (fun W (hW : Below w3.heap.size w3 W) => intZ_any (p := decide (z < 0)) (a := limbs z.natAbs) (w := W) (A := A3) (na := k3) (ca := c3) ⟨o3.nm.rd.below hW, by have := l3.out; omega, o3.nm.nc, o3.nm.cm⟩)
  rw [HI.out.1, HI.out.2] at HJ
  clear hb3 o2 o3
  unfold zV zv IAns at *
  go_wp2_with fail
  refine (HJ.out _ (bxb _ _)).mono ?_
  rintro e w4 ⟨rfl, hb4⟩
  have HB4 := Lib.hid (below_then (below_then HB.out (bxb _ _)) hb4)
  clear hb4
  go_wp2
  go_ret
  exact ⟨by simp, HB4.out⟩
set_option maxRecDepth 100000 in
set_option maxHeartbeats 2000000 in
theorem givesMul (x y z : Int) (w : World) (hF : GivesIs 11 x y z) (x1 : -1000 ≤ x) (x2 : x ≤ 1000) (y1 : -1000 ≤ y) (y2 : y ≤ 1000) (z1 : -1000 ≤ z) (z2 : z ≤ 1000) :
    Calls Try.prog 53 #[.func (.func 11) #[] #[], .int .i64 x, .int .i64 y, .int .i64 z] w fun e w' => e = .returned (.bool true) ∧ Below w.heap.size w w' := by
  have HF := Lib.hid hF
  have HX := Lib.hid (fun W => ofZ_any (w := W) x (by omega) (by omega))
  have HY := Lib.hid (fun W => ofZ_any (w := W) y (by omega) (by omega))
  have HI := Lib.hid (int_small z1 z2)
  have B := Lib.hid (And.intro x1 (And.intro x2 (And.intro y1 (And.intro y2 (And.intro z1 z2)))))
  clear hF x1 x2 y1 y2 z1 z2
  go_enter Try.func53, Try.ntmps53
  go_wp2_with fail
  refine (HX.out _).mono ?_
  rintro e w1 ⟨A1, k1, c1, rfl, o1, hb1⟩
  have l1 := Lib.hid (small_len o1 B.out.1 B.out.2.1)
  unfold zV zv
  go_wp2_with fail
  refine (HY.out _).mono ?_
  rintro e w2 ⟨A2, k2, c2, rfl, o2, hb2⟩
  have l2 := Lib.hid (small_len o2 B.out.2.2.1 B.out.2.2.2.1)
  have o1 := Lib.hid (o1.nm.below hb2)
  have hb2 := Lib.hid (below_then hb1 hb2)
  clear hb1
  unfold zV zv
  go_wp2_with fail
  refine (HF.out A1 A2 k1 c1 k2 c2 w2 o1.out o2.nm (by have := l1.out; omega) (by have := l2.out; omega)).mono ?_
  rintro e w3 ⟨A3, k3, c3, rfl, o3, hb3⟩
  have l3 := Lib.hid (small_len o3 B.out.2.2.2.2.1 B.out.2.2.2.2.2)
  have HB := Lib.hid (below_then hb2.out hb3)
  have HJ := Lib.hid (fun W (hW : Below w3.heap.size w3 W) => intZ_any (p := decide (z < 0)) (a := limbs z.natAbs) (w := W) (A := A3) (na := k3) (ca := c3) ⟨o3.nm.rd.below hW, by have := l3.out; omega, o3.nm.nc, o3.nm.cm⟩)
  rw [HI.out.1, HI.out.2] at HJ
  clear hb3 o2 o3
  unfold zV zv IAns at *
  go_wp2_with fail
  refine (HJ.out _ (bxb _ _)).mono ?_
  rintro e w4 ⟨rfl, hb4⟩
  have HB4 := Lib.hid (below_then (below_then HB.out (bxb _ _)) hb4)
  clear hb4
  go_wp2
  go_ret
  exact ⟨by simp, HB4.out⟩
set_option maxRecDepth 100000 in
set_option maxHeartbeats 2000000 in
theorem givesFloor (x y z : Int) (w : World) (hF : GivesIs 28 x y z) (x1 : -1000 ≤ x) (x2 : x ≤ 1000) (y1 : -1000 ≤ y) (y2 : y ≤ 1000) (z1 : -1000 ≤ z) (z2 : z ≤ 1000) :
    Calls Try.prog 53 #[.func (.func 28) #[] #[], .int .i64 x, .int .i64 y, .int .i64 z] w fun e w' => e = .returned (.bool true) ∧ Below w.heap.size w w' := by
  have HF := Lib.hid hF
  have HX := Lib.hid (fun W => ofZ_any (w := W) x (by omega) (by omega))
  have HY := Lib.hid (fun W => ofZ_any (w := W) y (by omega) (by omega))
  have HI := Lib.hid (int_small z1 z2)
  have B := Lib.hid (And.intro x1 (And.intro x2 (And.intro y1 (And.intro y2 (And.intro z1 z2)))))
  clear hF x1 x2 y1 y2 z1 z2
  go_enter Try.func53, Try.ntmps53
  go_wp2_with fail
  refine (HX.out _).mono ?_
  rintro e w1 ⟨A1, k1, c1, rfl, o1, hb1⟩
  have l1 := Lib.hid (small_len o1 B.out.1 B.out.2.1)
  unfold zV zv
  go_wp2_with fail
  refine (HY.out _).mono ?_
  rintro e w2 ⟨A2, k2, c2, rfl, o2, hb2⟩
  have l2 := Lib.hid (small_len o2 B.out.2.2.1 B.out.2.2.2.1)
  have o1 := Lib.hid (o1.nm.below hb2)
  have hb2 := Lib.hid (below_then hb1 hb2)
  clear hb1
  unfold zV zv
  go_wp2_with fail
  refine (HF.out A1 A2 k1 c1 k2 c2 w2 o1.out o2.nm (by have := l1.out; omega) (by have := l2.out; omega)).mono ?_
  rintro e w3 ⟨A3, k3, c3, rfl, o3, hb3⟩
  have l3 := Lib.hid (small_len o3 B.out.2.2.2.2.1 B.out.2.2.2.2.2)
  have HB := Lib.hid (below_then hb2.out hb3)
  have HJ := Lib.hid (fun W (hW : Below w3.heap.size w3 W) => intZ_any (p := decide (z < 0)) (a := limbs z.natAbs) (w := W) (A := A3) (na := k3) (ca := c3) ⟨o3.nm.rd.below hW, by have := l3.out; omega, o3.nm.nc, o3.nm.cm⟩)
  rw [HI.out.1, HI.out.2] at HJ
  clear hb3 o2 o3
  unfold zV zv IAns at *
  go_wp2_with fail
  refine (HJ.out _ (bxb _ _)).mono ?_
  rintro e w4 ⟨rfl, hb4⟩
  have HB4 := Lib.hid (below_then (below_then HB.out (bxb _ _)) hb4)
  clear hb4
  go_wp2
  go_ret
  exact ⟨by simp, HB4.out⟩
set_option maxRecDepth 100000 in
set_option maxHeartbeats 2000000 in
theorem givesCeil (x y z : Int) (w : World) (hF : GivesIs 29 x y z) (x1 : -1000 ≤ x) (x2 : x ≤ 1000) (y1 : -1000 ≤ y) (y2 : y ≤ 1000) (z1 : -1000 ≤ z) (z2 : z ≤ 1000) :
    Calls Try.prog 53 #[.func (.func 29) #[] #[], .int .i64 x, .int .i64 y, .int .i64 z] w fun e w' => e = .returned (.bool true) ∧ Below w.heap.size w w' := by
  have HF := Lib.hid hF
  have HX := Lib.hid (fun W => ofZ_any (w := W) x (by omega) (by omega))
  have HY := Lib.hid (fun W => ofZ_any (w := W) y (by omega) (by omega))
  have HI := Lib.hid (int_small z1 z2)
  have B := Lib.hid (And.intro x1 (And.intro x2 (And.intro y1 (And.intro y2 (And.intro z1 z2)))))
  clear hF x1 x2 y1 y2 z1 z2
  go_enter Try.func53, Try.ntmps53
  go_wp2_with fail
  refine (HX.out _).mono ?_
  rintro e w1 ⟨A1, k1, c1, rfl, o1, hb1⟩
  have l1 := Lib.hid (small_len o1 B.out.1 B.out.2.1)
  unfold zV zv
  go_wp2_with fail
  refine (HY.out _).mono ?_
  rintro e w2 ⟨A2, k2, c2, rfl, o2, hb2⟩
  have l2 := Lib.hid (small_len o2 B.out.2.2.1 B.out.2.2.2.1)
  have o1 := Lib.hid (o1.nm.below hb2)
  have hb2 := Lib.hid (below_then hb1 hb2)
  clear hb1
  unfold zV zv
  go_wp2_with fail
  refine (HF.out A1 A2 k1 c1 k2 c2 w2 o1.out o2.nm (by have := l1.out; omega) (by have := l2.out; omega)).mono ?_
  rintro e w3 ⟨A3, k3, c3, rfl, o3, hb3⟩
  have l3 := Lib.hid (small_len o3 B.out.2.2.2.2.1 B.out.2.2.2.2.2)
  have HB := Lib.hid (below_then hb2.out hb3)
  have HJ := Lib.hid (fun W (hW : Below w3.heap.size w3 W) => intZ_any (p := decide (z < 0)) (a := limbs z.natAbs) (w := W) (A := A3) (na := k3) (ca := c3) ⟨o3.nm.rd.below hW, by have := l3.out; omega, o3.nm.nc, o3.nm.cm⟩)
  rw [HI.out.1, HI.out.2] at HJ
  clear hb3 o2 o3
  unfold zV zv IAns at *
  go_wp2_with fail
  refine (HJ.out _ (bxb _ _)).mono ?_
  rintro e w4 ⟨rfl, hb4⟩
  have HB4 := Lib.hid (below_then (below_then HB.out (bxb _ _)) hb4)
  clear hb4
  go_wp2
  go_ret
  exact ⟨by simp, HB4.out⟩
theorem isAdd1 (A A2 : Option Addr) (na ca nb cb : Nat) (w : World) (h1 : ZNm w A na ca (-3)) (h2 : ZNm w A2 nb cb (5)) (l1 : na ≤ 400) (l2 : nb ≤ 400) : Calls Try.prog 7 #[zV (-3) A na ca, zV (5) A2 nb cb] w (ZAns w (2) 0) := by
  have h := addZ (p := decide ((-3 : Int) < 0)) (q := decide ((5 : Int) < 0)) (w := w) ⟨h1.rd, h2.rd, l1, l2, h1.nc, h1.cm, h2.nc, h2.cm⟩
  rw [twoZ_ok (twoM_num _ _), twoE_ok (twoM_num _ _), zof_num, zof_num] at h
  exact h
theorem isMul1 (A A2 : Option Addr) (na ca nb cb : Nat) (w : World) (h1 : ZNm w A na ca (-3)) (h2 : ZNm w A2 nb cb (5)) (l1 : na ≤ 400) (l2 : nb ≤ 400) : Calls Try.prog 11 #[zV (-3) A na ca, zV (5) A2 nb cb] w (ZAns w (-15) 0) := by
  have h := mulZ (p := decide ((-3 : Int) < 0)) (q := decide ((5 : Int) < 0)) (w := w) ⟨h1.rd, h2.rd, l1, l2, h1.nc, h1.cm, h2.nc, h2.cm⟩
  rw [twoZ_ok (twoM_num _ _), twoE_ok (twoM_num _ _), zof_num, zof_num] at h
  exact h
theorem isFloor1 (A A2 : Option Addr) (na ca nb cb : Nat) (w : World) (h1 : ZNm w A na ca (-7)) (h2 : ZNm w A2 nb cb (2)) (l1 : na ≤ 400) (l2 : nb ≤ 400) : Calls Try.prog 28 #[zV (-7) A na ca, zV (2) A2 nb cb] w (ZAns w (-4) 0) := by
  have h := floorZ_any (p := decide ((-7 : Int) < 0)) (q := decide ((2 : Int) < 0)) (w := w) ⟨h1.rd, h2.rd, l1, l2, h1.nc, h1.cm, h2.nc, h2.cm⟩
  have hm := twoM_num (-7) (2)
  have hb : limbs (2 : Int).natAbs ≠ [] := fun e => by have := limbs_eq_nil.1 e; omega
  have e : quoE (decide ((-7 : Int) < 0)) (limbs (-7 : Int).natAbs) (decide ((2 : Int) < 0)) (limbs (2 : Int).natAbs) = 0 := by unfold quoE; rw [if_pos hm, if_neg hb]
  have e2 := fun f => show quoZ f (decide ((-7 : Int) < 0)) (limbs (-7 : Int).natAbs) (decide ((2 : Int) < 0)) (limbs (2 : Int).natAbs) = f (-7) (2) by unfold quoZ; rw [if_pos e, zof_num, zof_num]
  rw [e, e2] at h
  exact h
theorem isCeil1 (A A2 : Option Addr) (na ca nb cb : Nat) (w : World) (h1 : ZNm w A na ca (-7)) (h2 : ZNm w A2 nb cb (2)) (l1 : na ≤ 400) (l2 : nb ≤ 400) : Calls Try.prog 29 #[zV (-7) A na ca, zV (2) A2 nb cb] w (ZAns w (-3) 0) := by
  have h := ceilZ_any (p := decide ((-7 : Int) < 0)) (q := decide ((2 : Int) < 0)) (w := w) ⟨h1.rd, h2.rd, l1, l2, h1.nc, h1.cm, h2.nc, h2.cm⟩
  have hm := twoM_num (-7) (2)
  have hb : limbs (2 : Int).natAbs ≠ [] := fun e => by have := limbs_eq_nil.1 e; omega
  have e : quoE (decide ((-7 : Int) < 0)) (limbs (-7 : Int).natAbs) (decide ((2 : Int) < 0)) (limbs (2 : Int).natAbs) = 0 := by unfold quoE; rw [if_pos hm, if_neg hb]
  have e2 := fun f => show quoZ f (decide ((-7 : Int) < 0)) (limbs (-7 : Int).natAbs) (decide ((2 : Int) < 0)) (limbs (2 : Int).natAbs) = f (-7) (2) by unfold quoZ; rw [if_pos e, zof_num, zof_num]
  rw [e, e2] at h
  exact h
theorem isFloor2 (A A2 : Option Addr) (na ca nb cb : Nat) (w : World) (h1 : ZNm w A na ca (7)) (h2 : ZNm w A2 nb cb (-2)) (l1 : na ≤ 400) (l2 : nb ≤ 400) : Calls Try.prog 28 #[zV (7) A na ca, zV (-2) A2 nb cb] w (ZAns w (-4) 0) := by
  have h := floorZ_any (p := decide ((7 : Int) < 0)) (q := decide ((-2 : Int) < 0)) (w := w) ⟨h1.rd, h2.rd, l1, l2, h1.nc, h1.cm, h2.nc, h2.cm⟩
  have hm := twoM_num (7) (-2)
  have hb : limbs (-2 : Int).natAbs ≠ [] := fun e => by have := limbs_eq_nil.1 e; omega
  have e : quoE (decide ((7 : Int) < 0)) (limbs (7 : Int).natAbs) (decide ((-2 : Int) < 0)) (limbs (-2 : Int).natAbs) = 0 := by unfold quoE; rw [if_pos hm, if_neg hb]
  have e2 := fun f => show quoZ f (decide ((7 : Int) < 0)) (limbs (7 : Int).natAbs) (decide ((-2 : Int) < 0)) (limbs (-2 : Int).natAbs) = f (7) (-2) by unfold quoZ; rw [if_pos e, zof_num, zof_num]
  rw [e, e2] at h
  exact h
set_option maxRecDepth 100000 in
set_option maxHeartbeats 2000000 in
theorem zalive_any (w : World) : Calls Try.prog 27 #[] w fun e w' => e = .returned (.bool true) ∧ Below w.heap.size w w' := by
  have H0 := Lib.hid (fun W => givesAdd (-3) 5 (2) W (fun _ _ _ _ _ _ _ h1 h2 l1 l2 => isAdd1 _ _ _ _ _ _ _ h1 h2 l1 l2) (by omega) (by omega) (by omega) (by omega) (by omega) (by omega))
  have H1 := Lib.hid (fun W => givesMul (-3) 5 (-15) W (fun _ _ _ _ _ _ _ h1 h2 l1 l2 => isMul1 _ _ _ _ _ _ _ h1 h2 l1 l2) (by omega) (by omega) (by omega) (by omega) (by omega) (by omega))
  have H2 := Lib.hid (fun W => givesFloor (-7) 2 (-4) W (fun _ _ _ _ _ _ _ h1 h2 l1 l2 => isFloor1 _ _ _ _ _ _ _ h1 h2 l1 l2) (by omega) (by omega) (by omega) (by omega) (by omega) (by omega))
  have H3 := Lib.hid (fun W => givesCeil (-7) 2 (-3) W (fun _ _ _ _ _ _ _ h1 h2 l1 l2 => isCeil1 _ _ _ _ _ _ _ h1 h2 l1 l2) (by omega) (by omega) (by omega) (by omega) (by omega) (by omega))
  have H4 := Lib.hid (fun W => givesFloor (7) (-2) (-4) W (fun _ _ _ _ _ _ _ h1 h2 l1 l2 => isFloor2 _ _ _ _ _ _ _ h1 h2 l1 l2) (by omega) (by omega) (by omega) (by omega) (by omega) (by omega))
  go_enter Try.func27, Try.ntmps27
  go_wp2_with fail
  refine (H0.out _).mono ?_
  rintro e w1 ⟨rfl, hb1⟩
  have HB1 := Lib.hid (hb1)
  clear hb1
  go_wp2_with fail
  refine (H1.out _).mono ?_
  rintro e w2 ⟨rfl, hb2⟩
  have HB2 := Lib.hid (below_then HB1.out hb2)
  clear hb2
  go_wp2_with fail
  refine (H2.out _).mono ?_
  rintro e w3 ⟨rfl, hb3⟩
  have HB3 := Lib.hid (below_then HB2.out hb3)
  clear hb3
  go_wp2_with fail
  refine (H3.out _).mono ?_
  rintro e w4 ⟨rfl, hb4⟩
  have HB4 := Lib.hid (below_then HB3.out hb4)
  clear hb4
  go_wp2_with fail
  refine (H4.out _).mono ?_
  rintro e w5 ⟨rfl, hb5⟩
  have HB5 := Lib.hid (below_then HB4.out hb5)
  clear hb5
  go_wp2
  go_ret
  exact ⟨rfl, HB5.out⟩
end Go.Proofs.Ytjipdfebehcggaa

/- What a law holds: its whole numbers, each in a block of its own. -/
namespace Go.Proofs.Ytjipdfebehcggaa
open Go.RowKit Go.Shelf
set_option linter.unusedVariables false
set_option linter.unusedSimpArgs false

/-- A number in a block. -/
structure It where
  g : Nat
  z : Int
  A : Option Addr
  n : Nat
  c : Nat
structure It.ok (W : World) (i : It) : Prop where
  b : BoxZ W i.g (decide (i.z < 0)) i.A i.n i.c
  m : ZNm W i.A i.n i.c i.z
  l : i.n ≤ 400
def Held (W : World) (L : List It) : Prop := ∀ i, i ∈ L → It.ok W i
theorem It.ok.below {W W' : World} {i : It} (h : It.ok W i) (hb : Below W.heap.size W W') : It.ok W' i := ⟨h.b.below hb (Array.getElem?_eq_some_iff.1 h.b).1, h.m.below hb, h.l⟩
theorem Held.next {W W' : World} {L : List It} (h : Held W L) (hb : Below W.heap.size W W') : Held W' L := fun i hi => (h i hi).below hb
theorem Held.cons {W : World} {L : List It} {i : It} (h : Held W L) (hi : It.ok W i) : Held W (i :: L) := fun j hj => by
  rcases List.mem_cons.1 hj with rfl | hj
  · exact hi
  · exact h j hj
theorem held_nil (W : World) : Held W [] := fun i hi => by cases hi
/-- A number that a call has answered, laid in a block. -/
theorem It.fresh {W : World} {B : Nat} {z : Int} {A : Option Addr} {n c : Nat} (o : Own W B (.slice A n c) (limbs z.natAbs)) (hl : n ≤ 400) : It.ok (W.alloc (zo (decide (z < 0)) A n c)) ⟨W.heap.size, z, A, n, c⟩ :=
  ⟨World.alloc_heap_new _ _, o.nm.below (bxb _ _), hl⟩
theorem It.param {w : World} {z : Int} {A : Option Addr} {n c : Nat} (h : ZNm w A n c z) (hl : n ≤ 400) : It.ok (w.alloc (zo (decide (z < 0)) A n c)) ⟨w.heap.size, z, A, n, c⟩ :=
  ⟨World.alloc_heap_new _ _, h.below (bxb _ _), hl⟩
/-- How long a number may be. -/
def Bd (k : Nat) (z : Int) : Prop := z.natAbs < B64 ^ k
theorem Bd.len {W : World} {B k : Nat} {z : Int} {A : Option Addr} {n c : Nat} (h : Bd k z) (o : Own W B (.slice A n c) (limbs z.natAbs)) : n ≤ k := o.nm.len h
theorem Bd.mono {k m : Nat} {z : Int} (h : Bd k z) (hkm : k ≤ m) : Bd m z := Nat.lt_of_lt_of_le h (Nat.pow_le_pow_right B64_pos hkm)
theorem Bd.add {k : Nat} {z y : Int} (h1 : Bd k z) (h2 : Bd k y) : Bd (k + 1) (z + y) := by
  unfold Bd at *
  rw [Nat.pow_succ]
  have := B64_gt
  have h3 : B64 ^ k * 2 ≤ B64 ^ k * B64 := Nat.mul_le_mul_left _ (by omega)
  omega
theorem Bd.neg {k : Nat} {z : Int} (h : Bd k z) : Bd k (-z) := by unfold Bd at *; rw [Int.natAbs_neg]; exact h
theorem Bd.sub {k : Nat} {z y : Int} (h1 : Bd k z) (h2 : Bd k y) : Bd (k + 1) (z - y) := by rw [Int.sub_eq_add_neg]; exact h1.add h2.neg
theorem Bd.mul {k m : Nat} {z y : Int} (h1 : Bd k z) (h2 : Bd m y) : Bd (k + m) (z * y) := by
  unfold Bd at *
  rw [Int.natAbs_mul, Nat.pow_add]
  exact Nat.mul_lt_mul_of_lt_of_le h1 (Nat.le_of_lt h2) (Nat.pos_of_ne_zero (by intro e; omega))
theorem Bd.of {w : World} {A : Option Addr} {n c k : Nat} {z : Int} (h : ZNm w A n c z) (hk : n ≤ k) : Bd k z := Nat.lt_of_lt_of_le h.lt (Nat.pow_le_pow_right B64_pos hk)

section
variable {A A2 : Option Addr} {na ca nb cb : Nat} {w : World} {z y : Int}
theorem z2_num (h1 : ZNm w A na ca z) (h2 : ZNm w A2 nb cb y) (l1 : na ≤ 400) (l2 : nb ≤ 400) : Z2 w A A2 na ca nb cb (limbs z.natAbs) (limbs y.natAbs) := ⟨h1.rd, h2.rd, l1, l2, h1.nc, h1.cm, h2.nc, h2.cm⟩
theorem addN (h1 : ZNm w A na ca z) (h2 : ZNm w A2 nb cb y) (l1 : na ≤ 400) (l2 : nb ≤ 400) : Calls Try.prog 7 #[.agg #[.bool (decide (z < 0)), .slice A na ca], .agg #[.bool (decide (y < 0)), .slice A2 nb cb]] w (ZAns w (z + y) 0) := by
  have h := addZ (p := decide (z < 0)) (q := decide (y < 0)) (z2_num h1 h2 l1 l2)
  rw [twoZ_ok (twoM_num _ _), twoE_ok (twoM_num _ _), zof_num, zof_num] at h
  exact h
theorem subN (h1 : ZNm w A na ca z) (h2 : ZNm w A2 nb cb y) (l1 : na ≤ 400) (l2 : nb ≤ 400) : Calls Try.prog 9 #[.agg #[.bool (decide (z < 0)), .slice A na ca], .agg #[.bool (decide (y < 0)), .slice A2 nb cb]] w (ZAns w (z - y) 0) := by
  have h := subZ (p := decide (z < 0)) (q := decide (y < 0)) (z2_num h1 h2 l1 l2)
  rw [twoZ_ok (twoM_num _ _), twoE_ok (twoM_num _ _), zof_num, zof_num] at h
  exact h
theorem mulN (h1 : ZNm w A na ca z) (h2 : ZNm w A2 nb cb y) (l1 : na ≤ 400) (l2 : nb ≤ 400) : Calls Try.prog 11 #[.agg #[.bool (decide (z < 0)), .slice A na ca], .agg #[.bool (decide (y < 0)), .slice A2 nb cb]] w (ZAns w (z * y) 0) := by
  have h := mulZ (p := decide (z < 0)) (q := decide (y < 0)) (z2_num h1 h2 l1 l2)
  rw [twoZ_ok (twoM_num _ _), twoE_ok (twoM_num _ _), zof_num, zof_num] at h
  exact h
theorem cmpN (h1 : ZNm w A na ca z) (h2 : ZNm w A2 nb cb y) (l1 : na ≤ 400) (l2 : nb ≤ 400) : Calls Try.prog 13 #[.agg #[.bool (decide (z < 0)), .slice A na ca], .agg #[.bool (decide (y < 0)), .slice A2 nb cb]] w (IAns w (sgn (z - y)) 0) := by
  have h := cmpZ_any (p := decide (z < 0)) (q := decide (y < 0)) (z2_num h1 h2 l1 l2)
  rw [twoZ_ok (twoM_num _ _), twoE_ok (twoM_num _ _), zof_num, zof_num] at h
  exact h
theorem signN (h1 : ZNm w A na ca z) (l1 : na ≤ 400) : Calls Try.prog 15 #[.agg #[.bool (decide (z < 0)), .slice A na ca]] w (IAns w (sgn z) 0) := by
  have h := signZ_any (p := decide (z < 0)) (w := w) ⟨h1.rd, l1, h1.nc, h1.cm⟩
  rw [oneZ_ok (mayZ_num _), oneE_ok (mayZ_num _), zof_num] at h
  exact h
theorem negN (h1 : ZNm w A na ca z) (l1 : na ≤ 400) : Calls Try.prog 17 #[.agg #[.bool (decide (z < 0)), .slice A na ca]] w (ZAns w (-z) 0) := by
  have h := negZ (p := decide (z < 0)) (w := w) ⟨h1.rd, l1, h1.nc, h1.cm⟩
  rw [oneZ_ok (mayZ_num _), oneE_ok (mayZ_num _), zof_num] at h
  exact h
theorem checkN (h1 : ZNm w A na ca z) (l1 : na ≤ 400) : Calls Try.prog 24 #[.agg #[.bool (decide (z < 0)), .slice A na ca]] w fun e w' => e = .returned (.int .i64 0) ∧ Below w.heap.size w w' := by
  have h := checkZ_any (p := decide (z < 0)) (w := w) ⟨h1.rd, l1, h1.nc, h1.cm⟩
  rw [oneE_ok (mayZ_num _)] at h
  exact h
theorem intN (h1 : ZNm w A na ca z) (l1 : na ≤ 400) (z1 : -9223372036854775808 ≤ z) (z2 : z ≤ 9223372036854775807) : Calls Try.prog 19 #[.agg #[.bool (decide (z < 0)), .slice A na ca]] w (IAns w z 0) := by
  have h := intZ_any (p := decide (z < 0)) (w := w) ⟨h1.rd, l1, h1.nc, h1.cm⟩
  have e : intE (decide (z < 0)) (limbs z.natAbs) = 0 := by unfold intE; rw [if_pos (mayZ_num z), zof_num, if_pos ⟨z1, z2⟩]
  rw [e, show intZ (decide (z < 0)) (limbs z.natAbs) = z by unfold intZ; rw [if_pos e, zof_num]] at h
  exact h
theorem sameN (h1 : ZNm w A na ca z) (h2 : ZNm w A2 nb cb y) (l1 : na ≤ 400) (l2 : nb ≤ 400) : Calls Try.prog 21 #[.agg #[.bool (decide (z < 0)), .slice A na ca], .agg #[.bool (decide (y < 0)), .slice A2 nb cb]] w fun e w' => e = .returned (.bool (decide (z = y))) ∧ Below w.heap.size w w' := by
  have h := rSameZ_any A A2 na ca nb cb (decide (z < 0)) (decide (y < 0)) (limbs z.natAbs) (limbs y.natAbs) w (z2_num h1 h2 l1 l2)
  have e : decide (decide (z < 0) = decide (y < 0) ∧ limbs z.natAbs = limbs y.natAbs) = decide (z = y) := by
    rw [decide_eq_decide]
    constructor
    · rintro ⟨e1, e2⟩
      have e3 := limbs_inj e2
      rw [decide_eq_decide] at e1
      omega
    · rintro rfl
      exact ⟨rfl, rfl⟩
  rw [e] at h
  exact h
theorem sameT (h1 : ZNm w A na ca z) (h2 : ZNm w A2 nb cb y) (l1 : na ≤ 400) (l2 : nb ≤ 400) (e : z = y) : Calls Try.prog 21 #[.agg #[.bool (decide (z < 0)), .slice A na ca], .agg #[.bool (decide (y < 0)), .slice A2 nb cb]] w fun e w' => e = .returned (.bool true) ∧ Below w.heap.size w w' := by
  have h := sameN h1 h2 l1 l2
  rwa [decide_eq_true e] at h
theorem sameT0 (h1 : ZNm w A na ca z) (l1 : na ≤ 400) (e : z = 0) : Calls Try.prog 21 #[.agg #[.bool (decide (z < 0)), .slice A na ca], .agg #[.bool false, .slice none 0 0]] w fun e w' => e = .returned (.bool true) ∧ Below w.heap.size w w' := by
  have h := sameT h1 (zero_znm w) l1 (Nat.zero_le _) e
  rwa [show decide ((0 : Int) < 0) = false from decide_eq_false (by omega)] at h
theorem quoE_num {b : Int} (h0 : b ≠ 0) : quoE (decide (z < 0)) (limbs z.natAbs) (decide (b < 0)) (limbs b.natAbs) = 0 := by
  unfold quoE
  rw [if_pos (twoM_num _ _), if_neg (fun e => by have := limbs_eq_nil.1 e; omega)]
theorem floorN (h1 : ZNm w A na ca z) (h2 : ZNm w A2 nb cb y) (l1 : na ≤ 400) (l2 : nb ≤ 400) (h0 : y ≠ 0) : Calls Try.prog 28 #[.agg #[.bool (decide (z < 0)), .slice A na ca], .agg #[.bool (decide (y < 0)), .slice A2 nb cb]] w (ZAns w (Int.fdiv z y) 0) := by
  have h := floorZ_any (p := decide (z < 0)) (q := decide (y < 0)) (z2_num h1 h2 l1 l2)
  unfold quoZ at h
  rw [quoE_num h0, if_pos rfl, zof_num, zof_num] at h
  exact h
theorem ceilN (h1 : ZNm w A na ca z) (h2 : ZNm w A2 nb cb y) (l1 : na ≤ 400) (l2 : nb ≤ 400) (h0 : y ≠ 0) : Calls Try.prog 29 #[.agg #[.bool (decide (z < 0)), .slice A na ca], .agg #[.bool (decide (y < 0)), .slice A2 nb cb]] w (ZAns w (cdiv z y) 0) := by
  have h := ceilZ_any (p := decide (z < 0)) (q := decide (y < 0)) (z2_num h1 h2 l1 l2)
  unfold quoZ at h
  rw [quoE_num h0, if_pos rfl, zof_num, zof_num] at h
  exact h
theorem exactN (h1 : ZNm w A na ca z) (h2 : ZNm w A2 nb cb y) (l1 : na ≤ 400) (l2 : nb ≤ 400) (h0 : y ≠ 0) : Calls Try.prog 30 #[.agg #[.bool (decide (z < 0)), .slice A na ca], .agg #[.bool (decide (y < 0)), .slice A2 nb cb]] w (ZAns w (if y ∣ z then Int.fdiv z y else 0) (if y ∣ z then 0 else 6)) := by
  have h := exactZ_any (p := decide (z < 0)) (q := decide (y < 0)) (z2_num h1 h2 l1 l2)
  unfold exZ exE at h
  rw [quoE_num h0, if_pos rfl, zof_num, zof_num] at h
  by_cases hd : y ∣ z
  · rw [if_pos hd] at h
    rw [if_pos hd, if_pos hd]
    exact h
  · rw [if_neg hd] at h
    rw [if_neg hd, if_neg hd]
    exact h
theorem Bd.fdiv {k : Nat} {z y : Int} (h : Bd k z) (h0 : y ≠ 0) : Bd (k + 1) (Int.fdiv z y) := by
  unfold Bd at *
  rw [(fdiv_quot h0).1, Nat.pow_succ]
  have h1 := Nat.div_le_self z.natAbs y.natAbs
  have := B64_gt
  have h3 : B64 ^ k * 2 ≤ B64 ^ k * B64 := Nat.mul_le_mul_left _ (by omega)
  split <;> omega
theorem Bd.cdiv {k : Nat} {z y : Int} (h : Bd k z) (h0 : y ≠ 0) : Bd (k + 1) (Go.Proofs.Ytjipdfebehcggaa.cdiv z y) := by
  unfold Go.Proofs.Ytjipdfebehcggaa.cdiv
  exact (Bd.fdiv h.neg h0).neg
end
end Go.Proofs.Ytjipdfebehcggaa

/- The law WholeRing. -/
namespace Go.Proofs.Ytjipdfebehcggaa
open Go.RowKit Go.Shelf
set_option linter.unusedVariables false
set_option linter.unusedSimpArgs false

set_option maxRecDepth 100000 in
set_option maxHeartbeats 20000000 in
theorem ringZ_ok (A A2 A3 : Option Addr) (na ca nb cb nc cc : Nat) (z y x : Int) (w : World) (hz : ZNm w A na ca z) (hy : ZNm w A2 nb cb y) (hx : ZNm w A3 nc cc x) (l1 : na ≤ 50) (l2 : nb ≤ 50) (l3 : nc ≤ 50) :
    Calls Try.prog 4 #[zV z A na ca, zV y A2 nb cb, zV x A3 nc cc] w fun e w' => e = .returned (.bool true) ∧ Below w.heap.size w w' := by
  have Lz : Hid (Bd 50 z) := Bd.of hz l1
  have Ly : Hid (Bd 50 y) := Bd.of hy l2
  have Lx : Hid (Bd 50 x) := Bd.of hx l3
  obtain ⟨ab, eab⟩ : ∃ s : Int, s = z + y := ⟨_, rfl⟩
  have Lab : Hid (Bd 51 ab) := by show Bd _ _; rw [eab]; exact Lz.out.add Ly.out
  have Eab := Lib.hid eab
  clear eab
  obtain ⟨ba, eba⟩ : ∃ s : Int, s = y + z := ⟨_, rfl⟩
  have Lba : Hid (Bd 51 ba) := by show Bd _ _; rw [eba]; exact Ly.out.add Lz.out
  have Eba := Lib.hid eba
  clear eba
  obtain ⟨bc, ebc⟩ : ∃ s : Int, s = y + x := ⟨_, rfl⟩
  have Lbc : Hid (Bd 51 bc) := by show Bd _ _; rw [ebc]; exact Ly.out.add Lx.out
  have Ebc := Lib.hid ebc
  clear ebc
  obtain ⟨u1, eu1⟩ : ∃ s : Int, s = ab + x := ⟨_, rfl⟩
  have Lu1 : Hid (Bd 52 u1) := by show Bd _ _; rw [eu1]; exact Lab.out.add (Lx.out.mono (by omega))
  have Eu1 := Lib.hid eu1
  clear eu1
  obtain ⟨u2, eu2⟩ : ∃ s : Int, s = z + bc := ⟨_, rfl⟩
  have Lu2 : Hid (Bd 52 u2) := by show Bd _ _; rw [eu2]; exact (Lz.out.mono (by omega)).add Lbc.out
  have Eu2 := Lib.hid eu2
  clear eu2
  obtain ⟨p, ep⟩ : ∃ s : Int, s = z * y := ⟨_, rfl⟩
  have Lp : Hid (Bd 100 p) := by show Bd _ _; rw [ep]; exact Lz.out.mul Ly.out
  have Ep := Lib.hid ep
  clear ep
  obtain ⟨q, eq⟩ : ∃ s : Int, s = y * z := ⟨_, rfl⟩
  have Lq : Hid (Bd 100 q) := by show Bd _ _; rw [eq]; exact Ly.out.mul Lz.out
  have Eq := Lib.hid eq
  clear eq
  obtain ⟨ac, eac⟩ : ∃ s : Int, s = z * x := ⟨_, rfl⟩
  have Lac : Hid (Bd 100 ac) := by show Bd _ _; rw [eac]; exact Lz.out.mul Lx.out
  have Eac := Lib.hid eac
  clear eac
  obtain ⟨u, eu⟩ : ∃ s : Int, s = z * bc := ⟨_, rfl⟩
  have Lu : Hid (Bd 101 u) := by show Bd _ _; rw [eu]; exact Lz.out.mul Lbc.out
  have Eu := Lib.hid eu
  clear eu
  obtain ⟨v, ev⟩ : ∃ s : Int, s = p + ac := ⟨_, rfl⟩
  have Lv : Hid (Bd 101 v) := by show Bd _ _; rw [ev]; exact Lp.out.add Lac.out
  have Ev := Lib.hid ev
  clear ev
  obtain ⟨m, em⟩ : ∃ s : Int, s = y * x := ⟨_, rfl⟩
  have Lm : Hid (Bd 100 m) := by show Bd _ _; rw [em]; exact Ly.out.mul Lx.out
  have Em := Lib.hid em
  clear em
  obtain ⟨n, en⟩ : ∃ s : Int, s = p * x := ⟨_, rfl⟩
  have Ln : Hid (Bd 150 n) := by show Bd _ _; rw [en]; exact Lp.out.mul Lx.out
  have En := Lib.hid en
  clear en
  obtain ⟨o, eo⟩ : ∃ s : Int, s = z * m := ⟨_, rfl⟩
  have Lo : Hid (Bd 150 o) := by show Bd _ _; rw [eo]; exact Lz.out.mul Lm.out
  have Eo := Lib.hid eo
  clear eo
  obtain ⟨bk, ebk⟩ : ∃ s : Int, s = ab - y := ⟨_, rfl⟩
  have Lbk : Hid (Bd 52 bk) := by show Bd _ _; rw [ebk]; exact Lab.out.sub (Ly.out.mono (by omega))
  have Ebk := Lib.hid ebk
  clear ebk
  obtain ⟨ng, eng⟩ : ∃ s : Int, s = -z := ⟨_, rfl⟩
  have Lng : Hid (Bd 50 ng) := by show Bd _ _; rw [eng]; exact Lz.out.neg
  have Eng := Lib.hid eng
  clear eng
  obtain ⟨nn, enn⟩ : ∃ s : Int, s = z + ng := ⟨_, rfl⟩
  have Lnn : Hid (Bd 51 nn) := by show Bd _ _; rw [enn]; exact Lz.out.add Lng.out
  have Enn := Lib.hid enn
  clear enn
  have Q : Hid (ab = ba ∧ u1 = u2 ∧ p = q ∧ u = v ∧ n = o ∧ bk = z ∧ nn = 0) := by
    have := Eab.out; have := Eba.out; have := Ebc.out; have := Eu1.out; have := Eu2.out; have hp := Ep.out; have hq := Eq.out; have hac := Eac.out; have hu := Eu.out; have hv := Ev.out; have hm := Em.out; have hn := En.out; have ho := Eo.out; have := Ebk.out; have := Eng.out; have := Enn.out
    refine ⟨by omega, by omega, by rw [hp, hq, Int.mul_comm], by rw [hu, hv, hp, hac, Ebc.out, Int.mul_add], by rw [hn, ho, hp, hm, Int.mul_assoc], by omega, by omega⟩
  have K0 := held_nil w
  have D0 := Below.refl w.heap.size w
  have K1 := (K0.next (bxb _ (zo (decide (z < 0)) A na ca))).cons (It.param (hz) (show na ≤ 400 by omega))
  have D1 := D0.alloc (Nat.le_refl _) (zo (decide (z < 0)) A na ca)
  have K2 := (K1.next (bxb _ (zo (decide (y < 0)) A2 nb cb))).cons (It.param (hy.below D1) (show nb ≤ 400 by omega))
  have D2 := below_then D1 (bxb _ (zo (decide (y < 0)) A2 nb cb))
  have K3 := (K2.next (bxb _ (zo (decide (x < 0)) A3 nc cc))).cons (It.param (hx.below D2) (show nc ≤ 400 by omega))
  have D3 := below_then D2 (bxb _ (zo (decide (x < 0)) A3 nc cc))
  simp only [World.size_alloc] at K3
  have HH0 := Lib.hid K3
  have HB0 := Lib.hid D3
  clear K0 K1 K2 K3
  clear D0 D1 D2 D3
  clear hz hy hx
  unfold zV zv
  go_enter Try.func4, Try.ntmps4
  go_wp2_with fail
  refine (zalive_any _).mono ?_
  rintro e v1_ ⟨rfl, hb⟩
  have HH1 := Lib.hid (HH0.out.next hb)
  have HB1 := Lib.hid (below_then HB0.out hb)
  clear hb HH0 HB0
  have xz0 := (HH1.out _ (.tail _ (.tail _ (.head _)))).b.c0
  have xz1 := (HH1.out _ (.tail _ (.tail _ (.head _)))).b.c1
  have xy0 := (HH1.out _ (.tail _ (.head _))).b.c0
  have xy1 := (HH1.out _ (.tail _ (.head _))).b.c1
  have xx0 := (HH1.out _ (.head _)).b.c0
  have xx1 := (HH1.out _ (.head _)).b.c1
  go_wp2_with fail
  refine (checkN (HH1.out _ (.tail _ (.tail _ (.head _)))).m (HH1.out _ (.tail _ (.tail _ (.head _)))).l).mono ?_
  rintro e v2_ ⟨rfl, hb⟩
  have HH2 := Lib.hid (HH1.out.next hb)
  have HB2 := Lib.hid (below_then HB1.out hb)
  clear hb HH1 HB1
  clear xz0 xz1 xy0 xy1 xx0 xx1
  have xz0 := (HH2.out _ (.tail _ (.tail _ (.head _)))).b.c0
  have xz1 := (HH2.out _ (.tail _ (.tail _ (.head _)))).b.c1
  have xy0 := (HH2.out _ (.tail _ (.head _))).b.c0
  have xy1 := (HH2.out _ (.tail _ (.head _))).b.c1
  have xx0 := (HH2.out _ (.head _)).b.c0
  have xx1 := (HH2.out _ (.head _)).b.c1
  go_wp2_with fail
  refine (checkN (HH2.out _ (.tail _ (.head _))).m (HH2.out _ (.tail _ (.head _))).l).mono ?_
  rintro e v3_ ⟨rfl, hb⟩
  have HH3 := Lib.hid (HH2.out.next hb)
  have HB3 := Lib.hid (below_then HB2.out hb)
  clear hb HH2 HB2
  clear xz0 xz1 xy0 xy1 xx0 xx1
  have xz0 := (HH3.out _ (.tail _ (.tail _ (.head _)))).b.c0
  have xz1 := (HH3.out _ (.tail _ (.tail _ (.head _)))).b.c1
  have xy0 := (HH3.out _ (.tail _ (.head _))).b.c0
  have xy1 := (HH3.out _ (.tail _ (.head _))).b.c1
  have xx0 := (HH3.out _ (.head _)).b.c0
  have xx1 := (HH3.out _ (.head _)).b.c1
  go_wp2_with fail
  refine (checkN (HH3.out _ (.head _)).m (HH3.out _ (.head _)).l).mono ?_
  rintro e v4_ ⟨rfl, hb⟩
  have HH4 := Lib.hid (HH3.out.next hb)
  have HB4 := Lib.hid (below_then HB3.out hb)
  clear hb HH3 HB3
  clear xz0 xz1 xy0 xy1 xx0 xx1
  have xz0 := (HH4.out _ (.tail _ (.tail _ (.head _)))).b.c0
  have xz1 := (HH4.out _ (.tail _ (.tail _ (.head _)))).b.c1
  have xy0 := (HH4.out _ (.tail _ (.head _))).b.c0
  have xy1 := (HH4.out _ (.tail _ (.head _))).b.c1
  have xx0 := (HH4.out _ (.head _)).b.c0
  have xx1 := (HH4.out _ (.head _)).b.c1
  go_wp2_with fail
  refine (Eab.out ▸ addN (HH4.out _ (.tail _ (.tail _ (.head _)))).m (HH4.out _ (.tail _ (.head _))).m (HH4.out _ (.tail _ (.tail _ (.head _)))).l (HH4.out _ (.tail _ (.head _))).l).mono ?_
  rintro e v5_ ⟨N5, n5, d5, rfl, o5, hb⟩
  have HL := Lib.hid (Lab.out.len o5)
  have HH5 := Lib.hid ((HH4.out.next (below_then hb (bxb _ (zo (decide (ab < 0)) N5 n5 d5)))).cons (It.fresh o5 (by have := HL.out; omega)))
  have HB5 := Lib.hid (below_then HB4.out (below_then hb (bxb _ (zo (decide (ab < 0)) N5 n5 d5))))
  clear hb o5 HL HH4 HB4
  unfold zV zv
  clear xz0 xz1 xy0 xy1 xx0 xx1
  have xy0 := (HH5.out _ (.tail _ (.tail _ (.head _)))).b.c0
  have xy1 := (HH5.out _ (.tail _ (.tail _ (.head _)))).b.c1
  have xz0 := (HH5.out _ (.tail _ (.tail _ (.tail _ (.head _))))).b.c0
  have xz1 := (HH5.out _ (.tail _ (.tail _ (.tail _ (.head _))))).b.c1
  go_wp2_with fail
  refine (Eba.out ▸ addN (HH5.out _ (.tail _ (.tail _ (.head _)))).m (HH5.out _ (.tail _ (.tail _ (.tail _ (.head _))))).m (HH5.out _ (.tail _ (.tail _ (.head _)))).l (HH5.out _ (.tail _ (.tail _ (.tail _ (.head _))))).l).mono ?_
  rintro e v6_ ⟨N6, n6, d6, rfl, o6, hb⟩
  have HL := Lib.hid (Lba.out.len o6)
  have HH6 := Lib.hid ((HH5.out.next (below_then hb (bxb _ (zo (decide (ba < 0)) N6 n6 d6)))).cons (It.fresh o6 (by have := HL.out; omega)))
  have HB6 := Lib.hid (below_then HB5.out (below_then hb (bxb _ (zo (decide (ba < 0)) N6 n6 d6))))
  clear hb o6 HL HH5 HB5
  unfold zV zv
  clear xy0 xy1 xz0 xz1
  have xy0 := (HH6.out _ (.tail _ (.tail _ (.tail _ (.head _))))).b.c0
  have xy1 := (HH6.out _ (.tail _ (.tail _ (.tail _ (.head _))))).b.c1
  have xx0 := (HH6.out _ (.tail _ (.tail _ (.head _)))).b.c0
  have xx1 := (HH6.out _ (.tail _ (.tail _ (.head _)))).b.c1
  go_wp2_with fail
  refine (Ebc.out ▸ addN (HH6.out _ (.tail _ (.tail _ (.tail _ (.head _))))).m (HH6.out _ (.tail _ (.tail _ (.head _)))).m (HH6.out _ (.tail _ (.tail _ (.tail _ (.head _))))).l (HH6.out _ (.tail _ (.tail _ (.head _)))).l).mono ?_
  rintro e v7_ ⟨N7, n7, d7, rfl, o7, hb⟩
  have HL := Lib.hid (Lbc.out.len o7)
  have HH7 := Lib.hid ((HH6.out.next (below_then hb (bxb _ (zo (decide (bc < 0)) N7 n7 d7)))).cons (It.fresh o7 (by have := HL.out; omega)))
  have HB7 := Lib.hid (below_then HB6.out (below_then hb (bxb _ (zo (decide (bc < 0)) N7 n7 d7))))
  clear hb o7 HL HH6 HB6
  unfold zV zv
  clear xy0 xy1 xx0 xx1
  have xab0 := (HH7.out _ (.tail _ (.tail _ (.head _)))).b.c0
  have xab1 := (HH7.out _ (.tail _ (.tail _ (.head _)))).b.c1
  have xx0 := (HH7.out _ (.tail _ (.tail _ (.tail _ (.head _))))).b.c0
  have xx1 := (HH7.out _ (.tail _ (.tail _ (.tail _ (.head _))))).b.c1
  go_wp2_with fail
  refine (Eu1.out ▸ addN (HH7.out _ (.tail _ (.tail _ (.head _)))).m (HH7.out _ (.tail _ (.tail _ (.tail _ (.head _))))).m (HH7.out _ (.tail _ (.tail _ (.head _)))).l (HH7.out _ (.tail _ (.tail _ (.tail _ (.head _))))).l).mono ?_
  rintro e v8_ ⟨N8, n8, d8, rfl, o8, hb⟩
  have HL := Lib.hid (Lu1.out.len o8)
  have HH8 := Lib.hid ((HH7.out.next (below_then hb (bxb _ (zo (decide (u1 < 0)) N8 n8 d8)))).cons (It.fresh o8 (by have := HL.out; omega)))
  have HB8 := Lib.hid (below_then HB7.out (below_then hb (bxb _ (zo (decide (u1 < 0)) N8 n8 d8))))
  clear hb o8 HL HH7 HB7
  unfold zV zv
  clear xab0 xab1 xx0 xx1
  have xz0 := (HH8.out _ (.tail _ (.tail _ (.tail _ (.tail _ (.tail _ (.tail _ (.head _)))))))).b.c0
  have xz1 := (HH8.out _ (.tail _ (.tail _ (.tail _ (.tail _ (.tail _ (.tail _ (.head _)))))))).b.c1
  have xbc0 := (HH8.out _ (.tail _ (.head _))).b.c0
  have xbc1 := (HH8.out _ (.tail _ (.head _))).b.c1
  go_wp2_with fail
  refine (Eu2.out ▸ addN (HH8.out _ (.tail _ (.tail _ (.tail _ (.tail _ (.tail _ (.tail _ (.head _)))))))).m (HH8.out _ (.tail _ (.head _))).m (HH8.out _ (.tail _ (.tail _ (.tail _ (.tail _ (.tail _ (.tail _ (.head _)))))))).l (HH8.out _ (.tail _ (.head _))).l).mono ?_
  rintro e v9_ ⟨N9, n9, d9, rfl, o9, hb⟩
  have HL := Lib.hid (Lu2.out.len o9)
  have HH9 := Lib.hid ((HH8.out.next (below_then hb (bxb _ (zo (decide (u2 < 0)) N9 n9 d9)))).cons (It.fresh o9 (by have := HL.out; omega)))
  have HB9 := Lib.hid (below_then HB8.out (below_then hb (bxb _ (zo (decide (u2 < 0)) N9 n9 d9))))
  clear hb o9 HL HH8 HB8
  unfold zV zv
  clear xz0 xz1 xbc0 xbc1
  have xz0 := (HH9.out _ (.tail _ (.tail _ (.tail _ (.tail _ (.tail _ (.tail _ (.tail _ (.head _))))))))).b.c0
  have xz1 := (HH9.out _ (.tail _ (.tail _ (.tail _ (.tail _ (.tail _ (.tail _ (.tail _ (.head _))))))))).b.c1
  have xy0 := (HH9.out _ (.tail _ (.tail _ (.tail _ (.tail _ (.tail _ (.tail _ (.head _)))))))).b.c0
  have xy1 := (HH9.out _ (.tail _ (.tail _ (.tail _ (.tail _ (.tail _ (.tail _ (.head _)))))))).b.c1
  go_wp2_with fail
  refine (Ep.out ▸ mulN (HH9.out _ (.tail _ (.tail _ (.tail _ (.tail _ (.tail _ (.tail _ (.tail _ (.head _))))))))).m (HH9.out _ (.tail _ (.tail _ (.tail _ (.tail _ (.tail _ (.tail _ (.head _)))))))).m (HH9.out _ (.tail _ (.tail _ (.tail _ (.tail _ (.tail _ (.tail _ (.tail _ (.head _))))))))).l (HH9.out _ (.tail _ (.tail _ (.tail _ (.tail _ (.tail _ (.tail _ (.head _)))))))).l).mono ?_
  rintro e v10_ ⟨N10, n10, d10, rfl, o10, hb⟩
  have HL := Lib.hid (Lp.out.len o10)
  have HH10 := Lib.hid ((HH9.out.next (below_then hb (bxb _ (zo (decide (p < 0)) N10 n10 d10)))).cons (It.fresh o10 (by have := HL.out; omega)))
  have HB10 := Lib.hid (below_then HB9.out (below_then hb (bxb _ (zo (decide (p < 0)) N10 n10 d10))))
  clear hb o10 HL HH9 HB9
  unfold zV zv
  clear xz0 xz1 xy0 xy1
  have xy0 := (HH10.out _ (.tail _ (.tail _ (.tail _ (.tail _ (.tail _ (.tail _ (.tail _ (.head _))))))))).b.c0
  have xy1 := (HH10.out _ (.tail _ (.tail _ (.tail _ (.tail _ (.tail _ (.tail _ (.tail _ (.head _))))))))).b.c1
  have xz0 := (HH10.out _ (.tail _ (.tail _ (.tail _ (.tail _ (.tail _ (.tail _ (.tail _ (.tail _ (.head _)))))))))).b.c0
  have xz1 := (HH10.out _ (.tail _ (.tail _ (.tail _ (.tail _ (.tail _ (.tail _ (.tail _ (.tail _ (.head _)))))))))).b.c1
  go_wp2_with fail
  refine (Eq.out ▸ mulN (HH10.out _ (.tail _ (.tail _ (.tail _ (.tail _ (.tail _ (.tail _ (.tail _ (.head _))))))))).m (HH10.out _ (.tail _ (.tail _ (.tail _ (.tail _ (.tail _ (.tail _ (.tail _ (.tail _ (.head _)))))))))).m (HH10.out _ (.tail _ (.tail _ (.tail _ (.tail _ (.tail _ (.tail _ (.tail _ (.head _))))))))).l (HH10.out _ (.tail _ (.tail _ (.tail _ (.tail _ (.tail _ (.tail _ (.tail _ (.tail _ (.head _)))))))))).l).mono ?_
  rintro e v11_ ⟨N11, n11, d11, rfl, o11, hb⟩
  have HL := Lib.hid (Lq.out.len o11)
  have HH11 := Lib.hid ((HH10.out.next (below_then hb (bxb _ (zo (decide (q < 0)) N11 n11 d11)))).cons (It.fresh o11 (by have := HL.out; omega)))
  have HB11 := Lib.hid (below_then HB10.out (below_then hb (bxb _ (zo (decide (q < 0)) N11 n11 d11))))
  clear hb o11 HL HH10 HB10
  unfold zV zv
  clear xy0 xy1 xz0 xz1
  have xz0 := (HH11.out _ (.tail _ (.tail _ (.tail _ (.tail _ (.tail _ (.tail _ (.tail _ (.tail _ (.tail _ (.head _))))))))))).b.c0
  have xz1 := (HH11.out _ (.tail _ (.tail _ (.tail _ (.tail _ (.tail _ (.tail _ (.tail _ (.tail _ (.tail _ (.head _))))))))))).b.c1
  have xx0 := (HH11.out _ (.tail _ (.tail _ (.tail _ (.tail _ (.tail _ (.tail _ (.tail _ (.head _))))))))).b.c0
  have xx1 := (HH11.out _ (.tail _ (.tail _ (.tail _ (.tail _ (.tail _ (.tail _ (.tail _ (.head _))))))))).b.c1
  go_wp2_with fail
  refine (Eac.out ▸ mulN (HH11.out _ (.tail _ (.tail _ (.tail _ (.tail _ (.tail _ (.tail _ (.tail _ (.tail _ (.tail _ (.head _))))))))))).m (HH11.out _ (.tail _ (.tail _ (.tail _ (.tail _ (.tail _ (.tail _ (.tail _ (.head _))))))))).m (HH11.out _ (.tail _ (.tail _ (.tail _ (.tail _ (.tail _ (.tail _ (.tail _ (.tail _ (.tail _ (.head _))))))))))).l (HH11.out _ (.tail _ (.tail _ (.tail _ (.tail _ (.tail _ (.tail _ (.tail _ (.head _))))))))).l).mono ?_
  rintro e v12_ ⟨N12, n12, d12, rfl, o12, hb⟩
  have HL := Lib.hid (Lac.out.len o12)
  have HH12 := Lib.hid ((HH11.out.next (below_then hb (bxb _ (zo (decide (ac < 0)) N12 n12 d12)))).cons (It.fresh o12 (by have := HL.out; omega)))
  have HB12 := Lib.hid (below_then HB11.out (below_then hb (bxb _ (zo (decide (ac < 0)) N12 n12 d12))))
  clear hb o12 HL HH11 HB11
  unfold zV zv
  clear xz0 xz1 xx0 xx1
  have xz0 := (HH12.out _ (.tail _ (.tail _ (.tail _ (.tail _ (.tail _ (.tail _ (.tail _ (.tail _ (.tail _ (.tail _ (.head _)))))))))))).b.c0
  have xz1 := (HH12.out _ (.tail _ (.tail _ (.tail _ (.tail _ (.tail _ (.tail _ (.tail _ (.tail _ (.tail _ (.tail _ (.head _)))))))))))).b.c1
  have xbc0 := (HH12.out _ (.tail _ (.tail _ (.tail _ (.tail _ (.tail _ (.head _))))))).b.c0
  have xbc1 := (HH12.out _ (.tail _ (.tail _ (.tail _ (.tail _ (.tail _ (.head _))))))).b.c1
  go_wp2_with fail
  refine (Eu.out ▸ mulN (HH12.out _ (.tail _ (.tail _ (.tail _ (.tail _ (.tail _ (.tail _ (.tail _ (.tail _ (.tail _ (.tail _ (.head _)))))))))))).m (HH12.out _ (.tail _ (.tail _ (.tail _ (.tail _ (.tail _ (.head _))))))).m (HH12.out _ (.tail _ (.tail _ (.tail _ (.tail _ (.tail _ (.tail _ (.tail _ (.tail _ (.tail _ (.tail _ (.head _)))))))))))).l (HH12.out _ (.tail _ (.tail _ (.tail _ (.tail _ (.tail _ (.head _))))))).l).mono ?_
  rintro e v13_ ⟨N13, n13, d13, rfl, o13, hb⟩
  have HL := Lib.hid (Lu.out.len o13)
  have HH13 := Lib.hid ((HH12.out.next (below_then hb (bxb _ (zo (decide (u < 0)) N13 n13 d13)))).cons (It.fresh o13 (by have := HL.out; omega)))
  have HB13 := Lib.hid (below_then HB12.out (below_then hb (bxb _ (zo (decide (u < 0)) N13 n13 d13))))
  clear hb o13 HL HH12 HB12
  unfold zV zv
  clear xz0 xz1 xbc0 xbc1
  have xp0 := (HH13.out _ (.tail _ (.tail _ (.tail _ (.head _))))).b.c0
  have xp1 := (HH13.out _ (.tail _ (.tail _ (.tail _ (.head _))))).b.c1
  have xac0 := (HH13.out _ (.tail _ (.head _))).b.c0
  have xac1 := (HH13.out _ (.tail _ (.head _))).b.c1
  go_wp2_with fail
  refine (Ev.out ▸ addN (HH13.out _ (.tail _ (.tail _ (.tail _ (.head _))))).m (HH13.out _ (.tail _ (.head _))).m (HH13.out _ (.tail _ (.tail _ (.tail _ (.head _))))).l (HH13.out _ (.tail _ (.head _))).l).mono ?_
  rintro e v14_ ⟨N14, n14, d14, rfl, o14, hb⟩
  have HL := Lib.hid (Lv.out.len o14)
  have HH14 := Lib.hid ((HH13.out.next (below_then hb (bxb _ (zo (decide (v < 0)) N14 n14 d14)))).cons (It.fresh o14 (by have := HL.out; omega)))
  have HB14 := Lib.hid (below_then HB13.out (below_then hb (bxb _ (zo (decide (v < 0)) N14 n14 d14))))
  clear hb o14 HL HH13 HB13
  unfold zV zv
  clear xp0 xp1 xac0 xac1
  have xy0 := (HH14.out _ (.tail _ (.tail _ (.tail _ (.tail _ (.tail _ (.tail _ (.tail _ (.tail _ (.tail _ (.tail _ (.tail _ (.head _))))))))))))).b.c0
  have xy1 := (HH14.out _ (.tail _ (.tail _ (.tail _ (.tail _ (.tail _ (.tail _ (.tail _ (.tail _ (.tail _ (.tail _ (.tail _ (.head _))))))))))))).b.c1
  have xx0 := (HH14.out _ (.tail _ (.tail _ (.tail _ (.tail _ (.tail _ (.tail _ (.tail _ (.tail _ (.tail _ (.tail _ (.head _)))))))))))).b.c0
  have xx1 := (HH14.out _ (.tail _ (.tail _ (.tail _ (.tail _ (.tail _ (.tail _ (.tail _ (.tail _ (.tail _ (.tail _ (.head _)))))))))))).b.c1
  go_wp2_with fail
  refine (Em.out ▸ mulN (HH14.out _ (.tail _ (.tail _ (.tail _ (.tail _ (.tail _ (.tail _ (.tail _ (.tail _ (.tail _ (.tail _ (.tail _ (.head _))))))))))))).m (HH14.out _ (.tail _ (.tail _ (.tail _ (.tail _ (.tail _ (.tail _ (.tail _ (.tail _ (.tail _ (.tail _ (.head _)))))))))))).m (HH14.out _ (.tail _ (.tail _ (.tail _ (.tail _ (.tail _ (.tail _ (.tail _ (.tail _ (.tail _ (.tail _ (.tail _ (.head _))))))))))))).l (HH14.out _ (.tail _ (.tail _ (.tail _ (.tail _ (.tail _ (.tail _ (.tail _ (.tail _ (.tail _ (.tail _ (.head _)))))))))))).l).mono ?_
  rintro e v15_ ⟨N15, n15, d15, rfl, o15, hb⟩
  have HL := Lib.hid (Lm.out.len o15)
  have HH15 := Lib.hid ((HH14.out.next (below_then hb (bxb _ (zo (decide (m < 0)) N15 n15 d15)))).cons (It.fresh o15 (by have := HL.out; omega)))
  have HB15 := Lib.hid (below_then HB14.out (below_then hb (bxb _ (zo (decide (m < 0)) N15 n15 d15))))
  clear hb o15 HL HH14 HB14
  unfold zV zv
  clear xy0 xy1 xx0 xx1
  have xp0 := (HH15.out _ (.tail _ (.tail _ (.tail _ (.tail _ (.tail _ (.head _))))))).b.c0
  have xp1 := (HH15.out _ (.tail _ (.tail _ (.tail _ (.tail _ (.tail _ (.head _))))))).b.c1
  have xx0 := (HH15.out _ (.tail _ (.tail _ (.tail _ (.tail _ (.tail _ (.tail _ (.tail _ (.tail _ (.tail _ (.tail _ (.tail _ (.head _))))))))))))).b.c0
  have xx1 := (HH15.out _ (.tail _ (.tail _ (.tail _ (.tail _ (.tail _ (.tail _ (.tail _ (.tail _ (.tail _ (.tail _ (.tail _ (.head _))))))))))))).b.c1
  go_wp2_with fail
  refine (En.out ▸ mulN (HH15.out _ (.tail _ (.tail _ (.tail _ (.tail _ (.tail _ (.head _))))))).m (HH15.out _ (.tail _ (.tail _ (.tail _ (.tail _ (.tail _ (.tail _ (.tail _ (.tail _ (.tail _ (.tail _ (.tail _ (.head _))))))))))))).m (HH15.out _ (.tail _ (.tail _ (.tail _ (.tail _ (.tail _ (.head _))))))).l (HH15.out _ (.tail _ (.tail _ (.tail _ (.tail _ (.tail _ (.tail _ (.tail _ (.tail _ (.tail _ (.tail _ (.tail _ (.head _))))))))))))).l).mono ?_
  rintro e v16_ ⟨N16, n16, d16, rfl, o16, hb⟩
  have HL := Lib.hid (Ln.out.len o16)
  have HH16 := Lib.hid ((HH15.out.next (below_then hb (bxb _ (zo (decide (n < 0)) N16 n16 d16)))).cons (It.fresh o16 (by have := HL.out; omega)))
  have HB16 := Lib.hid (below_then HB15.out (below_then hb (bxb _ (zo (decide (n < 0)) N16 n16 d16))))
  clear hb o16 HL HH15 HB15
  unfold zV zv
  clear xp0 xp1 xx0 xx1
  have xz0 := (HH16.out _ (.tail _ (.tail _ (.tail _ (.tail _ (.tail _ (.tail _ (.tail _ (.tail _ (.tail _ (.tail _ (.tail _ (.tail _ (.tail _ (.tail _ (.head _)))))))))))))))).b.c0
  have xz1 := (HH16.out _ (.tail _ (.tail _ (.tail _ (.tail _ (.tail _ (.tail _ (.tail _ (.tail _ (.tail _ (.tail _ (.tail _ (.tail _ (.tail _ (.tail _ (.head _)))))))))))))))).b.c1
  have xm0 := (HH16.out _ (.tail _ (.head _))).b.c0
  have xm1 := (HH16.out _ (.tail _ (.head _))).b.c1
  go_wp2_with fail
  refine (Eo.out ▸ mulN (HH16.out _ (.tail _ (.tail _ (.tail _ (.tail _ (.tail _ (.tail _ (.tail _ (.tail _ (.tail _ (.tail _ (.tail _ (.tail _ (.tail _ (.tail _ (.head _)))))))))))))))).m (HH16.out _ (.tail _ (.head _))).m (HH16.out _ (.tail _ (.tail _ (.tail _ (.tail _ (.tail _ (.tail _ (.tail _ (.tail _ (.tail _ (.tail _ (.tail _ (.tail _ (.tail _ (.tail _ (.head _)))))))))))))))).l (HH16.out _ (.tail _ (.head _))).l).mono ?_
  rintro e v17_ ⟨N17, n17, d17, rfl, o17, hb⟩
  have HL := Lib.hid (Lo.out.len o17)
  have HH17 := Lib.hid ((HH16.out.next (below_then hb (bxb _ (zo (decide (o < 0)) N17 n17 d17)))).cons (It.fresh o17 (by have := HL.out; omega)))
  have HB17 := Lib.hid (below_then HB16.out (below_then hb (bxb _ (zo (decide (o < 0)) N17 n17 d17))))
  clear hb o17 HL HH16 HB16
  unfold zV zv
  clear xz0 xz1 xm0 xm1
  have xab0 := (HH17.out _ (.tail _ (.tail _ (.tail _ (.tail _ (.tail _ (.tail _ (.tail _ (.tail _ (.tail _ (.tail _ (.tail _ (.tail _ (.head _)))))))))))))).b.c0
  have xab1 := (HH17.out _ (.tail _ (.tail _ (.tail _ (.tail _ (.tail _ (.tail _ (.tail _ (.tail _ (.tail _ (.tail _ (.tail _ (.tail _ (.head _)))))))))))))).b.c1
  have xy0 := (HH17.out _ (.tail _ (.tail _ (.tail _ (.tail _ (.tail _ (.tail _ (.tail _ (.tail _ (.tail _ (.tail _ (.tail _ (.tail _ (.tail _ (.tail _ (.head _)))))))))))))))).b.c0
  have xy1 := (HH17.out _ (.tail _ (.tail _ (.tail _ (.tail _ (.tail _ (.tail _ (.tail _ (.tail _ (.tail _ (.tail _ (.tail _ (.tail _ (.tail _ (.tail _ (.head _)))))))))))))))).b.c1
  go_wp2_with fail
  refine (Ebk.out ▸ subN (HH17.out _ (.tail _ (.tail _ (.tail _ (.tail _ (.tail _ (.tail _ (.tail _ (.tail _ (.tail _ (.tail _ (.tail _ (.tail _ (.head _)))))))))))))).m (HH17.out _ (.tail _ (.tail _ (.tail _ (.tail _ (.tail _ (.tail _ (.tail _ (.tail _ (.tail _ (.tail _ (.tail _ (.tail _ (.tail _ (.tail _ (.head _)))))))))))))))).m (HH17.out _ (.tail _ (.tail _ (.tail _ (.tail _ (.tail _ (.tail _ (.tail _ (.tail _ (.tail _ (.tail _ (.tail _ (.tail _ (.head _)))))))))))))).l (HH17.out _ (.tail _ (.tail _ (.tail _ (.tail _ (.tail _ (.tail _ (.tail _ (.tail _ (.tail _ (.tail _ (.tail _ (.tail _ (.tail _ (.tail _ (.head _)))))))))))))))).l).mono ?_
  rintro e v18_ ⟨N18, n18, d18, rfl, o18, hb⟩
  have HL := Lib.hid (Lbk.out.len o18)
  have HH18 := Lib.hid ((HH17.out.next (below_then hb (bxb _ (zo (decide (bk < 0)) N18 n18 d18)))).cons (It.fresh o18 (by have := HL.out; omega)))
  have HB18 := Lib.hid (below_then HB17.out (below_then hb (bxb _ (zo (decide (bk < 0)) N18 n18 d18))))
  clear hb o18 HL HH17 HB17
  unfold zV zv
  clear xab0 xab1 xy0 xy1
  have xz0 := (HH18.out _ (.tail _ (.tail _ (.tail _ (.tail _ (.tail _ (.tail _ (.tail _ (.tail _ (.tail _ (.tail _ (.tail _ (.tail _ (.tail _ (.tail _ (.tail _ (.tail _ (.head _)))))))))))))))))).b.c0
  have xz1 := (HH18.out _ (.tail _ (.tail _ (.tail _ (.tail _ (.tail _ (.tail _ (.tail _ (.tail _ (.tail _ (.tail _ (.tail _ (.tail _ (.tail _ (.tail _ (.tail _ (.tail _ (.head _)))))))))))))))))).b.c1
  go_wp2_with fail
  refine (Eng.out ▸ negN (HH18.out _ (.tail _ (.tail _ (.tail _ (.tail _ (.tail _ (.tail _ (.tail _ (.tail _ (.tail _ (.tail _ (.tail _ (.tail _ (.tail _ (.tail _ (.tail _ (.tail _ (.head _)))))))))))))))))).m (HH18.out _ (.tail _ (.tail _ (.tail _ (.tail _ (.tail _ (.tail _ (.tail _ (.tail _ (.tail _ (.tail _ (.tail _ (.tail _ (.tail _ (.tail _ (.tail _ (.tail _ (.head _)))))))))))))))))).l).mono ?_
  rintro e v19_ ⟨N19, n19, d19, rfl, o19, hb⟩
  have HL := Lib.hid (Lng.out.len o19)
  have HH19 := Lib.hid ((HH18.out.next (below_then hb (bxb _ (zo (decide (ng < 0)) N19 n19 d19)))).cons (It.fresh o19 (by have := HL.out; omega)))
  have HB19 := Lib.hid (below_then HB18.out (below_then hb (bxb _ (zo (decide (ng < 0)) N19 n19 d19))))
  clear hb o19 HL HH18 HB18
  unfold zV zv
  clear xz0 xz1
  have xz0 := (HH19.out _ (.tail _ (.tail _ (.tail _ (.tail _ (.tail _ (.tail _ (.tail _ (.tail _ (.tail _ (.tail _ (.tail _ (.tail _ (.tail _ (.tail _ (.tail _ (.tail _ (.tail _ (.head _))))))))))))))))))).b.c0
  have xz1 := (HH19.out _ (.tail _ (.tail _ (.tail _ (.tail _ (.tail _ (.tail _ (.tail _ (.tail _ (.tail _ (.tail _ (.tail _ (.tail _ (.tail _ (.tail _ (.tail _ (.tail _ (.tail _ (.head _))))))))))))))))))).b.c1
  have xng0 := (HH19.out _ (.head _)).b.c0
  have xng1 := (HH19.out _ (.head _)).b.c1
  go_wp2_with fail
  refine (Enn.out ▸ addN (HH19.out _ (.tail _ (.tail _ (.tail _ (.tail _ (.tail _ (.tail _ (.tail _ (.tail _ (.tail _ (.tail _ (.tail _ (.tail _ (.tail _ (.tail _ (.tail _ (.tail _ (.tail _ (.head _))))))))))))))))))).m (HH19.out _ (.head _)).m (HH19.out _ (.tail _ (.tail _ (.tail _ (.tail _ (.tail _ (.tail _ (.tail _ (.tail _ (.tail _ (.tail _ (.tail _ (.tail _ (.tail _ (.tail _ (.tail _ (.tail _ (.tail _ (.head _))))))))))))))))))).l (HH19.out _ (.head _)).l).mono ?_
  rintro e v20_ ⟨N20, n20, d20, rfl, o20, hb⟩
  have HL := Lib.hid (Lnn.out.len o20)
  have HH20 := Lib.hid ((HH19.out.next (below_then hb (bxb _ (zo (decide (nn < 0)) N20 n20 d20)))).cons (It.fresh o20 (by have := HL.out; omega)))
  have HB20 := Lib.hid (below_then HB19.out (below_then hb (bxb _ (zo (decide (nn < 0)) N20 n20 d20))))
  clear hb o20 HL HH19 HB19
  unfold zV zv
  clear xz0 xz1 xng0 xng1
  have xab0 := (HH20.out _ (.tail _ (.tail _ (.tail _ (.tail _ (.tail _ (.tail _ (.tail _ (.tail _ (.tail _ (.tail _ (.tail _ (.tail _ (.tail _ (.tail _ (.tail _ (.head _))))))))))))))))).b.c0
  have xab1 := (HH20.out _ (.tail _ (.tail _ (.tail _ (.tail _ (.tail _ (.tail _ (.tail _ (.tail _ (.tail _ (.tail _ (.tail _ (.tail _ (.tail _ (.tail _ (.tail _ (.head _))))))))))))))))).b.c1
  have xba0 := (HH20.out _ (.tail _ (.tail _ (.tail _ (.tail _ (.tail _ (.tail _ (.tail _ (.tail _ (.tail _ (.tail _ (.tail _ (.tail _ (.tail _ (.tail _ (.head _)))))))))))))))).b.c0
  have xba1 := (HH20.out _ (.tail _ (.tail _ (.tail _ (.tail _ (.tail _ (.tail _ (.tail _ (.tail _ (.tail _ (.tail _ (.tail _ (.tail _ (.tail _ (.tail _ (.head _)))))))))))))))).b.c1
  go_wp2_with fail
  refine (sameT (HH20.out _ (.tail _ (.tail _ (.tail _ (.tail _ (.tail _ (.tail _ (.tail _ (.tail _ (.tail _ (.tail _ (.tail _ (.tail _ (.tail _ (.tail _ (.tail _ (.head _))))))))))))))))).m (HH20.out _ (.tail _ (.tail _ (.tail _ (.tail _ (.tail _ (.tail _ (.tail _ (.tail _ (.tail _ (.tail _ (.tail _ (.tail _ (.tail _ (.tail _ (.head _)))))))))))))))).m (HH20.out _ (.tail _ (.tail _ (.tail _ (.tail _ (.tail _ (.tail _ (.tail _ (.tail _ (.tail _ (.tail _ (.tail _ (.tail _ (.tail _ (.tail _ (.tail _ (.head _))))))))))))))))).l (HH20.out _ (.tail _ (.tail _ (.tail _ (.tail _ (.tail _ (.tail _ (.tail _ (.tail _ (.tail _ (.tail _ (.tail _ (.tail _ (.tail _ (.tail _ (.head _)))))))))))))))).l Q.out.1).mono ?_
  rintro e v21_ ⟨rfl, hb⟩
  have HH21 := Lib.hid (HH20.out.next hb)
  have HB21 := Lib.hid (below_then HB20.out hb)
  clear hb HH20 HB20
  clear xab0 xab1 xba0 xba1
  have xu10 := (HH21.out _ (.tail _ (.tail _ (.tail _ (.tail _ (.tail _ (.tail _ (.tail _ (.tail _ (.tail _ (.tail _ (.tail _ (.tail _ (.head _)))))))))))))).b.c0
  have xu11 := (HH21.out _ (.tail _ (.tail _ (.tail _ (.tail _ (.tail _ (.tail _ (.tail _ (.tail _ (.tail _ (.tail _ (.tail _ (.tail _ (.head _)))))))))))))).b.c1
  have xu20 := (HH21.out _ (.tail _ (.tail _ (.tail _ (.tail _ (.tail _ (.tail _ (.tail _ (.tail _ (.tail _ (.tail _ (.tail _ (.head _))))))))))))).b.c0
  have xu21 := (HH21.out _ (.tail _ (.tail _ (.tail _ (.tail _ (.tail _ (.tail _ (.tail _ (.tail _ (.tail _ (.tail _ (.tail _ (.head _))))))))))))).b.c1
  go_wp2_with fail
  refine (sameT (HH21.out _ (.tail _ (.tail _ (.tail _ (.tail _ (.tail _ (.tail _ (.tail _ (.tail _ (.tail _ (.tail _ (.tail _ (.tail _ (.head _)))))))))))))).m (HH21.out _ (.tail _ (.tail _ (.tail _ (.tail _ (.tail _ (.tail _ (.tail _ (.tail _ (.tail _ (.tail _ (.tail _ (.head _))))))))))))).m (HH21.out _ (.tail _ (.tail _ (.tail _ (.tail _ (.tail _ (.tail _ (.tail _ (.tail _ (.tail _ (.tail _ (.tail _ (.tail _ (.head _)))))))))))))).l (HH21.out _ (.tail _ (.tail _ (.tail _ (.tail _ (.tail _ (.tail _ (.tail _ (.tail _ (.tail _ (.tail _ (.tail _ (.head _))))))))))))).l Q.out.2.1).mono ?_
  rintro e v22_ ⟨rfl, hb⟩
  have HH22 := Lib.hid (HH21.out.next hb)
  have HB22 := Lib.hid (below_then HB21.out hb)
  clear hb HH21 HB21
  clear xu10 xu11 xu20 xu21
  have xp0 := (HH22.out _ (.tail _ (.tail _ (.tail _ (.tail _ (.tail _ (.tail _ (.tail _ (.tail _ (.tail _ (.tail _ (.head _)))))))))))).b.c0
  have xp1 := (HH22.out _ (.tail _ (.tail _ (.tail _ (.tail _ (.tail _ (.tail _ (.tail _ (.tail _ (.tail _ (.tail _ (.head _)))))))))))).b.c1
  have xq0 := (HH22.out _ (.tail _ (.tail _ (.tail _ (.tail _ (.tail _ (.tail _ (.tail _ (.tail _ (.tail _ (.head _))))))))))).b.c0
  have xq1 := (HH22.out _ (.tail _ (.tail _ (.tail _ (.tail _ (.tail _ (.tail _ (.tail _ (.tail _ (.tail _ (.head _))))))))))).b.c1
  go_wp2_with fail
  refine (sameT (HH22.out _ (.tail _ (.tail _ (.tail _ (.tail _ (.tail _ (.tail _ (.tail _ (.tail _ (.tail _ (.tail _ (.head _)))))))))))).m (HH22.out _ (.tail _ (.tail _ (.tail _ (.tail _ (.tail _ (.tail _ (.tail _ (.tail _ (.tail _ (.head _))))))))))).m (HH22.out _ (.tail _ (.tail _ (.tail _ (.tail _ (.tail _ (.tail _ (.tail _ (.tail _ (.tail _ (.tail _ (.head _)))))))))))).l (HH22.out _ (.tail _ (.tail _ (.tail _ (.tail _ (.tail _ (.tail _ (.tail _ (.tail _ (.tail _ (.head _))))))))))).l Q.out.2.2.1).mono ?_
  rintro e v23_ ⟨rfl, hb⟩
  have HH23 := Lib.hid (HH22.out.next hb)
  have HB23 := Lib.hid (below_then HB22.out hb)
  clear hb HH22 HB22
  clear xp0 xp1 xq0 xq1
  have xu0 := (HH23.out _ (.tail _ (.tail _ (.tail _ (.tail _ (.tail _ (.tail _ (.tail _ (.head _))))))))).b.c0
  have xu1 := (HH23.out _ (.tail _ (.tail _ (.tail _ (.tail _ (.tail _ (.tail _ (.tail _ (.head _))))))))).b.c1
  have xv0 := (HH23.out _ (.tail _ (.tail _ (.tail _ (.tail _ (.tail _ (.tail _ (.head _)))))))).b.c0
  have xv1 := (HH23.out _ (.tail _ (.tail _ (.tail _ (.tail _ (.tail _ (.tail _ (.head _)))))))).b.c1
  go_wp2_with fail
  refine (sameT (HH23.out _ (.tail _ (.tail _ (.tail _ (.tail _ (.tail _ (.tail _ (.tail _ (.head _))))))))).m (HH23.out _ (.tail _ (.tail _ (.tail _ (.tail _ (.tail _ (.tail _ (.head _)))))))).m (HH23.out _ (.tail _ (.tail _ (.tail _ (.tail _ (.tail _ (.tail _ (.tail _ (.head _))))))))).l (HH23.out _ (.tail _ (.tail _ (.tail _ (.tail _ (.tail _ (.tail _ (.head _)))))))).l Q.out.2.2.2.1).mono ?_
  rintro e v24_ ⟨rfl, hb⟩
  have HH24 := Lib.hid (HH23.out.next hb)
  have HB24 := Lib.hid (below_then HB23.out hb)
  clear hb HH23 HB23
  clear xu0 xu1 xv0 xv1
  have xn0 := (HH24.out _ (.tail _ (.tail _ (.tail _ (.tail _ (.head _)))))).b.c0
  have xn1 := (HH24.out _ (.tail _ (.tail _ (.tail _ (.tail _ (.head _)))))).b.c1
  have xo0 := (HH24.out _ (.tail _ (.tail _ (.tail _ (.head _))))).b.c0
  have xo1 := (HH24.out _ (.tail _ (.tail _ (.tail _ (.head _))))).b.c1
  go_wp2_with fail
  refine (sameT (HH24.out _ (.tail _ (.tail _ (.tail _ (.tail _ (.head _)))))).m (HH24.out _ (.tail _ (.tail _ (.tail _ (.head _))))).m (HH24.out _ (.tail _ (.tail _ (.tail _ (.tail _ (.head _)))))).l (HH24.out _ (.tail _ (.tail _ (.tail _ (.head _))))).l Q.out.2.2.2.2.1).mono ?_
  rintro e v25_ ⟨rfl, hb⟩
  have HH25 := Lib.hid (HH24.out.next hb)
  have HB25 := Lib.hid (below_then HB24.out hb)
  clear hb HH24 HB24
  clear xn0 xn1 xo0 xo1
  have xbk0 := (HH25.out _ (.tail _ (.tail _ (.head _)))).b.c0
  have xbk1 := (HH25.out _ (.tail _ (.tail _ (.head _)))).b.c1
  have xz0 := (HH25.out _ (.tail _ (.tail _ (.tail _ (.tail _ (.tail _ (.tail _ (.tail _ (.tail _ (.tail _ (.tail _ (.tail _ (.tail _ (.tail _ (.tail _ (.tail _ (.tail _ (.tail _ (.tail _ (.head _)))))))))))))))))))).b.c0
  have xz1 := (HH25.out _ (.tail _ (.tail _ (.tail _ (.tail _ (.tail _ (.tail _ (.tail _ (.tail _ (.tail _ (.tail _ (.tail _ (.tail _ (.tail _ (.tail _ (.tail _ (.tail _ (.tail _ (.tail _ (.head _)))))))))))))))))))).b.c1
  go_wp2_with fail
  refine (sameT (HH25.out _ (.tail _ (.tail _ (.head _)))).m (HH25.out _ (.tail _ (.tail _ (.tail _ (.tail _ (.tail _ (.tail _ (.tail _ (.tail _ (.tail _ (.tail _ (.tail _ (.tail _ (.tail _ (.tail _ (.tail _ (.tail _ (.tail _ (.tail _ (.head _)))))))))))))))))))).m (HH25.out _ (.tail _ (.tail _ (.head _)))).l (HH25.out _ (.tail _ (.tail _ (.tail _ (.tail _ (.tail _ (.tail _ (.tail _ (.tail _ (.tail _ (.tail _ (.tail _ (.tail _ (.tail _ (.tail _ (.tail _ (.tail _ (.tail _ (.tail _ (.head _)))))))))))))))))))).l Q.out.2.2.2.2.2.1).mono ?_
  rintro e v26_ ⟨rfl, hb⟩
  have HH26 := Lib.hid (HH25.out.next hb)
  have HB26 := Lib.hid (below_then HB25.out hb)
  clear hb HH25 HB25
  clear xbk0 xbk1 xz0 xz1
  have xab0 := (HH26.out _ (.tail _ (.tail _ (.tail _ (.tail _ (.tail _ (.tail _ (.tail _ (.tail _ (.tail _ (.tail _ (.tail _ (.tail _ (.tail _ (.tail _ (.tail _ (.head _))))))))))))))))).b.c0
  have xab1 := (HH26.out _ (.tail _ (.tail _ (.tail _ (.tail _ (.tail _ (.tail _ (.tail _ (.tail _ (.tail _ (.tail _ (.tail _ (.tail _ (.tail _ (.tail _ (.tail _ (.head _))))))))))))))))).b.c1
  have xp0 := (HH26.out _ (.tail _ (.tail _ (.tail _ (.tail _ (.tail _ (.tail _ (.tail _ (.tail _ (.tail _ (.tail _ (.head _)))))))))))).b.c0
  have xp1 := (HH26.out _ (.tail _ (.tail _ (.tail _ (.tail _ (.tail _ (.tail _ (.tail _ (.tail _ (.tail _ (.tail _ (.head _)))))))))))).b.c1
  have xnn0 := (HH26.out _ (.head _)).b.c0
  have xnn1 := (HH26.out _ (.head _)).b.c1
  go_wp2_with fail
  refine (sameT0 (HH26.out _ (.head _)).m (HH26.out _ (.head _)).l Q.out.2.2.2.2.2.2).mono ?_
  rintro e v27_ ⟨rfl, hb⟩
  have HH27 := Lib.hid (HH26.out.next hb)
  have HB27 := Lib.hid (below_then HB26.out hb)
  clear hb HH26 HB26
  clear xab0 xab1 xp0 xp1 xnn0 xnn1
  have xab0 := (HH27.out _ (.tail _ (.tail _ (.tail _ (.tail _ (.tail _ (.tail _ (.tail _ (.tail _ (.tail _ (.tail _ (.tail _ (.tail _ (.tail _ (.tail _ (.tail _ (.head _))))))))))))))))).b.c0
  have xab1 := (HH27.out _ (.tail _ (.tail _ (.tail _ (.tail _ (.tail _ (.tail _ (.tail _ (.tail _ (.tail _ (.tail _ (.tail _ (.tail _ (.tail _ (.tail _ (.tail _ (.head _))))))))))))))))).b.c1
  have xp0 := (HH27.out _ (.tail _ (.tail _ (.tail _ (.tail _ (.tail _ (.tail _ (.tail _ (.tail _ (.tail _ (.tail _ (.head _)))))))))))).b.c0
  have xp1 := (HH27.out _ (.tail _ (.tail _ (.tail _ (.tail _ (.tail _ (.tail _ (.tail _ (.tail _ (.tail _ (.tail _ (.head _)))))))))))).b.c1
  go_wp2_with fail
  refine (checkN (HH27.out _ (.tail _ (.tail _ (.tail _ (.tail _ (.tail _ (.tail _ (.tail _ (.tail _ (.tail _ (.tail _ (.tail _ (.tail _ (.tail _ (.tail _ (.tail _ (.head _))))))))))))))))).m (HH27.out _ (.tail _ (.tail _ (.tail _ (.tail _ (.tail _ (.tail _ (.tail _ (.tail _ (.tail _ (.tail _ (.tail _ (.tail _ (.tail _ (.tail _ (.tail _ (.head _))))))))))))))))).l).mono ?_
  rintro e v28_ ⟨rfl, hb⟩
  have HH28 := Lib.hid (HH27.out.next hb)
  have HB28 := Lib.hid (below_then HB27.out hb)
  clear hb HH27 HB27
  clear xab0 xab1 xp0 xp1
  have xab0 := (HH28.out _ (.tail _ (.tail _ (.tail _ (.tail _ (.tail _ (.tail _ (.tail _ (.tail _ (.tail _ (.tail _ (.tail _ (.tail _ (.tail _ (.tail _ (.tail _ (.head _))))))))))))))))).b.c0
  have xab1 := (HH28.out _ (.tail _ (.tail _ (.tail _ (.tail _ (.tail _ (.tail _ (.tail _ (.tail _ (.tail _ (.tail _ (.tail _ (.tail _ (.tail _ (.tail _ (.tail _ (.head _))))))))))))))))).b.c1
  have xp0 := (HH28.out _ (.tail _ (.tail _ (.tail _ (.tail _ (.tail _ (.tail _ (.tail _ (.tail _ (.tail _ (.tail _ (.head _)))))))))))).b.c0
  have xp1 := (HH28.out _ (.tail _ (.tail _ (.tail _ (.tail _ (.tail _ (.tail _ (.tail _ (.tail _ (.tail _ (.tail _ (.head _)))))))))))).b.c1
  go_wp2_with fail
  refine (checkN (HH28.out _ (.tail _ (.tail _ (.tail _ (.tail _ (.tail _ (.tail _ (.tail _ (.tail _ (.tail _ (.tail _ (.head _)))))))))))).m (HH28.out _ (.tail _ (.tail _ (.tail _ (.tail _ (.tail _ (.tail _ (.tail _ (.tail _ (.tail _ (.tail _ (.head _)))))))))))).l).mono ?_
  rintro e v29_ ⟨rfl, hb⟩
  have HH29 := Lib.hid (HH28.out.next hb)
  have HB29 := Lib.hid (below_then HB28.out hb)
  clear hb HH28 HB28
  clear xab0 xab1 xp0 xp1
  go_wp2
  go_ret
  exact ⟨by simp, HB29.out⟩
/-- The world behind three boxes. -/
structure Thr (w W : World) (p : Bool) (A : Option Addr) (na ca : Nat) (q : Bool) (A2 : Option Addr) (nb cb : Nat) (r : Bool) (A3 : Option Addr) (nc cc : Nat) : Prop where
  t : Two w W p A na ca q A2 nb cb
  z : BoxZ W (w.heap.size + 1 + 1) r A3 nc cc
theorem Thr.next {w W W' : World} {p : Bool} {A : Option Addr} {na ca : Nat} {q : Bool} {A2 : Option Addr} {nb cb : Nat} {r : Bool} {A3 : Option Addr} {nc cc : Nat} (h : Thr w W p A na ca q A2 nb cb r A3 nc cc) (hb : Below W.heap.size W W') : Thr w W' p A na ca q A2 nb cb r A3 nc cc :=
  ⟨h.t.next hb, h.z.below hb (Array.getElem?_eq_some_iff.1 h.z).1⟩
theorem thr_box (w : World) (p : Bool) (A : Option Addr) (na ca : Nat) (q : Bool) (A2 : Option Addr) (nb cb : Nat) (r : Bool) (A3 : Option Addr) (nc cc : Nat) : Thr w (((w.alloc (zo p A na ca)).alloc (zo q A2 nb cb)).alloc (zo r A3 nc cc)) p A na ca q A2 nb cb r A3 nc cc := by
  refine ⟨(two_box w p A na ca q A2 nb cb).next (bxb _ _), ?_⟩
  have h := World.alloc_heap_new ((w.alloc (zo p A na ca)).alloc (zo q A2 nb cb)) (zo r A3 nc cc)
  rw [World.size_alloc, World.size_alloc] at h
  exact h
section
variable (A A2 A3 : Option Addr) (na ca nb cb nc cc : Nat) (p q r : Bool) (a b c : List Nat) (w : World)
set_option maxRecDepth 100000 in
set_option maxHeartbeats 4000000 in
theorem ringZ_bad (h : Z2 w A A2 na ca nb cb a b) (h3 : Z1 w A3 nc cc c) (l1 : na ≤ 50) (l2 : nb ≤ 50) (l3 : nc ≤ 50) (hm : ¬ (mayZ p a = true ∧ mayZ q b = true ∧ mayZ r c = true)) :
    Calls Try.prog 4 #[zv p A na ca, zv q A2 nb cb, zv r A3 nc cc] w fun e w' => e = .returned (.bool true) ∧ Below w.heap.size w w' := by
  have T0 := thr_box w p A na ca q A2 nb cb r A3 nc cc
  have C1 := Lib.hid (fun W (hW : Below w.heap.size w W) => checkZ_any (p := p) (w := W) (h.one.below hW))
  have C2 := Lib.hid (fun W (hW : Below w.heap.size w W) => checkZ_any (p := q) (w := W) (h.two.below hW))
  have C3 := Lib.hid (fun W (hW : Below w.heap.size w W) => checkZ_any (p := r) (w := W) (h3.below hW))
  have HA := Lib.hid (fun W (hW : Below w.heap.size w W) => addZ (p := p) (q := q) (w := W) (h.below hW))
  generalize twoZ p a q b (zof p a + zof q b) = s at HA
  clear h h3
  unfold zv at *
  cases e1 : mayZ p a with
  | false =>
    rw [oneE_no e1] at C1
    rw [twoE_no (by simp [twoM, e1])] at HA
    clear e1
    clear hm
    go_enter Try.func4, Try.ntmps4
    go_wp2_with fail
    refine (zalive_any _).mono ?_
    rintro e w1 ⟨rfl, hb⟩
    have T1 := T0.next hb
    clear hb T0
    have xa0 := T1.t.x.c0
    have xa1 := T1.t.x.c1
    have xb0 := T1.t.y.c0
    have xb1 := T1.t.y.c1
    have xc0 := T1.z.c0
    have xc1 := T1.z.c1
    go_wp2_with fail
    refine (C1.out _ T1.t.b).mono ?_
    rintro e w2 ⟨rfl, hb⟩
    have T2 := T1.next hb
    clear hb T1
    clear xa0 xa1 xb0 xb1 xc0 xc1
    have xa0 := T2.t.x.c0
    have xa1 := T2.t.x.c1
    have xb0 := T2.t.y.c0
    have xb1 := T2.t.y.c1
    have xc0 := T2.z.c0
    have xc1 := T2.z.c1
    go_wp2_with fail
    refine (HA.out _ T2.t.b).mono ?_
    rintro e w9 ⟨A9, k9, c9, rfl, o9, hb⟩
    have T9 := T2.next hb
    clear hb o9 T2
    unfold zV zv
    go_wp2
    go_ret
    exact ⟨by simp, below_then T9.t.b (bxb _ _)⟩
  | true =>
    rw [oneE_ok e1] at C1
    cases e2 : mayZ q b with
    | false =>
      rw [oneE_no e2] at C2
      rw [twoE_no (by simp [twoM, e2])] at HA
      clear e1 e2
      clear hm
      go_enter Try.func4, Try.ntmps4
      go_wp2_with fail
      refine (zalive_any _).mono ?_
      rintro e w1 ⟨rfl, hb⟩
      have T1 := T0.next hb
      clear hb T0
      have xa0 := T1.t.x.c0
      have xa1 := T1.t.x.c1
      have xb0 := T1.t.y.c0
      have xb1 := T1.t.y.c1
      have xc0 := T1.z.c0
      have xc1 := T1.z.c1
      go_wp2_with fail
      refine (C1.out _ T1.t.b).mono ?_
      rintro e w2 ⟨rfl, hb⟩
      have T2 := T1.next hb
      clear hb T1
      clear xa0 xa1 xb0 xb1 xc0 xc1
      have xa0 := T2.t.x.c0
      have xa1 := T2.t.x.c1
      have xb0 := T2.t.y.c0
      have xb1 := T2.t.y.c1
      have xc0 := T2.z.c0
      have xc1 := T2.z.c1
      go_wp2_with fail
      refine (C2.out _ T2.t.b).mono ?_
      rintro e w3 ⟨rfl, hb⟩
      have T3 := T2.next hb
      clear hb T2
      clear xa0 xa1 xb0 xb1 xc0 xc1
      have xa0 := T3.t.x.c0
      have xa1 := T3.t.x.c1
      have xb0 := T3.t.y.c0
      have xb1 := T3.t.y.c1
      have xc0 := T3.z.c0
      have xc1 := T3.z.c1
      go_wp2_with fail
      refine (HA.out _ T3.t.b).mono ?_
      rintro e w9 ⟨A9, k9, c9, rfl, o9, hb⟩
      have T9 := T3.next hb
      clear hb o9 T3
      unfold zV zv
      go_wp2
      go_ret
      exact ⟨by simp, below_then T9.t.b (bxb _ _)⟩
    | true =>
      rw [oneE_ok e2] at C2
      rw [twoE_ok (by simp [twoM, e1, e2])] at HA
      have e3 : mayZ r c = false := by
        cases e3 : mayZ r c with
        | false => rfl
        | true => exact absurd ⟨e1, e2, e3⟩ hm
      rw [oneE_no e3] at C3
      clear e1 e2 e3
      clear hm
      go_enter Try.func4, Try.ntmps4
      go_wp2_with fail
      refine (zalive_any _).mono ?_
      rintro e w1 ⟨rfl, hb⟩
      have T1 := T0.next hb
      clear hb T0
      have xa0 := T1.t.x.c0
      have xa1 := T1.t.x.c1
      have xb0 := T1.t.y.c0
      have xb1 := T1.t.y.c1
      have xc0 := T1.z.c0
      have xc1 := T1.z.c1
      go_wp2_with fail
      refine (C1.out _ T1.t.b).mono ?_
      rintro e w2 ⟨rfl, hb⟩
      have T2 := T1.next hb
      clear hb T1
      clear xa0 xa1 xb0 xb1 xc0 xc1
      have xa0 := T2.t.x.c0
      have xa1 := T2.t.x.c1
      have xb0 := T2.t.y.c0
      have xb1 := T2.t.y.c1
      have xc0 := T2.z.c0
      have xc1 := T2.z.c1
      go_wp2_with fail
      refine (C2.out _ T2.t.b).mono ?_
      rintro e w3 ⟨rfl, hb⟩
      have T3 := T2.next hb
      clear hb T2
      clear xa0 xa1 xb0 xb1 xc0 xc1
      have xa0 := T3.t.x.c0
      have xa1 := T3.t.x.c1
      have xb0 := T3.t.y.c0
      have xb1 := T3.t.y.c1
      have xc0 := T3.z.c0
      have xc1 := T3.z.c1
      go_wp2_with fail
      refine (C3.out _ T3.t.b).mono ?_
      rintro e w4 ⟨rfl, hb⟩
      have T4 := T3.next hb
      clear hb T3
      clear xa0 xa1 xb0 xb1 xc0 xc1
      have xa0 := T4.t.x.c0
      have xa1 := T4.t.x.c1
      have xb0 := T4.t.y.c0
      have xb1 := T4.t.y.c1
      have xc0 := T4.z.c0
      have xc1 := T4.z.c1
      go_wp2_with fail
      refine (HA.out _ T4.t.b).mono ?_
      rintro e w9 ⟨A9, k9, c9, rfl, o9, hb⟩
      have T9 := T4.next hb
      clear hb o9 T4
      unfold zV zv
      go_wp2
      go_ret
      exact ⟨by simp, below_then T9.t.b (bxb _ _)⟩
set_option maxRecDepth 100000 in
set_option maxHeartbeats 4000000 in
theorem ringZ_long (hl : 50 < na ∨ 50 < nb ∨ 50 < nc) (m1 : na ≤ 9223372036854775807) (m2 : nb ≤ 9223372036854775807) (m3 : nc ≤ 9223372036854775807) :
    Calls Try.prog 4 #[zv p A na ca, zv q A2 nb cb, zv r A3 nc cc] w fun e w' => e = .returned (.bool true) ∧ Below w.heap.size w w' := by
  have T0 := thr_box w p A na ca q A2 nb cb r A3 nc cc
  unfold zv at *
  by_cases k1 : 50 < na
  · clear hl
    go_enter Try.func4, Try.ntmps4
    go_wp2_with fail
    refine (zalive_any _).mono ?_
    rintro e w1 ⟨rfl, hb⟩
    have T1 := T0.next hb
    clear hb T0
    have xa0 := T1.t.x.c0
    have xa1 := T1.t.x.c1
    have xb0 := T1.t.y.c0
    have xb1 := T1.t.y.c1
    have xc0 := T1.z.c0
    have xc1 := T1.z.c1
    go_wp2
    go_ret
    exact ⟨rfl, T1.t.b⟩
  · by_cases k2 : 50 < nb
    · clear hl
      go_enter Try.func4, Try.ntmps4
      go_wp2_with fail
      refine (zalive_any _).mono ?_
      rintro e w1 ⟨rfl, hb⟩
      have T1 := T0.next hb
      clear hb T0
      have xa0 := T1.t.x.c0
      have xa1 := T1.t.x.c1
      have xb0 := T1.t.y.c0
      have xb1 := T1.t.y.c1
      have xc0 := T1.z.c0
      have xc1 := T1.z.c1
      go_wp2
      go_ret
      exact ⟨rfl, T1.t.b⟩
    · have k3 : 50 < nc := by omega
      clear hl
      go_enter Try.func4, Try.ntmps4
      go_wp2_with fail
      refine (zalive_any _).mono ?_
      rintro e w1 ⟨rfl, hb⟩
      have T1 := T0.next hb
      clear hb T0
      have xa0 := T1.t.x.c0
      have xa1 := T1.t.x.c1
      have xb0 := T1.t.y.c0
      have xb1 := T1.t.y.c1
      have xc0 := T1.z.c0
      have xc1 := T1.z.c1
      go_wp2
      go_ret
      exact ⟨rfl, T1.t.b⟩
theorem ringZ_any (ra : Rd w A na a) (rb : Rd w A2 nb b) (rc : Rd w A3 nc c) (q1 : na ≤ ca ∧ ca ≤ 9223372036854775807) (q2 : nb ≤ cb ∧ cb ≤ 9223372036854775807) (q3 : nc ≤ cc ∧ cc ≤ 9223372036854775807) :
    Calls Try.prog 4 #[.agg #[.bool p, .slice A na ca], .agg #[.bool q, .slice A2 nb cb], .agg #[.bool r, .slice A3 nc cc]] w fun e w' => e = .returned (.bool true) ∧ Below w.heap.size w w' := by
  by_cases h5 : na ≤ 50 ∧ nb ≤ 50 ∧ nc ≤ 50
  · have h : Z2 w A A2 na ca nb cb a b := ⟨ra, rb, by omega, by omega, q1.1, q1.2, q2.1, q2.2⟩
    have h3 : Z1 w A3 nc cc c := ⟨rc, by omega, q3.1, q3.2⟩
    by_cases hm : mayZ p a = true ∧ mayZ q b = true ∧ mayZ r c = true
    · have n1 := znm_of ra hm.1 q1.1 q1.2
      have n2 := znm_of rb hm.2.1 q2.1 q2.2
      have n3 := znm_of rc hm.2.2 q3.1 q3.2
      have h := ringZ_ok A A2 A3 na ca nb cb nc cc (zof p a) (zof q b) (zof r c) w n1.1 n2.1 n3.1 h5.1 h5.2.1 h5.2.2
      rw [← n1.2, ← n2.2, ← n3.2] at h
      exact h
    · exact ringZ_bad A A2 A3 na ca nb cb nc cc p q r a b c w h h3 h5.1 h5.2.1 h5.2.2 hm
  · exact ringZ_long A A2 A3 na ca nb cb nc cc p q r w (by omega) (by omega) (by omega) (by omega)
end
end Go.Proofs.Ytjipdfebehcggaa
