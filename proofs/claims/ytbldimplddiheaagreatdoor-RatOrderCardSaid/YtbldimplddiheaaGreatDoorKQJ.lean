import Derived.Test.YtbldimplddiheaaGreatDoorKQN
import Derived.Test.YtbldimplddiheaaGreatDoorKQD
import Derived.Test.YtbldimplddiheaaGreatDoorKQRef5
/- QRef8 QE QF QH QI QJ. -/
/- The document's fractions: of two whole numbers. -/
namespace Go.Proofs.YtbldimplddiheaaGreatDoor
open Go.RowKit Go.Shelf
set_option linter.unusedVariables false
set_option linter.unusedSimpArgs false

structure TwoZQ (w W : World) (p : Bool) (A : Option Addr) (na ca : Nat) (q : Bool) (A2 : Option Addr) (nb cb : Nat) (x : QV) : Prop where
  t : Two w W p A na ca q A2 nb cb
  r : BoxQ W (w.heap.size + 1 + 1) x
theorem TwoZQ.next {w W W' : World} {p : Bool} {A : Option Addr} {na ca : Nat} {q : Bool} {A2 : Option Addr} {nb cb : Nat} {x : QV} (h : TwoZQ w W p A na ca q A2 nb cb x) (hb : Below W.heap.size W W') : TwoZQ w W' p A na ca q A2 nb cb x := ⟨h.t.next hb, h.r.next hb⟩
theorem two_zq (w : World) (p : Bool) (A : Option Addr) (na ca : Nat) (q : Bool) (A2 : Option Addr) (nb cb : Nat) (x : QV) : TwoZQ w (((w.alloc (zo p A na ca)).alloc (zo q A2 nb cb)).alloc x.o) p A na ca q A2 nb cb x := by
  refine ⟨(two_box w p A na ca q A2 nb cb).next (bxb _ _), ?_⟩
  have h := World.alloc_heap_new ((w.alloc (zo p A na ca)).alloc (zo q A2 nb cb)) x.o
  rw [World.size_alloc, World.size_alloc] at h
  exact h
end Go.Proofs.YtbldimplddiheaaGreatDoor

/- rat: lowest, Of. -/
namespace Go.Proofs.YtbldimplddiheaaGreatDoor
open Go.RowKit Go.Shelf
set_option linter.unusedVariables false
set_option linter.unusedSimpArgs false

/-- What a greatest common divisor leaves of two numbers. -/
theorem low_parts (z : Int) {y : Int} (hy : y ≠ 0) : (if y < 0 then -((Nat.gcd z.natAbs y.natAbs : Nat) : Int) else ((Nat.gcd z.natAbs y.natAbs : Nat) : Int)) ∣ z ∧ Int.fdiv z (if y < 0 then -((Nat.gcd z.natAbs y.natAbs : Nat) : Int) else ((Nat.gcd z.natAbs y.natAbs : Nat) : Int)) = (Rat.divInt z y).num ∧ (Rat.divInt z y).den = y.natAbs / Nat.gcd z.natAbs y.natAbs := by
  have hu : y.natAbs ≠ 0 := by omega
  have hG : 0 < Nat.gcd z.natAbs y.natAbs := Nat.gcd_pos_of_pos_right _ (by omega)
  have hm := mk_parts (if y < 0 then -z else z) hu
  rw [of_rat z y hy] at hm
  have hk : (if y < 0 then -z else z).natAbs = z.natAbs := by split <;> omega
  rw [hk] at hm
  obtain ⟨m1, m2, m3⟩ := hm
  have hd : ((Nat.gcd z.natAbs y.natAbs : Nat) : Int) ∣ z := Int.ofNat_dvd_left.2 (Nat.gcd_dvd_left _ _)
  generalize Nat.gcd z.natAbs y.natAbs = G at *
  generalize Rat.divInt z y = x at *
  obtain ⟨k, rfl⟩ := hd
  have hk2 : ((G : Int) * k).natAbs / G = k.natAbs := by rw [Int.natAbs_mul, Int.natAbs_natCast, Nat.mul_div_cancel_left _ hG]
  rw [hk2] at m1
  have hG2 : (0 : Int) < (G : Int) := by omega
  have hs := pos_mul_neg (k := k) hG2
  have hs2 := pos_mul_neg (k := -k) hG2
  rw [Int.mul_neg] at hs2
  have m4 := decide_eq_decide.1 m2
  refine ⟨?_, ?_, m3⟩
  · split
    · exact Int.neg_dvd.2 ⟨k, rfl⟩
    · exact ⟨k, rfl⟩
  · by_cases hy0 : y < 0
    · rw [if_pos hy0] at m4 ⊢
      rw [show (G : Int) * k = -(G : Int) * -k by rw [Int.neg_mul_neg], Int.mul_fdiv_cancel_left _ (by omega)]
      omega
    · rw [if_neg hy0] at m4 ⊢
      rw [Int.mul_fdiv_cancel_left _ (by omega)]
      omega
theorem boxz_new (w : World) (p : Bool) (A : Option Addr) (n c : Nat) : BoxZ (w.alloc (zo p A n c)) w.heap.size p A n c := World.alloc_heap_new _ _
section
variable {A A2 : Option Addr} {na ca nb cb : Nat} {p q : Bool} {a b : List Nat} {w : World} {z y : Int} {v v2 : QV}
theorem exactT {t g : Int} (ha : ZNm w A na ca z) (hb : Nm w A2 nb cb g.natAbs) (l1 : na ≤ 400) (l2 : nb ≤ 400) (hq : q = decide (g < 0)) (h0 : g ≠ 0) (hd : g ∣ z) (ht : Int.fdiv z g = t) :
    Calls Tryz.prog 78 #[.agg #[.bool (decide (z < 0)), .slice A na ca], .agg #[.bool q, .slice A2 nb cb]] w (ZAns w t 0) := by
  subst hq
  subst ht
  have h := exactN ha (show ZNm w A2 nb cb g from hb) l1 l2 h0
  rw [if_pos hd, if_pos hd] at h
  exact h
set_option maxRecDepth 100000 in
set_option maxHeartbeats 8000000 in
theorem lowest_any (ha : ZNm w A na ca z) (hb : ZNm w A2 nb cb y) (hy : y ≠ 0) (l1 : na ≤ 400) (l2 : nb ≤ 400) : Calls Tryz.prog 38 #[zV z A na ca, zV y A2 nb cb] w (QOne w (Rat.divInt z y)) := by
  obtain ⟨m1, m2, m3⟩ := low_parts z hy
  have hG : 0 < Nat.gcd z.natAbs y.natAbs := Nat.gcd_pos_of_pos_right _ (by omega)
  have hlen : (limbs (Nat.gcd z.natAbs y.natAbs)).length ≤ 400 := by
    have h1 := length_of_le (words_limbs y.natAbs) (n := Nat.gcd z.natAbs y.natAbs) (by rw [val_limbs]; exact Nat.gcd_le_right _ (by omega))
    have h2 := hb.rd.len
    omega
  have T0 := two_zq w (decide (z < 0)) A na ca (decide (y < 0)) A2 nb cb QV.zero
  have P1 := Lib.hid (fun W (hW : Below w.heap.size w W) => gcd_nm gcd_is (w := W) (ha.below hW) (hb.below hW) l1 l2)
  have P2 : Hid (∀ (W : World) {A3 : Option Addr} {k c : Nat}, Below w.heap.size w W → Nm W A3 k c (Nat.gcd z.natAbs y.natAbs) → k ≤ 400 → Calls Tryz.prog 78 #[.agg #[.bool (decide (z < 0)), .slice A na ca], .agg #[.bool (decide (y < 0)), .slice A3 k c]] W (ZAns W (Rat.divInt z y).num 0)) := fun W A3 k c hW h3 l3 =>
    exactT (g := if y < 0 then -((Nat.gcd z.natAbs y.natAbs : Nat) : Int) else ((Nat.gcd z.natAbs y.natAbs : Nat) : Int)) (ha.below hW) (by rw [show (if y < 0 then -((Nat.gcd z.natAbs y.natAbs : Nat) : Int) else ((Nat.gcd z.natAbs y.natAbs : Nat) : Int)).natAbs = Nat.gcd z.natAbs y.natAbs by split <;> omega]; exact h3) l1 l3 (by rw [decide_eq_decide]; split <;> omega) (by split <;> omega) m1 m2
  have P3 : Hid (∀ (W : World) {A3 : Option Addr} {k c : Nat}, Below w.heap.size w W → Nm W A3 k c (Nat.gcd z.natAbs y.natAbs) → k ≤ 400 → Calls Tryz.prog 79 #[.slice A2 nb cb, .slice A3 k c] W (Answers W (limbs (Rat.divInt z y).den) 0)) := fun W A3 k c hW h3 l3 => by
    rw [m3]
    exact exq_nm (hb.below hW) h3 (by omega) (Nat.mod_eq_zero_of_dvd (Nat.gcd_dvd_right _ _)) (by omega) (by omega)
  have HL := Lib.hid hlen
  clear ha hb l1 l2 m1 m2 m3 hG hlen hy
  generalize Nat.gcd z.natAbs y.natAbs = G at *
  generalize Rat.divInt z y = x at *
  unfold zV zv QOne Answers ZAns at *
  have zx0 := T0.t.x.c0
  have zx1 := T0.t.x.c1
  have zy0 := T0.t.y.c0
  have zy1 := T0.t.y.c1
  have qr0 := T0.r.c0
  have qr1 := T0.r.c1
  have qr2 := T0.r.c2
  have fr0 := T0.r.f 0
  have fr1 := T0.r.f 1
  have fr2 := T0.r.f 2
  go_enter Tryz.func38, Tryz.ntmps38
  go_wp2_with fail
  refine (P1.out _ T0.t.b).mono ?_
  rintro e w1 ⟨A3, k3, c3, rfl, o3, hb⟩
  have l3 : k3 ≤ 400 := by have := o3.rd.2.1; have := HL.out; omega
  have T1 := T0.next hb
  clear hb
  clear zx0 zx1 zy0 zy1 qr0 qr1 qr2 fr0 fr1 fr2
  have zx0 := T1.t.x.c0
  have zx1 := T1.t.x.c1
  have zy0 := T1.t.y.c0
  have zy1 := T1.t.y.c1
  have qr0 := T1.r.c0
  have qr1 := T1.r.c1
  have qr2 := T1.r.c2
  have fr0 := T1.r.f 0
  have fr1 := T1.r.f 1
  have fr2 := T1.r.f 2
  go_wp2_with fail
  refine (P2.out _ T1.t.b o3.nm l3).mono ?_
  rintro e w2 ⟨A4, k4, c4, rfl, o4, hb⟩
  have T2 := T1.next (below_then hb (bxb _ (zo (decide (x.num < 0)) A4 k4 c4)))
  have o3b := o3.below (below_then hb (bxb _ (zo (decide (x.num < 0)) A4 k4 c4)))
  have o4b := o4.below (bxb _ (zo (decide (x.num < 0)) A4 k4 c4))
  have hbx := boxz_new w2 (decide (x.num < 0)) A4 k4 c4
  clear hb o3 o4
  clear zx0 zx1 zy0 zy1 qr0 qr1 qr2 fr0 fr1 fr2
  unfold zV zv
  have zx0 := T2.t.x.c0
  have zx1 := T2.t.x.c1
  have zy0 := T2.t.y.c0
  have zy1 := T2.t.y.c1
  have qr0 := T2.r.c0
  have qr1 := T2.r.c1
  have qr2 := T2.r.c2
  have fr0 := T2.r.f 0
  have fr1 := T2.r.f 1
  have fr2 := T2.r.f 2
  go_wp2_with fail
  refine (P3.out _ T2.t.b o3b.nm l3).mono ?_
  rintro e w3 ⟨A5, k5, c5, rfl, o5, hb⟩
  have T3 := T2.next hb
  have o4c := o4b.below hb
  have hbx3 := hbx.below hb (by simp)
  clear hb o4b
  clear zx0 zx1 zy0 zy1 qr0 qr1 qr2 fr0 fr1 fr2
  have zx0 := T3.t.x.c0
  have zx1 := T3.t.x.c1
  have zy0 := T3.t.y.c0
  have zy1 := T3.t.y.c1
  have qr0 := T3.r.c0
  have qr1 := T3.r.c1
  have qr2 := T3.r.c2
  have fr0 := T3.r.f 0
  have fr1 := T3.r.f 1
  have fr2 := T3.r.f 2
  have t0 := hbx3.c0
  have t1 := hbx3.c1
  have hG := Lib.hid (And.intro T1.r.lt T2.r.lt)
  go_wp2
  refine bodyPost_ret (v := (QV.mk (decide (x.num < 0)) A4 k4 c4 A5 k5 c5).v) (by simp [results, Tryz.results38, go_sem, qr0, qr1, qr2, QV.v]) rfl ?_
  exact ⟨_, rfl, ⟨rfl, own_box3 hG.out.1 (show w.heap.size ≤ w.heap.size + 1 + 1 by omega) o4c _ _ _, own_box3 hG.out.2 (show w.heap.size ≤ w.heap.size + 1 + 1 by omega) o5 _ _ _⟩, box_below3 (show w.heap.size ≤ w.heap.size + 1 + 1 by omega) T3.t.b _ _ _⟩
/-- What stands behind allMayBe of two whole numbers. -/
theorem allInt_at (h : Z2 w A A2 na ca nb cb a b) : Calls Tryz.prog 36 #[.func (.func 37) #[] #[], .slice (some ⟨w.heap.size + 1 + 1 + 1, 0, none⟩) 2 2] ((((w.alloc (zo p A na ca)).alloc (zo q A2 nb cb)).alloc QV.zero.o).alloc (.cells #[.bool p, .slice A na ca, .bool q, .slice A2 nb cb] zT)) fun e w' => e = .returned (.int .i64 (twoE p a q b)) ∧ TwoZQ w w' p A na ca q A2 nb cb QV.zero := by
  have T1 := (two_zq w p A na ca q A2 nb cb QV.zero).next (bxb _ (.cells #[.bool p, .slice A na ca, .bool q, .slice A2 nb cb] zT))
  have hg := World.alloc_heap_new (((w.alloc (zo p A na ca)).alloc (zo q A2 nb cb)).alloc QV.zero.o) (.cells #[.bool p, .slice A na ca, .bool q, .slice A2 nb cb] zT)
  rw [World.size_alloc, World.size_alloc, World.size_alloc] at hg
  refine (allInt_any (w.heap.size + 1 + 1 + 1) hg ⟨h.ra.below T1.t.b, h.rb.below T1.t.b, h.la, h.lb, h.ca1, h.ca2, h.cb1, h.cb2⟩).mono ?_
  rintro e w1 ⟨rfl, hb⟩
  exact ⟨rfl, T1.next hb⟩
set_option maxRecDepth 100000 in
set_option maxHeartbeats 8000000 in
theorem qof_is : OfQIs 8 := fun A A2 na ca nb cb p q a b w h => by
  have H1 := Lib.hid (allInt_at (p := p) (q := q) h)
  unfold QAns
  cases hm : twoM p a q b with
  | false =>
    rw [twoE_no hm] at H1
    simp only [Bool.false_eq_true, if_false, Bool.false_and]
    clear h hm
    unfold zv QV.zero QV.o at *
    go_enter Tryz.func8, Tryz.ntmps8
    go_wp2_with fail
    refine H1.out.mono ?_
    rintro e w1 ⟨rfl, T1⟩
    have zx0 := T1.t.x.c0
    have zx1 := T1.t.x.c1
    have zy0 := T1.t.y.c0
    have zy1 := T1.t.y.c1
    have qr0 := T1.r.c0
    have qr1 := T1.r.c1
    have qr2 := T1.r.c2
    have fr0 := T1.r.f 0
    have fr1 := T1.r.f 1
    have fr2 := T1.r.f 2
    go_wp2
    refine bodyPost_ret (v := .tuple #[QV.zero.v, .int .i64 8]) (by simp [results, Tryz.results8, go_sem, qr0, qr1, qr2, QV.v, QV.zero]) rfl ?_
    exact ⟨rfl, box_below3 (show w.heap.size ≤ w.heap.size + 1 + 1 by omega) T1.t.b _ _ _⟩
  | true =>
    rw [twoE_ok hm] at H1
    simp only [Bool.true_and, if_true]
    by_cases h0 : b = []
    · have hE : (!b.isEmpty) = false := by rw [h0]; rfl
      rw [hE]
      have hn : nb = 0 := by rw [← h.rb.len, h0]; rfl
      subst hn
      simp only [Bool.false_eq_true, if_false]
      clear h hm h0 hE
      unfold zv QV.zero QV.o at *
      go_enter Tryz.func8, Tryz.ntmps8
      go_wp2_with fail
      refine H1.out.mono ?_
      rintro e w1 ⟨rfl, T1⟩
      have zx0 := T1.t.x.c0
      have zx1 := T1.t.x.c1
      have zy0 := T1.t.y.c0
      have zy1 := T1.t.y.c1
      have qr0 := T1.r.c0
      have qr1 := T1.r.c1
      have qr2 := T1.r.c2
      have fr0 := T1.r.f 0
      have fr1 := T1.r.f 1
      have fr2 := T1.r.f 2
      go_wp2
      refine bodyPost_ret (v := .tuple #[QV.zero.v, .int .i64 30]) (by simp [results, Tryz.results8, go_sem, qr0, qr1, qr2, QV.v, QV.zero]) rfl ?_
      exact ⟨rfl, box_below3 (show w.heap.size ≤ w.heap.size + 1 + 1 by omega) T1.t.b _ _ _⟩
    · have hE : (!b.isEmpty) = true := by simpa using h0
      rw [hE]
      simp only [if_true]
      have hm2 := twoM_iff.1 hm
      have hz := h.num hm
      have hn : ((nb : Int) == 0) = false := by
        have h1 := h.rb.len
        have h2 : b.length ≠ 0 := fun e => h0 (List.eq_nil_of_length_eq_zero e)
        simp
        omega
      have P := Lib.hid (fun W (hW : Below w.heap.size w W) => lowest_any (w := W) (hz.1.below hW) (hz.2.1.below hW) (zof_ne hm2.2 h0) h.la h.lb)
      unfold zV at P
      rw [← mayZ_sgn hm2.1, ← mayZ_sgn hm2.2] at P
      generalize Rat.divInt (zof p a) (zof q b) = x at *
      clear h hm h0 hE hm2 hz
      unfold zv QV.zero QV.o QOne at *
      go_enter Tryz.func8, Tryz.ntmps8
      go_wp2_with fail
      refine H1.out.mono ?_
      rintro e w1 ⟨rfl, T1⟩
      have zx0 := T1.t.x.c0
      have zx1 := T1.t.x.c1
      have zy0 := T1.t.y.c0
      have zy1 := T1.t.y.c1
      have qr0 := T1.r.c0
      have qr1 := T1.r.c1
      have qr2 := T1.r.c2
      have fr0 := T1.r.f 0
      have fr1 := T1.r.f 1
      have fr2 := T1.r.f 2
      go_wp2_with fail
      refine (P.out _ T1.t.b).mono ?_
      rintro e w2 ⟨vr, rfl, o9, hb⟩
      have T2 := T1.next hb
      have hG := Lib.hid T1.r.lt
      clear hb
      clear zx0 zx1 zy0 zy1 qr0 qr1 qr2 fr0 fr1 fr2
      have zx0 := T2.t.x.c0
      have zx1 := T2.t.x.c1
      have zy0 := T2.t.y.c0
      have zy1 := T2.t.y.c1
      have qr0 := T2.r.c0
      have qr1 := T2.r.c1
      have qr2 := T2.r.c2
      have fr0 := T2.r.f 0
      have fr1 := T2.r.f 1
      have fr2 := T2.r.f 2
      unfold QV.v
      go_wp2
      refine bodyPost_ret (v := .tuple #[vr.v, .int .i64 0]) (by simp [results, Tryz.results8, go_sem, qr0, qr1, qr2, QV.v]) rfl ?_
      exact ⟨vr, rfl, o9.box3 hG.out (show w.heap.size ≤ w.heap.size + 1 + 1 by omega) _ _ _, box_below3 (show w.heap.size ≤ w.heap.size + 1 + 1 by omega) T2.t.b _ _ _⟩
end
end Go.Proofs.YtbldimplddiheaaGreatDoor

/- rat: joined, and what makes a num and a den. -/
namespace Go.Proofs.YtbldimplddiheaaGreatDoor
open Go.RowKit Go.Shelf
set_option linter.unusedVariables false
set_option linter.unusedSimpArgs false

/-- A call answered two whole numbers, no longer than may be handed on. -/
def MkAns (w : World) (z y : Int) (e : Ending) (w' : World) : Prop := ∃ (A : Option Addr) (n c : Nat) (A2 : Option Addr) (m d : Nat), e = .returned (.tuple #[zV z A n c, zV y A2 m d]) ∧ ZNm w' A n c z ∧ ZNm w' A2 m d y ∧ n ≤ 400 ∧ m ≤ 400 ∧ Below w.heap.size w w'
theorem isEmpty_limbs (n : Nat) : (!(limbs n).isEmpty) = decide (n ≠ 0) := by
  by_cases h : n = 0
  · subst h; rw [limbs_zero]; rfl
  · have h2 : limbs n ≠ [] := fun e => h (limbs_eq_nil.1 e)
    simp [h, h2]
section
variable {A A2 D E : Option Addr} {na ca nb cb nd cd ne ce u t : Nat} {a d a2 d2 : List Nat} {w : World} {z y s : Int} {x : Rat} {v v2 : QV}
theorem ofN2 (ha : ZNm w A na ca z) (hb : ZNm w A2 nb cb y) (l1 : na ≤ 400) (l2 : nb ≤ 400) : Calls Tryz.prog 8 #[zV z A na ca, zV y A2 nb cb] w (QAns w (decide (y ≠ 0)) (Rat.divInt z y) 30) := by
  have h := qof_is A A2 na ca nb cb (decide (z < 0)) (decide (y < 0)) (limbs z.natAbs) (limbs y.natAbs) w ⟨ha.rd, hb.rd, l1, l2, ha.nc, ha.cm, hb.nc, hb.cm⟩
  rw [twoM_num, zof_num, zof_num, isEmpty_limbs, if_pos rfl, Bool.true_and, show decide (y.natAbs ≠ 0) = decide (y ≠ 0) by rw [decide_eq_decide]; omega] at h
  exact h
set_option maxRecDepth 100000 in
set_option maxHeartbeats 4000000 in
theorem joined2_any (F : Nat) (k0 k1 : Value) (hE : ∀ args w, (callFunc F args).run Tryz.prog w = .ok (.enter F args) w) (h : Q1 w v a d) (h2 : Q1 w v2 a2 d2) (z y : Int) (hC : both2 v v2 a d a2 d2 = true → ∀ W, Below w.heap.size w W → Calls Tryz.prog F #[k0, k1] W (MkAns W z y)) :
    Calls Tryz.prog 41 #[v.v, v2.v, .func (.func F) #[] #[k0, k1]] w (QAns w (both2 v v2 a d a2 d2 && decide (y ≠ 0)) (Rat.divInt z y) (if both2 v v2 a d a2 d2 then 30 else 8)) := by
  have H1 := Lib.hid (allQ_at3 h h2)
  unfold QAns
  cases hm : both2 v v2 a d a2 d2 with
  | false =>
    rw [hm] at H1
    simp only [Bool.false_eq_true, if_false, Bool.false_and] at H1 ⊢
    clear h h2 hm hC
    unfold QV.v QV.o QV.zero at *
    go_enter Tryz.func41, Tryz.ntmps41
    go_wp2_with fail
    refine H1.out.mono ?_
    rintro e w1 ⟨rfl, T1⟩
    have qr0 := T1.r.c0
    have qr1 := T1.r.c1
    have qr2 := T1.r.c2
    have f0 := T1.r.f 0
    have f1 := T1.r.f 1
    have f2 := T1.r.f 2
    go_wp2
    refine bodyPost_ret (v := .tuple #[QV.zero.v, .int .i64 8]) (by simp [results, Tryz.results41, go_sem, qr0, qr1, qr2, QV.v, QV.zero]) rfl ?_
    exact ⟨rfl, box_below3 (show w.heap.size ≤ w.heap.size + 1 + 1 by omega) T1.b _ _ _⟩
  | true =>
    rw [hm] at H1
    have HC := Lib.hid (hC hm)
    have HO := Lib.hid (fun W {A A2 : Option Addr} {n c m k : Nat} (h1 : ZNm W A n c z) (h2 : ZNm W A2 m k y) (l1 : n ≤ 400) (l2 : m ≤ 400) => ofN2 (w := W) h1 h2 l1 l2)
    simp only [if_true, Bool.true_and] at H1 ⊢
    clear h h2 hm hC
    generalize Rat.divInt z y = x at *
    unfold MkAns QAns at *
    cases hy : decide (y ≠ 0) with
    | false =>
      rw [hy] at HO
      simp only [Bool.false_eq_true, if_false] at HO ⊢
      clear hy
      unfold QV.v QV.o QV.zero at *
      go_enter Tryz.func41, Tryz.ntmps41
      go_wp2_with fail
      refine H1.out.mono ?_
      rintro e w1 ⟨rfl, T1⟩
      have qr0 := T1.r.c0
      have qr1 := T1.r.c1
      have qr2 := T1.r.c2
      have f0 := T1.r.f 0
      have f1 := T1.r.f 1
      have f2 := T1.r.f 2
      go_wp2_with fail
      refine (HC.out _ T1.b).mono ?_
      rintro e w2 ⟨A3, k3, c3, A5, k5, c5, rfl, z3, z5, l3, l5, hb⟩
      have T2 := T1.next hb
      clear hb qr0 qr1 qr2 f0 f1 f2
      have qr0 := T2.r.c0
      have qr1 := T2.r.c1
      have qr2 := T2.r.c2
      have f0 := T2.r.f 0
      have f1 := T2.r.f 1
      have f2 := T2.r.f 2
      unfold zV zv
      go_wp2_with fail
      refine (HO.out _ z3 z5 l3 l5).mono ?_
      rintro e w3 ⟨rfl, hb⟩
      have T3 := T2.next hb
      clear hb qr0 qr1 qr2 f0 f1 f2
      have qr0 := T3.r.c0
      have qr1 := T3.r.c1
      have qr2 := T3.r.c2
      have f0 := T3.r.f 0
      have f1 := T3.r.f 1
      have f2 := T3.r.f 2
      go_wp2
      refine bodyPost_ret (v := .tuple #[QV.zero.v, .int .i64 30]) (by simp [results, Tryz.results41, go_sem, qr0, qr1, qr2, QV.v, QV.zero]) rfl ?_
      exact ⟨rfl, box_below3 (show w.heap.size ≤ w.heap.size + 1 + 1 by omega) T3.b _ _ _⟩
    | true =>
      rw [hy] at HO
      simp only [if_true] at HO ⊢
      clear hy
      unfold QV.o QV.zero at H1
      unfold QV.v
      go_enter Tryz.func41, Tryz.ntmps41
      go_wp2_with fail
      refine H1.out.mono ?_
      rintro e w1 ⟨rfl, T1⟩
      have qr0 := T1.r.c0
      have qr1 := T1.r.c1
      have qr2 := T1.r.c2
      have f0 := T1.r.f 0
      have f1 := T1.r.f 1
      have f2 := T1.r.f 2
      go_wp2_with fail
      refine (HC.out _ T1.b).mono ?_
      rintro e w2 ⟨A3, k3, c3, A5, k5, c5, rfl, z3, z5, l3, l5, hb⟩
      have T2 := T1.next hb
      clear hb qr0 qr1 qr2 f0 f1 f2
      have qr0 := T2.r.c0
      have qr1 := T2.r.c1
      have qr2 := T2.r.c2
      have f0 := T2.r.f 0
      have f1 := T2.r.f 1
      have f2 := T2.r.f 2
      unfold zV zv
      go_wp2_with fail
      refine (HO.out _ z3 z5 l3 l5).mono ?_
      rintro e w3 ⟨vr, rfl, o9, hb⟩
      have T3 := T2.next hb
      have hG := Lib.hid T2.r.lt
      clear hb qr0 qr1 qr2 f0 f1 f2
      have qr0 := T3.r.c0
      have qr1 := T3.r.c1
      have qr2 := T3.r.c2
      have f0 := T3.r.f 0
      have f1 := T3.r.f 1
      have f2 := T3.r.f 2
      unfold QV.v
      go_wp2
      refine bodyPost_ret (v := .tuple #[vr.v, .int .i64 0]) (by simp [results, Tryz.results41, go_sem, qr0, qr1, qr2, QV.v]) rfl ?_
      exact ⟨vr, rfl, o9.box3 hG.out (show w.heap.size ≤ w.heap.size + 1 + 1 by omega) _ _ _, box_below3 (show w.heap.size ≤ w.heap.size + 1 + 1 by omega) T3.b _ _ _⟩
set_option maxRecDepth 100000 in
set_option maxHeartbeats 4000000 in
theorem joined3_any (F : Nat) (k0 k1 k2 : Value) (hE : ∀ args w, (callFunc F args).run Tryz.prog w = .ok (.enter F args) w) (h : Q1 w v a d) (h2 : Q1 w v2 a2 d2) (z y : Int) (hC : both2 v v2 a d a2 d2 = true → ∀ W, Below w.heap.size w W → Calls Tryz.prog F #[k0, k1, k2] W (MkAns W z y)) :
    Calls Tryz.prog 41 #[v.v, v2.v, .func (.func F) #[] #[k0, k1, k2]] w (QAns w (both2 v v2 a d a2 d2 && decide (y ≠ 0)) (Rat.divInt z y) (if both2 v v2 a d a2 d2 then 30 else 8)) := by
  have H1 := Lib.hid (allQ_at3 h h2)
  unfold QAns
  cases hm : both2 v v2 a d a2 d2 with
  | false =>
    rw [hm] at H1
    simp only [Bool.false_eq_true, if_false, Bool.false_and] at H1 ⊢
    clear h h2 hm hC
    unfold QV.v QV.o QV.zero at *
    go_enter Tryz.func41, Tryz.ntmps41
    go_wp2_with fail
    refine H1.out.mono ?_
    rintro e w1 ⟨rfl, T1⟩
    have qr0 := T1.r.c0
    have qr1 := T1.r.c1
    have qr2 := T1.r.c2
    have f0 := T1.r.f 0
    have f1 := T1.r.f 1
    have f2 := T1.r.f 2
    go_wp2
    refine bodyPost_ret (v := .tuple #[QV.zero.v, .int .i64 8]) (by simp [results, Tryz.results41, go_sem, qr0, qr1, qr2, QV.v, QV.zero]) rfl ?_
    exact ⟨rfl, box_below3 (show w.heap.size ≤ w.heap.size + 1 + 1 by omega) T1.b _ _ _⟩
  | true =>
    rw [hm] at H1
    have HC := Lib.hid (hC hm)
    have HO := Lib.hid (fun W {A A2 : Option Addr} {n c m k : Nat} (h1 : ZNm W A n c z) (h2 : ZNm W A2 m k y) (l1 : n ≤ 400) (l2 : m ≤ 400) => ofN2 (w := W) h1 h2 l1 l2)
    simp only [if_true, Bool.true_and] at H1 ⊢
    clear h h2 hm hC
    generalize Rat.divInt z y = x at *
    unfold MkAns QAns at *
    cases hy : decide (y ≠ 0) with
    | false =>
      rw [hy] at HO
      simp only [Bool.false_eq_true, if_false] at HO ⊢
      clear hy
      unfold QV.v QV.o QV.zero at *
      go_enter Tryz.func41, Tryz.ntmps41
      go_wp2_with fail
      refine H1.out.mono ?_
      rintro e w1 ⟨rfl, T1⟩
      have qr0 := T1.r.c0
      have qr1 := T1.r.c1
      have qr2 := T1.r.c2
      have f0 := T1.r.f 0
      have f1 := T1.r.f 1
      have f2 := T1.r.f 2
      go_wp2_with fail
      refine (HC.out _ T1.b).mono ?_
      rintro e w2 ⟨A3, k3, c3, A5, k5, c5, rfl, z3, z5, l3, l5, hb⟩
      have T2 := T1.next hb
      clear hb qr0 qr1 qr2 f0 f1 f2
      have qr0 := T2.r.c0
      have qr1 := T2.r.c1
      have qr2 := T2.r.c2
      have f0 := T2.r.f 0
      have f1 := T2.r.f 1
      have f2 := T2.r.f 2
      unfold zV zv
      go_wp2_with fail
      refine (HO.out _ z3 z5 l3 l5).mono ?_
      rintro e w3 ⟨rfl, hb⟩
      have T3 := T2.next hb
      clear hb qr0 qr1 qr2 f0 f1 f2
      have qr0 := T3.r.c0
      have qr1 := T3.r.c1
      have qr2 := T3.r.c2
      have f0 := T3.r.f 0
      have f1 := T3.r.f 1
      have f2 := T3.r.f 2
      go_wp2
      refine bodyPost_ret (v := .tuple #[QV.zero.v, .int .i64 30]) (by simp [results, Tryz.results41, go_sem, qr0, qr1, qr2, QV.v, QV.zero]) rfl ?_
      exact ⟨rfl, box_below3 (show w.heap.size ≤ w.heap.size + 1 + 1 by omega) T3.b _ _ _⟩
    | true =>
      rw [hy] at HO
      simp only [if_true] at HO ⊢
      clear hy
      unfold QV.o QV.zero at H1
      unfold QV.v
      go_enter Tryz.func41, Tryz.ntmps41
      go_wp2_with fail
      refine H1.out.mono ?_
      rintro e w1 ⟨rfl, T1⟩
      have qr0 := T1.r.c0
      have qr1 := T1.r.c1
      have qr2 := T1.r.c2
      have f0 := T1.r.f 0
      have f1 := T1.r.f 1
      have f2 := T1.r.f 2
      go_wp2_with fail
      refine (HC.out _ T1.b).mono ?_
      rintro e w2 ⟨A3, k3, c3, A5, k5, c5, rfl, z3, z5, l3, l5, hb⟩
      have T2 := T1.next hb
      clear hb qr0 qr1 qr2 f0 f1 f2
      have qr0 := T2.r.c0
      have qr1 := T2.r.c1
      have qr2 := T2.r.c2
      have f0 := T2.r.f 0
      have f1 := T2.r.f 1
      have f2 := T2.r.f 2
      unfold zV zv
      go_wp2_with fail
      refine (HO.out _ z3 z5 l3 l5).mono ?_
      rintro e w3 ⟨vr, rfl, o9, hb⟩
      have T3 := T2.next hb
      have hG := Lib.hid T2.r.lt
      clear hb qr0 qr1 qr2 f0 f1 f2
      have qr0 := T3.r.c0
      have qr1 := T3.r.c1
      have qr2 := T3.r.c2
      have f0 := T3.r.f 0
      have f1 := T3.r.f 1
      have f2 := T3.r.f 2
      unfold QV.v
      go_wp2
      refine bodyPost_ret (v := .tuple #[vr.v, .int .i64 0]) (by simp [results, Tryz.results41, go_sem, qr0, qr1, qr2, QV.v]) rfl ?_
      exact ⟨vr, rfl, o9.box3 hG.out (show w.heap.size ≤ w.heap.size + 1 + 1 by omega) _ _ _, box_below3 (show w.heap.size ≤ w.heap.size + 1 + 1 by omega) T3.b _ _ _⟩
end
end Go.Proofs.YtbldimplddiheaaGreatDoor

/- rat: what makes a num and a den, of Mul and Div. -/
namespace Go.Proofs.YtbldimplddiheaaGreatDoor
open Go.RowKit Go.Shelf
set_option linter.unusedVariables false
set_option linter.unusedSimpArgs false

/-- The world in a closure that captures two fractions: its two results' boxes. -/
structure Clo (w W : World) (g1 g2 : Nat) (v v2 : QV) (p : Bool) (A : Option Addr) (n c : Nat) : Prop where
  b : Below w.heap.size w W
  l1 : g1 < w.heap.size
  l2 : g2 < w.heap.size
  x : BoxQ W g1 v
  y : BoxQ W g2 v2
  z : BoxZ W w.heap.size p A n c
  d : BoxZ W (w.heap.size + 1) false none 0 0
theorem Clo.next {w W W' : World} {g1 g2 : Nat} {v v2 : QV} {p : Bool} {A : Option Addr} {n c : Nat} (h : Clo w W g1 g2 v v2 p A n c) (hb : Below W.heap.size W W') : Clo w W' g1 g2 v v2 p A n c :=
  ⟨below_then h.b hb, h.l1, h.l2, h.x.next hb, h.y.next hb, h.z.below hb (Array.getElem?_eq_some_iff.1 h.z).1, h.d.below hb (Array.getElem?_eq_some_iff.1 h.d).1⟩
theorem clo_new {w : World} {g1 g2 : Nat} {v v2 : QV} (hx : BoxQ w g1 v) (hy : BoxQ w g2 v2) : Clo w ((w.alloc (zo false none 0 0)).alloc (zo false none 0 0)) g1 g2 v v2 false none 0 0 := by
  have h1 : BoxZ (w.alloc (zo false none 0 0)) w.heap.size false none 0 0 := World.alloc_heap_new _ _
  have h2 := World.alloc_heap_new (w.alloc (zo false none 0 0)) (zo false none 0 0)
  rw [World.size_alloc] at h2
  have hb := below_then (bxb w (zo false none 0 0)) (bxb _ (zo false none 0 0))
  exact ⟨hb, hx.lt, hy.lt, hx.below hb hx.lt, hy.below hb hy.lt, h1.below (bxb _ _) (Array.getElem?_eq_some_iff.1 h1).1, h2⟩
theorem Clo.set {w W : World} {g1 g2 : Nat} {v v2 : QV} {p : Bool} {A : Option Addr} {n c : Nat} (h : Clo w W g1 g2 v v2 p A n c) (q : Bool) (B : Option Addr) (m e : Nat) : Clo w ((W.setCell ⟨w.heap.size, 0, none⟩ (.bool q)).setCell ⟨w.heap.size, 1, none⟩ (.slice B m e)) g1 g2 v v2 q B m e := by
  have hb : Below w.heap.size W ((W.setCell ⟨w.heap.size, 0, none⟩ (.bool q)).setCell ⟨w.heap.size, 1, none⟩ (.slice B m e)) := box_below (Nat.le_refl _) (Below.refl _ W) _ _
  refine ⟨h.b.trans hb, h.l1, h.l2, h.x.below hb h.l1, h.y.below hb h.l2, set_num h.z q B m e, ?_⟩
  show ((W.setCell ⟨w.heap.size, 0, none⟩ (.bool q)).setCell ⟨w.heap.size, 1, none⟩ (.slice B m e)).heap[w.heap.size + 1]? = _
  rw [Below.heap_setCell _ _ _ _ (by show w.heap.size + 1 ≠ w.heap.size; omega), Below.heap_setCell _ _ _ _ (by show w.heap.size + 1 ≠ w.heap.size; omega)]
  exact h.d
section
variable {g1 g2 : Nat} {w : World} {x y : Rat} {v v2 : QV}
set_option maxRecDepth 100000 in
set_option maxHeartbeats 4000000 in
theorem mulClo_any (hx : BoxQ w g1 v) (hy : BoxQ w g2 v2) (h1 : QNm w v x) (h2 : QNm w v2 y) (k1 : v.n ≤ 60) (k2 : v.m ≤ 60) (k3 : v2.n ≤ 60) (k4 : v2.m ≤ 60) : Calls Tryz.prog 42 #[.pointer (some ⟨g1, 0, none⟩), .pointer (some ⟨g2, 0, none⟩)] w (MkAns w (x.num * y.num) ((x.den : Int) * (y.den : Int))) := by
  have HT0 := Lib.hid ((clo_new hx hy).next (Below.refl _ _).drew)
  have T0 := clo_new hx hy
  have hl1 := hx.lt
  have hl2 := hy.lt
  have BX := BdQ.of h1 k1 k2
  have BY := BdQ.of h2 k3 k4
  have BXn : Bd 60 x.num := BX.1
  have BYn : Bd 60 y.num := BY.1
  have L1 : Hid (Bd 120 (x.num * y.num)) := BXn.mul BYn
  have L2 : Hid (Bd 120 ((x.den : Int) * (y.den : Int))) := (den_bd BX).mul (den_bd BY)
  have P1 := Lib.hid (fun W (hW : Below w.heap.size w W) => qtimes_any (w := W) (h1.a.below hW) (h2.a.below hW) (by omega) (by omega))
  unfold zV zv at P1
  rw [← h1.s, ← h2.s] at P1
  have N1 := Lib.hid (fun W => plus_any (w := W) (D := v.D) (nd := v.m) (cd := v.d))
  have N2 := Lib.hid (fun W => plus_any (w := W) (D := v2.D) (nd := v2.m) (cd := v2.d))
  have P2 := Lib.hid (fun W (hW : Below w.heap.size w W) => tmNN (w := W) (h1.d.below hW) (h2.d.below hW) (by omega) (by omega))
  clear hx hy h1 h2 k1 k2 k3 k4 BX BY BXn BYn
  generalize x.num * y.num = s at *
  generalize (x.den : Int) * (y.den : Int) = t at *
  unfold zV zv ZOne MkAns at *
  have qx0 := T0.x.c0
  have qx1 := T0.x.c1
  have qx2 := T0.x.c2
  have qy0 := T0.y.c0
  have qy1 := T0.y.c1
  have qy2 := T0.y.c2
  have zz0 := T0.z.c0
  have zz1 := T0.z.c1
  have zd0 := T0.d.c0
  have zd1 := T0.d.c1
  have fz0 := T0.z.f 0
  have fz1 := T0.z.f 1
  have fd0 := T0.d.f 0
  have fd1 := T0.d.f 1
  go_enter Tryz.func42, Tryz.ntmps42
  go_wp2_with fail
  go_region_held3 (fun W' => W'.cell? ⟨g1, 0, none⟩ = some (.bool v.p) ∧ W'.cell? ⟨g1, 1, none⟩ = some (.slice v.A v.n v.c) ∧ W'.cell? ⟨g1, 2, none⟩ = some (.slice v.D v.m v.d) ∧ W'.cell? ⟨g2, 0, none⟩ = some (.bool v2.p) ∧ W'.cell? ⟨g2, 1, none⟩ = some (.slice v2.A v2.n v2.c) ∧ W'.cell? ⟨g2, 2, none⟩ = some (.slice v2.D v2.m v2.d)) (first | (with_reducible exact ⟨qx0, qx1, qx2, qy0, qy1, qy2⟩) | (with_reducible refine ⟨cell_far (cell_far (qx0) ?_ _) ?_ _, cell_far (cell_far (qx1) ?_ _) ?_ _, cell_far (cell_far (qx2) ?_ _) ?_ _, cell_far (cell_far (qy0) ?_ _) ?_ _, cell_far (cell_far (qy1) ?_ _) ?_ _, cell_far (cell_far (qy2) ?_ _) ?_ _⟩ <;> omega) | (with_reducible refine ⟨cell_far (cell_far (cell_far (cell_far (qx0) ?_ _) ?_ _) ?_ _) ?_ _, cell_far (cell_far (cell_far (cell_far (qx1) ?_ _) ?_ _) ?_ _) ?_ _, cell_far (cell_far (cell_far (cell_far (qx2) ?_ _) ?_ _) ?_ _) ?_ _, cell_far (cell_far (cell_far (cell_far (qy0) ?_ _) ?_ _) ?_ _) ?_ _, cell_far (cell_far (cell_far (cell_far (qy1) ?_ _) ?_ _) ?_ _) ?_ _, cell_far (cell_far (cell_far (cell_far (qy2) ?_ _) ?_ _) ?_ _) ?_ _⟩ <;> omega) | go_keep)
    (first
      | (have hmk := T3; go_at_call 43; refine (P2.out _ T3.b).mono ?_; rintro e w4 ⟨A5, k5, c5, rfl, o5, hb4⟩; have T4 := T3.next hb4; have o3m := o3b.below hb4; clear qx0 qx1 qx2 qy0 qy1 qy2 zz0 zz1 zd0 zd1 fz0 fz1 fd0 fd1; have qx0 := T4.x.c0; have qx1 := T4.x.c1; have qx2 := T4.x.c2; have qy0 := T4.y.c0; have qy1 := T4.y.c1; have qy2 := T4.y.c2; have zz0 := T4.z.c0; have zz1 := T4.z.c1; have zd0 := T4.d.c0; have zd1 := T4.d.c1; have fz0 := T4.z.f 0; have fz1 := T4.z.f 1; have fd0 := T4.d.f 0; have fd1 := T4.d.f 1; try unfold zV; try unfold zv)
      | (have hmk := T2; go_at_call 44; refine (N2.out _).mono ?_; rintro e w3 ⟨rfl, hb3⟩; have T3 := T2.next hb3; have o3b := o3a.below hb3; clear qx0 qx1 qx2 qy0 qy1 qy2 zz0 zz1 zd0 zd1 fz0 fz1 fd0 fd1; have qx0 := T3.x.c0; have qx1 := T3.x.c1; have qx2 := T3.x.c2; have qy0 := T3.y.c0; have qy1 := T3.y.c1; have qy2 := T3.y.c2; have zz0 := T3.z.c0; have zz1 := T3.z.c1; have zd0 := T3.d.c0; have zd1 := T3.d.c1; have fz0 := T3.z.f 0; have fz1 := T3.z.f 1; have fd0 := T3.d.f 0; have fd1 := T3.d.f 1; try unfold zV; try unfold zv)
      | (have hmk := T1; go_at_call 44; refine (N1.out _).mono ?_; rintro e w2 ⟨rfl, hb2⟩; have T2 := T1.next hb2; have o3a := o3.below hb2; clear qx0 qx1 qx2 qy0 qy1 qy2 zz0 zz1 zd0 zd1 fz0 fz1 fd0 fd1; have qx0 := T2.x.c0; have qx1 := T2.x.c1; have qx2 := T2.x.c2; have qy0 := T2.y.c0; have qy1 := T2.y.c1; have qy2 := T2.y.c2; have zz0 := T2.z.c0; have zz1 := T2.z.c1; have zd0 := T2.d.c0; have zd1 := T2.d.c1; have fz0 := T2.z.f 0; have fz1 := T2.z.f 1; have fd0 := T2.d.f 0; have fd1 := T2.d.f 1; try unfold zV; try unfold zv)
      | (go_at_call 43; refine (P1.out _ HT0.out.b).mono ?_; rintro e w1 ⟨A3, k3, c3, rfl, o3, hb1⟩; have T1 := HT0.out.next hb1; clear qx0 qx1 qx2 qy0 qy1 qy2 zz0 zz1 zd0 zd1 fz0 fz1 fd0 fd1; have qx0 := T1.x.c0; have qx1 := T1.x.c1; have qx2 := T1.x.c2; have qy0 := T1.y.c0; have qy1 := T1.y.c1; have qy2 := T1.y.c2; have zz0 := T1.z.c0; have zz1 := T1.z.c1; have zd0 := T1.d.c0; have zd1 := T1.d.c1; have fz0 := T1.z.f 0; have fz1 := T1.z.f 1; have fd0 := T1.d.f 0; have fd1 := T1.d.f 1; try unfold zV; try unfold zv))
  have hG := Lib.hid (And.intro (Array.getElem?_eq_some_iff.1 HT0.out.z).1 (And.intro (Array.getElem?_eq_some_iff.1 T3.z).1 (And.intro (Array.getElem?_eq_some_iff.1 HT0.out.d).1 (Array.getElem?_eq_some_iff.1 T3.d).1)))
  go_wp2
  refine bodyPost_ret (v := .tuple #[zV s A3 k3 c3, zV t A5 k5 c5]) (by simp [results, Tryz.results42, go_sem, zz0, zz1, zd0, zd1, zV, zv]) rfl ?_
  have q1 := L1.out.len o3
  have q2 := L2.out.len o5
  exact ⟨A3, k3, c3, A5, k5, c5, rfl, (own_box4 hG.out.1 hG.out.2.2.1 (Nat.le_refl _) (Nat.le_succ _) o3m _ _ _ _).nm, (own_box4 hG.out.2.1 hG.out.2.2.2 (Nat.le_refl _) (Nat.le_succ _) o5 _ _ _ _).nm, by omega, by omega, box_below (Nat.le_succ _) (box_below (Nat.le_refl _) T4.b _ _) _ _⟩
set_option maxRecDepth 100000 in
set_option maxHeartbeats 4000000 in
theorem divClo_any (hx : BoxQ w g1 v) (hy : BoxQ w g2 v2) (h1 : QNm w v x) (h2 : QNm w v2 y) (k1 : v.n ≤ 60) (k2 : v.m ≤ 60) (k3 : v2.n ≤ 60) (k4 : v2.m ≤ 60) : Calls Tryz.prog 51 #[.pointer (some ⟨g1, 0, none⟩), .pointer (some ⟨g2, 0, none⟩)] w (MkAns w (x.num * (y.den : Int)) ((x.den : Int) * y.num)) := by
  have HT0 := Lib.hid ((clo_new hx hy).next (Below.refl _ _).drew)
  have T0 := clo_new hx hy
  have hl1 := hx.lt
  have hl2 := hy.lt
  have BX := BdQ.of h1 k1 k2
  have BY := BdQ.of h2 k3 k4
  have BXn : Bd 60 x.num := BX.1
  have BYn : Bd 60 y.num := BY.1
  have L1 : Hid (Bd 120 (x.num * (y.den : Int))) := BXn.mul (den_bd BY)
  have L2 : Hid (Bd 120 ((x.den : Int) * y.num)) := (den_bd BX).mul BYn
  have P1 := Lib.hid (fun W (hW : Below w.heap.size w W) => tmN (w := W) (h1.a.below hW) (h2.d.below hW) (by omega) (by omega))
  rw [← h1.s] at P1
  have N1 := Lib.hid (fun W => plus_any (w := W) (D := v.D) (nd := v.m) (cd := v.d))
  have N2 := Lib.hid (fun W => plus_any (w := W) (D := v2.D) (nd := v2.m) (cd := v2.d))
  have P2 := Lib.hid (fun W (hW : Below w.heap.size w W) => tmNZ (w := W) (h1.d.below hW) (h2.a.below hW) (by omega) (by omega))
  rw [← h2.s] at P2
  clear hx hy h1 h2 k1 k2 k3 k4 BX BY BXn BYn
  generalize x.num * (y.den : Int) = s at *
  generalize (x.den : Int) * y.num = t at *
  unfold zV zv ZOne MkAns at *
  have qx0 := T0.x.c0
  have qx1 := T0.x.c1
  have qx2 := T0.x.c2
  have qy0 := T0.y.c0
  have qy1 := T0.y.c1
  have qy2 := T0.y.c2
  have zz0 := T0.z.c0
  have zz1 := T0.z.c1
  have zd0 := T0.d.c0
  have zd1 := T0.d.c1
  have fz0 := T0.z.f 0
  have fz1 := T0.z.f 1
  have fd0 := T0.d.f 0
  have fd1 := T0.d.f 1
  go_enter Tryz.func51, Tryz.ntmps51
  go_wp2_with fail
  go_region_held3 (fun W' => W'.cell? ⟨g1, 0, none⟩ = some (.bool v.p) ∧ W'.cell? ⟨g1, 1, none⟩ = some (.slice v.A v.n v.c) ∧ W'.cell? ⟨g1, 2, none⟩ = some (.slice v.D v.m v.d) ∧ W'.cell? ⟨g2, 0, none⟩ = some (.bool v2.p) ∧ W'.cell? ⟨g2, 1, none⟩ = some (.slice v2.A v2.n v2.c) ∧ W'.cell? ⟨g2, 2, none⟩ = some (.slice v2.D v2.m v2.d)) (first | (with_reducible exact ⟨qx0, qx1, qx2, qy0, qy1, qy2⟩) | (with_reducible refine ⟨cell_far (cell_far (qx0) ?_ _) ?_ _, cell_far (cell_far (qx1) ?_ _) ?_ _, cell_far (cell_far (qx2) ?_ _) ?_ _, cell_far (cell_far (qy0) ?_ _) ?_ _, cell_far (cell_far (qy1) ?_ _) ?_ _, cell_far (cell_far (qy2) ?_ _) ?_ _⟩ <;> omega) | (with_reducible refine ⟨cell_far (cell_far (cell_far (cell_far (qx0) ?_ _) ?_ _) ?_ _) ?_ _, cell_far (cell_far (cell_far (cell_far (qx1) ?_ _) ?_ _) ?_ _) ?_ _, cell_far (cell_far (cell_far (cell_far (qx2) ?_ _) ?_ _) ?_ _) ?_ _, cell_far (cell_far (cell_far (cell_far (qy0) ?_ _) ?_ _) ?_ _) ?_ _, cell_far (cell_far (cell_far (cell_far (qy1) ?_ _) ?_ _) ?_ _) ?_ _, cell_far (cell_far (cell_far (cell_far (qy2) ?_ _) ?_ _) ?_ _) ?_ _⟩ <;> omega) | go_keep)
    (first
      | (have hmk := T3; go_at_call 43; refine (P2.out _ T3.b).mono ?_; rintro e w4 ⟨A5, k5, c5, rfl, o5, hb4⟩; have T4 := T3.next hb4; have o3m := o3b.below hb4; clear qx0 qx1 qx2 qy0 qy1 qy2 zz0 zz1 zd0 zd1 fz0 fz1 fd0 fd1; have qx0 := T4.x.c0; have qx1 := T4.x.c1; have qx2 := T4.x.c2; have qy0 := T4.y.c0; have qy1 := T4.y.c1; have qy2 := T4.y.c2; have zz0 := T4.z.c0; have zz1 := T4.z.c1; have zd0 := T4.d.c0; have zd1 := T4.d.c1; have fz0 := T4.z.f 0; have fz1 := T4.z.f 1; have fd0 := T4.d.f 0; have fd1 := T4.d.f 1; try unfold zV; try unfold zv)
      | (have hmk := T2; go_at_call 44; refine (N1.out _).mono ?_; rintro e w3 ⟨rfl, hb3⟩; have T3 := T2.next hb3; have o3b := o3.below hb3; clear qx0 qx1 qx2 qy0 qy1 qy2 zz0 zz1 zd0 zd1 fz0 fz1 fd0 fd1; have qx0 := T3.x.c0; have qx1 := T3.x.c1; have qx2 := T3.x.c2; have qy0 := T3.y.c0; have qy1 := T3.y.c1; have qy2 := T3.y.c2; have zz0 := T3.z.c0; have zz1 := T3.z.c1; have zd0 := T3.d.c0; have zd1 := T3.d.c1; have fz0 := T3.z.f 0; have fz1 := T3.z.f 1; have fd0 := T3.d.f 0; have fd1 := T3.d.f 1; try unfold zV; try unfold zv)
      | (have hmk := T1; go_at_call 43; refine (P1.out _ T1.b).mono ?_; rintro e w2 ⟨A3, k3, c3, rfl, o3, hb2⟩; have T2 := T1.next hb2; clear qx0 qx1 qx2 qy0 qy1 qy2 zz0 zz1 zd0 zd1 fz0 fz1 fd0 fd1; have qx0 := T2.x.c0; have qx1 := T2.x.c1; have qx2 := T2.x.c2; have qy0 := T2.y.c0; have qy1 := T2.y.c1; have qy2 := T2.y.c2; have zz0 := T2.z.c0; have zz1 := T2.z.c1; have zd0 := T2.d.c0; have zd1 := T2.d.c1; have fz0 := T2.z.f 0; have fz1 := T2.z.f 1; have fd0 := T2.d.f 0; have fd1 := T2.d.f 1; try unfold zV; try unfold zv)
      | (go_at_call 44; refine (N2.out _).mono ?_; rintro e w1 ⟨rfl, hb1⟩; have T1 := HT0.out.next hb1; clear qx0 qx1 qx2 qy0 qy1 qy2 zz0 zz1 zd0 zd1 fz0 fz1 fd0 fd1; have qx0 := T1.x.c0; have qx1 := T1.x.c1; have qx2 := T1.x.c2; have qy0 := T1.y.c0; have qy1 := T1.y.c1; have qy2 := T1.y.c2; have zz0 := T1.z.c0; have zz1 := T1.z.c1; have zd0 := T1.d.c0; have zd1 := T1.d.c1; have fz0 := T1.z.f 0; have fz1 := T1.z.f 1; have fd0 := T1.d.f 0; have fd1 := T1.d.f 1; try unfold zV; try unfold zv))
  have hG := Lib.hid (And.intro (Array.getElem?_eq_some_iff.1 T1.z).1 (And.intro (Array.getElem?_eq_some_iff.1 T3.z).1 (And.intro (Array.getElem?_eq_some_iff.1 T1.d).1 (Array.getElem?_eq_some_iff.1 T3.d).1)))
  go_wp2
  refine bodyPost_ret (v := .tuple #[zV s A3 k3 c3, zV t A5 k5 c5]) (by simp [results, Tryz.results51, go_sem, zz0, zz1, zd0, zd1, zV, zv]) rfl ?_
  have q1 := L1.out.len o3
  have q2 := L2.out.len o5
  exact ⟨A3, k3, c3, A5, k5, c5, rfl, (own_box4 hG.out.1 hG.out.2.2.1 (Nat.le_refl _) (Nat.le_succ _) o3m _ _ _ _).nm, (own_box4 hG.out.2.1 hG.out.2.2.2 (Nat.le_refl _) (Nat.le_succ _) o5 _ _ _ _).nm, by omega, by omega, box_below (Nat.le_succ _) (box_below (Nat.le_refl _) T4.b _ _) _ _⟩
end
end Go.Proofs.YtbldimplddiheaaGreatDoor

/- rat: what makes a num and a den, of Add and Sub; overOne. -/
namespace Go.Proofs.YtbldimplddiheaaGreatDoor
open Go.RowKit Go.Shelf
set_option linter.unusedVariables false
set_option linter.unusedSimpArgs false

theorem own_set2 {w : World} {K g : Nat} {v : Value} {l : List Nat} (o : Own w K v l) (h1 : g < K) (u1 u2 : Value) : Own ((w.setCell ⟨g, 0, none⟩ u1).setCell ⟨g, 1, none⟩ u2) K v l :=
  own_far (own_far o (p := ⟨g, 0, none⟩) h1 _) (p := ⟨g, 1, none⟩) h1 _
theorem own_set4 {w : World} {K g g2 : Nat} {v : Value} {l : List Nat} (o : Own w K v l) (h1 : g < K) (h2 : g2 < K) (u1 u2 u3 u4 : Value) : Own ((((w.setCell ⟨g, 0, none⟩ u1).setCell ⟨g, 1, none⟩ u2).setCell ⟨g2, 0, none⟩ u3).setCell ⟨g2, 1, none⟩ u4) K v l :=
  own_set2 (own_set2 o h1 u1 u2) h2 u3 u4
abbrev hT : TypeId := 99
section
variable {g1 g2 gh : Nat} {w : World} {x y : Rat} {v v2 : QV}
set_option maxRecDepth 100000 in
set_option maxHeartbeats 4000000 in
theorem addClo_any (hh : w.heap[gh]? = some (.cells #[.func (.func 56) #[] #[]] hT)) (hx : BoxQ w g1 v) (hy : BoxQ w g2 v2) (h1 : QNm w v x) (h2 : QNm w v2 y) (k1 : v.n ≤ 60) (k2 : v.m ≤ 60) (k3 : v2.n ≤ 60) (k4 : v2.m ≤ 60) : Calls Tryz.prog 87 #[.pointer (some ⟨gh, 0, none⟩), .pointer (some ⟨g1, 0, none⟩), .pointer (some ⟨g2, 0, none⟩)] w (MkAns w (x.num * (y.den : Int) + y.num * (x.den : Int)) ((x.den : Int) * (y.den : Int))) := by
  have HT0 := Lib.hid ((clo_new hx hy).next (Below.refl _ _).drew)
  have T0 := clo_new hx hy
  have hl1 := hx.lt
  have hl2 := hy.lt
  have hl3 : gh < w.heap.size := (Array.getElem?_eq_some_iff.1 hh).1
  have HH : Hid (∀ W, Below w.heap.size w W → W.cell? ⟨gh, 0, none⟩ = some (.func (.func 56) #[] #[])) := fun W hb => cells_cell ((hb.block gh hl3).trans hh) rfl
  have BX := BdQ.of h1 k1 k2
  have BY := BdQ.of h2 k3 k4
  have BXn : Bd 60 x.num := BX.1
  have BYn : Bd 60 y.num := BY.1
  have B1 : Hid (Bd 120 (x.num * (y.den : Int))) := BXn.mul (den_bd BY)
  have B2 : Hid (Bd 120 (y.num * (x.den : Int))) := BYn.mul (den_bd BX)
  have L1 : Hid (Bd 121 (x.num * (y.den : Int) + y.num * (x.den : Int))) := by have a := B1.out; have b := B2.out; exact a.add b
  have L2 : Hid (Bd 120 ((x.den : Int) * (y.den : Int))) := (den_bd BX).mul (den_bd BY)
  have P1 := Lib.hid (fun W (hW : Below w.heap.size w W) => crossed_any (w := W) (h1.below hW) (h2.below hW) k1 k2 k3 k4)
  have P2 := Lib.hid (fun W (hW : Below w.heap.size w W) => tmNN (w := W) (h1.d.below hW) (h2.d.below hW) (by omega) (by omega))
  have PH := Lib.hid (fun W {A A2 : Option Addr} {n c m k : Nat} (h1 : ZNm W A n c (x.num * (y.den : Int))) (h2 : ZNm W A2 m k (y.num * (x.den : Int))) (l1 : n ≤ 400) (l2 : m ≤ 400) => addN (w := W) h1 h2 l1 l2)
  have N1 := Lib.hid (fun W => plus_any (w := W) (D := v.D) (nd := v.m) (cd := v.d))
  have N2 := Lib.hid (fun W => plus_any (w := W) (D := v2.D) (nd := v2.m) (cd := v2.d))
  clear hx hy h1 h2 k1 k2 k3 k4 BX BY BXn BYn hh
  generalize x.num * (y.den : Int) + y.num * (x.den : Int) = s at *
  generalize x.num * (y.den : Int) = s1 at *
  generalize y.num * (x.den : Int) = s2 at *
  generalize (x.den : Int) * (y.den : Int) = t at *
  unfold QV.v ZOne ZTwo ZAns MkAns zV zv at *
  have hf := HH.out _ T0.b
  have qx0 := T0.x.c0
  have qx1 := T0.x.c1
  have qx2 := T0.x.c2
  have qy0 := T0.y.c0
  have qy1 := T0.y.c1
  have qy2 := T0.y.c2
  have zz0 := T0.z.c0
  have zz1 := T0.z.c1
  have zd0 := T0.d.c0
  have zd1 := T0.d.c1
  have fz0 := T0.z.f 0
  have fz1 := T0.z.f 1
  have fd0 := T0.d.f 0
  have fd1 := T0.d.f 1
  go_enter Tryz.func87, Tryz.ntmps87
  go_wp2_with fail
  go_region_held3 (fun W' => W'.cell? ⟨gh, 0, none⟩ = some (.func (.func 56) #[] #[]) ∧ W'.cell? ⟨g1, 0, none⟩ = some (.bool v.p) ∧ W'.cell? ⟨g1, 1, none⟩ = some (.slice v.A v.n v.c) ∧ W'.cell? ⟨g1, 2, none⟩ = some (.slice v.D v.m v.d) ∧ W'.cell? ⟨g2, 0, none⟩ = some (.bool v2.p) ∧ W'.cell? ⟨g2, 1, none⟩ = some (.slice v2.A v2.n v2.c) ∧ W'.cell? ⟨g2, 2, none⟩ = some (.slice v2.D v2.m v2.d)) (first | (with_reducible exact ⟨hf, qx0, qx1, qx2, qy0, qy1, qy2⟩) | (with_reducible refine ⟨cell_far (cell_far (hf) ?_ _) ?_ _, cell_far (cell_far (qx0) ?_ _) ?_ _, cell_far (cell_far (qx1) ?_ _) ?_ _, cell_far (cell_far (qx2) ?_ _) ?_ _, cell_far (cell_far (qy0) ?_ _) ?_ _, cell_far (cell_far (qy1) ?_ _) ?_ _, cell_far (cell_far (qy2) ?_ _) ?_ _⟩ <;> omega) | go_keep)
    (first
      | (have hmk := T1; go_at_call 56; refine (PH.out _ o3.nm o5.nm (by have := B1.out.len o3; omega) (by have := B2.out.len o5; omega)).mono ?_; rintro e w2 ⟨A6, k6, c6, rfl, o6, hb2⟩; have T2 := T1.next hb2; clear qx0 qx1 qx2 qy0 qy1 qy2 zz0 zz1 zd0 zd1 fz0 fz1 fd0 fd1 hf; have qx0 := T2.x.c0; have qx1 := T2.x.c1; have qx2 := T2.x.c2; have qy0 := T2.y.c0; have qy1 := T2.y.c1; have qy2 := T2.y.c2; have zz0 := T2.z.c0; have zz1 := T2.z.c1; have zd0 := T2.d.c0; have zd1 := T2.d.c1; have fz0 := T2.z.f 0; have fz1 := T2.z.f 1; have fd0 := T2.d.f 0; have fd1 := T2.d.f 1; have hf := HH.out _ T2.b; try unfold zV; try unfold zv)
      | (go_at_call 47; refine (P1.out _ HT0.out.b).mono ?_; rintro e w1 ⟨A3, k3, c3, A5, k5, c5, rfl, o3, o5, hb1⟩; have T1 := HT0.out.next hb1; clear qx0 qx1 qx2 qy0 qy1 qy2 zz0 zz1 zd0 zd1 fz0 fz1 fd0 fd1 hf; have qx0 := T1.x.c0; have qx1 := T1.x.c1; have qx2 := T1.x.c2; have qy0 := T1.y.c0; have qy1 := T1.y.c1; have qy2 := T1.y.c2; have zz0 := T1.z.c0; have zz1 := T1.z.c1; have zd0 := T1.d.c0; have zd1 := T1.d.c1; have fz0 := T1.z.f 0; have fz1 := T1.z.f 1; have fd0 := T1.d.f 0; have fd1 := T1.d.f 1; have hf := HH.out _ T1.b; try unfold zV; try unfold zv))
  have hG1 := Lib.hid (Array.getElem?_eq_some_iff.1 T1.d).1
  have T3 := T2.set (decide (s < 0)) A6 k6 c6
  have k6l : k6 ≤ 121 := L1.out.len o6
  have o7 := own_set2 (own_mono o6 (show w.heap.size + 1 + 1 ≤ w1.heap.size from hG1.out)) (g := w.heap.size) (by omega) (.bool (decide (s < 0))) (.slice A6 k6 c6)
  clear o3 o5 o6 hG1
  clear qx0 qx1 qx2 qy0 qy1 qy2 zz0 zz1 zd0 zd1 fz0 fz1 fd0 fd1 hf
  generalize ((w2.setCell ⟨w.heap.size, 0, none⟩ (.bool (decide (s < 0)))).setCell ⟨w.heap.size, 1, none⟩ (.slice A6 k6 c6)) = W4 at *
  have HT3 := Lib.hid (T3.next (Below.refl _ _).drew)
  have o7d := Lib.hid (o7.below (Below.refl W4.heap.size W4).drew)
  have qx0 := T3.x.c0
  have qx1 := T3.x.c1
  have qx2 := T3.x.c2
  have qy0 := T3.y.c0
  have qy1 := T3.y.c1
  have qy2 := T3.y.c2
  have zz0 := T3.z.c0
  have zz1 := T3.z.c1
  have zd0 := T3.d.c0
  have zd1 := T3.d.c1
  have fz0 := T3.z.f 0
  have fz1 := T3.z.f 1
  have fd0 := T3.d.f 0
  have fd1 := T3.d.f 1
  go_wp2_with fail
  go_region_held3 (fun W' => W'.cell? ⟨g1, 0, none⟩ = some (.bool v.p) ∧ W'.cell? ⟨g1, 1, none⟩ = some (.slice v.A v.n v.c) ∧ W'.cell? ⟨g1, 2, none⟩ = some (.slice v.D v.m v.d) ∧ W'.cell? ⟨g2, 0, none⟩ = some (.bool v2.p) ∧ W'.cell? ⟨g2, 1, none⟩ = some (.slice v2.A v2.n v2.c) ∧ W'.cell? ⟨g2, 2, none⟩ = some (.slice v2.D v2.m v2.d) ∧ W'.cell? ⟨w.heap.size, 0, none⟩ = some (.bool (decide (s < 0))) ∧ W'.cell? ⟨w.heap.size, 1, none⟩ = some (.slice A6 k6 c6)) (first | (with_reducible exact ⟨qx0, qx1, qx2, qy0, qy1, qy2, zz0, zz1⟩) | (with_reducible exact ⟨(T6.set _ _ _ _).x.c0, (T6.set _ _ _ _).x.c1, (T6.set _ _ _ _).x.c2, (T6.set _ _ _ _).y.c0, (T6.set _ _ _ _).y.c1, (T6.set _ _ _ _).y.c2, (T6.set _ _ _ _).z.c0, (T6.set _ _ _ _).z.c1⟩) | (with_reducible refine ⟨cell_far (cell_far ((T6.set _ _ _ _).x.c0) ?_ _) ?_ _, cell_far (cell_far ((T6.set _ _ _ _).x.c1) ?_ _) ?_ _, cell_far (cell_far ((T6.set _ _ _ _).x.c2) ?_ _) ?_ _, cell_far (cell_far ((T6.set _ _ _ _).y.c0) ?_ _) ?_ _, cell_far (cell_far ((T6.set _ _ _ _).y.c1) ?_ _) ?_ _, cell_far (cell_far ((T6.set _ _ _ _).y.c2) ?_ _) ?_ _, cell_far (cell_far ((T6.set _ _ _ _).z.c0) ?_ _) ?_ _, cell_far (cell_far ((T6.set _ _ _ _).z.c1) ?_ _) ?_ _⟩ <;> omega) | go_keep)
    (first
      | (have hmk := T5; go_at_call 43; refine (P2.out _ T5.b).mono ?_; rintro e w6 ⟨A8, k8, c8, rfl, o8, hb6⟩; have T6 := T5.next hb6; have n7c := n7b.below hb6; clear qx0 qx1 qx2 qy0 qy1 qy2 zz0 zz1 zd0 zd1 fz0 fz1 fd0 fd1; have qx0 := T6.x.c0; have qx1 := T6.x.c1; have qx2 := T6.x.c2; have qy0 := T6.y.c0; have qy1 := T6.y.c1; have qy2 := T6.y.c2; have zz0 := T6.z.c0; have zz1 := T6.z.c1; have zd0 := T6.d.c0; have zd1 := T6.d.c1; have fz0 := T6.z.f 0; have fz1 := T6.z.f 1; have fd0 := T6.d.f 0; have fd1 := T6.d.f 1; try unfold zV; try unfold zv)
      | (have hmk := T4; go_at_call 44; refine (N2.out _).mono ?_; rintro e w5 ⟨rfl, hb5⟩; have T5 := T4.next hb5; have n7b := n7a.below hb5; clear qx0 qx1 qx2 qy0 qy1 qy2 zz0 zz1 zd0 zd1 fz0 fz1 fd0 fd1; have qx0 := T5.x.c0; have qx1 := T5.x.c1; have qx2 := T5.x.c2; have qy0 := T5.y.c0; have qy1 := T5.y.c1; have qy2 := T5.y.c2; have zz0 := T5.z.c0; have zz1 := T5.z.c1; have zd0 := T5.d.c0; have zd1 := T5.d.c1; have fz0 := T5.z.f 0; have fz1 := T5.z.f 1; have fd0 := T5.d.f 0; have fd1 := T5.d.f 1)
      | (go_at_call 44; refine (N1.out _).mono ?_; rintro e w4 ⟨rfl, hb4⟩; have T4 := HT3.out.next hb4; have n7a := o7d.out.below hb4; clear qx0 qx1 qx2 qy0 qy1 qy2 zz0 zz1 zd0 zd1 fz0 fz1 fd0 fd1; have qx0 := T4.x.c0; have qx1 := T4.x.c1; have qx2 := T4.x.c2; have qy0 := T4.y.c0; have qy1 := T4.y.c1; have qy2 := T4.y.c2; have zz0 := T4.z.c0; have zz1 := T4.z.c1; have zd0 := T4.d.c0; have zd1 := T4.d.c1; have fz0 := T4.z.f 0; have fz1 := T4.z.f 1; have fd0 := T4.d.f 0; have fd1 := T4.d.f 1))
  have hG := Lib.hid (And.intro (Array.getElem?_eq_some_iff.1 T5.z).1 (Array.getElem?_eq_some_iff.1 T5.d).1)
  have k8l : k8 ≤ 120 := L2.out.len o8
  go_wp2
  refine bodyPost_ret (v := .tuple #[zV s A6 k6 c6, zV t A8 k8 c8]) (by simp [results, Tryz.results87, go_sem, zz0, zz1, zd0, zd1, zV, zv]) rfl ?_
  exact ⟨A6, k6, c6, A8, k8, c8, rfl, (own_set4 n7c (by omega) (by omega) _ _ _ _).nm, (own_box4 hG.out.1 hG.out.2 (Nat.le_refl _) (Nat.le_succ _) o8 _ _ _ _).nm, by omega, by omega, box_below (Nat.le_succ _) (box_below (Nat.le_refl _) T6.b _ _) _ _⟩
set_option maxRecDepth 100000 in
set_option maxHeartbeats 4000000 in
theorem subClo_any (hh : w.heap[gh]? = some (.cells #[.func (.func 59) #[] #[]] hT)) (hx : BoxQ w g1 v) (hy : BoxQ w g2 v2) (h1 : QNm w v x) (h2 : QNm w v2 y) (k1 : v.n ≤ 60) (k2 : v.m ≤ 60) (k3 : v2.n ≤ 60) (k4 : v2.m ≤ 60) : Calls Tryz.prog 87 #[.pointer (some ⟨gh, 0, none⟩), .pointer (some ⟨g1, 0, none⟩), .pointer (some ⟨g2, 0, none⟩)] w (MkAns w (x.num * (y.den : Int) - y.num * (x.den : Int)) ((x.den : Int) * (y.den : Int))) := by
  have HT0 := Lib.hid ((clo_new hx hy).next (Below.refl _ _).drew)
  have T0 := clo_new hx hy
  have hl1 := hx.lt
  have hl2 := hy.lt
  have hl3 : gh < w.heap.size := (Array.getElem?_eq_some_iff.1 hh).1
  have HH : Hid (∀ W, Below w.heap.size w W → W.cell? ⟨gh, 0, none⟩ = some (.func (.func 59) #[] #[])) := fun W hb => cells_cell ((hb.block gh hl3).trans hh) rfl
  have BX := BdQ.of h1 k1 k2
  have BY := BdQ.of h2 k3 k4
  have BXn : Bd 60 x.num := BX.1
  have BYn : Bd 60 y.num := BY.1
  have B1 : Hid (Bd 120 (x.num * (y.den : Int))) := BXn.mul (den_bd BY)
  have B2 : Hid (Bd 120 (y.num * (x.den : Int))) := BYn.mul (den_bd BX)
  have L1 : Hid (Bd 121 (x.num * (y.den : Int) - y.num * (x.den : Int))) := by have a := B1.out; have b := B2.out; exact a.sub b
  have L2 : Hid (Bd 120 ((x.den : Int) * (y.den : Int))) := (den_bd BX).mul (den_bd BY)
  have P1 := Lib.hid (fun W (hW : Below w.heap.size w W) => crossed_any (w := W) (h1.below hW) (h2.below hW) k1 k2 k3 k4)
  have P2 := Lib.hid (fun W (hW : Below w.heap.size w W) => tmNN (w := W) (h1.d.below hW) (h2.d.below hW) (by omega) (by omega))
  have PH := Lib.hid (fun W {A A2 : Option Addr} {n c m k : Nat} (h1 : ZNm W A n c (x.num * (y.den : Int))) (h2 : ZNm W A2 m k (y.num * (x.den : Int))) (l1 : n ≤ 400) (l2 : m ≤ 400) => subN (w := W) h1 h2 l1 l2)
  have N1 := Lib.hid (fun W => plus_any (w := W) (D := v.D) (nd := v.m) (cd := v.d))
  have N2 := Lib.hid (fun W => plus_any (w := W) (D := v2.D) (nd := v2.m) (cd := v2.d))
  clear hx hy h1 h2 k1 k2 k3 k4 BX BY BXn BYn hh
  generalize x.num * (y.den : Int) - y.num * (x.den : Int) = s at *
  generalize x.num * (y.den : Int) = s1 at *
  generalize y.num * (x.den : Int) = s2 at *
  generalize (x.den : Int) * (y.den : Int) = t at *
  unfold QV.v ZOne ZTwo ZAns MkAns zV zv at *
  have hf := HH.out _ T0.b
  have qx0 := T0.x.c0
  have qx1 := T0.x.c1
  have qx2 := T0.x.c2
  have qy0 := T0.y.c0
  have qy1 := T0.y.c1
  have qy2 := T0.y.c2
  have zz0 := T0.z.c0
  have zz1 := T0.z.c1
  have zd0 := T0.d.c0
  have zd1 := T0.d.c1
  have fz0 := T0.z.f 0
  have fz1 := T0.z.f 1
  have fd0 := T0.d.f 0
  have fd1 := T0.d.f 1
  go_enter Tryz.func87, Tryz.ntmps87
  go_wp2_with fail
  go_region_held3 (fun W' => W'.cell? ⟨gh, 0, none⟩ = some (.func (.func 59) #[] #[]) ∧ W'.cell? ⟨g1, 0, none⟩ = some (.bool v.p) ∧ W'.cell? ⟨g1, 1, none⟩ = some (.slice v.A v.n v.c) ∧ W'.cell? ⟨g1, 2, none⟩ = some (.slice v.D v.m v.d) ∧ W'.cell? ⟨g2, 0, none⟩ = some (.bool v2.p) ∧ W'.cell? ⟨g2, 1, none⟩ = some (.slice v2.A v2.n v2.c) ∧ W'.cell? ⟨g2, 2, none⟩ = some (.slice v2.D v2.m v2.d)) (first | (with_reducible exact ⟨hf, qx0, qx1, qx2, qy0, qy1, qy2⟩) | (with_reducible refine ⟨cell_far (cell_far (hf) ?_ _) ?_ _, cell_far (cell_far (qx0) ?_ _) ?_ _, cell_far (cell_far (qx1) ?_ _) ?_ _, cell_far (cell_far (qx2) ?_ _) ?_ _, cell_far (cell_far (qy0) ?_ _) ?_ _, cell_far (cell_far (qy1) ?_ _) ?_ _, cell_far (cell_far (qy2) ?_ _) ?_ _⟩ <;> omega) | go_keep)
    (first
      | (have hmk := T1; go_at_call 59; refine (PH.out _ o3.nm o5.nm (by have := B1.out.len o3; omega) (by have := B2.out.len o5; omega)).mono ?_; rintro e w2 ⟨A6, k6, c6, rfl, o6, hb2⟩; have T2 := T1.next hb2; clear qx0 qx1 qx2 qy0 qy1 qy2 zz0 zz1 zd0 zd1 fz0 fz1 fd0 fd1 hf; have qx0 := T2.x.c0; have qx1 := T2.x.c1; have qx2 := T2.x.c2; have qy0 := T2.y.c0; have qy1 := T2.y.c1; have qy2 := T2.y.c2; have zz0 := T2.z.c0; have zz1 := T2.z.c1; have zd0 := T2.d.c0; have zd1 := T2.d.c1; have fz0 := T2.z.f 0; have fz1 := T2.z.f 1; have fd0 := T2.d.f 0; have fd1 := T2.d.f 1; have hf := HH.out _ T2.b; try unfold zV; try unfold zv)
      | (go_at_call 47; refine (P1.out _ HT0.out.b).mono ?_; rintro e w1 ⟨A3, k3, c3, A5, k5, c5, rfl, o3, o5, hb1⟩; have T1 := HT0.out.next hb1; clear qx0 qx1 qx2 qy0 qy1 qy2 zz0 zz1 zd0 zd1 fz0 fz1 fd0 fd1 hf; have qx0 := T1.x.c0; have qx1 := T1.x.c1; have qx2 := T1.x.c2; have qy0 := T1.y.c0; have qy1 := T1.y.c1; have qy2 := T1.y.c2; have zz0 := T1.z.c0; have zz1 := T1.z.c1; have zd0 := T1.d.c0; have zd1 := T1.d.c1; have fz0 := T1.z.f 0; have fz1 := T1.z.f 1; have fd0 := T1.d.f 0; have fd1 := T1.d.f 1; have hf := HH.out _ T1.b; try unfold zV; try unfold zv))
  have hG1 := Lib.hid (Array.getElem?_eq_some_iff.1 T1.d).1
  have T3 := T2.set (decide (s < 0)) A6 k6 c6
  have k6l : k6 ≤ 121 := L1.out.len o6
  have o7 := own_set2 (own_mono o6 (show w.heap.size + 1 + 1 ≤ w1.heap.size from hG1.out)) (g := w.heap.size) (by omega) (.bool (decide (s < 0))) (.slice A6 k6 c6)
  clear o3 o5 o6 hG1
  clear qx0 qx1 qx2 qy0 qy1 qy2 zz0 zz1 zd0 zd1 fz0 fz1 fd0 fd1 hf
  generalize ((w2.setCell ⟨w.heap.size, 0, none⟩ (.bool (decide (s < 0)))).setCell ⟨w.heap.size, 1, none⟩ (.slice A6 k6 c6)) = W4 at *
  have HT3 := Lib.hid (T3.next (Below.refl _ _).drew)
  have o7d := Lib.hid (o7.below (Below.refl W4.heap.size W4).drew)
  have qx0 := T3.x.c0
  have qx1 := T3.x.c1
  have qx2 := T3.x.c2
  have qy0 := T3.y.c0
  have qy1 := T3.y.c1
  have qy2 := T3.y.c2
  have zz0 := T3.z.c0
  have zz1 := T3.z.c1
  have zd0 := T3.d.c0
  have zd1 := T3.d.c1
  have fz0 := T3.z.f 0
  have fz1 := T3.z.f 1
  have fd0 := T3.d.f 0
  have fd1 := T3.d.f 1
  go_wp2_with fail
  go_region_held3 (fun W' => W'.cell? ⟨g1, 0, none⟩ = some (.bool v.p) ∧ W'.cell? ⟨g1, 1, none⟩ = some (.slice v.A v.n v.c) ∧ W'.cell? ⟨g1, 2, none⟩ = some (.slice v.D v.m v.d) ∧ W'.cell? ⟨g2, 0, none⟩ = some (.bool v2.p) ∧ W'.cell? ⟨g2, 1, none⟩ = some (.slice v2.A v2.n v2.c) ∧ W'.cell? ⟨g2, 2, none⟩ = some (.slice v2.D v2.m v2.d) ∧ W'.cell? ⟨w.heap.size, 0, none⟩ = some (.bool (decide (s < 0))) ∧ W'.cell? ⟨w.heap.size, 1, none⟩ = some (.slice A6 k6 c6)) (first | (with_reducible exact ⟨qx0, qx1, qx2, qy0, qy1, qy2, zz0, zz1⟩) | (with_reducible exact ⟨(T6.set _ _ _ _).x.c0, (T6.set _ _ _ _).x.c1, (T6.set _ _ _ _).x.c2, (T6.set _ _ _ _).y.c0, (T6.set _ _ _ _).y.c1, (T6.set _ _ _ _).y.c2, (T6.set _ _ _ _).z.c0, (T6.set _ _ _ _).z.c1⟩) | (with_reducible refine ⟨cell_far (cell_far ((T6.set _ _ _ _).x.c0) ?_ _) ?_ _, cell_far (cell_far ((T6.set _ _ _ _).x.c1) ?_ _) ?_ _, cell_far (cell_far ((T6.set _ _ _ _).x.c2) ?_ _) ?_ _, cell_far (cell_far ((T6.set _ _ _ _).y.c0) ?_ _) ?_ _, cell_far (cell_far ((T6.set _ _ _ _).y.c1) ?_ _) ?_ _, cell_far (cell_far ((T6.set _ _ _ _).y.c2) ?_ _) ?_ _, cell_far (cell_far ((T6.set _ _ _ _).z.c0) ?_ _) ?_ _, cell_far (cell_far ((T6.set _ _ _ _).z.c1) ?_ _) ?_ _⟩ <;> omega) | go_keep)
    (first
      | (have hmk := T5; go_at_call 43; refine (P2.out _ T5.b).mono ?_; rintro e w6 ⟨A8, k8, c8, rfl, o8, hb6⟩; have T6 := T5.next hb6; have n7c := n7b.below hb6; clear qx0 qx1 qx2 qy0 qy1 qy2 zz0 zz1 zd0 zd1 fz0 fz1 fd0 fd1; have qx0 := T6.x.c0; have qx1 := T6.x.c1; have qx2 := T6.x.c2; have qy0 := T6.y.c0; have qy1 := T6.y.c1; have qy2 := T6.y.c2; have zz0 := T6.z.c0; have zz1 := T6.z.c1; have zd0 := T6.d.c0; have zd1 := T6.d.c1; have fz0 := T6.z.f 0; have fz1 := T6.z.f 1; have fd0 := T6.d.f 0; have fd1 := T6.d.f 1; try unfold zV; try unfold zv)
      | (have hmk := T4; go_at_call 44; refine (N2.out _).mono ?_; rintro e w5 ⟨rfl, hb5⟩; have T5 := T4.next hb5; have n7b := n7a.below hb5; clear qx0 qx1 qx2 qy0 qy1 qy2 zz0 zz1 zd0 zd1 fz0 fz1 fd0 fd1; have qx0 := T5.x.c0; have qx1 := T5.x.c1; have qx2 := T5.x.c2; have qy0 := T5.y.c0; have qy1 := T5.y.c1; have qy2 := T5.y.c2; have zz0 := T5.z.c0; have zz1 := T5.z.c1; have zd0 := T5.d.c0; have zd1 := T5.d.c1; have fz0 := T5.z.f 0; have fz1 := T5.z.f 1; have fd0 := T5.d.f 0; have fd1 := T5.d.f 1)
      | (go_at_call 44; refine (N1.out _).mono ?_; rintro e w4 ⟨rfl, hb4⟩; have T4 := HT3.out.next hb4; have n7a := o7d.out.below hb4; clear qx0 qx1 qx2 qy0 qy1 qy2 zz0 zz1 zd0 zd1 fz0 fz1 fd0 fd1; have qx0 := T4.x.c0; have qx1 := T4.x.c1; have qx2 := T4.x.c2; have qy0 := T4.y.c0; have qy1 := T4.y.c1; have qy2 := T4.y.c2; have zz0 := T4.z.c0; have zz1 := T4.z.c1; have zd0 := T4.d.c0; have zd1 := T4.d.c1; have fz0 := T4.z.f 0; have fz1 := T4.z.f 1; have fd0 := T4.d.f 0; have fd1 := T4.d.f 1))
  have hG := Lib.hid (And.intro (Array.getElem?_eq_some_iff.1 T5.z).1 (Array.getElem?_eq_some_iff.1 T5.d).1)
  have k8l : k8 ≤ 120 := L2.out.len o8
  go_wp2
  refine bodyPost_ret (v := .tuple #[zV s A6 k6 c6, zV t A8 k8 c8]) (by simp [results, Tryz.results87, go_sem, zz0, zz1, zd0, zd1, zV, zv]) rfl ?_
  exact ⟨A6, k6, c6, A8, k8, c8, rfl, (own_set4 n7c (by omega) (by omega) _ _ _ _).nm, (own_box4 hG.out.1 hG.out.2 (Nat.le_refl _) (Nat.le_succ _) o8 _ _ _ _).nm, by omega, by omega, box_below (Nat.le_succ _) (box_below (Nat.le_refl _) T6.b _ _) _ _⟩
end
end Go.Proofs.YtbldimplddiheaaGreatDoor

/- rat: Add, Sub, Mul, Div. -/
namespace Go.Proofs.YtbldimplddiheaaGreatDoor
open Go.RowKit Go.Shelf
set_option linter.unusedVariables false
set_option linter.unusedSimpArgs false

theorem den_nz2 (x y : Rat) : (x.den : Int) * (y.den : Int) ≠ 0 := Int.mul_ne_zero (by have := x.den_nz; omega) (by have := y.den_nz; omega)
theorem add_div2 (x y : Rat) : Rat.divInt (x.num * (y.den : Int) + y.num * (x.den : Int)) ((x.den : Int) * (y.den : Int)) = x + y := by
  rw [← Int.natCast_mul, Rat.divInt_ofNat, sum_rat]
theorem sub_div2 (x y : Rat) : Rat.divInt (x.num * (y.den : Int) - y.num * (x.den : Int)) ((x.den : Int) * (y.den : Int)) = x - y := by
  rw [← Int.natCast_mul, Rat.divInt_ofNat, dif_rat]
theorem mul_div2 (x y : Rat) : Rat.divInt (x.num * y.num) ((x.den : Int) * (y.den : Int)) = x * y := by
  rw [← Int.natCast_mul, Rat.divInt_ofNat, mul_rat]
theorem nz_div (x y : Rat) : decide ((x.den : Int) * y.num ≠ 0) = decide (y ≠ 0) := by
  rw [decide_eq_decide]
  constructor
  · rintro h rfl
    exact h (by rw [show (0 : Rat).num = 0 from rfl, Int.mul_zero])
  · intro h
    exact Int.mul_ne_zero (by have := x.den_nz; omega) (num_ne h)
theorem both_iff3 {v v2 : QV} {a d a2 d2 : List Nat} : both2 v v2 a d a2 d2 = true ↔ mayQ v.p a d = true ∧ mayQ v2.p a2 d2 = true := by unfold both2; simp
abbrev ho (F : Nat) : Obj := .cells #[.func (.func F) #[] #[]] hT
section
variable {w : World} {x y : Rat} {v v2 : QV} {a d a2 d2 : List Nat}
set_option maxRecDepth 100000 in
set_option maxHeartbeats 4000000 in
theorem overOne_any (F : Nat) : Calls Tryz.prog 55 #[v.v, v2.v, .func (.func F) #[] #[]] w fun e w' => ∃ gh g1 g2, e = .returned (.func (.func 87) #[] #[.pointer (some ⟨gh, 0, none⟩), .pointer (some ⟨g1, 0, none⟩), .pointer (some ⟨g2, 0, none⟩)]) ∧ w'.heap[gh]? = some (ho F) ∧ BoxQ w' g1 v ∧ BoxQ w' g2 v2 ∧ Below w.heap.size w w' := by
  have hmf : ∀ (fn : Fn) (first cap : Array Value) (w : World), (Instr.makeFunc fn first cap).run Tryz.prog w = .ok (.func fn first cap) w := fun _ _ _ _ => rfl
  have T0 := (duo_q w v v2).next (bxb _ (ho F))
  have hh := World.alloc_heap_new ((w.alloc v.o).alloc v2.o) (ho F)
  rw [World.size_alloc, World.size_alloc] at hh
  unfold QV.v
  go_enter Tryz.func55, Tryz.ntmps55
  go_wp2
  go_ret
  exact ⟨_, _, _, rfl, hh, T0.x, T0.y, T0.b⟩
set_option maxRecDepth 100000 in
set_option maxHeartbeats 4000000 in
theorem qadd_is : OpQIs (fun x y => x + y) 21 := fun v v2 a d a2 d2 w h h2 => by
  have hmf : ∀ (fn : Fn) (first cap : Array Value) (w : World), (Instr.makeFunc fn first cap).run Tryz.prog w = .ok (.func fn first cap) w := fun _ _ _ _ => rfl
  have T0 := tri_q w v v2 QV.zero
  have HT0 := Lib.hid (T0.next (Below.refl _ _).drew)
  have HO := Lib.hid (fun W => overOne_any (w := W) (v := v) (v2 := v2) 56)
  have HJ : Hid (∀ (W : World) (gh g1 g2 : Nat), Below w.heap.size w W → W.heap[gh]? = some (ho 56) → BoxQ W g1 v → BoxQ W g2 v2 → Calls Tryz.prog 41 #[v.v, v2.v, .func (.func 87) #[] #[.pointer (some ⟨gh, 0, none⟩), .pointer (some ⟨g1, 0, none⟩), .pointer (some ⟨g2, 0, none⟩)]] W (QAns W (both2 v v2 a d a2 d2 && decide (((qof v.p a d).den : Int) * ((qof v2.p a2 d2).den : Int) ≠ 0)) (Rat.divInt ((qof v.p a d).num * ((qof v2.p a2 d2).den : Int) + (qof v2.p a2 d2).num * ((qof v.p a d).den : Int)) (((qof v.p a d).den : Int) * ((qof v2.p a2 d2).den : Int))) (if both2 v v2 a d a2 d2 then 30 else 8))) := fun W gh g1 g2 hW hh hx hy =>
    joined3_any _ _ _ _ (enters_of Tryz.func87 (by kernel_rfl) rfl) (h.below hW) (h2.below hW) _ _ fun hm V hV => by
      have hb := both_iff3.1 hm
      exact addClo_any ((hV.block gh (Array.getElem?_eq_some_iff.1 hh).1).trans hh) (hx.next hV) (hy.next hV) ((h.num hb.1).below (hW)|>.below hV) ((h2.num hb.2).below hW|>.below hV) h.la h.ld h2.la h2.ld
  have hnz : decide (((qof v.p a d).den : Int) * ((qof v2.p a2 d2).den : Int) ≠ 0) = true := decide_eq_true (den_nz2 _ _)
  rw [hnz, Bool.and_true] at HJ
  rw [add_div2] at HJ
  clear h h2
  try dsimp only at *
  generalize (both2 v v2 a d a2 d2) = ok at *
  generalize qof v.p a d + qof v2.p a2 d2 = q at *
  unfold QAns at *
  cases ok with
  | false =>
    simp only [Bool.false_eq_true, if_false] at HJ ⊢
    unfold QV.v QV.zero QV.o at *
    have qx0 := T0.x.c0
    have qx1 := T0.x.c1
    have qx2 := T0.x.c2
    have qy0 := T0.y.c0
    have qy1 := T0.y.c1
    have qy2 := T0.y.c2
    have qr0 := T0.r.c0
    have qr1 := T0.r.c1
    have qr2 := T0.r.c2
    have f0 := T0.r.f 0
    have f1 := T0.r.f 1
    have f2 := T0.r.f 2
    go_enter Tryz.func21, Tryz.ntmps21
    go_wp2_with fail
    go_region_held3 (fun W' => W'.cell? ⟨w.heap.size, 0, none⟩ = some (.bool v.p) ∧ W'.cell? ⟨w.heap.size, 1, none⟩ = some (.slice v.A v.n v.c) ∧ W'.cell? ⟨w.heap.size, 2, none⟩ = some (.slice v.D v.m v.d) ∧ W'.cell? ⟨w.heap.size + 1, 0, none⟩ = some (.bool v2.p) ∧ W'.cell? ⟨w.heap.size + 1, 1, none⟩ = some (.slice v2.A v2.n v2.c) ∧ W'.cell? ⟨w.heap.size + 1, 2, none⟩ = some (.slice v2.D v2.m v2.d)) (first | (with_reducible exact ⟨qx0, qx1, qx2, qy0, qy1, qy2⟩) | (with_reducible refine ⟨cell_far (cell_far (cell_far (qx0) ?_ _) ?_ _) ?_ _, cell_far (cell_far (cell_far (qx1) ?_ _) ?_ _) ?_ _, cell_far (cell_far (cell_far (qx2) ?_ _) ?_ _) ?_ _, cell_far (cell_far (cell_far (qy0) ?_ _) ?_ _) ?_ _, cell_far (cell_far (cell_far (qy1) ?_ _) ?_ _) ?_ _, cell_far (cell_far (cell_far (qy2) ?_ _) ?_ _) ?_ _⟩ <;> omega) | go_keep)
      (first
        | (have hmk := T1; go_at_call 41; refine (HJ.out _ gh g1 g2 T1.b hh hx hy).mono ?_; rintro e w2 ⟨rfl, hb2⟩; have T2 := T1.next hb2; have hG := Lib.hid T1.r.lt; clear qx0 qx1 qx2 qy0 qy1 qy2 qr0 qr1 qr2 f0 f1 f2; have qx0 := T2.x.c0; have qx1 := T2.x.c1; have qx2 := T2.x.c2; have qy0 := T2.y.c0; have qy1 := T2.y.c1; have qy2 := T2.y.c2; have qr0 := T2.r.c0; have qr1 := T2.r.c1; have qr2 := T2.r.c2; have f0 := T2.r.f 0; have f1 := T2.r.f 1; have f2 := T2.r.f 2; try unfold QV.v)
        | (go_at_call 55; refine (HO.out _).mono ?_; rintro e w1 ⟨gh, g1, g2, rfl, hh, hx, hy, hb1⟩; have T1 := HT0.out.next hb1; clear qx0 qx1 qx2 qy0 qy1 qy2 qr0 qr1 qr2 f0 f1 f2; have qx0 := T1.x.c0; have qx1 := T1.x.c1; have qx2 := T1.x.c2; have qy0 := T1.y.c0; have qy1 := T1.y.c1; have qy2 := T1.y.c2; have qr0 := T1.r.c0; have qr1 := T1.r.c1; have qr2 := T1.r.c2; have f0 := T1.r.f 0; have f1 := T1.r.f 1; have f2 := T1.r.f 2))
    go_wp2
    refine bodyPost_ret (v := .tuple #[QV.zero.v, .int .i64 8]) (by simp [results, Tryz.results21, go_sem, qr0, qr1, qr2, QV.v, QV.zero]) rfl ?_
    exact ⟨rfl, box_below3 (show w.heap.size ≤ w.heap.size + 1 + 1 by omega) T2.b _ _ _⟩
  | true =>
    simp only [if_true] at HJ ⊢
    unfold QV.v QV.zero QV.o at *
    have qx0 := T0.x.c0
    have qx1 := T0.x.c1
    have qx2 := T0.x.c2
    have qy0 := T0.y.c0
    have qy1 := T0.y.c1
    have qy2 := T0.y.c2
    have qr0 := T0.r.c0
    have qr1 := T0.r.c1
    have qr2 := T0.r.c2
    have f0 := T0.r.f 0
    have f1 := T0.r.f 1
    have f2 := T0.r.f 2
    go_enter Tryz.func21, Tryz.ntmps21
    go_wp2_with fail
    go_region_held3 (fun W' => W'.cell? ⟨w.heap.size, 0, none⟩ = some (.bool v.p) ∧ W'.cell? ⟨w.heap.size, 1, none⟩ = some (.slice v.A v.n v.c) ∧ W'.cell? ⟨w.heap.size, 2, none⟩ = some (.slice v.D v.m v.d) ∧ W'.cell? ⟨w.heap.size + 1, 0, none⟩ = some (.bool v2.p) ∧ W'.cell? ⟨w.heap.size + 1, 1, none⟩ = some (.slice v2.A v2.n v2.c) ∧ W'.cell? ⟨w.heap.size + 1, 2, none⟩ = some (.slice v2.D v2.m v2.d)) (first | (with_reducible exact ⟨qx0, qx1, qx2, qy0, qy1, qy2⟩) | (with_reducible refine ⟨cell_far (cell_far (cell_far (qx0) ?_ _) ?_ _) ?_ _, cell_far (cell_far (cell_far (qx1) ?_ _) ?_ _) ?_ _, cell_far (cell_far (cell_far (qx2) ?_ _) ?_ _) ?_ _, cell_far (cell_far (cell_far (qy0) ?_ _) ?_ _) ?_ _, cell_far (cell_far (cell_far (qy1) ?_ _) ?_ _) ?_ _, cell_far (cell_far (cell_far (qy2) ?_ _) ?_ _) ?_ _⟩ <;> omega) | go_keep)
      (first
        | (have hmk := T1; go_at_call 41; refine (HJ.out _ gh g1 g2 T1.b hh hx hy).mono ?_; rintro e w2 ⟨vr, rfl, o9, hb2⟩; have T2 := T1.next hb2; have hG := Lib.hid T1.r.lt; clear qx0 qx1 qx2 qy0 qy1 qy2 qr0 qr1 qr2 f0 f1 f2; have qx0 := T2.x.c0; have qx1 := T2.x.c1; have qx2 := T2.x.c2; have qy0 := T2.y.c0; have qy1 := T2.y.c1; have qy2 := T2.y.c2; have qr0 := T2.r.c0; have qr1 := T2.r.c1; have qr2 := T2.r.c2; have f0 := T2.r.f 0; have f1 := T2.r.f 1; have f2 := T2.r.f 2; try unfold QV.v)
        | (go_at_call 55; refine (HO.out _).mono ?_; rintro e w1 ⟨gh, g1, g2, rfl, hh, hx, hy, hb1⟩; have T1 := HT0.out.next hb1; clear qx0 qx1 qx2 qy0 qy1 qy2 qr0 qr1 qr2 f0 f1 f2; have qx0 := T1.x.c0; have qx1 := T1.x.c1; have qx2 := T1.x.c2; have qy0 := T1.y.c0; have qy1 := T1.y.c1; have qy2 := T1.y.c2; have qr0 := T1.r.c0; have qr1 := T1.r.c1; have qr2 := T1.r.c2; have f0 := T1.r.f 0; have f1 := T1.r.f 1; have f2 := T1.r.f 2))
    go_wp2
    refine bodyPost_ret (v := .tuple #[vr.v, .int .i64 0]) (by simp [results, Tryz.results21, go_sem, qr0, qr1, qr2, QV.v, QV.zero]) rfl ?_
    exact ⟨vr, rfl, o9.box3 hG.out (show w.heap.size ≤ w.heap.size + 1 + 1 by omega) _ _ _, box_below3 (show w.heap.size ≤ w.heap.size + 1 + 1 by omega) T2.b _ _ _⟩
set_option maxRecDepth 100000 in
set_option maxHeartbeats 4000000 in
theorem qsub_is : OpQIs (fun x y => x - y) 23 := fun v v2 a d a2 d2 w h h2 => by
  have hmf : ∀ (fn : Fn) (first cap : Array Value) (w : World), (Instr.makeFunc fn first cap).run Tryz.prog w = .ok (.func fn first cap) w := fun _ _ _ _ => rfl
  have T0 := tri_q w v v2 QV.zero
  have HT0 := Lib.hid (T0.next (Below.refl _ _).drew)
  have HO := Lib.hid (fun W => overOne_any (w := W) (v := v) (v2 := v2) 59)
  have HJ : Hid (∀ (W : World) (gh g1 g2 : Nat), Below w.heap.size w W → W.heap[gh]? = some (ho 59) → BoxQ W g1 v → BoxQ W g2 v2 → Calls Tryz.prog 41 #[v.v, v2.v, .func (.func 87) #[] #[.pointer (some ⟨gh, 0, none⟩), .pointer (some ⟨g1, 0, none⟩), .pointer (some ⟨g2, 0, none⟩)]] W (QAns W (both2 v v2 a d a2 d2 && decide (((qof v.p a d).den : Int) * ((qof v2.p a2 d2).den : Int) ≠ 0)) (Rat.divInt ((qof v.p a d).num * ((qof v2.p a2 d2).den : Int) - (qof v2.p a2 d2).num * ((qof v.p a d).den : Int)) (((qof v.p a d).den : Int) * ((qof v2.p a2 d2).den : Int))) (if both2 v v2 a d a2 d2 then 30 else 8))) := fun W gh g1 g2 hW hh hx hy =>
    joined3_any _ _ _ _ (enters_of Tryz.func87 (by kernel_rfl) rfl) (h.below hW) (h2.below hW) _ _ fun hm V hV => by
      have hb := both_iff3.1 hm
      exact subClo_any ((hV.block gh (Array.getElem?_eq_some_iff.1 hh).1).trans hh) (hx.next hV) (hy.next hV) ((h.num hb.1).below (hW)|>.below hV) ((h2.num hb.2).below hW|>.below hV) h.la h.ld h2.la h2.ld
  have hnz : decide (((qof v.p a d).den : Int) * ((qof v2.p a2 d2).den : Int) ≠ 0) = true := decide_eq_true (den_nz2 _ _)
  rw [hnz, Bool.and_true] at HJ
  rw [sub_div2] at HJ
  clear h h2
  try dsimp only at *
  generalize (both2 v v2 a d a2 d2) = ok at *
  generalize qof v.p a d - qof v2.p a2 d2 = q at *
  unfold QAns at *
  cases ok with
  | false =>
    simp only [Bool.false_eq_true, if_false] at HJ ⊢
    unfold QV.v QV.zero QV.o at *
    have qx0 := T0.x.c0
    have qx1 := T0.x.c1
    have qx2 := T0.x.c2
    have qy0 := T0.y.c0
    have qy1 := T0.y.c1
    have qy2 := T0.y.c2
    have qr0 := T0.r.c0
    have qr1 := T0.r.c1
    have qr2 := T0.r.c2
    have f0 := T0.r.f 0
    have f1 := T0.r.f 1
    have f2 := T0.r.f 2
    go_enter Tryz.func23, Tryz.ntmps23
    go_wp2_with fail
    go_region_held3 (fun W' => W'.cell? ⟨w.heap.size, 0, none⟩ = some (.bool v.p) ∧ W'.cell? ⟨w.heap.size, 1, none⟩ = some (.slice v.A v.n v.c) ∧ W'.cell? ⟨w.heap.size, 2, none⟩ = some (.slice v.D v.m v.d) ∧ W'.cell? ⟨w.heap.size + 1, 0, none⟩ = some (.bool v2.p) ∧ W'.cell? ⟨w.heap.size + 1, 1, none⟩ = some (.slice v2.A v2.n v2.c) ∧ W'.cell? ⟨w.heap.size + 1, 2, none⟩ = some (.slice v2.D v2.m v2.d)) (first | (with_reducible exact ⟨qx0, qx1, qx2, qy0, qy1, qy2⟩) | (with_reducible refine ⟨cell_far (cell_far (cell_far (qx0) ?_ _) ?_ _) ?_ _, cell_far (cell_far (cell_far (qx1) ?_ _) ?_ _) ?_ _, cell_far (cell_far (cell_far (qx2) ?_ _) ?_ _) ?_ _, cell_far (cell_far (cell_far (qy0) ?_ _) ?_ _) ?_ _, cell_far (cell_far (cell_far (qy1) ?_ _) ?_ _) ?_ _, cell_far (cell_far (cell_far (qy2) ?_ _) ?_ _) ?_ _⟩ <;> omega) | go_keep)
      (first
        | (have hmk := T1; go_at_call 41; refine (HJ.out _ gh g1 g2 T1.b hh hx hy).mono ?_; rintro e w2 ⟨rfl, hb2⟩; have T2 := T1.next hb2; have hG := Lib.hid T1.r.lt; clear qx0 qx1 qx2 qy0 qy1 qy2 qr0 qr1 qr2 f0 f1 f2; have qx0 := T2.x.c0; have qx1 := T2.x.c1; have qx2 := T2.x.c2; have qy0 := T2.y.c0; have qy1 := T2.y.c1; have qy2 := T2.y.c2; have qr0 := T2.r.c0; have qr1 := T2.r.c1; have qr2 := T2.r.c2; have f0 := T2.r.f 0; have f1 := T2.r.f 1; have f2 := T2.r.f 2; try unfold QV.v)
        | (go_at_call 55; refine (HO.out _).mono ?_; rintro e w1 ⟨gh, g1, g2, rfl, hh, hx, hy, hb1⟩; have T1 := HT0.out.next hb1; clear qx0 qx1 qx2 qy0 qy1 qy2 qr0 qr1 qr2 f0 f1 f2; have qx0 := T1.x.c0; have qx1 := T1.x.c1; have qx2 := T1.x.c2; have qy0 := T1.y.c0; have qy1 := T1.y.c1; have qy2 := T1.y.c2; have qr0 := T1.r.c0; have qr1 := T1.r.c1; have qr2 := T1.r.c2; have f0 := T1.r.f 0; have f1 := T1.r.f 1; have f2 := T1.r.f 2))
    go_wp2
    refine bodyPost_ret (v := .tuple #[QV.zero.v, .int .i64 8]) (by simp [results, Tryz.results23, go_sem, qr0, qr1, qr2, QV.v, QV.zero]) rfl ?_
    exact ⟨rfl, box_below3 (show w.heap.size ≤ w.heap.size + 1 + 1 by omega) T2.b _ _ _⟩
  | true =>
    simp only [if_true] at HJ ⊢
    unfold QV.v QV.zero QV.o at *
    have qx0 := T0.x.c0
    have qx1 := T0.x.c1
    have qx2 := T0.x.c2
    have qy0 := T0.y.c0
    have qy1 := T0.y.c1
    have qy2 := T0.y.c2
    have qr0 := T0.r.c0
    have qr1 := T0.r.c1
    have qr2 := T0.r.c2
    have f0 := T0.r.f 0
    have f1 := T0.r.f 1
    have f2 := T0.r.f 2
    go_enter Tryz.func23, Tryz.ntmps23
    go_wp2_with fail
    go_region_held3 (fun W' => W'.cell? ⟨w.heap.size, 0, none⟩ = some (.bool v.p) ∧ W'.cell? ⟨w.heap.size, 1, none⟩ = some (.slice v.A v.n v.c) ∧ W'.cell? ⟨w.heap.size, 2, none⟩ = some (.slice v.D v.m v.d) ∧ W'.cell? ⟨w.heap.size + 1, 0, none⟩ = some (.bool v2.p) ∧ W'.cell? ⟨w.heap.size + 1, 1, none⟩ = some (.slice v2.A v2.n v2.c) ∧ W'.cell? ⟨w.heap.size + 1, 2, none⟩ = some (.slice v2.D v2.m v2.d)) (first | (with_reducible exact ⟨qx0, qx1, qx2, qy0, qy1, qy2⟩) | (with_reducible refine ⟨cell_far (cell_far (cell_far (qx0) ?_ _) ?_ _) ?_ _, cell_far (cell_far (cell_far (qx1) ?_ _) ?_ _) ?_ _, cell_far (cell_far (cell_far (qx2) ?_ _) ?_ _) ?_ _, cell_far (cell_far (cell_far (qy0) ?_ _) ?_ _) ?_ _, cell_far (cell_far (cell_far (qy1) ?_ _) ?_ _) ?_ _, cell_far (cell_far (cell_far (qy2) ?_ _) ?_ _) ?_ _⟩ <;> omega) | go_keep)
      (first
        | (have hmk := T1; go_at_call 41; refine (HJ.out _ gh g1 g2 T1.b hh hx hy).mono ?_; rintro e w2 ⟨vr, rfl, o9, hb2⟩; have T2 := T1.next hb2; have hG := Lib.hid T1.r.lt; clear qx0 qx1 qx2 qy0 qy1 qy2 qr0 qr1 qr2 f0 f1 f2; have qx0 := T2.x.c0; have qx1 := T2.x.c1; have qx2 := T2.x.c2; have qy0 := T2.y.c0; have qy1 := T2.y.c1; have qy2 := T2.y.c2; have qr0 := T2.r.c0; have qr1 := T2.r.c1; have qr2 := T2.r.c2; have f0 := T2.r.f 0; have f1 := T2.r.f 1; have f2 := T2.r.f 2; try unfold QV.v)
        | (go_at_call 55; refine (HO.out _).mono ?_; rintro e w1 ⟨gh, g1, g2, rfl, hh, hx, hy, hb1⟩; have T1 := HT0.out.next hb1; clear qx0 qx1 qx2 qy0 qy1 qy2 qr0 qr1 qr2 f0 f1 f2; have qx0 := T1.x.c0; have qx1 := T1.x.c1; have qx2 := T1.x.c2; have qy0 := T1.y.c0; have qy1 := T1.y.c1; have qy2 := T1.y.c2; have qr0 := T1.r.c0; have qr1 := T1.r.c1; have qr2 := T1.r.c2; have f0 := T1.r.f 0; have f1 := T1.r.f 1; have f2 := T1.r.f 2))
    go_wp2
    refine bodyPost_ret (v := .tuple #[vr.v, .int .i64 0]) (by simp [results, Tryz.results23, go_sem, qr0, qr1, qr2, QV.v, QV.zero]) rfl ?_
    exact ⟨vr, rfl, o9.box3 hG.out (show w.heap.size ≤ w.heap.size + 1 + 1 by omega) _ _ _, box_below3 (show w.heap.size ≤ w.heap.size + 1 + 1 by omega) T2.b _ _ _⟩
set_option maxRecDepth 100000 in
set_option maxHeartbeats 4000000 in
theorem qmul_is : OpQIs (fun x y => x * y) 10 := fun v v2 a d a2 d2 w h h2 => by
  have hmf : ∀ (fn : Fn) (first cap : Array Value) (w : World), (Instr.makeFunc fn first cap).run Tryz.prog w = .ok (.func fn first cap) w := fun _ _ _ _ => rfl
  have T0 := tri_q w v v2 QV.zero
  have HT0 := Lib.hid (T0.next (Below.refl _ _).drew)
  have HJ : Hid (∀ (W : World) (g1 g2 : Nat), Below w.heap.size w W → BoxQ W g1 v → BoxQ W g2 v2 → Calls Tryz.prog 41 #[v.v, v2.v, .func (.func 42) #[] #[.pointer (some ⟨g1, 0, none⟩), .pointer (some ⟨g2, 0, none⟩)]] W (QAns W (both2 v v2 a d a2 d2 && decide (((qof v.p a d).den : Int) * ((qof v2.p a2 d2).den : Int) ≠ 0)) (Rat.divInt ((qof v.p a d).num * (qof v2.p a2 d2).num) (((qof v.p a d).den : Int) * ((qof v2.p a2 d2).den : Int))) (if both2 v v2 a d a2 d2 then 30 else 8))) := fun W g1 g2 hW hx hy =>
    joined2_any _ _ _ (enters_of Tryz.func42 (by kernel_rfl) rfl) (h.below hW) (h2.below hW) _ _ fun hm V hV => by
      have hb := both_iff3.1 hm
      exact mulClo_any (hx.next hV) (hy.next hV) ((h.num hb.1).below hW|>.below hV) ((h2.num hb.2).below hW|>.below hV) h.la h.ld h2.la h2.ld
  have hnz : decide (((qof v.p a d).den : Int) * ((qof v2.p a2 d2).den : Int) ≠ 0) = true := decide_eq_true (den_nz2 _ _)
  rw [hnz, Bool.and_true] at HJ
  rw [mul_div2] at HJ
  clear h h2
  try dsimp only at *
  generalize (both2 v v2 a d a2 d2) = ok at *
  generalize qof v.p a d * qof v2.p a2 d2 = q at *
  unfold QAns at *
  cases ok with
  | false =>
    simp only [Bool.false_eq_true, if_false] at HJ ⊢
    unfold QV.v QV.zero QV.o at *
    have qx0 := T0.x.c0
    have qx1 := T0.x.c1
    have qx2 := T0.x.c2
    have qy0 := T0.y.c0
    have qy1 := T0.y.c1
    have qy2 := T0.y.c2
    have qr0 := T0.r.c0
    have qr1 := T0.r.c1
    have qr2 := T0.r.c2
    have f0 := T0.r.f 0
    have f1 := T0.r.f 1
    have f2 := T0.r.f 2
    go_enter Tryz.func10, Tryz.ntmps10
    go_wp2_with fail
    refine (HJ.out _ w.heap.size (w.heap.size + 1) T0.b T0.x T0.y).mono ?_
    rintro e w2 ⟨rfl, hb2⟩
    have T2 := T0.next hb2
    have hG := Lib.hid T0.r.lt
    clear qx0 qx1 qx2 qy0 qy1 qy2 qr0 qr1 qr2 f0 f1 f2
    have qx0 := T2.x.c0
    have qx1 := T2.x.c1
    have qx2 := T2.x.c2
    have qy0 := T2.y.c0
    have qy1 := T2.y.c1
    have qy2 := T2.y.c2
    have qr0 := T2.r.c0
    have qr1 := T2.r.c1
    have qr2 := T2.r.c2
    have f0 := T2.r.f 0
    have f1 := T2.r.f 1
    have f2 := T2.r.f 2
    try unfold QV.v
    go_wp2
    refine bodyPost_ret (v := .tuple #[QV.zero.v, .int .i64 8]) (by simp [results, Tryz.results10, go_sem, qr0, qr1, qr2, QV.v, QV.zero]) rfl ?_
    exact ⟨rfl, box_below3 (show w.heap.size ≤ w.heap.size + 1 + 1 by omega) T2.b _ _ _⟩
  | true =>
    simp only [if_true] at HJ ⊢
    unfold QV.v QV.zero QV.o at *
    have qx0 := T0.x.c0
    have qx1 := T0.x.c1
    have qx2 := T0.x.c2
    have qy0 := T0.y.c0
    have qy1 := T0.y.c1
    have qy2 := T0.y.c2
    have qr0 := T0.r.c0
    have qr1 := T0.r.c1
    have qr2 := T0.r.c2
    have f0 := T0.r.f 0
    have f1 := T0.r.f 1
    have f2 := T0.r.f 2
    go_enter Tryz.func10, Tryz.ntmps10
    go_wp2_with fail
    refine (HJ.out _ w.heap.size (w.heap.size + 1) T0.b T0.x T0.y).mono ?_
    rintro e w2 ⟨vr, rfl, o9, hb2⟩
    have T2 := T0.next hb2
    have hG := Lib.hid T0.r.lt
    clear qx0 qx1 qx2 qy0 qy1 qy2 qr0 qr1 qr2 f0 f1 f2
    have qx0 := T2.x.c0
    have qx1 := T2.x.c1
    have qx2 := T2.x.c2
    have qy0 := T2.y.c0
    have qy1 := T2.y.c1
    have qy2 := T2.y.c2
    have qr0 := T2.r.c0
    have qr1 := T2.r.c1
    have qr2 := T2.r.c2
    have f0 := T2.r.f 0
    have f1 := T2.r.f 1
    have f2 := T2.r.f 2
    try unfold QV.v
    go_wp2
    refine bodyPost_ret (v := .tuple #[vr.v, .int .i64 0]) (by simp [results, Tryz.results10, go_sem, qr0, qr1, qr2, QV.v, QV.zero]) rfl ?_
    exact ⟨vr, rfl, o9.box3 hG.out (show w.heap.size ≤ w.heap.size + 1 + 1 by omega) _ _ _, box_below3 (show w.heap.size ≤ w.heap.size + 1 + 1 by omega) T2.b _ _ _⟩
set_option maxRecDepth 100000 in
set_option maxHeartbeats 4000000 in
theorem qdiv_is : DivQIs 15 := fun v v2 a d a2 d2 w h h2 => by
  have hmf : ∀ (fn : Fn) (first cap : Array Value) (w : World), (Instr.makeFunc fn first cap).run Tryz.prog w = .ok (.func fn first cap) w := fun _ _ _ _ => rfl
  have T0 := tri_q w v v2 QV.zero
  have HT0 := Lib.hid (T0.next (Below.refl _ _).drew)
  have HJ : Hid (∀ (W : World) (g1 g2 : Nat), Below w.heap.size w W → BoxQ W g1 v → BoxQ W g2 v2 → Calls Tryz.prog 41 #[v.v, v2.v, .func (.func 51) #[] #[.pointer (some ⟨g1, 0, none⟩), .pointer (some ⟨g2, 0, none⟩)]] W (QAns W (both2 v v2 a d a2 d2 && decide (((qof v.p a d).den : Int) * (qof v2.p a2 d2).num ≠ 0)) (Rat.divInt ((qof v.p a d).num * ((qof v2.p a2 d2).den : Int)) (((qof v.p a d).den : Int) * (qof v2.p a2 d2).num)) (if both2 v v2 a d a2 d2 then 30 else 8))) := fun W g1 g2 hW hx hy =>
    joined2_any _ _ _ (enters_of Tryz.func51 (by kernel_rfl) rfl) (h.below hW) (h2.below hW) _ _ fun hm V hV => by
      have hb := both_iff3.1 hm
      exact divClo_any (hx.next hV) (hy.next hV) ((h.num hb.1).below hW|>.below hV) ((h2.num hb.2).below hW|>.below hV) h.la h.ld h2.la h2.ld
  rw [div_rat, nz_div] at HJ
  clear h h2
  try dsimp only at *
  generalize (both2 v v2 a d a2 d2 && decide (qof v2.p a2 d2 ≠ 0)) = ok at *
  generalize qof v.p a d / qof v2.p a2 d2 = q at *
  generalize (if both2 v v2 a d a2 d2 = true then (30 : Int) else 8) = E at *
  unfold QAns at *
  cases ok with
  | false =>
    simp only [Bool.false_eq_true, if_false] at HJ ⊢
    unfold QV.v QV.zero QV.o at *
    have qx0 := T0.x.c0
    have qx1 := T0.x.c1
    have qx2 := T0.x.c2
    have qy0 := T0.y.c0
    have qy1 := T0.y.c1
    have qy2 := T0.y.c2
    have qr0 := T0.r.c0
    have qr1 := T0.r.c1
    have qr2 := T0.r.c2
    have f0 := T0.r.f 0
    have f1 := T0.r.f 1
    have f2 := T0.r.f 2
    go_enter Tryz.func15, Tryz.ntmps15
    go_wp2_with fail
    refine (HJ.out _ w.heap.size (w.heap.size + 1) T0.b T0.x T0.y).mono ?_
    rintro e w2 ⟨rfl, hb2⟩
    have T2 := T0.next hb2
    have hG := Lib.hid T0.r.lt
    clear qx0 qx1 qx2 qy0 qy1 qy2 qr0 qr1 qr2 f0 f1 f2
    have qx0 := T2.x.c0
    have qx1 := T2.x.c1
    have qx2 := T2.x.c2
    have qy0 := T2.y.c0
    have qy1 := T2.y.c1
    have qy2 := T2.y.c2
    have qr0 := T2.r.c0
    have qr1 := T2.r.c1
    have qr2 := T2.r.c2
    have f0 := T2.r.f 0
    have f1 := T2.r.f 1
    have f2 := T2.r.f 2
    try unfold QV.v
    go_wp2
    refine bodyPost_ret (v := .tuple #[QV.zero.v, .int .i64 E]) (by simp [results, Tryz.results15, go_sem, qr0, qr1, qr2, QV.v, QV.zero]) rfl ?_
    exact ⟨rfl, box_below3 (show w.heap.size ≤ w.heap.size + 1 + 1 by omega) T2.b _ _ _⟩
  | true =>
    simp only [if_true] at HJ ⊢
    unfold QV.v QV.zero QV.o at *
    have qx0 := T0.x.c0
    have qx1 := T0.x.c1
    have qx2 := T0.x.c2
    have qy0 := T0.y.c0
    have qy1 := T0.y.c1
    have qy2 := T0.y.c2
    have qr0 := T0.r.c0
    have qr1 := T0.r.c1
    have qr2 := T0.r.c2
    have f0 := T0.r.f 0
    have f1 := T0.r.f 1
    have f2 := T0.r.f 2
    go_enter Tryz.func15, Tryz.ntmps15
    go_wp2_with fail
    refine (HJ.out _ w.heap.size (w.heap.size + 1) T0.b T0.x T0.y).mono ?_
    rintro e w2 ⟨vr, rfl, o9, hb2⟩
    have T2 := T0.next hb2
    have hG := Lib.hid T0.r.lt
    clear qx0 qx1 qx2 qy0 qy1 qy2 qr0 qr1 qr2 f0 f1 f2
    have qx0 := T2.x.c0
    have qx1 := T2.x.c1
    have qx2 := T2.x.c2
    have qy0 := T2.y.c0
    have qy1 := T2.y.c1
    have qy2 := T2.y.c2
    have qr0 := T2.r.c0
    have qr1 := T2.r.c1
    have qr2 := T2.r.c2
    have f0 := T2.r.f 0
    have f1 := T2.r.f 1
    have f2 := T2.r.f 2
    try unfold QV.v
    go_wp2
    refine bodyPost_ret (v := .tuple #[vr.v, .int .i64 0]) (by simp [results, Tryz.results15, go_sem, qr0, qr1, qr2, QV.v, QV.zero]) rfl ?_
    exact ⟨vr, rfl, o9.box3 hG.out (show w.heap.size ≤ w.heap.size + 1 + 1 by omega) _ _ _, box_below3 (show w.heap.size ≤ w.heap.size + 1 + 1 by omega) T2.b _ _ _⟩
end
end Go.Proofs.YtbldimplddiheaaGreatDoor
