import Derived.Test.YtbldimplddiheaaGreatDoorKQRef3
import Derived.Test.YtbldimplddiheaaGreatDoorKQRef7
/- QHeld QHeldL QN. -/
/- What a law holds: its fractions, each in a block of its own; how long they may be; what calls of rat are. -/
namespace Go.Proofs.YtbldimplddiheaaGreatDoor
open Go.RowKit Go.Shelf
set_option linter.unusedVariables false
set_option linter.unusedSimpArgs false

/-- A fraction in a block. -/
structure IQ where
  g : Nat
  v : QV
  x : Rat
structure IQ.ok (W : World) (i : IQ) : Prop where
  b : BoxQ W i.g i.v
  m : QNm W i.v i.x
  ln : i.v.n ≤ 60
  ld : i.v.m ≤ 60
def HeldQ (W : World) (L : List IQ) : Prop := ∀ i, i ∈ L → IQ.ok W i
theorem IQ.ok.below {W W' : World} {i : IQ} (h : IQ.ok W i) (hb : Below W.heap.size W W') : IQ.ok W' i := ⟨h.b.next hb, h.m.below hb, h.ln, h.ld⟩
theorem HeldQ.next {W W' : World} {L : List IQ} (h : HeldQ W L) (hb : Below W.heap.size W W') : HeldQ W' L := fun i hi => (h i hi).below hb
theorem HeldQ.cons {W : World} {L : List IQ} {i : IQ} (h : HeldQ W L) (hi : IQ.ok W i) : HeldQ W (i :: L) := fun j hj => by
  rcases List.mem_cons.1 hj with rfl | hj
  · exact hi
  · exact h j hj
theorem heldq_nil (W : World) : HeldQ W [] := fun i hi => by cases hi
theorem IQ.fresh {W : World} {B : Nat} {v : QV} {x : Rat} (o : QOwn W B v x) (h1 : v.n ≤ 60) (h2 : v.m ≤ 60) : IQ.ok (W.alloc v.o) ⟨W.heap.size, v, x⟩ := ⟨World.alloc_heap_new _ _, o.nm.below (bxb _ _), h1, h2⟩
theorem IQ.param {W : World} {v : QV} {x : Rat} (h : QNm W v x) (h1 : v.n ≤ 60) (h2 : v.m ≤ 60) : IQ.ok (W.alloc v.o) ⟨W.heap.size, v, x⟩ := ⟨World.alloc_heap_new _ _, h.below (bxb _ _), h1, h2⟩
/-- How long a fraction's two numbers may be. -/
def BdQ (k m : Nat) (x : Rat) : Prop := x.num.natAbs < B64 ^ k ∧ x.den < B64 ^ m
theorem BdQ.len {W : World} {B k m : Nat} {v : QV} {x : Rat} (h : BdQ k m x) (o : QOwn W B v x) : v.n ≤ k ∧ v.m ≤ m := ⟨o.a.nm.len h.1, o.d.nm.len h.2⟩
theorem BdQ.of {w : World} {v : QV} {x : Rat} {k m : Nat} (h : QNm w v x) (h1 : v.n ≤ k) (h2 : v.m ≤ m) : BdQ k m x :=
  ⟨Nat.lt_of_lt_of_le h.a.lt (Nat.pow_le_pow_right B64_pos h1), Nat.lt_of_lt_of_le h.d.lt (Nat.pow_le_pow_right B64_pos h2)⟩
theorem BdQ.mono {k m k2 m2 : Nat} {x : Rat} (h : BdQ k m x) (h1 : k ≤ k2) (h2 : m ≤ m2) : BdQ k2 m2 x :=
  ⟨Nat.lt_of_lt_of_le h.1 (Nat.pow_le_pow_right B64_pos h1), Nat.lt_of_lt_of_le h.2 (Nat.pow_le_pow_right B64_pos h2)⟩
theorem BdQ.mk {k m u : Nat} {z : Int} (h1 : Bd k z) (h2 : u < B64 ^ m) (hu : u ≠ 0) : BdQ k m (mkRat z u) := by
  have h := mk_parts z hu
  exact ⟨by rw [h.1]; exact Nat.lt_of_le_of_lt (Nat.div_le_self _ _) h1, by rw [h.2.2]; exact Nat.lt_of_le_of_lt (Nat.div_le_self _ _) h2⟩
theorem den_bd {k m : Nat} {x : Rat} (h : BdQ k m x) : Bd m (x.den : Int) := by unfold Bd; rw [Int.natAbs_natCast]; exact h.2
theorem den_mul {k m k2 m2 : Nat} {x y : Rat} (h : BdQ k m x) (h2 : BdQ k2 m2 y) : x.den * y.den < B64 ^ (m + m2) := by
  rw [Nat.pow_add]
  exact Nat.mul_lt_mul_of_lt_of_le h.2 (Nat.le_of_lt h2.2) (Nat.pow_pos B64_pos)
theorem BdQ.add {k m k2 m2 K : Nat} {x y : Rat} (h : BdQ k m x) (h2 : BdQ k2 m2 y) (hK : k + m2 ≤ K) (hK2 : k2 + m ≤ K) : BdQ (K + 1) (m + m2) (x + y) := by
  rw [← sum_rat]
  have e1 : Bd k x.num := h.1
  have e2 : Bd k2 y.num := h2.1
  exact BdQ.mk (((e1.mul (den_bd h2)).mono hK).add ((e2.mul (den_bd h)).mono hK2)) (den_mul h h2) (Nat.mul_ne_zero x.den_nz y.den_nz)
theorem BdQ.neg {k m : Nat} {x : Rat} (h : BdQ k m x) : BdQ k m (-x) := ⟨by rw [Rat.neg_num, Int.natAbs_neg]; exact h.1, by rw [Rat.neg_den]; exact h.2⟩
theorem BdQ.sub {k m k2 m2 K : Nat} {x y : Rat} (h : BdQ k m x) (h2 : BdQ k2 m2 y) (hK : k + m2 ≤ K) (hK2 : k2 + m ≤ K) : BdQ (K + 1) (m + m2) (x - y) := by
  rw [Rat.sub_eq_add_neg]
  exact h.add h2.neg hK hK2
theorem BdQ.mul {k m k2 m2 : Nat} {x y : Rat} (h : BdQ k m x) (h2 : BdQ k2 m2 y) : BdQ (k + k2) (m + m2) (x * y) := by
  rw [← mul_rat]
  have e1 : Bd k x.num := h.1
  have e2 : Bd k2 y.num := h2.1
  exact BdQ.mk (e1.mul e2) (den_mul h h2) (Nat.mul_ne_zero x.den_nz y.den_nz)
theorem BdQ.div {k m k2 m2 : Nat} {x y : Rat} (h : BdQ k m x) (h2 : BdQ k2 m2 y) (hy : y ≠ 0) : BdQ (k + m2) (m + k2) (x / y) := by
  rw [← div_rat2 x y hy]
  have e1 : Bd (k + m2) (x.num * (y.den : Int)) := by have e : Bd k x.num := h.1; exact e.mul (den_bd h2)
  refine BdQ.mk ?_ ?_ (Nat.mul_ne_zero x.den_nz (by have := num_ne hy; omega))
  · split
    · exact e1.neg
    · exact e1
  · rw [Nat.pow_add]
    exact Nat.mul_lt_mul_of_lt_of_le h.2 (Nat.le_of_lt h2.1) (Nat.pow_pos B64_pos)

/-- Calls of rat: of two fractions. -/
def OpQIs (f : Rat → Rat → Rat) (F : Nat) : Prop := ∀ (v v2 : QV) (a d a2 d2 : List Nat) (w : World), Q1 w v a d → Q1 w v2 a2 d2 →
  Calls Tryz.prog F #[v.v, v2.v] w (QAns w (both2 v v2 a d a2 d2) (f (qof v.p a d) (qof v2.p a2 d2)) 8)
def DivQIs (F : Nat) : Prop := ∀ (v v2 : QV) (a d a2 d2 : List Nat) (w : World), Q1 w v a d → Q1 w v2 a2 d2 →
  Calls Tryz.prog F #[v.v, v2.v] w (QAns w (both2 v v2 a d a2 d2 && decide (qof v2.p a2 d2 ≠ 0)) (qof v.p a d / qof v2.p a2 d2) (if both2 v v2 a d a2 d2 then 30 else 8))
def CmpQIs (F : Nat) : Prop := ∀ (v v2 : QV) (a d a2 d2 : List Nat) (w : World), Q1 w v a d → Q1 w v2 a2 d2 →
  Calls Tryz.prog F #[v.v, v2.v] w (IAns w (if both2 v v2 a d a2 d2 then sgn (qof v.p a d - qof v2.p a2 d2).num else 0) (if both2 v v2 a d a2 d2 then 0 else 8))
def CheckQIs (F : Nat) : Prop := ∀ (v : QV) (a d : List Nat) (w : World), Q1 w v a d →
  Calls Tryz.prog F #[v.v] w fun e w' => e = .returned (.int .i64 (if mayQ v.p a d then 0 else 8)) ∧ Below w.heap.size w w'
def WholeQIs (f : Rat → Int) (F : Nat) : Prop := ∀ (v : QV) (a d : List Nat) (w : World), Q1 w v a d →
  Calls Tryz.prog F #[v.v] w (ZAns w (if mayQ v.p a d then f (qof v.p a d) else 0) (if mayQ v.p a d then 0 else 8))
def TextQIs (F : Nat) : Prop := ∀ (v : QV) (a d : List Nat) (w : World), Q1 w v a d →
  Calls Tryz.prog F #[v.v] w fun e w' => e = .returned (.tuple #[.string (qTextS v.p a d), .int .i64 (qTextE v.p a d)]) ∧ Below w.heap.size w w'
def SameQIs (F : Nat) : Prop := ∀ (v v2 : QV) (a d a2 d2 : List Nat) (w : World), Q1 w v a d → Q1 w v2 a2 d2 →
  Calls Tryz.prog F #[v.v, v2.v] w fun e w' => e = .returned (.bool (decide ((v.p = v2.p ∧ a = a2) ∧ d = d2))) ∧ Below w.heap.size w w'
/-- The fraction of two whole numbers: ErrBad 8, ErrZero 30, else num by den. -/
def OfQIs (F : Nat) : Prop := ∀ (A A2 : Option Addr) (na ca nb cb : Nat) (p q : Bool) (a b : List Nat) (w : World), Z2 w A A2 na ca nb cb a b →
  Calls Tryz.prog F #[zv p A na ca, zv q A2 nb cb] w (QAns w (twoM p a q b && !b.isEmpty) (Rat.divInt (zof p a) (zof q b)) (if twoM p a q b then 30 else 8))
end Go.Proofs.YtbldimplddiheaaGreatDoor

/- What a law holds of fractions that may be or not: lists; whole numbers beside them. -/
namespace Go.Proofs.YtbldimplddiheaaGreatDoor
open Go.RowKit Go.Shelf
set_option linter.unusedVariables false
set_option linter.unusedSimpArgs false

/-- What a call answers, as a sign and two lists: none where it is an error. -/
def qlP (ok : Bool) (x : Rat) : Bool := ok && decide (x.num < 0)
def qlA (ok : Bool) (x : Rat) : List Nat := if ok then limbs x.num.natAbs else []
def qlD (ok : Bool) (x : Rat) : List Nat := if ok then limbs x.den else []
structure IL where
  g : Nat
  v : QV
  p : Bool
  a : List Nat
  d : List Nat
structure IL.ok (W : World) (i : IL) : Prop where
  b : BoxQ W i.g i.v
  q : Q1 W i.v i.a i.d
  s : i.v.p = i.p
def HeldL (W : World) (L : List IL) : Prop := ∀ i, i ∈ L → IL.ok W i
theorem IL.ok.below {W W' : World} {i : IL} (h : IL.ok W i) (hb : Below W.heap.size W W') : IL.ok W' i := ⟨h.b.next hb, h.q.below hb, h.s⟩
theorem HeldL.next {W W' : World} {L : List IL} (h : HeldL W L) (hb : Below W.heap.size W W') : HeldL W' L := fun i hi => (h i hi).below hb
theorem HeldL.cons {W : World} {L : List IL} {i : IL} (h : HeldL W L) (hi : IL.ok W i) : HeldL W (i :: L) := fun j hj => by
  rcases List.mem_cons.1 hj with rfl | hj
  · exact hi
  · exact h j hj
theorem heldl_nil (W : World) : HeldL W [] := fun i hi => by cases hi
theorem IL.new {W : World} {v : QV} {p : Bool} {a d : List Nat} (h : Q1 W v a d) (hp : v.p = p) : IL.ok (W.alloc v.o) ⟨W.heap.size, v, p, a, d⟩ := ⟨World.alloc_heap_new _ _, h.below (bxb _ _), hp⟩
/-- A call answered a fraction, or none, and an error. -/
def QAnsL (w : World) (p : Bool) (a d : List Nat) (E : Int) (e : Ending) (w' : World) : Prop :=
  ∃ v : QV, e = .returned (.tuple #[v.v, .int .i64 E]) ∧ Q1 w' v a d ∧ v.p = p ∧ Below w.heap.size w w'
theorem QAns.l {w w' : World} {ok : Bool} {x : Rat} {E : Int} {e : Ending} (h : QAns w ok x E e w') (hb : ok = true → BdQ 60 60 x) : QAnsL w (qlP ok x) (qlA ok x) (qlD ok x) (if ok then 0 else E) e w' := by
  unfold QAns at h
  cases ok with
  | true =>
    rw [if_pos rfl] at h
    obtain ⟨v, he, o, hw⟩ := h
    have hl := (hb rfl).len o
    exact ⟨v, he, ⟨o.a.nm.rd, o.d.nm.rd, hl.1, hl.2, o.a.nm.nc, o.a.nm.cm, o.d.nm.nc, o.d.nm.cm⟩, by rw [o.s]; rfl, hw⟩
  | false =>
    rw [if_neg (by decide)] at h
    exact ⟨QV.zero, h.1, ⟨rd_nil _ _, rd_nil _ _, Nat.zero_le _, Nat.zero_le _, Nat.zero_le _, by decide, Nat.zero_le _, by decide⟩, rfl, h.2⟩
theorem sameL {w : World} {v v2 : QV} {F : Nat} {p : Bool} {a d : List Nat} (hF : SameQIs F) (h1 : Q1 w v a d) (h2 : Q1 w v2 a d) (e1 : v.p = p) (e2 : v2.p = p) : Calls Tryz.prog F #[v.v, v2.v] w fun e w' => e = .returned (.bool true) ∧ Below w.heap.size w w' := by
  have h := hF v v2 a d a d w h1 h2
  rwa [decide_eq_true ⟨⟨e1.trans e2.symm, rfl⟩, rfl⟩] at h
end Go.Proofs.YtbldimplddiheaaGreatDoor

/- Calls of rat, of fractions that may be. -/
namespace Go.Proofs.YtbldimplddiheaaGreatDoor
open Go.RowKit Go.Shelf
set_option linter.unusedVariables false
set_option linter.unusedSimpArgs false

theorem mayQ_num (x : Rat) : mayQ (decide (x.num < 0)) (limbs x.num.natAbs) (limbs x.den) = true :=
  mayQ_iff.2 ⟨mayZ_num _, may_limbs _, fun e => x.den_nz (limbs_eq_nil.1 e), by rw [val_limbs, val_limbs]; exact x.reduced⟩
theorem qof_num (x : Rat) : qof (decide (x.num < 0)) (limbs x.num.natAbs) (limbs x.den) = x := by
  unfold qof
  rw [zof_num, val_limbs, Rat.mkRat_self]
section
variable {w : World} {v v2 : QV} {x y : Rat} {F : Nat}
theorem q1_num (h : QNm w v x) (l1 : v.n ≤ 60) (l2 : v.m ≤ 60) : Q1 w v (limbs x.num.natAbs) (limbs x.den) := ⟨h.a.rd, h.d.rd, l1, l2, h.a.nc, h.a.cm, h.d.nc, h.d.cm⟩
theorem both_num (h1 : QNm w v x) (h2 : QNm w v2 y) : both2 v v2 (limbs x.num.natAbs) (limbs x.den) (limbs y.num.natAbs) (limbs y.den) = true := by
  unfold both2
  rw [h1.s, h2.s, mayQ_num, mayQ_num]
  rfl
theorem opN {f : Rat → Rat → Rat} (hF : OpQIs f F) (h1 : QNm w v x) (h2 : QNm w v2 y) (l1 : v.n ≤ 60) (l2 : v.m ≤ 60) (l3 : v2.n ≤ 60) (l4 : v2.m ≤ 60) :
    Calls Tryz.prog F #[v.v, v2.v] w fun e w' => ∃ vr : QV, e = .returned (.tuple #[vr.v, .int .i64 0]) ∧ QOwn w' w.heap.size vr (f x y) ∧ Below w.heap.size w w' := by
  have h := hF v v2 _ _ _ _ w (q1_num h1 l1 l2) (q1_num h2 l3 l4)
  unfold QAns at h
  rw [both_num h1 h2] at h
  simp only [if_true] at h
  rw [h1.s, h2.s, qof_num, qof_num] at h
  exact h
theorem divN (hF : DivQIs F) (h1 : QNm w v x) (h2 : QNm w v2 y) (l1 : v.n ≤ 60) (l2 : v.m ≤ 60) (l3 : v2.n ≤ 60) (l4 : v2.m ≤ 60) (hy : y ≠ 0) :
    Calls Tryz.prog F #[v.v, v2.v] w fun e w' => ∃ vr : QV, e = .returned (.tuple #[vr.v, .int .i64 0]) ∧ QOwn w' w.heap.size vr (x / y) ∧ Below w.heap.size w w' := by
  have h := hF v v2 _ _ _ _ w (q1_num h1 l1 l2) (q1_num h2 l3 l4)
  unfold QAns at h
  rw [both_num h1 h2, h1.s, h2.s, qof_num, qof_num, decide_eq_true hy] at h
  simp only [Bool.and_self, if_true] at h
  exact h
theorem divN0 (hF : DivQIs F) (h1 : QNm w v x) (h2 : QNm w v2 y) (l1 : v.n ≤ 60) (l2 : v.m ≤ 60) (l3 : v2.n ≤ 60) (l4 : v2.m ≤ 60) (hy : y = 0) :
    Calls Tryz.prog F #[v.v, v2.v] w fun e w' => e = .returned (.tuple #[.agg #[.bool false, .slice none 0 0, .slice none 0 0], .int .i64 30]) ∧ Below w.heap.size w w' := by
  have h := hF v v2 _ _ _ _ w (q1_num h1 l1 l2) (q1_num h2 l3 l4)
  unfold QAns at h
  rw [both_num h1 h2, h1.s, h2.s, qof_num, qof_num, decide_eq_false (by simpa using hy)] at h
  simp only [Bool.and_false, Bool.false_eq_true, if_false, if_true] at h
  exact h
theorem cmpQN (hF : CmpQIs F) (h1 : QNm w v x) (h2 : QNm w v2 y) (l1 : v.n ≤ 60) (l2 : v.m ≤ 60) (l3 : v2.n ≤ 60) (l4 : v2.m ≤ 60) : Calls Tryz.prog F #[v.v, v2.v] w (IAns w (sgn (x - y).num) 0) := by
  have h := hF v v2 _ _ _ _ w (q1_num h1 l1 l2) (q1_num h2 l3 l4)
  rw [both_num h1 h2, h1.s, h2.s, qof_num, qof_num] at h
  simp only [if_true] at h
  exact h
theorem checkQN (hF : CheckQIs F) (h1 : QNm w v x) (l1 : v.n ≤ 60) (l2 : v.m ≤ 60) : Calls Tryz.prog F #[v.v] w fun e w' => e = .returned (.int .i64 0) ∧ Below w.heap.size w w' := by
  have h := hF v _ _ w (q1_num h1 l1 l2)
  rw [h1.s, mayQ_num] at h
  simp only [if_true] at h
  exact h
theorem wholeQN {f : Rat → Int} (hF : WholeQIs f F) (h1 : QNm w v x) (l1 : v.n ≤ 60) (l2 : v.m ≤ 60) : Calls Tryz.prog F #[v.v] w (ZAns w (f x) 0) := by
  have h := hF v _ _ w (q1_num h1 l1 l2)
  rw [h1.s, mayQ_num, qof_num] at h
  simp only [if_true] at h
  exact h
theorem sameQN (hF : SameQIs F) (h1 : QNm w v x) (h2 : QNm w v2 y) (l1 : v.n ≤ 60) (l2 : v.m ≤ 60) (l3 : v2.n ≤ 60) (l4 : v2.m ≤ 60) : Calls Tryz.prog F #[v.v, v2.v] w fun e w' => e = .returned (.bool (decide (x = y))) ∧ Below w.heap.size w w' := by
  have h := hF v v2 _ _ _ _ w (q1_num h1 l1 l2) (q1_num h2 l3 l4)
  have e : decide ((v.p = v2.p ∧ limbs x.num.natAbs = limbs y.num.natAbs) ∧ limbs x.den = limbs y.den) = decide (x = y) := by
    rw [decide_eq_decide, h1.s, h2.s]
    constructor
    · rintro ⟨⟨e1, e2⟩, e3⟩
      have e2 := limbs_inj e2
      rw [decide_eq_decide] at e1
      exact Rat.ext (by omega) (limbs_inj e3)
    · rintro rfl
      exact ⟨⟨rfl, rfl⟩, rfl⟩
  rw [e] at h
  exact h
end
end Go.Proofs.YtbldimplddiheaaGreatDoor
