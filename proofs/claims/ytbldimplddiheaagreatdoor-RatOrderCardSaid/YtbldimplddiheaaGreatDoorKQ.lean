import Derived.Test.YtbldimplddiheaaGreatDoorKZFr
import Derived.Test.YtbldimplddiheaaGreatDoorKZHeld
import Derived.Test.YtbldimplddiheaaGreatDoorKRefGcd3
/- QMath Q. -/
/- Fractions: what their numbers are. -/
namespace Go.Proofs.YtbldimplddiheaaGreatDoor
open Go.RowKit Go.Shelf
set_option linter.unusedVariables false
set_option linter.unusedSimpArgs false

theorem pos_mul_neg {g k : Int} (hg : 0 < g) : g * k < 0 ↔ k < 0 := by
  constructor
  · intro h
    refine Int.not_le.1 fun h2 => ?_
    have := Int.mul_nonneg (Int.le_of_lt hg) h2
    omega
  · intro h
    exact Int.mul_neg_of_pos_of_neg hg h
theorem mk_parts (z : Int) {u : Nat} (hu : u ≠ 0) : (mkRat z u).num.natAbs = z.natAbs / Nat.gcd z.natAbs u ∧ decide ((mkRat z u).num < 0) = decide (z < 0) ∧ (mkRat z u).den = u / Nat.gcd z.natAbs u := by
  rw [Rat.num_mkRat, Rat.den_mkRat, if_neg hu, if_neg hu, Nat.gcd_comm u]
  have hg : Nat.gcd z.natAbs u ≠ 0 := fun e => hu (Nat.gcd_eq_zero_iff.1 e).2
  have hd : ((Nat.gcd z.natAbs u : Nat) : Int) ∣ z := Int.natAbs_dvd_natAbs.1 (by rw [Int.natAbs_natCast]; exact Nat.gcd_dvd_left _ _)
  generalize Nat.gcd z.natAbs u = g at hg hd
  obtain ⟨k, hk⟩ := hd
  have hg2 : (g : Int) ≠ 0 := by omega
  have e1 : z / (g : Int) = k := by rw [hk]; exact Int.mul_ediv_cancel_left k hg2
  rw [e1]
  refine ⟨?_, ?_, rfl⟩
  · rw [hk, Int.natAbs_mul, Int.natAbs_natCast, Nat.mul_div_cancel_left _ (Nat.pos_of_ne_zero hg)]
  · rw [decide_eq_decide, hk]
    exact (pos_mul_neg (by omega)).symm
theorem den_ne (x : Rat) : x.den ≠ 0 := x.den_nz
theorem sum_rat (x y : Rat) : mkRat (x.num * y.den + y.num * x.den) (x.den * y.den) = x + y := by
  rw [Rat.add_def, Rat.normalize_eq_mkRat]
theorem dif_rat (x y : Rat) : mkRat (x.num * y.den - y.num * x.den) (x.den * y.den) = x - y := by
  rw [Rat.sub_def, Rat.normalize_eq_mkRat]
theorem mul_rat (x y : Rat) : mkRat (x.num * y.num) (x.den * y.den) = x * y := by
  rw [Rat.mul_def, Rat.normalize_eq_mkRat]
/-- The fraction of two whole numbers, the second one not 0. -/
theorem of_rat (n m : Int) (hm : m ≠ 0) : mkRat (if m < 0 then -n else n) m.natAbs = Rat.divInt n m := by
  by_cases h : m < 0
  · rw [if_pos h]
    have e : m = ((m.natAbs : Nat) : Int) * -1 := by omega
    have e2 : n = (-n) * -1 := by omega
    conv => rhs; rw [e, e2]
    rw [Rat.divInt_mul_right (by omega), Rat.divInt_ofNat]
  · rw [if_neg h]
    have e : m = ((m.natAbs : Nat) : Int) := by omega
    conv => rhs; rw [e]
    rw [Rat.divInt_ofNat]
theorem self_rat (x : Rat) : Rat.divInt x.num x.den = x := by rw [Rat.divInt_ofNat, Rat.mkRat_self]
theorem div_rat (x y : Rat) : Rat.divInt (x.num * y.den) (x.den * y.num) = x / y := by
  rw [Rat.div_def, Rat.inv_def, ← Rat.divInt_mul_divInt, self_rat]
theorem num_ne {y : Rat} (h : y ≠ 0) : y.num ≠ 0 := fun e => h (Rat.num_eq_zero.1 e)
theorem div_rat2 (x y : Rat) (hy : y ≠ 0) : mkRat (if y.num < 0 then -(x.num * y.den) else x.num * y.den) (x.den * y.num.natAbs) = x / y := by
  have h0 : (x.den : Int) * y.num ≠ 0 := Int.mul_ne_zero (by have := x.den_nz; omega) (num_ne hy)
  have h1 := of_rat (x.num * y.den) (x.den * y.num) h0
  have h2 : ((x.den : Int) * y.num < 0) = (y.num < 0) := by
    rw [eq_iff_iff]
    exact pos_mul_neg (by have := x.den_nz; omega)
  rw [← div_rat, ← h1]
  simp only [h2, Int.natAbs_mul, Int.natAbs_natCast]
theorem sgn_rat (x y : Rat) : sgn (x.num * y.den - y.num * x.den) = sgn (x - y).num := by
  rw [← dif_rat]
  have h := mk_parts (x.num * y.den - y.num * x.den) (u := x.den * y.den) (Nat.mul_ne_zero x.den_nz y.den_nz)
  have hz : (mkRat (x.num * y.den - y.num * x.den) (x.den * y.den)).num = 0 ↔ x.num * y.den - y.num * x.den = 0 := by
    rw [Rat.num_eq_zero, Rat.mkRat_eq_zero (Nat.mul_ne_zero x.den_nz y.den_nz)]
  have h2 := decide_eq_decide.1 h.2.1
  unfold sgn
  split
  · rw [if_pos (h2.2 (by assumption))]
  · rename_i hn
    rw [if_neg (fun e => hn (h2.1 e))]
    split
    · rw [if_pos (by omega)]
    · rw [if_neg (by omega)]
theorem floor_rat (x : Rat) : Int.fdiv x.num x.den = x.floor := by
  rw [Rat.floor_def, Int.fdiv_eq_ediv_of_nonneg _ (by omega)]
theorem ceil_rat (x : Rat) : cdiv x.num x.den = x.ceil := by
  unfold cdiv
  rw [← Rat.neg_num, ← Rat.neg_den, floor_rat]
  rw [Rat.ceil_eq_neg_floor_neg]
end Go.Proofs.YtbldimplddiheaaGreatDoor

/- Fractions: what may be, values, blocks, what calls of layer 6 are. -/
namespace Go.Proofs.YtbldimplddiheaaGreatDoor
open Go.RowKit Go.Shelf
set_option linter.unusedVariables false
set_option linter.unusedSimpArgs false

abbrev qT : TypeId := 27
/-- What a fraction's value holds: its number's sign and slice, and its second number's slice. -/
structure QV where
  p : Bool
  A : Option Addr
  n : Nat
  c : Nat
  D : Option Addr
  m : Nat
  d : Nat
/-- The value. -/
def QV.v (x : QV) : Value := .agg #[.bool x.p, .slice x.A x.n x.c, .slice x.D x.m x.d]
def QV.o (x : QV) : Obj := .cells #[.bool x.p, .slice x.A x.n x.c, .slice x.D x.m x.d] qT
def QV.zero : QV := ⟨false, none, 0, 0, none, 0, 0⟩
abbrev qz : Obj := .cells #[.bool false, .slice none 0 0, .slice none 0 0] qT
/-- A block that holds a fraction. -/
def BoxQ (w : World) (g : Nat) (x : QV) : Prop := w.heap[g]? = some x.o
section
variable {w w' : World} {g B : Nat} {x : QV}
theorem BoxQ.below (h : BoxQ w g x) (hb : Below B w w') (hg : g < B) : BoxQ w' g x := (hb.block g hg).trans h
theorem BoxQ.lt (h : BoxQ w g x) : g < w.heap.size := (Array.getElem?_eq_some_iff.1 h).1
theorem BoxQ.next (h : BoxQ w g x) (hb : Below w.heap.size w w') : BoxQ w' g x := h.below hb h.lt
theorem BoxQ.c0 (h : BoxQ w g x) : w.cell? ⟨g, 0, none⟩ = some (.bool x.p) := cells_cell h rfl
theorem BoxQ.c1 (h : BoxQ w g x) : w.cell? ⟨g, 1, none⟩ = some (.slice x.A x.n x.c) := cells_cell h rfl
theorem BoxQ.c2 (h : BoxQ w g x) : w.cell? ⟨g, 2, none⟩ = some (.slice x.D x.m x.d) := cells_cell h rfl
theorem BoxQ.f (h : BoxQ w g x) (j : Nat) : w.frozen? ⟨g, j, none⟩ = false := cells_frozen h
end
def mayQ (p : Bool) (a d : List Nat) : Bool := mayZ p a && may d && !d.isEmpty && decide (Nat.gcd (val a) (val d) = 1)
/-- The fraction of two lists. -/
def qof (p : Bool) (a d : List Nat) : Rat := mkRat (zof p a) (val d)
theorem mayQ_iff {p : Bool} {a d : List Nat} : mayQ p a d = true ↔ mayZ p a = true ∧ may d = true ∧ d ≠ [] ∧ Nat.gcd (val a) (val d) = 1 := by
  unfold mayQ
  simp [and_assoc]
theorem qof_parts {p : Bool} {a d : List Nat} (h : mayQ p a d = true) : (qof p a d).num = zof p a ∧ (qof p a d).den = val d := by
  obtain ⟨h1, h2, h3, h4⟩ := mayQ_iff.1 h
  have hd : val d ≠ 0 := by have := val_pos h2 h3; omega
  have hm := mk_parts (zof p a) hd
  rw [zof_abs, h4, Nat.div_one, Nat.div_one] at hm
  unfold qof
  refine ⟨?_, hm.2.2⟩
  have h5 := decide_eq_decide.1 hm.2.1
  have h6 := zof_abs p a
  omega
/-- The value's slices are the fraction x. -/
structure QNm (w : World) (v : QV) (x : Rat) : Prop where
  s : v.p = decide (x.num < 0)
  a : ZNm w v.A v.n v.c x.num
  d : Nm w v.D v.m v.d x.den
theorem QNm.below {w w' : World} {v : QV} {x : Rat} (h : QNm w v x) (hb : Below w.heap.size w w') : QNm w' v x := ⟨h.s, h.a.below hb, h.d.below hb⟩
theorem QNm.pos {w : World} {v : QV} {x : Rat} (h : QNm w v x) : 0 < v.m := Nat.pos_of_ne_zero fun e => x.den_nz (h.d.zero.1 e)
/-- .. and they are the call's own. -/
structure QOwn (w : World) (B : Nat) (v : QV) (x : Rat) : Prop where
  s : v.p = decide (x.num < 0)
  a : Own w B (.slice v.A v.n v.c) (limbs x.num.natAbs)
  d : Own w B (.slice v.D v.m v.d) (limbs x.den)
theorem QOwn.below {w w' : World} {B : Nat} {v : QV} {x : Rat} (h : QOwn w B v x) (hb : Below w.heap.size w w') : QOwn w' B v x := ⟨h.s, h.a.below hb, h.d.below hb⟩
theorem QOwn.mono {w : World} {B C : Nat} {v : QV} {x : Rat} (h : QOwn w B v x) (hc : C ≤ B) : QOwn w C v x := ⟨h.s, own_mono h.a hc, own_mono h.d hc⟩
theorem QOwn.nm {w : World} {B : Nat} {v : QV} {x : Rat} (h : QOwn w B v x) : QNm w v x := ⟨h.s, h.a.nm, h.d.nm⟩
/-- What a call of one fraction is handed. -/
structure Q1 (w : World) (v : QV) (a d : List Nat) : Prop where
  ra : Rd w v.A v.n a
  rd : Rd w v.D v.m d
  la : v.n ≤ 60
  ld : v.m ≤ 60
  ca1 : v.n ≤ v.c
  ca2 : v.c ≤ 9223372036854775807
  cd1 : v.m ≤ v.d
  cd2 : v.d ≤ 9223372036854775807
theorem Q1.below {w w' : World} {v : QV} {a d : List Nat} (h : Q1 w v a d) (hb : Below w.heap.size w w') : Q1 w' v a d := ⟨h.ra.below hb, h.rd.below hb, h.la, h.ld, h.ca1, h.ca2, h.cd1, h.cd2⟩
theorem Q1.z {w : World} {v : QV} {a d : List Nat} (h : Q1 w v a d) : Z1 w v.A v.n v.c a := ⟨h.ra, by have := h.la; omega, h.ca1, h.ca2⟩
theorem Q1.num {w : World} {v : QV} {a d : List Nat} (h : Q1 w v a d) (hm : mayQ v.p a d = true) : QNm w v (qof v.p a d) := by
  obtain ⟨h1, h2, h3, h4⟩ := mayQ_iff.1 hm
  obtain ⟨e1, e2⟩ := qof_parts hm
  have hz := znm_of h.ra h1 h.ca1 h.ca2
  refine ⟨?_, ?_, ?_⟩
  · rw [e1, zof_neg h1]
  · rw [e1]; exact hz.1
  · rw [e2]; exact nm_of h.rd h2 h.cd1 h.cd2
/-- A call answered the fraction x alone, in new memory. -/
def QOne (w : World) (x : Rat) (e : Ending) (w' : World) : Prop := ∃ v : QV, e = .returned v.v ∧ QOwn w' w.heap.size v x ∧ Below w.heap.size w w'
/-- A call answered a fraction and an error: x and 0, or none and E. -/
def QAns (w : World) (ok : Bool) (x : Rat) (E : Int) (e : Ending) (w' : World) : Prop :=
  if ok then (∃ v : QV, e = .returned (.tuple #[v.v, .int .i64 0]) ∧ QOwn w' w.heap.size v x ∧ Below w.heap.size w w')
  else e = .returned (.tuple #[.agg #[.bool false, .slice none 0 0, .slice none 0 0], .int .i64 E]) ∧ Below w.heap.size w w'
/-- The worlds behind one block, two, three. -/
structure UnoQ (w W : World) (x : QV) : Prop where
  b : Below w.heap.size w W
  x : BoxQ W w.heap.size x
theorem UnoQ.next {w W W' : World} {x : QV} (h : UnoQ w W x) (hb : Below W.heap.size W W') : UnoQ w W' x := ⟨below_then h.b hb, h.x.next hb⟩
theorem uno_q (w : World) (x : QV) : UnoQ w (w.alloc x.o) x := ⟨bxb _ _, World.alloc_heap_new _ _⟩
structure DuoQ (w W : World) (x y : QV) : Prop where
  b : Below w.heap.size w W
  x : BoxQ W w.heap.size x
  y : BoxQ W (w.heap.size + 1) y
theorem DuoQ.next {w W W' : World} {x y : QV} (h : DuoQ w W x y) (hb : Below W.heap.size W W') : DuoQ w W' x y := ⟨below_then h.b hb, h.x.next hb, h.y.next hb⟩
theorem duo_q (w : World) (x y : QV) : DuoQ w ((w.alloc x.o).alloc y.o) x y := by
  have h := (uno_q w x).next (bxb _ y.o)
  have h2 := World.alloc_heap_new (w.alloc x.o) y.o
  rw [World.size_alloc] at h2
  exact ⟨h.b, h.x, h2⟩
structure TriQ (w W : World) (x y z : QV) : Prop where
  b : Below w.heap.size w W
  x : BoxQ W w.heap.size x
  y : BoxQ W (w.heap.size + 1) y
  r : BoxQ W (w.heap.size + 1 + 1) z
theorem TriQ.next {w W W' : World} {x y z : QV} (h : TriQ w W x y z) (hb : Below W.heap.size W W') : TriQ w W' x y z := ⟨below_then h.b hb, h.x.next hb, h.y.next hb, h.r.next hb⟩
theorem tri_q (w : World) (x y z : QV) : TriQ w (((w.alloc x.o).alloc y.o).alloc z.o) x y z := by
  have h := (duo_q w x y).next (bxb _ z.o)
  have h2 := World.alloc_heap_new ((w.alloc x.o).alloc y.o) z.o
  rw [World.size_alloc, World.size_alloc] at h2
  exact ⟨h.b, h.x, h.y, h2⟩
theorem own_box3 {w1 w4 : World} {B g : Nat} {v : Value} {l : List Nat} (h1 : g < w1.heap.size) (hg : B ≤ g) (o : Own w4 w1.heap.size v l) (u1 u2 u3 : Value) : Own (((w4.setCell ⟨g, 0, none⟩ u1).setCell ⟨g, 1, none⟩ u2).setCell ⟨g, 2, none⟩ u3) B v l :=
  own_mono (own_far (own_far (own_far (own_mono o (show g + 1 ≤ _ from h1)) (p := ⟨g, 0, none⟩) (Nat.lt_succ_self _) _) (p := ⟨g, 1, none⟩) (Nat.lt_succ_self _) _) (p := ⟨g, 2, none⟩) (Nat.lt_succ_self _) _) (by omega)
theorem QOwn.box3 {w1 w4 : World} {B g : Nat} {v : QV} {x : Rat} (o : QOwn w4 w1.heap.size v x) (h1 : g < w1.heap.size) (hg : B ≤ g) (u1 u2 u3 : Value) : QOwn (((w4.setCell ⟨g, 0, none⟩ u1).setCell ⟨g, 1, none⟩ u2).setCell ⟨g, 2, none⟩ u3) B v x :=
  ⟨o.s, own_box3 h1 hg o.a _ _ _, own_box3 h1 hg o.d _ _ _⟩
theorem box_below3 {w w4 : World} {B g : Nat} (hg : B ≤ g) (h : Below B w w4) (u1 u2 u3 : Value) : Below B w (((w4.setCell ⟨g, 0, none⟩ u1).setCell ⟨g, 1, none⟩ u2).setCell ⟨g, 2, none⟩ u3) := (box_below hg h u1 u2).setCell (p := ⟨g, 2, none⟩) hg _
end Go.Proofs.YtbldimplddiheaaGreatDoor
