import Derived.Test.YtgiokmfdafmaoaaKZ
import Derived.Test.YtgiokmfdafmaoaaKRefCommon
import Derived.Test.YtgiokmfdafmaoaaKMSpec
import Derived.Test.YtgiokmfdafmaoaaKCopy
import Derived.Test.YtgiokmfdafmaoaaKRefMul
/- ZRef ZT ZU. -/
/- The document's whole numbers: facetroomref05's calls. -/
namespace Go.Proofs.Ytgiokmfdafmaoaa
open Go.RowKit Go.Shelf
set_option linter.unusedVariables false
set_option linter.unusedSimpArgs false

abbrev zT : TypeId := 32
abbrev zo (p : Bool) (A : Option Addr) (n c : Nat) : Obj := .cells #[.bool p, .slice A n c] zT
/-- A block that holds a whole number. -/
def BoxZ (w : World) (g : Nat) (p : Bool) (A : Option Addr) (n c : Nat) : Prop := w.heap[g]? = some (zo p A n c)
theorem BoxZ.below {w w' : World} {g n c B : Nat} {p : Bool} {A : Option Addr} (h : BoxZ w g p A n c) (hb : Below B w w') (hg : g < B) : BoxZ w' g p A n c := (hb.block g hg).trans h
theorem BoxZ.c0 {w : World} {g n c : Nat} {p : Bool} {A : Option Addr} (h : BoxZ w g p A n c) : w.cell? ⟨g, 0, none⟩ = some (.bool p) := cells_cell h rfl
theorem BoxZ.c1 {w : World} {g n c : Nat} {p : Bool} {A : Option Addr} (h : BoxZ w g p A n c) : w.cell? ⟨g, 1, none⟩ = some (.slice A n c) := cells_cell h rfl
theorem bxb (w : World) (o : Obj) : Below w.heap.size w (w.alloc o) := (Below.refl _ w).alloc (Nat.le_refl _) o
/-- The world behind two boxes. -/
structure Two (w W : World) (p : Bool) (A : Option Addr) (na ca : Nat) (q : Bool) (A2 : Option Addr) (nb cb : Nat) : Prop where
  b : Below w.heap.size w W
  x : BoxZ W w.heap.size p A na ca
  y : BoxZ W (w.heap.size + 1) q A2 nb cb
  s : w.heap.size + 1 < W.heap.size
theorem two_box (w : World) (p : Bool) (A : Option Addr) (na ca : Nat) (q : Bool) (A2 : Option Addr) (nb cb : Nat) : Two w ((w.alloc (zo p A na ca)).alloc (zo q A2 nb cb)) p A na ca q A2 nb cb := by
  refine ⟨(bxb w _).alloc (by simp) _, ?_, ?_, by simp⟩
  · show ((w.alloc (zo p A na ca)).alloc (zo q A2 nb cb)).heap[w.heap.size]? = _
    rw [Below.heap_alloc _ _ _ (by simp)]
    exact World.alloc_heap_new _ _
  · have h := World.alloc_heap_new (w.alloc (zo p A na ca)) (zo q A2 nb cb)
    rw [World.size_alloc] at h
    exact h
theorem Two.next {w W W' : World} {p : Bool} {A : Option Addr} {na ca : Nat} {q : Bool} {A2 : Option Addr} {nb cb : Nat} (h : Two w W p A na ca q A2 nb cb) (hb : Below W.heap.size W W') : Two w W' p A na ca q A2 nb cb :=
  ⟨below_then h.b hb, h.x.below hb (by have := h.s; omega), h.y.below hb h.s, Nat.lt_of_lt_of_le h.s hb.size⟩
/-- .. and a third block, for the answer. -/
structure Tri (w W : World) (p : Bool) (A : Option Addr) (na ca : Nat) (q : Bool) (A2 : Option Addr) (nb cb : Nat) : Prop where
  t : Two w W p A na ca q A2 nb cb
  r : BoxZ W (w.heap.size + 1 + 1) false none 0 0
theorem Tri.next {w W W' : World} {p : Bool} {A : Option Addr} {na ca : Nat} {q : Bool} {A2 : Option Addr} {nb cb : Nat} (h : Tri w W p A na ca q A2 nb cb) (hb : Below W.heap.size W W') : Tri w W' p A na ca q A2 nb cb :=
  ⟨h.t.next hb, h.r.below hb (Array.getElem?_eq_some_iff.1 h.r).1⟩
theorem tri_box (w : World) (p : Bool) (A : Option Addr) (na ca : Nat) (q : Bool) (A2 : Option Addr) (nb cb : Nat) : Tri w (((w.alloc (zo p A na ca)).alloc (zo q A2 nb cb)).alloc (zo false none 0 0)) p A na ca q A2 nb cb := by
  refine ⟨(two_box w p A na ca q A2 nb cb).next (bxb _ _), ?_⟩
  have h := World.alloc_heap_new ((w.alloc (zo p A na ca)).alloc (zo q A2 nb cb)) (zo false none 0 0)
  rw [World.size_alloc, World.size_alloc] at h
  exact h
theorem BoxZ.f {w : World} {g n c : Nat} {p : Bool} {A : Option Addr} (h : BoxZ w g p A n c) (j : Nat) : w.frozen? ⟨g, j, none⟩ = false := cells_frozen h
theorem zsame_d {z y : Int} {d : Bool} (h : decide (z < 0) = d) (k : decide (y < 0) = d) : decide (z < 0) = decide (y < 0) := h.trans k.symm

section
variable {A A2 : Option Addr} {na ca nb cb : Nat} {p q : Bool} {a b : List Nat} {w : World} {z y : Int}
theorem Z1.below {w' : World} (h : Z1 w A na ca a) (hb : Below w.heap.size w w') : Z1 w' A na ca a := ⟨h.ra.below hb, h.la, h.ca1, h.ca2⟩
theorem Z2.below {w' : World} (h : Z2 w A A2 na ca nb cb a b) (hb : Below w.heap.size w w') : Z2 w' A A2 na ca nb cb a b := ⟨h.ra.below hb, h.rb.below hb, h.la, h.lb, h.ca1, h.ca2, h.cb1, h.cb2⟩
theorem Z2.one (h : Z2 w A A2 na ca nb cb a b) : Z1 w A na ca a := ⟨h.ra, h.la, h.ca1, h.ca2⟩
theorem Z2.two (h : Z2 w A A2 na ca nb cb a b) : Z1 w A2 nb cb b := ⟨h.rb, h.lb, h.cb1, h.cb2⟩
theorem Z2.num (h : Z2 w A A2 na ca nb cb a b) (hm : twoM p a q b = true) : ZNm w A na ca (zof p a) ∧ ZNm w A2 nb cb (zof q b) ∧ zv p A na ca = zV (zof p a) A na ca ∧ zv q A2 nb cb = zV (zof q b) A2 nb cb := by
  obtain ⟨h1, h2⟩ := twoM_iff.1 hm
  exact ⟨(znm_of h.ra h1 h.ca1 h.ca2).1, (znm_of h.rb h2 h.cb1 h.cb2).1, (znm_of h.ra h1 h.ca1 h.ca2).2, (znm_of h.rb h2 h.cb1 h.cb2).2⟩
end
end Go.Proofs.Ytgiokmfdafmaoaa

/- A number, copied within a region that draws; the other way round. -/
namespace Go.Proofs.Ytgiokmfdafmaoaa
open Go.RowKit Go.Shelf
set_option linter.unusedVariables false
set_option linter.unusedSimpArgs false

theorem run_copy0 (w : World) (A : Option Addr) (c : Nat) (ty : TypeId) : (Builtin.append_ #[30, 30] ty #[.slice none 0 0, .slice A 0 c]).run Try.prog w = .ok (.slice none 0 0) w := by
  obtain ⟨i0, hi0, hz0, hz1, hz2⟩ := info_parts u64_info
  cases A <;> simp [loadCells, loadCellsFrom, Builtin.append_, run_underlying Try.underlying30, sizeOf, typeInfo, zeroValue, hi0, hz0, hz1, hz2, Builtin.lenOf, Builtin.firstCells]
theorem run_copy (w : World) (A : Option Addr) (m c : Nat) (a : List Nat) (ty : TypeId) (hra : Rd w A m a) (hm : m ≤ 1000) :
    ∃ v' w', (Builtin.append_ #[30, 30] ty #[.slice none 0 0, .slice A m c]).run Try.prog w = .ok v' w' ∧ Own w' w.heap.size v' a ∧ Below w.heap.size w w' := by
  obtain ⟨i0, hi0, hz0, hz1, hz2⟩ := info_parts u64_info
  have hal := hra.len
  by_cases h0 : m = 0
  · subst h0
    have ha : a = [] := List.eq_nil_of_length_eq_zero hal
    subst ha
    exact ⟨_, _, run_copy0 w A c ty, own_nil _ _, Below.refl _ _⟩
  · obtain ⟨b, off, rfl, hlt, hc⟩ := hra.cells (by omega)
    have hown : w.ownsRow w.heap.size 64 1 (.slice none 0 0) 0 [] := ⟨rfl, .inl ⟨rfl, rfl⟩⟩
    obtain ⟨v', w', hrun, r1, r2, _⟩ := run_append_own (P := Try.prog) w w.heap.size 30 ty 64 i0 _ 1 8 Try.underlying30 hi0 hz0 hz1 hz2 rfl (by omega) _ 0 [] hown ⟨b, off, none⟩ m c (a.map u64) (by simp [hal]) (fun j u hj => by
      have hjl : j < a.length := by have := (List.getElem?_eq_some_iff.1 hj).1; simpa using this
      have h := hc j (by omega)
      have hu : u = u64 (lim a j) := by
        rw [List.getElem?_map, List.getElem?_eq_getElem hjl] at hj
        simp at hj
        rw [← hj, lim_get hjl]
      rw [hu, ← h, Addr.add_lit]) (fun u hu => by obtain ⟨x, _, rfl⟩ := List.mem_map.1 hu; rfl) (by simp only [maxLen]; omega) (by omega) (Nat.le_refl _)
    refine ⟨v', w', hrun, ⟨by rw [hal]; simpa using r1, hra.words⟩, ?_⟩
    exact (Below.refl _ w).grown r2 (Nat.le_refl _) (fun k e => by simp [Value.ownBlock] at e)
theorem step_copy {ops : Array Oper} {o : Oper} {a : Act} {w : World} {K : Act → World → Prop} {Q : Exit → Act → World → Prop} {E : Prop}
    (hg : o.guard = none) (s x : Operand) (hop : o.op = Op.call { callee := Callee.builtin Builtin.append, args := #[s, x], argTypes := #[30, 30] })
    (A : Option Addr) (m c : Nat) (l : List Nat) (hs : a.eval s = .slice none 0 0) (hx : a.eval x = .slice A m c) (hra : Rd w A m l) (hm : m ≤ 1000)
    (hK : ∀ A' k' c' w', Own w' w.heap.size (.slice A' k' c') l → Below w.heap.size w w' → K (a.put o.dst (.slice A' k' c')) w') :
    if Region.wanted o (yielded ops a.tmps) = true then Oper.wp Try.prog o a w K Q else E := by
  have hw : Region.wanted o (yielded ops a.tmps) = true := by simp [Region.wanted, hg]
  rw [if_pos hw]
  obtain ⟨v', w', hrun, r1, r2⟩ := run_copy w A m c l o.type hra hm
  unfold Oper.wp
  simp [execOp, hop, resolve, invoke, builtin, hs, hx, hrun, Result.andThen]
  obtain ⟨A', c', rfl⟩ := own_shape r1
  exact hK A' _ c' w' r1 r2

/-- A call that is not asked for. -/
theorem step_skip {ops : Array Oper} {o : Oper} {a : Act} {X E : Prop} (hw : Region.wanted o (yielded ops a.tmps) = false) (h : E) : if Region.wanted o (yielded ops a.tmps) = true then X else E := by
  rw [if_neg (by rw [hw]; simp)]
  exact h
/-- The world behind a box, and a block for the answer. -/
structure Duo (w W : World) (p : Bool) (A : Option Addr) (na ca : Nat) : Prop where
  b : Below w.heap.size w W
  x : BoxZ W w.heap.size p A na ca
  r : BoxZ W (w.heap.size + 1) false none 0 0
theorem Duo.next {w W W' : World} {p : Bool} {A : Option Addr} {na ca : Nat} (h : Duo w W p A na ca) (hb : Below W.heap.size W W') : Duo w W' p A na ca :=
  ⟨below_then h.b hb, h.x.below hb (Array.getElem?_eq_some_iff.1 h.x).1, h.r.below hb (Array.getElem?_eq_some_iff.1 h.r).1⟩
theorem duo_box (w : World) (p : Bool) (A : Option Addr) (na ca : Nat) : Duo w ((w.alloc (zo p A na ca)).alloc (zo false none 0 0)) p A na ca := by
  have h := two_box w p A na ca false none 0 0
  exact ⟨h.b, h.x, h.y⟩
theorem zneg_d {z : Int} : decide (-z < 0) = (!decide (z < 0) && decide (z ≠ 0)) := by
  rw [Bool.eq_iff_iff]
  simp
  omega

section
variable {A A2 : Option Addr} {na ca nb cb : Nat} {p q : Bool} {a b : List Nat} {w : World} {z y : Int}
end
end Go.Proofs.Ytgiokmfdafmaoaa

/- The document's whole numbers: what answers with an error. -/
namespace Go.Proofs.Ytgiokmfdafmaoaa
open Go.RowKit Go.Shelf
set_option linter.unusedVariables false
set_option linter.unusedSimpArgs false

theorem Z1.num {A : Option Addr} {na ca : Nat} {p : Bool} {a : List Nat} {w : World} (h : Z1 w A na ca a) (hm : mayZ p a = true) : ZNm w A na ca (zof p a) ∧ zv p A na ca = zV (zof p a) A na ca := znm_of h.ra hm h.ca1 h.ca2
theorem own_box {w1 w4 : World} {B g : Nat} {v : Value} {l : List Nat} (h1 : g < w1.heap.size) (hg : B ≤ g) (o : Own w4 w1.heap.size v l) (u1 u2 : Value) : Own ((w4.setCell ⟨g, 0, none⟩ u1).setCell ⟨g, 1, none⟩ u2) B v l :=
  own_mono (own_far (own_far (own_mono o (show g + 1 ≤ _ from h1)) (p := ⟨g, 0, none⟩) (Nat.lt_succ_self _) _) (p := ⟨g, 1, none⟩) (Nat.lt_succ_self _) _) (by omega)
theorem box_below {w w4 : World} {B g : Nat} (hg : B ≤ g) (h : Below B w w4) (u1 u2 : Value) : Below B w ((w4.setCell ⟨g, 0, none⟩ u1).setCell ⟨g, 1, none⟩ u2) := (h.setCell (p := ⟨g, 0, none⟩) hg _).setCell (p := ⟨g, 1, none⟩) hg _
section
variable {A A2 : Option Addr} {na ca nb cb : Nat} {p q : Bool} {a b : List Nat} {w : World} {z y : Int}
end
end Go.Proofs.Ytgiokmfdafmaoaa
