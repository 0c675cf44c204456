import Derived.Test.YtbldimplddiheaaGreatDoorKZMath
import Derived.Test.YtbldimplddiheaaGreatDoorKGTexts
import Derived.Test.YtbldimplddiheaaGreatDoorKDNames
import Derived.Test.YtbldimplddiheaaGreatDoorKDLimb
import Derived.Test.YtbldimplddiheaaGreatDoorKRowL
import Derived.Lib.SmallJoins
import Derived.WalkKit
import Derived.ProofKit
import Derived.OpenShut
/- Z ZFr. -/
/- Whole numbers: what may be, values, what calls of layer 5 are. -/
namespace Go.Proofs.YtbldimplddiheaaGreatDoor
open Go.RowKit Go.Shelf
set_option linter.unusedVariables false
set_option linter.unusedSimpArgs false

/-- A whole number's value: its sign's, and its size's. -/
def zv (p : Bool) (A : Option Addr) (n c : Nat) : Value := .agg #[.bool p, .slice A n c]
def mayZ (p : Bool) (a : List Nat) : Bool := may a && (!p || !a.isEmpty)
def zof (p : Bool) (a : List Nat) : Int := if p then -(val a : Int) else (val a : Int)
/-- The value of the number z. -/
abbrev zV (z : Int) (A : Option Addr) (n c : Nat) : Value := zv (decide (z < 0)) A n c
/-- The slice is the size of z. -/
abbrev ZNm (w : World) (A : Option Addr) (n c : Nat) (z : Int) : Prop := Nm w A n c z.natAbs

theorem mayZ_num (z : Int) : mayZ (decide (z < 0)) (limbs z.natAbs) = true := by
  unfold mayZ
  rw [may_limbs, Bool.true_and]
  by_cases h : z < 0
  · have : limbs z.natAbs ≠ [] := fun e => by have := limbs_eq_nil.1 e; omega
    simp [h, this]
  · simp [h]
theorem zof_num (z : Int) : zof (decide (z < 0)) (limbs z.natAbs) = z := by
  unfold zof
  rw [val_limbs]
  by_cases h : z < 0
  · simp [h]; omega
  · simp [h]; omega
theorem zof_abs (p : Bool) (a : List Nat) : (zof p a).natAbs = val a := by
  unfold zof
  cases p <;> simp
theorem zof_neg {p : Bool} {a : List Nat} (h : mayZ p a = true) : decide (zof p a < 0) = p := by
  unfold mayZ at h
  rw [Bool.and_eq_true] at h
  unfold zof
  cases p with
  | false => simp
  | true =>
    have h2 : a ≠ [] := by simpa using h.2
    have := val_pos h.1 h2
    simp
    omega
theorem mayZ_may {p : Bool} {a : List Nat} (h : mayZ p a = true) : may a = true := by
  unfold mayZ at h
  rw [Bool.and_eq_true] at h
  exact h.1
/-- A number that may be is told by its number. -/
theorem znm_of {w : World} {A : Option Addr} {n c : Nat} {p : Bool} {a : List Nat} (h : Rd w A n a) (hm : mayZ p a = true) (hc : n ≤ c) (hc2 : c ≤ 9223372036854775807) : ZNm w A n c (zof p a) ∧ zv p A n c = zV (zof p a) A n c := by
  refine ⟨?_, by unfold zV; rw [zof_neg hm]⟩
  show Nm w A n c (zof p a).natAbs
  rw [zof_abs]
  exact nm_of h (mayZ_may hm) hc hc2
theorem zero_znm (w : World) : ZNm w none 0 0 0 := nm_zero w none (by omega)

def twoM (p : Bool) (a : List Nat) (q : Bool) (b : List Nat) : Bool := mayZ p a && mayZ q b
/-- The number that two make, 0 unless both may be; the error. -/
def twoZ (p : Bool) (a : List Nat) (q : Bool) (b : List Nat) (z : Int) : Int := if twoM p a q b then z else 0
def twoE (p : Bool) (a : List Nat) (q : Bool) (b : List Nat) : Int := if twoM p a q b then 0 else 8
def oneZ (p : Bool) (a : List Nat) (z : Int) : Int := if mayZ p a then z else 0
def oneE (p : Bool) (a : List Nat) : Int := if mayZ p a then 0 else 8

/-- A call answered the number z, in new memory, and the error E. -/
def ZAns (w : World) (z E : Int) (e : Ending) (w' : World) : Prop := ∃ (A' : Option Addr) (k c : Nat), e = .returned (.tuple #[zV z A' k c, .int .i64 E]) ∧ Own w' w.heap.size (.slice A' k c) (limbs z.natAbs) ∧ Below w.heap.size w w'
/-- A call answered the number z alone. -/
def ZOne (w : World) (z : Int) (e : Ending) (w' : World) : Prop := ∃ (A' : Option Addr) (k c : Nat), e = .returned (zV z A' k c) ∧ Own w' w.heap.size (.slice A' k c) (limbs z.natAbs) ∧ Below w.heap.size w w'
/-- A call answered an int, and the error E. -/
def IAns (w : World) (i E : Int) (e : Ending) (w' : World) : Prop := e = .returned (.tuple #[.int .i64 i, .int .i64 E]) ∧ Below w.heap.size w w'

/-- What a call of two whole numbers is handed. -/
structure Z2 (w : World) (A A2 : Option Addr) (na ca nb cb : Nat) (a b : List Nat) : Prop where
  ra : Rd w A na a
  rb : Rd w A2 nb b
  la : na ≤ 400
  lb : nb ≤ 400
  ca1 : na ≤ ca
  ca2 : ca ≤ 9223372036854775807
  cb1 : nb ≤ cb
  cb2 : cb ≤ 9223372036854775807
structure Z1 (w : World) (A : Option Addr) (na ca : Nat) (a : List Nat) : Prop where
  ra : Rd w A na a
  la : na ≤ 400
  ca1 : na ≤ ca
  ca2 : ca ≤ 9223372036854775807

def Op2Is (f : Int → Int → Int) (F : Nat) : Prop := ∀ (A A2 : Option Addr) (na ca nb cb : Nat) (p q : Bool) (a b : List Nat) (w : World), Z2 w A A2 na ca nb cb a b →
  Calls Tryz.prog F #[zv p A na ca, zv q A2 nb cb] w (ZAns w (twoZ p a q b (f (zof p a) (zof q b))) (twoE p a q b))
def quoE (p : Bool) (a : List Nat) (q : Bool) (b : List Nat) : Int := if twoM p a q b then (if b = [] then 30 else 0) else 8
def quoZ (f : Int → Int → Int) (p : Bool) (a : List Nat) (q : Bool) (b : List Nat) : Int := if quoE p a q b = 0 then f (zof p a) (zof q b) else 0
def Quo2Is (f : Int → Int → Int) (F : Nat) : Prop := ∀ (A A2 : Option Addr) (na ca nb cb : Nat) (p q : Bool) (a b : List Nat) (w : World), Z2 w A A2 na ca nb cb a b →
  Calls Tryz.prog F #[zv p A na ca, zv q A2 nb cb] w (ZAns w (quoZ f p a q b) (quoE p a q b))
def exE (p : Bool) (a : List Nat) (q : Bool) (b : List Nat) : Int := if quoE p a q b = 0 then (if zof q b ∣ zof p a then 0 else 6) else quoE p a q b
def exZ (p : Bool) (a : List Nat) (q : Bool) (b : List Nat) : Int := if exE p a q b = 0 then Int.fdiv (zof p a) (zof q b) else 0
def ExactZIs (F : Nat) : Prop := ∀ (A A2 : Option Addr) (na ca nb cb : Nat) (p q : Bool) (a b : List Nat) (w : World), Z2 w A A2 na ca nb cb a b →
  Calls Tryz.prog F #[zv p A na ca, zv q A2 nb cb] w (ZAns w (exZ p a q b) (exE p a q b))
def CmpZIs (F : Nat) : Prop := ∀ (A A2 : Option Addr) (na ca nb cb : Nat) (p q : Bool) (a b : List Nat) (w : World), Z2 w A A2 na ca nb cb a b →
  Calls Tryz.prog F #[zv p A na ca, zv q A2 nb cb] w (IAns w (twoZ p a q b (sgn (zof p a - zof q b))) (twoE p a q b))
def SignIs (F : Nat) : Prop := ∀ (A : Option Addr) (na ca : Nat) (p : Bool) (a : List Nat) (w : World), Z1 w A na ca a →
  Calls Tryz.prog F #[zv p A na ca] w (IAns w (oneZ p a (sgn (zof p a))) (oneE p a))
def NegIs (F : Nat) : Prop := ∀ (A : Option Addr) (na ca : Nat) (p : Bool) (a : List Nat) (w : World), Z1 w A na ca a →
  Calls Tryz.prog F #[zv p A na ca] w (ZAns w (oneZ p a (-(zof p a))) (oneE p a))
def intE (p : Bool) (a : List Nat) : Int := if mayZ p a then (if -9223372036854775808 ≤ zof p a ∧ zof p a ≤ 9223372036854775807 then 0 else 4) else 8
def intZ (p : Bool) (a : List Nat) : Int := if intE p a = 0 then zof p a else 0
def IntIs (F : Nat) : Prop := ∀ (A : Option Addr) (na ca : Nat) (p : Bool) (a : List Nat) (w : World), Z1 w A na ca a →
  Calls Tryz.prog F #[zv p A na ca] w (IAns w (intZ p a) (intE p a))
def CheckZIs (F : Nat) : Prop := ∀ (A : Option Addr) (na ca : Nat) (p : Bool) (a : List Nat) (w : World), Z1 w A na ca a →
  Calls Tryz.prog F #[zv p A na ca] w fun e w' => e = .returned (.int .i64 (oneE p a)) ∧ Below w.heap.size w w'
def OfZIs (F : Nat) : Prop := ∀ (n : Int) (w : World), -9223372036854775808 ≤ n → n ≤ 9223372036854775807 → Calls Tryz.prog F #[.int .i64 n] w (ZOne w n)
def SameZIs (F : Nat) : Prop := ∀ (A A2 : Option Addr) (na ca nb cb : Nat) (p q : Bool) (a b : List Nat) (w : World), Z2 w A A2 na ca nb cb a b →
  Calls Tryz.prog F #[zv p A na ca, zv q A2 nb cb] w fun e w' => e = .returned (.bool (decide (p = q ∧ a = b))) ∧ Below w.heap.size w w'
/-- A number as a text. -/
def textZE (p : Bool) (a : List Nat) : Int := if mayZ p a then textE a else 8
def textZS (p : Bool) (a : List Nat) : ByteArray := if textZE p a = 0 then (if p then ⟨#[45]⟩ ++ textS a else textS a) else ⟨#[]⟩
def TextZIs (F : Nat) : Prop := ∀ (A : Option Addr) (na ca : Nat) (p : Bool) (a : List Nat) (w : World), Z1 w A na ca a →
  Calls Tryz.prog F #[zv p A na ca] w fun e w' => e = .returned (.tuple #[.string (textZS p a), .int .i64 (textZE p a)]) ∧ Below w.heap.size w w'
/-- The number of a text. -/
def minus (s : ByteArray) : Bool := s.data.toList.head? == some 45
def parseZE (s : ByteArray) : Int := if minus s then (if (s.data.toList.drop 1).head? = some 48 then 8 else parseE (s.extract 1 s.size)) else parseE s
def parseZ (s : ByteArray) : Int := if parseZE s = 0 then (if minus s then -(numV (s.data.toList.drop 1) : Int) else (numV s.data.toList : Int)) else 0
def ParseZIs (F : Nat) : Prop := ∀ (s : ByteArray) (w : World), s.size ≤ 70000 → Calls Tryz.prog F #[.string s] w (ZAns w (parseZ s) (parseZE s))

section
variable {p q : Bool} {a b : List Nat}
theorem twoZ_ok (h : twoM p a q b = true) (z : Int) : twoZ p a q b z = z := by simp [twoZ, h]
theorem twoZ_no (h : twoM p a q b = false) (z : Int) : twoZ p a q b z = 0 := by simp [twoZ, h]
theorem twoE_ok (h : twoM p a q b = true) : twoE p a q b = 0 := by simp [twoE, h]
theorem twoE_no (h : twoM p a q b = false) : twoE p a q b = 8 := by simp [twoE, h]
theorem oneZ_ok (h : mayZ p a = true) (z : Int) : oneZ p a z = z := by simp [oneZ, h]
theorem oneZ_no (h : mayZ p a = false) (z : Int) : oneZ p a z = 0 := by simp [oneZ, h]
theorem oneE_ok (h : mayZ p a = true) : oneE p a = 0 := by simp [oneE, h]
theorem oneE_no (h : mayZ p a = false) : oneE p a = 8 := by simp [oneE, h]
theorem twoM_iff : twoM p a q b = true ↔ mayZ p a = true ∧ mayZ q b = true := by simp [twoM]
end
theorem twoM_num (z y : Int) : twoM (decide (z < 0)) (limbs z.natAbs) (decide (y < 0)) (limbs y.natAbs) = true := by simp [twoM, mayZ_num]
theorem zans_zero {w w' : World} {E : Int} (h : Below w.heap.size w w') : ZAns w 0 E (.returned (.tuple #[.agg #[.bool false, .slice none 0 0], .int .i64 E])) w' :=
  ⟨none, 0, 0, rfl, by rw [show (0 : Int).natAbs = 0 from rfl, limbs_zero]; exact own_nil _ _, h⟩
end Go.Proofs.YtbldimplddiheaaGreatDoor

/- A whole number that came in, opened. -/
namespace Go.Proofs.YtbldimplddiheaaGreatDoor
open Go.RowKit Go.Shelf Go.ChangeShapes Go.WideShapes
set_option linter.unusedVariables false

theorem zcells : Tryz.prog.cellsOf 25 = 2 := by kernel_rfl
set_option maxRecDepth 100000 in
theorem open_z {H : Type} {enc : TypeId × Value → H} {W : World} {base b0 : Nat} {held : Bool} {r : Reach} {v : Value} {d : DataW H} {ps : List MemPlace}
    (hv : Value.okWide Tryz.prog W r b0 25 v) (h : DataW.Trod enc Tryz.prog W base (fun _ => true) held 25 v d ps) :
    ∃ s a len cap l, v = .agg #[.bool s, .slice a len cap] ∧ Rd W a len l ∧ len ≤ cap ∧ cap ≤ 9223372036854775807 := by
  obtain ⟨c0, c1, y0, y1, m, rfl, rfl, rfl, hy0, hy1⟩ := Go.Joins.open_agg2 Tryz.underlying25 (by kernel_rfl) zcells hv h
  obtain ⟨s, e0, _⟩ := DataW.trod_bool Tryz.underlying4 hy0
  obtain ⟨a, l, c, e1⟩ := Go.Joins.slice_form Tryz.underlying23 hy1
  simp at e0 e1
  subst e0 e1
  have hrow : (a = none ∧ l = 0 ∧ c = 0 ∧ ∃ zs : List Int, zs = []) ∨ ∃ zs : List Int, ∃ x, a = some x ∧ l ≤ c ∧ c ≤ maxLen ∧ zs.length = c ∧ (∀ i, i < zs.length → W.cell? (x.add i) = some (.int .u64 (zs.getD i 0))) ∧ ∀ n ∈ zs, (Lit.int .u64 n).wf = true := by
    rcases open_ints Tryz.underlying23 Tryz.underlying63 (by kernel_rfl) hy1 with ⟨hcs, _⟩ | ⟨x, l', c', zs, hcs, _, hl, hm, hz, _, hcell, hwz⟩
    · simp at hcs
      obtain ⟨rfl, rfl, rfl⟩ := hcs
      exact .inl ⟨rfl, rfl, rfl, [], rfl⟩
    · simp at hcs
      obtain ⟨rfl, rfl, rfl⟩ := hcs
      exact .inr ⟨zs, _, rfl, hl, hm, by simpa using hz, hcell, hwz⟩
  rcases hrow with ⟨h1, h2, h3, zs, h4⟩ | ⟨zs, hx⟩
  · obtain ⟨⟨L, hL⟩, k1, k2⟩ := rd_of_row (w := W) (a := a) (len := l) (cap := c) (zs := zs) (.inl ⟨h1, h2, h3, h4⟩)
    exact ⟨s, a, l, c, L, rfl, hL, k1, k2⟩
  · obtain ⟨⟨L, hL⟩, k1, k2⟩ := rd_of_row (w := W) (a := a) (len := l) (cap := c) (zs := zs) (.inr hx)
    exact ⟨s, a, l, c, L, rfl, hL, k1, k2⟩
end Go.Proofs.YtbldimplddiheaaGreatDoor
