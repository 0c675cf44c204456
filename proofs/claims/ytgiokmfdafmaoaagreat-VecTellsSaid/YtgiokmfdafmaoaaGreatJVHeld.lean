import Derived.Test.YtgiokmfdafmaoaaGreatJVVal
import Derived.Test.YtgiokmfdafmaoaaGreatJVApp
/- VHeld. -/
/- What calls of rows are handed, and what they answer; what a law holds. -/
namespace Go.Proofs.YtgiokmfdafmaoaaGreat
open Go.RowKit Go.Shelf
set_option linter.unusedVariables false
set_option linter.unusedSimpArgs false

/-- May a row be? -/
def mayR (L : List ZE) : Bool := mayV L && decide (L.length ≤ 64)
/-- The error of two rows. -/
def twoVE (L M : List ZE) : Int := if mayR L && mayR M then (if L.length = M.length then 0 else 70) else 8
/-- What a call of one row is handed. -/
structure V1 (w : World) (A : Option Addr) (n c : Nat) (L : List ZE) : Prop where
  rd : RdV w A n L
  c1 : n ≤ c
  c2 : c ≤ 9223372036854775807
  few : n ≤ 1000
  small : ∀ e, e ∈ L → e.n ≤ 60
  nil0 : ∀ e, e ∈ L → e.A = none → e.n = 0 ∧ e.c = 0
theorem V1.below {w w' : World} {A : Option Addr} {n c : Nat} {L : List ZE} (h : V1 w A n c L) (hb : Below w.heap.size w w') : V1 w' A n c L := ⟨h.rd.below hb, h.c1, h.c2, h.few, h.small, h.nil0⟩
theorem V1.words {w : World} {A : Option Addr} {n c : Nat} {L : List ZE} (h : V1 w A n c L) : ∀ e, e ∈ L → Words e.l := fun e he => (h.rd.ok e he).r.words
theorem V1.isv {w : World} {A : Option Addr} {n c : Nat} {L : List ZE} (h : V1 w A n c L) (hm : mayR L = true) : IsV L n (zat L) := by
  unfold mayR at hm
  rw [Bool.and_eq_true] at hm
  have h1 := isv_may hm.1 h.words
  rw [h.rd.len] at h1
  exact h1
/-- A row of the call's own that is the first n values of f. -/
structure NewV (w : World) (B : Nat) (A : Option Addr) (n c : Nat) (L : List ZE) (f : Nat → Int) : Prop where
  o : OwnV w B A n c L
  v : IsV L n f
theorem NewV.below {w w' : World} {B : Nat} {A : Option Addr} {n c : Nat} {L : List ZE} {f : Nat → Int} (h : NewV w B A n c L f) (hb : Below w.heap.size w w') : NewV w' B A n c L f := ⟨h.o.below hb, h.v⟩
theorem newv_nil (w : World) (B : Nat) (f : Nat → Int) : NewV w B none 0 0 [] f := ⟨ownv_nil w B, isv_nil f⟩
/-- A call answered the row of f's first n values, in new memory, and the error 0; or none and E. -/
def VAns (w : World) (ok : Bool) (n : Nat) (f : Nat → Int) (E : Int) (e : Ending) (w' : World) : Prop :=
  if ok then (∃ A c L, e = .returned (.tuple #[.slice A n c, .int .i64 0]) ∧ NewV w' w.heap.size A n c L f ∧ Below w.heap.size w w')
  else e = .returned (.tuple #[.slice none 0 0, .int .i64 E]) ∧ Below w.heap.size w w'
/-- How long a row's numbers may be. -/
def BdV (k n : Nat) (f : Nat → Int) : Prop := ∀ i, i < n → Bd k (f i)
theorem NewV.v1 {w : World} {B k : Nat} {A : Option Addr} {n c : Nat} {L : List ZE} {f : Nat → Int} (h : NewV w B A n c L f) (hb : BdV k n f) (hk : k ≤ 60) (hn : n ≤ 1000) : V1 w A n c L := by
  refine ⟨h.o.rd, h.o.cap.1, h.o.cap.2, hn, fun e he => ?_, fun e he => own_none (h.o.el e he)⟩
  obtain ⟨i, hi⟩ := List.getElem?_of_mem he
  have h1 := h.v.num i e hi
  have hi2 : i < n := by rw [← h.v.len]; exact (List.getElem?_eq_some_iff.1 hi).1
  have h2 := (h.o.el e he)
  rw [h1.2] at h2
  have h3 := (hb i hi2).len h2
  omega
theorem newv_may {L : List ZE} {n : Nat} {f : Nat → Int} (h : IsV L n f) (hn : n ≤ 64) : mayR L = true := by
  unfold mayR
  rw [Bool.and_eq_true]
  refine ⟨mayV_yes h.len fun k e hk he => ?_, by rw [h.len]; exact decide_eq_true hn⟩
  have h1 := h.num k e he
  rw [h1.1, h1.2]
  exact mayZ_num _
theorem newv_zat {L : List ZE} {n : Nat} {f : Nat → Int} (h : IsV L n f) : ∀ i, i < n → zat L i = f i := fun i hi => h.zat hi

/-- Calls of rows. -/
def CheckVIs (F : Nat) : Prop := ∀ (A : Option Addr) (n c : Nat) (L : List ZE) (w : World), V1 w A n c L →
  Calls Tryz.prog F #[.slice A n c] w fun e w' => e = .returned (.int .i64 (if mayR L then 0 else 8)) ∧ Below w.heap.size w w'
def DotIs (F : Nat) : Prop := ∀ (A A2 : Option Addr) (n c m d : Nat) (L M : List ZE) (w : World), V1 w A n c L → V1 w A2 m d M →
  Calls Tryz.prog F #[.slice A n c, .slice A2 m d] w (ZAns w (if twoVE L M = 0 then sumTo (fun i => zat L i * zat M i) n else 0) (twoVE L M))
def AddVIs (F : Nat) : Prop := ∀ (A A2 : Option Addr) (n c m d : Nat) (L M : List ZE) (w : World), V1 w A n c L → V1 w A2 m d M →
  Calls Tryz.prog F #[.slice A n c, .slice A2 m d] w (VAns w (decide (twoVE L M = 0)) n (fun i => zat L i + zat M i) (twoVE L M))
def ScaleIs (F : Nat) : Prop := ∀ (A B : Option Addr) (n c nb cb : Nat) (p : Bool) (b : List Nat) (L : List ZE) (w : World), V1 w A n c L → Z1 w B nb cb b → nb ≤ 60 →
  Calls Tryz.prog F #[.slice A n c, zv p B nb cb] w (VAns w (mayR L && mayZ p b) n (fun i => zat L i * zof p b) 8)
def MixIs (F : Nat) : Prop := ∀ (A A2 B B2 : Option Addr) (n c m d na ca nb cb : Nat) (p q : Bool) (a b : List Nat) (L M : List ZE) (w : World), V1 w A n c L → V1 w A2 m d M → Z1 w B na ca a → Z1 w B2 nb cb b → na ≤ 60 → nb ≤ 60 →
  Calls Tryz.prog F #[zv p B na ca, .slice A n c, zv q B2 nb cb, .slice A2 m d] w (VAns w (mayZ p a && mayZ q b && decide (twoVE L M = 0)) n (fun i => zof p a * zat L i + zof q b * zat M i) (if mayZ p a && mayZ q b then twoVE L M else 8))
def ContentIs (F : Nat) : Prop := ∀ (A : Option Addr) (n c : Nat) (L : List ZE) (w : World), V1 w A n c L →
  Calls Tryz.prog F #[.slice A n c] w (Answers w (if mayR L then limbs (gcdTo (zat L) n) else []) (if mayR L then 0 else 8))
/-- A row in lowest terms. -/
def primeV (f : Nat → Int) (n i : Nat) : Int := if gcdTo f n = 0 then f i else Int.tdiv (f i) (gcdTo f n : Int)
def PrimeIs (F : Nat) : Prop := ∀ (A : Option Addr) (n c : Nat) (L : List ZE) (w : World), V1 w A n c L →
  Calls Tryz.prog F #[.slice A n c] w (VAns w (mayR L) n (primeV (zat L) n) 8)
def CmpVIs (F : Nat) : Prop := ∀ (A A2 : Option Addr) (n c m d : Nat) (L M : List ZE) (w : World), V1 w A n c L → V1 w A2 m d M →
  Calls Tryz.prog F #[.slice A n c, .slice A2 m d] w (IAns w (if twoVE L M = 0 then firstTo (fun i => sgn (zat L i - zat M i)) n else 0) (twoVE L M))
/-- Are all numbers 0, as they lie there? -/
def noughts (L : List ZE) : Bool := L.all fun e => !e.p && e.l.isEmpty
def ZeroIs (F : Nat) : Prop := ∀ (A : Option Addr) (n c : Nat) (L : List ZE) (w : World), V1 w A n c L →
  Calls Tryz.prog F #[.slice A n c] w fun e w' => e = .returned (.bool (noughts L)) ∧ Below w.heap.size w w'
def SameVIs (F : Nat) : Prop := ∀ (A A2 : Option Addr) (n c m d : Nat) (L M : List ZE) (w : World), V1 w A n c L → V1 w A2 m d M →
  Calls Tryz.prog F #[.slice A n c, .slice A2 m d] w fun e w' => e = .returned (.bool (decide (keys L = keys M))) ∧ Below w.heap.size w w'
def TwinIs (F : Nat) : Prop := ∀ (A : Option Addr) (n c : Nat) (L : List ZE) (w : World), V1 w A n c L →
  Calls Tryz.prog F #[.slice A n c] w fun e w' => ∃ A' c' M, e = .returned (.slice A' n c') ∧ OwnV w' w.heap.size A' n c' M ∧ keys M = keys L ∧ Below w.heap.size w w'
end Go.Proofs.YtgiokmfdafmaoaaGreat
