import Derived.Test.YtgiokmfdafmaoaaGreatJRefDiv
import Derived.Test.YtgiokmfdafmaoaaGreatJTimes
import Derived.Test.YtgiokmfdafmaoaaGreatJMSpec
/- DivSpec. -/
/- What div's calls and the document answer: quotients, what is left over, errors. -/
namespace Go.Proofs.YtgiokmfdafmaoaaGreat
open Go.RowKit Go.Shelf
set_option linter.unusedVariables false
set_option linter.unusedSimpArgs false

def divE (a b : List Nat) : Int := if both a b = true then (if b = [] then 30 else 0) else 8
def quoL (a b : List Nat) : List Nat := if divE a b = 0 then limbs (val a / val b) else []
def remL (a b : List Nat) : List Nat := if divE a b = 0 then limbs (val a % val b) else []
def exactE (a b : List Nat) : Int := if divE a b = 0 then (if val a % val b = 0 then 0 else 6) else divE a b
def exactL (a b : List Nat) : List Nat := if exactE a b = 0 then limbs (val a / val b) else []

/-- A call has answered the numbers Q and R, each of its own, and the error's number E. -/
def Answers2 (w : World) (Q R : List Nat) (E : Int) (e : Ending) (w' : World) : Prop :=
  ∃ A k c A2 k2 c2, e = .returned (.tuple #[.slice A k c, .slice A2 k2 c2, .int .i64 E]) ∧ Own w' w.heap.size (.slice A k c) Q ∧ Own w' w.heap.size (.slice A2 k2 c2) R ∧ Below w.heap.size w w'
theorem answers2_nil {w w' : World} {E : Int} (h : Below w.heap.size w w') : Answers2 w [] [] E (.returned (.tuple #[.slice none 0 0, .slice none 0 0, .int .i64 E])) w' :=
  ⟨none, 0, 0, none, 0, 0, rfl, own_nil _ _, own_nil _ _, h⟩

/-- A call that is Div, or Long. -/
def DivIs (F : Nat) : Prop := ∀ (A A2 : Option Addr) (na ca nb cb : Nat) (a b : List Nat) (w : World), Rd w A na a → Rd w A2 nb b → na ≤ 1000 → nb ≤ 1000 → (na ≤ ca ∧ ca ≤ 9223372036854775807) → (nb ≤ cb ∧ cb ≤ 9223372036854775807) →
  Calls Tryz.prog F #[.slice A na ca, .slice A2 nb cb] w (Answers2 w (quoL a b) (remL a b) (divE a b))
/-- A call that is Word. -/
def WordIs (F : Nat) : Prop := ∀ (A : Option Addr) (na ca : Nat) (a : List Nat) (x : Nat) (w : World), Rd w A na a → x < B64 → na ≤ 1000 → (na ≤ ca ∧ ca ≤ 9223372036854775807) →
  Calls Tryz.prog F #[.slice A na ca, .int .u64 (x : Int)] w fun e w' => ∃ A' k c, e = .returned (.tuple #[.slice A' k c, .int .u64 ((val (remL a (limbs x)) : Nat) : Int), .int .i64 (divE a (limbs x))]) ∧ Own w' w.heap.size (.slice A' k c) (quoL a (limbs x)) ∧ Below w.heap.size w w'
/-- A call that is Exact. -/
def ExactIs (F : Nat) : Prop := ∀ (A A2 : Option Addr) (na ca nb cb : Nat) (a b : List Nat) (w : World), Rd w A na a → Rd w A2 nb b → na ≤ 1000 → nb ≤ 1000 → (na ≤ ca ∧ ca ≤ 9223372036854775807) → (nb ≤ cb ∧ cb ≤ 9223372036854775807) →
  Calls Tryz.prog F #[.slice A na ca, .slice A2 nb cb] w (Answers w (exactL a b) (exactE a b))

section
variable {a b : List Nat}
theorem divE_ok (ha : may a = true) (hb : may b = true) (h : b ≠ []) : divE a b = 0 := by simp [divE, both, ha, hb, h]
theorem divE_zero (ha : may a = true) : divE a [] = 30 := by simp [divE, both, ha, show may [] = true from rfl]
theorem divE_bad (h : both a b = false) : divE a b = 8 := by simp [divE, h]
theorem divE_cases (a b : List Nat) : (divE a b = 0 ∧ may a = true ∧ may b = true ∧ b ≠ []) ∨ (divE a b = 30 ∧ may a = true ∧ b = []) ∨ (divE a b = 8 ∧ both a b = false) := by
  unfold divE
  cases h : both a b with
  | false => simp
  | true =>
    have hm : may a = true ∧ may b = true := by simpa [both] using h
    by_cases hb : b = []
    · subst hb; simp [hm.1]
    · simp [hb, hm.1, hm.2]
theorem quoL_ok (h : divE a b = 0) : quoL a b = limbs (val a / val b) := by simp [quoL, h]
theorem remL_ok (h : divE a b = 0) : remL a b = limbs (val a % val b) := by simp [remL, h]
theorem quoL_no (h : divE a b ≠ 0) : quoL a b = [] := by simp [quoL, h]
theorem remL_no (h : divE a b ≠ 0) : remL a b = [] := by simp [remL, h]
theorem quo_len (hw : Words a) : (quoL a b).length ≤ a.length := by
  unfold quoL
  split
  · exact length_of_le hw (Nat.div_le_self _ _)
  · simp
theorem rem_len (hw : Words a) : (remL a b).length ≤ a.length := by
  unfold remL
  split
  · exact length_of_le hw (Nat.mod_le _ _)
  · simp
end

theorem one_limb {a : List Nat} (h : a.length = 1) : ∃ x, a = [x] := by
  match a, h with
  | [x], _ => exact ⟨x, rfl⟩
theorem int_ne1 {n : Nat} (h : n ≠ 1) : ((n : Int) == 1) = false := by simp; omega

section
variable (A A2 : Option Addr) (na ca nb cb : Nat) (a b : List Nat) (w : World)
/-- The document's Over. -/
theorem over_any (hra : Rd w A na a) (hrb : Rd w A2 nb b) (hna : na ≤ 900) (hnb : nb ≤ 900) (hm : may b = true) (hb : b ≠ []) :
    Calls Tryz.prog 79 #[.slice A na ca, .slice A2 nb cb] w fun e w' => ∃ A' k c A3 k3 c3, e = .returned (.tuple #[.slice A' k c, .slice A3 k3 c3]) ∧ Own w' w.heap.size (.slice A' k c) (limbs (val a / val b)) ∧ Own w' w.heap.size (.slice A3 k3 c3) (limbs (val a % val b)) ∧ Below w.heap.size w w' := by
  by_cases h : na = 1 ∧ nb = 1
  · obtain ⟨rfl, rfl⟩ := h
    obtain ⟨x, rfl⟩ := one_limb hra.len
    obtain ⟨y, rfl⟩ := one_limb hrb.len
    have hy : y ≠ 0 := by simpa [may] using hm
    have e1 : val [x] = x := by simp [val]
    have e2 : val [y] = y := by simp [val]
    rw [e1, e2]
    exact over_word A A2 ca cb w x y hra hrb hy
  · have hb0 : 0 < val b := val_pos hm hb
    rw [← limbs_val hrb.words hm] at hrb
    refine over_bits A A2 na ca nb cb a (val b) w hra hrb hna hnb hb0 ?_
    by_cases h1 : na = 1
    · right
      exact ⟨by rw [h1]; rfl, int_ne1 (fun h2 => h ⟨h1, h2⟩)⟩
    · left
      exact int_ne1 h1

end
end Go.Proofs.YtgiokmfdafmaoaaGreat
