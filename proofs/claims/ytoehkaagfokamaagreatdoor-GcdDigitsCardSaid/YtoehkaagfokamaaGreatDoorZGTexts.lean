import Derived.Test.YtoehkaagfokamaaGreatDoorZRefText
import Derived.Test.YtoehkaagfokamaaGreatDoorZRefParse
import Derived.Test.YtoehkaagfokamaaGreatDoorZGSpec
/- GTexts. -/
/- What Text and Parse are; the law GcdTexts: digits to ten are the document's. -/
namespace Go.Proofs.YtoehkaagfokamaaGreatDoor
open Go.RowKit Go.Shelf
set_option linter.unusedVariables false
set_option linter.unusedSimpArgs false

def TextIs (F : Nat) : Prop := ∀ (A : Option Addr) (na ca : Nat) (a : List Nat) (w : World), Rd w A na a → na ≤ 5000 → (na ≤ ca ∧ ca ≤ 9223372036854775807) →
  Calls Tryz.prog F #[.slice A na ca] w fun e w' => e = .returned (.tuple #[.string (textS a), .int .i64 (textE a)]) ∧ Below w.heap.size w w'
def ParseIs (F : Nat) : Prop := ∀ (s : ByteArray) (w : World), s.size ≤ 70000 → Calls Tryz.prog F #[.string s] w (Answers w (parseL s) (parseE s))
theorem parse_len (s : ByteArray) : (parseL s).length ≤ 300 := by
  by_cases h : parseE s = 0
  · rw [parseL_ok h]
    by_cases h2 : 4096 < s.size
    · rw [parseE_long h2] at h; exact absurd h (by decide)
    · cases hk : okL s.data.toList with
      | false => rw [parseE_bad (by omega) hk] at h; exact absurd h (by decide)
      | true =>
        have h3 : s.data.toList.all isD = true := by
          unfold okL at hk
          simp only [Bool.and_eq_true] at hk
          exact hk.2
        have h4 := limbs_length_le (num_lt_bits h3 (n := 4096) (by rw [size_list]; omega))
        omega
  · rw [parseL_no h]; simp

section
variable (A : Option Addr) (na ca : Nat) (a : List Nat) (s : ByteArray) (w : World)
set_option maxRecDepth 100000 in
set_option maxHeartbeats 2500000 in
theorem gcdTexts_long (hb : (4 < na ∧ na ≤ 300) ∨ 5000 < na ∨ (80 < s.size ∧ s.size ≤ 4096) ∨ 70000 < s.size) (h1 : na ≤ 9223372036854775807) (h2 : s.size ≤ 9223372036854775807) :
    Calls Tryz.prog 4 #[.slice A na ca, .string s] w fun e w' => e = .returned (.bool true) ∧ Below w.heap.size w w' := by
  go_enter Tryz.func4, Tryz.ntmps4
  go_wp2_with fail
  all_goals first
    | (exfalso; omega)
    | (go_ret; exact ⟨rfl, Below.refl _ _⟩)

set_option maxRecDepth 100000 in
set_option maxHeartbeats 3000000 in
theorem gcdTexts_short (hT : TextIs 6) (hP : ParseIs 7) (hra : Rd w A na a) (q1 : na ≤ ca ∧ ca ≤ 9223372036854775807) (hb : ¬ ((4 < na ∧ na ≤ 300) ∨ 5000 < na ∨ (80 < s.size ∧ s.size ≤ 4096) ∨ 70000 < s.size)) :
    Calls Tryz.prog 4 #[.slice A na ca, .string s] w fun e w' => e = .returned (.bool true) ∧ Below w.heap.size w w' := by
  have g1 : ¬ (4 < na ∧ na ≤ 300) := fun h => hb (.inl h)
  have g2 : na ≤ 5000 := by omega
  have g4 : s.size ≤ 70000 := by omega
  have HPL := Lib.hid (parse_len s)
  go_enter Tryz.func4, Tryz.ntmps4
  go_wp2_with fail
  all_goals
    refine (hT A na ca a _ hra g2 q1).mono ?_
    rintro e w1 ⟨rfl, hb1⟩
    replace hra := hra.below hb1
    go_wp2_with fail
    refine (rText_any A na ca a _ hra g2 q1.1 q1.2).mono ?_
    rintro e w2 ⟨rfl, hb2⟩
    replace hb2 := below_then hb1 hb2
    clear hb1 hra
    go_wp2_with fail
    refine (hP s _ g4).mono ?_
    rintro e w3 ⟨A3, n3, c3, rfl, o3, hb3⟩
    have r3 := o3.rd.1
    have l3 : n3 ≤ 300 := by have h1 := o3.rd.2.1; have h2 := HPL.out; omega
    replace hb3 := below_then hb2 hb3
    clear hb2 o3
    go_wp2_with fail
    refine (rParse_any s _ (by omega)).mono ?_
    rintro e w4 ⟨A4, n4, c4, rfl, o4, hb4⟩
    have r4 := o4.rd.1
    have l4 : n4 ≤ 300 := by have h1 := o4.rd.2.1; have h2 := HPL.out; omega
    replace r3 := r3.below hb4
    replace hb4 := below_then hb3 hb4
    clear hb3 o4
    go_wp2_with fail
    refine (same_any _ _ _ _ _ _ (parseL s) (parseL s) _ r3 r4 (by omega) (by omega)).mono ?_
    rw [decide_eq_true (show parseL s = parseL s from rfl)]
    rintro e w5 ⟨rfl, hb5⟩
    replace hb5 := below_then hb4 hb5
    clear hb4
    go_wp2_with fail
    go_ret
    exact ⟨rfl, hb5⟩

theorem gcdTexts_any (hT : TextIs 6) (hP : ParseIs 7) (hra : Rd w A na a) (q1 : na ≤ ca ∧ ca ≤ 9223372036854775807) (hs : s.size ≤ 9223372036854775807) :
    Calls Tryz.prog 4 #[.slice A na ca, .string s] w fun e w' => e = .returned (.bool true) ∧ Below w.heap.size w w' := by
  by_cases h : (4 < na ∧ na ≤ 300) ∨ 5000 < na ∨ (80 < s.size ∧ s.size ≤ 4096) ∨ 70000 < s.size
  · exact gcdTexts_long A na ca s w h (by omega) hs
  · exact gcdTexts_short A na ca a s w hT hP hra q1 h
end
end Go.Proofs.YtoehkaagfokamaaGreatDoor
