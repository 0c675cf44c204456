import Derived.Test.YtbldimplddiheaaKRefText
import Derived.Test.YtbldimplddiheaaKRefParse
import Derived.Test.YtbldimplddiheaaKGSpec
/- GTexts. -/
/- What Text and Parse are; the law GcdTexts: digits to ten are the document's. -/
namespace Go.Proofs.Ytbldimplddiheaa
open Go.RowKit Go.Shelf
set_option linter.unusedVariables false
set_option linter.unusedSimpArgs false

def TextIs (F : Nat) : Prop := ∀ (A : Option Addr) (na ca : Nat) (a : List Nat) (w : World), Rd w A na a → na ≤ 5000 → (na ≤ ca ∧ ca ≤ 9223372036854775807) →
  Calls Try.prog F #[.slice A na ca] w fun e w' => e = .returned (.tuple #[.string (textS a), .int .i64 (textE a)]) ∧ Below w.heap.size w w'
def ParseIs (F : Nat) : Prop := ∀ (s : ByteArray) (w : World), s.size ≤ 70000 → Calls Try.prog F #[.string s] w (Answers w (parseL s) (parseE s))
theorem parse_len (s : ByteArray) : (parseL s).length ≤ 300 := by
  by_cases h : parseE s = 0
  · rw [parseL_ok h]
    by_cases h2 : 4096 < s.size
    · rw [parseE_long h2] at h; exact absurd h (by decide)
    · cases hk : okL s.data.toList with
      | false => rw [parseE_bad (by omega) hk] at h; exact absurd h (by decide)
      | true =>
        have h3 : s.data.toList.all isD = true := by
          unfold okL at hk
          simp only [Bool.and_eq_true] at hk
          exact hk.2
        have h4 := limbs_length_le (num_lt_bits h3 (n := 4096) (by rw [size_list]; omega))
        omega
  · rw [parseL_no h]; simp

section
variable (A : Option Addr) (na ca : Nat) (a : List Nat) (s : ByteArray) (w : World)
end
end Go.Proofs.Ytbldimplddiheaa
