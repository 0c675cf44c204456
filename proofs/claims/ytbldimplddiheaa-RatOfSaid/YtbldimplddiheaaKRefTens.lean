import Derived.Test.YtbldimplddiheaaKDigits
import Derived.Test.YtbldimplddiheaaKDivSpec
import Derived.Test.YtbldimplddiheaaKRefGcd
import Derived.Laws.Concat
import Derived.Lib.Strings
/- RefTens. -/
/- The document's Tens, Text. -/
namespace Go.Proofs.Ytbldimplddiheaa
open Go.RowKit Go.Shelf
set_option linter.unusedVariables false
set_option linter.unusedSimpArgs false

theorem ten10_val : val [10] = 10 := by simp [val]
theorem ten_lt64 : 10 < B64 := by rw [B64_eq]; omega
theorem rd_new10 (w : World) (T : TypeId) : Rd (w.alloc (.cells #[.int .u64 10] T)) (some ⟨w.heap.size, 0, none⟩) 1 [10] := rd_new1 w 10 T ten_lt64
theorem word_small {d : Nat} (h : d < B64) : wordV (limbs d) = d ∧ wordE (limbs d) = 0 := by
  have hl : (limbs d).length ≤ 1 := limbs_length_le (by simpa using h)
  have h2 : lim (limbs d) 0 = d := by
    by_cases h0 : d = 0
    · subst h0; rw [limbs_zero]; rfl
    · rw [limbs_pos h0, Nat.mod_eq_of_lt h]; rfl
  unfold wordV wordE
  rw [if_pos ⟨may_limbs d, hl⟩, if_pos (may_limbs d), if_pos hl]
  exact ⟨h2, rfl⟩
theorem digits_at : ∀ d : Fin 10, (([48, 49, 50, 51, 52, 53, 54, 55, 56, 57] : List UInt8).drop d.val).take 1 = [dig d.val] := by decide
theorem dig_ext {d : Nat} (h : d < 10) (l : List UInt8) : (⟨#[48, 49, 50, 51, 52, 53, 54, 55, 56, 57]⟩ : ByteArray).extract d (d + 1) ++ ⟨l.toArray⟩ = ⟨(dig d :: l).toArray⟩ := by
  have h1 := digits_at ⟨d, h⟩
  rw [Lib.extract_eq, show d + 1 - d = 1 by omega]
  have h2 : ((⟨#[48, 49, 50, 51, 52, 53, 54, 55, 56, 57]⟩ : ByteArray).data.toList.drop d).take 1 = [dig d] := h1
  rw [h2, ByteArray.mk_append_mk]
  rfl

section
variable (A A2 : Option Addr) (na ca nb cb v u : Nat) (w : World)

end
end Go.Proofs.Ytbldimplddiheaa
