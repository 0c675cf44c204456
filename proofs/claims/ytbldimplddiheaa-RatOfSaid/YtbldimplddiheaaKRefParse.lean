import Derived.Test.YtbldimplddiheaaKRefTens
import Derived.Test.YtbldimplddiheaaKTimes
/- RefParse. -/
/- The document's Parse. -/
namespace Go.Proofs.Ytbldimplddiheaa
open Go.RowKit Go.Shelf
set_option linter.unusedVariables false
set_option linter.unusedSimpArgs false

def parseE (s : ByteArray) : Int := if 4096 < s.size then 3 else if okL s.data.toList then 0 else 8
def parseL (s : ByteArray) : List Nat := if parseE s = 0 then limbs (numV s.data.toList) else []
theorem parseE_long {s : ByteArray} (h : 4096 < s.size) : parseE s = 3 := by simp [parseE, h]
theorem parseE_ok {s : ByteArray} (h : s.size ≤ 4096) (h2 : okL s.data.toList = true) : parseE s = 0 := by simp [parseE, h2]; omega
theorem parseE_bad {s : ByteArray} (h : s.size ≤ 4096) (h2 : okL s.data.toList = false) : parseE s = 8 := by simp [parseE, h2]; omega
theorem parseL_ok {s : ByteArray} (h : parseE s = 0) : parseL s = limbs (numV s.data.toList) := by simp [parseL, h]
theorem parseL_no {s : ByteArray} (h : parseE s ≠ 0) : parseL s = [] := by simp [parseL, h]
theorem take_snoc (s : ByteArray) (k : Nat) (h : k < s.size) : s.data.toList.take (k + 1) = s.data.toList.take k ++ [s[k]] := by
  rw [List.take_succ_eq_append_getElem (by simpa using h)]; rfl
theorem size_list (s : ByteArray) : s.data.toList.length = s.size := by simp
theorem num_step {s : ByteArray} {k : Nat} (h : k < s.size) : numV (s.data.toList.take (k + 1)) = numV (s.data.toList.take k) * 10 + (s[k].toNat - 48) := by
  rw [take_snoc s k h, numV_snoc]
theorem all_step {s : ByteArray} {k : Nat} (h : k < s.size) : (s.data.toList.take (k + 1)).all isD = ((s.data.toList.take k).all isD && isD s[k]) := by
  rw [take_snoc s k h, List.all_append]; simp
theorem all_bad {s : ByteArray} {k : Nat} (h : k < s.size) (h2 : isD s[k] = false) : okL s.data.toList = false := by
  have h3 : s.data.toList.all isD = false := by
    rw [List.all_eq_false]
    exact ⟨s[k], Array.mem_toList_iff.2 (Array.getElem_mem (xs := s.data) h), by simp [h2]⟩
  simp [okL, h3]
theorem num_lt_bits {l : List UInt8} (h : l.all isD = true) {n : Nat} (hn : l.length ≤ n) : numV l < B64 ^ (n / 16 + 1) := by
  have h1 := num_lt l h
  have h2 : (10 : Nat) ^ l.length ≤ 16 ^ l.length := Nat.pow_le_pow_left (by omega) _
  have h3 : (16 : Nat) ^ l.length ≤ 16 ^ (16 * (n / 16 + 1)) := Nat.pow_le_pow_right (by omega) (by omega)
  have h4 : (16 : Nat) ^ (16 * (n / 16 + 1)) = B64 ^ (n / 16 + 1) := by rw [Nat.pow_mul]; rfl
  omega
theorem len_ten {l : List UInt8} (h : l.all isD = true) {n : Nat} (hn : l.length ≤ n) : (limbs (numV l * 10)).length ≤ n / 16 + 2 := by
  refine limbs_length_le ?_
  have h1 := num_lt_bits h hn
  have h2 : B64 ^ (n / 16 + 2) = B64 ^ (n / 16 + 1) * B64 := Nat.pow_succ ..
  have h3 : numV l * 10 < B64 ^ (n / 16 + 1) * 10 := by omega
  have h4 : B64 ^ (n / 16 + 1) * 10 ≤ B64 ^ (n / 16 + 1) * B64 := Nat.mul_le_mul_left _ (by rw [B64_eq]; omega)
  omega
/-- A text's first byte is a nought, and there are more. -/
def nought (s : ByteArray) : Prop := s.data.toList.head? = some 48 ∧ 1 < s.size
theorem ok_iff {s : ByteArray} (h : s.data.toList ≠ []) (h2 : ¬ nought s) : okL s.data.toList = s.data.toList.all isD := by
  unfold nought at h2
  unfold okL
  have e : (s.data.toList.head? != some 48 || s.data.toList.length == 1) = true := by
    by_cases h3 : s.data.toList.head? = some 48
    · have h4 : ¬ 1 < s.size := fun x => h2 ⟨h3, x⟩
      have h5 : s.data.toList.length ≠ 0 := fun x => h (List.eq_nil_of_length_eq_zero x)
      have h6 := size_list s
      have h7 : s.data.toList.length = 1 := by omega
      rw [h7]; simp
    · simp [h3]
  rw [e, List.isEmpty_eq_false_iff.2 h]
  rfl
theorem ok_nought {s : ByteArray} (h : nought s) : okL s.data.toList = false := by
  obtain ⟨h1, h2⟩ := h
  have h6 := size_list s
  have h7 : (s.data.toList.length == 1) = false := by simp; omega
  unfold okL
  rw [h1, h7]; simp
theorem head_zero {s : ByteArray} (h : 0 < s.size) : s.data.toList.head? = some s[0] := by
  rw [List.head?_eq_getElem?, List.getElem?_eq_getElem (by simpa using h)]; rfl

section
variable (s : ByteArray) (w : World)
end
end Go.Proofs.Ytbldimplddiheaa
