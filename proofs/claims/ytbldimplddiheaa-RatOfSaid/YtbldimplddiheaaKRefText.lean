import Derived.Test.YtbldimplddiheaaKRefTens
/- RefText. -/
/- The document's Text. -/
namespace Go.Proofs.Ytbldimplddiheaa
open Go.RowKit Go.Shelf
set_option linter.unusedVariables false
set_option linter.unusedSimpArgs false

/-- The error of Text of a number, and the text. -/
def textE (a : List Nat) : Int := if may a then (if (textL (val a)).length ≤ 4096 then 0 else 4) else 8
def textS (a : List Nat) : ByteArray := if textE a = 0 then textB (val a) else ⟨#[]⟩
theorem textE_bad {a : List Nat} (h : may a = false) : textE a = 8 := by simp [textE, h]
theorem textE_many {a : List Nat} (h : may a = true) (h2 : ¬ (textL (val a)).length ≤ 4096) : textE a = 4 := by simp [textE, h, h2]
theorem textE_ok {a : List Nat} (h : may a = true) (h2 : (textL (val a)).length ≤ 4096) : textE a = 0 := by simp [textE, h, h2]
theorem textS_ok {a : List Nat} (h : textE a = 0) : textS a = textB (val a) := by simp [textS, h]
theorem textS_no {a : List Nat} (h : textE a ≠ 0) : textS a = ⟨#[]⟩ := by simp [textS, h]
theorem text_blen {n k : Nat} (h : (textL n).length ≤ k) : blen n ≤ 4 * k := blen_le (text_bits h)
theorem Nm.blen {w : World} {A : Option Addr} {n c v : Nat} (h : Nm w A n c v) : n ≤ Go.Proofs.Ytbldimplddiheaa.blen v / 64 + 1 := by
  refine h.len ?_
  rw [B64_pow]
  exact Nat.lt_of_lt_of_le (blen_lt v) (Nat.pow_le_pow_right (by omega) (by omega))
theorem textB_size (n : Nat) : (textB n).size = (textL n).length := by simp [textB, ByteArray.size]

section
variable (A : Option Addr) (na ca : Nat) (a : List Nat) (w : World)
end
end Go.Proofs.Ytbldimplddiheaa
