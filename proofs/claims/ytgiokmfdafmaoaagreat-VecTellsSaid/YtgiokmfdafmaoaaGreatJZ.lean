import Derived.Test.YtgiokmfdafmaoaaGreatJNum
import Derived.Test.YtgiokmfdafmaoaaGreatJDivSpec
import Derived.Test.YtgiokmfdafmaoaaGreatJRefGcd
import Derived.Laws.Concat
import Derived.Lib.Strings
import Derived.Test.YtgiokmfdafmaoaaGreatJTimes
import Derived.Test.YtgiokmfdafmaoaaGreatJGSpec
import Derived.Test.YtgiokmfdafmaoaaGreatJZMath
import Derived.Test.YtgiokmfdafmaoaaGreatJDNames
import Derived.Test.YtgiokmfdafmaoaaGreatJDLimb
/- Digits RefTens RefParse RefText GTexts Z. -/
/- Digits to ten: a number as a text, the number of a text. -/
namespace Go.Proofs.YtgiokmfdafmaoaaGreat
set_option linter.unusedVariables false

def dig (d : Nat) : UInt8 := UInt8.ofNat (48 + d)
theorem dig_nat {d : Nat} (h : d < 10) : (dig d).toNat = 48 + d := by
  unfold dig
  rw [UInt8.toNat_ofNat']
  exact Nat.mod_eq_of_lt (by omega)
/-- The digits of a number, the highest first; none for 0. -/
def tenL (n : Nat) : List UInt8 := if _h : n = 0 then [] else tenL (n / 10) ++ [dig (n % 10)]
termination_by n
decreasing_by omega
theorem tenL_zero : tenL 0 = [] := by rw [tenL]; rfl
theorem tenL_pos {n : Nat} (h : n ≠ 0) : tenL n = tenL (n / 10) ++ [dig (n % 10)] := by rw [tenL, dif_neg h]
def textL (n : Nat) : List UInt8 := if n = 0 then [48] else tenL n
def textB (n : Nat) : ByteArray := ⟨(textL n).toArray⟩
/-- The number of a text of digits. -/
def numV (l : List UInt8) : Nat := l.foldl (fun v c => v * 10 + (c.toNat - 48)) 0
def isD (c : UInt8) : Bool := decide (48 ≤ c.toNat) && decide (c.toNat ≤ 57)
def okL (l : List UInt8) : Bool := !l.isEmpty && (l.head? != some 48 || l.length == 1) && l.all isD
theorem numV_nil : numV [] = 0 := rfl
theorem numV_snoc (l : List UInt8) (c : UInt8) : numV (l ++ [c]) = numV l * 10 + (c.toNat - 48) := by
  unfold numV; rw [List.foldl_append]; rfl
theorem isD_dig {d : Nat} (h : d < 10) : isD (dig d) = true := by
  unfold isD; rw [dig_nat h]; simp; omega
theorem dig_inj {c : UInt8} (h : isD c = true) : dig (c.toNat - 48) = c := by
  unfold isD at h
  simp only [Bool.and_eq_true, decide_eq_true_eq] at h
  apply UInt8.toNat_inj.1
  rw [dig_nat (by omega)]; omega
theorem numV_ten (n : Nat) : numV (tenL n) = n := by
  induction n using Nat.strongRecOn with
  | _ n ih =>
    by_cases h : n = 0
    · subst h; rw [tenL_zero]; rfl
    · rw [tenL_pos h, numV_snoc, ih _ (by omega), dig_nat (by omega)]; omega
theorem numV_text (n : Nat) : numV (textL n) = n := by
  unfold textL
  by_cases h : n = 0
  · subst h; rfl
  · rw [if_neg h]; exact numV_ten n
theorem all_ten (n : Nat) : (tenL n).all isD = true := by
  induction n using Nat.strongRecOn with
  | _ n ih =>
    by_cases h : n = 0
    · subst h; rw [tenL_zero]; rfl
    · rw [tenL_pos h, List.all_append, ih _ (by omega)]
      simp [isD_dig (show n % 10 < 10 by omega)]
theorem ten_ne {n : Nat} (h : n ≠ 0) : tenL n ≠ [] := by rw [tenL_pos h]; simp
theorem dig_ne {d : Nat} (h : d < 10) (h0 : d ≠ 0) : dig d ≠ 48 := by
  intro e
  have := congrArg UInt8.toNat e
  rw [dig_nat h] at this
  simp at this; omega
theorem head_ten {n : Nat} (h : n ≠ 0) : (tenL n).head? ≠ some 48 := by
  induction n using Nat.strongRecOn with
  | _ n ih =>
    rw [tenL_pos h]
    by_cases h1 : n / 10 = 0
    · rw [h1, tenL_zero, List.nil_append, List.head?_cons]
      intro e
      exact dig_ne (show n % 10 < 10 by omega) (by omega) (Option.some.inj e)
    · obtain ⟨x, r, e⟩ := List.exists_cons_of_ne_nil (ten_ne h1)
      have := ih _ (by omega) h1
      rw [e] at this ⊢
      simpa using this
theorem ok_text (n : Nat) : okL (textL n) = true := by
  unfold textL
  by_cases h : n = 0
  · rw [if_pos h]; decide
  · rw [if_neg h]
    unfold okL
    have h1 := ten_ne h
    have h2 := head_ten h
    rw [all_ten]
    simp [h1, h2]
theorem ten_num {l : List UInt8} (h : l.all isD = true) (h0 : l.head? ≠ some 48) : tenL (numV l) = l := by
  induction l using snoc_ind with
  | h0 => rw [numV_nil, tenL_zero]
  | h1 l c ih =>
    rw [List.all_append, Bool.and_eq_true] at h
    have hc : isD c = true := by simpa using h.2
    have hc2 := hc
    unfold isD at hc2
    simp only [Bool.and_eq_true, decide_eq_true_eq] at hc2
    rw [numV_snoc]
    by_cases hl : l = []
    · subst hl
      have h3 : c ≠ 48 := by simpa using h0
      have h4 : c.toNat ≠ 48 := fun e => h3 (UInt8.toNat_inj.1 e)
      rw [numV_nil, Nat.zero_mul, Nat.zero_add, tenL_pos (by omega), Nat.div_eq_of_lt (by omega), tenL_zero, Nat.mod_eq_of_lt (by omega), dig_inj hc]
    · have h5 : l.head? ≠ some 48 := by
        obtain ⟨x, r, e⟩ := List.exists_cons_of_ne_nil hl
        subst e
        simpa using h0
      have e := ih h.1 h5
      have h6 : numV l ≠ 0 := fun z => by rw [z, tenL_zero] at e; exact hl e.symm
      rw [tenL_pos (by omega)]
      have e1 : (numV l * 10 + (c.toNat - 48)) / 10 = numV l := by omega
      have e2 : (numV l * 10 + (c.toNat - 48)) % 10 = c.toNat - 48 := by omega
      rw [e1, e2, e, dig_inj hc]
theorem text_num {l : List UInt8} (h : okL l = true) : textL (numV l) = l := by
  unfold okL at h
  simp only [Bool.and_eq_true, Bool.or_eq_true, bne_iff_ne, beq_iff_eq, Bool.not_eq_true', List.isEmpty_eq_false_iff] at h
  obtain ⟨⟨h1, h2⟩, h3⟩ := h
  by_cases h4 : l.head? = some 48
  · obtain ⟨x, r, e⟩ := List.exists_cons_of_ne_nil h1
    subst e
    rcases h2 with h2 | h2
    · exact absurd h4 h2
    · have hr : r = [] := by simpa using h2
      subst hr
      have hx : x = 48 := by simpa using h4
      subst hx
      decide
  · have e := ten_num h3 h4
    unfold textL
    by_cases h5 : numV l = 0
    · rw [h5, tenL_zero] at e; exact absurd e.symm h1
    · rw [if_neg h5, e]
theorem ten_lt (n : Nat) : n < 10 ^ (tenL n).length := by
  induction n using Nat.strongRecOn with
  | _ n ih =>
    by_cases h : n = 0
    · subst h; simp [tenL_zero]
    · have := ih (n / 10) (by omega)
      rw [tenL_pos h, List.length_append, List.length_singleton, Nat.pow_succ]
      omega
theorem tenL_len {n k : Nat} (h : n < 10 ^ k) : (tenL n).length ≤ k := by
  induction k generalizing n with
  | zero =>
    have : n = 0 := by simp at h; omega
    subst this; simp [tenL_zero]
  | succ k ih =>
    by_cases h0 : n = 0
    · subst h0; simp [tenL_zero]
    · rw [tenL_pos h0, List.length_append, List.length_singleton]
      have := ih (n := n / 10) (by rw [Nat.pow_succ] at h; omega)
      omega
theorem ten_bits {n k : Nat} (h : n < 2 ^ k) : (tenL n).length ≤ k := tenL_len (Nat.lt_of_lt_of_le h (Nat.pow_le_pow_left (by omega) k))
theorem text_lt (n : Nat) : n < 10 ^ (textL n).length := by
  unfold textL
  by_cases h : n = 0
  · subst h; simp
  · rw [if_neg h]; exact ten_lt n
theorem text_len {n k : Nat} (h : n < 10 ^ k) (hk : 0 < k) : (textL n).length ≤ k := by
  unfold textL
  by_cases h0 : n = 0
  · rw [if_pos h0]; exact hk
  · rw [if_neg h0]; exact tenL_len h
theorem text_bits {n k : Nat} (h : (textL n).length ≤ k) : n < 2 ^ (4 * k) := by
  have h1 := text_lt n
  have h2 : 10 ^ (textL n).length ≤ 16 ^ (textL n).length := Nat.pow_le_pow_left (by omega) _
  have h3 : 16 ^ (textL n).length ≤ 16 ^ k := Nat.pow_le_pow_right (by omega) h
  have h4 : (16 : Nat) ^ k = 2 ^ (4 * k) := by rw [Nat.pow_mul]
  omega
theorem num_lt (l : List UInt8) (h : l.all isD = true) : numV l < 10 ^ l.length := by
  induction l using snoc_ind with
  | h0 => simp [numV_nil]
  | h1 l c ih =>
    rw [List.all_append, Bool.and_eq_true] at h
    have hc : isD c = true := by simpa using h.2
    unfold isD at hc
    simp only [Bool.and_eq_true, decide_eq_true_eq] at hc
    have := ih h.1
    rw [numV_snoc, List.length_append, List.length_singleton, Nat.pow_succ]
    omega
theorem textB_list (n : Nat) : (textB n).data.toList = textL n := by simp [textB]
theorem textB_num {s : ByteArray} (h : okL s.data.toList = true) : textB (numV s.data.toList) = s := by
  unfold textB
  rw [text_num h]
end Go.Proofs.YtgiokmfdafmaoaaGreat

/- The document's Tens, Text. -/
namespace Go.Proofs.YtgiokmfdafmaoaaGreat
open Go.RowKit Go.Shelf
set_option linter.unusedVariables false
set_option linter.unusedSimpArgs false

theorem ten10_val : val [10] = 10 := by simp [val]
theorem ten_lt64 : 10 < B64 := by rw [B64_eq]; omega
theorem rd_new10 (w : World) (T : TypeId) : Rd (w.alloc (.cells #[.int .u64 10] T)) (some ⟨w.heap.size, 0, none⟩) 1 [10] := rd_new1 w 10 T ten_lt64
theorem word_small {d : Nat} (h : d < B64) : wordV (limbs d) = d ∧ wordE (limbs d) = 0 := by
  have hl : (limbs d).length ≤ 1 := limbs_length_le (by simpa using h)
  have h2 : lim (limbs d) 0 = d := by
    by_cases h0 : d = 0
    · subst h0; rw [limbs_zero]; rfl
    · rw [limbs_pos h0, Nat.mod_eq_of_lt h]; rfl
  unfold wordV wordE
  rw [if_pos ⟨may_limbs d, hl⟩, if_pos (may_limbs d), if_pos hl]
  exact ⟨h2, rfl⟩
theorem digits_at : ∀ d : Fin 10, (([48, 49, 50, 51, 52, 53, 54, 55, 56, 57] : List UInt8).drop d.val).take 1 = [dig d.val] := by decide
theorem dig_ext {d : Nat} (h : d < 10) (l : List UInt8) : (⟨#[48, 49, 50, 51, 52, 53, 54, 55, 56, 57]⟩ : ByteArray).extract d (d + 1) ++ ⟨l.toArray⟩ = ⟨(dig d :: l).toArray⟩ := by
  have h1 := digits_at ⟨d, h⟩
  rw [Lib.extract_eq, show d + 1 - d = 1 by omega]
  have h2 : ((⟨#[48, 49, 50, 51, 52, 53, 54, 55, 56, 57]⟩ : ByteArray).data.toList.drop d).take 1 = [dig d] := h1
  rw [h2, ByteArray.mk_append_mk]
  rfl

section
variable (A A2 : Option Addr) (na ca nb cb v u : Nat) (w : World)

end
end Go.Proofs.YtgiokmfdafmaoaaGreat

/- The document's Parse. -/
namespace Go.Proofs.YtgiokmfdafmaoaaGreat
open Go.RowKit Go.Shelf
set_option linter.unusedVariables false
set_option linter.unusedSimpArgs false

def parseE (s : ByteArray) : Int := if 4096 < s.size then 3 else if okL s.data.toList then 0 else 8
def parseL (s : ByteArray) : List Nat := if parseE s = 0 then limbs (numV s.data.toList) else []
theorem parseE_long {s : ByteArray} (h : 4096 < s.size) : parseE s = 3 := by simp [parseE, h]
theorem parseE_ok {s : ByteArray} (h : s.size ≤ 4096) (h2 : okL s.data.toList = true) : parseE s = 0 := by simp [parseE, h2]; omega
theorem parseE_bad {s : ByteArray} (h : s.size ≤ 4096) (h2 : okL s.data.toList = false) : parseE s = 8 := by simp [parseE, h2]; omega
theorem parseL_ok {s : ByteArray} (h : parseE s = 0) : parseL s = limbs (numV s.data.toList) := by simp [parseL, h]
theorem parseL_no {s : ByteArray} (h : parseE s ≠ 0) : parseL s = [] := by simp [parseL, h]
theorem take_snoc (s : ByteArray) (k : Nat) (h : k < s.size) : s.data.toList.take (k + 1) = s.data.toList.take k ++ [s[k]] := by
  rw [List.take_succ_eq_append_getElem (by simpa using h)]; rfl
theorem size_list (s : ByteArray) : s.data.toList.length = s.size := by simp
theorem num_step {s : ByteArray} {k : Nat} (h : k < s.size) : numV (s.data.toList.take (k + 1)) = numV (s.data.toList.take k) * 10 + (s[k].toNat - 48) := by
  rw [take_snoc s k h, numV_snoc]
theorem all_step {s : ByteArray} {k : Nat} (h : k < s.size) : (s.data.toList.take (k + 1)).all isD = ((s.data.toList.take k).all isD && isD s[k]) := by
  rw [take_snoc s k h, List.all_append]; simp
theorem all_bad {s : ByteArray} {k : Nat} (h : k < s.size) (h2 : isD s[k] = false) : okL s.data.toList = false := by
  have h3 : s.data.toList.all isD = false := by
    rw [List.all_eq_false]
    exact ⟨s[k], Array.mem_toList_iff.2 (Array.getElem_mem (xs := s.data) h), by simp [h2]⟩
  simp [okL, h3]
theorem num_lt_bits {l : List UInt8} (h : l.all isD = true) {n : Nat} (hn : l.length ≤ n) : numV l < B64 ^ (n / 16 + 1) := by
  have h1 := num_lt l h
  have h2 : (10 : Nat) ^ l.length ≤ 16 ^ l.length := Nat.pow_le_pow_left (by omega) _
  have h3 : (16 : Nat) ^ l.length ≤ 16 ^ (16 * (n / 16 + 1)) := Nat.pow_le_pow_right (by omega) (by omega)
  have h4 : (16 : Nat) ^ (16 * (n / 16 + 1)) = B64 ^ (n / 16 + 1) := by rw [Nat.pow_mul]; rfl
  omega
theorem len_ten {l : List UInt8} (h : l.all isD = true) {n : Nat} (hn : l.length ≤ n) : (limbs (numV l * 10)).length ≤ n / 16 + 2 := by
  refine limbs_length_le ?_
  have h1 := num_lt_bits h hn
  have h2 : B64 ^ (n / 16 + 2) = B64 ^ (n / 16 + 1) * B64 := Nat.pow_succ ..
  have h3 : numV l * 10 < B64 ^ (n / 16 + 1) * 10 := by omega
  have h4 : B64 ^ (n / 16 + 1) * 10 ≤ B64 ^ (n / 16 + 1) * B64 := Nat.mul_le_mul_left _ (by rw [B64_eq]; omega)
  omega
/-- A text's first byte is a nought, and there are more. -/
def nought (s : ByteArray) : Prop := s.data.toList.head? = some 48 ∧ 1 < s.size
theorem ok_iff {s : ByteArray} (h : s.data.toList ≠ []) (h2 : ¬ nought s) : okL s.data.toList = s.data.toList.all isD := by
  unfold nought at h2
  unfold okL
  have e : (s.data.toList.head? != some 48 || s.data.toList.length == 1) = true := by
    by_cases h3 : s.data.toList.head? = some 48
    · have h4 : ¬ 1 < s.size := fun x => h2 ⟨h3, x⟩
      have h5 : s.data.toList.length ≠ 0 := fun x => h (List.eq_nil_of_length_eq_zero x)
      have h6 := size_list s
      have h7 : s.data.toList.length = 1 := by omega
      rw [h7]; simp
    · simp [h3]
  rw [e, List.isEmpty_eq_false_iff.2 h]
  rfl
theorem ok_nought {s : ByteArray} (h : nought s) : okL s.data.toList = false := by
  obtain ⟨h1, h2⟩ := h
  have h6 := size_list s
  have h7 : (s.data.toList.length == 1) = false := by simp; omega
  unfold okL
  rw [h1, h7]; simp
theorem head_zero {s : ByteArray} (h : 0 < s.size) : s.data.toList.head? = some s[0] := by
  rw [List.head?_eq_getElem?, List.getElem?_eq_getElem (by simpa using h)]; rfl

section
variable (s : ByteArray) (w : World)
end
end Go.Proofs.YtgiokmfdafmaoaaGreat

/- The document's Text. -/
namespace Go.Proofs.YtgiokmfdafmaoaaGreat
open Go.RowKit Go.Shelf
set_option linter.unusedVariables false
set_option linter.unusedSimpArgs false

/-- The error of Text of a number, and the text. -/
def textE (a : List Nat) : Int := if may a then (if (textL (val a)).length ≤ 4096 then 0 else 4) else 8
def textS (a : List Nat) : ByteArray := if textE a = 0 then textB (val a) else ⟨#[]⟩
theorem textE_bad {a : List Nat} (h : may a = false) : textE a = 8 := by simp [textE, h]
theorem textE_many {a : List Nat} (h : may a = true) (h2 : ¬ (textL (val a)).length ≤ 4096) : textE a = 4 := by simp [textE, h, h2]
theorem textE_ok {a : List Nat} (h : may a = true) (h2 : (textL (val a)).length ≤ 4096) : textE a = 0 := by simp [textE, h, h2]
theorem textS_ok {a : List Nat} (h : textE a = 0) : textS a = textB (val a) := by simp [textS, h]
theorem textS_no {a : List Nat} (h : textE a ≠ 0) : textS a = ⟨#[]⟩ := by simp [textS, h]
theorem text_blen {n k : Nat} (h : (textL n).length ≤ k) : blen n ≤ 4 * k := blen_le (text_bits h)
theorem Nm.blen {w : World} {A : Option Addr} {n c v : Nat} (h : Nm w A n c v) : n ≤ Go.Proofs.YtgiokmfdafmaoaaGreat.blen v / 64 + 1 := by
  refine h.len ?_
  rw [B64_pow]
  exact Nat.lt_of_lt_of_le (blen_lt v) (Nat.pow_le_pow_right (by omega) (by omega))
theorem textB_size (n : Nat) : (textB n).size = (textL n).length := by simp [textB, ByteArray.size]

section
variable (A : Option Addr) (na ca : Nat) (a : List Nat) (w : World)
end
end Go.Proofs.YtgiokmfdafmaoaaGreat

/- What Text and Parse are; the law GcdTexts: digits to ten are the document's. -/
namespace Go.Proofs.YtgiokmfdafmaoaaGreat
open Go.RowKit Go.Shelf
set_option linter.unusedVariables false
set_option linter.unusedSimpArgs false

def TextIs (F : Nat) : Prop := ∀ (A : Option Addr) (na ca : Nat) (a : List Nat) (w : World), Rd w A na a → na ≤ 5000 → (na ≤ ca ∧ ca ≤ 9223372036854775807) →
  Calls Tryz.prog F #[.slice A na ca] w fun e w' => e = .returned (.tuple #[.string (textS a), .int .i64 (textE a)]) ∧ Below w.heap.size w w'
def ParseIs (F : Nat) : Prop := ∀ (s : ByteArray) (w : World), s.size ≤ 70000 → Calls Tryz.prog F #[.string s] w (Answers w (parseL s) (parseE s))
theorem parse_len (s : ByteArray) : (parseL s).length ≤ 300 := by
  by_cases h : parseE s = 0
  · rw [parseL_ok h]
    by_cases h2 : 4096 < s.size
    · rw [parseE_long h2] at h; exact absurd h (by decide)
    · cases hk : okL s.data.toList with
      | false => rw [parseE_bad (by omega) hk] at h; exact absurd h (by decide)
      | true =>
        have h3 : s.data.toList.all isD = true := by
          unfold okL at hk
          simp only [Bool.and_eq_true] at hk
          exact hk.2
        have h4 := limbs_length_le (num_lt_bits h3 (n := 4096) (by rw [size_list]; omega))
        omega
  · rw [parseL_no h]; simp

section
variable (A : Option Addr) (na ca : Nat) (a : List Nat) (s : ByteArray) (w : World)
end
end Go.Proofs.YtgiokmfdafmaoaaGreat

/- Whole numbers: what may be, values, what calls of layer 5 are. -/
namespace Go.Proofs.YtgiokmfdafmaoaaGreat
open Go.RowKit Go.Shelf
set_option linter.unusedVariables false
set_option linter.unusedSimpArgs false

/-- A whole number's value: its sign's, and its size's. -/
def zv (p : Bool) (A : Option Addr) (n c : Nat) : Value := .agg #[.bool p, .slice A n c]
def mayZ (p : Bool) (a : List Nat) : Bool := may a && (!p || !a.isEmpty)
def zof (p : Bool) (a : List Nat) : Int := if p then -(val a : Int) else (val a : Int)
/-- The value of the number z. -/
abbrev zV (z : Int) (A : Option Addr) (n c : Nat) : Value := zv (decide (z < 0)) A n c
/-- The slice is the size of z. -/
abbrev ZNm (w : World) (A : Option Addr) (n c : Nat) (z : Int) : Prop := Nm w A n c z.natAbs

theorem mayZ_num (z : Int) : mayZ (decide (z < 0)) (limbs z.natAbs) = true := by
  unfold mayZ
  rw [may_limbs, Bool.true_and]
  by_cases h : z < 0
  · have : limbs z.natAbs ≠ [] := fun e => by have := limbs_eq_nil.1 e; omega
    simp [h, this]
  · simp [h]
theorem zof_num (z : Int) : zof (decide (z < 0)) (limbs z.natAbs) = z := by
  unfold zof
  rw [val_limbs]
  by_cases h : z < 0
  · simp [h]; omega
  · simp [h]; omega
theorem zof_abs (p : Bool) (a : List Nat) : (zof p a).natAbs = val a := by
  unfold zof
  cases p <;> simp
theorem zof_neg {p : Bool} {a : List Nat} (h : mayZ p a = true) : decide (zof p a < 0) = p := by
  unfold mayZ at h
  rw [Bool.and_eq_true] at h
  unfold zof
  cases p with
  | false => simp
  | true =>
    have h2 : a ≠ [] := by simpa using h.2
    have := val_pos h.1 h2
    simp
    omega
theorem mayZ_may {p : Bool} {a : List Nat} (h : mayZ p a = true) : may a = true := by
  unfold mayZ at h
  rw [Bool.and_eq_true] at h
  exact h.1
/-- A number that may be is told by its number. -/
theorem znm_of {w : World} {A : Option Addr} {n c : Nat} {p : Bool} {a : List Nat} (h : Rd w A n a) (hm : mayZ p a = true) (hc : n ≤ c) (hc2 : c ≤ 9223372036854775807) : ZNm w A n c (zof p a) ∧ zv p A n c = zV (zof p a) A n c := by
  refine ⟨?_, by unfold zV; rw [zof_neg hm]⟩
  show Nm w A n c (zof p a).natAbs
  rw [zof_abs]
  exact nm_of h (mayZ_may hm) hc hc2
theorem zero_znm (w : World) : ZNm w none 0 0 0 := nm_zero w none (by omega)

def twoM (p : Bool) (a : List Nat) (q : Bool) (b : List Nat) : Bool := mayZ p a && mayZ q b
/-- The number that two make, 0 unless both may be; the error. -/
def twoZ (p : Bool) (a : List Nat) (q : Bool) (b : List Nat) (z : Int) : Int := if twoM p a q b then z else 0
def twoE (p : Bool) (a : List Nat) (q : Bool) (b : List Nat) : Int := if twoM p a q b then 0 else 8
def oneZ (p : Bool) (a : List Nat) (z : Int) : Int := if mayZ p a then z else 0
def oneE (p : Bool) (a : List Nat) : Int := if mayZ p a then 0 else 8

/-- A call answered the number z, in new memory, and the error E. -/
def ZAns (w : World) (z E : Int) (e : Ending) (w' : World) : Prop := ∃ (A' : Option Addr) (k c : Nat), e = .returned (.tuple #[zV z A' k c, .int .i64 E]) ∧ Own w' w.heap.size (.slice A' k c) (limbs z.natAbs) ∧ Below w.heap.size w w'
/-- A call answered the number z alone. -/
def ZOne (w : World) (z : Int) (e : Ending) (w' : World) : Prop := ∃ (A' : Option Addr) (k c : Nat), e = .returned (zV z A' k c) ∧ Own w' w.heap.size (.slice A' k c) (limbs z.natAbs) ∧ Below w.heap.size w w'
/-- A call answered an int, and the error E. -/
def IAns (w : World) (i E : Int) (e : Ending) (w' : World) : Prop := e = .returned (.tuple #[.int .i64 i, .int .i64 E]) ∧ Below w.heap.size w w'

/-- What a call of two whole numbers is handed. -/
structure Z2 (w : World) (A A2 : Option Addr) (na ca nb cb : Nat) (a b : List Nat) : Prop where
  ra : Rd w A na a
  rb : Rd w A2 nb b
  la : na ≤ 400
  lb : nb ≤ 400
  ca1 : na ≤ ca
  ca2 : ca ≤ 9223372036854775807
  cb1 : nb ≤ cb
  cb2 : cb ≤ 9223372036854775807
structure Z1 (w : World) (A : Option Addr) (na ca : Nat) (a : List Nat) : Prop where
  ra : Rd w A na a
  la : na ≤ 400
  ca1 : na ≤ ca
  ca2 : ca ≤ 9223372036854775807

def Op2Is (f : Int → Int → Int) (F : Nat) : Prop := ∀ (A A2 : Option Addr) (na ca nb cb : Nat) (p q : Bool) (a b : List Nat) (w : World), Z2 w A A2 na ca nb cb a b →
  Calls Tryz.prog F #[zv p A na ca, zv q A2 nb cb] w (ZAns w (twoZ p a q b (f (zof p a) (zof q b))) (twoE p a q b))
def quoE (p : Bool) (a : List Nat) (q : Bool) (b : List Nat) : Int := if twoM p a q b then (if b = [] then 30 else 0) else 8
def quoZ (f : Int → Int → Int) (p : Bool) (a : List Nat) (q : Bool) (b : List Nat) : Int := if quoE p a q b = 0 then f (zof p a) (zof q b) else 0
def Quo2Is (f : Int → Int → Int) (F : Nat) : Prop := ∀ (A A2 : Option Addr) (na ca nb cb : Nat) (p q : Bool) (a b : List Nat) (w : World), Z2 w A A2 na ca nb cb a b →
  Calls Tryz.prog F #[zv p A na ca, zv q A2 nb cb] w (ZAns w (quoZ f p a q b) (quoE p a q b))
def exE (p : Bool) (a : List Nat) (q : Bool) (b : List Nat) : Int := if quoE p a q b = 0 then (if zof q b ∣ zof p a then 0 else 6) else quoE p a q b
def exZ (p : Bool) (a : List Nat) (q : Bool) (b : List Nat) : Int := if exE p a q b = 0 then Int.fdiv (zof p a) (zof q b) else 0
def ExactZIs (F : Nat) : Prop := ∀ (A A2 : Option Addr) (na ca nb cb : Nat) (p q : Bool) (a b : List Nat) (w : World), Z2 w A A2 na ca nb cb a b →
  Calls Tryz.prog F #[zv p A na ca, zv q A2 nb cb] w (ZAns w (exZ p a q b) (exE p a q b))
def CmpZIs (F : Nat) : Prop := ∀ (A A2 : Option Addr) (na ca nb cb : Nat) (p q : Bool) (a b : List Nat) (w : World), Z2 w A A2 na ca nb cb a b →
  Calls Tryz.prog F #[zv p A na ca, zv q A2 nb cb] w (IAns w (twoZ p a q b (sgn (zof p a - zof q b))) (twoE p a q b))
def SignIs (F : Nat) : Prop := ∀ (A : Option Addr) (na ca : Nat) (p : Bool) (a : List Nat) (w : World), Z1 w A na ca a →
  Calls Tryz.prog F #[zv p A na ca] w (IAns w (oneZ p a (sgn (zof p a))) (oneE p a))
def NegIs (F : Nat) : Prop := ∀ (A : Option Addr) (na ca : Nat) (p : Bool) (a : List Nat) (w : World), Z1 w A na ca a →
  Calls Tryz.prog F #[zv p A na ca] w (ZAns w (oneZ p a (-(zof p a))) (oneE p a))
def intE (p : Bool) (a : List Nat) : Int := if mayZ p a then (if -9223372036854775808 ≤ zof p a ∧ zof p a ≤ 9223372036854775807 then 0 else 4) else 8
def intZ (p : Bool) (a : List Nat) : Int := if intE p a = 0 then zof p a else 0
def IntIs (F : Nat) : Prop := ∀ (A : Option Addr) (na ca : Nat) (p : Bool) (a : List Nat) (w : World), Z1 w A na ca a →
  Calls Tryz.prog F #[zv p A na ca] w (IAns w (intZ p a) (intE p a))
def CheckZIs (F : Nat) : Prop := ∀ (A : Option Addr) (na ca : Nat) (p : Bool) (a : List Nat) (w : World), Z1 w A na ca a →
  Calls Tryz.prog F #[zv p A na ca] w fun e w' => e = .returned (.int .i64 (oneE p a)) ∧ Below w.heap.size w w'
def OfZIs (F : Nat) : Prop := ∀ (n : Int) (w : World), -9223372036854775808 ≤ n → n ≤ 9223372036854775807 → Calls Tryz.prog F #[.int .i64 n] w (ZOne w n)
def SameZIs (F : Nat) : Prop := ∀ (A A2 : Option Addr) (na ca nb cb : Nat) (p q : Bool) (a b : List Nat) (w : World), Z2 w A A2 na ca nb cb a b →
  Calls Tryz.prog F #[zv p A na ca, zv q A2 nb cb] w fun e w' => e = .returned (.bool (decide (p = q ∧ a = b))) ∧ Below w.heap.size w w'
/-- A number as a text. -/
def textZE (p : Bool) (a : List Nat) : Int := if mayZ p a then textE a else 8
def textZS (p : Bool) (a : List Nat) : ByteArray := if textZE p a = 0 then (if p then ⟨#[45]⟩ ++ textS a else textS a) else ⟨#[]⟩
def TextZIs (F : Nat) : Prop := ∀ (A : Option Addr) (na ca : Nat) (p : Bool) (a : List Nat) (w : World), Z1 w A na ca a →
  Calls Tryz.prog F #[zv p A na ca] w fun e w' => e = .returned (.tuple #[.string (textZS p a), .int .i64 (textZE p a)]) ∧ Below w.heap.size w w'
/-- The number of a text. -/
def minus (s : ByteArray) : Bool := s.data.toList.head? == some 45
def parseZE (s : ByteArray) : Int := if minus s then (if (s.data.toList.drop 1).head? = some 48 then 8 else parseE (s.extract 1 s.size)) else parseE s
def parseZ (s : ByteArray) : Int := if parseZE s = 0 then (if minus s then -(numV (s.data.toList.drop 1) : Int) else (numV s.data.toList : Int)) else 0
def ParseZIs (F : Nat) : Prop := ∀ (s : ByteArray) (w : World), s.size ≤ 70000 → Calls Tryz.prog F #[.string s] w (ZAns w (parseZ s) (parseZE s))

section
variable {p q : Bool} {a b : List Nat}
theorem twoZ_ok (h : twoM p a q b = true) (z : Int) : twoZ p a q b z = z := by simp [twoZ, h]
theorem twoZ_no (h : twoM p a q b = false) (z : Int) : twoZ p a q b z = 0 := by simp [twoZ, h]
theorem twoE_ok (h : twoM p a q b = true) : twoE p a q b = 0 := by simp [twoE, h]
theorem twoE_no (h : twoM p a q b = false) : twoE p a q b = 8 := by simp [twoE, h]
theorem oneZ_ok (h : mayZ p a = true) (z : Int) : oneZ p a z = z := by simp [oneZ, h]
theorem oneZ_no (h : mayZ p a = false) (z : Int) : oneZ p a z = 0 := by simp [oneZ, h]
theorem oneE_ok (h : mayZ p a = true) : oneE p a = 0 := by simp [oneE, h]
theorem oneE_no (h : mayZ p a = false) : oneE p a = 8 := by simp [oneE, h]
theorem twoM_iff : twoM p a q b = true ↔ mayZ p a = true ∧ mayZ q b = true := by simp [twoM]
end
theorem twoM_num (z y : Int) : twoM (decide (z < 0)) (limbs z.natAbs) (decide (y < 0)) (limbs y.natAbs) = true := by simp [twoM, mayZ_num]
theorem zans_zero {w w' : World} {E : Int} (h : Below w.heap.size w w') : ZAns w 0 E (.returned (.tuple #[.agg #[.bool false, .slice none 0 0], .int .i64 E])) w' :=
  ⟨none, 0, 0, rfl, by rw [show (0 : Int).natAbs = 0 from rfl, limbs_zero]; exact own_nil _ _, h⟩
end Go.Proofs.YtgiokmfdafmaoaaGreat
