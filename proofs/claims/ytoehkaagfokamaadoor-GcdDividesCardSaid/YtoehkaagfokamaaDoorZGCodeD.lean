import Derived.Test.YtoehkaagfokamaaDoorZDigits
import Derived.Test.YtoehkaagfokamaaDoorZDivSpec
import Derived.Test.YtoehkaagfokamaaDoorZRefGcd
import Derived.Laws.Concat
import Derived.Lib.Strings
import Derived.Test.YtoehkaagfokamaaDoorZTimes
import Derived.Test.YtoehkaagfokamaaDoorZGSpec
import Derived.Test.YtoehkaagfokamaaDoorZBytes
import Derived.Test.YtoehkaagfokamaaDoorZGLow
import Derived.Test.YtoehkaagfokamaaDoorZGProduct
import Derived.Test.YtoehkaagfokamaaDoorZGDivides
import Derived.Test.YtoehkaagfokamaaDoorZGCommon
/- RefTens RefText RefParse GTexts GAlive GDig GCodeD. -/
/- The document's Tens, Text. -/
namespace Go.Proofs.YtoehkaagfokamaaDoor
open Go.RowKit Go.Shelf
set_option linter.unusedVariables false
set_option linter.unusedSimpArgs false

theorem ten10_val : val [10] = 10 := by simp [val]
theorem ten_lt64 : 10 < B64 := by rw [B64_eq]; omega
theorem rd_new10 (w : World) (T : TypeId) : Rd (w.alloc (.cells #[.int .u64 10] T)) (some ⟨w.heap.size, 0, none⟩) 1 [10] := rd_new1 w 10 T ten_lt64
theorem word_small {d : Nat} (h : d < B64) : wordV (limbs d) = d ∧ wordE (limbs d) = 0 := by
  have hl : (limbs d).length ≤ 1 := limbs_length_le (by simpa using h)
  have h2 : lim (limbs d) 0 = d := by
    by_cases h0 : d = 0
    · subst h0; rw [limbs_zero]; rfl
    · rw [limbs_pos h0, Nat.mod_eq_of_lt h]; rfl
  unfold wordV wordE
  rw [if_pos ⟨may_limbs d, hl⟩, if_pos (may_limbs d), if_pos hl]
  exact ⟨h2, rfl⟩
theorem digits_at : ∀ d : Fin 10, (([48, 49, 50, 51, 52, 53, 54, 55, 56, 57] : List UInt8).drop d.val).take 1 = [dig d.val] := by decide
theorem dig_ext {d : Nat} (h : d < 10) (l : List UInt8) : (⟨#[48, 49, 50, 51, 52, 53, 54, 55, 56, 57]⟩ : ByteArray).extract d (d + 1) ++ ⟨l.toArray⟩ = ⟨(dig d :: l).toArray⟩ := by
  have h1 := digits_at ⟨d, h⟩
  rw [Lib.extract_eq, show d + 1 - d = 1 by omega]
  have h2 : ((⟨#[48, 49, 50, 51, 52, 53, 54, 55, 56, 57]⟩ : ByteArray).data.toList.drop d).take 1 = [dig d] := h1
  rw [h2, ByteArray.mk_append_mk]
  rfl

section
variable (A A2 : Option Addr) (na ca nb cb v u : Nat) (w : World)

end
end Go.Proofs.YtoehkaagfokamaaDoor

/- The document's Text. -/
namespace Go.Proofs.YtoehkaagfokamaaDoor
open Go.RowKit Go.Shelf
set_option linter.unusedVariables false
set_option linter.unusedSimpArgs false

/-- The error of Text of a number, and the text. -/
def textE (a : List Nat) : Int := if may a then (if (textL (val a)).length ≤ 4096 then 0 else 4) else 8
def textS (a : List Nat) : ByteArray := if textE a = 0 then textB (val a) else ⟨#[]⟩
theorem textE_bad {a : List Nat} (h : may a = false) : textE a = 8 := by simp [textE, h]
theorem textE_many {a : List Nat} (h : may a = true) (h2 : ¬ (textL (val a)).length ≤ 4096) : textE a = 4 := by simp [textE, h, h2]
theorem textE_ok {a : List Nat} (h : may a = true) (h2 : (textL (val a)).length ≤ 4096) : textE a = 0 := by simp [textE, h, h2]
theorem textS_ok {a : List Nat} (h : textE a = 0) : textS a = textB (val a) := by simp [textS, h]
theorem textS_no {a : List Nat} (h : textE a ≠ 0) : textS a = ⟨#[]⟩ := by simp [textS, h]
theorem text_blen {n k : Nat} (h : (textL n).length ≤ k) : blen n ≤ 4 * k := blen_le (text_bits h)
theorem Nm.blen {w : World} {A : Option Addr} {n c v : Nat} (h : Nm w A n c v) : n ≤ Go.Proofs.YtoehkaagfokamaaDoor.blen v / 64 + 1 := by
  refine h.len ?_
  rw [B64_pow]
  exact Nat.lt_of_lt_of_le (blen_lt v) (Nat.pow_le_pow_right (by omega) (by omega))
theorem textB_size (n : Nat) : (textB n).size = (textL n).length := by simp [textB, ByteArray.size]

section
variable (A : Option Addr) (na ca : Nat) (a : List Nat) (w : World)
end
end Go.Proofs.YtoehkaagfokamaaDoor

/- The document's Parse. -/
namespace Go.Proofs.YtoehkaagfokamaaDoor
open Go.RowKit Go.Shelf
set_option linter.unusedVariables false
set_option linter.unusedSimpArgs false

def parseE (s : ByteArray) : Int := if 4096 < s.size then 3 else if okL s.data.toList then 0 else 8
def parseL (s : ByteArray) : List Nat := if parseE s = 0 then limbs (numV s.data.toList) else []
theorem parseE_long {s : ByteArray} (h : 4096 < s.size) : parseE s = 3 := by simp [parseE, h]
theorem parseE_ok {s : ByteArray} (h : s.size ≤ 4096) (h2 : okL s.data.toList = true) : parseE s = 0 := by simp [parseE, h2]; omega
theorem parseE_bad {s : ByteArray} (h : s.size ≤ 4096) (h2 : okL s.data.toList = false) : parseE s = 8 := by simp [parseE, h2]; omega
theorem parseL_ok {s : ByteArray} (h : parseE s = 0) : parseL s = limbs (numV s.data.toList) := by simp [parseL, h]
theorem parseL_no {s : ByteArray} (h : parseE s ≠ 0) : parseL s = [] := by simp [parseL, h]
theorem take_snoc (s : ByteArray) (k : Nat) (h : k < s.size) : s.data.toList.take (k + 1) = s.data.toList.take k ++ [s[k]] := by
  rw [List.take_succ_eq_append_getElem (by simpa using h)]; rfl
theorem size_list (s : ByteArray) : s.data.toList.length = s.size := by simp
theorem num_step {s : ByteArray} {k : Nat} (h : k < s.size) : numV (s.data.toList.take (k + 1)) = numV (s.data.toList.take k) * 10 + (s[k].toNat - 48) := by
  rw [take_snoc s k h, numV_snoc]
theorem all_step {s : ByteArray} {k : Nat} (h : k < s.size) : (s.data.toList.take (k + 1)).all isD = ((s.data.toList.take k).all isD && isD s[k]) := by
  rw [take_snoc s k h, List.all_append]; simp
theorem all_bad {s : ByteArray} {k : Nat} (h : k < s.size) (h2 : isD s[k] = false) : okL s.data.toList = false := by
  have h3 : s.data.toList.all isD = false := by
    rw [List.all_eq_false]
    exact ⟨s[k], Array.mem_toList_iff.2 (Array.getElem_mem (xs := s.data) h), by simp [h2]⟩
  simp [okL, h3]
theorem num_lt_bits {l : List UInt8} (h : l.all isD = true) {n : Nat} (hn : l.length ≤ n) : numV l < B64 ^ (n / 16 + 1) := by
  have h1 := num_lt l h
  have h2 : (10 : Nat) ^ l.length ≤ 16 ^ l.length := Nat.pow_le_pow_left (by omega) _
  have h3 : (16 : Nat) ^ l.length ≤ 16 ^ (16 * (n / 16 + 1)) := Nat.pow_le_pow_right (by omega) (by omega)
  have h4 : (16 : Nat) ^ (16 * (n / 16 + 1)) = B64 ^ (n / 16 + 1) := by rw [Nat.pow_mul]; rfl
  omega
theorem len_ten {l : List UInt8} (h : l.all isD = true) {n : Nat} (hn : l.length ≤ n) : (limbs (numV l * 10)).length ≤ n / 16 + 2 := by
  refine limbs_length_le ?_
  have h1 := num_lt_bits h hn
  have h2 : B64 ^ (n / 16 + 2) = B64 ^ (n / 16 + 1) * B64 := Nat.pow_succ ..
  have h3 : numV l * 10 < B64 ^ (n / 16 + 1) * 10 := by omega
  have h4 : B64 ^ (n / 16 + 1) * 10 ≤ B64 ^ (n / 16 + 1) * B64 := Nat.mul_le_mul_left _ (by rw [B64_eq]; omega)
  omega
/-- A text's first byte is a nought, and there are more. -/
def nought (s : ByteArray) : Prop := s.data.toList.head? = some 48 ∧ 1 < s.size
theorem ok_iff {s : ByteArray} (h : s.data.toList ≠ []) (h2 : ¬ nought s) : okL s.data.toList = s.data.toList.all isD := by
  unfold nought at h2
  unfold okL
  have e : (s.data.toList.head? != some 48 || s.data.toList.length == 1) = true := by
    by_cases h3 : s.data.toList.head? = some 48
    · have h4 : ¬ 1 < s.size := fun x => h2 ⟨h3, x⟩
      have h5 : s.data.toList.length ≠ 0 := fun x => h (List.eq_nil_of_length_eq_zero x)
      have h6 := size_list s
      have h7 : s.data.toList.length = 1 := by omega
      rw [h7]; simp
    · simp [h3]
  rw [e, List.isEmpty_eq_false_iff.2 h]
  rfl
theorem ok_nought {s : ByteArray} (h : nought s) : okL s.data.toList = false := by
  obtain ⟨h1, h2⟩ := h
  have h6 := size_list s
  have h7 : (s.data.toList.length == 1) = false := by simp; omega
  unfold okL
  rw [h1, h7]; simp
theorem head_zero {s : ByteArray} (h : 0 < s.size) : s.data.toList.head? = some s[0] := by
  rw [List.head?_eq_getElem?, List.getElem?_eq_getElem (by simpa using h)]; rfl

section
variable (s : ByteArray) (w : World)
end
end Go.Proofs.YtoehkaagfokamaaDoor

/- What Text and Parse are; the law GcdTexts: digits to ten are the document's. -/
namespace Go.Proofs.YtoehkaagfokamaaDoor
open Go.RowKit Go.Shelf
set_option linter.unusedVariables false
set_option linter.unusedSimpArgs false

def TextIs (F : Nat) : Prop := ∀ (A : Option Addr) (na ca : Nat) (a : List Nat) (w : World), Rd w A na a → na ≤ 5000 → (na ≤ ca ∧ ca ≤ 9223372036854775807) →
  Calls Tryd.prog F #[.slice A na ca] w fun e w' => e = .returned (.tuple #[.string (textS a), .int .i64 (textE a)]) ∧ Below w.heap.size w w'
def ParseIs (F : Nat) : Prop := ∀ (s : ByteArray) (w : World), s.size ≤ 70000 → Calls Tryd.prog F #[.string s] w (Answers w (parseL s) (parseE s))
theorem parse_len (s : ByteArray) : (parseL s).length ≤ 300 := by
  by_cases h : parseE s = 0
  · rw [parseL_ok h]
    by_cases h2 : 4096 < s.size
    · rw [parseE_long h2] at h; exact absurd h (by decide)
    · cases hk : okL s.data.toList with
      | false => rw [parseE_bad (by omega) hk] at h; exact absurd h (by decide)
      | true =>
        have h3 : s.data.toList.all isD = true := by
          unfold okL at hk
          simp only [Bool.and_eq_true] at hk
          exact hk.2
        have h4 := limbs_length_le (num_lt_bits h3 (n := 4096) (by rw [size_list]; omega))
        omega
  · rw [parseL_no h]; simp

section
variable (A : Option Addr) (na ca : Nat) (a : List Nat) (s : ByteArray) (w : World)
end
end Go.Proofs.YtoehkaagfokamaaDoor

/- The chapter's first examples of layer 4. -/
namespace Go.Proofs.YtoehkaagfokamaaDoor
open Go.RowKit Go.Shelf
set_option linter.unusedVariables false
set_option linter.unusedSimpArgs false

theorem limbs_word {x : Nat} (h : x < B64) : (limbs x).length ≤ 1 := limbs_length_le (by rwa [Nat.pow_one])
/-- 2^64's digits. -/
def two64 : List UInt8 := [49, 56, 52, 52, 54, 55, 52, 52, 48, 55, 51, 55, 48, 57, 53, 53, 49, 54, 49, 54]
theorem two64_ok : okL two64 = true := by decide
theorem two64_num : numV two64 = B64 := by decide
theorem two64_val : val [0, 1] = B64 := by simp [val]
theorem two64_may : may [0, 1] = true := rfl
theorem two64_text : textL B64 = two64 := by rw [← two64_num, text_num two64_ok]
theorem two64_E : textE [0, 1] = 0 := textE_ok two64_may (by rw [two64_val, two64_text]; decide)
theorem two64_S : textS [0, 1] = ⟨#[49, 56, 52, 52, 54, 55, 52, 52, 48, 55, 51, 55, 48, 57, 53, 53, 49, 54, 49, 54]⟩ := by
  rw [textS_ok two64_E, two64_val]
  unfold textB
  rw [two64_text]
  rfl
theorem gcd_no0 : Nat.gcd 0 0 = 0 ∧ Nat.lcm 0 0 = 0 := ⟨rfl, rfl⟩
section
variable (w : World)
set_option maxRecDepth 100000 in
set_option maxHeartbeats 3000000 in
theorem gof_any (hG : GcdIs 6) (hM : LcmIs 9) (a b g l : Nat) (ha : a < B64) (hb : b < B64) (hg : g < B64) (hl : l < B64) (eg : Nat.gcd a b = g) (el : Nat.lcm a b = l) :
    Calls Tryd.prog 13 #[u64 a, u64 b, u64 g, u64 l] w fun e w' => e = .returned (.bool true) ∧ Below w.heap.size w w' := by
  have HG := Lib.hid eg
  have HL := Lib.hid el
  have HA := Lib.hid ha
  have HB := Lib.hid hb
  have HGB := Lib.hid hg
  have HLB := Lib.hid hl
  have LA := Lib.hid (limbs_word ha)
  have LB := Lib.hid (limbs_word hb)
  have LG := Lib.hid (limbs_word hg)
  have LL := Lib.hid (limbs_word hl)
  clear eg el ha hb hg hl
  go_enter Tryd.func13, Tryd.ntmps13
  go_wp2_with fail
  refine (of_any a _ HA.out).mono ?_
  rintro e w1 ⟨A1, k1, c1, rfl, o1, hb1⟩
  have m1 := o1.nm
  have l1 : k1 ≤ 1 := by have h1 := o1.rd.2.1; have h2 := LA.out; omega
  clear o1
  go_wp2_with fail
  refine (of_any b _ HB.out).mono ?_
  rintro e w2 ⟨A2, k2, c2, rfl, o2, hb2⟩
  have m2 := o2.nm
  have l2 : k2 ≤ 1 := by have h1 := o2.rd.2.1; have h2 := LB.out; omega
  clear o2
  replace m1 := m1.below hb2
  replace hb2 := below_then hb1 hb2
  clear hb1
  go_wp2_with fail
  refine (gcd_nm hG m1 m2 (by omega) (by omega)).mono ?_
  rw [HG.out]
  rintro e w3 ⟨A3, k3, c3, rfl, o3, hb3⟩
  have m3 := o3.nm
  have l3 : k3 ≤ 1 := by have h1 := o3.rd.2.1; have h2 := LG.out; omega
  clear o3
  replace hb3 := below_then hb2 hb3
  clear hb2
  clear m1 m2 l1 l2
  go_wp2_with fail
  refine (of_any a _ HA.out).mono ?_
  rintro e w4 ⟨A4, k4, c4, rfl, o4, hb4⟩
  have m4 := o4.nm
  have l4 : k4 ≤ 1 := by have h1 := o4.rd.2.1; have h2 := LA.out; omega
  clear o4
  replace m3 := m3.below hb4
  replace hb4 := below_then hb3 hb4
  clear hb3
  go_wp2_with fail
  refine (of_any b _ HB.out).mono ?_
  rintro e w5 ⟨A5, k5, c5, rfl, o5, hb5⟩
  have m5 := o5.nm
  have l5 : k5 ≤ 1 := by have h1 := o5.rd.2.1; have h2 := LB.out; omega
  clear o5
  replace m3 := m3.below hb5
  replace m4 := m4.below hb5
  replace hb5 := below_then hb4 hb5
  clear hb4
  go_wp2_with fail
  refine (lcm_nm hM m4 m5 (by omega) (by omega)).mono ?_
  rw [HL.out]
  rintro e w6 ⟨A6, k6, c6, rfl, o6, hb6⟩
  have m6 := o6.nm
  have l6 : k6 ≤ 1 := by have h1 := o6.rd.2.1; have h2 := LL.out; omega
  clear o6
  replace m3 := m3.below hb6
  replace hb6 := below_then hb5 hb6
  clear hb5
  clear m4 m5 l4 l5
  go_wp2_with fail
  refine (of_any g _ HGB.out).mono ?_
  rintro e w7 ⟨A7, k7, c7, rfl, o7, hb7⟩
  have m7 := o7.nm
  have l7 : k7 ≤ 1 := by have h1 := o7.rd.2.1; have h2 := LG.out; omega
  clear o7
  replace m3 := m3.below hb7
  replace m6 := m6.below hb7
  replace hb7 := below_then hb6 hb7
  clear hb6
  go_wp2_with fail
  refine (same_eq _ _ _ _ _ _ _ _ _ m3 m7 (by omega) (by omega) rfl).mono ?_
  rintro e w8 ⟨rfl, hb8⟩
  replace m6 := m6.below hb8
  replace hb8 := below_then hb7 hb8
  clear hb7
  clear m3 m7 l3 l7
  go_wp2_with fail
  refine (of_any l _ HLB.out).mono ?_
  rintro e w9 ⟨A8, k8, c8, rfl, o8, hb9⟩
  have m8 := o8.nm
  have l8 : k8 ≤ 1 := by have h1 := o8.rd.2.1; have h2 := LL.out; omega
  clear o8
  replace m6 := m6.below hb9
  replace hb9 := below_then hb8 hb9
  clear hb8
  go_wp2_with fail
  refine (same_eq _ _ _ _ _ _ _ _ _ m6 m8 (by omega) (by omega) rfl).mono ?_
  rintro e w10 ⟨rfl, hb10⟩
  replace hb10 := below_then hb9 hb10
  clear hb9
  clear m6 m8 l6 l8
  go_wp2_with fail
  go_ret
  exact ⟨rfl, hb10⟩

set_option maxRecDepth 100000 in
set_option maxHeartbeats 3000000 in
theorem galive_any (hG : GcdIs 6) (hM : LcmIs 9) (hT : TextIs 12) :
    Calls Tryd.prog 5 #[] w fun e w' => e = .returned (.bool true) ∧ Below w.heap.size w w' := by
  go_enter Tryd.func5, Tryd.ntmps5
  go_wp2_with fail
  refine (hT _ 2 2 [0, 1] _ (rd_new2 _ 0 1 _ B64_pos B64_gt) (by omega) ⟨by omega, by omega⟩).mono ?_
  rw [two64_E, two64_S]
  rintro e w1 ⟨rfl, hb1⟩
  replace hb1 := below_new hb1
  go_wp2_with fail
  refine (gof_any _ hG hM 12 18 6 36 (small_lt (by omega)) (small_lt (by omega)) (small_lt (by omega)) (small_lt (by omega)) (by decide) (by decide)).mono ?_
  rintro e w2 ⟨rfl, hb2⟩
  replace hb2 := below_then hb1 hb2
  clear hb1
  go_wp2_with fail
  refine (gof_any _ hG hM 0 5 5 0 (small_lt (by omega)) (small_lt (by omega)) (small_lt (by omega)) (small_lt (by omega)) (by decide) (by decide)).mono ?_
  rintro e w3 ⟨rfl, hb3⟩
  replace hb3 := below_then hb2 hb3
  clear hb2
  go_wp2_with fail
  refine (gof_any _ hG hM 0 0 0 0 (small_lt (by omega)) (small_lt (by omega)) (small_lt (by omega)) (small_lt (by omega)) (by decide) (by decide)).mono ?_
  rintro e w4 ⟨rfl, hb4⟩
  replace hb4 := below_then hb3 hb4
  clear hb3
  go_wp2_with fail
  refine (gof_any _ hG hM 4 6 2 12 (small_lt (by omega)) (small_lt (by omega)) (small_lt (by omega)) (small_lt (by omega)) (by decide) (by decide)).mono ?_
  rintro e w5 ⟨rfl, hb5⟩
  replace hb5 := below_then hb4 hb5
  clear hb4
  go_wp2_with fail
  go_ret
  exact ⟨rfl, hb5⟩
end
end Go.Proofs.YtoehkaagfokamaaDoor

/- gcd's digits and Text, as they landed. -/
namespace Go.Proofs.YtoehkaagfokamaaDoor
open Go.RowKit Go.Shelf
set_option linter.unusedVariables false
set_option linter.unusedSimpArgs false

section
variable (w : World)
set_option maxRecDepth 100000 in
set_option maxHeartbeats 1000000 in
/-- strings.trimLeftByte. -/
theorem trimB_any (s : ByteArray) (c : UInt8) (hs : s.size ≤ 9223372036854775807) :
    Calls Tryd.prog 53 #[.string s, .int .u8 (c.toNat : Int)] w fun e w' => e = .returned (.string ⟨(s.data.toList.dropWhile (· == c)).toArray⟩) ∧ w' = w := by
  go_enter Tryd.func53, Tryd.ntmps53
  go_wp2
  go_loop [0] (fun v => ∃ t : ByteArray, v = .string t ∧ t.size ≤ 9223372036854775807 ∧ t.data.toList.dropWhile (· == c) = s.data.toList.dropWhile (· == c)) (fun v => match v with | .string t => t.size | _ => 0)
  case atStart => exact ⟨s, rfl, hs, rfl⟩
  case round =>
    obtain ⟨t, rfl, ht, hd⟩ := hrel
    by_cases h0 : t.size = 0
    · have he : t.data.toList = [] := List.eq_nil_of_length_eq_zero (by rw [size_list]; exact h0)
      rw [he, List.dropWhile_nil] at hd
      have ht0 : t = ⟨#[]⟩ := by
        apply ByteArray.ext
        apply Array.toList_inj.1
        rw [he]
      subst ht0
      have HD := Lib.hid hd
      clear hd he h0 ht
      go_wp2
      go_ret
      exact ⟨by rw [← HD.out]; rfl, rfl⟩
    · have hp : 0 < t.size := Nat.pos_of_ne_zero h0
      have hpi : (0 : Int) < (t.size : Int) := by omega
      obtain ⟨x, r, e⟩ := List.exists_cons_of_ne_nil (fun h : t.data.toList = [] => h0 (by rw [← size_list, h]; rfl))
      have hx : t[0] = x := by
        have h1 : t.data.toList[0]'(by rw [size_list]; exact hp) = x := by simp [e]
        rw [← h1]; rfl
      rw [e, List.dropWhile_cons] at hd
      have hxn : (t[0].toNat : Int) = (x.toNat : Int) := by rw [hx]
      by_cases hc : x = c
      · subst hc
        rw [if_pos (by simp)] at hd
        have hext : (t.extract 1 t.size).data.toList = r := by
          rw [Lib.extract_data, e]
          simp
          rw [← size_list, e]
          simp
        have HX := Lib.hid hext
        have HD := Lib.hid hd
        clear hd e hs h0
        go_wp2
        refine ⟨⟨_, rfl, by rw [ByteArray.size_extract]; omega, by rw [HX.out]; exact HD.out⟩, ?_⟩
        show (t.extract 1 t.size).size < t.size
        rw [ByteArray.size_extract]
        omega
      · rw [if_neg (by simpa using hc), ← e] at hd
        have hne : ((x.toNat : Int) == (c.toNat : Int)) = false := by
          simp only [beq_eq_false_iff_ne, ne_eq]
          intro h
          exact hc (UInt8.toNat_inj.1 (by omega))
        have hne2 : ¬ x = c := hc
        have hne3 : ¬ x.toNat = c.toNat := fun h => hc (UInt8.toNat_inj.1 h)
        have HD := Lib.hid hd
        clear hd e hs h0
        go_wp2
        go_ret
        exact ⟨by rw [← HD.out]; simp, rfl⟩
set_option maxRecDepth 100000 in
set_option maxHeartbeats 1000000 in
/-- strings.TrimLeft(s, "0"). -/
theorem trimL_any (s : ByteArray) (hs : s.size ≤ 9223372036854775807) (h0 : 0 < s.size) :
    Calls Tryd.prog 33 #[.string s, .string ⟨#[48]⟩] w fun e w' => e = .returned (.string ⟨(s.data.toList.dropWhile (· == 48)).toArray⟩) ∧ w' = w := by
  have h1 : s.toList ≠ [] := by
    rw [Lib.toList_data]
    intro h
    have := size_list s
    rw [h] at this
    simp at this
    omega
  have h2 : s.toList.isEmpty = false := List.isEmpty_eq_false_iff.2 h1
  have HT := Lib.hid (trimB_any w s 48 hs)
  go_enter Tryd.func33, Tryd.ntmps33
  go_wp2_with fail
  refine HT.out.mono ?_
  rintro e w1 ⟨rfl, rfl⟩
  go_wp2
  go_ret
  exact ⟨rfl, rfl⟩

/-- The list behind i exchanges. -/
def Swapped (l lk : List UInt8) (i : Nat) : Prop := lk.length = l.length ∧ ∀ t, t < l.length → lk[t]? = if t < i ∨ l.length ≤ t + i then l[l.length - 1 - t]? else l[t]?
theorem Swapped.next {l lk : List UInt8} {i j : Nat} (h : Swapped l lk i) (hij : i < j) (hj : i + j + 1 = l.length) (hi : i < lk.length) (hjl : j < lk.length) : Swapped l ((lk.set i lk[j]).set j lk[i]) (i + 1) := by
  refine ⟨by simp [h.1], fun t ht => ?_⟩
  have hi1 := h.2 i (by omega)
  have hj1 := h.2 j (by omega)
  rw [if_neg (by omega), List.getElem?_eq_getElem hi] at hi1
  rw [if_neg (by omega), List.getElem?_eq_getElem hjl] at hj1
  have e1 : l.length - 1 - i = j := by omega
  have e2 : l.length - 1 - j = i := by omega
  rw [List.getElem?_set]
  by_cases h1 : j = t
  · subst h1
    rw [if_pos rfl, if_pos (by rw [List.length_set]; exact hjl), if_pos (by omega), e2, hi1]
  · rw [if_neg h1, List.getElem?_set]
    by_cases h2 : i = t
    · subst h2
      rw [if_pos rfl, if_pos hi, if_pos (by omega), e1, hj1]
    · rw [if_neg h2, h.2 t ht]
      by_cases h3 : t < i ∨ l.length ≤ t + i
      · rw [if_pos h3, if_pos (by omega)]
      · rw [if_neg h3, if_neg (by omega)]
theorem Swapped.done {l lk : List UInt8} {i : Nat} (h : Swapped l lk i) (hn : l.length ≤ 2 * i + 1) : lk = l.reverse := by
  apply List.ext_getElem?
  intro t
  by_cases ht : t < l.length
  · rw [List.getElem?_reverse ht, h.2 t ht]
    split
    · rfl
    · congr 1; omega
  · rw [List.getElem?_eq_none (by rw [h.1]; omega), List.getElem?_eq_none (by rw [List.length_reverse]; omega)]

set_option maxRecDepth 100000 in
set_option maxHeartbeats 2000000 in
/-- slices.Reverse of bytes of the call's own. -/
theorem rev_any (B n c : Nat) (A : Option Addr) (l : List UInt8) (ho : OwnY w B (.slice A n c) l) (hl : l ≠ []) (hn : n = l.length) (hmax : n ≤ 100000) (hBw : B ≤ w.heap.size) :
    Calls Tryd.prog 32 #[.slice A n c] w fun e w' => e = .returned (.tuple #[]) ∧ OwnY w' B (.slice A n c) l.reverse ∧ Below B w w' := by
  obtain ⟨g, _, he, hg, hgl, hc1, hc2, _⟩ := ho.form hl
  cases he
  have hlp : 0 < l.length := List.length_pos_iff.2 hl
  go_enter Tryd.func32, Tryd.ntmps32
  go_wp2
  go_loopw [2, 3] (fun s2 s3 wr => ∃ (i : Nat) (J : Int) (lk : List UInt8), s2 = .int .i64 (i : Int) ∧ s3 = .int .i64 J ∧ J = (l.length : Int) - 1 - i ∧ 2 * i ≤ l.length ∧ Swapped l lk i ∧ OwnY wr B (.slice (some ⟨g, 0, none⟩) l.length c) lk ∧ Below B w wr) (fun s2 _ _ => l.length - (intOf s2).toNat)
  case atStart =>
    refine ⟨0, _, l, rfl, rfl, ?_, by omega, ⟨rfl, fun t ht => by rw [if_neg (by omega)]⟩, ho, Below.refl _ _⟩
    omega
  case round =>
    obtain ⟨i, J, lk, rfl, rfl, hJ, h2i, hsw, hown, hB⟩ := hrel
    have hlen := hsw.1
    by_cases hlt : 2 * i + 1 < l.length
    · obtain ⟨j, hj⟩ : ∃ j : Nat, j = l.length - 1 - i := ⟨_, rfl⟩
      obtain rfl : J = (j : Int) := by omega
      obtain ⟨g2, c3, he2, hg2, hgl2, _, _, hcf⟩ := hown.form (fun h => by rw [h] at hlen; simp at hlen; omega)
      rw [hlen] at he2
      cases he2
      obtain ⟨ci, fi⟩ := hcf i (by omega)
      obtain ⟨cj, fj⟩ := hcf j (by omega)
      have hij : (i : Int) < (j : Int) := by omega
      have hil : (i : Int) < (l.length : Int) := by omega
      have hjl : (j : Int) < (l.length : Int) := by omega
      have hne : ¬ i = j := by omega
      have hsw2 := hsw.next (i := i) (j := j) (by omega) (by omega) (by omega) (by omega)
      have hset := (hown.set hlen.symm (i := i) (by omega) (lk[j]'(by omega))).set (i := j) (by rw [List.length_set]; exact hlen.symm) (by rw [List.length_set]; omega) (lk[i]'(by omega))
      obtain ⟨x, hx⟩ : ∃ x, lk[i]'(by omega) = x := ⟨_, rfl⟩
      obtain ⟨y, hy⟩ : ∃ y, lk[j]'(by omega) = y := ⟨_, rfl⟩
      rw [hx] at ci hsw2 hset
      rw [hy] at cj hsw2 hset
      have HS := Lib.hid hsw2
      have HT := Lib.hid hset
      have HJ := Lib.hid hj
      have HI := Lib.hid hlt
      have hij2 : i < j := by omega
      have hil2 : i < l.length := by omega
      have hjl2 : j < l.length := by omega
      clear hsw hown hcf hsw2 hset hx hy hJ h2i hlt ho hl hj hlen
      go_wp2_with fail
      go_region
      go_wp2
      go_roundw
      case rel =>
        refine ⟨i + 1, _, _, by go_num, rfl, by have := HJ.out; omega, by have := HI.out; omega, HS.out, HT.out.below (Below.refl _ _).drew, ?_⟩
        exact ((hB.setCell (p := ⟨g, i, none⟩) hg _).setCell (p := ⟨g, j, none⟩) hg _).drew
      case measure =>
        have := HI.out
        simp [intOf]
        omega
    · have hfin := hsw.done (by omega)
      subst hfin
      clear hsw
      go_wp2
      go_end0
      exact ⟨rfl, hown, hB⟩

theorem chunk_lt : 10000000000000000000 < B64 := by rw [B64_eq]; omega
theorem wordZ (A : Option Addr) (na ca v x : Nat) (z : Int) (w : World) (hz : z = (x : Int)) (h : Nm w A na ca v) (hx : x < B64) (hx0 : x ≠ 0) (hna : na ≤ 1000) :
    Calls Tryd.prog 25 #[.slice A na ca, .int .u64 z] w fun e w' => ∃ A' k c, e = .returned (.tuple #[.slice A' k c, .int .u64 ((v % x : Nat) : Int), .int .i64 0]) ∧ Own w' w.heap.size (.slice A' k c) (limbs (v / x)) ∧ Below w.heap.size w w' := by
  subst hz
  have hw := word_is A na ca (limbs v) x w h.rd hx hna ⟨h.nc, h.cm⟩
  have hE : divE (limbs v) (limbs x) = 0 := divE_ok (may_limbs v) (may_limbs x) (fun h => hx0 (limbs_eq_nil.1 h))
  rw [quoL_ok hE, remL_ok hE, hE, val_limbs, val_limbs, val_limbs] at hw
  exact hw
theorem digits_bound {v k na : Nat} (hv : v < B64 ^ na) (hna : na ≤ 217) (h : v / 10 ^ (19 * k) ≠ 0) : k ≤ 243 := by
  have h1 : 10 ^ (19 * k) ≤ v := by
    rcases Nat.lt_or_ge v (10 ^ (19 * k)) with h2 | h2
    · exact absurd (Nat.div_eq_of_lt h2) h
    · exact h2
  have h2 : 8 ^ (19 * k) ≤ 10 ^ (19 * k) := Nat.pow_le_pow_left (by omega) _
  have h3 : (8 : Nat) ^ (19 * k) = 2 ^ (3 * (19 * k)) := by rw [show (8 : Nat) = 2 ^ 3 from rfl, ← Nat.pow_mul]
  rw [B64_pow] at hv
  have h4 : 2 ^ (3 * (19 * k)) < 2 ^ (64 * na) := by omega
  have h5 := (Nat.pow_lt_pow_iff_right (by omega : 1 < 2)).1 h4
  omega

set_option maxRecDepth 100000 in
set_option maxHeartbeats 4000000 in
/-- gcd.digits. -/
theorem digits_any (A : Option Addr) (na ca v : Nat) (hva : Nm w A na ca v) (hna : na ≤ 217) :
    Calls Tryd.prog 20 #[.slice A na ca] w fun e w' => e = .returned (.string (textB v)) ∧ Below w.heap.size w w' := by
  by_cases h0 : na = 0
  · subst h0
    have hv0 : v = 0 := hva.zero.1 rfl
    subst hv0
    clear hva
    go_enter Tryd.func20, Tryd.ntmps20
    go_wp2
    go_ret
    exact ⟨rfl, Below.refl _ _⟩
  · have hv0 : v ≠ 0 := fun h => h0 (hva.zero.2 h)
    have hn0 : ((na : Int) == 0) = false := by simp; omega
    have hlt := hva.lt
    obtain ⟨i0, hi0, hz0, hz1, hz2⟩ := info_parts u8_info
    have HV0 := Lib.hid hv0
    have HV := Lib.hid hlt
    clear hv0 hlt
    go_enter Tryd.func20, Tryd.ntmps20
    go_wp2
    go_loopw [0, 3, 4] (fun a m x wr => ∃ (k n3 c3 : Nat) (A3 : Option Addr), a = .slice A3 n3 c3 ∧ Nm wr A3 n3 c3 (v / 10 ^ (19 * k)) ∧ n3 ≤ 217 ∧ OwnY wr w.heap.size m (lowB (19 * k) v) ∧ k ≤ 244 ∧ Below w.heap.size w wr) (fun a _ _ wr => numOf wr a)
    case atStart => exact ⟨0, na, ca, A, rfl, by rw [Nat.mul_zero, Nat.pow_zero, Nat.div_one]; exact hva, hna, owny_nil _ _, by omega, Below.refl _ _⟩
    case round =>
      obtain ⟨k, n3, c3, A3, rfl, hp, hn3, hy, hk, hB⟩ := hrel
      clear hva hn0 h0
      by_cases hz : n3 = 0
      · subst hz
        have hp0 := hp.zero.1 rfl
        have hlt : v < 10 ^ (19 * k) := by
          rcases Nat.lt_or_ge v (10 ^ (19 * k)) with h | h
          · exact h
          · exact absurd (Nat.div_pos h (Nat.pow_pos (by omega))) (by omega)
        have htrim := trim_low hlt HV0.out
        have hll := lowB_len (19 * k) v
        have hk0 : k ≠ 0 := fun h => by
          subst h
          have h0 := HV0.out
          simp at hlt
          omega
        have htx : textB v = ⟨(tenL v).toArray⟩ := by unfold textB textL; rw [if_neg HV0.out]
        obtain ⟨L, hL⟩ : ∃ L, lowB (19 * k) v = L := ⟨_, rfl⟩
        rw [hL] at hy htrim hll
        have hLne : L ≠ [] := fun h => by rw [h] at hll; simp at hll; omega
        obtain ⟨g, c, rfl, hg, hgl, hc1, hc2, _⟩ := hy.form hLne
        have HREV := Lib.hid (rev_any wr w.heap.size L.length c (some ⟨g, 0, none⟩) L hy hLne rfl (by omega) hB.size)
        have HTR := Lib.hid htrim
        have HLL := Lib.hid hll
        have HTX := Lib.hid htx
        have HNE := Lib.hid (show L.reverse ≠ [] by simpa using hLne)
        clear hp hp0 hlt htrim hll hk0 hL hy hLne hg hgl hc1 hc2 htx hi0 hz0 hz1 hz2
        go_wp2_with fail
        refine HREV.out.mono ?_
        rintro e w2 ⟨rfl, hy2, hb2⟩
        obtain ⟨g2, c2, he2, _, _, _, _, hcf⟩ := hy2.form HNE.out
        rw [List.length_reverse] at he2
        cases he2
        have hconv := run_convert_bytes_back (P := Tryd.prog) w2 57 9 5 ⟨g, 0, none⟩ c L.reverse Tryd.underlying57 Tryd.underlying5 Tryd.underlying9 (fun j hj => by
          rw [Addr.add_lit, Nat.zero_add]
          exact (hcf j hj).1)
        rw [List.length_reverse] at hconv
        have hB2 := hB.trans hb2
        have HS1 : Hid ((⟨L.reverse.toArray⟩ : ByteArray).size ≤ 9223372036854775807) := by
          show _ ≤ _
          have h := HLL.out
          simp [ByteArray.size]
          omega
        have HS2 : Hid (0 < (⟨L.reverse.toArray⟩ : ByteArray).size) := by
          show 0 < _
          have h := List.length_pos_iff.2 HNE.out
          simpa [ByteArray.size] using h
        clear hy2 hcf hb2 hB
        go_wp2_with fail
        refine (trimL_any w2 ⟨L.reverse.toArray⟩ HS1.out HS2.out).mono ?_
        rintro e w3 ⟨rfl, rfl⟩
        clear hconv
        go_wp2
        go_ret
        refine ⟨?_, hB2⟩
        rw [HTX.out, ← HTR.out]
        rfl
      · have hp0 : v / 10 ^ (19 * k) ≠ 0 := fun h => hz (hp.zero.2 h)
        have hk3 := digits_bound HV.out hna hp0
        obtain ⟨p, hpe⟩ : ∃ p, v / 10 ^ (19 * k) = p := ⟨_, rfl⟩
        rw [hpe] at hp hp0
        have hq : p / 10 ^ 19 = v / 10 ^ (19 * (k + 1)) := by rw [← hpe, Nat.div_div_eq_div_mul, ← Nat.pow_add]; rfl
        have HW := Lib.hid (wordZ A3 n3 c3 p (10 ^ 19) 10000000000000000000 wr (by rfl) hp (by rw [B64_eq]; omega) (by omega) (by omega))
        have hlt : p / 10 ^ 19 < p := Nat.div_lt_self (Nat.pos_of_ne_zero hp0) (by omega)
        have hl4 := length_of_le (words_limbs p) (n := p / 10 ^ 19) (by rw [val_limbs]; omega)
        rw [hp.rd.len] at hl4
        have hdig : ∀ j, j < 19 → p % 10 ^ 19 / 10 ^ j % 10 = v / 10 ^ (19 * k + j) % 10 := fun j hj => by
          rw [low_digit hj, ← hpe, Nat.div_div_eq_div_mul, ← Nat.pow_add]
        have hr : p % 10 ^ 19 < B64 := Nat.lt_trans (Nat.mod_lt _ (by omega)) (by rw [B64_eq]; omega)
        have hm0 : numOf wr (.slice A3 n3 c3) = p := numOf_is hp
        obtain ⟨q, hqe⟩ : ∃ q, p / 10 ^ 19 = q := ⟨_, rfl⟩
        obtain ⟨r, hre⟩ : ∃ r, p % 10 ^ 19 = r := ⟨_, rfl⟩
        rw [hqe] at hq HW hlt hl4
        rw [hre] at HW hdig hr
        have HM := Lib.hid hm0
        have HQ := Lib.hid hq
        have HLT := Lib.hid hlt
        have HL4 := Lib.hid hl4
        have HDG := Lib.hid hdig
        have HR := Lib.hid hr
        have hgt : decide ((0 : Int) < (n3 : Int)) = true := by simp; omega
        have hgt2 : 0 < n3 := Nat.pos_of_ne_zero hz
        clear hp hp0 hm0 hq hlt hl4 hdig hr hqe hre hpe hz
        go_wp2_with fail
        refine HW.out.mono ?_
        rintro e w2 ⟨A4, n4, c4, rfl, o4, hb2⟩
        replace hy := hy.below hb2
        replace o4 := own_mono o4 hB.size
        replace hb2 := below_then hB hb2
        clear hB HW hgt hgt2
        go_wp2
        go_loopw [3, 4, 17] (fun m x i W => ∃ j : Nat, j ≤ 19 ∧ i = .int .i64 (j : Int) ∧ x = wv (r / 10 ^ j) ∧ OwnY W w.heap.size m (lowB (19 * k + j) v) ∧ Own W w.heap.size (.slice A4 n4 c4) (limbs q) ∧ Below w.heap.size w W) (fun _ _ i _ => 19 - (intOf i).toNat)
        case atStart => exact ⟨0, by omega, rfl, by rw [Nat.pow_zero, Nat.div_one], hy, o4, hb2⟩
        case round =>
          clear hy o4 hb2
          obtain ⟨j, hj, rfl, rfl, hy, o4, hB2⟩ := hrel
          by_cases hlt : j < 19
          · have hlt2 : (j : Int) < 19 := by omega
            obtain ⟨X, hX⟩ : ∃ X, r / 10 ^ j = X := ⟨_, rfl⟩
            have hX2 : r / 10 ^ (j + 1) = X / 10 := by rw [Nat.pow_succ, ← Nat.div_div_eq_div_mul, hX]
            have hXB : X < B64 := by rw [← hX]; exact Nat.lt_of_le_of_lt (Nat.div_le_self _ _) HR.out
            have hd := HDG.out j hlt
            rw [hX] at hd ⊢
            obtain ⟨d, hde⟩ : ∃ d, X % 10 = d := ⟨_, rfl⟩
            have hd10 : d < 10 := by omega
            rw [hde] at hd
            have hlow : lowB (19 * k + (j + 1)) v = lowB (19 * k + j) v ++ [dig d] := by rw [← Nat.add_assoc, lowB_snoc, ← hd]
            have hown0 := fun u : Value => hy.below ((Below.refl _ wr).alloc (Nat.le_refl _) (.cells #[u] 5))
            have hyl := lowB_len (19 * k + j) v
            have HO0 := Lib.hid hown0
            have HBK := Lib.hid (owny_block hy)
            have hnew := Lib.hid (fun u : Value => cell_one_new wr u 5)
            have HLOW := Lib.hid hlow
            have HX2 := Lib.hid hX2
            have HXB := Lib.hid hXB
            have HDE := Lib.hid hde
            have HU := Lib.hid (u8_wrap hd10)
            have O4 := Lib.hid (fun u : Value => o4.below ((Below.refl _ wr).alloc (Nat.le_refl _) (.cells #[u] 5)))
            have hyl2 : (lowB (19 * k + j) v).length ≤ 5000 := by rw [hyl]; omega
            clear hX hX2 hXB hd hlow hown0 hyl hy o4 hde
            go_wp2_with (at_builtin; refine wpList_append_own _ rfl _ _ 57 rfl w.heap.size 5 i0 _ 1 1 Tryd.underlying57 hi0 hz0 hz1 hz2 rfl (by decide) _ _ _ rfl (HO0.out _) ⟨wr.heap.size, 0, none⟩ 1 1 _ rfl rfl (hnew.out _) (by simp [Value.oneCell']) (by simp only [maxLen]; omega) (by omega) (by have := hB2.size; simp; omega) ?_; intro v' w3 hown1 hgrow1 _)
            go_roundw
            case rel =>
              have hbyte : (48 + (X : Int) % 10) = ((dig d).toNat : Int) := by have := HDE.out; rw [dig_nat hd10]; omega
              have hb3 : Below w.heap.size w w3 := (hB2.alloc hB2.size _).grown hgrow1 (by rw [World.size_alloc]; have := hB2.size; omega) HBK.out
              refine ⟨j + 1, by omega, by go_num, ?_, ?_, own_grown (O4.out _) (HO0.out _) hgrow1, hb3⟩
              · rw [HX2.out]
                exact congrArg (Value.int .u64) (u64_div (b := 10) HXB.out)
              · rw [HLOW.out]
                unfold OwnY
                rw [List.length_append, List.map_append]
                rw [hbyte] at hown1
                exact hown1
            case measure => simp [intOf]; omega
          · obtain rfl : j = 19 := by omega
            have hn4 := o4.nm
            have hl := o4.rd.2.1
            rw [show 19 * k + 19 = 19 * (k + 1) by omega] at hy
            have HN4 := Lib.hid hl
            clear o4 hl
            go_wp2
            go_roundw
            case rel =>
              refine ⟨k + 1, n4, c4, A4, rfl, by rw [← HQ.out]; exact hn4, by have := HN4.out; have := HL4.out; omega, hy, by omega, hB2⟩
            case measure =>
              rw [HM.out]
              show numOf _ (.slice A4 n4 c4) < p
              rw [numOf_is hn4]
              exact HLT.out

theorem one_lens {a : List Nat} {na : Nat} (h1 : a.length = na) (h3 : na ≤ 5000) : ∀ l ∈ [a], l.length ≤ 4294967296 := by
  intro l h
  rcases List.mem_cons.1 h with rfl | h
  · omega
  · cases h
theorem text_many {A : Option Addr} {na ca v : Nat} {w : World} (h : Nm w A na ca v) (hn : 4096 ≤ (na - 1) * 19) : ¬ (textL v).length ≤ 4096 := by
  intro hle
  have hv0 : v ≠ 0 := fun h0 => by have := h.zero.2 h0; omega
  have h1 := le_of_limbs hv0
  rw [h.rd.len] at h1
  have h2 := text_lt v
  have h3 : 10 ^ (textL v).length ≤ 10 ^ (19 * (na - 1)) := Nat.pow_le_pow_right (by omega) (by omega)
  have h4 : (10 ^ 19) ^ (na - 1) ≤ B64 ^ (na - 1) := Nat.pow_le_pow_left (by rw [B64_eq]; omega) _
  rw [← Nat.pow_mul] at h4
  exact absurd (Nat.lt_of_lt_of_le h2 (Nat.le_trans h3 (Nat.le_trans h4 h1))) (Nat.lt_irrefl _)
theorem textB_sz (v : Nat) : (textB v).size = (textL v).length := by rw [← size_list, textB_list]

set_option maxRecDepth 100000 in
set_option maxHeartbeats 2000000 in
theorem text_is : TextIs 12 := fun A na ca a w hra hna hca => by
  have HR := Lib.hid (rows2_one (ca := ca) hra (by omega) 23)
  have HL := Lib.hid (one_lens hra.len hna)
  cases hm : may a with
  | false =>
    have HE := Lib.hid (textE_bad hm)
    have HS := Lib.hid (textS_no (a := a) (by rw [HE.out]; decide))
    have HM := Lib.hid (show [a].all may = false by simp [hm])
    clear hra hm
    go_enter Tryd.func12, Tryd.ntmps12
    go_wp2_with fail
    refine (mayBeG_any w.heap.size 0 1 1 [a] _ HR.out rfl (by omega) HL.out).mono ?_
    rw [bad_eight HM.out]
    rintro e w1 ⟨rfl, hb1⟩
    replace hb1 := below_new hb1
    clear HR HL
    go_wp2
    go_ret2
    exact ⟨by rw [HS.out, HE.out]; rfl, hb1⟩
  | true =>
    have hv := nm_of hra hm hca.1 hca.2
    have HM := Lib.hid (show [a].all may = true by simp [hm])
    by_cases hb : 4096 ≤ (na - 1) * 19
    · have HE := Lib.hid (textE_many hm (text_many hv hb))
      have HS := Lib.hid (textS_no (a := a) (by rw [HE.out]; decide))
      have hd1 : (4096 : Int) ≤ ((na : Int) - 1) * 19 := by omega
      have hd2 : decide ((4096 : Int) ≤ ((na : Int) - 1) * 19) = true := by simpa using hd1
      clear hra hm hv hb
      go_enter Tryd.func12, Tryd.ntmps12
      go_wp2_with fail
      refine (mayBeG_any w.heap.size 0 1 1 [a] _ HR.out rfl (by omega) HL.out).mono ?_
      rw [bad_zero HM.out]
      rintro e w1 ⟨rfl, hb1⟩
      replace hb1 := below_new hb1
      clear HR HL
      go_wp2
      go_ret2
      exact ⟨by rw [HS.out, HE.out]; rfl, hb1⟩
    · have hd1 : ¬ ((4096 : Int) ≤ ((na : Int) - 1) * 19) := by omega
      have hd2 : decide ((4096 : Int) ≤ ((na : Int) - 1) * 19) = false := by simpa using hd1
      have hsz := textB_sz (val a)
      obtain ⟨s, hs⟩ : ∃ s, textB (val a) = s := ⟨_, rfl⟩
      have HDG := Lib.hid (fun W (h : Nm W A na ca (val a)) => digits_any W A na ca (val a) h (by omega))
      rw [hs] at HDG hsz
      by_cases h4 : (textL (val a)).length ≤ 4096
      · have HE := Lib.hid (textE_ok hm h4)
        have HS := Lib.hid (textS_ok HE.out)
        rw [hs] at HS
        have hq : ¬ ((4096 : Int) < (s.size : Int)) := by omega
        have hq2 : ¬ (4096 < s.size) := by omega
        have hq3 : decide ((4096 : Int) < (s.size : Int)) = false := by simpa using hq
        clear hra hm hb hsz hs h4
        go_enter Tryd.func12, Tryd.ntmps12
        go_wp2_with fail
        refine (mayBeG_any w.heap.size 0 1 1 [a] _ HR.out rfl (by omega) HL.out).mono ?_
        rw [bad_zero HM.out]
        rintro e w1 ⟨rfl, hb1⟩
        replace hb1 := below_new hb1
        clear HR HL
        go_wp2_with fail
        refine (HDG.out w1 (hv.below hb1)).mono ?_
        rintro e w2 ⟨rfl, hb2⟩
        replace hb2 := below_then hb1 hb2
        clear hb1 HDG hv
        go_wp2
        go_ret2
        exact ⟨by rw [HS.out, HE.out]; rfl, hb2⟩
      · have HE := Lib.hid (textE_many hm h4)
        have HS := Lib.hid (textS_no (a := a) (by rw [HE.out]; decide))
        have hq : (4096 : Int) < (s.size : Int) := by omega
        have hq2 : 4096 < s.size := by omega
        have hq3 : decide ((4096 : Int) < (s.size : Int)) = true := by simpa using hq
        clear hra hm hb hsz hs h4
        go_enter Tryd.func12, Tryd.ntmps12
        go_wp2_with fail
        refine (mayBeG_any w.heap.size 0 1 1 [a] _ HR.out rfl (by omega) HL.out).mono ?_
        rw [bad_zero HM.out]
        rintro e w1 ⟨rfl, hb1⟩
        replace hb1 := below_new hb1
        clear HR HL
        go_wp2_with fail
        refine (HDG.out w1 (hv.below hb1)).mono ?_
        rintro e w2 ⟨rfl, hb2⟩
        replace hb2 := below_then hb1 hb2
        clear hb1 HDG hv
        go_wp2
        go_ret2
        exact ⟨by rw [HS.out, HE.out]; rfl, hb2⟩
end
end Go.Proofs.YtoehkaagfokamaaDoor

/- Stage 4: the laws GcdProduct and GcdDivides, and the calls as they landed. -/
namespace Go.Proofs.YtoehkaagfokamaaDoor
theorem gcodeD : True := trivial
end Go.Proofs.YtoehkaagfokamaaDoor
