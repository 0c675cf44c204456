import Derived.Test.YtbldimplddiheaaGreatDoorKRefGcd3
import Derived.Test.YtbldimplddiheaaGreatDoorKMSpec
import Derived.Test.YtbldimplddiheaaGreatDoorKRefText
import Derived.Test.YtbldimplddiheaaGreatDoorKTimes
/- GSpec RefParse GTexts. -/
/- What Gcd and Lcm are; the law GcdTells. -/
namespace Go.Proofs.YtbldimplddiheaaGreatDoor
open Go.RowKit Go.Shelf
set_option linter.unusedVariables false
set_option linter.unusedSimpArgs false

def GcdIs (F : Nat) : Prop := ∀ (A A2 : Option Addr) (na ca nb cb : Nat) (a b : List Nat) (w : World), Rd w A na a → Rd w A2 nb b → na ≤ 400 → nb ≤ 400 → (na ≤ ca ∧ ca ≤ 9223372036854775807) → (nb ≤ cb ∧ cb ≤ 9223372036854775807) →
  Calls Tryz.prog F #[.slice A na ca, .slice A2 nb cb] w (Answers w (gcdL a b) (err2 a b))
def LcmIs (F : Nat) : Prop := ∀ (A A2 : Option Addr) (na ca nb cb : Nat) (a b : List Nat) (w : World), Rd w A na a → Rd w A2 nb b → na ≤ 400 → nb ≤ 400 → (na ≤ ca ∧ ca ≤ 9223372036854775807) → (nb ≤ cb ∧ cb ≤ 9223372036854775807) →
  Calls Tryz.prog F #[.slice A na ca, .slice A2 nb cb] w (Answers w (lcmL a b) (err2 a b))
section
variable {F : Nat} {A A2 : Option Addr} {na ca nb cb v u : Nat} {w : World}
theorem both_nm (v u : Nat) : both (limbs v) (limbs u) = true := by simp [both, may_limbs]
theorem gcd_nm (hG : GcdIs F) (hva : Nm w A na ca v) (hub : Nm w A2 nb cb u) (hna : na ≤ 400) (hnb : nb ≤ 400) :
    Calls Tryz.prog F #[.slice A na ca, .slice A2 nb cb] w fun e w' => ∃ A' k c, e = .returned (.tuple #[.slice A' k c, .int .i64 0]) ∧ Own w' w.heap.size (.slice A' k c) (limbs (Nat.gcd v u)) ∧ Below w.heap.size w w' := by
  have h := hG A A2 na ca nb cb (limbs v) (limbs u) w hva.rd hub.rd hna hnb ⟨hva.nc, hva.cm⟩ ⟨hub.nc, hub.cm⟩
  rw [show gcdL (limbs v) (limbs u) = limbs (Nat.gcd v u) by simp [gcdL, both_nm, val_limbs], show err2 (limbs v) (limbs u) = 0 by simp [err2, both_nm]] at h
  exact h
theorem lcm_nm (hM : LcmIs F) (hva : Nm w A na ca v) (hub : Nm w A2 nb cb u) (hna : na ≤ 400) (hnb : nb ≤ 400) :
    Calls Tryz.prog F #[.slice A na ca, .slice A2 nb cb] w fun e w' => ∃ A' k c, e = .returned (.tuple #[.slice A' k c, .int .i64 0]) ∧ Own w' w.heap.size (.slice A' k c) (limbs (Nat.lcm v u)) ∧ Below w.heap.size w w' := by
  have h := hM A A2 na ca nb cb (limbs v) (limbs u) w hva.rd hub.rd hna hnb ⟨hva.nc, hva.cm⟩ ⟨hub.nc, hub.cm⟩
  rw [show lcmL (limbs v) (limbs u) = limbs (Nat.lcm v u) by simp [lcmL, both_nm, val_limbs], show err2 (limbs v) (limbs u) = 0 by simp [err2, both_nm]] at h
  exact h
theorem gcd_no {a b : List Nat} (hG : GcdIs F) (hra : Rd w A na a) (hrb : Rd w A2 nb b) (hna : na ≤ 400) (hnb : nb ≤ 400) (q1 : na ≤ ca ∧ ca ≤ 9223372036854775807) (q2 : nb ≤ cb ∧ cb ≤ 9223372036854775807) (hm : both a b = false) :
    Calls Tryz.prog F #[.slice A na ca, .slice A2 nb cb] w fun e w' => ∃ A' c, e = .returned (.tuple #[.slice A' 0 c, .int .i64 8]) ∧ Below w.heap.size w w' := by
  have h := hG A A2 na ca nb cb a b w hra hrb hna hnb q1 q2
  rw [show gcdL a b = [] by simp [gcdL, hm], show err2 a b = 8 by simp [err2, hm]] at h
  refine h.mono ?_
  rintro e w' ⟨A3, k3, c3, rfl, o3, hb⟩
  obtain rfl : k3 = 0 := o3.rd.2.1
  exact ⟨_, _, rfl, hb⟩
theorem lcm_no {a b : List Nat} (hM : LcmIs F) (hra : Rd w A na a) (hrb : Rd w A2 nb b) (hna : na ≤ 400) (hnb : nb ≤ 400) (q1 : na ≤ ca ∧ ca ≤ 9223372036854775807) (q2 : nb ≤ cb ∧ cb ≤ 9223372036854775807) (hm : both a b = false) :
    Calls Tryz.prog F #[.slice A na ca, .slice A2 nb cb] w fun e w' => ∃ A' c, e = .returned (.tuple #[.slice A' 0 c, .int .i64 8]) ∧ Below w.heap.size w w' := by
  have h := hM A A2 na ca nb cb a b w hra hrb hna hnb q1 q2
  rw [show lcmL a b = [] by simp [lcmL, hm], show err2 a b = 8 by simp [err2, hm]] at h
  refine h.mono ?_
  rintro e w' ⟨A3, k3, c3, rfl, o3, hb⟩
  obtain rfl : k3 = 0 := o3.rd.2.1
  exact ⟨_, _, rfl, hb⟩
theorem gcd_len {w2 : World} (hva : Nm w A na ca v) (hub : Nm w2 A2 nb cb u) : (limbs (Nat.gcd v u)).length ≤ na + nb := by
  by_cases h : v = 0
  · subst h
    rw [Nat.gcd_zero_left, hub.rd.len]; omega
  · have := length_of_le (words_limbs v) (n := Nat.gcd v u) (by rw [val_limbs]; exact Nat.gcd_le_left u (Nat.pos_of_ne_zero h))
    rw [hva.rd.len] at this
    omega
theorem lcm_len {w2 : World} (hva : Nm w A na ca v) (hub : Nm w2 A2 nb cb u) : (limbs (Nat.lcm v u)).length ≤ na + nb := by
  have h : Nat.lcm v u ≤ v * u := Nat.div_le_self _ _
  have h2 := length_of_le (words_limbs (v * u)) (n := Nat.lcm v u) (by rw [val_limbs]; exact h)
  have h3 := mul_len hva hub
  omega
end

end Go.Proofs.YtbldimplddiheaaGreatDoor

/- The document's Parse. -/
namespace Go.Proofs.YtbldimplddiheaaGreatDoor
open Go.RowKit Go.Shelf
set_option linter.unusedVariables false
set_option linter.unusedSimpArgs false

def parseE (s : ByteArray) : Int := if 4096 < s.size then 3 else if okL s.data.toList then 0 else 8
def parseL (s : ByteArray) : List Nat := if parseE s = 0 then limbs (numV s.data.toList) else []
theorem parseE_long {s : ByteArray} (h : 4096 < s.size) : parseE s = 3 := by simp [parseE, h]
theorem parseE_ok {s : ByteArray} (h : s.size ≤ 4096) (h2 : okL s.data.toList = true) : parseE s = 0 := by simp [parseE, h2]; omega
theorem parseE_bad {s : ByteArray} (h : s.size ≤ 4096) (h2 : okL s.data.toList = false) : parseE s = 8 := by simp [parseE, h2]; omega
theorem parseL_ok {s : ByteArray} (h : parseE s = 0) : parseL s = limbs (numV s.data.toList) := by simp [parseL, h]
theorem parseL_no {s : ByteArray} (h : parseE s ≠ 0) : parseL s = [] := by simp [parseL, h]
theorem take_snoc (s : ByteArray) (k : Nat) (h : k < s.size) : s.data.toList.take (k + 1) = s.data.toList.take k ++ [s[k]] := by
  rw [List.take_succ_eq_append_getElem (by simpa using h)]; rfl
theorem size_list (s : ByteArray) : s.data.toList.length = s.size := by simp
theorem num_step {s : ByteArray} {k : Nat} (h : k < s.size) : numV (s.data.toList.take (k + 1)) = numV (s.data.toList.take k) * 10 + (s[k].toNat - 48) := by
  rw [take_snoc s k h, numV_snoc]
theorem all_step {s : ByteArray} {k : Nat} (h : k < s.size) : (s.data.toList.take (k + 1)).all isD = ((s.data.toList.take k).all isD && isD s[k]) := by
  rw [take_snoc s k h, List.all_append]; simp
theorem all_bad {s : ByteArray} {k : Nat} (h : k < s.size) (h2 : isD s[k] = false) : okL s.data.toList = false := by
  have h3 : s.data.toList.all isD = false := by
    rw [List.all_eq_false]
    exact ⟨s[k], Array.mem_toList_iff.2 (Array.getElem_mem (xs := s.data) h), by simp [h2]⟩
  simp [okL, h3]
theorem num_lt_bits {l : List UInt8} (h : l.all isD = true) {n : Nat} (hn : l.length ≤ n) : numV l < B64 ^ (n / 16 + 1) := by
  have h1 := num_lt l h
  have h2 : (10 : Nat) ^ l.length ≤ 16 ^ l.length := Nat.pow_le_pow_left (by omega) _
  have h3 : (16 : Nat) ^ l.length ≤ 16 ^ (16 * (n / 16 + 1)) := Nat.pow_le_pow_right (by omega) (by omega)
  have h4 : (16 : Nat) ^ (16 * (n / 16 + 1)) = B64 ^ (n / 16 + 1) := by rw [Nat.pow_mul]; rfl
  omega
theorem len_ten {l : List UInt8} (h : l.all isD = true) {n : Nat} (hn : l.length ≤ n) : (limbs (numV l * 10)).length ≤ n / 16 + 2 := by
  refine limbs_length_le ?_
  have h1 := num_lt_bits h hn
  have h2 : B64 ^ (n / 16 + 2) = B64 ^ (n / 16 + 1) * B64 := Nat.pow_succ ..
  have h3 : numV l * 10 < B64 ^ (n / 16 + 1) * 10 := by omega
  have h4 : B64 ^ (n / 16 + 1) * 10 ≤ B64 ^ (n / 16 + 1) * B64 := Nat.mul_le_mul_left _ (by rw [B64_eq]; omega)
  omega
/-- A text's first byte is a nought, and there are more. -/
def nought (s : ByteArray) : Prop := s.data.toList.head? = some 48 ∧ 1 < s.size
theorem ok_iff {s : ByteArray} (h : s.data.toList ≠ []) (h2 : ¬ nought s) : okL s.data.toList = s.data.toList.all isD := by
  unfold nought at h2
  unfold okL
  have e : (s.data.toList.head? != some 48 || s.data.toList.length == 1) = true := by
    by_cases h3 : s.data.toList.head? = some 48
    · have h4 : ¬ 1 < s.size := fun x => h2 ⟨h3, x⟩
      have h5 : s.data.toList.length ≠ 0 := fun x => h (List.eq_nil_of_length_eq_zero x)
      have h6 := size_list s
      have h7 : s.data.toList.length = 1 := by omega
      rw [h7]; simp
    · simp [h3]
  rw [e, List.isEmpty_eq_false_iff.2 h]
  rfl
theorem ok_nought {s : ByteArray} (h : nought s) : okL s.data.toList = false := by
  obtain ⟨h1, h2⟩ := h
  have h6 := size_list s
  have h7 : (s.data.toList.length == 1) = false := by simp; omega
  unfold okL
  rw [h1, h7]; simp
theorem head_zero {s : ByteArray} (h : 0 < s.size) : s.data.toList.head? = some s[0] := by
  rw [List.head?_eq_getElem?, List.getElem?_eq_getElem (by simpa using h)]; rfl

section
variable (s : ByteArray) (w : World)
end
end Go.Proofs.YtbldimplddiheaaGreatDoor

/- What Text and Parse are; the law GcdTexts: digits to ten are the document's. -/
namespace Go.Proofs.YtbldimplddiheaaGreatDoor
open Go.RowKit Go.Shelf
set_option linter.unusedVariables false
set_option linter.unusedSimpArgs false

def TextIs (F : Nat) : Prop := ∀ (A : Option Addr) (na ca : Nat) (a : List Nat) (w : World), Rd w A na a → na ≤ 5000 → (na ≤ ca ∧ ca ≤ 9223372036854775807) →
  Calls Tryz.prog F #[.slice A na ca] w fun e w' => e = .returned (.tuple #[.string (textS a), .int .i64 (textE a)]) ∧ Below w.heap.size w w'
def ParseIs (F : Nat) : Prop := ∀ (s : ByteArray) (w : World), s.size ≤ 70000 → Calls Tryz.prog F #[.string s] w (Answers w (parseL s) (parseE s))
theorem parse_len (s : ByteArray) : (parseL s).length ≤ 300 := by
  by_cases h : parseE s = 0
  · rw [parseL_ok h]
    by_cases h2 : 4096 < s.size
    · rw [parseE_long h2] at h; exact absurd h (by decide)
    · cases hk : okL s.data.toList with
      | false => rw [parseE_bad (by omega) hk] at h; exact absurd h (by decide)
      | true =>
        have h3 : s.data.toList.all isD = true := by
          unfold okL at hk
          simp only [Bool.and_eq_true] at hk
          exact hk.2
        have h4 := limbs_length_le (num_lt_bits h3 (n := 4096) (by rw [size_list]; omega))
        omega
  · rw [parseL_no h]; simp

section
variable (A : Option Addr) (na ca : Nat) (a : List Nat) (s : ByteArray) (w : World)
end
end Go.Proofs.YtbldimplddiheaaGreatDoor
