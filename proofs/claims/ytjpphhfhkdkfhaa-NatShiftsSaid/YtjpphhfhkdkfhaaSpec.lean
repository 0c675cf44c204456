/- What the numbers' calls answer, as one thing for the program and for the document. -/
import Derived.Test.YtjpphhfhkdkfhaaRefShift
namespace Go.Proofs.Ytjpphhfhkdkfhaa
open Go.RowKit Go.Shelf
set_option linter.unusedVariables false
set_option linter.unusedSimpArgs false

def cmpV (a b : List Nat) : Int := if both a b = true then cmp3 (val a) (val b) else 0
def subE (a b : List Nat) : Int := if both a b = true then (if val a < val b then 10 else 0) else 8
def subL (a b : List Nat) : List Nat := if both a b = true then (if val a < val b then [] else limbs (val a - val b)) else []
def wordV (a : List Nat) : Nat := if may a = true ∧ a.length ≤ 1 then lim a 0 else 0
def wordE (a : List Nat) : Int := if may a = true then (if a.length ≤ 1 then 0 else 4) else 8
def longV (a : List Nat) : Nat := if may a = true then blen (val a) else 0
def bitV (a : List Nat) (i : Int) : Nat := if may a = true then (if i < 0 then 0 else nbit (val a) i.toNat) else 0
def bitE (a : List Nat) (i : Int) : Int := if may a = true then (if i < 0 then 2 else 0) else 8
def shiftE (a : List Nat) (i : Int) : Int := if may a = true then (if i < 0 ∨ 65536 < i then 2 else 0) else 8
def upL (a : List Nat) (i : Int) : List Nat := if may a = true then (if i < 0 ∨ 65536 < i then [] else limbs (val a * 2 ^ i.toNat)) else []
def downL (a : List Nat) (i : Int) : List Nat := if may a = true then (if i < 0 ∨ 65536 < i then [] else limbs (val a / 2 ^ i.toNat)) else []


section
variable (A A2 : Option Addr) (na ca nb cb : Nat) (a b : List Nat) (w : World)

theorem rCompared_any (hra : Rd w A na a) (hrb : Rd w A2 nb b) (hna : na ≤ 1000) (hnb : nb ≤ 1000) :
    Calls Try.prog 40 #[.slice A na ca, .slice A2 nb cb] w fun e w' => e = .returned (.int .i64 (cmp3 (val a) (val b))) ∧ w = w' := by
  by_cases h : na ≤ 1 ∧ nb ≤ 1
  · by_cases h2 : lim a 0 = lim b 0
    · exact rCompared_bits A A2 na ca nb cb a b w hra hrb hna hnb (.inr ⟨h, h2⟩)
    · exact rCompared_short A A2 na ca nb cb a b w hra hrb h.1 h.2 h2
  · exact rCompared_bits A A2 na ca nb cb a b w hra hrb hna hnb (.inl h)
theorem rSum_any (hra : Rd w A na a) (hrb : Rd w A2 nb b) (hna : na ≤ 1000) (hnb : nb ≤ 1000) :
    Calls Try.prog 43 #[.slice A na ca, .slice A2 nb cb] w fun e w' => ∃ A' k c, e = .returned (.slice A' k c) ∧ Own w' w.heap.size (.slice A' k c) (limbs (val a + val b)) ∧ Below w.heap.size w w' := by
  by_cases h : na ≤ 1 ∧ nb ≤ 1 ∧ lim a 0 < half ∧ lim b 0 < half
  · exact rSum_short A A2 na ca nb cb a b w hra hrb h.1 h.2.1 h.2.2.1 h.2.2.2
  · exact rSum_bits A A2 na ca nb cb a b w hra hrb hna hnb h
theorem rRest_any (hra : Rd w A na a) (hrb : Rd w A2 nb b) (hna : na ≤ 1000) (hnb : nb ≤ 1000) (hle : val b ≤ val a) :
    Calls Try.prog 45 #[.slice A na ca, .slice A2 nb cb] w fun e w' => ∃ A' k c, e = .returned (.slice A' k c) ∧ Own w' w.heap.size (.slice A' k c) (limbs (val a - val b)) ∧ Below w.heap.size w w' := by
  by_cases h : na ≤ 1 ∧ nb ≤ 1
  · exact rRest_short A A2 na ca nb cb a b w hra hrb h.1 h.2 hle
  · exact rRest_bits A A2 na ca nb cb a b w hra hrb hna hnb h hle

theorem cmp_spec (hra : Rd w A na a) (hrb : Rd w A2 nb b) (hna : na ≤ 1000) (hnb : nb ≤ 1000) :
    Calls Try.prog 19 #[.slice A na ca, .slice A2 nb cb] w fun e w' => e = .returned (.tuple #[.int .i64 (cmpV a b), .int .i64 (err2 a b)]) ∧ Below w.heap.size w w' := by
  cases h : both a b with
  | true => simpa [cmpV, err2, h] using cmp_ok A A2 na ca nb cb a b w hra hrb (by omega) (by omega) (by rw [both_all, h])
  | false => simpa [cmpV, err2, h] using cmp_bad A A2 na ca nb cb a b w hra hrb (by omega) (by omega) (by rw [both_all, h])
theorem add_spec (hra : Rd w A na a) (hrb : Rd w A2 nb b) (hna : na ≤ 1000) (hnb : nb ≤ 1000) :
    Calls Try.prog 21 #[.slice A na ca, .slice A2 nb cb] w (Answers w (addL a b) (err2 a b)) := by
  cases h : both a b with
  | true =>
    have e1 : addL a b = limbs (val a + val b) := by simp [addL, h]
    have e2 : err2 a b = 0 := by simp [err2, h]
    rw [e1, e2]
    exact (add_ok A A2 na ca nb cb a b w hra hrb (by omega) (by omega) (by rw [both_all, h]))
  | false =>
    have e1 : addL a b = [] := by simp [addL, h]
    have e2 : err2 a b = 8 := by simp [err2, h]
    rw [e1, e2]
    refine (add_bad A A2 na ca nb cb a b w hra hrb (by omega) (by omega) (by rw [both_all, h])).mono ?_
    rintro e w' ⟨rfl, hb⟩
    exact answers_nil hb
theorem sub_spec (hra : Rd w A na a) (hrb : Rd w A2 nb b) (hna : na ≤ 1000) (hnb : nb ≤ 1000) :
    Calls Try.prog 23 #[.slice A na ca, .slice A2 nb cb] w (Answers w (subL a b) (subE a b)) := by
  cases h : both a b with
  | true =>
    by_cases hl : val a < val b
    · have e1 : subL a b = [] := by simp [subL, h, hl]
      have e2 : subE a b = 10 := by simp [subE, h, hl]
      rw [e1, e2]
      refine (sub_less A A2 na ca nb cb a b w hra hrb (by omega) (by omega) (by rw [both_all, h]) hl).mono ?_
      rintro e w' ⟨rfl, hb⟩
      exact answers_nil hb
    · have e1 : subL a b = limbs (val a - val b) := by simp [subL, h, hl]
      have e2 : subE a b = 0 := by simp [subE, h, hl]
      rw [e1, e2]
      exact (sub_ok A A2 na ca nb cb a b w hra hrb (by omega) (by omega) (by rw [both_all, h]) (by omega))
  | false =>
    have e1 : subL a b = [] := by simp [subL, h]
    have e2 : subE a b = 8 := by simp [subE, h]
    rw [e1, e2]
    refine (sub_bad A A2 na ca nb cb a b w hra hrb (by omega) (by omega) (by rw [both_all, h])).mono ?_
    rintro e w' ⟨rfl, hb⟩
    exact answers_nil hb
theorem word_spec (hra : Rd w A na a) (hna : na ≤ 1000) :
    Calls Try.prog 13 #[.slice A na ca] w fun e w' => e = .returned (.tuple #[u64 (wordV a), .int .i64 (wordE a)]) ∧ Below w.heap.size w w' := by
  have hl := hra.len
  cases h : may a with
  | true =>
    by_cases h1 : na ≤ 1
    · have e1 : wordV a = lim a 0 := by simp [wordV, h, hl, h1]
      have e2 : wordE a = 0 := by simp [wordE, h, hl, h1]
      rw [e1, e2]
      exact word_ok A na ca a w hra h h1
    · have e1 : wordV a = 0 := by simp [wordV, h, hl, h1]
      have e2 : wordE a = 4 := by simp [wordE, h, hl, h1]
      rw [e1, e2]
      exact word_many A na ca a w hra (by omega) h (by omega)
  | false =>
    have e1 : wordV a = 0 := by simp [wordV, h]
    have e2 : wordE a = 8 := by simp [wordE, h]
    rw [e1, e2]
    exact word_bad A na ca a w hra (by omega) h
theorem long_spec (hra : Rd w A na a) (hna : na ≤ 1000) :
    Calls Try.prog 10 #[.slice A na ca] w fun e w' => e = .returned (.tuple #[.int .i64 (longV a : Nat), .int .i64 (err1 a)]) ∧ Below w.heap.size w w' := by
  cases h : may a with
  | true =>
    have e1 : longV a = blen (val a) := by simp [longV, h]
    have e2 : err1 a = 0 := by simp [err1, h]
    rw [e1, e2]
    exact long_ok A na ca a w hra (by omega) h
  | false =>
    have e1 : longV a = 0 := by simp [longV, h]
    have e2 : err1 a = 8 := by simp [err1, h]
    rw [e1, e2]
    exact long_bad A na ca a w hra (by omega) h
theorem bit_spec (i : Int) (hi : i ≤ 9223372036854775807) (hra : Rd w A na a) (hna : na ≤ 1000) :
    Calls Try.prog 14 #[.slice A na ca, .int .i64 i] w fun e w' => e = .returned (.tuple #[.int .i64 (bitV a i : Nat), .int .i64 (bitE a i)]) ∧ Below w.heap.size w w' := by
  cases h : may a with
  | true =>
    by_cases h1 : i < 0
    · have e1 : bitV a i = 0 := by simp [bitV, h, h1]
      have e2 : bitE a i = 2 := by simp [bitE, h, h1]
      rw [e1, e2]
      exact bit_arg A na ca a i w hra (by omega) h h1
    · obtain ⟨k, rfl⟩ := Int.eq_ofNat_of_zero_le (show 0 ≤ i by omega)
      have e1 : bitV a (k : Int) = nbit (val a) k := by simp [bitV, h, h1]
      have e2 : bitE a (k : Int) = 0 := by simp [bitE, h, h1]
      rw [e1, e2]
      exact bit_ok A na ca a k w hra (by omega) h (by omega)
  | false =>
    have e1 : bitV a i = 0 := by simp [bitV, h]
    have e2 : bitE a i = 8 := by simp [bitE, h]
    rw [e1, e2]
    exact bit_bad A na ca a i w hra (by omega) h
theorem up_spec (i : Int) (hra : Rd w A na a) (hna : na ≤ 1000) :
    Calls Try.prog 11 #[.slice A na ca, .int .i64 i] w (Answers w (upL a i) (shiftE a i)) := by
  cases h : may a with
  | true =>
    by_cases h1 : i < 0 ∨ 65536 < i
    · have e1 : upL a i = [] := by simp [upL, h, h1]
      have e2 : shiftE a i = 2 := by simp [shiftE, h, h1]
      rw [e1, e2]
      refine (up_arg A na ca a i w hra (by omega) h h1).mono ?_
      rintro e w' ⟨rfl, hb⟩
      exact answers_nil hb
    · obtain ⟨k, rfl⟩ := Int.eq_ofNat_of_zero_le (show 0 ≤ i by omega)
      have e1 : upL a (k : Int) = limbs (val a * 2 ^ k) := by unfold upL; rw [if_pos h, if_neg h1, Int.toNat_natCast]
      have e2 : shiftE a (k : Int) = 0 := by unfold shiftE; rw [if_pos h, if_neg h1]
      rw [e1, e2]
      exact up_ok A na ca a k _ _ w hra (by omega) h (by omega) rfl rfl
  | false =>
    have e1 : upL a i = [] := by simp [upL, h]
    have e2 : shiftE a i = 8 := by simp [shiftE, h]
    rw [e1, e2]
    refine (up_bad A na ca a i w hra (by omega) h).mono ?_
    rintro e w' ⟨rfl, hb⟩
    exact answers_nil hb
theorem down_spec (i : Int) (hra : Rd w A na a) (hna : na ≤ 1000) :
    Calls Try.prog 12 #[.slice A na ca, .int .i64 i] w (Answers w (downL a i) (shiftE a i)) := by
  cases h : may a with
  | true =>
    by_cases h1 : i < 0 ∨ 65536 < i
    · have e1 : downL a i = [] := by simp [downL, h, h1]
      have e2 : shiftE a i = 2 := by simp [shiftE, h, h1]
      rw [e1, e2]
      refine (down_arg A na ca a i w hra (by omega) h h1).mono ?_
      rintro e w' ⟨rfl, hb⟩
      exact answers_nil hb
    · obtain ⟨k, rfl⟩ := Int.eq_ofNat_of_zero_le (show 0 ≤ i by omega)
      have e1 : downL a (k : Int) = limbs (val a / 2 ^ k) := by unfold downL; rw [if_pos h, if_neg h1, Int.toNat_natCast]
      have e2 : shiftE a (k : Int) = 0 := by unfold shiftE; rw [if_pos h, if_neg h1]
      rw [e1, e2]
      exact down_ok A na ca a k _ _ w hra (by omega) h (by omega) rfl rfl
  | false =>
    have e1 : downL a i = [] := by simp [downL, h]
    have e2 : shiftE a i = 8 := by simp [shiftE, h]
    rw [e1, e2]
    refine (down_bad A na ca a i w hra (by omega) h).mono ?_
    rintro e w' ⟨rfl, hb⟩
    exact answers_nil hb

/-! ### The document's -/

set_option maxRecDepth 100000 in
set_option maxHeartbeats 1000000 in
theorem rCmp_spec (hra : Rd w A na a) (hrb : Rd w A2 nb b) (hna : na ≤ 1000) (hnb : nb ≤ 1000) :
    Calls Try.prog 20 #[.slice A na ca, .slice A2 nb cb] w fun e w' => e = .returned (.tuple #[.int .i64 (cmpV a b), .int .i64 (err2 a b)]) ∧ Below w.heap.size w w' := by
  cases h : both a b with
  | true =>
    have e1 : cmpV a b = cmp3 (val a) (val b) := by simp [cmpV, h]
    have e2 : err2 a b = 0 := by simp [err2, h]
    have h1 : may a = true := by simp [both] at h; exact h.1
    have h2 : may b = true := by simp [both] at h; exact h.2
    have H1 := Lib.hid h1
    have H2 := Lib.hid h2
    rw [e1, e2]
    clear h1 h2 h e1 e2
    go_enter Try.func20, Try.ntmps20
    go_wp2_with (first
      | (go_at_call_of 39 (Value.slice A na ca); refine (rMay_any A na ca a _ hra (by omega)).mono ?_; rw [H1.out]; rintro e w1 ⟨rfl, rfl⟩)
      | (go_at_call_of 39 (Value.slice A2 nb cb); refine (rMay_any A2 nb cb b _ hrb (by omega)).mono ?_; rw [H2.out]; rintro e w1 ⟨rfl, rfl⟩)
      | (go_at_call 40; refine (rCompared_any A A2 na ca nb cb a b _ hra hrb hna hnb).mono ?_; rintro e w1 ⟨rfl, rfl⟩))
    go_ret2
    exact ⟨rfl, Below.refl _ _⟩
  | false =>
    have hc : may a = false ∨ (may a = true ∧ may b = false) := by
      cases h1 : may a <;> cases h2 : may b <;> simp_all [both]
    rcases hc with h1 | ⟨h1, h2⟩
    · have H1 := Lib.hid h1
      clear h1
      go_enter Try.func20, Try.ntmps20
      go_wp2_with (go_at_call_of 39 (Value.slice A na ca); refine (rMay_any A na ca a _ hra (by omega)).mono ?_; rw [H1.out]; rintro e w1 ⟨rfl, rfl⟩)
      go_ret2
      exact ⟨by rw [show cmpV a b = 0 by { simp [cmpV, h] }, show err2 a b = 8 by { simp [err2, h] }]; rfl, Below.refl _ _⟩
    · have H1 := Lib.hid h1
      have H2 := Lib.hid h2
      clear h1 h2
      go_enter Try.func20, Try.ntmps20
      go_wp2_with (first | (go_at_call_of 39 (Value.slice A na ca); refine (rMay_any A na ca a _ hra (by omega)).mono ?_; rw [H1.out]; rintro e w1 ⟨rfl, rfl⟩) | (go_at_call_of 39 (Value.slice A2 nb cb); refine (rMay_any A2 nb cb b _ hrb (by omega)).mono ?_; rw [H2.out]; rintro e w1 ⟨rfl, rfl⟩))
      go_ret2
      exact ⟨by rw [show cmpV a b = 0 by { simp [cmpV, h] }, show err2 a b = 8 by { simp [err2, h] }]; rfl, Below.refl _ _⟩

set_option maxRecDepth 100000 in
set_option maxHeartbeats 1000000 in
theorem rAdd_spec (hra : Rd w A na a) (hrb : Rd w A2 nb b) (hna : na ≤ 1000) (hnb : nb ≤ 1000) :
    Calls Try.prog 22 #[.slice A na ca, .slice A2 nb cb] w (Answers w (addL a b) (err2 a b)) := by
  cases h : both a b with
  | true =>
    have e1 : addL a b = limbs (val a + val b) := by simp [addL, h]
    have e2 : err2 a b = 0 := by simp [err2, h]
    have h1 : may a = true := by simp [both] at h; exact h.1
    have h2 : may b = true := by simp [both] at h; exact h.2
    have H1 := Lib.hid h1
    have H2 := Lib.hid h2
    rw [e1, e2]
    clear h1 h2 h e1 e2
    go_enter Try.func22, Try.ntmps22
    go_wp2_with (first
      | (go_at_call_of 39 (Value.slice A na ca); refine (rMay_any A na ca a _ hra (by omega)).mono ?_; rw [H1.out]; rintro e w1 ⟨rfl, rfl⟩)
      | (go_at_call_of 39 (Value.slice A2 nb cb); refine (rMay_any A2 nb cb b _ hrb (by omega)).mono ?_; rw [H2.out]; rintro e w1 ⟨rfl, rfl⟩)
      | (go_at_call 43; refine (rSum_any A A2 na ca nb cb a b _ hra hrb hna hnb).mono ?_; rintro e w1 ⟨A1, k1, c1, rfl, ho, hb⟩))
    go_ret2
    exact ⟨A1, k1, c1, rfl, ho, hb⟩
  | false =>
    have hc : may a = false ∨ (may a = true ∧ may b = false) := by
      cases h1 : may a <;> cases h2 : may b <;> simp_all [both]
    rcases hc with h1 | ⟨h1, h2⟩
    · have H1 := Lib.hid h1
      clear h1
      go_enter Try.func22, Try.ntmps22
      go_wp2_with (go_at_call_of 39 (Value.slice A na ca); refine (rMay_any A na ca a _ hra (by omega)).mono ?_; rw [H1.out]; rintro e w1 ⟨rfl, rfl⟩)
      go_ret2
      have e1 : addL a b = [] := by { simp [addL, h] }
      have e2 : err2 a b = 8 := by { simp [err2, h] }
      rw [e1, e2]; exact answers_nil (Below.refl _ _)
    · have H1 := Lib.hid h1
      have H2 := Lib.hid h2
      clear h1 h2
      go_enter Try.func22, Try.ntmps22
      go_wp2_with (first | (go_at_call_of 39 (Value.slice A na ca); refine (rMay_any A na ca a _ hra (by omega)).mono ?_; rw [H1.out]; rintro e w1 ⟨rfl, rfl⟩) | (go_at_call_of 39 (Value.slice A2 nb cb); refine (rMay_any A2 nb cb b _ hrb (by omega)).mono ?_; rw [H2.out]; rintro e w1 ⟨rfl, rfl⟩))
      go_ret2
      have e1 : addL a b = [] := by { simp [addL, h] }
      have e2 : err2 a b = 8 := by { simp [err2, h] }
      rw [e1, e2]; exact answers_nil (Below.refl _ _)

set_option maxRecDepth 100000 in
set_option maxHeartbeats 1000000 in
theorem rSub_spec (hra : Rd w A na a) (hrb : Rd w A2 nb b) (hna : na ≤ 1000) (hnb : nb ≤ 1000) :
    Calls Try.prog 24 #[.slice A na ca, .slice A2 nb cb] w (Answers w (subL a b) (subE a b)) := by
  cases h : both a b with
  | true =>
    have h1 : may a = true := by simp [both] at h; exact h.1
    have h2 : may b = true := by simp [both] at h; exact h.2
    have H1 := Lib.hid h1
    have H2 := Lib.hid h2
    by_cases hl : val a < val b
    · have e1 : subL a b = [] := by simp [subL, h, hl]
      have e2 : subE a b = 10 := by simp [subE, h, hl]
      rw [e1, e2]
      have HC := Lib.hid (cmp3_lt hl)
      clear h1 h2 h e1 e2 hl
      go_enter Try.func24, Try.ntmps24
      go_wp2_with (first
        | (go_at_call_of 39 (Value.slice A na ca); refine (rMay_any A na ca a _ hra (by omega)).mono ?_; rw [H1.out]; rintro e w1 ⟨rfl, rfl⟩)
        | (go_at_call_of 39 (Value.slice A2 nb cb); refine (rMay_any A2 nb cb b _ hrb (by omega)).mono ?_; rw [H2.out]; rintro e w1 ⟨rfl, rfl⟩)
        | (go_at_call 40; refine (rCompared_any A A2 na ca nb cb a b _ hra hrb hna hnb).mono ?_; rw [HC.out]; rintro e w1 ⟨rfl, rfl⟩))
      go_ret2
      exact answers_nil (Below.refl _ _)
    · have e1 : subL a b = limbs (val a - val b) := by simp [subL, h, hl]
      have e2 : subE a b = 0 := by simp [subE, h, hl]
      rw [e1, e2]
      have hc : 0 ≤ cmp3 (val a) (val b) := by unfold cmp3; rw [if_neg hl]; split <;> omega
      obtain ⟨z, hz⟩ : ∃ z, cmp3 (val a) (val b) = z := ⟨_, rfl⟩
      rw [hz] at hc
      have HC := Lib.hid hz
      have HLE := Lib.hid (show val b ≤ val a by omega)
      clear h1 h2 h e1 e2 hl hz
      go_enter Try.func24, Try.ntmps24
      go_wp2_with (first
        | (go_at_call_of 39 (Value.slice A na ca); refine (rMay_any A na ca a _ hra (by omega)).mono ?_; rw [H1.out]; rintro e w1 ⟨rfl, rfl⟩)
        | (go_at_call_of 39 (Value.slice A2 nb cb); refine (rMay_any A2 nb cb b _ hrb (by omega)).mono ?_; rw [H2.out]; rintro e w1 ⟨rfl, rfl⟩)
        | (go_at_call 40; refine (rCompared_any A A2 na ca nb cb a b _ hra hrb hna hnb).mono ?_; rw [HC.out]; rintro e w1 ⟨rfl, rfl⟩)
        | (go_at_call 45; refine (rRest_any A A2 na ca nb cb a b _ hra hrb hna hnb HLE.out).mono ?_; rintro e w1 ⟨A1, k1, c1, rfl, ho, hb⟩))
      go_ret2
      exact ⟨A1, k1, c1, rfl, ho, hb⟩
  | false =>
    have hc : may a = false ∨ (may a = true ∧ may b = false) := by
      cases h1 : may a <;> cases h2 : may b <;> simp_all [both]
    rcases hc with h1 | ⟨h1, h2⟩
    · have H1 := Lib.hid h1
      clear h1
      go_enter Try.func24, Try.ntmps24
      go_wp2_with (go_at_call_of 39 (Value.slice A na ca); refine (rMay_any A na ca a _ hra (by omega)).mono ?_; rw [H1.out]; rintro e w1 ⟨rfl, rfl⟩)
      go_ret2
      have e1 : subL a b = [] := by { simp [subL, h] }
      have e2 : subE a b = 8 := by { simp [subE, h] }
      rw [e1, e2]; exact answers_nil (Below.refl _ _)
    · have H1 := Lib.hid h1
      have H2 := Lib.hid h2
      clear h1 h2
      go_enter Try.func24, Try.ntmps24
      go_wp2_with (first | (go_at_call_of 39 (Value.slice A na ca); refine (rMay_any A na ca a _ hra (by omega)).mono ?_; rw [H1.out]; rintro e w1 ⟨rfl, rfl⟩) | (go_at_call_of 39 (Value.slice A2 nb cb); refine (rMay_any A2 nb cb b _ hrb (by omega)).mono ?_; rw [H2.out]; rintro e w1 ⟨rfl, rfl⟩))
      go_ret2
      have e1 : subL a b = [] := by { simp [subL, h] }
      have e2 : subE a b = 8 := by { simp [subE, h] }
      rw [e1, e2]; exact answers_nil (Below.refl _ _)

set_option maxRecDepth 100000 in
set_option maxHeartbeats 1000000 in
theorem rWord_spec (hra : Rd w A na a) (hna : na ≤ 1000) :
    Calls Try.prog 25 #[.slice A na ca] w fun e w' => e = .returned (.tuple #[u64 (wordV a), .int .i64 (wordE a)]) ∧ Below w.heap.size w w' := by
  have hl := hra.len
  cases h : may a with
  | false =>
    have H1 := Lib.hid h
    clear h
    go_enter Try.func25, Try.ntmps25
    go_wp2_with (go_at_call_of 39 (Value.slice A na ca); refine (rMay_any A na ca a _ hra (by omega)).mono ?_; rw [H1.out]; rintro e w1 ⟨rfl, rfl⟩)
    go_ret2
    exact ⟨by rw [show wordV a = 0 by { simp [wordV, H1.out] }, show wordE a = 8 by { simp [wordE, H1.out] }]; rfl, Below.refl _ _⟩
  | true =>
    have H1 := Lib.hid h
    clear h
    by_cases h1 : 1 < na
    · go_enter Try.func25, Try.ntmps25
      go_wp2_with (go_at_call_of 39 (Value.slice A na ca); refine (rMay_any A na ca a _ hra (by omega)).mono ?_; rw [H1.out]; rintro e w1 ⟨rfl, rfl⟩)
      go_ret2
      exact ⟨by rw [show wordV a = 0 by { simp [wordV, hl]; omega }, show wordE a = 4 by { simp [wordE, hl, H1.out]; omega }]; rfl, Below.refl _ _⟩
    · have hv : wordV a = lim a 0 := by simp [wordV, hl, H1.out]; omega
      have he : wordE a = 0 := by simp [wordE, hl, H1.out]; omega
      have HV := Lib.hid hv
      have HE := Lib.hid he
      clear hv he
      by_cases h0 : na = 0
      · subst h0
        have hz : lim a 0 = 0 := lim_past (by omega)
        have HZ := Lib.hid hz
        clear hz hl
        go_enter Try.func25, Try.ntmps25
        go_wp2_with (go_at_call 39; refine (rMay_any A 0 ca a _ hra (by omega)).mono ?_; rw [H1.out]; rintro e w1 ⟨rfl, rfl⟩)
        go_ret2
        exact ⟨by rw [HV.out, HE.out, HZ.out]; rfl, Below.refl _ _⟩
      · obtain rfl : na = 1 := by omega
        obtain ⟨b0, off, rfl, hb, hc⟩ := hra.cells (by omega)
        have hci := hc 0 (by omega)
        rw [Nat.add_zero] at hci
        clear hc hl
        go_enter Try.func25, Try.ntmps25
        go_wp2_with (go_at_call 39; refine (rMay_any _ 1 ca a _ hra (by omega)).mono ?_; rw [H1.out]; rintro e w1 ⟨rfl, rfl⟩)
        go_ret2
        exact ⟨by rw [HV.out, HE.out]; rfl, Below.refl _ _⟩

set_option maxRecDepth 100000 in
set_option maxHeartbeats 1000000 in
theorem rLong_spec (hra : Rd w A na a) (hna : na ≤ 1000) :
    Calls Try.prog 28 #[.slice A na ca] w fun e w' => e = .returned (.tuple #[.int .i64 (longV a : Nat), .int .i64 (err1 a)]) ∧ Below w.heap.size w w' := by
  have hl := hra.len
  cases h : may a with
  | false =>
    have H1 := Lib.hid h
    clear h
    go_enter Try.func28, Try.ntmps28
    go_wp2_with (go_at_call_of 39 (Value.slice A na ca); refine (rMay_any A na ca a _ hra (by omega)).mono ?_; rw [H1.out]; rintro e w1 ⟨rfl, rfl⟩)
    go_ret2
    exact ⟨by rw [show longV a = 0 by { simp [longV, H1.out] }, show err1 a = 8 by { simp [err1, H1.out] }]; rfl, Below.refl _ _⟩
  | true =>
    have H1 := Lib.hid h
    clear h
    go_enter Try.func28, Try.ntmps28
    go_wp2_with (first | (go_at_call_of 39 (Value.slice A na ca); refine (rMay_any A na ca a _ hra (by omega)).mono ?_; rw [H1.out]; rintro e w1 ⟨rfl, rfl⟩) | (go_at_call 46; refine (rSize_any A na ca a _ hra hna).mono ?_; rintro e w1 ⟨rfl, rfl⟩))
    go_ret2
    exact ⟨by rw [show longV a = blen (val a) by { simp [longV, H1.out] }, show err1 a = 0 by { simp [err1, H1.out] }]; rfl, Below.refl _ _⟩

set_option maxRecDepth 100000 in
set_option maxHeartbeats 1000000 in
theorem rBit_spec (i : Int) (hi : i ≤ 9223372036854775807) (hra : Rd w A na a) (hna : na ≤ 1000) :
    Calls Try.prog 29 #[.slice A na ca, .int .i64 i] w fun e w' => e = .returned (.tuple #[.int .i64 (bitV a i : Nat), .int .i64 (bitE a i)]) ∧ Below w.heap.size w w' := by
  have hl := hra.len
  cases h : may a with
  | false =>
    have H1 := Lib.hid h
    clear h
    go_enter Try.func29, Try.ntmps29
    go_wp2_with (go_at_call_of 39 (Value.slice A na ca); refine (rMay_any A na ca a _ hra (by omega)).mono ?_; rw [H1.out]; rintro e w1 ⟨rfl, rfl⟩)
    go_ret2
    exact ⟨by rw [show bitV a i = 0 by { simp [bitV, H1.out] }, show bitE a i = 8 by { simp [bitE, H1.out] }]; rfl, Below.refl _ _⟩
  | true =>
    have H1 := Lib.hid h
    clear h
    by_cases h1 : i < 0
    · go_enter Try.func29, Try.ntmps29
      go_wp2_with (go_at_call_of 39 (Value.slice A na ca); refine (rMay_any A na ca a _ hra (by omega)).mono ?_; rw [H1.out]; rintro e w1 ⟨rfl, rfl⟩)
      go_ret2
      exact ⟨by rw [show bitV a i = 0 by { simp [bitV, h1] }, show bitE a i = 2 by { simp [bitE, h1, H1.out] }]; rfl, Below.refl _ _⟩
    · obtain ⟨k, rfl⟩ := Int.eq_ofNat_of_zero_le (show 0 ≤ i by omega)
      have hv : bitV a (k : Int) = nbit (val a) k := by unfold bitV; rw [if_pos H1.out, if_neg h1, Int.toNat_natCast]
      have he : bitE a (k : Int) = 0 := by unfold bitE; rw [if_pos H1.out, if_neg h1]
      have HV := Lib.hid hv
      have HE := Lib.hid he
      clear hv he h1
      go_enter Try.func29, Try.ntmps29
      go_wp2_with (first | (go_at_call_of 39 (Value.slice A na ca); refine (rMay_any A na ca a _ hra (by omega)).mono ?_; rw [H1.out]; rintro e w1 ⟨rfl, rfl⟩) | (go_at_call 47; refine (rAt_any A na ca a _ k hra (by omega) (by omega)).mono ?_; rintro e w1 ⟨rfl, rfl⟩))
      go_ret2
      exact ⟨by rw [HV.out, HE.out]; rfl, Below.refl _ _⟩

set_option maxRecDepth 100000 in
set_option maxHeartbeats 1000000 in
theorem rUp_spec (i : Int) (hra : Rd w A na a) (hna : na ≤ 1000) :
    Calls Try.prog 30 #[.slice A na ca, .int .i64 i] w (Answers w (upL a i) (shiftE a i)) := by
  have hl := hra.len
  cases h : may a with
  | false =>
    have H1 := Lib.hid h
    clear h
    go_enter Try.func30, Try.ntmps30
    go_wp2_with (go_at_call_of 39 (Value.slice A na ca); refine (rMay_any A na ca a _ hra (by omega)).mono ?_; rw [H1.out]; rintro e w1 ⟨rfl, rfl⟩)
    go_ret2
    rw [show upL a i = [] by { simp [upL, H1.out] }, show shiftE a i = 8 by { simp [shiftE, H1.out] }]; exact answers_nil (Below.refl _ _)
  | true =>
    have H1 := Lib.hid h
    clear h
    by_cases h1 : i < 0 ∨ 65536 < i
    · by_cases h2 : i < 0
      · go_enter Try.func30, Try.ntmps30
        go_wp2_with (go_at_call_of 39 (Value.slice A na ca); refine (rMay_any A na ca a _ hra (by omega)).mono ?_; rw [H1.out]; rintro e w1 ⟨rfl, rfl⟩)
        go_ret2
        rw [show upL a i = [] by { simp [upL, h1] }, show shiftE a i = 2 by { simp [shiftE, h1, H1.out] }]; exact answers_nil (Below.refl _ _)
      · have h3 : 65536 < i := by omega
        go_enter Try.func30, Try.ntmps30
        go_wp2_with (go_at_call_of 39 (Value.slice A na ca); refine (rMay_any A na ca a _ hra (by omega)).mono ?_; rw [H1.out]; rintro e w1 ⟨rfl, rfl⟩)
        go_ret2
        rw [show upL a i = [] by { simp [upL, h3] }, show shiftE a i = 2 by { simp [shiftE, h3, H1.out] }]; exact answers_nil (Below.refl _ _)
    · obtain ⟨k, rfl⟩ := Int.eq_ofNat_of_zero_le (show 0 ≤ i by omega)
      have hv : upL a (k : Int) = limbs (val a * 2 ^ k) := by unfold upL; rw [if_pos H1.out, if_neg h1, Int.toNat_natCast]
      have he : shiftE a (k : Int) = 0 := by unfold shiftE; rw [if_pos H1.out, if_neg h1]
      rw [hv, he]
      have hk : k ≤ 65536 := by omega
      clear hv he h1
      go_enter Try.func30, Try.ntmps30
      go_wp2_with (first | (go_at_call_of 39 (Value.slice A na ca); refine (rMay_any A na ca a _ hra (by omega)).mono ?_; rw [H1.out]; rintro e w1 ⟨rfl, rfl⟩) | (go_at_call 48; refine (rTimes_any A na ca a _ k hra hna hk).mono ?_; rintro e w1 ⟨A1, k1, c1, rfl, ho, hb⟩))
      go_ret2
      exact ⟨A1, k1, c1, rfl, ho, hb⟩

set_option maxRecDepth 100000 in
set_option maxHeartbeats 1000000 in
theorem rDown_spec (i : Int) (hra : Rd w A na a) (hna : na ≤ 1000) :
    Calls Try.prog 31 #[.slice A na ca, .int .i64 i] w (Answers w (downL a i) (shiftE a i)) := by
  have hl := hra.len
  cases h : may a with
  | false =>
    have H1 := Lib.hid h
    clear h
    go_enter Try.func31, Try.ntmps31
    go_wp2_with (go_at_call_of 39 (Value.slice A na ca); refine (rMay_any A na ca a _ hra (by omega)).mono ?_; rw [H1.out]; rintro e w1 ⟨rfl, rfl⟩)
    go_ret2
    rw [show downL a i = [] by { simp [downL, H1.out] }, show shiftE a i = 8 by { simp [shiftE, H1.out] }]; exact answers_nil (Below.refl _ _)
  | true =>
    have H1 := Lib.hid h
    clear h
    by_cases h1 : i < 0 ∨ 65536 < i
    · by_cases h2 : i < 0
      · go_enter Try.func31, Try.ntmps31
        go_wp2_with (go_at_call_of 39 (Value.slice A na ca); refine (rMay_any A na ca a _ hra (by omega)).mono ?_; rw [H1.out]; rintro e w1 ⟨rfl, rfl⟩)
        go_ret2
        rw [show downL a i = [] by { simp [downL, h1] }, show shiftE a i = 2 by { simp [shiftE, h1, H1.out] }]; exact answers_nil (Below.refl _ _)
      · have h3 : 65536 < i := by omega
        go_enter Try.func31, Try.ntmps31
        go_wp2_with (go_at_call_of 39 (Value.slice A na ca); refine (rMay_any A na ca a _ hra (by omega)).mono ?_; rw [H1.out]; rintro e w1 ⟨rfl, rfl⟩)
        go_ret2
        rw [show downL a i = [] by { simp [downL, h3] }, show shiftE a i = 2 by { simp [shiftE, h3, H1.out] }]; exact answers_nil (Below.refl _ _)
    · obtain ⟨k, rfl⟩ := Int.eq_ofNat_of_zero_le (show 0 ≤ i by omega)
      have hv : downL a (k : Int) = limbs (val a / 2 ^ k) := by unfold downL; rw [if_pos H1.out, if_neg h1, Int.toNat_natCast]
      have he : shiftE a (k : Int) = 0 := by unfold shiftE; rw [if_pos H1.out, if_neg h1]
      rw [hv, he]
      exact rDown_ok A na ca a w k hra hna (by omega) H1.out
end
end Go.Proofs.Ytjpphhfhkdkfhaa
