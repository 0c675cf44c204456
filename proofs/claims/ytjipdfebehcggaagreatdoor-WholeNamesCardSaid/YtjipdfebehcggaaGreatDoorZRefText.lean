import Derived.Test.YtjipdfebehcggaaGreatDoorZRefTens
/- RefText. -/
/- The document's Text. -/
namespace Go.Proofs.YtjipdfebehcggaaGreatDoor
open Go.RowKit Go.Shelf
set_option linter.unusedVariables false
set_option linter.unusedSimpArgs false

/-- The error of Text of a number, and the text. -/
def textE (a : List Nat) : Int := if may a then (if (textL (val a)).length ≤ 4096 then 0 else 4) else 8
def textS (a : List Nat) : ByteArray := if textE a = 0 then textB (val a) else ⟨#[]⟩
theorem textE_bad {a : List Nat} (h : may a = false) : textE a = 8 := by simp [textE, h]
theorem textE_many {a : List Nat} (h : may a = true) (h2 : ¬ (textL (val a)).length ≤ 4096) : textE a = 4 := by simp [textE, h, h2]
theorem textE_ok {a : List Nat} (h : may a = true) (h2 : (textL (val a)).length ≤ 4096) : textE a = 0 := by simp [textE, h, h2]
theorem textS_ok {a : List Nat} (h : textE a = 0) : textS a = textB (val a) := by simp [textS, h]
theorem textS_no {a : List Nat} (h : textE a ≠ 0) : textS a = ⟨#[]⟩ := by simp [textS, h]
theorem text_blen {n k : Nat} (h : (textL n).length ≤ k) : blen n ≤ 4 * k := blen_le (text_bits h)
theorem Nm.blen {w : World} {A : Option Addr} {n c v : Nat} (h : Nm w A n c v) : n ≤ Go.Proofs.YtjipdfebehcggaaGreatDoor.blen v / 64 + 1 := by
  refine h.len ?_
  rw [B64_pow]
  exact Nat.lt_of_lt_of_le (blen_lt v) (Nat.pow_le_pow_right (by omega) (by omega))
theorem textB_size (n : Nat) : (textB n).size = (textL n).length := by simp [textB, ByteArray.size]

section
variable (A : Option Addr) (na ca : Nat) (a : List Nat) (w : World)
set_option maxRecDepth 100000 in
set_option maxHeartbeats 1000000 in
theorem rSize_big (hra : Rd w A na a) (hna : na ≤ 100000) :
    Calls Tryz.prog 68 #[.slice A na ca] w fun e w' => e = .returned (.int .i64 (blen (val a) : Nat)) ∧ w = w' := by
  have hva : val a < 2 ^ (64 * na) := val_lt_bits hra.words (by rw [hra.len]; omega)
  have HVA := Lib.hid hva
  clear hva
  go_enter Tryz.func68, Tryz.ntmps68
  go_wp2
  go_loop [3] (fun i => ∃ k : Nat, k ≤ 64 * na ∧ i = .int .i64 ((k : Int) - 1) ∧ val a / 2 ^ k = 0) (fun i => (intOf i + 1).toNat)
  case atStart => exact ⟨64 * na, Nat.le_refl _, by simp, Nat.div_eq_of_lt HVA.out⟩
  case round =>
    obtain ⟨k, hk, rfl, hdiv⟩ := hrel
    by_cases h0 : k = 0
    · subst h0
      have hv : blen (val a) = 0 := by
        simp at hdiv
        rw [hdiv]; rfl
      have HV := Lib.hid hv
      clear hdiv hv
      go_wp2
      go_ret
      exact ⟨by rw [HV.out]; rfl, rfl⟩
    · obtain ⟨j, rfl⟩ : ∃ j, k = j + 1 := ⟨k - 1, by omega⟩
      have HD := Lib.hid hdiv
      clear hdiv
      rcases nbit_two (val a) j with hb | hb
      · have hd2 : val a / 2 ^ j = 0 := by rw [div_bit, HD.out, hb]
        have HD2 := Lib.hid hd2
        have HB := Lib.hid hb
        clear hb hd2
        rw [show (((j + 1 : Nat) : Int) - 1) = (j : Int) by omega]
        go_wp2_with (go_at_call 83; refine (rAt_any A na ca a _ j hra (by omega) (by omega)).mono ?_; rw [HB.out]; rintro e w1 ⟨rfl, rfl⟩)
        go_round
        case rel => exact ⟨j, by omega, rfl, HD2.out⟩
        case measure => (simp [intOf]) <;> omega
      · have hl := blen_top HD.out hb
        have HL := Lib.hid hl
        have HB := Lib.hid hb
        clear hb hl
        rw [show (((j + 1 : Nat) : Int) - 1) = (j : Int) by omega]
        go_wp2_with (go_at_call 83; refine (rAt_any A na ca a _ j hra (by omega) (by omega)).mono ?_; rw [HB.out]; rintro e w1 ⟨rfl, rfl⟩)
        go_ret
        exact ⟨by rw [HL.out]; exact ret_int (by simp), rfl⟩
set_option maxRecDepth 100000 in
set_option maxHeartbeats 1000000 in
theorem rText_any (hra : Rd w A na a) (hna : na ≤ 5000) (hnc : na ≤ ca) (hcm : ca ≤ 9223372036854775807) :
    Calls Tryz.prog 45 #[.slice A na ca] w fun e w' => e = .returned (.tuple #[.string (textS a), .int .i64 (textE a)]) ∧ Below w.heap.size w w' := by
  cases hm : may a with
  | false =>
    have HE := Lib.hid (textE_bad hm)
    have HS := Lib.hid (textS_no (a := a) (by rw [HE.out]; decide))
    go_enter Tryz.func45, Tryz.ntmps45
    go_wp2_with fail
    refine (rMay_any A na ca a _ hra (by omega)).mono ?_
    rw [hm]
    rintro e w1 ⟨rfl, rfl⟩
    go_wp2
    go_ret2
    exact ⟨by rw [HS.out, HE.out]; rfl, Below.refl _ _⟩
  | true =>
    have hv := nm_of hra hm hnc hcm
    by_cases hb : 16384 < blen (val a)
    · have ht : ¬ (textL (val a)).length ≤ 4096 := fun h => by have := text_blen h; omega
      have HE := Lib.hid (textE_many hm ht)
      have HS := Lib.hid (textS_no (a := a) (by rw [HE.out]; decide))
      obtain ⟨B, hB⟩ : ∃ B, blen (val a) = B := ⟨_, rfl⟩
      rw [hB] at hb
      clear ht hv
      go_enter Tryz.func45, Tryz.ntmps45
      go_wp2_with fail
      refine (rMay_any A na ca a _ hra (by omega)).mono ?_
      rw [hm]
      rintro e w1 ⟨rfl, rfl⟩
      go_wp2_with fail
      refine (rSize_big A na ca a _ hra (by omega)).mono ?_
      rw [hB]
      rintro e w1 ⟨rfl, rfl⟩
      go_wp2
      go_ret2
      exact ⟨by rw [HS.out, HE.out]; rfl, Below.refl _ _⟩
    · have hl := hv.blen
      have hsz := textB_size (val a)
      obtain ⟨B, hB⟩ : ∃ B, blen (val a) = B := ⟨_, rfl⟩
      rw [hB] at hb hl
      obtain ⟨t, ht⟩ : ∃ t, textB (val a) = t := ⟨_, rfl⟩
      obtain ⟨n, hn⟩ : ∃ n, (textL (val a)).length = n := ⟨_, rfl⟩
      rw [ht, hn] at hsz
      by_cases h4 : n ≤ 4096
      · have HE := Lib.hid (textE_ok hm (by rw [hn]; exact h4))
        have HS := Lib.hid (textS_ok HE.out)
        have hq : ¬ ((4096 : Int) < (t.size : Int)) := by omega
        have hq2 : ¬ (4096 < t.size) := by omega
        clear hsz hn
        go_enter Tryz.func45, Tryz.ntmps45
        go_wp2_with fail
        refine (rMay_any A na ca a _ hra (by omega)).mono ?_
        rw [hm]
        rintro e w1 ⟨rfl, rfl⟩
        go_wp2_with fail
        refine (rSize_big A na ca a _ hra (by omega)).mono ?_
        rw [hB]
        rintro e w1 ⟨rfl, rfl⟩
        go_wp2_with fail
        refine (rTens_any A na ca (val a) _ hv (by omega)).mono ?_
        rw [ht]
        rintro e w2 ⟨rfl, hb2⟩
        go_wp2
        go_ret2
        exact ⟨by rw [HS.out, HE.out, ht]; rfl, hb2⟩
      · have HE := Lib.hid (textE_many hm (by rw [hn]; exact h4))
        have HS := Lib.hid (textS_no (a := a) (by rw [HE.out]; decide))
        have hq : ((4096 : Int) < (t.size : Int)) := by omega
        have hq2 : (4096 < t.size) := by omega
        clear hsz hn
        go_enter Tryz.func45, Tryz.ntmps45
        go_wp2_with fail
        refine (rMay_any A na ca a _ hra (by omega)).mono ?_
        rw [hm]
        rintro e w1 ⟨rfl, rfl⟩
        go_wp2_with fail
        refine (rSize_big A na ca a _ hra (by omega)).mono ?_
        rw [hB]
        rintro e w1 ⟨rfl, rfl⟩
        go_wp2_with fail
        refine (rTens_any A na ca (val a) _ hv (by omega)).mono ?_
        rw [ht]
        rintro e w2 ⟨rfl, hb2⟩
        go_wp2
        go_ret2
        exact ⟨by rw [HS.out, HE.out]; rfl, hb2⟩
end
end Go.Proofs.YtjipdfebehcggaaGreatDoor
