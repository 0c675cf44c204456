import Derived.Test.YtbldimplddiheaaGreatDoorKDigits
import Derived.Test.YtbldimplddiheaaGreatDoorKRefCommon
import Derived.Laws.Concat
import Derived.Lib.Strings
/- RefTens RefText. -/
/- The document's Tens, Text. -/
namespace Go.Proofs.YtbldimplddiheaaGreatDoor
open Go.RowKit Go.Shelf
set_option linter.unusedVariables false
set_option linter.unusedSimpArgs false

theorem ten10_val : val [10] = 10 := by simp [val]
theorem ten_lt64 : 10 < B64 := by rw [B64_eq]; omega
theorem rd_new10 (w : World) (T : TypeId) : Rd (w.alloc (.cells #[.int .u64 10] T)) (some ⟨w.heap.size, 0, none⟩) 1 [10] := rd_new1 w 10 T ten_lt64
theorem word_small {d : Nat} (h : d < B64) : wordV (limbs d) = d ∧ wordE (limbs d) = 0 := by
  have hl : (limbs d).length ≤ 1 := limbs_length_le (by simpa using h)
  have h2 : lim (limbs d) 0 = d := by
    by_cases h0 : d = 0
    · subst h0; rw [limbs_zero]; rfl
    · rw [limbs_pos h0, Nat.mod_eq_of_lt h]; rfl
  unfold wordV wordE
  rw [if_pos ⟨may_limbs d, hl⟩, if_pos (may_limbs d), if_pos hl]
  exact ⟨h2, rfl⟩
theorem digits_at : ∀ d : Fin 10, (([48, 49, 50, 51, 52, 53, 54, 55, 56, 57] : List UInt8).drop d.val).take 1 = [dig d.val] := by decide
theorem dig_ext {d : Nat} (h : d < 10) (l : List UInt8) : (⟨#[48, 49, 50, 51, 52, 53, 54, 55, 56, 57]⟩ : ByteArray).extract d (d + 1) ++ ⟨l.toArray⟩ = ⟨(dig d :: l).toArray⟩ := by
  have h1 := digits_at ⟨d, h⟩
  rw [Lib.extract_eq, show d + 1 - d = 1 by omega]
  have h2 : ((⟨#[48, 49, 50, 51, 52, 53, 54, 55, 56, 57]⟩ : ByteArray).data.toList.drop d).take 1 = [dig d] := h1
  rw [h2, ByteArray.mk_append_mk]
  rfl

section
variable (A A2 : Option Addr) (na ca nb cb v u : Nat) (w : World)

set_option maxRecDepth 100000 in
set_option maxHeartbeats 2000000 in
theorem rTens_any (hva : Nm w A na ca v) (hna : na ≤ 900) :
    Calls Tryz.prog 102 #[.slice A na ca] w fun e w' => e = .returned (.string (textB v)) ∧ Below w.heap.size w w' := by
  by_cases h0 : v = 0
  · subst h0
    obtain rfl : na = 0 := hva.zero.2 rfl
    go_enter Tryz.func102, Tryz.ntmps102
    go_wp2
    go_ret
    exact ⟨rfl, Below.refl _ _⟩
  · have e1 : ((na : Int) == 0) = false := int_eq0 (fun h => h0 (hva.zero.1 h))
    have htl : tenL v ++ [] = tenL v := List.append_nil _
    have hlen : (tenL v).length ≤ 57600 := by
      have h1 := hva.lt
      rw [B64_pow] at h1
      have h2 := ten_bits h1
      omega
    have HT := Lib.hid htl
    have HL := Lib.hid hlen
    have HE : Hid (textB v = ⟨(tenL v).toArray⟩) := by show _ = _; unfold textB textL; rw [if_neg h0]
    clear htl hlen h0
    go_enter Tryz.func102, Tryz.ntmps102
    go_wp2
    clear e1
    go_loopw [0, 3] (fun a s wr => ∃ (p : Nat) (A3 : Option Addr) (n3 c3 : Nat) (l : List UInt8), a = .slice A3 n3 c3 ∧ s = .string ⟨l.toArray⟩ ∧ Nm wr A3 n3 c3 p ∧ n3 ≤ 900 ∧ tenL p ++ l = tenL v ∧ Below w.heap.size w wr) (fun a s wr => numOf wr a)
    case atStart => exact ⟨v, _, _, _, [], rfl, rfl, hva, hna, HT.out, Below.refl _ _⟩
    case round =>
      obtain ⟨p, A3, n3, c3, l, rfl, rfl, hp, ln3, hl, hB⟩ := hrel
      clear hva hna
      by_cases h0 : p = 0
      · subst h0
        obtain rfl : n3 = 0 := hp.zero.2 rfl
        rw [tenL_zero, List.nil_append] at hl
        subst hl
        go_wp2
        go_ret
        exact ⟨by rw [HE.out]; rfl, hB⟩
      · have hn3 : 0 < n3 := Nat.pos_of_ne_zero (fun h => h0 (hp.zero.1 h))
        obtain ⟨d, hd⟩ : ∃ d, p % 10 = d := ⟨_, rfl⟩
        have hd1 : d < 10 := by omega
        have hw := word_small (d := d) (by rw [B64_eq]; omega)
        have hl2 : tenL (p / 10) ++ (dig d :: l) = tenL v := by rw [← hl, tenL_pos h0, hd]; simp
        have hl3 : l.length ≤ 57600 := by have h1 := HL.out; rw [← hl, List.length_append] at h1; omega
        have hlt : p / 10 < p := by omega
        have hn4 : (limbs (p / 10)).length ≤ n3 := by
          have h1 := length_of_le (words_limbs p) (n := p / 10) (by rw [val_limbs]; omega)
          rwa [hp.rd.len] at h1
        have hn5 : (limbs d).length ≤ 1 := limbs_length_le (by rw [Nat.pow_one, B64_eq]; omega)
        have HN4 := Lib.hid hn4
        have HN5 := Lib.hid hn5
        have HLT := Lib.hid hlt
        have HL2 := Lib.hid hl2
        have HD := Lib.hid hd
        have HW := Lib.hid hw
        clear hl2 hd hw hl h0 hlt hn4 hn5
        go_wp2_with fail
        refine (over_any A3 _ n3 c3 1 1 (limbs p) [10] _ (hp.rd.alloc _) (rd_new10 _ _) ln3 (by omega) rfl (List.cons_ne_nil _ _)).mono ?_
        rw [val_limbs, ten10_val, HD.out]
        rintro e w4 ⟨A4, n4, c4, A5, n5, c5, rfl, o4, o5, hb4⟩
        have l4 : n4 ≤ 900 := by have h1 := o4.rd.2.1; have h2 := HN4.out; omega
        have l5 : n5 ≤ 900 := by have h1 := o5.rd.2.1; have h2 := HN5.out; omega
        replace hb4 := below_new hb4
        go_wp2_with fail
        refine (rWord_spec A5 n5 c5 (limbs d) _ o5.rd.1 (by omega)).mono ?_
        rw [HW.out.1, HW.out.2]
        rintro e w5 ⟨rfl, hb5⟩
        have r5 := o4.nm.below hb5
        have hB5 := below_then (below_then hB hb4) hb5
        clear o4 o5 hb4 hb5 hB
        go_wp2_with fail
        go_roundw
        case rel => exact ⟨p / 10, _, _, _, dig d :: l, rfl, by rw [dig_ext hd1], r5, l4, HL2.out, hB5⟩
        case measure =>
          show numOf _ (.slice A4 n4 c4) < numOf _ (.slice A3 n3 c3)
          rw [numOf_is r5, numOf_is hp]
          exact HLT.out
end
end Go.Proofs.YtbldimplddiheaaGreatDoor

/- The document's Text. -/
namespace Go.Proofs.YtbldimplddiheaaGreatDoor
open Go.RowKit Go.Shelf
set_option linter.unusedVariables false
set_option linter.unusedSimpArgs false

/-- The error of Text of a number, and the text. -/
def textE (a : List Nat) : Int := if may a then (if (textL (val a)).length ≤ 4096 then 0 else 4) else 8
def textS (a : List Nat) : ByteArray := if textE a = 0 then textB (val a) else ⟨#[]⟩
theorem textE_bad {a : List Nat} (h : may a = false) : textE a = 8 := by simp [textE, h]
theorem textE_many {a : List Nat} (h : may a = true) (h2 : ¬ (textL (val a)).length ≤ 4096) : textE a = 4 := by simp [textE, h, h2]
theorem textE_ok {a : List Nat} (h : may a = true) (h2 : (textL (val a)).length ≤ 4096) : textE a = 0 := by simp [textE, h, h2]
theorem textS_ok {a : List Nat} (h : textE a = 0) : textS a = textB (val a) := by simp [textS, h]
theorem textS_no {a : List Nat} (h : textE a ≠ 0) : textS a = ⟨#[]⟩ := by simp [textS, h]
theorem text_blen {n k : Nat} (h : (textL n).length ≤ k) : blen n ≤ 4 * k := blen_le (text_bits h)
theorem Nm.blen {w : World} {A : Option Addr} {n c v : Nat} (h : Nm w A n c v) : n ≤ Go.Proofs.YtbldimplddiheaaGreatDoor.blen v / 64 + 1 := by
  refine h.len ?_
  rw [B64_pow]
  exact Nat.lt_of_lt_of_le (blen_lt v) (Nat.pow_le_pow_right (by omega) (by omega))
theorem textB_size (n : Nat) : (textB n).size = (textL n).length := by simp [textB, ByteArray.size]

section
variable (A : Option Addr) (na ca : Nat) (a : List Nat) (w : World)
set_option maxRecDepth 100000 in
set_option maxHeartbeats 1000000 in
theorem rSize_big (hra : Rd w A na a) (hna : na ≤ 100000) :
    Calls Tryz.prog 101 #[.slice A na ca] w fun e w' => e = .returned (.int .i64 (blen (val a) : Nat)) ∧ w = w' := by
  have hva : val a < 2 ^ (64 * na) := val_lt_bits hra.words (by rw [hra.len]; omega)
  have HVA := Lib.hid hva
  clear hva
  go_enter Tryz.func101, Tryz.ntmps101
  go_wp2
  go_loop [3] (fun i => ∃ k : Nat, k ≤ 64 * na ∧ i = .int .i64 ((k : Int) - 1) ∧ val a / 2 ^ k = 0) (fun i => (intOf i + 1).toNat)
  case atStart => exact ⟨64 * na, Nat.le_refl _, by simp, Nat.div_eq_of_lt HVA.out⟩
  case round =>
    obtain ⟨k, hk, rfl, hdiv⟩ := hrel
    by_cases h0 : k = 0
    · subst h0
      have hv : blen (val a) = 0 := by
        simp at hdiv
        rw [hdiv]; rfl
      have HV := Lib.hid hv
      clear hdiv hv
      go_wp2
      go_ret
      exact ⟨by rw [HV.out]; rfl, rfl⟩
    · obtain ⟨j, rfl⟩ : ∃ j, k = j + 1 := ⟨k - 1, by omega⟩
      have HD := Lib.hid hdiv
      clear hdiv
      rcases nbit_two (val a) j with hb | hb
      · have hd2 : val a / 2 ^ j = 0 := by rw [div_bit, HD.out, hb]
        have HD2 := Lib.hid hd2
        have HB := Lib.hid hb
        clear hb hd2
        rw [show (((j + 1 : Nat) : Int) - 1) = (j : Int) by omega]
        go_wp2_with (go_at_call 121; refine (rAt_any A na ca a _ j hra (by omega) (by omega)).mono ?_; rw [HB.out]; rintro e w1 ⟨rfl, rfl⟩)
        go_round
        case rel => exact ⟨j, by omega, rfl, HD2.out⟩
        case measure => (simp [intOf]) <;> omega
      · have hl := blen_top HD.out hb
        have HL := Lib.hid hl
        have HB := Lib.hid hb
        clear hb hl
        rw [show (((j + 1 : Nat) : Int) - 1) = (j : Int) by omega]
        go_wp2_with (go_at_call 121; refine (rAt_any A na ca a _ j hra (by omega) (by omega)).mono ?_; rw [HB.out]; rintro e w1 ⟨rfl, rfl⟩)
        go_ret
        exact ⟨by rw [HL.out]; exact ret_int (by simp), rfl⟩
set_option maxRecDepth 100000 in
set_option maxHeartbeats 1000000 in
theorem rText_any (hra : Rd w A na a) (hna : na ≤ 5000) (hnc : na ≤ ca) (hcm : ca ≤ 9223372036854775807) :
    Calls Tryz.prog 72 #[.slice A na ca] w fun e w' => e = .returned (.tuple #[.string (textS a), .int .i64 (textE a)]) ∧ Below w.heap.size w w' := by
  cases hm : may a with
  | false =>
    have HE := Lib.hid (textE_bad hm)
    have HS := Lib.hid (textS_no (a := a) (by rw [HE.out]; decide))
    go_enter Tryz.func72, Tryz.ntmps72
    go_wp2_with fail
    refine (rMay_any A na ca a _ hra (by omega)).mono ?_
    rw [hm]
    rintro e w1 ⟨rfl, rfl⟩
    go_wp2
    go_ret2
    exact ⟨by rw [HS.out, HE.out]; rfl, Below.refl _ _⟩
  | true =>
    have hv := nm_of hra hm hnc hcm
    by_cases hb : 16384 < blen (val a)
    · have ht : ¬ (textL (val a)).length ≤ 4096 := fun h => by have := text_blen h; omega
      have HE := Lib.hid (textE_many hm ht)
      have HS := Lib.hid (textS_no (a := a) (by rw [HE.out]; decide))
      obtain ⟨B, hB⟩ : ∃ B, blen (val a) = B := ⟨_, rfl⟩
      rw [hB] at hb
      clear ht hv
      go_enter Tryz.func72, Tryz.ntmps72
      go_wp2_with fail
      refine (rMay_any A na ca a _ hra (by omega)).mono ?_
      rw [hm]
      rintro e w1 ⟨rfl, rfl⟩
      go_wp2_with fail
      refine (rSize_big A na ca a _ hra (by omega)).mono ?_
      rw [hB]
      rintro e w1 ⟨rfl, rfl⟩
      go_wp2
      go_ret2
      exact ⟨by rw [HS.out, HE.out]; rfl, Below.refl _ _⟩
    · have hl := hv.blen
      have hsz := textB_size (val a)
      obtain ⟨B, hB⟩ : ∃ B, blen (val a) = B := ⟨_, rfl⟩
      rw [hB] at hb hl
      obtain ⟨t, ht⟩ : ∃ t, textB (val a) = t := ⟨_, rfl⟩
      obtain ⟨n, hn⟩ : ∃ n, (textL (val a)).length = n := ⟨_, rfl⟩
      rw [ht, hn] at hsz
      by_cases h4 : n ≤ 4096
      · have HE := Lib.hid (textE_ok hm (by rw [hn]; exact h4))
        have HS := Lib.hid (textS_ok HE.out)
        have hq : ¬ ((4096 : Int) < (t.size : Int)) := by omega
        have hq2 : ¬ (4096 < t.size) := by omega
        clear hsz hn
        go_enter Tryz.func72, Tryz.ntmps72
        go_wp2_with fail
        refine (rMay_any A na ca a _ hra (by omega)).mono ?_
        rw [hm]
        rintro e w1 ⟨rfl, rfl⟩
        go_wp2_with fail
        refine (rSize_big A na ca a _ hra (by omega)).mono ?_
        rw [hB]
        rintro e w1 ⟨rfl, rfl⟩
        go_wp2_with fail
        refine (rTens_any A na ca (val a) _ hv (by omega)).mono ?_
        rw [ht]
        rintro e w2 ⟨rfl, hb2⟩
        go_wp2
        go_ret2
        exact ⟨by rw [HS.out, HE.out, ht]; rfl, hb2⟩
      · have HE := Lib.hid (textE_many hm (by rw [hn]; exact h4))
        have HS := Lib.hid (textS_no (a := a) (by rw [HE.out]; decide))
        have hq : ((4096 : Int) < (t.size : Int)) := by omega
        have hq2 : (4096 < t.size) := by omega
        clear hsz hn
        go_enter Tryz.func72, Tryz.ntmps72
        go_wp2_with fail
        refine (rMay_any A na ca a _ hra (by omega)).mono ?_
        rw [hm]
        rintro e w1 ⟨rfl, rfl⟩
        go_wp2_with fail
        refine (rSize_big A na ca a _ hra (by omega)).mono ?_
        rw [hB]
        rintro e w1 ⟨rfl, rfl⟩
        go_wp2_with fail
        refine (rTens_any A na ca (val a) _ hv (by omega)).mono ?_
        rw [ht]
        rintro e w2 ⟨rfl, hb2⟩
        go_wp2
        go_ret2
        exact ⟨by rw [HS.out, HE.out]; rfl, hb2⟩
end
end Go.Proofs.YtbldimplddiheaaGreatDoor
