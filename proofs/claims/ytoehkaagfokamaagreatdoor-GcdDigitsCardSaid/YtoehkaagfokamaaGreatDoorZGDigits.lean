import Derived.Test.YtoehkaagfokamaaGreatDoorZGAlive
/- GDigits. -/
/- The law GcdDigits: a number as a text is parsed as it was. -/
namespace Go.Proofs.YtoehkaagfokamaaGreatDoor
open Go.RowKit Go.Shelf
set_option linter.unusedVariables false
set_option linter.unusedSimpArgs false

theorem byte_of_wf {n : Int} (h : (Lit.int .u8 n).wf = true) : ∃ x : Nat, n = (x : Int) ∧ x < 256 := by
  simp [Lit.wf, IntKind.min, IntKind.max, IntKind.signed, IntKind.bits] at h
  exact ⟨n.toNat, by omega, by omega⟩
theorem pow_fit {n j : Nat} (h : n < 2 ^ (25 * j)) : n < 10 ^ (8 * j) := by
  rw [Nat.pow_mul] at h ⊢
  exact Nat.lt_of_lt_of_le h (Nat.pow_le_pow_left (by decide) j)
theorem nm_text {w : World} {A : Option Addr} {n c v j : Nat} (h : Nm w A n c v) (hj : 64 * n ≤ 25 * j) (h0 : 0 < j) : (textL v).length ≤ 8 * j := by
  have h1 := h.lt
  rw [B64_pow] at h1
  exact text_len (pow_fit (Nat.lt_of_lt_of_le h1 (Nat.pow_le_pow_right (by omega) hj))) (by omega)
theorem parse_text {v : Nat} (h : (textL v).length ≤ 4096) : parseE (textB v) = 0 ∧ parseL (textB v) = limbs v ∧ (textB v).size ≤ 4096 := by
  have h1 : (textB v).size ≤ 4096 := by rw [textB_size]; exact h
  have h2 : parseE (textB v) = 0 := parseE_ok h1 (by rw [textB_list]; exact ok_text v)
  exact ⟨h2, by rw [parseL_ok h2, textB_list, numV_text], h1⟩
theorem text_parse {s : ByteArray} (h : s.size ≤ 4096) (hk : okL s.data.toList = true) : textE (limbs (numV s.data.toList)) = 0 ∧ textS (limbs (numV s.data.toList)) = s := by
  have h1 : textE (limbs (numV s.data.toList)) = 0 := textE_ok (may_limbs _) (by rw [val_limbs, text_num hk, size_list]; exact h)
  exact ⟨h1, by rw [textS_ok h1, val_limbs, textB_num hk]⟩
theorem ext_dig {d : Nat} (h : d < 10) : (⟨#[48, 49, 50, 51, 52, 53, 54, 55, 56, 57]⟩ : ByteArray).extract d (d + 1) = ⟨[dig d].toArray⟩ := by
  have h1 := digits_at ⟨d, h⟩
  rw [Lib.extract_eq, show d + 1 - d = 1 by omega]
  have h2 : ((⟨#[48, 49, 50, 51, 52, 53, 54, 55, 56, 57]⟩ : ByteArray).data.toList.drop d).take 1 = [dig d] := h1
  rw [h2]
theorem snoc_bytes (s : ByteArray) (c : UInt8) : (s ++ ⟨[c].toArray⟩).data.toList = s.data.toList ++ [c] := by simp
theorem ok_snoc {l : List UInt8} (h : okL l = true) (h0 : numV l ≠ 0) {m : Nat} (hm : m < 10) : okL (l ++ [dig m]) = true := by
  have e : l ++ [dig m] = textL (numV l * 10 + m) := by
    have e1 := text_num h
    unfold textL at e1 ⊢
    rw [if_neg h0] at e1
    rw [if_neg (by omega), tenL_pos (by omega), show (numV l * 10 + m) / 10 = numV l by omega, show (numV l * 10 + m) % 10 = m by omega, e1]
  rw [e]
  exact ok_text _
theorem parse_snoc {s : ByteArray} (h : s.size ≤ 3000) (hk : okL s.data.toList = true) (h0 : numV s.data.toList ≠ 0) {m : Nat} (hm : m < 10) :
    parseE (s ++ (⟨#[48, 49, 50, 51, 52, 53, 54, 55, 56, 57]⟩ : ByteArray).extract m (m + 1)) = 0 ∧ parseL (s ++ (⟨#[48, 49, 50, 51, 52, 53, 54, 55, 56, 57]⟩ : ByteArray).extract m (m + 1)) = limbs (numV s.data.toList * 10 + m) ∧ (s ++ (⟨#[48, 49, 50, 51, 52, 53, 54, 55, 56, 57]⟩ : ByteArray).extract m (m + 1)).size ≤ 3001 := by
  rw [ext_dig hm]
  have h1 : (s ++ ⟨[dig m].toArray⟩ : ByteArray).size ≤ 3001 := by
    rw [← size_list, snoc_bytes, List.length_append, size_list, List.length_singleton]; omega
  have h2 : parseE (s ++ ⟨[dig m].toArray⟩) = 0 := parseE_ok (by omega) (by rw [snoc_bytes]; exact ok_snoc hk h0 hm)
  refine ⟨h2, ?_, h1⟩
  rw [parseL_ok h2, snoc_bytes, numV_snoc, dig_nat hm, Nat.add_sub_cancel_left]
theorem num_len {s : ByteArray} (h : s.size ≤ 3000) (hk : okL s.data.toList = true) : (limbs (numV s.data.toList)).length ≤ 300 := by
  have h3 : s.data.toList.all isD = true := by
    unfold okL at hk
    simp only [Bool.and_eq_true] at hk
    exact hk.2
  have h4 := limbs_length_le (num_lt_bits h3 (n := 4096) (by rw [size_list]; omega))
  omega

section
variable (A : Option Addr) (na ca : Nat) (a : List Nat) (s : ByteArray) (d : Nat) (w : World)
set_option maxRecDepth 100000 in
set_option maxHeartbeats 2500000 in
theorem gcdDigits_long (hG : GcdIs 37) (hM : LcmIs 38) (hT : TextIs 6) (hb : 200 < na ∨ (na ≤ 200 ∧ 3000 < s.size)) (h1 : na ≤ 9223372036854775807) (h2 : s.size ≤ 9223372036854775807) :
    Calls Tryz.prog 5 #[.slice A na ca, .string s, .int .u8 (d : Int)] w fun e w' => e = .returned (.bool true) ∧ Below w.heap.size w w' := by
  rcases hb with hb | ⟨hb, hb2⟩
  all_goals
    go_enter Tryz.func5, Tryz.ntmps5
    go_wp2_with fail
    refine (galive_any _ hG hM hT).mono ?_
    rintro e w1 ⟨rfl, hb1⟩
    go_wp2_with fail
    all_goals first
      | (exfalso; omega)
      | (go_ret; exact ⟨rfl, hb1⟩)

set_option maxRecDepth 100000 in
set_option maxHeartbeats 4000000 in
theorem gcdDigits_bad (hG : GcdIs 37) (hM : LcmIs 38) (hT : TextIs 6) (hP : ParseIs 7) (hra : Rd w A na a) (q1 : na ≤ ca ∧ ca ≤ 9223372036854775807) (hna : na ≤ 200) (hs : s.size ≤ 3000) (hd : d < 256) (hk : okL s.data.toList = false) :
    Calls Tryz.prog 5 #[.slice A na ca, .string s, .int .u8 (d : Int)] w fun e w' => e = .returned (.bool true) ∧ Below w.heap.size w w' := by
  have HQE := Lib.hid (parseE_bad (s := s) (by omega) hk)
  have HQL := Lib.hid (parseL_no (s := s) (by rw [HQE.out]; decide))
  clear hk
  cases hm : may a with
  | false =>
    have HE := Lib.hid (textE_bad hm)
    have HS := Lib.hid (textS_no (a := a) (by rw [HE.out]; decide))
    go_enter Tryz.func5, Tryz.ntmps5
    go_wp2_with fail
    refine (galive_any _ hG hM hT).mono ?_
    rintro e w1 ⟨rfl, hb1⟩
    replace hra := hra.below hb1
    go_wp2_with fail
    refine (hT A na ca a _ hra (by omega) q1).mono ?_
    rw [HE.out, HS.out]
    rintro e w2 ⟨rfl, hb2⟩
    clear hra
    replace hb2 := below_then hb1 hb2
    clear hb1
    go_wp2_with fail
    have hb4 := hb2
    clear hb2
    refine (hP s _ (by omega)).mono ?_
    rw [HQE.out, HQL.out]
    rintro e w5 ⟨A5, k5, c5, rfl, o5, hb5⟩
    obtain rfl : k5 = 0 := o5.rd.2.1
    clear o5
    replace hb5 := below_then hb4 hb5
    clear hb4
    go_wp2_with fail
    go_ret
    exact ⟨rfl, hb5⟩
  | true =>
    have hv := nm_of hra hm q1.1 q1.2
    obtain ⟨v, hvv⟩ : ∃ v, val a = v := ⟨_, rfl⟩
    have HE := Lib.hid (textE_ok hm (nm_text hv (j := 512) (by omega) (by omega)))
    have HS := Lib.hid (textS_ok HE.out)
    have hp := parse_text (nm_text hv (j := 512) (by omega) (by omega))
    rw [hvv] at hv hp
    have HVV := Lib.hid hvv
    have HPT := Lib.hid hp
    have hpl : (parseL (textB v)).length ≤ 200 := by rw [hp.2.1, hv.rd.len]; exact hna
    have HPL := Lib.hid hpl
    clear hvv hp hpl
    go_enter Tryz.func5, Tryz.ntmps5
    go_wp2_with fail
    refine (galive_any _ hG hM hT).mono ?_
    rintro e w1 ⟨rfl, hb1⟩
    replace hra := hra.below hb1
    replace hv := hv.below hb1
    go_wp2_with fail
    refine (hT A na ca a _ hra (by omega) q1).mono ?_
    rw [HE.out, HS.out, HVV.out]
    rintro e w2 ⟨rfl, hb2⟩
    replace hv := hv.below hb2
    clear hra
    replace hb2 := below_then hb1 hb2
    clear hb1
    go_wp2_with fail
    refine (hP (textB v) _ (by have h1 := HPT.out.2.2; omega)).mono ?_
    rw [HPT.out.1]
    rintro e w3 ⟨A3, k3, c3, rfl, o3, hb3⟩
    have l3 : k3 ≤ 200 := by have h1 := o3.rd.2.1; have h2 := HPL.out; omega
    rw [HPT.out.2.1] at o3
    have m3 := o3.nm
    clear o3
    replace hv := hv.below hb3
    replace hb3 := below_then hb2 hb3
    clear hb2
    go_wp2_with fail
    refine (same_eq _ _ _ _ _ _ _ _ _ hv m3 (by omega) (by omega) rfl).mono ?_
    rintro e w4 ⟨rfl, hb4⟩
    replace hb4 := below_then hb3 hb4
    clear hb3 hv m3 l3
    go_wp2_with fail
    refine (hP s _ (by omega)).mono ?_
    rw [HQE.out, HQL.out]
    rintro e w5 ⟨A5, k5, c5, rfl, o5, hb5⟩
    obtain rfl : k5 = 0 := o5.rd.2.1
    clear o5
    replace hb5 := below_then hb4 hb5
    clear hb4
    go_wp2_with fail
    go_ret
    exact ⟨rfl, hb5⟩

set_option maxRecDepth 100000 in
set_option maxHeartbeats 4000000 in
theorem gcdDigits_zero (hG : GcdIs 37) (hM : LcmIs 38) (hT : TextIs 6) (hP : ParseIs 7) (hra : Rd w A na a) (q1 : na ≤ ca ∧ ca ≤ 9223372036854775807) (hna : na ≤ 200) (hs : s.size ≤ 3000) (hd : d < 256) (hk : okL s.data.toList = true) (hz : numV s.data.toList = 0) :
    Calls Tryz.prog 5 #[.slice A na ca, .string s, .int .u8 (d : Int)] w fun e w' => e = .returned (.bool true) ∧ Below w.heap.size w w' := by
  have HQE := Lib.hid (parseE_ok (s := s) (by omega) hk)
  have HQL := Lib.hid (parseL_ok HQE.out)
  have HT2 := Lib.hid (text_parse (s := s) (by omega) hk)
  have HZ := Lib.hid hz
  clear hk hz
  cases hm : may a with
  | false =>
    have HE := Lib.hid (textE_bad hm)
    have HS := Lib.hid (textS_no (a := a) (by rw [HE.out]; decide))
    go_enter Tryz.func5, Tryz.ntmps5
    go_wp2_with fail
    refine (galive_any _ hG hM hT).mono ?_
    rintro e w1 ⟨rfl, hb1⟩
    replace hra := hra.below hb1
    go_wp2_with fail
    refine (hT A na ca a _ hra (by omega) q1).mono ?_
    rw [HE.out, HS.out]
    rintro e w2 ⟨rfl, hb2⟩
    clear hra
    replace hb2 := below_then hb1 hb2
    clear hb1
    go_wp2_with fail
    have hb4 := hb2
    clear hb2
    refine (hP s _ (by omega)).mono ?_
    rw [HQE.out, HQL.out]
    rintro e w5 ⟨A5, k5, c5, rfl, o5, hb5⟩
    obtain rfl : k5 = 0 := by have h1 := o5.rd.2.1; rw [HZ.out, limbs_zero] at h1; exact h1
    have m5 := o5.nm
    clear o5
    replace hb5 := below_then hb4 hb5
    clear hb4
    go_wp2_with fail
    refine (hT A5 _ c5 (limbs (numV s.data.toList)) _ m5.rd (by omega) ⟨m5.nc, m5.cm⟩).mono ?_
    rw [HT2.out.1, HT2.out.2]
    rintro e w6 ⟨rfl, hb6⟩
    replace m5 := m5.below hb6
    replace hb6 := below_then hb5 hb6
    clear hb5
    clear m5
    go_wp2_with fail
    go_ret
    exact ⟨rfl, hb6⟩
  | true =>
    have hv := nm_of hra hm q1.1 q1.2
    obtain ⟨v, hvv⟩ : ∃ v, val a = v := ⟨_, rfl⟩
    have HE := Lib.hid (textE_ok hm (nm_text hv (j := 512) (by omega) (by omega)))
    have HS := Lib.hid (textS_ok HE.out)
    have hp := parse_text (nm_text hv (j := 512) (by omega) (by omega))
    rw [hvv] at hv hp
    have HVV := Lib.hid hvv
    have HPT := Lib.hid hp
    have hpl : (parseL (textB v)).length ≤ 200 := by rw [hp.2.1, hv.rd.len]; exact hna
    have HPL := Lib.hid hpl
    clear hvv hp hpl
    go_enter Tryz.func5, Tryz.ntmps5
    go_wp2_with fail
    refine (galive_any _ hG hM hT).mono ?_
    rintro e w1 ⟨rfl, hb1⟩
    replace hra := hra.below hb1
    replace hv := hv.below hb1
    go_wp2_with fail
    refine (hT A na ca a _ hra (by omega) q1).mono ?_
    rw [HE.out, HS.out, HVV.out]
    rintro e w2 ⟨rfl, hb2⟩
    replace hv := hv.below hb2
    clear hra
    replace hb2 := below_then hb1 hb2
    clear hb1
    go_wp2_with fail
    refine (hP (textB v) _ (by have h1 := HPT.out.2.2; omega)).mono ?_
    rw [HPT.out.1]
    rintro e w3 ⟨A3, k3, c3, rfl, o3, hb3⟩
    have l3 : k3 ≤ 200 := by have h1 := o3.rd.2.1; have h2 := HPL.out; omega
    rw [HPT.out.2.1] at o3
    have m3 := o3.nm
    clear o3
    replace hv := hv.below hb3
    replace hb3 := below_then hb2 hb3
    clear hb2
    go_wp2_with fail
    refine (same_eq _ _ _ _ _ _ _ _ _ hv m3 (by omega) (by omega) rfl).mono ?_
    rintro e w4 ⟨rfl, hb4⟩
    replace hb4 := below_then hb3 hb4
    clear hb3 hv m3 l3
    go_wp2_with fail
    refine (hP s _ (by omega)).mono ?_
    rw [HQE.out, HQL.out]
    rintro e w5 ⟨A5, k5, c5, rfl, o5, hb5⟩
    obtain rfl : k5 = 0 := by have h1 := o5.rd.2.1; rw [HZ.out, limbs_zero] at h1; exact h1
    have m5 := o5.nm
    clear o5
    replace hb5 := below_then hb4 hb5
    clear hb4
    go_wp2_with fail
    refine (hT A5 _ c5 (limbs (numV s.data.toList)) _ m5.rd (by omega) ⟨m5.nc, m5.cm⟩).mono ?_
    rw [HT2.out.1, HT2.out.2]
    rintro e w6 ⟨rfl, hb6⟩
    replace m5 := m5.below hb6
    replace hb6 := below_then hb5 hb6
    clear hb5
    clear m5
    go_wp2_with fail
    go_ret
    exact ⟨rfl, hb6⟩

set_option maxRecDepth 100000 in
set_option maxHeartbeats 4000000 in
theorem gcdDigits_main (hG : GcdIs 37) (hM : LcmIs 38) (hT : TextIs 6) (hP : ParseIs 7) (hra : Rd w A na a) (q1 : na ≤ ca ∧ ca ≤ 9223372036854775807) (hna : na ≤ 200) (hs : s.size ≤ 3000) (hd : d < 256) (hk : okL s.data.toList = true) (hz : numV s.data.toList ≠ 0) :
    Calls Tryz.prog 5 #[.slice A na ca, .string s, .int .u8 (d : Int)] w fun e w' => e = .returned (.bool true) ∧ Below w.heap.size w w' := by
  have HQE := Lib.hid (parseE_ok (s := s) (by omega) hk)
  have HQL := Lib.hid (parseL_ok HQE.out)
  have HT2 := Lib.hid (text_parse (s := s) (by omega) hk)
  have HLN := Lib.hid (num_len hs hk)
  have HNZ := Lib.hid hz
  obtain ⟨m, hmm⟩ : ∃ m, d % 10 = m := ⟨_, rfl⟩
  have hm1 : m < 10 := by omega
  have HPS := Lib.hid (parse_snoc hs hk hz hm1)
  have hl8 : (limbs (numV s.data.toList * 10)).length ≤ 302 := by
    have h3 : s.data.toList.all isD = true := by
      unfold okL at hk
      simp only [Bool.and_eq_true] at hk
      exact hk.2
    have := len_ten h3 (n := 4096) (by rw [size_list]; omega)
    omega
  have HLN8 := Lib.hid hl8
  have hl7 : (limbs (numV s.data.toList * 10 + m)).length ≤ 302 := by
    have h3 := (parse_len (s ++ (⟨#[48, 49, 50, 51, 52, 53, 54, 55, 56, 57]⟩ : ByteArray).extract m (m + 1)))
    rw [HPS.out.2.1] at h3
    omega
  have HLN7 := Lib.hid hl7
  have hmB : m < B64 := small_lt (by omega)
  have HMB := Lib.hid hmB
  have HLM := Lib.hid (limbs_word hmB)
  have t1 : Int.tmod (d : Int) 10 = (m : Int) := by rw [Int.tmod_eq_emod_of_nonneg (by omega)]; omega
  have t2 : (d : Int) % 10 = (m : Int) := by omega
  have t3 : IntKind.u8.wrap (m : Int) = (m : Int) := by rw [IntKind.wrap_u8]; omega
  have t4 : IntKind.u8.wrap ((m : Int) + 1) = (m : Int) + 1 := by rw [IntKind.wrap_u8]; omega
  have t5 : IntKind.u64.wrap (m : Int) = (m : Int) := u64_is hmB
  clear hk hz hl8 hl7 hmB hmm
  cases hm : may a with
  | false =>
    have HE := Lib.hid (textE_bad hm)
    have HS := Lib.hid (textS_no (a := a) (by rw [HE.out]; decide))
    go_enter Tryz.func5, Tryz.ntmps5
    go_wp2_with fail
    refine (galive_any _ hG hM hT).mono ?_
    rintro e w1 ⟨rfl, hb1⟩
    replace hra := hra.below hb1
    go_wp2_with fail
    refine (hT A na ca a _ hra (by omega) q1).mono ?_
    rw [HE.out, HS.out]
    rintro e w2 ⟨rfl, hb2⟩
    clear hra
    replace hb2 := below_then hb1 hb2
    clear hb1
    go_wp2_with fail
    have hb4 := hb2
    clear hb2
    refine (hP s _ (by omega)).mono ?_
    rw [HQE.out, HQL.out]
    rintro e w5 ⟨A5, k5, c5, rfl, o5, hb5⟩
    have l5 : k5 ≤ 300 := by have h1 := o5.rd.2.1; have h2 := HLN.out; omega
    have p5 : 0 < k5 := by
      have h1 := o5.nm.zero
      have h2 := HNZ.out
      omega
    have e5 : ((k5 : Int) == 0) = false := int_eq0 (by omega)
    have e6 : ¬ ((k5 : Int) = 0) := by omega
    have m5 := o5.nm
    clear o5
    replace hb5 := below_then hb4 hb5
    clear hb4
    go_wp2_with fail
    refine (hT A5 _ c5 (limbs (numV s.data.toList)) _ m5.rd (by omega) ⟨m5.nc, m5.cm⟩).mono ?_
    rw [HT2.out.1, HT2.out.2]
    rintro e w6 ⟨rfl, hb6⟩
    replace m5 := m5.below hb6
    replace hb6 := below_then hb5 hb6
    clear hb5
    go_wp2_with fail
    refine (hP _ _ (by have h1 := HPS.out.2.2; omega)).mono ?_
    rw [HPS.out.1, HPS.out.2.1]
    rintro e w7 ⟨A7, k7, c7, rfl, o7, hb7⟩
    have l7 : k7 ≤ 302 := by have h1 := o7.rd.2.1; have h2 := HLN7.out; omega
    have m7 := o7.nm
    clear o7
    replace m5 := m5.below hb7
    replace hb7 := below_then hb6 hb7
    clear hb6
    go_wp2_with fail
    refine (mul_nm A5 _ k5 c5 1 1 (numV s.data.toList) 10 _ ⟨m5.rd.alloc _, m5.nc, m5.cm⟩ (nm_new1 _ 10 _ (small_lt (by omega)) rfl) (by omega) (by omega)).mono ?_
    rintro e w8 ⟨A8, k8, c8, rfl, o8, hb8⟩
    have l8 : k8 ≤ 302 := by have h1 := o8.rd.2.1; have h2 := HLN8.out; omega
    have m8 := o8.nm
    clear o8 m5
    replace hb8 := below_new hb8
    replace m7 := m7.below hb8
    replace hb8 := below_then hb7 hb8
    clear hb7
    go_wp2_with fail
    refine (of_any m _ HMB.out).mono ?_
    rintro e w9 ⟨A9, k9, c9, rfl, o9, hb9⟩
    have m9 := o9.nm
    have l9 : k9 ≤ 1 := by have h1 := o9.rd.2.1; have h2 := HLM.out; omega
    clear o9
    replace m7 := m7.below hb9
    replace m8 := m8.below hb9
    replace hb9 := below_then hb8 hb9
    clear hb8
    go_wp2_with fail
    refine (add_nm A8 A9 k8 c8 k9 c9 (numV s.data.toList * 10) m _ m8 m9 (by omega) (by omega)).mono ?_
    rintro e w10 ⟨A10, k10, c10, rfl, o10, hb10⟩
    have l10 : k10 ≤ 400 := by have h1 := o10.rd.2.1; have h2 := HLN7.out; omega
    have m10 := o10.nm
    clear o10 m8 m9
    replace m7 := m7.below hb10
    replace hb10 := below_then hb9 hb10
    clear hb9
    go_wp2_with fail
    refine (same_eq _ _ _ _ _ _ _ _ _ m7 m10 (by omega) (by omega) rfl).mono ?_
    rintro e w11 ⟨rfl, hb11⟩
    replace hb11 := below_then hb10 hb11
    clear hb10
    go_wp2_with fail
    go_ret
    exact ⟨rfl, hb11⟩
  | true =>
    have hv := nm_of hra hm q1.1 q1.2
    obtain ⟨v, hvv⟩ : ∃ v, val a = v := ⟨_, rfl⟩
    have HE := Lib.hid (textE_ok hm (nm_text hv (j := 512) (by omega) (by omega)))
    have HS := Lib.hid (textS_ok HE.out)
    have hp := parse_text (nm_text hv (j := 512) (by omega) (by omega))
    rw [hvv] at hv hp
    have HVV := Lib.hid hvv
    have HPT := Lib.hid hp
    have hpl : (parseL (textB v)).length ≤ 200 := by rw [hp.2.1, hv.rd.len]; exact hna
    have HPL := Lib.hid hpl
    clear hvv hp hpl
    go_enter Tryz.func5, Tryz.ntmps5
    go_wp2_with fail
    refine (galive_any _ hG hM hT).mono ?_
    rintro e w1 ⟨rfl, hb1⟩
    replace hra := hra.below hb1
    replace hv := hv.below hb1
    go_wp2_with fail
    refine (hT A na ca a _ hra (by omega) q1).mono ?_
    rw [HE.out, HS.out, HVV.out]
    rintro e w2 ⟨rfl, hb2⟩
    replace hv := hv.below hb2
    clear hra
    replace hb2 := below_then hb1 hb2
    clear hb1
    go_wp2_with fail
    refine (hP (textB v) _ (by have h1 := HPT.out.2.2; omega)).mono ?_
    rw [HPT.out.1]
    rintro e w3 ⟨A3, k3, c3, rfl, o3, hb3⟩
    have l3 : k3 ≤ 200 := by have h1 := o3.rd.2.1; have h2 := HPL.out; omega
    rw [HPT.out.2.1] at o3
    have m3 := o3.nm
    clear o3
    replace hv := hv.below hb3
    replace hb3 := below_then hb2 hb3
    clear hb2
    go_wp2_with fail
    refine (same_eq _ _ _ _ _ _ _ _ _ hv m3 (by omega) (by omega) rfl).mono ?_
    rintro e w4 ⟨rfl, hb4⟩
    replace hb4 := below_then hb3 hb4
    clear hb3 hv m3 l3
    go_wp2_with fail
    refine (hP s _ (by omega)).mono ?_
    rw [HQE.out, HQL.out]
    rintro e w5 ⟨A5, k5, c5, rfl, o5, hb5⟩
    have l5 : k5 ≤ 300 := by have h1 := o5.rd.2.1; have h2 := HLN.out; omega
    have p5 : 0 < k5 := by
      have h1 := o5.nm.zero
      have h2 := HNZ.out
      omega
    have e5 : ((k5 : Int) == 0) = false := int_eq0 (by omega)
    have e6 : ¬ ((k5 : Int) = 0) := by omega
    have m5 := o5.nm
    clear o5
    replace hb5 := below_then hb4 hb5
    clear hb4
    go_wp2_with fail
    refine (hT A5 _ c5 (limbs (numV s.data.toList)) _ m5.rd (by omega) ⟨m5.nc, m5.cm⟩).mono ?_
    rw [HT2.out.1, HT2.out.2]
    rintro e w6 ⟨rfl, hb6⟩
    replace m5 := m5.below hb6
    replace hb6 := below_then hb5 hb6
    clear hb5
    go_wp2_with fail
    refine (hP _ _ (by have h1 := HPS.out.2.2; omega)).mono ?_
    rw [HPS.out.1, HPS.out.2.1]
    rintro e w7 ⟨A7, k7, c7, rfl, o7, hb7⟩
    have l7 : k7 ≤ 302 := by have h1 := o7.rd.2.1; have h2 := HLN7.out; omega
    have m7 := o7.nm
    clear o7
    replace m5 := m5.below hb7
    replace hb7 := below_then hb6 hb7
    clear hb6
    go_wp2_with fail
    refine (mul_nm A5 _ k5 c5 1 1 (numV s.data.toList) 10 _ ⟨m5.rd.alloc _, m5.nc, m5.cm⟩ (nm_new1 _ 10 _ (small_lt (by omega)) rfl) (by omega) (by omega)).mono ?_
    rintro e w8 ⟨A8, k8, c8, rfl, o8, hb8⟩
    have l8 : k8 ≤ 302 := by have h1 := o8.rd.2.1; have h2 := HLN8.out; omega
    have m8 := o8.nm
    clear o8 m5
    replace hb8 := below_new hb8
    replace m7 := m7.below hb8
    replace hb8 := below_then hb7 hb8
    clear hb7
    go_wp2_with fail
    refine (of_any m _ HMB.out).mono ?_
    rintro e w9 ⟨A9, k9, c9, rfl, o9, hb9⟩
    have m9 := o9.nm
    have l9 : k9 ≤ 1 := by have h1 := o9.rd.2.1; have h2 := HLM.out; omega
    clear o9
    replace m7 := m7.below hb9
    replace m8 := m8.below hb9
    replace hb9 := below_then hb8 hb9
    clear hb8
    go_wp2_with fail
    refine (add_nm A8 A9 k8 c8 k9 c9 (numV s.data.toList * 10) m _ m8 m9 (by omega) (by omega)).mono ?_
    rintro e w10 ⟨A10, k10, c10, rfl, o10, hb10⟩
    have l10 : k10 ≤ 400 := by have h1 := o10.rd.2.1; have h2 := HLN7.out; omega
    have m10 := o10.nm
    clear o10 m8 m9
    replace m7 := m7.below hb10
    replace hb10 := below_then hb9 hb10
    clear hb9
    go_wp2_with fail
    refine (same_eq _ _ _ _ _ _ _ _ _ m7 m10 (by omega) (by omega) rfl).mono ?_
    rintro e w11 ⟨rfl, hb11⟩
    replace hb11 := below_then hb10 hb11
    clear hb10
    go_wp2_with fail
    go_ret
    exact ⟨rfl, hb11⟩

theorem gcdDigits_any (hG : GcdIs 37) (hM : LcmIs 38) (hT : TextIs 6) (hP : ParseIs 7) (hra : Rd w A na a) (q1 : na ≤ ca ∧ ca ≤ 9223372036854775807) (hs : s.size ≤ 9223372036854775807) (hd : d < 256) :
    Calls Tryz.prog 5 #[.slice A na ca, .string s, .int .u8 (d : Int)] w fun e w' => e = .returned (.bool true) ∧ Below w.heap.size w w' := by
  by_cases h : 200 < na ∨ (na ≤ 200 ∧ 3000 < s.size)
  · exact gcdDigits_long A na ca s d w hG hM hT h (by omega) hs
  · cases hk : okL s.data.toList with
    | false => exact gcdDigits_bad A na ca a s d w hG hM hT hP hra q1 (by omega) (by omega) hd hk
    | true =>
      by_cases hz : numV s.data.toList = 0
      · exact gcdDigits_zero A na ca a s d w hG hM hT hP hra q1 (by omega) (by omega) hd hk hz
      · exact gcdDigits_main A na ca a s d w hG hM hT hP hra q1 (by omega) (by omega) hd hk hz
end
end Go.Proofs.YtoehkaagfokamaaGreatDoor

