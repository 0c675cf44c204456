import Derived.Test.YtjipdfebehcggaaGreatDoorZGTexts
import Derived.Test.YtjipdfebehcggaaGreatDoorZZQuo
/- GAlive GDigits ZTexts. -/
/- The chapter's first examples of layer 4. -/
namespace Go.Proofs.YtjipdfebehcggaaGreatDoor
open Go.RowKit Go.Shelf
set_option linter.unusedVariables false
set_option linter.unusedSimpArgs false

theorem limbs_word {x : Nat} (h : x < B64) : (limbs x).length ≤ 1 := limbs_length_le (by rwa [Nat.pow_one])
/-- 2^64's digits. -/
def two64 : List UInt8 := [49, 56, 52, 52, 54, 55, 52, 52, 48, 55, 51, 55, 48, 57, 53, 53, 49, 54, 49, 54]
theorem two64_ok : okL two64 = true := by decide
theorem two64_num : numV two64 = B64 := by decide
theorem two64_val : val [0, 1] = B64 := by simp [val]
theorem two64_may : may [0, 1] = true := rfl
theorem two64_text : textL B64 = two64 := by rw [← two64_num, text_num two64_ok]
theorem two64_E : textE [0, 1] = 0 := textE_ok two64_may (by rw [two64_val, two64_text]; decide)
theorem two64_S : textS [0, 1] = ⟨#[49, 56, 52, 52, 54, 55, 52, 52, 48, 55, 51, 55, 48, 57, 53, 53, 49, 54, 49, 54]⟩ := by
  rw [textS_ok two64_E, two64_val]
  unfold textB
  rw [two64_text]
  rfl
theorem gcd_no0 : Nat.gcd 0 0 = 0 ∧ Nat.lcm 0 0 = 0 := ⟨rfl, rfl⟩
section
variable (w : World)
end
end Go.Proofs.YtjipdfebehcggaaGreatDoor

/- The law GcdDigits: a number as a text is parsed as it was. -/
namespace Go.Proofs.YtjipdfebehcggaaGreatDoor
open Go.RowKit Go.Shelf
set_option linter.unusedVariables false
set_option linter.unusedSimpArgs false

theorem byte_of_wf {n : Int} (h : (Lit.int .u8 n).wf = true) : ∃ x : Nat, n = (x : Int) ∧ x < 256 := by
  simp [Lit.wf, IntKind.min, IntKind.max, IntKind.signed, IntKind.bits] at h
  exact ⟨n.toNat, by omega, by omega⟩
theorem pow_fit {n j : Nat} (h : n < 2 ^ (25 * j)) : n < 10 ^ (8 * j) := by
  rw [Nat.pow_mul] at h ⊢
  exact Nat.lt_of_lt_of_le h (Nat.pow_le_pow_left (by decide) j)
theorem nm_text {w : World} {A : Option Addr} {n c v j : Nat} (h : Nm w A n c v) (hj : 64 * n ≤ 25 * j) (h0 : 0 < j) : (textL v).length ≤ 8 * j := by
  have h1 := h.lt
  rw [B64_pow] at h1
  exact text_len (pow_fit (Nat.lt_of_lt_of_le h1 (Nat.pow_le_pow_right (by omega) hj))) (by omega)
theorem parse_text {v : Nat} (h : (textL v).length ≤ 4096) : parseE (textB v) = 0 ∧ parseL (textB v) = limbs v ∧ (textB v).size ≤ 4096 := by
  have h1 : (textB v).size ≤ 4096 := by rw [textB_size]; exact h
  have h2 : parseE (textB v) = 0 := parseE_ok h1 (by rw [textB_list]; exact ok_text v)
  exact ⟨h2, by rw [parseL_ok h2, textB_list, numV_text], h1⟩
theorem text_parse {s : ByteArray} (h : s.size ≤ 4096) (hk : okL s.data.toList = true) : textE (limbs (numV s.data.toList)) = 0 ∧ textS (limbs (numV s.data.toList)) = s := by
  have h1 : textE (limbs (numV s.data.toList)) = 0 := textE_ok (may_limbs _) (by rw [val_limbs, text_num hk, size_list]; exact h)
  exact ⟨h1, by rw [textS_ok h1, val_limbs, textB_num hk]⟩
theorem ext_dig {d : Nat} (h : d < 10) : (⟨#[48, 49, 50, 51, 52, 53, 54, 55, 56, 57]⟩ : ByteArray).extract d (d + 1) = ⟨[dig d].toArray⟩ := by
  have h1 := digits_at ⟨d, h⟩
  rw [Lib.extract_eq, show d + 1 - d = 1 by omega]
  have h2 : ((⟨#[48, 49, 50, 51, 52, 53, 54, 55, 56, 57]⟩ : ByteArray).data.toList.drop d).take 1 = [dig d] := h1
  rw [h2]
theorem snoc_bytes (s : ByteArray) (c : UInt8) : (s ++ ⟨[c].toArray⟩).data.toList = s.data.toList ++ [c] := by simp
theorem ok_snoc {l : List UInt8} (h : okL l = true) (h0 : numV l ≠ 0) {m : Nat} (hm : m < 10) : okL (l ++ [dig m]) = true := by
  have e : l ++ [dig m] = textL (numV l * 10 + m) := by
    have e1 := text_num h
    unfold textL at e1 ⊢
    rw [if_neg h0] at e1
    rw [if_neg (by omega), tenL_pos (by omega), show (numV l * 10 + m) / 10 = numV l by omega, show (numV l * 10 + m) % 10 = m by omega, e1]
  rw [e]
  exact ok_text _
theorem parse_snoc {s : ByteArray} (h : s.size ≤ 3000) (hk : okL s.data.toList = true) (h0 : numV s.data.toList ≠ 0) {m : Nat} (hm : m < 10) :
    parseE (s ++ (⟨#[48, 49, 50, 51, 52, 53, 54, 55, 56, 57]⟩ : ByteArray).extract m (m + 1)) = 0 ∧ parseL (s ++ (⟨#[48, 49, 50, 51, 52, 53, 54, 55, 56, 57]⟩ : ByteArray).extract m (m + 1)) = limbs (numV s.data.toList * 10 + m) ∧ (s ++ (⟨#[48, 49, 50, 51, 52, 53, 54, 55, 56, 57]⟩ : ByteArray).extract m (m + 1)).size ≤ 3001 := by
  rw [ext_dig hm]
  have h1 : (s ++ ⟨[dig m].toArray⟩ : ByteArray).size ≤ 3001 := by
    rw [← size_list, snoc_bytes, List.length_append, size_list, List.length_singleton]; omega
  have h2 : parseE (s ++ ⟨[dig m].toArray⟩) = 0 := parseE_ok (by omega) (by rw [snoc_bytes]; exact ok_snoc hk h0 hm)
  refine ⟨h2, ?_, h1⟩
  rw [parseL_ok h2, snoc_bytes, numV_snoc, dig_nat hm, Nat.add_sub_cancel_left]
theorem num_len {s : ByteArray} (h : s.size ≤ 3000) (hk : okL s.data.toList = true) : (limbs (numV s.data.toList)).length ≤ 300 := by
  have h3 : s.data.toList.all isD = true := by
    unfold okL at hk
    simp only [Bool.and_eq_true] at hk
    exact hk.2
  have h4 := limbs_length_le (num_lt_bits h3 (n := 4096) (by rw [size_list]; omega))
  omega

section
variable (A : Option Addr) (na ca : Nat) (a : List Nat) (s : ByteArray) (d : Nat) (w : World)
end
end Go.Proofs.YtjipdfebehcggaaGreatDoor


/- The law WholeTexts. -/
namespace Go.Proofs.YtjipdfebehcggaaGreatDoor
open Go.RowKit Go.Shelf
set_option linter.unusedVariables false
set_option linter.unusedSimpArgs false

theorem textN {A : Option Addr} {na ca : Nat} {w : World} {z : Int} (h1 : ZNm w A na ca z) (l1 : na ≤ 400) : Calls Tryz.prog 7 #[.agg #[.bool (decide (z < 0)), .slice A na ca]] w fun e w' => e = .returned (.tuple #[.string (textZS (decide (z < 0)) (limbs z.natAbs)), .int .i64 (textZE (decide (z < 0)) (limbs z.natAbs))]) ∧ Below w.heap.size w w' :=
  textZ_any (w := w) ⟨h1.rd, l1, h1.nc, h1.cm⟩
theorem textZ_form {z : Int} (h : textZE (decide (z < 0)) (limbs z.natAbs) = 0) : (textL z.natAbs).length ≤ 4096 ∧ textZS (decide (z < 0)) (limbs z.natAbs) = if decide (z < 0) = true then ⟨#[45]⟩ ++ textB z.natAbs else textB z.natAbs := by
  have hS : textZS (decide (z < 0)) (limbs z.natAbs) = if decide (z < 0) = true then ⟨#[45]⟩ ++ textS (limbs z.natAbs) else textS (limbs z.natAbs) := by unfold textZS; rw [if_pos h]
  unfold textZE at h
  rw [if_pos (mayZ_num z)] at h
  have h2 : textS (limbs z.natAbs) = textB z.natAbs := by unfold textS; rw [if_pos h, val_limbs]
  rw [hS, h2]
  refine ⟨?_, rfl⟩
  unfold textE at h
  rw [if_pos (may_limbs _), val_limbs] at h
  split at h
  · assumption
  · cases h
theorem head_text (n : Nat) : ∃ c r, textL n = c :: r ∧ c ≠ 45 ∧ (n ≠ 0 → c ≠ 48) := by
  have h := ok_text n
  cases hl : textL n with
  | nil => rw [hl] at h; cases h
  | cons c r =>
    refine ⟨c, r, rfl, ?_, ?_⟩
    · rintro rfl
      rw [hl] at h
      unfold okL at h
      simp only [List.all_cons, Bool.and_eq_true] at h
      have h2 := h.2.1
      exact absurd h2 (by decide)
    · intro hn
      rintro rfl
      unfold textL at hl
      rw [if_neg hn] at hl
      have h2 := head_ten hn
      rw [hl] at h2
      exact h2 rfl
theorem cut_one (t : ByteArray) : ((⟨#[45]⟩ ++ t : ByteArray).extract 1 (⟨#[45]⟩ ++ t : ByteArray).size) = t := by
  apply Go.WideShapes.bytes_inj
  rw [drop_list]
  rw [ByteArray.data_append, Array.toList_append]
  rfl
theorem minus_cons (t : ByteArray) : minus (⟨#[45]⟩ ++ t) = true := by
  unfold minus
  rw [ByteArray.data_append, Array.toList_append]
  rfl
/-- A number as a text is parsed as it was. -/
theorem text_back {z : Int} (h : textZE (decide (z < 0)) (limbs z.natAbs) = 0) : parseZE (textZS (decide (z < 0)) (limbs z.natAbs)) = 0 ∧ parseZ (textZS (decide (z < 0)) (limbs z.natAbs)) = z ∧ (textZS (decide (z < 0)) (limbs z.natAbs)).size ≤ 70000 := by
  obtain ⟨h1, h2⟩ := textZ_form h
  rw [h2]
  have hp := parse_text h1
  obtain ⟨c, r, hl, hc, hc2⟩ := head_text z.natAbs
  have hb := textB_list z.natAbs
  rw [hl] at hb
  by_cases hz : z < 0
  · rw [if_pos (decide_eq_true hz)]
    have hm := minus_cons (textB z.natAbs)
    have hd : (⟨#[45]⟩ ++ textB z.natAbs : ByteArray).data.toList.drop 1 = textL z.natAbs := by
      rw [← drop_list, cut_one, textB_list]
    have hE : parseZE (⟨#[45]⟩ ++ textB z.natAbs) = 0 := by
      unfold parseZE
      rw [if_pos hm, hd, if_neg (by rw [hl]; simpa using hc2 (by omega)), cut_one]
      exact hp.1
    refine ⟨hE, ?_, ?_⟩
    · unfold parseZ
      rw [if_pos hE, if_pos hm, hd, numV_text]
      omega
    · have h3 := hp.2.2
      rw [ByteArray.size_append]
      have : (⟨#[45]⟩ : ByteArray).size = 1 := rfl
      omega
  · rw [if_neg (by rw [decide_eq_false hz]; decide)]
    have hm : minus (textB z.natAbs) = false := by
      unfold minus
      rw [hb]
      simpa using hc
    have hE : parseZE (textB z.natAbs) = 0 := by
      unfold parseZE
      rw [if_neg (by rw [hm]; decide)]
      exact hp.1
    refine ⟨hE, ?_, by have := hp.2.2; omega⟩
    unfold parseZ
    rw [if_pos hE, if_neg (by rw [hm]; decide), textB_list, numV_text]
    omega
theorem parseE_okL {t : ByteArray} (h : parseE t = 0) : okL t.data.toList = true := by
  cases hk : okL t.data.toList with
  | true => rfl
  | false =>
    unfold parseE at h
    rw [hk] at h
    split at h <;> simp at h
/-- What is parsed is that text. -/
theorem parse_back {s : ByteArray} (h : parseZE s = 0) (hs : s.size ≤ 1000) : textZE (decide (parseZ s < 0)) (limbs (parseZ s).natAbs) = 0 ∧ textZS (decide (parseZ s < 0)) (limbs (parseZ s).natAbs) = s := by
  obtain ⟨h1, h2⟩ := parseZ_ok h
  obtain ⟨h3, h4⟩ := parseL_z h
  have hk := parseE_okL h3
  have hl : (if minus s then s.extract 1 s.size else s).data.toList = (if minus s then s.data.toList.drop 1 else s.data.toList) := by
    split
    · exact drop_list s
    · rfl
  have ht := textB_num hk
  rw [hl, ← h1] at ht
  have hlen : (textL (parseZ s).natAbs).length ≤ 4096 := by
    rw [← textB_list, ht, size_list]
    split
    · rw [drop_size]; omega
    · omega
  have hE : textE (limbs (parseZ s).natAbs) = 0 := textE_ok (may_limbs _) (by rw [val_limbs]; exact hlen)
  have hZ : textZE (decide (parseZ s < 0)) (limbs (parseZ s).natAbs) = 0 := by unfold textZE; rw [if_pos (mayZ_num _)]; exact hE
  refine ⟨hZ, ?_⟩
  rw [(textZ_form hZ).2, h2, ht]
  cases hm : minus s with
  | false => simp
  | true =>
    simp only [if_true]
    apply Go.WideShapes.bytes_inj
    rw [ByteArray.data_append, Array.toList_append, drop_list]
    unfold minus at hm
    cases hd : s.data.toList with
    | nil => rw [hd] at hm; cases hm
    | cons x r =>
      rw [hd] at hm
      simp only [List.head?_cons, beq_iff_eq, Option.some.injEq] at hm
      rw [hm]
      rfl
set_option maxRecDepth 100000 in
set_option maxHeartbeats 20000000 in
theorem textsZ_short (A : Option Addr) (na ca : Nat) (p : Bool) (a : List Nat) (s : ByteArray) (n : Int) (w : World) (h : Z1 w A na ca a) (l1 : na ≤ 50) (l2 : s.size ≤ 1000) (n1 : -9223372036854775808 ≤ n) (n2 : n ≤ 9223372036854775807) :
    Calls Tryz.prog 5 #[zv p A na ca, .string s, .int .i64 n] w fun e w' => e = .returned (.bool true) ∧ Below w.heap.size w w' := by
  have HP2 := Lib.hid (fun W => parseZ_any s W (by omega))
  have Ly : Hid (Ln (parseZ s)) := ln_parse s
  have Ln8 : Hid (Bd 1 n) := by show n.natAbs < B64 ^ 1; rw [Nat.pow_one, B64_eq]; omega
  have HT2 : Hid (∃ U G, (parseZE s = 0 → U = s ∧ G = 0) ∧ ∀ W {A na ca}, ZNm W A na ca (parseZ s) → na ≤ 400 → Calls Tryz.prog 7 #[.agg #[.bool (decide (parseZ s < 0)), .slice A na ca]] W fun e w' => e = .returned (.tuple #[.string U, .int .i64 G]) ∧ Below W.heap.size W w') :=
    ⟨_, _, fun hf => ⟨(parse_back hf l2).2, (parse_back hf l2).1⟩, fun W _ _ _ h1 l1 => textN h1 l1⟩
  obtain ⟨U, G, hUG, ht⟩ := HT2.out
  have HT2 := Lib.hid @ht
  clear ht
  generalize parseZ s = y at HP2 Ly HT2
  generalize parseZE s = F at HP2 hUG
  by_cases hE : textZE p a = 0
  · have hm : mayZ p a = true := by
      cases hm : mayZ p a with
      | true => rfl
      | false => unfold textZE at hE; rw [hm] at hE; cases hE
    have hz := znm_of h.ra hm h.ca1 h.ca2
    have hzv := hz.2
    have hL := limbs_val h.ra.words (mayZ_may hm)
    have HT1 : Hid (∃ S, parseZE S = 0 ∧ parseZ S = zof p a ∧ S.size ≤ 70000 ∧ ∀ W {A na ca}, ZNm W A na ca (zof p a) → na ≤ 400 → Calls Tryz.prog 7 #[.agg #[.bool (decide (zof p a < 0)), .slice A na ca]] W fun e w' => e = .returned (.tuple #[.string S, .int .i64 0]) ∧ Below W.heap.size W w') := by
      have e : textZE (decide (zof p a < 0)) (limbs (zof p a).natAbs) = 0 := by rw [← mayZ_sgn hm, zof_abs, hL]; exact hE
      have hb := text_back e
      refine ⟨_, hb.1, hb.2.1, hb.2.2, fun W _ _ _ h1 l1 => ?_⟩
      have ht := textN h1 l1
      rw [e] at ht
      exact ht
    obtain ⟨S, hS0, hS1, hS2, ht⟩ := HT1.out
    have HT1 := Lib.hid @ht
    clear ht
    have HP1 := Lib.hid (fun W => parseZ_any S W hS2)
    rw [hS0, hS1] at HP1
    have Lz : Hid (Bd 50 (zof p a)) := (zof_bd h.ra).mono l1
    rw [hzv]
    have hz := hz.1
    clear hS0 hS1 hS2 hzv hL hE hm h
    generalize zof p a = z at HT1 HP1 Lz hz ⊢
    by_cases hF : F = 0
    · obtain ⟨rfl, rfl⟩ := hUG hF
      subst hF
      clear hUG
      have K0 := held_nil w
      have D0 := Below.refl w.heap.size w
      have K1 := (K0.next (bxb _ (zo (decide (z < 0)) A na ca))).cons (It.param (hz) (show na ≤ 400 by omega))
      have D1 := D0.alloc (Nat.le_refl _) (zo (decide (z < 0)) A na ca)
      try simp only [World.size_alloc] at K1
      have HH0 := Lib.hid K1
      have HB0 := Lib.hid D1
      clear K0 K1
      clear D0 D1
      clear hz
      unfold zV zv
      go_enter Tryz.func5, Tryz.ntmps5
      go_wp2_with fail
      refine (zalive_any _).mono ?_
      rintro e v1_ ⟨rfl, hb⟩
      have HH1 := Lib.hid (HH0.out.next hb)
      have HB1 := Lib.hid (below_then HB0.out hb)
      clear hb HH0 HB0
      have xz0 := (HH1.out _ (.head _)).b.c0
      have xz1 := (HH1.out _ (.head _)).b.c1
      go_wp2_with fail
      refine (HT1.out _ (HH1.out _ (.head _)).m (HH1.out _ (.head _)).l).mono ?_
      rintro e v2_ ⟨rfl, hb⟩
      have HH2 := Lib.hid (HH1.out.next hb)
      have HB2 := Lib.hid (below_then HB1.out hb)
      clear hb HH1 HB1
      clear xz0 xz1
      go_wp2_with fail
      refine (HP1.out _).mono ?_
      rintro e v3_ ⟨N3, n3, d3, rfl, o3, hb⟩
      have HL := Lib.hid (Lz.out.len o3)
      have HH3 := Lib.hid ((HH2.out.next (below_then hb (bxb _ (zo (decide (z < 0)) N3 n3 d3)))).cons (It.fresh o3 (by have := HL.out; omega)))
      have HB3 := Lib.hid (below_then HB2.out (below_then hb (bxb _ (zo (decide (z < 0)) N3 n3 d3))))
      clear hb o3 HL HH2 HB2
      unfold zV zv
      have xz0 := (HH3.out _ (.tail _ (.head _))).b.c0
      have xz1 := (HH3.out _ (.tail _ (.head _))).b.c1
      have xb10 := (HH3.out _ (.head _)).b.c0
      have xb11 := (HH3.out _ (.head _)).b.c1
      go_wp2_with fail
      refine (sameT (HH3.out _ (.tail _ (.head _))).m (HH3.out _ (.head _)).m (HH3.out _ (.tail _ (.head _))).l (HH3.out _ (.head _)).l rfl).mono ?_
      rintro e v4_ ⟨rfl, hb⟩
      have HH4 := Lib.hid (HH3.out.next hb)
      have HB4 := Lib.hid (below_then HB3.out hb)
      clear hb HH3 HB3
      clear xz0 xz1 xb10 xb11
      go_wp2_with fail
      refine (HP2.out _).mono ?_
      rintro e v5_ ⟨N5, n5, d5, rfl, o5, hb⟩
      have HL := Lib.hid (Ly.out.len o5)
      have HH5 := Lib.hid ((HH4.out.next (below_then hb (bxb _ (zo (decide (y < 0)) N5 n5 d5)))).cons (It.fresh o5 (by have := HL.out; omega)))
      have HB5 := Lib.hid (below_then HB4.out (below_then hb (bxb _ (zo (decide (y < 0)) N5 n5 d5))))
      clear hb o5 HL HH4 HB4
      unfold zV zv
      have xb20 := (HH5.out _ (.head _)).b.c0
      have xb21 := (HH5.out _ (.head _)).b.c1
      go_wp2_with fail
      refine (HT2.out _ (HH5.out _ (.head _)).m (HH5.out _ (.head _)).l).mono ?_
      rintro e v6_ ⟨rfl, hb⟩
      have HH6 := Lib.hid (HH5.out.next hb)
      have HB6 := Lib.hid (below_then HB5.out hb)
      clear hb HH5 HB5
      clear xb20 xb21
      go_wp2_with fail
      refine (wOf_any n (by omega) (by omega)).mono ?_
      rintro e u1 ⟨A8, k8, c8, rfl, o8, hb8⟩
      have HB9 := Lib.hid (below_then HB6.out hb8)
      have hk8 : k8 ≤ 400 := by have := Ln8.out.len o8; omega
      clear hb8 HH6 HB6
      unfold zV zv
      go_wp2_with fail
      refine (intN o8.nm hk8 (by omega) (by omega)).mono ?_
      rintro e u2 ⟨rfl, hb⟩
      have HB10 := Lib.hid (below_then HB9.out hb)
      clear hb o8
      go_wp2
      go_ret
      exact ⟨by simp, HB10.out⟩
    · have hF1 : (F != 0) = true := by simpa using hF
      clear hUG
      have K0 := held_nil w
      have D0 := Below.refl w.heap.size w
      have K1 := (K0.next (bxb _ (zo (decide (z < 0)) A na ca))).cons (It.param (hz) (show na ≤ 400 by omega))
      have D1 := D0.alloc (Nat.le_refl _) (zo (decide (z < 0)) A na ca)
      try simp only [World.size_alloc] at K1
      have HH0 := Lib.hid K1
      have HB0 := Lib.hid D1
      clear K0 K1
      clear D0 D1
      clear hz
      unfold zV zv
      go_enter Tryz.func5, Tryz.ntmps5
      go_wp2_with fail
      refine (zalive_any _).mono ?_
      rintro e v1_ ⟨rfl, hb⟩
      have HH1 := Lib.hid (HH0.out.next hb)
      have HB1 := Lib.hid (below_then HB0.out hb)
      clear hb HH0 HB0
      have xz0 := (HH1.out _ (.head _)).b.c0
      have xz1 := (HH1.out _ (.head _)).b.c1
      go_wp2_with fail
      refine (HT1.out _ (HH1.out _ (.head _)).m (HH1.out _ (.head _)).l).mono ?_
      rintro e v2_ ⟨rfl, hb⟩
      have HH2 := Lib.hid (HH1.out.next hb)
      have HB2 := Lib.hid (below_then HB1.out hb)
      clear hb HH1 HB1
      clear xz0 xz1
      go_wp2_with fail
      refine (HP1.out _).mono ?_
      rintro e v3_ ⟨N3, n3, d3, rfl, o3, hb⟩
      have HL := Lib.hid (Lz.out.len o3)
      have HH3 := Lib.hid ((HH2.out.next (below_then hb (bxb _ (zo (decide (z < 0)) N3 n3 d3)))).cons (It.fresh o3 (by have := HL.out; omega)))
      have HB3 := Lib.hid (below_then HB2.out (below_then hb (bxb _ (zo (decide (z < 0)) N3 n3 d3))))
      clear hb o3 HL HH2 HB2
      unfold zV zv
      have xz0 := (HH3.out _ (.tail _ (.head _))).b.c0
      have xz1 := (HH3.out _ (.tail _ (.head _))).b.c1
      have xb10 := (HH3.out _ (.head _)).b.c0
      have xb11 := (HH3.out _ (.head _)).b.c1
      go_wp2_with fail
      refine (sameT (HH3.out _ (.tail _ (.head _))).m (HH3.out _ (.head _)).m (HH3.out _ (.tail _ (.head _))).l (HH3.out _ (.head _)).l rfl).mono ?_
      rintro e v4_ ⟨rfl, hb⟩
      have HH4 := Lib.hid (HH3.out.next hb)
      have HB4 := Lib.hid (below_then HB3.out hb)
      clear hb HH3 HB3
      clear xz0 xz1 xb10 xb11
      go_wp2_with fail
      refine (HP2.out _).mono ?_
      rintro e v5_ ⟨N5, n5, d5, rfl, o5, hb⟩
      have HL := Lib.hid (Ly.out.len o5)
      have HH5 := Lib.hid ((HH4.out.next (below_then hb (bxb _ (zo (decide (y < 0)) N5 n5 d5)))).cons (It.fresh o5 (by have := HL.out; omega)))
      have HB5 := Lib.hid (below_then HB4.out (below_then hb (bxb _ (zo (decide (y < 0)) N5 n5 d5))))
      clear hb o5 HL HH4 HB4
      unfold zV zv
      have xb20 := (HH5.out _ (.head _)).b.c0
      have xb21 := (HH5.out _ (.head _)).b.c1
      go_wp2_with fail
      refine (HT2.out _ (HH5.out _ (.head _)).m (HH5.out _ (.head _)).l).mono ?_
      rintro e v6_ ⟨rfl, hb⟩
      have HH6 := Lib.hid (HH5.out.next hb)
      have HB6 := Lib.hid (below_then HB5.out hb)
      clear hb HH5 HB5
      clear xb20 xb21
      go_wp2_with fail
      refine (wOf_any n (by omega) (by omega)).mono ?_
      rintro e u1 ⟨A8, k8, c8, rfl, o8, hb8⟩
      have HB9 := Lib.hid (below_then HB6.out hb8)
      have hk8 : k8 ≤ 400 := by have := Ln8.out.len o8; omega
      clear hb8 HH6 HB6
      unfold zV zv
      go_wp2_with fail
      refine (intN o8.nm hk8 (by omega) (by omega)).mono ?_
      rintro e u2 ⟨rfl, hb⟩
      have HB10 := Lib.hid (below_then HB9.out hb)
      clear hb o8
      go_wp2
      go_ret
      exact ⟨by simp, HB10.out⟩
  · have hE1 : (textZE p a == 0) = false := by simpa using hE
    have HT1 := Lib.hid (fun W (hW : Below w.heap.size w W) => textZ_any (p := p) (w := W) (h.below hW))
    have BX := Lib.hid (uno_box w p A na ca)
    generalize textZE p a = E at hE1 HT1
    generalize textZS p a = S at HT1
    clear h hE
    by_cases hF : F = 0
    · obtain ⟨rfl, rfl⟩ := hUG hF
      subst hF
      clear hUG
      have HH0 := Lib.hid (held_nil (w.alloc (zo p A na ca)))
      unfold zv
      go_enter Tryz.func5, Tryz.ntmps5
      go_wp2_with fail
      refine (zalive_any _).mono ?_
      rintro e v1_ ⟨rfl, hb⟩
      have T1 := BX.out.next hb
      have HH1 := Lib.hid (HH0.out.next hb)
      have HB1 := Lib.hid T1.b
      have xa0 := T1.x.c0
      have xa1 := T1.x.c1
      clear hb HH0 T1
      go_wp2_with fail
      refine (HT1.out _ HB1.out).mono ?_
      rintro e v2_ ⟨rfl, hb⟩
      have HH2 := Lib.hid (HH1.out.next hb)
      have HB2 := Lib.hid (below_then HB1.out hb)
      clear hb HH1 HB1
      clear xa0 xa1
      go_wp2_with fail
      refine (HP2.out _).mono ?_
      rintro e v3_ ⟨N3, n3, d3, rfl, o3, hb⟩
      have HL := Lib.hid (Ly.out.len o3)
      have HH3 := Lib.hid ((HH2.out.next (below_then hb (bxb _ (zo (decide (y < 0)) N3 n3 d3)))).cons (It.fresh o3 (by have := HL.out; omega)))
      have HB3 := Lib.hid (below_then HB2.out (below_then hb (bxb _ (zo (decide (y < 0)) N3 n3 d3))))
      clear hb o3 HL HH2 HB2
      unfold zV zv
      have xb20 := (HH3.out _ (.head _)).b.c0
      have xb21 := (HH3.out _ (.head _)).b.c1
      go_wp2_with fail
      refine (HT2.out _ (HH3.out _ (.head _)).m (HH3.out _ (.head _)).l).mono ?_
      rintro e v4_ ⟨rfl, hb⟩
      have HH4 := Lib.hid (HH3.out.next hb)
      have HB4 := Lib.hid (below_then HB3.out hb)
      clear hb HH3 HB3
      clear xb20 xb21
      go_wp2_with fail
      refine (wOf_any n (by omega) (by omega)).mono ?_
      rintro e u1 ⟨A8, k8, c8, rfl, o8, hb8⟩
      have HB9 := Lib.hid (below_then HB4.out hb8)
      have hk8 : k8 ≤ 400 := by have := Ln8.out.len o8; omega
      clear hb8 HH4 HB4
      unfold zV zv
      go_wp2_with fail
      refine (intN o8.nm hk8 (by omega) (by omega)).mono ?_
      rintro e u2 ⟨rfl, hb⟩
      have HB10 := Lib.hid (below_then HB9.out hb)
      clear hb o8
      go_wp2
      go_ret
      exact ⟨by simp, HB10.out⟩
    · have hF1 : (F != 0) = true := by simpa using hF
      clear hUG
      have HH0 := Lib.hid (held_nil (w.alloc (zo p A na ca)))
      unfold zv
      go_enter Tryz.func5, Tryz.ntmps5
      go_wp2_with fail
      refine (zalive_any _).mono ?_
      rintro e v1_ ⟨rfl, hb⟩
      have T1 := BX.out.next hb
      have HH1 := Lib.hid (HH0.out.next hb)
      have HB1 := Lib.hid T1.b
      have xa0 := T1.x.c0
      have xa1 := T1.x.c1
      clear hb HH0 T1
      go_wp2_with fail
      refine (HT1.out _ HB1.out).mono ?_
      rintro e v2_ ⟨rfl, hb⟩
      have HH2 := Lib.hid (HH1.out.next hb)
      have HB2 := Lib.hid (below_then HB1.out hb)
      clear hb HH1 HB1
      clear xa0 xa1
      go_wp2_with fail
      refine (HP2.out _).mono ?_
      rintro e v3_ ⟨N3, n3, d3, rfl, o3, hb⟩
      have HL := Lib.hid (Ly.out.len o3)
      have HH3 := Lib.hid ((HH2.out.next (below_then hb (bxb _ (zo (decide (y < 0)) N3 n3 d3)))).cons (It.fresh o3 (by have := HL.out; omega)))
      have HB3 := Lib.hid (below_then HB2.out (below_then hb (bxb _ (zo (decide (y < 0)) N3 n3 d3))))
      clear hb o3 HL HH2 HB2
      unfold zV zv
      have xb20 := (HH3.out _ (.head _)).b.c0
      have xb21 := (HH3.out _ (.head _)).b.c1
      go_wp2_with fail
      refine (HT2.out _ (HH3.out _ (.head _)).m (HH3.out _ (.head _)).l).mono ?_
      rintro e v4_ ⟨rfl, hb⟩
      have HH4 := Lib.hid (HH3.out.next hb)
      have HB4 := Lib.hid (below_then HB3.out hb)
      clear hb HH3 HB3
      clear xb20 xb21
      go_wp2_with fail
      refine (wOf_any n (by omega) (by omega)).mono ?_
      rintro e u1 ⟨A8, k8, c8, rfl, o8, hb8⟩
      have HB9 := Lib.hid (below_then HB4.out hb8)
      have hk8 : k8 ≤ 400 := by have := Ln8.out.len o8; omega
      clear hb8 HH4 HB4
      unfold zV zv
      go_wp2_with fail
      refine (intN o8.nm hk8 (by omega) (by omega)).mono ?_
      rintro e u2 ⟨rfl, hb⟩
      have HB10 := Lib.hid (below_then HB9.out hb)
      clear hb o8
      go_wp2
      go_ret
      exact ⟨by simp, HB10.out⟩
set_option maxRecDepth 100000 in
set_option maxHeartbeats 4000000 in
theorem textsZ_long (A : Option Addr) (na ca : Nat) (p : Bool) (s : ByteArray) (n : Int) (w : World) (hl : 50 < na ∨ 1000 < s.size) (m1 : na ≤ 9223372036854775807) (m3 : s.size ≤ 9223372036854775807) :
    Calls Tryz.prog 5 #[zv p A na ca, .string s, .int .i64 n] w fun e w' => e = .returned (.bool true) ∧ Below w.heap.size w w' := by
  have T0 := uno_box w p A na ca
  unfold zv at *
  by_cases k1 : 50 < na
  · clear hl
    go_enter Tryz.func5, Tryz.ntmps5
    go_wp2_with fail
    refine (zalive_any _).mono ?_
    rintro e w1 ⟨rfl, hb⟩
    have T1 := T0.next hb
    have xa0 := T1.x.c0
    have xa1 := T1.x.c1
    clear hb T0
    go_wp2
    go_ret
    exact ⟨rfl, T1.b⟩
  · have k2 : 1000 < s.size := by omega
    clear hl
    go_enter Tryz.func5, Tryz.ntmps5
    go_wp2_with fail
    refine (zalive_any _).mono ?_
    rintro e w1 ⟨rfl, hb⟩
    have T1 := T0.next hb
    have xa0 := T1.x.c0
    have xa1 := T1.x.c1
    clear hb T0
    go_wp2
    go_ret
    exact ⟨rfl, T1.b⟩
theorem textsZ_any (A : Option Addr) (na ca : Nat) (p : Bool) (a : List Nat) (s : ByteArray) (n : Int) (w : World) (ra : Rd w A na a) (q1 : na ≤ ca ∧ ca ≤ 9223372036854775807) (m3 : s.size ≤ 9223372036854775807) (n1 : -9223372036854775808 ≤ n) (n2 : n ≤ 9223372036854775807) :
    Calls Tryz.prog 5 #[.agg #[.bool p, .slice A na ca], .string s, .int .i64 n] w fun e w' => e = .returned (.bool true) ∧ Below w.heap.size w w' := by
  by_cases h6 : na ≤ 50 ∧ s.size ≤ 1000
  · exact textsZ_short A na ca p a s n w ⟨ra, by omega, q1.1, q1.2⟩ h6.1 h6.2 n1 n2
  · exact textsZ_long A na ca p s n w (by omega) (by omega) m3
end Go.Proofs.YtjipdfebehcggaaGreatDoor
