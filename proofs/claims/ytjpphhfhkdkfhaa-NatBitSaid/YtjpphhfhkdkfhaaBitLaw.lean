import Derived.Test.YtjpphhfhkdkfhaaBits
import Derived.Test.YtjpphhfhkdkfhaaRefMay
namespace Go.Proofs.Ytjpphhfhkdkfhaa
open Go.RowKit Go.Shelf
set_option linter.unusedVariables false
set_option linter.unusedSimpArgs false

/-- Are the first k bits of two numbers the same? -/
def sameTo (x y k : Nat) : Bool := (List.range k).all fun j => nbit x j == nbit y j
theorem sameTo_succ (x y k : Nat) : sameTo x y (k + 1) = (sameTo x y k && nbit x k == nbit y k) := by simp [sameTo, List.range_succ]
theorem sameTo_self (x k : Nat) : sameTo x x k = true := by simp [sameTo]
theorem mod_eq_of_sameTo {x y : Nat} : ∀ {k : Nat}, sameTo x y k = true → x % 2 ^ k = y % 2 ^ k
  | 0, _ => by simp [Nat.mod_one]
  | k + 1, h => by
    rw [sameTo_succ, Bool.and_eq_true] at h
    have ih := mod_eq_of_sameTo h.1
    have hb : nbit x k = nbit y k := by simpa using h.2
    unfold nbit at hb
    rw [Nat.pow_succ, Nat.mod_mul, Nat.mod_mul, ih, hb]
theorem nbit_past {x k : Nat} (h : blen x ≤ k) : nbit x k = 0 := by
  unfold nbit
  have h1 := blen_lt x
  rw [Nat.div_eq_of_lt (Nat.lt_of_lt_of_le h1 (Nat.pow_le_pow_right (by omega) h))]
theorem nbit_top {x k : Nat} (h : k + 1 = blen x) : nbit x k = 1 := by
  have h0 : x ≠ 0 := by rintro rfl; simp [blen] at h
  obtain ⟨h1, h2, _⟩ := blen_pos h0
  rw [← h] at h1 h2
  simp only [Nat.add_sub_cancel] at h1
  unfold nbit
  have : x / 2 ^ k = 1 := by
    have a1 : x / 2 ^ k < 2 := by rw [Nat.div_lt_iff_lt_mul (Nat.two_pow_pos k), Nat.mul_comm, ← Nat.pow_succ]; exact h2
    have a2 : 1 ≤ x / 2 ^ k := by rw [Nat.le_div_iff_mul_le (Nat.two_pow_pos k)]; omega
    omega
  rw [this]
theorem eq_of_sameTo {x y k : Nat} (hx : blen x ≤ k) (hy : blen y ≤ k) (h : sameTo x y k = true) : x = y := by
  have e := mod_eq_of_sameTo h
  have h1 := Nat.lt_of_lt_of_le (blen_lt x) (Nat.pow_le_pow_right (by omega : 2 > 0) hx)
  have h2 := Nat.lt_of_lt_of_le (blen_lt y) (Nat.pow_le_pow_right (by omega : 2 > 0) hy)
  rwa [Nat.mod_eq_of_lt h1, Nat.mod_eq_of_lt h2] at e

section
variable (A A2 : Option Addr) (na ca nb cb : Nat) (a b : List Nat) (w : World)

set_option maxRecDepth 100000 in
set_option maxHeartbeats 2000000 in
theorem natBit_long (hb : 20 < na ∨ 20 < nb) (h1 : na ≤ 9223372036854775807) (h2 : nb ≤ 9223372036854775807) :
    Calls Try.prog 9 #[.slice A na ca, .slice A2 nb cb] w fun e w' => e = .returned (.bool true) ∧ Below w.heap.size w w' := by
  by_cases ha : 20 < na
  · go_enter Try.func9, Try.ntmps9
    go_wp2_with (go_at_call 16; refine (alive_any _).mono ?_; rintro e w1 ⟨rfl, hb1⟩)
    go_ret
    exact ⟨rfl, hb1⟩
  · have hc : 20 < nb := by omega
    go_enter Try.func9, Try.ntmps9
    go_wp2_with (go_at_call 16; refine (alive_any _).mono ?_; rintro e w1 ⟨rfl, hb1⟩)
    go_ret
    exact ⟨rfl, hb1⟩

set_option maxRecDepth 100000 in
set_option maxHeartbeats 2000000 in
theorem natBit_bad (hra : Rd w A na a) (hrb : Rd w A2 nb b) (h1 : na ≤ 20) (h2 : nb ≤ 20) (hm : may a = false) :
    Calls Try.prog 9 #[.slice A na ca, .slice A2 nb cb] w fun e w' => e = .returned (.bool true) ∧ Below w.heap.size w w' := by
  have H2 : ∀ W, Below w.heap.size w W → ∃ v e2, Calls Try.prog 10 #[.slice A2 nb cb] W fun e w' => e = .returned (.tuple #[.int .i64 v, .int .i64 e2]) ∧ Below W.heap.size W w' := fun W hW => by
    cases hmb : may b with
    | false => exact ⟨_, _, long_bad A2 nb cb b W (hrb.below hW) (by omega) hmb⟩
    | true => exact ⟨_, _, long_ok A2 nb cb b W (hrb.below hW) (by omega) hmb⟩
  have HH := Lib.hid H2
  clear H2
  go_enter Try.func9, Try.ntmps9
  go_wp2_with fail
  refine (alive_any _).mono ?_
  rintro e w1 ⟨rfl, hb1⟩
  go_wp2_with fail
  refine (long_bad _ _ _ a _ (hra.below hb1) (by omega) hm).mono ?_
  rintro e w2 ⟨rfl, hb2⟩
  replace hb2 := below_then hb1 hb2
  go_wp2_with fail
  obtain ⟨v, e2, h3⟩ := HH.out w2 hb2
  refine h3.mono ?_
  clear h3
  rintro e w3 ⟨rfl, hb3⟩
  replace hb3 := below_then hb2 hb3
  go_wp2_with fail
  go_ret
  exact ⟨rfl, hb3⟩

set_option maxRecDepth 100000 in
set_option maxHeartbeats 2000000 in
theorem natBit_bad2 (hra : Rd w A na a) (hrb : Rd w A2 nb b) (h1 : na ≤ 20) (h2 : nb ≤ 20) (hm : may a = true) (hmb : may b = false) :
    Calls Try.prog 9 #[.slice A na ca, .slice A2 nb cb] w fun e w' => e = .returned (.bool true) ∧ Below w.heap.size w w' := by
  go_enter Try.func9, Try.ntmps9
  go_wp2_with fail
  refine (alive_any _).mono ?_
  rintro e w1 ⟨rfl, hb1⟩
  go_wp2_with fail
  refine (long_ok _ _ _ a _ (hra.below hb1) (by omega) hm).mono ?_
  rintro e w2 ⟨rfl, hb2⟩
  replace hb2 := below_then hb1 hb2
  go_wp2_with fail
  refine (long_bad _ _ _ b _ (hrb.below hb2) (by omega) hmb).mono ?_
  rintro e w3 ⟨rfl, hb3⟩
  replace hb3 := below_then hb2 hb3
  go_wp2_with fail
  go_ret
  exact ⟨rfl, hb3⟩

set_option maxRecDepth 100000 in
set_option maxHeartbeats 8000000 in
theorem natBit_ok (hra : Rd w A na a) (hrb : Rd w A2 nb b) (h1 : na ≤ 20) (h2 : nb ≤ 20) (hm : may a = true) (hmb : may b = true) :
    Calls Try.prog 9 #[.slice A na ca, .slice A2 nb cb] w fun e w' => e = .returned (.bool true) ∧ Below w.heap.size w w' := by
  have hlen : ∀ (l : List Nat) (k : Nat), Words l → l.length ≤ k → blen (val l) ≤ 64 * k := fun l k hw hk => blen_le (by
    rw [← B64_pow]; exact Nat.lt_of_lt_of_le (val_lt hw) (Nat.pow_le_pow_right B64_pos hk))
  have hn1 := hlen a 20 hra.words (by rw [hra.len]; exact h1)
  have hm1 := hlen b 20 hrb.words (by rw [hrb.len]; exact h2)
  have hwa := hra.words
  have hwb := hrb.words
  obtain ⟨n, hn⟩ : ∃ n, blen (val a) = n := ⟨_, rfl⟩
  obtain ⟨m, hmm⟩ : ∃ m, blen (val b) = m := ⟨_, rfl⟩
  rw [hn] at hn1
  rw [hmm] at hm1
  have HN := Lib.hid hn
  have HM := Lib.hid hmm
  clear hn hmm hlen
  obtain ⟨K, hK⟩ : ∃ K, max n m + 3 = K := ⟨_, rfl⟩
  have hK1 : n ≤ K ∧ m ≤ K ∧ K ≤ 2000 := by omega
  rcases Nat.lt_or_ge n m with hnm | hnm
  all_goals
    have hKi : K = (if n < m then m else n) + 3 := by split <;> omega
    go_enter Try.func9, Try.ntmps9
    go_wp2_with fail
    refine (alive_any _).mono ?_
    rintro e w1 ⟨rfl, hb1⟩
    go_wp2_with fail
    refine (long_ok _ _ _ a _ (hra.below hb1) (by omega) hm).mono ?_
    rw [HN.out]
    rintro e w2 ⟨rfl, hb2⟩
    replace hb2 := below_then hb1 hb2
    go_wp2_with fail
    refine (long_ok _ _ _ b _ (hrb.below hb2) (by omega) hmb).mono ?_
    rw [HM.out]
    rintro e w3 ⟨rfl, hb3⟩
    replace hb3 := below_then hb2 hb3
    clear hb1 hb2
    go_wp2_with fail
    have HKI := Lib.hid hKi
    have HK := Lib.hid hK
    clear hKi hK
    go_loopw [10, 11] (fun s i wr => ∃ k : Nat, k ≤ K ∧ i = .int .i64 (k : Int) ∧ s = .bool (sameTo (val a) (val b) k) ∧ Below w.heap.size w wr) (fun _ i _ => K - (intOf i).toNat)
    case atStart => exact ⟨0, by omega, rfl, rfl, hb3⟩
    case round =>
      obtain ⟨k, hk, rfl, rfl, hB⟩ := hrel
      have hss := sameTo_succ (val a) (val b) k
      by_cases hlt : k < K
      · have hlt2 : (k : Int) < (if n < m then (m : Int) else (n : Int)) + 3 := by have := HKI.out; split <;> split at this <;> omega
        have hpos : (k + 1 < n ∧ (nbit (val a) k = 0 ∨ nbit (val a) k = 1)) ∨ (k + 1 = n ∧ nbit (val a) k = 1) ∨ (n ≤ k ∧ nbit (val a) k = 0) := by
          have e := HN.out
          rcases Nat.lt_trichotomy (k + 1) n with h | h | h
          · exact .inl ⟨h, nbit_two _ _⟩
          · exact .inr (.inl ⟨h, nbit_top (by omega)⟩)
          · exact .inr (.inr ⟨by omega, nbit_past (by omega)⟩)
        have hyy := nbit_two (val b) k
        have HS := Lib.hid hss
        clear hss
        generalize sameTo (val a) (val b) k = sv at *
        have hcase : ∃ x y : Nat, nbit (val a) k = x ∧ nbit (val b) k = y ∧ (x = 0 ∨ x = 1) ∧ (y = 0 ∨ y = 1) ∧ ((k + 1 < n) ∨ (k + 1 = n ∧ x = 1) ∨ (n ≤ k ∧ x = 0)) := by
          rcases hpos with ⟨h, hx⟩ | ⟨h, hx⟩ | ⟨h, hx⟩
          · exact ⟨_, _, rfl, rfl, hx, hyy, .inl h⟩
          · exact ⟨1, _, hx, rfl, .inr rfl, hyy, .inr (.inl ⟨h, rfl⟩)⟩
          · exact ⟨0, _, hx, rfl, .inl rfl, hyy, .inr (.inr ⟨h, rfl⟩)⟩
        obtain ⟨x, y, hx, hy, hx2, hy2, hps⟩ := hcase
        have HX := Lib.hid hx
        have HY := Lib.hid hy
        clear hpos hyy hx hy
        cases sv <;> rcases hx2 with rfl | rfl <;> rcases hy2 with rfl | rfl <;> rcases hps with hps | ⟨hps, hpx⟩ | ⟨hps, hpx⟩
        all_goals (try (exfalso; omega))
        all_goals
          go_wp2_with fail
          refine (bit_ok _ _ _ a k _ (hra.below hB) (by omega) hm (by omega)).mono ?_
          rw [HX.out]
          rintro e w4 ⟨rfl, hb4⟩
          replace hb4 := below_then hB hb4
          go_wp2_with fail
          refine (bit_ok _ _ _ b k _ (hrb.below hb4) (by omega) hmb (by omega)).mono ?_
          rw [HY.out]
          rintro e w5 ⟨rfl, hb5⟩
          replace hb5 := below_then hb4 hb5
          clear hB hb4
          go_wp2_with fail
          go_roundw
          case rel => exact ⟨k + 1, by omega, by go_num, by rw [HS.out, HX.out, HY.out]; rfl, hb5⟩
          case measure => simp [intOf]; omega
      · have hkK : k = K := by omega
        have hge : ¬ (k : Int) < (if n < m then (m : Int) else (n : Int)) + 3 := by have := HKI.out; split <;> split at this <;> omega
        have hsame : sameTo (val a) (val b) k = decide (a = b) := by
          by_cases e : a = b
          · subst e; rw [sameTo_self]; simp
          · rw [decide_eq_false e]
            cases hs : sameTo (val a) (val b) k with
            | false => rfl
            | true =>
              exact absurd (val_inj hwa hwb hm hmb (eq_of_sameTo (by rw [HN.out]; omega) (by rw [HM.out]; omega) hs)) e
        have HS := Lib.hid hsame
        clear hsame hss hkK
        rw [HS.out]
        generalize hd : decide (a = b) = d at *
        have HD := Lib.hid hd
        clear hd
        go_wp2_with fail
        refine (same_any _ _ _ _ _ _ a b _ (hra.below hB) (hrb.below hB) (by omega) (by omega)).mono ?_
        rw [HD.out]
        rintro e w4 ⟨rfl, hb4⟩
        replace hb4 := below_then hB hb4
        go_wp2_with fail
        go_ret
        exact ⟨by simp, hb4⟩

theorem natBit_any (hra : Rd w A na a) (hrb : Rd w A2 nb b) (h1 : na ≤ 9223372036854775807) (h2 : nb ≤ 9223372036854775807) :
    Calls Try.prog 9 #[.slice A na ca, .slice A2 nb cb] w fun e w' => e = .returned (.bool true) ∧ Below w.heap.size w w' := by
  by_cases hl : 20 < na ∨ 20 < nb
  · exact natBit_long A A2 na ca nb cb w hl h1 h2
  · cases hm : may a with
    | false => exact natBit_bad A A2 na ca nb cb a b w hra hrb (by omega) (by omega) hm
    | true =>
      cases hmb : may b with
      | false => exact natBit_bad2 A A2 na ca nb cb a b w hra hrb (by omega) (by omega) hm hmb
      | true => exact natBit_ok A A2 na ca nb cb a b w hra hrb (by omega) (by omega) hm hmb
end
end Go.Proofs.Ytjpphhfhkdkfhaa
