import Derived.Test.YtjpphhfhkdkfhaaRefRest
namespace Go.Proofs.Ytjpphhfhkdkfhaa
open Go.RowKit Go.Shelf
set_option linter.unusedVariables false
set_option linter.unusedSimpArgs false

theorem cmp_top {v u k : Nat} (h : v / 2 ^ (k + 1) = u / 2 ^ (k + 1)) (hne : nbit v k ≠ nbit u k) : cmp3 v u = (nbit v k : Int) - (nbit u k : Int) := by
  have e1 := div_bit v k
  have e2 := div_bit u k
  have m1 := Nat.mod_add_div v (2 ^ k)
  have m2 := Nat.mod_add_div u (2 ^ k)
  have l1 := Nat.mod_lt v (Nat.two_pow_pos k)
  have l2 := Nat.mod_lt u (Nat.two_pow_pos k)
  have b1 := nbit_two v k
  have b2 := nbit_two u k
  have h3 : v / 2 ^ k ≠ u / 2 ^ k := by omega
  have h4 : cmp3 v u = cmp3 (v / 2 ^ k) (u / 2 ^ k) := by
    rw [← cmp3_high l1 l2 h3, m1, m2]
  rw [h4]
  rcases b1 with b1 | b1 <;> rcases b2 with b2 | b2
  · exact absurd (b1.trans b2.symm) hne
  · rw [cmp3_lt (by omega), b1, b2]; rfl
  · rw [cmp3_gt (by omega), b1, b2]; rfl
  · exact absurd (b1.trans b2.symm) hne

section
variable (A A2 : Option Addr) (na ca nb cb : Nat) (a b : List Nat) (w : World)

set_option maxRecDepth 100000 in
set_option maxHeartbeats 1000000 in
theorem rCompared_short (hra : Rd w A na a) (hrb : Rd w A2 nb b) (h1 : na ≤ 1) (h2 : nb ≤ 1) (hne : lim a 0 ≠ lim b 0) :
    Calls Try.prog 40 #[.slice A na ca, .slice A2 nb cb] w fun e w' => e = .returned (.int .i64 (cmp3 (val a) (val b))) ∧ w = w' := by
  have hs : cmp3 (val a) (val b) = cmp3 (lim a 0) (lim b 0) := by rw [val_short (a := a) (by rw [hra.len]; exact h1), val_short (a := b) (by rw [hrb.len]; exact h2)]
  obtain ⟨x0, hx0⟩ : ∃ x, lim a 0 = x := ⟨_, rfl⟩
  obtain ⟨y0, hy0⟩ : ∃ y, lim b 0 = y := ⟨_, rfl⟩
  rw [hx0, hy0] at hne hs
  have HX0 := Lib.hid hx0
  have HY0 := Lib.hid hy0
  have HS := Lib.hid hs
  have HC := Lib.hid (decide_eq_true (show na ≤ 1 ∧ nb ≤ 1 from ⟨h1, h2⟩))
  have hb : (((x0 : Nat) : Int) != ((y0 : Nat) : Int)) = true := by simp; omega
  clear hx0 hy0 hs
  rcases Nat.lt_or_gt_of_ne hne with hlt | hgt
  · have HR := Lib.hid (cmp3_lt hlt)
    clear hne
    go_enter Try.func40, Try.ntmps40
    go_wp2_with (first
      | (go_at_call 52; refine (rShort_any A A2 na ca nb cb _ (by omega) (by omega)).mono ?_; rw [HC.out]; rintro e w1 ⟨rfl, rfl⟩)
      | (go_at_call_of 53 (Value.slice A na ca); refine (rOne_any A na ca a _ hra (by omega)).mono ?_; rw [HX0.out]; rintro e w1 ⟨rfl, rfl⟩)
      | (go_at_call_of 53 (Value.slice A2 nb cb); refine (rOne_any A2 nb cb b _ hrb (by omega)).mono ?_; rw [HY0.out]; rintro e w1 ⟨rfl, rfl⟩))
    go_ret
    exact ⟨by rw [HS.out, HR.out]; rfl, rfl⟩
  · have HR := Lib.hid (cmp3_gt hgt)
    have hnl : ¬ x0 < y0 := by omega
    clear hne
    go_enter Try.func40, Try.ntmps40
    go_wp2_with (first
      | (go_at_call 52; refine (rShort_any A A2 na ca nb cb _ (by omega) (by omega)).mono ?_; rw [HC.out]; rintro e w1 ⟨rfl, rfl⟩)
      | (go_at_call_of 53 (Value.slice A na ca); refine (rOne_any A na ca a _ hra (by omega)).mono ?_; rw [HX0.out]; rintro e w1 ⟨rfl, rfl⟩)
      | (go_at_call_of 53 (Value.slice A2 nb cb); refine (rOne_any A2 nb cb b _ hrb (by omega)).mono ?_; rw [HY0.out]; rintro e w1 ⟨rfl, rfl⟩))
    go_ret
    exact ⟨by rw [HS.out, HR.out]; rfl, rfl⟩

set_option maxRecDepth 100000 in
set_option maxHeartbeats 1000000 in
theorem rCompared_bits (hra : Rd w A na a) (hrb : Rd w A2 nb b) (hna : na ≤ 1000) (hnb : nb ≤ 1000) (hs : ¬ (na ≤ 1 ∧ nb ≤ 1) ∨ ((na ≤ 1 ∧ nb ≤ 1) ∧ lim a 0 = lim b 0)) :
    Calls Try.prog 40 #[.slice A na ca, .slice A2 nb cb] w fun e w' => e = .returned (.int .i64 (cmp3 (val a) (val b))) ∧ w = w' := by
  obtain ⟨M, hM⟩ : ∃ M, 64 * max na nb = M := ⟨_, rfl⟩
  have hM1 : M ≤ 64000 := by omega
  have hva : val a < 2 ^ M := by rw [← hM]; exact val_lt_bits hra.words (by rw [hra.len]; omega)
  have hvb : val b < 2 ^ M := by rw [← hM]; exact val_lt_bits hrb.words (by rw [hrb.len]; omega)
  have HM := Lib.hid hM
  have HVA := Lib.hid hva
  have HVB := Lib.hid hvb
  obtain ⟨x0, hx0⟩ : ∃ x, lim a 0 = x := ⟨_, rfl⟩
  obtain ⟨y0, hy0⟩ : ∃ y, lim b 0 = y := ⟨_, rfl⟩
  rw [hx0, hy0] at hs
  have HX0 := Lib.hid hx0
  have HY0 := Lib.hid hy0
  have hcase : decide (na ≤ 1 ∧ nb ≤ 1) = false ∨ (decide (na ≤ 1 ∧ nb ≤ 1) = true ∧ x0 = y0) := by
    rcases hs with h | ⟨h, e⟩
    · exact .inl (decide_eq_false h)
    · exact .inr ⟨decide_eq_true h, e⟩
  clear hM hva hvb hx0 hy0 hs
  rcases hcase with hc | ⟨hc, rfl⟩
  all_goals
    have HC := Lib.hid hc
    clear hc
    go_enter Try.func40, Try.ntmps40
    go_wp2_with (first
      | (go_at_call 52; refine (rShort_any A A2 na ca nb cb _ (by omega) (by omega)).mono ?_; rw [HC.out]; rintro e w1 ⟨rfl, rfl⟩)
      | (go_at_call_of 53 (Value.slice A na ca); refine (rOne_any A na ca a _ hra (by omega)).mono ?_; rw [HX0.out]; rintro e w1 ⟨rfl, rfl⟩)
      | (go_at_call_of 53 (Value.slice A2 nb cb); refine (rOne_any A2 nb cb b _ hrb (by omega)).mono ?_; rw [HY0.out]; rintro e w1 ⟨rfl, rfl⟩)
      | (go_at_call 54; refine (rMany_any A A2 na ca nb cb _ (by omega) (by omega)).mono ?_; rw [HM.out]; rintro e w1 ⟨rfl, rfl⟩))
    go_loop [5] (fun i => ∃ k : Nat, k ≤ M ∧ i = .int .i64 ((k : Int) - 1) ∧ val a / 2 ^ k = val b / 2 ^ k) (fun i => (intOf i + 1).toNat)
    case atStart => exact ⟨M, Nat.le_refl _, rfl, by rw [Nat.div_eq_of_lt HVA.out, Nat.div_eq_of_lt HVB.out]⟩
    case round =>
      obtain ⟨k, hk, rfl, hdiv⟩ := hrel
      by_cases h0 : k = 0
      · subst h0
        have hv : cmp3 (val a) (val b) = 0 := by
          simp at hdiv
          rw [hdiv, cmp3_self]
        have HV := Lib.hid hv
        clear hdiv hv
        go_wp2
        go_ret
        exact ⟨by rw [HV.out]; rfl, rfl⟩
      · obtain ⟨j, rfl⟩ : ∃ j, k = j + 1 := ⟨k - 1, by omega⟩
        obtain ⟨x, hx⟩ : ∃ x, nbit (val a) j = x := ⟨_, rfl⟩
        obtain ⟨y, hy⟩ : ∃ y, nbit (val b) j = y := ⟨_, rfl⟩
        have hx1 : x ≤ 1 := by have := nbit_two (val a) j; omega
        have hy1 : y ≤ 1 := by have := nbit_two (val b) j; omega
        have HX := Lib.hid hx
        have HY := Lib.hid hy
        by_cases hxy : x = y
        · have hd2 : val a / 2 ^ j = val b / 2 ^ j := by rw [div_bit, div_bit (val b), hdiv, hx, hy, hxy]
          have hne : (((x : Nat) : Int) != ((y : Nat) : Int)) = false := by simp [hxy]
          have HD := Lib.hid hd2
          clear hd2 hdiv hx hy hxy
          rw [show (((j + 1 : Nat) : Int) - 1) = (j : Int) by omega]
          go_wp2_with (first
            | (go_at_call_of 47 (Value.slice A na ca); refine (rAt_any A na ca a _ j hra (by omega) (by omega)).mono ?_; rw [HX.out]; rintro e w1 ⟨rfl, rfl⟩)
            | (go_at_call_of 47 (Value.slice A2 nb cb); refine (rAt_any A2 nb cb b _ j hrb (by omega) (by omega)).mono ?_; rw [HY.out]; rintro e w1 ⟨rfl, rfl⟩))
          go_round
          case rel => exact ⟨j, by omega, rfl, HD.out⟩
          case measure => (simp [intOf]) <;> omega
        · have hc := cmp_top hdiv (by rw [hx, hy]; exact hxy)
          rw [hx, hy] at hc
          have hne : (((x : Nat) : Int) != ((y : Nat) : Int)) = true := by simp; omega
          have HCC := Lib.hid hc
          clear hc hdiv hx hy
          rw [show (((j + 1 : Nat) : Int) - 1) = (j : Int) by omega]
          go_wp2_with (first
            | (go_at_call_of 47 (Value.slice A na ca); refine (rAt_any A na ca a _ j hra (by omega) (by omega)).mono ?_; rw [HX.out]; rintro e w1 ⟨rfl, rfl⟩)
            | (go_at_call_of 47 (Value.slice A2 nb cb); refine (rAt_any A2 nb cb b _ j hrb (by omega) (by omega)).mono ?_; rw [HY.out]; rintro e w1 ⟨rfl, rfl⟩))
          go_ret
          exact ⟨by rw [HCC.out]; rfl, rfl⟩
end
end Go.Proofs.Ytjpphhfhkdkfhaa
