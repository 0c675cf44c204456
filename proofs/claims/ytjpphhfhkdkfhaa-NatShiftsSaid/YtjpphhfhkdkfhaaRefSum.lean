import Derived.Test.YtjpphhfhkdkfhaaRefGo
import Derived.Test.YtjpphhfhkdkfhaaNames
import Derived.Deep.RegionWith
namespace Go.Proofs.Ytjpphhfhkdkfhaa
open Go.RowKit Go.Shelf
set_option linter.unusedVariables false
set_option linter.unusedSimpArgs false

theorem half_no {x : Nat} (h : ¬ x < half) : decide (((x : Nat) : Int) < 9223372036854775808) = false := by
  unfold half at h
  exact decide_eq_false (by omega)
theorem half_yes {x : Nat} (h : x < half) : decide (((x : Nat) : Int) < 9223372036854775808) = true := by
  unfold half at h
  exact decide_eq_true (by omega)
theorem mod_succ_bit (v k : Nat) : v % 2 ^ (k + 1) = v % 2 ^ k + 2 ^ k * nbit v k := by
  rw [Nat.pow_succ, Nat.mod_mul]; rfl
theorem sum_step {b p x y c a1 a2 : Nat} (h : b + p * c = a1 + a2) : (b + p * ((x + y + c) % 2)) + p * 2 * ((x + y + c) / 2) = (a1 + p * x) + (a2 + p * y) := by
  have e := Nat.mod_add_div (x + y + c) 2
  have e2 : p * ((x + y + c) % 2 + 2 * ((x + y + c) / 2)) = p * (x + y + c) := by rw [e]
  simp only [Nat.mul_add] at e2
  rw [Nat.mul_assoc]
  omega
theorem owni_block {w : World} {B : Nat} {v : Value} {o : List Nat} (h : OwnI w B v o) : ∀ k, v.ownBlock = some k → B ≤ k := fun k e => (h.1.lt k e).1

section
variable (A A2 : Option Addr) (na ca nb cb : Nat) (a b : List Nat) (w : World)

set_option maxRecDepth 100000 in
set_option maxHeartbeats 1000000 in
theorem rSum_bits (hra : Rd w A na a) (hrb : Rd w A2 nb b) (hna : na ≤ 1000) (hnb : nb ≤ 1000) (hs : ¬ (na ≤ 1 ∧ nb ≤ 1 ∧ lim a 0 < half ∧ lim b 0 < half)) :
    Calls Try.prog 43 #[.slice A na ca, .slice A2 nb cb] w fun e w' => ∃ A' k c, e = .returned (.slice A' k c) ∧ Own w' w.heap.size (.slice A' k c) (limbs (val a + val b)) ∧ Below w.heap.size w w' := by
  obtain ⟨i0, hi0, hz0, hz1, hz2⟩ := info_parts int_info
  obtain ⟨M, hM⟩ : ∃ M, 64 * max na nb = M := ⟨_, rfl⟩
  have hM1 : M ≤ 64000 := by omega
  have hva : val a < 2 ^ M := by rw [← hM]; exact val_lt_bits hra.words (by rw [hra.len]; omega)
  have hvb : val b < 2 ^ M := by rw [← hM]; exact val_lt_bits hrb.words (by rw [hrb.len]; omega)
  have HM := Lib.hid hM
  have HVA := Lib.hid hva
  have HVB := Lib.hid hvb
  obtain ⟨x0, hx0⟩ : ∃ x, lim a 0 = x := ⟨_, rfl⟩
  obtain ⟨y0, hy0⟩ : ∃ y, lim b 0 = y := ⟨_, rfl⟩
  rw [hx0, hy0] at hs
  have HX0 := Lib.hid hx0
  have HY0 := Lib.hid hy0
  clear hM hva hvb hx0 hy0
  have hcase : (decide (na ≤ 1 ∧ nb ≤ 1) = false) ∨ (decide (na ≤ 1 ∧ nb ≤ 1) = true ∧ decide (((x0 : Nat) : Int) < 9223372036854775808) = false) ∨
      (decide (na ≤ 1 ∧ nb ≤ 1) = true ∧ decide (((x0 : Nat) : Int) < 9223372036854775808) = true ∧ decide (((y0 : Nat) : Int) < 9223372036854775808) = false) := by
    by_cases h1 : na ≤ 1 ∧ nb ≤ 1
    · by_cases h2 : x0 < half
      · exact .inr (.inr ⟨decide_eq_true h1, half_yes h2, half_no fun h3 => hs ⟨h1.1, h1.2, h2, h3⟩⟩)
      · exact .inr (.inl ⟨decide_eq_true h1, half_no h2⟩)
    · exact .inl (decide_eq_false h1)
  clear hs
  rcases hcase with hc | ⟨hc, h2⟩ | ⟨hc, h2, h3⟩
  all_goals
    have HC := Lib.hid hc
    clear hc
    go_enter Try.func43, Try.ntmps43
    go_wp2_with (first
      | (go_at_call 52; refine (rShort_any A A2 na ca nb cb _ (by omega) (by omega)).mono ?_; rw [HC.out]; rintro e w1 ⟨rfl, rfl⟩)
      | (go_at_call_of 53 (Value.slice A na ca); refine (rOne_any A na ca a _ hra (by omega)).mono ?_; rw [HX0.out]; rintro e w1 ⟨rfl, rfl⟩)
      | (go_at_call_of 53 (Value.slice A2 nb cb); refine (rOne_any A2 nb cb b _ hrb (by omega)).mono ?_; rw [HY0.out]; rintro e w1 ⟨rfl, rfl⟩))
    go_loopw [5, 6, 7] (fun v c i wr => ∃ (k cy : Nat) (bl : List Nat), k ≤ M + 1 ∧ i = .int .i64 (k : Int) ∧ c = .int .i64 (cy : Int) ∧ cy ≤ 1 ∧ bl.length = k ∧ bval bl + 2 ^ k * cy = val a % 2 ^ k + val b % 2 ^ k ∧ OwnI wr w.heap.size v bl ∧ Below w.heap.size w wr) (fun _ _ i _ => M + 1 - (intOf i).toNat)
    case atStart => exact ⟨0, 0, [], by omega, rfl, rfl, by omega, rfl, by simp [bval, Nat.mod_one], ⟨World.ownsRow_nil _ _ _ _, fun y hy => by cases hy⟩, Below.refl _ _⟩
    case round =>
      obtain ⟨k, cy, bl, hk, rfl, rfl, hcy, hlen, hval, hown, hB⟩ := hrel
      try clear h2
      try clear h3
      have hra2 := hra.below hB
      have hrb2 := hrb.below hB
      by_cases hlt : k < M + 1
      · obtain ⟨x, hx⟩ : ∃ x, nbit (val a) k = x := ⟨_, rfl⟩
        obtain ⟨y, hy⟩ : ∃ y, nbit (val b) k = y := ⟨_, rfl⟩
        have hx1 : x ≤ 1 := by have := nbit_two (val a) k; omega
        have hy1 : y ≤ 1 := by have := nbit_two (val b) k; omega
        have hst := sum_step (x := x) (y := y) (p := 2 ^ k) hval
        have HX := Lib.hid hx
        have HY := Lib.hid hy
        have HST := Lib.hid hst
        have HLN := Lib.hid hlen
        have HRA := Lib.hid hra2
        have HRB := Lib.hid hrb2
        have hown0 := hown.below ((Below.refl _ wr).alloc (Nat.le_refl _) (.cells #[.int .i64 (((x : Int) + y + cy) % 2)] 3))
        have HO0 := Lib.hid hown0
        have hblk := owni_block hown
        have HBK := Lib.hid hblk
        have hnew := Lib.hid (cell_one_new wr (.int .i64 (((x : Int) + y + cy) % 2)) 3)
        have hol : bl.length ≤ 100000 := by omega
        clear hx hy hst hval hlen hra2 hrb2 hown hown0 hblk
        go_wp2_with fail
        refine (rMany_any A A2 na ca nb cb _ (by omega) (by omega)).mono ?_
        rw [HM.out]
        rintro e w1 ⟨rfl, rfl⟩
        go_wp2_with fail
        refine (rAt_any A na ca a _ k HRA.out (by omega) (by omega)).mono ?_
        rw [HX.out]
        rintro e w1 ⟨rfl, rfl⟩
        go_wp2_with fail
        refine (rAt_any A2 nb cb b _ k HRB.out (by omega) (by omega)).mono ?_
        rw [HY.out]
        rintro e w1 ⟨rfl, rfl⟩
        go_wp2_with (at_builtin; go_loud (refine wpList_append_own _ rfl _ _ 70 rfl w.heap.size 3 i0 _ 1 8 Try.underlying70 hi0 hz0 hz1 hz2 rfl (by decide) _ _ _ rfl HO0.out.1 ⟨wr.heap.size, 0, none⟩ 1 1 [.int .i64 (((x : Int) + y + cy) % 2)] rfl rfl hnew.out (by simp [Value.oneCell']) (by simp only [maxLen]; omega) (by omega) (by have := hB.size; simp; omega) ?_); intro v' w3 hown1 hgrow1 _)
        go_roundw
        case rel =>
          have hb3 : Below w.heap.size w w3 := (hB.alloc hB.size _).grown hgrow1 (by rw [World.size_alloc]; have := hB.size; omega) HBK.out
          refine ⟨k + 1, (x + y + cy) / 2, bl ++ [(x + y + cy) % 2], by omega, by go_num, by go_num, by omega, by simp [HLN.out], ?_, ⟨?_, bits_append HO0.out.2 (bits_one (by omega))⟩, hb3⟩
          · rw [bval_snoc, HLN.out, mod_succ_bit, mod_succ_bit, HX.out, HY.out, Nat.pow_succ]
            exact HST.out
          · rw [List.length_append, List.map_append]
            have e : [(x + y + cy) % 2].map i64n = [Value.int .i64 (((x : Int) + y + cy) % 2)] := by simp
            rw [e]
            exact hown1
        case measure => simp [intOf]; omega
      · have hkM : k = M + 1 := by omega
        have hfin : bval bl = val a + val b := by
          have h1 := HVA.out
          have h2 := HVB.out
          have hp : 2 ^ (M + 1) = 2 * 2 ^ M := by rw [Nat.pow_succ, Nat.mul_comm]
          rw [hkM, Nat.mod_eq_of_lt (by omega), Nat.mod_eq_of_lt (by omega)] at hval
          have h3 := bval_lt hown.2
          rw [hlen, hkM] at h3
          rcases (by omega : cy = 0 ∨ cy = 1) with rfl | rfl
          · simpa using hval
          · omega
        obtain ⟨A', c', hv, hrd, _, _⟩ := hown.form
        subst hv
        have HRD := Lib.hid hrd
        have HF := Lib.hid hfin
        have hge : ¬ ((k : Int) ≤ (M : Int)) := by omega
        have hbl : bl.length ≤ 1000000 := by omega
        clear hval hown hlen hkM hrd hfin
        go_wp2_with fail
        refine (rMany_any A A2 na ca nb cb _ (by omega) (by omega)).mono ?_
        rw [HM.out]
        rintro e w1 ⟨rfl, rfl⟩
        go_wp2_with fail
        refine (from_any A' bl.length c' bl _ HRD.out hbl).mono ?_
        rintro e w4 ⟨A4, k4, c4, rfl, ho4, hb4⟩
        rw [HF.out] at ho4
        go_wp2_with fail
        go_ret
        exact ⟨A4, k4, c4, rfl, own_mono ho4 hB.size, below_then hB hb4⟩
end
end Go.Proofs.Ytjpphhfhkdkfhaa
