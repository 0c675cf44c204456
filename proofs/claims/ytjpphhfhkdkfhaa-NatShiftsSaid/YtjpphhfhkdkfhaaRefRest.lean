import Derived.Test.YtjpphhfhkdkfhaaRefSum
namespace Go.Proofs.Ytjpphhfhkdkfhaa
open Go.RowKit Go.Shelf
set_option linter.unusedVariables false
set_option linter.unusedSimpArgs false

theorem val_short {a : List Nat} (h : a.length ≤ 1) : val a = lim a 0 := by
  match a, h with
  | [], _ => rfl
  | [x], _ => simp [val, lim]
theorem rest_digit {x y c : Nat} (hx : x ≤ 1) (hy : y ≤ 1) (hc : c ≤ 1) : ∃ z d : Nat, z ≤ 1 ∧ d ≤ 1 ∧ x + 2 * d = z + y + c ∧ ((x : Int) - y - c < 0 → d = 1 ∧ (z : Int) = (x : Int) - y - c + 2) ∧ (¬ (x : Int) - y - c < 0 → d = 0 ∧ (z : Int) = (x : Int) - y - c) := by
  by_cases h : (x : Int) - y - c < 0
  · exact ⟨x + 2 - y - c, 1, by omega, by omega, by omega, fun _ => ⟨rfl, by omega⟩, fun h2 => absurd h h2⟩
  · exact ⟨x - y - c, 0, by omega, by omega, by omega, fun h2 => absurd h2 h, fun _ => ⟨rfl, by omega⟩⟩
theorem rest_step {j a b p x y z c d : Nat} (h : j + b = a + p * c) (hz : x + 2 * d = z + y + c) : (j + p * z) + (b + p * y) = (a + p * x) + p * 2 * d := by
  have e2 : p * (x + 2 * d) = p * (z + y + c) := by rw [hz]
  simp only [Nat.mul_add] at e2
  rw [Nat.mul_assoc]
  omega

section
variable (A A2 : Option Addr) (na ca nb cb : Nat) (a b : List Nat) (w : World)

set_option maxRecDepth 100000 in
set_option maxHeartbeats 1000000 in
theorem rSum_short (hra : Rd w A na a) (hrb : Rd w A2 nb b) (h1 : na ≤ 1) (h2 : nb ≤ 1) (hx : lim a 0 < half) (hy : lim b 0 < half) :
    Calls Try.prog 43 #[.slice A na ca, .slice A2 nb cb] w fun e w' => ∃ A' k c, e = .returned (.slice A' k c) ∧ Own w' w.heap.size (.slice A' k c) (limbs (val a + val b)) ∧ Below w.heap.size w w' := by
  have hs : val a + val b = lim a 0 + lim b 0 := by rw [val_short (by rw [hra.len]; exact h1), val_short (by rw [hrb.len]; exact h2)]
  have hsum : lim a 0 + lim b 0 < B64 := by unfold half at hx hy; rw [B64_eq]; omega
  obtain ⟨x0, hx0⟩ : ∃ x, lim a 0 = x := ⟨_, rfl⟩
  obtain ⟨y0, hy0⟩ : ∃ y, lim b 0 = y := ⟨_, rfl⟩
  rw [hx0, hy0] at hsum hs
  rw [hx0] at hx
  rw [hy0] at hy
  have d1 := half_yes hx
  have d2 := half_yes hy
  have hw : IntKind.u64.wrap ((x0 : Int) + (y0 : Int)) = ((x0 + y0 : Nat) : Int) := by
    rw [← Int.natCast_add, u64_wrap_nat, Nat.mod_eq_of_lt hsum]
  have HW := Lib.hid hw
  have HX0 := Lib.hid hx0
  have HY0 := Lib.hid hy0
  have HS := Lib.hid hs
  have HSUM := Lib.hid hsum
  have HC := Lib.hid (decide_eq_true (show na ≤ 1 ∧ nb ≤ 1 from ⟨h1, h2⟩))
  clear hx hy hw hx0 hy0 hs hsum
  go_enter Try.func43, Try.ntmps43
  go_wp2_with (first
    | (go_at_call 52; refine (rShort_any A A2 na ca nb cb _ (by omega) (by omega)).mono ?_; rw [HC.out]; rintro e w1 ⟨rfl, rfl⟩)
    | (go_at_call_of 53 (Value.slice A na ca); refine (rOne_any A na ca a _ hra (by omega)).mono ?_; rw [HX0.out]; rintro e w1 ⟨rfl, rfl⟩)
    | (go_at_call_of 53 (Value.slice A2 nb cb); refine (rOne_any A2 nb cb b _ hrb (by omega)).mono ?_; rw [HY0.out]; rintro e w1 ⟨rfl, rfl⟩))
  clear d1 d2
  try rw [HW.out]
  refine (rOf_any w (x0 + y0) HSUM.out).mono ?_
  rintro e w1 ⟨A1, k1, c1, rfl, ho, hb⟩
  go_wp2_with fail
  go_ret
  exact ⟨A1, k1, c1, rfl, by rw [HS.out]; exact ho, hb⟩

set_option maxRecDepth 100000 in
set_option maxHeartbeats 1000000 in
theorem rRest_short (hra : Rd w A na a) (hrb : Rd w A2 nb b) (h1 : na ≤ 1) (h2 : nb ≤ 1) (hle : val b ≤ val a) :
    Calls Try.prog 45 #[.slice A na ca, .slice A2 nb cb] w fun e w' => ∃ A' k c, e = .returned (.slice A' k c) ∧ Own w' w.heap.size (.slice A' k c) (limbs (val a - val b)) ∧ Below w.heap.size w w' := by
  have hs : val a - val b = lim a 0 - lim b 0 := by rw [val_short (by rw [hra.len]; exact h1), val_short (by rw [hrb.len]; exact h2)]
  rw [val_short (a := a) (by rw [hra.len]; exact h1), val_short (a := b) (by rw [hrb.len]; exact h2)] at hle
  have hxw := hra.words.get 0
  obtain ⟨x0, hx0⟩ : ∃ x, lim a 0 = x := ⟨_, rfl⟩
  obtain ⟨y0, hy0⟩ : ∃ y, lim b 0 = y := ⟨_, rfl⟩
  rw [hx0, hy0] at hle hs
  rw [hx0] at hxw
  have hsum : x0 - y0 < B64 := by omega
  have hw : IntKind.u64.wrap ((x0 : Int) - (y0 : Int)) = ((x0 - y0 : Nat) : Int) := by
    rw [← Int.natCast_sub hle, u64_wrap_nat, Nat.mod_eq_of_lt hsum]
  have HW := Lib.hid hw
  have HX0 := Lib.hid hx0
  have HY0 := Lib.hid hy0
  have HS := Lib.hid hs
  have HSUM := Lib.hid hsum
  have HLE := Lib.hid hle
  have HC := Lib.hid (decide_eq_true (show na ≤ 1 ∧ nb ≤ 1 from ⟨h1, h2⟩))
  clear hw hx0 hy0 hs hsum hle hxw
  go_enter Try.func45, Try.ntmps45
  go_wp2_with (first
    | (go_at_call 52; refine (rShort_any A A2 na ca nb cb _ (by omega) (by omega)).mono ?_; rw [HC.out]; rintro e w1 ⟨rfl, rfl⟩)
    | (go_at_call_of 53 (Value.slice A na ca); refine (rOne_any A na ca a _ hra (by omega)).mono ?_; rw [HX0.out]; rintro e w1 ⟨rfl, rfl⟩)
    | (go_at_call_of 53 (Value.slice A2 nb cb); refine (rOne_any A2 nb cb b _ hrb (by omega)).mono ?_; rw [HY0.out]; rintro e w1 ⟨rfl, rfl⟩))
  first | rw [HW.out] | rw [← Int.natCast_sub HLE.out]
  refine (rOf_any w (x0 - y0) HSUM.out).mono ?_
  rintro e w1 ⟨A1, k1, c1, rfl, ho, hb⟩
  go_wp2_with fail
  go_ret
  exact ⟨A1, k1, c1, rfl, by rw [HS.out]; exact ho, hb⟩

set_option maxRecDepth 100000 in
set_option maxHeartbeats 1000000 in
theorem rRest_bits (hra : Rd w A na a) (hrb : Rd w A2 nb b) (hna : na ≤ 1000) (hnb : nb ≤ 1000) (hs : ¬ (na ≤ 1 ∧ nb ≤ 1)) (hle : val b ≤ val a) :
    Calls Try.prog 45 #[.slice A na ca, .slice A2 nb cb] w fun e w' => ∃ A' k c, e = .returned (.slice A' k c) ∧ Own w' w.heap.size (.slice A' k c) (limbs (val a - val b)) ∧ Below w.heap.size w w' := by
  obtain ⟨i0, hi0, hz0, hz1, hz2⟩ := info_parts int_info
  obtain ⟨M, hM⟩ : ∃ M, 64 * max na nb = M := ⟨_, rfl⟩
  have hM1 : M ≤ 64000 := by omega
  have hva : val a < 2 ^ M := by rw [← hM]; exact val_lt_bits hra.words (by rw [hra.len]; omega)
  have hvb : val b < 2 ^ M := by rw [← hM]; exact val_lt_bits hrb.words (by rw [hrb.len]; omega)
  have HM := Lib.hid hM
  have HVA := Lib.hid hva
  have HVB := Lib.hid hvb
  have HLE := Lib.hid hle
  have HC := Lib.hid (decide_eq_false hs)
  clear hM hva hvb hle hs
  go_enter Try.func45, Try.ntmps45
  go_wp2_with (go_at_call 52; refine (rShort_any A A2 na ca nb cb _ (by omega) (by omega)).mono ?_; rw [HC.out]; rintro e w1 ⟨rfl, rfl⟩)
  go_loopw [5, 6, 7] (fun v c i wr => ∃ (k cy : Nat) (bl : List Nat), k ≤ M ∧ i = .int .i64 (k : Int) ∧ c = .int .i64 (cy : Int) ∧ cy ≤ 1 ∧ bl.length = k ∧ bval bl + val b % 2 ^ k = val a % 2 ^ k + 2 ^ k * cy ∧ OwnI wr w.heap.size v bl ∧ Below w.heap.size w wr) (fun _ _ i _ => M - (intOf i).toNat)
  case atStart => exact ⟨0, 0, [], by omega, rfl, rfl, by omega, rfl, by simp [bval, Nat.mod_one], ⟨World.ownsRow_nil _ _ _ _, fun y hy => by cases hy⟩, Below.refl _ _⟩
  case round =>
    obtain ⟨k, cy, bl, hk, rfl, rfl, hcy, hlen, hval, hown, hB⟩ := hrel
    have hra2 := hra.below hB
    have hrb2 := hrb.below hB
    by_cases hlt : k < M
    · obtain ⟨x, hx⟩ : ∃ x, nbit (val a) k = x := ⟨_, rfl⟩
      obtain ⟨y, hy⟩ : ∃ y, nbit (val b) k = y := ⟨_, rfl⟩
      have hx1 : x ≤ 1 := by have := nbit_two (val a) k; omega
      have hy1 : y ≤ 1 := by have := nbit_two (val b) k; omega
      obtain ⟨z, d, hz, hd, hxz, hneg, hpos⟩ := rest_digit hx1 hy1 hcy
      have hst := rest_step (p := 2 ^ k) hval hxz
      have HX := Lib.hid hx
      have HY := Lib.hid hy
      have HST := Lib.hid hst
      have HLN := Lib.hid hlen
      have HRA := Lib.hid hra2
      have HRB := Lib.hid hrb2
      have hown0 := fun u : Value => hown.below ((Below.refl _ wr).alloc (Nat.le_refl _) (.cells #[u] 3))
      have HO0 := Lib.hid hown0
      have hblk := owni_block hown
      have HBK := Lib.hid hblk
      have hnew := Lib.hid (fun u : Value => cell_one_new wr u 3)
      have hol : bl.length ≤ 100000 := by omega
      have HNEG := Lib.hid hneg
      have HPOS := Lib.hid hpos
      clear hx hy hst hval hlen hra2 hrb2 hown hown0 hblk hneg hpos hxz
      by_cases hsgn : (x : Int) - y - cy < 0
      all_goals
        go_wp2_with fail
        refine (rMany_any A A2 na ca nb cb _ (by omega) (by omega)).mono ?_
        rw [HM.out]
        rintro e w1 ⟨rfl, rfl⟩
        go_wp2_with fail
        refine (rAt_any A na ca a _ k HRA.out (by omega) (by omega)).mono ?_
        rw [HX.out]
        rintro e w1 ⟨rfl, rfl⟩
        go_wp2_with fail
        refine (rAt_any A2 nb cb b _ k HRB.out (by omega) (by omega)).mono ?_
        rw [HY.out]
        rintro e w1 ⟨rfl, rfl⟩
        go_wp2_with (at_builtin; go_loud (refine wpList_append_own _ rfl _ _ 70 rfl w.heap.size 3 i0 _ 1 8 Try.underlying70 hi0 hz0 hz1 hz2 rfl (by decide) _ _ _ rfl (HO0.out _).1 ⟨wr.heap.size, 0, none⟩ 1 1 _ rfl rfl (hnew.out _) (by simp [Value.oneCell']) (by simp only [maxLen]; omega) (by omega) (by have := hB.size; simp; omega) ?_); intro v' w3 hown1 hgrow1 _)
        go_roundw
        case rel =>
          have hb3 : Below w.heap.size w w3 := (hB.alloc hB.size _).grown hgrow1 (by rw [World.size_alloc]; have := hB.size; omega) HBK.out
          refine ⟨k + 1, d, bl ++ [z], by omega, by go_num, ?_, hd, by simp [HLN.out], ?_, ⟨?_, bits_append (HO0.out undef).2 (bits_one hz)⟩, hb3⟩
          · first
              | (rw [(HNEG.out (by omega)).1]; rfl)
              | (rw [(HPOS.out (by omega)).1]; rfl)
          · rw [bval_snoc, HLN.out, mod_succ_bit, mod_succ_bit, HX.out, HY.out, Nat.pow_succ]
            exact HST.out
          · rw [List.length_append, List.map_append]
            first
              | (have e : [z].map i64n = [Value.int .i64 ((x : Int) - y - cy + 2)] := by
                   rw [← (HNEG.out (by omega)).2]; rfl
                 rw [e]
                 exact hown1)
              | (have e : [z].map i64n = [Value.int .i64 ((x : Int) - y - cy)] := by
                   rw [← (HPOS.out (by omega)).2]; rfl
                 rw [e]
                 exact hown1)
        case measure => simp [intOf]; omega
    · have hkM : k = M := by omega
      have hfin : bval bl = val a - val b := by
        have h1 := HVA.out
        have h2 := HVB.out
        have h4 := HLE.out
        rw [hkM, Nat.mod_eq_of_lt h1, Nat.mod_eq_of_lt h2] at hval
        have h3 := bval_lt hown.2
        rw [hlen, hkM] at h3
        rcases (by omega : cy = 0 ∨ cy = 1) with rfl | rfl
        · simp at hval; omega
        · simp at hval; omega
      obtain ⟨A', c', hv, hrd, _, _⟩ := hown.form
      subst hv
      have HRD := Lib.hid hrd
      have HF := Lib.hid hfin
      have hge : ¬ ((k : Int) < (M : Int)) := by omega
      have hbl : bl.length ≤ 1000000 := by omega
      clear hval hown hlen hkM hrd hfin
      go_wp2_with fail
      refine (rMany_any A A2 na ca nb cb _ (by omega) (by omega)).mono ?_
      rw [HM.out]
      rintro e w1 ⟨rfl, rfl⟩
      go_wp2_with fail
      refine (from_any A' bl.length c' bl _ HRD.out hbl).mono ?_
      rintro e w4 ⟨A4, k4, c4, rfl, ho4, hb4⟩
      rw [HF.out] at ho4
      go_wp2_with fail
      go_ret
      exact ⟨A4, k4, c4, rfl, own_mono ho4 hB.size, below_then hB hb4⟩
end
end Go.Proofs.Ytjpphhfhkdkfhaa
