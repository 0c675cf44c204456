import Derived.Test.YtgiokmfdafmaoaaGreatJBits
import Derived.Test.YtgiokmfdafmaoaaGreatJBitLaw
import Derived.Test.YtgiokmfdafmaoaaGreatJRefGo
import Derived.Deep.RegionWith
import Derived.Test.YtgiokmfdafmaoaaGreatJNm
import Derived.Deep.RegionHeld3
/- Names RefSum RefRest RefCmp RefShift Spec RefDiv. -/
namespace Go.Proofs.YtgiokmfdafmaoaaGreat
open Go.RowKit Go.Shelf
set_option linter.unusedVariables false
set_option linter.unusedSimpArgs false

theorem below_alloc_then {w w1 w2 : World} {o : Obj} (h : Below w.heap.size w w1) (k : Below (w1.alloc o).heap.size (w1.alloc o) w2) : Below w.heap.size w w2 := below_then (h.alloc h.size o) k
def half : Nat := 9223372036854775808
theorem half_cast : ((half : Nat) : Int) = 9223372036854775808 := rfl
theorem half_lt : half < B64 := by unfold half; rw [B64_eq]; omega
theorem val_01' : val [0, 1] = B64 := by simp [val]
theorem names_long : blen (val [0, 1]) = 65 := by
  rw [val_01']; exact blen_eq (k := 64) (by rw [B64_eq]; omega) (by rw [B64_eq]; omega)
theorem names_long0 : blen (val []) = 0 := rfl
theorem names_up : limbs (val [3] * 2 ^ 63) = [half, 1] := by
  have e : val [3] * 2 ^ 63 = val [half, 1] := by simp [val, B64_eq, half]
  rw [e]; exact limbs_val (words_cons half_lt (words_cons B64_gt words_nil)) rfl
theorem names_down : limbs (val [0, 1] / 2 ^ 60) = [16] := by
  have e : val [0, 1] / 2 ^ 60 = val [16] := by rw [val_01', B64_eq]; simp [val]
  rw [e]; exact limbs_val (words_cons (small_lt (by omega)) words_nil) rfl
theorem names_bit2 : nbit (val [5]) 2 = 1 := by simp [val, nbit]
theorem names_bit99 : nbit (val [5]) 99 = 0 := by simp [val, nbit]
theorem names_bad : bad [[0]] = 8 := rfl

end Go.Proofs.YtgiokmfdafmaoaaGreat

namespace Go.Proofs.YtgiokmfdafmaoaaGreat
open Go.RowKit Go.Shelf
set_option linter.unusedVariables false
set_option linter.unusedSimpArgs false

theorem half_no {x : Nat} (h : ¬ x < half) : decide (((x : Nat) : Int) < 9223372036854775808) = false := by
  unfold half at h
  exact decide_eq_false (by omega)
theorem half_yes {x : Nat} (h : x < half) : decide (((x : Nat) : Int) < 9223372036854775808) = true := by
  unfold half at h
  exact decide_eq_true (by omega)
theorem mod_succ_bit (v k : Nat) : v % 2 ^ (k + 1) = v % 2 ^ k + 2 ^ k * nbit v k := by
  rw [Nat.pow_succ, Nat.mod_mul]; rfl
theorem sum_step {b p x y c a1 a2 : Nat} (h : b + p * c = a1 + a2) : (b + p * ((x + y + c) % 2)) + p * 2 * ((x + y + c) / 2) = (a1 + p * x) + (a2 + p * y) := by
  have e := Nat.mod_add_div (x + y + c) 2
  have e2 : p * ((x + y + c) % 2 + 2 * ((x + y + c) / 2)) = p * (x + y + c) := by rw [e]
  simp only [Nat.mul_add] at e2
  rw [Nat.mul_assoc]
  omega
theorem owni_block {w : World} {B : Nat} {v : Value} {o : List Nat} (h : OwnI w B v o) : ∀ k, v.ownBlock = some k → B ≤ k := fun k e => (h.1.lt k e).1

section
variable (A A2 : Option Addr) (na ca nb cb : Nat) (a b : List Nat) (w : World)

set_option maxRecDepth 100000 in
set_option maxHeartbeats 1000000 in
theorem rSum_bits (hra : Rd w A na a) (hrb : Rd w A2 nb b) (hna : na ≤ 1000) (hnb : nb ≤ 1000) (hs : ¬ (na ≤ 1 ∧ nb ≤ 1 ∧ lim a 0 < half ∧ lim b 0 < half)) :
    Calls Tryz.prog 94 #[.slice A na ca, .slice A2 nb cb] w fun e w' => ∃ A' k c, e = .returned (.slice A' k c) ∧ Own w' w.heap.size (.slice A' k c) (limbs (val a + val b)) ∧ Below w.heap.size w w' := by
  obtain ⟨i0, hi0, hz0, hz1, hz2⟩ := info_parts int_info
  obtain ⟨M, hM⟩ : ∃ M, 64 * max na nb = M := ⟨_, rfl⟩
  have hM1 : M ≤ 64000 := by omega
  have hva : val a < 2 ^ M := by rw [← hM]; exact val_lt_bits hra.words (by rw [hra.len]; omega)
  have hvb : val b < 2 ^ M := by rw [← hM]; exact val_lt_bits hrb.words (by rw [hrb.len]; omega)
  have HM := Lib.hid hM
  have HVA := Lib.hid hva
  have HVB := Lib.hid hvb
  obtain ⟨x0, hx0⟩ : ∃ x, lim a 0 = x := ⟨_, rfl⟩
  obtain ⟨y0, hy0⟩ : ∃ y, lim b 0 = y := ⟨_, rfl⟩
  rw [hx0, hy0] at hs
  have HX0 := Lib.hid hx0
  have HY0 := Lib.hid hy0
  clear hM hva hvb hx0 hy0
  have hcase : (decide (na ≤ 1 ∧ nb ≤ 1) = false) ∨ (decide (na ≤ 1 ∧ nb ≤ 1) = true ∧ decide (((x0 : Nat) : Int) < 9223372036854775808) = false) ∨
      (decide (na ≤ 1 ∧ nb ≤ 1) = true ∧ decide (((x0 : Nat) : Int) < 9223372036854775808) = true ∧ decide (((y0 : Nat) : Int) < 9223372036854775808) = false) := by
    by_cases h1 : na ≤ 1 ∧ nb ≤ 1
    · by_cases h2 : x0 < half
      · exact .inr (.inr ⟨decide_eq_true h1, half_yes h2, half_no fun h3 => hs ⟨h1.1, h1.2, h2, h3⟩⟩)
      · exact .inr (.inl ⟨decide_eq_true h1, half_no h2⟩)
    · exact .inl (decide_eq_false h1)
  clear hs
  rcases hcase with hc | ⟨hc, h2⟩ | ⟨hc, h2, h3⟩
  all_goals
    have HC := Lib.hid hc
    clear hc
    go_enter Tryz.func94, Tryz.ntmps94
    go_wp2_with (first
      | (go_at_call 117; refine (rShort_any A A2 na ca nb cb _ (by omega) (by omega)).mono ?_; rw [HC.out]; rintro e w1 ⟨rfl, rfl⟩)
      | (go_at_call_of 118 (Value.slice A na ca); refine (rOne_any A na ca a _ hra (by omega)).mono ?_; rw [HX0.out]; rintro e w1 ⟨rfl, rfl⟩)
      | (go_at_call_of 118 (Value.slice A2 nb cb); refine (rOne_any A2 nb cb b _ hrb (by omega)).mono ?_; rw [HY0.out]; rintro e w1 ⟨rfl, rfl⟩))
    go_loopw [5, 6, 7] (fun v c i wr => ∃ (k cy : Nat) (bl : List Nat), k ≤ M + 1 ∧ i = .int .i64 (k : Int) ∧ c = .int .i64 (cy : Int) ∧ cy ≤ 1 ∧ bl.length = k ∧ bval bl + 2 ^ k * cy = val a % 2 ^ k + val b % 2 ^ k ∧ OwnI wr w.heap.size v bl ∧ Below w.heap.size w wr) (fun _ _ i _ => M + 1 - (intOf i).toNat)
    case atStart => exact ⟨0, 0, [], by omega, rfl, rfl, by omega, rfl, by simp [bval, Nat.mod_one], ⟨World.ownsRow_nil _ _ _ _, fun y hy => by cases hy⟩, Below.refl _ _⟩
    case round =>
      obtain ⟨k, cy, bl, hk, rfl, rfl, hcy, hlen, hval, hown, hB⟩ := hrel
      try clear h2
      try clear h3
      have hra2 := hra.below hB
      have hrb2 := hrb.below hB
      by_cases hlt : k < M + 1
      · obtain ⟨x, hx⟩ : ∃ x, nbit (val a) k = x := ⟨_, rfl⟩
        obtain ⟨y, hy⟩ : ∃ y, nbit (val b) k = y := ⟨_, rfl⟩
        have hx1 : x ≤ 1 := by have := nbit_two (val a) k; omega
        have hy1 : y ≤ 1 := by have := nbit_two (val b) k; omega
        have hst := sum_step (x := x) (y := y) (p := 2 ^ k) hval
        have HX := Lib.hid hx
        have HY := Lib.hid hy
        have HST := Lib.hid hst
        have HLN := Lib.hid hlen
        have HRA := Lib.hid hra2
        have HRB := Lib.hid hrb2
        have hown0 := hown.below ((Below.refl _ wr).alloc (Nat.le_refl _) (.cells #[.int .i64 (((x : Int) + y + cy) % 2)] 3))
        have HO0 := Lib.hid hown0
        have hblk := owni_block hown
        have HBK := Lib.hid hblk
        have hnew := Lib.hid (cell_one_new wr (.int .i64 (((x : Int) + y + cy) % 2)) 3)
        have hol : bl.length ≤ 100000 := by omega
        clear hx hy hst hval hlen hra2 hrb2 hown hown0 hblk
        go_wp2_with fail
        refine (rMany_any A A2 na ca nb cb _ (by omega) (by omega)).mono ?_
        rw [HM.out]
        rintro e w1 ⟨rfl, rfl⟩
        go_wp2_with fail
        refine (rAt_any A na ca a _ k HRA.out (by omega) (by omega)).mono ?_
        rw [HX.out]
        rintro e w1 ⟨rfl, rfl⟩
        go_wp2_with fail
        refine (rAt_any A2 nb cb b _ k HRB.out (by omega) (by omega)).mono ?_
        rw [HY.out]
        rintro e w1 ⟨rfl, rfl⟩
        go_wp2_with (at_builtin; go_loud (refine wpList_append_own _ rfl _ _ 67 rfl w.heap.size 3 i0 _ 1 8 Tryz.underlying67 hi0 hz0 hz1 hz2 rfl (by decide) _ _ _ rfl HO0.out.1 ⟨wr.heap.size, 0, none⟩ 1 1 [.int .i64 (((x : Int) + y + cy) % 2)] rfl rfl hnew.out (by simp [Value.oneCell']) (by simp only [maxLen]; omega) (by omega) (by have := hB.size; simp; omega) ?_); intro v' w3 hown1 hgrow1 _)
        go_roundw
        case rel =>
          have hb3 : Below w.heap.size w w3 := (hB.alloc hB.size _).grown hgrow1 (by rw [World.size_alloc]; have := hB.size; omega) HBK.out
          refine ⟨k + 1, (x + y + cy) / 2, bl ++ [(x + y + cy) % 2], by omega, by go_num, by go_num, by omega, by simp [HLN.out], ?_, ⟨?_, bits_append HO0.out.2 (bits_one (by omega))⟩, hb3⟩
          · rw [bval_snoc, HLN.out, mod_succ_bit, mod_succ_bit, HX.out, HY.out, Nat.pow_succ]
            exact HST.out
          · rw [List.length_append, List.map_append]
            have e : [(x + y + cy) % 2].map i64n = [Value.int .i64 (((x : Int) + y + cy) % 2)] := by simp
            rw [e]
            exact hown1
        case measure => simp [intOf]; omega
      · have hkM : k = M + 1 := by omega
        have hfin : bval bl = val a + val b := by
          have h1 := HVA.out
          have h2 := HVB.out
          have hp : 2 ^ (M + 1) = 2 * 2 ^ M := by rw [Nat.pow_succ, Nat.mul_comm]
          rw [hkM, Nat.mod_eq_of_lt (by omega), Nat.mod_eq_of_lt (by omega)] at hval
          have h3 := bval_lt hown.2
          rw [hlen, hkM] at h3
          rcases (by omega : cy = 0 ∨ cy = 1) with rfl | rfl
          · simpa using hval
          · omega
        obtain ⟨A', c', hv, hrd, _, _⟩ := hown.form
        subst hv
        have HRD := Lib.hid hrd
        have HF := Lib.hid hfin
        have hge : ¬ ((k : Int) ≤ (M : Int)) := by omega
        have hbl : bl.length ≤ 1000000 := by omega
        clear hval hown hlen hkM hrd hfin
        go_wp2_with fail
        refine (rMany_any A A2 na ca nb cb _ (by omega) (by omega)).mono ?_
        rw [HM.out]
        rintro e w1 ⟨rfl, rfl⟩
        go_wp2_with fail
        refine (from_any A' bl.length c' bl _ HRD.out hbl).mono ?_
        rintro e w4 ⟨A4, k4, c4, rfl, ho4, hb4⟩
        rw [HF.out] at ho4
        go_wp2_with fail
        go_ret
        exact ⟨A4, k4, c4, rfl, own_mono ho4 hB.size, below_then hB hb4⟩
end
end Go.Proofs.YtgiokmfdafmaoaaGreat

namespace Go.Proofs.YtgiokmfdafmaoaaGreat
open Go.RowKit Go.Shelf
set_option linter.unusedVariables false
set_option linter.unusedSimpArgs false

theorem val_short {a : List Nat} (h : a.length ≤ 1) : val a = lim a 0 := by
  match a, h with
  | [], _ => rfl
  | [x], _ => simp [val, lim]
theorem rest_digit {x y c : Nat} (hx : x ≤ 1) (hy : y ≤ 1) (hc : c ≤ 1) : ∃ z d : Nat, z ≤ 1 ∧ d ≤ 1 ∧ x + 2 * d = z + y + c ∧ ((x : Int) - y - c < 0 → d = 1 ∧ (z : Int) = (x : Int) - y - c + 2) ∧ (¬ (x : Int) - y - c < 0 → d = 0 ∧ (z : Int) = (x : Int) - y - c) := by
  by_cases h : (x : Int) - y - c < 0
  · exact ⟨x + 2 - y - c, 1, by omega, by omega, by omega, fun _ => ⟨rfl, by omega⟩, fun h2 => absurd h h2⟩
  · exact ⟨x - y - c, 0, by omega, by omega, by omega, fun h2 => absurd h2 h, fun _ => ⟨rfl, by omega⟩⟩
theorem rest_step {j a b p x y z c d : Nat} (h : j + b = a + p * c) (hz : x + 2 * d = z + y + c) : (j + p * z) + (b + p * y) = (a + p * x) + p * 2 * d := by
  have e2 : p * (x + 2 * d) = p * (z + y + c) := by rw [hz]
  simp only [Nat.mul_add] at e2
  rw [Nat.mul_assoc]
  omega

section
variable (A A2 : Option Addr) (na ca nb cb : Nat) (a b : List Nat) (w : World)

set_option maxRecDepth 100000 in
set_option maxHeartbeats 1000000 in
theorem rSum_short (hra : Rd w A na a) (hrb : Rd w A2 nb b) (h1 : na ≤ 1) (h2 : nb ≤ 1) (hx : lim a 0 < half) (hy : lim b 0 < half) :
    Calls Tryz.prog 94 #[.slice A na ca, .slice A2 nb cb] w fun e w' => ∃ A' k c, e = .returned (.slice A' k c) ∧ Own w' w.heap.size (.slice A' k c) (limbs (val a + val b)) ∧ Below w.heap.size w w' := by
  have hs : val a + val b = lim a 0 + lim b 0 := by rw [val_short (by rw [hra.len]; exact h1), val_short (by rw [hrb.len]; exact h2)]
  have hsum : lim a 0 + lim b 0 < B64 := by unfold half at hx hy; rw [B64_eq]; omega
  obtain ⟨x0, hx0⟩ : ∃ x, lim a 0 = x := ⟨_, rfl⟩
  obtain ⟨y0, hy0⟩ : ∃ y, lim b 0 = y := ⟨_, rfl⟩
  rw [hx0, hy0] at hsum hs
  rw [hx0] at hx
  rw [hy0] at hy
  have d1 := half_yes hx
  have d2 := half_yes hy
  have hw : IntKind.u64.wrap ((x0 : Int) + (y0 : Int)) = ((x0 + y0 : Nat) : Int) := by
    rw [← Int.natCast_add, u64_wrap_nat, Nat.mod_eq_of_lt hsum]
  have HW := Lib.hid hw
  have HX0 := Lib.hid hx0
  have HY0 := Lib.hid hy0
  have HS := Lib.hid hs
  have HSUM := Lib.hid hsum
  have HC := Lib.hid (decide_eq_true (show na ≤ 1 ∧ nb ≤ 1 from ⟨h1, h2⟩))
  clear hx hy hw hx0 hy0 hs hsum
  go_enter Tryz.func94, Tryz.ntmps94
  go_wp2_with (first
    | (go_at_call 117; refine (rShort_any A A2 na ca nb cb _ (by omega) (by omega)).mono ?_; rw [HC.out]; rintro e w1 ⟨rfl, rfl⟩)
    | (go_at_call_of 118 (Value.slice A na ca); refine (rOne_any A na ca a _ hra (by omega)).mono ?_; rw [HX0.out]; rintro e w1 ⟨rfl, rfl⟩)
    | (go_at_call_of 118 (Value.slice A2 nb cb); refine (rOne_any A2 nb cb b _ hrb (by omega)).mono ?_; rw [HY0.out]; rintro e w1 ⟨rfl, rfl⟩))
  clear d1 d2
  try rw [HW.out]
  refine (rOf_any w (x0 + y0) HSUM.out).mono ?_
  rintro e w1 ⟨A1, k1, c1, rfl, ho, hb⟩
  go_wp2_with fail
  go_ret
  exact ⟨A1, k1, c1, rfl, by rw [HS.out]; exact ho, hb⟩

set_option maxRecDepth 100000 in
set_option maxHeartbeats 1000000 in
theorem rRest_short (hra : Rd w A na a) (hrb : Rd w A2 nb b) (h1 : na ≤ 1) (h2 : nb ≤ 1) (hle : val b ≤ val a) :
    Calls Tryz.prog 96 #[.slice A na ca, .slice A2 nb cb] w fun e w' => ∃ A' k c, e = .returned (.slice A' k c) ∧ Own w' w.heap.size (.slice A' k c) (limbs (val a - val b)) ∧ Below w.heap.size w w' := by
  have hs : val a - val b = lim a 0 - lim b 0 := by rw [val_short (by rw [hra.len]; exact h1), val_short (by rw [hrb.len]; exact h2)]
  rw [val_short (a := a) (by rw [hra.len]; exact h1), val_short (a := b) (by rw [hrb.len]; exact h2)] at hle
  have hxw := hra.words.get 0
  obtain ⟨x0, hx0⟩ : ∃ x, lim a 0 = x := ⟨_, rfl⟩
  obtain ⟨y0, hy0⟩ : ∃ y, lim b 0 = y := ⟨_, rfl⟩
  rw [hx0, hy0] at hle hs
  rw [hx0] at hxw
  have hsum : x0 - y0 < B64 := by omega
  have hw : IntKind.u64.wrap ((x0 : Int) - (y0 : Int)) = ((x0 - y0 : Nat) : Int) := by
    rw [← Int.natCast_sub hle, u64_wrap_nat, Nat.mod_eq_of_lt hsum]
  have HW := Lib.hid hw
  have HX0 := Lib.hid hx0
  have HY0 := Lib.hid hy0
  have HS := Lib.hid hs
  have HSUM := Lib.hid hsum
  have HLE := Lib.hid hle
  have HC := Lib.hid (decide_eq_true (show na ≤ 1 ∧ nb ≤ 1 from ⟨h1, h2⟩))
  clear hw hx0 hy0 hs hsum hle hxw
  go_enter Tryz.func96, Tryz.ntmps96
  go_wp2_with (first
    | (go_at_call 117; refine (rShort_any A A2 na ca nb cb _ (by omega) (by omega)).mono ?_; rw [HC.out]; rintro e w1 ⟨rfl, rfl⟩)
    | (go_at_call_of 118 (Value.slice A na ca); refine (rOne_any A na ca a _ hra (by omega)).mono ?_; rw [HX0.out]; rintro e w1 ⟨rfl, rfl⟩)
    | (go_at_call_of 118 (Value.slice A2 nb cb); refine (rOne_any A2 nb cb b _ hrb (by omega)).mono ?_; rw [HY0.out]; rintro e w1 ⟨rfl, rfl⟩))
  first | rw [HW.out] | rw [← Int.natCast_sub HLE.out]
  refine (rOf_any w (x0 - y0) HSUM.out).mono ?_
  rintro e w1 ⟨A1, k1, c1, rfl, ho, hb⟩
  go_wp2_with fail
  go_ret
  exact ⟨A1, k1, c1, rfl, by rw [HS.out]; exact ho, hb⟩

set_option maxRecDepth 100000 in
set_option maxHeartbeats 1000000 in
theorem rRest_bits (hra : Rd w A na a) (hrb : Rd w A2 nb b) (hna : na ≤ 1000) (hnb : nb ≤ 1000) (hs : ¬ (na ≤ 1 ∧ nb ≤ 1)) (hle : val b ≤ val a) :
    Calls Tryz.prog 96 #[.slice A na ca, .slice A2 nb cb] w fun e w' => ∃ A' k c, e = .returned (.slice A' k c) ∧ Own w' w.heap.size (.slice A' k c) (limbs (val a - val b)) ∧ Below w.heap.size w w' := by
  obtain ⟨i0, hi0, hz0, hz1, hz2⟩ := info_parts int_info
  obtain ⟨M, hM⟩ : ∃ M, 64 * max na nb = M := ⟨_, rfl⟩
  have hM1 : M ≤ 64000 := by omega
  have hva : val a < 2 ^ M := by rw [← hM]; exact val_lt_bits hra.words (by rw [hra.len]; omega)
  have hvb : val b < 2 ^ M := by rw [← hM]; exact val_lt_bits hrb.words (by rw [hrb.len]; omega)
  have HM := Lib.hid hM
  have HVA := Lib.hid hva
  have HVB := Lib.hid hvb
  have HLE := Lib.hid hle
  have HC := Lib.hid (decide_eq_false hs)
  clear hM hva hvb hle hs
  go_enter Tryz.func96, Tryz.ntmps96
  go_wp2_with (go_at_call 117; refine (rShort_any A A2 na ca nb cb _ (by omega) (by omega)).mono ?_; rw [HC.out]; rintro e w1 ⟨rfl, rfl⟩)
  go_loopw [5, 6, 7] (fun v c i wr => ∃ (k cy : Nat) (bl : List Nat), k ≤ M ∧ i = .int .i64 (k : Int) ∧ c = .int .i64 (cy : Int) ∧ cy ≤ 1 ∧ bl.length = k ∧ bval bl + val b % 2 ^ k = val a % 2 ^ k + 2 ^ k * cy ∧ OwnI wr w.heap.size v bl ∧ Below w.heap.size w wr) (fun _ _ i _ => M - (intOf i).toNat)
  case atStart => exact ⟨0, 0, [], by omega, rfl, rfl, by omega, rfl, by simp [bval, Nat.mod_one], ⟨World.ownsRow_nil _ _ _ _, fun y hy => by cases hy⟩, Below.refl _ _⟩
  case round =>
    obtain ⟨k, cy, bl, hk, rfl, rfl, hcy, hlen, hval, hown, hB⟩ := hrel
    have hra2 := hra.below hB
    have hrb2 := hrb.below hB
    by_cases hlt : k < M
    · obtain ⟨x, hx⟩ : ∃ x, nbit (val a) k = x := ⟨_, rfl⟩
      obtain ⟨y, hy⟩ : ∃ y, nbit (val b) k = y := ⟨_, rfl⟩
      have hx1 : x ≤ 1 := by have := nbit_two (val a) k; omega
      have hy1 : y ≤ 1 := by have := nbit_two (val b) k; omega
      obtain ⟨z, d, hz, hd, hxz, hneg, hpos⟩ := rest_digit hx1 hy1 hcy
      have hst := rest_step (p := 2 ^ k) hval hxz
      have HX := Lib.hid hx
      have HY := Lib.hid hy
      have HST := Lib.hid hst
      have HLN := Lib.hid hlen
      have HRA := Lib.hid hra2
      have HRB := Lib.hid hrb2
      have hown0 := fun u : Value => hown.below ((Below.refl _ wr).alloc (Nat.le_refl _) (.cells #[u] 3))
      have HO0 := Lib.hid hown0
      have hblk := owni_block hown
      have HBK := Lib.hid hblk
      have hnew := Lib.hid (fun u : Value => cell_one_new wr u 3)
      have hol : bl.length ≤ 100000 := by omega
      have HNEG := Lib.hid hneg
      have HPOS := Lib.hid hpos
      clear hx hy hst hval hlen hra2 hrb2 hown hown0 hblk hneg hpos hxz
      by_cases hsgn : (x : Int) - y - cy < 0
      all_goals
        go_wp2_with fail
        refine (rMany_any A A2 na ca nb cb _ (by omega) (by omega)).mono ?_
        rw [HM.out]
        rintro e w1 ⟨rfl, rfl⟩
        go_wp2_with fail
        refine (rAt_any A na ca a _ k HRA.out (by omega) (by omega)).mono ?_
        rw [HX.out]
        rintro e w1 ⟨rfl, rfl⟩
        go_wp2_with fail
        refine (rAt_any A2 nb cb b _ k HRB.out (by omega) (by omega)).mono ?_
        rw [HY.out]
        rintro e w1 ⟨rfl, rfl⟩
        go_wp2_with (at_builtin; go_loud (refine wpList_append_own _ rfl _ _ 67 rfl w.heap.size 3 i0 _ 1 8 Tryz.underlying67 hi0 hz0 hz1 hz2 rfl (by decide) _ _ _ rfl (HO0.out _).1 ⟨wr.heap.size, 0, none⟩ 1 1 _ rfl rfl (hnew.out _) (by simp [Value.oneCell']) (by simp only [maxLen]; omega) (by omega) (by have := hB.size; simp; omega) ?_); intro v' w3 hown1 hgrow1 _)
        go_roundw
        case rel =>
          have hb3 : Below w.heap.size w w3 := (hB.alloc hB.size _).grown hgrow1 (by rw [World.size_alloc]; have := hB.size; omega) HBK.out
          refine ⟨k + 1, d, bl ++ [z], by omega, by go_num, ?_, hd, by simp [HLN.out], ?_, ⟨?_, bits_append (HO0.out undef).2 (bits_one hz)⟩, hb3⟩
          · first
              | (rw [(HNEG.out (by omega)).1]; rfl)
              | (rw [(HPOS.out (by omega)).1]; rfl)
          · rw [bval_snoc, HLN.out, mod_succ_bit, mod_succ_bit, HX.out, HY.out, Nat.pow_succ]
            exact HST.out
          · rw [List.length_append, List.map_append]
            first
              | (have e : [z].map i64n = [Value.int .i64 ((x : Int) - y - cy + 2)] := by
                   rw [← (HNEG.out (by omega)).2]; rfl
                 rw [e]
                 exact hown1)
              | (have e : [z].map i64n = [Value.int .i64 ((x : Int) - y - cy)] := by
                   rw [← (HPOS.out (by omega)).2]; rfl
                 rw [e]
                 exact hown1)
        case measure => simp [intOf]; omega
    · have hkM : k = M := by omega
      have hfin : bval bl = val a - val b := by
        have h1 := HVA.out
        have h2 := HVB.out
        have h4 := HLE.out
        rw [hkM, Nat.mod_eq_of_lt h1, Nat.mod_eq_of_lt h2] at hval
        have h3 := bval_lt hown.2
        rw [hlen, hkM] at h3
        rcases (by omega : cy = 0 ∨ cy = 1) with rfl | rfl
        · simp at hval; omega
        · simp at hval; omega
      obtain ⟨A', c', hv, hrd, _, _⟩ := hown.form
      subst hv
      have HRD := Lib.hid hrd
      have HF := Lib.hid hfin
      have hge : ¬ ((k : Int) < (M : Int)) := by omega
      have hbl : bl.length ≤ 1000000 := by omega
      clear hval hown hlen hkM hrd hfin
      go_wp2_with fail
      refine (rMany_any A A2 na ca nb cb _ (by omega) (by omega)).mono ?_
      rw [HM.out]
      rintro e w1 ⟨rfl, rfl⟩
      go_wp2_with fail
      refine (from_any A' bl.length c' bl _ HRD.out hbl).mono ?_
      rintro e w4 ⟨A4, k4, c4, rfl, ho4, hb4⟩
      rw [HF.out] at ho4
      go_wp2_with fail
      go_ret
      exact ⟨A4, k4, c4, rfl, own_mono ho4 hB.size, below_then hB hb4⟩
end
end Go.Proofs.YtgiokmfdafmaoaaGreat

namespace Go.Proofs.YtgiokmfdafmaoaaGreat
open Go.RowKit Go.Shelf
set_option linter.unusedVariables false
set_option linter.unusedSimpArgs false

theorem cmp_top {v u k : Nat} (h : v / 2 ^ (k + 1) = u / 2 ^ (k + 1)) (hne : nbit v k ≠ nbit u k) : cmp3 v u = (nbit v k : Int) - (nbit u k : Int) := by
  have e1 := div_bit v k
  have e2 := div_bit u k
  have m1 := Nat.mod_add_div v (2 ^ k)
  have m2 := Nat.mod_add_div u (2 ^ k)
  have l1 := Nat.mod_lt v (Nat.two_pow_pos k)
  have l2 := Nat.mod_lt u (Nat.two_pow_pos k)
  have b1 := nbit_two v k
  have b2 := nbit_two u k
  have h3 : v / 2 ^ k ≠ u / 2 ^ k := by omega
  have h4 : cmp3 v u = cmp3 (v / 2 ^ k) (u / 2 ^ k) := by
    rw [← cmp3_high l1 l2 h3, m1, m2]
  rw [h4]
  rcases b1 with b1 | b1 <;> rcases b2 with b2 | b2
  · exact absurd (b1.trans b2.symm) hne
  · rw [cmp3_lt (by omega), b1, b2]; rfl
  · rw [cmp3_gt (by omega), b1, b2]; rfl
  · exact absurd (b1.trans b2.symm) hne

section
variable (A A2 : Option Addr) (na ca nb cb : Nat) (a b : List Nat) (w : World)

set_option maxRecDepth 100000 in
set_option maxHeartbeats 1000000 in
theorem rCompared_short (hra : Rd w A na a) (hrb : Rd w A2 nb b) (h1 : na ≤ 1) (h2 : nb ≤ 1) (hne : lim a 0 ≠ lim b 0) :
    Calls Tryz.prog 95 #[.slice A na ca, .slice A2 nb cb] w fun e w' => e = .returned (.int .i64 (cmp3 (val a) (val b))) ∧ w = w' := by
  have hs : cmp3 (val a) (val b) = cmp3 (lim a 0) (lim b 0) := by rw [val_short (a := a) (by rw [hra.len]; exact h1), val_short (a := b) (by rw [hrb.len]; exact h2)]
  obtain ⟨x0, hx0⟩ : ∃ x, lim a 0 = x := ⟨_, rfl⟩
  obtain ⟨y0, hy0⟩ : ∃ y, lim b 0 = y := ⟨_, rfl⟩
  rw [hx0, hy0] at hne hs
  have HX0 := Lib.hid hx0
  have HY0 := Lib.hid hy0
  have HS := Lib.hid hs
  have HC := Lib.hid (decide_eq_true (show na ≤ 1 ∧ nb ≤ 1 from ⟨h1, h2⟩))
  have hb : (((x0 : Nat) : Int) != ((y0 : Nat) : Int)) = true := by simp; omega
  clear hx0 hy0 hs
  rcases Nat.lt_or_gt_of_ne hne with hlt | hgt
  · have HR := Lib.hid (cmp3_lt hlt)
    clear hne
    go_enter Tryz.func95, Tryz.ntmps95
    go_wp2_with (first
      | (go_at_call 117; refine (rShort_any A A2 na ca nb cb _ (by omega) (by omega)).mono ?_; rw [HC.out]; rintro e w1 ⟨rfl, rfl⟩)
      | (go_at_call_of 118 (Value.slice A na ca); refine (rOne_any A na ca a _ hra (by omega)).mono ?_; rw [HX0.out]; rintro e w1 ⟨rfl, rfl⟩)
      | (go_at_call_of 118 (Value.slice A2 nb cb); refine (rOne_any A2 nb cb b _ hrb (by omega)).mono ?_; rw [HY0.out]; rintro e w1 ⟨rfl, rfl⟩))
    go_ret
    exact ⟨by rw [HS.out, HR.out]; rfl, rfl⟩
  · have HR := Lib.hid (cmp3_gt hgt)
    have hnl : ¬ x0 < y0 := by omega
    clear hne
    go_enter Tryz.func95, Tryz.ntmps95
    go_wp2_with (first
      | (go_at_call 117; refine (rShort_any A A2 na ca nb cb _ (by omega) (by omega)).mono ?_; rw [HC.out]; rintro e w1 ⟨rfl, rfl⟩)
      | (go_at_call_of 118 (Value.slice A na ca); refine (rOne_any A na ca a _ hra (by omega)).mono ?_; rw [HX0.out]; rintro e w1 ⟨rfl, rfl⟩)
      | (go_at_call_of 118 (Value.slice A2 nb cb); refine (rOne_any A2 nb cb b _ hrb (by omega)).mono ?_; rw [HY0.out]; rintro e w1 ⟨rfl, rfl⟩))
    go_ret
    exact ⟨by rw [HS.out, HR.out]; rfl, rfl⟩

set_option maxRecDepth 100000 in
set_option maxHeartbeats 1000000 in
theorem rCompared_bits (hra : Rd w A na a) (hrb : Rd w A2 nb b) (hna : na ≤ 1000) (hnb : nb ≤ 1000) (hs : ¬ (na ≤ 1 ∧ nb ≤ 1) ∨ ((na ≤ 1 ∧ nb ≤ 1) ∧ lim a 0 = lim b 0)) :
    Calls Tryz.prog 95 #[.slice A na ca, .slice A2 nb cb] w fun e w' => e = .returned (.int .i64 (cmp3 (val a) (val b))) ∧ w = w' := by
  obtain ⟨M, hM⟩ : ∃ M, 64 * max na nb = M := ⟨_, rfl⟩
  have hM1 : M ≤ 64000 := by omega
  have hva : val a < 2 ^ M := by rw [← hM]; exact val_lt_bits hra.words (by rw [hra.len]; omega)
  have hvb : val b < 2 ^ M := by rw [← hM]; exact val_lt_bits hrb.words (by rw [hrb.len]; omega)
  have HM := Lib.hid hM
  have HVA := Lib.hid hva
  have HVB := Lib.hid hvb
  obtain ⟨x0, hx0⟩ : ∃ x, lim a 0 = x := ⟨_, rfl⟩
  obtain ⟨y0, hy0⟩ : ∃ y, lim b 0 = y := ⟨_, rfl⟩
  rw [hx0, hy0] at hs
  have HX0 := Lib.hid hx0
  have HY0 := Lib.hid hy0
  have hcase : decide (na ≤ 1 ∧ nb ≤ 1) = false ∨ (decide (na ≤ 1 ∧ nb ≤ 1) = true ∧ x0 = y0) := by
    rcases hs with h | ⟨h, e⟩
    · exact .inl (decide_eq_false h)
    · exact .inr ⟨decide_eq_true h, e⟩
  clear hM hva hvb hx0 hy0 hs
  rcases hcase with hc | ⟨hc, rfl⟩
  all_goals
    have HC := Lib.hid hc
    clear hc
    go_enter Tryz.func95, Tryz.ntmps95
    go_wp2_with (first
      | (go_at_call 117; refine (rShort_any A A2 na ca nb cb _ (by omega) (by omega)).mono ?_; rw [HC.out]; rintro e w1 ⟨rfl, rfl⟩)
      | (go_at_call_of 118 (Value.slice A na ca); refine (rOne_any A na ca a _ hra (by omega)).mono ?_; rw [HX0.out]; rintro e w1 ⟨rfl, rfl⟩)
      | (go_at_call_of 118 (Value.slice A2 nb cb); refine (rOne_any A2 nb cb b _ hrb (by omega)).mono ?_; rw [HY0.out]; rintro e w1 ⟨rfl, rfl⟩)
      | (go_at_call 119; refine (rMany_any A A2 na ca nb cb _ (by omega) (by omega)).mono ?_; rw [HM.out]; rintro e w1 ⟨rfl, rfl⟩))
    go_loop [5] (fun i => ∃ k : Nat, k ≤ M ∧ i = .int .i64 ((k : Int) - 1) ∧ val a / 2 ^ k = val b / 2 ^ k) (fun i => (intOf i + 1).toNat)
    case atStart => exact ⟨M, Nat.le_refl _, rfl, by rw [Nat.div_eq_of_lt HVA.out, Nat.div_eq_of_lt HVB.out]⟩
    case round =>
      obtain ⟨k, hk, rfl, hdiv⟩ := hrel
      by_cases h0 : k = 0
      · subst h0
        have hv : cmp3 (val a) (val b) = 0 := by
          simp at hdiv
          rw [hdiv, cmp3_self]
        have HV := Lib.hid hv
        clear hdiv hv
        go_wp2
        go_ret
        exact ⟨by rw [HV.out]; rfl, rfl⟩
      · obtain ⟨j, rfl⟩ : ∃ j, k = j + 1 := ⟨k - 1, by omega⟩
        obtain ⟨x, hx⟩ : ∃ x, nbit (val a) j = x := ⟨_, rfl⟩
        obtain ⟨y, hy⟩ : ∃ y, nbit (val b) j = y := ⟨_, rfl⟩
        have hx1 : x ≤ 1 := by have := nbit_two (val a) j; omega
        have hy1 : y ≤ 1 := by have := nbit_two (val b) j; omega
        have HX := Lib.hid hx
        have HY := Lib.hid hy
        by_cases hxy : x = y
        · have hd2 : val a / 2 ^ j = val b / 2 ^ j := by rw [div_bit, div_bit (val b), hdiv, hx, hy, hxy]
          have hne : (((x : Nat) : Int) != ((y : Nat) : Int)) = false := by simp [hxy]
          have HD := Lib.hid hd2
          clear hd2 hdiv hx hy hxy
          rw [show (((j + 1 : Nat) : Int) - 1) = (j : Int) by omega]
          go_wp2_with (first
            | (go_at_call_of 99 (Value.slice A na ca); refine (rAt_any A na ca a _ j hra (by omega) (by omega)).mono ?_; rw [HX.out]; rintro e w1 ⟨rfl, rfl⟩)
            | (go_at_call_of 99 (Value.slice A2 nb cb); refine (rAt_any A2 nb cb b _ j hrb (by omega) (by omega)).mono ?_; rw [HY.out]; rintro e w1 ⟨rfl, rfl⟩))
          go_round
          case rel => exact ⟨j, by omega, rfl, HD.out⟩
          case measure => (simp [intOf]) <;> omega
        · have hc := cmp_top hdiv (by rw [hx, hy]; exact hxy)
          rw [hx, hy] at hc
          have hne : (((x : Nat) : Int) != ((y : Nat) : Int)) = true := by simp; omega
          have HCC := Lib.hid hc
          clear hc hdiv hx hy
          rw [show (((j + 1 : Nat) : Int) - 1) = (j : Int) by omega]
          go_wp2_with (first
            | (go_at_call_of 99 (Value.slice A na ca); refine (rAt_any A na ca a _ j hra (by omega) (by omega)).mono ?_; rw [HX.out]; rintro e w1 ⟨rfl, rfl⟩)
            | (go_at_call_of 99 (Value.slice A2 nb cb); refine (rAt_any A2 nb cb b _ j hrb (by omega) (by omega)).mono ?_; rw [HY.out]; rintro e w1 ⟨rfl, rfl⟩))
          go_ret
          exact ⟨by rw [HCC.out]; rfl, rfl⟩
end
end Go.Proofs.YtgiokmfdafmaoaaGreat

namespace Go.Proofs.YtgiokmfdafmaoaaGreat
open Go.RowKit Go.Shelf
set_option linter.unusedVariables false
set_option linter.unusedSimpArgs false

theorem bval_zeros (n : Nat) : bval (List.replicate n 0) = 0 := by
  induction n with
  | zero => rfl
  | succ n ih => rw [List.replicate_succ, bval, ih]
theorem bits_zeros (n : Nat) : Bits (List.replicate n 0) := fun y hy => by
  rw [List.mem_replicate] at hy; omega
theorem owni_zeros (w : World) (n : Nat) (hn : n ≤ maxLen) : OwnI (w.alloc (.cells (madeCells #[.int .i64 0] n) 3)) w.heap.size (.slice (some ⟨w.heap.size, 0, none⟩) n n) (List.replicate n 0) := by
  have e : (madeCells #[.int .i64 0] n).toList = (List.replicate n 0).map i64n := by
    apply List.ext_getElem
    · simp [madeCells]
    · intro i h1 h2
      simp [madeCells, Nat.mod_one]
  refine ⟨⟨by simp, .inr ⟨w.heap.size, n, madeCells #[.int .i64 0] n, by simp, Nat.le_refl _, World.alloc_heap_new w _, by simp, hn, by simp [madeCells], ?_⟩⟩, bits_zeros n⟩
  rw [← e, List.take_of_length_le (by simp [madeCells])]
theorem nbit_div (v b i : Nat) : nbit (v / 2 ^ b) i = nbit v (b + i) := by
  unfold nbit
  rw [Nat.div_div_eq_div_mul, ← Nat.pow_add]

section
variable (A : Option Addr) (na ca : Nat) (a : List Nat) (w : World)


set_option maxRecDepth 100000 in
set_option maxHeartbeats 1000000 in
theorem rTimes_any (bits : Nat) (hra : Rd w A na a) (hna : na ≤ 1000) (hb : bits ≤ 65536) :
    Calls Tryz.prog 101 #[.slice A na ca, .int .i64 (bits : Int)] w fun e w' => ∃ A' k c, e = .returned (.slice A' k c) ∧ Own w' w.heap.size (.slice A' k c) (limbs (val a * 2 ^ bits)) ∧ Below w.heap.size w w' := by
  obtain ⟨i0, hi0, hz0, hz1, hz2⟩ := info_parts int_info
  have hva : val a < 2 ^ (64 * na) := val_lt_bits hra.words (by rw [hra.len]; omega)
  have HVA := Lib.hid hva
  have hmk := fun W => run_make_row' (P := Tryz.prog) 67 3 (.int .i64 0) 8 Tryz.underlying67 int_info rfl .i64 .i64 bits (by omega) (by omega) W
  clear hva
  go_enter Tryz.func101, Tryz.ntmps101
  go_wp2
  have hz := owni_zeros w bits (by simp only [maxLen]; omega)
  have hB2 := (Below.refl w.heap.size w).alloc (Nat.le_refl _) (.cells (madeCells #[.int .i64 0] bits) 3)
  generalize hW2 : w.alloc (.cells (madeCells #[.int .i64 0] bits) 3) = w2 at *
  clear hW2 hmk
  go_loopw [5, 6] (fun v i wr => ∃ (k : Nat) (bl : List Nat), k ≤ 64 * na ∧ i = .int .i64 (k : Int) ∧ bl.length = bits + k ∧ bval bl = 2 ^ bits * (val a % 2 ^ k) ∧ OwnI wr w.heap.size v bl ∧ Below w.heap.size w wr) (fun _ i _ => 64 * na - (intOf i).toNat)
  case atStart => exact ⟨0, _, by omega, rfl, by simp, by rw [bval_zeros]; simp [Nat.mod_one], hz, hB2⟩
  case round =>
    obtain ⟨k, bl, hk, rfl, hlen, hval, hown, hB⟩ := hrel
    have hra2 := hra.below hB
    by_cases hlt : k < 64 * na
    · obtain ⟨x, hx⟩ : ∃ x, nbit (val a) k = x := ⟨_, rfl⟩
      have hx1 : x ≤ 1 := by have := nbit_two (val a) k; omega
      have hst : bval (bl ++ [x]) = 2 ^ bits * (val a % 2 ^ (k + 1)) := by
        rw [bval_snoc, hlen, mod_succ_bit, hx, hval, Nat.pow_add, Nat.mul_add, Nat.mul_assoc]
      have hlen2 : (bl ++ [x]).length = bits + (k + 1) := by rw [List.length_append, hlen]; rfl
      have HX := Lib.hid hx
      have HST := Lib.hid hst
      have HLN := Lib.hid hlen2
      have HRA := Lib.hid hra2
      have hown0 := fun u : Value => hown.below ((Below.refl _ wr).alloc (Nat.le_refl _) (.cells #[u] 3))
      have HO0 := Lib.hid hown0
      have hblk := owni_block hown
      have HBK := Lib.hid hblk
      have hnew := Lib.hid (fun u : Value => cell_one_new wr u 3)
      have hol : bl.length ≤ 200000 := by omega
      have hlt2 : (k : Int) < 64 * (na : Int) := by omega
      clear hx hst hval hlen hra2 hown hown0 hblk hlen2
      go_wp2_with (first
        | (go_at_call 99; refine (rAt_any A na ca a _ k HRA.out (by omega) (by omega)).mono ?_; rw [HX.out]; rintro e w1 ⟨rfl, rfl⟩)
        | (at_builtin; refine wpList_append_own _ rfl _ _ 67 rfl w.heap.size 3 i0 _ 1 8 Tryz.underlying67 hi0 hz0 hz1 hz2 rfl (by decide) _ _ _ rfl (HO0.out _).1 ⟨wr.heap.size, 0, none⟩ 1 1 _ rfl rfl (hnew.out _) (by simp [Value.oneCell']) (by simp only [maxLen]; omega) (by omega) (by have := hB.size; simp; omega) ?_; intro v' w3 hown1 hgrow1 _))
      go_roundw
      case rel =>
        have hb3 : Below w.heap.size w w3 := (hB.alloc hB.size _).grown hgrow1 (by rw [World.size_alloc]; have := hB.size; omega) HBK.out
        refine ⟨k + 1, bl ++ [x], by omega, by go_num, HLN.out, HST.out, ⟨?_, bits_append (HO0.out undef).2 (bits_one hx1)⟩, hb3⟩
        rw [List.length_append, List.map_append]
        exact hown1
      case measure => simp [intOf]; omega
    · have hkM : k = 64 * na := by omega
      have hfin : bval bl = val a * 2 ^ bits := by
        rw [hval, hkM, Nat.mod_eq_of_lt HVA.out, Nat.mul_comm]
      obtain ⟨A', c', hv, hrd, _, _⟩ := hown.form
      subst hv
      have HRD := Lib.hid hrd
      have HF := Lib.hid hfin
      have hge : ¬ ((k : Int) < 64 * (na : Int)) := by omega
      have hbl : bl.length ≤ 1000000 := by omega
      clear hval hown hlen hkM hrd hfin
      go_wp2_with fail
      refine (from_any A' bl.length c' bl _ HRD.out hbl).mono ?_
      rintro e w4 ⟨A4, k4, c4, rfl, ho4, hb4⟩
      rw [HF.out] at ho4
      go_wp2_with fail
      go_ret
      exact ⟨A4, k4, c4, rfl, own_mono ho4 hB.size, below_then hB hb4⟩

set_option maxRecDepth 100000 in
set_option maxHeartbeats 1000000 in
theorem rDown_ok (bits : Nat) (hra : Rd w A na a) (hna : na ≤ 1000) (hb : bits ≤ 65536) (hm : may a = true) :
    Calls Tryz.prog 122 #[.slice A na ca, .int .i64 (bits : Int)] w fun e w' => ∃ A' k c, e = .returned (.tuple #[.slice A' k c, .int .i64 0]) ∧ Own w' w.heap.size (.slice A' k c) (limbs (val a / 2 ^ bits)) ∧ Below w.heap.size w w' := by
  obtain ⟨i0, hi0, hz0, hz1, hz2⟩ := info_parts int_info
  have hva : val a < 2 ^ (64 * na) := val_lt_bits hra.words (by rw [hra.len]; omega)
  have HVA := Lib.hid hva
  have HM := Lib.hid hm
  clear hva hm
  go_enter Tryz.func122, Tryz.ntmps122
  go_wp2_with (go_at_call 77; refine (rMay_any A na ca a _ hra (by omega)).mono ?_; rw [HM.out]; rintro e w1 ⟨rfl, rfl⟩)
  go_loopw [6, 7] (fun v i wr => ∃ (k : Nat) (bl : List Nat), (k = 0 ∨ bits + k ≤ 64 * na) ∧ i = .int .i64 ((bits + k : Nat) : Int) ∧ bl.length = k ∧ bval bl = val a / 2 ^ bits % 2 ^ k ∧ OwnI wr w.heap.size v bl ∧ Below w.heap.size w wr) (fun _ i _ => 64 * na - (intOf i).toNat)
  case atStart => exact ⟨0, [], .inl rfl, rfl, rfl, by simp [bval, Nat.mod_one], ⟨World.ownsRow_nil _ _ _ _, fun y hy => by cases hy⟩, Below.refl _ _⟩
  case round =>
    obtain ⟨k, bl, hk, rfl, hlen, hval, hown, hB⟩ := hrel
    have hra2 := hra.below hB
    by_cases hlt : bits + k < 64 * na
    · obtain ⟨x, hx⟩ : ∃ x, nbit (val a) (bits + k) = x := ⟨_, rfl⟩
      have hx1 : x ≤ 1 := by have := nbit_two (val a) (bits + k); omega
      have hst : bval (bl ++ [x]) = val a / 2 ^ bits % 2 ^ (k + 1) := by
        rw [bval_snoc, hlen, mod_succ_bit, nbit_div, hx, hval]
      have HX := Lib.hid hx
      have HST := Lib.hid hst
      have HLN := Lib.hid hlen
      have HRA := Lib.hid hra2
      have hown0 := fun u : Value => hown.below ((Below.refl _ wr).alloc (Nat.le_refl _) (.cells #[u] 3))
      have HO0 := Lib.hid hown0
      have hblk := owni_block hown
      have HBK := Lib.hid hblk
      have hnew := Lib.hid (fun u : Value => cell_one_new wr u 3)
      have hol : bl.length ≤ 200000 := by omega
      obtain ⟨m, hmm⟩ : ∃ m, bits + k = m := ⟨_, rfl⟩
      rw [hmm] at HX hlt ⊢
      have HMM := Lib.hid hmm
      have hm2 : m ≤ 200000 := by omega
      have hlt2 : (m : Int) < 64 * (na : Int) := by omega
      clear hx hst hval hlen hra2 hown hown0 hblk hmm
      go_wp2_with (first
        | (go_at_call 99; refine (rAt_any A na ca a _ m HRA.out (by omega) (by omega)).mono ?_; rw [HX.out]; rintro e w1 ⟨rfl, rfl⟩)
        | (at_builtin; refine wpList_append_own _ rfl _ _ 67 rfl w.heap.size 3 i0 _ 1 8 Tryz.underlying67 hi0 hz0 hz1 hz2 rfl (by decide) _ _ _ rfl (HO0.out _).1 ⟨wr.heap.size, 0, none⟩ 1 1 _ rfl rfl (hnew.out _) (by simp [Value.oneCell']) (by simp only [maxLen]; omega) (by omega) (by have := hB.size; simp; omega) ?_; intro v' w3 hown1 hgrow1 _))
      go_roundw
      case rel =>
        have hb3 : Below w.heap.size w w3 := (hB.alloc hB.size _).grown hgrow1 (by rw [World.size_alloc]; have := hB.size; omega) HBK.out
        have hmm := HMM.out
        refine ⟨k + 1, bl ++ [x], .inr (by omega), by rw [show bits + (k + 1) = m + 1 by omega]; go_num, by rw [List.length_append, HLN.out]; rfl, HST.out, ⟨?_, bits_append (HO0.out undef).2 (bits_one hx1)⟩, hb3⟩
        rw [List.length_append, List.map_append]
        exact hown1
      case measure => simp [intOf]; omega
    · have hfin : bval bl = val a / 2 ^ bits := by
        rw [hval]
        apply Nat.mod_eq_of_lt
        have h1 := HVA.out
        rw [Nat.div_lt_iff_lt_mul (Nat.two_pow_pos _), ← Nat.pow_add]
        exact Nat.lt_of_lt_of_le h1 (Nat.pow_le_pow_right (by omega) (by omega))
      obtain ⟨A', c', hv, hrd, _, _⟩ := hown.form
      subst hv
      have HRD := Lib.hid hrd
      have HF := Lib.hid hfin
      have hbl : bl.length ≤ 1000000 := by omega
      obtain ⟨m, hmm⟩ : ∃ m, bits + k = m := ⟨_, rfl⟩
      rw [hmm] at hlt ⊢
      have hge : ¬ ((m : Int) < 64 * (na : Int)) := by omega
      clear hval hown hlen hrd hfin hmm
      go_wp2_with fail
      refine (from_any A' bl.length c' bl _ HRD.out hbl).mono ?_
      rintro e w4 ⟨A4, k4, c4, rfl, ho4, hb4⟩
      rw [HF.out] at ho4
      go_wp2_with fail
      go_ret2
      exact ⟨A4, k4, c4, rfl, own_mono ho4 hB.size, below_then hB hb4⟩
end
end Go.Proofs.YtgiokmfdafmaoaaGreat

/- What the numbers' calls answer, as one thing for the program and for the document. -/
namespace Go.Proofs.YtgiokmfdafmaoaaGreat
open Go.RowKit Go.Shelf
set_option linter.unusedVariables false
set_option linter.unusedSimpArgs false

def cmpV (a b : List Nat) : Int := if both a b = true then cmp3 (val a) (val b) else 0
def subE (a b : List Nat) : Int := if both a b = true then (if val a < val b then 10 else 0) else 8
def subL (a b : List Nat) : List Nat := if both a b = true then (if val a < val b then [] else limbs (val a - val b)) else []
def wordV (a : List Nat) : Nat := if may a = true ∧ a.length ≤ 1 then lim a 0 else 0
def wordE (a : List Nat) : Int := if may a = true then (if a.length ≤ 1 then 0 else 4) else 8
def longV (a : List Nat) : Nat := if may a = true then blen (val a) else 0
def bitV (a : List Nat) (i : Int) : Nat := if may a = true then (if i < 0 then 0 else nbit (val a) i.toNat) else 0
def bitE (a : List Nat) (i : Int) : Int := if may a = true then (if i < 0 then 2 else 0) else 8
def shiftE (a : List Nat) (i : Int) : Int := if may a = true then (if i < 0 ∨ 65536 < i then 2 else 0) else 8
def upL (a : List Nat) (i : Int) : List Nat := if may a = true then (if i < 0 ∨ 65536 < i then [] else limbs (val a * 2 ^ i.toNat)) else []
def downL (a : List Nat) (i : Int) : List Nat := if may a = true then (if i < 0 ∨ 65536 < i then [] else limbs (val a / 2 ^ i.toNat)) else []


section
variable (A A2 : Option Addr) (na ca nb cb : Nat) (a b : List Nat) (w : World)

theorem rCompared_any (hra : Rd w A na a) (hrb : Rd w A2 nb b) (hna : na ≤ 1000) (hnb : nb ≤ 1000) :
    Calls Tryz.prog 95 #[.slice A na ca, .slice A2 nb cb] w fun e w' => e = .returned (.int .i64 (cmp3 (val a) (val b))) ∧ w = w' := by
  by_cases h : na ≤ 1 ∧ nb ≤ 1
  · by_cases h2 : lim a 0 = lim b 0
    · exact rCompared_bits A A2 na ca nb cb a b w hra hrb hna hnb (.inr ⟨h, h2⟩)
    · exact rCompared_short A A2 na ca nb cb a b w hra hrb h.1 h.2 h2
  · exact rCompared_bits A A2 na ca nb cb a b w hra hrb hna hnb (.inl h)
theorem rSum_any (hra : Rd w A na a) (hrb : Rd w A2 nb b) (hna : na ≤ 1000) (hnb : nb ≤ 1000) :
    Calls Tryz.prog 94 #[.slice A na ca, .slice A2 nb cb] w fun e w' => ∃ A' k c, e = .returned (.slice A' k c) ∧ Own w' w.heap.size (.slice A' k c) (limbs (val a + val b)) ∧ Below w.heap.size w w' := by
  by_cases h : na ≤ 1 ∧ nb ≤ 1 ∧ lim a 0 < half ∧ lim b 0 < half
  · exact rSum_short A A2 na ca nb cb a b w hra hrb h.1 h.2.1 h.2.2.1 h.2.2.2
  · exact rSum_bits A A2 na ca nb cb a b w hra hrb hna hnb h
theorem rRest_any (hra : Rd w A na a) (hrb : Rd w A2 nb b) (hna : na ≤ 1000) (hnb : nb ≤ 1000) (hle : val b ≤ val a) :
    Calls Tryz.prog 96 #[.slice A na ca, .slice A2 nb cb] w fun e w' => ∃ A' k c, e = .returned (.slice A' k c) ∧ Own w' w.heap.size (.slice A' k c) (limbs (val a - val b)) ∧ Below w.heap.size w w' := by
  by_cases h : na ≤ 1 ∧ nb ≤ 1
  · exact rRest_short A A2 na ca nb cb a b w hra hrb h.1 h.2 hle
  · exact rRest_bits A A2 na ca nb cb a b w hra hrb hna hnb h hle

theorem cmp_spec (hra : Rd w A na a) (hrb : Rd w A2 nb b) (hna : na ≤ 1000) (hnb : nb ≤ 1000) :
    Calls Tryz.prog 70 #[.slice A na ca, .slice A2 nb cb] w fun e w' => e = .returned (.tuple #[.int .i64 (cmpV a b), .int .i64 (err2 a b)]) ∧ Below w.heap.size w w' := by
  cases h : both a b with
  | true => simpa [cmpV, err2, h] using cmp_ok A A2 na ca nb cb a b w hra hrb (by omega) (by omega) (by rw [both_all, h])
  | false => simpa [cmpV, err2, h] using cmp_bad A A2 na ca nb cb a b w hra hrb (by omega) (by omega) (by rw [both_all, h])
theorem add_spec (hra : Rd w A na a) (hrb : Rd w A2 nb b) (hna : na ≤ 1000) (hnb : nb ≤ 1000) :
    Calls Tryz.prog 114 #[.slice A na ca, .slice A2 nb cb] w (Answers w (addL a b) (err2 a b)) := by
  cases h : both a b with
  | true =>
    have e1 : addL a b = limbs (val a + val b) := by simp [addL, h]
    have e2 : err2 a b = 0 := by simp [err2, h]
    rw [e1, e2]
    exact (add_ok A A2 na ca nb cb a b w hra hrb (by omega) (by omega) (by rw [both_all, h]))
  | false =>
    have e1 : addL a b = [] := by simp [addL, h]
    have e2 : err2 a b = 8 := by simp [err2, h]
    rw [e1, e2]
    refine (add_bad A A2 na ca nb cb a b w hra hrb (by omega) (by omega) (by rw [both_all, h])).mono ?_
    rintro e w' ⟨rfl, hb⟩
    exact answers_nil hb
theorem sub_spec (hra : Rd w A na a) (hrb : Rd w A2 nb b) (hna : na ≤ 1000) (hnb : nb ≤ 1000) :
    Calls Tryz.prog 129 #[.slice A na ca, .slice A2 nb cb] w (Answers w (subL a b) (subE a b)) := by
  cases h : both a b with
  | true =>
    by_cases hl : val a < val b
    · have e1 : subL a b = [] := by simp [subL, h, hl]
      have e2 : subE a b = 10 := by simp [subE, h, hl]
      rw [e1, e2]
      refine (sub_less A A2 na ca nb cb a b w hra hrb (by omega) (by omega) (by rw [both_all, h]) hl).mono ?_
      rintro e w' ⟨rfl, hb⟩
      exact answers_nil hb
    · have e1 : subL a b = limbs (val a - val b) := by simp [subL, h, hl]
      have e2 : subE a b = 0 := by simp [subE, h, hl]
      rw [e1, e2]
      exact (sub_ok A A2 na ca nb cb a b w hra hrb (by omega) (by omega) (by rw [both_all, h]) (by omega))
  | false =>
    have e1 : subL a b = [] := by simp [subL, h]
    have e2 : subE a b = 8 := by simp [subE, h]
    rw [e1, e2]
    refine (sub_bad A A2 na ca nb cb a b w hra hrb (by omega) (by omega) (by rw [both_all, h])).mono ?_
    rintro e w' ⟨rfl, hb⟩
    exact answers_nil hb
theorem up_spec (i : Int) (hra : Rd w A na a) (hna : na ≤ 1000) :
    Calls Tryz.prog 150 #[.slice A na ca, .int .i64 i] w (Answers w (upL a i) (shiftE a i)) := by
  cases h : may a with
  | true =>
    by_cases h1 : i < 0 ∨ 65536 < i
    · have e1 : upL a i = [] := by simp [upL, h, h1]
      have e2 : shiftE a i = 2 := by simp [shiftE, h, h1]
      rw [e1, e2]
      refine (up_arg A na ca a i w hra (by omega) h h1).mono ?_
      rintro e w' ⟨rfl, hb⟩
      exact answers_nil hb
    · obtain ⟨k, rfl⟩ := Int.eq_ofNat_of_zero_le (show 0 ≤ i by omega)
      have e1 : upL a (k : Int) = limbs (val a * 2 ^ k) := by unfold upL; rw [if_pos h, if_neg h1, Int.toNat_natCast]
      have e2 : shiftE a (k : Int) = 0 := by unfold shiftE; rw [if_pos h, if_neg h1]
      rw [e1, e2]
      exact up_ok A na ca a k _ _ w hra (by omega) h (by omega) rfl rfl
  | false =>
    have e1 : upL a i = [] := by simp [upL, h]
    have e2 : shiftE a i = 8 := by simp [shiftE, h]
    rw [e1, e2]
    refine (up_bad A na ca a i w hra (by omega) h).mono ?_
    rintro e w' ⟨rfl, hb⟩
    exact answers_nil hb
theorem down_spec (i : Int) (hra : Rd w A na a) (hna : na ≤ 1000) :
    Calls Tryz.prog 141 #[.slice A na ca, .int .i64 i] w (Answers w (downL a i) (shiftE a i)) := by
  cases h : may a with
  | true =>
    by_cases h1 : i < 0 ∨ 65536 < i
    · have e1 : downL a i = [] := by simp [downL, h, h1]
      have e2 : shiftE a i = 2 := by simp [shiftE, h, h1]
      rw [e1, e2]
      refine (down_arg A na ca a i w hra (by omega) h h1).mono ?_
      rintro e w' ⟨rfl, hb⟩
      exact answers_nil hb
    · obtain ⟨k, rfl⟩ := Int.eq_ofNat_of_zero_le (show 0 ≤ i by omega)
      have e1 : downL a (k : Int) = limbs (val a / 2 ^ k) := by unfold downL; rw [if_pos h, if_neg h1, Int.toNat_natCast]
      have e2 : shiftE a (k : Int) = 0 := by unfold shiftE; rw [if_pos h, if_neg h1]
      rw [e1, e2]
      exact down_ok A na ca a k _ _ w hra (by omega) h (by omega) rfl rfl
  | false =>
    have e1 : downL a i = [] := by simp [downL, h]
    have e2 : shiftE a i = 8 := by simp [shiftE, h]
    rw [e1, e2]
    refine (down_bad A na ca a i w hra (by omega) h).mono ?_
    rintro e w' ⟨rfl, hb⟩
    exact answers_nil hb

/-! ### The document's -/

set_option maxRecDepth 100000 in
set_option maxHeartbeats 1000000 in
theorem rDown_spec (i : Int) (hra : Rd w A na a) (hna : na ≤ 1000) :
    Calls Tryz.prog 122 #[.slice A na ca, .int .i64 i] w (Answers w (downL a i) (shiftE a i)) := by
  have hl := hra.len
  cases h : may a with
  | false =>
    have H1 := Lib.hid h
    clear h
    go_enter Tryz.func122, Tryz.ntmps122
    go_wp2_with (go_at_call_of 77 (Value.slice A na ca); refine (rMay_any A na ca a _ hra (by omega)).mono ?_; rw [H1.out]; rintro e w1 ⟨rfl, rfl⟩)
    go_ret2
    rw [show downL a i = [] by { simp [downL, H1.out] }, show shiftE a i = 8 by { simp [shiftE, H1.out] }]; exact answers_nil (Below.refl _ _)
  | true =>
    have H1 := Lib.hid h
    clear h
    by_cases h1 : i < 0 ∨ 65536 < i
    · by_cases h2 : i < 0
      · go_enter Tryz.func122, Tryz.ntmps122
        go_wp2_with (go_at_call_of 77 (Value.slice A na ca); refine (rMay_any A na ca a _ hra (by omega)).mono ?_; rw [H1.out]; rintro e w1 ⟨rfl, rfl⟩)
        go_ret2
        rw [show downL a i = [] by { simp [downL, h1] }, show shiftE a i = 2 by { simp [shiftE, h1, H1.out] }]; exact answers_nil (Below.refl _ _)
      · have h3 : 65536 < i := by omega
        go_enter Tryz.func122, Tryz.ntmps122
        go_wp2_with (go_at_call_of 77 (Value.slice A na ca); refine (rMay_any A na ca a _ hra (by omega)).mono ?_; rw [H1.out]; rintro e w1 ⟨rfl, rfl⟩)
        go_ret2
        rw [show downL a i = [] by { simp [downL, h3] }, show shiftE a i = 2 by { simp [shiftE, h3, H1.out] }]; exact answers_nil (Below.refl _ _)
    · obtain ⟨k, rfl⟩ := Int.eq_ofNat_of_zero_le (show 0 ≤ i by omega)
      have hv : downL a (k : Int) = limbs (val a / 2 ^ k) := by unfold downL; rw [if_pos H1.out, if_neg h1, Int.toNat_natCast]
      have he : shiftE a (k : Int) = 0 := by unfold shiftE; rw [if_pos H1.out, if_neg h1]
      rw [hv, he]
      exact rDown_ok A na ca a w k hra hna (by omega) H1.out
end
end Go.Proofs.YtgiokmfdafmaoaaGreat

/- The document's quotient: of words, or bit by bit. -/
namespace Go.Proofs.YtgiokmfdafmaoaaGreat
open Go.RowKit Go.Shelf
set_option linter.unusedVariables false
set_option linter.unusedSimpArgs false

/-! ### Rows of bits of the call's own, set in place -/
theorem owni_at {w : World} {B n c : Nat} {A : Option Addr} {l : List Nat} (h : OwnI w B (.slice A n c) l) (hn : 0 < n) : ∃ g, A = some ⟨g, 0, none⟩ ∧ B ≤ g ∧ g < w.heap.size := by
  rcases h.1.2 with ⟨e, h0⟩ | ⟨g, cap, cur, e, hg, hh, r⟩
  · cases e; omega
  · cases e
    exact ⟨g, rfl, hg, (Array.getElem?_eq_some_iff.1 hh).1⟩
theorem owni_cell {w : World} {B g n c : Nat} {l : List Nat} (h : OwnI w B (.slice (some ⟨g, 0, none⟩) n c) l) {i : Nat} (hi : i < n) : w.cell? ⟨g, i, none⟩ = some (i64n (lim l i)) ∧ w.frozen? ⟨g, i, none⟩ = false := by
  obtain ⟨A, c', e, hr, _, _⟩ := h.form
  cases e
  obtain ⟨b, off, e, hlt, hc⟩ := hr.cells (by omega)
  cases e
  refine ⟨by simpa using hc i hi, ?_⟩
  rcases h.1.2 with ⟨e, _⟩ | ⟨g', cap, cur, e, hg, hh, _⟩
  · cases e
  · cases e
    simp [World.frozen?, hh]
theorem bits_set {l : List Nat} (h : Bits l) {i v : Nat} (hv : v ≤ 1) : Bits (l.set i v) := fun y hy => by
  rcases List.mem_or_eq_of_mem_set hy with hy | rfl
  · exact h y hy
  · exact hv
theorem owni_set {w : World} {B g n c : Nat} {l : List Nat} (h : OwnI w B (.slice (some ⟨g, 0, none⟩) n c) l) {i v : Nat} (hv : v ≤ 1) : OwnI (w.setCell ⟨g, i, none⟩ (i64n v)) B (.slice (some ⟨g, 0, none⟩) n c) (l.set i v) := by
  refine ⟨⟨by simp, ?_⟩, bits_set h.2 hv⟩
  rcases h.1.2 with ⟨e, _⟩ | ⟨g', cap, cur, e, hg, hh, hnc, hc, hs, ht⟩
  · cases e
  · cases e
    refine .inr ⟨g, c, cur.setIfInBounds i (i64n v), by simp, hg, ?_, by simpa using hnc, hc, by simpa using hs, ?_⟩
    · simp [World.setCell, Array.getElem?_modify, hh]
    · rw [List.map_set, ← ht]
      simp [List.take_set]
theorem cell_lt {w : World} {p : Addr} {u : Value} (h : w.cell? p = some u) : p.block < w.heap.size := by
  unfold World.cell? at h
  cases ho : w.heap[p.block]? with
  | none => simp [ho] at h
  | some o => exact (Array.getElem?_eq_some_iff.1 ho).1
/-- What is owned from a block on is kept by stores below. -/
theorem own_far {w : World} {B : Nat} {v : Value} {l : List Nat} (h : Own w B v l) {p : Addr} (hp : p.block < B) (u : Value) : Own (w.setCell p u) B v l := by
  refine ⟨⟨h.1.1, ?_⟩, h.2⟩
  rcases h.1.2 with h2 | ⟨g, cap, cur, e, hg, hh, r⟩
  · exact .inl h2
  · exact .inr ⟨g, cap, cur, e, hg, (Below.heap_setCell w p u g (by omega)).trans hh, r⟩
theorem bval_set {l : List Nat} {i : Nat} (hi : i < l.length) (h0 : lim l i = 0) : bval (l.set i 1) = bval l + 2 ^ i := by
  induction l generalizing i with
  | nil => simp at hi
  | cons x r ih =>
    cases i with
    | zero =>
      have e : x = 0 := by simpa [lim] using h0
      subst e
      simp [bval]; omega
    | succ i =>
      have h := ih (i := i) (by simpa using hi) (by simpa [lim] using h0)
      rw [List.set_cons_succ, bval, bval, h, Nat.pow_succ]
      omega

/-! ### Quotients bit by bit -/
theorem div_of {n b k r : Nat} (hb : r < b) (h : n = r + b * k) : n / b = k ∧ n % b = r := by
  subst h
  have h0 : 0 < b := by omega
  exact ⟨by rw [Nat.add_mul_div_left _ _ h0, Nat.div_eq_of_lt hb, Nat.zero_add], by rw [Nat.add_mul_mod_self_left, Nat.mod_eq_of_lt hb]⟩
theorem over_step {V b j q r t : Nat} (hb : 0 < b) (hq : V / 2 ^ (j + 1) / b = q) (hr : V / 2 ^ (j + 1) % b = r) (ht : nbit V j = t) :
    (r * 2 + t < b → V / 2 ^ j / b = 2 * q ∧ V / 2 ^ j % b = r * 2 + t) ∧ (b ≤ r * 2 + t → V / 2 ^ j / b = 2 * q + 1 ∧ V / 2 ^ j % b = r * 2 + t - b) := by
  have e := div_bit V j
  have h1 := Nat.mod_add_div (V / 2 ^ (j + 1)) b
  rw [hq, hr] at h1
  rw [ht, ← h1] at e
  have hrb : r < b := by rw [← hr]; exact Nat.mod_lt _ hb
  have ht1 : t ≤ 1 := by have := nbit_two V j; omega
  have e2 : b * (2 * q) = 2 * (b * q) := Nat.mul_left_comm _ _ _
  have e3 : b * (2 * q + 1) = 2 * (b * q) + b := by rw [Nat.mul_add, e2, Nat.mul_one]
  constructor
  · intro h
    exact div_of h (by rw [e, e2]; omega)
  · intro h
    exact div_of (by omega) (by rw [e, e3]; omega)
-- WALKS
/-- Nothing of a number stands from its length on. -/
structure V_zero (v M b : Nat) : Prop where
  out : v / 2 ^ M = 0
theorem double_lt {r b n t : Nat} (h : r < b) (hb : b < B64 ^ n) (ht : t ≤ 1) : r * 2 ^ 1 + t < B64 ^ (n + 1) := by
  rw [Nat.pow_one, Nat.pow_succ]
  have h2 : B64 ^ n * 2 ≤ B64 ^ n * B64 := Nat.mul_le_mul_left _ B64_gt
  omega

theorem one_val : val [1] = 1 := by simp [val]
theorem cmp3_ge {x y : Nat} (h : y ≤ x) : cmp3 x y = 0 ∨ cmp3 x y = 1 := by
  rcases Nat.eq_or_lt_of_le h with rfl | h
  · exact .inl (cmp3_self _)
  · exact .inr (cmp3_gt h)

section
variable (A A2 : Option Addr) (na ca nb cb : Nat) (a : List Nat) (b : Nat) (w : World)

set_option maxRecDepth 100000 in
set_option maxHeartbeats 4000000 in
theorem over_bits (hra : Rd w A na a) (hrb : Rd w A2 nb (limbs b)) (hna : na ≤ 900) (hnb : nb ≤ 900) (hb0 : 0 < b) (hs : ((na : Int) == 1) = false ∨ (((na : Int) == 1) = true ∧ ((nb : Int) == 1) = false)) :
    Calls Tryz.prog 79 #[.slice A na ca, .slice A2 nb cb] w fun e w' => ∃ A' k c A3 k3 c3, e = .returned (.tuple #[.slice A' k c, .slice A3 k3 c3]) ∧ Own w' w.heap.size (.slice A' k c) (limbs (val a / b)) ∧ Own w' w.heap.size (.slice A3 k3 c3) (limbs (val a % b)) ∧ Below w.heap.size w w' := by
  have hva : val a < 2 ^ (64 * na) := val_lt_bits hra.words (by rw [hra.len]; omega)
  have hblt : b < B64 ^ nb := by have := val_lt (words_limbs b); rwa [val_limbs, hrb.len] at this
  obtain ⟨M, hM⟩ : ∃ M, 64 * na = M := ⟨_, rfl⟩
  rw [hM] at hva
  have hM1 : M ≤ 57600 := by omega
  have w1 : 64 * (na : Int) = (M : Int) := by omega
  have w2 : IntKind.i64.wrap (64 * (na : Int)) = (M : Int) := by rw [IntKind.wrap_i64]; omega
  have w3 : wrap64 (64 * (na : Int)) = (M : Int) := by rw [w1]; exact IntWalk.wrap64_in _ ⟨by omega, by omega⟩
  have hmk := fun W => run_make_row' (P := Tryz.prog) 67 3 (.int .i64 0) 8 Tryz.underlying67 int_info rfl .i64 .i64 M (by omega) (by omega) W
  have hz := owni_zeros w M (by simp only [maxLen]; omega)
  have hB2 := (Below.refl w.heap.size w).alloc (Nat.le_refl _) (.cells (madeCells #[.int .i64 0] M) 3)
  have HVA := Lib.hid hva
  have HBL := Lib.hid hblt
  have HW := Lib.hid hM
  clear hva hblt hM
  have hgz : w.heap.size + 1 ≤ (w.alloc (.cells (madeCells #[.int .i64 0] M) 3)).heap.size := by simp
  have hzr : V_zero (val a) M b := ⟨Nat.div_eq_of_lt HVA.out⟩
  rcases hs with hs1 | ⟨hs1, hs2⟩
  all_goals
    go_enter Tryz.func79, Tryz.ntmps79
    go_wp2
    clear hmk w1 w2 w3 hs1
    try clear hs2
    generalize hW2 : w.alloc (.cells (madeCells #[.int .i64 0] M) 3) = w2 at *
    clear hW2
    go_loopw [6, 9] (fun s i wr => ∃ (k : Nat) (L : List Nat) (A1 : Option Addr) (n1 c1 : Nat), k ≤ M ∧ s = .slice A1 n1 c1 ∧ i = .int .i64 ((k : Int) - 1) ∧ OwnI wr w.heap.size (.slice (some ⟨w.heap.size, 0, none⟩) M M) L ∧ L.length = M ∧ bval L = 2 ^ k * (val a / 2 ^ k / b) ∧ (∀ s, s < k → lim L s = 0) ∧ Own wr (w.heap.size + 1) (.slice A1 n1 c1) (limbs (val a / 2 ^ k % b)) ∧ Below w.heap.size w wr ∧ w.heap.size + 1 ≤ wr.heap.size) (fun _ i _ => (intOf i + 1).toNat)
    case atStart => exact ⟨M, List.replicate M 0, none, 0, 0, Nat.le_refl _, rfl, by go_num, hz, by simp, by rw [bval_zeros, hzr.out]; simp, fun s _ => by simp [lim, List.getD_eq_getElem?_getD, List.getElem?_replicate]; split <;> rfl, by rw [hzr.out, Nat.zero_mod, limbs_zero]; exact own_nil _ _, hB2, hgz⟩
    case round =>
      obtain ⟨k, L, A1, n1, c1, hk, rfl, rfl, hI, hLn, hbv, hzz, ho, hB, hgw⟩ := hrel
      clear hz hB2 hgz hzr
      obtain rfl | ⟨j, rfl⟩ : k = 0 ∨ ∃ j, k = j + 1 := by
        cases k with
        | zero => exact .inl rfl
        | succ j => exact .inr ⟨j, rfl⟩
      · rw [Nat.pow_zero, Nat.div_one, Nat.one_mul] at hbv
        rw [Nat.pow_zero, Nat.div_one] at ho
        obtain ⟨A6, c6, e6, hrI, _, _⟩ := hI.form
        rw [hLn] at e6 hrI
        cases e6
        have HO := Lib.hid ho
        have HBV := Lib.hid hbv
        have hsz := hB.size
        clear ho hbv hzz hI hLn
        go_wp2_with fail
        refine (from_any _ M M L _ hrI (by omega)).mono ?_
        rw [HBV.out]
        rintro e w5 ⟨A5, n5, c5, rfl, o5, hb5⟩
        have HO5 := Lib.hid (own_mono o5 hsz)
        have HO6 := Lib.hid (own_mono (HO.out.below hb5) (Nat.le_succ _))
        have hB5 := below_then hB hb5
        clear o5
        go_wp2_with fail
        go_ret2
        exact ⟨_, _, _, _, _, _, rfl, HO5.out, HO6.out, hB5⟩
      · rw [show (((j + 1 : Nat) : Int) - 1) = (j : Int) by omega]
        obtain ⟨q, hq⟩ : ∃ q, val a / 2 ^ (j + 1) / b = q := ⟨_, rfl⟩
        obtain ⟨r, hr⟩ : ∃ r, val a / 2 ^ (j + 1) % b = r := ⟨_, rfl⟩
        obtain ⟨t, ht⟩ : ∃ t, nbit (val a) j = t := ⟨_, rfl⟩
        have hst := over_step hb0 hq hr ht
        have hrb0 : r < b := by rw [← hr]; exact Nat.mod_lt _ hb0
        have ht2 : t = 0 ∨ t = 1 := by have := nbit_two (val a) j; omega
        rw [hq] at hbv
        rw [hr] at ho
        have hr1 := ho.rd.1
        have hn1 : n1 ≤ nb := by have h1 := ho.rd.2.1; have h2 := limbs_length_le (Nat.lt_trans hrb0 HBL.out); omega
        have hl2 : (limbs (r * 2 ^ 1)).length ≤ nb + 1 := limbs_length_le (double_lt hrb0 HBL.out (Nat.zero_le _))
        have hl3 : (limbs (r * 2 ^ 1 + 1)).length ≤ nb + 1 := limbs_length_le (double_lt hrb0 HBL.out (Nat.le_refl _))
        have hra2 := hra.below hB
        have hrb2 := hrb.below hB
        have HI := Lib.hid hI
        have HLN := Lib.hid hLn
        have HZ := Lib.hid hzz
        have HT := Lib.hid ht
        have HL2 := Lib.hid hl2
        have HL3 := Lib.hid hl3
        have hj : j < M := by omega
        have hz0 := hzz j (by omega)
        have hgw2 : w.heap.size + 1 ≤ wr.heap.size := hgw
        clear hq hr ht hI hLn hzz ho hl2 hl3
        rcases ht2 with rfl | rfl

        · rcases Nat.lt_or_ge (r * 2 + 0) b with hlt | hge
          · obtain ⟨hnv, hnr⟩ := hst.1 hlt
            rw [Nat.add_zero] at hnr hlt
            have hbn : bval L = 2 ^ j * (val a / 2 ^ j / b) := by rw [hbv, hnv, Nat.pow_succ, Nat.mul_assoc]
            have hnr2 : val a / 2 ^ j % b = r * 2 ^ 1 := by rw [Nat.pow_one]; exact hnr
            have HNV := Lib.hid hbn
            have HNR := Lib.hid hnr2
            have HC : Hid (cmp3 (r * 2 ^ 1) b = -1) := cmp3_lt (by rw [Nat.pow_one]; exact hlt)
            clear hst hnv hnr hbn hnr2 hbv hz0 hlt hrb0
            go_wp2_with fail
            refine (rTimes_any A1 n1 c1 (limbs r) _ 1 hr1 (by omega) (by omega)).mono ?_
            rw [val_limbs]
            rintro e w3 ⟨A3, n3, c3, rfl, o3, hb3⟩
            have l3 : n3 ≤ 902 := by have h1 := o3.rd.2.1; have h2 := HL2.out; omega
            have hra3 := hra2.below hb3
            have hrb3 := hrb2.below hb3
            have hI3 := HI.out.below hb3
            replace o3 := own_mono o3 hgw
            have hB3 := below_then hB hb3
            have hg3 := Nat.le_trans hgw hb3.size
            clear hb3 hr1
            go_wp2_with fail
            refine (rAt_any A na ca a _ j hra3 (by omega) (by omega)).mono ?_
            rw [HT.out]
            rintro e wq ⟨rfl, rfl⟩
            go_wp2_with fail
            refine (rCompared_any A3 A2 n3 c3 nb cb (limbs (r * 2 ^ 1)) (limbs b) _ o3.rd.1 hrb3 (by omega) (by omega)).mono ?_
            rw [val_limbs, val_limbs, HC.out]
            rintro e wq ⟨rfl, rfl⟩
            have HO := Lib.hid o3
            have HI3 := Lib.hid hI3
            clear o3 hI3 hra3 hrb3
            go_wp2_with fail
            go_roundw
            case rel => exact ⟨j, L, A3, n3, c3, by omega, rfl, by go_num, HI3.out, HLN.out, HNV.out, fun s hs => HZ.out s (by omega), by rw [HNR.out]; exact HO.out, hB3, hg3⟩
            case measure => first | (simp [intOf]; done) | (simp [intOf]; omega)
          · obtain ⟨hnv, hnr⟩ := hst.2 hge
            rw [Nat.add_zero] at hnr hge
            have hbn : bval (L.set j 1) = 2 ^ j * (val a / 2 ^ j / b) := by rw [bval_set (by rw [HLN.out]; exact hj) hz0, hbv, hnv, Nat.pow_succ, Nat.mul_add, Nat.mul_one, Nat.mul_assoc]
            have HGE : Hid (b ≤ r * 2 ^ 1) := by show b ≤ r * 2 ^ 1; rw [Nat.pow_one]; exact hge
            have hnr2 : val a / 2 ^ j % b = r * 2 ^ 1 - b := by rw [Nat.pow_one]; exact hnr
            have HNV := Lib.hid hbn
            have HNR := Lib.hid hnr2
            rcases cmp3_ge HGE.out with hcm | hcm
            all_goals
              have HC := Lib.hid hcm
              clear hcm hst hnv hnr hbn hnr2 hbv hz0 hge hrb0
              go_wp2_with fail
              refine (rTimes_any A1 n1 c1 (limbs r) _ 1 hr1 (by omega) (by omega)).mono ?_
              rw [val_limbs]
              rintro e w3 ⟨A3, n3, c3, rfl, o3, hb3⟩
              have l3 : n3 ≤ 902 := by have h1 := o3.rd.2.1; have h2 := HL2.out; omega
              have hra3 := hra2.below hb3
              have hrb3 := hrb2.below hb3
              have hI3 := HI.out.below hb3
              replace o3 := own_mono o3 hgw
              have hB3 := below_then hB hb3
              have hg3 := Nat.le_trans hgw hb3.size
              clear hb3 hr1
              go_wp2_with fail
              refine (rAt_any A na ca a _ j hra3 (by omega) (by omega)).mono ?_
              rw [HT.out]
              rintro e wq ⟨rfl, rfl⟩
              go_wp2_with fail
              refine (rCompared_any A3 A2 n3 c3 nb cb (limbs (r * 2 ^ 1)) (limbs b) _ o3.rd.1 hrb3 (by omega) (by omega)).mono ?_
              rw [val_limbs, val_limbs, HC.out]
              rintro e wq ⟨rfl, rfl⟩
              go_wp2_with fail
              refine (rRest_any A3 A2 n3 c3 nb cb (limbs (r * 2 ^ 1)) (limbs b) _ o3.rd.1 hrb3 (by omega) (by omega) (by rw [val_limbs, val_limbs]; exact HGE.out)).mono ?_
              rw [val_limbs, val_limbs]
              rintro e w5 ⟨A5, n5, c5, rfl, o5, hb5⟩
              replace hI3 := hI3.below hb5
              have hB5 := below_then hB3 hb5
              have hg5 := Nat.le_trans hg3 hb5.size
              replace o5 := own_mono o5 hg3
              have hc := (owni_cell hI3 (i := j) (by omega)).1
              have hf := (owni_cell hI3 (i := j) (by omega)).2
              have HO5 := Lib.hid o5
              have HI3 := Lib.hid hI3
              clear o5 hI3 hb5 o3 hra3 hrb3 hB3 hg3
              go_wp2_with fail
              go_roundw
              case rel => exact ⟨j, L.set j 1, A5, n5, c5, by omega, rfl, by go_num, owni_set (v := 1) HI3.out (Nat.le_refl _), by rw [List.length_set]; exact HLN.out, HNV.out, fun s hs => by rw [lim_set (by rw [HLN.out]; omega), if_neg (by omega)]; exact HZ.out s (by omega), by rw [HNR.out]; exact own_far HO5.out (Nat.lt_succ_self _) _, hB5.setCell (p := ⟨w.heap.size, j, none⟩) (Nat.le_refl _) _, by rw [World.size_setCell]; exact hg5⟩
              case measure => first | (simp [intOf]; done) | (simp [intOf]; omega)
        · rcases Nat.lt_or_ge (r * 2 + 1) b with hlt | hge
          · obtain ⟨hnv, hnr⟩ := hst.1 hlt
            have hbn : bval L = 2 ^ j * (val a / 2 ^ j / b) := by rw [hbv, hnv, Nat.pow_succ, Nat.mul_assoc]
            have hnr2 : val a / 2 ^ j % b = r * 2 ^ 1 + 1 := by rw [Nat.pow_one]; exact hnr
            have HNV := Lib.hid hbn
            have HNR := Lib.hid hnr2
            have HC : Hid (cmp3 (r * 2 ^ 1 + 1) b = -1) := cmp3_lt (by rw [Nat.pow_one]; exact hlt)
            clear hst hnv hnr hbn hnr2 hbv hz0 hlt hrb0
            go_wp2_with fail
            refine (rTimes_any A1 n1 c1 (limbs r) _ 1 hr1 (by omega) (by omega)).mono ?_
            rw [val_limbs]
            rintro e w3 ⟨A3, n3, c3, rfl, o3, hb3⟩
            have l3 : n3 ≤ 902 := by have h1 := o3.rd.2.1; have h2 := HL2.out; omega
            have hra3 := hra2.below hb3
            have hrb3 := hrb2.below hb3
            have hI3 := HI.out.below hb3
            replace o3 := own_mono o3 hgw
            have hB3 := below_then hB hb3
            have hg3 := Nat.le_trans hgw hb3.size
            clear hb3 hr1
            go_wp2_with fail
            refine (rAt_any A na ca a _ j hra3 (by omega) (by omega)).mono ?_
            rw [HT.out]
            rintro e wq ⟨rfl, rfl⟩
            go_wp2_with fail
            refine (rSum_any A3 _ n3 c3 1 1 (limbs (r * 2 ^ 1)) [1] _ (o3.rd.1.alloc _) (rd_new1 _ 1 _ B64_gt) (by omega) (by omega)).mono ?_
            rw [val_limbs, one_val]
            rintro e w4 ⟨A4, n4, c4, rfl, o4, hb4⟩
            have l4 : n4 ≤ 902 := by have h1 := o4.rd.2.1; have h2 := HL3.out; omega
            replace hb4 := below_new hb4
            replace hra3 := hra3.below hb4
            replace hrb3 := hrb3.below hb4
            replace hI3 := hI3.below hb4
            have hB4 := below_then hB3 hb4
            have hg4 := Nat.le_trans hg3 hb4.size
            replace o4 := own_mono o4 (show w.heap.size + 1 ≤ _ by rw [World.size_alloc]; omega)
            clear hb4 o3 l3 hB3 hg3
            go_wp2_with fail
            refine (rCompared_any A4 A2 n4 c4 nb cb (limbs (r * 2 ^ 1 + 1)) (limbs b) _ o4.rd.1 hrb3 (by omega) (by omega)).mono ?_
            rw [val_limbs, val_limbs, HC.out]
            rintro e wq ⟨rfl, rfl⟩
            have HO := Lib.hid o4
            have HI3 := Lib.hid hI3
            clear o4 hI3 hra3 hrb3
            go_wp2_with fail
            go_roundw
            case rel => exact ⟨j, L, A4, n4, c4, by omega, rfl, by go_num, HI3.out, HLN.out, HNV.out, fun s hs => HZ.out s (by omega), by rw [HNR.out]; exact HO.out, hB4, hg4⟩
            case measure => first | (simp [intOf]; done) | (simp [intOf]; omega)
          · obtain ⟨hnv, hnr⟩ := hst.2 hge
            have hbn : bval (L.set j 1) = 2 ^ j * (val a / 2 ^ j / b) := by rw [bval_set (by rw [HLN.out]; exact hj) hz0, hbv, hnv, Nat.pow_succ, Nat.mul_add, Nat.mul_one, Nat.mul_assoc]
            have HGE : Hid (b ≤ r * 2 ^ 1 + 1) := by show b ≤ r * 2 ^ 1 + 1; rw [Nat.pow_one]; exact hge
            have hnr2 : val a / 2 ^ j % b = r * 2 ^ 1 + 1 - b := by rw [Nat.pow_one]; exact hnr
            have HNV := Lib.hid hbn
            have HNR := Lib.hid hnr2
            rcases cmp3_ge HGE.out with hcm | hcm
            all_goals
              have HC := Lib.hid hcm
              clear hcm hst hnv hnr hbn hnr2 hbv hz0 hge hrb0
              go_wp2_with fail
              refine (rTimes_any A1 n1 c1 (limbs r) _ 1 hr1 (by omega) (by omega)).mono ?_
              rw [val_limbs]
              rintro e w3 ⟨A3, n3, c3, rfl, o3, hb3⟩
              have l3 : n3 ≤ 902 := by have h1 := o3.rd.2.1; have h2 := HL2.out; omega
              have hra3 := hra2.below hb3
              have hrb3 := hrb2.below hb3
              have hI3 := HI.out.below hb3
              replace o3 := own_mono o3 hgw
              have hB3 := below_then hB hb3
              have hg3 := Nat.le_trans hgw hb3.size
              clear hb3 hr1
              go_wp2_with fail
              refine (rAt_any A na ca a _ j hra3 (by omega) (by omega)).mono ?_
              rw [HT.out]
              rintro e wq ⟨rfl, rfl⟩
              go_wp2_with fail
              refine (rSum_any A3 _ n3 c3 1 1 (limbs (r * 2 ^ 1)) [1] _ (o3.rd.1.alloc _) (rd_new1 _ 1 _ B64_gt) (by omega) (by omega)).mono ?_
              rw [val_limbs, one_val]
              rintro e w4 ⟨A4, n4, c4, rfl, o4, hb4⟩
              have l4 : n4 ≤ 902 := by have h1 := o4.rd.2.1; have h2 := HL3.out; omega
              replace hb4 := below_new hb4
              replace hra3 := hra3.below hb4
              replace hrb3 := hrb3.below hb4
              replace hI3 := hI3.below hb4
              have hB4 := below_then hB3 hb4
              have hg4 := Nat.le_trans hg3 hb4.size
              replace o4 := own_mono o4 (show w.heap.size + 1 ≤ _ by rw [World.size_alloc]; omega)
              clear hb4 o3 l3 hB3 hg3
              go_wp2_with fail
              refine (rCompared_any A4 A2 n4 c4 nb cb (limbs (r * 2 ^ 1 + 1)) (limbs b) _ o4.rd.1 hrb3 (by omega) (by omega)).mono ?_
              rw [val_limbs, val_limbs, HC.out]
              rintro e wq ⟨rfl, rfl⟩
              go_wp2_with fail
              refine (rRest_any A4 A2 n4 c4 nb cb (limbs (r * 2 ^ 1 + 1)) (limbs b) _ o4.rd.1 hrb3 (by omega) (by omega) (by rw [val_limbs, val_limbs]; exact HGE.out)).mono ?_
              rw [val_limbs, val_limbs]
              rintro e w5 ⟨A5, n5, c5, rfl, o5, hb5⟩
              replace hI3 := hI3.below hb5
              have hB5 := below_then hB4 hb5
              have hg5 := Nat.le_trans hg4 hb5.size
              replace o5 := own_mono o5 hg4
              have hc := (owni_cell hI3 (i := j) (by omega)).1
              have hf := (owni_cell hI3 (i := j) (by omega)).2
              have HO5 := Lib.hid o5
              have HI3 := Lib.hid hI3
              clear o5 hI3 hb5 o4 hra3 hrb3 hB4 hg4
              go_wp2_with fail
              go_roundw
              case rel => exact ⟨j, L.set j 1, A5, n5, c5, by omega, rfl, by go_num, owni_set (v := 1) HI3.out (Nat.le_refl _), by rw [List.length_set]; exact HLN.out, HNV.out, fun s hs => by rw [lim_set (by rw [HLN.out]; omega), if_neg (by omega)]; exact HZ.out s (by omega), by rw [HNR.out]; exact own_far HO5.out (Nat.lt_succ_self _) _, hB5.setCell (p := ⟨w.heap.size, j, none⟩) (Nat.le_refl _) _, by rw [World.size_setCell]; exact hg5⟩
              case measure => first | (simp [intOf]; done) | (simp [intOf]; omega)

theorem quo_word {x y q r : Nat} (hx : x < B64) (hq : x / y = q) (hr : x % y = r) : Int.tdiv (x : Int) (y : Int) = (q : Int) ∧ (x : Int) / (y : Int) = (q : Int) ∧ Int.tmod (x : Int) (y : Int) = (r : Int) ∧ (x : Int) % (y : Int) = (r : Int) ∧ IntKind.u64.wrap (q : Int) = (q : Int) ∧ IntKind.u64.wrap (r : Int) = (r : Int) ∧ q < B64 ∧ r < B64 := by
  have h1 : q < B64 := by rw [← hq]; exact Nat.lt_of_le_of_lt (Nat.div_le_self _ _) hx
  have h2 : r < B64 := by rw [← hr]; exact Nat.lt_of_le_of_lt (Nat.mod_le _ _) hx
  have e1 : (x : Int) / (y : Int) = (q : Int) := by rw [← hq]; simp
  have e2 : (x : Int) % (y : Int) = (r : Int) := by rw [← hr]; simp
  refine ⟨?_, e1, ?_, e2, ?_, ?_, h1, h2⟩
  · rw [Int.tdiv_eq_ediv_of_nonneg (by omega)]; exact e1
  · rw [Int.tmod_eq_emod_of_nonneg (by omega)]; exact e2
  · rw [IntKind.wrap_u64]; rw [B64_eq] at h1; omega
  · rw [IntKind.wrap_u64]; rw [B64_eq] at h2; omega

theorem rOf_keep (x : Nat) (hx : x < B64) (p p2 : Addr) (u u2 : Value) (h1 : w.cell? p = some u) (h2 : w.cell? p2 = some u2) :
    Calls Tryz.prog 76 #[.int .u64 (x : Int)] w fun e w' => ∃ A' k c, e = .returned (.slice A' k c) ∧ Own w' w.heap.size (.slice A' k c) (limbs x) ∧ Below w.heap.size w w' ∧ w'.cell? p = some u ∧ w'.cell? p2 = some u2 :=
  (rOf_any w x hx).mono fun e w' ⟨A', k, c, he, ho, hb⟩ => ⟨A', k, c, he, ho, hb, (hb.cell (cell_lt h1)).trans h1, (hb.cell (cell_lt h2)).trans h2⟩

set_option maxRecDepth 100000 in
set_option maxHeartbeats 4000000 in
theorem over_word (x y : Nat) (hra : Rd w A 1 [x]) (hrb : Rd w A2 1 [y]) (hy : y ≠ 0) :
    Calls Tryz.prog 79 #[.slice A 1 ca, .slice A2 1 cb] w fun e w' => ∃ A' k c A3 k3 c3, e = .returned (.tuple #[.slice A' k c, .slice A3 k3 c3]) ∧ Own w' w.heap.size (.slice A' k c) (limbs (x / y)) ∧ Own w' w.heap.size (.slice A3 k3 c3) (limbs (x % y)) ∧ Below w.heap.size w w' := by
  obtain ⟨b1, o1, rfl, hl1, hc1⟩ := hra.cells (by omega)
  obtain ⟨b2, o2, rfl, hl2, hc2⟩ := hrb.cells (by omega)
  have hcx : w.cell? ⟨b1, o1, none⟩ = some (u64 x) := hc1 0 (by omega)
  have hcy : w.cell? ⟨b2, o2, none⟩ = some (u64 y) := hc2 0 (by omega)
  obtain ⟨q, hq⟩ : ∃ q, x / y = q := ⟨_, rfl⟩
  obtain ⟨r, hr⟩ : ∃ r, x % y = r := ⟨_, rfl⟩
  obtain ⟨f1, f2, f3, f4, f5, f6, hq1, hr1⟩ := quo_word (hra.words.head) hq hr
  have hy1 : ¬ ((y : Int) = 0) := by omega
  have hy2 : ((y : Int) == 0) = false := by simp; omega
  rw [hq, hr]
  clear hc1 hc2 hra hrb hq hr
  go_enter Tryz.func79, Tryz.ntmps79
  go_wp2
  go_region_held3 (fun w' => w'.cell? ⟨b1, o1, none⟩ = some (u64 x) ∧ w'.cell? ⟨b2, o2, none⟩ = some (u64 y)) (go_keep)
    (first
      | (go_at_call_of 76 (Value.int IntKind.u64 (q : Int)); refine (rOf_keep _ q hq1 ⟨b1, o1, none⟩ ⟨b2, o2, none⟩ (u64 x) (u64 y) ?_ ?_).mono ?_; (simp [*]); (simp [*]); rintro e w3 ⟨A3, k3, c3, rfl, o3, hb3, s1, s2⟩)
      | (go_at_call_of 76 (Value.int IntKind.u64 (r : Int)); refine (rOf_keep _ r hr1 ⟨b1, o1, none⟩ ⟨b2, o2, none⟩ (u64 x) (u64 y) ?_ ?_).mono ?_; (simp [*]); (simp [*]); rintro e w4 ⟨A4, k4, c4, rfl, o4, hb4, s3, s4⟩))
  all_goals
    go_wp2
    go_ret2
    exact ⟨_, _, _, _, _, _, rfl, o3.below hb4, own_mono o4 hb3.size, (Below.refl w.heap.size w).drew.trans (below_then hb3 hb4)⟩
end
end Go.Proofs.YtgiokmfdafmaoaaGreat
