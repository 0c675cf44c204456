/- mul.Pow: powers, and what is refused. -/
import Derived.Test.YtmiobjkbcmicbaaPower
namespace Go.Proofs.Ytmiobjkbcmicbaa
open Go.RowKit Go.Shelf
set_option linter.unusedVariables false

theorem pow_fits {v n k N : Nat} (hb : n * blen v ≤ 65536) (hk : k ≤ n) (hN : 1025 ≤ N) : v ^ k < B64 ^ N := by
  have h1 : v ^ k ≤ (2 ^ blen v) ^ k := Nat.pow_le_pow_left (Nat.le_of_lt (blen_lt v)) k
  rw [← Nat.pow_mul] at h1
  have h2 : blen v * k ≤ 65536 := Nat.le_trans (by rw [Nat.mul_comm]; exact Nat.mul_le_mul_right _ hk) hb
  obtain ⟨M, hM⟩ : ∃ M, M = 1024 := ⟨_, rfl⟩
  have h3 : 2 ^ (blen v * k) ≤ B64 ^ M := pow_le_B64 (by omega)
  have h4 : B64 ^ M < B64 ^ N := Nat.pow_lt_pow_right B64_gt (by omega)
  exact Nat.lt_of_le_of_lt (Nat.le_trans h1 h3) h4
theorem nm_lt {w : World} {A : Option Addr} {n c v N : Nat} (h : Nm w A n c v) (hn : n ≤ N) : v < B64 ^ N := Nat.lt_of_lt_of_le h.lt (Nat.pow_le_pow_right B64_pos hn)

section
variable (A : Option Addr) (na ca : Nat) (w : World)

set_option maxHeartbeats 1000000 in
theorem powC_bad (a : List Nat) (n : Int) (hra : Rd w A na a) (hna : na ≤ 4294967296) (hm : may a = false) :
    Calls Try.prog 9 #[.slice A na ca, .int .i64 n] w fun e w' => e = .returned (.tuple #[.slice none 0 0, .int .i64 8]) ∧ Below w.heap.size w w' := by
  go_enter Try.func9, Try.ntmps9
  go_wp2_with (go_at_call 18; refine (long_bad A na ca a _ hra hna hm).mono ?_; rintro e w1 ⟨rfl, hb1⟩)
  go_ret2
  exact ⟨rfl, hb1⟩

set_option maxHeartbeats 1000000 in
theorem powC_arg (v : Nat) (n : Int) (hva : Nm w A na ca v) (hna : na ≤ 4294967296) (hn : n < 0 ∨ 1024 < n) :
    Calls Try.prog 9 #[.slice A na ca, .int .i64 n] w fun e w' => e = .returned (.tuple #[.slice none 0 0, .int .i64 2]) ∧ Below w.heap.size w w' := by
  have hra := hva.rd
  clear hva
  by_cases h0 : n < 0
  · go_enter Try.func9, Try.ntmps9
    go_wp2_with (go_at_call 18; refine (long_ok A na ca (limbs v) _ hra hna (may_limbs v)).mono ?_; rintro e w1 ⟨rfl, hb1⟩)
    go_ret2
    exact ⟨rfl, hb1⟩
  · have h1 : 1024 < n := by omega
    clear hn
    go_enter Try.func9, Try.ntmps9
    go_wp2_with (go_at_call 18; refine (long_ok A na ca (limbs v) _ hra hna (may_limbs v)).mono ?_; rintro e w1 ⟨rfl, hb1⟩)
    go_ret2
    exact ⟨rfl, hb1⟩

theorem quo_nat {n q : Nat} (h : 65536 / n = q) : Int.tdiv 65536 (n : Int) = (q : Int) := by
  rw [Int.tdiv_eq_ediv_of_nonneg (by omega), ← h]; rfl
theorem quo_wrap {n q : Nat} (h : 65536 / n = q) : wrap64 (q : Int) = (q : Int) := by
  have h1 : q ≤ 65536 := by rw [← h]; exact Nat.div_le_self _ _
  exact IntWalk.wrap64_in _ ⟨by omega, by omega⟩

set_option maxHeartbeats 1000000 in
theorem powC_many (v n : Nat) (hva : Nm w A na ca v) (hna : na ≤ 4294967296) (hn : 0 < n ∧ n ≤ 1024) (hb : 65536 < n * blen v) :
    Calls Try.prog 9 #[.slice A na ca, .int .i64 (n : Int)] w fun e w' => e = .returned (.tuple #[.slice none 0 0, .int .i64 4]) ∧ Below w.heap.size w w' := by
  have hra := hva.rd
  obtain ⟨q, hq⟩ : ∃ q, 65536 / n = q := ⟨_, rfl⟩
  have e := quo_nat hq
  have e2 := quo_wrap hq
  have hlt : q < blen v := by rw [← hq]; exact (Nat.div_lt_iff_lt_mul hn.1).2 (by rw [Nat.mul_comm]; exact hb)
  have hlt2 : ((q : Nat) : Int) < ((blen v : Nat) : Int) := by omega
  have h0 : ¬ ((n : Int) < 0) := by omega
  have h1 : ¬ ((1024 : Int) < (n : Int)) := by omega
  have h2 : (0 : Int) < (n : Int) := by omega
  have h3 : ¬ ((n : Int) = 0) := by omega
  clear hva hq hb hlt
  go_enter Try.func9, Try.ntmps9
  go_wp2_with (go_at_call 18; refine (long_ok A na ca (limbs v) _ hra hna (may_limbs v)).mono ?_; rw [val_limbs]; rintro e w1 ⟨rfl, hb1⟩)
  go_ret2
  exact ⟨rfl, hb1⟩

set_option maxHeartbeats 1000000 in
theorem powC_ok (v n N : Nat) (hva : Nm w A na ca v) (hna : na ≤ N) (hN : N ≤ 16777216) (hN2 : 1025 ≤ N) (hn : n ≤ 1024) (hb : n * blen v ≤ 65536) :
    Calls Try.prog 9 #[.slice A na ca, .int .i64 (n : Int)] w fun e w' => ∃ A' k c, e = .returned (.tuple #[.slice A' k c, .int .i64 0]) ∧ Own w' w.heap.size (.slice A' k c) (limbs (v ^ n)) ∧ Below w.heap.size w w' := by
  have hra := hva.rd
  have hv := nm_lt hva hna
  have hp : ∀ k, k ≤ n → v ^ k < B64 ^ N := fun k hk => pow_fits hb hk hN2
  have HV := Lib.hid hv
  have HP := Lib.hid hp
  have h0 : ¬ ((n : Int) < 0) := by omega
  have h1 : ¬ ((1024 : Int) < (n : Int)) := by omega
  clear hv hp
  by_cases hz : n = 0
  · subst hz
    clear h0 h1 hb
    go_enter Try.func9, Try.ntmps9
    go_wp2_with fail
    refine (long_ok A na ca (limbs v) _ hra (by omega) (may_limbs v)).mono ?_
    rw [val_limbs]
    rintro e w1 ⟨rfl, hb1⟩
    replace hva := hva.below hb1
    go_wp2_with fail
    refine (power_any A na ca v 0 N _ hva (by omega) hN HV.out HP.out).mono ?_
    rintro e w2 ⟨A3, k, c, rfl, o, hb2⟩
    replace o := own_mono o hb1.size
    replace hb2 := below_then hb1 hb2
    clear hb1
    go_wp2_with fail
    go_ret2
    exact ⟨_, _, _, rfl, o, hb2⟩
  · obtain ⟨q, hq⟩ : ∃ q, 65536 / n = q := ⟨_, rfl⟩
    have e := quo_nat hq
    have e2 := quo_wrap hq
    have hle : blen v ≤ q := by rw [← hq]; exact (Nat.le_div_iff_mul_le (by omega)).2 (by rw [Nat.mul_comm]; exact hb)
    have hle2 : ¬ (((q : Nat) : Int) < ((blen v : Nat) : Int)) := by omega
    have h2 : (0 : Int) < (n : Int) := by omega
    have h3 : ¬ ((n : Int) = 0) := by omega
    clear hq hle hb
    go_enter Try.func9, Try.ntmps9
    go_wp2_with fail
    refine (long_ok A na ca (limbs v) _ hra (by omega) (may_limbs v)).mono ?_
    rw [val_limbs]
    rintro e w1 ⟨rfl, hb1⟩
    replace hva := hva.below hb1
    go_wp2_with fail
    refine (power_any A na ca v n N _ hva (by omega) hN HV.out HP.out).mono ?_
    rintro e w2 ⟨A3, k, c, rfl, o, hb2⟩
    replace o := own_mono o hb1.size
    replace hb2 := below_then hb1 hb2
    clear hb1
    go_wp2_with fail
    go_ret2
    exact ⟨_, _, _, rfl, o, hb2⟩
end
end Go.Proofs.Ytmiobjkbcmicbaa
