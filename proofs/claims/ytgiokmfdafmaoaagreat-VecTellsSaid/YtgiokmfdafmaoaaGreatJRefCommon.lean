import Derived.Test.YtgiokmfdafmaoaaGreatJRefGcd
/- RefCommon. -/
/- The document's Common: walks. -/
namespace Go.Proofs.YtgiokmfdafmaoaaGreat
open Go.RowKit Go.Shelf
set_option linter.unusedVariables false
set_option linter.unusedSimpArgs false

/-- A word as a value. (Another name: the walk calls slot 64 'u64'.) -/
abbrev wv (x : Nat) : Value := .int .u64 (x : Int)

set_option maxRecDepth 100000 in
set_option maxHeartbeats 1000000 in
theorem rwords_any (x y : Nat) (hx : x < B64) (hy : y < B64) (w : World) :
    Calls Tryz.prog 98 #[wv x, wv y] w fun e w' => e = .returned (wv (Nat.gcd x y)) ∧ Below w.heap.size w w' := by
  go_enter Tryz.func98, Tryz.ntmps98
  go_wp2
  go_loopw [0, 1] (fun a b wr => ∃ p q : Nat, a = wv p ∧ b = wv q ∧ p < B64 ∧ q < B64 ∧ Nat.gcd p q = Nat.gcd x y ∧ Below w.heap.size w wr) (fun _ b _ => (intOf b).toNat)
  case atStart => exact ⟨x, y, rfl, rfl, hx, hy, rfl, Below.refl _ _⟩
  case round =>
    obtain ⟨p, q, rfl, rfl, hp, hq, hg, hB⟩ := hrel
    by_cases h0 : q = 0
    · subst h0
      rw [Nat.gcd_zero_right] at hg
      subst hg
      clear hp hq hx hy
      go_wp2
      go_ret
      exact ⟨rfl, hB⟩
    · obtain ⟨r, hr⟩ : ∃ r, p % q = r := ⟨_, rfl⟩
      have hrq : r < q := by rw [← hr]; exact Nat.mod_lt _ (by omega)
      have hgq : Nat.gcd q r = Nat.gcd x y := by rw [← hg, ← hr, Nat.gcd_comm q, ← Nat.gcd_rec, Nat.gcd_comm]
      obtain ⟨f1, f2, f3, f4, f5, f6, _, _⟩ := quo_word (x := p) (y := q) hp rfl hr
      have hq0 : (0 : Int) < (q : Int) := by omega
      have hq1 : ¬ ((q : Int) = 0) := by omega
      have hq2 : ((q : Int) == 0) = false := by simp; omega
      have HG := Lib.hid hgq
      clear hg hgq hr hx hy f1 f2 f5
      go_wp2
      first
        | go_quiet (fail)
        | go_region
      go_wp2
      go_roundw
      case rel => exact ⟨q, r, rfl, rfl, hq, by omega, HG.out, by first | exact below_drewN hB _ | exact hB.drew⟩
      case measure => simp [intOf]; omega

section
variable (A A2 : Option Addr) (na ca nb cb v u : Nat) (w : World)

set_option maxRecDepth 100000 in
set_option maxHeartbeats 1000000 in
theorem rHalf_any (hva : Nm w A na ca v) (hna : na ≤ 1000) :
    Calls Tryz.prog 100 #[.slice A na ca] w fun e w' => ∃ A' k c, e = .returned (.slice A' k c) ∧ Own w' w.heap.size (.slice A' k c) (limbs (v / 2)) ∧ Below w.heap.size w w' := by
  have h := rDown_spec A na ca (limbs v) w 1 hva.rd hna
  have e1 : downL (limbs v) 1 = limbs (v / 2) := by simp [downL, may_limbs, val_limbs]
  have e2 : shiftE (limbs v) 1 = 0 := by simp [shiftE, may_limbs]
  rw [e1, e2] at h
  have HD := Lib.hid h
  clear h e1 e2
  go_enter Tryz.func100, Tryz.ntmps100
  go_wp2_with fail
  refine HD.out.mono ?_
  rintro e w1 ⟨A3, k3, c3, rfl, o3, hb3⟩
  go_wp2_with fail
  go_ret
  exact ⟨_, _, _, rfl, o3, hb3⟩
theorem rAt_nm (j : Nat) (hva : Nm w A na ca v) (hna : na ≤ 1000) (hj : j ≤ 100000) :
    Calls Tryz.prog 99 #[.slice A na ca, .int .i64 (j : Int)] w fun e w' => e = .returned (.int .i64 (nbit v j : Nat)) ∧ w = w' := by
  have h := rAt_any A na ca (limbs v) w j hva.rd (by omega) (by omega)
  rwa [val_limbs] at h
theorem rCmp_nm (hva : Nm w A na ca v) (hub : Nm w A2 nb cb u) (hna : na ≤ 1000) (hnb : nb ≤ 1000) :
    Calls Tryz.prog 95 #[.slice A na ca, .slice A2 nb cb] w fun e w' => e = .returned (.int .i64 (cmp3 v u)) ∧ w = w' := by
  have h := rCompared_any A A2 na ca nb cb (limbs v) (limbs u) w hva.rd hub.rd hna hnb
  rwa [val_limbs, val_limbs] at h
theorem rRest_nm (hva : Nm w A na ca v) (hub : Nm w A2 nb cb u) (hna : na ≤ 1000) (hnb : nb ≤ 1000) (hle : u ≤ v) :
    Calls Tryz.prog 96 #[.slice A na ca, .slice A2 nb cb] w fun e w' => ∃ A' k c, e = .returned (.slice A' k c) ∧ Own w' w.heap.size (.slice A' k c) (limbs (v - u)) ∧ Below w.heap.size w w' := by
  have h := rRest_any A A2 na ca nb cb (limbs v) (limbs u) w hva.rd hub.rd hna hnb (by rw [val_limbs, val_limbs]; exact hle)
  rwa [val_limbs, val_limbs] at h
theorem rSum_nm (hva : Nm w A na ca v) (hub : Nm w A2 nb cb u) (hna : na ≤ 1000) (hnb : nb ≤ 1000) :
    Calls Tryz.prog 94 #[.slice A na ca, .slice A2 nb cb] w fun e w' => ∃ A' k c, e = .returned (.slice A' k c) ∧ Own w' w.heap.size (.slice A' k c) (limbs (v + u)) ∧ Below w.heap.size w w' := by
  have h := rSum_any A A2 na ca nb cb (limbs v) (limbs u) w hva.rd hub.rd hna hnb
  rwa [val_limbs, val_limbs] at h
theorem rTimes_nm (b : Nat) (hva : Nm w A na ca v) (hna : na ≤ 1000) (hb : b ≤ 65536) :
    Calls Tryz.prog 101 #[.slice A na ca, .int .i64 (b : Int)] w fun e w' => ∃ A' k c, e = .returned (.slice A' k c) ∧ Own w' w.heap.size (.slice A' k c) (limbs (v * 2 ^ b)) ∧ Below w.heap.size w w' := by
  have h := rTimes_any A na ca (limbs v) w b hva.rd hna hb
  rwa [val_limbs] at h
end
end Go.Proofs.YtgiokmfdafmaoaaGreat
