import Derived.Test.YtoehkaagfokamaaDoorZGProduct
import Derived.Test.YtoehkaagfokamaaDoorZDNames
/- GDivides. -/
/- The law GcdDivides: what divides both numbers divides their greatest common divisor, and it both. -/
namespace Go.Proofs.YtoehkaagfokamaaDoor
open Go.RowKit Go.Shelf
set_option linter.unusedVariables false
set_option linter.unusedSimpArgs false

theorem exactE_iff (v : Nat) (c : List Nat) : exactE (limbs v) c = 0 ↔ may c = true ∧ c ≠ [] ∧ val c ∣ v := by
  rcases divE_cases (limbs v) c with ⟨he, _, hc, hn⟩ | ⟨he, _, hc⟩ | ⟨he, hb⟩
  · by_cases hz : v % val c = 0
    · simp [exactE, he, val_limbs, hz, hc, hn, Nat.dvd_of_mod_eq_zero hz]
    · have : ¬ val c ∣ v := fun h => hz (Nat.mod_eq_zero_of_dvd h)
      simp [exactE, he, val_limbs, hz, this]
  · subst hc; simp [exactE, he]
  · have hc : may c = false := by simpa [both, may_limbs] using hb
    simp [exactE, he, hc]
theorem exactE_gcd (v u : Nat) (c : List Nat) : exactE (limbs (Nat.gcd v u)) c = 0 ↔ exactE (limbs v) c = 0 ∧ exactE (limbs u) c = 0 := by
  rw [exactE_iff, exactE_iff, exactE_iff, Nat.dvd_gcd_iff]
  constructor
  · rintro ⟨h1, h2, h3, h4⟩; exact ⟨⟨h1, h2, h3⟩, h1, h2, h4⟩
  · rintro ⟨⟨h1, h2, h3⟩, _, _, h4⟩; exact ⟨h1, h2, h3, h4⟩
theorem gcd_one {v u : Nat} (h : Nat.gcd v u ≠ 0) : Nat.gcd (v / Nat.gcd v u) (u / Nat.gcd v u) = 1 := by
  rw [Nat.gcd_div (Nat.gcd_dvd_left v u) (Nat.gcd_dvd_right v u)]
  exact Nat.div_self (Nat.pos_of_ne_zero h)
section
variable (hA : ∀ w : World, Calls Tryd.prog 5 #[] w fun e w' => e = .returned (.bool true) ∧ Below w.heap.size w w') (A A2 A3 : Option Addr) (na ca nb cb nc cc : Nat) (a b c : List Nat) (w : World)
include hA

set_option maxRecDepth 100000 in
set_option maxHeartbeats 2500000 in
theorem gcdDivides_long (hb : 20 < na ∨ 20 < nb ∨ 20 < nc) (h1 : na ≤ 9223372036854775807) (h2 : nb ≤ 9223372036854775807) (h3 : nc ≤ 9223372036854775807) :
    Calls Tryd.prog 3 #[.slice A na ca, .slice A2 nb cb, .slice A3 nc cc] w fun e w' => e = .returned (.bool true) ∧ Below w.heap.size w w' := by
  by_cases h50 : 20 < na
  · clear hb
    go_enter Tryd.func3, Tryd.ntmps3
    go_wp2_with (go_at_call 5; refine (hA _).mono ?_; rintro e w1 ⟨rfl, hb1⟩)
    go_ret
    exact ⟨rfl, hb1⟩
  · skip
    by_cases h51 : 20 < nb
    · clear hb
      go_enter Tryd.func3, Tryd.ntmps3
      go_wp2_with (go_at_call 5; refine (hA _).mono ?_; rintro e w1 ⟨rfl, hb1⟩)
      go_ret
      exact ⟨rfl, hb1⟩
    · skip
      have h99 : 20 < nc := by omega
      clear hb
      go_enter Tryd.func3, Tryd.ntmps3
      go_wp2_with (go_at_call 5; refine (hA _).mono ?_; rintro e w1 ⟨rfl, hb1⟩)
      go_ret
      exact ⟨rfl, hb1⟩

set_option maxRecDepth 100000 in
set_option maxHeartbeats 2500000 in
theorem gcdDivides_bad (hG : GcdIs 6) (hra : Rd w A na a) (hrb : Rd w A2 nb b) (h1 : na ≤ 20) (h2 : nb ≤ 20) (h3 : nc ≤ 20) (q1 : na ≤ ca ∧ ca ≤ 9223372036854775807) (q2 : nb ≤ cb ∧ cb ≤ 9223372036854775807) (hm : both a b = false) :
    Calls Tryd.prog 3 #[.slice A na ca, .slice A2 nb cb, .slice A3 nc cc] w fun e w' => e = .returned (.bool true) ∧ Below w.heap.size w w' := by
  have hm2 : both b a = false := by simpa [both, Bool.and_comm] using hm
  go_enter Tryd.func3, Tryd.ntmps3
  go_wp2_with fail
  refine (hA _).mono ?_
  rintro e w1 ⟨rfl, hb1⟩
  replace hra := hra.below hb1
  replace hrb := hrb.below hb1
  go_wp2_with fail
  refine (gcd_no hG hra hrb (by omega) (by omega) q1 q2 hm).mono ?_
  rintro e w2 ⟨Ag, cg, rfl, hb2⟩
  replace hra := hra.below hb2
  replace hrb := hrb.below hb2
  replace hb2 := below_then hb1 hb2
  clear hb1
  go_wp2_with fail
  refine (gcd_no hG hrb hra (by omega) (by omega) q2 q1 hm2).mono ?_
  rintro e w3 ⟨Ah, ch, rfl, hb3⟩
  replace hra := hra.below hb3
  replace hrb := hrb.below hb3
  replace hb3 := below_then hb2 hb3
  clear hb2
  go_wp2_with fail
  go_ret
  exact ⟨rfl, hb3⟩

set_option maxRecDepth 100000 in
set_option maxHeartbeats 3000000 in
theorem gcdDivides_0a (hG : GcdIs 6) (hE : ExactIs 8) (v u : Nat) (hva : Nm w A na ca v) (hub : Nm w A2 nb cb u) (hrc : Rd w A3 nc c) (h1 : na ≤ 20) (h2 : nb ≤ 20) (h3 : nc ≤ 20) (q3 : nc ≤ cc ∧ cc ≤ 9223372036854775807) (hg0 : Nat.gcd v u = 0) (hna0 : na = 0) (hnb0 : nb = 0) (e1 : (exactE (limbs v) c == 0) = false) (e3 : (exactE (limbs (Nat.gcd v u)) c == 0) = false) :
    Calls Tryd.prog 3 #[.slice A na ca, .slice A2 nb cb, .slice A3 nc cc] w fun e w' => e = .returned (.bool true) ∧ Below w.heap.size w w' := by
  have lg0 := gcd_len hva hub
  have lh0 := gcd_len hub hva
  have hw : wrap64 ((na : Int) + (nb : Int)) = (na : Int) + (nb : Int) := IntWalk.wrap64_in _ ⟨by omega, by omega⟩
  have HZ := Lib.hid hg0
  clear hg0
  subst hna0
  subst hnb0
  go_enter Tryd.func3, Tryd.ntmps3
  go_wp2_with fail
  refine (hA _).mono ?_
  rintro e w1 ⟨rfl, hb1⟩
  replace hva := hva.below hb1
  replace hub := hub.below hb1
  replace hrc := hrc.below hb1
  go_wp2_with fail
  refine (gcd_nm hG hva hub (by omega) (by omega)).mono ?_
  rintro e w2 ⟨Ag, kg, cg, rfl, og, hb2⟩
  have rg := og.nm
  have lg : kg ≤ 40 := by have := og.rd.2.1; omega
  clear og
  clear lg0
  have hkg := rg.zero
  replace hva := hva.below hb2
  replace hub := hub.below hb2
  replace hrc := hrc.below hb2
  replace hb2 := below_then hb1 hb2
  clear hb1
  go_wp2_with fail
  refine (gcd_nm hG hub hva (by omega) (by omega)).mono ?_
  rintro e w3 ⟨Ah, kh, ch, rfl, oh, hb3⟩
  have rh := oh.nm
  have lh : kh ≤ 40 := by have := oh.rd.2.1; omega
  clear oh
  clear lh0
  replace hva := hva.below hb3
  replace hub := hub.below hb3
  replace hrc := hrc.below hb3
  replace rg := rg.below hb3
  replace hb3 := below_then hb2 hb3
  clear hb2
  obtain rfl : kg = 0 := hkg.2 HZ.out
  clear hkg
  go_wp2_with fail
  refine (same_eq Ag Ah 0 cg kh ch (Nat.gcd v u) (Nat.gcd u v) _ rg rh (by omega) (by omega) (Nat.gcd_comm v u)).mono ?_
  rintro e w4 ⟨rfl, hb4⟩
  replace hva := hva.below hb4
  replace hub := hub.below hb4
  replace hrc := hrc.below hb4
  replace rg := rg.below hb4
  replace hb4 := below_then hb3 hb4
  clear hb3
  go_wp2_with fail
  refine (hE A A3 0 ca nc cc (limbs v) c _ hva.rd hrc (by omega) (by omega) ⟨hva.nc, hva.cm⟩ q3).mono ?_
  rintro e w5 ⟨Ai, ki, ci, rfl, oi, hb5⟩
  clear oi
  replace hva := hva.below hb5
  replace hub := hub.below hb5
  replace hrc := hrc.below hb5
  replace rg := rg.below hb5
  replace hb5 := below_then hb4 hb5
  clear hb4
  go_wp2_with fail
  refine (hE A2 A3 0 cb nc cc (limbs u) c _ hub.rd hrc (by omega) (by omega) ⟨hub.nc, hub.cm⟩ q3).mono ?_
  rintro e w6 ⟨Aj, kj, cj, rfl, oj, hb6⟩
  clear oj
  replace hva := hva.below hb6
  replace hub := hub.below hb6
  replace hrc := hrc.below hb6
  replace rg := rg.below hb6
  replace hb6 := below_then hb5 hb6
  clear hb5
  go_wp2_with fail
  refine (hE Ag A3 0 cg nc cc (limbs (Nat.gcd v u)) c _ rg.rd hrc (by omega) (by omega) ⟨rg.nc, rg.cm⟩ q3).mono ?_
  rintro e w7 ⟨Ak, kk, ck, rfl, ok, hb7⟩
  clear ok
  replace hva := hva.below hb7
  replace hub := hub.below hb7
  replace hrc := hrc.below hb7
  replace rg := rg.below hb7
  replace hb7 := below_then hb6 hb7
  clear hb6
  go_wp2_with fail
  go_ret
  exact ⟨rfl, hb7⟩

set_option maxRecDepth 100000 in
set_option maxHeartbeats 3000000 in
theorem gcdDivides_0b (hG : GcdIs 6) (hE : ExactIs 8) (v u : Nat) (hva : Nm w A na ca v) (hub : Nm w A2 nb cb u) (hrc : Rd w A3 nc c) (h1 : na ≤ 20) (h2 : nb ≤ 20) (h3 : nc ≤ 20) (q3 : nc ≤ cc ∧ cc ≤ 9223372036854775807) (hg0 : Nat.gcd v u = 0) (hna0 : na = 0) (hnb0 : nb = 0) (e1 : (exactE (limbs v) c == 0) = true) (e2 : (exactE (limbs u) c == 0) = false) (e3 : (exactE (limbs (Nat.gcd v u)) c == 0) = false) :
    Calls Tryd.prog 3 #[.slice A na ca, .slice A2 nb cb, .slice A3 nc cc] w fun e w' => e = .returned (.bool true) ∧ Below w.heap.size w w' := by
  have lg0 := gcd_len hva hub
  have lh0 := gcd_len hub hva
  have hw : wrap64 ((na : Int) + (nb : Int)) = (na : Int) + (nb : Int) := IntWalk.wrap64_in _ ⟨by omega, by omega⟩
  have HZ := Lib.hid hg0
  clear hg0
  subst hna0
  subst hnb0
  go_enter Tryd.func3, Tryd.ntmps3
  go_wp2_with fail
  refine (hA _).mono ?_
  rintro e w1 ⟨rfl, hb1⟩
  replace hva := hva.below hb1
  replace hub := hub.below hb1
  replace hrc := hrc.below hb1
  go_wp2_with fail
  refine (gcd_nm hG hva hub (by omega) (by omega)).mono ?_
  rintro e w2 ⟨Ag, kg, cg, rfl, og, hb2⟩
  have rg := og.nm
  have lg : kg ≤ 40 := by have := og.rd.2.1; omega
  clear og
  clear lg0
  have hkg := rg.zero
  replace hva := hva.below hb2
  replace hub := hub.below hb2
  replace hrc := hrc.below hb2
  replace hb2 := below_then hb1 hb2
  clear hb1
  go_wp2_with fail
  refine (gcd_nm hG hub hva (by omega) (by omega)).mono ?_
  rintro e w3 ⟨Ah, kh, ch, rfl, oh, hb3⟩
  have rh := oh.nm
  have lh : kh ≤ 40 := by have := oh.rd.2.1; omega
  clear oh
  clear lh0
  replace hva := hva.below hb3
  replace hub := hub.below hb3
  replace hrc := hrc.below hb3
  replace rg := rg.below hb3
  replace hb3 := below_then hb2 hb3
  clear hb2
  obtain rfl : kg = 0 := hkg.2 HZ.out
  clear hkg
  go_wp2_with fail
  refine (same_eq Ag Ah 0 cg kh ch (Nat.gcd v u) (Nat.gcd u v) _ rg rh (by omega) (by omega) (Nat.gcd_comm v u)).mono ?_
  rintro e w4 ⟨rfl, hb4⟩
  replace hva := hva.below hb4
  replace hub := hub.below hb4
  replace hrc := hrc.below hb4
  replace rg := rg.below hb4
  replace hb4 := below_then hb3 hb4
  clear hb3
  go_wp2_with fail
  refine (hE A A3 0 ca nc cc (limbs v) c _ hva.rd hrc (by omega) (by omega) ⟨hva.nc, hva.cm⟩ q3).mono ?_
  rintro e w5 ⟨Ai, ki, ci, rfl, oi, hb5⟩
  clear oi
  replace hva := hva.below hb5
  replace hub := hub.below hb5
  replace hrc := hrc.below hb5
  replace rg := rg.below hb5
  replace hb5 := below_then hb4 hb5
  clear hb4
  go_wp2_with fail
  refine (hE A2 A3 0 cb nc cc (limbs u) c _ hub.rd hrc (by omega) (by omega) ⟨hub.nc, hub.cm⟩ q3).mono ?_
  rintro e w6 ⟨Aj, kj, cj, rfl, oj, hb6⟩
  clear oj
  replace hva := hva.below hb6
  replace hub := hub.below hb6
  replace hrc := hrc.below hb6
  replace rg := rg.below hb6
  replace hb6 := below_then hb5 hb6
  clear hb5
  go_wp2_with fail
  refine (hE Ag A3 0 cg nc cc (limbs (Nat.gcd v u)) c _ rg.rd hrc (by omega) (by omega) ⟨rg.nc, rg.cm⟩ q3).mono ?_
  rintro e w7 ⟨Ak, kk, ck, rfl, ok, hb7⟩
  clear ok
  replace hva := hva.below hb7
  replace hub := hub.below hb7
  replace hrc := hrc.below hb7
  replace rg := rg.below hb7
  replace hb7 := below_then hb6 hb7
  clear hb6
  go_wp2_with fail
  go_ret
  exact ⟨rfl, hb7⟩

set_option maxRecDepth 100000 in
set_option maxHeartbeats 3000000 in
theorem gcdDivides_0ok (hG : GcdIs 6) (hE : ExactIs 8) (v u : Nat) (hva : Nm w A na ca v) (hub : Nm w A2 nb cb u) (hrc : Rd w A3 nc c) (h1 : na ≤ 20) (h2 : nb ≤ 20) (h3 : nc ≤ 20) (q3 : nc ≤ cc ∧ cc ≤ 9223372036854775807) (hg0 : Nat.gcd v u = 0) (hna0 : na = 0) (hnb0 : nb = 0) (e1 : (exactE (limbs v) c == 0) = true) (e2 : (exactE (limbs u) c == 0) = true) (e3 : (exactE (limbs (Nat.gcd v u)) c == 0) = true) :
    Calls Tryd.prog 3 #[.slice A na ca, .slice A2 nb cb, .slice A3 nc cc] w fun e w' => e = .returned (.bool true) ∧ Below w.heap.size w w' := by
  have lg0 := gcd_len hva hub
  have lh0 := gcd_len hub hva
  have hw : wrap64 ((na : Int) + (nb : Int)) = (na : Int) + (nb : Int) := IntWalk.wrap64_in _ ⟨by omega, by omega⟩
  have HZ := Lib.hid hg0
  clear hg0
  subst hna0
  subst hnb0
  go_enter Tryd.func3, Tryd.ntmps3
  go_wp2_with fail
  refine (hA _).mono ?_
  rintro e w1 ⟨rfl, hb1⟩
  replace hva := hva.below hb1
  replace hub := hub.below hb1
  replace hrc := hrc.below hb1
  go_wp2_with fail
  refine (gcd_nm hG hva hub (by omega) (by omega)).mono ?_
  rintro e w2 ⟨Ag, kg, cg, rfl, og, hb2⟩
  have rg := og.nm
  have lg : kg ≤ 40 := by have := og.rd.2.1; omega
  clear og
  clear lg0
  have hkg := rg.zero
  replace hva := hva.below hb2
  replace hub := hub.below hb2
  replace hrc := hrc.below hb2
  replace hb2 := below_then hb1 hb2
  clear hb1
  go_wp2_with fail
  refine (gcd_nm hG hub hva (by omega) (by omega)).mono ?_
  rintro e w3 ⟨Ah, kh, ch, rfl, oh, hb3⟩
  have rh := oh.nm
  have lh : kh ≤ 40 := by have := oh.rd.2.1; omega
  clear oh
  clear lh0
  replace hva := hva.below hb3
  replace hub := hub.below hb3
  replace hrc := hrc.below hb3
  replace rg := rg.below hb3
  replace hb3 := below_then hb2 hb3
  clear hb2
  obtain rfl : kg = 0 := hkg.2 HZ.out
  clear hkg
  go_wp2_with fail
  refine (same_eq Ag Ah 0 cg kh ch (Nat.gcd v u) (Nat.gcd u v) _ rg rh (by omega) (by omega) (Nat.gcd_comm v u)).mono ?_
  rintro e w4 ⟨rfl, hb4⟩
  replace hva := hva.below hb4
  replace hub := hub.below hb4
  replace hrc := hrc.below hb4
  replace rg := rg.below hb4
  replace hb4 := below_then hb3 hb4
  clear hb3
  go_wp2_with fail
  refine (hE A A3 0 ca nc cc (limbs v) c _ hva.rd hrc (by omega) (by omega) ⟨hva.nc, hva.cm⟩ q3).mono ?_
  rintro e w5 ⟨Ai, ki, ci, rfl, oi, hb5⟩
  clear oi
  replace hva := hva.below hb5
  replace hub := hub.below hb5
  replace hrc := hrc.below hb5
  replace rg := rg.below hb5
  replace hb5 := below_then hb4 hb5
  clear hb4
  go_wp2_with fail
  refine (hE A2 A3 0 cb nc cc (limbs u) c _ hub.rd hrc (by omega) (by omega) ⟨hub.nc, hub.cm⟩ q3).mono ?_
  rintro e w6 ⟨Aj, kj, cj, rfl, oj, hb6⟩
  clear oj
  replace hva := hva.below hb6
  replace hub := hub.below hb6
  replace hrc := hrc.below hb6
  replace rg := rg.below hb6
  replace hb6 := below_then hb5 hb6
  clear hb5
  go_wp2_with fail
  refine (hE Ag A3 0 cg nc cc (limbs (Nat.gcd v u)) c _ rg.rd hrc (by omega) (by omega) ⟨rg.nc, rg.cm⟩ q3).mono ?_
  rintro e w7 ⟨Ak, kk, ck, rfl, ok, hb7⟩
  clear ok
  replace hva := hva.below hb7
  replace hub := hub.below hb7
  replace hrc := hrc.below hb7
  replace rg := rg.below hb7
  replace hb7 := below_then hb6 hb7
  clear hb6
  go_wp2_with fail
  go_ret
  exact ⟨rfl, hb7⟩

set_option maxRecDepth 100000 in
set_option maxHeartbeats 3000000 in
theorem gcdDivides_1a (hG : GcdIs 6) (hE : ExactIs 8) (v u : Nat) (hva : Nm w A na ca v) (hub : Nm w A2 nb cb u) (hrc : Rd w A3 nc c) (h1 : na ≤ 20) (h2 : nb ≤ 20) (h3 : nc ≤ 20) (q3 : nc ≤ cc ∧ cc ≤ 9223372036854775807) (hg0 : Nat.gcd v u ≠ 0) (e1 : (exactE (limbs v) c == 0) = false) (e3 : (exactE (limbs (Nat.gcd v u)) c == 0) = false) :
    Calls Tryd.prog 3 #[.slice A na ca, .slice A2 nb cb, .slice A3 nc cc] w fun e w' => e = .returned (.bool true) ∧ Below w.heap.size w w' := by
  have lg0 := gcd_len hva hub
  have lh0 := gcd_len hub hva
  have hw : wrap64 ((na : Int) + (nb : Int)) = (na : Int) + (nb : Int) := IntWalk.wrap64_in _ ⟨by omega, by omega⟩
  have hs0 : ((na : Int) + (nb : Int) == 0) = false := by
    have : ¬ (na = 0 ∧ nb = 0) := fun h => hg0 (by rw [hva.zero.1 h.1, hub.zero.1 h.2]; rfl)
    simp; omega
  have hone := gcd_one hg0
  have hmv : v % Nat.gcd v u = 0 := Nat.mod_eq_zero_of_dvd (Nat.gcd_dvd_left v u)
  have hmu : u % Nat.gcd v u = 0 := Nat.mod_eq_zero_of_dvd (Nat.gcd_dvd_right v u)
  have lx0 := div_len hva (Nat.gcd v u)
  have ly0 := div_len hub (Nat.gcd v u)
  have HO := Lib.hid hone
  have HV := Lib.hid hmv
  have HU := Lib.hid hmu
  clear hone hmv hmu
  go_enter Tryd.func3, Tryd.ntmps3
  go_wp2_with fail
  refine (hA _).mono ?_
  rintro e w1 ⟨rfl, hb1⟩
  replace hva := hva.below hb1
  replace hub := hub.below hb1
  replace hrc := hrc.below hb1
  go_wp2_with fail
  refine (gcd_nm hG hva hub (by omega) (by omega)).mono ?_
  rintro e w2 ⟨Ag, kg, cg, rfl, og, hb2⟩
  have rg := og.nm
  have lg : kg ≤ 40 := by have := og.rd.2.1; omega
  clear og
  clear lg0
  have hkg := rg.zero
  replace hva := hva.below hb2
  replace hub := hub.below hb2
  replace hrc := hrc.below hb2
  replace hb2 := below_then hb1 hb2
  clear hb1
  go_wp2_with fail
  refine (gcd_nm hG hub hva (by omega) (by omega)).mono ?_
  rintro e w3 ⟨Ah, kh, ch, rfl, oh, hb3⟩
  have rh := oh.nm
  have lh : kh ≤ 40 := by have := oh.rd.2.1; omega
  clear oh
  clear lh0
  replace hva := hva.below hb3
  replace hub := hub.below hb3
  replace hrc := hrc.below hb3
  replace rg := rg.below hb3
  replace hb3 := below_then hb2 hb3
  clear hb2
  have hk1 := int_eq0 (fun h => hg0 (hkg.1 h))
  have hk2 : (0 : Int) < (kg : Int) := by have := (fun h => hg0 (hkg.1 h) : ¬ kg = 0); omega
  clear hkg
  go_wp2_with fail
  refine (same_eq Ag Ah kg cg kh ch (Nat.gcd v u) (Nat.gcd u v) _ rg rh (by omega) (by omega) (Nat.gcd_comm v u)).mono ?_
  rintro e w4 ⟨rfl, hb4⟩
  replace hva := hva.below hb4
  replace hub := hub.below hb4
  replace hrc := hrc.below hb4
  replace rg := rg.below hb4
  replace hb4 := below_then hb3 hb4
  clear hb3
  go_wp2_with fail
  refine (exact_nm A Ag na ca kg cg v (Nat.gcd v u) _ hE hva rg hg0 HV.out (by omega) (by omega)).mono ?_
  rintro e w5 ⟨Ax, kx, cx, rfl, ox, hb5⟩
  have rx := ox.nm
  have lx : kx ≤ 20 := by have := ox.rd.2.1; omega
  clear ox
  clear lx0
  replace hva := hva.below hb5
  replace hub := hub.below hb5
  replace hrc := hrc.below hb5
  replace rg := rg.below hb5
  replace hb5 := below_then hb4 hb5
  clear hb4
  go_wp2_with fail
  refine (exact_nm A2 Ag nb cb kg cg u (Nat.gcd v u) _ hE hub rg hg0 HU.out (by omega) (by omega)).mono ?_
  rintro e w6 ⟨Ay, ky, cy, rfl, oy, hb6⟩
  have ry := oy.nm
  have ly : ky ≤ 20 := by have := oy.rd.2.1; omega
  clear oy
  clear ly0
  have lo0 := gcd_len rx ry
  replace hva := hva.below hb6
  replace hub := hub.below hb6
  replace hrc := hrc.below hb6
  replace rg := rg.below hb6
  replace rx := rx.below hb6
  replace hb6 := below_then hb5 hb6
  clear hb5
  go_wp2_with fail
  refine (gcd_nm hG rx ry (by omega) (by omega)).mono ?_
  rintro e w7 ⟨Ao, ko, co, rfl, oo, hb7⟩
  have ro := oo.nm
  have lo : ko ≤ 40 := by have := oo.rd.2.1; omega
  clear oo
  clear lo0
  replace hva := hva.below hb7
  replace hub := hub.below hb7
  replace hrc := hrc.below hb7
  replace rg := rg.below hb7
  replace rx := rx.below hb7
  replace ry := ry.below hb7
  replace hb7 := below_then hb6 hb7
  clear hb6
  go_wp2_with fail
  refine (same_eq Ao _ ko co 1 1 _ 1 _ (ro.below ((Below.refl _ _).alloc (Nat.le_refl _) _)) (nm_new1 _ 1 _ B64_gt rfl) (by omega) (by omega) HO.out).mono ?_
  rintro e w8 ⟨rfl, hb8⟩
  replace hb8 := below_new hb8
  replace hva := hva.below hb8
  replace hub := hub.below hb8
  replace hrc := hrc.below hb8
  replace rg := rg.below hb8
  replace hb8 := below_then hb7 hb8
  clear hb7
  go_wp2_with fail
  refine (hE A A3 na ca nc cc (limbs v) c _ hva.rd hrc (by omega) (by omega) ⟨hva.nc, hva.cm⟩ q3).mono ?_
  rintro e w9 ⟨Ai, ki, ci, rfl, oi, hb9⟩
  clear oi
  replace hva := hva.below hb9
  replace hub := hub.below hb9
  replace hrc := hrc.below hb9
  replace rg := rg.below hb9
  replace hb9 := below_then hb8 hb9
  clear hb8
  go_wp2_with fail
  refine (hE A2 A3 nb cb nc cc (limbs u) c _ hub.rd hrc (by omega) (by omega) ⟨hub.nc, hub.cm⟩ q3).mono ?_
  rintro e w10 ⟨Aj, kj, cj, rfl, oj, hb10⟩
  clear oj
  replace hva := hva.below hb10
  replace hub := hub.below hb10
  replace hrc := hrc.below hb10
  replace rg := rg.below hb10
  replace hb10 := below_then hb9 hb10
  clear hb9
  go_wp2_with fail
  refine (hE Ag A3 kg cg nc cc (limbs (Nat.gcd v u)) c _ rg.rd hrc (by omega) (by omega) ⟨rg.nc, rg.cm⟩ q3).mono ?_
  rintro e w11 ⟨Ak, kk, ck, rfl, ok, hb11⟩
  clear ok
  replace hva := hva.below hb11
  replace hub := hub.below hb11
  replace hrc := hrc.below hb11
  replace rg := rg.below hb11
  replace hb11 := below_then hb10 hb11
  clear hb10
  go_wp2_with fail
  go_ret
  exact ⟨rfl, hb11⟩

set_option maxRecDepth 100000 in
set_option maxHeartbeats 3000000 in
theorem gcdDivides_1b (hG : GcdIs 6) (hE : ExactIs 8) (v u : Nat) (hva : Nm w A na ca v) (hub : Nm w A2 nb cb u) (hrc : Rd w A3 nc c) (h1 : na ≤ 20) (h2 : nb ≤ 20) (h3 : nc ≤ 20) (q3 : nc ≤ cc ∧ cc ≤ 9223372036854775807) (hg0 : Nat.gcd v u ≠ 0) (e1 : (exactE (limbs v) c == 0) = true) (e2 : (exactE (limbs u) c == 0) = false) (e3 : (exactE (limbs (Nat.gcd v u)) c == 0) = false) :
    Calls Tryd.prog 3 #[.slice A na ca, .slice A2 nb cb, .slice A3 nc cc] w fun e w' => e = .returned (.bool true) ∧ Below w.heap.size w w' := by
  have lg0 := gcd_len hva hub
  have lh0 := gcd_len hub hva
  have hw : wrap64 ((na : Int) + (nb : Int)) = (na : Int) + (nb : Int) := IntWalk.wrap64_in _ ⟨by omega, by omega⟩
  have hs0 : ((na : Int) + (nb : Int) == 0) = false := by
    have : ¬ (na = 0 ∧ nb = 0) := fun h => hg0 (by rw [hva.zero.1 h.1, hub.zero.1 h.2]; rfl)
    simp; omega
  have hone := gcd_one hg0
  have hmv : v % Nat.gcd v u = 0 := Nat.mod_eq_zero_of_dvd (Nat.gcd_dvd_left v u)
  have hmu : u % Nat.gcd v u = 0 := Nat.mod_eq_zero_of_dvd (Nat.gcd_dvd_right v u)
  have lx0 := div_len hva (Nat.gcd v u)
  have ly0 := div_len hub (Nat.gcd v u)
  have HO := Lib.hid hone
  have HV := Lib.hid hmv
  have HU := Lib.hid hmu
  clear hone hmv hmu
  go_enter Tryd.func3, Tryd.ntmps3
  go_wp2_with fail
  refine (hA _).mono ?_
  rintro e w1 ⟨rfl, hb1⟩
  replace hva := hva.below hb1
  replace hub := hub.below hb1
  replace hrc := hrc.below hb1
  go_wp2_with fail
  refine (gcd_nm hG hva hub (by omega) (by omega)).mono ?_
  rintro e w2 ⟨Ag, kg, cg, rfl, og, hb2⟩
  have rg := og.nm
  have lg : kg ≤ 40 := by have := og.rd.2.1; omega
  clear og
  clear lg0
  have hkg := rg.zero
  replace hva := hva.below hb2
  replace hub := hub.below hb2
  replace hrc := hrc.below hb2
  replace hb2 := below_then hb1 hb2
  clear hb1
  go_wp2_with fail
  refine (gcd_nm hG hub hva (by omega) (by omega)).mono ?_
  rintro e w3 ⟨Ah, kh, ch, rfl, oh, hb3⟩
  have rh := oh.nm
  have lh : kh ≤ 40 := by have := oh.rd.2.1; omega
  clear oh
  clear lh0
  replace hva := hva.below hb3
  replace hub := hub.below hb3
  replace hrc := hrc.below hb3
  replace rg := rg.below hb3
  replace hb3 := below_then hb2 hb3
  clear hb2
  have hk1 := int_eq0 (fun h => hg0 (hkg.1 h))
  have hk2 : (0 : Int) < (kg : Int) := by have := (fun h => hg0 (hkg.1 h) : ¬ kg = 0); omega
  clear hkg
  go_wp2_with fail
  refine (same_eq Ag Ah kg cg kh ch (Nat.gcd v u) (Nat.gcd u v) _ rg rh (by omega) (by omega) (Nat.gcd_comm v u)).mono ?_
  rintro e w4 ⟨rfl, hb4⟩
  replace hva := hva.below hb4
  replace hub := hub.below hb4
  replace hrc := hrc.below hb4
  replace rg := rg.below hb4
  replace hb4 := below_then hb3 hb4
  clear hb3
  go_wp2_with fail
  refine (exact_nm A Ag na ca kg cg v (Nat.gcd v u) _ hE hva rg hg0 HV.out (by omega) (by omega)).mono ?_
  rintro e w5 ⟨Ax, kx, cx, rfl, ox, hb5⟩
  have rx := ox.nm
  have lx : kx ≤ 20 := by have := ox.rd.2.1; omega
  clear ox
  clear lx0
  replace hva := hva.below hb5
  replace hub := hub.below hb5
  replace hrc := hrc.below hb5
  replace rg := rg.below hb5
  replace hb5 := below_then hb4 hb5
  clear hb4
  go_wp2_with fail
  refine (exact_nm A2 Ag nb cb kg cg u (Nat.gcd v u) _ hE hub rg hg0 HU.out (by omega) (by omega)).mono ?_
  rintro e w6 ⟨Ay, ky, cy, rfl, oy, hb6⟩
  have ry := oy.nm
  have ly : ky ≤ 20 := by have := oy.rd.2.1; omega
  clear oy
  clear ly0
  have lo0 := gcd_len rx ry
  replace hva := hva.below hb6
  replace hub := hub.below hb6
  replace hrc := hrc.below hb6
  replace rg := rg.below hb6
  replace rx := rx.below hb6
  replace hb6 := below_then hb5 hb6
  clear hb5
  go_wp2_with fail
  refine (gcd_nm hG rx ry (by omega) (by omega)).mono ?_
  rintro e w7 ⟨Ao, ko, co, rfl, oo, hb7⟩
  have ro := oo.nm
  have lo : ko ≤ 40 := by have := oo.rd.2.1; omega
  clear oo
  clear lo0
  replace hva := hva.below hb7
  replace hub := hub.below hb7
  replace hrc := hrc.below hb7
  replace rg := rg.below hb7
  replace rx := rx.below hb7
  replace ry := ry.below hb7
  replace hb7 := below_then hb6 hb7
  clear hb6
  go_wp2_with fail
  refine (same_eq Ao _ ko co 1 1 _ 1 _ (ro.below ((Below.refl _ _).alloc (Nat.le_refl _) _)) (nm_new1 _ 1 _ B64_gt rfl) (by omega) (by omega) HO.out).mono ?_
  rintro e w8 ⟨rfl, hb8⟩
  replace hb8 := below_new hb8
  replace hva := hva.below hb8
  replace hub := hub.below hb8
  replace hrc := hrc.below hb8
  replace rg := rg.below hb8
  replace hb8 := below_then hb7 hb8
  clear hb7
  go_wp2_with fail
  refine (hE A A3 na ca nc cc (limbs v) c _ hva.rd hrc (by omega) (by omega) ⟨hva.nc, hva.cm⟩ q3).mono ?_
  rintro e w9 ⟨Ai, ki, ci, rfl, oi, hb9⟩
  clear oi
  replace hva := hva.below hb9
  replace hub := hub.below hb9
  replace hrc := hrc.below hb9
  replace rg := rg.below hb9
  replace hb9 := below_then hb8 hb9
  clear hb8
  go_wp2_with fail
  refine (hE A2 A3 nb cb nc cc (limbs u) c _ hub.rd hrc (by omega) (by omega) ⟨hub.nc, hub.cm⟩ q3).mono ?_
  rintro e w10 ⟨Aj, kj, cj, rfl, oj, hb10⟩
  clear oj
  replace hva := hva.below hb10
  replace hub := hub.below hb10
  replace hrc := hrc.below hb10
  replace rg := rg.below hb10
  replace hb10 := below_then hb9 hb10
  clear hb9
  go_wp2_with fail
  refine (hE Ag A3 kg cg nc cc (limbs (Nat.gcd v u)) c _ rg.rd hrc (by omega) (by omega) ⟨rg.nc, rg.cm⟩ q3).mono ?_
  rintro e w11 ⟨Ak, kk, ck, rfl, ok, hb11⟩
  clear ok
  replace hva := hva.below hb11
  replace hub := hub.below hb11
  replace hrc := hrc.below hb11
  replace rg := rg.below hb11
  replace hb11 := below_then hb10 hb11
  clear hb10
  go_wp2_with fail
  go_ret
  exact ⟨rfl, hb11⟩

set_option maxRecDepth 100000 in
set_option maxHeartbeats 3000000 in
theorem gcdDivides_1ok (hG : GcdIs 6) (hE : ExactIs 8) (v u : Nat) (hva : Nm w A na ca v) (hub : Nm w A2 nb cb u) (hrc : Rd w A3 nc c) (h1 : na ≤ 20) (h2 : nb ≤ 20) (h3 : nc ≤ 20) (q3 : nc ≤ cc ∧ cc ≤ 9223372036854775807) (hg0 : Nat.gcd v u ≠ 0) (e1 : (exactE (limbs v) c == 0) = true) (e2 : (exactE (limbs u) c == 0) = true) (e3 : (exactE (limbs (Nat.gcd v u)) c == 0) = true) :
    Calls Tryd.prog 3 #[.slice A na ca, .slice A2 nb cb, .slice A3 nc cc] w fun e w' => e = .returned (.bool true) ∧ Below w.heap.size w w' := by
  have lg0 := gcd_len hva hub
  have lh0 := gcd_len hub hva
  have hw : wrap64 ((na : Int) + (nb : Int)) = (na : Int) + (nb : Int) := IntWalk.wrap64_in _ ⟨by omega, by omega⟩
  have hs0 : ((na : Int) + (nb : Int) == 0) = false := by
    have : ¬ (na = 0 ∧ nb = 0) := fun h => hg0 (by rw [hva.zero.1 h.1, hub.zero.1 h.2]; rfl)
    simp; omega
  have hone := gcd_one hg0
  have hmv : v % Nat.gcd v u = 0 := Nat.mod_eq_zero_of_dvd (Nat.gcd_dvd_left v u)
  have hmu : u % Nat.gcd v u = 0 := Nat.mod_eq_zero_of_dvd (Nat.gcd_dvd_right v u)
  have lx0 := div_len hva (Nat.gcd v u)
  have ly0 := div_len hub (Nat.gcd v u)
  have HO := Lib.hid hone
  have HV := Lib.hid hmv
  have HU := Lib.hid hmu
  clear hone hmv hmu
  go_enter Tryd.func3, Tryd.ntmps3
  go_wp2_with fail
  refine (hA _).mono ?_
  rintro e w1 ⟨rfl, hb1⟩
  replace hva := hva.below hb1
  replace hub := hub.below hb1
  replace hrc := hrc.below hb1
  go_wp2_with fail
  refine (gcd_nm hG hva hub (by omega) (by omega)).mono ?_
  rintro e w2 ⟨Ag, kg, cg, rfl, og, hb2⟩
  have rg := og.nm
  have lg : kg ≤ 40 := by have := og.rd.2.1; omega
  clear og
  clear lg0
  have hkg := rg.zero
  replace hva := hva.below hb2
  replace hub := hub.below hb2
  replace hrc := hrc.below hb2
  replace hb2 := below_then hb1 hb2
  clear hb1
  go_wp2_with fail
  refine (gcd_nm hG hub hva (by omega) (by omega)).mono ?_
  rintro e w3 ⟨Ah, kh, ch, rfl, oh, hb3⟩
  have rh := oh.nm
  have lh : kh ≤ 40 := by have := oh.rd.2.1; omega
  clear oh
  clear lh0
  replace hva := hva.below hb3
  replace hub := hub.below hb3
  replace hrc := hrc.below hb3
  replace rg := rg.below hb3
  replace hb3 := below_then hb2 hb3
  clear hb2
  have hk1 := int_eq0 (fun h => hg0 (hkg.1 h))
  have hk2 : (0 : Int) < (kg : Int) := by have := (fun h => hg0 (hkg.1 h) : ¬ kg = 0); omega
  clear hkg
  go_wp2_with fail
  refine (same_eq Ag Ah kg cg kh ch (Nat.gcd v u) (Nat.gcd u v) _ rg rh (by omega) (by omega) (Nat.gcd_comm v u)).mono ?_
  rintro e w4 ⟨rfl, hb4⟩
  replace hva := hva.below hb4
  replace hub := hub.below hb4
  replace hrc := hrc.below hb4
  replace rg := rg.below hb4
  replace hb4 := below_then hb3 hb4
  clear hb3
  go_wp2_with fail
  refine (exact_nm A Ag na ca kg cg v (Nat.gcd v u) _ hE hva rg hg0 HV.out (by omega) (by omega)).mono ?_
  rintro e w5 ⟨Ax, kx, cx, rfl, ox, hb5⟩
  have rx := ox.nm
  have lx : kx ≤ 20 := by have := ox.rd.2.1; omega
  clear ox
  clear lx0
  replace hva := hva.below hb5
  replace hub := hub.below hb5
  replace hrc := hrc.below hb5
  replace rg := rg.below hb5
  replace hb5 := below_then hb4 hb5
  clear hb4
  go_wp2_with fail
  refine (exact_nm A2 Ag nb cb kg cg u (Nat.gcd v u) _ hE hub rg hg0 HU.out (by omega) (by omega)).mono ?_
  rintro e w6 ⟨Ay, ky, cy, rfl, oy, hb6⟩
  have ry := oy.nm
  have ly : ky ≤ 20 := by have := oy.rd.2.1; omega
  clear oy
  clear ly0
  have lo0 := gcd_len rx ry
  replace hva := hva.below hb6
  replace hub := hub.below hb6
  replace hrc := hrc.below hb6
  replace rg := rg.below hb6
  replace rx := rx.below hb6
  replace hb6 := below_then hb5 hb6
  clear hb5
  go_wp2_with fail
  refine (gcd_nm hG rx ry (by omega) (by omega)).mono ?_
  rintro e w7 ⟨Ao, ko, co, rfl, oo, hb7⟩
  have ro := oo.nm
  have lo : ko ≤ 40 := by have := oo.rd.2.1; omega
  clear oo
  clear lo0
  replace hva := hva.below hb7
  replace hub := hub.below hb7
  replace hrc := hrc.below hb7
  replace rg := rg.below hb7
  replace rx := rx.below hb7
  replace ry := ry.below hb7
  replace hb7 := below_then hb6 hb7
  clear hb6
  go_wp2_with fail
  refine (same_eq Ao _ ko co 1 1 _ 1 _ (ro.below ((Below.refl _ _).alloc (Nat.le_refl _) _)) (nm_new1 _ 1 _ B64_gt rfl) (by omega) (by omega) HO.out).mono ?_
  rintro e w8 ⟨rfl, hb8⟩
  replace hb8 := below_new hb8
  replace hva := hva.below hb8
  replace hub := hub.below hb8
  replace hrc := hrc.below hb8
  replace rg := rg.below hb8
  replace hb8 := below_then hb7 hb8
  clear hb7
  go_wp2_with fail
  refine (hE A A3 na ca nc cc (limbs v) c _ hva.rd hrc (by omega) (by omega) ⟨hva.nc, hva.cm⟩ q3).mono ?_
  rintro e w9 ⟨Ai, ki, ci, rfl, oi, hb9⟩
  clear oi
  replace hva := hva.below hb9
  replace hub := hub.below hb9
  replace hrc := hrc.below hb9
  replace rg := rg.below hb9
  replace hb9 := below_then hb8 hb9
  clear hb8
  go_wp2_with fail
  refine (hE A2 A3 nb cb nc cc (limbs u) c _ hub.rd hrc (by omega) (by omega) ⟨hub.nc, hub.cm⟩ q3).mono ?_
  rintro e w10 ⟨Aj, kj, cj, rfl, oj, hb10⟩
  clear oj
  replace hva := hva.below hb10
  replace hub := hub.below hb10
  replace hrc := hrc.below hb10
  replace rg := rg.below hb10
  replace hb10 := below_then hb9 hb10
  clear hb9
  go_wp2_with fail
  refine (hE Ag A3 kg cg nc cc (limbs (Nat.gcd v u)) c _ rg.rd hrc (by omega) (by omega) ⟨rg.nc, rg.cm⟩ q3).mono ?_
  rintro e w11 ⟨Ak, kk, ck, rfl, ok, hb11⟩
  clear ok
  replace hva := hva.below hb11
  replace hub := hub.below hb11
  replace hrc := hrc.below hb11
  replace rg := rg.below hb11
  replace hb11 := below_then hb10 hb11
  clear hb10
  go_wp2_with fail
  go_ret
  exact ⟨rfl, hb11⟩

theorem gcdDivides_any (hG : GcdIs 6) (hE : ExactIs 8) (hra : Rd w A na a) (hrb : Rd w A2 nb b) (hrc : Rd w A3 nc c) (q1 : na ≤ ca ∧ ca ≤ 9223372036854775807) (q2 : nb ≤ cb ∧ cb ≤ 9223372036854775807) (q3 : nc ≤ cc ∧ cc ≤ 9223372036854775807) :
    Calls Tryd.prog 3 #[.slice A na ca, .slice A2 nb cb, .slice A3 nc cc] w fun e w' => e = .returned (.bool true) ∧ Below w.heap.size w w' := by
  by_cases hl : 20 < na ∨ 20 < nb ∨ 20 < nc
  · exact gcdDivides_long hA A A2 A3 na ca nb cb nc cc w hl (by omega) (by omega) (by omega)
  · cases hm : both a b with
    | false => exact gcdDivides_bad hA A A2 A3 na ca nb cb nc cc a b w hG hra hrb (by omega) (by omega) (by omega) q1 q2 hm
    | true =>
      have hm2 : may a = true ∧ may b = true := by simpa [both] using hm
      have n1 := nm_of hra hm2.1 q1.1 q1.2
      have n2 := nm_of hrb hm2.2 q2.1 q2.2
      have hx := exactE_gcd (val a) (val b) c
      have t : ∀ {E : Int}, E = 0 → (E == 0) = true := fun h => by rw [h]; rfl
      have f : ∀ {E : Int}, E ≠ 0 → (E == 0) = false := fun h => by simpa using h
      by_cases hg0 : Nat.gcd (val a) (val b) = 0
      · have hna0 : na = 0 := n1.zero.2 (Nat.eq_zero_of_gcd_eq_zero_left hg0)
        have hnb0 : nb = 0 := n2.zero.2 (Nat.eq_zero_of_gcd_eq_zero_right hg0)
        by_cases e1 : exactE (limbs (val a)) c = 0
        · by_cases e2 : exactE (limbs (val b)) c = 0
          · exact gcdDivides_0ok hA A A2 A3 na ca nb cb nc cc c w hG hE _ _ n1 n2 hrc (by omega) (by omega) (by omega) q3 hg0 hna0 hnb0 (t e1) (t e2) (t (hx.2 ⟨e1, e2⟩))
          · exact gcdDivides_0b hA A A2 A3 na ca nb cb nc cc c w hG hE _ _ n1 n2 hrc (by omega) (by omega) (by omega) q3 hg0 hna0 hnb0 (t e1) (f e2) (f (fun h => e2 (hx.1 h).2))
        · exact gcdDivides_0a hA A A2 A3 na ca nb cb nc cc c w hG hE _ _ n1 n2 hrc (by omega) (by omega) (by omega) q3 hg0 hna0 hnb0 (f e1) (f (fun h => e1 (hx.1 h).1))
      · by_cases e1 : exactE (limbs (val a)) c = 0
        · by_cases e2 : exactE (limbs (val b)) c = 0
          · exact gcdDivides_1ok hA A A2 A3 na ca nb cb nc cc c w hG hE _ _ n1 n2 hrc (by omega) (by omega) (by omega) q3 hg0 (t e1) (t e2) (t (hx.2 ⟨e1, e2⟩))
          · exact gcdDivides_1b hA A A2 A3 na ca nb cb nc cc c w hG hE _ _ n1 n2 hrc (by omega) (by omega) (by omega) q3 hg0 (t e1) (f e2) (f (fun h => e2 (hx.1 h).2))
        · exact gcdDivides_1a hA A A2 A3 na ca nb cb nc cc c w hG hE _ _ n1 n2 hrc (by omega) (by omega) (by omega) q3 hg0 (f e1) (f (fun h => e1 (hx.1 h).1))
end

end Go.Proofs.YtoehkaagfokamaaDoor
