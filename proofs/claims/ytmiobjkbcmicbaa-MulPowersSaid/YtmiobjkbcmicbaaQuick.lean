/- (mul.number).split and quick: products, whichever way. -/
import Derived.Test.YtmiobjkbcmicbaaThreeQ
namespace Go.Proofs.Ytmiobjkbcmicbaa
open Go.RowKit Go.Shelf
set_option linter.unusedVariables false

set_option maxRecDepth 100000 in
set_option maxHeartbeats 2000000 in
theorem split_small (A A2 : Option Addr) (na ca nb cb v u N : Nat) (w : World) (hva : Nm w A na ca v) (hub : Nm w A2 nb cb u) (hN : N ≤ 16777216) (hv : v < B64 ^ N) (hu : u < B64 ^ N) (hs : (nb < na ∧ nb ≤ 1) ∨ (na ≤ nb ∧ na ≤ 1)) :
    Calls Try.prog 22 #[.slice A na ca, .slice A2 nb cb] w fun e w' => ∃ A' k c', e = .returned (.slice A' k c') ∧ Own w' w.heap.size (.slice A' k c') (limbs (v * u)) ∧ Below w.heap.size w w' := by
  have h1 := hva.len hv
  have h2 := hub.len hu
  clear hv hu
  rcases hs with ⟨hlt, hf⟩ | ⟨hlt, hf⟩
  all_goals
    go_enter Try.func22, Try.ntmps22
    go_wp2_with fail
    refine (school_any A A2 na ca nb cb (limbs v) (limbs u) _ hva.rd hub.rd (by omega) (by omega)).mono ?_
    rw [val_limbs, val_limbs]
    rintro e w1 ⟨A3, k, c, rfl, o, hb⟩
    go_wp2_with fail
    go_ret
    exact ⟨_, _, _, rfl, o, hb⟩
set_option maxRecDepth 100000 in
set_option maxHeartbeats 2000000 in
theorem split_great (A A2 : Option Addr) (na ca nb cb v u N : Nat) (w : World) (hT : MulsAt 22 N (v + u)) (hva : Nm w A na ca v) (hub : Nm w A2 nb cb u) (hN : N ≤ 16777216) (hv : v < B64 ^ N) (hu : u < B64 ^ N)
    (hs : (nb < na ∧ ¬ nb ≤ 1) ∨ (na ≤ nb ∧ ¬ na ≤ 1)) :
    Calls Try.prog 22 #[.slice A na ca, .slice A2 nb cb] w fun e w' => ∃ A' k c', e = .returned (.slice A' k c') ∧ Own w' w.heap.size (.slice A' k c') (limbs (v * u)) ∧ Below w.heap.size w w' := by
  have hp : ∃ p, (na < nb ∧ (nb + 1) / 2 = p ∧ 2 ≤ nb) ∨ (nb ≤ na ∧ (na + 1) / 2 = p ∧ 2 ≤ na) := by
    rcases Nat.lt_or_ge na nb with h | h
    · exact ⟨_, .inl ⟨h, rfl, by omega⟩⟩
    · exact ⟨_, .inr ⟨h, rfl, by omega⟩⟩
  obtain ⟨p, hp⟩ := hp
  have HP := Lib.hid hp
  have HT := Lib.hid hT
  have HV := Lib.hid hv
  have HU := Lib.hid hu
  clear hp hT hv hu
  rcases hs with ⟨hlt, hf⟩ | ⟨hlt, hf⟩
  all_goals
    go_enter Try.func22, Try.ntmps22
    go_wp2_with fail
    refine (three_split A A2 na ca nb cb v u p N _ HT.out hva hub hN HV.out HU.out HP.out).mono ?_
    rintro e w1 ⟨A3, k, c, rfl, o, hb⟩
    go_wp2_with fail
    go_ret
    exact ⟨_, _, _, rfl, o, hb⟩
/-- Products by split. -/
theorem split_muls (N : Nat) (hN : N ≤ 16777216) : ∀ M, MulsAt 22 N M := by
  intro M
  induction M with
  | zero => intro A n c v A2 n2 c2 u w _ _ _ _ h; omega
  | succ M ih =>
    intro A n c v A2 n2 c2 u w hva hub hv hu h
    have hT : MulsAt 22 N (v + u) := fun A n c v' A2 n2 c2 u' w h1 h2 h3 h4 h5 => ih A n c v' A2 n2 c2 u' w h1 h2 h3 h4 (by omega)
    by_cases hs : (n2 < n ∧ n2 ≤ 1) ∨ (n ≤ n2 ∧ n ≤ 1)
    · exact split_small A A2 n c n2 c2 v u N w hva hub hN hv hu hs
    · exact split_great A A2 n c n2 c2 v u N w hT hva hub hN hv hu (by omega)
theorem split_any (A A2 : Option Addr) (na ca nb cb v u N : Nat) (w : World) (hva : Nm w A na ca v) (hub : Nm w A2 nb cb u) (hN : N ≤ 16777216) (hv : v < B64 ^ N) (hu : u < B64 ^ N) :
    Calls Try.prog 22 #[.slice A na ca, .slice A2 nb cb] w fun e w' => ∃ A' k c', e = .returned (.slice A' k c') ∧ Own w' w.heap.size (.slice A' k c') (limbs (v * u)) ∧ Below w.heap.size w w' :=
  split_muls N hN (v + u + 1) A na ca v A2 nb cb u w hva hub hv hu (by omega)

set_option maxRecDepth 100000 in
set_option maxHeartbeats 2000000 in
theorem quick_small (A A2 : Option Addr) (na ca nb cb v u N : Nat) (w : World) (hva : Nm w A na ca v) (hub : Nm w A2 nb cb u) (hN : N ≤ 16777216) (hv : v < B64 ^ N) (hu : u < B64 ^ N) (hs : (nb < na ∧ nb < 200) ∨ (na ≤ nb ∧ na < 200)) :
    Calls Try.prog 23 #[.slice A na ca, .slice A2 nb cb] w fun e w' => ∃ A' k c', e = .returned (.slice A' k c') ∧ Own w' w.heap.size (.slice A' k c') (limbs (v * u)) ∧ Below w.heap.size w w' := by
  have h1 := hva.len hv
  have h2 := hub.len hu
  clear hv hu
  rcases hs with ⟨hlt, hf⟩ | ⟨hlt, hf⟩
  all_goals
    go_enter Try.func23, Try.ntmps23
    go_wp2_with fail
    refine (school_any A A2 na ca nb cb (limbs v) (limbs u) _ hva.rd hub.rd (by omega) (by omega)).mono ?_
    rw [val_limbs, val_limbs]
    rintro e w1 ⟨A3, k, c, rfl, o, hb⟩
    go_wp2_with fail
    go_ret
    exact ⟨_, _, _, rfl, o, hb⟩
set_option maxRecDepth 100000 in
set_option maxHeartbeats 2000000 in
theorem quick_great (A A2 : Option Addr) (na ca nb cb v u N : Nat) (w : World) (hT : MulsAt 23 N (v + u)) (hva : Nm w A na ca v) (hub : Nm w A2 nb cb u) (hN : N ≤ 16777216) (hv : v < B64 ^ N) (hu : u < B64 ^ N)
    (hs : (nb < na ∧ ¬ nb < 200) ∨ (na ≤ nb ∧ ¬ na < 200)) :
    Calls Try.prog 23 #[.slice A na ca, .slice A2 nb cb] w fun e w' => ∃ A' k c', e = .returned (.slice A' k c') ∧ Own w' w.heap.size (.slice A' k c') (limbs (v * u)) ∧ Below w.heap.size w w' := by
  have hp : ∃ p, (na < nb ∧ (nb + 1) / 2 = p ∧ 2 ≤ nb) ∨ (nb ≤ na ∧ (na + 1) / 2 = p ∧ 2 ≤ na) := by
    rcases Nat.lt_or_ge na nb with h | h
    · exact ⟨_, .inl ⟨h, rfl, by omega⟩⟩
    · exact ⟨_, .inr ⟨h, rfl, by omega⟩⟩
  obtain ⟨p, hp⟩ := hp
  have HP := Lib.hid hp
  have HT := Lib.hid hT
  have HV := Lib.hid hv
  have HU := Lib.hid hu
  clear hp hT hv hu
  rcases hs with ⟨hlt, hf⟩ | ⟨hlt, hf⟩
  all_goals
    go_enter Try.func23, Try.ntmps23
    go_wp2_with fail
    refine (three_quick A A2 na ca nb cb v u p N _ HT.out hva hub hN HV.out HU.out HP.out).mono ?_
    rintro e w1 ⟨A3, k, c, rfl, o, hb⟩
    go_wp2_with fail
    go_ret
    exact ⟨_, _, _, rfl, o, hb⟩
/-- Products by quick. -/
theorem quick_muls (N : Nat) (hN : N ≤ 16777216) : ∀ M, MulsAt 23 N M := by
  intro M
  induction M with
  | zero => intro A n c v A2 n2 c2 u w _ _ _ _ h; omega
  | succ M ih =>
    intro A n c v A2 n2 c2 u w hva hub hv hu h
    have hT : MulsAt 23 N (v + u) := fun A n c v' A2 n2 c2 u' w h1 h2 h3 h4 h5 => ih A n c v' A2 n2 c2 u' w h1 h2 h3 h4 (by omega)
    by_cases hs : (n2 < n ∧ n2 < 200) ∨ (n ≤ n2 ∧ n < 200)
    · exact quick_small A A2 n c n2 c2 v u N w hva hub hN hv hu hs
    · exact quick_great A A2 n c n2 c2 v u N w hT hva hub hN hv hu (by omega)
theorem quick_any (A A2 : Option Addr) (na ca nb cb v u N : Nat) (w : World) (hva : Nm w A na ca v) (hub : Nm w A2 nb cb u) (hN : N ≤ 16777216) (hv : v < B64 ^ N) (hu : u < B64 ^ N) :
    Calls Try.prog 23 #[.slice A na ca, .slice A2 nb cb] w fun e w' => ∃ A' k c', e = .returned (.slice A' k c') ∧ Own w' w.heap.size (.slice A' k c') (limbs (v * u)) ∧ Below w.heap.size w w' :=
  quick_muls N hN (v + u + 1) A na ca v A2 nb cb u w hva hub hv hu (by omega)
end Go.Proofs.Ytmiobjkbcmicbaa
