import Derived.Test.YtgiokmfdafmaoaaGreatJDivSpec
/- RefGcd. -/
/- The document's greatest common divisor and least common multiple: plain numbers, and what its parts answer. -/
namespace Go.Proofs.YtgiokmfdafmaoaaGreat
open Go.RowKit Go.Shelf
set_option linter.unusedVariables false
set_option linter.unusedSimpArgs false

theorem gcd_odd {b : Nat} (hb : b % 2 = 1) (a : Nat) : Nat.gcd (2 * a) b = Nat.gcd a b :=
  Nat.Coprime.gcd_mul_left_cancel a (by show Nat.gcd 2 b = 1; rw [Nat.gcd_rec, hb]; exact Nat.gcd_one_left 2)
theorem gcd_half_left {a b : Nat} (ha : a % 2 = 0) (hb : b % 2 = 1) : Nat.gcd (a / 2) b = Nat.gcd a b := by
  have h := gcd_odd hb (a / 2)
  rw [show 2 * (a / 2) = a by omega] at h
  exact h.symm
theorem gcd_half_right {a b : Nat} (ha : a % 2 = 1) (hb : b % 2 = 0) : Nat.gcd a (b / 2) = Nat.gcd a b := by
  rw [Nat.gcd_comm, gcd_half_left hb ha, Nat.gcd_comm]
theorem gcd_half_both {a b : Nat} (ha : a % 2 = 0) (hb : b % 2 = 0) : 2 * Nat.gcd (a / 2) (b / 2) = Nat.gcd a b := by
  rw [← Nat.gcd_mul_left, show 2 * (a / 2) = a by omega, show 2 * (b / 2) = b by omega]
theorem gcd_rest_left {a b : Nat} (h : b ≤ a) : Nat.gcd (a - b) b = Nat.gcd a b := Nat.gcd_sub_self_left h
theorem gcd_rest_right {a b : Nat} (h : a ≤ b) : Nat.gcd a (b - a) = Nat.gcd a b := by rw [Nat.gcd_comm, gcd_rest_left h, Nat.gcd_comm]
theorem int_eq0 {n : Nat} (h : n ≠ 0) : ((n : Int) == 0) = false := by simp; omega
theorem nbit_low (v : Nat) : nbit v 0 = v % 2 := by simp [nbit]

/-! ### The number that a slice is, as a function: what a loop over numbers counts down -/
theorem nm_same {w : World} {A : Option Addr} {n c v u : Nat} (h : Nm w A n c v) (k : Nm w A n c u) : v = u := by
  have e : limbs v = limbs u := by
    refine eq_of_lim (by rw [h.rd.len, k.rd.len]) fun i hi => ?_
    rw [h.rd.len] at hi
    obtain ⟨b, off, rfl, hb, hc⟩ := h.rd.cells (by omega)
    obtain ⟨b2, off2, e2, _, hc2⟩ := k.rd.cells (by omega)
    cases e2
    have h1 := hc i hi
    rw [hc2 i hi] at h1
    have h2 : ((lim (limbs u) i : Nat) : Int) = ((lim (limbs v) i : Nat) : Int) := by simpa using h1
    omega
  exact limbs_inj e
open Classical in
/-- The number that a value is in a world; 0 if it is none. -/
noncomputable def numOf (w : World) (x : Value) : Nat := if h : ∃ v A n c, x = .slice A n c ∧ Nm w A n c v then h.choose else 0
theorem numOf_is {w : World} {A : Option Addr} {n c v : Nat} (h : Nm w A n c v) : numOf w (.slice A n c) = v := by
  have hx : ∃ v A' n' c', Value.slice A n c = .slice A' n' c' ∧ Nm w A' n' c' v := ⟨v, A, n, c, rfl, h⟩
  unfold numOf
  rw [dif_pos hx]
  obtain ⟨A', n', c', e, h2⟩ := hx.choose_spec
  cases e
  exact nm_same h2 h
end Go.Proofs.YtgiokmfdafmaoaaGreat
