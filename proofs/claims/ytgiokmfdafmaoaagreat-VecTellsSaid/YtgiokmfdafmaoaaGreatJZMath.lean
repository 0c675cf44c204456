import Derived.Test.YtgiokmfdafmaoaaGreatJNum
/- ZMath. -/
/- Whole numbers: sums, products, quotients rounded down and up, signs. -/
namespace Go.Proofs.YtgiokmfdafmaoaaGreat
set_option linter.unusedVariables false
theorem zsum_same {z y : Int} (h : decide (z < 0) = decide (y < 0)) : decide (z + y < 0) = decide (z < 0) ∧ (z + y).natAbs = z.natAbs + y.natAbs := by
  rw [decide_eq_decide] at h ⊢
  omega
theorem zsum_even {z y : Int} (h : decide (z < 0) ≠ decide (y < 0)) (he : z.natAbs = y.natAbs) : z + y = 0 := by
  have h2 : ¬ (z < 0 ↔ y < 0) := fun x => h (decide_eq_decide.2 x)
  omega
theorem zsum_more {z y : Int} (h : decide (z < 0) ≠ decide (y < 0)) (he : y.natAbs < z.natAbs) : decide (z + y < 0) = decide (z < 0) ∧ (z + y).natAbs = z.natAbs - y.natAbs := by
  have h2 : ¬ (z < 0 ↔ y < 0) := fun x => h (decide_eq_decide.2 x)
  rw [decide_eq_decide]
  omega
theorem ztimes {z y : Int} : decide (z * y < 0) = ((decide (z < 0) != decide (y < 0)) && decide (z * y ≠ 0)) := by
  rcases Int.lt_trichotomy z 0 with h1 | h1 | h1 <;> rcases Int.lt_trichotomy y 0 with h2 | h2 | h2
  · have := Int.mul_pos_of_neg_of_neg h1 h2
    simp [h1, h2]; omega
  · subst h2; simp
  · have := Int.mul_neg_of_neg_of_pos h1 h2
    simp [h1, this, show ¬ y < 0 by omega]; omega
  · subst h1; simp
  · subst h1; simp
  · subst h1; simp
  · have := Int.mul_neg_of_pos_of_neg h1 h2
    simp [h2, this, show ¬ z < 0 by omega]; omega
  · subst h2; simp
  · have := Int.mul_pos h1 h2
    simp [show ¬ z < 0 by omega, show ¬ y < 0 by omega]; omega
theorem fdiv_of {z y q r : Int} (hy : y ≠ 0) (h : r + y * q = z) (h1 : 0 < y → 0 ≤ r ∧ r < y) (h2 : y < 0 → y < r ∧ r ≤ 0) : Int.fdiv z y = q := by
  rcases Int.lt_or_gt_of_ne hy with hn | hp
  · have e : Int.fdiv z y = Int.fdiv (-z) (-y) := (Int.neg_fdiv_neg z y).symm
    rw [e, Int.fdiv_eq_ediv_of_nonneg _ (by omega)]
    have := (Int.ediv_emod_unique (a := -z) (b := -y) (r := -r) (q := q) (by omega)).2 ⟨by rw [← h, Int.neg_mul]; omega, by have := h2 hn; omega, by have := h2 hn; omega⟩
    exact this.1
  · rw [Int.fdiv_eq_ediv_of_nonneg _ (by omega)]
    exact ((Int.ediv_emod_unique (a := z) (b := y) (r := r) (q := q) hp).2 ⟨h, (h1 hp).1, (h1 hp).2⟩).1
theorem fdiv_same {z y : Int} (hy : y ≠ 0) (h : decide (z < 0) = decide (y < 0)) : Int.fdiv z y = ((z.natAbs / y.natAbs : Nat) : Int) := by
  rw [decide_eq_decide] at h
  have hd := Nat.div_add_mod z.natAbs y.natAbs
  have hm := Nat.mod_lt z.natAbs (show 0 < y.natAbs by omega)
  generalize z.natAbs / y.natAbs = q at *
  generalize hr : z.natAbs % y.natAbs = r at *
  have hd2 : (y.natAbs : Int) * (q : Int) + r = z.natAbs := by exact_mod_cast hd
  by_cases hn : y < 0
  · refine fdiv_of (r := -(r : Int)) hy ?_ (fun h => by omega) (fun _ => by omega)
    have e : (y.natAbs : Int) = -y := by omega
    rw [e, Int.neg_mul] at hd2
    omega
  · refine fdiv_of (r := (r : Int)) hy ?_ (fun _ => by omega) (fun h => by omega)
    have e : (y.natAbs : Int) = y := by omega
    rw [e] at hd2
    omega
theorem fdiv_diff {z y : Int} (hy : y ≠ 0) (h : decide (z < 0) ≠ decide (y < 0)) : Int.fdiv z y = -(((z.natAbs / y.natAbs + (if z.natAbs % y.natAbs = 0 then 0 else 1) : Nat)) : Int) := by
  have h2 : ¬ (z < 0 ↔ y < 0) := fun x => h (decide_eq_decide.2 x)
  have hd := Nat.div_add_mod z.natAbs y.natAbs
  have hm := Nat.mod_lt z.natAbs (show 0 < y.natAbs by omega)
  generalize z.natAbs / y.natAbs = q at *
  generalize hr : z.natAbs % y.natAbs = r at *
  have hd2 : (y.natAbs : Int) * (q : Int) + r = z.natAbs := by exact_mod_cast hd
  by_cases hr0 : r = 0
  · subst hr0
    simp only [if_true, Nat.add_zero]
    refine fdiv_of (r := 0) hy ?_ (fun h => by omega) (fun _ => by omega)
    rw [Int.mul_neg]
    by_cases hn : y < 0
    · have e : (y.natAbs : Int) = -y := by omega
      rw [e, Int.neg_mul] at hd2
      omega
    · have e : (y.natAbs : Int) = y := by omega
      rw [e] at hd2
      omega
  · rw [if_neg hr0]
    by_cases hn : y < 0
    · refine fdiv_of (r := y + r) hy ?_ (fun h => by omega) (fun _ => by omega)
      have e : (y.natAbs : Int) = -y := by omega
      rw [e, Int.neg_mul] at hd2
      rw [Int.natCast_add, Int.mul_neg, Int.mul_add]
      omega
    · refine fdiv_of (r := y - r) hy ?_ (fun _ => by omega) (fun h => by omega)
      have e : (y.natAbs : Int) = y := by omega
      rw [e] at hd2
      rw [Int.natCast_add, Int.mul_neg, Int.mul_add]
      omega
theorem fdiv_exact {z y : Int} (hy : y ≠ 0) : Int.fdiv z y * y = z ↔ y ∣ z := by
  constructor
  · intro h; exact ⟨Int.fdiv z y, by rw [Int.mul_comm]; exact h.symm⟩
  · rintro ⟨k, rfl⟩
    rw [fdiv_of (z := y * k) (q := k) (r := 0) hy (by omega) (fun h => by omega) (fun h => by omega), Int.mul_comm]
theorem fdiv_spec {z y : Int} (hy : y ≠ 0) : ∃ r, r + y * Int.fdiv z y = z ∧ (0 < y → 0 ≤ r ∧ r < y) ∧ (y < 0 → y < r ∧ r ≤ 0) := by
  rcases Int.lt_or_gt_of_ne hy with hn | hp
  · have e : Int.fdiv z y = Int.fdiv (-z) (-y) := (Int.neg_fdiv_neg z y).symm
    rw [e, Int.fdiv_eq_ediv_of_nonneg _ (by omega)]
    have h1 := Int.emod_add_mul_ediv (-z) (-y)
    have h2 := Int.emod_nonneg (-z) (show -y ≠ 0 by omega)
    have h3 := Int.emod_lt_of_pos (-z) (show 0 < -y by omega)
    generalize (-z) % (-y) = s at *
    generalize (-z) / (-y) = q at *
    rw [Int.neg_mul] at h1
    exact ⟨-s, by omega, fun h => by omega, fun _ => by omega⟩
  · rw [Int.fdiv_eq_ediv_of_nonneg _ (by omega)]
    have h1 := Int.emod_add_mul_ediv z y
    have h2 := Int.emod_nonneg z hy
    have h3 := Int.emod_lt_of_pos z hp
    exact ⟨z % y, h1, fun _ => ⟨h2, h3⟩, fun h => by omega⟩
/-- The quotient rounded up. -/
def cdiv (a b : Int) : Int := -(Int.fdiv (-a) b)
def sgn (z : Int) : Int := if z < 0 then -1 else if 0 < z then 1 else 0
theorem cdiv_fdiv {z y : Int} (hy : y ≠ 0) : cdiv z y - Int.fdiv z y = if y ∣ z then 0 else 1 := by
  obtain ⟨r, h1, h2, h3⟩ := fdiv_spec (z := z) hy
  have hx := fdiv_exact (z := z) hy
  unfold cdiv
  generalize Int.fdiv z y = q at *
  rw [Int.mul_comm] at h1
  by_cases hr : r = 0
  · subst hr
    rw [if_pos (hx.1 (by omega))]
    rw [fdiv_of (z := -z) (q := -q) (r := 0) hy (by rw [Int.mul_neg, Int.mul_comm]; omega) (fun h => by omega) (fun h => by omega)]
    omega
  · rw [if_neg (fun h => by have := hx.2 h; omega)]
    rw [fdiv_of (z := -z) (q := -q - 1) (r := y - r) hy (by rw [Int.mul_sub, Int.mul_neg, Int.mul_one, Int.mul_comm]; omega) (fun h => by have := h2 h; omega) (fun h => by have := h3 h; omega)]
    omega
theorem rest_sgn {z y : Int} (hy : y ≠ 0) : (sgn (z - Int.fdiv z y * y) = 0 ↔ y ∣ z) ∧ (sgn (z - Int.fdiv z y * y) = 0 ∨ sgn (z - Int.fdiv z y * y) = sgn y) ∧ (z - Int.fdiv z y * y).natAbs < y.natAbs := by
  obtain ⟨r, h1, h2, h3⟩ := fdiv_spec (z := z) hy
  have hx := fdiv_exact (z := z) hy
  generalize Int.fdiv z y = q at *
  rw [Int.mul_comm] at h1
  have e : z - q * y = r := by omega
  rw [e]
  refine ⟨⟨fun h => hx.1 ?_, fun h => ?_⟩, ?_, ?_⟩
  · unfold sgn at h
    have : r = 0 := by split at h <;> (try split at h) <;> omega
    omega
  · have := hx.2 h
    have : r = 0 := by omega
    subst this; rfl
  · unfold sgn
    rcases Int.lt_or_gt_of_ne hy with hn | hp
    · have := h3 hn; split <;> (try split) <;> (try split) <;> omega
    · have := h2 hp; split <;> (try split) <;> (try split) <;> omega
  · rcases Int.lt_or_gt_of_ne hy with hn | hp
    · have := h3 hn; omega
    · have := h2 hp; omega
theorem sgn_neg (z : Int) : sgn (-z) = -(sgn z) := by unfold sgn; split <;> (try split) <;> (try split) <;> omega
theorem sgn_zero {z : Int} : sgn z = 0 ↔ z = 0 := by unfold sgn; split <;> (try split) <;> omega
theorem sgn_mul (z c : Int) : sgn (z * c) = sgn z * sgn c := by
  rcases Int.lt_trichotomy z 0 with h1 | h1 | h1 <;> rcases Int.lt_trichotomy c 0 with h2 | h2 | h2
  · have := Int.mul_pos_of_neg_of_neg h1 h2
    simp [sgn, h1, h2, this, show ¬ z * c < 0 by omega]
  · subst h2; simp [sgn]
  · have := Int.mul_neg_of_neg_of_pos h1 h2
    simp [sgn, h1, h2, this, show ¬ c < 0 by omega]
  · subst h1; simp [sgn]
  · subst h1; simp [sgn]
  · subst h1; simp [sgn]
  · have := Int.mul_neg_of_pos_of_neg h1 h2
    simp [sgn, h1, h2, this, show ¬ z < 0 by omega]
  · subst h2; simp [sgn]
  · have := Int.mul_pos h1 h2
    simp [sgn, h1, h2, this, show ¬ z < 0 by omega, show ¬ c < 0 by omega, show ¬ z * c < 0 by omega]
theorem sgn_one (z : Int) : sgn z = -1 ∨ sgn z = 0 ∨ sgn z = 1 := by unfold sgn; split <;> (try split) <;> omega
end Go.Proofs.YtgiokmfdafmaoaaGreat
