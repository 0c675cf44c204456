import Derived.Test.YtgiokmfdafmaoaaGreatJZMath
import Derived.Test.YtgiokmfdafmaoaaGreatJVOwn
/- VMath VVal. -/
/- Rows as functions of places: sums, contents, what is ahead. -/
namespace Go.Proofs.YtgiokmfdafmaoaaGreat
set_option linter.unusedVariables false
set_option linter.unusedSimpArgs false

/-- The sum of the first k values. -/
def sumTo (f : Nat → Int) : Nat → Int
  | 0 => 0
  | k + 1 => sumTo f k + f k
theorem sumTo_congr {f g : Nat → Int} {n : Nat} (h : ∀ i, i < n → f i = g i) : sumTo f n = sumTo g n := by
  induction n with
  | zero => rfl
  | succ k ih =>
    show sumTo f k + f k = sumTo g k + g k
    rw [ih fun i hi => h i (by omega), h k (by omega)]
theorem sumTo_mix (m n : Int) (f g : Nat → Int) (k : Nat) : sumTo (fun i => m * f i + n * g i) k = m * sumTo f k + n * sumTo g k := by
  induction k with
  | zero => simp [sumTo]
  | succ k ih =>
    show sumTo (fun i => m * f i + n * g i) k + (m * f k + n * g k) = m * (sumTo f k + f k) + n * (sumTo g k + g k)
    rw [ih, Int.mul_add, Int.mul_add]
    omega
/-- The greatest common divisor of the first k values' sizes. -/
def gcdTo (f : Nat → Int) : Nat → Nat
  | 0 => 0
  | k + 1 => Nat.gcd (gcdTo f k) (f k).natAbs
theorem gcdTo_congr {f g : Nat → Int} {n : Nat} (h : ∀ i, i < n → (f i).natAbs = (g i).natAbs) : gcdTo f n = gcdTo g n := by
  induction n with
  | zero => rfl
  | succ k ih =>
    show Nat.gcd (gcdTo f k) (f k).natAbs = Nat.gcd (gcdTo g k) (g k).natAbs
    rw [ih fun i hi => h i (by omega), h k (by omega)]
theorem gcdTo_dvd {f : Nat → Int} {n i : Nat} (hi : i < n) : gcdTo f n ∣ (f i).natAbs := by
  induction n with
  | zero => omega
  | succ k ih =>
    show Nat.gcd (gcdTo f k) (f k).natAbs ∣ _
    rcases Nat.lt_or_ge i k with h | h
    · exact Nat.dvd_trans (Nat.gcd_dvd_left _ _) (ih h)
    · obtain rfl : i = k := by omega
      exact Nat.gcd_dvd_right _ _
theorem gcdTo_scale (m : Int) (f : Nat → Int) (n : Nat) : gcdTo (fun i => m * f i) n = m.natAbs * gcdTo f n := by
  induction n with
  | zero => rfl
  | succ k ih =>
    show Nat.gcd (gcdTo (fun i => m * f i) k) (m * f k).natAbs = m.natAbs * Nat.gcd (gcdTo f k) (f k).natAbs
    rw [ih, Int.natAbs_mul, Nat.gcd_mul_left]
theorem gcdTo_zero {f : Nat → Int} {n : Nat} : gcdTo f n = 0 ↔ ∀ i, i < n → f i = 0 := by
  constructor
  · intro h i hi
    have h1 := gcdTo_dvd (f := f) hi
    rw [h] at h1
    have := Nat.eq_zero_of_zero_dvd h1
    omega
  · intro h
    induction n with
    | zero => rfl
    | succ k ih =>
      show Nat.gcd (gcdTo f k) (f k).natAbs = 0
      rw [ih fun i hi => h i (by omega), h k (by omega)]
      rfl
/-- What is divided by the content has the content 1. -/
theorem gcdTo_prime {f g : Nat → Int} {n c : Nat} (hc : gcdTo f n = c) (h0 : c ≠ 0) (h : ∀ i, i < n → f i = (c : Int) * g i) : gcdTo g n = 1 := by
  have h1 : gcdTo f n = gcdTo (fun i => (c : Int) * g i) n := gcdTo_congr fun i hi => by rw [h i hi]
  rw [gcdTo_scale, hc, Int.natAbs_natCast] at h1
  have h2 : c * 1 = c * gcdTo g n := by omega
  exact (Nat.eq_of_mul_eq_mul_left (by omega) h2).symm
/-- The first value that is not 0. -/
def firstTo (f : Nat → Int) : Nat → Int
  | 0 => 0
  | k + 1 => if firstTo f k ≠ 0 then firstTo f k else f k
theorem firstTo_congr {f g : Nat → Int} {n : Nat} (h : ∀ i, i < n → f i = g i) : firstTo f n = firstTo g n := by
  induction n with
  | zero => rfl
  | succ k ih =>
    unfold firstTo
    rw [ih fun i hi => h i (by omega), h k (by omega)]
theorem firstTo_neg (f : Nat → Int) (n : Nat) : firstTo (fun i => -(f i)) n = -(firstTo f n) := by
  induction n with
  | zero => rfl
  | succ k ih =>
    unfold firstTo
    rw [ih]
    by_cases h : firstTo f k = 0
    · rw [if_neg (by omega), if_neg (by omega)]
    · rw [if_pos (by omega), if_pos h]
theorem firstTo_zero {f : Nat → Int} {n : Nat} : firstTo f n = 0 ↔ ∀ i, i < n → f i = 0 := by
  induction n with
  | zero => exact ⟨fun _ i hi => by omega, fun _ => rfl⟩
  | succ k ih =>
    unfold firstTo
    by_cases h : firstTo f k = 0
    · rw [if_neg (by omega)]
      constructor
      · intro h2 i hi
        rcases Nat.lt_or_ge i k with h3 | h3
        · exact ih.1 h i h3
        · obtain rfl : i = k := by omega
          exact h2
      · exact fun h2 => h2 k (by omega)
    · rw [if_pos h]
      exact ⟨fun h2 => absurd h2 h, fun h2 => absurd (ih.2 fun i hi => h2 i (by omega)) h⟩
/-- It stands once it has been found. -/
theorem firstTo_found {f : Nat → Int} {k n : Nat} (h : ∀ i, i < k → f i = 0) (hk : f k ≠ 0) (hn : k < n) : firstTo f n = f k := by
  induction n with
  | zero => omega
  | succ m ih =>
    unfold firstTo
    rcases Nat.lt_or_ge k m with h1 | h1
    · have h2 := ih h1
      rw [h2, if_pos hk]
    · obtain rfl : k = m := by omega
      rw [firstTo_zero.2 h, if_neg (by omega)]
end Go.Proofs.YtgiokmfdafmaoaaGreat

/- What numbers a row holds. -/
namespace Go.Proofs.YtgiokmfdafmaoaaGreat
open Go.RowKit Go.Shelf
set_option linter.unusedVariables false
set_option linter.unusedSimpArgs false

/-- What two rows are compared by: signs and limbs. -/
def ZE.key (e : ZE) : Bool × List Nat := (e.p, e.l)
def keys (L : List ZE) : List (Bool × List Nat) := L.map ZE.key
theorem keys_len (L : List ZE) : (keys L).length = L.length := List.length_map ..
/-- The i-th number, 0 beyond the row. -/
def zat (L : List ZE) (i : Nat) : Int := match L[i]? with
  | some e => zof e.p e.l
  | none => 0
theorem zat_some {L : List ZE} {i : Nat} {e : ZE} (h : L[i]? = some e) : zat L i = zof e.p e.l := by unfold zat; rw [h]
/-- The row is the first n values of f. -/
structure IsV (L : List ZE) (n : Nat) (f : Nat → Int) : Prop where
  len : L.length = n
  num : ∀ i e, L[i]? = some e → e.p = decide (f i < 0) ∧ e.l = limbs (f i).natAbs
theorem isv_nil (f : Nat → Int) : IsV [] 0 f := ⟨rfl, fun i e h => by cases h⟩
theorem IsV.push {L : List ZE} {n : Nat} {f : Nat → Int} {e : ZE} (h : IsV L n f) (h1 : e.p = decide (f n < 0)) (h2 : e.l = limbs (f n).natAbs) : IsV (L ++ [e]) (n + 1) f := by
  refine ⟨by rw [List.length_append, h.len]; rfl, fun i x hx => ?_⟩
  rcases Nat.lt_or_ge i n with hi | hi
  · rw [List.getElem?_append_left (by rw [h.len]; exact hi)] at hx
    exact h.num i x hx
  · rw [List.getElem?_append_right (by rw [h.len]; exact hi), h.len] at hx
    have hi2 : i = n := by
      rcases Nat.eq_zero_or_pos (i - n) with h0 | h0
      · omega
      · obtain ⟨j, hj⟩ : ∃ j, i - n = j + 1 := ⟨i - n - 1, by omega⟩
        rw [hj] at hx
        cases hx
    subst hi2
    rw [Nat.sub_self] at hx
    cases hx
    exact ⟨h1, h2⟩
theorem IsV.congr {L : List ZE} {n : Nat} {f g : Nat → Int} (h : IsV L n f) (hfg : ∀ i, i < n → f i = g i) : IsV L n g := by
  refine ⟨h.len, fun i e he => ?_⟩
  have hi : i < n := by rw [← h.len]; exact (List.getElem?_eq_some_iff.1 he).1
  rw [← hfg i hi]
  exact h.num i e he
theorem IsV.zat {L : List ZE} {n : Nat} {f : Nat → Int} (h : IsV L n f) {i : Nat} (hi : i < n) : Go.Proofs.YtgiokmfdafmaoaaGreat.zat L i = f i := by
  have hi2 : i < L.length := by rw [h.len]; exact hi
  have he := List.getElem?_eq_getElem hi2
  rw [zat_some he, (h.num i _ he).1, (h.num i _ he).2, zof_num]
/-- A row that may be is its own numbers. -/
theorem isv_may {L : List ZE} (h : mayV L = true) (hw : ∀ e, e ∈ L → Words e.l) : IsV L L.length (zat L) := by
  refine ⟨rfl, fun i e he => ?_⟩
  unfold mayV at h
  rw [List.all_eq_true] at h
  have hm := List.mem_of_getElem? he
  have h1 := h e hm
  rw [zat_some he]
  refine ⟨(zof_neg h1).symm, ?_⟩
  rw [zof_abs, limbs_val (hw e hm) (mayZ_may h1)]
/-- Two rows of the same numbers have the same keys. -/
theorem IsV.same {L M : List ZE} {n : Nat} {f : Nat → Int} (h : IsV L n f) (k : IsV M n f) : keys L = keys M := by
  unfold keys
  apply List.ext_getElem?
  intro i
  rw [List.getElem?_map, List.getElem?_map]
  cases hL : L[i]? with
  | none =>
    have h1 : M[i]? = none := by
      rw [List.getElem?_eq_none_iff] at hL ⊢
      rw [k.len, ← h.len]
      exact hL
    rw [h1]
  | some x =>
    have hi : i < M.length := by rw [k.len, ← h.len]; exact (List.getElem?_eq_some_iff.1 hL).1
    have hM := List.getElem?_eq_getElem hi
    rw [hM]
    have h1 := h.num i x hL
    have h2 := k.num i _ hM
    show some (ZE.key x) = some (ZE.key _)
    unfold ZE.key
    rw [h1.1, h1.2, h2.1, h2.2]
/-- .. and only they. -/
theorem IsV.keys {L M : List ZE} {n : Nat} {f g : Nat → Int} (h : IsV L n f) (k : IsV M n g) (he : keys L = keys M) {i : Nat} (hi : i < n) : f i = g i := by
  have h1 : (Go.Proofs.YtgiokmfdafmaoaaGreat.keys L)[i]? = (Go.Proofs.YtgiokmfdafmaoaaGreat.keys M)[i]? := by rw [he]
  unfold Go.Proofs.YtgiokmfdafmaoaaGreat.keys at h1
  rw [List.getElem?_map, List.getElem?_map, List.getElem?_eq_getElem (show i < L.length by rw [h.len]; exact hi), List.getElem?_eq_getElem (show i < M.length by rw [k.len]; exact hi)] at h1
  have h2 := h.num i _ (List.getElem?_eq_getElem (show i < L.length by rw [h.len]; exact hi))
  have h3 := k.num i _ (List.getElem?_eq_getElem (show i < M.length by rw [k.len]; exact hi))
  simp only [Option.map_some, Option.some.injEq] at h1
  unfold ZE.key at h1
  rw [h2.1, h2.2, h3.1, h3.2, Prod.mk.injEq, decide_eq_decide] at h1
  have h4 := limbs_inj h1.2
  omega
end Go.Proofs.YtgiokmfdafmaoaaGreat
