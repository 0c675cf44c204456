import Derived.Test.YtgiokmfdafmaoaaGreatJRowL
/- Prod. -/
/- Products of plain numbers: limb by limb, and by splitting. No program in sight. -/
namespace Go.Proofs.YtgiokmfdafmaoaaGreat
set_option linter.unusedVariables false

theorem lim_set {l : List Nat} {i : Nat} (hi : i < l.length) (v k : Nat) : lim (l.set i v) k = if k = i then v else lim l k := by
  unfold lim
  rw [List.getD_eq_getElem?_getD, List.getD_eq_getElem?_getD, List.getElem?_set]
  by_cases h : i = k
  · subst h; simp [hi]
  · rw [if_neg h, if_neg (fun e => h e.symm)]
theorem carry_key {P h l s c1 m t c2 B c : Nat} (e1 : l + B * h = P) (e2 : s + B * c1 = l + c) (e3 : t + B * c2 = m + s) : t + B * (h + c1 + c2) = P + c + m := by
  rw [Nat.mul_add, Nat.mul_add]; omega
theorem two_words {x y m c : Nat} (hx : x < B64) (hy : y < B64) (hm : m < B64) (hc : c < B64) : x * y + c + m < B64 * B64 := by
  obtain ⟨D, hD⟩ : ∃ D, B64 = D + 1 := ⟨B64 - 1, by have := B64_pos; omega⟩
  rw [hD] at hx hy hm hc ⊢
  have h : x * y ≤ D * D := Nat.mul_le_mul (by omega) (by omega)
  have e : (D + 1) * (D + 1) = D * D + D + D + 1 := by rw [Nat.add_mul, Nat.mul_add]; omega
  omega
/-- What one limb of a row comes to, and what is carried. -/
theorem row_carry {x y m c h l s c1 t c2 : Nat} (hx : x < B64) (hy : y < B64) (hm : m < B64) (hc : c < B64) (hh : x * y / B64 = h) (hl : x * y % B64 = l) (hs : (l + c) % B64 = s) (h1 : (l + c) / B64 = c1) (ht : (m + s) % B64 = t) (h2 : (m + s) / B64 = c2) :
    t + B64 * (h + c1 + c2) = x * y + c + m ∧ h + c1 + c2 < B64 ∧ h < B64 ∧ l < B64 ∧ s < B64 ∧ t < B64 := by
  have e1 := Nat.mod_add_div (x * y) B64
  have e2 := Nat.mod_add_div (l + c) B64
  have e3 := Nat.mod_add_div (m + s) B64
  rw [hh, hl] at e1
  rw [hs, h1] at e2
  rw [ht, h2] at e3
  have key := carry_key e1 e2 e3
  have hlt : h + c1 + c2 < B64 := by
    have h3 := two_words hx hy hm hc
    rw [← key] at h3
    exact Nat.lt_of_mul_lt_mul_left (a := B64) (by omega)
  exact ⟨key, hlt, by omega, by rw [← hl]; exact Nat.mod_lt _ B64_pos, by rw [← hs]; exact Nat.mod_lt _ B64_pos, by rw [← ht]; exact Nat.mod_lt _ B64_pos⟩
/-- One limb more of a row. -/
theorem row_step {L L0 b : List Nat} {i j x over limb next : Nat} (hij : i + j < L.length) (hs : limb + B64 * next = x * lim b j + over + lim L (i + j))
    (hv : val L + B64 ^ (i + j) * over = val L0 + B64 ^ i * (x * val (b.take j))) :
    val (L.set (i + j) limb) + B64 ^ (i + (j + 1)) * next = val L0 + B64 ^ i * (x * val (b.take (j + 1))) := by
  have h1 := val_set hij limb
  rw [val_take_succ]
  have e : B64 ^ (i + (j + 1)) * next = B64 ^ (i + j) * (B64 * next) := by rw [← Nat.add_assoc, Nat.pow_succ, Nat.mul_assoc]
  have e2 : B64 ^ i * (x * (val (b.take j) + B64 ^ j * lim b j)) = B64 ^ i * (x * val (b.take j)) + B64 ^ (i + j) * (x * lim b j) := by
    rw [Nat.mul_add, Nat.mul_add, Nat.pow_add, Nat.mul_left_comm x, Nat.mul_assoc]
  rw [e, e2]
  have h2 : B64 ^ (i + j) * (limb + B64 * next) = B64 ^ (i + j) * (x * lim b j + over + lim L (i + j)) := by rw [hs]
  simp only [Nat.mul_add] at h2
  omega
/-- One row more of a product by school. -/
theorem school_step {L L2 a b : List Nat} {i x over : Nat} (hL : Words L) (hb : Words b) (ha : Words a) (hil : i < a.length) (hx : lim a i = x) (hlen : i + b.length < L2.length)
    (hv : val L = val (a.take i) * val b) (h2 : val L2 + B64 ^ (i + b.length) * over = val L + B64 ^ i * (x * val b)) (hs : lim L2 (i + b.length) = lim L (i + b.length)) :
    val (L2.set (i + b.length) over) = val (a.take (i + 1)) * val b := by
  have h0 : lim L (i + b.length) = 0 := by
    apply lim_zero_of_lt hL
    rw [hv, Nat.pow_add]
    have h1 := val_lt (ha.take i)
    have h2 := val_lt hb
    rw [List.length_take, Nat.min_eq_left (by omega)] at h1
    have hp : 0 < B64 ^ b.length := Nat.pow_pos B64_pos
    exact Nat.lt_of_le_of_lt (Nat.mul_le_mul_left _ (Nat.le_of_lt h2)) (Nat.mul_lt_mul_of_pos_right h1 hp)
  have h1 := val_set hlen over
  rw [hs, h0, Nat.mul_zero, Nat.add_zero] at h1
  rw [h1, h2, hv, val_take_succ, hx, Nat.add_mul, Nat.mul_assoc]
/-- Three products of halves make the whole one. -/
theorem kara (a0 a1 b0 b1 p : Nat) : a0 * b0 + ((a0 + a1) * (b0 + b1) - a0 * b0 - a1 * b1) * p + a1 * b1 * (p * p) = (a0 + p * a1) * (b0 + p * b1) := by
  have e : (a0 + a1) * (b0 + b1) - a0 * b0 - a1 * b1 = a0 * b1 + a1 * b0 := by
    rw [Nat.add_mul, Nat.mul_add, Nat.mul_add]; omega
  rw [e]
  simp only [Nat.add_mul, Nat.mul_add]
  have e1 : a0 * (p * b1) = a0 * b1 * p := by rw [Nat.mul_left_comm, Nat.mul_comm]
  have e2 : p * a1 * b0 = a1 * b0 * p := by rw [Nat.mul_assoc, Nat.mul_comm]
  have e3 : p * a1 * (p * b1) = a1 * b1 * (p * p) := by rw [Nat.mul_mul_mul_comm, Nat.mul_comm]
  rw [e1, e2, e3]
  omega
theorem kara_le (a0 a1 b0 b1 : Nat) : a0 * b0 ≤ (a0 + a1) * (b0 + b1) ∧ a1 * b1 ≤ (a0 + a1) * (b0 + b1) - a0 * b0 := by
  rw [Nat.add_mul, Nat.mul_add, Nat.mul_add]; omega
theorem val_split (l : List Nat) {p : Nat} (h : p ≤ l.length) : val l = val (l.take p) + B64 ^ p * val (l.drop p) := by
  conv => lhs; rw [← List.take_append_drop p l]
  rw [val_append, List.length_take, Nat.min_eq_left h]
theorem val_split' (l : List Nat) (p : Nat) : val l = val (l.take p) + B64 ^ p * val (l.drop p) := by
  by_cases h : p ≤ l.length
  · exact val_split l h
  · rw [List.drop_eq_nil_of_le (by omega), List.take_of_length_le (by omega)]; rfl
theorem may_drop {l : List Nat} (h : may l = true) (p : Nat) : may (l.drop p) = true := by
  unfold may at h ⊢
  rw [List.getLast?_drop]
  split
  · rfl
  · exact h
/-- What is split is together less than it was, where there is a high part, and never more. -/
theorem split_le (l : List Nat) {p : Nat} : val (l.take p) + val (l.drop p) ≤ val l := by
  have h := val_split' l p
  have hp : 1 ≤ B64 ^ p := Nat.pow_pos B64_pos
  have := Nat.mul_le_mul_right (val (l.drop p)) hp
  omega
theorem split_lt {l : List Nat} {p : Nat} (hm : may l = true) (h0 : 0 < p) (hp : p < l.length) : val (l.take p) + val (l.drop p) < val l := by
  have h := val_split' l p
  have h1 : 0 < val (l.drop p) := val_pos (may_drop hm p) (by simp; omega)
  have hp : 2 ≤ B64 ^ p := by
    obtain ⟨q, rfl⟩ : ∃ q, p = q + 1 := ⟨p - 1, by omega⟩
    rw [Nat.pow_succ]
    have h2 : 1 ≤ B64 ^ q := Nat.pow_pos B64_pos
    have h3 : 2 ≤ B64 := B64_gt
    have := Nat.mul_le_mul h2 h3
    omega
  have := Nat.mul_le_mul_right (val (l.drop p)) hp
  omega
theorem length_mul {l m : List Nat} (hl : Words l) (hm : Words m) : (limbs (val l * val m)).length ≤ l.length + m.length := by
  apply limbs_length_le
  rw [Nat.pow_add]
  have h1 := val_lt hl
  have h2 := val_lt hm
  have hp : 0 < B64 ^ m.length := Nat.pow_pos B64_pos
  exact Nat.lt_of_le_of_lt (Nat.mul_le_mul_left _ (Nat.le_of_lt h2)) (Nat.mul_lt_mul_of_pos_right h1 hp)
theorem length_of_le {l : List Nat} {n : Nat} (hl : Words l) (h : n ≤ val l) : (limbs n).length ≤ l.length := limbs_length_le (Nat.lt_of_le_of_lt h (val_lt hl))
theorem limbs_up {l : List Nat} (hw : Words l) (hm : may l = true) (h : l ≠ []) (p : Nat) : List.replicate p 0 ++ l = limbs (val l * B64 ^ p) := by
  have e : val (List.replicate p 0 ++ l) = val l * B64 ^ p := by rw [val_append, val_zeros, List.length_replicate, Nat.zero_add, Nat.mul_comm]
  rw [← e, limbs_val (words_append (words_zeros p) hw)]
  unfold may at hm ⊢
  rw [List.getLast?_append]
  cases e2 : l.getLast? with
  | none => exact absurd (List.getLast?_eq_none_iff.1 e2) h
  | some x => rw [e2] at hm; exact hm
end Go.Proofs.YtgiokmfdafmaoaaGreat
