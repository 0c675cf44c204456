/- Plain numbers: lists of limbs to 2^64, the lowest first; what they are worth; the one list without noughts at its end. No program in sight. -/
namespace Go.Proofs.YtedhnnechjnnfaaDoor

theorem snoc_ind {α : Type} {P : List α → Prop} (h0 : P []) (h1 : ∀ l x, P l → P (l ++ [x])) : ∀ l, P l := by
  intro l
  rw [← l.reverse_reverse]
  induction l.reverse with
  | nil => exact h0
  | cons x r ih => rw [List.reverse_cons]; exact h1 _ _ ih

/-- 2^64. -/
def B64 : Nat := 18446744073709551616
theorem B64_eq : B64 = 18446744073709551616 := rfl
theorem B64_pos : 0 < B64 := by rw [B64_eq]; omega
theorem B64_gt : 1 < B64 := by rw [B64_eq]; omega

/-- What a list of limbs is worth. -/
def val : List Nat → Nat
  | [] => 0
  | x :: r => x + B64 * val r

/-- Each limb is a word. -/
def Words (l : List Nat) : Prop := ∀ x ∈ l, x < B64

/-- The last limb is not 0. -/
def may (l : List Nat) : Bool := l.getLast? != some 0

/-- The limb at a place; 0 beyond the last one. (A name of its own: the walk leaves it as it is.) -/
def lim (l : List Nat) (i : Nat) : Nat := l.getD i 0
theorem lim_eq (l : List Nat) (i : Nat) : lim l i = l.getD i 0 := rfl
theorem lim_past {l : List Nat} {i : Nat} (h : l.length ≤ i) : lim l i = 0 := by
  unfold lim; rw [List.getD_eq_getElem?_getD, List.getElem?_eq_none h]; rfl
theorem lim_get {l : List Nat} {i : Nat} (h : i < l.length) : lim l i = l[i] := by
  unfold lim; rw [List.getD_eq_getElem?_getD, List.getElem?_eq_getElem h]; rfl

theorem val_nil : val [] = 0 := rfl
theorem val_cons (x : Nat) (r : List Nat) : val (x :: r) = x + B64 * val r := rfl
theorem words_nil : Words [] := fun _ h => by cases h
theorem Words.tail {x : Nat} {r : List Nat} (h : Words (x :: r)) : Words r := fun y hy => h y (List.mem_cons_of_mem _ hy)
theorem Words.head {x : Nat} {r : List Nat} (h : Words (x :: r)) : x < B64 := h x List.mem_cons_self
theorem words_cons {x : Nat} {r : List Nat} (h : x < B64) (k : Words r) : Words (x :: r) := fun y hy => by
  rcases List.mem_cons.1 hy with rfl | hy
  · exact h
  · exact k y hy
theorem words_append {l m : List Nat} (h : Words l) (k : Words m) : Words (l ++ m) := fun y hy => by
  rcases List.mem_append.1 hy with hy | hy
  · exact h y hy
  · exact k y hy
theorem Words.take {l : List Nat} (h : Words l) (n : Nat) : Words (l.take n) := fun y hy => h y (List.mem_of_mem_take hy)
theorem Words.drop {l : List Nat} (h : Words l) (n : Nat) : Words (l.drop n) := fun y hy => h y (List.mem_of_mem_drop hy)
theorem Words.get {l : List Nat} (h : Words l) (i : Nat) : lim l i < B64 := by
  unfold lim
  rw [List.getD_eq_getElem?_getD]
  cases e : l[i]? with
  | none => exact B64_pos
  | some x => exact h x (List.mem_of_getElem? e)

theorem val_append (l m : List Nat) : val (l ++ m) = val l + B64 ^ l.length * val m := by
  induction l with
  | nil => simp [val]
  | cons x r ih =>
    simp only [List.cons_append, val_cons, ih, List.length_cons, Nat.pow_succ, Nat.mul_add]
    rw [← Nat.mul_assoc, Nat.mul_comm B64 (B64 ^ r.length)]
    omega
theorem val_lt {l : List Nat} (h : Words l) : val l < B64 ^ l.length := by
  induction l with
  | nil => simp [val]
  | cons x r ih =>
    have h1 := h.head
    have h2 := ih h.tail
    have h3 : B64 * (val r + 1) ≤ B64 * B64 ^ r.length := Nat.mul_le_mul_left _ h2
    rw [val_cons, List.length_cons, Nat.pow_succ, Nat.mul_comm (B64 ^ r.length)]
    rw [Nat.mul_add] at h3
    omega

/-- The list of limbs that a number is. -/
def limbs (n : Nat) : List Nat :=
  if _h : n = 0 then [] else (n % B64) :: limbs (n / B64)
termination_by n
decreasing_by exact Nat.div_lt_self (by omega) B64_gt

theorem limbs_zero : limbs 0 = [] := by rw [limbs]; rfl
theorem limbs_pos {n : Nat} (h : n ≠ 0) : limbs n = (n % B64) :: limbs (n / B64) := by rw [limbs, dif_neg h]
theorem val_limbs (n : Nat) : val (limbs n) = n := by
  induction n using Nat.strongRecOn with
  | _ n ih =>
    by_cases h : n = 0
    · subst h; rw [limbs_zero]; rfl
    · rw [limbs_pos h, val_cons, ih _ (Nat.div_lt_self (by omega) B64_gt)]
      exact Nat.mod_add_div n B64
theorem words_limbs (n : Nat) : Words (limbs n) := by
  induction n using Nat.strongRecOn with
  | _ n ih =>
    by_cases h : n = 0
    · subst h; rw [limbs_zero]; exact words_nil
    · rw [limbs_pos h]
      exact words_cons (Nat.mod_lt _ B64_pos) (ih _ (Nat.div_lt_self (by omega) B64_gt))
theorem limbs_eq_nil {n : Nat} : limbs n = [] ↔ n = 0 := by
  constructor
  · intro h
    have := val_limbs n
    rw [h] at this
    exact this.symm
  · rintro rfl; exact limbs_zero
theorem may_cons (x : Nat) (r : List Nat) : may (x :: r) = if r = [] then x != 0 else may r := by
  unfold may
  cases r with
  | nil => rfl
  | cons y s => simp [List.getLast?_cons_cons]
theorem may_limbs (n : Nat) : may (limbs n) = true := by
  induction n using Nat.strongRecOn with
  | _ n ih =>
    by_cases h : n = 0
    · subst h; rw [limbs_zero]; rfl
    · rw [limbs_pos h, may_cons]
      split
      · rename_i h1
        have h2 := limbs_eq_nil.1 h1
        have h3 := Nat.mod_add_div n B64
        rw [h2] at h3
        simp only [Nat.mul_zero, Nat.add_zero] at h3
        rw [h3]
        simpa using h
      · exact ih _ (Nat.div_lt_self (by omega) B64_gt)
theorem val_pos {l : List Nat} (h : may l = true) (hn : l ≠ []) : 0 < val l := by
  induction l with
  | nil => exact absurd rfl hn
  | cons x r ih =>
    rw [may_cons] at h
    rw [val_cons]
    split at h
    · have : x ≠ 0 := by simpa using h
      omega
    · rename_i h1
      have h2 := ih h h1
      have := Nat.mul_pos B64_pos h2
      omega
theorem limbs_val {l : List Nat} (hw : Words l) (h : may l = true) : limbs (val l) = l := by
  induction l with
  | nil => exact limbs_zero
  | cons x r ih =>
    have hp := val_pos h (by simp)
    have hx := hw.head
    rw [limbs_pos (by omega), val_cons]
    have e1 : (x + B64 * val r) % B64 = x := by rw [Nat.add_mul_mod_self_left]; exact Nat.mod_eq_of_lt hx
    have e2 : (x + B64 * val r) / B64 = val r := by rw [Nat.add_mul_div_left _ _ B64_pos, Nat.div_eq_of_lt hx]; omega
    rw [e1, e2]
    rw [may_cons] at h
    split at h
    · rename_i h1
      subst h1
      rw [val_nil, limbs_zero]
    · rw [ih hw.tail h]
theorem val_inj {l m : List Nat} (hl : Words l) (hm : Words m) (kl : may l = true) (km : may m = true) (h : val l = val m) : l = m := by
  rw [← limbs_val hl kl, h, limbs_val hm km]
theorem limbs_inj {n m : Nat} (h : limbs n = limbs m) : n = m := by rw [← val_limbs n, h, val_limbs m]

/-- What a list comes to when the noughts at its end are dropped: its first so many limbs. -/
theorem val_take_zeros {l : List Nat} {n : Nat} (h : ∀ i, n ≤ i → lim l i = 0) : val (l.take n) = val l := by
  simp only [lim] at h
  induction l generalizing n with
  | nil => simp
  | cons x r ih =>
    cases n with
    | zero =>
      have h0 := h 0 (by omega)
      have hr := ih (n := 0) (fun i _ => by have := h (i + 1) (by omega); simpa using this)
      simp at h0 hr
      rw [val_cons, ← hr]
      simp [h0, val]
    | succ n =>
      simp only [List.take_succ_cons, val_cons]
      rw [ih (fun i hi => by have := h (i + 1) (by omega); simpa using this)]
theorem may_take {l : List Nat} {n : Nat} (hn : n ≤ l.length) (h : n ≠ 0 → lim l (n - 1) ≠ 0) : may (l.take n) = true := by
  unfold may
  unfold lim at h
  by_cases h0 : n = 0
  · subst h0; simp
  · have hl : (l.take n).length = n := by simp; omega
    have h1 := h h0
    rw [List.getLast?_eq_getElem?, hl, List.getElem?_take, if_pos (by omega)]
    rw [List.getD_eq_getElem?_getD] at h1
    rw [List.getElem?_eq_getElem (by omega)] at h1 ⊢
    simpa using h1
theorem take_limbs {l : List Nat} {n : Nat} (hw : Words l) (hn : n ≤ l.length) (h : n ≠ 0 → lim l (n - 1) ≠ 0) (hz : ∀ i, n ≤ i → lim l i = 0) : l.take n = limbs (val l) := by
  rw [← val_take_zeros hz, limbs_val (hw.take n) (may_take hn h)]

/-- How many limbs a number has, by how great it is. -/
theorem limbs_length_le {n k : Nat} (h : n < B64 ^ k) : (limbs n).length ≤ k := by
  induction k generalizing n with
  | zero =>
    have : n = 0 := by simp at h; omega
    subst this; rw [limbs_zero]; simp
  | succ k ih =>
    by_cases h0 : n = 0
    · subst h0; rw [limbs_zero]; simp
    · rw [limbs_pos h0, List.length_cons]
      have : n / B64 < B64 ^ k := by
        rw [Nat.div_lt_iff_lt_mul B64_pos, ← Nat.pow_succ]; exact h
      have := ih this
      omega
theorem le_of_limbs {n : Nat} (h : n ≠ 0) : B64 ^ ((limbs n).length - 1) ≤ n := by
  induction n using Nat.strongRecOn with
  | _ n ih =>
    rw [limbs_pos h, List.length_cons, Nat.add_sub_cancel]
    by_cases h1 : n / B64 = 0
    · rw [h1, limbs_zero]; simp; omega
    · have h2 := ih _ (Nat.div_lt_self (by omega) B64_gt) h1
      have hl : (limbs (n / B64)).length ≠ 0 := by
        intro hc
        exact h1 (limbs_eq_nil.1 (List.eq_nil_of_length_eq_zero hc))
      have e : (limbs (n / B64)).length = (limbs (n / B64)).length - 1 + 1 := by omega
      rw [e, Nat.pow_succ]
      exact Nat.le_trans (Nat.mul_le_mul_right _ h2) (Nat.div_mul_le_self n B64)

/-! ### The limbs of two lists, place by place -/
theorem val_take_succ (l : List Nat) (k : Nat) : val (l.take (k + 1)) = val (l.take k) + B64 ^ k * lim l k := by
  unfold lim
  by_cases h : k < l.length
  · rw [List.take_succ_eq_append_getElem h, val_append]
    simp [val, List.length_take, Nat.min_eq_left (Nat.le_of_lt h), h]
  · rw [List.take_of_length_le (by omega), List.take_of_length_le (by omega)]
    simp [List.getD_eq_getElem?_getD, List.getElem?_eq_none (by omega : l.length ≤ k)]
theorem val_take_all {l : List Nat} {k : Nat} (h : l.length ≤ k) : val (l.take k) = val l := by rw [List.take_of_length_le h]

/-- Joined so far, with a carry: one place more. -/
theorem add_step {j a b c x y z d p : Nat} (h : j + p * c = a + b) (hz : z = (x + y + c) % B64) (hd : d = (x + y + c) / B64) : (j + p * z) + p * B64 * d = (a + p * x) + (b + p * y) := by
  have e := Nat.mod_add_div (x + y + c) B64
  rw [← hz, ← hd] at e
  have e2 : p * (z + B64 * d) = p * (x + y + c) := by rw [e]
  simp only [Nat.mul_add] at e2
  rw [Nat.mul_assoc]
  omega
theorem sub_step {j a b c x y z d p : Nat} (h : j + b = a + p * c) (hz : x + B64 * d = z + y + c) : (j + p * z) + (b + p * y) = (a + p * x) + p * B64 * d := by
  have e2 : p * (x + B64 * d) = p * (z + y + c) := by rw [hz]
  simp only [Nat.mul_add] at e2
  rw [Nat.mul_assoc]
  omega
end Go.Proofs.YtedhnnechjnnfaaDoor
