import Derived.Test.YtbldimplddiheaaGreatDoorKNum
/- Digits. -/
/- Digits to ten: a number as a text, the number of a text. -/
namespace Go.Proofs.YtbldimplddiheaaGreatDoor
set_option linter.unusedVariables false

def dig (d : Nat) : UInt8 := UInt8.ofNat (48 + d)
theorem dig_nat {d : Nat} (h : d < 10) : (dig d).toNat = 48 + d := by
  unfold dig
  rw [UInt8.toNat_ofNat']
  exact Nat.mod_eq_of_lt (by omega)
/-- The digits of a number, the highest first; none for 0. -/
def tenL (n : Nat) : List UInt8 := if _h : n = 0 then [] else tenL (n / 10) ++ [dig (n % 10)]
termination_by n
decreasing_by omega
theorem tenL_zero : tenL 0 = [] := by rw [tenL]; rfl
theorem tenL_pos {n : Nat} (h : n ≠ 0) : tenL n = tenL (n / 10) ++ [dig (n % 10)] := by rw [tenL, dif_neg h]
def textL (n : Nat) : List UInt8 := if n = 0 then [48] else tenL n
def textB (n : Nat) : ByteArray := ⟨(textL n).toArray⟩
/-- The number of a text of digits. -/
def numV (l : List UInt8) : Nat := l.foldl (fun v c => v * 10 + (c.toNat - 48)) 0
def isD (c : UInt8) : Bool := decide (48 ≤ c.toNat) && decide (c.toNat ≤ 57)
def okL (l : List UInt8) : Bool := !l.isEmpty && (l.head? != some 48 || l.length == 1) && l.all isD
theorem numV_nil : numV [] = 0 := rfl
theorem numV_snoc (l : List UInt8) (c : UInt8) : numV (l ++ [c]) = numV l * 10 + (c.toNat - 48) := by
  unfold numV; rw [List.foldl_append]; rfl
theorem isD_dig {d : Nat} (h : d < 10) : isD (dig d) = true := by
  unfold isD; rw [dig_nat h]; simp; omega
theorem dig_inj {c : UInt8} (h : isD c = true) : dig (c.toNat - 48) = c := by
  unfold isD at h
  simp only [Bool.and_eq_true, decide_eq_true_eq] at h
  apply UInt8.toNat_inj.1
  rw [dig_nat (by omega)]; omega
theorem numV_ten (n : Nat) : numV (tenL n) = n := by
  induction n using Nat.strongRecOn with
  | _ n ih =>
    by_cases h : n = 0
    · subst h; rw [tenL_zero]; rfl
    · rw [tenL_pos h, numV_snoc, ih _ (by omega), dig_nat (by omega)]; omega
theorem numV_text (n : Nat) : numV (textL n) = n := by
  unfold textL
  by_cases h : n = 0
  · subst h; rfl
  · rw [if_neg h]; exact numV_ten n
theorem all_ten (n : Nat) : (tenL n).all isD = true := by
  induction n using Nat.strongRecOn with
  | _ n ih =>
    by_cases h : n = 0
    · subst h; rw [tenL_zero]; rfl
    · rw [tenL_pos h, List.all_append, ih _ (by omega)]
      simp [isD_dig (show n % 10 < 10 by omega)]
theorem ten_ne {n : Nat} (h : n ≠ 0) : tenL n ≠ [] := by rw [tenL_pos h]; simp
theorem dig_ne {d : Nat} (h : d < 10) (h0 : d ≠ 0) : dig d ≠ 48 := by
  intro e
  have := congrArg UInt8.toNat e
  rw [dig_nat h] at this
  simp at this; omega
theorem head_ten {n : Nat} (h : n ≠ 0) : (tenL n).head? ≠ some 48 := by
  induction n using Nat.strongRecOn with
  | _ n ih =>
    rw [tenL_pos h]
    by_cases h1 : n / 10 = 0
    · rw [h1, tenL_zero, List.nil_append, List.head?_cons]
      intro e
      exact dig_ne (show n % 10 < 10 by omega) (by omega) (Option.some.inj e)
    · obtain ⟨x, r, e⟩ := List.exists_cons_of_ne_nil (ten_ne h1)
      have := ih _ (by omega) h1
      rw [e] at this ⊢
      simpa using this
theorem ok_text (n : Nat) : okL (textL n) = true := by
  unfold textL
  by_cases h : n = 0
  · rw [if_pos h]; decide
  · rw [if_neg h]
    unfold okL
    have h1 := ten_ne h
    have h2 := head_ten h
    rw [all_ten]
    simp [h1, h2]
theorem ten_num {l : List UInt8} (h : l.all isD = true) (h0 : l.head? ≠ some 48) : tenL (numV l) = l := by
  induction l using snoc_ind with
  | h0 => rw [numV_nil, tenL_zero]
  | h1 l c ih =>
    rw [List.all_append, Bool.and_eq_true] at h
    have hc : isD c = true := by simpa using h.2
    have hc2 := hc
    unfold isD at hc2
    simp only [Bool.and_eq_true, decide_eq_true_eq] at hc2
    rw [numV_snoc]
    by_cases hl : l = []
    · subst hl
      have h3 : c ≠ 48 := by simpa using h0
      have h4 : c.toNat ≠ 48 := fun e => h3 (UInt8.toNat_inj.1 e)
      rw [numV_nil, Nat.zero_mul, Nat.zero_add, tenL_pos (by omega), Nat.div_eq_of_lt (by omega), tenL_zero, Nat.mod_eq_of_lt (by omega), dig_inj hc]
    · have h5 : l.head? ≠ some 48 := by
        obtain ⟨x, r, e⟩ := List.exists_cons_of_ne_nil hl
        subst e
        simpa using h0
      have e := ih h.1 h5
      have h6 : numV l ≠ 0 := fun z => by rw [z, tenL_zero] at e; exact hl e.symm
      rw [tenL_pos (by omega)]
      have e1 : (numV l * 10 + (c.toNat - 48)) / 10 = numV l := by omega
      have e2 : (numV l * 10 + (c.toNat - 48)) % 10 = c.toNat - 48 := by omega
      rw [e1, e2, e, dig_inj hc]
theorem text_num {l : List UInt8} (h : okL l = true) : textL (numV l) = l := by
  unfold okL at h
  simp only [Bool.and_eq_true, Bool.or_eq_true, bne_iff_ne, beq_iff_eq, Bool.not_eq_true', List.isEmpty_eq_false_iff] at h
  obtain ⟨⟨h1, h2⟩, h3⟩ := h
  by_cases h4 : l.head? = some 48
  · obtain ⟨x, r, e⟩ := List.exists_cons_of_ne_nil h1
    subst e
    rcases h2 with h2 | h2
    · exact absurd h4 h2
    · have hr : r = [] := by simpa using h2
      subst hr
      have hx : x = 48 := by simpa using h4
      subst hx
      decide
  · have e := ten_num h3 h4
    unfold textL
    by_cases h5 : numV l = 0
    · rw [h5, tenL_zero] at e; exact absurd e.symm h1
    · rw [if_neg h5, e]
theorem ten_lt (n : Nat) : n < 10 ^ (tenL n).length := by
  induction n using Nat.strongRecOn with
  | _ n ih =>
    by_cases h : n = 0
    · subst h; simp [tenL_zero]
    · have := ih (n / 10) (by omega)
      rw [tenL_pos h, List.length_append, List.length_singleton, Nat.pow_succ]
      omega
theorem tenL_len {n k : Nat} (h : n < 10 ^ k) : (tenL n).length ≤ k := by
  induction k generalizing n with
  | zero =>
    have : n = 0 := by simp at h; omega
    subst this; simp [tenL_zero]
  | succ k ih =>
    by_cases h0 : n = 0
    · subst h0; simp [tenL_zero]
    · rw [tenL_pos h0, List.length_append, List.length_singleton]
      have := ih (n := n / 10) (by rw [Nat.pow_succ] at h; omega)
      omega
theorem ten_bits {n k : Nat} (h : n < 2 ^ k) : (tenL n).length ≤ k := tenL_len (Nat.lt_of_lt_of_le h (Nat.pow_le_pow_left (by omega) k))
theorem text_lt (n : Nat) : n < 10 ^ (textL n).length := by
  unfold textL
  by_cases h : n = 0
  · subst h; simp
  · rw [if_neg h]; exact ten_lt n
theorem text_len {n k : Nat} (h : n < 10 ^ k) (hk : 0 < k) : (textL n).length ≤ k := by
  unfold textL
  by_cases h0 : n = 0
  · rw [if_pos h0]; exact hk
  · rw [if_neg h0]; exact tenL_len h
theorem text_bits {n k : Nat} (h : (textL n).length ≤ k) : n < 2 ^ (4 * k) := by
  have h1 := text_lt n
  have h2 : 10 ^ (textL n).length ≤ 16 ^ (textL n).length := Nat.pow_le_pow_left (by omega) _
  have h3 : 16 ^ (textL n).length ≤ 16 ^ k := Nat.pow_le_pow_right (by omega) h
  have h4 : (16 : Nat) ^ k = 2 ^ (4 * k) := by rw [Nat.pow_mul]
  omega
theorem num_lt (l : List UInt8) (h : l.all isD = true) : numV l < 10 ^ l.length := by
  induction l using snoc_ind with
  | h0 => simp [numV_nil]
  | h1 l c ih =>
    rw [List.all_append, Bool.and_eq_true] at h
    have hc : isD c = true := by simpa using h.2
    unfold isD at hc
    simp only [Bool.and_eq_true, decide_eq_true_eq] at hc
    have := ih h.1
    rw [numV_snoc, List.length_append, List.length_singleton, Nat.pow_succ]
    omega
theorem textB_list (n : Nat) : (textB n).data.toList = textL n := by simp [textB]
theorem textB_num {s : ByteArray} (h : okL s.data.toList = true) : textB (numV s.data.toList) = s := by
  unfold textB
  rw [text_num h]
end Go.Proofs.YtbldimplddiheaaGreatDoor
