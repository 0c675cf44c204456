/- Bytes of a text at places: what a loop has gone over; which number is greater, by its digits (stage 8, ahead of its landing). -/
import Derived.Test.YtedhnnechjnnfaaDoorLApart
import GoSem.Op.String
namespace Go.Proofs.YtedhnnechjnnfaaDoor
set_option linter.unusedVariables false
set_option linter.unusedSimpArgs false

/-- What a loop that goes on while p holds has gone over. -/
theorem lex_over {p : UInt8 → Bool} : ∀ (n a : Nat) (l : List UInt8), a + n ≤ l.length → (∀ j c, j < n → l[a + j]? = some c → p c = true) → (a + n = l.length ∨ ∃ c, l[a + n]? = some c ∧ p c = false) →
    (l.drop a).takeWhile p = (l.drop a).take n ∧ ((l.drop a).takeWhile p).length = n ∧ (l.drop a).dropWhile p = l.drop (a + n) := by
  intro n
  induction n with
  | zero =>
    intro a l h1 _ h3
    rcases h3 with h3 | ⟨c, hc, hp⟩
    · have h0 : l.drop a = [] := List.drop_eq_nil_of_le (by omega)
      rw [h0]
      refine ⟨rfl, rfl, ?_⟩
      rw [Nat.add_zero, h0]
      rfl
    · rw [Nat.add_zero] at hc
      have hlt := (List.getElem?_eq_some_iff.1 hc).1
      have h0 := List.drop_eq_getElem_cons hlt
      have hce : l[a] = c := by rw [List.getElem?_eq_getElem hlt] at hc; exact Option.some.inj hc
      rw [hce] at h0
      rw [Nat.add_zero, h0, List.takeWhile_cons, List.dropWhile_cons, if_neg (by rw [hp]; decide), if_neg (by rw [hp]; decide)]
      exact ⟨rfl, rfl, rfl⟩
  | succ n ih =>
    intro a l h1 h2 h3
    have hlt : a < l.length := by omega
    have h0 := List.drop_eq_getElem_cons hlt
    have hp := h2 0 l[a] (by omega) (by rw [Nat.add_zero]; exact List.getElem?_eq_getElem hlt)
    obtain ⟨k1, k2, k3⟩ := ih (a + 1) l (by omega) (fun j c hj hc => h2 (j + 1) c (by omega) (by rw [show a + (j + 1) = a + 1 + j by omega]; exact hc)) (by rw [show a + 1 + n = a + (n + 1) by omega]; exact h3)
    rw [h0, List.takeWhile_cons, List.dropWhile_cons, if_pos hp, if_pos hp, k1, k3, List.take_succ_cons]
    refine ⟨rfl, ?_, by rw [show a + 1 + n = a + (n + 1) by omega]⟩
    rw [List.length_cons, ← k1, k2]
theorem lexN_cons (c : UInt8) (l : List UInt8) : lexN (c :: l) = (c.toNat - 48) * 10 ^ l.length + lexN l := by
  have h : ∀ (l : List UInt8) (v : Nat), l.foldl (fun v c => v * 10 + (c.toNat - 48)) v = v * 10 ^ l.length + lexN l := by
    intro l
    induction l with
    | nil => intro v; simp [lexN]
    | cons x l ih =>
      intro v
      show List.foldl _ (v * 10 + (x.toNat - 48)) l = _
      rw [ih]
      have h1 : lexN (x :: l) = (x.toNat - 48) * 10 ^ l.length + lexN l := by
        show List.foldl _ (0 * 10 + (x.toNat - 48)) l = _
        rw [ih, Nat.zero_mul, Nat.zero_add]
      rw [h1, List.length_cons, Nat.pow_succ, Nat.add_mul, Nat.mul_assoc, Nat.mul_comm 10, Nat.add_assoc]
  show List.foldl _ (0 * 10 + (c.toNat - 48)) l = _
  rw [h, Nat.zero_mul, Nat.zero_add]
theorem lexN_lt {l : List UInt8} (h : ∀ c, c ∈ l → lexD c = true) : lexN l < 10 ^ l.length := by
  induction l with
  | nil => simp [lexN]
  | cons c l ih =>
    have h1 := ih fun x hx => h x (by simp [hx])
    have h2 := of_decide_eq_true (h c (by simp))
    rw [lexN_cons, List.length_cons, Nat.pow_succ]
    have h3 : (c.toNat - 48) * 10 ^ l.length ≤ 9 * 10 ^ l.length := Nat.mul_le_mul_right _ (by omega)
    omega
/-- Which text is less, of two of digits that are as long, tells which number is less. -/
theorem less_digits : ∀ (x y : List UInt8), x.length = y.length → (∀ c, c ∈ x → lexD c = true) → (∀ c, c ∈ y → lexD c = true) → Go.Op.bytesLess x y = decide (lexN x < lexN y) := by
  intro x
  induction x with
  | nil =>
    intro y hl _ _
    cases y with
    | nil => simp [Go.Op.bytesLess, lexN]
    | cons b y => simp at hl
  | cons a x ih =>
    intro y hl hx hy
    cases y with
    | nil => simp at hl
    | cons b y =>
      simp at hl
      have ha := of_decide_eq_true (hx a (by simp))
      have hb := of_decide_eq_true (hy b (by simp))
      have hx2 := lexN_lt fun c hc => hx c (List.mem_cons_of_mem _ hc)
      have hy2 := lexN_lt fun c hc => hy c (List.mem_cons_of_mem _ hc)
      have hi := ih y hl (fun c hc => hx c (List.mem_cons_of_mem _ hc)) (fun c hc => hy c (List.mem_cons_of_mem _ hc))
      rw [lexN_cons, lexN_cons, Go.Op.bytesLess, hi, hl]
      rw [hl] at hx2
      rcases Nat.lt_trichotomy a.toNat b.toNat with h | h | h
      · have h1 : (a.toNat - 48 + 1) * 10 ^ y.length ≤ (b.toNat - 48) * 10 ^ y.length := Nat.mul_le_mul_right _ (by omega)
        rw [Nat.add_mul, Nat.one_mul] at h1
        rw [decide_eq_true (show a < b from h), Bool.true_or, decide_eq_true (by omega)]
      · have hab : a = b := UInt8.toNat_inj.1 h
        subst hab
        rw [decide_eq_false (show ¬ a < a from Nat.lt_irrefl _), Bool.false_or]
        simp
      · have h1 : (b.toNat - 48 + 1) * 10 ^ y.length ≤ (a.toNat - 48) * 10 ^ y.length := Nat.mul_le_mul_right _ (by omega)
        rw [Nat.add_mul, Nat.one_mul] at h1
        have hne : (a == b) = false := by
          rw [beq_eq_false_iff_ne]
          intro e
          subst e
          omega
        rw [decide_eq_false (show ¬ a < b from fun h2 => by have h3 : a.toNat < b.toNat := h2; omega), hne, Bool.false_or, Bool.false_and, decide_eq_false (by omega)]
end Go.Proofs.YtedhnnechjnnfaaDoor
