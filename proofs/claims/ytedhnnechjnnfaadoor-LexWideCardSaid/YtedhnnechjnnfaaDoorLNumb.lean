/- lex: numbers and signs, as the program finds them. -/
import Derived.Test.YtedhnnechjnnfaaDoorLVars
import Derived.Lib.ParseIntB
import Derived.Lib.Strings
namespace Go.Proofs.YtedhnnechjnnfaaDoor
open Go.RowKit Go.Shelf
set_option linter.unusedVariables false
set_option linter.unusedSimpArgs false

/-- A text of bytes. -/
def bs (l : List UInt8) : ByteArray := ⟨l.toArray⟩
theorem bs_of (s : ByteArray) : bs s.data.toList = s := by
  unfold bs
  rw [Array.toArray_toList]
theorem bs_list (l : List UInt8) : (bs l).data.toList = l := rfl
theorem bs_size (l : List UInt8) : (bs l).size = l.length := by
  show l.toArray.size = _
  simp
theorem bs_inj {l m : List UInt8} (h : bs l = bs m) : l = m := by rw [← bs_list l, h, bs_list]
/-- The numbers that the program takes. -/
def numT (T : List UInt8) : Bool := !(decide (T.headD 0 = 48) && decide (T ≠ [48])) && (T.all lexD && decide (lexN T ≤ 9223372036854775807))
theorem lexD_iff {c : UInt8} : lexD c = true ↔ 48 ≤ c.toNat ∧ c.toNat ≤ 57 := by unfold lexD; rw [decide_eq_true_iff]
theorem uintM_all {l : List UInt8} : ∀ {acc : Nat}, acc ≤ 18446744073709551615 → l.all lexD = true →
    (acc * 10 ^ l.length + lexN l ≤ 18446744073709551615 → Lib.parseUintM 18446744073709551615 acc l = .ok (acc * 10 ^ l.length + lexN l)) ∧ (¬ acc * 10 ^ l.length + lexN l ≤ 18446744073709551615 → Lib.parseUintM 18446744073709551615 acc l = .range) := by
  induction l with
  | nil =>
    intro acc ha _
    refine ⟨fun _ => ?_, fun h => ?_⟩
    · simp [Lib.parseUintM, lexN]
    · simp [lexN] at h; omega
  | cons c r ih =>
    intro acc ha h
    rw [List.all_cons, Bool.and_eq_true] at h
    have hc := lexD_iff.1 h.1
    have hp := Nat.pow_pos (n := r.length) (show 0 < 10 by omega)
    have e1 : acc * 10 ^ (c :: r).length + lexN (c :: r) = (acc * 10 + (c.toNat - 48)) * 10 ^ r.length + lexN r := by
      rw [lexN_cons, List.length_cons, Nat.pow_succ, Nat.add_mul, Nat.mul_assoc, Nat.mul_comm 10, Nat.add_assoc]
    rw [e1, Lib.parseUintM, if_pos hc]
    by_cases h1 : 1844674407370955162 ≤ acc
    · rw [if_pos h1]
      refine ⟨fun h2 => ?_, fun _ => rfl⟩
      have h3 : (acc * 10 + (c.toNat - 48)) * 1 ≤ (acc * 10 + (c.toNat - 48)) * 10 ^ r.length := Nat.mul_le_mul_left _ hp
      omega
    · rw [if_neg h1]
      by_cases h2 : 18446744073709551615 < acc * 10 + (c.toNat - 48)
      · rw [if_pos h2]
        refine ⟨fun h3 => ?_, fun _ => rfl⟩
        have h4 : (acc * 10 + (c.toNat - 48)) * 1 ≤ (acc * 10 + (c.toNat - 48)) * 10 ^ r.length := Nat.mul_le_mul_left _ hp
        omega
      · rw [if_neg h2]
        exact ih (by omega) h.2
theorem uintM_not {l : List UInt8} : ∀ {acc : Nat}, l.all lexD = false → ∀ u, Lib.parseUintM 18446744073709551615 acc l ≠ .ok u := by
  induction l with
  | nil => intro acc h; cases h
  | cons c r ih =>
    intro acc h u
    rw [List.all_cons] at h
    rw [Lib.parseUintM]
    by_cases hc : 48 ≤ c.toNat ∧ c.toNat ≤ 57
    · rw [if_pos hc]
      rw [lexD_iff.2 hc, Bool.true_and] at h
      split
      · intro e; cases e
      · split
        · intro e; cases e
        · exact ih h u
    · rw [if_neg hc]
      intro e; cases e
theorem parse_ok {c : UInt8} {r : List UInt8} (h : (c :: r).all lexD = true) (hn : lexN (c :: r) ≤ 9223372036854775807) : Lib.parseIntB 64 (c :: r) = .ok (lexN (c :: r) : Int) := by
  have hc : lexD c = true := by rw [List.all_cons, Bool.and_eq_true] at h; exact h.1
  have hc := lexD_iff.1 hc
  have h1 := (uintM_all (l := c :: r) (acc := 0) (by omega) h).1 (by omega)
  rw [Nat.zero_mul, Nat.zero_add] at h1
  unfold Lib.parseIntB Lib.parseUintB
  dsimp only
  rw [if_neg (show ¬ (c.toNat = 43 ∨ c.toNat = 45) by omega), if_neg (show ¬ (c :: r = []) by simp), h1]
  dsimp only
  rw [if_neg (show ¬ (¬ c.toNat = 45 ∧ 2 ^ (64 - 1) ≤ lexN (c :: r)) by omega), if_neg (show ¬ (c.toNat = 45 ∧ 2 ^ (64 - 1) < lexN (c :: r)) by omega), if_neg (show ¬ c.toNat = 45 by omega)]
theorem parse_bad {c : UInt8} {r : List UInt8} (hc : lexD c = true) (h : ((c :: r).all lexD && decide (lexN (c :: r) ≤ 9223372036854775807)) = false) (v : Int) : Lib.parseIntB 64 (c :: r) ≠ .ok v := by
  have hc := lexD_iff.1 hc
  unfold Lib.parseIntB Lib.parseUintB
  dsimp only
  rw [if_neg (show ¬ (c.toNat = 43 ∨ c.toNat = 45) by omega), if_neg (show ¬ (c :: r = []) by simp)]
  cases ha : (c :: r).all lexD with
  | false =>
    have h1 := uintM_not (acc := 0) ha
    rcases hr : Lib.parseUintM (2 ^ 64 - 1) 0 (c :: r) with u | _ | _
    · exact absurd hr (h1 u)
    all_goals
      intro e
      cases e
  | true =>
    rw [ha, Bool.true_and, decide_eq_false_iff_not] at h
    obtain ⟨h1, h2⟩ := uintM_all (l := c :: r) (acc := 0) (by omega) ha
    rw [Nat.zero_mul, Nat.zero_add] at h1 h2
    by_cases hb : lexN (c :: r) ≤ 18446744073709551615
    · rw [show (2 ^ 64 - 1 : Nat) = 18446744073709551615 from rfl, h1 hb]
      dsimp only
      rw [if_pos (show ¬ c.toNat = 45 ∧ 2 ^ (64 - 1) ≤ lexN (c :: r) by omega)]
      intro e
      cases e
    · rw [show (2 ^ 64 - 1 : Nat) = 18446744073709551615 from rfl, h2 hb]
      intro e
      cases e
/-- Digits without a nought ahead are not few. -/
theorem lexN_ge {c : UInt8} {r : List UInt8} (hc : 49 ≤ c.toNat) : 10 ^ r.length ≤ lexN (c :: r) := by
  rw [lexN_cons]
  have h1 : 1 * 10 ^ r.length ≤ (c.toNat - 48) * 10 ^ r.length := Nat.mul_le_mul_right _ (by omega)
  omega
theorem takeWhile_same {l : List UInt8} (h : headL (l.dropWhile lexD) = false) : l.takeWhile lexW = l.takeWhile lexD := by
  induction l with
  | nil => rfl
  | cons c r ih =>
    rw [List.takeWhile_cons, List.takeWhile_cons]
    rw [List.dropWhile_cons] at h
    cases hd : lexD c with
    | true =>
      rw [hd, if_pos rfl] at h
      have hw : lexW c = true := by unfold lexW; rw [hd, Bool.or_true]
      rw [hw, if_pos rfl, if_pos rfl, ih h]
    | false =>
      rw [hd, if_neg (by decide)] at h
      have hl : lexL c = false := h
      have hw : lexW c = false := by unfold lexW; rw [hd, hl]; rfl
      rw [hw, if_neg (by decide), if_neg (by decide)]
theorem takeWhile_letter {l : List UInt8} (h : headL (l.dropWhile lexD) = true) : (l.takeWhile lexW).all lexD = false := by
  induction l with
  | nil => cases h
  | cons c r ih =>
    rw [List.takeWhile_cons]
    rw [List.dropWhile_cons] at h
    cases hd : lexD c with
    | true =>
      rw [hd, if_pos rfl] at h
      have hw : lexW c = true := by unfold lexW; rw [hd, Bool.or_true]
      rw [hw, if_pos rfl, List.all_cons, ih h, Bool.and_false]
    | false =>
      rw [hd, if_neg (by decide)] at h
      have hl : lexL c = true := h
      have hw : lexW c = true := by unfold lexW; rw [hl]; rfl
      rw [hw, if_pos rfl, List.all_cons, hd, Bool.false_and]
theorem all_takeWhile (p : UInt8 → Bool) (l : List UInt8) : (l.takeWhile p).all p = true := List.all_eq_true.2 (takeWhile_all p l)
theorem numT_lexOk {l : List UInt8} (hne : l ≠ []) (h : l.all lexD = true) : numT l = lexOk l := by
  match l, hne with
  | c :: r, _ =>
    unfold numT lexOk
    rw [h, Bool.true_and]
    have h1 : (List.headD (c :: r) 0) = c := rfl
    rw [h1]
    by_cases hc : c = 48
    · subst hc
      have e1 : decide ((48 : UInt8) :: r ≠ [48]) = decide (1 < ((48 : UInt8) :: r).length) := by
        cases r with
        | nil => rfl
        | cons a r => rw [decide_eq_true (by simp), decide_eq_true (by simp)]
      rw [e1]
      cases r with
      | nil => rfl
      | cons a r => simp
    · rw [decide_eq_false hc, Bool.false_and, Bool.and_false, Bool.not_false, Bool.true_and, Bool.true_and]
      have hcd : lexD c = true := by rw [List.all_cons, Bool.and_eq_true] at h; exact h.1
      have hcd := lexD_iff.1 hcd
      have h49 : 49 ≤ c.toNat := by
        have h2 : c.toNat ≠ 48 := fun e => hc (UInt8.toNat_inj.1 (by rw [e]; rfl))
        omega
      by_cases hl : (c :: r).length ≤ 19
      · rw [decide_eq_true hl, Bool.true_and]
      · rw [decide_eq_false hl, Bool.false_and, decide_eq_false_iff_not]
        have h3 := lexN_ge (r := r) h49
        rw [List.length_cons] at hl
        have h4 : (10 : Nat) ^ 19 ≤ 10 ^ r.length := Nat.pow_le_pow_right (by omega) (by omega)
        omega
/-- A number, as the program finds it. -/
theorem oneT_number {c : UInt8} {t : List UInt8} (hl : lexL c = false) (hd : lexD c = true) : oneT (c :: t) = if numT ((c :: t).takeWhile lexW) then .ok (2, ((c :: t).takeWhile lexW).length) else .error 81 := by
  rw [oneT_cons, hl, hd, if_neg (by decide), if_pos rfl]
  cases hh : headL ((c :: t).dropWhile lexD) with
  | true =>
    have h1 := takeWhile_letter hh
    have h2 : numT ((c :: t).takeWhile lexW) = false := by unfold numT; rw [h1, Bool.false_and, Bool.and_false]
    rw [h2, Bool.or_true, if_pos rfl, if_neg (by decide)]
  | false =>
    have h1 := takeWhile_same hh
    rw [h1, Bool.or_false]
    have hne : (c :: t).takeWhile lexD ≠ [] := by
      intro e
      have h2 := takeWhile_pos (t := t) hd
      rw [e] at h2
      simp at h2
    rw [numT_lexOk hne (all_takeWhile lexD _)]
    cases lexOk ((c :: t).takeWhile lexD) with
    | true => rw [Bool.not_true, if_neg (by decide), if_pos rfl]
    | false => rw [Bool.not_false, if_pos rfl, if_neg (by decide)]
/-- A word, as the program finds it. -/
theorem oneT_word {c : UInt8} {t : List UInt8} (hl : lexL c = true) : oneT (c :: t) = if 16 < ((c :: t).takeWhile lexW).length then .error 82 else .ok (1, ((c :: t).takeWhile lexW).length) := by
  rw [oneT_cons, if_pos hl]
/-- The sign that the program finds. -/
def signAt (r : List UInt8) : Option ByteArray := signsL.find? fun t => Lib.hasPrefix r t.data.toList
theorem signsL_eq : signsL = (signsL.take 8) ++ (signsL.drop 8) := rfl
theorem pre2 (a b : UInt8) (r : List UInt8) (x y : UInt8) : Lib.hasPrefix (a :: b :: r) [x, y] = (decide (a.toNat = x.toNat) && decide (b.toNat = y.toNat)) := by
  have e : ∀ c d : UInt8, (d == c) = decide (c.toNat = d.toNat) := fun c d => by
    by_cases he : d = c
    · subst he; simp
    · rw [beq_eq_false_iff_ne.2 he, decide_eq_false fun h => he (UInt8.toNat_inj.1 h.symm)]
  simp [Lib.hasPrefix, List.isPrefixOf, e]
theorem pre1 (a : UInt8) (r : List UInt8) (x : UInt8) : Lib.hasPrefix (a :: r) [x] = decide (a.toNat = x.toNat) := by
  have e : ∀ c d : UInt8, (d == c) = decide (c.toNat = d.toNat) := fun c d => by
    by_cases he : d = c
    · subst he; simp
    · rw [beq_eq_false_iff_ne.2 he, decide_eq_false fun h => he (UInt8.toNat_inj.1 h.symm)]
  simp [Lib.hasPrefix, List.isPrefixOf, e]
theorem long_any (r : List UInt8) : (signsL.take 8).any (fun t => Lib.hasPrefix r t.data.toList) = lexLong r := by
  match r with
  | [] => rfl
  | [a] => simp [signsL, Lib.hasPrefix, List.isPrefixOf, lexLong]
  | a :: b :: r =>
    show (Lib.hasPrefix (a :: b :: r) [60, 60] || (Lib.hasPrefix (a :: b :: r) [62, 62] || (Lib.hasPrefix (a :: b :: r) [60, 61] || (Lib.hasPrefix (a :: b :: r) [62, 61] || (Lib.hasPrefix (a :: b :: r) [61, 61] || (Lib.hasPrefix (a :: b :: r) [33, 61] || (Lib.hasPrefix (a :: b :: r) [38, 38] || (Lib.hasPrefix (a :: b :: r) [124, 124] || false)))))))) = sign2 a b
    simp only [pre2]
    unfold sign2
    show ((decide (a.toNat = 60) && decide (b.toNat = 60)) || ((decide (a.toNat = 62) && decide (b.toNat = 62)) || ((decide (a.toNat = 60) && decide (b.toNat = 61)) || ((decide (a.toNat = 62) && decide (b.toNat = 61)) || ((decide (a.toNat = 61) && decide (b.toNat = 61)) || ((decide (a.toNat = 33) && decide (b.toNat = 61)) || ((decide (a.toNat = 38) && decide (b.toNat = 38)) || ((decide (a.toNat = 124) && decide (b.toNat = 124)) || false)))))))) = _
    cases decide (a.toNat = 60) <;> cases decide (a.toNat = 62) <;> cases decide (a.toNat = 61) <;> cases decide (a.toNat = 33) <;> cases decide (a.toNat = 38) <;> cases decide (a.toNat = 124) <;> cases decide (b.toNat = 60) <;> cases decide (b.toNat = 61) <;> cases decide (b.toNat = 62) <;> simp
theorem short_any (c : UInt8) (r : List UInt8) : (signsL.drop 8).any (fun t => Lib.hasPrefix (c :: r) t.data.toList) = sign1 c := by
  show (Lib.hasPrefix (c :: r) [40] || (Lib.hasPrefix (c :: r) [41] || (Lib.hasPrefix (c :: r) [123] || (Lib.hasPrefix (c :: r) [125] || (Lib.hasPrefix (c :: r) [91] || (Lib.hasPrefix (c :: r) [93] || (Lib.hasPrefix (c :: r) [59] || (Lib.hasPrefix (c :: r) [44] || (Lib.hasPrefix (c :: r) [61] || (Lib.hasPrefix (c :: r) [60] || (Lib.hasPrefix (c :: r) [62] || (Lib.hasPrefix (c :: r) [43] || (Lib.hasPrefix (c :: r) [45] || (Lib.hasPrefix (c :: r) [42] || (Lib.hasPrefix (c :: r) [47] || (Lib.hasPrefix (c :: r) [37] || (Lib.hasPrefix (c :: r) [33] || false))))))))))))))))) = sign1 c
  simp only [pre1]
  rfl
theorem long_len : ∀ t, t ∈ signsL.take 8 → t.data.toList.length = 2 := by decide
theorem short_len : ∀ t, t ∈ signsL.drop 8 → t.data.toList.length = 1 := by decide
theorem prefix_take {r p : List UInt8} (h : Lib.hasPrefix r p = true) : p = r.take p.length := by
  have h1 : p.isPrefixOf r = true := h
  rw [List.isPrefixOf_iff_prefix] at h1
  exact (List.prefix_iff_eq_take.1 h1)
theorem find_append {α : Type} (p : α → Bool) (a b : List α) : (a ++ b).find? p = (a.find? p).or (b.find? p) := List.find?_append ..
/-- A sign, as the program finds it. -/
theorem oneT_sign {c : UInt8} {t : List UInt8} (hl : lexL c = false) (hd : lexD c = false) :
    (∃ s, signAt (c :: t) = some s ∧ oneT (c :: t) = .ok (3, s.size) ∧ s.data.toList = (c :: t).take s.size) ∨ (signAt (c :: t) = none ∧ oneT (c :: t) = .error 80) := by
  rw [oneT_cons, hl, hd, if_neg (by decide), if_neg (by decide)]
  unfold signAt
  rw [signsL_eq, find_append]
  cases h1 : lexLong (c :: t) with
  | true =>
    rw [if_pos rfl]
    rw [← long_any] at h1
    obtain ⟨x, hx, hp⟩ := List.any_eq_true.1 h1
    cases hf : (signsL.take 8).find? (fun s => Lib.hasPrefix (c :: t) s.data.toList) with
    | none => exact absurd hp (by have := List.find?_eq_none.1 hf x hx; exact this)
    | some s =>
      have hm := long_len s (List.mem_of_find?_eq_some hf)
      have hq := List.find?_some hf
      have hz : s.size = 2 := by rw [← hm]; simp
      refine .inl ⟨s, rfl, by rw [hz], ?_⟩
      have h3 := prefix_take hq
      rw [hm] at h3
      rw [hz]
      exact h3
  | false =>
    rw [if_neg (by decide)]
    have h0 : (signsL.take 8).find? (fun s => Lib.hasPrefix (c :: t) s.data.toList) = none := by
      rw [← long_any] at h1
      rw [List.find?_eq_none]
      intro x hx
      have := List.any_eq_false.1 h1 x hx
      exact this
    rw [h0, Option.none_or]
    cases h2 : sign1 c with
    | true =>
      rw [if_pos rfl]
      rw [← short_any c t] at h2
      obtain ⟨x, hx, hp⟩ := List.any_eq_true.1 h2
      cases hf : (signsL.drop 8).find? (fun s => Lib.hasPrefix (c :: t) s.data.toList) with
      | none => exact absurd hp (by have := List.find?_eq_none.1 hf x hx; exact this)
      | some s =>
        have hm := short_len s (List.mem_of_find?_eq_some hf)
        have hq := List.find?_some hf
        have hz : s.size = 1 := by rw [← hm]; simp
        refine .inl ⟨s, rfl, by rw [hz], ?_⟩
        have h3 := prefix_take hq
        rw [hm] at h3
        rw [hz]
        exact h3
    | false =>
      rw [if_neg (by decide)]
      refine .inr ⟨?_, rfl⟩
      rw [← short_any c t] at h2
      rw [List.find?_eq_none]
      intro x hx
      have := List.any_eq_false.1 h2 x hx
      exact this
theorem signAt_nil : signAt [] = none := by decide
end Go.Proofs.YtedhnnechjnnfaaDoor
