/- Tokens of a text: what the document says, over lists of bytes (stage 8, ahead of its landing; it names no function of a program). -/
import Derived.Test.YtedhnnechjnnfaaDoorNum
namespace Go.Proofs.YtedhnnechjnnfaaDoor
set_option linter.unusedVariables false
set_option linter.unusedSimpArgs false

/-- A letter, a digit, a blank. -/
def lexL (c : UInt8) : Bool := decide (97 ≤ c.toNat ∧ c.toNat ≤ 122) || decide (65 ≤ c.toNat ∧ c.toNat ≤ 90) || decide (c.toNat = 95)
def lexD (c : UInt8) : Bool := decide (48 ≤ c.toNat ∧ c.toNat ≤ 57)
def lexB (c : UInt8) : Bool := decide (c.toNat = 32 ∨ c.toNat = 9 ∨ c.toNat = 10 ∨ c.toNat = 13)
def lexW (c : UInt8) : Bool := lexL c || lexD c
/-- A sign of two bytes; of one. -/
def sign2 (a b : UInt8) : Bool := (decide (a.toNat = 60) && (decide (b.toNat = 60) || decide (b.toNat = 61))) || (decide (a.toNat = 62) && (decide (b.toNat = 62) || decide (b.toNat = 61))) || (decide (a.toNat = 61) && decide (b.toNat = 61)) || (decide (a.toNat = 33) && decide (b.toNat = 61)) || (decide (a.toNat = 38) && decide (b.toNat = 38)) || (decide (a.toNat = 124) && decide (b.toNat = 124))
def lexLong : List UInt8 → Bool
  | a :: b :: _ => sign2 a b
  | _ => false
def sign1 (c : UInt8) : Bool := [40, 41, 123, 125, 91, 93, 59, 44, 61, 60, 62, 43, 45, 42, 47, 37, 33].any fun n => decide (c.toNat = n)
/-- The number of digits. -/
def lexN (l : List UInt8) : Nat := l.foldl (fun v c => v * 10 + (c.toNat - 48)) 0
/-- May digits be a number? -/
def lexOk (l : List UInt8) : Bool := !(decide (1 < l.length) && decide (l.headD 0 = 48)) && decide (l.length ≤ 19) && decide (lexN l ≤ 9223372036854775807)
def headL (l : List UInt8) : Bool := match l with | [] => false | c :: _ => lexL c
/-- The token that begins a list: its kind and how long it is; or an error. -/
def oneT (r : List UInt8) : Except Int (Int × Nat) := match r with
  | [] => .error 80
  | c :: t =>
    if lexL c then (if 16 < (r.takeWhile lexW).length then .error 82 else .ok (1, (r.takeWhile lexW).length))
    else if lexD c then (if !lexOk (r.takeWhile lexD) || headL (r.dropWhile lexD) then .error 81 else .ok (2, (r.takeWhile lexD).length))
    else if lexLong r then .ok (3, 2)
    else if sign1 c then .ok (3, 1)
    else .error 80
theorem oneT_cons (c : UInt8) (t : List UInt8) : oneT (c :: t) = if lexL c then (if 16 < ((c :: t).takeWhile lexW).length then .error 82 else .ok (1, ((c :: t).takeWhile lexW).length))
    else if lexD c then (if !lexOk ((c :: t).takeWhile lexD) || headL ((c :: t).dropWhile lexD) then .error 81 else .ok (2, ((c :: t).takeWhile lexD).length))
    else if lexLong (c :: t) then .ok (3, 2)
    else if sign1 c then .ok (3, 1)
    else .error 80 := rfl
structure LexTok where
  k : Int
  text : List UInt8
  at' : Nat
def toksF : Nat → List UInt8 → Nat → Except (Nat × Int) (List LexTok)
  | _, [], _ => .ok []
  | 0, _ :: _, _ => .ok []
  | f + 1, c :: t, a =>
    if lexB c then toksF f t (a + 1)
    else match oneT (c :: t) with
      | .error e => .error (a, e)
      | .ok (k, n) => match toksF f ((c :: t).drop n) (a + n) with
        | .error x => .error x
        | .ok l => .ok (⟨k, (c :: t).take n, a⟩ :: l)
/-- All tokens of a list that begins at a place. -/
def toks (r : List UInt8) (a : Nat) : Except (Nat × Int) (List LexTok) := toksF r.length r a

theorem takeWhile_len (p : UInt8 → Bool) (r : List UInt8) : (r.takeWhile p).length ≤ r.length := by
  induction r with
  | nil => simp
  | cons c t ih => rw [List.takeWhile_cons]; split <;> simp <;> omega
theorem takeWhile_pos {p : UInt8 → Bool} {c : UInt8} {t : List UInt8} (h : p c = true) : 0 < ((c :: t).takeWhile p).length := by rw [List.takeWhile_cons, if_pos h]; simp
theorem oneT_len {r : List UInt8} {k : Int} {n : Nat} (h : oneT r = .ok (k, n)) : 0 < n ∧ n ≤ r.length := by
  match r, h with
  | c :: t, h =>
    rw [oneT_cons] at h
    split at h
    · next hc =>
      split at h
      · cases h
      · cases h
        exact ⟨takeWhile_pos (by unfold lexW; rw [hc]; rfl), takeWhile_len _ _⟩
    · split at h
      · next hd =>
        split at h
        · cases h
        · cases h
          exact ⟨takeWhile_pos hd, takeWhile_len _ _⟩
      · split at h
        · next hl =>
          cases h
          match t, hl with
          | b :: s, _ => simp
        · split at h
          · cases h; simp
          · cases h
theorem toksF_eq : ∀ (f g : Nat) (r : List UInt8) (a : Nat), r.length ≤ f → r.length ≤ g → toksF f r a = toksF g r a := by
  intro f
  induction f with
  | zero =>
    intro g r a h _
    match r, h with
    | [], _ => cases g <;> rfl
  | succ f ih =>
    intro g r a h1 h2
    match r, h1, h2 with
    | [], _, _ => cases g <;> rfl
    | c :: t, h1, h2 =>
      cases g with
      | zero => simp at h2
      | succ g =>
        simp at h1 h2
        unfold toksF
        split
        · exact ih g t (a + 1) h1 h2
        · cases hoo : oneT (c :: t) with
          | error e => rfl
          | ok kn =>
            obtain ⟨k, n⟩ := kn
            have hn := (oneT_len hoo).1
            dsimp only
            rw [ih g ((c :: t).drop n) (a + n) (by rw [List.length_drop]; simp; omega) (by rw [List.length_drop]; simp; omega)]
theorem toks_nil (a : Nat) : toks [] a = .ok [] := rfl
theorem toks_blank {c : UInt8} {t : List UInt8} (a : Nat) (h : lexB c = true) : toks (c :: t) a = toks t (a + 1) := by
  unfold toks
  rw [List.length_cons, toksF, if_pos h]
theorem toks_bad {c : UInt8} {t : List UInt8} {e : Int} (a : Nat) (h : lexB c = false) (hoo : oneT (c :: t) = .error e) : toks (c :: t) a = .error (a, e) := by
  unfold toks
  rw [List.length_cons, toksF, if_neg (by rw [h]; decide), hoo]
theorem toks_ok {c : UInt8} {t : List UInt8} {k : Int} {n : Nat} (a : Nat) (h : lexB c = false) (hoo : oneT (c :: t) = .ok (k, n)) : toks (c :: t) a = match toks ((c :: t).drop n) (a + n) with
    | .error x => .error x
    | .ok l => .ok (⟨k, (c :: t).take n, a⟩ :: l) := by
  have hn := (oneT_len hoo).1
  unfold toks
  rw [List.length_cons, toksF, if_neg (by rw [h]; decide), hoo]
  dsimp only
  rw [toksF_eq t.length ((c :: t).drop n).length _ _ (by rw [List.length_drop, List.length_cons]; omega) (Nat.le_refl _)]
/-- What stands behind a token that is read by itself: nothing, or a blank. -/
def lexStops (rest : List UInt8) : Prop := rest = [] ∨ ∃ b s, rest = b :: s ∧ lexB b = true
theorem takeWhile_stop {p : UInt8 → Bool} (hp : ∀ b, lexB b = true → p b = false) {a rest : List UInt8} (h : ∀ x, x ∈ a → p x = true) (hs : lexStops rest) : (a ++ rest).takeWhile p = a ∧ (a ++ rest).dropWhile p = rest := by
  induction a with
  | nil =>
    rcases hs with rfl | ⟨b, s, rfl, hb⟩
    · exact ⟨rfl, rfl⟩
    · simp [List.takeWhile_cons, List.dropWhile_cons, hp b hb]
  | cons x a ih =>
    have h1 := h x (by simp)
    have h2 := ih fun y hy => h y (by simp [hy])
    simp [List.takeWhile_cons, List.dropWhile_cons, h1, h2.1, h2.2]
theorem take_takeWhile (p : UInt8 → Bool) (r : List UInt8) : r.take (r.takeWhile p).length = r.takeWhile p := by
  induction r with
  | nil => rfl
  | cons c t ih =>
    rw [List.takeWhile_cons]
    split
    · rw [List.length_cons, List.take_succ_cons, ih]
    · rfl
theorem takeWhile_all (p : UInt8 → Bool) (r : List UInt8) : ∀ x, x ∈ r.takeWhile p → p x = true := by
  induction r with
  | nil => intro x hx; cases hx
  | cons c t ih =>
    intro x hx
    rw [List.takeWhile_cons] at hx
    split at hx
    · next h =>
      rcases List.mem_cons.1 hx with rfl | hx
      · exact h
      · exact ih x hx
    · cases hx
theorem blank_w {b : UInt8} (h : lexB b = true) : lexW b = false ∧ lexD b = false ∧ lexL b = false ∧ ∀ a, sign2 a b = false := by
  unfold lexB at h
  have h := of_decide_eq_true h
  unfold lexW lexL lexD sign2
  refine ⟨?_, ?_, ?_, fun a => ?_⟩
  · simp; omega
  · simp; omega
  · simp; omega
  · simp; omega
/-- A token's text, with nothing or a blank behind it, begins with just that token. -/
theorem oneT_again {r : List UInt8} {k : Int} {n : Nat} (h : oneT r = .ok (k, n)) {rest : List UInt8} (hs : lexStops rest) : oneT (r.take n ++ rest) = .ok (k, n) := by
  match r, h with
  | c :: t, h =>
    rw [oneT_cons] at h
    split at h
    · next hc =>
      split at h
      · cases h
      · next h16 =>
        cases h
        rw [take_takeWhile]
        have hw : lexW c = true := by unfold lexW; rw [hc]; rfl
        have h1 := takeWhile_stop (p := lexW) (fun b hb => (blank_w hb).1) (takeWhile_all lexW (c :: t)) hs
        have hh : ∃ s, (c :: t).takeWhile lexW = c :: s := ⟨t.takeWhile lexW, by rw [List.takeWhile_cons, if_pos hw]⟩
        obtain ⟨s, hs2⟩ := hh
        have h3 : oneT ((c :: t).takeWhile lexW ++ rest) = if 16 < (((c :: t).takeWhile lexW ++ rest).takeWhile lexW).length then .error 82 else .ok (1, (((c :: t).takeWhile lexW ++ rest).takeWhile lexW).length) := by
          rw [hs2, List.cons_append]
          show (if lexL c then _ else _) = _
          rw [if_pos hc]
        rw [h3, h1.1, if_neg h16]
    · next hc =>
      split at h
      · next hd =>
        split at h
        · cases h
        · next hn =>
          cases h
          rw [take_takeWhile]
          have h1 := takeWhile_stop (p := lexD) (fun b hb => (blank_w hb).2.1) (takeWhile_all lexD (c :: t)) hs
          obtain ⟨s, hs2⟩ : ∃ s, (c :: t).takeWhile lexD = c :: s := ⟨t.takeWhile lexD, by rw [List.takeWhile_cons, if_pos hd]⟩
          have h3 : oneT ((c :: t).takeWhile lexD ++ rest) = if !lexOk (((c :: t).takeWhile lexD ++ rest).takeWhile lexD) || headL (((c :: t).takeWhile lexD ++ rest).dropWhile lexD) then .error 81 else .ok (2, (((c :: t).takeWhile lexD ++ rest).takeWhile lexD).length) := by
            rw [hs2, List.cons_append]
            show (if lexL c then _ else if lexD c then _ else _) = _
            rw [if_neg hc, if_pos hd]
          have h4 : headL rest = false := by
            rcases hs with rfl | ⟨b, q, rfl, hb⟩
            · rfl
            · exact (blank_w hb).2.2.1
          have h5 : lexOk ((c :: t).takeWhile lexD) = true := by
            cases hoo : lexOk ((c :: t).takeWhile lexD) with
            | true => rfl
            | false => rw [hoo] at hn; simp at hn
          rw [h3, h1.1, h1.2, h4, h5]
          rfl
      · next hd =>
        split at h
        · next hl =>
          cases h
          match t, hl with
          | b :: s, hl =>
            show (if lexL c then _ else if lexD c then _ else if lexLong (c :: b :: rest) then _ else _) = _
            have hl2 : lexLong (c :: b :: rest) = true := hl
            rw [if_neg hc, if_neg hd, if_pos hl2]
        · next hl =>
          split at h
          · next h1 =>
            cases h
            show (if lexL c then _ else if lexD c then _ else if lexLong (c :: rest) then _ else if sign1 c then _ else _) = _
            have h2 : lexLong (c :: rest) = false := by
              rcases hs with rfl | ⟨b, q, rfl, hb⟩
              · rfl
              · exact (blank_w hb).2.2.2 c
            rw [if_neg hc, if_neg hd, if_neg (by rw [h2]; decide), if_pos h1]
          · cases h
/-- No token begins with a blank. -/
theorem oneT_blank {c : UInt8} {t : List UInt8} {k : Int} {n : Nat} (h : oneT (c :: t) = .ok (k, n)) : lexB c = false := by
  cases hb : lexB c with
  | false => rfl
  | true =>
    obtain ⟨h1, h2, h3, h4⟩ := blank_w hb
    have h5 : lexLong (c :: t) = false := by
      have h6 := of_decide_eq_true hb
      cases t with
      | nil => rfl
      | cons b s =>
        show sign2 c b = false
        unfold sign2
        simp
        omega
    have h7 : sign1 c = false := by
      have h6 := of_decide_eq_true hb
      unfold sign1
      simp
      omega
    have h8 : oneT (c :: t) = .error 80 := by
      show (if lexL c then _ else if lexD c then _ else if lexLong (c :: t) then _ else if sign1 c then _ else _) = _
      rw [if_neg (by rw [h3]; decide), if_neg (by rw [h2]; decide), if_neg (by rw [h5]; decide), if_neg (by rw [h7]; decide)]
    rw [h8] at h
    cases h
end Go.Proofs.YtedhnnechjnnfaaDoor
