/- Tokens are apart; blanks more change nothing but places (stage 8, ahead of its landing). -/
import Derived.Test.YtedhnnechjnnfaaDoorLMath
namespace Go.Proofs.YtedhnnechjnnfaaDoor
set_option linter.unusedVariables false
set_option linter.unusedSimpArgs false

/-- A token that is read by itself, and ahead of a blank. -/
structure LexGood (t : LexTok) : Prop where
  pos : 0 < t.text.length
  one : ∀ rest, lexStops rest → oneT (t.text ++ rest) = .ok (t.k, t.text.length)
theorem good_of {r : List UInt8} {k : Int} {n a : Nat} (h : oneT r = .ok (k, n)) : LexGood ⟨k, r.take n, a⟩ := by
  have hn := oneT_len h
  have hl : (r.take n).length = n := by rw [List.length_take]; omega
  exact ⟨by show 0 < (r.take n).length; omega, fun rest hs => by show oneT (r.take n ++ rest) = .ok (k, (r.take n).length); rw [hl]; exact oneT_again h hs⟩
theorem LexGood.alone {t : LexTok} (h : LexGood t) : toks t.text 0 = .ok [⟨t.k, t.text, 0⟩] := by
  have h1 := h.one [] (.inl rfl)
  rw [List.append_nil] at h1
  have hp := h.pos
  obtain ⟨k, text, a⟩ := t
  dsimp only at *
  cases text with
  | nil => simp at hp
  | cons c s =>
    rw [toks_ok 0 (oneT_blank h1) h1]
    rw [List.drop_length, List.take_length]
    rfl
/-- All of a text's tokens, by induction over what is left. -/
theorem toks_ind {src : List UInt8} {P : Nat → List LexTok → Prop} (hend : P src.length [])
    (hblank : ∀ p l c t, p < src.length → src.drop p = c :: t → lexB c = true → toks (src.drop (p + 1)) (p + 1) = .ok l → P (p + 1) l → P p l)
    (htok : ∀ p l k n c t, p < src.length → src.drop p = c :: t → oneT (c :: t) = .ok (k, n) → toks (src.drop (p + n)) (p + n) = .ok l → P (p + n) l → P p (⟨k, (c :: t).take n, p⟩ :: l)) :
    ∀ m p l, src.length - p ≤ m → p ≤ src.length → toks (src.drop p) p = .ok l → P p l := by
  intro m
  induction m with
  | zero =>
    intro p l h1 h2 h3
    have hp : p = src.length := by omega
    subst hp
    rw [List.drop_length, toks_nil] at h3
    cases h3
    exact hend
  | succ m ih =>
    intro p l h1 h2 h3
    cases hr : src.drop p with
    | nil =>
      have hp : p = src.length := by
        have := congrArg List.length hr
        rw [List.length_drop] at this
        simp at this
        omega
      subst hp
      rw [hr, toks_nil] at h3
      cases h3
      exact hend
    | cons c t =>
      have hlen := congrArg List.length hr
      rw [List.length_drop, List.length_cons] at hlen
      have hd : ∀ n, src.drop (p + n) = (c :: t).drop n := fun n => by rw [← hr, List.drop_drop]
      rw [hr] at h3
      cases hb : lexB c with
      | true =>
        rw [toks_blank p hb] at h3
        have h4 : toks (src.drop (p + 1)) (p + 1) = .ok l := by rw [hd 1]; exact h3
        exact hblank p l c t (by omega) hr hb h4 (ih (p + 1) l (by omega) (by omega) h4)
      | false =>
        cases hoo : oneT (c :: t) with
        | error e => rw [toks_bad p hb hoo] at h3; cases h3
        | ok kn =>
          obtain ⟨k, n⟩ := kn
          have hn := oneT_len hoo
          rw [List.length_cons] at hn
          rw [toks_ok p hb hoo] at h3
          cases hx : toks ((c :: t).drop n) (p + n) with
          | error x => rw [hx] at h3; cases h3
          | ok l2 =>
            rw [hx] at h3
            cases h3
            have h4 : toks (src.drop (p + n)) (p + n) = .ok l2 := by rw [hd n]; exact hx
            exact htok p l2 k n c t (by omega) hr hoo h4 (ih (p + n) l2 (by omega) (by omega) h4)
theorem toks_good {src : List UInt8} {l : List LexTok} (h : toks src 0 = .ok l) : ∀ t, t ∈ l → LexGood t :=
  toks_ind (src := src) (P := fun _ l => ∀ t, t ∈ l → LexGood t) (fun t ht => by cases ht) (fun p l c t _ _ _ _ ih => ih)
    (fun p l k n c t _ hr hoo _ ih x hx => by
      rcases List.mem_cons.1 hx with rfl | hx
      · exact good_of hoo
      · exact ih x hx) src.length 0 l (by omega) (Nat.zero_le _) (by rw [List.drop_zero]; exact h)
/-- Tokens stand where they say, apart, rising, with blanks alone between. -/
def LexApartP (src : List UInt8) : Nat → List LexTok → Prop
  | p, [] => p ≤ src.length ∧ ∀ c, c ∈ src.drop p → lexB c = true
  | p, t :: l => p ≤ t.at' ∧ t.at' + t.text.length ≤ src.length ∧ (src.drop t.at').take t.text.length = t.text ∧ (∀ c, c ∈ (src.drop p).take (t.at' - p) → lexB c = true) ∧ LexApartP src (t.at' + t.text.length) l
theorem apart_blank {src : List UInt8} {p : Nat} {l : List LexTok} {c : UInt8} {t : List UInt8} (hr : src.drop p = c :: t) (hb : lexB c = true) (h : LexApartP src (p + 1) l) : LexApartP src p l := by
  have hd : src.drop (p + 1) = t := by rw [← List.drop_drop, hr]; rfl
  cases l with
  | nil =>
    obtain ⟨h1, h2⟩ := h
    refine ⟨by omega, fun x hx => ?_⟩
    rw [hr] at hx
    rcases List.mem_cons.1 hx with rfl | hx
    · exact hb
    · exact h2 x (by rw [hd]; exact hx)
  | cons y l =>
    obtain ⟨h1, h2, h3, h4, h5⟩ := h
    refine ⟨by omega, h2, h3, fun x hx => ?_, h5⟩
    rw [hr, show y.at' - p = (y.at' - (p + 1)) + 1 by omega, List.take_succ_cons] at hx
    rcases List.mem_cons.1 hx with rfl | hx
    · exact hb
    · exact h4 x (by rw [hd]; exact hx)
theorem toks_apart {src : List UInt8} {l : List LexTok} (h : toks src 0 = .ok l) : LexApartP src 0 l :=
  toks_ind (src := src) (P := LexApartP src) ⟨Nat.le_refl _, fun c hc => by rw [List.drop_length] at hc; cases hc⟩ (fun p l c t _ hr hb _ ih => apart_blank hr hb ih)
    (fun p l k n c t hp hr hoo _ ih => by
      have hn := oneT_len hoo
      have hlen := congrArg List.length hr
      rw [List.length_drop] at hlen
      have hl : ((c :: t).take n).length = n := by rw [List.length_take]; omega
      refine ⟨Nat.le_refl _, by show p + ((c :: t).take n).length ≤ _; omega, by show (src.drop p).take ((c :: t).take n).length = _; rw [hl, hr], (fun x hx => by simp at hx), ?_⟩
      show LexApartP src (p + ((c :: t).take n).length) l
      rw [hl]
      exact ih) src.length 0 l (by omega) (Nat.zero_le _) (by rw [List.drop_zero]; exact h)
/-- Kinds and texts. -/
def LexTok.kt (t : LexTok) : Int × List UInt8 := (t.k, t.text)
/-- The tokens' texts with blanks behind each. -/
def lexWide : List LexTok → List UInt8
  | [] => []
  | t :: l => t.text ++ (32 :: 9 :: lexWide l)
theorem toks_wide : ∀ (l : List LexTok) (a : Nat), (∀ t, t ∈ l → LexGood t) → ∃ m, toks (lexWide l) a = .ok m ∧ m.map LexTok.kt = l.map LexTok.kt := by
  intro l
  induction l with
  | nil => intro a _; exact ⟨[], rfl, rfl⟩
  | cons t l ih =>
    intro a h
    have hg := h t (by simp)
    have hoo := hg.one (32 :: 9 :: lexWide l) (.inr ⟨32, 9 :: lexWide l, rfl, by decide⟩)
    obtain ⟨m, h1, h2⟩ := ih (a + t.text.length + 1 + 1) fun x hx => h x (by simp [hx])
    have hp := hg.pos
    cases htx : t.text with
    | nil => rw [htx] at hp; simp at hp
    | cons c s =>
      rw [htx, List.cons_append] at hoo
      have hb := oneT_blank hoo
      have ht := toks_ok (a := a) hb hoo
      have hdrop : (c :: (s ++ 32 :: 9 :: lexWide l)).drop (c :: s).length = 32 :: 9 :: lexWide l := by rw [← List.cons_append, List.drop_left]
      have htake : (c :: (s ++ 32 :: 9 :: lexWide l)).take (c :: s).length = c :: s := by rw [← List.cons_append, List.take_left]
      rw [hdrop, htake, toks_blank (c := 32) (t := 9 :: lexWide l) _ (by decide), toks_blank (c := 9) (t := lexWide l) _ (by decide)] at ht
      rw [htx] at h1
      rw [h1] at ht
      refine ⟨⟨t.k, c :: s, a⟩ :: m, by rw [lexWide, htx, List.cons_append]; exact ht, ?_⟩
      rw [List.map_cons, List.map_cons, h2]
      unfold LexTok.kt
      rw [htx]
theorem toks_wide_all {src : List UInt8} {l : List LexTok} (h : toks src 0 = .ok l) : ∃ m, toks (10 :: lexWide l) 0 = .ok m ∧ m.map LexTok.kt = l.map LexTok.kt := by
  obtain ⟨m, h1, h2⟩ := toks_wide l 1 (toks_good h)
  exact ⟨m, by rw [toks_blank 0 (by decide)]; exact h1, h2⟩
end Go.Proofs.YtedhnnechjnnfaaDoor
