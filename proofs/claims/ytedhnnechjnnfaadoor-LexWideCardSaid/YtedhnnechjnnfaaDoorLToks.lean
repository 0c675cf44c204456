/- lex: what a text's tokens are, step by step; rows of tokens. -/
import Derived.Test.YtedhnnechjnnfaaDoorLToken
import Derived.Test.YtedhnnechjnnfaaDoorLRow
namespace Go.Proofs.YtedhnnechjnnfaaDoor
open Go.RowKit Go.Shelf
set_option linter.unusedVariables false
set_option linter.unusedSimpArgs false

/-- Tokens ahead of others, or of an error. -/
def preT (L : List LexTok) : Except (Nat × Int) (List LexTok) → Except (Nat × Int) (List LexTok)
  | .error x => .error x
  | .ok l => .ok (L ++ l)
theorem preT_nil (x : Except (Nat × Int) (List LexTok)) : preT [] x = x := by cases x <;> rfl
theorem preT_snoc (L : List LexTok) (t : LexTok) (x : Except (Nat × Int) (List LexTok)) : preT L (match x with | .error y => .error y | .ok l => .ok (t :: l)) = preT (L ++ [t]) x := by
  cases x with
  | error y => rfl
  | ok l => simp [preT]
/-- All of a text's tokens: those that a loop has, and those of what is left. -/
def Rest (r : List UInt8) (L : List LexTok) (q : Nat) : Prop := toks r 0 = preT L (toks (r.drop q) q)
theorem rest_start (r : List UInt8) : Rest r [] 0 := by unfold Rest; rw [preT_nil, List.drop_zero]
theorem drop_cons {r : List UInt8} {q : Nat} {c : UInt8} (h : r[q]? = some c) : r.drop q = c :: r.drop (q + 1) := by
  obtain ⟨hlt, he⟩ := List.getElem?_eq_some_iff.1 h
  rw [List.drop_eq_getElem_cons hlt, he]
theorem Rest.blank {r : List UInt8} {L : List LexTok} {q : Nat} (h : Rest r L q) {c : UInt8} (hc : r[q]? = some c) (hb : lexB c = true) : Rest r L (q + 1) := by
  unfold Rest at *
  rw [h, drop_cons hc, toks_blank q hb]
theorem Rest.bad {r : List UInt8} {L : List LexTok} {q : Nat} (h : Rest r L q) {c : UInt8} (hc : r[q]? = some c) (hb : lexB c = false) {e : Int} (ho : oneT (r.drop q) = .error e) : toks r 0 = .error (q, e) := by
  unfold Rest at h
  rw [drop_cons hc] at ho h
  rw [h, toks_bad q hb ho]
  rfl
theorem Rest.tok {r : List UInt8} {L : List LexTok} {q : Nat} (h : Rest r L q) {c : UInt8} (hc : r[q]? = some c) (hb : lexB c = false) {k : Int} {n : Nat} (ho : oneT (r.drop q) = .ok (k, n)) : Rest r (L ++ [⟨k, (r.drop q).take n, q⟩]) (q + n) := by
  unfold Rest at *
  rw [← preT_snoc, h]
  congr 1
  have hd : r.drop (q + n) = (r.drop q).drop n := by rw [List.drop_drop]
  rw [hd]
  rw [drop_cons hc] at ho ⊢
  exact toks_ok q hb ho
theorem Rest.done {r : List UInt8} {L : List LexTok} {q : Nat} (h : Rest r L q) (hq : r.length ≤ q) : toks r 0 = .ok L := by
  unfold Rest at h
  rw [h, List.drop_eq_nil_of_le hq, toks_nil]
  simp [preT]
/-- Bytes of tokens are below 128. -/
theorem letter_low {c : UInt8} (h : lexL c = true) : c.toNat < 128 := by
  rcases Nat.lt_or_ge c.toNat 128 with h1 | h1
  · exact h1
  · have := lexW_high c h1
    rw [lexW_parts, h] at this
    cases this
theorem part_low {c : UInt8} (h : lexW c = true) : c.toNat < 128 := by
  rcases Nat.lt_or_ge c.toNat 128 with h1 | h1
  · exact h1
  · rw [lexW_high c h1] at h; cases h
theorem digit_low {c : UInt8} (h : lexD c = true) : c.toNat < 128 := by have := lexD_iff.1 h; omega
theorem sign1_low {c : UInt8} (h : sign1 c = true) : c.toNat < 128 := by
  unfold sign1 at h
  simp at h
  omega
theorem sign2_low {a b : UInt8} (h : sign2 a b = true) : a.toNat < 128 ∧ b.toNat < 128 := by
  unfold sign2 at h
  simp at h
  omega
theorem oneT_low {l : List UInt8} {k : Int} {n : Nat} (h : oneT l = .ok (k, n)) : ∀ c, c ∈ l.take n → c.toNat < 128 := by
  match l, h with
  | c :: t, h =>
    rw [oneT_cons] at h
    split at h
    · split at h
      · cases h
      · cases h
        rw [take_takeWhile]
        intro x hx
        exact part_low (takeWhile_all _ _ x hx)
    · split at h
      · split at h
        · cases h
        · cases h
          rw [take_takeWhile]
          intro x hx
          exact digit_low (takeWhile_all _ _ x hx)
      · split at h
        · next hl =>
          cases h
          match t, hl with
          | b :: s, hl =>
            have h2 := sign2_low (a := c) (b := b) hl
            intro x hx
            simp at hx
            rcases hx with rfl | rfl
            · exact h2.1
            · exact h2.2
        · split at h
          · next h1 =>
            cases h
            intro x hx
            simp at hx
            subst hx
            exact sign1_low h1
          · cases h
theorem tokenR_err {l : List UInt8} {x : Int} (h : tokenR l = .error x) : oneT l = .error x ∧ x ≠ 0 := by
  unfold tokenR at h
  cases ho : oneT l with
  | error e =>
    rw [ho] at h
    cases h
    refine ⟨rfl, ?_⟩
    cases l with
    | nil => cases ho; decide
    | cons c t =>
      rw [oneT_cons] at ho
      split at ho
      · split at ho
        · cases ho; decide
        · cases ho
      · split at ho
        · split at ho
          · cases ho; decide
          · cases ho
        · split at ho
          · cases ho
          · split at ho
            · cases ho
            · cases ho; decide
  | ok kn => rw [ho] at h; cases h
theorem tokenR_ok {l : List UInt8} {k : Int} {t : ByteArray} (h : tokenR l = .ok (k, t)) : ∃ n, oneT l = .ok (k, n) ∧ t = bs (l.take n) := by
  unfold tokenR at h
  cases ho : oneT l with
  | error e => rw [ho] at h; cases h
  | ok kn =>
    obtain ⟨k2, n⟩ := kn
    rw [ho] at h
    cases h
    exact ⟨n, rfl, rfl⟩
theorem mem_piece {r : List UInt8} {pos n j : Nat} {c : UInt8} (h1 : pos ≤ j) (h2 : j < pos + n) (hc : r[j]? = some c) : c ∈ (r.drop pos).take n := by
  refine List.mem_of_getElem? (i := j - pos) ?_
  rw [List.getElem?_take, if_pos (by omega), List.getElem?_drop, show pos + (j - pos) = j by omega]
  exact hc
/-- A token's cells. -/
def tokCs (t : LexTok) : List Value := [.int .u8 t.k, .string (bs t.text), .int .i64 (t.at' : Int)]
theorem tokCs_len (t : LexTok) : (tokCs t).length = 3 := rfl
theorem tokCs_one (t : LexTok) : ∀ u ∈ tokCs t, u.oneCell' = true := by
  intro u hu
  simp [tokCs] at hu
  rcases hu with rfl | rfl | rfl <;> rfl
abbrev tokT : TypeId := 33
/-- A row of tokens, in a block from B on. -/
abbrev OwnT (w : World) (B : Nat) (A : Option Addr) (n c : Nat) (L : List LexTok) : Prop := OwnE tokCs 3 tokT w B A n c L
theorem tok_info : (Tryd.prog.info? 33).map (fun i => (i.zero, i.size, i.bytes)) = some (some (.agg #[.int .u8 0, .string ⟨#[]⟩, .int .i64 0]), 3, 32) := by kernel_rfl
theorem tok_new (w : World) (t : LexTok) (s : ByteArray) (hs : bs t.text = s) : ∀ j u, (tokCs t)[j]? = some u → (w.alloc (.cells #[.int .u8 t.k, .string s, .int .i64 (t.at' : Int)] tokT)).cell? ((⟨w.heap.size, 0, none⟩ : Addr).add j) = some u := by
  intro j u hj
  subst hs
  rw [addrE_at]
  have h1 : #[Value.int .u8 t.k, .string (bs t.text), .int .i64 (t.at' : Int)][j]? = some u := by
    rw [← Array.getElem?_toList]
    exact hj
  exact (lx_cells (lx_made w (.cells #[.int .u8 t.k, .string (bs t.text), .int .i64 (t.at' : Int)] tokT)) h1).1
theorem size_set (w : World) (p : Addr) (v : Value) : (w.setCell p v).heap.size = w.heap.size := by simp [World.setCell]
/-- A row is kept while an iterator is moved on. -/
theorem OwnT.iterAt {w : World} {B : Nat} {A : Option Addr} {n c : Nat} {L : List LexTok} (h : OwnT w B A n c L) {k : Nat} {s : ByteArray} {pos : Nat} (hk : w.heap[k]? = some (.stringIter s pos)) (pos' : Nat) : OwnT (w.iterAt k s pos') B A n c L := by
  refine ⟨⟨h.row.1, ?_⟩, h.len⟩
  rcases h.row.2 with h0 | ⟨g, cap, cur, hv, hb, hg, rest⟩
  · exact .inl h0
  · refine .inr ⟨g, cap, cur, hv, hb, ?_, rest⟩
    rw [Lib.iterAt_other _ _ _ _ _ (fun e => by subst e; rw [hk] at hg; cases hg)]
    exact hg
/-- What Tokens answers of a text. -/
def toksR (s : ByteArray) : Except (Nat × Int) (List LexTok) := if 4096 < s.size then .error (0, 3) else toks s.data.toList 0
/-- A call answered a text's tokens, or the error. -/
def ToksAns (s : ByteArray) (w : World) (e : Ending) (w' : World) : Prop :=
  ((∃ A n c L, toksR s = .ok L ∧ n ≤ 4096 ∧ e = .returned (.tuple #[.slice A n c, .int .i64 0, .int .i64 0]) ∧ OwnT w' w.heap.size A n c L) ∨ (∃ (a : Nat) (x : Int), toksR s = .error (a, x) ∧ e = .returned (.tuple #[.slice none 0 0, .int .i64 (a : Int), .int .i64 x]))) ∧ Below w.heap.size w w'
theorem toks_err {r : List UInt8} {a : Nat} : ∀ {q : Nat} {x : Int} (m : Nat), r.length - q ≤ m → toks (r.drop q) q = .error (a, x) → x = 80 ∨ x = 81 ∨ x = 82 := by
  intro q x m
  induction m generalizing q with
  | zero =>
    intro h1 h2
    rw [List.drop_eq_nil_of_le (by omega), toks_nil] at h2
    cases h2
  | succ m ih =>
    intro h1 h2
    cases hr : r[q]? with
    | none =>
      rw [List.getElem?_eq_none_iff] at hr
      rw [List.drop_eq_nil_of_le hr, toks_nil] at h2
      cases h2
    | some c =>
      have hlt := (List.getElem?_eq_some_iff.1 hr).1
      cases hb : lexB c with
      | true =>
        rw [drop_cons hr, toks_blank q hb] at h2
        exact ih (by omega) h2
      | false =>
        cases ho : oneT (r.drop q) with
        | error e =>
          rw [drop_cons hr] at ho h2
          rw [toks_bad q hb ho] at h2
          cases h2
          rw [oneT_cons] at ho
          split at ho
          · split at ho
            · cases ho; simp
            · cases ho
          · split at ho
            · split at ho
              · cases ho; simp
              · cases ho
            · split at ho
              · cases ho
              · split at ho
                · cases ho
                · cases ho; simp
        | ok kn =>
          obtain ⟨k, n⟩ := kn
          have hn := (oneT_len ho).1
          rw [drop_cons hr] at ho h2
          rw [toks_ok q hb ho] at h2
          have hd : (c :: r.drop (q + 1)).drop n = r.drop (q + n) := by rw [← drop_cons hr, List.drop_drop]
          rw [hd] at h2
          cases hx : toks (r.drop (q + n)) (q + n) with
          | error y =>
            rw [hx] at h2
            cases h2
            exact ih (by omega) hx
          | ok l => rw [hx] at h2; cases h2
end Go.Proofs.YtedhnnechjnnfaaDoor
