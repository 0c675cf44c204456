import Derived.Test.YtoehkaagfokamaaDoorZDigits
import Derived.Test.YtoehkaagfokamaaDoorZNm
import Derived.Laws.IdiomStrings
/- Bytes. -/
/- Rows of bytes; the lowest digits of a number. -/
namespace Go.Proofs.YtoehkaagfokamaaDoor
open Go.RowKit Go.Shelf
set_option linter.unusedVariables false
set_option linter.unusedSimpArgs false

abbrev by8 (c : UInt8) : Value := .int .u8 (c.toNat : Int)
theorem u8_info : (Tryd.prog.info? 5).map (fun i => (i.zero, i.size, i.bytes)) = some (some (.int .u8 0), 1, 1) := by kernel_rfl
/-- A slice of bytes of the call's own. -/
def OwnY (w : World) (B : Nat) (v : Value) (l : List UInt8) : Prop := w.ownsRow B 5 1 v l.length (l.map by8)
theorem OwnY.below {w w' : World} {B : Nat} {v : Value} {l : List UInt8} (h : OwnY w B v l) (hb : Below w.heap.size w w') : OwnY w' B v l := by
  refine ⟨h.1, ?_⟩
  rcases h.2 with h2 | ⟨g, cap, cur, e, hg, hh, r⟩
  · exact .inl h2
  · exact .inr ⟨g, cap, cur, e, hg, (hb.block g (Array.getElem?_eq_some_iff.1 hh).1).trans hh, r⟩
theorem owny_block {w : World} {B : Nat} {v : Value} {l : List UInt8} (h : OwnY w B v l) : ∀ k, v.ownBlock = some k → B ≤ k := fun k e => (h.lt k e).1
theorem owny_nil (w : World) (B : Nat) : OwnY w B (.slice none 0 0) [] := ⟨rfl, .inl ⟨rfl, rfl⟩⟩
theorem OwnY.form {w : World} {B : Nat} {v : Value} {l : List UInt8} (h : OwnY w B v l) (hl : l ≠ []) : ∃ g c, v = .slice (some ⟨g, 0, none⟩) l.length c ∧ B ≤ g ∧ g < w.heap.size ∧ l.length ≤ c ∧ c ≤ maxLen ∧ (∀ i (hi : i < l.length), w.cell? ⟨g, i, none⟩ = some (by8 l[i]) ∧ w.frozen? ⟨g, i, none⟩ = false) := by
  rcases h.2 with ⟨e, h0⟩ | ⟨g, cap, cur, e, hg, hh, hn, hc, hs, ht⟩
  · exact absurd (List.eq_nil_of_length_eq_zero h0) hl
  · refine ⟨g, cap, e, hg, (Array.getElem?_eq_some_iff.1 hh).1, hn, hc, fun i hi => ⟨?_, by simp [World.frozen?, hh]⟩⟩
    have hci := h.cells (g := g) (by rw [e]; rfl) i (by8 l[i]) (by rw [List.getElem?_map, List.getElem?_eq_getElem hi]; rfl)
    by_cases h0 : i = 0
    · subst h0; simpa [Addr.add] using hci
    · simpa [Addr.add, h0] using hci
theorem OwnY.set {w : World} {B g n c : Nat} {l : List UInt8} (h : OwnY w B (.slice (some ⟨g, 0, none⟩) n c) l) (hn : n = l.length) {i : Nat} (hi : i < l.length) (x : UInt8) : OwnY (w.setCell ⟨g, i, none⟩ (by8 x)) B (.slice (some ⟨g, 0, none⟩) n c) (l.set i x) := by
  subst hn
  rcases h.2 with ⟨e, _⟩ | ⟨g2, cap, cur, e, hg, hh, hn, hc, hs, ht⟩
  · cases e
  · cases e
    refine ⟨by simp, .inr ⟨g, c, cur.set! i (by8 x), by rw [List.length_set], hg, ?_, by rw [List.length_set]; exact hn, hc, by simpa using hs, ?_⟩⟩
    · simp [World.setCell, Array.getElem?_modify, hh]
    · rw [List.length_set, Nat.mul_one] at *
      rw [List.map_set, ← ht]
      simp [List.take_set, Array.set!]
/-- Limbs and bytes lie apart. -/
theorem own_apart {w : World} {B B2 : Nat} {v m : Value} {l : List Nat} {y : List UInt8} (h : Own w B v l) (hy : OwnY w B2 m y) : v.ownBlock = none ∨ v.ownBlock ≠ m.ownBlock := by
  rcases h.1.2 with ⟨e, _⟩ | ⟨g, cap, cur, e, hg, hh, _⟩
  · exact .inl (by rw [e]; rfl)
  · rcases hy.2 with ⟨e2, _⟩ | ⟨g2, cap2, cur2, e2, hg2, hh2, _⟩
    · exact .inr (by rw [e, e2]; simp [Value.ownBlock])
    · refine .inr (fun hc => ?_)
      rw [e, e2] at hc
      have hgg : g = g2 := by simpa [Value.ownBlock] using hc
      rw [hgg, hh2] at hh
      simp at hh
theorem own_grown {w w' : World} {B B2 : Nat} {v m : Value} {l : List Nat} {y : List UInt8} (h : Own w B v l) (hy : OwnY w B2 m y) (hg : w.grownBy w' m.ownBlock) : Own w' B v l := ⟨h.1.kept hg (own_apart h hy), h.2⟩
theorem u8_wrap {d : Nat} (h : d < 10) : IntKind.u8.wrap (48 + IntKind.u8.wrap (d : Int)) = ((dig d).toNat : Int) := by
  rw [dig_nat h, IntKind.wrap_u8, IntKind.wrap_u8]
  omega

/-- n digits to ten, the lowest first. -/
def lowD : Nat → Nat → List Nat
  | 0, _ => []
  | n + 1, v => v % 10 :: lowD n (v / 10)
theorem lowD_len (n v : Nat) : (lowD n v).length = n := by
  induction n generalizing v with
  | zero => rfl
  | succ n ih => simp [lowD, ih]
theorem lowD_snoc (n v : Nat) : lowD (n + 1) v = lowD n v ++ [v / 10 ^ n % 10] := by
  induction n generalizing v with
  | zero => simp [lowD]
  | succ n ih =>
    show v % 10 :: lowD (n + 1) (v / 10) = (v % 10 :: lowD n (v / 10)) ++ [v / 10 ^ (n + 1) % 10]
    rw [ih, Nat.div_div_eq_div_mul, Nat.pow_succ, Nat.mul_comm 10]
    rfl
/-- .. as bytes. -/
def lowB (n v : Nat) : List UInt8 := (lowD n v).map dig
theorem lowB_len (n v : Nat) : (lowB n v).length = n := by rw [lowB, List.length_map, lowD_len]
theorem lowB_snoc (n v : Nat) : lowB (n + 1) v = lowB n v ++ [dig (v / 10 ^ n % 10)] := by rw [lowB, lowB, lowD_snoc, List.map_append]; rfl
theorem lowB_zero (v : Nat) : lowB 0 v = [] := rfl
theorem ten_pad {n v : Nat} (h : v < 10 ^ n) : (lowB n v).reverse = List.replicate (n - (tenL v).length) 48 ++ tenL v := by
  induction n generalizing v with
  | zero =>
    have : v = 0 := by simp at h; omega
    subst this
    simp [lowB, lowD, tenL_zero]
  | succ n ih =>
    have hv : v / 10 < 10 ^ n := by rw [Nat.pow_succ] at h; omega
    have e : (lowB (n + 1) v).reverse = (lowB n (v / 10)).reverse ++ [dig (v % 10)] := by simp [lowB, lowD]
    rw [e, ih hv]
    by_cases h0 : v = 0
    · subst h0
      simp only [Nat.zero_div, Nat.zero_mod, tenL_zero, List.length_nil, Nat.sub_zero, List.append_nil]
      rw [List.replicate_succ']
      rfl
    · rw [tenL_pos h0, List.length_append, List.length_singleton, Nat.add_sub_add_right, List.append_assoc]
theorem drop_pad {k : Nat} {l : List UInt8} (h : l.head? ≠ some 48) : (List.replicate k 48 ++ l).dropWhile (· == 48) = l := by
  induction k with
  | zero =>
    rw [List.replicate_zero, List.nil_append]
    cases l with
    | nil => rfl
    | cons x r =>
      have : x ≠ 48 := by simpa using h
      rw [List.dropWhile_cons, if_neg (by simpa using this)]
  | succ k ih => rw [List.replicate_succ, List.cons_append, List.dropWhile_cons, if_pos (by simp), ih]
theorem trim_low {n v : Nat} (h : v < 10 ^ n) (h0 : v ≠ 0) : ((lowB n v).reverse).dropWhile (· == 48) = tenL v := by rw [ten_pad h, drop_pad (head_ten h0)]
theorem low_digit {x j : Nat} (hj : j < 19) : x % 10 ^ 19 / 10 ^ j % 10 = x / 10 ^ j % 10 := by
  have e : 10 ^ 19 = 10 ^ j * 10 ^ (19 - j) := by rw [← Nat.pow_add]; congr 1; omega
  have e2 : 10 ^ (19 - j) = 10 * 10 ^ (18 - j) := by rw [← Nat.pow_succ']; congr 1; omega
  rw [e, Nat.mod_mul_right_div_self, e2, Nat.mod_mul_right_mod]
end Go.Proofs.YtoehkaagfokamaaDoor
