import Derived.Test.YtjipdfebehcggaaZSpec
import Derived.Test.YtjipdfebehcggaaZNm
import Derived.Deep.RegionHeld3
/- RefDiv. -/
/- The document's quotient: of words, or bit by bit. -/
namespace Go.Proofs.Ytjipdfebehcggaa
open Go.RowKit Go.Shelf
set_option linter.unusedVariables false
set_option linter.unusedSimpArgs false

/-! ### Rows of bits of the call's own, set in place -/
theorem owni_at {w : World} {B n c : Nat} {A : Option Addr} {l : List Nat} (h : OwnI w B (.slice A n c) l) (hn : 0 < n) : ∃ g, A = some ⟨g, 0, none⟩ ∧ B ≤ g ∧ g < w.heap.size := by
  rcases h.1.2 with ⟨e, h0⟩ | ⟨g, cap, cur, e, hg, hh, r⟩
  · cases e; omega
  · cases e
    exact ⟨g, rfl, hg, (Array.getElem?_eq_some_iff.1 hh).1⟩
theorem owni_cell {w : World} {B g n c : Nat} {l : List Nat} (h : OwnI w B (.slice (some ⟨g, 0, none⟩) n c) l) {i : Nat} (hi : i < n) : w.cell? ⟨g, i, none⟩ = some (i64n (lim l i)) ∧ w.frozen? ⟨g, i, none⟩ = false := by
  obtain ⟨A, c', e, hr, _, _⟩ := h.form
  cases e
  obtain ⟨b, off, e, hlt, hc⟩ := hr.cells (by omega)
  cases e
  refine ⟨by simpa using hc i hi, ?_⟩
  rcases h.1.2 with ⟨e, _⟩ | ⟨g', cap, cur, e, hg, hh, _⟩
  · cases e
  · cases e
    simp [World.frozen?, hh]
theorem bits_set {l : List Nat} (h : Bits l) {i v : Nat} (hv : v ≤ 1) : Bits (l.set i v) := fun y hy => by
  rcases List.mem_or_eq_of_mem_set hy with hy | rfl
  · exact h y hy
  · exact hv
theorem owni_set {w : World} {B g n c : Nat} {l : List Nat} (h : OwnI w B (.slice (some ⟨g, 0, none⟩) n c) l) {i v : Nat} (hv : v ≤ 1) : OwnI (w.setCell ⟨g, i, none⟩ (i64n v)) B (.slice (some ⟨g, 0, none⟩) n c) (l.set i v) := by
  refine ⟨⟨by simp, ?_⟩, bits_set h.2 hv⟩
  rcases h.1.2 with ⟨e, _⟩ | ⟨g', cap, cur, e, hg, hh, hnc, hc, hs, ht⟩
  · cases e
  · cases e
    refine .inr ⟨g, c, cur.setIfInBounds i (i64n v), by simp, hg, ?_, by simpa using hnc, hc, by simpa using hs, ?_⟩
    · simp [World.setCell, Array.getElem?_modify, hh]
    · rw [List.map_set, ← ht]
      simp [List.take_set]
theorem cell_lt {w : World} {p : Addr} {u : Value} (h : w.cell? p = some u) : p.block < w.heap.size := by
  unfold World.cell? at h
  cases ho : w.heap[p.block]? with
  | none => simp [ho] at h
  | some o => exact (Array.getElem?_eq_some_iff.1 ho).1
/-- What is owned from a block on is kept by stores below. -/
theorem own_far {w : World} {B : Nat} {v : Value} {l : List Nat} (h : Own w B v l) {p : Addr} (hp : p.block < B) (u : Value) : Own (w.setCell p u) B v l := by
  refine ⟨⟨h.1.1, ?_⟩, h.2⟩
  rcases h.1.2 with h2 | ⟨g, cap, cur, e, hg, hh, r⟩
  · exact .inl h2
  · exact .inr ⟨g, cap, cur, e, hg, (Below.heap_setCell w p u g (by omega)).trans hh, r⟩
theorem bval_set {l : List Nat} {i : Nat} (hi : i < l.length) (h0 : lim l i = 0) : bval (l.set i 1) = bval l + 2 ^ i := by
  induction l generalizing i with
  | nil => simp at hi
  | cons x r ih =>
    cases i with
    | zero =>
      have e : x = 0 := by simpa [lim] using h0
      subst e
      simp [bval]; omega
    | succ i =>
      have h := ih (i := i) (by simpa using hi) (by simpa [lim] using h0)
      rw [List.set_cons_succ, bval, bval, h, Nat.pow_succ]
      omega

/-! ### Quotients bit by bit -/
theorem div_of {n b k r : Nat} (hb : r < b) (h : n = r + b * k) : n / b = k ∧ n % b = r := by
  subst h
  have h0 : 0 < b := by omega
  exact ⟨by rw [Nat.add_mul_div_left _ _ h0, Nat.div_eq_of_lt hb, Nat.zero_add], by rw [Nat.add_mul_mod_self_left, Nat.mod_eq_of_lt hb]⟩
theorem over_step {V b j q r t : Nat} (hb : 0 < b) (hq : V / 2 ^ (j + 1) / b = q) (hr : V / 2 ^ (j + 1) % b = r) (ht : nbit V j = t) :
    (r * 2 + t < b → V / 2 ^ j / b = 2 * q ∧ V / 2 ^ j % b = r * 2 + t) ∧ (b ≤ r * 2 + t → V / 2 ^ j / b = 2 * q + 1 ∧ V / 2 ^ j % b = r * 2 + t - b) := by
  have e := div_bit V j
  have h1 := Nat.mod_add_div (V / 2 ^ (j + 1)) b
  rw [hq, hr] at h1
  rw [ht, ← h1] at e
  have hrb : r < b := by rw [← hr]; exact Nat.mod_lt _ hb
  have ht1 : t ≤ 1 := by have := nbit_two V j; omega
  have e2 : b * (2 * q) = 2 * (b * q) := Nat.mul_left_comm _ _ _
  have e3 : b * (2 * q + 1) = 2 * (b * q) + b := by rw [Nat.mul_add, e2, Nat.mul_one]
  constructor
  · intro h
    exact div_of h (by rw [e, e2]; omega)
  · intro h
    exact div_of (by omega) (by rw [e, e3]; omega)
-- WALKS
/-- Nothing of a number stands from its length on. -/
structure V_zero (v M b : Nat) : Prop where
  out : v / 2 ^ M = 0
theorem double_lt {r b n t : Nat} (h : r < b) (hb : b < B64 ^ n) (ht : t ≤ 1) : r * 2 ^ 1 + t < B64 ^ (n + 1) := by
  rw [Nat.pow_one, Nat.pow_succ]
  have h2 : B64 ^ n * 2 ≤ B64 ^ n * B64 := Nat.mul_le_mul_left _ B64_gt
  omega

theorem one_val : val [1] = 1 := by simp [val]
theorem cmp3_ge {x y : Nat} (h : y ≤ x) : cmp3 x y = 0 ∨ cmp3 x y = 1 := by
  rcases Nat.eq_or_lt_of_le h with rfl | h
  · exact .inl (cmp3_self _)
  · exact .inr (cmp3_gt h)

section
variable (A A2 : Option Addr) (na ca nb cb : Nat) (a : List Nat) (b : Nat) (w : World)

theorem quo_word {x y q r : Nat} (hx : x < B64) (hq : x / y = q) (hr : x % y = r) : Int.tdiv (x : Int) (y : Int) = (q : Int) ∧ (x : Int) / (y : Int) = (q : Int) ∧ Int.tmod (x : Int) (y : Int) = (r : Int) ∧ (x : Int) % (y : Int) = (r : Int) ∧ IntKind.u64.wrap (q : Int) = (q : Int) ∧ IntKind.u64.wrap (r : Int) = (r : Int) ∧ q < B64 ∧ r < B64 := by
  have h1 : q < B64 := by rw [← hq]; exact Nat.lt_of_le_of_lt (Nat.div_le_self _ _) hx
  have h2 : r < B64 := by rw [← hr]; exact Nat.lt_of_le_of_lt (Nat.mod_le _ _) hx
  have e1 : (x : Int) / (y : Int) = (q : Int) := by rw [← hq]; simp
  have e2 : (x : Int) % (y : Int) = (r : Int) := by rw [← hr]; simp
  refine ⟨?_, e1, ?_, e2, ?_, ?_, h1, h2⟩
  · rw [Int.tdiv_eq_ediv_of_nonneg (by omega)]; exact e1
  · rw [Int.tmod_eq_emod_of_nonneg (by omega)]; exact e2
  · rw [IntKind.wrap_u64]; rw [B64_eq] at h1; omega
  · rw [IntKind.wrap_u64]; rw [B64_eq] at h2; omega

theorem rOf_keep (x : Nat) (hx : x < B64) (p p2 : Addr) (u u2 : Value) (h1 : w.cell? p = some u) (h2 : w.cell? p2 = some u2) :
    Calls Try.prog 51 #[.int .u64 (x : Int)] w fun e w' => ∃ A' k c, e = .returned (.slice A' k c) ∧ Own w' w.heap.size (.slice A' k c) (limbs x) ∧ Below w.heap.size w w' ∧ w'.cell? p = some u ∧ w'.cell? p2 = some u2 :=
  (rOf_any w x hx).mono fun e w' ⟨A', k, c, he, ho, hb⟩ => ⟨A', k, c, he, ho, hb, (hb.cell (cell_lt h1)).trans h1, (hb.cell (cell_lt h2)).trans h2⟩

end
end Go.Proofs.Ytjipdfebehcggaa
