import Derived.Test.YtgiokmfdafmaoaaGreatJSum
import Derived.Deep.OwnRows
/- RowL. -/
/- A block that is known whole: limbs, in their order. -/
namespace Go.Proofs.YtgiokmfdafmaoaaGreat
open Go.RowKit

def RowL (w : World) (g : Nat) (l : List Nat) : Prop := w.heap[g]? = some (.cells (l.map u64).toArray 36 (0, 0))

section
variable {w w' : World} {g : Nat} {l : List Nat}
theorem RowL.lt (h : RowL w g l) : g < w.heap.size := (Array.getElem?_eq_some_iff.1 h).1
theorem RowL.cell (h : RowL w g l) {i : Nat} (hi : i < l.length) : w.cell? ⟨g, i, none⟩ = some (u64 (lim l i)) := by
  simp [World.cell?, show w.heap[g]? = _ from h, hi, lim]
theorem RowL.frozen (h : RowL w g l) (i : Nat) : w.frozen? ⟨g, i, none⟩ = false := by
  simp [World.frozen?, show w.heap[g]? = _ from h]
theorem RowL.set (h : RowL w g l) (i v : Nat) : RowL (w.setCell ⟨g, i, none⟩ (u64 v)) g (l.set i v) := by
  unfold RowL at h ⊢
  simp [World.setCell, Array.getElem?_modify, h]
theorem RowL.below {B : Nat} (h : RowL w g l) (hb : Below B w w') (hg : g < B) : RowL w' g l := (hb.block g hg).trans h
theorem RowL.far (h : RowL w g l) {p : Addr} (hp : g ≠ p.block) (u : Value) : RowL (w.setCell p u) g l := (Below.heap_setCell w p u g hp).trans h
theorem RowL.drew (h : RowL w g l) : RowL w.drew g l := h
theorem RowL.drewN (h : RowL w g l) (n : Nat) : RowL (w.drewN n) g l := h
theorem RowL.alloc (h : RowL w g l) (o : Obj) : RowL (w.alloc o) g l := (Below.heap_alloc w o g h.lt).trans h
theorem RowL.own (h : RowL w g l) {B n : Nat} (hB : B ≤ g) (hw : Words l) (hn : l.length = n) (hm : n ≤ maxLen) : Own w B (.slice (some ⟨g, 0, none⟩) n n) l := by
  subst hn
  exact ⟨⟨by simp, .inr ⟨g, l.length, _, rfl, hB, h, Nat.le_refl _, hm, by simp, by simp [List.take_of_length_le]⟩⟩, hw⟩
theorem RowL.zeros (w : World) (n : Nat) : RowL (w.alloc (.cells (madeCells #[.int .u64 0] n) 36)) w.heap.size (List.replicate n 0) := by
  unfold RowL
  rw [World.alloc_heap_new]
  congr 2
  apply Array.ext
  · simp [madeCells]
  · intro i h1 h2
    simp [madeCells, Nat.mod_one]
end

/-! ### Lists of limbs that are written -/
theorem words_set {l : List Nat} (h : Words l) {i v : Nat} (hv : v < B64) : Words (l.set i v) := fun y hy => by
  rcases List.mem_or_eq_of_mem_set hy with hy | rfl
  · exact h y hy
  · exact hv
theorem val_set {l : List Nat} {i : Nat} (hi : i < l.length) (v : Nat) : val (l.set i v) + B64 ^ i * lim l i = val l + B64 ^ i * v := by
  induction l generalizing i with
  | nil => simp at hi
  | cons x r ih =>
    cases i with
    | zero => simp [val, lim]; omega
    | succ i =>
      have h := ih (i := i) (by simpa using hi)
      have e : lim (x :: r) (i + 1) = lim r i := by simp [lim]
      rw [e, List.set_cons_succ, val_cons, val_cons, Nat.pow_succ, Nat.mul_comm (B64 ^ i) B64, Nat.mul_assoc, Nat.mul_assoc]
      have h2 : B64 * (val (r.set i v) + B64 ^ i * lim r i) = B64 * (val r + B64 ^ i * v) := by rw [h]
      rw [Nat.mul_add, Nat.mul_add] at h2
      omega
theorem lim_val {l : List Nat} (h : Words l) (i : Nat) : lim l i = val l / B64 ^ i % B64 := by
  induction l generalizing i with
  | nil => simp [lim, val]
  | cons x r ih =>
    have hx := h.head
    cases i with
    | zero =>
      have e : lim (x :: r) 0 = x := by simp [lim]
      rw [e, val_cons, Nat.pow_zero, Nat.div_one, Nat.add_mul_mod_self_left, Nat.mod_eq_of_lt hx]
    | succ i =>
      have e : lim (x :: r) (i + 1) = lim r i := by simp [lim]
      rw [e, ih h.tail i, val_cons, Nat.pow_succ, Nat.mul_comm (B64 ^ i) B64, ← Nat.div_div_eq_div_mul, Nat.add_mul_div_left _ _ B64_pos, Nat.div_eq_of_lt hx, Nat.zero_add]
theorem lim_zero_of_lt {l : List Nat} (h : Words l) {i : Nat} (hv : val l < B64 ^ i) : lim l i = 0 := by
  rw [lim_val h, Nat.div_eq_of_lt hv, Nat.zero_mod]
theorem val_zeros (n : Nat) : val (List.replicate n 0) = 0 := by
  induction n with
  | zero => rfl
  | succ n ih => rw [List.replicate_succ, val_cons, ih]; rfl
theorem words_zeros (n : Nat) : Words (List.replicate n 0) := fun y hy => by
  rw [List.mem_replicate] at hy
  rw [hy.2]; exact B64_pos

/-! ### Shifts -/
theorem B64_split {r : Nat} (hr : r ≤ 64) : B64 = 2 ^ (64 - r) * 2 ^ r := by
  rw [← Nat.pow_add, show 64 - r + r = 64 by omega]; rfl
theorem shl_over {x r : Nat} (hr : r ≤ 64) : x * 2 ^ r / B64 = x / 2 ^ (64 - r) := by
  rw [B64_split hr, Nat.mul_div_mul_right _ _ (Nat.two_pow_pos r)]
theorem shl_split {x r : Nat} (hr : r ≤ 64) : x * 2 ^ r % B64 + B64 * (x / 2 ^ (64 - r)) = x * 2 ^ r := by
  rw [← shl_over hr]; exact Nat.mod_add_div _ _
theorem shl_mod {x r : Nat} (hr : r ≤ 64) : x * 2 ^ r % B64 = 2 ^ r * (x % 2 ^ (64 - r)) := by
  rw [B64_split hr, Nat.mul_mod_mul_right, Nat.mul_comm]
theorem or_shl {x y r : Nat} (hr : r ≤ 64) (hy : y < 2 ^ r) : y ||| (x * 2 ^ r % B64) = y + x * 2 ^ r % B64 := by
  rw [shl_mod hr, Nat.or_comm, ← Nat.two_pow_add_eq_or_of_lt hy, Nat.add_comm]
/-! ### What is handed in -/
theorem own_shape {w : World} {B : Nat} {v : Value} {o : List Nat} (h : Own w B v o) : ∃ A c, v = .slice A o.length c := by
  rcases h.1.2 with ⟨e, h0⟩ | ⟨g, cap, cur, e, _⟩
  · exact ⟨none, 0, by rw [e, h0]⟩
  · exact ⟨_, cap, e⟩
/-- The row that came in, as limbs. -/
theorem rd_of_row {w : World} {a : Option Addr} {len cap : Nat} {zs : List Int}
    (h : (a = none ∧ len = 0 ∧ cap = 0 ∧ zs = []) ∨ ∃ x, a = some x ∧ len ≤ cap ∧ cap ≤ maxLen ∧ zs.length = cap ∧ (∀ i, i < zs.length → w.cell? (x.add i) = some (.int .u64 (zs.getD i 0))) ∧ ∀ n ∈ zs, (Lit.int .u64 n).wf = true) :
    (∃ l, Rd w a len l) ∧ len ≤ cap ∧ cap ≤ 9223372036854775807 := by
  rcases h with ⟨rfl, rfl, rfl, rfl⟩ | ⟨x, rfl, hl, hm, hz, hcell, hwz⟩
  · exact ⟨⟨[], rd_nil w none⟩, Nat.le_refl _, Nat.zero_le _⟩
  · refine ⟨⟨(zs.take len).map Int.toNat, ?_, ?_, ?_⟩, hl, hm⟩
    · rw [List.length_map, List.length_take]; omega
    · intro y hy
      obtain ⟨z, hz1, rfl⟩ := List.mem_map.1 hy
      have := hwz z (List.mem_of_mem_take hz1)
      simp [Lit.wf, IntKind.min, IntKind.max, IntKind.signed, IntKind.bits] at this
      rw [B64_eq]; omega
    · intro hn
      obtain ⟨b, off, spot⟩ := x
      have hc := hcell 0 (by omega)
      have hspot : spot = none := by simpa [Addr.add] using World.cell?_spot hc
      subst hspot
      have hlt : b < w.heap.size := by
        have : w.cell? ⟨b, off, none⟩ = some (.int .u64 (zs.getD 0 0)) := by simpa [Addr.add] using hc
        unfold World.cell? at this
        cases ho : w.heap[b]? with
        | none => simp [ho] at this
        | some o => exact (Array.getElem?_eq_some_iff.1 ho).1
      refine ⟨b, off, rfl, hlt, fun i hi => ?_⟩
      have h1 := hcell i (by omega)
      have h2 : w.cell? ⟨b, off + i, none⟩ = some (.int .u64 (zs.getD i 0)) := by
        by_cases h0 : i = 0
        · subst h0; simpa [Addr.add] using h1
        · simpa [Addr.add, h0] using h1
      rw [h2]
      have h3 : lim ((zs.take len).map Int.toNat) i = (zs.getD i 0).toNat := by
        simp [lim, List.getD_eq_getElem?_getD, hi, show i < zs.length by omega]
      have h4 := hwz (zs.getD i 0) (by rw [List.getD_eq_getElem?_getD, List.getElem?_eq_getElem (by omega)]; exact List.getElem_mem _)
      simp [Lit.wf, IntKind.min, IntKind.max, IntKind.signed, IntKind.bits] at h4
      rw [h3]
      simp only [u64]
      rw [Int.toNat_of_nonneg (by simpa using h4.1)]
theorem all_swap (a b : List Nat) : [b, a].all may = [a, b].all may := by simp [Bool.and_comm]
theorem length_le_of_val {l m : List Nat} (hl : Words l) (hm : Words m) {n : Nat} (h1 : l.length ≤ n) (h2 : m.length ≤ n) : (limbs (val l + val m)).length ≤ n + 1 := by
  apply limbs_length_le
  have a1 := val_lt hl
  have a2 := val_lt hm
  have b1 := Nat.pow_le_pow_right B64_pos h1
  have b2 := Nat.pow_le_pow_right B64_pos h2
  have b3 : 2 * B64 ^ n ≤ B64 ^ (n + 1) := by rw [Nat.pow_succ, Nat.mul_comm]; exact Nat.mul_le_mul_left _ B64_gt
  omega
theorem word_of_wf {n : Int} (h : (Lit.int .u64 n).wf = true) : ∃ x : Nat, n = (x : Int) ∧ x < B64 := by
  simp [Lit.wf, IntKind.min, IntKind.max, IntKind.signed, IntKind.bits] at h
  exact ⟨n.toNat, by omega, by rw [B64_eq]; omega⟩
theorem row_none {a : Option Addr} {len cap : Nat} {zs : List Int} {P : Addr → Prop}
    (h : (a = none ∧ len = 0 ∧ cap = 0 ∧ zs = []) ∨ ∃ x, a = some x ∧ P x) : a = none → len = 0 ∧ cap = 0 := by
  rintro rfl
  rcases h with ⟨_, h1, h2, _⟩ | ⟨x, e, _⟩
  · exact ⟨h1, h2⟩
  · cases e
theorem B64_pow (n : Nat) : B64 ^ n = 2 ^ (64 * n) := by rw [Nat.pow_mul]; rfl
theorem pow_le_B64 {b n : Nat} (h : b ≤ 64 * n) : 2 ^ b ≤ B64 ^ n := by rw [B64_pow]; exact Nat.pow_le_pow_right (by omega) h
theorem length_shift {l : List Nat} (hl : Words l) {n b : Nat} (h : l.length ≤ n) (hb : b ≤ 2000) : (limbs (val l * 2 ^ b)).length ≤ n + 32 := by
  apply limbs_length_le
  have h1 : val l < B64 ^ n := Nat.lt_of_lt_of_le (val_lt hl) (Nat.pow_le_pow_right B64_pos h)
  have h2 : 2 ^ b ≤ B64 ^ 32 := pow_le_B64 (by omega)
  rw [Nat.pow_add]
  exact Nat.lt_of_lt_of_le (Nat.mul_lt_mul_of_pos_right h1 (Nat.two_pow_pos b)) (Nat.mul_le_mul_left _ h2)
theorem length_div {l : List Nat} (hl : Words l) {n b : Nat} (h : l.length ≤ n) : (limbs (val l / b)).length ≤ n :=
  limbs_length_le (Nat.lt_of_le_of_lt (Nat.div_le_self _ _) (Nat.lt_of_lt_of_le (val_lt hl) (Nat.pow_le_pow_right B64_pos h)))
theorem val_zero_iff {l : List Nat} (hm : may l = true) : val l = 0 ↔ l = [] := by
  constructor
  · intro h
    cases l with
    | nil => rfl
    | cons x r => have := val_pos hm (by simp); omega
  · rintro rfl; rfl
theorem rd_new1 (w : World) (x : Nat) (T : TypeId) (hx : x < B64) : Rd (w.alloc (.cells #[u64 x] T)) (some ⟨w.heap.size, 0, none⟩) 1 [x] :=
  ⟨rfl, words_cons hx words_nil, fun _ => ⟨w.heap.size, 0, rfl, by simp, fun i hi => by
    obtain rfl : i = 0 := by omega
    simp [lim]⟩⟩
theorem rd_new2 (w : World) (x y : Nat) (T : TypeId) (hx : x < B64) (hy : y < B64) : Rd (w.alloc (.cells #[u64 x, u64 y] T)) (some ⟨w.heap.size, 0, none⟩) 2 [x, y] :=
  ⟨rfl, words_cons hx (words_cons hy words_nil), fun _ => ⟨w.heap.size, 0, rfl, by simp, fun i hi => by
    rcases (by omega : i = 0 ∨ i = 1) with rfl | rfl <;> simp [lim]⟩⟩
/-- 2^64 - 1. -/
def top : Nat := 18446744073709551615
theorem top_lt : top < B64 := by unfold top; rw [B64_eq]; omega
theorem top_cast : ((top : Nat) : Int) = 18446744073709551615 := rfl
theorem small_lt {x : Nat} (h : x ≤ 100) : x < B64 := by rw [B64_eq]; omega
/-! ### What a call has answered -/
def both (a b : List Nat) : Bool := may a && may b
theorem both_all (a b : List Nat) : [a, b].all may = both a b := by simp [both]
def err2 (a b : List Nat) : Int := if both a b = true then 0 else 8
def addL (a b : List Nat) : List Nat := if both a b = true then limbs (val a + val b) else []
def err1 (a : List Nat) : Int := if may a = true then 0 else 8
/-- A call has answered the number L, of its own, and the error's number E. -/
def Answers (w : World) (L : List Nat) (E : Int) (e : Ending) (w' : World) : Prop :=
  ∃ A k c, e = .returned (.tuple #[.slice A k c, .int .i64 E]) ∧ Own w' w.heap.size (.slice A k c) L ∧ Below w.heap.size w w'
theorem answers_nil {w w' : World} {E : Int} (h : Below w.heap.size w w') : Answers w [] E (.returned (.tuple #[.slice none 0 0, .int .i64 E])) w' :=
  ⟨none, 0, 0, rfl, ⟨World.ownsRow_nil _ _ _ _, words_nil⟩, h⟩
/-! ### Rows of the call own -/
theorem own_cell {w : World} {B g n c : Nat} {l : List Nat} (h : Own w B (.slice (some ⟨g, 0, none⟩) n c) l) {i : Nat} (hi : i < n) : w.cell? ⟨g, i, none⟩ = some (u64 (lim l i)) ∧ w.frozen? ⟨g, i, none⟩ = false := by
  obtain ⟨hr, hn, _, _⟩ := h.rd
  obtain ⟨b, off, e, hlt, hc⟩ := hr.cells (by omega)
  cases e
  refine ⟨by simpa using hc i hi, ?_⟩
  rcases h.1.2 with ⟨e, _⟩ | ⟨g', cap, cur, e, hg, hh, _⟩
  · cases e
  · cases e
    simp [World.frozen?, hh]
theorem own_set {w : World} {B g n c : Nat} {l : List Nat} (h : Own w B (.slice (some ⟨g, 0, none⟩) n c) l) {i v : Nat} (hi : i < n) (hv : v < B64) : Own (w.setCell ⟨g, i, none⟩ (u64 v)) B (.slice (some ⟨g, 0, none⟩) n c) (l.set i v) := by
  have hn := h.rd.2.1
  refine ⟨⟨by simp, ?_⟩, words_set h.2 hv⟩
  rcases h.1.2 with ⟨e, _⟩ | ⟨g', cap, cur, e, hg, hh, hnc, hc, hs, ht⟩
  · cases e
  · cases e
    refine .inr ⟨g, c, cur.setIfInBounds i (u64 v), by simp, hg, ?_, by simpa using hnc, hc, by simpa using hs, ?_⟩
    · simp [World.setCell, Array.getElem?_modify, hh]
    · rw [List.map_set, ← ht]
      simp [List.take_set]
theorem own_form {w : World} {B : Nat} {v : Value} {o : List Nat} (h : Own w B v o) (hn : o ≠ []) : ∃ g c, v = .slice (some ⟨g, 0, none⟩) o.length c ∧ B ≤ g ∧ g < w.heap.size := by
  rcases h.1.2 with ⟨_, h0⟩ | ⟨g, cap, cur, e, hg, hh, _⟩
  · exact absurd (List.eq_nil_of_length_eq_zero h0) hn
  · exact ⟨g, cap, e, hg, (Array.getElem?_eq_some_iff.1 hh).1⟩
theorem own_block {w : World} {B : Nat} {v : Value} {o : List Nat} (h : Own w B v o) : ∀ k, v.ownBlock = some k → B ≤ k := fun k e => (h.1.lt k e).1
theorem lim_append_lt {o : List Nat} {i : Nat} (h : i < o.length) (x : Nat) : lim (o ++ [x]) i = lim o i := by
  simp [lim, List.getD_eq_getElem?_getD, List.getElem?_append, h]
end Go.Proofs.YtgiokmfdafmaoaaGreat
