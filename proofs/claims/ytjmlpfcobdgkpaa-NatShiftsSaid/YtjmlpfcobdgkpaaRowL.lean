/- A block that is known whole: limbs, in their order. -/
import Derived.Test.YtjmlpfcobdgkpaaSum
import Derived.Deep.OwnRows
namespace Go.Proofs.Ytjmlpfcobdgkpaa
open Go.RowKit

def RowL (w : World) (g : Nat) (l : List Nat) : Prop := w.heap[g]? = some (.cells (l.map u64).toArray 25 (0, 0))

section
variable {w w' : World} {g : Nat} {l : List Nat}
theorem RowL.lt (h : RowL w g l) : g < w.heap.size := (Array.getElem?_eq_some_iff.1 h).1
theorem RowL.cell (h : RowL w g l) {i : Nat} (hi : i < l.length) : w.cell? ⟨g, i, none⟩ = some (u64 (lim l i)) := by
  simp [World.cell?, show w.heap[g]? = _ from h, hi, lim]
theorem RowL.frozen (h : RowL w g l) (i : Nat) : w.frozen? ⟨g, i, none⟩ = false := by
  simp [World.frozen?, show w.heap[g]? = _ from h]
theorem RowL.set (h : RowL w g l) (i v : Nat) : RowL (w.setCell ⟨g, i, none⟩ (u64 v)) g (l.set i v) := by
  unfold RowL at h ⊢
  simp [World.setCell, Array.getElem?_modify, h]
theorem RowL.below {B : Nat} (h : RowL w g l) (hb : Below B w w') (hg : g < B) : RowL w' g l := (hb.block g hg).trans h
theorem RowL.far (h : RowL w g l) {p : Addr} (hp : g ≠ p.block) (u : Value) : RowL (w.setCell p u) g l := (Below.heap_setCell w p u g hp).trans h
theorem RowL.drew (h : RowL w g l) : RowL w.drew g l := h
theorem RowL.drewN (h : RowL w g l) (n : Nat) : RowL (w.drewN n) g l := h
theorem RowL.alloc (h : RowL w g l) (o : Obj) : RowL (w.alloc o) g l := (Below.heap_alloc w o g h.lt).trans h
theorem RowL.own (h : RowL w g l) {B n : Nat} (hB : B ≤ g) (hw : Words l) (hn : l.length = n) (hm : n ≤ maxLen) : Own w B (.slice (some ⟨g, 0, none⟩) n n) l := by
  subst hn
  exact ⟨⟨by simp, .inr ⟨g, l.length, _, rfl, hB, h, Nat.le_refl _, hm, by simp, by simp [List.take_of_length_le]⟩⟩, hw⟩
theorem RowL.zeros (w : World) (n : Nat) : RowL (w.alloc (.cells (madeCells #[.int .u64 0] n) 25)) w.heap.size (List.replicate n 0) := by
  unfold RowL
  rw [World.alloc_heap_new]
  congr 2
  apply Array.ext
  · simp [madeCells]
  · intro i h1 h2
    simp [madeCells, Nat.mod_one]
end

/-! ### Lists of limbs that are written -/
theorem words_set {l : List Nat} (h : Words l) {i v : Nat} (hv : v < B64) : Words (l.set i v) := fun y hy => by
  rcases List.mem_or_eq_of_mem_set hy with hy | rfl
  · exact h y hy
  · exact hv
theorem val_set {l : List Nat} {i : Nat} (hi : i < l.length) (v : Nat) : val (l.set i v) + B64 ^ i * lim l i = val l + B64 ^ i * v := by
  induction l generalizing i with
  | nil => simp at hi
  | cons x r ih =>
    cases i with
    | zero => simp [val, lim]; omega
    | succ i =>
      have h := ih (i := i) (by simpa using hi)
      have e : lim (x :: r) (i + 1) = lim r i := by simp [lim]
      rw [e, List.set_cons_succ, val_cons, val_cons, Nat.pow_succ, Nat.mul_comm (B64 ^ i) B64, Nat.mul_assoc, Nat.mul_assoc]
      have h2 : B64 * (val (r.set i v) + B64 ^ i * lim r i) = B64 * (val r + B64 ^ i * v) := by rw [h]
      rw [Nat.mul_add, Nat.mul_add] at h2
      omega
theorem lim_val {l : List Nat} (h : Words l) (i : Nat) : lim l i = val l / B64 ^ i % B64 := by
  induction l generalizing i with
  | nil => simp [lim, val]
  | cons x r ih =>
    have hx := h.head
    cases i with
    | zero =>
      have e : lim (x :: r) 0 = x := by simp [lim]
      rw [e, val_cons, Nat.pow_zero, Nat.div_one, Nat.add_mul_mod_self_left, Nat.mod_eq_of_lt hx]
    | succ i =>
      have e : lim (x :: r) (i + 1) = lim r i := by simp [lim]
      rw [e, ih h.tail i, val_cons, Nat.pow_succ, Nat.mul_comm (B64 ^ i) B64, ← Nat.div_div_eq_div_mul, Nat.add_mul_div_left _ _ B64_pos, Nat.div_eq_of_lt hx, Nat.zero_add]
theorem lim_zero_of_lt {l : List Nat} (h : Words l) {i : Nat} (hv : val l < B64 ^ i) : lim l i = 0 := by
  rw [lim_val h, Nat.div_eq_of_lt hv, Nat.zero_mod]
theorem val_zeros (n : Nat) : val (List.replicate n 0) = 0 := by
  induction n with
  | zero => rfl
  | succ n ih => rw [List.replicate_succ, val_cons, ih]; rfl
theorem words_zeros (n : Nat) : Words (List.replicate n 0) := fun y hy => by
  rw [List.mem_replicate] at hy
  rw [hy.2]; exact B64_pos

/-! ### Shifts -/
theorem B64_split {r : Nat} (hr : r ≤ 64) : B64 = 2 ^ (64 - r) * 2 ^ r := by
  rw [← Nat.pow_add, show 64 - r + r = 64 by omega]; rfl
theorem shl_over {x r : Nat} (hr : r ≤ 64) : x * 2 ^ r / B64 = x / 2 ^ (64 - r) := by
  rw [B64_split hr, Nat.mul_div_mul_right _ _ (Nat.two_pow_pos r)]
theorem shl_split {x r : Nat} (hr : r ≤ 64) : x * 2 ^ r % B64 + B64 * (x / 2 ^ (64 - r)) = x * 2 ^ r := by
  rw [← shl_over hr]; exact Nat.mod_add_div _ _
theorem shl_mod {x r : Nat} (hr : r ≤ 64) : x * 2 ^ r % B64 = 2 ^ r * (x % 2 ^ (64 - r)) := by
  rw [B64_split hr, Nat.mul_mod_mul_right, Nat.mul_comm]
theorem or_shl {x y r : Nat} (hr : r ≤ 64) (hy : y < 2 ^ r) : y ||| (x * 2 ^ r % B64) = y + x * 2 ^ r % B64 := by
  rw [shl_mod hr, Nat.or_comm, ← Nat.two_pow_add_eq_or_of_lt hy, Nat.add_comm]
end Go.Proofs.Ytjmlpfcobdgkpaa
