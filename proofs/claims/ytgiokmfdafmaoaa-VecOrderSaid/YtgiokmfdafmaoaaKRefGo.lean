import Derived.Test.YtgiokmfdafmaoaaKBit
import Derived.Test.YtgiokmfdafmaoaaKCmp
import Derived.Test.YtgiokmfdafmaoaaKSame
import Derived.Test.YtgiokmfdafmaoaaKBitLaw
import Derived.Test.YtgiokmfdafmaoaaKRefMay
/- RefA RefFrom RefGo. -/
/- The document's own answers for numbers: the small ones. -/
namespace Go.Proofs.Ytgiokmfdafmaoaa
open Go.RowKit Go.Shelf
set_option linter.unusedVariables false
set_option linter.unusedSimpArgs false


section
variable (A A2 : Option Addr) (na ca nb cb : Nat) (a b : List Nat) (w : World)



set_option maxHeartbeats 1000000 in
theorem rOf_any (x : Nat) (hx : x < B64) :
    Calls Try.prog 45 #[u64 x] w fun e w' => ∃ A' k c, e = .returned (.slice A' k c) ∧ Own w' w.heap.size (.slice A' k c) (limbs x) ∧ Below w.heap.size w w' := by
  by_cases h0 : x = 0
  · subst h0
    go_enter Try.func45, Try.ntmps45
    go_wp2
    go_ret
    exact ⟨none, 0, 0, rfl, by rw [limbs_zero]; exact ⟨World.ownsRow_nil _ _ _ _, words_nil⟩, Below.refl _ _⟩
  · have hrow : RowL (w.alloc (.cells #[u64 x] 64)) w.heap.size [x] := World.alloc_heap_new w _
    have hown := hrow.own (B := w.heap.size) (Nat.le_refl _) (words_cons hx words_nil) (n := 1) rfl (by simp only [maxLen]; omega)
    have HO := Lib.hid hown
    have hne : (((x : Nat) : Int) == 0) = false := by simp; omega
    clear hown hrow
    go_enter Try.func45, Try.ntmps45
    go_wp2
    go_ret
    refine ⟨_, 1, 1, rfl, ?_, (Below.refl _ _).alloc (Nat.le_refl _) _⟩
    have e : limbs x = [x] := by
      have h := limbs_val (l := [x]) (words_cons hx words_nil) (by unfold may; simp [h0])
      simpa [val] using h
    rw [e]
    exact HO.out
end
end Go.Proofs.Ytgiokmfdafmaoaa

/- The document's From: the number of bits. -/
namespace Go.Proofs.Ytgiokmfdafmaoaa
open Go.RowKit Go.Shelf
set_option linter.unusedVariables false
set_option linter.unusedSimpArgs false

/-- What a list of bits is worth. -/
def bval : List Nat → Nat
  | [] => 0
  | x :: r => x + 2 * bval r
def Bits (l : List Nat) : Prop := ∀ x ∈ l, x ≤ 1
theorem Bits.get {l : List Nat} (h : Bits l) (i : Nat) : lim l i ≤ 1 := by
  unfold lim
  rw [List.getD_eq_getElem?_getD]
  cases e : l[i]? with
  | none => exact Nat.zero_le _
  | some x => exact h x (List.mem_of_getElem? e)
theorem bits_append {l m : List Nat} (h : Bits l) (k : Bits m) : Bits (l ++ m) := fun y hy => by
  rcases List.mem_append.1 hy with hy | hy
  · exact h y hy
  · exact k y hy
theorem bits_one {x : Nat} (h : x ≤ 1) : Bits [x] := fun y hy => by
  rw [List.mem_singleton] at hy; rw [hy]; exact h
theorem bval_append (l m : List Nat) : bval (l ++ m) = bval l + 2 ^ l.length * bval m := by
  induction l with
  | nil => simp [bval]
  | cons x r ih =>
    simp only [List.cons_append, bval, ih, List.length_cons, Nat.pow_succ, Nat.mul_add]
    rw [← Nat.mul_assoc, Nat.mul_comm 2 (2 ^ r.length)]
    omega
theorem bval_snoc (l : List Nat) (x : Nat) : bval (l ++ [x]) = bval l + 2 ^ l.length * x := by rw [bval_append]; simp [bval]
theorem bval_take_succ (l : List Nat) (k : Nat) : bval (l.take (k + 1)) = bval (l.take k) + 2 ^ k * lim l k := by
  by_cases h : k < l.length
  · rw [List.take_succ_eq_append_getElem h, bval_snoc, lim_get h, List.length_take, Nat.min_eq_left (Nat.le_of_lt h)]
  · rw [List.take_of_length_le (by omega), List.take_of_length_le (by omega), lim_past (by omega), Nat.mul_zero, Nat.add_zero]
theorem bval_lt {l : List Nat} (h : Bits l) : bval l < 2 ^ l.length := by
  induction l with
  | nil => simp [bval]
  | cons x r ih =>
    have h1 : x ≤ 1 := h x List.mem_cons_self
    have h2 := ih fun y hy => h y (List.mem_cons_of_mem _ hy)
    rw [bval, List.length_cons, Nat.pow_succ]
    omega
theorem bval_take_zeros {l : List Nat} {n : Nat} (h : ∀ i, n ≤ i → lim l i = 0) : bval (l.take n) = bval l := by
  simp only [lim] at h
  induction l generalizing n with
  | nil => simp
  | cons x r ih =>
    cases n with
    | zero =>
      have h0 := h 0 (by omega)
      have hr := ih (n := 0) (fun i _ => by have := h (i + 1) (by omega); simpa using this)
      simp at h0 hr
      rw [bval, ← hr]
      simp [h0, bval]
    | succ n =>
      simp only [List.take_succ_cons, bval]
      rw [ih (fun i hi => by have := h (i + 1) (by omega); simpa using this)]
/-- The bits of a number, from a place on. -/
theorem bval_bits (v : Nat) (k : Nat) : bval ((List.range k).map (nbit v)) = v % 2 ^ k := by
  induction k with
  | zero => simp [bval, Nat.mod_one]
  | succ k ih =>
    rw [List.range_succ, List.map_append, List.map_cons, List.map_nil, bval_snoc, ih, List.length_map, List.length_range, Nat.pow_succ, Nat.mod_mul]
    rfl

abbrev i64n (x : Nat) : Value := .int .i64 (x : Int)
theorem int_info : (Try.prog.info? 3).map (fun i => (i.zero, i.size, i.bytes)) = some (some (.int .i64 0), 1, 8) := by kernel_rfl

/-- A slice of ints that reads as a list of bits. -/
structure RdI (w : World) (A : Option Addr) (n : Nat) (l : List Nat) : Prop where
  len : l.length = n
  bits : Bits l
  cells : 0 < n → ∃ b off, A = some ⟨b, off, none⟩ ∧ b < w.heap.size ∧ ∀ i, i < n → w.cell? ⟨b, off + i, none⟩ = some (i64n (lim l i))
theorem RdI.below {w w' : World} {A : Option Addr} {n : Nat} {l : List Nat} (h : RdI w A n l) (hb : Below w.heap.size w w') : RdI w' A n l :=
  ⟨h.len, h.bits, fun hn => by
    obtain ⟨b, off, e, hlt, hc⟩ := h.cells hn
    exact ⟨b, off, e, Nat.lt_of_lt_of_le hlt hb.size, fun i hi => (hb.cell (p := ⟨b, off + i, none⟩) hlt).trans (hc i hi)⟩⟩
/-- A slice of ints of the call's own. -/
def OwnI (w : World) (B : Nat) (v : Value) (l : List Nat) : Prop := w.ownsRow B 3 1 v l.length (l.map i64n) ∧ Bits l
theorem OwnI.below {w w' : World} {B : Nat} {v : Value} {l : List Nat} (h : OwnI w B v l) (hb : Below w.heap.size w w') : OwnI w' B v l := by
  refine ⟨⟨h.1.1, ?_⟩, h.2⟩
  rcases h.1.2 with h2 | ⟨g, cap, cur, e, hg, hh, r⟩
  · exact .inl h2
  · exact .inr ⟨g, cap, cur, e, hg, (hb.block g (Array.getElem?_eq_some_iff.1 hh).1).trans hh, r⟩
theorem OwnI.form {w : World} {B : Nat} {v : Value} {l : List Nat} (h : OwnI w B v l) : ∃ A c, v = .slice A l.length c ∧ RdI w A l.length l ∧ l.length ≤ c ∧ c ≤ maxLen := by
  rcases h.1.2 with ⟨e, h0⟩ | ⟨g, cap, cur, e, hg, hh, hn, hc, hs, ht⟩
  · have hl : l = [] := List.eq_nil_of_length_eq_zero h0
    subst hl
    exact ⟨none, 0, e, ⟨rfl, h.2, fun h => absurd h (by simp)⟩, Nat.le_refl _, Nat.zero_le _⟩
  · refine ⟨_, cap, e, ⟨rfl, h.2, fun hn0 => ⟨g, 0, rfl, (Array.getElem?_eq_some_iff.1 hh).1, fun i hi => ?_⟩⟩, hn, hc⟩
    have hci := h.1.cells (g := g) (by rw [e]; rfl) i (i64n (lim l i)) (by rw [List.getElem?_map, List.getElem?_eq_getElem hi, lim_get hi]; rfl)
    simpa [Addr.add, Nat.zero_add] using (by
      by_cases h0 : i = 0
      · subst h0; simpa [Addr.add] using hci
      · simpa [Addr.add, h0] using hci : w.cell? ⟨g, 0 + i, none⟩ = some (i64n (lim l i)))


/-- A number's list grows by bits. -/
theorem from_step {o bl : List Nat} {i : Nat} (hw : Words o) (hb : Bits bl) (hi : i < bl.length) (ho : val o = bval (bl.take i)) (hl : i / 64 < o.length) (hx : lim bl i = 1) :
    lim o (i / 64) + 2 ^ (i % 64) < B64 ∧ val (o.set (i / 64) (lim o (i / 64) + 2 ^ (i % 64))) = bval (bl.take (i + 1)) := by
  have hlt : val o < 2 ^ i := by
    rw [ho]
    have := bval_lt (l := bl.take i) (fun y hy => hb y (List.mem_of_mem_take hy))
    rwa [List.length_take, Nat.min_eq_left (Nat.le_of_lt hi)] at this
  have hp : 2 ^ i = B64 ^ (i / 64) * 2 ^ (i % 64) := by
    have e : i = 64 * (i / 64) + i % 64 := by omega
    have h2 : 2 ^ (64 * (i / 64) + i % 64) = B64 ^ (i / 64) * 2 ^ (i % 64) := by rw [Nat.pow_add, Nat.pow_mul]; rfl
    rw [← h2, ← e]
  have h1 : lim o (i / 64) < 2 ^ (i % 64) := by
    rw [lim_val hw]
    refine Nat.lt_of_le_of_lt (Nat.mod_le _ _) ?_
    rw [Nat.div_lt_iff_lt_mul (Nat.pow_pos B64_pos), Nat.mul_comm, ← hp]
    exact hlt
  have h2 : 2 ^ (i % 64) * 2 ≤ B64 := by
    rw [← Nat.pow_succ]
    exact Nat.pow_le_pow_right (by omega) (show i % 64 + 1 ≤ 64 by omega)
  refine ⟨by omega, ?_⟩
  have e1 := val_set hl (lim o (i / 64) + 2 ^ (i % 64))
  rw [Nat.mul_add] at e1
  rw [bval_take_succ, hx, Nat.mul_one, ← ho, hp]
  omega
theorem val_snoc_zero (o : List Nat) : val (o ++ [0]) = val o := by rw [val_append]; simp [val]

end Go.Proofs.Ytgiokmfdafmaoaa

namespace Go.Proofs.Ytgiokmfdafmaoaa
open Go.RowKit Go.Shelf
set_option linter.unusedVariables false
set_option linter.unusedSimpArgs false

theorem add_word (y r : Nat) (h : y + 2 ^ r < B64) : IntKind.u64.wrap ((y : Int) + IntKind.u64.wrap (2 ^ r)) = ((y + 2 ^ r : Nat) : Int) := by
  have e : (2 : Int) ^ r = ((2 ^ r : Nat) : Int) := by simp
  rw [e, u64_wrap_nat, ← Int.natCast_add, u64_wrap_nat, Nat.mod_eq_of_lt (show 2 ^ r < B64 by omega), Nat.mod_eq_of_lt h]

end Go.Proofs.Ytgiokmfdafmaoaa
