import Derived.Test.YtgiokmfdafmaoaaKNum
import Derived.WalkKit
import Derived.Lib.Hide
import Derived.Laws.Bits64b
import Derived.Test.YtgiokmfdafmaoaaKUp
import Derived.Test.YtgiokmfdafmaoaaKLong
import Derived.BigRegion
import Derived.Below
import Derived.Deep.Draws
import Derived.Test.YtgiokmfdafmaoaaKRowL
import Derived.Test.YtgiokmfdafmaoaaKPairs
import Derived.Test.YtgiokmfdafmaoaaKProd
import Derived.Test.YtgiokmfdafmaoaaKMTrim
import Derived.Test.YtgiokmfdafmaoaaKAddRow
import Derived.Test.YtgiokmfdafmaoaaKCopy
import Derived.Scope
import Derived.Test.YtgiokmfdafmaoaaKSame
/- Dv DvA Back DLow DLimb. -/
/- bits.Div64: two words by one. -/
namespace Go.Proofs.Ytgiokmfdafmaoaa
set_option linter.unusedVariables false
set_option linter.unusedSimpArgs false
/-- One digit's guess, counted down. -/
structure Gs (u y yn1 yn0 d b q r : Nat) : Prop where
  sum : q * yn1 + r = u
  ge : (u * b + d) / y ≤ q
  le : q ≤ b + 1
  lt : r < b
theorem gs_start {u y yn1 yn0 d b : Nat} (hy : yn1 * b + yn0 = y) (hn : b ≤ 2 * yn1) (h0 : yn0 < b) (hu : u < y) (hd : d < b) (h1 : yn1 < b) : Gs u y yn1 yn0 d b (u / yn1) (u % yn1) := by
  have hb : 0 < yn1 := by omega
  have hyp : 0 < y := by omega
  refine ⟨by rw [Nat.mul_comm]; exact Nat.div_add_mod u yn1, ?_, ?_, Nat.lt_trans (Nat.mod_lt _ hb) h1⟩
  · rw [Nat.le_div_iff_mul_le hb]
    have e := Nat.div_mul_le_self (u * b + d) y
    generalize (u * b + d) / y = q at *
    -- q * yn1 * b ≤ q * y ≤ u * b + d < (u + 1) * b
    have e2 : q * yn1 * b ≤ q * y := by
      rw [← hy, Nat.mul_add, Nat.mul_assoc]; omega
    have e3 : q * yn1 * b < (u + 1) * b := by rw [Nat.add_mul]; omega
    have := Nat.lt_of_mul_lt_mul_right e3
    omega
  · have e : u / yn1 < b + 2 := by
      rw [Nat.div_lt_iff_lt_mul hb, Nat.add_mul, Nat.mul_comm b yn1]; omega
    omega
theorem gs_done {u y yn1 yn0 d b q r : Nat} (hy : yn1 * b + yn0 = y) (hyp : 0 < y) (h : Gs u y yn1 yn0 d b q r) (h2 : q * yn0 ≤ b * r + d) : q = (u * b + d) / y := by
  have e : q ≤ (u * b + d) / y := by
    rw [Nat.le_div_iff_mul_le hyp, ← hy, ← h.sum, Nat.mul_add, Nat.add_mul, Nat.mul_assoc, Nat.mul_comm r b]
    omega
  have := h.ge
  omega
theorem gs_more {u y yn1 yn0 d b q r : Nat} (hy : yn1 * b + yn0 = y) (hyp : 0 < y) (hu : u < y) (hd : d < b) (h : Gs u y yn1 yn0 d b q r) (h2 : b ≤ q ∨ b * r + d < q * yn0) : (u * b + d) / y < q := by
  rw [Nat.div_lt_iff_lt_mul hyp]
  rcases h2 with h2 | h2
  · have e1 : b * y ≤ q * y := Nat.mul_le_mul_right _ h2
    have e2 : (u + 1) * b ≤ y * b := Nat.mul_le_mul_right _ hu
    rw [Nat.add_mul, Nat.mul_comm y b] at e2
    omega
  · rw [← hy, ← h.sum, Nat.mul_add, Nat.add_mul, Nat.mul_assoc, Nat.mul_comm r b]
    omega
theorem gs_next {u y yn1 yn0 d b q r : Nat} (h : Gs u y yn1 yn0 d b q r) (h2 : (u * b + d) / y < q) (h3 : r + yn1 < b) : Gs u y yn1 yn0 d b (q - 1) (r + yn1) := by
  obtain ⟨k, rfl⟩ : ∃ k, q = k + 1 := Nat.exists_eq_succ_of_ne_zero (by rintro rfl; exact Nat.not_lt_zero _ h2)
  have e := h.sum
  rw [Nat.add_mul] at e
  have hl := h.le
  have hle := Nat.le_of_lt_succ h2
  clear h h2
  refine ⟨?_, hle, ?_, h3⟩
  · simp only [Nat.add_sub_cancel]
    omega
  · simp only [Nat.add_sub_cancel]
    omega
theorem gs_break {u y yn1 yn0 d b q r : Nat} (hy : yn1 * b + yn0 = y) (hyp : 0 < y) (h0 : yn0 < b) (h : Gs u y yn1 yn0 d b q r) (h2 : (u * b + d) / y < q) (h3 : b ≤ r + yn1) : q - 1 = (u * b + d) / y := by
  obtain ⟨k, rfl⟩ : ∃ k, q = k + 1 := Nat.exists_eq_succ_of_ne_zero (by rintro rfl; exact Nat.not_lt_zero _ h2)
  have e := h.sum
  rw [Nat.add_mul] at e
  simp only [Nat.add_sub_cancel]
  have hk : k ≤ b := by have := h.le; clear h2; omega
  have e2 : k ≤ (u * b + d) / y := by
    have e3 : k * yn0 ≤ b * (r + yn1) := Nat.mul_le_mul hk (Nat.le_trans (Nat.le_of_lt h0) h3)
    rw [Nat.le_div_iff_mul_le hyp, ← hy, ← e, Nat.mul_add, Nat.add_mul, Nat.add_mul, Nat.mul_assoc]
    rw [Nat.mul_add] at e3
    have e4 : 1 * yn1 * b = b * yn1 := by rw [Nat.one_mul, Nat.mul_comm]
    have e5 : r * b = b * r := Nat.mul_comm _ _
    omega
  exact Nat.le_antisymm e2 (Nat.le_of_lt_succ h2)
/-- Two digits, one behind the other. -/
theorem two_digits {u y d1 d0 b : Nat} (hyp : 0 < y) : ((u * b + d1) / y) * b + (((u * b + d1) % y) * b + d0) / y = ((u * b + d1) * b + d0) / y ∧ (((u * b + d1) % y) * b + d0) % y = ((u * b + d1) * b + d0) % y := by
  have e := Nat.div_add_mod (u * b + d1) y
  generalize u * b + d1 = n at *
  have e2 : n * b + d0 = (n % y * b + d0) + y * (n / y * b) := by
    conv => lhs; rw [← e, Nat.add_mul, Nat.mul_assoc]
    omega
  rw [e2, Nat.add_mul_div_left _ _ hyp, Nat.add_mul_mod_self_left]
  exact ⟨by omega, rfl⟩
/-- What is divided and what it is divided by, raised alike. -/
theorem raised {n y p : Nat} (hp : 0 < p) : (n * p) / (y * p) = n / y ∧ (n * p) % (y * p) / p = n % y :=
  ⟨Nat.mul_div_mul_right _ _ hp, by rw [Nat.mul_mod_mul_right, Nat.mul_div_cancel _ hp]⟩
end Go.Proofs.Ytgiokmfdafmaoaa

/- bits.Div64: the walk. -/
namespace Go.Proofs.Ytgiokmfdafmaoaa
open Go.RowKit
set_option linter.unusedVariables false
set_option linter.unusedSimpArgs false

/-- What a round reckons. -/
theorem dv_words {q yn0 r d : Nat} (hq : q ≤ 4294967296 + 1) (h0 : yn0 < 4294967296) (hr : r < 4294967296) (hd : d < 4294967296) :
    IntKind.u64.wrap ((q : Int) * (yn0 : Int)) = ((q * yn0 : Nat) : Int) ∧ IntKind.u64.wrap (4294967296 * (r : Int)) = ((4294967296 * r : Nat) : Int) ∧ IntKind.u64.wrap (((4294967296 * r : Nat) : Int) + (d : Int)) = ((4294967296 * r + d : Nat) : Int) := by
  have h : q * yn0 ≤ (4294967296 + 1) * 4294967295 := Nat.mul_le_mul hq (by omega)
  refine ⟨?_, ?_, ?_⟩
  · rw [← Int.natCast_mul, IntKind.wrap_u64]
    generalize q * yn0 = A at *
    omega
  · rw [IntKind.wrap_u64]; omega
  · rw [IntKind.wrap_u64]; omega
theorem dv_start {u yn1 : Nat} (hu : u < B64) (h : 0 < yn1) : IntKind.u64.wrap ((u : Int) / (yn1 : Int)) = ((u / yn1 : Nat) : Int) ∧ IntKind.u64.wrap ((u : Int) - IntKind.u64.wrap (((u / yn1 : Nat) : Int) * (yn1 : Int))) = ((u % yn1 : Nat) : Int) := by
  have h1 := Nat.div_le_self u yn1
  have h2 := Nat.div_add_mod u yn1
  have h3 := Nat.mod_lt u h
  rw [B64_eq] at hu
  rw [← Int.natCast_ediv, ← Int.natCast_mul, Nat.mul_comm (u / yn1)]
  generalize yn1 * (u / yn1) = p at *
  generalize u / yn1 = q at *
  generalize u % yn1 = m at *
  rw [IntKind.wrap_u64, IntKind.wrap_u64, IntKind.wrap_u64]
  omega
theorem dv_rest {n d q y : Nat} (hy : 0 < y) (hy2 : y < B64) (hq : q = (n * 4294967296 + d) / y) : IntKind.u64.wrap (IntKind.u64.wrap (IntKind.u64.wrap ((n : Int) * 4294967296) + (d : Int)) - IntKind.u64.wrap ((q : Int) * (y : Int))) = (((n * 4294967296 + d) % y : Nat) : Int) := by
  generalize hb : 4294967296 = b at *
  have e : ((4294967296 : Int)) = (b : Int) := by rw [← hb]; rfl
  rw [e]
  have h2 := Nat.div_add_mod (n * b + d) y
  have h3 := Nat.mod_lt (n * b + d) hy
  rw [← hq] at h2
  rw [B64_eq] at hy2
  rw [← Int.natCast_mul, ← Int.natCast_mul, Nat.mul_comm q]
  generalize y * q = p at *
  generalize (n * b + d) % y = m at *
  generalize n * b = k at *
  simp only [IntKind.wrap_u64]
  omega

theorem dv_small {u Y d : Nat} (hu : u < Y) (hd : d < 4294967296) : (u * 4294967296 + d) / Y < 4294967296 := by
  rw [Nat.div_lt_iff_lt_mul (by omega)]
  have := Nat.mul_le_mul_right 4294967296 (show u + 1 ≤ Y from hu)
  omega
theorem int_le_true {a b : Nat} (h : a ≤ b) : decide ((a : Int) ≤ (b : Int)) = true := by simp; omega
theorem dv_dec {q : Nat} (h : 4294967296 ≤ q) : decide ((4294967296 : Int) ≤ (q : Int)) = true := by simp; omega
theorem dv_decn {q : Nat} (h : q < 4294967296) : decide ((4294967296 : Int) ≤ (q : Int)) = false := by simp; omega
theorem dv_less {a b : Nat} (h : a < b) : decide ((a : Int) < (b : Int)) = true := by simp; omega
theorem dv_lessn {a b : Nat} (h : b ≤ a) : decide ((a : Int) < (b : Int)) = false := by simp; omega
theorem dv_dec1 {q : Nat} (h : q < B64) (h0 : 0 < q) : IntKind.u64.wrap ((q : Int) - 1) = ((q - 1 : Nat) : Int) := by rw [IntKind.wrap_u64]; rw [B64_eq] at h; omega
theorem dv_add {x y : Nat} (h : x + y < B64) : IntKind.u64.wrap ((x : Int) + (y : Int)) = ((x + y : Nat) : Int) := by rw [IntKind.wrap_u64]; rw [B64_eq] at h; omega

/-! ### Both together -/
theorem halves32 {Y : Nat} (h : 9223372036854775808 ≤ Y) (h2 : Y < 18446744073709551616) : Y / 4294967296 * 4294967296 + Y % 4294967296 = Y ∧ 4294967296 ≤ 2 * (Y / 4294967296) ∧ Y % 4294967296 < 4294967296 ∧ Y / 4294967296 < 4294967296 := by omega
theorem halves32' {Y : Nat} (h2 : Y < 18446744073709551616) : Y / 4294967296 < 4294967296 ∧ Y % 4294967296 < 4294967296 := by omega
theorem mask32 (a : Nat) (ha : a < B64) : bits .and .u64 (a : Int) 4294967295 = ((a % 4294967296 : Nat) : Int) := by
  have h := bits_and_u64_nat a 4294967295 ha (by omega)
  have e : a &&& 4294967295 = a % 4294967296 := Nat.and_two_pow_sub_one_eq_mod a 32
  rw [e] at h
  exact h
theorem half32 (a : Nat) : (a : Int) / 4294967296 = ((a / 4294967296 : Nat) : Int) := by omega
theorem wrap_fits {a : Nat} (ha : a < B64) : IntKind.u64.wrap (a : Int) = (a : Int) := by rw [IntKind.wrap_u64]; rw [B64_eq] at ha; omega

end Go.Proofs.Ytgiokmfdafmaoaa

/- slices.Backward: what it hands back goes through a slice from its end, whatever a round does that keeps the blocks of S, and what the cells may be. -/
namespace Go.Proofs.Ytgiokmfdafmaoaa
open Go.RowKit Go.Shelf
attribute [local go_sem] Oper.semAt_some
set_option linter.unusedVariables false
set_option linter.unusedSimpArgs false

/-- A place of a slice, and what lies there. -/
abbrev BkI (m : Nat) (V : Nat → Nat → Prop) := { p : Nat × Nat // p.1 < m ∧ V p.1 p.2 }
/-- The first k places from the end. -/
def downs (m k : Nat) : List Nat := (List.range k).map fun i => m - 1 - i
theorem downs_succ (m k : Nat) : downs m (k + 1) = downs m k ++ [m - 1 - k] := by simp [downs, List.range_succ]
theorem downs_length (m k : Nat) : (downs m k).length = k := by simp [downs]
def places {m : Nat} {V : Nat → Nat → Prop} (l : List (BkI m V)) : List Nat := l.map fun x => x.1.1
theorem places_snoc {m : Nat} {V : Nat → Nat → Prop} (l : List (BkI m V)) (x : BkI m V) : places (l ++ [x]) = places l ++ [x.1.1] := by simp [places]
theorem places_length {m : Nat} {V : Nat → Nat → Prop} (l : List (BkI m V)) : (places l).length = l.length := by simp [places]
/-- What the cells may be. -/
def Has (W : World) (A : Option Addr) (m : Nat) (V : Nat → Nat → Prop) : Prop := ∀ i, i < m → ∃ b off v, A = some ⟨b, off, none⟩ ∧ V i v ∧ W.cell? ⟨b, off + i, none⟩ = some (u64 v)
def BkK (S : Nat → Prop) (A : Option Addr) (m : Nat) (V : Nat → Nat → Prop) (W W' : World) : Prop := KeepsOf S W W' ∧ (Has W A m V → Has W' A m V)
theorem BkK.trans {S : Nat → Prop} {A : Option Addr} {m : Nat} {V : Nat → Nat → Prop} {X Y Z : World} (h : BkK S A m V X Y) (k : BkK S A m V Y Z) : BkK S A m V X Z := ⟨h.1.trans k.1, fun hh => k.2 (h.2 hh)⟩
theorem BkK.refl {S : Nat → Prop} {A : Option Addr} {m : Nat} {V : Nat → Nat → Prop} (X : World) : BkK S A m V X X := ⟨KeepsOf.refl _, id⟩
theorem has_rd {W : World} {A : Option Addr} {m : Nat} {l : List Nat} (h : Rd W A m l) : Has W A m (fun i v => v = lim l i) := fun i hi => by
  obtain ⟨b, off, e, _, hc⟩ := h.cells (by omega)
  exact ⟨b, off, _, e, rfl, hc i hi⟩
theorem has_keeps {S : Nat → Prop} {W W' : World} {A : Option Addr} {m : Nat} {V : Nat → Nat → Prop} (hk : KeepsOf S W W') (hA : 0 < m → ∀ b off, A = some ⟨b, off, none⟩ → S b) (h : Has W A m V) : Has W' A m V := fun i hi => by
  obtain ⟨b, off, v, e, hv, hc⟩ := h i hi
  exact ⟨b, off, v, e, hv, (hk.cell (p := ⟨b, off + i, none⟩) (hA (by omega) b off e)).trans hc⟩
/-- How a round has ended: it goes on (true), or not. -/
def WentK (K : World → World → Prop) (J Jx : World → Prop) (W : World) (v : Bool) (W' : World) : Prop := (v = true ∧ J W' ∧ K W W') ∨ (v = false ∧ Jx W')

end Go.Proofs.Ytgiokmfdafmaoaa

/- div's calls on rows: less, double, trim. -/
namespace Go.Proofs.Ytgiokmfdafmaoaa
open Go.RowKit Go.Shelf
set_option linter.unusedVariables false
set_option linter.unusedSimpArgs false

/-- Nothing of what there was has turned but one block. -/
structure Only (g : Nat) (w w' : World) : Prop where
  below : Below 0 w w'
  keep : ∀ k, k < w.heap.size → k ≠ g → w'.heap[k]? = w.heap[k]?
section
variable {g : Nat} {w w' w2 : World}
theorem Only.refl (g : Nat) (w : World) : Only g w w := ⟨Below.refl _ _, fun _ _ _ => rfl⟩
theorem Only.trans (h : Only g w w') (k : Only g w' w2) : Only g w w2 := ⟨h.below.trans k.below, fun i hi hg => (k.keep i (Nat.lt_of_lt_of_le hi h.below.size) hg).trans (h.keep i hi hg)⟩
theorem Only.setCell (h : Only g w w') {p : Addr} (hp : p.block = g) (u : Value) : Only g w (w'.setCell p u) := h.trans ⟨(Below.refl _ _).setCell (Nat.zero_le _) u, fun k hk hg => Below.heap_setCell _ _ _ _ (by rw [hp]; exact hg)⟩
theorem Only.alloc (h : Only g w w') (o : Obj) : Only g w (w'.alloc o) := h.trans ⟨(Below.refl _ _).alloc (Nat.zero_le _) o, fun k hk _ => Below.heap_alloc _ _ _ hk⟩
theorem Only.of_below (g : Nat) (h : Below w.heap.size w w') : Only g w w' := ⟨h.mono (Nat.zero_le _), fun k hk _ => h.block k hk⟩
theorem Only.drew (h : Only g w w') : Only g w w'.drew := h.trans (Only.of_below _ (Below.refl _ _).drew)
theorem Only.rd (h : Only g w w') {A : Option Addr} {n : Nat} {l : List Nat} (hr : Rd w A n l) (hA : 0 < n → ∀ b off, A = some ⟨b, off, none⟩ → b ≠ g) : Rd w' A n l :=
  ⟨hr.len, hr.words, fun hn => by
    obtain ⟨b, off, e, hlt, hc⟩ := hr.cells hn
    refine ⟨b, off, e, Nat.lt_of_lt_of_le hlt h.below.size, fun i hi => ?_⟩
    exact (World.cell?_of_block (w := w) (a := ⟨b, off + i, none⟩) (h.keep b hlt (hA hn b off e))).trans (hc i hi)⟩
theorem Only.row (h : Only g w w') {k : Nat} {l : List Nat} (hr : RowL w k l) (hk : k ≠ g) : RowL w' k l := (h.keep k hr.lt hk).trans hr
theorem Only.to (h : Only g w w') {B : Nat} (hB : B ≤ g) (hB2 : B ≤ w.heap.size) : Below B w w' := ⟨h.below.os, h.below.tape, h.below.output, h.below.size, fun k hk => h.keep k (by omega) (by omega)⟩
end

theorem cell_far {w : World} {g i g2 i2 : Nat} {v : Value} (h : w.cell? ⟨g2, i2, none⟩ = some v) (hne : g2 ≠ g) (u : Value) : (w.setCell ⟨g, i, none⟩ u).cell? ⟨g2, i2, none⟩ = some v :=
  (World.cell?_of_block (w := w) (a := ⟨g2, i2, none⟩) (Below.heap_setCell _ _ _ _ hne)).trans h
/-! ### A row in three parts -/
theorem lim_mid {P T R : List Nat} {i j : Nat} (hP : P.length = i) (hj : j < T.length) : lim (P ++ T ++ R) (i + j) = lim T j := by
  subst hP
  simp only [lim, List.getD_eq_getElem?_getD, List.append_assoc]
  rw [List.getElem?_append_right (by omega), Nat.add_sub_cancel_left, List.getElem?_append_left hj]
theorem set_mid {P T R : List Nat} {i j : Nat} (hP : P.length = i) (hj : j < T.length) (v : Nat) : (P ++ T ++ R).set (i + j) v = P ++ T.set j v ++ R := by
  subst hP
  rw [List.append_assoc, List.set_append_right _ _ (by omega), Nat.add_sub_cancel_left, List.set_append_left _ _ hj, List.append_assoc]

theorem val_set_take {T : List Nat} {j : Nat} (hj : j < T.length) (v : Nat) : val ((T.set j v).take (j + 1)) = val (T.take j) + B64 ^ j * v := by
  rw [val_take_succ, lim_set hj, if_pos rfl, List.take_set_of_le (Nat.le_refl _)]
theorem lim_set_far {T : List Nat} {j k : Nat} (h : k ≠ j) (v : Nat) : lim (T.set j v) k = lim T k := by
  simp only [lim, List.getD_eq_getElem?_getD, List.getElem?_set]
  rw [if_neg (by omega)]

theorem dbl_step {T T2 : List Nat} {j x over bit t : Nat} (h : val (T2.take j) + B64 ^ j * over = 2 * val (T.take j) + bit) (hx : lim T j = x) (ht : t + B64 * (x / 2 ^ 63) = 2 * x + over) :
    val (T2.take j) + B64 ^ j * t + B64 ^ (j + 1) * (x / 2 ^ 63) = 2 * (val (T.take j) + B64 ^ j * x) + bit := by
  have e : B64 ^ j * (t + B64 * (x / 2 ^ 63)) = B64 ^ j * (2 * x + over) := by rw [ht]
  rw [Nat.mul_add, Nat.mul_add, ← Nat.mul_assoc, Nat.mul_left_comm (B64 ^ j) 2 x] at e
  rw [show B64 ^ (j + 1) = B64 ^ j * B64 from Nat.pow_succ ..]
  omega
theorem dbl_word {x over : Nat} (hx : x < B64) (ho : over ≤ 1) : bits .or .u64 (IntKind.u64.wrap ((x : Int) * 2)) (over : Int) = ((over + x * 2 % B64 : Nat) : Int) ∧ (over + x * 2 % B64) + B64 * (x / 2 ^ 63) = 2 * x + over ∧ over + x * 2 % B64 < B64 := by
  have e : IntKind.u64.wrap ((x : Int) * 2) = ((x * 2 % B64 : Nat) : Int) := by
    rw [show (x : Int) * 2 = ((x * 2 : Nat) : Int) by omega, u64_wrap_nat]
  have ho2 := or_shl (x := x) (y := over) (r := 1) (by omega) (by omega)
  rw [Nat.pow_one] at ho2
  have h3 : over + x * 2 % B64 < B64 := by rw [B64_eq] at *; omega
  have h4 : over < B64 := by rw [B64_eq]; omega
  have h5 := bits_or_u64_nat (x * 2 % B64) over (Nat.mod_lt _ B64_pos) h4
  refine ⟨?_, ?_, h3⟩
  · rw [e, h5, Nat.or_comm, ho2]
  · rw [B64_eq] at *
    omega

/-! ### The divisor: a struct of two slices -/
/-- What is divided by, and the room for a product. -/
def dvs (AB : Option Addr) (nb cb : Nat) (gm cm : Nat) : Value := .agg #[.slice AB nb cb, .slice (some ⟨gm, 0, none⟩) nb cm]
theorem times_word {x y over h l s c1 : Nat} (hx : x < B64) (hy : y < B64) (ho : over < B64) (hh : x * y / B64 = h) (hl : x * y % B64 = l) (hs : (l + over) % B64 = s) (h1 : (l + over) / B64 = c1) :
    s + B64 * (h + c1) = x * y + over ∧ h + c1 < B64 ∧ l < B64 ∧ s < B64 := by
  have e1 := Nat.mod_add_div (x * y) B64
  have e2 := Nat.mod_add_div (l + over) B64
  have e3 := two_words (m := 0) hx hy B64_pos ho
  rw [hh, hl] at e1
  rw [hs, h1] at e2
  have e : s + B64 * (h + c1) = x * y + over := by rw [Nat.mul_add]; omega
  refine ⟨e, ?_, by rw [← hl]; exact Nat.mod_lt _ B64_pos, by rw [← hs]; exact Nat.mod_lt _ B64_pos⟩
  refine Nat.lt_of_mul_lt_mul_left (a := B64) ?_
  omega
theorem times_step {T2 b : List Nat} {j x y over s next : Nat} (h : val (T2.take j) + B64 ^ j * over = x * val (b.take j)) (hy : lim b j = y) (hs : s + B64 * next = y * x + over) :
    val (T2.take j) + B64 ^ j * s + B64 ^ (j + 1) * next = x * (val (b.take j) + B64 ^ j * y) := by
  have e : B64 ^ j * (s + B64 * next) = B64 ^ j * (y * x + over) := by rw [hs]
  rw [Nat.mul_add, Nat.mul_add, ← Nat.mul_assoc] at e
  rw [show B64 ^ (j + 1) = B64 ^ j * B64 from Nat.pow_succ .., Nat.mul_add, ← h, Nat.mul_left_comm x, Nat.mul_comm x y]
  omega

/-- The guess of a limb of the quotient. -/
def guessN (hi lo y : Nat) : Nat := if y ≤ hi then 18446744073709551615 else (hi * B64 + lo) / y

end Go.Proofs.Ytgiokmfdafmaoaa

/- (div.divisor).limb: a limb of the quotient, corrected; what it makes is taken away. -/
namespace Go.Proofs.Ytgiokmfdafmaoaa
open Go.RowKit Go.Shelf
attribute [local go_sem] Oper.semAt_some
set_option linter.unusedVariables false
set_option linter.unusedSimpArgs false

section
variable {F : Fence} {n : Nat} {P : Program} {Q : Exit → Act → World → Prop} {b : Frame} {a : Act} {k : List Item} {cs : List Frame} {w : World}
theorem stepR_scope {c : Code} : step P (lone (b.atR a (.code (.scope c) :: k)) cs w) = .next (lone (b.atR a (.code c :: .inScope c :: k)) cs w) :=
  step_lone_go (by simp [stepG, stepG.exec, Frame.atR])
theorem stepR_inScope {c : Code} : step P (lone (b.atR a (.inScope c :: k)) cs w) = .next (lone (b.atR a k) cs w) :=
  step_lone_go (by simp [stepG, stepG.exec, Frame.atR])
/-- A scope through which the run goes without a goto, in a fence. -/
theorem wpIn_scope {c : Code} (h : c.wpIn F n P (Exit.noGoto Q) a w) : (Code.scope c).wpIn F n P Q a w := by
  intro b k cs hro hb hr
  have h0 : (lone (b.atR a (.code (.scope c) :: k)) cs w).fenced P F := fenced_calm hb hr rfl
  obtain ⟨e, a₁, w₁, hq, harr⟩ := h b (.inScope c :: k) cs hro hb hr
  cases e with
  | normal => exact ⟨.normal, a₁, w₁, hq, .head h0 stepR_scope (StepsIn.trans harr (.one (fenced_calm hb hr rfl) stepR_inScope))⟩
  | exit id =>
    have hx : exitTo id (.inScope c :: k) = exitTo id k := by simp [exitTo]
    exact ⟨_, a₁, w₁, hq, fun k' hk => .head h0 stepR_scope (harr.1 k' (by rw [hx]; exact hk)),
      fun hr' hk => let ⟨k₁, h1, h2⟩ := harr.2 hr' (by rw [hx]; exact hk); ⟨k₁, h1, .head h0 stepR_scope h2⟩⟩
  | goto l => exact hq.elim
  | ret => exact ⟨_, a₁, w₁, hq, .of_steps (.one h0 stepR_scope) harr⟩
  | panic ch => exact ⟨_, a₁, w₁, hq, .of_steps (.one h0 stepR_scope) harr⟩
  | outgrown => exact ⟨_, a₁, w₁, hq, .of_steps (.one h0 stepR_scope) harr⟩
end

/-! ### Marks of loops that have been gone through -/
def Marks (n0 : Nat) : Nat → List Deferred → World → Prop
  | _, [], _ => True
  | hi, d :: ds, W => ∃ D, d = { target := .collected D, args := #[] } ∧ n0 ≤ D ∧ D < hi ∧ W.heap[D]? = some (.deferred (some [])) ∧ Marks n0 D ds W
theorem Marks.keep {n0 : Nat} {ds : List Deferred} : ∀ {hi hi' : Nat} {W W' : World}, Marks n0 hi ds W → hi ≤ hi' → (∀ k, n0 ≤ k → k < hi → W'.heap[k]? = W.heap[k]?) → Marks n0 hi' ds W' := by
  induction ds with
  | nil => intros; trivial
  | cons d ds ih =>
    rintro hi hi' W W' ⟨D, rfl, h0, h1, hD, hr⟩ hle hk
    exact ⟨D, rfl, h0, by omega, (hk D h0 h1).trans hD, ih hr (Nat.le_refl _) fun k h2 h3 => hk k h2 (by omega)⟩
theorem marks_leave {P : Program} {F : Fence} {n : Nat} {fn : Func} {tmps : Array Value} {R : Ending → World → Prop} {n0 : Nat} {ds : List Deferred} : ∀ {hi : Nat} {W : World}, Marks n0 hi ds W →
    (∀ W', Below n0 W W' → ∃ v, (results fn tmps).run P W' = .ok v W' ∧ R (.returned v) W') → LeavesInM F n P fn tmps R ds .returning W := by
  induction ds with
  | nil =>
    intro hi W _ h
    exact h W (Below.refl _ _)
  | cons d ds ih =>
    rintro hi W ⟨D, rfl, h0, h1, hD, hr⟩ h
    refine ⟨by simp, .inl ⟨_, _, rfl, run_takeDeferred hD, ?_⟩⟩
    have hb : Below n0 W (W.putObj D (.deferred none)) := (Below.refl 0 W |>.mono (Nat.le_refl _)) |> fun _ => ⟨rfl, rfl, rfl, by simp, fun k hk => World.putObj_heap_other (by omega)⟩
    refine ih (hi := D) (hr.keep (Nat.le_refl _) fun k h2 h3 => World.putObj_heap_other (by omega)) fun W' hW => ?_
    exact h W' (hb.trans hW)

/-! ### Predicates that look below a block alone -/
theorem ownFrom_low {β : Type} {n0 B : Nat} {I : β → World → Prop} (hB : n0 ≤ B) (h1 : ∀ s W, I s W → n0 ≤ W.heap.size) (h2 : ∀ s W W', I s W → Below n0 W W' → I s W') : OwnFrom B I :=
  fun s W W' row hs hg hr => h2 s W W' hs ((Below.refl n0 W).grown hg (h1 s W hs) (fun k e => Nat.le_trans hB (hr k e).1))

/-- Nothing of what there was has turned but two blocks. -/
structure Only2 (g h : Nat) (w w' : World) : Prop where
  below : Below 0 w w'
  keep : ∀ k, k < w.heap.size → k ≠ g → k ≠ h → w'.heap[k]? = w.heap[k]?
section
variable {g h : Nat} {w w' w2 : World}
theorem Only2.refl (g h : Nat) (w : World) : Only2 g h w w := ⟨Below.refl _ _, fun _ _ _ _ => rfl⟩
theorem Only2.trans (a : Only2 g h w w') (k : Only2 g h w' w2) : Only2 g h w w2 := ⟨a.below.trans k.below, fun i hi hg hh => (k.keep i (Nat.lt_of_lt_of_le hi a.below.size) hg hh).trans (a.keep i hi hg hh)⟩
theorem Only.left (a : Only g w w') (h : Nat) : Only2 g h w w' := ⟨a.below, fun k hk hg _ => a.keep k hk hg⟩
theorem Only.right (a : Only h w w') (g : Nat) : Only2 g h w w' := ⟨a.below, fun k hk _ hh => a.keep k hk hh⟩
theorem Only2.of_below (hb : Below w.heap.size w w') : Only2 g h w w' := ⟨hb.mono (Nat.zero_le _), fun k hk _ _ => hb.block k hk⟩
theorem Only2.cell (a : Only2 g h w w') {p : Addr} (hp : p.block < w.heap.size) (h1 : p.block ≠ g) (h2 : p.block ≠ h) : w'.cell? p = w.cell? p := World.cell?_of_block (w := w) (a.keep p.block hp h1 h2)
theorem Only2.row (a : Only2 g h w w') {k : Nat} {l : List Nat} (hr : RowL w k l) (h1 : k ≠ g) (h2 : k ≠ h) : RowL w' k l := (a.keep k hr.lt h1 h2).trans hr
theorem Only2.rd (a : Only2 g h w w') {A : Option Addr} {n : Nat} {l : List Nat} (hr : Rd w A n l) (hA : 0 < n → ∀ b off, A = some ⟨b, off, none⟩ → b ≠ g ∧ b ≠ h) : Rd w' A n l :=
  ⟨hr.len, hr.words, fun hn => by
    obtain ⟨b, off, e, hlt, hc⟩ := hr.cells hn
    refine ⟨b, off, e, Nat.lt_of_lt_of_le hlt a.below.size, fun i hi => ?_⟩
    exact (a.cell (p := ⟨b, off + i, none⟩) hlt (hA hn b off e).1 (hA hn b off e).2).trans (hc i hi)⟩
theorem Only2.box (a : Only2 g h w w') {k : Nat} {o : Obj} (hk : w.heap[k]? = some o) (h1 : k ≠ g) (h2 : k ≠ h) : w'.heap[k]? = some o := (a.keep k (Array.getElem?_eq_some_iff.1 hk).1 h1 h2).trans hk
theorem Only2.to (a : Only2 g h w w') {B : Nat} (h1 : B ≤ g) (h2 : B ≤ h) (hB : B ≤ w.heap.size) : Below B w w' := ⟨a.below.os, a.below.tape, a.below.output, a.below.size, fun k hk => a.keep k (by omega) (by omega) (by omega)⟩
end

/-! ### Which of two lists is greater -/
theorem val_gt {M T : List Nat} (hM : Words M) (hT : Words T) (hl : M.length = T.length) {j : Nat} (hj : j < T.length) (he : ∀ k, j < k → k < T.length → lim M k = lim T k) (h : lim T j < lim M j) : val T < val M := by
  have e : M.drop (j + 1) = T.drop (j + 1) := by
    refine eq_of_lim (by simp [hl]) fun i hi => ?_
    have := he (j + 1 + i) (by omega) (by simp at hi; omega)
    simpa [lim, List.getD_eq_getElem?_getD, List.getElem?_drop] using this
  rw [val_split' M (j + 1), val_split' T (j + 1), e, val_take_succ, val_take_succ]
  have h1 : val (T.take j) < B64 ^ j := Nat.lt_of_lt_of_le (val_lt (hT.take j)) (Nat.pow_le_pow_right B64_pos (by rw [List.length_take]; omega))
  have h2 : B64 ^ j * (lim T j + 1) ≤ B64 ^ j * lim M j := Nat.mul_le_mul_left _ h
  rw [Nat.mul_add] at h2
  omega
theorem val_ne_zero {M : List Nat} (hM : Words M) {j : Nat} (h : lim M j ≠ 0) : val M ≠ 0 := fun e => h (by rw [lim_val hM, e]; simp)

theorem RowL.mid {w : World} {g i n : Nat} {P T R : List Nat} (h : RowL w g (P ++ T ++ R)) (hP : P.length = i) (hT : T.length = n) (hw : Words T) : Rd w (some ⟨g, i, none⟩) n T :=
  ⟨hT, hw, fun _ => ⟨g, i, rfl, h.lt, fun j hj => by
    rw [← lim_mid (R := R) hP (by omega)]
    exact h.cell (by simp; omega)⟩⟩
/-- A block of cells. -/
theorem cells_cell {w : World} {k j : Nat} {xs : Array Value} {t : TypeId} {v : Value} (h : w.heap[k]? = some (.cells xs t)) (hv : xs[j]? = some v) : w.cell? ⟨k, j, none⟩ = some v := by
  simp [World.cell?, h, hv]
theorem cells_frozen {w : World} {k j : Nat} {xs : Array Value} {t : TypeId} (h : w.heap[k]? = some (.cells xs t)) : w.frozen? ⟨k, j, none⟩ = false := by
  simp [World.frozen?, h]

/-! ### The guess -/
theorem val_top {b : List Nat} {n : Nat} (hw : Words b) (hl : b.length = n + 1) (hz : lim b n = 0) : val b = val (b.take n) ∧ val b < B64 ^ n := by
  have e := val_take_succ b n
  rw [val_take_all (by omega), hz, Nat.mul_zero, Nat.add_zero] at e
  refine ⟨e, ?_⟩
  rw [e]
  exact Nat.lt_of_lt_of_le (val_lt (hw.take n)) (Nat.pow_le_pow_right B64_pos (by rw [List.length_take]; omega))
theorem guess_ok {b T : List Nat} {n : Nat} (hwb : Words b) (hwT : Words T) (hlb : b.length = n + 2) (hlT : T.length = n + 2) (hz : lim b (n + 1) = 0) (h0 : 0 < val b) :
    (val T < val b * B64 → val T / val b ≤ guessN (lim T (n + 1)) (lim T n) (lim b n)) ∧ guessN (lim T (n + 1)) (lim T n) (lim b n) < B64 := by
  have hq : val T < val b * B64 → val T / val b < B64 := fun hlt => by rw [Nat.div_lt_iff_lt_mul h0, Nat.mul_comm]; exact hlt
  have hlo := hwT.get n
  unfold guessN
  split
  · rw [B64_eq] at *
    exact ⟨fun h => by have := hq h; omega, by omega⟩
  · rename_i hy
    have hb1 := (val_top (n := n + 1) hwb (by omega) hz).1
    rw [val_take_succ] at hb1
    have hT1 := val_take_succ T (n + 1)
    rw [val_take_all (by omega), val_take_succ] at hT1
    have hT2 : val (T.take n) < B64 ^ n := Nat.lt_of_lt_of_le (val_lt (hwT.take n)) (Nat.pow_le_pow_right B64_pos (by rw [List.length_take]; omega))
    have hp : 0 < B64 ^ n := Nat.pow_pos B64_pos
    generalize lim T (n + 1) = hi at *
    generalize lim T n = lo at *
    generalize lim b n = y at *
    constructor
    · intro _
      rw [Nat.le_div_iff_mul_le (by omega)]
      have e1 := Nat.div_mul_le_self (val T) (val b)
      generalize val T / val b = q at *
      have e2 : q * (B64 ^ n * y) ≤ q * val b := Nat.mul_le_mul_left _ (by rw [hb1]; omega)
      have e3 : B64 ^ n * (q * y) < B64 ^ n * (hi * B64 + lo + 1) := by
        rw [Nat.mul_left_comm, Nat.mul_add, Nat.mul_add]
        rw [show B64 ^ (n + 1) = B64 ^ n * B64 from Nat.pow_succ .., Nat.mul_assoc, Nat.mul_comm B64 hi] at hT1
        omega
      have := Nat.lt_of_mul_lt_mul_left e3
      omega
    · rw [Nat.div_lt_iff_lt_mul (by omega)]
      have := Nat.mul_le_mul_right B64 (show hi + 1 ≤ y by omega)
      rw [Nat.add_mul, Nat.mul_comm y] at this
      omega
theorem times_fits {b M : List Nat} {n g over : Nat} (hwb : Words b) (hlb : b.length = n + 2) (hz : lim b (n + 1) = 0) (hg : g < B64) (h : val M + B64 ^ (n + 2) * over = g * val b) : over = 0 := by
  have hb := (val_top (n := n + 1) hwb (by omega) hz).2
  have e : g * val b < B64 ^ (n + 2) := by
    rw [show B64 ^ (n + 2) = B64 * B64 ^ (n + 1) from by rw [Nat.mul_comm]; rfl]
    exact Nat.mul_lt_mul_of_lt_of_lt hg hb
  rcases Nat.eq_zero_or_pos over with h0 | h0
  · exact h0
  · have := Nat.mul_le_mul_left (B64 ^ (n + 2)) h0
    omega
/-! ### What the rounds have seen -/
theorem mem_downs {m k j : Nat} (h : j < m) (hk : m - 1 - j < k) : j ∈ downs m k := by
  unfold downs
  rw [List.mem_map]
  exact ⟨m - 1 - j, by simpa using hk, by omega⟩
theorem seen_above {nb k : Nat} {M T : List Nat} {pre : List (BkI nb (fun j v => v = lim M j))} {x : BkI nb (fun j v => v = lim M j)} (hp : places (pre ++ [x]) = downs nb k) (h : ∀ y ∈ pre, y.1.2 = lim T y.1.1) :
    ∀ j, x.1.1 < j → j < nb → lim M j = lim T j := by
  intro j h1 h2
  have hk : k = pre.length + 1 := by have := congrArg List.length hp; rw [places_length, downs_length] at this; simpa using this.symm
  subst hk
  rw [places_snoc, downs_succ] at hp
  obtain ⟨e1, e2⟩ := List.append_inj hp (by rw [places_length, downs_length])
  have e3 : x.1.1 = nb - 1 - pre.length := by simpa using e2
  have hm : j ∈ places pre := by rw [e1]; exact mem_downs h2 (by omega)
  unfold places at hm
  obtain ⟨y, hy, e⟩ := List.mem_map.1 hm
  have := h y hy
  rw [← e, ← this]
  exact y.2.2.symm
theorem seen_all {nb : Nat} {M T : List Nat} {pre : List (BkI nb (fun j v => v = lim M j))} (hp : places pre = downs nb nb) (h : ∀ y ∈ pre, y.1.2 = lim T y.1.1) (hM : M.length = nb) (hT : T.length = nb) : M = T := by
  refine eq_of_lim (by omega) fun j hj => ?_
  have hm : j ∈ places pre := by rw [hp]; exact mem_downs (by omega) (by omega)
  unfold places at hm
  obtain ⟨y, hy, e⟩ := List.mem_map.1 hm
  have := h y hy
  rw [← e, ← this]
  exact y.2.2.symm

theorem limb_end {T T2 b M : List Nat} {nb q s : Nat} (hv : val T2 + val M = val T + B64 ^ nb * s) (hs : s ≤ 1) (hm : val M = q * val b) (hle : val M ≤ val T) (hq : val T < val b * B64 → val T / val b ≤ q) (h0 : 0 < val b) (hT : T.length = nb) (hw : Words T2) (hT2 : T2.length = nb) :
    val T2 + q * val b = val T ∧ (val T < val b * B64 → q = val T / val b) := by
  have h1 := val_lt hw
  rw [hT2] at h1
  have hs0 : s = 0 := by
    rcases Nat.le_one_iff_eq_zero_or_eq_one.1 hs with h | h
    · exact h
    · subst h; omega
  subst hs0
  rw [Nat.mul_zero, Nat.add_zero, hm] at hv
  exact ⟨hv, fun h => Nat.le_antisymm (by rw [Nat.le_div_iff_mul_le h0, ← hm]; exact hle) (hq h)⟩
theorem limb_less {M M4 b : List Nat} {nb q s : Nat} (hv : val M4 + val b = val M + B64 ^ nb * s) (hs : s ≤ 1) (hm : val M = q * val b) (hq : 0 < q) (hw : Words M) (hl : M.length = nb) (hw4 : Words M4) (hl4 : M4.length = nb) :
    s = 0 ∧ val M4 = (q - 1) * val b := by
  obtain ⟨k, rfl⟩ : ∃ k, q = k + 1 := ⟨q - 1, by omega⟩
  have h1 := val_lt hw4
  rw [hl4] at h1
  rw [Nat.add_mul, Nat.one_mul] at hm
  rw [Nat.add_sub_cancel]
  rcases Nat.le_one_iff_eq_zero_or_eq_one.1 hs with h | h
  · subst h; exact ⟨rfl, by omega⟩
  · subst h; omega
/-- What the rounds of the comparison hand on: so far all are the same. -/
def LmI (nb : Nat) (M T : List Nat) (WE : World) (pre : List (BkI nb (fun j v => v = lim M j))) (Wx : World) : Prop := (∀ x ∈ pre, x.1.2 = lim T x.1.1) ∧ Below WE.heap.size WE Wx
/-- A round has parted the two: the guess is less by 1, or it is right. -/
def LmX (nb : Nat) (M T : List Nat) (WE : World) (gb : Nat) (ds : List Deferred) (Ls : Nat → List Nat → World → Prop) (q : Nat) (c : Code) (pre : List (BkI nb (fun j v => v = lim M j))) (Wx : World) : Prop :=
  WE.heap.size ≤ Wx.heap.size ∧ ∃ (pre' : List (BkI nb (fun j v => v = lim M j))) (x : BkI nb (fun j v => v = lim M j)), pre = pre' ++ [x] ∧ (∀ y ∈ pre', y.1.2 = lim T y.1.1) ∧
        ((c = .exit 1 ∧ lim T x.1.1 < x.1.2 ∧ Marks (gb + 1) WE.heap.size ds Wx ∧ ∃ M4, Ls (q - 1) M4 Wx) ∨
         (c = .exit 0 ∧ x.1.2 < lim T x.1.1 ∧ Below WE.heap.size WE Wx))

end Go.Proofs.Ytgiokmfdafmaoaa
