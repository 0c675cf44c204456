import Derived.WalkKit
import Derived.Below
import Derived.Deep.Draws
import Derived.WalkSmall
import Derived.Laws.AppendOwn
import Derived.Test.YthenngajebkboaaK01
/- Texts of one proof, one behind another: Mem. -/
/- Memory: a slice of words that reads as a list of limbs; kept over new blocks, draws and stores elsewhere. -/
namespace Go.Proofs.Ythenngajebkboaa
open Go.RowKit

/-- A word as a value. -/
abbrev u64 (x : Nat) : Value := .int .u64 (x : Int)

/-- The slice value '.slice A n c' has the limbs l, in a world. -/
structure Rd (w : World) (A : Option Addr) (n : Nat) (l : List Nat) : Prop where
  len : l.length = n
  words : Words l
  cells : 0 < n → ∃ b off, A = some ⟨b, off, none⟩ ∧ b < w.heap.size ∧ ∀ i, i < n → w.cell? ⟨b, off + i, none⟩ = some (u64 (lim l i))

section
variable {w w' : World} {A : Option Addr} {n : Nat} {l : List Nat}
theorem Rd.below (h : Rd w A n l) (hb : Below w.heap.size w w') : Rd w' A n l :=
  ⟨h.len, h.words, fun hn => by
    obtain ⟨b, off, e, hlt, hc⟩ := h.cells hn
    exact ⟨b, off, e, Nat.lt_of_lt_of_le hlt hb.size, fun i hi => (hb.cell (p := ⟨b, off + i, none⟩) hlt).trans (hc i hi)⟩⟩
theorem Rd.alloc (h : Rd w A n l) (o : Obj) : Rd (w.alloc o) A n l := h.below ((Below.refl _ w).alloc (Nat.le_refl _) o)
theorem Rd.drew (h : Rd w A n l) : Rd w.drew A n l := h.below (Below.refl _ w).drew
theorem Rd.drewN (h : Rd w A n l) (k : Nat) : Rd (w.drewN k) A n l := h.below (below_drewN (Below.refl _ w) k)
/-- Kept where all below a block is kept, if the slice lies below it. -/
theorem Rd.keep {B : Nat} (h : Rd w A n l) (hA : ∀ b off, A = some ⟨b, off, none⟩ → b < B) (hb : Below B w w') : Rd w' A n l :=
  ⟨h.len, h.words, fun hn => by
    obtain ⟨b, off, e, hlt, hc⟩ := h.cells hn
    exact ⟨b, off, e, Nat.lt_of_lt_of_le hlt hb.size, fun i hi => (hb.cell (p := ⟨b, off + i, none⟩) (hA b off e)).trans (hc i hi)⟩⟩
theorem Rd.lt (h : Rd w A n l) : 0 < n → ∀ b off, A = some ⟨b, off, none⟩ → b < w.heap.size := fun hn b off e => by
  obtain ⟨b', o', e', hlt, _⟩ := h.cells hn
  rw [e] at e'; cases e'
  exact hlt
theorem rd_nil (w : World) (A : Option Addr) : Rd w A 0 [] := ⟨rfl, words_nil, fun h => absurd h (by omega)⟩
theorem Rd.take (h : Rd w A n l) {k : Nat} (hk : k ≤ n) : Rd w A k (l.take k) :=
  ⟨by rw [List.length_take, h.len]; omega, h.words.take k, fun hn => by
    obtain ⟨b, off, e, hlt, hc⟩ := h.cells (by omega)
    refine ⟨b, off, e, hlt, fun i hi => ?_⟩
    rw [hc i (by omega)]
    simp [lim, List.getD_eq_getElem?_getD, hi]⟩
end
end Go.Proofs.Ythenngajebkboaa
