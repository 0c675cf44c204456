/- lex: runes, and what a mark is (stage 8). -/
import Derived.Test.YtedhnnechjnnfaaDoorRows
import Derived.Test.YtedhnnechjnnfaaDoorLBytes
import Derived.WalkKit
import Derived.Below
import Derived.Deep.Draws
import Derived.WalkSmall
import Derived.Laws.AppendOwn
import Derived.WalkSpells
import Derived.BigQuiet
import Derived.Deep.QuietTactic
import Derived.Deep.RegionLaw
import Derived.Deep.RegionHeld3
import Derived.Lib.Hide
import Derived.Lib.OthersKept
import Derived.Shelf.Abstract
import Derived.Lib.AtoiErrMem
import Derived.Lib.ParseIntBMem
namespace Go.Proofs.YtedhnnechjnnfaaDoor
open Go.RowKit Go.Shelf
set_option linter.unusedVariables false
set_option linter.unusedSimpArgs false

theorem lx_then {w w1 w2 : World} (h : Below w.heap.size w w1) (k : Below w1.heap.size w1 w2) : Below w.heap.size w w2 := h.trans (k.mono h.size)
theorem lx_new (w : World) (o : Obj) : Below w.heap.size w (w.alloc o) := (Below.refl _ w).alloc (Nat.le_refl _) o
theorem lx_cell {w W : World} {g i : Nat} {v : Value} (h : w.cell? ⟨g, i, none⟩ = some v) (hb : Below w.heap.size w W) (hg : g < w.heap.size) : W.cell? ⟨g, i, none⟩ = some v := (hb.cell (p := ⟨g, i, none⟩) hg).trans h

/-- A block of cells, kept. -/
theorem lx_block {w W : World} {g : Nat} {o : Obj} (h : w.heap[g]? = some o) (hb : Below w.heap.size w W) : W.heap[g]? = some o := (hb.block g (Array.getElem?_eq_some_iff.1 h).1).trans h
theorem lx_made (w : World) (o : Obj) : (w.alloc o).heap[w.heap.size]? = some o := by
  show (w.heap.push o)[w.heap.size]? = some o
  simp
theorem lx_cells {w : World} {g : Nat} {xs : Array Value} {t : TypeId} (h : w.heap[g]? = some (.cells xs t)) {i : Nat} {v : Value} (hv : xs[i]? = some v) : w.cell? ⟨g, i, none⟩ = some v ∧ w.frozen? ⟨g, i, none⟩ = false := by
  constructor
  · rw [World.cell?, h]
    exact hv
  · simp [World.frozen?, h]
/-- A predicate of bytes, asked of a rune. -/
def runeB (p : UInt8 → Bool) (x : Nat) : Bool := decide (x < 128) && p (UInt8.ofNat x)
theorem runeB_high {p : UInt8 → Bool} {x : Nat} (h : 128 ≤ x) : runeB p x = false := by unfold runeB; rw [decide_eq_false (by omega)]; rfl
theorem runeB_low {p : UInt8 → Bool} {c : UInt8} (h : c.toNat < 128) : runeB p c.toNat = p c := by unfold runeB; rw [decide_eq_true h, Bool.true_and, UInt8.ofNat_toNat]
def lexIn (lo hi : Nat) (c : UInt8) : Bool := decide (lo ≤ c.toNat ∧ c.toNat ≤ hi)
theorem rune_in {lo hi x : Nat} (h : hi < 128) : runeB (lexIn lo hi) x = decide (lo ≤ x ∧ x ≤ hi) := by
  unfold runeB lexIn
  by_cases hx : x < 128
  · have h1 : (UInt8.ofNat x).toNat = x := by rw [UInt8.toNat_ofNat']; omega
    rw [h1, decide_eq_true hx, Bool.true_and]
  · rw [decide_eq_false hx, decide_eq_false (show ¬ (lo ≤ x ∧ x ≤ hi) by omega)]; rfl

/-- Blocks from B on are kept. -/
def KeptFrom (B : Nat) (w W : World) : Prop := w.heap.size ≤ W.heap.size ∧ ∀ k, B ≤ k → k < w.heap.size → W.heap[k]? = w.heap[k]?
theorem KeptFrom.trans {B : Nat} {a b c : World} (h : KeptFrom B a b) (k : KeptFrom B b c) : KeptFrom B a c := ⟨Nat.le_trans h.1 k.1, fun i h1 h2 => (k.2 i h1 (Nat.lt_of_lt_of_le h2 h.1)).trans (h.2 i h1 h2)⟩
theorem kept_below {B : Nat} {w W : World} (h : Below w.heap.size w W) : KeptFrom B w W := ⟨h.size, fun k _ hk => h.block k hk⟩
theorem KeptFrom.mono {B C : Nat} {w W : World} (h : KeptFrom B w W) (hc : B ≤ C) : KeptFrom C w W := ⟨h.1, fun k h1 h2 => h.2 k (Nat.le_trans hc h1) h2⟩
theorem kept_set {B : Nat} (w : World) (p : Addr) (hp : p.block < B) (v : Value) : KeptFrom B w (w.setCell p v) := by
  refine ⟨?_, fun k h1 h2 => Below.heap_setCell w p v k (by omega)⟩
  have h : (w.setCell p v).heap.size = w.heap.size := by simp [World.setCell]
  omega
theorem kept_cell {B : Nat} {w W : World} {g i : Nat} {v : Value} (h : w.cell? ⟨g, i, none⟩ = some v) (hk : KeptFrom B w W) (hB : B ≤ g) : W.cell? ⟨g, i, none⟩ = some v := by
  have hg : g < w.heap.size := Lib.lt_of_cell h
  have h1 := hk.2 g hB hg
  unfold World.cell? at h ⊢
  dsimp only at h ⊢
  rw [h1]
  exact h
/-- A function value asks runes for a predicate of bytes, in every world in which blocks from B on are kept. -/
structure MarkIs (B : Nat) (w : World) (v : Value) (p : UInt8 → Bool) : Prop where
  out : ∃ (F : Nat) (caps : Array Value), v = .func (.func F) #[] caps ∧ (∀ args w, (callFunc F args).run Tryd.prog w = .ok (.enter F args) w) ∧ ∀ (W : World) (x : Nat), x ≤ 1114111 → KeptFrom B w W → Calls Tryd.prog F (#[.int .i32 (x : Int)] ++ caps) W fun e W' => e = .returned (.bool (runeB p x)) ∧ Below W.heap.size W W'
theorem MarkIs.kept {B : Nat} {w W : World} {v : Value} {p : UInt8 → Bool} (h : MarkIs B w v p) (hk : KeptFrom B w W) : MarkIs B W v p := by
  obtain ⟨F, caps, e, h1, h2⟩ := h.out
  exact ⟨F, caps, e, h1, fun W' x hx hb' => h2 W' x hx (hk.trans hb')⟩
theorem MarkIs.later {B : Nat} {w W : World} {v : Value} {p : UInt8 → Bool} (h : MarkIs B w v p) (hb : Below w.heap.size w W) : MarkIs B W v p := h.kept (kept_below hb)
theorem MarkIs.mono {B C : Nat} {w : World} {v : Value} {p : UInt8 → Bool} (h : MarkIs C w v p) (hc : B ≤ C) : MarkIs B w v p := by
  obtain ⟨F, caps, e, h1, h2⟩ := h.out
  exact ⟨F, caps, e, h1, fun W' x hx hb' => h2 W' x hx (hb'.mono hc)⟩
theorem MarkIs.same {B : Nat} {w : World} {v : Value} {p q : UInt8 → Bool} (h : MarkIs B w v p) (e : ∀ c, p c = q c) : MarkIs B w v q := by
  rw [show q = p from funext fun c => (e c).symm]; exact h
theorem MarkIs.shape {B : Nat} {w : World} {v : Value} {p : UInt8 → Bool} (h : MarkIs B w v p) : ∃ F caps, v = .func (.func F) #[] caps := by
  obtain ⟨F, caps, e, _⟩ := h.out
  exact ⟨F, caps, e⟩
end Go.Proofs.YtedhnnechjnnfaaDoor
