import Derived.Test.YtgiokmfdafmaoaaGreatJNum
import Derived.WalkKit
import Derived.Below
import Derived.Deep.Draws
import Derived.WalkSmall
import Derived.Laws.AppendOwn
import Derived.Test.YtgiokmfdafmaoaaGreatRows
import Derived.WalkSpells
import Derived.BigQuiet
import Derived.Deep.QuietTactic
import Derived.Lib.Hide
/- Mem Limb. -/
/- Memory: a slice of words that reads as a list of limbs; kept over new blocks, draws and stores elsewhere. -/
namespace Go.Proofs.YtgiokmfdafmaoaaGreat
open Go.RowKit

/-- A word as a value. -/
abbrev u64 (x : Nat) : Value := .int .u64 (x : Int)

/-- The slice value '.slice A n c' has the limbs l, in a world. -/
structure Rd (w : World) (A : Option Addr) (n : Nat) (l : List Nat) : Prop where
  len : l.length = n
  words : Words l
  cells : 0 < n → ∃ b off, A = some ⟨b, off, none⟩ ∧ b < w.heap.size ∧ ∀ i, i < n → w.cell? ⟨b, off + i, none⟩ = some (u64 (lim l i))

section
variable {w w' : World} {A : Option Addr} {n : Nat} {l : List Nat}
theorem Rd.below (h : Rd w A n l) (hb : Below w.heap.size w w') : Rd w' A n l :=
  ⟨h.len, h.words, fun hn => by
    obtain ⟨b, off, e, hlt, hc⟩ := h.cells hn
    exact ⟨b, off, e, Nat.lt_of_lt_of_le hlt hb.size, fun i hi => (hb.cell (p := ⟨b, off + i, none⟩) hlt).trans (hc i hi)⟩⟩
theorem Rd.alloc (h : Rd w A n l) (o : Obj) : Rd (w.alloc o) A n l := h.below ((Below.refl _ w).alloc (Nat.le_refl _) o)
theorem Rd.drew (h : Rd w A n l) : Rd w.drew A n l := h.below (Below.refl _ w).drew
theorem Rd.drewN (h : Rd w A n l) (k : Nat) : Rd (w.drewN k) A n l := h.below (below_drewN (Below.refl _ w) k)
/-- Kept where all below a block is kept, if the slice lies below it. -/
theorem Rd.keep {B : Nat} (h : Rd w A n l) (hA : ∀ b off, A = some ⟨b, off, none⟩ → b < B) (hb : Below B w w') : Rd w' A n l :=
  ⟨h.len, h.words, fun hn => by
    obtain ⟨b, off, e, hlt, hc⟩ := h.cells hn
    exact ⟨b, off, e, Nat.lt_of_lt_of_le hlt hb.size, fun i hi => (hb.cell (p := ⟨b, off + i, none⟩) (hA b off e)).trans (hc i hi)⟩⟩
theorem Rd.lt (h : Rd w A n l) : 0 < n → ∀ b off, A = some ⟨b, off, none⟩ → b < w.heap.size := fun hn b off e => by
  obtain ⟨b', o', e', hlt, _⟩ := h.cells hn
  rw [e] at e'; cases e'
  exact hlt
theorem rd_nil (w : World) (A : Option Addr) : Rd w A 0 [] := ⟨rfl, words_nil, fun h => absurd h (by omega)⟩
theorem Rd.take (h : Rd w A n l) {k : Nat} (hk : k ≤ n) : Rd w A k (l.take k) :=
  ⟨by rw [List.length_take, h.len]; omega, h.words.take k, fun hn => by
    obtain ⟨b, off, e, hlt, hc⟩ := h.cells (by omega)
    refine ⟨b, off, e, hlt, fun i hi => ?_⟩
    rw [hc i (by omega)]
    simp [lim, List.getD_eq_getElem?_getD, hi]⟩
end
end Go.Proofs.YtgiokmfdafmaoaaGreat

namespace Go.Proofs.YtgiokmfdafmaoaaGreat
open Go.RowKit

set_option maxHeartbeats 400000 in
/-- nat.limb: the limb at a place, 0 beyond the last one. -/
theorem limb_any (A : Option Addr) (n c : Nat) (l : List Nat) (i : Nat) (w : World) (h : Rd w A n l) (hi : i ≤ 9223372036854775807) (hn : n ≤ 9223372036854775807) :
    Calls Tryz.prog 111 #[.slice A n c, .int .i64 (i : Int)] w fun e w' => e = .returned (u64 (lim l i)) ∧ w' = w := by
  by_cases hlt : i < n
  · obtain ⟨b, off, rfl, hb, hc⟩ := h.cells (by omega)
    have hci := hc i hlt
    clear hc h
    go_enter Tryz.func111, Tryz.ntmps111
    go_wp2
    go_ret
    exact ⟨rfl, rfl⟩
  · have h0 : lim l i = 0 := lim_past (by rw [h.len]; omega)
    have H0 : Hid (lim l i = 0) := h0
    clear h0 h
    go_enter Tryz.func111, Tryz.ntmps111
    go_wp2
    go_ret
    exact ⟨by rw [H0.out]; rfl, rfl⟩

set_option maxHeartbeats 400000 in
/-- nat.trim: a slice cut behind its last limb that is not 0. -/
theorem trim_any (A : Option Addr) (n c : Nat) (l : List Nat) (w : World) (h : Rd w A n l) (hc0 : n ≤ c) (hc1 : c ≤ 9223372036854775807) :
    Calls Tryz.prog 82 #[.slice A n c] w fun e w' => (∃ k, k ≤ n ∧ e = .returned (.slice A k c) ∧ l.take k = limbs (val l)) ∧ w' = w := by
  go_enter Tryz.func82, Tryz.ntmps82
  go_wp2
  go_loop [3] (fun i => ∃ k : Nat, k ≤ n ∧ i = .int .i64 (k : Int) ∧ ∀ j, k ≤ j → lim l j = 0) (fun i => (intOf i).toNat)
  case atStart => exact ⟨n, Nat.le_refl _, rfl, fun j hj => lim_past (by rw [h.len]; omega)⟩
  case round =>
    obtain ⟨k, hk, rfl, hz⟩ := hrel
    by_cases h0 : k = 0
    · subst h0
      have ht : l.take 0 = limbs (val l) := take_limbs h.words (by omega) (fun h => absurd rfl h) hz
      have HT : Hid (l.take 0 = limbs (val l)) := ht
      clear ht hz h
      go_wp2
      go_ret
      exact ⟨⟨0, by omega, rfl, HT.out⟩, rfl⟩
    · obtain ⟨b, off, rfl, hb, hc⟩ := h.cells (by omega)
      have hci := hc (k - 1) (by omega)
      clear hc
      obtain ⟨j, rfl⟩ : ∃ j, k = j + 1 := ⟨k - 1, by omega⟩
      simp only [Nat.add_sub_cancel] at hci
      by_cases hx : lim l j = 0
      · rw [hx] at hci
        have HX : Hid (lim l j = 0) := hx
        have HZ := Lib.hid hz
        have HH := Lib.hid h
        clear hx hz h
        go_wp2
        go_round
        case rel => exact ⟨j, by omega, by go_num, fun i hi => by
          rcases Nat.eq_or_lt_of_le hi with rfl | hi
          · exact HX.out
          · exact HZ.out i hi⟩
        case measure => simp [intOf]
      · have ht : l.take (j + 1) = limbs (val l) := take_limbs h.words (by rw [h.len]; omega) (fun _ => hx) hz
        have HT : Hid (l.take (j + 1) = limbs (val l)) := ht
        have hne : ((lim l j : Int) == 0) = false := by simp; omega
        clear ht hz h hx
        go_wp2
        go_ret
        exact ⟨⟨j + 1, by omega, rfl, HT.out⟩, rfl⟩
end Go.Proofs.YtgiokmfdafmaoaaGreat
