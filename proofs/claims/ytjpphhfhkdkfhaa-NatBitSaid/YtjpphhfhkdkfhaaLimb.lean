import Derived.Test.YtjpphhfhkdkfhaaRows
import Derived.Test.YtjpphhfhkdkfhaaMem
import Derived.WalkSpells
import Derived.BigQuiet
import Derived.Deep.QuietTactic
import Derived.Lib.Hide
namespace Go.Proofs.Ytjpphhfhkdkfhaa
open Go.RowKit

set_option maxHeartbeats 400000 in
/-- nat.limb: the limb at a place, 0 beyond the last one. -/
theorem limb_any (A : Option Addr) (n c : Nat) (l : List Nat) (i : Nat) (w : World) (h : Rd w A n l) (hi : i ≤ 9223372036854775807) (hn : n ≤ 9223372036854775807) :
    Calls Try.prog 36 #[.slice A n c, .int .i64 (i : Int)] w fun e w' => e = .returned (u64 (lim l i)) ∧ w' = w := by
  by_cases hlt : i < n
  · obtain ⟨b, off, rfl, hb, hc⟩ := h.cells (by omega)
    have hci := hc i hlt
    clear hc h
    go_enter Try.func36, Try.ntmps36
    go_wp2
    go_ret
    exact ⟨rfl, rfl⟩
  · have h0 : lim l i = 0 := lim_past (by rw [h.len]; omega)
    have H0 : Hid (lim l i = 0) := h0
    clear h0 h
    go_enter Try.func36, Try.ntmps36
    go_wp2
    go_ret
    exact ⟨by rw [H0.out]; rfl, rfl⟩

set_option maxHeartbeats 400000 in
/-- nat.trim: a slice cut behind its last limb that is not 0. -/
theorem trim_any (A : Option Addr) (n c : Nat) (l : List Nat) (w : World) (h : Rd w A n l) (hc0 : n ≤ c) (hc1 : c ≤ 9223372036854775807) :
    Calls Try.prog 35 #[.slice A n c] w fun e w' => (∃ k, k ≤ n ∧ e = .returned (.slice A k c) ∧ l.take k = limbs (val l)) ∧ w' = w := by
  go_enter Try.func35, Try.ntmps35
  go_wp2
  go_loop [3] (fun i => ∃ k : Nat, k ≤ n ∧ i = .int .i64 (k : Int) ∧ ∀ j, k ≤ j → lim l j = 0) (fun i => (intOf i).toNat)
  case atStart => exact ⟨n, Nat.le_refl _, rfl, fun j hj => lim_past (by rw [h.len]; omega)⟩
  case round =>
    obtain ⟨k, hk, rfl, hz⟩ := hrel
    by_cases h0 : k = 0
    · subst h0
      have ht : l.take 0 = limbs (val l) := take_limbs h.words (by omega) (fun h => absurd rfl h) hz
      have HT : Hid (l.take 0 = limbs (val l)) := ht
      clear ht hz h
      go_wp2
      go_ret
      exact ⟨⟨0, by omega, rfl, HT.out⟩, rfl⟩
    · obtain ⟨b, off, rfl, hb, hc⟩ := h.cells (by omega)
      have hci := hc (k - 1) (by omega)
      clear hc
      obtain ⟨j, rfl⟩ : ∃ j, k = j + 1 := ⟨k - 1, by omega⟩
      simp only [Nat.add_sub_cancel] at hci
      by_cases hx : lim l j = 0
      · rw [hx] at hci
        have HX : Hid (lim l j = 0) := hx
        have HZ := Lib.hid hz
        have HH := Lib.hid h
        clear hx hz h
        go_wp2
        go_round
        case rel => exact ⟨j, by omega, by go_num, fun i hi => by
          rcases Nat.eq_or_lt_of_le hi with rfl | hi
          · exact HX.out
          · exact HZ.out i hi⟩
        case measure => simp [intOf]
      · have ht : l.take (j + 1) = limbs (val l) := take_limbs h.words (by rw [h.len]; omega) (fun _ => hx) hz
        have HT : Hid (l.take (j + 1) = limbs (val l)) := ht
        have hne : ((lim l j : Int) == 0) = false := by simp; omega
        clear ht hz h hx
        go_wp2
        go_ret
        exact ⟨⟨j + 1, by omega, rfl, HT.out⟩, rfl⟩
end Go.Proofs.Ytjpphhfhkdkfhaa
