import Derived.Shelf.Bits.Mul64
import Derived.Test.YtgiokmfdafmaoaaGreatJProd
import Derived.Test.YtgiokmfdafmaoaaGreatJAdd
/- MTrim. -/
/- mul's trim; bits.Mul64, laid at this program; two words' sum. -/
namespace Go.Proofs
open Go.Shelf
def Tryz.lays264_ren : Go.Shelf.Ren := ⟨fun | 264 => 156 | n => n, fun | 53 => 36 | 46 => 156 | n => n, fun | n => n⟩
theorem Tryz.lays264 : Go.Proofs.Lays.n264 Tryz.prog Tryz.lays264_ren := {
  mixed := by kernel_rfl
  f264 := Tryz.func156.trans (congrArg some (by kernel_rfl))
  t46 := Tryz.underlying156
  a46 := Tryz.isAgg156
  z46 := Tryz.sizeOf156
  v46 := Tryz.zeroValue156
  t53 := Tryz.underlying36
  a53 := Tryz.isAgg36
  z53 := Tryz.sizeOf36
  v53 := Tryz.zeroValue36 }
end Go.Proofs
namespace Go.Proofs.YtgiokmfdafmaoaaGreat
open Go.RowKit Go.Shelf
set_option linter.unusedVariables false

theorem mul64_any (x y : Nat) (hx : x < B64) (hy : y < B64) (w : World) :
    Calls Tryz.prog 156 #[u64 x, u64 y] w fun e w' => e = .returned (.tuple #[u64 (x * y / B64), u64 (x * y % B64)]) ∧ w' = w := Any.bits_Mul64 Tryz.lays264 x y hx hy w

theorem add64_two (x y : Nat) (hx : x < B64) (hy : y < B64) (w : World) :
    (callFunc 134 #[.int .u64 (x : Int), .int .u64 (y : Int), .int .u64 0]).run Tryz.prog w = .ok (.value (.tuple #[u64 ((x + y) % B64), u64 ((x + y) / B64)])) w :=
  joiner_add.run x y 0 hx hy (by omega) w

set_option maxHeartbeats 400000 in
/-- (mul.number).trim: a slice cut behind its last limb that is not 0. -/
theorem trimM_any (A : Option Addr) (n c : Nat) (l : List Nat) (w : World) (h : Rd w A n l) (hc0 : n ≤ c) (hc1 : c ≤ 9223372036854775807) :
    Calls Tryz.prog 145 #[.slice A n c] w fun e w' => (∃ k, k ≤ n ∧ e = .returned (.slice A k c) ∧ l.take k = limbs (val l)) ∧ w' = w := by
  go_enter Tryz.func145, Tryz.ntmps145
  go_wp2
  go_loop [3] (fun i => ∃ k : Nat, k ≤ n ∧ i = .int .i64 (k : Int) ∧ ∀ j, k ≤ j → lim l j = 0) (fun i => (intOf i).toNat)
  case atStart => exact ⟨n, Nat.le_refl _, rfl, fun j hj => lim_past (by rw [h.len]; omega)⟩
  case round =>
    obtain ⟨k, hk, rfl, hz⟩ := hrel
    by_cases h0 : k = 0
    · subst h0
      have ht : l.take 0 = limbs (val l) := take_limbs h.words (by omega) (fun h => absurd rfl h) hz
      have HT : Hid (l.take 0 = limbs (val l)) := ht
      clear ht hz h
      go_wp2
      go_ret
      exact ⟨⟨0, by omega, rfl, HT.out⟩, rfl⟩
    · obtain ⟨b, off, rfl, hb, hc⟩ := h.cells (by omega)
      have hci := hc (k - 1) (by omega)
      clear hc
      obtain ⟨j, rfl⟩ : ∃ j, k = j + 1 := ⟨k - 1, by omega⟩
      simp only [Nat.add_sub_cancel] at hci
      by_cases hx : lim l j = 0
      · rw [hx] at hci
        have HX : Hid (lim l j = 0) := hx
        have HZ := Lib.hid hz
        have HH := Lib.hid h
        clear hx hz h
        go_wp2
        go_round
        case rel => exact ⟨j, by omega, by go_num, fun i hi => by
          rcases Nat.eq_or_lt_of_le hi with rfl | hi
          · exact HX.out
          · exact HZ.out i hi⟩
        case measure => simp [intOf]
      · have ht : l.take (j + 1) = limbs (val l) := take_limbs h.words (by rw [h.len]; omega) (fun _ => hx) hz
        have HT : Hid (l.take (j + 1) = limbs (val l)) := ht
        have hne : ((lim l j : Int) == 0) = false := by simp; omega
        clear ht hz h hx
        go_wp2
        go_ret
        exact ⟨⟨j + 1, by omega, rfl, HT.out⟩, rfl⟩
end Go.Proofs.YtgiokmfdafmaoaaGreat
