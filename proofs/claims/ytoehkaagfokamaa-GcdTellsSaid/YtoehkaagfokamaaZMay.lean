import Derived.Test.YtoehkaagfokamaaZLimb
/- May. -/
namespace Go.Proofs.Ytoehkaagfokamaa
open Go.RowKit

/-- The last limb's test, for the walk. -/
theorem may_last {l : List Nat} (h : l ≠ []) : may l = (lim l (l.length - 1) != 0) := by
  have h1 : l.length ≠ 0 := fun e => h (List.eq_nil_of_length_eq_zero e)
  unfold may lim
  rw [List.getLast?_eq_getElem?, List.getD_eq_getElem?_getD, List.getElem?_eq_getElem (by omega)]
  rfl

/-- The error's number: 0 where all lists may be, else 8. -/
def bad (ls : List (List Nat)) : Int := if ls.all may then 0 else 8

/-- A slice of slices of limbs: cell i is the slice of the i-th list. -/
def Rows2 (w : World) (b off : Nat) (ls : List (List Nat)) : Prop :=
  ∀ i l, ls[i]? = some l → ∃ A n c, w.cell? ⟨b, off + i, none⟩ = some (.slice A n c) ∧ Rd w A n l ∧ n ≤ 9223372036854775807

set_option maxHeartbeats 400000 in
/-- nat.mayBe: OK, if all of these numbers may be. -/
theorem mayBe_any (b off m c : Nat) (ls : List (List Nat)) (w : World) (h : Rows2 w b off ls) (hm : ls.length = m) (hm1 : m ≤ 9223372036854775807) :
    Calls Try.prog 38 #[.slice (some ⟨b, off, none⟩) m c] w fun e w' => e = .returned (.int .i64 (bad ls)) ∧ w' = w := by
  go_enter Try.func38, Try.ntmps38
  go_wp2
  go_loop [8] (fun i => ∃ k : Nat, k ≤ m ∧ i = .int .i64 (k : Int) ∧ (ls.take k).all may = true) (fun i => m - (intOf i).toNat)
  case atStart => exact ⟨0, by omega, rfl, by simp⟩
  case round =>
    obtain ⟨k, hk, rfl, hs⟩ := hrel
    by_cases hlt : k < m
    · obtain ⟨A, n, c', hcell, hr, hn⟩ := h k ls[k] (List.getElem?_eq_getElem (by omega))
      have hnext : (ls.take (k + 1)).all may = ((ls.take k).all may && may ls[k]) := by
        rw [List.take_succ_eq_append_getElem (by omega), List.all_append]; simp
      have hbad : may ls[k] = false → bad ls = 8 := by
        intro hf
        unfold bad
        rw [if_neg]
        intro ha
        have := List.all_eq_true.1 ha ls[k] (List.getElem_mem _)
        rw [hf] at this; cases this
      by_cases hn0 : n = 0
      · subst hn0
        have hm0 : may ls[k] = true := by
          have : ls[k] = [] := List.eq_nil_of_length_eq_zero hr.len
          rw [this]; rfl
        have HS : Hid ((ls.take (k + 1)).all may = true) := by rw [hnext, hs, hm0]; exact rfl
        clear hnext hbad hr h hs hm0
        go_wp2
        go_round
        case rel => exact ⟨k + 1, by omega, by go_num, HS.out⟩
        case measure => simp [intOf]; omega
      · obtain ⟨b1, o1, rfl, hb1, hc1⟩ := hr.cells (by omega)
        have hci := hc1 (n - 1) (by omega)
        have hl := may_last (l := ls[k]) (fun e => by have := hr.len; rw [e] at this; simp at this; omega)
        rw [hr.len] at hl
        obtain ⟨j, rfl⟩ : ∃ j, n = j + 1 := ⟨n - 1, by omega⟩
        simp only [Nat.add_sub_cancel] at hci hl
        clear hc1
        by_cases hx : lim ls[k] j = 0
        · rw [hx] at hci
          have hm0 : may ls[k] = false := by rw [hl, hx]; rfl
          have HB : Hid (bad ls = 8) := hbad hm0
          clear hbad hr h hs hm0 hl hx hnext
          go_wp2
          go_ret
          exact ⟨by rw [HB.out]; rfl, rfl⟩
        · have hm0 : may ls[k] = true := by rw [hl]; simpa using hx
          have HS : Hid ((ls.take (k + 1)).all may = true) := by rw [hnext, hs, hm0]; exact rfl
          have hne : ((lim ls[k] j : Int) == 0) = false := by simp; omega
          clear hbad hr h hs hm0 hl hx hnext
          go_wp2
          go_round
          case rel => exact ⟨k + 1, by omega, by go_num, HS.out⟩
          case measure => simp [intOf]; omega
    · have hk2 : k = m := by omega
      have HB : Hid (bad ls = 0) := by
        show bad ls = 0
        unfold bad
        rw [List.take_of_length_le (by omega)] at hs
        rw [if_pos hs]
      clear h hs hm
      go_wp2
      go_ret
      exact ⟨by rw [HB.out]; rfl, rfl⟩
end Go.Proofs.Ytoehkaagfokamaa
