/- The document's own answers for numbers: the small ones. -/
import Derived.Test.YtjpphhfhkdkfhaaBit
import Derived.Test.YtjpphhfhkdkfhaaCmp
import Derived.Test.YtjpphhfhkdkfhaaSame
import Derived.Test.YtjpphhfhkdkfhaaBitLaw
import Derived.Test.YtjpphhfhkdkfhaaRefMay
namespace Go.Proofs.Ytjpphhfhkdkfhaa
open Go.RowKit Go.Shelf
set_option linter.unusedVariables false
set_option linter.unusedSimpArgs false


section
variable (A A2 : Option Addr) (na ca nb cb : Nat) (a b : List Nat) (w : World)



set_option maxHeartbeats 1000000 in
theorem rCheck_any (hra : Rd w A na a) (hna : na ≤ 4294967296) :
    Calls Try.prog 26 #[.slice A na ca] w fun e w' => e = .returned (.int .i64 (bad [a])) ∧ w = w' := by
  cases hm : may a with
  | true =>
    have HM := Lib.hid hm
    clear hm
    go_enter Try.func26, Try.ntmps26
    go_wp2_with (go_at_call 39; refine (rMay_any A na ca a _ hra hna).mono ?_; rw [HM.out]; rintro e w' ⟨rfl, rfl⟩)
    go_ret
    exact ⟨by rw [bad_may a HM.out]; rfl, rfl⟩
  | false =>
    have HM := Lib.hid hm
    clear hm
    go_enter Try.func26, Try.ntmps26
    go_wp2_with (go_at_call 39; refine (rMay_any A na ca a _ hra hna).mono ?_; rw [HM.out]; rintro e w' ⟨rfl, rfl⟩)
    go_ret
    exact ⟨by rw [bad_may' a HM.out]; rfl, rfl⟩



set_option maxHeartbeats 1000000 in
theorem rOne_any (hra : Rd w A na a) (hna : na ≤ 4294967296) :
    Calls Try.prog 53 #[.slice A na ca] w fun e w' => e = .returned (u64 (lim a 0)) ∧ w = w' := by
  by_cases h0 : na = 0
  · subst h0
    have hz : lim a 0 = 0 := lim_past (by rw [hra.len]; omega)
    have HZ := Lib.hid hz
    clear hz hra
    go_enter Try.func53, Try.ntmps53
    go_wp2
    go_ret
    exact ⟨by rw [HZ.out]; rfl, rfl⟩
  · obtain ⟨n, rfl⟩ : ∃ n, na = n + 1 := ⟨na - 1, by omega⟩
    obtain ⟨b, off, rfl, hb, hc⟩ := hra.cells (by omega)
    have hci := hc 0 (by omega)
    rw [Nat.add_zero] at hci
    have hne : (((n : Nat) : Int) + 1 == 0) = false := by simp; omega
    clear hra hc
    go_enter Try.func53, Try.ntmps53
    go_wp2
    go_ret
    exact ⟨rfl, rfl⟩

set_option maxHeartbeats 1000000 in
theorem rShort_any (hna : na ≤ 4294967296) (hnb : nb ≤ 4294967296) :
    Calls Try.prog 52 #[.slice A na ca, .slice A2 nb cb] w fun e w' => e = .returned (.bool (decide (na ≤ 1 ∧ nb ≤ 1))) ∧ w = w' := by
  by_cases h1 : na ≤ 1 <;> by_cases h2 : nb ≤ 1
  all_goals
    go_enter Try.func52, Try.ntmps52
    go_wp2
    go_ret
    exact ⟨ret_bool (by (simp [h1, h2]) <;> omega), rfl⟩

set_option maxHeartbeats 1000000 in
theorem rMany_any (hna : na ≤ 4294967296) (hnb : nb ≤ 4294967296) :
    Calls Try.prog 54 #[.slice A na ca, .slice A2 nb cb] w fun e w' => e = .returned (.int .i64 ((64 * max na nb : Nat) : Int)) ∧ w = w' := by
  rcases Nat.lt_or_ge na nb with h | h
  · have hm : max na nb = nb := by omega
    have HM := Lib.hid hm
    clear hm
    go_enter Try.func54, Try.ntmps54
    go_wp2
    go_ret
    exact ⟨ret_int (by have := HM.out; omega), rfl⟩
  · have hm : max na nb = na := by omega
    have HM := Lib.hid hm
    clear hm
    go_enter Try.func54, Try.ntmps54
    go_wp2
    go_ret
    exact ⟨ret_int (by have := HM.out; omega), rfl⟩

set_option maxHeartbeats 1000000 in
theorem rOf_any (x : Nat) (hx : x < B64) :
    Calls Try.prog 27 #[u64 x] w fun e w' => ∃ A' k c, e = .returned (.slice A' k c) ∧ Own w' w.heap.size (.slice A' k c) (limbs x) ∧ Below w.heap.size w w' := by
  by_cases h0 : x = 0
  · subst h0
    go_enter Try.func27, Try.ntmps27
    go_wp2
    go_ret
    exact ⟨none, 0, 0, rfl, by rw [limbs_zero]; exact ⟨World.ownsRow_nil _ _ _ _, words_nil⟩, Below.refl _ _⟩
  · have hrow : RowL (w.alloc (.cells #[u64 x] 25)) w.heap.size [x] := World.alloc_heap_new w _
    have hown := hrow.own (B := w.heap.size) (Nat.le_refl _) (words_cons hx words_nil) (n := 1) rfl (by simp only [maxLen]; omega)
    have HO := Lib.hid hown
    have hne : (((x : Nat) : Int) == 0) = false := by simp; omega
    clear hown hrow
    go_enter Try.func27, Try.ntmps27
    go_wp2
    go_ret
    refine ⟨_, 1, 1, rfl, ?_, (Below.refl _ _).alloc (Nat.le_refl _) _⟩
    have e : limbs x = [x] := by
      have h := limbs_val (l := [x]) (words_cons hx words_nil) (by unfold may; simp [h0])
      simpa [val] using h
    rw [e]
    exact HO.out
end
end Go.Proofs.Ytjpphhfhkdkfhaa
