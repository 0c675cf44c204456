import Derived.Test.YtgiokmfdafmaoaaKLong
import Derived.Test.YtgiokmfdafmaoaaKDown
/- Bit. -/
namespace Go.Proofs.Ytgiokmfdafmaoaa
open Go.RowKit Go.Shelf
set_option linter.unusedVariables false
set_option linter.unusedSimpArgs false

set_option maxHeartbeats 1000000 in
/-- nat.Of. -/
theorem of_any (x : Nat) (w : World) (hx : x < B64) :
    Calls Try.prog 44 #[u64 x] w fun e w' => ∃ A' k c, e = .returned (.slice A' k c) ∧ Own w' w.heap.size (.slice A' k c) (limbs x) ∧ Below w.heap.size w w' := by
  have hrow : RowL (w.alloc (.cells #[u64 x] 64)) w.heap.size [x] := World.alloc_heap_new w _
  have hown := hrow.own (B := w.heap.size) (Nat.le_refl _) (words_cons hx words_nil) (n := 1) rfl (by simp only [maxLen]; omega)
  have HO := Lib.hid hown
  clear hown hrow
  go_enter Try.func44, Try.ntmps44
  go_wp2_with (go_at_call 55; refine (trim_any (some ⟨w.heap.size, 0, none⟩) 1 1 [x] _ HO.out.rd.1 (by omega) (by omega)).mono ?_; rintro e w' ⟨⟨k2, hk2, rfl, ht⟩, rfl⟩; have HT := Lib.hid ht; clear ht)
  go_ret
  refine ⟨_, k2, _, rfl, ?_, (Below.refl _ _).alloc (Nat.le_refl _) _⟩
  have e : val [x] = x := by simp [val]
  have h := own_trim HO.out hk2
  rw [HT.out, e] at h
  exact h

end Go.Proofs.Ytgiokmfdafmaoaa
