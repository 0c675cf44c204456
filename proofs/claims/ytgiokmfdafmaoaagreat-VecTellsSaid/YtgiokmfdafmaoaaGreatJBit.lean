import Derived.Test.YtgiokmfdafmaoaaGreatJLong
import Derived.Test.YtgiokmfdafmaoaaGreatJDown
/- Bit. -/
namespace Go.Proofs.YtgiokmfdafmaoaaGreat
open Go.RowKit Go.Shelf
set_option linter.unusedVariables false
set_option linter.unusedSimpArgs false

set_option maxHeartbeats 1000000 in
/-- nat.Of. -/
theorem of_any (x : Nat) (w : World) (hx : x < B64) :
    Calls Tryz.prog 64 #[u64 x] w fun e w' => ∃ A' k c, e = .returned (.slice A' k c) ∧ Own w' w.heap.size (.slice A' k c) (limbs x) ∧ Below w.heap.size w w' := by
  have hrow : RowL (w.alloc (.cells #[u64 x] 36)) w.heap.size [x] := World.alloc_heap_new w _
  have hown := hrow.own (B := w.heap.size) (Nat.le_refl _) (words_cons hx words_nil) (n := 1) rfl (by simp only [maxLen]; omega)
  have HO := Lib.hid hown
  clear hown hrow
  go_enter Tryz.func64, Tryz.ntmps64
  go_wp2_with (go_at_call 82; refine (trim_any (some ⟨w.heap.size, 0, none⟩) 1 1 [x] _ HO.out.rd.1 (by omega) (by omega)).mono ?_; rintro e w' ⟨⟨k2, hk2, rfl, ht⟩, rfl⟩; have HT := Lib.hid ht; clear ht)
  go_ret
  refine ⟨_, k2, _, rfl, ?_, (Below.refl _ _).alloc (Nat.le_refl _) _⟩
  have e : val [x] = x := by simp [val]
  have h := own_trim HO.out hk2
  rw [HT.out, e] at h
  exact h

set_option maxRecDepth 100000 in
set_option maxHeartbeats 1000000 in
theorem up_bad (A : Option Addr) (na ca : Nat) (a : List Nat) (bits : Int) (w : World) (hra : Rd w A na a) (hna : na ≤ 4294967296) (hm : may a = false) :
    Calls Tryz.prog 150 #[.slice A na ca, .int .i64 bits] w fun e w' => e = .returned (.tuple #[.slice none 0 0, .int .i64 8]) ∧ Below w.heap.size w w' := by
  go_enter Tryz.func150, Tryz.ntmps150
  go_wp2_with (go_at_call 155; refine (mayShift_bad A na ca a bits _ hra hna hm).mono ?_; rintro e w1 ⟨rfl, hb1⟩)
  go_ret2
  exact ⟨rfl, hb1⟩

set_option maxRecDepth 100000 in
set_option maxHeartbeats 1000000 in
theorem up_arg (A : Option Addr) (na ca : Nat) (a : List Nat) (bits : Int) (w : World) (hra : Rd w A na a) (hna : na ≤ 4294967296) (hm : may a = true) (hb : bits < 0 ∨ 65536 < bits) :
    Calls Tryz.prog 150 #[.slice A na ca, .int .i64 bits] w fun e w' => e = .returned (.tuple #[.slice none 0 0, .int .i64 2]) ∧ Below w.heap.size w w' := by
  go_enter Tryz.func150, Tryz.ntmps150
  go_wp2_with (go_at_call 155; refine (mayShift_arg A na ca a bits _ hra hna hm hb).mono ?_; rintro e w1 ⟨rfl, hb1⟩)
  go_ret2
  exact ⟨rfl, hb1⟩

set_option maxRecDepth 100000 in
set_option maxHeartbeats 1000000 in
theorem down_bad (A : Option Addr) (na ca : Nat) (a : List Nat) (bits : Int) (w : World) (hra : Rd w A na a) (hna : na ≤ 4294967296) (hm : may a = false) :
    Calls Tryz.prog 141 #[.slice A na ca, .int .i64 bits] w fun e w' => e = .returned (.tuple #[.slice none 0 0, .int .i64 8]) ∧ Below w.heap.size w w' := by
  go_enter Tryz.func141, Tryz.ntmps141
  go_wp2_with (go_at_call 155; refine (mayShift_bad A na ca a bits _ hra hna hm).mono ?_; rintro e w1 ⟨rfl, hb1⟩)
  go_ret2
  exact ⟨rfl, hb1⟩

set_option maxRecDepth 100000 in
set_option maxHeartbeats 1000000 in
theorem down_arg (A : Option Addr) (na ca : Nat) (a : List Nat) (bits : Int) (w : World) (hra : Rd w A na a) (hna : na ≤ 4294967296) (hm : may a = true) (hb : bits < 0 ∨ 65536 < bits) :
    Calls Tryz.prog 141 #[.slice A na ca, .int .i64 bits] w fun e w' => e = .returned (.tuple #[.slice none 0 0, .int .i64 2]) ∧ Below w.heap.size w w' := by
  go_enter Tryz.func141, Tryz.ntmps141
  go_wp2_with (go_at_call 155; refine (mayShift_arg A na ca a bits _ hra hna hm hb).mono ?_; rintro e w1 ⟨rfl, hb1⟩)
  go_ret2
  exact ⟨rfl, hb1⟩
end Go.Proofs.YtgiokmfdafmaoaaGreat
