import Derived.Test.YtjpphhfhkdkfhaaLong
import Derived.Test.YtjpphhfhkdkfhaaDown
namespace Go.Proofs.Ytjpphhfhkdkfhaa
open Go.RowKit Go.Shelf
set_option linter.unusedVariables false
set_option linter.unusedSimpArgs false

set_option maxHeartbeats 1000000 in
/-- nat.Bit, all well. -/
theorem bit_ok (A : Option Addr) (na ca : Nat) (a : List Nat) (i : Nat) (w : World) (hra : Rd w A na a) (hna : na ≤ 4294967296) (hm : may a = true) (hi : i ≤ 9223372036854775807) :
    Calls Try.prog 14 #[.slice A na ca, .int .i64 (i : Int)] w fun e w' => e = .returned (.tuple #[.int .i64 (nbit (val a) i : Nat), .int .i64 0]) ∧ Below w.heap.size w w' := by
  have hr := rows2_one (ca := ca) hra (by omega) 27
  have hb := nbit_limb hra.words i
  have hxl := hra.words.get (i / 64)
  obtain ⟨q, hq⟩ : ∃ q, q = i / 64 := ⟨_, rfl⟩
  obtain ⟨r, hr0⟩ : ∃ r, r = i % 64 := ⟨_, rfl⟩
  rw [← hq, ← hr0] at hb
  rw [← hq] at hxl
  have e1 : ((i : Nat) : Int) / 64 = (q : Int) := by omega
  have e2 : ((i : Nat) : Int) % 64 = (r : Int) := by omega
  have hr1 : r < 64 := by omega
  have hq1 : q ≤ 9223372036854775807 := by omega
  have HQ := Lib.hid hq
  have HR0 := Lib.hid hr0
  have HR := Lib.hid hr
  have HM := Lib.hid hm
  have HB := Lib.hid hb
  clear hr hm hb hq hr0
  go_enter Try.func14, Try.ntmps14
  go_wp2_with (first
    | (go_at_call 32; refine (mayBe_any w.heap.size 0 1 1 [a] _ HR.out rfl (by omega)).mono ?_; rw [show bad [a] = 0 by unfold bad; rw [if_pos (by simp [HM.out])]]; rintro e w' ⟨rfl, rfl⟩)
    | (go_at_call 36; refine (limb_any A na ca a q _ (hra.alloc _) (by omega) (by omega)).mono ?_; rintro e w' ⟨rfl, rfl⟩))
  go_ret2
  refine ⟨?_, (Below.refl _ _).alloc (Nat.le_refl _) _⟩
  have e3 : ((lim a q : Nat) : Int) / 2 ^ r = ((lim a q / 2 ^ r : Nat) : Int) := by simp
  have e4 : bits BinOp.and IntKind.u64 ((lim a q / 2 ^ r : Nat) : Int) 1 = ((nbit (val a) i : Nat) : Int) := by
    have h1 : lim a q / 2 ^ r ≤ lim a q := Nat.div_le_self _ _
    rw [← HB.out]
    generalize lim a q / 2 ^ r = z at *
    rw [and_one_u64 _ (by omega) (by rw [B64_eq] at hxl; omega)]
    omega
  have h5 : nbit (val a) i < 2 := Nat.mod_lt _ (by omega)
  have e5 : wrap64 ((nbit (val a) i : Nat) : Int) = ((nbit (val a) i : Nat) : Int) := IntWalk.wrap64_in _ ⟨by omega, by omega⟩
  simp only [e3, e4, e5]
  rfl

set_option maxHeartbeats 1000000 in
theorem bit_bad (A : Option Addr) (na ca : Nat) (a : List Nat) (i : Int) (w : World) (hra : Rd w A na a) (hna : na ≤ 4294967296) (hm : may a = false) :
    Calls Try.prog 14 #[.slice A na ca, .int .i64 i] w fun e w' => e = .returned (.tuple #[.int .i64 0, .int .i64 8]) ∧ Below w.heap.size w w' := by
  have hr := rows2_one (ca := ca) hra (by omega) 27
  have HR := Lib.hid hr
  have HM := Lib.hid hm
  clear hr hm hra
  go_enter Try.func14, Try.ntmps14
  go_wp2_with (go_at_call 32; refine (mayBe_any w.heap.size 0 1 1 [a] _ HR.out rfl (by omega)).mono ?_; rw [show bad [a] = 8 by unfold bad; rw [if_neg (by simp [HM.out])]]; rintro e w' ⟨rfl, rfl⟩)
  go_ret2
  exact ⟨rfl, (Below.refl _ _).alloc (Nat.le_refl _) _⟩


set_option maxHeartbeats 1000000 in
theorem word_bad (A : Option Addr) (na ca : Nat) (a : List Nat)  (w : World) (hra : Rd w A na a) (hna : na ≤ 4294967296) (hm : may a = false) :
    Calls Try.prog 13 #[.slice A na ca] w fun e w' => e = .returned (.tuple #[.int .u64 0, .int .i64 8]) ∧ Below w.heap.size w w' := by
  have hr := rows2_one (ca := ca) hra (by omega) 27
  have HR := Lib.hid hr
  have HM := Lib.hid hm
  clear hr hm hra
  go_enter Try.func13, Try.ntmps13
  go_wp2_with (go_at_call 32; refine (mayBe_any w.heap.size 0 1 1 [a] _ HR.out rfl (by omega)).mono ?_; rw [show bad [a] = 8 by unfold bad; rw [if_neg (by simp [HM.out])]]; rintro e w' ⟨rfl, rfl⟩)
  go_ret2
  exact ⟨rfl, (Below.refl _ _).alloc (Nat.le_refl _) _⟩

set_option maxHeartbeats 1000000 in
theorem bit_arg (A : Option Addr) (na ca : Nat) (a : List Nat) (i : Int) (w : World) (hra : Rd w A na a) (hna : na ≤ 4294967296) (hm : may a = true) (hi : i < 0) :
    Calls Try.prog 14 #[.slice A na ca, .int .i64 i] w fun e w' => e = .returned (.tuple #[.int .i64 0, .int .i64 2]) ∧ Below w.heap.size w w' := by
  have hr := rows2_one (ca := ca) hra (by omega) 27
  have HR := Lib.hid hr
  have HM := Lib.hid hm
  clear hr hm hra
  go_enter Try.func14, Try.ntmps14
  go_wp2_with (go_at_call 32; refine (mayBe_any w.heap.size 0 1 1 [a] _ HR.out rfl (by omega)).mono ?_; rw [show bad [a] = 0 by unfold bad; rw [if_pos (by simp [HM.out])]]; rintro e w' ⟨rfl, rfl⟩)
  go_ret2
  exact ⟨rfl, (Below.refl _ _).alloc (Nat.le_refl _) _⟩

set_option maxHeartbeats 1000000 in
theorem word_many (A : Option Addr) (na ca : Nat) (a : List Nat) (w : World) (hra : Rd w A na a) (hna : na ≤ 4294967296) (hm : may a = true) (h1 : 1 < na) :
    Calls Try.prog 13 #[.slice A na ca] w fun e w' => e = .returned (.tuple #[.int .u64 0, .int .i64 4]) ∧ Below w.heap.size w w' := by
  have hr := rows2_one (ca := ca) hra (by omega) 27
  have HR := Lib.hid hr
  have HM := Lib.hid hm
  clear hr hm hra
  go_enter Try.func13, Try.ntmps13
  go_wp2_with (go_at_call 32; refine (mayBe_any w.heap.size 0 1 1 [a] _ HR.out rfl (by omega)).mono ?_; rw [show bad [a] = 0 by unfold bad; rw [if_pos (by simp [HM.out])]]; rintro e w' ⟨rfl, rfl⟩)
  go_ret2
  exact ⟨rfl, (Below.refl _ _).alloc (Nat.le_refl _) _⟩

set_option maxHeartbeats 1000000 in
theorem word_ok (A : Option Addr) (na ca : Nat) (a : List Nat) (w : World) (hra : Rd w A na a) (hm : may a = true) (h1 : na ≤ 1) :
    Calls Try.prog 13 #[.slice A na ca] w fun e w' => e = .returned (.tuple #[u64 (lim a 0), .int .i64 0]) ∧ Below w.heap.size w w' := by
  have hr := rows2_one (ca := ca) hra (by omega) 27
  have HR := Lib.hid hr
  have HM := Lib.hid hm
  clear hr hm
  go_enter Try.func13, Try.ntmps13
  go_wp2_with (first
    | (go_at_call 32; refine (mayBe_any w.heap.size 0 1 1 [a] _ HR.out rfl (by omega)).mono ?_; rw [show bad [a] = 0 by unfold bad; rw [if_pos (by simp [HM.out])]]; rintro e w' ⟨rfl, rfl⟩)
    | (go_at_call 36; refine (limb_any A na ca a 0 _ (hra.alloc _) (by omega) (by omega)).mono ?_; rintro e w' ⟨rfl, rfl⟩))
  go_ret2
  exact ⟨rfl, (Below.refl _ _).alloc (Nat.le_refl _) _⟩

set_option maxHeartbeats 1000000 in
/-- nat.Of. -/
theorem of_any (x : Nat) (w : World) (hx : x < B64) :
    Calls Try.prog 18 #[u64 x] w fun e w' => ∃ A' k c, e = .returned (.slice A' k c) ∧ Own w' w.heap.size (.slice A' k c) (limbs x) ∧ Below w.heap.size w w' := by
  have hrow : RowL (w.alloc (.cells #[u64 x] 25)) w.heap.size [x] := World.alloc_heap_new w _
  have hown := hrow.own (B := w.heap.size) (Nat.le_refl _) (words_cons hx words_nil) (n := 1) rfl (by simp only [maxLen]; omega)
  have HO := Lib.hid hown
  clear hown hrow
  go_enter Try.func18, Try.ntmps18
  go_wp2_with (go_at_call 35; refine (trim_any (some ⟨w.heap.size, 0, none⟩) 1 1 [x] _ HO.out.rd.1 (by omega) (by omega)).mono ?_; rintro e w' ⟨⟨k2, hk2, rfl, ht⟩, rfl⟩; have HT := Lib.hid ht; clear ht)
  go_ret
  refine ⟨_, k2, _, rfl, ?_, (Below.refl _ _).alloc (Nat.le_refl _) _⟩
  have e : val [x] = x := by simp [val]
  have h := own_trim HO.out hk2
  rw [HT.out, e] at h
  exact h

set_option maxRecDepth 100000 in
set_option maxHeartbeats 1000000 in
theorem up_bad (A : Option Addr) (na ca : Nat) (a : List Nat) (bits : Int) (w : World) (hra : Rd w A na a) (hna : na ≤ 4294967296) (hm : may a = false) :
    Calls Try.prog 11 #[.slice A na ca, .int .i64 bits] w fun e w' => e = .returned (.tuple #[.slice none 0 0, .int .i64 8]) ∧ Below w.heap.size w w' := by
  go_enter Try.func11, Try.ntmps11
  go_wp2_with (go_at_call 34; refine (mayShift_bad A na ca a bits _ hra hna hm).mono ?_; rintro e w1 ⟨rfl, hb1⟩)
  go_ret2
  exact ⟨rfl, hb1⟩

set_option maxRecDepth 100000 in
set_option maxHeartbeats 1000000 in
theorem up_arg (A : Option Addr) (na ca : Nat) (a : List Nat) (bits : Int) (w : World) (hra : Rd w A na a) (hna : na ≤ 4294967296) (hm : may a = true) (hb : bits < 0 ∨ 65536 < bits) :
    Calls Try.prog 11 #[.slice A na ca, .int .i64 bits] w fun e w' => e = .returned (.tuple #[.slice none 0 0, .int .i64 2]) ∧ Below w.heap.size w w' := by
  go_enter Try.func11, Try.ntmps11
  go_wp2_with (go_at_call 34; refine (mayShift_arg A na ca a bits _ hra hna hm hb).mono ?_; rintro e w1 ⟨rfl, hb1⟩)
  go_ret2
  exact ⟨rfl, hb1⟩

set_option maxRecDepth 100000 in
set_option maxHeartbeats 1000000 in
theorem down_bad (A : Option Addr) (na ca : Nat) (a : List Nat) (bits : Int) (w : World) (hra : Rd w A na a) (hna : na ≤ 4294967296) (hm : may a = false) :
    Calls Try.prog 12 #[.slice A na ca, .int .i64 bits] w fun e w' => e = .returned (.tuple #[.slice none 0 0, .int .i64 8]) ∧ Below w.heap.size w w' := by
  go_enter Try.func12, Try.ntmps12
  go_wp2_with (go_at_call 34; refine (mayShift_bad A na ca a bits _ hra hna hm).mono ?_; rintro e w1 ⟨rfl, hb1⟩)
  go_ret2
  exact ⟨rfl, hb1⟩

set_option maxRecDepth 100000 in
set_option maxHeartbeats 1000000 in
theorem down_arg (A : Option Addr) (na ca : Nat) (a : List Nat) (bits : Int) (w : World) (hra : Rd w A na a) (hna : na ≤ 4294967296) (hm : may a = true) (hb : bits < 0 ∨ 65536 < bits) :
    Calls Try.prog 12 #[.slice A na ca, .int .i64 bits] w fun e w' => e = .returned (.tuple #[.slice none 0 0, .int .i64 2]) ∧ Below w.heap.size w w' := by
  go_enter Try.func12, Try.ntmps12
  go_wp2_with (go_at_call 34; refine (mayShift_arg A na ca a bits _ hra hna hm hb).mono ?_; rintro e w1 ⟨rfl, hb1⟩)
  go_ret2
  exact ⟨rfl, hb1⟩
end Go.Proofs.Ytjpphhfhkdkfhaa
