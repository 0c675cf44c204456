/- mul's mayBe, product, and the three calls that make products. -/
import Derived.Test.YtmiobjkbcmicbaaQuick
import Derived.Test.YtmiobjkbcmicbaaSame
namespace Go.Proofs.Ytmiobjkbcmicbaa
open Go.RowKit Go.Shelf
set_option linter.unusedVariables false

set_option maxRecDepth 100000 in
set_option maxHeartbeats 1000000 in
/-- mul.mayBe: OK, if all of these numbers may be. -/
theorem mayBeM_any (b off m c : Nat) (ls : List (List Nat)) (w : World) (h : Rows2 w b off ls) (hm : ls.length = m) (hm1 : m ≤ 1000) (hl : ∀ l ∈ ls, l.length ≤ 4294967296) :
    Calls Try.prog 35 #[.slice (some ⟨b, off, none⟩) m c] w fun e w' => e = .returned (.int .i64 (bad ls)) ∧ Below w.heap.size w w' := by
  go_enter Try.func35, Try.ntmps35
  go_wp2
  go_loopw [8] (fun i wr => ∃ k : Nat, k ≤ m ∧ i = .int .i64 (k : Int) ∧ (ls.take k).all may = true ∧ Below w.heap.size w wr) (fun i _ => m - (intOf i).toNat)
  case atStart => exact ⟨0, by omega, rfl, by simp, Below.refl _ _⟩
  case round =>
    obtain ⟨k, hk, rfl, hs, hB⟩ := hrel
    by_cases hlt : k < m
    · obtain ⟨A, n, c', hcell, hr, hn⟩ := h k ls[k] (List.getElem?_eq_getElem (by omega))
      have hcw : wr.cell? ⟨b, off + k, none⟩ = some (.slice A n c') := (hB.cell (p := ⟨b, off + k, none⟩) (lt_of_cell? hcell)).trans hcell
      have hn2 : n ≤ 4294967296 := by rw [← hr.len]; exact hl _ (List.getElem_mem _)
      have hr2 := hr.below hB
      have hnext : (ls.take (k + 1)).all may = ((ls.take k).all may && may ls[k]) := by
        rw [List.take_succ_eq_append_getElem (by omega), List.all_append]; simp
      have hbad : may ls[k] = false → bad ls = 8 := by
        intro hf
        unfold bad
        rw [if_neg]
        intro ha
        have := List.all_eq_true.1 ha ls[k] (List.getElem_mem _)
        rw [hf] at this; cases this
      cases hmk : may ls[k] with
      | true =>
        have HS : Hid ((ls.take (k + 1)).all may = true) := by rw [hnext, hs, hmk]; exact rfl
        have HB0 : Hid (bad [ls[k]] = 0) := bad_zero (by simp [hmk])
        clear hnext hbad hr h hs hmk hl hcell
        go_wp2_with (go_at_call 44; refine (check_any A n c' ls[k] wr hr2 hn2).mono ?_; rw [HB0.out]; rintro e w3 ⟨rfl, hb3⟩)
        go_roundw
        case rel => exact ⟨k + 1, by omega, by go_num, HS.out, below_then hB hb3⟩
        case measure => simp [intOf]; omega
      | false =>
        have HB : Hid (bad ls = 8) := hbad hmk
        have HB0 : Hid (bad [ls[k]] = 8) := bad_eight (by simp [hmk])
        clear hnext hbad hr h hs hmk hl hcell
        go_wp2_with (go_at_call 44; refine (check_any A n c' ls[k] wr hr2 hn2).mono ?_; rw [HB0.out]; rintro e w3 ⟨rfl, hb3⟩)
        go_ret
        exact ⟨by rw [HB.out]; rfl, below_then hB hb3⟩
    · have hk2 : k = m := by omega
      have HB : Hid (bad ls = 0) := by
        show bad ls = 0
        unfold bad
        rw [List.take_of_length_le (by omega)] at hs
        rw [if_pos hs]
      clear h hs hm hl
      go_wp2
      go_ret
      exact ⟨by rw [HB.out]; rfl, hB⟩

set_option maxRecDepth 100000 in
set_option maxHeartbeats 1000000 in
/-- mul.product, where one of the numbers may not be: whatever the way. -/
theorem product_bad (A A2 : Option Addr) (na ca nb cb : Nat) (a b : List Nat) (F : Value) (w : World) (hra : Rd w A na a) (hrb : Rd w A2 nb b) (hna : na ≤ 16777216) (hnb : nb ≤ 16777216) (hm : [a, b].all may = false) :
    Calls Try.prog 21 #[.slice A na ca, .slice A2 nb cb, F] w fun e w' => e = .returned (.tuple #[.slice none 0 0, .int .i64 8]) ∧ Below w.heap.size w w' := by
  have hr := rows2_two (ca := ca) (cb := cb) hra hrb (by omega) (by omega) 23
  have hl : ∀ l ∈ [a, b], l.length ≤ 4294967296 := by
    intro l h
    have h1 := hra.len
    have h2 := hrb.len
    rcases List.mem_cons.1 h with rfl | h
    · omega
    · rcases List.mem_cons.1 h with rfl | h
      · omega
      · cases h
  have HL := Lib.hid hl
  have HR := Lib.hid hr
  have HM := Lib.hid hm
  clear hr hm hra hrb hl
  go_enter Try.func21, Try.ntmps21
  go_wp2_with (go_at_call 35; refine (mayBeM_any w.heap.size 0 2 2 [a, b] _ HR.out rfl (by omega) HL.out).mono ?_; rw [bad_eight HM.out]; rintro e w1 ⟨rfl, hb1⟩)
  go_ret2
  exact ⟨rfl, below_new hb1⟩

set_option maxRecDepth 100000 in
set_option maxHeartbeats 1000000 in
/-- mul.product by school. -/
theorem product_school (A A2 : Option Addr) (na ca nb cb v u N : Nat) (w : World) (hva : Nm w A na ca v) (hub : Nm w A2 nb cb u) (hN : N ≤ 16777216) (hv : v < B64 ^ N) (hu : u < B64 ^ N) :
    Calls Try.prog 21 #[.slice A na ca, .slice A2 nb cb, .func (.func 24) #[.slice A na ca] #[]] w fun e w' => ∃ A' k c, e = .returned (.tuple #[.slice A' k c, .int .i64 0]) ∧ Own w' w.heap.size (.slice A' k c) (limbs (v * u)) ∧ Below w.heap.size w w' := by
  have h1 := hva.len hv
  have h2 := hub.len hu
  have hr := rows2_two (ca := ca) (cb := cb) hva.rd hub.rd (by omega) (by omega) 23
  have hl : ∀ l ∈ [limbs v, limbs u], l.length ≤ 4294967296 := by
    intro l h
    have h1 := hva.rd.len
    have h2 := hub.rd.len
    rcases List.mem_cons.1 h with rfl | h
    · omega
    · rcases List.mem_cons.1 h with rfl | h
      · omega
      · cases h
  have HL := Lib.hid hl
  have HR := Lib.hid hr
  have HV := Lib.hid hv
  have HU := Lib.hid hu
  clear hr hl hv hu
  go_enter Try.func21, Try.ntmps21
  go_wp2_with fail
  refine (mayBeM_any w.heap.size 0 2 2 [limbs v, limbs u] _ HR.out rfl (by omega) HL.out).mono ?_
  rw [bad_zero (by simp [may_limbs])]
  rintro e w1 ⟨rfl, hb1⟩
  replace hb1 := below_new hb1
  replace hva := hva.below hb1
  replace hub := hub.below hb1
  clear HR HL
  go_wp2_with fail
  refine (school_any A A2 na ca nb cb (limbs v) (limbs u) _ hva.rd hub.rd (by omega) (by omega)).mono ?_
  rw [val_limbs, val_limbs]
  rintro e w2 ⟨A3, k, c, rfl, o, hb2⟩
  replace o := own_mono o hb1.size
  replace hb2 := below_then hb1 hb2
  clear hb1
  go_wp2_with fail
  go_ret2
  exact ⟨_, _, _, rfl, o, hb2⟩

set_option maxRecDepth 100000 in
set_option maxHeartbeats 1000000 in
/-- mul.product by split. -/
theorem product_split (A A2 : Option Addr) (na ca nb cb v u N : Nat) (w : World) (hva : Nm w A na ca v) (hub : Nm w A2 nb cb u) (hN : N ≤ 16777216) (hv : v < B64 ^ N) (hu : u < B64 ^ N) :
    Calls Try.prog 21 #[.slice A na ca, .slice A2 nb cb, .func (.func 22) #[.slice A na ca] #[]] w fun e w' => ∃ A' k c, e = .returned (.tuple #[.slice A' k c, .int .i64 0]) ∧ Own w' w.heap.size (.slice A' k c) (limbs (v * u)) ∧ Below w.heap.size w w' := by
  have h1 := hva.len hv
  have h2 := hub.len hu
  have hr := rows2_two (ca := ca) (cb := cb) hva.rd hub.rd (by omega) (by omega) 23
  have hl : ∀ l ∈ [limbs v, limbs u], l.length ≤ 4294967296 := by
    intro l h
    have h1 := hva.rd.len
    have h2 := hub.rd.len
    rcases List.mem_cons.1 h with rfl | h
    · omega
    · rcases List.mem_cons.1 h with rfl | h
      · omega
      · cases h
  have HL := Lib.hid hl
  have HR := Lib.hid hr
  have HV := Lib.hid hv
  have HU := Lib.hid hu
  clear hr hl hv hu
  go_enter Try.func21, Try.ntmps21
  go_wp2_with fail
  refine (mayBeM_any w.heap.size 0 2 2 [limbs v, limbs u] _ HR.out rfl (by omega) HL.out).mono ?_
  rw [bad_zero (by simp [may_limbs])]
  rintro e w1 ⟨rfl, hb1⟩
  replace hb1 := below_new hb1
  replace hva := hva.below hb1
  replace hub := hub.below hb1
  clear HR HL
  go_wp2_with fail
  refine (split_any A A2 na ca nb cb v u N _ hva hub hN HV.out HU.out).mono ?_
  rintro e w2 ⟨A3, k, c, rfl, o, hb2⟩
  replace o := own_mono o hb1.size
  replace hb2 := below_then hb1 hb2
  clear hb1
  go_wp2_with fail
  go_ret2
  exact ⟨_, _, _, rfl, o, hb2⟩

set_option maxRecDepth 100000 in
set_option maxHeartbeats 1000000 in
/-- mul.product by quick. -/
theorem product_quick (A A2 : Option Addr) (na ca nb cb v u N : Nat) (w : World) (hva : Nm w A na ca v) (hub : Nm w A2 nb cb u) (hN : N ≤ 16777216) (hv : v < B64 ^ N) (hu : u < B64 ^ N) :
    Calls Try.prog 21 #[.slice A na ca, .slice A2 nb cb, .func (.func 23) #[.slice A na ca] #[]] w fun e w' => ∃ A' k c, e = .returned (.tuple #[.slice A' k c, .int .i64 0]) ∧ Own w' w.heap.size (.slice A' k c) (limbs (v * u)) ∧ Below w.heap.size w w' := by
  have h1 := hva.len hv
  have h2 := hub.len hu
  have hr := rows2_two (ca := ca) (cb := cb) hva.rd hub.rd (by omega) (by omega) 23
  have hl : ∀ l ∈ [limbs v, limbs u], l.length ≤ 4294967296 := by
    intro l h
    have h1 := hva.rd.len
    have h2 := hub.rd.len
    rcases List.mem_cons.1 h with rfl | h
    · omega
    · rcases List.mem_cons.1 h with rfl | h
      · omega
      · cases h
  have HL := Lib.hid hl
  have HR := Lib.hid hr
  have HV := Lib.hid hv
  have HU := Lib.hid hu
  clear hr hl hv hu
  go_enter Try.func21, Try.ntmps21
  go_wp2_with fail
  refine (mayBeM_any w.heap.size 0 2 2 [limbs v, limbs u] _ HR.out rfl (by omega) HL.out).mono ?_
  rw [bad_zero (by simp [may_limbs])]
  rintro e w1 ⟨rfl, hb1⟩
  replace hb1 := below_new hb1
  replace hva := hva.below hb1
  replace hub := hub.below hb1
  clear HR HL
  go_wp2_with fail
  refine (quick_any A A2 na ca nb cb v u N _ hva hub hN HV.out HU.out).mono ?_
  rintro e w2 ⟨A3, k, c, rfl, o, hb2⟩
  replace o := own_mono o hb1.size
  replace hb2 := below_then hb1 hb2
  clear hb1
  go_wp2_with fail
  go_ret2
  exact ⟨_, _, _, rfl, o, hb2⟩

set_option maxRecDepth 100000 in
set_option maxHeartbeats 1000000 in
/-- mul.Mul. -/
theorem Mul_ok (A A2 : Option Addr) (na ca nb cb v u N : Nat) (w : World) (hva : Nm w A na ca v) (hub : Nm w A2 nb cb u) (hN : N ≤ 16777216) (hv : v < B64 ^ N) (hu : u < B64 ^ N) :
    Calls Try.prog 13 #[.slice A na ca, .slice A2 nb cb] w fun e w' => ∃ A' k c, e = .returned (.tuple #[.slice A' k c, .int .i64 0]) ∧ Own w' w.heap.size (.slice A' k c) (limbs (v * u)) ∧ Below w.heap.size w w' := by
  have hmf : ∀ (fn : Fn) (first cap : Array Value) (w : World), (Instr.makeFunc fn first cap).run Try.prog w = .ok (.func fn first cap) w := fun _ _ _ _ => rfl
  go_enter Try.func13, Try.ntmps13
  go_wp2_with (go_at_call 21; refine (product_quick A A2 na ca nb cb v u N _ hva hub hN hv hu).mono ?_; rintro e w1 ⟨A3, k, c, rfl, o, hb⟩)
  go_ret2
  exact ⟨_, _, _, rfl, o, hb⟩
set_option maxRecDepth 100000 in
set_option maxHeartbeats 1000000 in
theorem Mul_bad (A A2 : Option Addr) (na ca nb cb : Nat) (a b : List Nat) (w : World) (hra : Rd w A na a) (hrb : Rd w A2 nb b) (hna : na ≤ 16777216) (hnb : nb ≤ 16777216) (hm : [a, b].all may = false) :
    Calls Try.prog 13 #[.slice A na ca, .slice A2 nb cb] w fun e w' => e = .returned (.tuple #[.slice none 0 0, .int .i64 8]) ∧ Below w.heap.size w w' := by
  have hmf : ∀ (fn : Fn) (first cap : Array Value) (w : World), (Instr.makeFunc fn first cap).run Try.prog w = .ok (.func fn first cap) w := fun _ _ _ _ => rfl
  go_enter Try.func13, Try.ntmps13
  go_wp2_with (go_at_call 21; refine (product_bad A A2 na ca nb cb a b _ _ hra hrb hna hnb hm).mono ?_; rintro e w1 ⟨rfl, hb⟩)
  go_ret2
  exact ⟨rfl, hb⟩

set_option maxRecDepth 100000 in
set_option maxHeartbeats 1000000 in
/-- mul.School. -/
theorem School_ok (A A2 : Option Addr) (na ca nb cb v u N : Nat) (w : World) (hva : Nm w A na ca v) (hub : Nm w A2 nb cb u) (hN : N ≤ 16777216) (hv : v < B64 ^ N) (hu : u < B64 ^ N) :
    Calls Try.prog 14 #[.slice A na ca, .slice A2 nb cb] w fun e w' => ∃ A' k c, e = .returned (.tuple #[.slice A' k c, .int .i64 0]) ∧ Own w' w.heap.size (.slice A' k c) (limbs (v * u)) ∧ Below w.heap.size w w' := by
  have hmf : ∀ (fn : Fn) (first cap : Array Value) (w : World), (Instr.makeFunc fn first cap).run Try.prog w = .ok (.func fn first cap) w := fun _ _ _ _ => rfl
  go_enter Try.func14, Try.ntmps14
  go_wp2_with (go_at_call 21; refine (product_school A A2 na ca nb cb v u N _ hva hub hN hv hu).mono ?_; rintro e w1 ⟨A3, k, c, rfl, o, hb⟩)
  go_ret2
  exact ⟨_, _, _, rfl, o, hb⟩
set_option maxRecDepth 100000 in
set_option maxHeartbeats 1000000 in
theorem School_bad (A A2 : Option Addr) (na ca nb cb : Nat) (a b : List Nat) (w : World) (hra : Rd w A na a) (hrb : Rd w A2 nb b) (hna : na ≤ 16777216) (hnb : nb ≤ 16777216) (hm : [a, b].all may = false) :
    Calls Try.prog 14 #[.slice A na ca, .slice A2 nb cb] w fun e w' => e = .returned (.tuple #[.slice none 0 0, .int .i64 8]) ∧ Below w.heap.size w w' := by
  have hmf : ∀ (fn : Fn) (first cap : Array Value) (w : World), (Instr.makeFunc fn first cap).run Try.prog w = .ok (.func fn first cap) w := fun _ _ _ _ => rfl
  go_enter Try.func14, Try.ntmps14
  go_wp2_with (go_at_call 21; refine (product_bad A A2 na ca nb cb a b _ _ hra hrb hna hnb hm).mono ?_; rintro e w1 ⟨rfl, hb⟩)
  go_ret2
  exact ⟨rfl, hb⟩

set_option maxRecDepth 100000 in
set_option maxHeartbeats 1000000 in
/-- mul.Split. -/
theorem Split_ok (A A2 : Option Addr) (na ca nb cb v u N : Nat) (w : World) (hva : Nm w A na ca v) (hub : Nm w A2 nb cb u) (hN : N ≤ 16777216) (hv : v < B64 ^ N) (hu : u < B64 ^ N) :
    Calls Try.prog 10 #[.slice A na ca, .slice A2 nb cb] w fun e w' => ∃ A' k c, e = .returned (.tuple #[.slice A' k c, .int .i64 0]) ∧ Own w' w.heap.size (.slice A' k c) (limbs (v * u)) ∧ Below w.heap.size w w' := by
  have hmf : ∀ (fn : Fn) (first cap : Array Value) (w : World), (Instr.makeFunc fn first cap).run Try.prog w = .ok (.func fn first cap) w := fun _ _ _ _ => rfl
  go_enter Try.func10, Try.ntmps10
  go_wp2_with (go_at_call 21; refine (product_split A A2 na ca nb cb v u N _ hva hub hN hv hu).mono ?_; rintro e w1 ⟨A3, k, c, rfl, o, hb⟩)
  go_ret2
  exact ⟨_, _, _, rfl, o, hb⟩
set_option maxRecDepth 100000 in
set_option maxHeartbeats 1000000 in
theorem Split_bad (A A2 : Option Addr) (na ca nb cb : Nat) (a b : List Nat) (w : World) (hra : Rd w A na a) (hrb : Rd w A2 nb b) (hna : na ≤ 16777216) (hnb : nb ≤ 16777216) (hm : [a, b].all may = false) :
    Calls Try.prog 10 #[.slice A na ca, .slice A2 nb cb] w fun e w' => e = .returned (.tuple #[.slice none 0 0, .int .i64 8]) ∧ Below w.heap.size w w' := by
  have hmf : ∀ (fn : Fn) (first cap : Array Value) (w : World), (Instr.makeFunc fn first cap).run Try.prog w = .ok (.func fn first cap) w := fun _ _ _ _ => rfl
  go_enter Try.func10, Try.ntmps10
  go_wp2_with (go_at_call 21; refine (product_bad A A2 na ca nb cb a b _ _ hra hrb hna hnb hm).mono ?_; rintro e w1 ⟨rfl, hb⟩)
  go_ret2
  exact ⟨rfl, hb⟩
end Go.Proofs.Ytmiobjkbcmicbaa
