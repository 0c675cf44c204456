import Derived.Test.YtbldimplddiheaaGreatDoorKThreeQ
import Derived.Test.YtbldimplddiheaaGreatDoorKSame
import Derived.Test.YtbldimplddiheaaGreatDoorKBit
/- Quick MulCalls Power. -/
/- (mul.number).split and quick: products, whichever way. -/
namespace Go.Proofs.YtbldimplddiheaaGreatDoor
open Go.RowKit Go.Shelf
set_option linter.unusedVariables false

set_option maxRecDepth 100000 in
set_option maxHeartbeats 2000000 in
theorem quick_small (A A2 : Option Addr) (na ca nb cb v u N : Nat) (w : World) (hva : Nm w A na ca v) (hub : Nm w A2 nb cb u) (hN : N ≤ 16777216) (hv : v < B64 ^ N) (hu : u < B64 ^ N) (hs : (nb < na ∧ nb < 200) ∨ (na ≤ nb ∧ na < 200)) :
    Calls Tryz.prog 105 #[.slice A na ca, .slice A2 nb cb] w fun e w' => ∃ A' k c', e = .returned (.slice A' k c') ∧ Own w' w.heap.size (.slice A' k c') (limbs (v * u)) ∧ Below w.heap.size w w' := by
  have h1 := hva.len hv
  have h2 := hub.len hu
  clear hv hu
  rcases hs with ⟨hlt, hf⟩ | ⟨hlt, hf⟩
  all_goals
    go_enter Tryz.func105, Tryz.ntmps105
    go_wp2_with fail
    refine (school_any A A2 na ca nb cb (limbs v) (limbs u) _ hva.rd hub.rd (by omega) (by omega)).mono ?_
    rw [val_limbs, val_limbs]
    rintro e w1 ⟨A3, k, c, rfl, o, hb⟩
    go_wp2_with fail
    go_ret
    exact ⟨_, _, _, rfl, o, hb⟩
set_option maxRecDepth 100000 in
set_option maxHeartbeats 2000000 in
theorem quick_great (A A2 : Option Addr) (na ca nb cb v u N : Nat) (w : World) (hT : MulsAt 105 N (v + u)) (hva : Nm w A na ca v) (hub : Nm w A2 nb cb u) (hN : N ≤ 16777216) (hv : v < B64 ^ N) (hu : u < B64 ^ N)
    (hs : (nb < na ∧ ¬ nb < 200) ∨ (na ≤ nb ∧ ¬ na < 200)) :
    Calls Tryz.prog 105 #[.slice A na ca, .slice A2 nb cb] w fun e w' => ∃ A' k c', e = .returned (.slice A' k c') ∧ Own w' w.heap.size (.slice A' k c') (limbs (v * u)) ∧ Below w.heap.size w w' := by
  have hp : ∃ p, (na < nb ∧ (nb + 1) / 2 = p ∧ 2 ≤ nb) ∨ (nb ≤ na ∧ (na + 1) / 2 = p ∧ 2 ≤ na) := by
    rcases Nat.lt_or_ge na nb with h | h
    · exact ⟨_, .inl ⟨h, rfl, by omega⟩⟩
    · exact ⟨_, .inr ⟨h, rfl, by omega⟩⟩
  obtain ⟨p, hp⟩ := hp
  have HP := Lib.hid hp
  have HT := Lib.hid hT
  have HV := Lib.hid hv
  have HU := Lib.hid hu
  clear hp hT hv hu
  rcases hs with ⟨hlt, hf⟩ | ⟨hlt, hf⟩
  all_goals
    go_enter Tryz.func105, Tryz.ntmps105
    go_wp2_with fail
    refine (three_quick A A2 na ca nb cb v u p N _ HT.out hva hub hN HV.out HU.out HP.out).mono ?_
    rintro e w1 ⟨A3, k, c, rfl, o, hb⟩
    go_wp2_with fail
    go_ret
    exact ⟨_, _, _, rfl, o, hb⟩
/-- Products by quick. -/
theorem quick_muls (N : Nat) (hN : N ≤ 16777216) : ∀ M, MulsAt 105 N M := by
  intro M
  induction M with
  | zero => intro A n c v A2 n2 c2 u w _ _ _ _ h; omega
  | succ M ih =>
    intro A n c v A2 n2 c2 u w hva hub hv hu h
    have hT : MulsAt 105 N (v + u) := fun A n c v' A2 n2 c2 u' w h1 h2 h3 h4 h5 => ih A n c v' A2 n2 c2 u' w h1 h2 h3 h4 (by omega)
    by_cases hs : (n2 < n ∧ n2 < 200) ∨ (n ≤ n2 ∧ n < 200)
    · exact quick_small A A2 n c n2 c2 v u N w hva hub hN hv hu hs
    · exact quick_great A A2 n c n2 c2 v u N w hT hva hub hN hv hu (by omega)
theorem quick_any (A A2 : Option Addr) (na ca nb cb v u N : Nat) (w : World) (hva : Nm w A na ca v) (hub : Nm w A2 nb cb u) (hN : N ≤ 16777216) (hv : v < B64 ^ N) (hu : u < B64 ^ N) :
    Calls Tryz.prog 105 #[.slice A na ca, .slice A2 nb cb] w fun e w' => ∃ A' k c', e = .returned (.slice A' k c') ∧ Own w' w.heap.size (.slice A' k c') (limbs (v * u)) ∧ Below w.heap.size w w' :=
  quick_muls N hN (v + u + 1) A na ca v A2 nb cb u w hva hub hv hu (by omega)
end Go.Proofs.YtbldimplddiheaaGreatDoor

/- mul's mayBe, product, and the three calls that make products. -/
namespace Go.Proofs.YtbldimplddiheaaGreatDoor
open Go.RowKit Go.Shelf
set_option linter.unusedVariables false

set_option maxRecDepth 100000 in
set_option maxHeartbeats 1000000 in
/-- mul.mayBe: OK, if all of these numbers may be. -/
theorem mayBeM_any (b off m c : Nat) (ls : List (List Nat)) (w : World) (h : Rows2 w b off ls) (hm : ls.length = m) (hm1 : m ≤ 1000) (hl : ∀ l ∈ ls, l.length ≤ 4294967296) :
    Calls Tryz.prog 132 #[.slice (some ⟨b, off, none⟩) m c] w fun e w' => e = .returned (.int .i64 (bad ls)) ∧ Below w.heap.size w w' := by
  go_enter Tryz.func132, Tryz.ntmps132
  go_wp2
  go_loopw [8] (fun i wr => ∃ k : Nat, k ≤ m ∧ i = .int .i64 (k : Int) ∧ (ls.take k).all may = true ∧ Below w.heap.size w wr) (fun i _ => m - (intOf i).toNat)
  case atStart => exact ⟨0, by omega, rfl, by simp, Below.refl _ _⟩
  case round =>
    obtain ⟨k, hk, rfl, hs, hB⟩ := hrel
    by_cases hlt : k < m
    · obtain ⟨A, n, c', hcell, hr, hn⟩ := h k ls[k] (List.getElem?_eq_getElem (by omega))
      have hcw : wr.cell? ⟨b, off + k, none⟩ = some (.slice A n c') := (hB.cell (p := ⟨b, off + k, none⟩) (lt_of_cell? hcell)).trans hcell
      have hn2 : n ≤ 4294967296 := by rw [← hr.len]; exact hl _ (List.getElem_mem _)
      have hr2 := hr.below hB
      have hnext : (ls.take (k + 1)).all may = ((ls.take k).all may && may ls[k]) := by
        rw [List.take_succ_eq_append_getElem (by omega), List.all_append]; simp
      have hbad : may ls[k] = false → bad ls = 8 := by
        intro hf
        unfold bad
        rw [if_neg]
        intro ha
        have := List.all_eq_true.1 ha ls[k] (List.getElem_mem _)
        rw [hf] at this; cases this
      cases hmk : may ls[k] with
      | true =>
        have HS : Hid ((ls.take (k + 1)).all may = true) := by rw [hnext, hs, hmk]; exact rfl
        have HB0 : Hid (bad [ls[k]] = 0) := bad_zero (by simp [hmk])
        clear hnext hbad hr h hs hmk hl hcell
        go_wp2_with (go_at_call 103; refine (check_any A n c' ls[k] wr hr2 hn2).mono ?_; rw [HB0.out]; rintro e w3 ⟨rfl, hb3⟩)
        go_roundw
        case rel => exact ⟨k + 1, by omega, by go_num, HS.out, below_then hB hb3⟩
        case measure => simp [intOf]; omega
      | false =>
        have HB : Hid (bad ls = 8) := hbad hmk
        have HB0 : Hid (bad [ls[k]] = 8) := bad_eight (by simp [hmk])
        clear hnext hbad hr h hs hmk hl hcell
        go_wp2_with (go_at_call 103; refine (check_any A n c' ls[k] wr hr2 hn2).mono ?_; rw [HB0.out]; rintro e w3 ⟨rfl, hb3⟩)
        go_ret
        exact ⟨by rw [HB.out]; rfl, below_then hB hb3⟩
    · have hk2 : k = m := by omega
      have HB : Hid (bad ls = 0) := by
        show bad ls = 0
        unfold bad
        rw [List.take_of_length_le (by omega)] at hs
        rw [if_pos hs]
      clear h hs hm hl
      go_wp2
      go_ret
      exact ⟨by rw [HB.out]; rfl, hB⟩

set_option maxRecDepth 100000 in
set_option maxHeartbeats 1000000 in
/-- mul.product, where one of the numbers may not be: whatever the way. -/
theorem product_bad (A A2 : Option Addr) (na ca nb cb : Nat) (a b : List Nat) (F : Value) (w : World) (hra : Rd w A na a) (hrb : Rd w A2 nb b) (hna : na ≤ 16777216) (hnb : nb ≤ 16777216) (hm : [a, b].all may = false) :
    Calls Tryz.prog 104 #[.slice A na ca, .slice A2 nb cb, F] w fun e w' => e = .returned (.tuple #[.slice none 0 0, .int .i64 8]) ∧ Below w.heap.size w w' := by
  have hr := rows2_two (ca := ca) (cb := cb) hra hrb (by omega) (by omega) 23
  have hl : ∀ l ∈ [a, b], l.length ≤ 4294967296 := by
    intro l h
    have h1 := hra.len
    have h2 := hrb.len
    rcases List.mem_cons.1 h with rfl | h
    · omega
    · rcases List.mem_cons.1 h with rfl | h
      · omega
      · cases h
  have HL := Lib.hid hl
  have HR := Lib.hid hr
  have HM := Lib.hid hm
  clear hr hm hra hrb hl
  go_enter Tryz.func104, Tryz.ntmps104
  go_wp2_with (go_at_call 132; refine (mayBeM_any w.heap.size 0 2 2 [a, b] _ HR.out rfl (by omega) HL.out).mono ?_; rw [bad_eight HM.out]; rintro e w1 ⟨rfl, hb1⟩)
  go_ret2
  exact ⟨rfl, below_new hb1⟩

set_option maxRecDepth 100000 in
set_option maxHeartbeats 1000000 in
/-- mul.product by school. -/
theorem product_school (A A2 : Option Addr) (na ca nb cb v u N : Nat) (w : World) (hva : Nm w A na ca v) (hub : Nm w A2 nb cb u) (hN : N ≤ 16777216) (hv : v < B64 ^ N) (hu : u < B64 ^ N) :
    Calls Tryz.prog 104 #[.slice A na ca, .slice A2 nb cb, .func (.func 133) #[.slice A na ca] #[]] w fun e w' => ∃ A' k c, e = .returned (.tuple #[.slice A' k c, .int .i64 0]) ∧ Own w' w.heap.size (.slice A' k c) (limbs (v * u)) ∧ Below w.heap.size w w' := by
  have h1 := hva.len hv
  have h2 := hub.len hu
  have hr := rows2_two (ca := ca) (cb := cb) hva.rd hub.rd (by omega) (by omega) 23
  have hl : ∀ l ∈ [limbs v, limbs u], l.length ≤ 4294967296 := by
    intro l h
    have h1 := hva.rd.len
    have h2 := hub.rd.len
    rcases List.mem_cons.1 h with rfl | h
    · omega
    · rcases List.mem_cons.1 h with rfl | h
      · omega
      · cases h
  have HL := Lib.hid hl
  have HR := Lib.hid hr
  have HV := Lib.hid hv
  have HU := Lib.hid hu
  clear hr hl hv hu
  go_enter Tryz.func104, Tryz.ntmps104
  go_wp2_with fail
  refine (mayBeM_any w.heap.size 0 2 2 [limbs v, limbs u] _ HR.out rfl (by omega) HL.out).mono ?_
  rw [bad_zero (by simp [may_limbs])]
  rintro e w1 ⟨rfl, hb1⟩
  replace hb1 := below_new hb1
  replace hva := hva.below hb1
  replace hub := hub.below hb1
  clear HR HL
  go_wp2_with fail
  refine (school_any A A2 na ca nb cb (limbs v) (limbs u) _ hva.rd hub.rd (by omega) (by omega)).mono ?_
  rw [val_limbs, val_limbs]
  rintro e w2 ⟨A3, k, c, rfl, o, hb2⟩
  replace o := own_mono o hb1.size
  replace hb2 := below_then hb1 hb2
  clear hb1
  go_wp2_with fail
  go_ret2
  exact ⟨_, _, _, rfl, o, hb2⟩

set_option maxRecDepth 100000 in
set_option maxHeartbeats 1000000 in
/-- mul.product by quick. -/
theorem product_quick (A A2 : Option Addr) (na ca nb cb v u N : Nat) (w : World) (hva : Nm w A na ca v) (hub : Nm w A2 nb cb u) (hN : N ≤ 16777216) (hv : v < B64 ^ N) (hu : u < B64 ^ N) :
    Calls Tryz.prog 104 #[.slice A na ca, .slice A2 nb cb, .func (.func 105) #[.slice A na ca] #[]] w fun e w' => ∃ A' k c, e = .returned (.tuple #[.slice A' k c, .int .i64 0]) ∧ Own w' w.heap.size (.slice A' k c) (limbs (v * u)) ∧ Below w.heap.size w w' := by
  have h1 := hva.len hv
  have h2 := hub.len hu
  have hr := rows2_two (ca := ca) (cb := cb) hva.rd hub.rd (by omega) (by omega) 23
  have hl : ∀ l ∈ [limbs v, limbs u], l.length ≤ 4294967296 := by
    intro l h
    have h1 := hva.rd.len
    have h2 := hub.rd.len
    rcases List.mem_cons.1 h with rfl | h
    · omega
    · rcases List.mem_cons.1 h with rfl | h
      · omega
      · cases h
  have HL := Lib.hid hl
  have HR := Lib.hid hr
  have HV := Lib.hid hv
  have HU := Lib.hid hu
  clear hr hl hv hu
  go_enter Tryz.func104, Tryz.ntmps104
  go_wp2_with fail
  refine (mayBeM_any w.heap.size 0 2 2 [limbs v, limbs u] _ HR.out rfl (by omega) HL.out).mono ?_
  rw [bad_zero (by simp [may_limbs])]
  rintro e w1 ⟨rfl, hb1⟩
  replace hb1 := below_new hb1
  replace hva := hva.below hb1
  replace hub := hub.below hb1
  clear HR HL
  go_wp2_with fail
  refine (quick_any A A2 na ca nb cb v u N _ hva hub hN HV.out HU.out).mono ?_
  rintro e w2 ⟨A3, k, c, rfl, o, hb2⟩
  replace o := own_mono o hb1.size
  replace hb2 := below_then hb1 hb2
  clear hb1
  go_wp2_with fail
  go_ret2
  exact ⟨_, _, _, rfl, o, hb2⟩

set_option maxRecDepth 100000 in
set_option maxHeartbeats 1000000 in
/-- mul.Mul. -/
theorem Mul_ok (A A2 : Option Addr) (na ca nb cb v u N : Nat) (w : World) (hva : Nm w A na ca v) (hub : Nm w A2 nb cb u) (hN : N ≤ 16777216) (hv : v < B64 ^ N) (hu : u < B64 ^ N) :
    Calls Tryz.prog 76 #[.slice A na ca, .slice A2 nb cb] w fun e w' => ∃ A' k c, e = .returned (.tuple #[.slice A' k c, .int .i64 0]) ∧ Own w' w.heap.size (.slice A' k c) (limbs (v * u)) ∧ Below w.heap.size w w' := by
  have hmf : ∀ (fn : Fn) (first cap : Array Value) (w : World), (Instr.makeFunc fn first cap).run Tryz.prog w = .ok (.func fn first cap) w := fun _ _ _ _ => rfl
  go_enter Tryz.func76, Tryz.ntmps76
  go_wp2_with (go_at_call 104; refine (product_quick A A2 na ca nb cb v u N _ hva hub hN hv hu).mono ?_; rintro e w1 ⟨A3, k, c, rfl, o, hb⟩)
  go_ret2
  exact ⟨_, _, _, rfl, o, hb⟩
set_option maxRecDepth 100000 in
set_option maxHeartbeats 1000000 in
theorem Mul_bad (A A2 : Option Addr) (na ca nb cb : Nat) (a b : List Nat) (w : World) (hra : Rd w A na a) (hrb : Rd w A2 nb b) (hna : na ≤ 16777216) (hnb : nb ≤ 16777216) (hm : [a, b].all may = false) :
    Calls Tryz.prog 76 #[.slice A na ca, .slice A2 nb cb] w fun e w' => e = .returned (.tuple #[.slice none 0 0, .int .i64 8]) ∧ Below w.heap.size w w' := by
  have hmf : ∀ (fn : Fn) (first cap : Array Value) (w : World), (Instr.makeFunc fn first cap).run Tryz.prog w = .ok (.func fn first cap) w := fun _ _ _ _ => rfl
  go_enter Tryz.func76, Tryz.ntmps76
  go_wp2_with (go_at_call 104; refine (product_bad A A2 na ca nb cb a b _ _ hra hrb hna hnb hm).mono ?_; rintro e w1 ⟨rfl, hb⟩)
  go_ret2
  exact ⟨rfl, hb⟩

end Go.Proofs.YtbldimplddiheaaGreatDoor

/- (mul.number).power and mul.Pow. -/
namespace Go.Proofs.YtbldimplddiheaaGreatDoor
open Go.RowKit Go.Shelf
set_option linter.unusedVariables false

theorem i64_and1 (n : Int) : bits .and .i64 n 1 = n % 2 := by
  have h1 : (BitVec.ofInt 64 1).toNat = 2 ^ 1 - 1 := by decide
  have key : (BitVec.ofInt 64 n &&& BitVec.ofInt 64 1).toNat = (n % ((2 ^ 64 : Nat) : Int)).toNat % 2 ^ 1 := by
    rw [BitVec.toNat_and, BitVec.toNat_ofInt, h1, Nat.and_two_pow_sub_one_eq_mod]
  show IntKind.i64.wrap ((BitVec.ofInt 64 n &&& BitVec.ofInt 64 1).toNat : Nat) = n % 2
  rw [key, IntKind.wrap_i64]
  omega
theorem i64_bit (n j : Nat) : bits .and .i64 ((n : Int) / 2 ^ j) 1 = ((n / 2 ^ j % 2 : Nat) : Int) := by
  rw [i64_and1]
  have e3 : ((n : Nat) : Int) / 2 ^ j = ((n / 2 ^ j : Nat) : Int) := by simp
  rw [e3]; omega
theorem half_step (n j : Nat) : n / 2 ^ j = 2 * (n / 2 ^ (j + 1)) + n / 2 ^ j % 2 := by
  rw [Nat.pow_succ, ← Nat.div_div_eq_div_mul]; omega
theorem pow_sq (v q : Nat) : v ^ q * v ^ q = v ^ (2 * q) := by rw [Nat.two_mul, Nat.pow_add]
theorem limbs_one : limbs 1 = [1] := by
  have h := limbs_val (l := [1]) (words_cons B64_gt words_nil) rfl
  simpa [val] using h
theorem row_new1 (w : World) : RowL (w.alloc (.cells #[u64 1] 63)) w.heap.size [1] := by
  unfold RowL
  rw [World.alloc_heap_new]
  rfl

end Go.Proofs.YtbldimplddiheaaGreatDoor
