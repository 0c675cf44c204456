import Derived.Test.YtgiokmfdafmaoaaGreatJThreeQ
import Derived.Test.YtgiokmfdafmaoaaGreatJSame
import Derived.Test.YtgiokmfdafmaoaaGreatJLong
import Derived.Test.YtgiokmfdafmaoaaGreatJCopy
/- Quick MulCalls Power PowCall MAlive MSpec. -/
/- (mul.number).split and quick: products, whichever way. -/
namespace Go.Proofs.YtgiokmfdafmaoaaGreat
open Go.RowKit Go.Shelf
set_option linter.unusedVariables false

set_option maxRecDepth 100000 in
set_option maxHeartbeats 2000000 in
theorem quick_small (A A2 : Option Addr) (na ca nb cb v u N : Nat) (w : World) (hva : Nm w A na ca v) (hub : Nm w A2 nb cb u) (hN : N ≤ 16777216) (hv : v < B64 ^ N) (hu : u < B64 ^ N) (hs : (nb < na ∧ nb < 200) ∨ (na ≤ nb ∧ na < 200)) :
    Calls Tryz.prog 116 #[.slice A na ca, .slice A2 nb cb] w fun e w' => ∃ A' k c', e = .returned (.slice A' k c') ∧ Own w' w.heap.size (.slice A' k c') (limbs (v * u)) ∧ Below w.heap.size w w' := by
  have h1 := hva.len hv
  have h2 := hub.len hu
  clear hv hu
  rcases hs with ⟨hlt, hf⟩ | ⟨hlt, hf⟩
  all_goals
    go_enter Tryz.func116, Tryz.ntmps116
    go_wp2_with fail
    refine (school_any A A2 na ca nb cb (limbs v) (limbs u) _ hva.rd hub.rd (by omega) (by omega)).mono ?_
    rw [val_limbs, val_limbs]
    rintro e w1 ⟨A3, k, c, rfl, o, hb⟩
    go_wp2_with fail
    go_ret
    exact ⟨_, _, _, rfl, o, hb⟩
set_option maxRecDepth 100000 in
set_option maxHeartbeats 2000000 in
theorem quick_great (A A2 : Option Addr) (na ca nb cb v u N : Nat) (w : World) (hT : MulsAt 116 N (v + u)) (hva : Nm w A na ca v) (hub : Nm w A2 nb cb u) (hN : N ≤ 16777216) (hv : v < B64 ^ N) (hu : u < B64 ^ N)
    (hs : (nb < na ∧ ¬ nb < 200) ∨ (na ≤ nb ∧ ¬ na < 200)) :
    Calls Tryz.prog 116 #[.slice A na ca, .slice A2 nb cb] w fun e w' => ∃ A' k c', e = .returned (.slice A' k c') ∧ Own w' w.heap.size (.slice A' k c') (limbs (v * u)) ∧ Below w.heap.size w w' := by
  have hp : ∃ p, (na < nb ∧ (nb + 1) / 2 = p ∧ 2 ≤ nb) ∨ (nb ≤ na ∧ (na + 1) / 2 = p ∧ 2 ≤ na) := by
    rcases Nat.lt_or_ge na nb with h | h
    · exact ⟨_, .inl ⟨h, rfl, by omega⟩⟩
    · exact ⟨_, .inr ⟨h, rfl, by omega⟩⟩
  obtain ⟨p, hp⟩ := hp
  have HP := Lib.hid hp
  have HT := Lib.hid hT
  have HV := Lib.hid hv
  have HU := Lib.hid hu
  clear hp hT hv hu
  rcases hs with ⟨hlt, hf⟩ | ⟨hlt, hf⟩
  all_goals
    go_enter Tryz.func116, Tryz.ntmps116
    go_wp2_with fail
    refine (three_quick A A2 na ca nb cb v u p N _ HT.out hva hub hN HV.out HU.out HP.out).mono ?_
    rintro e w1 ⟨A3, k, c, rfl, o, hb⟩
    go_wp2_with fail
    go_ret
    exact ⟨_, _, _, rfl, o, hb⟩
/-- Products by quick. -/
theorem quick_muls (N : Nat) (hN : N ≤ 16777216) : ∀ M, MulsAt 116 N M := by
  intro M
  induction M with
  | zero => intro A n c v A2 n2 c2 u w _ _ _ _ h; omega
  | succ M ih =>
    intro A n c v A2 n2 c2 u w hva hub hv hu h
    have hT : MulsAt 116 N (v + u) := fun A n c v' A2 n2 c2 u' w h1 h2 h3 h4 h5 => ih A n c v' A2 n2 c2 u' w h1 h2 h3 h4 (by omega)
    by_cases hs : (n2 < n ∧ n2 < 200) ∨ (n ≤ n2 ∧ n < 200)
    · exact quick_small A A2 n c n2 c2 v u N w hva hub hN hv hu hs
    · exact quick_great A A2 n c n2 c2 v u N w hT hva hub hN hv hu (by omega)
theorem quick_any (A A2 : Option Addr) (na ca nb cb v u N : Nat) (w : World) (hva : Nm w A na ca v) (hub : Nm w A2 nb cb u) (hN : N ≤ 16777216) (hv : v < B64 ^ N) (hu : u < B64 ^ N) :
    Calls Tryz.prog 116 #[.slice A na ca, .slice A2 nb cb] w fun e w' => ∃ A' k c', e = .returned (.slice A' k c') ∧ Own w' w.heap.size (.slice A' k c') (limbs (v * u)) ∧ Below w.heap.size w w' :=
  quick_muls N hN (v + u + 1) A na ca v A2 nb cb u w hva hub hv hu (by omega)
end Go.Proofs.YtgiokmfdafmaoaaGreat

/- mul's mayBe, product, and the three calls that make products. -/
namespace Go.Proofs.YtgiokmfdafmaoaaGreat
open Go.RowKit Go.Shelf
set_option linter.unusedVariables false

set_option maxRecDepth 100000 in
set_option maxHeartbeats 1000000 in
/-- mul.mayBe: OK, if all of these numbers may be. -/
theorem mayBeM_any (b off m c : Nat) (ls : List (List Nat)) (w : World) (h : Rows2 w b off ls) (hm : ls.length = m) (hm1 : m ≤ 1000) (hl : ∀ l ∈ ls, l.length ≤ 4294967296) :
    Calls Tryz.prog 135 #[.slice (some ⟨b, off, none⟩) m c] w fun e w' => e = .returned (.int .i64 (bad ls)) ∧ Below w.heap.size w w' := by
  go_enter Tryz.func135, Tryz.ntmps135
  go_wp2
  go_loopw [8] (fun i wr => ∃ k : Nat, k ≤ m ∧ i = .int .i64 (k : Int) ∧ (ls.take k).all may = true ∧ Below w.heap.size w wr) (fun i _ => m - (intOf i).toNat)
  case atStart => exact ⟨0, by omega, rfl, by simp, Below.refl _ _⟩
  case round =>
    obtain ⟨k, hk, rfl, hs, hB⟩ := hrel
    by_cases hlt : k < m
    · obtain ⟨A, n, c', hcell, hr, hn⟩ := h k ls[k] (List.getElem?_eq_getElem (by omega))
      have hcw : wr.cell? ⟨b, off + k, none⟩ = some (.slice A n c') := (hB.cell (p := ⟨b, off + k, none⟩) (lt_of_cell? hcell)).trans hcell
      have hn2 : n ≤ 4294967296 := by rw [← hr.len]; exact hl _ (List.getElem_mem _)
      have hr2 := hr.below hB
      have hnext : (ls.take (k + 1)).all may = ((ls.take k).all may && may ls[k]) := by
        rw [List.take_succ_eq_append_getElem (by omega), List.all_append]; simp
      have hbad : may ls[k] = false → bad ls = 8 := by
        intro hf
        unfold bad
        rw [if_neg]
        intro ha
        have := List.all_eq_true.1 ha ls[k] (List.getElem_mem _)
        rw [hf] at this; cases this
      cases hmk : may ls[k] with
      | true =>
        have HS : Hid ((ls.take (k + 1)).all may = true) := by rw [hnext, hs, hmk]; exact rfl
        have HB0 : Hid (bad [ls[k]] = 0) := bad_zero (by simp [hmk])
        clear hnext hbad hr h hs hmk hl hcell
        go_wp2_with (go_at_call 83; refine (check_any A n c' ls[k] wr hr2 hn2).mono ?_; rw [HB0.out]; rintro e w3 ⟨rfl, hb3⟩)
        go_roundw
        case rel => exact ⟨k + 1, by omega, by go_num, HS.out, below_then hB hb3⟩
        case measure => simp [intOf]; omega
      | false =>
        have HB : Hid (bad ls = 8) := hbad hmk
        have HB0 : Hid (bad [ls[k]] = 8) := bad_eight (by simp [hmk])
        clear hnext hbad hr h hs hmk hl hcell
        go_wp2_with (go_at_call 83; refine (check_any A n c' ls[k] wr hr2 hn2).mono ?_; rw [HB0.out]; rintro e w3 ⟨rfl, hb3⟩)
        go_ret
        exact ⟨by rw [HB.out]; rfl, below_then hB hb3⟩
    · have hk2 : k = m := by omega
      have HB : Hid (bad ls = 0) := by
        show bad ls = 0
        unfold bad
        rw [List.take_of_length_le (by omega)] at hs
        rw [if_pos hs]
      clear h hs hm hl
      go_wp2
      go_ret
      exact ⟨by rw [HB.out]; rfl, hB⟩

set_option maxRecDepth 100000 in
set_option maxHeartbeats 1000000 in
/-- mul.product, where one of the numbers may not be: whatever the way. -/
theorem product_bad (A A2 : Option Addr) (na ca nb cb : Nat) (a b : List Nat) (F : Value) (w : World) (hra : Rd w A na a) (hrb : Rd w A2 nb b) (hna : na ≤ 16777216) (hnb : nb ≤ 16777216) (hm : [a, b].all may = false) :
    Calls Tryz.prog 115 #[.slice A na ca, .slice A2 nb cb, F] w fun e w' => e = .returned (.tuple #[.slice none 0 0, .int .i64 8]) ∧ Below w.heap.size w w' := by
  have hr := rows2_two (ca := ca) (cb := cb) hra hrb (by omega) (by omega) 23
  have hl : ∀ l ∈ [a, b], l.length ≤ 4294967296 := by
    intro l h
    have h1 := hra.len
    have h2 := hrb.len
    rcases List.mem_cons.1 h with rfl | h
    · omega
    · rcases List.mem_cons.1 h with rfl | h
      · omega
      · cases h
  have HL := Lib.hid hl
  have HR := Lib.hid hr
  have HM := Lib.hid hm
  clear hr hm hra hrb hl
  go_enter Tryz.func115, Tryz.ntmps115
  go_wp2_with (go_at_call 135; refine (mayBeM_any w.heap.size 0 2 2 [a, b] _ HR.out rfl (by omega) HL.out).mono ?_; rw [bad_eight HM.out]; rintro e w1 ⟨rfl, hb1⟩)
  go_ret2
  exact ⟨rfl, below_new hb1⟩

set_option maxRecDepth 100000 in
set_option maxHeartbeats 1000000 in
/-- mul.product by school. -/
theorem product_school (A A2 : Option Addr) (na ca nb cb v u N : Nat) (w : World) (hva : Nm w A na ca v) (hub : Nm w A2 nb cb u) (hN : N ≤ 16777216) (hv : v < B64 ^ N) (hu : u < B64 ^ N) :
    Calls Tryz.prog 115 #[.slice A na ca, .slice A2 nb cb, .func (.func 136) #[.slice A na ca] #[]] w fun e w' => ∃ A' k c, e = .returned (.tuple #[.slice A' k c, .int .i64 0]) ∧ Own w' w.heap.size (.slice A' k c) (limbs (v * u)) ∧ Below w.heap.size w w' := by
  have h1 := hva.len hv
  have h2 := hub.len hu
  have hr := rows2_two (ca := ca) (cb := cb) hva.rd hub.rd (by omega) (by omega) 23
  have hl : ∀ l ∈ [limbs v, limbs u], l.length ≤ 4294967296 := by
    intro l h
    have h1 := hva.rd.len
    have h2 := hub.rd.len
    rcases List.mem_cons.1 h with rfl | h
    · omega
    · rcases List.mem_cons.1 h with rfl | h
      · omega
      · cases h
  have HL := Lib.hid hl
  have HR := Lib.hid hr
  have HV := Lib.hid hv
  have HU := Lib.hid hu
  clear hr hl hv hu
  go_enter Tryz.func115, Tryz.ntmps115
  go_wp2_with fail
  refine (mayBeM_any w.heap.size 0 2 2 [limbs v, limbs u] _ HR.out rfl (by omega) HL.out).mono ?_
  rw [bad_zero (by simp [may_limbs])]
  rintro e w1 ⟨rfl, hb1⟩
  replace hb1 := below_new hb1
  replace hva := hva.below hb1
  replace hub := hub.below hb1
  clear HR HL
  go_wp2_with fail
  refine (school_any A A2 na ca nb cb (limbs v) (limbs u) _ hva.rd hub.rd (by omega) (by omega)).mono ?_
  rw [val_limbs, val_limbs]
  rintro e w2 ⟨A3, k, c, rfl, o, hb2⟩
  replace o := own_mono o hb1.size
  replace hb2 := below_then hb1 hb2
  clear hb1
  go_wp2_with fail
  go_ret2
  exact ⟨_, _, _, rfl, o, hb2⟩

set_option maxRecDepth 100000 in
set_option maxHeartbeats 1000000 in
/-- mul.product by quick. -/
theorem product_quick (A A2 : Option Addr) (na ca nb cb v u N : Nat) (w : World) (hva : Nm w A na ca v) (hub : Nm w A2 nb cb u) (hN : N ≤ 16777216) (hv : v < B64 ^ N) (hu : u < B64 ^ N) :
    Calls Tryz.prog 115 #[.slice A na ca, .slice A2 nb cb, .func (.func 116) #[.slice A na ca] #[]] w fun e w' => ∃ A' k c, e = .returned (.tuple #[.slice A' k c, .int .i64 0]) ∧ Own w' w.heap.size (.slice A' k c) (limbs (v * u)) ∧ Below w.heap.size w w' := by
  have h1 := hva.len hv
  have h2 := hub.len hu
  have hr := rows2_two (ca := ca) (cb := cb) hva.rd hub.rd (by omega) (by omega) 23
  have hl : ∀ l ∈ [limbs v, limbs u], l.length ≤ 4294967296 := by
    intro l h
    have h1 := hva.rd.len
    have h2 := hub.rd.len
    rcases List.mem_cons.1 h with rfl | h
    · omega
    · rcases List.mem_cons.1 h with rfl | h
      · omega
      · cases h
  have HL := Lib.hid hl
  have HR := Lib.hid hr
  have HV := Lib.hid hv
  have HU := Lib.hid hu
  clear hr hl hv hu
  go_enter Tryz.func115, Tryz.ntmps115
  go_wp2_with fail
  refine (mayBeM_any w.heap.size 0 2 2 [limbs v, limbs u] _ HR.out rfl (by omega) HL.out).mono ?_
  rw [bad_zero (by simp [may_limbs])]
  rintro e w1 ⟨rfl, hb1⟩
  replace hb1 := below_new hb1
  replace hva := hva.below hb1
  replace hub := hub.below hb1
  clear HR HL
  go_wp2_with fail
  refine (quick_any A A2 na ca nb cb v u N _ hva hub hN HV.out HU.out).mono ?_
  rintro e w2 ⟨A3, k, c, rfl, o, hb2⟩
  replace o := own_mono o hb1.size
  replace hb2 := below_then hb1 hb2
  clear hb1
  go_wp2_with fail
  go_ret2
  exact ⟨_, _, _, rfl, o, hb2⟩

set_option maxRecDepth 100000 in
set_option maxHeartbeats 1000000 in
/-- mul.Mul. -/
theorem Mul_ok (A A2 : Option Addr) (na ca nb cb v u N : Nat) (w : World) (hva : Nm w A na ca v) (hub : Nm w A2 nb cb u) (hN : N ≤ 16777216) (hv : v < B64 ^ N) (hu : u < B64 ^ N) :
    Calls Tryz.prog 93 #[.slice A na ca, .slice A2 nb cb] w fun e w' => ∃ A' k c, e = .returned (.tuple #[.slice A' k c, .int .i64 0]) ∧ Own w' w.heap.size (.slice A' k c) (limbs (v * u)) ∧ Below w.heap.size w w' := by
  have hmf : ∀ (fn : Fn) (first cap : Array Value) (w : World), (Instr.makeFunc fn first cap).run Tryz.prog w = .ok (.func fn first cap) w := fun _ _ _ _ => rfl
  go_enter Tryz.func93, Tryz.ntmps93
  go_wp2_with (go_at_call 115; refine (product_quick A A2 na ca nb cb v u N _ hva hub hN hv hu).mono ?_; rintro e w1 ⟨A3, k, c, rfl, o, hb⟩)
  go_ret2
  exact ⟨_, _, _, rfl, o, hb⟩
set_option maxRecDepth 100000 in
set_option maxHeartbeats 1000000 in
theorem Mul_bad (A A2 : Option Addr) (na ca nb cb : Nat) (a b : List Nat) (w : World) (hra : Rd w A na a) (hrb : Rd w A2 nb b) (hna : na ≤ 16777216) (hnb : nb ≤ 16777216) (hm : [a, b].all may = false) :
    Calls Tryz.prog 93 #[.slice A na ca, .slice A2 nb cb] w fun e w' => e = .returned (.tuple #[.slice none 0 0, .int .i64 8]) ∧ Below w.heap.size w w' := by
  have hmf : ∀ (fn : Fn) (first cap : Array Value) (w : World), (Instr.makeFunc fn first cap).run Tryz.prog w = .ok (.func fn first cap) w := fun _ _ _ _ => rfl
  go_enter Tryz.func93, Tryz.ntmps93
  go_wp2_with (go_at_call 115; refine (product_bad A A2 na ca nb cb a b _ _ hra hrb hna hnb hm).mono ?_; rintro e w1 ⟨rfl, hb⟩)
  go_ret2
  exact ⟨rfl, hb⟩

end Go.Proofs.YtgiokmfdafmaoaaGreat

/- (mul.number).power and mul.Pow. -/
namespace Go.Proofs.YtgiokmfdafmaoaaGreat
open Go.RowKit Go.Shelf
set_option linter.unusedVariables false

theorem i64_and1 (n : Int) : bits .and .i64 n 1 = n % 2 := by
  have h1 : (BitVec.ofInt 64 1).toNat = 2 ^ 1 - 1 := by decide
  have key : (BitVec.ofInt 64 n &&& BitVec.ofInt 64 1).toNat = (n % ((2 ^ 64 : Nat) : Int)).toNat % 2 ^ 1 := by
    rw [BitVec.toNat_and, BitVec.toNat_ofInt, h1, Nat.and_two_pow_sub_one_eq_mod]
  show IntKind.i64.wrap ((BitVec.ofInt 64 n &&& BitVec.ofInt 64 1).toNat : Nat) = n % 2
  rw [key, IntKind.wrap_i64]
  omega
theorem i64_bit (n j : Nat) : bits .and .i64 ((n : Int) / 2 ^ j) 1 = ((n / 2 ^ j % 2 : Nat) : Int) := by
  rw [i64_and1]
  have e3 : ((n : Nat) : Int) / 2 ^ j = ((n / 2 ^ j : Nat) : Int) := by simp
  rw [e3]; omega
theorem half_step (n j : Nat) : n / 2 ^ j = 2 * (n / 2 ^ (j + 1)) + n / 2 ^ j % 2 := by
  rw [Nat.pow_succ, ← Nat.div_div_eq_div_mul]; omega
theorem pow_sq (v q : Nat) : v ^ q * v ^ q = v ^ (2 * q) := by rw [Nat.two_mul, Nat.pow_add]
theorem limbs_one : limbs 1 = [1] := by
  have h := limbs_val (l := [1]) (words_cons B64_gt words_nil) rfl
  simpa [val] using h
theorem row_new1 (w : World) : RowL (w.alloc (.cells #[u64 1] 36)) w.heap.size [1] := by
  unfold RowL
  rw [World.alloc_heap_new]
  rfl

end Go.Proofs.YtgiokmfdafmaoaaGreat

/- mul.Pow: powers, and what is refused. -/
namespace Go.Proofs.YtgiokmfdafmaoaaGreat
open Go.RowKit Go.Shelf
set_option linter.unusedVariables false

theorem pow_fits {v n k N : Nat} (hb : n * blen v ≤ 65536) (hk : k ≤ n) (hN : 1025 ≤ N) : v ^ k < B64 ^ N := by
  have h1 : v ^ k ≤ (2 ^ blen v) ^ k := Nat.pow_le_pow_left (Nat.le_of_lt (blen_lt v)) k
  rw [← Nat.pow_mul] at h1
  have h2 : blen v * k ≤ 65536 := Nat.le_trans (by rw [Nat.mul_comm]; exact Nat.mul_le_mul_right _ hk) hb
  obtain ⟨M, hM⟩ : ∃ M, M = 1024 := ⟨_, rfl⟩
  have h3 : 2 ^ (blen v * k) ≤ B64 ^ M := pow_le_B64 (by omega)
  have h4 : B64 ^ M < B64 ^ N := Nat.pow_lt_pow_right B64_gt (by omega)
  exact Nat.lt_of_le_of_lt (Nat.le_trans h1 h3) h4
theorem nm_lt {w : World} {A : Option Addr} {n c v N : Nat} (h : Nm w A n c v) (hn : n ≤ N) : v < B64 ^ N := Nat.lt_of_lt_of_le h.lt (Nat.pow_le_pow_right B64_pos hn)

section
variable (A : Option Addr) (na ca : Nat) (w : World)

theorem quo_nat {n q : Nat} (h : 65536 / n = q) : Int.tdiv 65536 (n : Int) = (q : Int) := by
  rw [Int.tdiv_eq_ediv_of_nonneg (by omega), ← h]; rfl
theorem quo_wrap {n q : Nat} (h : 65536 / n = q) : wrap64 (q : Int) = (q : Int) := by
  have h1 : q ≤ 65536 := by rw [← h]; exact Nat.div_le_self _ _
  exact IntWalk.wrap64_in _ ⟨by omega, by omega⟩

end
end Go.Proofs.YtgiokmfdafmaoaaGreat

/- The law MulNames, and the chapter's first examples. -/
namespace Go.Proofs.YtgiokmfdafmaoaaGreat
open Go.RowKit Go.Shelf
set_option linter.unusedVariables false

section
variable (A A2 : Option Addr) (na ca nb cb v u : Nat) (w : World)
theorem mul_nm (hva : Nm w A na ca v) (hub : Nm w A2 nb cb u) (hna : na ≤ 100000) (hnb : nb ≤ 100000) :
    Calls Tryz.prog 93 #[.slice A na ca, .slice A2 nb cb] w fun e w' => ∃ A' k c, e = .returned (.tuple #[.slice A' k c, .int .i64 0]) ∧ Own w' w.heap.size (.slice A' k c) (limbs (v * u)) ∧ Below w.heap.size w w' := by
  obtain ⟨N, hN⟩ : ∃ N, N = 100000 := ⟨_, rfl⟩
  exact Mul_ok A A2 na ca nb cb v u N w hva hub (by omega) (nm_lt hva (by omega)) (nm_lt hub (by omega))
end

theorem nm_new1 (w : World) (x : Nat) (T : TypeId) (hx : x < B64) (h0 : (x != 0) = true) : Nm (w.alloc (.cells #[u64 x] T)) (some ⟨w.heap.size, 0, none⟩) 1 1 x := by
  have h := nm_of (c := 1) (rd_new1 w x T hx) (by simpa [may] using h0) (by omega) (by omega)
  simpa [val] using h
theorem nm_new2 (w : World) (x y : Nat) (T : TypeId) (hx : x < B64) (hy : y < B64) (h0 : (y != 0) = true) : Nm (w.alloc (.cells #[u64 x, u64 y] T)) (some ⟨w.heap.size, 0, none⟩) 2 2 (x + B64 * y) := by
  have h := nm_of (c := 2) (rd_new2 w x y T hx hy) (by simpa [may] using h0) (by omega) (by omega)
  simpa [val] using h
/-- 2^64 - 2. -/
def top2 : Nat := 18446744073709551614
theorem top2_lt : top2 < B64 := by unfold top2; rw [B64_eq]; omega
theorem top2_cast : ((top2 : Nat) : Int) = 18446744073709551614 := rfl
theorem top_ne : (top != 0) = true := rfl
theorem top_sq : limbs (top * top) = [1, top2] := by
  have e : top * top = val [1, top2] := by simp [val, B64_eq, top, top2]
  rw [e]
  exact limbs_val (words_cons B64_gt (words_cons top2_lt words_nil)) rfl
/-- 10^20's lower limb. -/
def ten20 : Nat := 7766279631452241920
theorem ten20_lt : ten20 < B64 := by unfold ten20; rw [B64_eq]; omega
theorem ten20_cast : ((ten20 : Nat) : Int) = 7766279631452241920 := rfl
theorem ten_pow : limbs (10 ^ 20) = [ten20, 5] := by
  have e : 10 ^ 20 = val [ten20, 5] := by simp [val, B64_eq, ten20]
  rw [e]
  exact limbs_val (words_cons ten20_lt (words_cons (small_lt (by omega)) words_nil)) rfl
theorem ten_len : 20 * blen 10 ≤ 65536 := by
  have := blen_le (v := 10) (k := 4) (by omega)
  omega
theorem five_zero : limbs (0 * 5) = [] := by rw [Nat.zero_mul, limbs_zero]

theorem two64_many : 65536 < 1024 * blen (0 + B64 * 1) := by
  have : blen (0 + B64 * 1) = 65 := by
    apply blen_eq <;> rw [B64_eq] <;> simp
  omega

end Go.Proofs.YtgiokmfdafmaoaaGreat

/- The calls of mul and nat by numbers, for laws. -/
namespace Go.Proofs.YtgiokmfdafmaoaaGreat
open Go.RowKit Go.Shelf
set_option linter.unusedVariables false

section
variable (A A2 : Option Addr) (na ca nb cb v u : Nat) (w : World)
theorem add_nm (hva : Nm w A na ca v) (hub : Nm w A2 nb cb u) (hna : na ≤ 100000) (hnb : nb ≤ 100000) :
    Calls Tryz.prog 114 #[.slice A na ca, .slice A2 nb cb] w fun e w' => ∃ A' k c, e = .returned (.tuple #[.slice A' k c, .int .i64 0]) ∧ Own w' w.heap.size (.slice A' k c) (limbs (v + u)) ∧ Below w.heap.size w w' := by
  have h := add_ok A A2 na ca nb cb (limbs v) (limbs u) w hva.rd hub.rd (by omega) (by omega) (by simp [may_limbs])
  rwa [val_limbs, val_limbs] at h
theorem same_eq (hva : Nm w A na ca v) (hub : Nm w A2 nb cb u) (hna : na ≤ 100000) (hnb : nb ≤ 100000) (h : v = u) :
    Calls Tryz.prog 11 #[.slice A na ca, .slice A2 nb cb] w fun e w' => e = .returned (.bool true) ∧ Below w.heap.size w w' := by
  subst h
  have h := same_any A A2 na ca nb cb (limbs v) (limbs v) w hva.rd hub.rd (by omega) (by omega)
  rwa [decide_eq_true rfl] at h
theorem up_nm (b : Nat) (hva : Nm w A na ca v) (hna : na ≤ 100000) (hb : b ≤ 65536) :
    Calls Tryz.prog 150 #[.slice A na ca, .int .i64 (b : Int)] w fun e w' => ∃ A' k c, e = .returned (.tuple #[.slice A' k c, .int .i64 0]) ∧ Own w' w.heap.size (.slice A' k c) (limbs (v * 2 ^ b)) ∧ Below w.heap.size w w' := by
  have h := up_ok A na ca (limbs v) b _ _ w hva.rd (by omega) (may_limbs v) hb rfl rfl
  rwa [val_limbs] at h
variable {A A2 : Option Addr} {na ca nb cb v u : Nat} {w w2 : World}
theorem mul_len (hva : Nm w A na ca v) (hub : Nm w2 A2 nb cb u) : (limbs (v * u)).length ≤ na + nb := by
  apply limbs_length_le
  rw [Nat.pow_add]
  exact Nat.lt_of_le_of_lt (Nat.mul_le_mul_left _ (Nat.le_of_lt hub.lt)) (Nat.mul_lt_mul_of_pos_right hva.lt (Nat.pow_pos B64_pos))
theorem add_len (hva : Nm w A na ca v) (hub : Nm w2 A2 nb cb u) {n : Nat} (h1 : na ≤ n) (h2 : nb ≤ n) : (limbs (v + u)).length ≤ n + 1 := by
  have h := length_le_of_val (words_limbs v) (words_limbs u) (n := n) (by rw [hva.rd.len]; exact h1) (by rw [hub.rd.len]; exact h2)
  rwa [val_limbs, val_limbs] at h
theorem pow_len (hva : Nm w A na ca v) {n N : Nat} (h : na * n ≤ N) : (limbs (v ^ n)).length ≤ N + 1 := by
  apply limbs_length_le
  have h1 := Nat.pow_le_pow_left (Nat.le_of_lt hva.lt) n
  rw [← Nat.pow_mul] at h1
  exact Nat.lt_of_le_of_lt h1 (Nat.pow_lt_pow_right B64_gt (by omega))
theorem up_len (hva : Nm w A na ca v) {b : Nat} (hb : b ≤ 2000) : (limbs (v * 2 ^ b)).length ≤ na + 32 := by
  have h := length_shift (words_limbs v) (n := na) (b := b) (by rw [hva.rd.len]; exact Nat.le_refl _) hb
  rwa [val_limbs] at h
theorem nm_blen (hva : Nm w A na ca v) {n : Nat} (h : na ≤ n) : blen v ≤ 64 * n := by
  apply blen_le
  rw [← B64_pow]
  exact Nat.lt_of_lt_of_le hva.lt (Nat.pow_le_pow_right B64_pos h)
end
section
variable (A A2 : Option Addr) (na ca nb cb : Nat) (a b : List Nat) (w : World)
/-- mul's Mul, whatever the numbers are. -/
def mulL (a b : List Nat) : List Nat := if both a b = true then limbs (val a * val b) else []
theorem mul_spec (hra : Rd w A na a) (hrb : Rd w A2 nb b) (hna : na ≤ 100000) (hnb : nb ≤ 100000) (h1 : na ≤ ca ∧ ca ≤ 9223372036854775807) (h2 : nb ≤ cb ∧ cb ≤ 9223372036854775807) :
    Calls Tryz.prog 93 #[.slice A na ca, .slice A2 nb cb] w (Answers w (mulL a b) (err2 a b)) := by
  cases h : both a b with
  | true =>
    have e1 : mulL a b = limbs (val a * val b) := by simp [mulL, h]
    have e2 : err2 a b = 0 := by simp [err2, h]
    rw [e1, e2]
    have hm : may a = true ∧ may b = true := by simpa [both] using h
    exact mul_nm A A2 na ca nb cb (val a) (val b) w (nm_of hra hm.1 h1.1 h1.2) (nm_of hrb hm.2 h2.1 h2.2) hna hnb
  | false =>
    have e1 : mulL a b = [] := by simp [mulL, h]
    have e2 : err2 a b = 8 := by simp [err2, h]
    rw [e1, e2]
    refine (Mul_bad A A2 na ca nb cb a b w hra hrb (by omega) (by omega) (by rw [both_all]; exact h)).mono ?_
    rintro e w' ⟨rfl, hb⟩
    exact answers_nil hb
end
end Go.Proofs.YtgiokmfdafmaoaaGreat
