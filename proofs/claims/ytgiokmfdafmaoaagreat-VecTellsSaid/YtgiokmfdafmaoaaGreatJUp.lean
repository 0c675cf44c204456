import Derived.Test.YtgiokmfdafmaoaaGreatJRowL
import Derived.BigRegion
/- Up. -/
namespace Go.Proofs.YtgiokmfdafmaoaaGreat
open Go.RowKit Go.Shelf
set_option linter.unusedVariables false
set_option linter.unusedSimpArgs false

set_option maxHeartbeats 400000 in
/-- nat.mayShift, all well. -/
theorem mayShift_ok (A : Option Addr) (na ca : Nat) (a : List Nat) (bits : Int) (w : World) (hra : Rd w A na a) (hna : na ≤ 4294967296) (hm : may a = true) (h0 : 0 ≤ bits) (h1 : bits ≤ 65536) :
    Calls Tryz.prog 155 #[.slice A na ca, .int .i64 bits] w fun e w' => e = .returned (.int .i64 0) ∧ Below w.heap.size w w' := by
  have hr := rows2_one (ca := ca) hra (by omega) 23
  have HR := Lib.hid hr
  have HM := Lib.hid hm
  clear hr hm hra
  go_enter Tryz.func155, Tryz.ntmps155
  go_wp2_with (go_at_call 89; refine (mayBe_any w.heap.size 0 1 1 [a] _ HR.out rfl (by omega)).mono ?_; rw [show bad [a] = 0 by unfold bad; rw [if_pos (by simp [HM.out])]]; rintro e w' ⟨rfl, rfl⟩)
  go_ret
  exact ⟨rfl, (Below.refl _ _).alloc (Nat.le_refl _) _⟩

set_option maxHeartbeats 400000 in
theorem mayShift_bad (A : Option Addr) (na ca : Nat) (a : List Nat) (bits : Int) (w : World) (hra : Rd w A na a) (hna : na ≤ 4294967296) (hm : may a = false) :
    Calls Tryz.prog 155 #[.slice A na ca, .int .i64 bits] w fun e w' => e = .returned (.int .i64 8) ∧ Below w.heap.size w w' := by
  have hr := rows2_one (ca := ca) hra (by omega) 23
  have HR := Lib.hid hr
  have HM := Lib.hid hm
  clear hr hm hra
  go_enter Tryz.func155, Tryz.ntmps155
  go_wp2_with (go_at_call 89; refine (mayBe_any w.heap.size 0 1 1 [a] _ HR.out rfl (by omega)).mono ?_; rw [show bad [a] = 8 by unfold bad; rw [if_neg (by simp [HM.out])]]; rintro e w' ⟨rfl, rfl⟩)
  go_ret
  exact ⟨rfl, (Below.refl _ _).alloc (Nat.le_refl _) _⟩

set_option maxHeartbeats 400000 in
theorem mayShift_arg (A : Option Addr) (na ca : Nat) (a : List Nat) (bits : Int) (w : World) (hra : Rd w A na a) (hna : na ≤ 4294967296) (hm : may a = true) (hb : bits < 0 ∨ 65536 < bits) :
    Calls Tryz.prog 155 #[.slice A na ca, .int .i64 bits] w fun e w' => e = .returned (.int .i64 2) ∧ Below w.heap.size w w' := by
  have hr := rows2_one (ca := ca) hra (by omega) 23
  have HR := Lib.hid hr
  have HM := Lib.hid hm
  clear hr hm hra
  by_cases h0 : bits < 0
  · go_enter Tryz.func155, Tryz.ntmps155
    go_wp2_with (go_at_call 89; refine (mayBe_any w.heap.size 0 1 1 [a] _ HR.out rfl (by omega)).mono ?_; rw [show bad [a] = 0 by unfold bad; rw [if_pos (by simp [HM.out])]]; rintro e w' ⟨rfl, rfl⟩)
    go_ret
    exact ⟨rfl, (Below.refl _ _).alloc (Nat.le_refl _) _⟩
  · have h1 : 65536 < bits := by omega
    clear hb
    go_enter Tryz.func155, Tryz.ntmps155
    go_wp2_with (go_at_call 89; refine (mayBe_any w.heap.size 0 1 1 [a] _ HR.out rfl (by omega)).mono ?_; rw [show bad [a] = 0 by unfold bad; rw [if_pos (by simp [HM.out])]]; rintro e w' ⟨rfl, rfl⟩)
    go_ret
    exact ⟨rfl, (Below.refl _ _).alloc (Nat.le_refl _) _⟩

/-- One limb more, shifted into its two places. -/
theorem up_step {a l : List Nat} {q r k n bits : Nat} (hwl : Words l) (hwa : Words a) (hlen : l.length = q + n + 1) (hk : k < a.length ∧ k < n) (hr : r < 64) (hb : bits = 64 * q + r) (hv : val l = val (a.take k) * 2 ^ bits) :
    Words ((l.set (q + k) (lim l (q + k) ||| (lim a k * 2 ^ r % B64))).set (q + k + 1) (lim a k / 2 ^ (64 - r))) ∧
    val ((l.set (q + k) (lim l (q + k) ||| (lim a k * 2 ^ r % B64))).set (q + k + 1) (lim a k / 2 ^ (64 - r))) = val (a.take (k + 1)) * 2 ^ bits := by
  have hx := hwa.get k
  have hp : 2 ^ bits = B64 ^ q * 2 ^ r := by
    rw [hb, Nat.pow_add, Nat.pow_mul]; rfl
  have hlt : val l < B64 ^ (q + k) * 2 ^ r := by
    rw [hv, hp, Nat.pow_add, Nat.mul_comm (B64 ^ q) (B64 ^ k), Nat.mul_assoc]
    have h1 : val (a.take k) < B64 ^ k := Nat.lt_of_lt_of_le (val_lt (hwa.take k)) (Nat.pow_le_pow_right B64_pos (by rw [List.length_take]; omega))
    exact Nat.mul_lt_mul_of_pos_right h1 (Nat.mul_pos (Nat.pow_pos B64_pos) (Nat.two_pow_pos r))
  have hlow : lim l (q + k) < 2 ^ r := by
    rw [lim_val hwl]
    refine Nat.lt_of_le_of_lt (Nat.mod_le _ _) ?_
    rw [Nat.div_lt_iff_lt_mul (Nat.pow_pos B64_pos), Nat.mul_comm]
    exact hlt
  have hor := or_shl (x := lim a k) (r := r) (by omega) hlow
  have hsum : lim l (q + k) + lim a k * 2 ^ r % B64 < B64 := by
    rw [shl_mod (by omega), B64_split (r := r) (by omega)]
    have h1 : lim a k % 2 ^ (64 - r) < 2 ^ (64 - r) := Nat.mod_lt _ (Nat.two_pow_pos _)
    have h2 : 2 ^ r * (lim a k % 2 ^ (64 - r) + 1) ≤ 2 ^ r * 2 ^ (64 - r) := Nat.mul_le_mul_left _ h1
    rw [Nat.mul_add] at h2
    rw [Nat.mul_comm (2 ^ (64 - r))]
    omega
  rw [hor]
  have hw1 := words_set hwl (i := q + k) hsum
  have hover : lim a k / 2 ^ (64 - r) < B64 := Nat.lt_of_le_of_lt (Nat.div_le_self _ _) hx
  refine ⟨words_set hw1 hover, ?_⟩
  have e1 := val_set (l := l) (i := q + k) (by omega) (lim l (q + k) + lim a k * 2 ^ r % B64)
  rw [Nat.mul_add] at e1
  have e2 := val_set (l := l.set (q + k) (lim l (q + k) + lim a k * 2 ^ r % B64)) (i := q + k + 1) (by rw [List.length_set]; omega) (lim a k / 2 ^ (64 - r))
  have e3 : lim (l.set (q + k) (lim l (q + k) + lim a k * 2 ^ r % B64)) (q + k + 1) = lim l (q + k + 1) := by
    simp [lim, List.getD_eq_getElem?_getD, List.getElem?_set]
  have e4 : lim l (q + k + 1) = 0 := by
    apply lim_zero_of_lt hwl
    refine Nat.lt_of_lt_of_le hlt ?_
    rw [Nat.pow_succ]
    apply Nat.mul_le_mul_left
    rw [B64_split (r := r) (by omega)]
    exact Nat.le_mul_of_pos_left _ (Nat.two_pow_pos _)
  rw [e3, e4, Nat.mul_zero, Nat.add_zero] at e2
  have e5 := shl_split (x := lim a k) (r := r) (by omega)
  rw [e2, val_take_succ, Nat.add_mul, ← hv]
  have e6 : B64 ^ (q + k) * (lim a k * 2 ^ r % B64) + B64 ^ (q + k + 1) * (lim a k / 2 ^ (64 - r)) = B64 ^ (q + k) * (lim a k * 2 ^ r) := by
    rw [Nat.pow_succ, Nat.mul_assoc, ← Nat.mul_add, e5]
  have e7 : B64 ^ k * lim a k * 2 ^ bits = B64 ^ (q + k) * (lim a k * 2 ^ r) := by
    rw [hp, Nat.pow_add]
    simp only [Nat.mul_comm, Nat.mul_left_comm, Nat.mul_assoc]
  rw [e7, ← e6]
  omega
theorem u64_wrap_nat (n : Nat) : IntKind.u64.wrap (n : Int) = ((n % B64 : Nat) : Int) := by
  rw [IntKind.wrap_u64, B64_eq]; omega
theorem or_word (y x r : Nat) (hy : y < B64) : Go.bits BinOp.or IntKind.u64 (y : Int) (IntKind.u64.wrap ((x : Int) * 2 ^ r)) = ((y ||| (x * 2 ^ r % B64) : Nat) : Int) := by
  have e : (x : Int) * 2 ^ r = ((x * 2 ^ r : Nat) : Int) := by simp
  rw [e, u64_wrap_nat]
  exact bits_or_u64_nat _ _ hy (Nat.mod_lt _ B64_pos)

set_option maxRecDepth 100000 in
set_option maxHeartbeats 2000000 in
/-- nat.Up. -/
theorem up_ok (A : Option Addr) (na ca : Nat) (a : List Nat) (bits q r : Nat) (w : World) (hra : Rd w A na a) (hna : na ≤ 4294967296) (hm : may a = true) (hb : bits ≤ 65536) (hq : bits / 64 = q) (hr : bits % 64 = r) :
    Calls Tryz.prog 150 #[.slice A na ca, .int .i64 (bits : Int)] w fun e w' => ∃ A' k c, e = .returned (.tuple #[.slice A' k c, .int .i64 0]) ∧ Own w' w.heap.size (.slice A' k c) (limbs (val a * 2 ^ bits)) ∧ Below w.heap.size w w' := by
  have e1 : ((bits : Nat) : Int) / 64 = (q : Int) := by omega
  have e2 : ((bits : Nat) : Int) % 64 = (r : Int) := by omega
  have hq1 : q ≤ 1024 := by omega
  have hr1 : r < 64 := by omega
  have HQ := Lib.hid hq
  have HR := Lib.hid hr
  clear hq hr
  have hmk := fun W => run_make_row' (P := Tryz.prog) 23 36 (.int .u64 0) 8 Tryz.underlying23 u64_info rfl .i64 .i64 (q + na + 1) (by omega) (by omega) W
  rw [show ((q + na + 1 : Nat) : Int) = (q : Int) + (na : Int) + 1 by omega] at hmk
  go_enter Tryz.func150, Tryz.ntmps150
  go_wp2_with (first
    | (go_at_call 155; refine (mayShift_ok A na ca a bits _ hra hna hm (by omega) (by omega)).mono ?_; rintro e w1 ⟨rfl, hb1⟩))
  rw [e2]
  have hz := RowL.zeros w1 (q + na + 1)
  have hB2 := hb1.alloc hb1.size (.cells (madeCells #[.int .u64 0] (q + na + 1)) 36)
  have hG : w.heap.size ≤ w1.heap.size := hb1.size
  have hgl : w1.heap.size < (w1.alloc (.cells (madeCells #[.int .u64 0] (q + na + 1)) 36)).heap.size := by simp
  generalize hW2 : w1.alloc (.cells (madeCells #[.int .u64 0] (q + na + 1)) 36) = w2 at *
  clear hW2 hmk
  go_loopw [30] (fun i wr => ∃ (k : Nat) (l : List Nat), k ≤ na ∧ i = .int .i64 (k : Int) ∧ RowL wr w1.heap.size l ∧ l.length = q + na + 1 ∧ Words l ∧ val l = val (a.take k) * 2 ^ bits ∧ Below w.heap.size w wr) (fun i _ => na - (intOf i).toNat)
  case atStart => exact ⟨0, _, by omega, rfl, hz, by simp, words_zeros _, by rw [val_zeros]; simp [val], hB2⟩
  case round =>
    obtain ⟨k, l, hk, rfl, hrow, hlen, hwl, hval, hB⟩ := hrel
    by_cases hlt : k < na
    · obtain ⟨b1, o1, rfl, _, hc1⟩ := (hra.below hB).cells (by omega)
      have hca := hc1 k hlt
      have hcu : wr.cell? ⟨w1.heap.size, q + k, none⟩ = some (u64 (lim l (q + k))) := hrow.cell (by omega)
      have hfu : wr.frozen? ⟨w1.heap.size, q + k, none⟩ = false := hrow.frozen _
      have hrlt : (r : Int) < 64 := by omega
      have HV := Lib.hid hval
      have HROW := Lib.hid hrow
      have hx := hra.words.get k
      have hy := hwl.get (q + k)
      clear hc1 hval hrow
      have hor : Go.bits BinOp.or IntKind.u64 ((lim l (q + k) : Nat) : Int) (IntKind.u64.wrap (((lim a k : Nat) : Int) * 2 ^ r)) = ((lim l (q + k) ||| (lim a k * 2 ^ r % B64) : Nat) : Int) := or_word _ _ _ hy
      have HOR := Lib.hid hor
      clear hor
      go_wp2
      go_region
      rw [HOR.out]
      have hr2 := HROW.out.set (q + k) (lim l (q + k) ||| (lim a k * 2 ^ r % B64))
      have hb2 := hB.setCell (p := ⟨w1.heap.size, q + k, none⟩) hG (u64 (lim l (q + k) ||| (lim a k * 2 ^ r % B64)))
      generalize (wr.setCell ⟨w1.heap.size, q + k, none⟩ (.int .u64 ((lim l (q + k) ||| (lim a k * 2 ^ r % B64) : Nat) : Int))) = w4 at *
      have hcv : w4.cell? ⟨w1.heap.size, q + k + 1, none⟩ = some (u64 (lim (l.set (q + k) (lim l (q + k) ||| (lim a k * 2 ^ r % B64))) (q + k + 1))) := hr2.cell (by rw [List.length_set]; omega)
      have hfv : w4.frozen? ⟨w1.heap.size, q + k + 1, none⟩ = false := hr2.frozen _
      have HR2 := Lib.hid hr2
      clear hr2
      go_wp2
      go_roundw
      case rel =>
        have e3 : (((lim a k : Nat) : Int) / 2 ^ (64 - r)) = ((lim a k / 2 ^ (64 - r) : Nat) : Int) := by simp
        rw [e3]
        refine ⟨k + 1, _, by omega, by go_num, (HR2.out.set (q + k + 1) (lim a k / 2 ^ (64 - r))).drew, by simp [hlen], ?_, ?_, (hb2.setCell (p := ⟨w1.heap.size, q + k + 1, none⟩) hG _).drew⟩
        · exact (up_step hwl hra.words hlen (by rw [hra.len]; omega) hr1 (by have := HQ.out; have := HR.out; omega) HV.out).1
        · exact (up_step hwl hra.words hlen (by rw [hra.len]; omega) hr1 (by have := HQ.out; have := HR.out; omega) HV.out).2
      case measure => simp [intOf]; omega
    · have hkn : k = na := by omega
      have hv2 : val l = val a * 2 ^ bits := by rw [hval, hkn, val_take_all (by rw [hra.len]; omega)]
      have HV := Lib.hid hv2
      have HROW := Lib.hid hrow
      clear hval hv2 hrow hkn
      go_wp2_with (go_at_call 82; refine (trim_any _ _ _ l wr (HROW.out.own (B := w1.heap.size) (Nat.le_refl _) hwl hlen (by simp only [maxLen]; omega)).rd.1 (by omega) (by omega)).mono ?_; rintro e w' ⟨⟨k2, hk2, rfl, ht⟩, rfl⟩; have HT := Lib.hid ht; clear ht)
      go_ret2
      refine ⟨_, k2, _, rfl, ?_, hB⟩
      rw [← HV.out, ← HT.out]
      exact own_mono (own_trim (HROW.out.own (B := w1.heap.size) (Nat.le_refl _) hwl hlen (by simp only [maxLen]; omega)) (by omega)) hG
end Go.Proofs.YtgiokmfdafmaoaaGreat
