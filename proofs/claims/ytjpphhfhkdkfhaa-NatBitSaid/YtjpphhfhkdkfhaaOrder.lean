import Derived.Test.YtjpphhfhkdkfhaaSums
import Derived.Test.YtjpphhfhkdkfhaaCmp
namespace Go.Proofs.Ytjpphhfhkdkfhaa
open Go.RowKit Go.Shelf
set_option linter.unusedVariables false
set_option linter.unusedSimpArgs false
section
variable (A A2 A3 : Option Addr) (na ca nb cb nc cc : Nat) (a b c : List Nat) (w : World)

theorem length_sub_le {l : List Nat} (hl : Words l) (m : Nat) {n : Nat} (h : l.length ≤ n) : (limbs (val l - m)).length ≤ n :=
  limbs_length_le (Nat.lt_of_le_of_lt (Nat.sub_le _ _) (Nat.lt_of_lt_of_le (val_lt hl) (Nat.pow_le_pow_right B64_pos h)))

set_option maxRecDepth 100000 in
set_option maxHeartbeats 4000000 in
theorem natOrder_long (hb : 1000 < na ∨ 1000 < nb ∨ 1000 < nc) (h1 : na ≤ 9223372036854775807) (h2 : nb ≤ 9223372036854775807) (h3 : nc ≤ 9223372036854775807) :
    Calls Try.prog 7 #[.slice A na ca, .slice A2 nb cb, .slice A3 nc cc] w fun e w' => e = .returned (.bool true) ∧ Below w.heap.size w w' := by
  by_cases ha : 1000 < na
  · go_enter Try.func7, Try.ntmps7
    go_wp2_with (go_at_call 16; refine (alive_any _).mono ?_; rintro e w1 ⟨rfl, hb1⟩)
    go_ret
    exact ⟨rfl, hb1⟩
  · by_cases hb : 1000 < nb
    · go_enter Try.func7, Try.ntmps7
      go_wp2_with (go_at_call 16; refine (alive_any _).mono ?_; rintro e w1 ⟨rfl, hb1⟩)
      go_ret
      exact ⟨rfl, hb1⟩
    · have hc : 1000 < nc := by omega
      go_enter Try.func7, Try.ntmps7
      go_wp2_with (go_at_call 16; refine (alive_any _).mono ?_; rintro e w1 ⟨rfl, hb1⟩)
      go_ret
      exact ⟨rfl, hb1⟩

set_option maxRecDepth 100000 in
set_option maxHeartbeats 4000000 in
theorem natOrder_bad (hra : Rd w A na a) (hrb : Rd w A2 nb b) (hrc : Rd w A3 nc c) (h1 : na ≤ 1000) (h2 : nb ≤ 1000) (h3 : nc ≤ 1000) (hm : [a, b].all may = false) :
    Calls Try.prog 7 #[.slice A na ca, .slice A2 nb cb, .slice A3 nc cc] w fun e w' => e = .returned (.bool true) ∧ Below w.heap.size w w' := by
  have hm2 : [b, a].all may = false := by rw [all_swap]; exact hm
  go_enter Try.func7, Try.ntmps7
  go_wp2_with fail
  refine (alive_any _).mono ?_
  rintro e w1 ⟨rfl, hb1⟩
  replace hra := hra.below hb1
  replace hrb := hrb.below hb1
  go_wp2_with fail
  refine (cmp_bad _ _ _ _ _ _ a b _ hra hrb (by omega) (by omega) hm).mono ?_
  rintro e w2 ⟨rfl, hb2⟩
  replace hra := hra.below hb2
  replace hrb := hrb.below hb2
  replace hb2 := below_then hb1 hb2
  clear hb1
  go_wp2_with fail
  refine (cmp_bad _ _ _ _ _ _ b a _ hrb hra (by omega) (by omega) hm2).mono ?_
  rintro e w3 ⟨rfl, hb3⟩
  replace hra := hra.below hb3
  replace hrb := hrb.below hb3
  replace hb3 := below_then hb2 hb3
  clear hb2
  go_wp2_with fail
  go_ret
  exact ⟨rfl, hb3⟩

set_option maxRecDepth 100000 in
set_option maxHeartbeats 4000000 in
theorem natOrder_bad3 (hra : Rd w A na a) (hrb : Rd w A2 nb b) (hrc : Rd w A3 nc c) (h1 : na ≤ 1000) (h2 : nb ≤ 1000) (h3 : nc ≤ 1000) (hm : [a, b].all may = true) (hm3 : [c].all may = false) :
    Calls Try.prog 7 #[.slice A na ca, .slice A2 nb cb, .slice A3 nc cc] w fun e w' => e = .returned (.bool true) ∧ Below w.heap.size w w' := by
  have hm2 : [b, a].all may = true := by rw [all_swap]; exact hm
  go_enter Try.func7, Try.ntmps7
  go_wp2_with fail
  refine (alive_any _).mono ?_
  rintro e w1 ⟨rfl, hb1⟩
  replace hra := hra.below hb1
  replace hrb := hrb.below hb1
  replace hrc := hrc.below hb1
  go_wp2_with fail
  refine (cmp_ok _ _ _ _ _ _ a b _ hra hrb (by omega) (by omega) hm).mono ?_
  rintro e w2 ⟨rfl, hb2⟩
  replace hra := hra.below hb2
  replace hrb := hrb.below hb2
  replace hrc := hrc.below hb2
  replace hb2 := below_then hb1 hb2
  clear hb1
  go_wp2_with fail
  refine (cmp_ok _ _ _ _ _ _ b a _ hrb hra (by omega) (by omega) hm2).mono ?_
  rintro e w3 ⟨rfl, hb3⟩
  replace hra := hra.below hb3
  replace hrb := hrb.below hb3
  replace hrc := hrc.below hb3
  replace hb3 := below_then hb2 hb3
  clear hb2
  go_wp2_with fail
  refine (check_any _ _ _ c _ hrc (by omega)).mono ?_
  rw [bad_eight hm3]
  rintro e w4 ⟨rfl, hb4⟩
  replace hra := hra.below hb4
  replace hrb := hrb.below hb4
  replace hrc := hrc.below hb4
  replace hb4 := below_then hb3 hb4
  clear hb3
  go_wp2_with fail
  go_ret
  exact ⟨rfl, hb4⟩

theorem cmp3_add (x y z : Nat) : cmp3 (x + z) (y + z) = cmp3 x y := by
  have := @cmp3_low 1 x y z
  simpa using this

set_option maxRecDepth 100000 in
set_option maxHeartbeats 4000000 in
theorem natOrder_lt (hra : Rd w A na a) (hrb : Rd w A2 nb b) (hrc : Rd w A3 nc c) (h1 : na ≤ 1000) (h2 : nb ≤ 1000) (h3 : nc ≤ 1000) (hma : may a = true) (hmb : may b = true) (hmc : may c = true) (hlt : val a < val b) :
    Calls Try.prog 7 #[.slice A na ca, .slice A2 nb cb, .slice A3 nc cc] w fun e w' => e = .returned (.bool true) ∧ Below w.heap.size w w' := by
  have hwa := hra.words
  have hwb := hrb.words
  have hla := hra.len
  have hlb := hrb.len
  have hlp' : (limbs (val a + val c)).length ≤ 1001 := length_le_of_val hra.words hrc.words (by rw [hra.len]; omega) (by rw [hrc.len]; omega)
  have hlq' : (limbs (val b + val c)).length ≤ 1001 := length_le_of_val hrb.words hrc.words (by rw [hrb.len]; omega) (by rw [hrc.len]; omega)
  have hls' : (limbs (val b - val a)).length ≤ 1001 := length_sub_le hwb _ (by omega)
  have hle : val a ≤ val b := by omega
  have hdec : decide (a = b) = false := decide_eq_false (fun e => by subst e; omega)
  go_enter Try.func7, Try.ntmps7
  go_wp2_with fail
  refine (alive_any _).mono ?_
  rintro e w1 ⟨rfl, hb1⟩
  replace hra := hra.below hb1
  replace hrb := hrb.below hb1
  replace hrc := hrc.below hb1
  go_wp2_with fail
  refine (cmp_ok _ _ _ _ _ _ a b _ hra hrb (by omega) (by omega) (by simp [hma, hmb])).mono ?_
  rw [cmp3_lt hlt]
  rintro e w2 ⟨rfl, hb2⟩
  replace hra := hra.below hb2
  replace hrb := hrb.below hb2
  replace hrc := hrc.below hb2
  replace hb2 := below_then hb1 hb2
  clear hb1
  go_wp2_with fail
  refine (cmp_ok _ _ _ _ _ _ b a _ hrb hra (by omega) (by omega) (by simp [hma, hmb])).mono ?_
  rw [cmp3_gt hlt]
  rintro e w3 ⟨rfl, hb3⟩
  replace hra := hra.below hb3
  replace hrb := hrb.below hb3
  replace hrc := hrc.below hb3
  replace hb3 := below_then hb2 hb3
  clear hb2
  go_wp2_with fail
  refine (check_any _ _ _ c _ hrc (by omega)).mono ?_
  rw [bad_zero (by simp [hmc])]
  rintro e w4 ⟨rfl, hb4⟩
  replace hra := hra.below hb4
  replace hrb := hrb.below hb4
  replace hrc := hrc.below hb4
  replace hb4 := below_then hb3 hb4
  clear hb3
  go_wp2_with fail
  refine (sub_ok _ _ _ _ _ _ b a _ hrb hra (by omega) (by omega) (by simp [hma, hmb]) hle).mono ?_
  rintro e w5 ⟨As, ks, cs, rfl, os, hb5⟩
  obtain ⟨hrs, hks, _, _⟩ := os.rd
  have hls : ks ≤ 1001 := by omega
  clear hks os
  replace hra := hra.below hb5
  replace hrb := hrb.below hb5
  replace hrc := hrc.below hb5
  replace hb5 := below_then hb4 hb5
  clear hb4
  go_wp2_with fail
  refine (sub_less _ _ _ _ _ _ a b _ hra hrb (by omega) (by omega) (by simp [hma, hmb]) hlt).mono ?_
  rintro e w6 ⟨rfl, hb6⟩
  replace hra := hra.below hb6
  replace hrb := hrb.below hb6
  replace hrc := hrc.below hb6
  replace hrs := hrs.below hb6
  replace hb6 := below_then hb5 hb6
  clear hb5
  go_wp2_with fail
  refine (add_ok _ _ _ _ _ _ a _ _ hra hrs (by omega) (by omega) (by simp [hma, hmb, may_limbs])).mono ?_
  rintro e w7 ⟨Ah, kh, ch, rfl, oh, hb7⟩
  rw [val_limbs, Nat.add_sub_cancel' hle, limbs_val hwb hmb] at oh
  obtain ⟨hrh, hkh, _, _⟩ := oh.rd
  have hlh : kh ≤ 1001 := by omega
  clear hkh oh
  replace hra := hra.below hb7
  replace hrb := hrb.below hb7
  replace hrc := hrc.below hb7
  replace hrs := hrs.below hb7
  replace hb7 := below_then hb6 hb7
  clear hb6
  go_wp2_with fail
  refine (add_ok _ _ _ _ _ _ a c _ hra hrc (by omega) (by omega) (by simp [hma, hmc])).mono ?_
  rintro e w8 ⟨Ap, kp, cp, rfl, op, hb8⟩
  obtain ⟨hrp, hkp, _, _⟩ := op.rd
  have hlp : kp ≤ 1001 := by omega
  clear hkp op
  replace hra := hra.below hb8
  replace hrb := hrb.below hb8
  replace hrc := hrc.below hb8
  replace hrs := hrs.below hb8
  replace hrh := hrh.below hb8
  replace hb8 := below_then hb7 hb8
  clear hb7
  go_wp2_with fail
  refine (add_ok _ _ _ _ _ _ b c _ hrb hrc (by omega) (by omega) (by simp [hmb, hmc])).mono ?_
  rintro e w9 ⟨Aq, kq, cq, rfl, oq, hb9⟩
  obtain ⟨hrq, hkq, _, _⟩ := oq.rd
  have hlq : kq ≤ 1001 := by omega
  clear hkq oq
  replace hra := hra.below hb9
  replace hrb := hrb.below hb9
  replace hrc := hrc.below hb9
  replace hrs := hrs.below hb9
  replace hrh := hrh.below hb9
  replace hrp := hrp.below hb9
  replace hb9 := below_then hb8 hb9
  clear hb8
  go_wp2_with fail
  refine (cmp_ok _ _ _ _ _ _ (limbs (val a + val c)) (limbs (val b + val c)) _ hrp hrq (by omega) (by omega) (by simp [may_limbs])).mono ?_
  rw [val_limbs, val_limbs, show cmp3 (val a + val c) (val b + val c) = cmp3 (val a) (val b) from cmp3_add _ _ _, cmp3_lt hlt]
  rintro e w10 ⟨rfl, hb10⟩
  replace hra := hra.below hb10
  replace hrb := hrb.below hb10
  replace hrc := hrc.below hb10
  replace hrs := hrs.below hb10
  replace hrh := hrh.below hb10
  replace hrp := hrp.below hb10
  replace hrq := hrq.below hb10
  replace hb10 := below_then hb9 hb10
  clear hb9
  go_wp2_with fail
  refine (same_any _ _ _ _ _ _ a b _ hra hrb (by omega) (by omega)).mono ?_
  rw [hdec]
  rintro e w11 ⟨rfl, hb11⟩
  replace hra := hra.below hb11
  replace hrb := hrb.below hb11
  replace hrc := hrc.below hb11
  replace hrs := hrs.below hb11
  replace hrh := hrh.below hb11
  replace hrp := hrp.below hb11
  replace hrq := hrq.below hb11
  replace hb11 := below_then hb10 hb11
  clear hb10
  go_wp2_with fail
  refine (same_any _ _ _ _ _ _ b b _ hrh hrb (by omega) (by omega)).mono ?_
  rw [decide_eq_true (show b = b from rfl)]
  rintro e w12 ⟨rfl, hb12⟩
  replace hra := hra.below hb12
  replace hrb := hrb.below hb12
  replace hrc := hrc.below hb12
  replace hrs := hrs.below hb12
  replace hrh := hrh.below hb12
  replace hrp := hrp.below hb12
  replace hrq := hrq.below hb12
  replace hb12 := below_then hb11 hb12
  clear hb11
  go_wp2_with fail
  go_ret
  exact ⟨rfl, hb12⟩

set_option maxRecDepth 100000 in
set_option maxHeartbeats 4000000 in
theorem natOrder_gt (hra : Rd w A na a) (hrb : Rd w A2 nb b) (hrc : Rd w A3 nc c) (h1 : na ≤ 1000) (h2 : nb ≤ 1000) (h3 : nc ≤ 1000) (hma : may a = true) (hmb : may b = true) (hmc : may c = true) (hlt : val b < val a) :
    Calls Try.prog 7 #[.slice A na ca, .slice A2 nb cb, .slice A3 nc cc] w fun e w' => e = .returned (.bool true) ∧ Below w.heap.size w w' := by
  have hwa := hra.words
  have hwb := hrb.words
  have hla := hra.len
  have hlb := hrb.len
  have hlp' : (limbs (val a + val c)).length ≤ 1001 := length_le_of_val hra.words hrc.words (by rw [hra.len]; omega) (by rw [hrc.len]; omega)
  have hlq' : (limbs (val b + val c)).length ≤ 1001 := length_le_of_val hrb.words hrc.words (by rw [hrb.len]; omega) (by rw [hrc.len]; omega)
  have hls' : (limbs (val a - val b)).length ≤ 1001 := length_sub_le hwa _ (by omega)
  have hle : val b ≤ val a := by omega
  have hdec : decide (a = b) = false := decide_eq_false (fun e => by subst e; omega)
  go_enter Try.func7, Try.ntmps7
  go_wp2_with fail
  refine (alive_any _).mono ?_
  rintro e w1 ⟨rfl, hb1⟩
  replace hra := hra.below hb1
  replace hrb := hrb.below hb1
  replace hrc := hrc.below hb1
  go_wp2_with fail
  refine (cmp_ok _ _ _ _ _ _ a b _ hra hrb (by omega) (by omega) (by simp [hma, hmb])).mono ?_
  rw [cmp3_gt hlt]
  rintro e w2 ⟨rfl, hb2⟩
  replace hra := hra.below hb2
  replace hrb := hrb.below hb2
  replace hrc := hrc.below hb2
  replace hb2 := below_then hb1 hb2
  clear hb1
  go_wp2_with fail
  refine (cmp_ok _ _ _ _ _ _ b a _ hrb hra (by omega) (by omega) (by simp [hma, hmb])).mono ?_
  rw [cmp3_lt hlt]
  rintro e w3 ⟨rfl, hb3⟩
  replace hra := hra.below hb3
  replace hrb := hrb.below hb3
  replace hrc := hrc.below hb3
  replace hb3 := below_then hb2 hb3
  clear hb2
  go_wp2_with fail
  refine (check_any _ _ _ c _ hrc (by omega)).mono ?_
  rw [bad_zero (by simp [hmc])]
  rintro e w4 ⟨rfl, hb4⟩
  replace hra := hra.below hb4
  replace hrb := hrb.below hb4
  replace hrc := hrc.below hb4
  replace hb4 := below_then hb3 hb4
  clear hb3
  go_wp2_with fail
  refine (sub_ok _ _ _ _ _ _ a b _ hra hrb (by omega) (by omega) (by simp [hma, hmb]) hle).mono ?_
  rintro e w5 ⟨As, ks, cs, rfl, os, hb5⟩
  obtain ⟨hrs, hks, _, _⟩ := os.rd
  have hls : ks ≤ 1001 := by omega
  clear hks os
  replace hra := hra.below hb5
  replace hrb := hrb.below hb5
  replace hrc := hrc.below hb5
  replace hb5 := below_then hb4 hb5
  clear hb4
  go_wp2_with fail
  refine (sub_less _ _ _ _ _ _ b a _ hrb hra (by omega) (by omega) (by simp [hma, hmb]) hlt).mono ?_
  rintro e w6 ⟨rfl, hb6⟩
  replace hra := hra.below hb6
  replace hrb := hrb.below hb6
  replace hrc := hrc.below hb6
  replace hrs := hrs.below hb6
  replace hb6 := below_then hb5 hb6
  clear hb5
  go_wp2_with fail
  refine (add_ok _ _ _ _ _ _ b _ _ hrb hrs (by omega) (by omega) (by simp [hma, hmb, may_limbs])).mono ?_
  rintro e w7 ⟨Ah, kh, ch, rfl, oh, hb7⟩
  rw [val_limbs, Nat.add_sub_cancel' hle, limbs_val hwa hma] at oh
  obtain ⟨hrh, hkh, _, _⟩ := oh.rd
  have hlh : kh ≤ 1001 := by omega
  clear hkh oh
  replace hra := hra.below hb7
  replace hrb := hrb.below hb7
  replace hrc := hrc.below hb7
  replace hrs := hrs.below hb7
  replace hb7 := below_then hb6 hb7
  clear hb6
  go_wp2_with fail
  refine (add_ok _ _ _ _ _ _ a c _ hra hrc (by omega) (by omega) (by simp [hma, hmc])).mono ?_
  rintro e w8 ⟨Ap, kp, cp, rfl, op, hb8⟩
  obtain ⟨hrp, hkp, _, _⟩ := op.rd
  have hlp : kp ≤ 1001 := by omega
  clear hkp op
  replace hra := hra.below hb8
  replace hrb := hrb.below hb8
  replace hrc := hrc.below hb8
  replace hrs := hrs.below hb8
  replace hrh := hrh.below hb8
  replace hb8 := below_then hb7 hb8
  clear hb7
  go_wp2_with fail
  refine (add_ok _ _ _ _ _ _ b c _ hrb hrc (by omega) (by omega) (by simp [hmb, hmc])).mono ?_
  rintro e w9 ⟨Aq, kq, cq, rfl, oq, hb9⟩
  obtain ⟨hrq, hkq, _, _⟩ := oq.rd
  have hlq : kq ≤ 1001 := by omega
  clear hkq oq
  replace hra := hra.below hb9
  replace hrb := hrb.below hb9
  replace hrc := hrc.below hb9
  replace hrs := hrs.below hb9
  replace hrh := hrh.below hb9
  replace hrp := hrp.below hb9
  replace hb9 := below_then hb8 hb9
  clear hb8
  go_wp2_with fail
  refine (cmp_ok _ _ _ _ _ _ (limbs (val a + val c)) (limbs (val b + val c)) _ hrp hrq (by omega) (by omega) (by simp [may_limbs])).mono ?_
  rw [val_limbs, val_limbs, show cmp3 (val a + val c) (val b + val c) = cmp3 (val a) (val b) from cmp3_add _ _ _, cmp3_gt hlt]
  rintro e w10 ⟨rfl, hb10⟩
  replace hra := hra.below hb10
  replace hrb := hrb.below hb10
  replace hrc := hrc.below hb10
  replace hrs := hrs.below hb10
  replace hrh := hrh.below hb10
  replace hrp := hrp.below hb10
  replace hrq := hrq.below hb10
  replace hb10 := below_then hb9 hb10
  clear hb9
  go_wp2_with fail
  refine (same_any _ _ _ _ _ _ a b _ hra hrb (by omega) (by omega)).mono ?_
  rw [hdec]
  rintro e w11 ⟨rfl, hb11⟩
  replace hra := hra.below hb11
  replace hrb := hrb.below hb11
  replace hrc := hrc.below hb11
  replace hrs := hrs.below hb11
  replace hrh := hrh.below hb11
  replace hrp := hrp.below hb11
  replace hrq := hrq.below hb11
  replace hb11 := below_then hb10 hb11
  clear hb10
  go_wp2_with fail
  refine (same_any _ _ _ _ _ _ a a _ hrh hra (by omega) (by omega)).mono ?_
  rw [decide_eq_true (show a = a from rfl)]
  rintro e w12 ⟨rfl, hb12⟩
  replace hra := hra.below hb12
  replace hrb := hrb.below hb12
  replace hrc := hrc.below hb12
  replace hrs := hrs.below hb12
  replace hrh := hrh.below hb12
  replace hrp := hrp.below hb12
  replace hrq := hrq.below hb12
  replace hb12 := below_then hb11 hb12
  clear hb11
  go_wp2_with fail
  go_ret
  exact ⟨rfl, hb12⟩

set_option maxRecDepth 100000 in
set_option maxHeartbeats 4000000 in
theorem natOrder_eq (hra : Rd w A na a) (hrb : Rd w A2 nb b) (hrc : Rd w A3 nc c) (h1 : na ≤ 1000) (h2 : nb ≤ 1000) (h3 : nc ≤ 1000) (hma : may a = true) (hmb : may b = true) (hmc : may c = true) (heq : val a = val b) :
    Calls Try.prog 7 #[.slice A na ca, .slice A2 nb cb, .slice A3 nc cc] w fun e w' => e = .returned (.bool true) ∧ Below w.heap.size w w' := by
  have hwa := hra.words
  have hwb := hrb.words
  have hla := hra.len
  have hlb := hrb.len
  have hlp' : (limbs (val a + val c)).length ≤ 1001 := length_le_of_val hra.words hrc.words (by rw [hra.len]; omega) (by rw [hrc.len]; omega)
  have hlq' : (limbs (val b + val c)).length ≤ 1001 := length_le_of_val hrb.words hrc.words (by rw [hrb.len]; omega) (by rw [hrc.len]; omega)
  have hls' : (limbs (val b - val a)).length ≤ 1001 := length_sub_le hwb _ (by omega)
  have heq1 : cmp3 (val a) (val b) = 0 := by rw [heq, cmp3_self]
  have heq2 : cmp3 (val b) (val a) = 0 := by rw [heq, cmp3_self]
  have hle : val a ≤ val b := by omega
  have hle2 : val b ≤ val a := by omega
  have hdec : decide (a = b) = true := decide_eq_true (val_inj hwa hwb hma hmb heq)
  have HQ := Lib.hid heq
  clear heq
  go_enter Try.func7, Try.ntmps7
  go_wp2_with fail
  refine (alive_any _).mono ?_
  rintro e w1 ⟨rfl, hb1⟩
  replace hra := hra.below hb1
  replace hrb := hrb.below hb1
  replace hrc := hrc.below hb1
  go_wp2_with fail
  refine (cmp_ok _ _ _ _ _ _ a b _ hra hrb (by omega) (by omega) (by simp [hma, hmb])).mono ?_
  rw [heq1]
  rintro e w2 ⟨rfl, hb2⟩
  replace hra := hra.below hb2
  replace hrb := hrb.below hb2
  replace hrc := hrc.below hb2
  replace hb2 := below_then hb1 hb2
  clear hb1
  go_wp2_with fail
  refine (cmp_ok _ _ _ _ _ _ b a _ hrb hra (by omega) (by omega) (by simp [hma, hmb])).mono ?_
  rw [heq2]
  rintro e w3 ⟨rfl, hb3⟩
  replace hra := hra.below hb3
  replace hrb := hrb.below hb3
  replace hrc := hrc.below hb3
  replace hb3 := below_then hb2 hb3
  clear hb2
  go_wp2_with fail
  refine (check_any _ _ _ c _ hrc (by omega)).mono ?_
  rw [bad_zero (by simp [hmc])]
  rintro e w4 ⟨rfl, hb4⟩
  replace hra := hra.below hb4
  replace hrb := hrb.below hb4
  replace hrc := hrc.below hb4
  replace hb4 := below_then hb3 hb4
  clear hb3
  go_wp2_with fail
  refine (sub_ok _ _ _ _ _ _ b a _ hrb hra (by omega) (by omega) (by simp [hma, hmb]) hle).mono ?_
  rintro e w5 ⟨As, ks, cs, rfl, os, hb5⟩
  obtain ⟨hrs, hks, _, _⟩ := os.rd
  have hls : ks ≤ 1001 := by omega
  clear hks os
  replace hra := hra.below hb5
  replace hrb := hrb.below hb5
  replace hrc := hrc.below hb5
  replace hb5 := below_then hb4 hb5
  clear hb4
  go_wp2_with fail
  refine (sub_ok _ _ _ _ _ _ a b _ hra hrb (by omega) (by omega) (by simp [hma, hmb]) hle2).mono ?_
  rintro e w6 ⟨Au, ku, cu, rfl, ou, hb6⟩
  clear ou
  replace hra := hra.below hb6
  replace hrb := hrb.below hb6
  replace hrc := hrc.below hb6
  replace hrs := hrs.below hb6
  replace hb6 := below_then hb5 hb6
  clear hb5
  go_wp2_with fail
  refine (add_ok _ _ _ _ _ _ a _ _ hra hrs (by omega) (by omega) (by simp [hma, hmb, may_limbs])).mono ?_
  rintro e w7 ⟨Ah, kh, ch, rfl, oh, hb7⟩
  rw [val_limbs, Nat.add_sub_cancel' hle, limbs_val hwb hmb] at oh
  obtain ⟨hrh, hkh, _, _⟩ := oh.rd
  have hlh : kh ≤ 1001 := by omega
  clear hkh oh
  replace hra := hra.below hb7
  replace hrb := hrb.below hb7
  replace hrc := hrc.below hb7
  replace hrs := hrs.below hb7
  replace hb7 := below_then hb6 hb7
  clear hb6
  go_wp2_with fail
  refine (add_ok _ _ _ _ _ _ a c _ hra hrc (by omega) (by omega) (by simp [hma, hmc])).mono ?_
  rintro e w8 ⟨Ap, kp, cp, rfl, op, hb8⟩
  obtain ⟨hrp, hkp, _, _⟩ := op.rd
  have hlp : kp ≤ 1001 := by omega
  clear hkp op
  replace hra := hra.below hb8
  replace hrb := hrb.below hb8
  replace hrc := hrc.below hb8
  replace hrs := hrs.below hb8
  replace hrh := hrh.below hb8
  replace hb8 := below_then hb7 hb8
  clear hb7
  go_wp2_with fail
  refine (add_ok _ _ _ _ _ _ b c _ hrb hrc (by omega) (by omega) (by simp [hmb, hmc])).mono ?_
  rintro e w9 ⟨Aq, kq, cq, rfl, oq, hb9⟩
  obtain ⟨hrq, hkq, _, _⟩ := oq.rd
  have hlq : kq ≤ 1001 := by omega
  clear hkq oq
  replace hra := hra.below hb9
  replace hrb := hrb.below hb9
  replace hrc := hrc.below hb9
  replace hrs := hrs.below hb9
  replace hrh := hrh.below hb9
  replace hrp := hrp.below hb9
  replace hb9 := below_then hb8 hb9
  clear hb8
  go_wp2_with fail
  refine (cmp_ok _ _ _ _ _ _ (limbs (val a + val c)) (limbs (val b + val c)) _ hrp hrq (by omega) (by omega) (by simp [may_limbs])).mono ?_
  rw [val_limbs, val_limbs, show cmp3 (val a + val c) (val b + val c) = cmp3 (val a) (val b) from cmp3_add _ _ _, heq1]
  rintro e w10 ⟨rfl, hb10⟩
  replace hra := hra.below hb10
  replace hrb := hrb.below hb10
  replace hrc := hrc.below hb10
  replace hrs := hrs.below hb10
  replace hrh := hrh.below hb10
  replace hrp := hrp.below hb10
  replace hrq := hrq.below hb10
  replace hb10 := below_then hb9 hb10
  clear hb9
  go_wp2_with fail
  refine (same_any _ _ _ _ _ _ a b _ hra hrb (by omega) (by omega)).mono ?_
  rw [hdec]
  rintro e w11 ⟨rfl, hb11⟩
  replace hra := hra.below hb11
  replace hrb := hrb.below hb11
  replace hrc := hrc.below hb11
  replace hrs := hrs.below hb11
  replace hrh := hrh.below hb11
  replace hrp := hrp.below hb11
  replace hrq := hrq.below hb11
  replace hb11 := below_then hb10 hb11
  clear hb10
  go_wp2_with fail
  refine (same_any _ _ _ _ _ _ b b _ hrh hrb (by omega) (by omega)).mono ?_
  rw [decide_eq_true (show b = b from rfl)]
  rintro e w12 ⟨rfl, hb12⟩
  replace hra := hra.below hb12
  replace hrb := hrb.below hb12
  replace hrc := hrc.below hb12
  replace hrs := hrs.below hb12
  replace hrh := hrh.below hb12
  replace hrp := hrp.below hb12
  replace hrq := hrq.below hb12
  replace hb12 := below_then hb11 hb12
  clear hb11
  go_wp2_with fail
  go_ret
  exact ⟨rfl, hb12⟩

theorem natOrder_any (hra : Rd w A na a) (hrb : Rd w A2 nb b) (hrc : Rd w A3 nc c) (h1 : na ≤ 9223372036854775807) (h2 : nb ≤ 9223372036854775807) (h3 : nc ≤ 9223372036854775807) :
    Calls Try.prog 7 #[.slice A na ca, .slice A2 nb cb, .slice A3 nc cc] w fun e w' => e = .returned (.bool true) ∧ Below w.heap.size w w' := by
  by_cases hl : 1000 < na ∨ 1000 < nb ∨ 1000 < nc
  · exact natOrder_long A A2 A3 na ca nb cb nc cc w hl h1 h2 h3
  · cases hma : may a with
    | false => exact natOrder_bad A A2 A3 na ca nb cb nc cc a b c w hra hrb hrc (by omega) (by omega) (by omega) (by simp [hma])
    | true =>
      cases hmb : may b with
      | false => exact natOrder_bad A A2 A3 na ca nb cb nc cc a b c w hra hrb hrc (by omega) (by omega) (by omega) (by simp [hma, hmb])
      | true =>
        cases hmc : may c with
        | false => exact natOrder_bad3 A A2 A3 na ca nb cb nc cc a b c w hra hrb hrc (by omega) (by omega) (by omega) (by simp [hma, hmb]) (by simp [hmc])
        | true =>
          rcases Nat.lt_trichotomy (val a) (val b) with h | h | h
          · exact natOrder_lt A A2 A3 na ca nb cb nc cc a b c w hra hrb hrc (by omega) (by omega) (by omega) hma hmb hmc h
          · exact natOrder_eq A A2 A3 na ca nb cb nc cc a b c w hra hrb hrc (by omega) (by omega) (by omega) hma hmb hmc h
          · exact natOrder_gt A A2 A3 na ca nb cb nc cc a b c w hra hrb hrc (by omega) (by omega) (by omega) hma hmb hmc h
end
end Go.Proofs.Ytjpphhfhkdkfhaa
