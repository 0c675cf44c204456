import Derived.Test.YtjpphhfhkdkfhaaAlive
namespace Go.Proofs.Ytjpphhfhkdkfhaa
open Go.RowKit Go.Shelf



section
variable (A A2 A3 : Option Addr) (na ca nb cb nc cc : Nat) (a b c : List Nat) (w : World)

set_option maxRecDepth 100000 in
set_option maxHeartbeats 2000000 in
theorem natSums_long (hb : 1000 < na ∨ 1000 < nb ∨ 1000 < nc) (h1 : na ≤ 9223372036854775807) (h2 : nb ≤ 9223372036854775807) (h3 : nc ≤ 9223372036854775807) :
    Calls Try.prog 6 #[.slice A na ca, .slice A2 nb cb, .slice A3 nc cc] w fun e w' => e = .returned (.bool true) ∧ Below w.heap.size w w' := by
  by_cases ha : 1000 < na
  · go_enter Try.func6, Try.ntmps6
    go_wp2_with (go_at_call 16; refine (alive_any _).mono ?_; rintro e w1 ⟨rfl, hb1⟩)
    go_ret
    exact ⟨rfl, hb1⟩
  · by_cases hb : 1000 < nb
    · go_enter Try.func6, Try.ntmps6
      go_wp2_with (go_at_call 16; refine (alive_any _).mono ?_; rintro e w1 ⟨rfl, hb1⟩)
      go_ret
      exact ⟨rfl, hb1⟩
    · have hc : 1000 < nc := by omega
      go_enter Try.func6, Try.ntmps6
      go_wp2_with (go_at_call 16; refine (alive_any _).mono ?_; rintro e w1 ⟨rfl, hb1⟩)
      go_ret
      exact ⟨rfl, hb1⟩

set_option maxRecDepth 100000 in
set_option maxHeartbeats 2000000 in
theorem natSums_bad (hra : Rd w A na a) (hrb : Rd w A2 nb b) (h1 : na ≤ 1000) (h2 : nb ≤ 1000) (h3 : nc ≤ 1000) (hm : [a, b].all may = false) :
    Calls Try.prog 6 #[.slice A na ca, .slice A2 nb cb, .slice A3 nc cc] w fun e w' => e = .returned (.bool true) ∧ Below w.heap.size w w' := by
  have hm2 : [b, a].all may = false := by rw [all_swap]; exact hm
  go_enter Try.func6, Try.ntmps6
  go_wp2_with fail
  refine (alive_any _).mono ?_
  rintro e w1 ⟨rfl, hb1⟩
  go_wp2_with fail
  refine (add_bad A A2 na ca nb cb a b _ (hra.below hb1) (hrb.below hb1) (by omega) (by omega) hm).mono ?_
  rintro e w2 ⟨rfl, hb2⟩
  replace hb2 := below_then hb1 hb2
  go_wp2_with fail
  refine (add_bad A2 A nb cb na ca b a _ (hrb.below hb2) (hra.below hb2) (by omega) (by omega) hm2).mono ?_
  rintro e w3 ⟨rfl, hb3⟩
  replace hb3 := below_then hb2 hb3
  go_wp2_with fail
  go_ret
  exact ⟨rfl, hb3⟩

set_option maxRecDepth 100000 in
set_option maxHeartbeats 2000000 in
theorem natSums_bad3 (hra : Rd w A na a) (hrb : Rd w A2 nb b) (hrc : Rd w A3 nc c) (h1 : na ≤ 1000) (h2 : nb ≤ 1000) (h3 : nc ≤ 1000) (hm : [a, b].all may = true) (hm3 : [c].all may = false) :
    Calls Try.prog 6 #[.slice A na ca, .slice A2 nb cb, .slice A3 nc cc] w fun e w' => e = .returned (.bool true) ∧ Below w.heap.size w w' := by
  have hm2 : [b, a].all may = true := by rw [all_swap]; exact hm
  go_enter Try.func6, Try.ntmps6
  go_wp2_with fail
  refine (alive_any _).mono ?_
  rintro e w1 ⟨rfl, hb1⟩
  go_wp2_with fail
  refine (add_ok A A2 na ca nb cb a b _ (hra.below hb1) (hrb.below hb1) (by omega) (by omega) hm).mono ?_
  rintro e w2 ⟨X, kx, cx, rfl, hox, hb2⟩
  clear hox
  replace hb2 := below_then hb1 hb2
  go_wp2_with fail
  refine (add_ok A2 A nb cb na ca b a _ (hrb.below hb2) (hra.below hb2) (by omega) (by omega) hm2).mono ?_
  rintro e w3 ⟨Y, ky, cy, rfl, hoy, hb3⟩
  clear hoy
  replace hb3 := below_then hb2 hb3
  go_wp2_with fail
  refine (check_any A3 nc cc c _ (hrc.below hb3) (by omega)).mono ?_
  rw [bad_eight hm3]
  rintro e w4 ⟨rfl, hb4⟩
  replace hb4 := below_then hb3 hb4
  go_wp2_with fail
  go_ret
  exact ⟨rfl, hb4⟩


set_option maxRecDepth 100000 in
set_option maxHeartbeats 4000000 in
theorem natSums_ok (hra : Rd w A na a) (hrb : Rd w A2 nb b) (hrc : Rd w A3 nc c) (h1 : na ≤ 1000) (h2 : nb ≤ 1000) (h3 : nc ≤ 1000) (hma : may a = true) (hmb : may b = true) (hmc : may c = true) :
    Calls Try.prog 6 #[.slice A na ca, .slice A2 nb cb, .slice A3 nc cc] w fun e w' => e = .returned (.bool true) ∧ Below w.heap.size w w' := by
  have hlx : (limbs (val a + val b)).length ≤ 1001 := length_le_of_val hra.words hrb.words (by rw [hra.len]; omega) (by rw [hrb.len]; omega)
  have hlq : (limbs (val b + val c)).length ≤ 1001 := length_le_of_val hrb.words hrc.words (by rw [hrb.len]; omega) (by rw [hrc.len]; omega)
  have hmx : may (limbs (val a + val b)) = true := may_limbs _
  have hmq : may (limbs (val b + val c)) = true := may_limbs _
  -- STEPS natSums_ok
  have hwa := hra.words
  have hle : val b ≤ val (limbs (val a + val b)) := by rw [val_limbs]; omega
  have hlp : (limbs (val a + val b + val c)).length ≤ 1002 := by
    have h := length_le_of_val (words_limbs (val a + val b)) hrc.words hlx (by rw [hrc.len]; omega)
    rwa [val_limbs] at h
  have hna := hra.len
  go_enter Try.func6, Try.ntmps6
  go_wp2_with fail
  refine (alive_any _).mono ?_
  rintro e w1 ⟨rfl, hb1⟩
  replace hra := hra.below hb1
  replace hrb := hrb.below hb1
  replace hrc := hrc.below hb1
  go_wp2_with fail
  refine (add_ok _ _ _ _ _ _ a b _ hra hrb (by omega) (by omega) (by simp [hma, hmb])).mono ?_
  rintro e w2 ⟨Ax, kx, cx, rfl, ox, hb2⟩
  obtain ⟨hrx, hkx, _, _⟩ := ox.rd
  have hlx : kx ≤ 1001 := by omega
  clear hkx ox
  replace hra := hra.below hb2
  replace hrb := hrb.below hb2
  replace hrc := hrc.below hb2
  replace hb2 := below_then hb1 hb2
  clear hb1
  go_wp2_with fail
  refine (add_ok _ _ _ _ _ _ b a _ hrb hra (by omega) (by omega) (by simp [hma, hmb])).mono ?_
  rintro e w3 ⟨Ay, ky, cy, rfl, oy, hb3⟩
  rw [Nat.add_comm] at oy
  obtain ⟨hry, hky, _, _⟩ := oy.rd
  have hly : ky ≤ 1001 := by omega
  clear hky oy
  replace hra := hra.below hb3
  replace hrb := hrb.below hb3
  replace hrc := hrc.below hb3
  replace hrx := hrx.below hb3
  replace hb3 := below_then hb2 hb3
  clear hb2
  go_wp2_with fail
  refine (check_any _ _ _ c _ hrc (by omega)).mono ?_
  rw [bad_zero (by simp [hmc])]
  rintro e w4 ⟨rfl, hb4⟩
  replace hra := hra.below hb4
  replace hrb := hrb.below hb4
  replace hrc := hrc.below hb4
  replace hrx := hrx.below hb4
  replace hry := hry.below hb4
  replace hb4 := below_then hb3 hb4
  clear hb3
  go_wp2_with fail
  refine (add_ok _ _ _ _ _ _ _ c _ hrx hrc (by omega) (by omega) (by simp [hmx, hmc])).mono ?_
  rintro e w5 ⟨Ap, kp, cp, rfl, op, hb5⟩
  rw [val_limbs] at op
  obtain ⟨hrp, hkp, _, _⟩ := op.rd
  have hlp : kp ≤ 1002 := by omega
  clear hkp op
  replace hra := hra.below hb5
  replace hrb := hrb.below hb5
  replace hrc := hrc.below hb5
  replace hrx := hrx.below hb5
  replace hry := hry.below hb5
  replace hb5 := below_then hb4 hb5
  clear hb4
  go_wp2_with fail
  refine (add_ok _ _ _ _ _ _ b c _ hrb hrc (by omega) (by omega) (by simp [hmb, hmc])).mono ?_
  rintro e w6 ⟨Aq, kq, cq, rfl, oq, hb6⟩
  obtain ⟨hrq, hkq, _, _⟩ := oq.rd
  have hlq : kq ≤ 1001 := by omega
  clear hkq oq
  replace hra := hra.below hb6
  replace hrb := hrb.below hb6
  replace hrc := hrc.below hb6
  replace hrx := hrx.below hb6
  replace hry := hry.below hb6
  replace hrp := hrp.below hb6
  replace hb6 := below_then hb5 hb6
  clear hb5
  go_wp2_with fail
  refine (add_ok _ _ _ _ _ _ a _ _ hra hrq (by omega) (by omega) (by simp [hma, hmq])).mono ?_
  rintro e w7 ⟨Ar, kr, cr, rfl, or, hb7⟩
  rw [val_limbs, ← Nat.add_assoc] at or
  obtain ⟨hrr, hkr, _, _⟩ := or.rd
  have hlr : kr ≤ 1002 := by omega
  clear hkr or
  replace hra := hra.below hb7
  replace hrb := hrb.below hb7
  replace hrc := hrc.below hb7
  replace hrx := hrx.below hb7
  replace hry := hry.below hb7
  replace hrp := hrp.below hb7
  replace hrq := hrq.below hb7
  replace hb7 := below_then hb6 hb7
  clear hb6
  go_wp2_with fail
  refine (sub_ok _ _ _ _ _ _ _ b _ hrx hrb (by omega) (by omega) (by simp [hmx, hmb]) hle).mono ?_
  rintro e w8 ⟨As, ks, cs, rfl, os, hb8⟩
  rw [val_limbs, Nat.add_sub_cancel, limbs_val hwa hma] at os
  obtain ⟨hrs, hks, _, _⟩ := os.rd
  have hls : ks ≤ 1000 := by omega
  clear hks os
  replace hra := hra.below hb8
  replace hrb := hrb.below hb8
  replace hrc := hrc.below hb8
  replace hrx := hrx.below hb8
  replace hry := hry.below hb8
  replace hrp := hrp.below hb8
  replace hrq := hrq.below hb8
  replace hrr := hrr.below hb8
  replace hb8 := below_then hb7 hb8
  clear hb7
  go_wp2_with fail
  refine (add_ok _ none _ _ 0 0 a [] _ hra (rd_nil _ none) (by omega) (by omega) (by simp [hma, show may [] = true from rfl])).mono ?_
  rintro e w9 ⟨At, kt, ct, rfl, ot, hb9⟩
  rw [val_nil, Nat.add_zero, limbs_val hwa hma] at ot
  obtain ⟨hrt, hkt, _, _⟩ := ot.rd
  have hlt : kt ≤ 1000 := by omega
  clear hkt ot
  replace hra := hra.below hb9
  replace hrb := hrb.below hb9
  replace hrc := hrc.below hb9
  replace hrx := hrx.below hb9
  replace hry := hry.below hb9
  replace hrp := hrp.below hb9
  replace hrq := hrq.below hb9
  replace hrr := hrr.below hb9
  replace hrs := hrs.below hb9
  replace hb9 := below_then hb8 hb9
  clear hb8
  go_wp2_with fail
  refine (same_any _ _ _ _ _ _ (limbs (val a + val b)) (limbs (val a + val b)) _ hrx hry (by omega) (by omega)).mono ?_
  rw [decide_eq_true (show (limbs (val a + val b)) = (limbs (val a + val b)) from rfl)]
  rintro e w10 ⟨rfl, hb10⟩
  replace hra := hra.below hb10
  replace hrb := hrb.below hb10
  replace hrc := hrc.below hb10
  replace hrx := hrx.below hb10
  replace hry := hry.below hb10
  replace hrp := hrp.below hb10
  replace hrq := hrq.below hb10
  replace hrr := hrr.below hb10
  replace hrs := hrs.below hb10
  replace hrt := hrt.below hb10
  replace hb10 := below_then hb9 hb10
  clear hb9
  go_wp2_with fail
  refine (same_any _ _ _ _ _ _ (limbs (val a + val b + val c)) (limbs (val a + val b + val c)) _ hrp hrr (by omega) (by omega)).mono ?_
  rw [decide_eq_true (show (limbs (val a + val b + val c)) = (limbs (val a + val b + val c)) from rfl)]
  rintro e w11 ⟨rfl, hb11⟩
  replace hra := hra.below hb11
  replace hrb := hrb.below hb11
  replace hrc := hrc.below hb11
  replace hrx := hrx.below hb11
  replace hry := hry.below hb11
  replace hrp := hrp.below hb11
  replace hrq := hrq.below hb11
  replace hrr := hrr.below hb11
  replace hrs := hrs.below hb11
  replace hrt := hrt.below hb11
  replace hb11 := below_then hb10 hb11
  clear hb10
  go_wp2_with fail
  refine (same_any _ _ _ _ _ _ a a _ hrs hra (by omega) (by omega)).mono ?_
  rw [decide_eq_true (show a = a from rfl)]
  rintro e w12 ⟨rfl, hb12⟩
  replace hra := hra.below hb12
  replace hrb := hrb.below hb12
  replace hrc := hrc.below hb12
  replace hrx := hrx.below hb12
  replace hry := hry.below hb12
  replace hrp := hrp.below hb12
  replace hrq := hrq.below hb12
  replace hrr := hrr.below hb12
  replace hrs := hrs.below hb12
  replace hrt := hrt.below hb12
  replace hb12 := below_then hb11 hb12
  clear hb11
  go_wp2_with fail
  refine (same_any _ _ _ _ _ _ a a _ hrt hra (by omega) (by omega)).mono ?_
  rw [decide_eq_true (show a = a from rfl)]
  rintro e w13 ⟨rfl, hb13⟩
  replace hra := hra.below hb13
  replace hrb := hrb.below hb13
  replace hrc := hrc.below hb13
  replace hrx := hrx.below hb13
  replace hry := hry.below hb13
  replace hrp := hrp.below hb13
  replace hrq := hrq.below hb13
  replace hrr := hrr.below hb13
  replace hrs := hrs.below hb13
  replace hrt := hrt.below hb13
  replace hb13 := below_then hb12 hb13
  clear hb12
  go_wp2_with fail
  refine (check_any _ _ _ (limbs (val a + val b)) _ hrx (by omega)).mono ?_
  rw [bad_zero (by simp [hmx])]
  rintro e w14 ⟨rfl, hb14⟩
  replace hra := hra.below hb14
  replace hrb := hrb.below hb14
  replace hrc := hrc.below hb14
  replace hrx := hrx.below hb14
  replace hry := hry.below hb14
  replace hrp := hrp.below hb14
  replace hrq := hrq.below hb14
  replace hrr := hrr.below hb14
  replace hrs := hrs.below hb14
  replace hrt := hrt.below hb14
  replace hb14 := below_then hb13 hb14
  clear hb13
  go_wp2_with fail
  refine (check_any _ _ _ a _ hrs (by omega)).mono ?_
  rw [bad_zero (by simp [hma])]
  rintro e w15 ⟨rfl, hb15⟩
  replace hra := hra.below hb15
  replace hrb := hrb.below hb15
  replace hrc := hrc.below hb15
  replace hrx := hrx.below hb15
  replace hry := hry.below hb15
  replace hrp := hrp.below hb15
  replace hrq := hrq.below hb15
  replace hrr := hrr.below hb15
  replace hrs := hrs.below hb15
  replace hrt := hrt.below hb15
  replace hb15 := below_then hb14 hb15
  clear hb14
  go_wp2_with fail
  go_ret
  exact ⟨rfl, hb15⟩

theorem natSums_any (hra : Rd w A na a) (hrb : Rd w A2 nb b) (hrc : Rd w A3 nc c) (h1 : na ≤ 9223372036854775807) (h2 : nb ≤ 9223372036854775807) (h3 : nc ≤ 9223372036854775807) :
    Calls Try.prog 6 #[.slice A na ca, .slice A2 nb cb, .slice A3 nc cc] w fun e w' => e = .returned (.bool true) ∧ Below w.heap.size w w' := by
  by_cases hl : 1000 < na ∨ 1000 < nb ∨ 1000 < nc
  · exact natSums_long A A2 A3 na ca nb cb nc cc w hl h1 h2 h3
  · cases hma : may a with
    | false => exact natSums_bad A A2 A3 na ca nb cb nc cc a b w hra hrb (by omega) (by omega) (by omega) (by simp [hma])
    | true =>
      cases hmb : may b with
      | false => exact natSums_bad A A2 A3 na ca nb cb nc cc a b w hra hrb (by omega) (by omega) (by omega) (by simp [hma, hmb])
      | true =>
        cases hmc : may c with
        | false => exact natSums_bad3 A A2 A3 na ca nb cb nc cc a b c w hra hrb hrc (by omega) (by omega) (by omega) (by simp [hma, hmb]) (by simp [hmc])
        | true => exact natSums_ok A A2 A3 na ca nb cb nc cc a b c w hra hrb hrc (by omega) (by omega) (by omega) hma hmb hmc
end
end Go.Proofs.Ytjpphhfhkdkfhaa
