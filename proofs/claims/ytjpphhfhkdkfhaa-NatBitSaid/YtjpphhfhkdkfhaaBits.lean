import Derived.Test.YtjpphhfhkdkfhaaSums
import Derived.Test.YtjpphhfhkdkfhaaOrder
import Derived.Test.YtjpphhfhkdkfhaaBit
namespace Go.Proofs.Ytjpphhfhkdkfhaa
open Go.RowKit Go.Shelf
set_option linter.unusedVariables false
set_option linter.unusedSimpArgs false
section
variable (A : Option Addr) (na ca : Nat) (a : List Nat) (w : World)


set_option maxRecDepth 100000 in
set_option maxHeartbeats 4000000 in
theorem natBits_long (bits : Int) (hb : 100 < na ∨ bits < 0 ∨ 2000 < bits) (h1 : na ≤ 9223372036854775807) :
    Calls Try.prog 8 #[.slice A na ca, .int .i64 bits] w fun e w' => e = .returned (.bool true) ∧ Below w.heap.size w w' := by
  by_cases ha : 100 < na
  · go_enter Try.func8, Try.ntmps8
    go_wp2_with (go_at_call 16; refine (alive_any _).mono ?_; rintro e w1 ⟨rfl, hb1⟩)
    go_ret
    exact ⟨rfl, hb1⟩
  · by_cases hb2 : bits < 0
    · go_enter Try.func8, Try.ntmps8
      go_wp2_with (go_at_call 16; refine (alive_any _).mono ?_; rintro e w1 ⟨rfl, hb1⟩)
      go_ret
      exact ⟨rfl, hb1⟩
    · have hc : 2000 < bits := by omega
      go_enter Try.func8, Try.ntmps8
      go_wp2_with (go_at_call 16; refine (alive_any _).mono ?_; rintro e w1 ⟨rfl, hb1⟩)
      go_ret
      exact ⟨rfl, hb1⟩

set_option maxRecDepth 100000 in
set_option maxHeartbeats 4000000 in
theorem natBits_bad (hra : Rd w A na a) (h1 : na ≤ 100) (b : Nat) (hb : b ≤ 2000) (hm : may a = false) :
    Calls Try.prog 8 #[.slice A na ca, .int .i64 (b : Int)] w fun e w' => e = .returned (.bool true) ∧ Below w.heap.size w w' := by
  go_enter Try.func8, Try.ntmps8
  go_wp2_with fail
  refine (alive_any _).mono ?_
  rintro e w1 ⟨rfl, hb1⟩
  replace hra := hra.below hb1
  go_wp2_with fail
  refine (up_bad _ _ _ a _ _ hra (by omega) hm).mono ?_
  rintro e w2 ⟨rfl, hb2⟩
  replace hra := hra.below hb2
  replace hb2 := below_then hb1 hb2
  clear hb1
  go_wp2_with fail
  go_ret
  exact ⟨rfl, hb2⟩

set_option maxRecDepth 100000 in
set_option maxHeartbeats 4000000 in
theorem natBits_zero (hra : Rd w A na a) (h1 : na ≤ 100) (b : Nat) (hb : b ≤ 2000) (hm : may a = true) (h0 : val a = 0) :
    Calls Try.prog 8 #[.slice A na ca, .int .i64 (b : Int)] w fun e w' => e = .returned (.bool true) ∧ Below w.heap.size w w' := by
  have hwa := hra.words
  have hla := hra.len
  have hlu' : (limbs (val a * 2 ^ b)).length ≤ 132 := length_shift hwa (n := 100) (by omega) hb
  have hlt' : (limbs (val a * 2 ^ 1)).length ≤ 132 := length_shift hwa (n := 100) (by omega) (by omega)
  have hld' : (limbs (val a / 2 ^ b)).length ≤ 100 := length_div hwa (by omega)
  have hlg' : (limbs (val a / 2 ^ b * 2 ^ b)).length ≤ 132 := by
    have h := length_shift (words_limbs (val a / 2 ^ b)) (n := 100) hld' hb
    rwa [val_limbs] at h
  have hlr' : (limbs (val a - val a / 2 ^ b * 2 ^ b)).length ≤ 100 := length_sub_le hwa _ (by omega)
  have hle : val (limbs (val a / 2 ^ b * 2 ^ b)) ≤ val a := by rw [val_limbs]; exact Nat.div_mul_le_self _ _
  have hlong : blen (val a) ≤ 64 * na := blen_le (by
    rw [← B64_pow]; exact Nat.lt_of_lt_of_le (val_lt hwa) (Nat.pow_le_pow_right B64_pos (by omega)))
  have hrest : blen (val a - val a / 2 ^ b * 2 ^ b) ≤ b := blen_le (by
    have e1 := Nat.mod_add_div (val a) (2 ^ b)
    have e2 := Nat.mod_lt (val a) (Nat.two_pow_pos b)
    rw [Nat.mul_comm] at e1
    omega)
  obtain ⟨r, hr⟩ : ∃ r, blen (val a - val a / 2 ^ b * 2 ^ b) = r := ⟨_, rfl⟩
  rw [hr] at hrest
  have HR2 := Lib.hid hr
  clear hr
  have hn : blen (val a) = 0 := by rw [h0]; rfl
  have hm2 : blen (val a * 2 ^ b) = 0 := by rw [h0, Nat.zero_mul]; rfl
  have HN := Lib.hid hn
  have HM2 := Lib.hid hm2
  clear hn hm2 h0
  go_enter Try.func8, Try.ntmps8
  go_wp2_with fail
  refine (alive_any _).mono ?_
  rintro e w1 ⟨rfl, hb1⟩
  replace hra := hra.below hb1
  go_wp2_with fail
  refine (up_ok _ _ _ a b _ _ _ hra (by omega) hm (by omega) rfl rfl).mono ?_
  rintro e w2 ⟨Au, ku, cu, rfl, ou, hb2⟩
  obtain ⟨hru, hku, _, _⟩ := ou.rd
  have hlu : ku ≤ 132 := by omega
  clear hku ou
  replace hra := hra.below hb2
  replace hb2 := below_then hb1 hb2
  clear hb1
  go_wp2_with fail
  refine (down_ok _ _ _ (limbs (val a * 2 ^ b)) b _ _ _ hru (by omega) (may_limbs _) (by omega) rfl rfl).mono ?_
  rintro e w3 ⟨Ak, kk, ck, rfl, ok, hb3⟩
  rw [val_limbs, Nat.mul_div_cancel _ (Nat.two_pow_pos b), limbs_val hwa hm] at ok
  obtain ⟨hrk, hkk, _, _⟩ := ok.rd
  have hlk : kk ≤ 100 := by omega
  clear hkk ok
  replace hra := hra.below hb3
  replace hru := hru.below hb3
  replace hb3 := below_then hb2 hb3
  clear hb2
  go_wp2_with fail
  refine (long_ok _ _ _ a _ hra (by omega) hm).mono ?_
  rw [HN.out]
  rintro e w4 ⟨rfl, hb4⟩
  replace hra := hra.below hb4
  replace hru := hru.below hb4
  replace hrk := hrk.below hb4
  replace hb4 := below_then hb3 hb4
  clear hb3
  go_wp2_with fail
  refine (long_ok _ _ _ (limbs (val a * 2 ^ b)) _ hru (by omega) (may_limbs _)).mono ?_
  rw [val_limbs, HM2.out]
  rintro e w5 ⟨rfl, hb5⟩
  replace hra := hra.below hb5
  replace hru := hru.below hb5
  replace hrk := hrk.below hb5
  replace hb5 := below_then hb4 hb5
  clear hb4
  go_wp2_with fail
  refine (up_ok _ _ _ a 1 _ _ _ hra (by omega) hm (by omega) rfl rfl).mono ?_
  rintro e w6 ⟨At, kt, ct, rfl, ot, hb6⟩
  obtain ⟨hrt, hkt, _, _⟩ := ot.rd
  have hlt : kt ≤ 132 := by omega
  clear hkt ot
  replace hra := hra.below hb6
  replace hru := hru.below hb6
  replace hrk := hrk.below hb6
  replace hb6 := below_then hb5 hb6
  clear hb5
  go_wp2_with fail
  refine (add_ok _ _ _ _ _ _ a a _ hra hra (by omega) (by omega) (by simp [hm])).mono ?_
  rintro e w7 ⟨As, ks, cs, rfl, os, hb7⟩
  rw [show val a + val a = val a * 2 ^ 1 by omega] at os
  obtain ⟨hrs, hks, _, _⟩ := os.rd
  have hls : ks ≤ 132 := by omega
  clear hks os
  replace hra := hra.below hb7
  replace hru := hru.below hb7
  replace hrk := hrk.below hb7
  replace hrt := hrt.below hb7
  replace hb7 := below_then hb6 hb7
  clear hb6
  go_wp2_with fail
  refine (down_ok _ _ _ a b _ _ _ hra (by omega) hm (by omega) rfl rfl).mono ?_
  rintro e w8 ⟨Ad, kd, cd, rfl, od, hb8⟩
  obtain ⟨hrd, hkd, _, _⟩ := od.rd
  have hld : kd ≤ 100 := by omega
  clear hkd od
  replace hra := hra.below hb8
  replace hru := hru.below hb8
  replace hrk := hrk.below hb8
  replace hrt := hrt.below hb8
  replace hrs := hrs.below hb8
  replace hb8 := below_then hb7 hb8
  clear hb7
  go_wp2_with fail
  refine (up_ok _ _ _ (limbs (val a / 2 ^ b)) b _ _ _ hrd (by omega) (may_limbs _) (by omega) rfl rfl).mono ?_
  rintro e w9 ⟨Ag, kg, cg, rfl, og, hb9⟩
  rw [val_limbs] at og
  obtain ⟨hrg, hkg, _, _⟩ := og.rd
  have hlg : kg ≤ 132 := by omega
  clear hkg og
  replace hra := hra.below hb9
  replace hru := hru.below hb9
  replace hrk := hrk.below hb9
  replace hrt := hrt.below hb9
  replace hrs := hrs.below hb9
  replace hrd := hrd.below hb9
  replace hb9 := below_then hb8 hb9
  clear hb8
  go_wp2_with fail
  refine (sub_ok _ _ _ _ _ _ a (limbs (val a / 2 ^ b * 2 ^ b)) _ hra hrg (by omega) (by omega) (by simp [hm, may_limbs]) hle).mono ?_
  rintro e w10 ⟨Ar, kr, cr, rfl, or, hb10⟩
  rw [val_limbs] at or
  obtain ⟨hrr, hkr, _, _⟩ := or.rd
  have hlr : kr ≤ 100 := by omega
  clear hkr or
  replace hra := hra.below hb10
  replace hru := hru.below hb10
  replace hrk := hrk.below hb10
  replace hrt := hrt.below hb10
  replace hrs := hrs.below hb10
  replace hrd := hrd.below hb10
  replace hrg := hrg.below hb10
  replace hb10 := below_then hb9 hb10
  clear hb9
  go_wp2_with fail
  refine (long_ok _ _ _ (limbs (val a - val a / 2 ^ b * 2 ^ b)) _ hrr (by omega) (may_limbs _)).mono ?_
  rw [val_limbs, HR2.out]
  rintro e w11 ⟨rfl, hb11⟩
  replace hra := hra.below hb11
  replace hru := hru.below hb11
  replace hrk := hrk.below hb11
  replace hrt := hrt.below hb11
  replace hrs := hrs.below hb11
  replace hrd := hrd.below hb11
  replace hrg := hrg.below hb11
  replace hrr := hrr.below hb11
  replace hb11 := below_then hb10 hb11
  clear hb10
  go_wp2_with fail
  refine (same_any _ _ _ _ _ _ a a _ hrk hra (by omega) (by omega)).mono ?_
  rw [decide_eq_true (show a = a from rfl)]
  rintro e w12 ⟨rfl, hb12⟩
  replace hra := hra.below hb12
  replace hru := hru.below hb12
  replace hrk := hrk.below hb12
  replace hrt := hrt.below hb12
  replace hrs := hrs.below hb12
  replace hrd := hrd.below hb12
  replace hrg := hrg.below hb12
  replace hrr := hrr.below hb12
  replace hb12 := below_then hb11 hb12
  clear hb11
  go_wp2_with fail
  refine (same_any _ _ _ _ _ _ (limbs (val a * 2 ^ 1)) (limbs (val a * 2 ^ 1)) _ hrt hrs (by omega) (by omega)).mono ?_
  rw [decide_eq_true (show (limbs (val a * 2 ^ 1)) = (limbs (val a * 2 ^ 1)) from rfl)]
  rintro e w13 ⟨rfl, hb13⟩
  replace hra := hra.below hb13
  replace hru := hru.below hb13
  replace hrk := hrk.below hb13
  replace hrt := hrt.below hb13
  replace hrs := hrs.below hb13
  replace hrd := hrd.below hb13
  replace hrg := hrg.below hb13
  replace hrr := hrr.below hb13
  replace hb13 := below_then hb12 hb13
  clear hb12
  go_wp2_with fail
  go_ret
  exact ⟨rfl, hb13⟩

set_option maxRecDepth 100000 in
set_option maxHeartbeats 4000000 in
theorem natBits_pos (hra : Rd w A na a) (h1 : na ≤ 100) (b : Nat) (hb : b ≤ 2000) (hm : may a = true) (h0 : val a ≠ 0) :
    Calls Try.prog 8 #[.slice A na ca, .int .i64 (b : Int)] w fun e w' => e = .returned (.bool true) ∧ Below w.heap.size w w' := by
  have hwa := hra.words
  have hla := hra.len
  have hlu' : (limbs (val a * 2 ^ b)).length ≤ 132 := length_shift hwa (n := 100) (by omega) hb
  have hlt' : (limbs (val a * 2 ^ 1)).length ≤ 132 := length_shift hwa (n := 100) (by omega) (by omega)
  have hld' : (limbs (val a / 2 ^ b)).length ≤ 100 := length_div hwa (by omega)
  have hlg' : (limbs (val a / 2 ^ b * 2 ^ b)).length ≤ 132 := by
    have h := length_shift (words_limbs (val a / 2 ^ b)) (n := 100) hld' hb
    rwa [val_limbs] at h
  have hlr' : (limbs (val a - val a / 2 ^ b * 2 ^ b)).length ≤ 100 := length_sub_le hwa _ (by omega)
  have hle : val (limbs (val a / 2 ^ b * 2 ^ b)) ≤ val a := by rw [val_limbs]; exact Nat.div_mul_le_self _ _
  have hlong : blen (val a) ≤ 64 * na := blen_le (by
    rw [← B64_pow]; exact Nat.lt_of_lt_of_le (val_lt hwa) (Nat.pow_le_pow_right B64_pos (by omega)))
  have hrest : blen (val a - val a / 2 ^ b * 2 ^ b) ≤ b := blen_le (by
    have e1 := Nat.mod_add_div (val a) (2 ^ b)
    have e2 := Nat.mod_lt (val a) (Nat.two_pow_pos b)
    rw [Nat.mul_comm] at e1
    omega)
  obtain ⟨r, hr⟩ : ∃ r, blen (val a - val a / 2 ^ b * 2 ^ b) = r := ⟨_, rfl⟩
  rw [hr] at hrest
  have HR2 := Lib.hid hr
  clear hr
  have hm2 := blen_shift (b := b) h0
  obtain ⟨n, hn⟩ : ∃ n, blen (val a) = n := ⟨_, rfl⟩
  rw [hn] at hm2 hlong
  have hn0 : 0 < n := by rw [← hn]; exact (blen_pos h0).2.2
  have HN := Lib.hid hn
  have HM2 := Lib.hid hm2
  clear hn hm2 h0
  go_enter Try.func8, Try.ntmps8
  go_wp2_with fail
  refine (alive_any _).mono ?_
  rintro e w1 ⟨rfl, hb1⟩
  replace hra := hra.below hb1
  go_wp2_with fail
  refine (up_ok _ _ _ a b _ _ _ hra (by omega) hm (by omega) rfl rfl).mono ?_
  rintro e w2 ⟨Au, ku, cu, rfl, ou, hb2⟩
  obtain ⟨hru, hku, _, _⟩ := ou.rd
  have hlu : ku ≤ 132 := by omega
  clear hku ou
  replace hra := hra.below hb2
  replace hb2 := below_then hb1 hb2
  clear hb1
  go_wp2_with fail
  refine (down_ok _ _ _ (limbs (val a * 2 ^ b)) b _ _ _ hru (by omega) (may_limbs _) (by omega) rfl rfl).mono ?_
  rintro e w3 ⟨Ak, kk, ck, rfl, ok, hb3⟩
  rw [val_limbs, Nat.mul_div_cancel _ (Nat.two_pow_pos b), limbs_val hwa hm] at ok
  obtain ⟨hrk, hkk, _, _⟩ := ok.rd
  have hlk : kk ≤ 100 := by omega
  clear hkk ok
  replace hra := hra.below hb3
  replace hru := hru.below hb3
  replace hb3 := below_then hb2 hb3
  clear hb2
  go_wp2_with fail
  refine (long_ok _ _ _ a _ hra (by omega) hm).mono ?_
  rw [HN.out]
  rintro e w4 ⟨rfl, hb4⟩
  replace hra := hra.below hb4
  replace hru := hru.below hb4
  replace hrk := hrk.below hb4
  replace hb4 := below_then hb3 hb4
  clear hb3
  go_wp2_with fail
  refine (long_ok _ _ _ (limbs (val a * 2 ^ b)) _ hru (by omega) (may_limbs _)).mono ?_
  rw [val_limbs, HM2.out]
  rintro e w5 ⟨rfl, hb5⟩
  replace hra := hra.below hb5
  replace hru := hru.below hb5
  replace hrk := hrk.below hb5
  replace hb5 := below_then hb4 hb5
  clear hb4
  go_wp2_with fail
  refine (up_ok _ _ _ a 1 _ _ _ hra (by omega) hm (by omega) rfl rfl).mono ?_
  rintro e w6 ⟨At, kt, ct, rfl, ot, hb6⟩
  obtain ⟨hrt, hkt, _, _⟩ := ot.rd
  have hlt : kt ≤ 132 := by omega
  clear hkt ot
  replace hra := hra.below hb6
  replace hru := hru.below hb6
  replace hrk := hrk.below hb6
  replace hb6 := below_then hb5 hb6
  clear hb5
  go_wp2_with fail
  refine (add_ok _ _ _ _ _ _ a a _ hra hra (by omega) (by omega) (by simp [hm])).mono ?_
  rintro e w7 ⟨As, ks, cs, rfl, os, hb7⟩
  rw [show val a + val a = val a * 2 ^ 1 by omega] at os
  obtain ⟨hrs, hks, _, _⟩ := os.rd
  have hls : ks ≤ 132 := by omega
  clear hks os
  replace hra := hra.below hb7
  replace hru := hru.below hb7
  replace hrk := hrk.below hb7
  replace hrt := hrt.below hb7
  replace hb7 := below_then hb6 hb7
  clear hb6
  go_wp2_with fail
  refine (down_ok _ _ _ a b _ _ _ hra (by omega) hm (by omega) rfl rfl).mono ?_
  rintro e w8 ⟨Ad, kd, cd, rfl, od, hb8⟩
  obtain ⟨hrd, hkd, _, _⟩ := od.rd
  have hld : kd ≤ 100 := by omega
  clear hkd od
  replace hra := hra.below hb8
  replace hru := hru.below hb8
  replace hrk := hrk.below hb8
  replace hrt := hrt.below hb8
  replace hrs := hrs.below hb8
  replace hb8 := below_then hb7 hb8
  clear hb7
  go_wp2_with fail
  refine (up_ok _ _ _ (limbs (val a / 2 ^ b)) b _ _ _ hrd (by omega) (may_limbs _) (by omega) rfl rfl).mono ?_
  rintro e w9 ⟨Ag, kg, cg, rfl, og, hb9⟩
  rw [val_limbs] at og
  obtain ⟨hrg, hkg, _, _⟩ := og.rd
  have hlg : kg ≤ 132 := by omega
  clear hkg og
  replace hra := hra.below hb9
  replace hru := hru.below hb9
  replace hrk := hrk.below hb9
  replace hrt := hrt.below hb9
  replace hrs := hrs.below hb9
  replace hrd := hrd.below hb9
  replace hb9 := below_then hb8 hb9
  clear hb8
  go_wp2_with fail
  refine (sub_ok _ _ _ _ _ _ a (limbs (val a / 2 ^ b * 2 ^ b)) _ hra hrg (by omega) (by omega) (by simp [hm, may_limbs]) hle).mono ?_
  rintro e w10 ⟨Ar, kr, cr, rfl, or, hb10⟩
  rw [val_limbs] at or
  obtain ⟨hrr, hkr, _, _⟩ := or.rd
  have hlr : kr ≤ 100 := by omega
  clear hkr or
  replace hra := hra.below hb10
  replace hru := hru.below hb10
  replace hrk := hrk.below hb10
  replace hrt := hrt.below hb10
  replace hrs := hrs.below hb10
  replace hrd := hrd.below hb10
  replace hrg := hrg.below hb10
  replace hb10 := below_then hb9 hb10
  clear hb9
  go_wp2_with fail
  refine (long_ok _ _ _ (limbs (val a - val a / 2 ^ b * 2 ^ b)) _ hrr (by omega) (may_limbs _)).mono ?_
  rw [val_limbs, HR2.out]
  rintro e w11 ⟨rfl, hb11⟩
  replace hra := hra.below hb11
  replace hru := hru.below hb11
  replace hrk := hrk.below hb11
  replace hrt := hrt.below hb11
  replace hrs := hrs.below hb11
  replace hrd := hrd.below hb11
  replace hrg := hrg.below hb11
  replace hrr := hrr.below hb11
  replace hb11 := below_then hb10 hb11
  clear hb10
  go_wp2_with fail
  refine (same_any _ _ _ _ _ _ a a _ hrk hra (by omega) (by omega)).mono ?_
  rw [decide_eq_true (show a = a from rfl)]
  rintro e w12 ⟨rfl, hb12⟩
  replace hra := hra.below hb12
  replace hru := hru.below hb12
  replace hrk := hrk.below hb12
  replace hrt := hrt.below hb12
  replace hrs := hrs.below hb12
  replace hrd := hrd.below hb12
  replace hrg := hrg.below hb12
  replace hrr := hrr.below hb12
  replace hb12 := below_then hb11 hb12
  clear hb11
  go_wp2_with fail
  refine (same_any _ _ _ _ _ _ (limbs (val a * 2 ^ 1)) (limbs (val a * 2 ^ 1)) _ hrt hrs (by omega) (by omega)).mono ?_
  rw [decide_eq_true (show (limbs (val a * 2 ^ 1)) = (limbs (val a * 2 ^ 1)) from rfl)]
  rintro e w13 ⟨rfl, hb13⟩
  replace hra := hra.below hb13
  replace hru := hru.below hb13
  replace hrk := hrk.below hb13
  replace hrt := hrt.below hb13
  replace hrs := hrs.below hb13
  replace hrd := hrd.below hb13
  replace hrg := hrg.below hb13
  replace hrr := hrr.below hb13
  replace hb13 := below_then hb12 hb13
  clear hb12
  go_wp2_with fail
  go_ret
  exact ⟨rfl, hb13⟩

theorem natBits_any (bits : Int) (hra : Rd w A na a) (h1 : na ≤ 9223372036854775807) :
    Calls Try.prog 8 #[.slice A na ca, .int .i64 bits] w fun e w' => e = .returned (.bool true) ∧ Below w.heap.size w w' := by
  by_cases hl : 100 < na ∨ bits < 0 ∨ 2000 < bits
  · exact natBits_long A na ca w bits hl h1
  · obtain ⟨b, rfl⟩ := Int.eq_ofNat_of_zero_le (show 0 ≤ bits by omega)
    cases hm : may a with
    | false => exact natBits_bad A na ca a w hra (by omega) b (by omega) hm
    | true =>
      by_cases h0 : val a = 0
      · exact natBits_zero A na ca a w hra (by omega) b (by omega) hm h0
      · exact natBits_pos A na ca a w hra (by omega) b (by omega) hm h0
end
end Go.Proofs.Ytjpphhfhkdkfhaa
