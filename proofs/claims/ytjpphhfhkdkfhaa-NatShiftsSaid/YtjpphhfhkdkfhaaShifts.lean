/- The law NatShifts: how long a number is, its bits, and it times and divided by powers of two are the document's. -/
import Derived.Test.YtjpphhfhkdkfhaaTells
namespace Go.Proofs.Ytjpphhfhkdkfhaa
open Go.RowKit Go.Shelf
set_option linter.unusedVariables false
set_option linter.unusedSimpArgs false

theorem upL_length {a : List Nat} {bits : Int} (hw : Words a) (hl : a.length ≤ 100) (hb : bits ≤ 2000 ∨ 65536 < bits) : (upL a bits).length ≤ 200 := by
  unfold upL
  split
  · split
    · simp
    · next h =>
      exact Nat.le_trans (length_shift hw hl (show bits.toNat ≤ 2000 by omega)) (by omega)
  · simp
theorem downL_length {a : List Nat} {bits : Int} (hw : Words a) (hl : a.length ≤ 100) : (downL a bits).length ≤ 101 := by
  unfold downL
  split
  · split
    · simp
    · exact Nat.le_trans (limbs_length_le (Nat.lt_of_le_of_lt (Nat.div_le_self _ _) (Nat.lt_of_lt_of_le (val_lt hw) (Nat.pow_le_pow_right B64_pos hl)))) (by omega)
  · simp

section
variable (A : Option Addr) (na ca : Nat) (a : List Nat) (w : World) (i bits : Int)

set_option maxRecDepth 100000 in
set_option maxHeartbeats 1500000 in
theorem natShifts_long (hb : 100 < na ∨ (2000 < bits ∧ bits ≤ 65536)) (h1 : na ≤ 9223372036854775807) :
    Calls Try.prog 5 #[.slice A na ca, .int .i64 i, .int .i64 bits] w fun e w' => e = .returned (.bool true) ∧ Below w.heap.size w w' := by
  by_cases ha : 100 < na
  · go_enter Try.func5, Try.ntmps5
    go_wp2
    go_ret
    exact ⟨rfl, Below.refl _ _⟩
  · have hc : 2000 < bits := by omega
    have hd : bits ≤ 65536 := by omega
    go_enter Try.func5, Try.ntmps5
    go_wp2
    go_ret
    exact ⟨rfl, Below.refl _ _⟩

set_option maxRecDepth 100000 in
set_option maxHeartbeats 1500000 in
theorem natShifts_short (hra : Rd w A na a) (h1 : na ≤ 100) (hi2 : i ≤ 9223372036854775807) (hb : bits ≤ 2000) (hca : A = none → na = 0 ∧ ca = 0) :
    Calls Try.prog 5 #[.slice A na ca, .int .i64 i, .int .i64 bits] w fun e w' => e = .returned (.bool true) ∧ Below w.heap.size w w' := by
  obtain ⟨i0, hi0, hz0, hz1, hz2⟩ := info_parts u64_info
  have hlaZ : (upL a bits).length ≤ 200 := upL_length hra.words (by rw [hra.len]; omega) (by omega)
  have hlaM : (downL a bits).length ≤ 101 := downL_length hra.words (by rw [hra.len]; omega)
  have HCA := Lib.hid hca
  clear hca
  go_enter Try.func5, Try.ntmps5
  go_wp2_with (at_builtin; go_loud (refine wpList_copy rfl _ _ 27 rfl i0 Try.underlying27 hi0 hz0 hz1 hz2 rfl A na ca a rfl HCA.out hra h1 ?_); intro Ao co w1 hown hb1)
  replace hra := hra.below hb1
  have hro := hown.rd.1
  clear hown
  go_wp2_with fail
  refine (long_spec _ _ _ a _ hro (by omega)).mono ?_
  rintro e w2 ⟨rfl, hb2⟩
  replace hra := hra.below hb2
  replace hro := hro.below hb2
  replace hb2 := below_then hb1 hb2
  clear hb1
  go_wp2_with fail
  refine (rLong_spec _ _ _ a _ hra (by omega)).mono ?_
  rintro e w3 ⟨rfl, hb3⟩
  replace hra := hra.below hb3
  replace hro := hro.below hb3
  replace hb3 := below_then hb2 hb3
  clear hb2
  go_wp2_with fail
  refine (bit_spec _ _ _ a _ i hi2 hro (by omega)).mono ?_
  rintro e w4 ⟨rfl, hb4⟩
  replace hra := hra.below hb4
  replace hro := hro.below hb4
  replace hb4 := below_then hb3 hb4
  clear hb3
  go_wp2_with fail
  refine (rBit_spec _ _ _ a _ i hi2 hra (by omega)).mono ?_
  rintro e w5 ⟨rfl, hb5⟩
  replace hra := hra.below hb5
  replace hro := hro.below hb5
  replace hb5 := below_then hb4 hb5
  clear hb4
  go_wp2_with fail
  refine (up_spec _ _ _ a _ bits hro (by omega)).mono ?_
  rintro e w6 ⟨Az, kz, cz, rfl, oz, hb6⟩
  have rz := oz.rd.1
  have lz : kz ≤ 200 := by have := oz.rd.2.1; omega
  clear oz
  replace hra := hra.below hb6
  replace hro := hro.below hb6
  replace hb6 := below_then hb5 hb6
  clear hb5
  go_wp2_with fail
  refine (rUp_spec _ _ _ a _ bits hra (by omega)).mono ?_
  rintro e w7 ⟨Av, kv, cv, rfl, ov, hb7⟩
  have rv := ov.rd.1
  have lv : kv ≤ 200 := by have := ov.rd.2.1; omega
  clear ov
  replace hra := hra.below hb7
  replace hro := hro.below hb7
  replace rz := rz.below hb7
  replace hb7 := below_then hb6 hb7
  clear hb6
  go_wp2_with fail
  have ltO := hro.lt
  have ltA := hra.lt
  have hGm : w.heap.size ≤ w7.heap.size := hb7.size
  refine (down_spec _ _ _ a _ bits hro (by omega)).mono ?_
  rintro e w8 ⟨Am, km, cm, rfl, om, hb8⟩
  generalize hBm : w7.heap.size = Bm at om ltO ltA hGm
  replace hra := hra.below hb8
  replace hro := hro.below hb8
  replace rz := rz.below hb8
  replace rv := rv.below hb8
  replace hb8 := below_then hb7 hb8
  clear hb7
  go_wp2_with fail
  refine (rDown_spec _ _ _ a _ bits hra (by omega)).mono ?_
  rintro e w9 ⟨An, kn, cn, rfl, on, hb9⟩
  have rn := on.rd.1
  have ln : kn ≤ 101 := by have := on.rd.2.1; omega
  clear on
  replace hra := hra.below hb9
  replace hro := hro.below hb9
  replace rz := rz.below hb9
  replace rv := rv.below hb9
  replace om := om.below hb9
  replace hb9 := below_then hb8 hb9
  clear hb8
  go_wp2_with fail
  refine (same_any _ _ _ _ _ _ (upL a bits) (upL a bits) _ rz rv (by omega) (by omega)).mono ?_
  rw [decide_eq_true (show upL a bits = upL a bits from rfl)]
  rintro e w10 ⟨rfl, hb10⟩
  replace hra := hra.below hb10
  replace hro := hro.below hb10
  replace om := om.below hb10
  replace rn := rn.below hb10
  replace hb10 := below_then hb9 hb10
  clear hb9
  go_wp2_with fail
  refine (same_any _ _ _ _ _ _ (downL a bits) (downL a bits) _ om.rd.1 rn (by have := om.rd.2.1; omega) (by omega)).mono ?_
  rw [decide_eq_true (show downL a bits = downL a bits from rfl)]
  rintro e w11 ⟨rfl, hb11⟩
  replace hra := hra.below hb11
  replace hro := hro.below hb11
  replace om := om.below hb11
  replace hb11 := below_then hb10 hb11
  clear hb10
  have hlm : km ≤ 101 := by have := om.rd.2.1; omega
  go_wp2_with fail
  go_loopw [25] (fun i W => ∃ (k : Nat) (l : List Nat), k ≤ km ∧ i = .int .i64 (k : Int) ∧ Own W Bm (.slice Am km cm) l ∧ KeepsOf (But w11.heap.size (.slice Am km cm)) w11 W ∧ Below w.heap.size w W) (fun i _ => km - (intOf i).toNat)
  case atStart => exact ⟨0, _, by omega, rfl, om, KeepsOf.refl _, hb11⟩
  case round =>
    obtain ⟨k, l, hk, rfl, ol, hkeep, hB⟩ := hrel
    by_cases hlt : k < km
    · obtain ⟨g, rfl, hg, _⟩ := own_at ol (by omega)
      have hcell := (own_cell ol hlt).1
      have hfr := (own_cell ol hlt).2
      have OL := Lib.hid ol
      have HK := Lib.hid hkeep
      clear ol hkeep hra hro om
      go_wp2
      go_roundw
      case rel =>
        rw [incr_word]
        exact ⟨k + 1, _, by omega, by go_num, own_set OL.out hlt (Nat.mod_lt _ B64_pos), set_keeps _ _ HK.out, hB.setCell (p := ⟨g, k, none⟩) (Nat.le_trans hGm hg) _⟩
      case measure => simp [intOf]; omega
    · have hkn : k = km := by omega
      subst hkn
      replace hra := rd_but hra om ltA hkeep
      replace hro := rd_but hro om ltO hkeep
      clear ol hkeep om ltO ltA hb11
      have hb20 := hB
      clear hB
      go_wp2_with fail
      refine (same_any _ _ _ _ _ _ a a _ hro hra (by omega) (by omega)).mono ?_
      rw [decide_eq_true (show a = a from rfl)]
      rintro e w21 ⟨rfl, hb21⟩
      replace hb21 := below_then hb20 hb21
      clear hb20
      go_wp2_with fail
      go_ret
      exact ⟨rfl, hb21⟩

set_option maxRecDepth 100000 in
set_option maxHeartbeats 1500000 in
theorem natShifts_far (hra : Rd w A na a) (h1 : na ≤ 100) (hi2 : i ≤ 9223372036854775807) (hb : 65536 < bits) (hca : A = none → na = 0 ∧ ca = 0) :
    Calls Try.prog 5 #[.slice A na ca, .int .i64 i, .int .i64 bits] w fun e w' => e = .returned (.bool true) ∧ Below w.heap.size w w' := by
  obtain ⟨i0, hi0, hz0, hz1, hz2⟩ := info_parts u64_info
  have hlaZ : (upL a bits).length ≤ 200 := upL_length hra.words (by rw [hra.len]; omega) (by omega)
  have hlaM : (downL a bits).length ≤ 101 := downL_length hra.words (by rw [hra.len]; omega)
  have HCA := Lib.hid hca
  clear hca
  go_enter Try.func5, Try.ntmps5
  go_wp2_with (at_builtin; go_loud (refine wpList_copy rfl _ _ 27 rfl i0 Try.underlying27 hi0 hz0 hz1 hz2 rfl A na ca a rfl HCA.out hra h1 ?_); intro Ao co w1 hown hb1)
  replace hra := hra.below hb1
  have hro := hown.rd.1
  clear hown
  go_wp2_with fail
  refine (long_spec _ _ _ a _ hro (by omega)).mono ?_
  rintro e w2 ⟨rfl, hb2⟩
  replace hra := hra.below hb2
  replace hro := hro.below hb2
  replace hb2 := below_then hb1 hb2
  clear hb1
  go_wp2_with fail
  refine (rLong_spec _ _ _ a _ hra (by omega)).mono ?_
  rintro e w3 ⟨rfl, hb3⟩
  replace hra := hra.below hb3
  replace hro := hro.below hb3
  replace hb3 := below_then hb2 hb3
  clear hb2
  go_wp2_with fail
  refine (bit_spec _ _ _ a _ i hi2 hro (by omega)).mono ?_
  rintro e w4 ⟨rfl, hb4⟩
  replace hra := hra.below hb4
  replace hro := hro.below hb4
  replace hb4 := below_then hb3 hb4
  clear hb3
  go_wp2_with fail
  refine (rBit_spec _ _ _ a _ i hi2 hra (by omega)).mono ?_
  rintro e w5 ⟨rfl, hb5⟩
  replace hra := hra.below hb5
  replace hro := hro.below hb5
  replace hb5 := below_then hb4 hb5
  clear hb4
  go_wp2_with fail
  refine (up_spec _ _ _ a _ bits hro (by omega)).mono ?_
  rintro e w6 ⟨Az, kz, cz, rfl, oz, hb6⟩
  have rz := oz.rd.1
  have lz : kz ≤ 200 := by have := oz.rd.2.1; omega
  clear oz
  replace hra := hra.below hb6
  replace hro := hro.below hb6
  replace hb6 := below_then hb5 hb6
  clear hb5
  go_wp2_with fail
  refine (rUp_spec _ _ _ a _ bits hra (by omega)).mono ?_
  rintro e w7 ⟨Av, kv, cv, rfl, ov, hb7⟩
  have rv := ov.rd.1
  have lv : kv ≤ 200 := by have := ov.rd.2.1; omega
  clear ov
  replace hra := hra.below hb7
  replace hro := hro.below hb7
  replace rz := rz.below hb7
  replace hb7 := below_then hb6 hb7
  clear hb6
  go_wp2_with fail
  have ltO := hro.lt
  have ltA := hra.lt
  have hGm : w.heap.size ≤ w7.heap.size := hb7.size
  refine (down_spec _ _ _ a _ bits hro (by omega)).mono ?_
  rintro e w8 ⟨Am, km, cm, rfl, om, hb8⟩
  generalize hBm : w7.heap.size = Bm at om ltO ltA hGm
  replace hra := hra.below hb8
  replace hro := hro.below hb8
  replace rz := rz.below hb8
  replace rv := rv.below hb8
  replace hb8 := below_then hb7 hb8
  clear hb7
  go_wp2_with fail
  refine (rDown_spec _ _ _ a _ bits hra (by omega)).mono ?_
  rintro e w9 ⟨An, kn, cn, rfl, on, hb9⟩
  have rn := on.rd.1
  have ln : kn ≤ 101 := by have := on.rd.2.1; omega
  clear on
  replace hra := hra.below hb9
  replace hro := hro.below hb9
  replace rz := rz.below hb9
  replace rv := rv.below hb9
  replace om := om.below hb9
  replace hb9 := below_then hb8 hb9
  clear hb8
  go_wp2_with fail
  refine (same_any _ _ _ _ _ _ (upL a bits) (upL a bits) _ rz rv (by omega) (by omega)).mono ?_
  rw [decide_eq_true (show upL a bits = upL a bits from rfl)]
  rintro e w10 ⟨rfl, hb10⟩
  replace hra := hra.below hb10
  replace hro := hro.below hb10
  replace om := om.below hb10
  replace rn := rn.below hb10
  replace hb10 := below_then hb9 hb10
  clear hb9
  go_wp2_with fail
  refine (same_any _ _ _ _ _ _ (downL a bits) (downL a bits) _ om.rd.1 rn (by have := om.rd.2.1; omega) (by omega)).mono ?_
  rw [decide_eq_true (show downL a bits = downL a bits from rfl)]
  rintro e w11 ⟨rfl, hb11⟩
  replace hra := hra.below hb11
  replace hro := hro.below hb11
  replace om := om.below hb11
  replace hb11 := below_then hb10 hb11
  clear hb10
  have hlm : km ≤ 101 := by have := om.rd.2.1; omega
  go_wp2_with fail
  go_loopw [25] (fun i W => ∃ (k : Nat) (l : List Nat), k ≤ km ∧ i = .int .i64 (k : Int) ∧ Own W Bm (.slice Am km cm) l ∧ KeepsOf (But w11.heap.size (.slice Am km cm)) w11 W ∧ Below w.heap.size w W) (fun i _ => km - (intOf i).toNat)
  case atStart => exact ⟨0, _, by omega, rfl, om, KeepsOf.refl _, hb11⟩
  case round =>
    obtain ⟨k, l, hk, rfl, ol, hkeep, hB⟩ := hrel
    by_cases hlt : k < km
    · obtain ⟨g, rfl, hg, _⟩ := own_at ol (by omega)
      have hcell := (own_cell ol hlt).1
      have hfr := (own_cell ol hlt).2
      have OL := Lib.hid ol
      have HK := Lib.hid hkeep
      clear ol hkeep hra hro om
      go_wp2
      go_roundw
      case rel =>
        rw [incr_word]
        exact ⟨k + 1, _, by omega, by go_num, own_set OL.out hlt (Nat.mod_lt _ B64_pos), set_keeps _ _ HK.out, hB.setCell (p := ⟨g, k, none⟩) (Nat.le_trans hGm hg) _⟩
      case measure => simp [intOf]; omega
    · have hkn : k = km := by omega
      subst hkn
      replace hra := rd_but hra om ltA hkeep
      replace hro := rd_but hro om ltO hkeep
      clear ol hkeep om ltO ltA hb11
      have hb20 := hB
      clear hB
      go_wp2_with fail
      refine (same_any _ _ _ _ _ _ a a _ hro hra (by omega) (by omega)).mono ?_
      rw [decide_eq_true (show a = a from rfl)]
      rintro e w21 ⟨rfl, hb21⟩
      replace hb21 := below_then hb20 hb21
      clear hb20
      go_wp2_with fail
      go_ret
      exact ⟨rfl, hb21⟩

theorem natShifts_any (hra : Rd w A na a) (h1 : na ≤ 9223372036854775807) (hi2 : i ≤ 9223372036854775807) (hca : A = none → na = 0 ∧ ca = 0) :
    Calls Try.prog 5 #[.slice A na ca, .int .i64 i, .int .i64 bits] w fun e w' => e = .returned (.bool true) ∧ Below w.heap.size w w' := by
  by_cases h : 100 < na ∨ (2000 < bits ∧ bits ≤ 65536)
  · exact natShifts_long A na ca w i bits h h1
  · by_cases hb : bits ≤ 2000
    · exact natShifts_short A na ca a w i bits hra (by omega) hi2 hb hca
    · exact natShifts_far A na ca a w i bits hra (by omega) hi2 (by omega) hca
end
end Go.Proofs.Ytjpphhfhkdkfhaa
