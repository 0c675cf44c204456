import Derived.Test.YtoehkaagfokamaaZGSpec
import Derived.Test.YtoehkaagfokamaaZCopy
/- GTells. -/
/- The law GcdTells: common divisors and multiples are the document's. -/
namespace Go.Proofs.Ytoehkaagfokamaa
open Go.RowKit Go.Shelf
set_option linter.unusedVariables false
set_option linter.unusedSimpArgs false

section
variable (A A2 : Option Addr) (na ca nb cb : Nat) (a b : List Nat) (w : World)
theorem gcdL_len (hra : Rd w A na a) (hrb : Rd w A2 nb b) : (gcdL a b).length ≤ na + nb := by
  unfold gcdL
  split
  · rename_i h
    have hm : may a = true ∧ may b = true := by simpa [both] using h
    by_cases h0 : val a = 0
    · rw [h0, Nat.gcd_zero_left, limbs_val hrb.words hm.2, hrb.len]; omega
    · have := length_of_le hra.words (Nat.gcd_le_left (val b) (Nat.pos_of_ne_zero h0))
      rw [hra.len] at this
      omega
  · simp
theorem lcmL_len (hra : Rd w A na a) (hrb : Rd w A2 nb b) : (lcmL a b).length ≤ na + nb := by
  unfold lcmL
  split
  · have h : Nat.lcm (val a) (val b) ≤ val a * val b := Nat.div_le_self _ _
    have h2 := length_of_le (words_limbs (val a * val b)) (n := Nat.lcm (val a) (val b)) (by rw [val_limbs]; exact h)
    have h3 := length_mul hra.words hrb.words
    rw [hra.len, hrb.len] at h3
    omega
  · simp

set_option maxRecDepth 100000 in
set_option maxHeartbeats 2500000 in
theorem gcdTells_long (hb : 4 < na ∨ 4 < nb) (h1 : na ≤ 9223372036854775807) (h2 : nb ≤ 9223372036854775807) :
    Calls Try.prog 3 #[.slice A na ca, .slice A2 nb cb] w fun e w' => e = .returned (.bool true) ∧ Below w.heap.size w w' := by
  by_cases ha : 4 < na
  · clear hb
    go_enter Try.func3, Try.ntmps3
    go_wp2
    go_ret
    exact ⟨rfl, Below.refl _ _⟩
  · have hc : 4 < nb := by omega
    clear hb
    go_enter Try.func3, Try.ntmps3
    go_wp2
    go_ret
    exact ⟨rfl, Below.refl _ _⟩

set_option maxRecDepth 100000 in
set_option maxHeartbeats 3000000 in
theorem gcdTells_short (hG : GcdIs 4) (hM : LcmIs 6) (hra : Rd w A na a) (hrb : Rd w A2 nb b) (h1 : na ≤ 4) (h2 : nb ≤ 4) (q1 : na ≤ ca ∧ ca ≤ 9223372036854775807) (q2 : nb ≤ cb ∧ cb ≤ 9223372036854775807) (hca : A = none → na = 0 ∧ ca = 0) :
    Calls Try.prog 3 #[.slice A na ca, .slice A2 nb cb] w fun e w' => e = .returned (.bool true) ∧ Below w.heap.size w w' := by
  obtain ⟨i0, hi0, hz0, hz1, hz2⟩ := info_parts u64_info
  have lg0 := gcdL_len A A2 na nb a b w hra hrb
  have ll0 := lcmL_len A A2 na nb a b w hra hrb
  have HCA := Lib.hid hca
  clear hca
  go_enter Try.func3, Try.ntmps3
  go_wp2_with (at_builtin; go_loud (refine wpList_copy rfl _ _ 23 rfl i0 Try.underlying23 hi0 hz0 hz1 hz2 rfl A na ca a rfl HCA.out hra (by omega) ?_); intro Ao co w1 hown hb1)
  replace hra := hra.below hb1
  replace hrb := hrb.below hb1
  have hro := hown.rd.1
  have qo : na ≤ co ∧ co ≤ 9223372036854775807 := ⟨hown.rd.2.2.1, hown.rd.2.2.2⟩
  clear hown
  go_wp2_with fail
  have ltO := hro.lt
  have ltA := hra.lt
  have hGx : w.heap.size ≤ w1.heap.size := hb1.size
  refine (hG Ao A2 na co nb cb a b _ hro hrb (by omega) (by omega) qo q2).mono ?_
  rintro e w2 ⟨Ax, kx, cx, rfl, ox, hb2⟩
  generalize hBx : w1.heap.size = Bx at ox ltO ltA hGx
  have lx : kx ≤ 8 := by have := ox.rd.2.1; omega
  replace hra := hra.below hb2
  replace hrb := hrb.below hb2
  replace hro := hro.below hb2
  replace hb2 := below_then hb1 hb2
  clear hb1
  go_wp2_with fail
  refine (rGcd_spec A A2 na ca nb cb a b _ hra hrb (by omega) (by omega) q1 q2).mono ?_
  rintro e w3 ⟨Ay, ky, cy, rfl, oy, hb3⟩
  have ry := oy.rd.1
  have ly : ky ≤ 8 := by have := oy.rd.2.1; omega
  clear oy
  replace hra := hra.below hb3
  replace hrb := hrb.below hb3
  replace hro := hro.below hb3
  replace ox := ox.below hb3
  replace hb3 := below_then hb2 hb3
  clear hb2
  go_wp2_with fail
  refine (hM Ao A2 na co nb cb a b _ hro hrb (by omega) (by omega) qo q2).mono ?_
  rintro e w4 ⟨Az, kz, cz, rfl, oz, hb4⟩
  have rz := oz.rd.1
  have lz : kz ≤ 8 := by have := oz.rd.2.1; omega
  clear oz
  replace hra := hra.below hb4
  replace hrb := hrb.below hb4
  replace hro := hro.below hb4
  replace ox := ox.below hb4
  replace ry := ry.below hb4
  replace hb4 := below_then hb3 hb4
  clear hb3
  go_wp2_with fail
  refine (rLcm_spec A A2 na ca nb cb a b _ hra hrb (by omega) (by omega) q1 q2).mono ?_
  rintro e w5 ⟨Av, kv, cv, rfl, ov, hb5⟩
  have rv := ov.rd.1
  have lv : kv ≤ 8 := by have := ov.rd.2.1; omega
  clear ov
  replace hra := hra.below hb5
  replace hrb := hrb.below hb5
  replace hro := hro.below hb5
  replace ox := ox.below hb5
  replace ry := ry.below hb5
  replace rz := rz.below hb5
  replace hb5 := below_then hb4 hb5
  clear hb4
  go_wp2_with fail
  refine (same_any _ _ _ _ _ _ (gcdL a b) (gcdL a b) _ ox.rd.1 ry (by omega) (by omega)).mono ?_
  rw [decide_eq_true (show gcdL a b = gcdL a b from rfl)]
  rintro e w6 ⟨rfl, hb6⟩
  replace hra := hra.below hb6
  replace hrb := hrb.below hb6
  replace hro := hro.below hb6
  replace ox := ox.below hb6
  replace rz := rz.below hb6
  replace rv := rv.below hb6
  replace hb6 := below_then hb5 hb6
  clear hb5
  go_wp2_with fail
  refine (same_any _ _ _ _ _ _ (lcmL a b) (lcmL a b) _ rz rv (by omega) (by omega)).mono ?_
  rw [decide_eq_true (show lcmL a b = lcmL a b from rfl)]
  rintro e w7 ⟨rfl, hb7⟩
  replace hra := hra.below hb7
  replace hrb := hrb.below hb7
  replace hro := hro.below hb7
  replace ox := ox.below hb7
  replace hb7 := below_then hb6 hb7
  clear hb6
  have hlx : kx ≤ 8 := lx
  go_wp2_with fail
  go_loopw [15] (fun i W => ∃ (k : Nat) (l : List Nat), k ≤ kx ∧ i = .int .i64 (k : Int) ∧ Own W Bx (.slice Ax kx cx) l ∧ KeepsOf (But w7.heap.size (.slice Ax kx cx)) w7 W ∧ Below w.heap.size w W) (fun i _ => kx - (intOf i).toNat)
  case atStart => exact ⟨0, _, by omega, rfl, ox, KeepsOf.refl _, hb7⟩
  case round =>
    obtain ⟨k, l, hk, rfl, ol, hkeep, hB⟩ := hrel
    by_cases hlt : k < kx
    · obtain ⟨g, rfl, hg, _⟩ := own_at ol (by omega)
      have hcell := (own_cell ol hlt).1
      have hfr := (own_cell ol hlt).2
      have OL := Lib.hid ol
      have HK := Lib.hid hkeep
      clear ol hkeep hra hrb hro ox
      go_wp2
      go_roundw
      case rel =>
        rw [incr_word]
        exact ⟨k + 1, _, by omega, by go_num, own_set OL.out hlt (Nat.mod_lt _ B64_pos), set_keeps _ _ HK.out, hB.setCell (p := ⟨g, k, none⟩) (Nat.le_trans hGx hg) _⟩
      case measure => simp [intOf]; omega
    · have hkn : k = kx := by omega
      subst hkn
      replace hra := rd_but hra ox ltA hkeep
      replace hro := rd_but hro ox ltO hkeep
      clear ol hkeep hrb ox ltO ltA hb7
      have hb50 := hB
      clear hB
      go_wp2_with fail
      refine (same_any _ _ _ _ _ _ a a _ hro hra (by omega) (by omega)).mono ?_
      rw [decide_eq_true (show a = a from rfl)]
      rintro e w51 ⟨rfl, hb51⟩
      replace hra := hra.below hb51
      replace hro := hro.below hb51
      replace hb51 := below_then hb50 hb51
      clear hb50
      go_wp2_with fail
      go_ret
      exact ⟨rfl, hb51⟩

theorem gcdTells_any (hG : GcdIs 4) (hM : LcmIs 6) (hra : Rd w A na a) (hrb : Rd w A2 nb b) (q1 : na ≤ ca ∧ ca ≤ 9223372036854775807) (q2 : nb ≤ cb ∧ cb ≤ 9223372036854775807) (hca : A = none → na = 0 ∧ ca = 0) :
    Calls Try.prog 3 #[.slice A na ca, .slice A2 nb cb] w fun e w' => e = .returned (.bool true) ∧ Below w.heap.size w w' := by
  by_cases h : 4 < na ∨ 4 < nb
  · exact gcdTells_long A A2 na ca nb cb w h (by omega) (by omega)
  · exact gcdTells_short A A2 na ca nb cb a b w hG hM hra hrb (by omega) (by omega) q1 q2 hca
end

end Go.Proofs.Ytoehkaagfokamaa
