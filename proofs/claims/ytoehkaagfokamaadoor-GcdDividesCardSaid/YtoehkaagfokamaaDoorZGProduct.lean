import Derived.Test.YtoehkaagfokamaaDoorZGSpec
/- GProduct. -/
/- The law GcdProduct: the greatest common divisor and the least common multiple make the product. -/
namespace Go.Proofs.YtoehkaagfokamaaDoor
open Go.RowKit Go.Shelf
set_option linter.unusedVariables false
set_option linter.unusedSimpArgs false

section
variable (hA : ∀ w : World, Calls Tryd.prog 5 #[] w fun e w' => e = .returned (.bool true) ∧ Below w.heap.size w w') (A A2 A3 : Option Addr) (na ca nb cb nc cc : Nat) (a b c : List Nat) (w : World)
include hA

set_option maxRecDepth 100000 in
set_option maxHeartbeats 2500000 in
theorem gcdProduct_long (hb : 10 < na ∨ 10 < nb ∨ 10 < nc) (h1 : na ≤ 9223372036854775807) (h2 : nb ≤ 9223372036854775807) (h3 : nc ≤ 9223372036854775807) :
    Calls Tryd.prog 4 #[.slice A na ca, .slice A2 nb cb, .slice A3 nc cc] w fun e w' => e = .returned (.bool true) ∧ Below w.heap.size w w' := by
  by_cases h50 : 10 < na
  · clear hb
    go_enter Tryd.func4, Tryd.ntmps4
    go_wp2_with (go_at_call 5; refine (hA _).mono ?_; rintro e w1 ⟨rfl, hb1⟩)
    go_ret
    exact ⟨rfl, hb1⟩
  · skip
    by_cases h51 : 10 < nb
    · clear hb
      go_enter Tryd.func4, Tryd.ntmps4
      go_wp2_with (go_at_call 5; refine (hA _).mono ?_; rintro e w1 ⟨rfl, hb1⟩)
      go_ret
      exact ⟨rfl, hb1⟩
    · skip
      have h99 : 10 < nc := by omega
      clear hb
      go_enter Tryd.func4, Tryd.ntmps4
      go_wp2_with (go_at_call 5; refine (hA _).mono ?_; rintro e w1 ⟨rfl, hb1⟩)
      go_ret
      exact ⟨rfl, hb1⟩

set_option maxRecDepth 100000 in
set_option maxHeartbeats 2500000 in
theorem gcdProduct_bad (hG : GcdIs 6) (hM : LcmIs 9) (hra : Rd w A na a) (hrb : Rd w A2 nb b) (h1 : na ≤ 10) (h2 : nb ≤ 10) (h3 : nc ≤ 10) (q1 : na ≤ ca ∧ ca ≤ 9223372036854775807) (q2 : nb ≤ cb ∧ cb ≤ 9223372036854775807) (hm : both a b = false) :
    Calls Tryd.prog 4 #[.slice A na ca, .slice A2 nb cb, .slice A3 nc cc] w fun e w' => e = .returned (.bool true) ∧ Below w.heap.size w w' := by
  have hm2 : [a, b].all may = false := by rw [both_all]; exact hm
  go_enter Tryd.func4, Tryd.ntmps4
  go_wp2_with fail
  refine (hA _).mono ?_
  rintro e w1 ⟨rfl, hb1⟩
  replace hra := hra.below hb1
  replace hrb := hrb.below hb1
  go_wp2_with fail
  refine (gcd_no hG hra hrb (by omega) (by omega) q1 q2 hm).mono ?_
  rintro e w2 ⟨Ag, cg, rfl, hb2⟩
  replace hra := hra.below hb2
  replace hrb := hrb.below hb2
  replace hb2 := below_then hb1 hb2
  clear hb1
  go_wp2_with fail
  refine (lcm_no hM hra hrb (by omega) (by omega) q1 q2 hm).mono ?_
  rintro e w3 ⟨Al, cl, rfl, hb3⟩
  replace hra := hra.below hb3
  replace hrb := hrb.below hb3
  replace hb3 := below_then hb2 hb3
  clear hb2
  go_wp2_with fail
  refine (Mul_bad A A2 na ca nb cb a b _ hra hrb (by omega) (by omega) hm2).mono ?_
  rintro e w4 ⟨rfl, hb4⟩
  replace hra := hra.below hb4
  replace hrb := hrb.below hb4
  replace hb4 := below_then hb3 hb4
  clear hb3
  go_wp2_with fail
  go_ret
  exact ⟨rfl, hb4⟩

set_option maxRecDepth 100000 in
set_option maxHeartbeats 3500000 in
theorem gcdProduct_badc (hG : GcdIs 6) (hM : LcmIs 9) (v u : Nat) (hva : Nm w A na ca v) (hub : Nm w A2 nb cb u) (hrc : Rd w A3 nc c) (hm : may c = false) (h1 : na ≤ 10) (h2 : nb ≤ 10) (h3 : nc ≤ 10) :
    Calls Tryd.prog 4 #[.slice A na ca, .slice A2 nb cb, .slice A3 nc cc] w fun e w' => e = .returned (.bool true) ∧ Below w.heap.size w w' := by
  have lg0 := gcd_len hva hub
  have ll0 := lcm_len hva hub
  have lp0 := mul_len hva hub
  have HB : Hid (bad [c] = 8) := bad_eight (by simp [hm])
  clear hm
  go_enter Tryd.func4, Tryd.ntmps4
  go_wp2_with fail
  refine (hA _).mono ?_
  rintro e w1 ⟨rfl, hb1⟩
  replace hva := hva.below hb1
  replace hub := hub.below hb1
  replace hrc := hrc.below hb1
  go_wp2_with fail
  refine (gcd_nm hG hva hub (by omega) (by omega)).mono ?_
  rintro e w2 ⟨Ag, kg, cg, rfl, og, hb2⟩
  have rg := og.nm
  have lg : kg ≤ 20 := by have := og.rd.2.1; omega
  clear og
  clear lg0
  replace hva := hva.below hb2
  replace hub := hub.below hb2
  replace hrc := hrc.below hb2
  replace hb2 := below_then hb1 hb2
  clear hb1
  go_wp2_with fail
  refine (lcm_nm hM hva hub (by omega) (by omega)).mono ?_
  rintro e w3 ⟨Al, kl, cl, rfl, ol, hb3⟩
  have rl := ol.nm
  have ll : kl ≤ 20 := by have := ol.rd.2.1; omega
  clear ol
  clear ll0
  replace hva := hva.below hb3
  replace hub := hub.below hb3
  replace hrc := hrc.below hb3
  replace rg := rg.below hb3
  replace hb3 := below_then hb2 hb3
  clear hb2
  go_wp2_with fail
  refine (mul_nm A A2 na ca nb cb v u _ hva hub (by omega) (by omega)).mono ?_
  rintro e w4 ⟨Ap, kp, cp, rfl, op, hb4⟩
  have rp := op.nm
  have lp : kp ≤ 20 := by have := op.rd.2.1; omega
  clear op
  clear lp0
  replace hva := hva.below hb4
  replace hub := hub.below hb4
  replace hrc := hrc.below hb4
  replace rg := rg.below hb4
  replace rl := rl.below hb4
  replace hb4 := below_then hb3 hb4
  clear hb3
  go_wp2_with fail
  refine (check_any A3 nc cc c _ hrc (by omega)).mono ?_
  rw [HB.out]
  rintro e w5 ⟨rfl, hb5⟩
  replace hva := hva.below hb5
  replace hub := hub.below hb5
  replace hrc := hrc.below hb5
  replace rg := rg.below hb5
  replace rl := rl.below hb5
  replace rp := rp.below hb5
  replace hb5 := below_then hb4 hb5
  clear hb4
  go_wp2_with fail
  go_ret
  exact ⟨rfl, hb5⟩

set_option maxRecDepth 100000 in
set_option maxHeartbeats 3500000 in
theorem gcdProduct_ok (hG : GcdIs 6) (hM : LcmIs 9) (v u t : Nat) (hva : Nm w A na ca v) (hub : Nm w A2 nb cb u) (htc : Nm w A3 nc cc t) (h1 : na ≤ 10) (h2 : nb ≤ 10) (h3 : nc ≤ 10) :
    Calls Tryd.prog 4 #[.slice A na ca, .slice A2 nb cb, .slice A3 nc cc] w fun e w' => e = .returned (.bool true) ∧ Below w.heap.size w w' := by
  have lg0 := gcd_len hva hub
  have ll0 := lcm_len hva hub
  have lp0 := mul_len hva hub
  have HB : Hid (bad [limbs t] = 0) := bad_zero (by simp [may_limbs])
  go_enter Tryd.func4, Tryd.ntmps4
  go_wp2_with fail
  refine (hA _).mono ?_
  rintro e w1 ⟨rfl, hb1⟩
  replace hva := hva.below hb1
  replace hub := hub.below hb1
  replace htc := htc.below hb1
  go_wp2_with fail
  refine (gcd_nm hG hva hub (by omega) (by omega)).mono ?_
  rintro e w2 ⟨Ag, kg, cg, rfl, og, hb2⟩
  have rg := og.nm
  have lg : kg ≤ 20 := by have := og.rd.2.1; omega
  clear og
  clear lg0
  replace hva := hva.below hb2
  replace hub := hub.below hb2
  replace htc := htc.below hb2
  replace hb2 := below_then hb1 hb2
  clear hb1
  go_wp2_with fail
  refine (lcm_nm hM hva hub (by omega) (by omega)).mono ?_
  rintro e w3 ⟨Al, kl, cl, rfl, ol, hb3⟩
  have rl := ol.nm
  have ll : kl ≤ 20 := by have := ol.rd.2.1; omega
  clear ol
  clear ll0
  replace hva := hva.below hb3
  replace hub := hub.below hb3
  replace htc := htc.below hb3
  replace rg := rg.below hb3
  replace hb3 := below_then hb2 hb3
  clear hb2
  go_wp2_with fail
  refine (mul_nm A A2 na ca nb cb v u _ hva hub (by omega) (by omega)).mono ?_
  rintro e w4 ⟨Ap, kp, cp, rfl, op, hb4⟩
  have rp := op.nm
  have lp : kp ≤ 20 := by have := op.rd.2.1; omega
  clear op
  clear lp0
  replace hva := hva.below hb4
  replace hub := hub.below hb4
  replace htc := htc.below hb4
  replace rg := rg.below hb4
  replace rl := rl.below hb4
  replace hb4 := below_then hb3 hb4
  clear hb3
  go_wp2_with fail
  refine (check_any A3 nc cc (limbs t) _ htc.rd (by omega)).mono ?_
  rw [HB.out]
  rintro e w5 ⟨rfl, hb5⟩
  have lq0 := mul_len rg rl
  replace hva := hva.below hb5
  replace hub := hub.below hb5
  replace htc := htc.below hb5
  replace rg := rg.below hb5
  replace rl := rl.below hb5
  replace rp := rp.below hb5
  replace hb5 := below_then hb4 hb5
  clear hb4
  go_wp2_with fail
  refine (mul_nm Ag Al kg cg kl cl (Nat.gcd v u) (Nat.lcm v u) _ rg rl (by omega) (by omega)).mono ?_
  rintro e w6 ⟨Aq, kq, cq, rfl, oq, hb6⟩
  have rq := oq.nm
  have lq : kq ≤ 40 := by have := oq.rd.2.1; omega
  clear oq
  clear lq0
  have lx0 := gcd_len rg htc
  replace hva := hva.below hb6
  replace hub := hub.below hb6
  replace htc := htc.below hb6
  replace rg := rg.below hb6
  replace rl := rl.below hb6
  replace rp := rp.below hb6
  replace hb6 := below_then hb5 hb6
  clear hb5
  go_wp2_with fail
  refine (gcd_nm hG rg htc (by omega) (by omega)).mono ?_
  rintro e w7 ⟨Ax, kx, cx, rfl, ox, hb7⟩
  have rx := ox.nm
  have lx : kx ≤ 30 := by have := ox.rd.2.1; omega
  clear ox
  clear lx0
  have ly0 := gcd_len hub htc
  replace hva := hva.below hb7
  replace hub := hub.below hb7
  replace htc := htc.below hb7
  replace rg := rg.below hb7
  replace rl := rl.below hb7
  replace rp := rp.below hb7
  replace rq := rq.below hb7
  replace hb7 := below_then hb6 hb7
  clear hb6
  go_wp2_with fail
  refine (gcd_nm hG hub htc (by omega) (by omega)).mono ?_
  rintro e w8 ⟨Ay, ky, cy, rfl, oy, hb8⟩
  have ry := oy.nm
  have ly : ky ≤ 20 := by have := oy.rd.2.1; omega
  clear oy
  clear ly0
  have lz0 := gcd_len hva ry
  replace hva := hva.below hb8
  replace hub := hub.below hb8
  replace htc := htc.below hb8
  replace rg := rg.below hb8
  replace rl := rl.below hb8
  replace rp := rp.below hb8
  replace rq := rq.below hb8
  replace rx := rx.below hb8
  replace hb8 := below_then hb7 hb8
  clear hb7
  go_wp2_with fail
  refine (gcd_nm hG hva ry (by omega) (by omega)).mono ?_
  rintro e w9 ⟨Az, kz, cz, rfl, oz, hb9⟩
  have rz := oz.nm
  have lz : kz ≤ 30 := by have := oz.rd.2.1; omega
  clear oz
  clear lz0
  have lu0 := mul_len hva htc
  replace hva := hva.below hb9
  replace hub := hub.below hb9
  replace htc := htc.below hb9
  replace rg := rg.below hb9
  replace rl := rl.below hb9
  replace rp := rp.below hb9
  replace rq := rq.below hb9
  replace rx := rx.below hb9
  replace ry := ry.below hb9
  replace hb9 := below_then hb8 hb9
  clear hb8
  go_wp2_with fail
  refine (mul_nm A A3 na ca nc cc v t _ hva htc (by omega) (by omega)).mono ?_
  rintro e w10 ⟨Au, ku, cu, rfl, ou, hb10⟩
  have ru := ou.nm
  have lu : ku ≤ 20 := by have := ou.rd.2.1; omega
  clear ou
  clear lu0
  have lv0 := mul_len hub htc
  replace hva := hva.below hb10
  replace hub := hub.below hb10
  replace htc := htc.below hb10
  replace rg := rg.below hb10
  replace rl := rl.below hb10
  replace rp := rp.below hb10
  replace rq := rq.below hb10
  replace rx := rx.below hb10
  replace ry := ry.below hb10
  replace rz := rz.below hb10
  replace hb10 := below_then hb9 hb10
  clear hb9
  go_wp2_with fail
  refine (mul_nm A2 A3 nb cb nc cc u t _ hub htc (by omega) (by omega)).mono ?_
  rintro e w11 ⟨Av, kv, cv, rfl, ov, hb11⟩
  have rv := ov.nm
  have lv : kv ≤ 20 := by have := ov.rd.2.1; omega
  clear ov
  clear lv0
  have lw0 := gcd_len ru rv
  replace hva := hva.below hb11
  replace hub := hub.below hb11
  replace htc := htc.below hb11
  replace rg := rg.below hb11
  replace rl := rl.below hb11
  replace rp := rp.below hb11
  replace rq := rq.below hb11
  replace rx := rx.below hb11
  replace ry := ry.below hb11
  replace rz := rz.below hb11
  replace ru := ru.below hb11
  replace hb11 := below_then hb10 hb11
  clear hb10
  go_wp2_with fail
  refine (gcd_nm hG ru rv (by omega) (by omega)).mono ?_
  rintro e w12 ⟨Aw, kw, cw, rfl, ow, hb12⟩
  have rww := ow.nm
  have lw : kw ≤ 40 := by have := ow.rd.2.1; omega
  clear ow
  clear lw0
  have lt0 := mul_len rg htc
  replace hva := hva.below hb12
  replace hub := hub.below hb12
  replace htc := htc.below hb12
  replace rg := rg.below hb12
  replace rl := rl.below hb12
  replace rp := rp.below hb12
  replace rq := rq.below hb12
  replace rx := rx.below hb12
  replace ry := ry.below hb12
  replace rz := rz.below hb12
  replace ru := ru.below hb12
  replace rv := rv.below hb12
  replace hb12 := below_then hb11 hb12
  clear hb11
  go_wp2_with fail
  refine (mul_nm Ag A3 kg cg nc cc (Nat.gcd v u) t _ rg htc (by omega) (by omega)).mono ?_
  rintro e w13 ⟨At, kt, ct, rfl, ot, hb13⟩
  have rt := ot.nm
  have lt : kt ≤ 30 := by have := ot.rd.2.1; omega
  clear ot
  clear lt0
  replace hva := hva.below hb13
  replace hub := hub.below hb13
  replace htc := htc.below hb13
  replace rg := rg.below hb13
  replace rl := rl.below hb13
  replace rp := rp.below hb13
  replace rq := rq.below hb13
  replace rx := rx.below hb13
  replace ry := ry.below hb13
  replace rz := rz.below hb13
  replace ru := ru.below hb13
  replace rv := rv.below hb13
  replace rww := rww.below hb13
  replace hb13 := below_then hb12 hb13
  clear hb12
  go_wp2_with fail
  refine (same_eq Ap Aq kp cp kq cq (v * u) (Nat.gcd v u * Nat.lcm v u) _ rp rq (by omega) (by omega) (Nat.gcd_mul_lcm v u).symm).mono ?_
  rintro e w14 ⟨rfl, hb14⟩
  replace hva := hva.below hb14
  replace hub := hub.below hb14
  replace htc := htc.below hb14
  replace rg := rg.below hb14
  replace rl := rl.below hb14
  replace rp := rp.below hb14
  replace rq := rq.below hb14
  replace rx := rx.below hb14
  replace ry := ry.below hb14
  replace rz := rz.below hb14
  replace ru := ru.below hb14
  replace rv := rv.below hb14
  replace rww := rww.below hb14
  replace rt := rt.below hb14
  replace hb14 := below_then hb13 hb14
  clear hb13
  go_wp2_with fail
  refine (same_eq Ax Az kx cx kz cz (Nat.gcd (Nat.gcd v u) t) (Nat.gcd v (Nat.gcd u t)) _ rx rz (by omega) (by omega) (Nat.gcd_assoc v u t)).mono ?_
  rintro e w15 ⟨rfl, hb15⟩
  replace hva := hva.below hb15
  replace hub := hub.below hb15
  replace htc := htc.below hb15
  replace rg := rg.below hb15
  replace rl := rl.below hb15
  replace rp := rp.below hb15
  replace rq := rq.below hb15
  replace rx := rx.below hb15
  replace ry := ry.below hb15
  replace rz := rz.below hb15
  replace ru := ru.below hb15
  replace rv := rv.below hb15
  replace rww := rww.below hb15
  replace rt := rt.below hb15
  replace hb15 := below_then hb14 hb15
  clear hb14
  go_wp2_with fail
  refine (same_eq Aw At kw cw kt ct (Nat.gcd (v * t) (u * t)) (Nat.gcd v u * t) _ rww rt (by omega) (by omega) (Nat.gcd_mul_right v t u)).mono ?_
  rintro e w16 ⟨rfl, hb16⟩
  replace hva := hva.below hb16
  replace hub := hub.below hb16
  replace htc := htc.below hb16
  replace rg := rg.below hb16
  replace rl := rl.below hb16
  replace rp := rp.below hb16
  replace rq := rq.below hb16
  replace rx := rx.below hb16
  replace ry := ry.below hb16
  replace rz := rz.below hb16
  replace ru := ru.below hb16
  replace rv := rv.below hb16
  replace rww := rww.below hb16
  replace rt := rt.below hb16
  replace hb16 := below_then hb15 hb16
  clear hb15
  go_wp2_with fail
  go_ret
  exact ⟨rfl, hb16⟩

theorem gcdProduct_any (hG : GcdIs 6) (hM : LcmIs 9) (hra : Rd w A na a) (hrb : Rd w A2 nb b) (hrc : Rd w A3 nc c) (q1 : na ≤ ca ∧ ca ≤ 9223372036854775807) (q2 : nb ≤ cb ∧ cb ≤ 9223372036854775807) (q3 : nc ≤ cc ∧ cc ≤ 9223372036854775807) :
    Calls Tryd.prog 4 #[.slice A na ca, .slice A2 nb cb, .slice A3 nc cc] w fun e w' => e = .returned (.bool true) ∧ Below w.heap.size w w' := by
  by_cases hl : 10 < na ∨ 10 < nb ∨ 10 < nc
  · exact gcdProduct_long hA A A2 A3 na ca nb cb nc cc w hl (by omega) (by omega) (by omega)
  · cases hm : both a b with
    | false => exact gcdProduct_bad hA A A2 A3 na ca nb cb nc cc a b w hG hM hra hrb (by omega) (by omega) (by omega) q1 q2 hm
    | true =>
      have hm2 : may a = true ∧ may b = true := by simpa [both] using hm
      have n1 := nm_of hra hm2.1 q1.1 q1.2
      have n2 := nm_of hrb hm2.2 q2.1 q2.2
      cases hmc : may c with
      | false => exact gcdProduct_badc hA A A2 A3 na ca nb cb nc cc c w hG hM _ _ n1 n2 hrc hmc (by omega) (by omega) (by omega)
      | true => exact gcdProduct_ok hA A A2 A3 na ca nb cb nc cc w hG hM _ _ _ n1 n2 (nm_of hrc hmc q3.1 q3.2) (by omega) (by omega) (by omega)
end

end Go.Proofs.YtoehkaagfokamaaDoor
