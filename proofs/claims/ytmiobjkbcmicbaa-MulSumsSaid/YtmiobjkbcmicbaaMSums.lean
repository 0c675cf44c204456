/- The law MulSums: products go through sums, in any order. -/
import Derived.Test.YtmiobjkbcmicbaaMSpec
namespace Go.Proofs.Ytmiobjkbcmicbaa
open Go.RowKit Go.Shelf
set_option linter.unusedVariables false

section
variable (A A2 A3 : Option Addr) (na ca nb cb nc cc : Nat) (a b c : List Nat) (w : World)
set_option maxRecDepth 100000 in
set_option maxHeartbeats 2500000 in
theorem mulSums_long (hb : 200 < na ∨ 200 < nb ∨ 200 < nc) (h1 : na ≤ 9223372036854775807) (h2 : nb ≤ 9223372036854775807) (h3 : nc ≤ 9223372036854775807) :
    Calls Try.prog 6 #[.slice A na ca, .slice A2 nb cb, .slice A3 nc cc] w fun e w' => e = .returned (.bool true) ∧ Below w.heap.size w w' := by
  by_cases h50 : 200 < na
  · clear hb
    go_enter Try.func6, Try.ntmps6
    go_wp2_with (go_at_call 11; refine (malive_any _).mono ?_; rintro e w1 ⟨rfl, hb1⟩)
    go_ret
    exact ⟨rfl, hb1⟩
  · skip
    by_cases h51 : 200 < nb
    · clear hb
      go_enter Try.func6, Try.ntmps6
      go_wp2_with (go_at_call 11; refine (malive_any _).mono ?_; rintro e w1 ⟨rfl, hb1⟩)
      go_ret
      exact ⟨rfl, hb1⟩
    · skip
      have h99 : 200 < nc := by omega
      clear hb
      go_enter Try.func6, Try.ntmps6
      go_wp2_with (go_at_call 11; refine (malive_any _).mono ?_; rintro e w1 ⟨rfl, hb1⟩)
      go_ret
      exact ⟨rfl, hb1⟩

set_option maxRecDepth 100000 in
set_option maxHeartbeats 2500000 in
theorem mulSums_bad (hra : Rd w A na a) (hrb : Rd w A2 nb b) (hrc : Rd w A3 nc c) (h1 : na ≤ 200) (h2 : nb ≤ 200) (h3 : nc ≤ 200) (q1 : na ≤ ca ∧ ca ≤ 9223372036854775807) (q3 : nc ≤ cc ∧ cc ≤ 9223372036854775807) (hm : [a, b].all may = false) :
    Calls Try.prog 6 #[.slice A na ca, .slice A2 nb cb, .slice A3 nc cc] w fun e w' => e = .returned (.bool true) ∧ Below w.heap.size w w' := by
  have hm2 : [b, a].all may = false := by rw [all_swap]; exact hm
  go_enter Try.func6, Try.ntmps6
  go_wp2_with fail
  refine (malive_any _).mono ?_
  rintro e w1 ⟨rfl, hb1⟩
  replace hra := hra.below hb1
  replace hrb := hrb.below hb1
  replace hrc := hrc.below hb1
  go_wp2_with fail
  refine (Mul_bad A A2 na ca nb cb a b _ hra hrb (by omega) (by omega) hm).mono ?_
  rintro e w2 ⟨rfl, hb2⟩
  replace hra := hra.below hb2
  replace hrb := hrb.below hb2
  replace hrc := hrc.below hb2
  replace hb2 := below_then hb1 hb2
  clear hb1
  go_wp2_with fail
  refine (Mul_bad A2 A nb cb na ca b a _ hrb hra (by omega) (by omega) hm2).mono ?_
  rintro e w3 ⟨rfl, hb3⟩
  replace hra := hra.below hb3
  replace hrb := hrb.below hb3
  replace hrc := hrc.below hb3
  replace hb3 := below_then hb2 hb3
  clear hb2
  go_wp2_with fail
  refine (mul_spec A A3 na ca nc cc a c _ hra hrc (by omega) (by omega) q1 q3).mono ?_
  rintro e w4 ⟨Az, kz, cz, rfl, oz, hb4⟩
  clear oz
  replace hra := hra.below hb4
  replace hrb := hrb.below hb4
  replace hrc := hrc.below hb4
  replace hb4 := below_then hb3 hb4
  clear hb3
  go_wp2_with fail
  go_ret
  exact ⟨rfl, hb4⟩

set_option maxRecDepth 100000 in
set_option maxHeartbeats 2500000 in
theorem mulSums_bad3 (v u : Nat) (hva : Nm w A na ca v) (hub : Nm w A2 nb cb u) (hrc : Rd w A3 nc c) (h1 : na ≤ 200) (h2 : nb ≤ 200) (h3 : nc ≤ 200) (hm : may c = false) :
    Calls Try.prog 6 #[.slice A na ca, .slice A2 nb cb, .slice A3 nc cc] w fun e w' => e = .returned (.bool true) ∧ Below w.heap.size w w' := by
  have hm2 : [limbs v, c].all may = false := by simp [hm]
  go_enter Try.func6, Try.ntmps6
  go_wp2_with fail
  refine (malive_any _).mono ?_
  rintro e w1 ⟨rfl, hb1⟩
  replace hva := hva.below hb1
  replace hub := hub.below hb1
  replace hrc := hrc.below hb1
  go_wp2_with fail
  refine (mul_nm A A2 na ca nb cb v u _ hva hub (by omega) (by omega)).mono ?_
  rintro e w2 ⟨Ax, kx, cx, rfl, ox, hb2⟩
  clear ox
  replace hva := hva.below hb2
  replace hub := hub.below hb2
  replace hrc := hrc.below hb2
  replace hb2 := below_then hb1 hb2
  clear hb1
  go_wp2_with fail
  refine (mul_nm A2 A nb cb na ca u v _ hub hva (by omega) (by omega)).mono ?_
  rintro e w3 ⟨Ay, ky, cy, rfl, oy, hb3⟩
  clear oy
  replace hva := hva.below hb3
  replace hub := hub.below hb3
  replace hrc := hrc.below hb3
  replace hb3 := below_then hb2 hb3
  clear hb2
  go_wp2_with fail
  refine (Mul_bad A A3 na ca nc cc (limbs v) c _ hva.rd hrc (by omega) (by omega) hm2).mono ?_
  rintro e w4 ⟨rfl, hb4⟩
  replace hva := hva.below hb4
  replace hub := hub.below hb4
  replace hrc := hrc.below hb4
  replace hb4 := below_then hb3 hb4
  clear hb3
  go_wp2_with fail
  go_ret
  exact ⟨rfl, hb4⟩

set_option maxRecDepth 100000 in
set_option maxHeartbeats 2500000 in
theorem mulSums_ok (v u t : Nat) (hva : Nm w A na ca v) (hub : Nm w A2 nb cb u) (htc : Nm w A3 nc cc t) (h1 : na ≤ 200) (h2 : nb ≤ 200) (h3 : nc ≤ 200) :
    Calls Try.prog 6 #[.slice A na ca, .slice A2 nb cb, .slice A3 nc cc] w fun e w' => e = .returned (.bool true) ∧ Below w.heap.size w w' := by
  have lvu := mul_len hva hub
  have luv := mul_len hub hva
  have lvt := mul_len hva htc
  have lut := mul_len hub htc
  have lad := add_len hub htc h2 h3
  go_enter Try.func6, Try.ntmps6
  go_wp2_with fail
  refine (malive_any _).mono ?_
  rintro e w1 ⟨rfl, hb1⟩
  replace hva := hva.below hb1
  replace hub := hub.below hb1
  replace htc := htc.below hb1
  go_wp2_with fail
  refine (mul_nm A A2 na ca nb cb v u _ hva hub (by omega) (by omega)).mono ?_
  rintro e w2 ⟨Ax, kx, cx, rfl, ox, hb2⟩
  have rx := ox.nm
  have lx : kx ≤ 400 := by have := ox.rd.2.1; omega
  clear ox
  clear lvu
  replace hva := hva.below hb2
  replace hub := hub.below hb2
  replace htc := htc.below hb2
  replace hb2 := below_then hb1 hb2
  clear hb1
  go_wp2_with fail
  refine (mul_nm A2 A nb cb na ca u v _ hub hva (by omega) (by omega)).mono ?_
  rintro e w3 ⟨Ay, ky, cy, rfl, oy, hb3⟩
  have ry := oy.nm
  have ly : ky ≤ 400 := by have := oy.rd.2.1; omega
  clear oy
  clear luv
  replace hva := hva.below hb3
  replace hub := hub.below hb3
  replace htc := htc.below hb3
  replace rx := rx.below hb3
  replace hb3 := below_then hb2 hb3
  clear hb2
  go_wp2_with fail
  refine (mul_nm A A3 na ca nc cc v t _ hva htc (by omega) (by omega)).mono ?_
  rintro e w4 ⟨Az, kz, cz, rfl, oz, hb4⟩
  have rz := oz.nm
  have lz : kz ≤ 400 := by have := oz.rd.2.1; omega
  clear oz
  clear lvt
  replace hva := hva.below hb4
  replace hub := hub.below hb4
  replace htc := htc.below hb4
  replace rx := rx.below hb4
  replace ry := ry.below hb4
  replace hb4 := below_then hb3 hb4
  clear hb3
  go_wp2_with fail
  refine (add_nm A2 A3 nb cb nc cc u t _ hub htc (by omega) (by omega)).mono ?_
  rintro e w5 ⟨As, ks, cs, rfl, os, hb5⟩
  have rs := os.nm
  have ls : ks ≤ 201 := by have := os.rd.2.1; omega
  clear os
  clear lad
  have lp0 := mul_len hva rs
  replace hva := hva.below hb5
  replace hub := hub.below hb5
  replace htc := htc.below hb5
  replace rx := rx.below hb5
  replace ry := ry.below hb5
  replace rz := rz.below hb5
  replace hb5 := below_then hb4 hb5
  clear hb4
  go_wp2_with fail
  refine (mul_nm A As na ca ks cs v (u + t) _ hva rs (by omega) (by omega)).mono ?_
  rintro e w6 ⟨Ap, kp, cp, rfl, op, hb6⟩
  have rp := op.nm
  have lp : kp ≤ 401 := by have := op.rd.2.1; omega
  clear op
  clear lp0
  have lq0 := add_len rx rz lx lz
  replace hva := hva.below hb6
  replace hub := hub.below hb6
  replace htc := htc.below hb6
  replace rx := rx.below hb6
  replace ry := ry.below hb6
  replace rz := rz.below hb6
  replace rs := rs.below hb6
  replace hb6 := below_then hb5 hb6
  clear hb5
  go_wp2_with fail
  refine (add_nm Ax Az kx cx kz cz (v * u) (v * t) _ rx rz (by omega) (by omega)).mono ?_
  rintro e w7 ⟨Aq, kq, cq, rfl, oq, hb7⟩
  have rq := oq.nm
  have lq : kq ≤ 401 := by have := oq.rd.2.1; omega
  clear oq
  clear lq0
  replace hva := hva.below hb7
  replace hub := hub.below hb7
  replace htc := htc.below hb7
  replace rx := rx.below hb7
  replace ry := ry.below hb7
  replace rz := rz.below hb7
  replace rs := rs.below hb7
  replace rp := rp.below hb7
  replace hb7 := below_then hb6 hb7
  clear hb6
  go_wp2_with fail
  refine (mul_nm A2 A3 nb cb nc cc u t _ hub htc (by omega) (by omega)).mono ?_
  rintro e w8 ⟨Av, kv, cv, rfl, ov, hb8⟩
  have rv := ov.nm
  have lv : kv ≤ 400 := by have := ov.rd.2.1; omega
  clear ov
  clear lut
  have lu0 := mul_len hva rv
  replace hva := hva.below hb8
  replace hub := hub.below hb8
  replace htc := htc.below hb8
  replace rx := rx.below hb8
  replace ry := ry.below hb8
  replace rz := rz.below hb8
  replace rs := rs.below hb8
  replace rp := rp.below hb8
  replace rq := rq.below hb8
  replace hb8 := below_then hb7 hb8
  clear hb7
  go_wp2_with fail
  refine (mul_nm A Av na ca kv cv v (u * t) _ hva rv (by omega) (by omega)).mono ?_
  rintro e w9 ⟨Au, ku, cu, rfl, ou, hb9⟩
  have ru := ou.nm
  have lu : ku ≤ 600 := by have := ou.rd.2.1; omega
  clear ou
  clear lu0
  have lw0 := mul_len rx htc
  replace hva := hva.below hb9
  replace hub := hub.below hb9
  replace htc := htc.below hb9
  replace rx := rx.below hb9
  replace ry := ry.below hb9
  replace rz := rz.below hb9
  replace rs := rs.below hb9
  replace rp := rp.below hb9
  replace rq := rq.below hb9
  replace rv := rv.below hb9
  replace hb9 := below_then hb8 hb9
  clear hb8
  go_wp2_with fail
  refine (mul_nm Ax A3 kx cx nc cc (v * u) t _ rx htc (by omega) (by omega)).mono ?_
  rintro e w10 ⟨Aw, kw, cw, rfl, ow, hb10⟩
  have rww := ow.nm
  have lw : kw ≤ 600 := by have := ow.rd.2.1; omega
  clear ow
  clear lw0
  replace hva := hva.below hb10
  replace hub := hub.below hb10
  replace htc := htc.below hb10
  replace rx := rx.below hb10
  replace ry := ry.below hb10
  replace rz := rz.below hb10
  replace rs := rs.below hb10
  replace rp := rp.below hb10
  replace rq := rq.below hb10
  replace rv := rv.below hb10
  replace ru := ru.below hb10
  replace hb10 := below_then hb9 hb10
  clear hb9
  go_wp2_with fail
  refine (same_eq Ax Ay kx cx ky cy (v * u) (u * v) _ rx ry (by omega) (by omega) (Nat.mul_comm _ _)).mono ?_
  rintro e w11 ⟨rfl, hb11⟩
  replace hva := hva.below hb11
  replace hub := hub.below hb11
  replace htc := htc.below hb11
  replace rx := rx.below hb11
  replace ry := ry.below hb11
  replace rz := rz.below hb11
  replace rs := rs.below hb11
  replace rp := rp.below hb11
  replace rq := rq.below hb11
  replace rv := rv.below hb11
  replace ru := ru.below hb11
  replace rww := rww.below hb11
  replace hb11 := below_then hb10 hb11
  clear hb10
  go_wp2_with fail
  refine (same_eq Ap Aq kp cp kq cq (v * (u + t)) (v * u + v * t) _ rp rq (by omega) (by omega) (Nat.mul_add _ _ _)).mono ?_
  rintro e w12 ⟨rfl, hb12⟩
  replace hva := hva.below hb12
  replace hub := hub.below hb12
  replace htc := htc.below hb12
  replace rx := rx.below hb12
  replace ry := ry.below hb12
  replace rz := rz.below hb12
  replace rs := rs.below hb12
  replace rp := rp.below hb12
  replace rq := rq.below hb12
  replace rv := rv.below hb12
  replace ru := ru.below hb12
  replace rww := rww.below hb12
  replace hb12 := below_then hb11 hb12
  clear hb11
  go_wp2_with fail
  refine (same_eq Au Aw ku cu kw cw (v * (u * t)) (v * u * t) _ ru rww (by omega) (by omega) (Nat.mul_assoc _ _ _).symm).mono ?_
  rintro e w13 ⟨rfl, hb13⟩
  replace hva := hva.below hb13
  replace hub := hub.below hb13
  replace htc := htc.below hb13
  replace rx := rx.below hb13
  replace ry := ry.below hb13
  replace rz := rz.below hb13
  replace rs := rs.below hb13
  replace rp := rp.below hb13
  replace rq := rq.below hb13
  replace rv := rv.below hb13
  replace ru := ru.below hb13
  replace rww := rww.below hb13
  replace hb13 := below_then hb12 hb13
  clear hb12
  go_wp2_with fail
  go_ret
  exact ⟨rfl, hb13⟩

theorem mulSums_any (hra : Rd w A na a) (hrb : Rd w A2 nb b) (hrc : Rd w A3 nc c) (q1 : na ≤ ca ∧ ca ≤ 9223372036854775807) (q2 : nb ≤ cb ∧ cb ≤ 9223372036854775807) (q3 : nc ≤ cc ∧ cc ≤ 9223372036854775807) :
    Calls Try.prog 6 #[.slice A na ca, .slice A2 nb cb, .slice A3 nc cc] w fun e w' => e = .returned (.bool true) ∧ Below w.heap.size w w' := by
  by_cases hl : 200 < na ∨ 200 < nb ∨ 200 < nc
  · exact mulSums_long A A2 A3 na ca nb cb nc cc w hl (by omega) (by omega) (by omega)
  · cases hma : may a with
    | false => exact mulSums_bad A A2 A3 na ca nb cb nc cc a b c w hra hrb hrc (by omega) (by omega) (by omega) q1 q3 (by simp [hma])
    | true =>
      cases hmb : may b with
      | false => exact mulSums_bad A A2 A3 na ca nb cb nc cc a b c w hra hrb hrc (by omega) (by omega) (by omega) q1 q3 (by simp [hma, hmb])
      | true =>
        have n1 := nm_of hra hma q1.1 q1.2
        have n2 := nm_of hrb hmb q2.1 q2.2
        cases hmc : may c with
        | false => exact mulSums_bad3 A A2 A3 na ca nb cb nc cc c w _ _ n1 n2 hrc (by omega) (by omega) (by omega) hmc
        | true => exact mulSums_ok A A2 A3 na ca nb cb nc cc w _ _ _ n1 n2 (nm_of hrc hmc q3.1 q3.2) (by omega) (by omega) (by omega)
end
end Go.Proofs.Ytmiobjkbcmicbaa
