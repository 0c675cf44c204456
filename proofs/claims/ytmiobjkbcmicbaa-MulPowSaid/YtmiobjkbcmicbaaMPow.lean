/- The law MulPow: powers of sums, and of products. -/
import Derived.Test.YtmiobjkbcmicbaaMSpec
namespace Go.Proofs.Ytmiobjkbcmicbaa
open Go.RowKit Go.Shelf
set_option linter.unusedVariables false

section
variable (A A2 : Option Addr) (na ca nb cb : Nat) (a b : List Nat) (w : World)
theorem pow_i (v n : Nat) (k : Int) (hk : k = (n : Int)) (hva : Nm w A na ca v) (hna : na ≤ 100000) (hn : n ≤ 1024) (hb : n * blen v ≤ 65536) :
    Calls Try.prog 9 #[.slice A na ca, .int .i64 k] w fun e w' => ∃ A' k c, e = .returned (.tuple #[.slice A' k c, .int .i64 0]) ∧ Own w' w.heap.size (.slice A' k c) (limbs (v ^ n)) ∧ Below w.heap.size w w' := by
  subst hk
  exact pow_nm A na ca v w n hva hna hn hb
set_option maxRecDepth 100000 in
set_option maxHeartbeats 2500000 in
theorem mulPow_long (n m : Int) (hb : 5 < na ∨ 5 < nb ∨ 30 < n ∨ 30 < m) (h1 : na ≤ 9223372036854775807) (h2 : nb ≤ 9223372036854775807) :
    Calls Try.prog 8 #[.slice A na ca, .slice A2 nb cb, .int .u8 n, .int .u8 m] w fun e w' => e = .returned (.bool true) ∧ Below w.heap.size w w' := by
  by_cases h50 : 5 < na
  · clear hb
    go_enter Try.func8, Try.ntmps8
    go_wp2_with (go_at_call 11; refine (malive_any _).mono ?_; rintro e w1 ⟨rfl, hb1⟩)
    go_ret
    exact ⟨rfl, hb1⟩
  · skip
    by_cases h51 : 5 < nb
    · clear hb
      go_enter Try.func8, Try.ntmps8
      go_wp2_with (go_at_call 11; refine (malive_any _).mono ?_; rintro e w1 ⟨rfl, hb1⟩)
      go_ret
      exact ⟨rfl, hb1⟩
    · skip
      by_cases h52 : 30 < n
      · clear hb
        go_enter Try.func8, Try.ntmps8
        go_wp2_with (go_at_call 11; refine (malive_any _).mono ?_; rintro e w1 ⟨rfl, hb1⟩)
        go_ret
        exact ⟨rfl, hb1⟩
      · skip
        have h99 : 30 < m := by omega
        clear hb
        go_enter Try.func8, Try.ntmps8
        go_wp2_with (go_at_call 11; refine (malive_any _).mono ?_; rintro e w1 ⟨rfl, hb1⟩)
        go_ret
        exact ⟨rfl, hb1⟩

set_option maxRecDepth 100000 in
set_option maxHeartbeats 2500000 in
theorem mulPow_bad (n m : Nat) (hra : Rd w A na a) (h1 : na ≤ 5) (h2 : nb ≤ 5) (hn : n ≤ 30) (hm : m ≤ 30) (hma : may a = false) :
    Calls Try.prog 8 #[.slice A na ca, .slice A2 nb cb, .int .u8 (n : Int), .int .u8 (m : Int)] w fun e w' => e = .returned (.bool true) ∧ Below w.heap.size w w' := by
  have w1 : wrap64 (n : Int) = (n : Int) := IntWalk.wrap64_in _ ⟨by omega, by omega⟩
  have w2 : wrap64 (m : Int) = (m : Int) := IntWalk.wrap64_in _ ⟨by omega, by omega⟩
  have w3 : IntKind.i64.wrap (n : Int) = (n : Int) := by rw [IntKind.wrap_i64]; omega
  have w4 : IntKind.i64.wrap (m : Int) = (m : Int) := by rw [IntKind.wrap_i64]; omega
  have w5 : wrap64 ((n : Int) + (m : Int)) = (n : Int) + (m : Int) := IntWalk.wrap64_in _ ⟨by omega, by omega⟩
  have g1 : ¬ ((30 : Int) < (n : Int)) := by omega
  have g2 : ¬ ((30 : Int) < (m : Int)) := by omega
  go_enter Try.func8, Try.ntmps8
  go_wp2_with fail
  refine (malive_any _).mono ?_
  rintro e w1 ⟨rfl, hb1⟩
  replace hra := hra.below hb1
  go_wp2_with fail
  refine (powC_bad A na ca _ a _ hra (by omega) hma).mono ?_
  rintro e w2 ⟨rfl, hb2⟩
  replace hra := hra.below hb2
  replace hb2 := below_then hb1 hb2
  clear hb1
  go_wp2_with fail
  refine (powC_bad A na ca _ a _ hra (by omega) hma).mono ?_
  rintro e w3 ⟨rfl, hb3⟩
  replace hra := hra.below hb3
  replace hb3 := below_then hb2 hb3
  clear hb2
  go_wp2_with fail
  refine (powC_bad A na ca _ a _ hra (by omega) hma).mono ?_
  rintro e w4 ⟨rfl, hb4⟩
  replace hra := hra.below hb4
  replace hb4 := below_then hb3 hb4
  clear hb3
  go_wp2_with fail
  go_ret
  exact ⟨rfl, hb4⟩

set_option maxRecDepth 100000 in
set_option maxHeartbeats 2500000 in
theorem mulPow_badb (n m v : Nat) (hva : Nm w A na ca v) (hrb : Rd w A2 nb b) (hmb : may b = false) (h1 : na ≤ 5) (h2 : nb ≤ 5) (hn : n ≤ 30) (hm : m ≤ 30) :
    Calls Try.prog 8 #[.slice A na ca, .slice A2 nb cb, .int .u8 (n : Int), .int .u8 (m : Int)] w fun e w' => e = .returned (.bool true) ∧ Below w.heap.size w w' := by
  have w1 : wrap64 (n : Int) = (n : Int) := IntWalk.wrap64_in _ ⟨by omega, by omega⟩
  have w2 : wrap64 (m : Int) = (m : Int) := IntWalk.wrap64_in _ ⟨by omega, by omega⟩
  have w3 : IntKind.i64.wrap (n : Int) = (n : Int) := by rw [IntKind.wrap_i64]; omega
  have w4 : IntKind.i64.wrap (m : Int) = (m : Int) := by rw [IntKind.wrap_i64]; omega
  have w5 : wrap64 ((n : Int) + (m : Int)) = (n : Int) + (m : Int) := IntWalk.wrap64_in _ ⟨by omega, by omega⟩
  have g1 : ¬ ((30 : Int) < (n : Int)) := by omega
  have g2 : ¬ ((30 : Int) < (m : Int)) := by omega
  have bv := nm_blen hva h1
  have p1 : n * blen v ≤ 65536 := Nat.le_trans (Nat.mul_le_mul hn bv) (by omega)
  have p2 : m * blen v ≤ 65536 := Nat.le_trans (Nat.mul_le_mul hm bv) (by omega)
  have p3 : (n + m) * blen v ≤ 65536 := Nat.le_trans (Nat.mul_le_mul (show n + m ≤ 60 by omega) bv) (by omega)
  have lx0 := pow_len hva (n := n) (N := 150) (Nat.le_trans (Nat.mul_le_mul h1 hn) (by omega))
  have ly0 := pow_len hva (n := m) (N := 150) (Nat.le_trans (Nat.mul_le_mul h1 hm) (by omega))
  have lz0 := pow_len hva (n := n + m) (N := 300) (Nat.le_trans (Nat.mul_le_mul h1 (show n + m ≤ 60 by omega)) (by omega))
  go_enter Try.func8, Try.ntmps8
  go_wp2_with fail
  refine (malive_any _).mono ?_
  rintro e w1 ⟨rfl, hb1⟩
  replace hva := hva.below hb1
  replace hrb := hrb.below hb1
  go_wp2_with fail
  refine (pow_i A na ca _ v n _ rfl hva (by omega) (by omega) p1).mono ?_
  rintro e w2 ⟨Ax, kx, cx, rfl, ox, hb2⟩
  have rx := ox.nm
  have lx : kx ≤ 151 := by have := ox.rd.2.1; omega
  clear ox
  clear lx0
  replace hva := hva.below hb2
  replace hrb := hrb.below hb2
  replace hb2 := below_then hb1 hb2
  clear hb1
  go_wp2_with fail
  refine (pow_i A na ca _ v m _ rfl hva (by omega) (by omega) p2).mono ?_
  rintro e w3 ⟨Ay, ky, cy, rfl, oy, hb3⟩
  have ry := oy.nm
  have ly : ky ≤ 151 := by have := oy.rd.2.1; omega
  clear oy
  clear ly0
  replace hva := hva.below hb3
  replace hrb := hrb.below hb3
  replace rx := rx.below hb3
  replace hb3 := below_then hb2 hb3
  clear hb2
  go_wp2_with fail
  refine (pow_i A na ca _ v (n + m) _ (by omega) hva (by omega) (by omega) p3).mono ?_
  rintro e w4 ⟨Az, kz, cz, rfl, oz, hb4⟩
  have rz := oz.nm
  have lz : kz ≤ 301 := by have := oz.rd.2.1; omega
  clear oz
  clear lz0
  have lp0 := mul_len rx ry
  replace hva := hva.below hb4
  replace hrb := hrb.below hb4
  replace rx := rx.below hb4
  replace ry := ry.below hb4
  replace hb4 := below_then hb3 hb4
  clear hb3
  go_wp2_with fail
  refine (mul_nm Ax Ay kx cx ky cy (v ^ n) (v ^ m) _ rx ry (by omega) (by omega)).mono ?_
  rintro e w5 ⟨Ap, kp, cp, rfl, op, hb5⟩
  have rp := op.nm
  have lp : kp ≤ 302 := by have := op.rd.2.1; omega
  clear op
  clear lp0
  replace hva := hva.below hb5
  replace hrb := hrb.below hb5
  replace rx := rx.below hb5
  replace ry := ry.below hb5
  replace rz := rz.below hb5
  replace hb5 := below_then hb4 hb5
  clear hb4
  go_wp2_with fail
  refine (powC_bad A2 nb cb _ b _ hrb (by omega) hmb).mono ?_
  rintro e w6 ⟨rfl, hb6⟩
  replace hva := hva.below hb6
  replace hrb := hrb.below hb6
  replace rx := rx.below hb6
  replace ry := ry.below hb6
  replace rz := rz.below hb6
  replace rp := rp.below hb6
  replace hb6 := below_then hb5 hb6
  clear hb5
  go_wp2_with fail
  go_ret
  exact ⟨rfl, hb6⟩

set_option maxRecDepth 100000 in
set_option maxHeartbeats 2500000 in
theorem mulPow_ok (n m v u : Nat) (hva : Nm w A na ca v) (hub : Nm w A2 nb cb u) (h1 : na ≤ 5) (h2 : nb ≤ 5) (hn : n ≤ 30) (hm : m ≤ 30) :
    Calls Try.prog 8 #[.slice A na ca, .slice A2 nb cb, .int .u8 (n : Int), .int .u8 (m : Int)] w fun e w' => e = .returned (.bool true) ∧ Below w.heap.size w w' := by
  have w1 : wrap64 (n : Int) = (n : Int) := IntWalk.wrap64_in _ ⟨by omega, by omega⟩
  have w2 : wrap64 (m : Int) = (m : Int) := IntWalk.wrap64_in _ ⟨by omega, by omega⟩
  have w3 : IntKind.i64.wrap (n : Int) = (n : Int) := by rw [IntKind.wrap_i64]; omega
  have w4 : IntKind.i64.wrap (m : Int) = (m : Int) := by rw [IntKind.wrap_i64]; omega
  have w5 : wrap64 ((n : Int) + (m : Int)) = (n : Int) + (m : Int) := IntWalk.wrap64_in _ ⟨by omega, by omega⟩
  have g1 : ¬ ((30 : Int) < (n : Int)) := by omega
  have g2 : ¬ ((30 : Int) < (m : Int)) := by omega
  have bv := nm_blen hva h1
  have p1 : n * blen v ≤ 65536 := Nat.le_trans (Nat.mul_le_mul hn bv) (by omega)
  have p2 : m * blen v ≤ 65536 := Nat.le_trans (Nat.mul_le_mul hm bv) (by omega)
  have p3 : (n + m) * blen v ≤ 65536 := Nat.le_trans (Nat.mul_le_mul (show n + m ≤ 60 by omega) bv) (by omega)
  have lx0 := pow_len hva (n := n) (N := 150) (Nat.le_trans (Nat.mul_le_mul h1 hn) (by omega))
  have ly0 := pow_len hva (n := m) (N := 150) (Nat.le_trans (Nat.mul_le_mul h1 hm) (by omega))
  have lz0 := pow_len hva (n := n + m) (N := 300) (Nat.le_trans (Nat.mul_le_mul h1 (show n + m ≤ 60 by omega)) (by omega))
  have bu := nm_blen hub h2
  have p4 : n * blen u ≤ 65536 := Nat.le_trans (Nat.mul_le_mul hn bu) (by omega)
  have lq0 := pow_len hub (n := n) (N := 150) (Nat.le_trans (Nat.mul_le_mul h2 hn) (by omega))
  have lab := mul_len hva hub
  go_enter Try.func8, Try.ntmps8
  go_wp2_with fail
  refine (malive_any _).mono ?_
  rintro e w1 ⟨rfl, hb1⟩
  replace hva := hva.below hb1
  replace hub := hub.below hb1
  go_wp2_with fail
  refine (pow_i A na ca _ v n _ rfl hva (by omega) (by omega) p1).mono ?_
  rintro e w2 ⟨Ax, kx, cx, rfl, ox, hb2⟩
  have rx := ox.nm
  have lx : kx ≤ 151 := by have := ox.rd.2.1; omega
  clear ox
  clear lx0
  replace hva := hva.below hb2
  replace hub := hub.below hb2
  replace hb2 := below_then hb1 hb2
  clear hb1
  go_wp2_with fail
  refine (pow_i A na ca _ v m _ rfl hva (by omega) (by omega) p2).mono ?_
  rintro e w3 ⟨Ay, ky, cy, rfl, oy, hb3⟩
  have ry := oy.nm
  have ly : ky ≤ 151 := by have := oy.rd.2.1; omega
  clear oy
  clear ly0
  replace hva := hva.below hb3
  replace hub := hub.below hb3
  replace rx := rx.below hb3
  replace hb3 := below_then hb2 hb3
  clear hb2
  go_wp2_with fail
  refine (pow_i A na ca _ v (n + m) _ (by omega) hva (by omega) (by omega) p3).mono ?_
  rintro e w4 ⟨Az, kz, cz, rfl, oz, hb4⟩
  have rz := oz.nm
  have lz : kz ≤ 301 := by have := oz.rd.2.1; omega
  clear oz
  clear lz0
  have lp0 := mul_len rx ry
  replace hva := hva.below hb4
  replace hub := hub.below hb4
  replace rx := rx.below hb4
  replace ry := ry.below hb4
  replace hb4 := below_then hb3 hb4
  clear hb3
  go_wp2_with fail
  refine (mul_nm Ax Ay kx cx ky cy (v ^ n) (v ^ m) _ rx ry (by omega) (by omega)).mono ?_
  rintro e w5 ⟨Ap, kp, cp, rfl, op, hb5⟩
  have rp := op.nm
  have lp : kp ≤ 302 := by have := op.rd.2.1; omega
  clear op
  clear lp0
  replace hva := hva.below hb5
  replace hub := hub.below hb5
  replace rx := rx.below hb5
  replace ry := ry.below hb5
  replace rz := rz.below hb5
  replace hb5 := below_then hb4 hb5
  clear hb4
  go_wp2_with fail
  refine (pow_i A2 nb cb _ u n _ rfl hub (by omega) (by omega) p4).mono ?_
  rintro e w6 ⟨Aq, kq, cq, rfl, oq, hb6⟩
  have rq := oq.nm
  have lq : kq ≤ 151 := by have := oq.rd.2.1; omega
  clear oq
  clear lq0
  replace hva := hva.below hb6
  replace hub := hub.below hb6
  replace rx := rx.below hb6
  replace ry := ry.below hb6
  replace rz := rz.below hb6
  replace rp := rp.below hb6
  replace hb6 := below_then hb5 hb6
  clear hb5
  go_wp2_with fail
  refine (mul_nm A A2 na ca nb cb v u _ hva hub (by omega) (by omega)).mono ?_
  rintro e w7 ⟨Ag, kg, cg, rfl, og, hb7⟩
  have rg := og.nm
  have lg : kg ≤ 10 := by have := og.rd.2.1; omega
  clear og
  clear lab
  have bg := nm_blen rg lg
  have p5 : n * blen (v * u) ≤ 65536 := Nat.le_trans (Nat.mul_le_mul hn bg) (by omega)
  have lu0 := pow_len rg (n := n) (N := 300) (Nat.le_trans (Nat.mul_le_mul lg hn) (by omega))
  replace hva := hva.below hb7
  replace hub := hub.below hb7
  replace rx := rx.below hb7
  replace ry := ry.below hb7
  replace rz := rz.below hb7
  replace rp := rp.below hb7
  replace rq := rq.below hb7
  replace hb7 := below_then hb6 hb7
  clear hb6
  go_wp2_with fail
  refine (pow_i Ag kg cg _ (v * u) n _ rfl rg (by omega) (by omega) p5).mono ?_
  rintro e w8 ⟨Au, ku, cu, rfl, ou, hb8⟩
  have ru := ou.nm
  have lu : ku ≤ 301 := by have := ou.rd.2.1; omega
  clear ou
  clear lu0
  have lt0 := mul_len rx rq
  replace hva := hva.below hb8
  replace hub := hub.below hb8
  replace rx := rx.below hb8
  replace ry := ry.below hb8
  replace rz := rz.below hb8
  replace rp := rp.below hb8
  replace rq := rq.below hb8
  replace rg := rg.below hb8
  replace hb8 := below_then hb7 hb8
  clear hb7
  go_wp2_with fail
  refine (mul_nm Ax Aq kx cx kq cq (v ^ n) (u ^ n) _ rx rq (by omega) (by omega)).mono ?_
  rintro e w9 ⟨At, kt, ct, rfl, ot, hb9⟩
  have rt := ot.nm
  have lt : kt ≤ 302 := by have := ot.rd.2.1; omega
  clear ot
  clear lt0
  replace hva := hva.below hb9
  replace hub := hub.below hb9
  replace rx := rx.below hb9
  replace ry := ry.below hb9
  replace rz := rz.below hb9
  replace rp := rp.below hb9
  replace rq := rq.below hb9
  replace rg := rg.below hb9
  replace ru := ru.below hb9
  replace hb9 := below_then hb8 hb9
  clear hb8
  go_wp2_with fail
  refine (same_eq Ap Az kp cp kz cz (v ^ n * v ^ m) (v ^ (n + m)) _ rp rz (by omega) (by omega) (Nat.pow_add _ _ _).symm).mono ?_
  rintro e w10 ⟨rfl, hb10⟩
  replace hva := hva.below hb10
  replace hub := hub.below hb10
  replace rx := rx.below hb10
  replace ry := ry.below hb10
  replace rz := rz.below hb10
  replace rp := rp.below hb10
  replace rq := rq.below hb10
  replace rg := rg.below hb10
  replace ru := ru.below hb10
  replace rt := rt.below hb10
  replace hb10 := below_then hb9 hb10
  clear hb9
  go_wp2_with fail
  refine (same_eq Au At ku cu kt ct ((v * u) ^ n) (v ^ n * u ^ n) _ ru rt (by omega) (by omega) (Nat.mul_pow _ _ _)).mono ?_
  rintro e w11 ⟨rfl, hb11⟩
  replace hva := hva.below hb11
  replace hub := hub.below hb11
  replace rx := rx.below hb11
  replace ry := ry.below hb11
  replace rz := rz.below hb11
  replace rp := rp.below hb11
  replace rq := rq.below hb11
  replace rg := rg.below hb11
  replace ru := ru.below hb11
  replace rt := rt.below hb11
  replace hb11 := below_then hb10 hb11
  clear hb10
  go_wp2_with fail
  go_ret
  exact ⟨rfl, hb11⟩

theorem mulPow_any (n m : Nat) (hra : Rd w A na a) (hrb : Rd w A2 nb b) (q1 : na ≤ ca ∧ ca ≤ 9223372036854775807) (q2 : nb ≤ cb ∧ cb ≤ 9223372036854775807) :
    Calls Try.prog 8 #[.slice A na ca, .slice A2 nb cb, .int .u8 (n : Int), .int .u8 (m : Int)] w fun e w' => e = .returned (.bool true) ∧ Below w.heap.size w w' := by
  by_cases hl : 5 < na ∨ 5 < nb ∨ 30 < n ∨ 30 < m
  · exact mulPow_long A A2 na ca nb cb w _ _ (by omega) (by omega) (by omega)
  · cases hma : may a with
    | false => exact mulPow_bad A A2 na ca nb cb a w n m hra (by omega) (by omega) (by omega) (by omega) hma
    | true =>
      have n1 := nm_of hra hma q1.1 q1.2
      cases hmb : may b with
      | false => exact mulPow_badb A A2 na ca nb cb b w n m _ n1 hrb hmb (by omega) (by omega) (by omega) (by omega)
      | true => exact mulPow_ok A A2 na ca nb cb w n m _ _ n1 (nm_of hrb hmb q2.1 q2.2) (by omega) (by omega) (by omega) (by omega)
end
end Go.Proofs.Ytmiobjkbcmicbaa
