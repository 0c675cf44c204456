import Derived.Test.YtgiokmfdafmaoaaGreatJThree
/- ThreeQ. -/
/- (mul.number).inThree, by quick. -/
namespace Go.Proofs.YtgiokmfdafmaoaaGreat
open Go.RowKit Go.Shelf
set_option linter.unusedVariables false

set_option maxRecDepth 100000 in
set_option maxHeartbeats 9000000 in
/-- inThree, its three products made by quick. -/
theorem three_quick (A A2 : Option Addr) (na ca nb cb v u p N : Nat) (w : World) (hT : MulsAt 116 N (v + u)) (hva : Nm w A na ca v) (hub : Nm w A2 nb cb u) (hN : N ≤ 16777216) (hv : v < B64 ^ N) (hu : u < B64 ^ N)
    (hp : (na < nb ∧ (nb + 1) / 2 = p ∧ 2 ≤ nb) ∨ (nb ≤ na ∧ (na + 1) / 2 = p ∧ 2 ≤ na)) :
    Calls Tryz.prog 137 #[.slice A na ca, .slice A2 nb cb, .func (.func 116) #[] #[]] w fun e w' => ∃ A' k c, e = .returned (.slice A' k c) ∧ Own w' w.heap.size (.slice A' k c) (limbs (v * u)) ∧ Below w.heap.size w w' := by
  have hp1 : 0 < p ∧ p ≤ 16777217 := by
    have h1 := hva.len hv
    have h2 := hub.len hu
    omega
  have hlt : v % B64 ^ p + v / B64 ^ p + (u % B64 ^ p + u / B64 ^ p) < v + u := by
    have h1 := parts_le v p
    have h2 := parts_le u p
    rcases hp with ⟨h3, h4, h5⟩ | ⟨h3, h4, h5⟩
    · have := parts_lt (v := u) (p := p) (by omega) (by rw [hub.rd.len]; omega)
      omega
    · have := parts_lt (v := v) (p := p) (by omega) (by rw [hva.rd.len]; omega)
      omega
  have hk := three_sizes v u p N hv hu
  obtain ⟨v0, hv0⟩ : ∃ x, v % B64 ^ p = x := ⟨_, rfl⟩
  obtain ⟨v1, hv1⟩ : ∃ x, v / B64 ^ p = x := ⟨_, rfl⟩
  obtain ⟨u0, hu0⟩ : ∃ x, u % B64 ^ p = x := ⟨_, rfl⟩
  obtain ⟨u1, hu1⟩ : ∃ x, u / B64 ^ p = x := ⟨_, rfl⟩
  have hpv := parts_le v p
  have hpu := parts_le u p
  rw [hv0, hv1, hu0, hu1] at hlt
  rw [hv0, hv1] at hpv
  rw [hu0, hu1] at hpu
  rw [hv0, hv1, hu0, hu1] at hk
  obtain ⟨lo, hlo⟩ : ∃ x, v0 * u0 = x := ⟨_, rfl⟩
  obtain ⟨hi, hhi⟩ : ∃ x, v1 * u1 = x := ⟨_, rfl⟩
  obtain ⟨fu, hfu⟩ : ∃ x, (v0 + v1) * (u0 + u1) = x := ⟨_, rfl⟩
  rw [hlo, hhi, hfu] at hk
  obtain ⟨k1, k2, k3, k4, k5, k6⟩ := hk
  obtain ⟨mi, hmi⟩ : ∃ x, fu - (lo + hi) = x := ⟨_, rfl⟩
  rw [hmi] at k4 k6
  obtain ⟨mu, hmu⟩ : ∃ x, mi * B64 ^ p = x := ⟨_, rfl⟩
  obtain ⟨hu2, hhu2⟩ : ∃ x, hi * B64 ^ (2 * p) = x := ⟨_, rfl⟩
  rw [hmu, hhu2] at k6
  have HV0 := Lib.hid hv0
  have HV1 := Lib.hid hv1
  have HU0 := Lib.hid hu0
  have HU1 := Lib.hid hu1
  have HLO := Lib.hid hlo
  have HHI := Lib.hid hhi
  have HFU := Lib.hid hfu
  have HMI := Lib.hid hmi
  have HMU := Lib.hid hmu
  have HHU := Lib.hid hhu2
  have K1 := Lib.hid k1
  have K2 := Lib.hid k2
  have K3 := Lib.hid k3
  have K4 := Lib.hid k4
  have K5 := Lib.hid k5
  have K6 := Lib.hid k6
  have HP := Lib.hid hp
  clear hv0 hv1 hu0 hu1 hlo hhi hfu hmi hmu hhu2 k1 k2 k3 k4 k5 k6
  rcases hp with ⟨hmx, e1, _⟩ | ⟨hmx, e1, _⟩
  all_goals
    first
    | have e2 : Int.tdiv ((nb : Int) + 1) 2 = (p : Int) := by rw [Int.tdiv_eq_ediv_of_nonneg (by omega)]; omega
      have e3 : ((nb : Int) + 1) / 2 = (p : Int) := by omega
    | have e2 : Int.tdiv ((na : Int) + 1) 2 = (p : Int) := by rw [Int.tdiv_eq_ediv_of_nonneg (by omega)]; omega
      have e3 : ((na : Int) + 1) / 2 = (p : Int) := by omega
    clear e1
    have HT := Lib.hid hT
    have HLT := Lib.hid hlt
    have HPV := Lib.hid hpv
    have HPU := Lib.hid hpu
    have HV := Lib.hid hv
    have HU := Lib.hid hu
    clear hT hlt hpv hpu hv hu
    go_enter Tryz.func137, Tryz.ntmps137
    go_wp2_with fail
    clear e2 e3
    refine (at_any A na ca v p _ hva (by omega)).mono ?_
    rw [HV0.out, HV1.out]
    rintro e w1 ⟨x0, y0, A1, x1, y1, rfl, n0, n1, hb1⟩
    replace hub := hub.below hb1
    clear hva
    go_wp2_with fail
    refine (at_any A2 nb cb u p _ hub (by omega)).mono ?_
    rw [HU0.out, HU1.out]
    rintro e w2 ⟨x2, y2, A3, x3, y3, rfl, m0, m1, hb2⟩
    replace n0 := n0.below hb2
    replace n1 := n1.below hb2
    replace hb2 := below_then hb1 hb2
    clear hb1 hub
    go_wp2_with fail
    refine (HT.out _ _ _ _ _ _ _ _ _ n0 m0 (by have := HPV.out; have := HV.out; omega) (by have := HPU.out; have := HU.out; omega) (by have := HLT.out; omega)).mono ?_
    rw [HLO.out]
    rintro e w3 ⟨A4, x4, y4, rfl, o4, hb3⟩
    have l0 := o4.nm
    clear o4
    replace n0 := n0.below hb3
    replace n1 := n1.below hb3
    replace m0 := m0.below hb3
    replace m1 := m1.below hb3
    replace hb3 := below_then hb2 hb3
    clear hb2
    go_wp2_with fail
    refine (HT.out _ _ _ _ _ _ _ _ _ n1 m1 (by have := HPV.out; have := HV.out; omega) (by have := HPU.out; have := HU.out; omega) (by have := HLT.out; omega)).mono ?_
    rw [HHI.out]
    rintro e w4 ⟨A5, x5, y5, rfl, o5, hb4⟩
    have h0 := o5.nm
    clear o5
    replace n0 := n0.below hb4
    replace n1 := n1.below hb4
    replace m0 := m0.below hb4
    replace m1 := m1.below hb4
    replace l0 := l0.below hb4
    replace hb4 := below_then hb3 hb4
    clear hb3
    go_wp2_with fail
    refine (sumN_any A x0 y0 v0 w4.heap.size 0 1 1 [v1] N _ (n0.below ((Below.refl _ _).alloc (Nat.le_refl _) _)) (rowsN_one n1 _) rfl (by omega) (by omega) (by rw [sum_one]; have := HPV.out; have := HV.out; omega)).mono ?_
    rw [sum_one]
    rintro e w5 ⟨A6, x6, y6, rfl, o6, hb5⟩
    have s0 := o6.nm
    clear o6 n0 n1
    replace hb5 := below_new hb5
    replace m0 := m0.below hb5
    replace m1 := m1.below hb5
    replace l0 := l0.below hb5
    replace h0 := h0.below hb5
    replace hb5 := below_then hb4 hb5
    clear hb4
    go_wp2_with fail
    refine (sumN_any A2 x2 y2 u0 w5.heap.size 0 1 1 [u1] N _ (m0.below ((Below.refl _ _).alloc (Nat.le_refl _) _)) (rowsN_one m1 _) rfl (by omega) (by omega) (by rw [sum_one]; have := HPU.out; have := HU.out; omega)).mono ?_
    rw [sum_one]
    rintro e w6 ⟨A7, x7, y7, rfl, o7, hb6⟩
    have s1 := o7.nm
    clear o7 m0 m1
    replace hb6 := below_new hb6
    replace s0 := s0.below hb6
    replace l0 := l0.below hb6
    replace h0 := h0.below hb6
    replace hb6 := below_then hb5 hb6
    clear hb5
    go_wp2_with fail
    refine (HT.out _ _ _ _ _ _ _ _ _ s0 s1 (by have := HPV.out; have := HV.out; omega) (by have := HPU.out; have := HU.out; omega) (by have := HLT.out; omega)).mono ?_
    rw [HFU.out]
    rintro e w7 ⟨A8, x8, y8, rfl, o8, hb7⟩
    have f0 := o8.nm
    clear o8 s0 s1
    replace l0 := l0.below hb7
    replace h0 := h0.below hb7
    replace hb7 := below_then hb6 hb7
    clear hb6
    go_wp2_with fail
    refine (restN_any A8 x8 y8 fu w7.heap.size 0 2 2 [lo, hi] (2 * N) _ (f0.below ((Below.refl _ _).alloc (Nat.le_refl _) _)) (rowsN_two l0 h0 _) rfl (by omega) (by omega) K3.out (by rw [sum_two]; exact K5.out)).mono ?_
    rw [sum_two, HMI.out]
    rintro e w8 ⟨A9, x9, y9, rfl, o9, hb8⟩
    have m2 := o9.nm
    clear o9 f0
    replace hb8 := below_new hb8
    replace l0 := l0.below hb8
    replace h0 := h0.below hb8
    replace hb8 := below_then hb7 hb8
    clear hb7
    go_wp2_with fail
    have l9 := m2.len K4.out
    refine (upN_any A9 x9 y9 mi p _ m2 (by omega) (by omega)).mono ?_
    rw [HMU.out]
    rintro e w9 ⟨A10, x10, y10, rfl, o10, hb9⟩
    have m3 := o10.nm
    clear o10 m2 l9
    replace l0 := l0.below hb9
    replace h0 := h0.below hb9
    replace hb9 := below_then hb8 hb9
    clear hb8
    go_wp2_with fail
    have l5 := h0.len K2.out
    have e4 : ((2 * p : Nat) : Int) = 2 * (p : Int) := by omega
    refine (show Calls _ _ #[_, .int .i64 (2 * (p : Int))] _ _ from e4 ▸ (upN_any A5 x5 y5 hi (2 * p) _ h0 (by omega) (by omega))).mono ?_
    rw [HHU.out]
    rintro e w10 ⟨A11, x11, y11, rfl, o11, hb10⟩
    have h2 := o11.nm
    clear o11 h0 l5 e4
    replace l0 := l0.below hb10
    replace m3 := m3.below hb10
    replace hb10 := below_then hb9 hb10
    clear hb9
    go_wp2_with fail
    refine (sumN_any A4 x4 y4 lo w10.heap.size 0 2 2 [mu, hu2] (2 * N) _ (l0.below ((Below.refl _ _).alloc (Nat.le_refl _) _)) (rowsN_two m3 h2 _) rfl (by omega) (by omega) (by rw [sum_two, ← Nat.add_assoc, K6.out.1]; exact K6.out.2)).mono ?_
    rw [sum_two, ← Nat.add_assoc, K6.out.1]
    rintro e w11 ⟨A12, x12, y12, rfl, o12, hb11⟩
    replace o12 := own_mono o12 (by rw [World.size_alloc]; exact Nat.le_succ_of_le hb10.size)
    replace hb11 := below_new hb11
    replace hb11 := below_then hb10 hb11
    clear hb10 l0 m3 h2
    go_wp2_with fail
    go_ret
    exact ⟨_, _, _, rfl, o12, hb11⟩
end Go.Proofs.YtgiokmfdafmaoaaGreat
