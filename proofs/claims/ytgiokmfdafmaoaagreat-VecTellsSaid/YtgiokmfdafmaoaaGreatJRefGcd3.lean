import Derived.Test.YtgiokmfdafmaoaaGreatJRefCommon
/- RefGcd2 RefGcd3. -/
/- The document's Common, Gcd, Lcm. -/
namespace Go.Proofs.YtgiokmfdafmaoaaGreat
open Go.RowKit Go.Shelf
set_option linter.unusedVariables false
set_option linter.unusedSimpArgs false

theorem twos_lt {t p q v u n : Nat} (h : 2 ^ t * Nat.gcd p q = Nat.gcd v u) (hv : v ≠ 0) (hl : v < B64 ^ n) : t < 64 * n := by
  have h1 : Nat.gcd v u ≤ v := Nat.gcd_le_left u (Nat.pos_of_ne_zero hv)
  have h0 : Nat.gcd v u ≠ 0 := fun e => hv (Nat.eq_zero_of_gcd_eq_zero_left e)
  have h2 : 0 < Nat.gcd p q := Nat.pos_of_ne_zero (fun e => h0 (by rw [← h, e, Nat.mul_zero]))
  have h3 : 2 ^ t ≤ 2 ^ t * Nat.gcd p q := Nat.le_mul_of_pos_right _ h2
  rw [B64_pow] at hl
  exact (Nat.pow_lt_pow_iff_right (by omega : 1 < 2)).1 (by omega)
theorem half_len {w : World} {A : Option Addr} {n c v : Nat} (h : Nm w A n c v) : (limbs (v / 2)).length ≤ n := by
  have := length_of_le (words_limbs v) (n := v / 2) (by rw [val_limbs]; exact Nat.div_le_self _ _)
  rwa [h.rd.len] at this
theorem sub_len {w : World} {A : Option Addr} {n c v : Nat} (h : Nm w A n c v) (u : Nat) : (limbs (v - u)).length ≤ n := by
  have := length_of_le (words_limbs v) (n := v - u) (by rw [val_limbs]; exact Nat.sub_le _ _)
  rwa [h.rd.len] at this

section
variable (A A2 : Option Addr) (na ca nb cb v u : Nat) (w : World)

set_option maxRecDepth 100000 in
set_option maxHeartbeats 6000000 in
theorem common_gen (hva : Nm w A na ca v) (hub : Nm w A2 nb cb u) (hna : na ≤ 900) (hnb : nb ≤ 900) (hv0 : v ≠ 0) (hu0 : u ≠ 0) (hs : ((na : Int) == 1) = false ∨ (((na : Int) == 1) = true ∧ ((nb : Int) == 1) = false)) :
    Calls Tryz.prog 78 #[.slice A na ca, .slice A2 nb cb] w fun e w' => ∃ A' k c, e = .returned (.slice A' k c) ∧ Own w' w.heap.size (.slice A' k c) (limbs (Nat.gcd v u)) ∧ Below w.heap.size w w' := by
  have e1 : ((na : Int) == 0) = false := int_eq0 (fun h => hv0 (hva.zero.1 h))
  have e2 : ((nb : Int) == 0) = false := int_eq0 (fun h => hu0 (hub.zero.1 h))
  have hvl := hva.lt
  have HVL : Hid (∀ t p q, 2 ^ t * Nat.gcd p q = Nat.gcd v u → t < 57600) := fun t p q h => by have := twos_lt h hv0 hvl; omega
  have HG0 : Hid (2 ^ 0 * Nat.gcd v u = Nat.gcd v u) := by show _ = _; rw [Nat.pow_zero, Nat.one_mul]
  clear hvl
  rcases hs with hs1 | ⟨hs1, hs2⟩
  all_goals
    go_enter Tryz.func78, Tryz.ntmps78
    go_wp2
    clear e1 e2 hs1
    try clear hs2
    go_loopw [0, 1, 5] (fun a b t wr => ∃ (s p q : Nat) (A3 : Option Addr) (n3 c3 : Nat) (A4 : Option Addr) (n4 c4 : Nat), a = .slice A3 n3 c3 ∧ b = .slice A4 n4 c4 ∧ t = .int .i64 (s : Int) ∧ Nm wr A3 n3 c3 p ∧ Nm wr A4 n4 c4 q ∧ n3 ≤ 900 ∧ n4 ≤ 900 ∧ p ≠ 0 ∧ q ≠ 0 ∧ 2 ^ s * Nat.gcd p q = Nat.gcd v u ∧ Below w.heap.size w wr) (fun _ _ t _ => 60000 - (intOf t).toNat)
    case atStart => exact ⟨0, v, u, _, _, _, _, _, _, rfl, rfl, rfl, hva, hub, hna, hnb, hv0, hu0, HG0.out, Below.refl _ _⟩
    case round =>
      obtain ⟨s, p, q, A3, n3, c3, A4, n4, c4, rfl, rfl, rfl, hp, hq, ln3, ln4, hp0, hq0, hg, hB⟩ := hrel
      clear hva hub
      have hsl := HVL.out s p q hg
      have hpm : nbit p 0 = p % 2 := nbit_low p
      have hqm : nbit q 0 = q % 2 := nbit_low q
      have HG := Lib.hid hg
      clear hg
      by_cases hpe : p % 2 = 0 ∧ q % 2 = 0
      · obtain ⟨hpe, hqe⟩ := hpe
        rw [hpe] at hpm
        rw [hqe] at hqm
        have hg2 : 2 ^ (s + 1) * Nat.gcd (p / 2) (q / 2) = Nat.gcd v u := by rw [Nat.pow_succ, Nat.mul_assoc, gcd_half_both hpe hqe]; exact HG.out
        have hp2 : p / 2 ≠ 0 := by omega
        have hq2 : q / 2 ≠ 0 := by omega
        have lp := half_len hp
        have lq := half_len hq
        have HG2 := Lib.hid hg2
        have HP := Lib.hid hpm
        have HQ := Lib.hid hqm
        clear hg2 hpm hqm hpe hqe hp0 hq0
        go_wp2_with fail
        refine (rAt_nm A3 n3 c3 p _ 0 hp (by omega) (by omega)).mono ?_
        rw [HP.out]
        rintro e wq ⟨rfl, rfl⟩
        go_wp2_with fail
        refine (rAt_nm A4 n4 c4 q _ 0 hq (by omega) (by omega)).mono ?_
        rw [HQ.out]
        rintro e wq ⟨rfl, rfl⟩
        go_wp2_with fail
        refine (rHalf_any A3 n3 c3 p _ hp (by omega)).mono ?_
        rintro e w5 ⟨A5, n5, c5, rfl, o5, hb5⟩
        have r5 := o5.nm
        have l5 : n5 ≤ 900 := by have := o5.rd.2.1; omega
        replace hq := hq.below hb5
        replace hb5 := below_then hB hb5
        clear o5 hp hB lp
        go_wp2_with fail
        refine (rHalf_any A4 n4 c4 q _ hq (by omega)).mono ?_
        rintro e w6 ⟨A6, n6, c6, rfl, o6, hb6⟩
        have r6 := o6.nm
        have l6 : n6 ≤ 900 := by have := o6.rd.2.1; omega
        replace r5 := r5.below hb6
        replace hb6 := below_then hb5 hb6
        clear o6 hq hb5 lq
        go_wp2_with fail
        go_roundw
        case rel => exact ⟨s + 1, p / 2, q / 2, _, _, _, _, _, _, rfl, rfl, by go_num, r5, r6, l5, l6, hp2, hq2, HG2.out, hb6⟩
        case measure => simp [intOf]; omega
      · have hodd : p % 2 = 1 ∨ (p % 2 = 0 ∧ q % 2 = 1) := by omega
        have hodd2 : p % 2 = 1 ∨ q % 2 = 1 := by omega
        clear hpe
        obtain ⟨G, hG⟩ : ∃ G, Nat.gcd p q = G := ⟨_, rfl⟩
        have HGG := Lib.hid hG
        clear hG
        rcases hodd with h1 | ⟨h1, h2⟩
        · rw [h1] at hpm
          have HP := Lib.hid hpm
          clear hpm hqm h1
          go_wp2_with fail
          refine (rAt_nm A3 n3 c3 p _ 0 hp (by omega) (by omega)).mono ?_
          rw [HP.out]
          rintro e wq ⟨rfl, rfl⟩
          go_wp2_with fail
          go_loopw [0, 1] (fun a b W => ∃ (p1 q1 : Nat) (A5 : Option Addr) (n5 c5 : Nat) (A6 : Option Addr) (n6 c6 : Nat), a = .slice A5 n5 c5 ∧ b = .slice A6 n6 c6 ∧ Nm W A5 n5 c5 p1 ∧ Nm W A6 n6 c6 q1 ∧ n5 ≤ 900 ∧ n6 ≤ 900 ∧ p1 ≠ 0 ∧ q1 ≠ 0 ∧ (p1 % 2 = 1 ∨ q1 % 2 = 1) ∧ Nat.gcd p1 q1 = G ∧ Below w.heap.size w W) (fun a b W => numOf W a + numOf W b)
          case atStart => exact ⟨p, q, _, _, _, _, _, _, rfl, rfl, hp, hq, ln3, ln4, hp0, hq0, hodd2, HGG.out, hB⟩
          case round =>
            obtain ⟨p1, q1, A5, n5, c5, A6, n6, c6, rfl, rfl, hp1, hq1, ln5, ln6, hp10, hq10, hod, hg1, hB1⟩ := hrel
            clear hp hq hodd2 hB hp0 hq0
            by_cases heq : p1 = q1
            · subst heq
              rw [Nat.gcd_self] at hg1
              have hfin : p1 * 2 ^ s = Nat.gcd v u := by rw [hg1, ← HGG.out, Nat.mul_comm]; exact HG.out
              have HF := Lib.hid hfin
              have hc0 : cmp3 p1 p1 = 0 := cmp3_self p1
              have HC := Lib.hid hc0
              have hsz := hB1.size
              clear hg1 hfin hc0 hod
              go_wp2_with fail
              refine (rCmp_nm A5 A6 n5 c5 n6 c6 p1 p1 _ hp1 hq1 (by omega) (by omega)).mono ?_
              rw [HC.out]
              rintro e wq ⟨rfl, rfl⟩
              go_wp2_with fail
              refine (rTimes_nm A5 n5 c5 p1 _ s hp1 (by omega) (by omega)).mono ?_
              rw [HF.out]
              rintro e w7 ⟨A7, n7, c7, rfl, o7, hb7⟩
              replace o7 := own_mono o7 hsz
              replace hb7 := below_then hB1 hb7
              go_wp2_with fail
              go_ret
              exact ⟨_, _, _, rfl, o7, hb7⟩
            · have hn1 := numOf_is hp1
              have hn2 := numOf_is hq1
              obtain ⟨N, hN, hNe⟩ : ∃ N : Int, cmp3 p1 q1 = N ∧ ((p1 < q1 ∧ N = -1) ∨ (q1 < p1 ∧ N = 1)) := by
                rcases Nat.lt_or_gt_of_ne heq with h | h
                · exact ⟨-1, cmp3_lt h, .inl ⟨h, rfl⟩⟩
                · exact ⟨1, cmp3_gt h, .inr ⟨h, rfl⟩⟩
              have HC := Lib.hid hN
              have hNz : (N != 0) = true := by simp; omega
              have hpm1 : nbit p1 0 = p1 % 2 := nbit_low p1
              have hqm1 : nbit q1 0 = q1 % 2 := nbit_low q1
              have lp := half_len hp1
              have lq := half_len hq1
              have ls1 := sub_len hp1 q1
              have ls2 := sub_len hq1 p1
              have HN1 := Lib.hid hn1
              have HN2 := Lib.hid hn2
              have hpar : (p1 % 2 = 0 ∧ q1 % 2 = 1) ∨ (p1 % 2 = 1 ∧ q1 % 2 = 0) ∨ (p1 % 2 = 1 ∧ q1 % 2 = 1) := by omega
              clear hn1 hn2 hN hod heq
              rcases hpar with ⟨h1, h2⟩ | ⟨h1, h2⟩ | ⟨h1, h2⟩
              · rw [h1] at hpm1
                have HP1 := Lib.hid hpm1
                have hgn : Nat.gcd (p1 / 2) q1 = G := by rw [gcd_half_left h1 h2]; exact hg1
                have HGN := Lib.hid hgn
                have hlt : p1 / 2 < p1 := by omega
                have hz : p1 / 2 ≠ 0 := by omega
                clear hpm1 hqm1 hgn hg1 h1 hNe lq ls1 ls2
                go_wp2_with fail
                refine (rCmp_nm A5 A6 n5 c5 n6 c6 p1 q1 _ hp1 hq1 (by omega) (by omega)).mono ?_
                rw [HC.out]
                rintro e wq ⟨rfl, rfl⟩
                go_wp2_with fail
                refine (rAt_nm A5 n5 c5 p1 _ 0 hp1 (by omega) (by omega)).mono ?_
                rw [HP1.out]
                rintro e wq ⟨rfl, rfl⟩
                go_wp2_with fail
                refine (rHalf_any A5 n5 c5 p1 _ hp1 (by omega)).mono ?_
                rintro e w7 ⟨A7, n7, c7, rfl, o7, hb7⟩
                have r7 := o7.nm
                have l7 : n7 ≤ 900 := by have := o7.rd.2.1; omega
                have r8 := hq1.below hb7
                replace hb7 := below_then hB1 hb7
                clear o7
                go_wp2_with fail
                go_roundw
                case rel => exact ⟨p1 / 2, q1, _, _, _, _, _, _, rfl, rfl, r7, r8, l7, ln6, hz, hq10, .inr h2, HGN.out, hb7⟩
                case measure => rw [numOf_is r7, numOf_is r8, HN1.out, HN2.out]; omega
              · rw [h1] at hpm1
                rw [h2] at hqm1
                have HP1 := Lib.hid hpm1
                have HQ1 := Lib.hid hqm1
                have hgn : Nat.gcd p1 (q1 / 2) = G := by rw [gcd_half_right h1 h2]; exact hg1
                have HGN := Lib.hid hgn
                have hlt : q1 / 2 < q1 := by omega
                have hz : q1 / 2 ≠ 0 := by omega
                clear hpm1 hqm1 hgn hg1 h2 hNe lp ls1 ls2
                go_wp2_with fail
                refine (rCmp_nm A5 A6 n5 c5 n6 c6 p1 q1 _ hp1 hq1 (by omega) (by omega)).mono ?_
                rw [HC.out]
                rintro e wq ⟨rfl, rfl⟩
                go_wp2_with fail
                refine (rAt_nm A5 n5 c5 p1 _ 0 hp1 (by omega) (by omega)).mono ?_
                rw [HP1.out]
                rintro e wq ⟨rfl, rfl⟩
                go_wp2_with fail
                refine (rAt_nm A6 n6 c6 q1 _ 0 hq1 (by omega) (by omega)).mono ?_
                rw [HQ1.out]
                rintro e wq ⟨rfl, rfl⟩
                go_wp2_with fail
                refine (rHalf_any A6 n6 c6 q1 _ hq1 (by omega)).mono ?_
                rintro e w7 ⟨A7, n7, c7, rfl, o7, hb7⟩
                have r7 := o7.nm
                have l7 : n7 ≤ 900 := by have := o7.rd.2.1; omega
                have r8 := hp1.below hb7
                replace hb7 := below_then hB1 hb7
                clear o7
                go_wp2_with fail
                go_roundw
                case rel => exact ⟨p1, q1 / 2, _, _, _, _, _, _, rfl, rfl, r8, r7, ln5, l7, hp10, hz, .inl h1, HGN.out, hb7⟩
                case measure => rw [numOf_is r7, numOf_is r8, HN1.out, HN2.out]; omega
              · rw [h1] at hpm1
                rw [h2] at hqm1
                have HP1 := Lib.hid hpm1
                have HQ1 := Lib.hid hqm1
                clear hpm1 hqm1 lp lq
                rcases hNe with ⟨hlt, rfl⟩ | ⟨hlt, rfl⟩
                · have hgn : Nat.gcd p1 (q1 - p1) = G := by rw [gcd_rest_right (by omega)]; exact hg1
                  have HGN := Lib.hid hgn
                  have hz : q1 - p1 ≠ 0 := by omega
                  clear hgn hg1 h2 ls1
                  go_wp2_with fail
                  refine (rCmp_nm A5 A6 n5 c5 n6 c6 p1 q1 _ hp1 hq1 (by omega) (by omega)).mono ?_
                  rw [HC.out]
                  rintro e wq ⟨rfl, rfl⟩
                  go_wp2_with fail
                  refine (rAt_nm A5 n5 c5 p1 _ 0 hp1 (by omega) (by omega)).mono ?_
                  rw [HP1.out]
                  rintro e wq ⟨rfl, rfl⟩
                  go_wp2_with fail
                  refine (rAt_nm A6 n6 c6 q1 _ 0 hq1 (by omega) (by omega)).mono ?_
                  rw [HQ1.out]
                  rintro e wq ⟨rfl, rfl⟩
                  go_wp2_with fail
                  refine (rCmp_nm A5 A6 n5 c5 n6 c6 p1 q1 _ hp1 hq1 (by omega) (by omega)).mono ?_
                  rw [HC.out]
                  rintro e wq ⟨rfl, rfl⟩
                  go_wp2_with fail
                  refine (rRest_nm A6 A5 n6 c6 n5 c5 q1 p1 _ hq1 hp1 (by omega) (by omega) (by omega)).mono ?_
                  rintro e w7 ⟨A7, n7, c7, rfl, o7, hb7⟩
                  have r7 := o7.nm
                  have l7 : n7 ≤ 900 := by have := o7.rd.2.1; omega
                  have r8 := hp1.below hb7
                  replace hb7 := below_then hB1 hb7
                  clear o7
                  go_wp2_with fail
                  go_roundw
                  case rel => exact ⟨p1, q1 - p1, _, _, _, _, _, _, rfl, rfl, r8, r7, ln5, l7, hp10, hz, .inl h1, HGN.out, hb7⟩
                  case measure => rw [numOf_is r7, numOf_is r8, HN1.out, HN2.out]; omega
                · have hgn : Nat.gcd (p1 - q1) q1 = G := by rw [gcd_rest_left (by omega)]; exact hg1
                  have HGN := Lib.hid hgn
                  have hz : p1 - q1 ≠ 0 := by omega
                  clear hgn hg1 h1 ls2
                  go_wp2_with fail
                  refine (rCmp_nm A5 A6 n5 c5 n6 c6 p1 q1 _ hp1 hq1 (by omega) (by omega)).mono ?_
                  rw [HC.out]
                  rintro e wq ⟨rfl, rfl⟩
                  go_wp2_with fail
                  refine (rAt_nm A5 n5 c5 p1 _ 0 hp1 (by omega) (by omega)).mono ?_
                  rw [HP1.out]
                  rintro e wq ⟨rfl, rfl⟩
                  go_wp2_with fail
                  refine (rAt_nm A6 n6 c6 q1 _ 0 hq1 (by omega) (by omega)).mono ?_
                  rw [HQ1.out]
                  rintro e wq ⟨rfl, rfl⟩
                  go_wp2_with fail
                  refine (rCmp_nm A5 A6 n5 c5 n6 c6 p1 q1 _ hp1 hq1 (by omega) (by omega)).mono ?_
                  rw [HC.out]
                  rintro e wq ⟨rfl, rfl⟩
                  go_wp2_with fail
                  refine (rRest_nm A5 A6 n5 c5 n6 c6 p1 q1 _ hp1 hq1 (by omega) (by omega) (by omega)).mono ?_
                  rintro e w7 ⟨A7, n7, c7, rfl, o7, hb7⟩
                  have r7 := o7.nm
                  have l7 : n7 ≤ 900 := by have := o7.rd.2.1; omega
                  have r8 := hq1.below hb7
                  replace hb7 := below_then hB1 hb7
                  clear o7
                  go_wp2_with fail
                  go_roundw
                  case rel => exact ⟨p1 - q1, q1, _, _, _, _, _, _, rfl, rfl, r7, r8, l7, ln6, hz, hq10, .inr h2, HGN.out, hb7⟩
                  case measure => rw [numOf_is r7, numOf_is r8, HN1.out, HN2.out]; omega
        · rw [h1] at hpm
          rw [h2] at hqm
          have HP := Lib.hid hpm
          have HQ := Lib.hid hqm
          clear hpm hqm h1 h2
          go_wp2_with fail
          refine (rAt_nm A3 n3 c3 p _ 0 hp (by omega) (by omega)).mono ?_
          rw [HP.out]
          rintro e wq ⟨rfl, rfl⟩
          go_wp2_with fail
          refine (rAt_nm A4 n4 c4 q _ 0 hq (by omega) (by omega)).mono ?_
          rw [HQ.out]
          rintro e wq ⟨rfl, rfl⟩
          go_wp2_with fail
          go_loopw [0, 1] (fun a b W => ∃ (p1 q1 : Nat) (A5 : Option Addr) (n5 c5 : Nat) (A6 : Option Addr) (n6 c6 : Nat), a = .slice A5 n5 c5 ∧ b = .slice A6 n6 c6 ∧ Nm W A5 n5 c5 p1 ∧ Nm W A6 n6 c6 q1 ∧ n5 ≤ 900 ∧ n6 ≤ 900 ∧ p1 ≠ 0 ∧ q1 ≠ 0 ∧ (p1 % 2 = 1 ∨ q1 % 2 = 1) ∧ Nat.gcd p1 q1 = G ∧ Below w.heap.size w W) (fun a b W => numOf W a + numOf W b)
          case atStart => exact ⟨p, q, _, _, _, _, _, _, rfl, rfl, hp, hq, ln3, ln4, hp0, hq0, hodd2, HGG.out, hB⟩
          case round =>
            obtain ⟨p1, q1, A5, n5, c5, A6, n6, c6, rfl, rfl, hp1, hq1, ln5, ln6, hp10, hq10, hod, hg1, hB1⟩ := hrel
            clear hp hq hodd2 hB hp0 hq0
            by_cases heq : p1 = q1
            · subst heq
              rw [Nat.gcd_self] at hg1
              have hfin : p1 * 2 ^ s = Nat.gcd v u := by rw [hg1, ← HGG.out, Nat.mul_comm]; exact HG.out
              have HF := Lib.hid hfin
              have hc0 : cmp3 p1 p1 = 0 := cmp3_self p1
              have HC := Lib.hid hc0
              have hsz := hB1.size
              clear hg1 hfin hc0 hod
              go_wp2_with fail
              refine (rCmp_nm A5 A6 n5 c5 n6 c6 p1 p1 _ hp1 hq1 (by omega) (by omega)).mono ?_
              rw [HC.out]
              rintro e wq ⟨rfl, rfl⟩
              go_wp2_with fail
              refine (rTimes_nm A5 n5 c5 p1 _ s hp1 (by omega) (by omega)).mono ?_
              rw [HF.out]
              rintro e w7 ⟨A7, n7, c7, rfl, o7, hb7⟩
              replace o7 := own_mono o7 hsz
              replace hb7 := below_then hB1 hb7
              go_wp2_with fail
              go_ret
              exact ⟨_, _, _, rfl, o7, hb7⟩
            · have hn1 := numOf_is hp1
              have hn2 := numOf_is hq1
              obtain ⟨N, hN, hNe⟩ : ∃ N : Int, cmp3 p1 q1 = N ∧ ((p1 < q1 ∧ N = -1) ∨ (q1 < p1 ∧ N = 1)) := by
                rcases Nat.lt_or_gt_of_ne heq with h | h
                · exact ⟨-1, cmp3_lt h, .inl ⟨h, rfl⟩⟩
                · exact ⟨1, cmp3_gt h, .inr ⟨h, rfl⟩⟩
              have HC := Lib.hid hN
              have hNz : (N != 0) = true := by simp; omega
              have hpm1 : nbit p1 0 = p1 % 2 := nbit_low p1
              have hqm1 : nbit q1 0 = q1 % 2 := nbit_low q1
              have lp := half_len hp1
              have lq := half_len hq1
              have ls1 := sub_len hp1 q1
              have ls2 := sub_len hq1 p1
              have HN1 := Lib.hid hn1
              have HN2 := Lib.hid hn2
              have hpar : (p1 % 2 = 0 ∧ q1 % 2 = 1) ∨ (p1 % 2 = 1 ∧ q1 % 2 = 0) ∨ (p1 % 2 = 1 ∧ q1 % 2 = 1) := by omega
              clear hn1 hn2 hN hod heq
              rcases hpar with ⟨h1, h2⟩ | ⟨h1, h2⟩ | ⟨h1, h2⟩
              · rw [h1] at hpm1
                have HP1 := Lib.hid hpm1
                have hgn : Nat.gcd (p1 / 2) q1 = G := by rw [gcd_half_left h1 h2]; exact hg1
                have HGN := Lib.hid hgn
                have hlt : p1 / 2 < p1 := by omega
                have hz : p1 / 2 ≠ 0 := by omega
                clear hpm1 hqm1 hgn hg1 h1 hNe lq ls1 ls2
                go_wp2_with fail
                refine (rCmp_nm A5 A6 n5 c5 n6 c6 p1 q1 _ hp1 hq1 (by omega) (by omega)).mono ?_
                rw [HC.out]
                rintro e wq ⟨rfl, rfl⟩
                go_wp2_with fail
                refine (rAt_nm A5 n5 c5 p1 _ 0 hp1 (by omega) (by omega)).mono ?_
                rw [HP1.out]
                rintro e wq ⟨rfl, rfl⟩
                go_wp2_with fail
                refine (rHalf_any A5 n5 c5 p1 _ hp1 (by omega)).mono ?_
                rintro e w7 ⟨A7, n7, c7, rfl, o7, hb7⟩
                have r7 := o7.nm
                have l7 : n7 ≤ 900 := by have := o7.rd.2.1; omega
                have r8 := hq1.below hb7
                replace hb7 := below_then hB1 hb7
                clear o7
                go_wp2_with fail
                go_roundw
                case rel => exact ⟨p1 / 2, q1, _, _, _, _, _, _, rfl, rfl, r7, r8, l7, ln6, hz, hq10, .inr h2, HGN.out, hb7⟩
                case measure => rw [numOf_is r7, numOf_is r8, HN1.out, HN2.out]; omega
              · rw [h1] at hpm1
                rw [h2] at hqm1
                have HP1 := Lib.hid hpm1
                have HQ1 := Lib.hid hqm1
                have hgn : Nat.gcd p1 (q1 / 2) = G := by rw [gcd_half_right h1 h2]; exact hg1
                have HGN := Lib.hid hgn
                have hlt : q1 / 2 < q1 := by omega
                have hz : q1 / 2 ≠ 0 := by omega
                clear hpm1 hqm1 hgn hg1 h2 hNe lp ls1 ls2
                go_wp2_with fail
                refine (rCmp_nm A5 A6 n5 c5 n6 c6 p1 q1 _ hp1 hq1 (by omega) (by omega)).mono ?_
                rw [HC.out]
                rintro e wq ⟨rfl, rfl⟩
                go_wp2_with fail
                refine (rAt_nm A5 n5 c5 p1 _ 0 hp1 (by omega) (by omega)).mono ?_
                rw [HP1.out]
                rintro e wq ⟨rfl, rfl⟩
                go_wp2_with fail
                refine (rAt_nm A6 n6 c6 q1 _ 0 hq1 (by omega) (by omega)).mono ?_
                rw [HQ1.out]
                rintro e wq ⟨rfl, rfl⟩
                go_wp2_with fail
                refine (rHalf_any A6 n6 c6 q1 _ hq1 (by omega)).mono ?_
                rintro e w7 ⟨A7, n7, c7, rfl, o7, hb7⟩
                have r7 := o7.nm
                have l7 : n7 ≤ 900 := by have := o7.rd.2.1; omega
                have r8 := hp1.below hb7
                replace hb7 := below_then hB1 hb7
                clear o7
                go_wp2_with fail
                go_roundw
                case rel => exact ⟨p1, q1 / 2, _, _, _, _, _, _, rfl, rfl, r8, r7, ln5, l7, hp10, hz, .inl h1, HGN.out, hb7⟩
                case measure => rw [numOf_is r7, numOf_is r8, HN1.out, HN2.out]; omega
              · rw [h1] at hpm1
                rw [h2] at hqm1
                have HP1 := Lib.hid hpm1
                have HQ1 := Lib.hid hqm1
                clear hpm1 hqm1 lp lq
                rcases hNe with ⟨hlt, rfl⟩ | ⟨hlt, rfl⟩
                · have hgn : Nat.gcd p1 (q1 - p1) = G := by rw [gcd_rest_right (by omega)]; exact hg1
                  have HGN := Lib.hid hgn
                  have hz : q1 - p1 ≠ 0 := by omega
                  clear hgn hg1 h2 ls1
                  go_wp2_with fail
                  refine (rCmp_nm A5 A6 n5 c5 n6 c6 p1 q1 _ hp1 hq1 (by omega) (by omega)).mono ?_
                  rw [HC.out]
                  rintro e wq ⟨rfl, rfl⟩
                  go_wp2_with fail
                  refine (rAt_nm A5 n5 c5 p1 _ 0 hp1 (by omega) (by omega)).mono ?_
                  rw [HP1.out]
                  rintro e wq ⟨rfl, rfl⟩
                  go_wp2_with fail
                  refine (rAt_nm A6 n6 c6 q1 _ 0 hq1 (by omega) (by omega)).mono ?_
                  rw [HQ1.out]
                  rintro e wq ⟨rfl, rfl⟩
                  go_wp2_with fail
                  refine (rCmp_nm A5 A6 n5 c5 n6 c6 p1 q1 _ hp1 hq1 (by omega) (by omega)).mono ?_
                  rw [HC.out]
                  rintro e wq ⟨rfl, rfl⟩
                  go_wp2_with fail
                  refine (rRest_nm A6 A5 n6 c6 n5 c5 q1 p1 _ hq1 hp1 (by omega) (by omega) (by omega)).mono ?_
                  rintro e w7 ⟨A7, n7, c7, rfl, o7, hb7⟩
                  have r7 := o7.nm
                  have l7 : n7 ≤ 900 := by have := o7.rd.2.1; omega
                  have r8 := hp1.below hb7
                  replace hb7 := below_then hB1 hb7
                  clear o7
                  go_wp2_with fail
                  go_roundw
                  case rel => exact ⟨p1, q1 - p1, _, _, _, _, _, _, rfl, rfl, r8, r7, ln5, l7, hp10, hz, .inl h1, HGN.out, hb7⟩
                  case measure => rw [numOf_is r7, numOf_is r8, HN1.out, HN2.out]; omega
                · have hgn : Nat.gcd (p1 - q1) q1 = G := by rw [gcd_rest_left (by omega)]; exact hg1
                  have HGN := Lib.hid hgn
                  have hz : p1 - q1 ≠ 0 := by omega
                  clear hgn hg1 h1 ls2
                  go_wp2_with fail
                  refine (rCmp_nm A5 A6 n5 c5 n6 c6 p1 q1 _ hp1 hq1 (by omega) (by omega)).mono ?_
                  rw [HC.out]
                  rintro e wq ⟨rfl, rfl⟩
                  go_wp2_with fail
                  refine (rAt_nm A5 n5 c5 p1 _ 0 hp1 (by omega) (by omega)).mono ?_
                  rw [HP1.out]
                  rintro e wq ⟨rfl, rfl⟩
                  go_wp2_with fail
                  refine (rAt_nm A6 n6 c6 q1 _ 0 hq1 (by omega) (by omega)).mono ?_
                  rw [HQ1.out]
                  rintro e wq ⟨rfl, rfl⟩
                  go_wp2_with fail
                  refine (rCmp_nm A5 A6 n5 c5 n6 c6 p1 q1 _ hp1 hq1 (by omega) (by omega)).mono ?_
                  rw [HC.out]
                  rintro e wq ⟨rfl, rfl⟩
                  go_wp2_with fail
                  refine (rRest_nm A5 A6 n5 c5 n6 c6 p1 q1 _ hp1 hq1 (by omega) (by omega) (by omega)).mono ?_
                  rintro e w7 ⟨A7, n7, c7, rfl, o7, hb7⟩
                  have r7 := o7.nm
                  have l7 : n7 ≤ 900 := by have := o7.rd.2.1; omega
                  have r8 := hq1.below hb7
                  replace hb7 := below_then hB1 hb7
                  clear o7
                  go_wp2_with fail
                  go_roundw
                  case rel => exact ⟨p1 - q1, q1, _, _, _, _, _, _, rfl, rfl, r7, r8, l7, ln6, hz, hq10, .inr h2, HGN.out, hb7⟩
                  case measure => rw [numOf_is r7, numOf_is r8, HN1.out, HN2.out]; omega
end
end Go.Proofs.YtgiokmfdafmaoaaGreat

/- The document's Common, Gcd and Lcm, whatever the numbers are. -/
namespace Go.Proofs.YtgiokmfdafmaoaaGreat
open Go.RowKit Go.Shelf
set_option linter.unusedVariables false
set_option linter.unusedSimpArgs false

section
variable (A A2 : Option Addr) (na ca nb cb v u : Nat) (w : World)
theorem rwords_keep (x y : Nat) (hx : x < B64) (hy : y < B64) (p p2 : Addr) (c c2 : Value) (h1 : w.cell? p = some c) (h2 : w.cell? p2 = some c2) :
    Calls Tryz.prog 98 #[.int .u64 (x : Int), .int .u64 (y : Int)] w fun e w' => e = .returned (.int .u64 ((Nat.gcd x y : Nat) : Int)) ∧ Below w.heap.size w w' ∧ w'.cell? p = some c ∧ w'.cell? p2 = some c2 :=
  (rwords_any x y hx hy w).mono fun e w' ⟨he, hb⟩ => ⟨he, hb, (hb.cell (cell_lt h1)).trans h1, (hb.cell (cell_lt h2)).trans h2⟩

set_option maxRecDepth 100000 in
set_option maxHeartbeats 2000000 in
theorem common_word (x y : Nat) (hra : Rd w A 1 [x]) (hrb : Rd w A2 1 [y]) (hx0 : x ≠ 0) (hy0 : y ≠ 0) :
    Calls Tryz.prog 78 #[.slice A 1 ca, .slice A2 1 cb] w fun e w' => ∃ A' k c, e = .returned (.slice A' k c) ∧ Own w' w.heap.size (.slice A' k c) (limbs (Nat.gcd x y)) ∧ Below w.heap.size w w' := by
  obtain ⟨b1, o1, rfl, hl1, hc1⟩ := hra.cells (by omega)
  obtain ⟨b2, o2, rfl, hl2, hc2⟩ := hrb.cells (by omega)
  have hcx : w.cell? ⟨b1, o1, none⟩ = some (u64 x) := hc1 0 (by omega)
  have hcy : w.cell? ⟨b2, o2, none⟩ = some (u64 y) := hc2 0 (by omega)
  have hxB := hra.words.head
  have hyB := hrb.words.head
  have hgB : Nat.gcd x y < B64 := Nat.lt_of_le_of_lt (Nat.gcd_le_left y (Nat.pos_of_ne_zero hx0)) hxB
  clear hc1 hc2 hra hrb hx0 hy0
  generalize hg : Nat.gcd x y = g at *
  have HG := Lib.hid hg
  clear hg
  go_enter Tryz.func78, Tryz.ntmps78
  go_wp2
  go_region_held3 (fun w' => w'.cell? ⟨b1, o1, none⟩ = some (u64 x) ∧ w'.cell? ⟨b2, o2, none⟩ = some (u64 y)) (go_keep)
    (first
      | (go_at_call 98; refine (rwords_keep _ x y hxB hyB ⟨b1, o1, none⟩ ⟨b2, o2, none⟩ (u64 x) (u64 y) ?_ ?_).mono ?_; (simp [*]); (simp [*]); rw [HG.out]; rintro e w3 ⟨rfl, hb3, s1, s2⟩)
      | (go_at_call 76; refine (rOf_keep _ g hgB ⟨b1, o1, none⟩ ⟨b2, o2, none⟩ (u64 x) (u64 y) ?_ ?_).mono ?_; (simp [*]); (simp [*]); rintro e w4 ⟨A4, k4, c4, rfl, o4, hb4, s3, s4⟩))
  all_goals
    go_wp2
    go_ret
    exact ⟨_, _, _, rfl, own_mono o4 hb3.size, (Below.refl w.heap.size w).drew.trans (below_then hb3 hb4)⟩

set_option maxRecDepth 100000 in
set_option maxHeartbeats 2000000 in
theorem common_any (hva : Nm w A na ca v) (hub : Nm w A2 nb cb u) (hna : na ≤ 900) (hnb : nb ≤ 900) :
    Calls Tryz.prog 78 #[.slice A na ca, .slice A2 nb cb] w fun e w' => ∃ A' k c, e = .returned (.slice A' k c) ∧ Own w' w.heap.size (.slice A' k c) (limbs (Nat.gcd v u)) ∧ Below w.heap.size w w' := by
  by_cases hv : v = 0
  · obtain rfl : na = 0 := hva.zero.2 hv
    subst hv
    rw [Nat.gcd_zero_left]
    clear hva
    go_enter Tryz.func78, Tryz.ntmps78
    go_wp2_with fail
    refine (rSum_nm A2 none nb cb 0 0 u 0 _ hub (nm_zero _ none (by omega)) (by omega) (by omega)).mono ?_
    rw [Nat.add_zero]
    rintro e w3 ⟨A3, k3, c3, rfl, o3, hb3⟩
    go_wp2_with fail
    go_ret
    exact ⟨_, _, _, rfl, o3, hb3⟩
  · have e1 : ((na : Int) == 0) = false := int_eq0 (fun h => hv (hva.zero.1 h))
    by_cases hu : u = 0
    · obtain rfl : nb = 0 := hub.zero.2 hu
      subst hu
      rw [Nat.gcd_zero_right]
      clear hub
      go_enter Tryz.func78, Tryz.ntmps78
      go_wp2_with fail
      refine (rSum_nm A none na ca 0 0 v 0 _ hva (nm_zero _ none (by omega)) (by omega) (by omega)).mono ?_
      rw [Nat.add_zero]
      rintro e w3 ⟨A3, k3, c3, rfl, o3, hb3⟩
      go_wp2_with fail
      go_ret
      exact ⟨_, _, _, rfl, o3, hb3⟩
    · by_cases h : na = 1 ∧ nb = 1
      · obtain ⟨rfl, rfl⟩ := h
        obtain ⟨x, hx⟩ := one_limb hva.rd.len
        obtain ⟨y, hy⟩ := one_limb hub.rd.len
        have ex : x = v := by have := congrArg val hx; simpa [val, val_limbs] using this.symm
        have ey : y = u := by have := congrArg val hy; simpa [val, val_limbs] using this.symm
        subst ex
        subst ey
        have h1 := hva.rd
        have h2 := hub.rd
        rw [hx] at h1
        rw [hy] at h2
        exact common_word A A2 ca cb w x y h1 h2 hv hu
      · refine common_gen A A2 na ca nb cb v u w hva hub hna hnb hv hu ?_
        by_cases h1 : na = 1
        · right
          exact ⟨by rw [h1]; rfl, int_ne1 (fun h2 => h ⟨h1, h2⟩)⟩
        · left
          exact int_ne1 h1
end

section
variable (A A2 : Option Addr) (na ca nb cb : Nat) (a b : List Nat) (w : World)
def gcdL (a b : List Nat) : List Nat := if both a b = true then limbs (Nat.gcd (val a) (val b)) else []
def lcmL (a b : List Nat) : List Nat := if both a b = true then limbs (Nat.lcm (val a) (val b)) else []

end
end Go.Proofs.YtgiokmfdafmaoaaGreat
