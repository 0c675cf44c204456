import Derived.Test.YtbldimplddiheaaGreatDoorKZP
import Derived.Test.YtbldimplddiheaaGreatDoorKDNames
import Derived.Test.YtbldimplddiheaaGreatDoorKBit
/- ZR. -/
/- whole: quotients. -/
namespace Go.Proofs.YtbldimplddiheaaGreatDoor
open Go.RowKit Go.Shelf
set_option linter.unusedVariables false
set_option linter.unusedSimpArgs false

section
variable {A A2 : Option Addr} {na ca nb cb v u : Nat} {p q : Bool} {a b : List Nat} {w : World} {z y : Int}
theorem quo_nm (hva : Nm w A na ca v) (hub : Nm w A2 nb cb u) (hu : u ≠ 0) (hna : na ≤ 1000) (hnb : nb ≤ 1000) :
    Calls Tryz.prog 106 #[.slice A na ca, .slice A2 nb cb] w (Answers2 w (limbs (v / u)) (limbs (v % u)) 0) := by
  have e : divE (limbs v) (limbs u) = 0 := divE_ok (may_limbs v) (may_limbs u) (fun h => hu (limbs_eq_nil.1 h))
  have h := div_is A A2 na ca nb cb (limbs v) (limbs u) w hva.rd hub.rd hna hnb ⟨hva.nc, hva.cm⟩ ⟨hub.nc, hub.cm⟩
  rw [quoL_ok e, remL_ok e, e, val_limbs, val_limbs] at h
  exact h
theorem quo_nm0 (hva : Nm w A na ca v) (hub : Nm w A2 0 cb 0) (hna : na ≤ 1000) :
    Calls Tryz.prog 106 #[.slice A na ca, .slice A2 0 cb] w (Answers2 w [] [] 30) := by
  have e : divE (limbs v) [] = 30 := divE_zero (may_limbs v)
  have h := div_is A A2 na ca 0 cb (limbs v) [] w hva.rd (limbs_zero ▸ hub.rd) hna (by omega) ⟨hva.nc, hva.cm⟩ ⟨hub.nc, hub.cm⟩
  rw [quoL_no (by rw [e]; decide), remL_no (by rw [e]; decide), e] at h
  exact h
theorem exq_nm (hva : Nm w A na ca v) (hub : Nm w A2 nb cb u) (hu : u ≠ 0) (hm : v % u = 0) (hna : na ≤ 1000) (hnb : nb ≤ 1000) :
    Calls Tryz.prog 79 #[.slice A na ca, .slice A2 nb cb] w (Answers w (limbs (v / u)) 0) := by
  have e : divE (limbs v) (limbs u) = 0 := divE_ok (may_limbs v) (may_limbs u) (fun h => hu (limbs_eq_nil.1 h))
  have e2 : exactE (limbs v) (limbs u) = 0 := by simp [exactE, e, val_limbs, hm]
  have e3 : exactL (limbs v) (limbs u) = limbs (v / u) := by simp [exactL, e2, val_limbs]
  have h := exact_is A A2 na ca nb cb (limbs v) (limbs u) w hva.rd hub.rd hna hnb ⟨hva.nc, hva.cm⟩ ⟨hub.nc, hub.cm⟩
  rw [e2, e3] at h
  exact h
theorem exq_nm6 (hva : Nm w A na ca v) (hub : Nm w A2 nb cb u) (hu : u ≠ 0) (hm : v % u ≠ 0) (hna : na ≤ 1000) (hnb : nb ≤ 1000) :
    Calls Tryz.prog 79 #[.slice A na ca, .slice A2 nb cb] w (Answers w [] 6) := by
  have e : divE (limbs v) (limbs u) = 0 := divE_ok (may_limbs v) (may_limbs u) (fun h => hu (limbs_eq_nil.1 h))
  have e2 : exactE (limbs v) (limbs u) = 6 := by simp [exactE, e, val_limbs, hm]
  have e3 : exactL (limbs v) (limbs u) = [] := by simp [exactL, e2]
  have h := exact_is A A2 na ca nb cb (limbs v) (limbs u) w hva.rd hub.rd hna hnb ⟨hva.nc, hva.cm⟩ ⟨hub.nc, hub.cm⟩
  rw [e2, e3] at h
  exact h
theorem exq_nm0 (hva : Nm w A na ca v) (hub : Nm w A2 0 cb 0) (hna : na ≤ 1000) :
    Calls Tryz.prog 79 #[.slice A na ca, .slice A2 0 cb] w (Answers w [] 30) := by
  have e : divE (limbs v) [] = 30 := divE_zero (may_limbs v)
  have e2 : exactE (limbs v) [] = 30 := by simp [exactE, e]
  have e3 : exactL (limbs v) [] = [] := by simp [exactL, e2]
  have h := exact_is A A2 na ca 0 cb (limbs v) [] w hva.rd (limbs_zero ▸ hub.rd) hna (by omega) ⟨hva.nc, hva.cm⟩ ⟨hub.nc, hub.cm⟩
  rw [e2, e3] at h
  exact h
set_option maxRecDepth 100000 in
set_option maxHeartbeats 4000000 in
theorem quotient_any (h : Z2 w A A2 na ca nb cb a b) (t : Bool) (Z : Int) (hZ : twoM p a q b = true → b ≠ [] → Z.natAbs = (zof p a).natAbs / (zof q b).natAbs + (if t = true ∧ (zof p a).natAbs % (zof q b).natAbs ≠ 0 then 1 else 0)) (hD : twoM p a q b = true → b ≠ [] → Z ≠ 0 → decide (Z < 0) = (p != q)) : Calls Tryz.prog 83 #[zv p A na ca, zv q A2 nb cb, .bool t] w (ZAns w (if quoE p a q b = 0 then Z else 0) (quoE p a q b)) := by
  have H1 := Lib.hid (mayTwo_at (p := p) (q := q) h)
  cases hm : twoM p a q b with
  | false =>
    have e : quoE p a q b = 8 := by simp [quoE, hm]
    rw [e, if_neg (by decide)]
    rw [twoE_no hm] at H1
    clear h hm hZ hD e
    unfold zv at *
    go_enter Tryz.func83, Tryz.ntmps83
    go_wp2_with fail
    refine H1.out.mono ?_
    rintro e w1 ⟨rfl, T1⟩
    have xa0 := T1.t.x.c0
    have xa1 := T1.t.x.c1
    have xb0 := T1.t.y.c0
    have xb1 := T1.t.y.c1
    have r0 := T1.r.c0
    have r1 := T1.r.c1
    have f0 := T1.r.f 0
    have f1 := T1.r.f 1
    go_wp2
    refine bodyPost_ret (v := .tuple #[zv false none 0 0, .int .i64 8]) (by simp [results, Tryz.results83, go_sem, r0, r1, zv]) rfl ?_
    exact zans_zero (box_below (show w.heap.size ≤ w.heap.size + 1 + 1 by omega) T1.t.b _ _)
  | true =>
    have hz := h.num hm
    have n1 := hz.1
    have n2 := hz.2.1
    have hla := h.la
    have hlb := h.lb
    rw [twoE_ok hm] at H1
    by_cases hb : nb = 0
    · subst hb
      have hb0 : b = [] := List.eq_nil_of_length_eq_zero h.rb.len
      have hy0 : zof q b = 0 := by rw [hb0]; cases q <;> rfl
      rw [hy0] at n2
      have e : quoE p a q b = 30 := by unfold quoE; rw [if_pos hm, if_pos hb0]
      rw [e, if_neg (by decide)]
      have HN := Lib.hid (fun W (hW : Below w.heap.size w W) => quo_nm0 (n1.below hW) (n2.below hW) (by omega))
      clear h hm hZ hD e hz n1 n2 hb0 hy0 hla hlb
      unfold zv at *
      go_enter Tryz.func83, Tryz.ntmps83
      go_wp2_with fail
      refine H1.out.mono ?_
      rintro e w1 ⟨rfl, T1⟩
      have xa0 := T1.t.x.c0
      have xa1 := T1.t.x.c1
      have xb0 := T1.t.y.c0
      have xb1 := T1.t.y.c1
      have r0 := T1.r.c0
      have r1 := T1.r.c1
      have f0 := T1.r.f 0
      have f1 := T1.r.f 1
      go_wp2_with fail
      refine (HN.out _ T1.t.b).mono ?_
      rintro e w3 ⟨A3, k3, c3, A4, k4, c4, rfl, o3, o4, hb3⟩
      have T3 := T1.next hb3
      clear T1 hb3
      clear xa0 xa1 xb0 xb1 r0 r1 f0 f1
      have xa0 := T3.t.x.c0
      have xa1 := T3.t.x.c1
      have xb0 := T3.t.y.c0
      have xb1 := T3.t.y.c1
      have r0 := T3.r.c0
      have r1 := T3.r.c1
      have f0 := T3.r.f 0
      have f1 := T3.r.f 1
      go_wp2
      refine bodyPost_ret (v := .tuple #[zv false none 0 0, .int .i64 30]) (by simp [results, Tryz.results83, go_sem, r0, r1, zv]) rfl ?_
      exact zans_zero (box_below (show w.heap.size ≤ w.heap.size + 1 + 1 by omega) T3.t.b _ _)
    · have hb0 : b ≠ [] := fun e => hb (by rw [← h.rb.len, e]; rfl)
      have hu : (zof q b).natAbs ≠ 0 := fun e => hb (n2.zero.2 e)
      have e : quoE p a q b = 0 := by unfold quoE; rw [if_pos hm, if_neg hb0]
      rw [e, if_pos rfl]
      have HN := Lib.hid (fun W (hW : Below w.heap.size w W) => quo_nm (n1.below hW) (n2.below hW) hu (by omega) (by omega))
      have HQ : Hid ((limbs ((zof p a).natAbs / (zof q b).natAbs)).length ≤ 400) := by
        show _ ≤ _
        refine Nat.le_trans (limbs_length_le (k := na) (Nat.lt_of_le_of_lt (Nat.div_le_self _ _) n1.lt)) hla
      have HU := Lib.hid (fun W => unlike_any (A := A) (A2 := A2) (na := na) (ca := ca) (nb := nb) (cb := cb) (p := p) (q := q) (w := W))
      have hZ := hZ hm hb0
      have hD := hD hm hb0
      have HD := Lib.hid hD
      clear h hm e hz n1 n2 hb0 hla hlb hu hb hD
      generalize (zof p a).natAbs / (zof q b).natAbs = Q at HN HQ hZ
      generalize (zof p a).natAbs % (zof q b).natAbs = R at HN hZ
      generalize (p != q) = d at HU HD
      unfold zv at *
      cases t with
      | false =>
        have hZ2 : Q = Z.natAbs := by rw [hZ]; simp
        rw [hZ2] at HN
        clear hZ hZ2
        go_enter Tryz.func83, Tryz.ntmps83
        go_wp2_with fail
        refine H1.out.mono ?_
        rintro e w1 ⟨rfl, T1⟩
        have HG := Lib.hid (Array.getElem?_eq_some_iff.1 T1.r).1
        have xa0 := T1.t.x.c0
        have xa1 := T1.t.x.c1
        have xb0 := T1.t.y.c0
        have xb1 := T1.t.y.c1
        have r0 := T1.r.c0
        have r1 := T1.r.c1
        have f0 := T1.r.f 0
        have f1 := T1.r.f 1
        go_wp2_with fail
        refine (HN.out _ T1.t.b).mono ?_
        rintro e w3 ⟨A3, k3, c3, A4, k4, c4, rfl, o3, o4, hb3⟩
        have T3 := T1.next hb3
        clear T1 hb3
        clear xa0 xa1 xb0 xb1 r0 r1 f0 f1
        have xa0 := T3.t.x.c0
        have xa1 := T3.t.x.c1
        have xb0 := T3.t.y.c0
        have xb1 := T3.t.y.c1
        have r0 := T3.r.c0
        have r1 := T3.r.c1
        have f0 := T3.r.f 0
        have f1 := T3.r.f 1
        clear o4
        go_wp2_with fail
        refine (HU.out _).mono ?_
        rintro e w7 ⟨rfl, hb7⟩
        replace o3 := o3.below hb7
        have T7 := T3.next hb7
        clear T3 hb7
        clear xa0 xa1 xb0 xb1 r0 r1 f0 f1
        have xa0 := T7.t.x.c0
        have xa1 := T7.t.x.c1
        have xb0 := T7.t.y.c0
        have xb1 := T7.t.y.c1
        have r0 := T7.r.c0
        have r1 := T7.r.c1
        have f0 := T7.r.f 0
        have f1 := T7.r.f 1
        go_wp2_with fail
        refine (signed_own (z := Z) (d := d) o3 HD.out).mono ?_
        rintro e w8 ⟨A9, k9, c9, rfl, o9, hb8⟩
        have T8 := T7.next hb8
        clear T7 hb8
        clear xa0 xa1 xb0 xb1 r0 r1 f0 f1
        have xa0 := T8.t.x.c0
        have xa1 := T8.t.x.c1
        have xb0 := T8.t.y.c0
        have xb1 := T8.t.y.c1
        have r0 := T8.r.c0
        have r1 := T8.r.c1
        have f0 := T8.r.f 0
        have f1 := T8.r.f 1
        unfold zV zv
        go_wp2
        refine bodyPost_ret (v := .tuple #[zV Z A9 k9 c9, .int .i64 0]) (by simp [results, Tryz.results83, go_sem, r0, r1, zV, zv]) rfl ?_
        exact ⟨A9, k9, c9, rfl, own_box HG.out (show w.heap.size ≤ w.heap.size + 1 + 1 by omega) o9 _ _, box_below (show w.heap.size ≤ w.heap.size + 1 + 1 by omega) T8.t.b _ _⟩
      | true =>
        by_cases hR : R = 0
        · have hZ2 : Q = Z.natAbs := by rw [hZ]; simp [hR]
          rw [hZ2, hR, limbs_zero] at HN
          clear hZ hZ2
          go_enter Tryz.func83, Tryz.ntmps83
          go_wp2_with fail
          refine H1.out.mono ?_
          rintro e w1 ⟨rfl, T1⟩
          have HG := Lib.hid (Array.getElem?_eq_some_iff.1 T1.r).1
          have xa0 := T1.t.x.c0
          have xa1 := T1.t.x.c1
          have xb0 := T1.t.y.c0
          have xb1 := T1.t.y.c1
          have r0 := T1.r.c0
          have r1 := T1.r.c1
          have f0 := T1.r.f 0
          have f1 := T1.r.f 1
          go_wp2_with fail
          refine (HN.out _ T1.t.b).mono ?_
          rintro e w3 ⟨A3, k3, c3, A4, k4, c4, rfl, o3, o4, hb3⟩
          have T3 := T1.next hb3
          clear T1 hb3
          clear xa0 xa1 xb0 xb1 r0 r1 f0 f1
          have xa0 := T3.t.x.c0
          have xa1 := T3.t.x.c1
          have xb0 := T3.t.y.c0
          have xb1 := T3.t.y.c1
          have r0 := T3.r.c0
          have r1 := T3.r.c1
          have f0 := T3.r.f 0
          have f1 := T3.r.f 1
          have hk4 : k4 = 0 := by have h := o4.rd.2.1; rw [List.length_nil] at h; omega
          subst hk4
          clear o4
          go_wp2_with fail
          refine (HU.out _).mono ?_
          rintro e w7 ⟨rfl, hb7⟩
          replace o3 := o3.below hb7
          have T7 := T3.next hb7
          clear T3 hb7
          clear xa0 xa1 xb0 xb1 r0 r1 f0 f1
          have xa0 := T7.t.x.c0
          have xa1 := T7.t.x.c1
          have xb0 := T7.t.y.c0
          have xb1 := T7.t.y.c1
          have r0 := T7.r.c0
          have r1 := T7.r.c1
          have f0 := T7.r.f 0
          have f1 := T7.r.f 1
          go_wp2_with fail
          refine (signed_own (z := Z) (d := d) o3 HD.out).mono ?_
          rintro e w8 ⟨A9, k9, c9, rfl, o9, hb8⟩
          have T8 := T7.next hb8
          clear T7 hb8
          clear xa0 xa1 xb0 xb1 r0 r1 f0 f1
          have xa0 := T8.t.x.c0
          have xa1 := T8.t.x.c1
          have xb0 := T8.t.y.c0
          have xb1 := T8.t.y.c1
          have r0 := T8.r.c0
          have r1 := T8.r.c1
          have f0 := T8.r.f 0
          have f1 := T8.r.f 1
          unfold zV zv
          go_wp2
          refine bodyPost_ret (v := .tuple #[zV Z A9 k9 c9, .int .i64 0]) (by simp [results, Tryz.results83, go_sem, r0, r1, zV, zv]) rfl ?_
          exact ⟨A9, k9, c9, rfl, own_box HG.out (show w.heap.size ≤ w.heap.size + 1 + 1 by omega) o9 _ _, box_below (show w.heap.size ≤ w.heap.size + 1 + 1 by omega) T8.t.b _ _⟩
        · have hZ2 : Q + 1 = Z.natAbs := by rw [hZ]; simp [hR]
          clear hZ
          go_enter Tryz.func83, Tryz.ntmps83
          go_wp2_with fail
          refine H1.out.mono ?_
          rintro e w1 ⟨rfl, T1⟩
          have HG := Lib.hid (Array.getElem?_eq_some_iff.1 T1.r).1
          have xa0 := T1.t.x.c0
          have xa1 := T1.t.x.c1
          have xb0 := T1.t.y.c0
          have xb1 := T1.t.y.c1
          have r0 := T1.r.c0
          have r1 := T1.r.c1
          have f0 := T1.r.f 0
          have f1 := T1.r.f 1
          go_wp2_with fail
          refine (HN.out _ T1.t.b).mono ?_
          rintro e w3 ⟨A3, k3, c3, A4, k4, c4, rfl, o3, o4, hb3⟩
          have T3 := T1.next hb3
          clear T1 hb3
          clear xa0 xa1 xb0 xb1 r0 r1 f0 f1
          have xa0 := T3.t.x.c0
          have xa1 := T3.t.x.c1
          have xb0 := T3.t.y.c0
          have xb1 := T3.t.y.c1
          have r0 := T3.r.c0
          have r1 := T3.r.c1
          have f0 := T3.r.f 0
          have f1 := T3.r.f 1
          have hk4 : 0 < k4 := by have := o4.nm.zero; omega
          have hk5 : (0 < (k4 : Int)) = True := by simp; omega
          have hk6 : decide (0 < (k4 : Int)) = true := by simp; omega
          have hk3 : k3 ≤ 400 := by have := o3.rd.2.1; have := HQ.out; omega
          have HO := Lib.hid (fun W => of_any 1 W (by rw [B64_eq]; omega))
          clear o4
          go_wp2_with fail
          refine (HO.out _).mono ?_
          rintro e w4 ⟨A5, k5, c5, rfl, o5, hb4⟩
          replace o3 := o3.below hb4
          have hk7 : k5 ≤ 400 := by have := o5.nm.len (N := 1) (by rw [Nat.pow_one]; exact B64_gt); omega
          have T4 := T3.next hb4
          clear T3 hb4
          clear xa0 xa1 xb0 xb1 r0 r1 f0 f1
          have xa0 := T4.t.x.c0
          have xa1 := T4.t.x.c1
          have xb0 := T4.t.y.c0
          have xb1 := T4.t.y.c1
          have r0 := T4.r.c0
          have r1 := T4.r.c1
          have f0 := T4.r.f 0
          have f1 := T4.r.f 1
          have HA := Lib.hid (add_nm A3 A5 k3 c3 k5 c5 Q 1 w4 o3.nm o5.nm (by omega) (by omega))
          rw [hZ2] at HA
          have hs4 := Lib.hid (Array.getElem?_eq_some_iff.1 T4.r).1
          clear o3 o5
          go_wp2_with fail
          refine HA.out.mono ?_
          rintro e w5 ⟨A6, k6, c6, rfl, o3, hb5⟩
          have T5 := T4.next hb5
          clear T4 hb5
          clear xa0 xa1 xb0 xb1 r0 r1 f0 f1
          have xa0 := T5.t.x.c0
          have xa1 := T5.t.x.c1
          have xb0 := T5.t.y.c0
          have xb1 := T5.t.y.c1
          have r0 := T5.r.c0
          have r1 := T5.r.c1
          have f0 := T5.r.f 0
          have f1 := T5.r.f 1
          go_wp2_with fail
          refine (HU.out _).mono ?_
          rintro e w7 ⟨rfl, hb7⟩
          replace o3 := o3.below hb7
          have T7 := T5.next hb7
          clear T5 hb7
          clear xa0 xa1 xb0 xb1 r0 r1 f0 f1
          have xa0 := T7.t.x.c0
          have xa1 := T7.t.x.c1
          have xb0 := T7.t.y.c0
          have xb1 := T7.t.y.c1
          have r0 := T7.r.c0
          have r1 := T7.r.c1
          have f0 := T7.r.f 0
          have f1 := T7.r.f 1
          go_wp2_with fail
          refine (signed_own (z := Z) (d := d) o3 HD.out).mono ?_
          rintro e w8 ⟨A9, k9, c9, rfl, o9, hb8⟩
          have T8 := T7.next hb8
          clear T7 hb8
          clear xa0 xa1 xb0 xb1 r0 r1 f0 f1
          have xa0 := T8.t.x.c0
          have xa1 := T8.t.x.c1
          have xb0 := T8.t.y.c0
          have xb1 := T8.t.y.c1
          have r0 := T8.r.c0
          have r1 := T8.r.c1
          have f0 := T8.r.f 0
          have f1 := T8.r.f 1
          unfold zV zv
          go_wp2
          refine bodyPost_ret (v := .tuple #[zV Z A9 k9 c9, .int .i64 0]) (by simp [results, Tryz.results83, go_sem, r0, r1, zV, zv]) rfl ?_
          exact ⟨A9, k9, c9, rfl, own_box hs4.out (show w.heap.size ≤ w.heap.size + 1 + 1 by omega) o9 _ _, box_below (show w.heap.size ≤ w.heap.size + 1 + 1 by omega) T8.t.b _ _⟩
end

theorem fdiv_quot {z y : Int} (hy : y ≠ 0) : (Int.fdiv z y).natAbs = z.natAbs / y.natAbs + (if (decide (z < 0) != decide (y < 0)) = true ∧ z.natAbs % y.natAbs ≠ 0 then 1 else 0) ∧ (Int.fdiv z y ≠ 0 → decide (Int.fdiv z y < 0) = (decide (z < 0) != decide (y < 0))) := by
  by_cases h : decide (z < 0) = decide (y < 0)
  · rw [fdiv_same hy h]
    have e : (decide (z < 0) != decide (y < 0)) = false := by rw [h]; simp
    rw [e]
    generalize z.natAbs / y.natAbs = n
    refine ⟨by simp, fun _ => decide_eq_false (by omega)⟩
  · rw [fdiv_diff hy h]
    have e : (decide (z < 0) != decide (y < 0)) = true := by simpa using h
    rw [e]
    generalize z.natAbs / y.natAbs = n
    generalize z.natAbs % y.natAbs = r
    by_cases hr : r = 0
    · rw [if_pos hr, if_neg (by simp [hr])]
      refine ⟨by omega, fun hne => decide_eq_true (by omega)⟩
    · rw [if_neg hr, if_pos ⟨rfl, hr⟩]
      refine ⟨by omega, fun hne => decide_eq_true (by omega)⟩
theorem cdiv_quot {z y : Int} (hy : y ≠ 0) : (cdiv z y).natAbs = z.natAbs / y.natAbs + (if (!(decide (z < 0) != decide (y < 0))) = true ∧ z.natAbs % y.natAbs ≠ 0 then 1 else 0) ∧ (cdiv z y ≠ 0 → decide (cdiv z y < 0) = (decide (z < 0) != decide (y < 0))) := by
  by_cases hz : z = 0
  · subst hz
    have : cdiv 0 y = 0 := by simp [cdiv]
    rw [this]
    simp
  · have h := fdiv_quot (z := -z) hy
    have e : decide (-z < 0) = !decide (z < 0) := by rw [zneg_d]; simp [hz]
    rw [Int.natAbs_neg, e] at h
    have e2 : ((!decide (z < 0)) != decide (y < 0)) = !(decide (z < 0) != decide (y < 0)) := by cases decide (z < 0) <;> cases decide (y < 0) <;> rfl
    rw [e2] at h
    unfold cdiv
    refine ⟨by rw [Int.natAbs_neg]; exact h.1, fun hne => ?_⟩
    have h2 := h.2 (by omega)
    rw [show (decide (z < 0) != decide (y < 0)) = !(!(decide (z < 0) != decide (y < 0))) by simp, ← h2]
    generalize Int.fdiv (-z) y = k at hne
    rw [zneg_d]
    have hk : decide (k ≠ 0) = true := decide_eq_true (by omega)
    rw [hk]
    simp
theorem zof_ne {p : Bool} {a : List Nat} (hm : mayZ p a = true) (h : a ≠ []) : zof p a ≠ 0 := fun e => by
  have h1 := zof_abs p a
  have h2 := val_pos (mayZ_may hm) h
  rw [e] at h1
  omega
theorem dvd_mod (z y : Int) : y ∣ z ↔ z.natAbs % y.natAbs = 0 := by
  rw [← Int.natAbs_dvd_natAbs, Nat.dvd_iff_mod_eq_zero]
section
variable {A A2 : Option Addr} {na ca nb cb v u : Nat} {p q : Bool} {a b : List Nat} {w : World} {z y : Int}
set_option maxRecDepth 100000 in
set_option maxHeartbeats 4000000 in
theorem floorZ_any (h : Z2 w A A2 na ca nb cb a b) : Calls Tryz.prog 49 #[zv p A na ca, zv q A2 nb cb] w (ZAns w (quoZ (Int.fdiv) p a q b) (quoE p a q b)) := by
  have T0 := tri_box w p A na ca q A2 nb cb
  have HU := Lib.hid (fun W => unlike_any (A := A) (A2 := A2) (na := na) (ca := ca) (nb := nb) (cb := cb) (p := p) (q := q) (w := W))
  have HN := Lib.hid (fun W (hW : Below w.heap.size w W) => quotient_any (w := W) (h.below hW) ((p != q)) (Int.fdiv (zof p a) (zof q b))
    (fun hm hb => by have h := (fdiv_quot (z := zof p a) (zof_ne (twoM_iff.1 hm).2 hb)).1; rwa [← mayZ_sgn (twoM_iff.1 hm).1, ← mayZ_sgn (twoM_iff.1 hm).2] at h)
    (fun hm hb => by have h := (fdiv_quot (z := zof p a) (zof_ne (twoM_iff.1 hm).2 hb)).2; rwa [← mayZ_sgn (twoM_iff.1 hm).1, ← mayZ_sgn (twoM_iff.1 hm).2] at h))
  have e : (if quoE p a q b = 0 then Int.fdiv (zof p a) (zof q b) else 0) = quoZ (Int.fdiv) p a q b := rfl
  rw [e] at HN
  clear h e
  generalize quoZ (Int.fdiv) p a q b = Z at HN ⊢
  generalize quoE p a q b = E at HN ⊢
  generalize (p != q) = d at HU HN
  unfold zv ZAns at *
  have HT0 := Lib.hid (T0.next (Below.refl _ _).drew)
  have xa0 := T0.t.x.c0
  have xa1 := T0.t.x.c1
  have xb0 := T0.t.y.c0
  have xb1 := T0.t.y.c1
  have r0 := T0.r.c0
  have r1 := T0.r.c1
  have f0 := T0.r.f 0
  have f1 := T0.r.f 1
  clear T0
  go_enter Tryz.func49, Tryz.ntmps49
  go_wp2_with fail
  go_region_held3 (fun W' => W'.cell? ⟨w.heap.size, 0, none⟩ = some (.bool p) ∧ W'.cell? ⟨w.heap.size, 1, none⟩ = some (.slice A na ca) ∧ W'.cell? ⟨w.heap.size + 1, 0, none⟩ = some (.bool q) ∧ W'.cell? ⟨w.heap.size + 1, 1, none⟩ = some (.slice A2 nb cb)) (first | (refine ⟨?_, ?_, ?_, ?_⟩ <;> exact cell_far (cell_far (by assumption) (by omega) _) (by omega) _) | go_keep)
    (first
      | (go_at_call 77; refine (HU.out _).mono ?_; rintro e w4 ⟨rfl, hb3⟩; have T4 := HT0.out.next hb3; clear xa0 xa1 xb0 xb1 r0 r1 f0 f1; have xa0 := T4.t.x.c0; have xa1 := T4.t.x.c1; have xb0 := T4.t.y.c0; have xb1 := T4.t.y.c1; have r0 := T4.r.c0; have r1 := T4.r.c1; have f0 := T4.r.f 0; have f1 := T4.r.f 1)
      | (go_at_call 83; refine (HN.out _ T4.t.b).mono ?_; rintro e w5 ⟨A9, k9, c9, rfl, o9, hb5⟩; have T5 := T4.next hb5; clear xa0 xa1 xb0 xb1 r0 r1 f0 f1; have xa0 := T5.t.x.c0; have xa1 := T5.t.x.c1; have xb0 := T5.t.y.c0; have xb1 := T5.t.y.c1; have r0 := T5.r.c0; have r1 := T5.r.c1; have f0 := T5.r.f 0; have f1 := T5.r.f 1; unfold zV zv))
  all_goals
    go_wp2
    refine bodyPost_ret (v := .tuple #[zV Z A9 k9 c9, .int .i64 E]) (by simp [results, Tryz.results49, go_sem, r0, r1, zV, zv]) rfl ?_
    exact ⟨A9, k9, c9, rfl, own_box (Array.getElem?_eq_some_iff.1 T4.r).1 (show w.heap.size ≤ w.heap.size + 1 + 1 by omega) o9 _ _, box_below (show w.heap.size ≤ w.heap.size + 1 + 1 by omega) T5.t.b _ _⟩
set_option maxRecDepth 100000 in
set_option maxHeartbeats 4000000 in
theorem ceilZ_any (h : Z2 w A A2 na ca nb cb a b) : Calls Tryz.prog 50 #[zv p A na ca, zv q A2 nb cb] w (ZAns w (quoZ (cdiv) p a q b) (quoE p a q b)) := by
  have T0 := tri_box w p A na ca q A2 nb cb
  have HU := Lib.hid (fun W => unlike_any (A := A) (A2 := A2) (na := na) (ca := ca) (nb := nb) (cb := cb) (p := p) (q := q) (w := W))
  have HN := Lib.hid (fun W (hW : Below w.heap.size w W) => quotient_any (w := W) (h.below hW) (!(p != q)) (cdiv (zof p a) (zof q b))
    (fun hm hb => by have h := (cdiv_quot (z := zof p a) (zof_ne (twoM_iff.1 hm).2 hb)).1; rwa [← mayZ_sgn (twoM_iff.1 hm).1, ← mayZ_sgn (twoM_iff.1 hm).2] at h)
    (fun hm hb => by have h := (cdiv_quot (z := zof p a) (zof_ne (twoM_iff.1 hm).2 hb)).2; rwa [← mayZ_sgn (twoM_iff.1 hm).1, ← mayZ_sgn (twoM_iff.1 hm).2] at h))
  have e : (if quoE p a q b = 0 then cdiv (zof p a) (zof q b) else 0) = quoZ (cdiv) p a q b := rfl
  rw [e] at HN
  clear h e
  generalize quoZ (cdiv) p a q b = Z at HN ⊢
  generalize quoE p a q b = E at HN ⊢
  generalize (p != q) = d at HU HN
  unfold zv ZAns at *
  have HT0 := Lib.hid (T0.next (Below.refl _ _).drew)
  have xa0 := T0.t.x.c0
  have xa1 := T0.t.x.c1
  have xb0 := T0.t.y.c0
  have xb1 := T0.t.y.c1
  have r0 := T0.r.c0
  have r1 := T0.r.c1
  have f0 := T0.r.f 0
  have f1 := T0.r.f 1
  clear T0
  go_enter Tryz.func50, Tryz.ntmps50
  go_wp2_with fail
  go_region_held3 (fun W' => W'.cell? ⟨w.heap.size, 0, none⟩ = some (.bool p) ∧ W'.cell? ⟨w.heap.size, 1, none⟩ = some (.slice A na ca) ∧ W'.cell? ⟨w.heap.size + 1, 0, none⟩ = some (.bool q) ∧ W'.cell? ⟨w.heap.size + 1, 1, none⟩ = some (.slice A2 nb cb)) (first | (refine ⟨?_, ?_, ?_, ?_⟩ <;> exact cell_far (cell_far (by assumption) (by omega) _) (by omega) _) | go_keep)
    (first
      | (go_at_call 77; refine (HU.out _).mono ?_; rintro e w4 ⟨rfl, hb3⟩; have T4 := HT0.out.next hb3; clear xa0 xa1 xb0 xb1 r0 r1 f0 f1; have xa0 := T4.t.x.c0; have xa1 := T4.t.x.c1; have xb0 := T4.t.y.c0; have xb1 := T4.t.y.c1; have r0 := T4.r.c0; have r1 := T4.r.c1; have f0 := T4.r.f 0; have f1 := T4.r.f 1)
      | (go_at_call 83; refine (HN.out _ T4.t.b).mono ?_; rintro e w5 ⟨A9, k9, c9, rfl, o9, hb5⟩; have T5 := T4.next hb5; clear xa0 xa1 xb0 xb1 r0 r1 f0 f1; have xa0 := T5.t.x.c0; have xa1 := T5.t.x.c1; have xb0 := T5.t.y.c0; have xb1 := T5.t.y.c1; have r0 := T5.r.c0; have r1 := T5.r.c1; have f0 := T5.r.f 0; have f1 := T5.r.f 1; unfold zV zv))
  all_goals
    go_wp2
    refine bodyPost_ret (v := .tuple #[zV Z A9 k9 c9, .int .i64 E]) (by simp [results, Tryz.results50, go_sem, r0, r1, zV, zv]) rfl ?_
    exact ⟨A9, k9, c9, rfl, own_box (Array.getElem?_eq_some_iff.1 T4.r).1 (show w.heap.size ≤ w.heap.size + 1 + 1 by omega) o9 _ _, box_below (show w.heap.size ≤ w.heap.size + 1 + 1 by omega) T5.t.b _ _⟩
set_option maxRecDepth 100000 in
set_option maxHeartbeats 4000000 in
theorem exactZ_any (h : Z2 w A A2 na ca nb cb a b) : Calls Tryz.prog 78 #[zv p A na ca, zv q A2 nb cb] w (ZAns w (exZ p a q b) (exE p a q b)) := by
  have H1 := Lib.hid (mayTwo_at (p := p) (q := q) h)
  cases hm : twoM p a q b with
  | false =>
    have e0 : quoE p a q b = 8 := by simp [quoE, hm]
    have e : exE p a q b = 8 := by unfold exE; rw [e0, if_neg (by decide)]
    have e2 : exZ p a q b = 0 := by unfold exZ; rw [e, if_neg (by decide)]
    rw [e, e2]
    rw [twoE_no hm] at H1
    clear h hm e0 e e2
    unfold zv at *
    go_enter Tryz.func78, Tryz.ntmps78
    go_wp2_with fail
    refine H1.out.mono ?_
    rintro e w1 ⟨rfl, T1⟩
    have xa0 := T1.t.x.c0
    have xa1 := T1.t.x.c1
    have xb0 := T1.t.y.c0
    have xb1 := T1.t.y.c1
    have r0 := T1.r.c0
    have r1 := T1.r.c1
    have f0 := T1.r.f 0
    have f1 := T1.r.f 1
    go_wp2
    refine bodyPost_ret (v := .tuple #[zv false none 0 0, .int .i64 8]) (by simp [results, Tryz.results78, go_sem, r0, r1, zv]) rfl ?_
    exact zans_zero (box_below (show w.heap.size ≤ w.heap.size + 1 + 1 by omega) T1.t.b _ _)
  | true =>
    have hz := h.num hm
    have n1 := hz.1
    have n2 := hz.2.1
    have hla := h.la
    have hlb := h.lb
    rw [twoE_ok hm] at H1
    by_cases hb : nb = 0
    · subst hb
      have hb0 : b = [] := List.eq_nil_of_length_eq_zero h.rb.len
      have hy0 : zof q b = 0 := by rw [hb0]; cases q <;> rfl
      rw [hy0] at n2
      have e0 : quoE p a q b = 30 := by unfold quoE; rw [if_pos hm, if_pos hb0]
      have e : exE p a q b = 30 := by unfold exE; rw [e0, if_neg (by decide)]
      have e2 : exZ p a q b = 0 := by unfold exZ; rw [e, if_neg (by decide)]
      rw [e, e2]
      have HN := Lib.hid (fun W (hW : Below w.heap.size w W) => exq_nm0 (n1.below hW) (n2.below hW) (by omega))
      clear h hm e0 e e2 hz n1 n2 hb0 hy0 hla hlb
      unfold zv at *
      go_enter Tryz.func78, Tryz.ntmps78
      go_wp2_with fail
      refine H1.out.mono ?_
      rintro e w1 ⟨rfl, T1⟩
      have xa0 := T1.t.x.c0
      have xa1 := T1.t.x.c1
      have xb0 := T1.t.y.c0
      have xb1 := T1.t.y.c1
      have r0 := T1.r.c0
      have r1 := T1.r.c1
      have f0 := T1.r.f 0
      have f1 := T1.r.f 1
      go_wp2_with fail
      refine (HN.out _ T1.t.b).mono ?_
      rintro e w3 ⟨A3, k3, c3, rfl, o3, hb3⟩
      have T3 := T1.next hb3
      clear T1 hb3
      clear xa0 xa1 xb0 xb1 r0 r1 f0 f1
      have xa0 := T3.t.x.c0
      have xa1 := T3.t.x.c1
      have xb0 := T3.t.y.c0
      have xb1 := T3.t.y.c1
      have r0 := T3.r.c0
      have r1 := T3.r.c1
      have f0 := T3.r.f 0
      have f1 := T3.r.f 1
      go_wp2
      refine bodyPost_ret (v := .tuple #[zv false none 0 0, .int .i64 30]) (by simp [results, Tryz.results78, go_sem, r0, r1, zv]) rfl ?_
      exact zans_zero (box_below (show w.heap.size ≤ w.heap.size + 1 + 1 by omega) T3.t.b _ _)
    · have hb0 : b ≠ [] := fun e => hb (by rw [← h.rb.len, e]; rfl)
      have hu : (zof q b).natAbs ≠ 0 := fun e => hb (n2.zero.2 e)
      have e0 : quoE p a q b = 0 := by unfold quoE; rw [if_pos hm, if_neg hb0]
      by_cases hdv : (zof p a).natAbs % (zof q b).natAbs = 0
      · have e : exE p a q b = 0 := by unfold exE; rw [e0, if_pos rfl, if_pos ((dvd_mod _ _).2 hdv)]
        have e2 : exZ p a q b = Int.fdiv (zof p a) (zof q b) := by unfold exZ; rw [e, if_pos rfl]
        rw [e, e2]
        have hq := fdiv_quot (z := zof p a) (zof_ne (twoM_iff.1 hm).2 hb0)
        rw [if_neg (by simp [hdv]), Nat.add_zero, ← mayZ_sgn (twoM_iff.1 hm).1, ← mayZ_sgn (twoM_iff.1 hm).2] at hq
        have HN := Lib.hid (fun W (hW : Below w.heap.size w W) => exq_nm (n1.below hW) (n2.below hW) hu hdv (by omega) (by omega))
        rw [← hq.1] at HN
        have HU := Lib.hid (fun W => unlike_any (A := A) (A2 := A2) (na := na) (ca := ca) (nb := nb) (cb := cb) (p := p) (q := q) (w := W))
        have HD := Lib.hid hq.2
        clear h hm e0 e e2 hz n1 n2 hb0 hla hlb hu hb hq hdv
        generalize Int.fdiv (zof p a) (zof q b) = Z at HN HD ⊢
        generalize (p != q) = d at HU HD
        unfold zv at *
        go_enter Tryz.func78, Tryz.ntmps78
        go_wp2_with fail
        refine H1.out.mono ?_
        rintro e w1 ⟨rfl, T1⟩
        have HG := Lib.hid (Array.getElem?_eq_some_iff.1 T1.r).1
        have xa0 := T1.t.x.c0
        have xa1 := T1.t.x.c1
        have xb0 := T1.t.y.c0
        have xb1 := T1.t.y.c1
        have r0 := T1.r.c0
        have r1 := T1.r.c1
        have f0 := T1.r.f 0
        have f1 := T1.r.f 1
        go_wp2_with fail
        refine (HN.out _ T1.t.b).mono ?_
        rintro e w3 ⟨A3, k3, c3, rfl, o3, hb3⟩
        have T3 := T1.next hb3
        clear T1 hb3
        clear xa0 xa1 xb0 xb1 r0 r1 f0 f1
        have xa0 := T3.t.x.c0
        have xa1 := T3.t.x.c1
        have xb0 := T3.t.y.c0
        have xb1 := T3.t.y.c1
        have r0 := T3.r.c0
        have r1 := T3.r.c1
        have f0 := T3.r.f 0
        have f1 := T3.r.f 1
        go_wp2_with fail
        refine (HU.out _).mono ?_
        rintro e w7 ⟨rfl, hb7⟩
        replace o3 := o3.below hb7
        have T7 := T3.next hb7
        clear T3 hb7
        clear xa0 xa1 xb0 xb1 r0 r1 f0 f1
        have xa0 := T7.t.x.c0
        have xa1 := T7.t.x.c1
        have xb0 := T7.t.y.c0
        have xb1 := T7.t.y.c1
        have r0 := T7.r.c0
        have r1 := T7.r.c1
        have f0 := T7.r.f 0
        have f1 := T7.r.f 1
        go_wp2_with fail
        refine (signed_own (z := Z) (d := d) o3 HD.out).mono ?_
        rintro e w8 ⟨A9, k9, c9, rfl, o9, hb8⟩
        have T8 := T7.next hb8
        clear T7 hb8
        clear xa0 xa1 xb0 xb1 r0 r1 f0 f1
        have xa0 := T8.t.x.c0
        have xa1 := T8.t.x.c1
        have xb0 := T8.t.y.c0
        have xb1 := T8.t.y.c1
        have r0 := T8.r.c0
        have r1 := T8.r.c1
        have f0 := T8.r.f 0
        have f1 := T8.r.f 1
        unfold zV zv
        go_wp2
        refine bodyPost_ret (v := .tuple #[zV Z A9 k9 c9, .int .i64 0]) (by simp [results, Tryz.results78, go_sem, r0, r1, zV, zv]) rfl ?_
        exact ⟨A9, k9, c9, rfl, own_box HG.out (show w.heap.size ≤ w.heap.size + 1 + 1 by omega) o9 _ _, box_below (show w.heap.size ≤ w.heap.size + 1 + 1 by omega) T8.t.b _ _⟩
      · have e : exE p a q b = 6 := by unfold exE; rw [e0, if_pos rfl, if_neg (fun x => hdv ((dvd_mod _ _).1 x))]
        have e2 : exZ p a q b = 0 := by unfold exZ; rw [e, if_neg (by decide)]
        rw [e, e2]
        have HN := Lib.hid (fun W (hW : Below w.heap.size w W) => exq_nm6 (n1.below hW) (n2.below hW) hu hdv (by omega) (by omega))
        clear h hm e0 e e2 hz n1 n2 hb0 hla hlb hu hb hdv
        unfold zv at *
        go_enter Tryz.func78, Tryz.ntmps78
        go_wp2_with fail
        refine H1.out.mono ?_
        rintro e w1 ⟨rfl, T1⟩
        have xa0 := T1.t.x.c0
        have xa1 := T1.t.x.c1
        have xb0 := T1.t.y.c0
        have xb1 := T1.t.y.c1
        have r0 := T1.r.c0
        have r1 := T1.r.c1
        have f0 := T1.r.f 0
        have f1 := T1.r.f 1
        go_wp2_with fail
        refine (HN.out _ T1.t.b).mono ?_
        rintro e w3 ⟨A3, k3, c3, rfl, o3, hb3⟩
        have T3 := T1.next hb3
        clear T1 hb3
        clear xa0 xa1 xb0 xb1 r0 r1 f0 f1
        have xa0 := T3.t.x.c0
        have xa1 := T3.t.x.c1
        have xb0 := T3.t.y.c0
        have xb1 := T3.t.y.c1
        have r0 := T3.r.c0
        have r1 := T3.r.c1
        have f0 := T3.r.f 0
        have f1 := T3.r.f 1
        go_wp2
        refine bodyPost_ret (v := .tuple #[zv false none 0 0, .int .i64 6]) (by simp [results, Tryz.results78, go_sem, r0, r1, zv]) rfl ?_
        exact zans_zero (box_below (show w.heap.size ≤ w.heap.size + 1 + 1 by omega) T3.t.b _ _)
end
end Go.Proofs.YtbldimplddiheaaGreatDoor
