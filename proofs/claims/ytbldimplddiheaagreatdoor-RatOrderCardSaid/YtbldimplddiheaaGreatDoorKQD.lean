import Derived.Test.YtbldimplddiheaaGreatDoorKGLow
import Derived.Test.YtbldimplddiheaaGreatDoorKRefCommon
import Derived.Test.YtbldimplddiheaaGreatDoorKQN
import Derived.Test.YtbldimplddiheaaGreatDoorKZHeld
import Derived.Test.YtbldimplddiheaaGreatDoorKZV
/- GLower GCommon QA QB QC QD. -/
/- gcd's lower: some of Euclid's steps. -/
namespace Go.Proofs.YtbldimplddiheaaGreatDoor
open Go.RowKit Go.Shelf
set_option linter.unusedVariables false
set_option linter.unusedSimpArgs false

/-- What stays while lower's answers are made. -/
structure LowK (A A2 : Option Addr) (na ca nb cb v u : Nat) (w : World) : Prop where
  a : Nm w A na ca v
  b : Nm w A2 nb cb u
theorem LowK.below {A A2 : Option Addr} {na ca nb cb v u : Nat} {w w' : World} (h : LowK A A2 na ca nb cb v u w) (hb : Below w.heap.size w w') : LowK A A2 na ca nb cb v u w' := ⟨h.a.below hb, h.b.below hb⟩
theorem LowK.drew {A A2 : Option Addr} {na ca nb cb v u : Nat} {w : World} (h : LowK A A2 na ca nb cb v u w) : LowK A A2 na ca nb cb v u w.drew := h.below (Below.refl _ w).drew
theorem LowK.drewN {A A2 : Option Addr} {na ca nb cb v u : Nat} {w : World} (h : LowK A A2 na ca nb cb v u w) (k : Nat) : LowK A A2 na ca nb cb v u (w.drewN k) := h.below (below_drewN (Below.refl _ w) k)

theorem top_eq {q K r u : Nat} (hK : 0 < K) (hr : r < K) (e : u = q * K + r) : q = u / K := by
  rw [e, Nat.mul_comm, Nat.mul_add_div hK, Nat.div_eq_of_lt hr, Nat.add_zero]
section
variable {A A2 : Option Addr} {na ca nb cb v u : Nat} {w : World}
/-- less of a and b, and what stays; or of b and a. -/
theorem lessG_keep (n m : Nat) (p1 p2 p3 p4 : Addr) (u1 u2 u3 u4 : Value) (hk : LowK A A2 na ca nb cb v u w) (hna : na ≤ 1000) (hnb : nb ≤ 1000) (hn : n < B64) (hm : m < B64) (hle : m * u ≤ n * v)
    (h1 : w.cell? p1 = some u1) (h2 : w.cell? p2 = some u2) (h3 : w.cell? p3 = some u3) (h4 : w.cell? p4 = some u4) :
    Calls Tryz.prog 143 #[.slice A na ca, wv n, .slice A2 nb cb, wv m] w fun e w' => ∃ A' k c, e = .returned (.slice A' k c) ∧ Own w' w.heap.size (.slice A' k c) (limbs (n * v - m * u)) ∧ Below w.heap.size w w' ∧ LowK A A2 na ca nb cb v u w' ∧ w'.cell? p1 = some u1 ∧ w'.cell? p2 = some u2 ∧ w'.cell? p3 = some u3 ∧ w'.cell? p4 = some u4 :=
  (lessG_nm A A2 na ca nb cb v u w n m hk.a hk.b hna hnb hn hm hle).mono fun e w' ⟨A', k, c, he, ho, hb⟩ => ⟨A', k, c, he, ho, hb, hk.below hb, (hb.cell (cell_lt h1)).trans h1, (hb.cell (cell_lt h2)).trans h2, (hb.cell (cell_lt h3)).trans h3, (hb.cell (cell_lt h4)).trans h4⟩
theorem lessG_keep' (n m : Nat) (p1 p2 p3 p4 : Addr) (u1 u2 u3 u4 : Value) (hk : LowK A A2 na ca nb cb v u w) (hna : na ≤ 1000) (hnb : nb ≤ 1000) (hn : n < B64) (hm : m < B64) (hle : m * v ≤ n * u)
    (h1 : w.cell? p1 = some u1) (h2 : w.cell? p2 = some u2) (h3 : w.cell? p3 = some u3) (h4 : w.cell? p4 = some u4) :
    Calls Tryz.prog 143 #[.slice A2 nb cb, wv n, .slice A na ca, wv m] w fun e w' => ∃ A' k c, e = .returned (.slice A' k c) ∧ Own w' w.heap.size (.slice A' k c) (limbs (n * u - m * v)) ∧ Below w.heap.size w w' ∧ LowK A A2 na ca nb cb v u w' ∧ w'.cell? p1 = some u1 ∧ w'.cell? p2 = some u2 ∧ w'.cell? p3 = some u3 ∧ w'.cell? p4 = some u4 :=
  (lessG_nm A2 A nb cb na ca u v w n m hk.b hk.a hnb hna hn hm hle).mono fun e w' ⟨A', k, c, he, ho, hb⟩ => ⟨A', k, c, he, ho, hb, hk.below hb, (hb.cell (cell_lt h1)).trans h1, (hb.cell (cell_lt h2)).trans h2, (hb.cell (cell_lt h3)).trans h3, (hb.cell (cell_lt h4)).trans h4⟩
end

section
variable (A A2 : Option Addr) (na ca nb cb v u : Nat) (w : World)
/-- What lower answers. -/
def LowA (v u na : Nat) (w : World) (e : Ending) (w' : World) : Prop := ∃ (A3 : Option Addr) (k3 c3 : Nat) (A4 : Option Addr) (k4 c4 : Nat) (p q : Nat), e = .returned (.tuple #[.slice A3 k3 c3, .slice A4 k4 c4]) ∧ Nm w' A3 k3 c3 p ∧ Nm w' A4 k4 c4 q ∧ q ≤ p ∧ Nat.gcd p q = Nat.gcd v u ∧ p + q < v + u ∧ k3 ≤ na ∧ k4 ≤ na ∧ Below w.heap.size w w'

set_option maxRecDepth 100000 in
set_option maxHeartbeats 4000000 in
/-- gcd.lower. -/
theorem lower_nm (hva : Nm w A na ca v) (hub : Nm w A2 nb cb u) (hna : na ≤ 1000) (hle : u ≤ v) (h2 : 2 ≤ nb) :
    Calls Tryz.prog 111 #[.slice A na ca, .slice A2 nb cb] w (LowA v u na w) := by
  have hnb : nb ≤ na := by
    have h1 := length_of_le (words_limbs v) (n := u) (by rw [val_limbs]; exact hle)
    rw [hva.rd.len, hub.rd.len] at h1
    exact h1
  obtain ⟨k, rfl⟩ : ∃ k, na = k + 2 := ⟨na - 2, by omega⟩
  have hu0 : u ≠ 0 := fun h => by have := hub.zero.2 h; omega
  have hl0 : lim (limbs v) (k + 1) ≠ 0 := by
    have hne : limbs v ≠ [] := fun h => by have := hva.rd.len; rw [h] at this; simp at this
    have := may_last hne
    rw [hva.rd.len, may_limbs] at this
    simpa using this.symm
  have hlle : lim (limbs u) (k + 1) ≤ lim (limbs v) (k + 1) := by
    rw [lim_val (words_limbs u), lim_val (words_limbs v), val_limbs, val_limbs]
    have hv := hva.lt
    have h1 : v / B64 ^ (k + 1) < B64 := (Nat.div_lt_iff_lt_mul (Nat.pow_pos B64_pos)).2 (by rw [Nat.mul_comm, ← Nat.pow_succ]; exact hv)
    have h3 : u / B64 ^ (k + 1) ≤ v / B64 ^ (k + 1) := Nat.div_le_div_right hle
    rw [Nat.mod_eq_of_lt h1, Nat.mod_eq_of_lt (by omega)]
    exact h3
  have HT := Lib.hid (tops_any A A2 k ca nb cb (limbs v) (limbs u) w hva.rd hub.rd (by omega) (by omega) hl0 hlle)
  have HNB := Lib.hid hnb
  have HLE := Lib.hid hle
  have HU := Lib.hid hu0
  have HD := Lib.hid (fun W (h1 : Nm W A (k + 2) ca v) (h2 : Nm W A2 nb cb u) => div_nm (F := 106) A A2 (k + 2) ca nb cb v u W div_is h1 h2 hu0 hna (by omega))
  have HNA := Lib.hid hna
  clear hnb hle hu0 hl0 hlle h2 hna
  go_enter Tryz.func111, Tryz.ntmps111
  go_wp2_with fail
  refine HT.out.mono ?_
  rintro e w1 ⟨⟨s, hs, hs1, hs2, rfl⟩, hb1⟩
  obtain ⟨r1, hr1, e1⟩ := top_div (words_limbs v) (k := k) (s := s) (by rw [hva.rd.len]; exact Nat.le_refl _) hs
  obtain ⟨r2, hr2, e2⟩ := top_div (words_limbs u) (k := k) (s := s) (by rw [hub.rd.len]; exact HNB.out) hs
  rw [val_limbs] at e1 e2
  have tA : topOf (limbs v) k s < B64 := by
    have hB := B64_split (r := s) (by omega)
    have hy : lim (limbs v) k / 2 ^ (64 - s) < 2 ^ s := by
      rw [Nat.div_lt_iff_lt_mul (Nat.two_pow_pos _), Nat.mul_comm, ← hB]
      exact (words_limbs v).get k
    have := Nat.mul_le_mul_right (2 ^ s) (show lim (limbs v) (k + 1) + 1 ≤ 2 ^ (64 - s) from hs1)
    rw [← hB, Nat.add_mul, Nat.one_mul] at this
    unfold topOf
    omega
  have tB : topOf (limbs u) k s ≤ topOf (limbs v) k s := by
    have hK : 0 < B64 ^ k * 2 ^ (64 - s) := Nat.mul_pos (Nat.pow_pos B64_pos) (Nat.two_pow_pos _)
    have h1 : topOf (limbs u) k s = u / (B64 ^ k * 2 ^ (64 - s)) := by
      exact top_eq hK hr2 e2
    have h2 : topOf (limbs v) k s = v / (B64 ^ k * 2 ^ (64 - s)) := by
      exact top_eq hK hr1 e1
    rw [h1, h2]
    exact Nat.div_le_div_right HLE.out
  obtain ⟨TA, hTA⟩ : ∃ TA, topOf (limbs v) k s = TA := ⟨_, rfl⟩
  obtain ⟨TB, hTB⟩ : ∃ TB, topOf (limbs u) k s = TB := ⟨_, rfl⟩
  obtain ⟨K, hK⟩ : ∃ K, B64 ^ k * 2 ^ (64 - s) = K := ⟨_, rfl⟩
  rw [hTA, hK] at e1
  rw [hTB, hK] at e2
  rw [hK] at hr1 hr2
  rw [hTA] at tA tB
  rw [hTB] at tB
  rw [hTA, hTB]
  have HS := Lib.hid (fun W => sure_any TA TB W tA tB)
  have E1 := Lib.hid e1
  have E2 := Lib.hid e2
  have R1 := Lib.hid hr1
  have R2 := Lib.hid hr2
  replace hva := hva.below hb1
  replace hub := hub.below hb1
  have HTA := Lib.hid tA
  have HTB := Lib.hid tB
  clear hTA hTB hK e1 e2 hr1 hr2 tA tB hs hs1 hs2 HT
  go_wp2_with fail
  refine (HS.out _).mono ?_
  rintro e w2 ⟨t1, x1, y1, t2, x2, y2, o, rfl, hL, hb2⟩
  replace hva := hva.below hb2
  replace hub := hub.below hb2
  replace hb2 := below_then hb1 hb2
  clear hb1
  unfold stp
  have hnb1 : nb ≤ 1000 := by have := HNB.out; have := HNA.out; omega
  by_cases hy0 : y1 = 0
  · subst hy0
    clear hL
    go_wp2_with fail
    refine (HD.out _ ((hva.below ((Below.refl _ w2).alloc (Nat.le_refl _) _))) ((hub.below ((Below.refl _ w2).alloc (Nat.le_refl _) _)))).mono ?_
    rintro e w3 ⟨A3, k3, c3, A4, k4, c4, rfl, o3, o4, hb3⟩
    replace hb3 := below_new hb3
    replace hub := hub.below hb3
    replace hb3 := below_then hb2 hb3
    clear hva hb2 o3
    have hlk : k4 ≤ nb := by
      have h1 := o4.rd.2.1
      have h3 := length_of_le (words_limbs u) (n := v % u) (by rw [val_limbs]; exact Nat.le_of_lt (Nat.mod_lt _ (Nat.pos_of_ne_zero HU.out)))
      rw [hub.rd.len] at h3
      omega
    go_wp2
    go_ret2
    refine ⟨_, _, _, _, _, _, u, v % u, rfl, hub, o4.nm, Nat.le_of_lt (Nat.mod_lt _ (Nat.pos_of_ne_zero HU.out)), ?_, ?_, HNB.out, by have := HNB.out; omega, hb3⟩
    · rw [Nat.gcd_comm u, ← Nat.gcd_rec, Nat.gcd_comm]
    · have h1 := Nat.mod_lt v (Nat.pos_of_ne_zero HU.out)
      have h2 := HLE.out
      omega
  · obtain ⟨r1, r2, hr21, ea, eb, y1p, y2p, hE⟩ := hL.real hy0 E1.out E2.out R1.out R2.out
    have hgcd := Lm.gcd ea eb hE
    have hless := Lm.less (x1 := 0) (x2 := 0) (b := 0) ea y1p y2p
    have hbd : x1 < B64 ∧ y1 < B64 ∧ x2 < B64 ∧ y2 < B64 := by
      have h1 := hL.sa
      have h3 := Nat.mul_le_mul_right t1 y2p
      have h4 := HTA.out
      rcases hL.so with ⟨a, _⟩ | ⟨a, b, c, d⟩
      · exact absurd a hy0
      · have := hL.xy
        omega
    have hyt : ((y1 : Int) == 0) = false := by simp; omega
    have HG := Lib.hid hgcd
    have HLS := Lib.hid hless
    have HR := Lib.hid hr21
    have HB1 := Lib.hid hbd
    have HB2 := Lib.hid hb2
    have HK := Lib.hid (LowK.mk hva hub |>.below ((Below.refl _ w2).alloc (Nat.le_refl _) (.cells #[u64 t1, u64 x1, u64 y1, u64 t2, u64 x2, u64 y2, .bool o] 152)))
    have ha1 : r1 ≤ v := by omega
    have ha2 : r2 ≤ v := by omega
    have HA1 := Lib.hid ha1
    have HA2 := Lib.hid ha2
    have zh := World.alloc_heap_new w2 (.cells #[u64 t1, u64 x1, u64 y1, u64 t2, u64 x2, u64 y2, .bool o] 152)
    have Z1 := Lib.hid (cells_cell zh (j := 1) rfl)
    have Z2 := Lib.hid (cells_cell zh (j := 2) rfl)
    have Z3 := Lib.hid (cells_cell zh (j := 4) rfl)
    have Z4 := Lib.hid (cells_cell zh (j := 5) rfl)
    clear zh
    have HV := Lib.hid hva
    clear hL hgcd hless hr21 hbd hb2 hva hub ea eb y1p y2p ha1 ha2
    cases o with
    | false =>
      simp only [Bool.false_eq_true, if_false] at hE
      have q1 : y1 * u ≤ x1 * v ∧ x2 * v ≤ y2 * u := by omega
      have v1 : x1 * v - y1 * u = r1 ∧ y2 * u - x2 * v = r2 := by omega
      have HE := Lib.hid q1
      have HV1 := Lib.hid v1
      clear hE q1 v1
      go_wp2
      go_region_held3 (fun w' => w'.cell? ⟨w2.heap.size, 1, none⟩ = some (u64 x1) ∧ w'.cell? ⟨w2.heap.size, 2, none⟩ = some (u64 y1) ∧ w'.cell? ⟨w2.heap.size, 4, none⟩ = some (u64 x2) ∧ w'.cell? ⟨w2.heap.size, 5, none⟩ = some (u64 y2)) (go_keep)
        (first
          | (go_at_call_of 143 (u64 x1); refine (lessG_keep (v := v) (u := u) x1 y1 ⟨w2.heap.size, 1, none⟩ ⟨w2.heap.size, 2, none⟩ ⟨w2.heap.size, 4, none⟩ ⟨w2.heap.size, 5, none⟩ (u64 x1) (u64 y1) (u64 x2) (u64 y2) ?_ HNA.out hnb1 ?_ ?_ ?_ ?_ ?_ ?_ ?_).mono ?_; (first | exact HK.out.drew | exact HK.out.drewN _ | assumption); (exact HB1.out.1); (exact HB1.out.2.1); (exact HE.out.1); (first | exact Z1.out | assumption); (first | exact Z2.out | assumption); (first | exact Z3.out | assumption); (first | exact Z4.out | assumption); rintro e w4 ⟨A4, k4, c4, rfl, o4, hb4, hk4, s1, s2, s3, s4⟩)
          | (go_at_call_of 143 (u64 y2); refine (lessG_keep' (v := v) (u := u) y2 x2 ⟨w2.heap.size, 1, none⟩ ⟨w2.heap.size, 2, none⟩ ⟨w2.heap.size, 4, none⟩ ⟨w2.heap.size, 5, none⟩ (u64 x1) (u64 y1) (u64 x2) (u64 y2) ?_ HNA.out hnb1 ?_ ?_ ?_ ?_ ?_ ?_ ?_).mono ?_; (first | exact HK.out.drew | exact HK.out.drewN _ | assumption); (exact HB1.out.2.2.2); (exact HB1.out.2.2.1); (exact HE.out.2); (first | exact Z1.out | assumption); (first | exact Z2.out | assumption); (first | exact Z3.out | assumption); (first | exact Z4.out | assumption); rintro e w5 ⟨A5, k5, c5, rfl, o5, hb5, hk5, s5, s6, s7, s8⟩))
      all_goals
        have b0 : Below w.heap.size w (w2.alloc (.cells #[u64 t1, u64 x1, u64 y1, u64 t2, u64 x2, u64 y2, .bool false] 152)).drew := (HB2.out.alloc HB2.out.size _).drew
        have b1 := below_then (below_then b0 hb4) hb5
        have ow4 := o4.below hb5
        rw [HV1.out.1] at ow4
        rw [HV1.out.2] at o5
        have k4l := length_of_le (words_limbs v) (n := r1) (by rw [val_limbs]; exact HA1.out)
        have k5l := length_of_le (words_limbs v) (n := r2) (by rw [val_limbs]; exact HA2.out)
        rw [HV.out.rd.len] at k4l k5l
        have k4e := ow4.rd.2.1
        have k5e := o5.rd.2.1
        have hup := Nat.pos_of_ne_zero HU.out
        clear hb4 hb5 o4 b0 hk4 hk5 s1 s2 s3 s4 s5 s6 s7 s8
        have K4 := Lib.hid k4l
        have K5 := Lib.hid k5l
        have L4 := Lib.hid k4e
        have L5 := Lib.hid k5e
        clear k4l k5l k4e k5e
        go_wp2
        go_ret2
        refine ⟨_, _, _, _, _, _, r1, r2, rfl, ow4.nm, o5.nm, HR.out, HG.out, ?_, ?_, ?_, b1⟩
        · have := HLS.out; omega
        · have := K4.out; have := L4.out; omega
        · have := K5.out; have := L5.out; omega

    | true =>
      simp only [if_true] at hE
      have q1 : x1 * v ≤ y1 * u ∧ y2 * u ≤ x2 * v := by omega
      have v1 : y1 * u - x1 * v = r1 ∧ x2 * v - y2 * u = r2 := by omega
      have HE := Lib.hid q1
      have HV1 := Lib.hid v1
      clear hE q1 v1
      go_wp2
      go_region_held3 (fun w' => w'.cell? ⟨w2.heap.size, 1, none⟩ = some (u64 x1) ∧ w'.cell? ⟨w2.heap.size, 2, none⟩ = some (u64 y1) ∧ w'.cell? ⟨w2.heap.size, 4, none⟩ = some (u64 x2) ∧ w'.cell? ⟨w2.heap.size, 5, none⟩ = some (u64 y2)) (go_keep)
        (first
          | (go_at_call_of 143 (u64 y1); refine (lessG_keep' (v := v) (u := u) y1 x1 ⟨w2.heap.size, 1, none⟩ ⟨w2.heap.size, 2, none⟩ ⟨w2.heap.size, 4, none⟩ ⟨w2.heap.size, 5, none⟩ (u64 x1) (u64 y1) (u64 x2) (u64 y2) ?_ HNA.out hnb1 ?_ ?_ ?_ ?_ ?_ ?_ ?_).mono ?_; (first | exact HK.out.drew | exact HK.out.drewN _ | assumption); (exact HB1.out.2.1); (exact HB1.out.1); (exact HE.out.1); (first | exact Z1.out | assumption); (first | exact Z2.out | assumption); (first | exact Z3.out | assumption); (first | exact Z4.out | assumption); rintro e w4 ⟨A4, k4, c4, rfl, o4, hb4, hk4, s1, s2, s3, s4⟩)
          | (go_at_call_of 143 (u64 x2); refine (lessG_keep (v := v) (u := u) x2 y2 ⟨w2.heap.size, 1, none⟩ ⟨w2.heap.size, 2, none⟩ ⟨w2.heap.size, 4, none⟩ ⟨w2.heap.size, 5, none⟩ (u64 x1) (u64 y1) (u64 x2) (u64 y2) ?_ HNA.out hnb1 ?_ ?_ ?_ ?_ ?_ ?_ ?_).mono ?_; (first | exact HK.out.drew | exact HK.out.drewN _ | assumption); (exact HB1.out.2.2.1); (exact HB1.out.2.2.2); (exact HE.out.2); (first | exact Z1.out | assumption); (first | exact Z2.out | assumption); (first | exact Z3.out | assumption); (first | exact Z4.out | assumption); rintro e w5 ⟨A5, k5, c5, rfl, o5, hb5, hk5, s5, s6, s7, s8⟩))
      all_goals
        have b0 : Below w.heap.size w (w2.alloc (.cells #[u64 t1, u64 x1, u64 y1, u64 t2, u64 x2, u64 y2, .bool true] 152)).drew := (HB2.out.alloc HB2.out.size _).drew
        have b1 := below_then (below_then b0 hb4) hb5
        have ow4 := o4.below hb5
        rw [HV1.out.1] at ow4
        rw [HV1.out.2] at o5
        have k4l := length_of_le (words_limbs v) (n := r1) (by rw [val_limbs]; exact HA1.out)
        have k5l := length_of_le (words_limbs v) (n := r2) (by rw [val_limbs]; exact HA2.out)
        rw [HV.out.rd.len] at k4l k5l
        have k4e := ow4.rd.2.1
        have k5e := o5.rd.2.1
        have hup := Nat.pos_of_ne_zero HU.out
        clear hb4 hb5 o4 b0 hk4 hk5 s1 s2 s3 s4 s5 s6 s7 s8
        have K4 := Lib.hid k4l
        have K5 := Lib.hid k5l
        have L4 := Lib.hid k4e
        have L5 := Lib.hid k5e
        clear k4l k5l k4e k5e
        go_wp2
        go_ret2
        refine ⟨_, _, _, _, _, _, r1, r2, rfl, ow4.nm, o5.nm, HR.out, HG.out, ?_, ?_, ?_, b1⟩
        · have := HLS.out; omega
        · have := K4.out; have := L4.out; omega
        · have := K5.out; have := L5.out; omega

end
end Go.Proofs.YtbldimplddiheaaGreatDoor

/- gcd's common, Gcd and Lcm: greatest common divisors and least common multiples, as they landed. -/
namespace Go.Proofs.YtbldimplddiheaaGreatDoor
open Go.RowKit Go.Shelf
set_option linter.unusedVariables false
set_option linter.unusedSimpArgs false

section
variable (A A2 : Option Addr) (na ca nb cb v u : Nat) (w : World)

/-- common, behind its first test. -/
def ComA (v u : Nat) (w : World) (e : Ending) (w' : World) : Prop := ∃ (A3 : Option Addr) (k3 c3 : Nat), e = .returned (.slice A3 k3 c3) ∧ Own w' w.heap.size (.slice A3 k3 c3) (limbs (Nat.gcd v u)) ∧ Below w.heap.size w w'

set_option maxRecDepth 100000 in
set_option maxHeartbeats 4000000 in
/-- gcd.common. -/
theorem common_nm (hva : Nm w A na ca v) (hub : Nm w A2 nb cb u) (hna : na ≤ 1000) (hnb : nb ≤ 1000) :
    Calls Tryz.prog 85 #[.slice A na ca, .slice A2 nb cb] w (ComA v u w) := by
  have HC := Lib.hid (cmp_nm A A2 na ca nb cb v u w hva hub hna hnb)
  by_cases hlt : v < u
  · rw [cmp3_lt hlt] at HC
    go_enter Tryz.func85, Tryz.ntmps85
    go_wp2_with fail
    refine HC.out.mono ?_
    rintro e w1 ⟨rfl, hb1⟩
    replace hva := hva.below hb1
    replace hub := hub.below hb1
    clear HC
    go_wp2
    go_loopw [0, 1] (fun a b wr => ∃ (p q : Nat) (A3 : Option Addr) (n3 c3 : Nat) (A4 : Option Addr) (n4 c4 : Nat), a = .slice A3 n3 c3 ∧ b = .slice A4 n4 c4 ∧ Nm wr A3 n3 c3 p ∧ Nm wr A4 n4 c4 q ∧ q ≤ p ∧ n3 ≤ 1000 ∧ n4 ≤ 1000 ∧ Nat.gcd p q = Nat.gcd v u ∧ Below w.heap.size w wr) (fun a b wr => numOf wr a + numOf wr b)
    case atStart => exact ⟨u, v, A2, nb, cb, A, na, ca, rfl, rfl, hub, hva, by omega, hnb, hna, Nat.gcd_comm _ _, hb1⟩
    case round =>
      clear hva hub hb1 hna hnb
      obtain ⟨p, q, A3, n3, c3, A4, n4, c4, rfl, rfl, hp, hq, hqp, l3, l4, hg, hB⟩ := hrel
      by_cases h1 : 1 < n4
      · have hd : decide ((1 : Int) < (n4 : Int)) = true := by simp; omega
        have HLW := Lib.hid (lower_nm A3 A4 n3 c3 n4 c4 p q wr hp hq l3 hqp (by omega))
        have hm0 : numOf wr (.slice A3 n3 c3) + numOf wr (.slice A4 n4 c4) = p + q := by rw [numOf_is hp, numOf_is hq]
        have HM := Lib.hid hm0
        have HG := Lib.hid hg
        clear hm0 hg hp hq hqp
        go_wp2_with fail
        refine HLW.out.mono ?_
        rintro e w2 ⟨A5, k5, c5, A6, k6, c6, p2, q2, rfl, hp2, hq2, hqp2, hg2, hls, hk5, hk6, hb2⟩
        replace hb2 := below_then hB hb2
        have HLS := Lib.hid hls
        have HK := Lib.hid (And.intro hk5 hk6)
        have HG2 := Lib.hid hg2
        have L3 := Lib.hid l3
        clear hls hk5 hk6 hB hg2 l3 l4 h1 hd
        go_wp2_with fail
        go_roundw
        case rel => exact ⟨p2, q2, A5, k5, c5, A6, k6, c6, rfl, rfl, hp2, hq2, hqp2, by have := HK.out; have := L3.out; omega, by have := HK.out; have := L3.out; omega, HG2.out.trans HG.out, hb2⟩
        case measure =>
          rw [HM.out, numOf_is hp2, numOf_is hq2]
          exact HLS.out
      · by_cases h0 : n4 = 0
        · subst h0
          have hq0 : q = 0 := hq.zero.1 rfl
          subst hq0
          rw [Nat.gcd_zero_right] at hg
          subst hg
          have HCL := Lib.hid (clone_any A3 n3 c3 _ wr hp.rd l3)
          clear hp hq hqp h1
          go_wp2_with fail
          refine HCL.out.mono ?_
          rintro e w2 ⟨A5, k5, c5, rfl, o5, hb2⟩
          replace o5 := own_mono o5 hB.size
          replace hb2 := below_then hB hb2
          clear HCL hB
          go_wp2
          go_ret
          exact ⟨_, _, _, rfl, o5, hb2⟩
        · obtain rfl : n4 = 1 := by omega
          obtain ⟨x, hx⟩ := one_limb hq.rd.len
          have hqx : q = x := by rw [← val_limbs q, hx]; simp [val]
          subst hqx
          have hqw : q < B64 := by have := (words_limbs q); rw [hx] at this; exact this.head
          have hq0 : q ≠ 0 := fun h => by have := hq.zero.2 h; omega
          obtain ⟨b4, o4, rfl, hl4, hc4⟩ := hq.rd.cells (by omega)
          have hc := hc4 0 (by omega)
          rw [Nat.add_zero, hx, show lim [q] 0 = q from rfl] at hc
          have hw := word_is A3 n3 c3 (limbs p) q wr hp.rd hqw l3 ⟨hp.nc, hp.cm⟩
          have hE : divE (limbs p) (limbs q) = 0 := divE_ok (may_limbs p) (may_limbs q) (fun h => hq0 (limbs_eq_nil.1 h))
          rw [quoL_ok hE, remL_ok hE, hE, val_limbs, val_limbs, val_limbs] at hw
          have HW := Lib.hid hw
          have hmw : p % q < B64 := Nat.lt_trans (Nat.mod_lt _ (Nat.pos_of_ne_zero hq0)) hqw
          have hgg : Nat.gcd q (p % q) = Nat.gcd v u := by rw [← hg, Nat.gcd_comm p q, Nat.gcd_comm q (p % q), ← Nat.gcd_rec]
          have hgw : Nat.gcd q (p % q) < B64 := Nat.lt_of_le_of_lt (Nat.gcd_le_left _ (Nat.pos_of_ne_zero hq0)) hqw
          obtain ⟨r, hr⟩ : ∃ r, p % q = r := ⟨_, rfl⟩
          rw [hr] at hmw hgg hgw HW
          have HCW := Lib.hid (fun W => wordG_any q r hqw hmw W)
          rw [hgg] at HCW hgw
          have HOF := Lib.hid (fun W => of_any (Nat.gcd v u) W hgw)
          clear hw hE hmw hgg hgw hr hqw hq0 hc4 hx hp hq hqp hg h0 h1
          go_wp2_with fail
          refine HW.out.mono ?_
          rintro e w2 ⟨A5, k5, c5, rfl, o5, hb2⟩
          have hcw : w2.cell? ⟨b4, o4, none⟩ = some (u64 q) := (hb2.cell (cell_lt hc)).trans hc
          replace hb2 := below_then hB hb2
          clear HW hB o5 hc
          go_wp2_with fail
          refine (HCW.out _).mono ?_
          rintro e w3 ⟨rfl, hb3⟩
          replace hb3 := below_then hb2 hb3
          clear hb2 hcw
          go_wp2_with fail
          refine (HOF.out _).mono ?_
          rintro e w4 ⟨A6, k6, c6, rfl, o6, hb4⟩
          replace o6 := own_mono o6 hb3.size
          replace hb4 := below_then hb3 hb4
          clear hb3
          go_wp2
          go_ret
          exact ⟨_, _, _, rfl, o6, hb4⟩
  · obtain ⟨c, hc, hc0⟩ : ∃ c : Int, cmp3 v u = c ∧ ¬ c < 0 := ⟨_, rfl, by unfold cmp3; split <;> (try split) <;> omega⟩
    rw [hc] at HC
    clear hc
    have hcd : decide (c < 0) = false := by simp; omega
    go_enter Tryz.func85, Tryz.ntmps85
    go_wp2_with fail
    refine HC.out.mono ?_
    rintro e w1 ⟨rfl, hb1⟩
    replace hva := hva.below hb1
    replace hub := hub.below hb1
    clear HC
    go_wp2
    go_loopw [0, 1] (fun a b wr => ∃ (p q : Nat) (A3 : Option Addr) (n3 c3 : Nat) (A4 : Option Addr) (n4 c4 : Nat), a = .slice A3 n3 c3 ∧ b = .slice A4 n4 c4 ∧ Nm wr A3 n3 c3 p ∧ Nm wr A4 n4 c4 q ∧ q ≤ p ∧ n3 ≤ 1000 ∧ n4 ≤ 1000 ∧ Nat.gcd p q = Nat.gcd v u ∧ Below w.heap.size w wr) (fun a b wr => numOf wr a + numOf wr b)
    case atStart => exact ⟨v, u, A, na, ca, A2, nb, cb, rfl, rfl, hva, hub, by omega, hna, hnb, rfl, hb1⟩
    case round =>
      clear hva hub hb1 hna hnb
      obtain ⟨p, q, A3, n3, c3, A4, n4, c4, rfl, rfl, hp, hq, hqp, l3, l4, hg, hB⟩ := hrel
      by_cases h1 : 1 < n4
      · have hd : decide ((1 : Int) < (n4 : Int)) = true := by simp; omega
        have HLW := Lib.hid (lower_nm A3 A4 n3 c3 n4 c4 p q wr hp hq l3 hqp (by omega))
        have hm0 : numOf wr (.slice A3 n3 c3) + numOf wr (.slice A4 n4 c4) = p + q := by rw [numOf_is hp, numOf_is hq]
        have HM := Lib.hid hm0
        have HG := Lib.hid hg
        clear hm0 hg hp hq hqp
        go_wp2_with fail
        refine HLW.out.mono ?_
        rintro e w2 ⟨A5, k5, c5, A6, k6, c6, p2, q2, rfl, hp2, hq2, hqp2, hg2, hls, hk5, hk6, hb2⟩
        replace hb2 := below_then hB hb2
        have HLS := Lib.hid hls
        have HK := Lib.hid (And.intro hk5 hk6)
        have HG2 := Lib.hid hg2
        have L3 := Lib.hid l3
        clear hls hk5 hk6 hB hg2 l3 l4 h1 hd
        go_wp2_with fail
        go_roundw
        case rel => exact ⟨p2, q2, A5, k5, c5, A6, k6, c6, rfl, rfl, hp2, hq2, hqp2, by have := HK.out; have := L3.out; omega, by have := HK.out; have := L3.out; omega, HG2.out.trans HG.out, hb2⟩
        case measure =>
          rw [HM.out, numOf_is hp2, numOf_is hq2]
          exact HLS.out
      · by_cases h0 : n4 = 0
        · subst h0
          have hq0 : q = 0 := hq.zero.1 rfl
          subst hq0
          rw [Nat.gcd_zero_right] at hg
          subst hg
          have HCL := Lib.hid (clone_any A3 n3 c3 _ wr hp.rd l3)
          clear hp hq hqp h1
          go_wp2_with fail
          refine HCL.out.mono ?_
          rintro e w2 ⟨A5, k5, c5, rfl, o5, hb2⟩
          replace o5 := own_mono o5 hB.size
          replace hb2 := below_then hB hb2
          clear HCL hB
          go_wp2
          go_ret
          exact ⟨_, _, _, rfl, o5, hb2⟩
        · obtain rfl : n4 = 1 := by omega
          obtain ⟨x, hx⟩ := one_limb hq.rd.len
          have hqx : q = x := by rw [← val_limbs q, hx]; simp [val]
          subst hqx
          have hqw : q < B64 := by have := (words_limbs q); rw [hx] at this; exact this.head
          have hq0 : q ≠ 0 := fun h => by have := hq.zero.2 h; omega
          obtain ⟨b4, o4, rfl, hl4, hc4⟩ := hq.rd.cells (by omega)
          have hc := hc4 0 (by omega)
          rw [Nat.add_zero, hx, show lim [q] 0 = q from rfl] at hc
          have hw := word_is A3 n3 c3 (limbs p) q wr hp.rd hqw l3 ⟨hp.nc, hp.cm⟩
          have hE : divE (limbs p) (limbs q) = 0 := divE_ok (may_limbs p) (may_limbs q) (fun h => hq0 (limbs_eq_nil.1 h))
          rw [quoL_ok hE, remL_ok hE, hE, val_limbs, val_limbs, val_limbs] at hw
          have HW := Lib.hid hw
          have hmw : p % q < B64 := Nat.lt_trans (Nat.mod_lt _ (Nat.pos_of_ne_zero hq0)) hqw
          have hgg : Nat.gcd q (p % q) = Nat.gcd v u := by rw [← hg, Nat.gcd_comm p q, Nat.gcd_comm q (p % q), ← Nat.gcd_rec]
          have hgw : Nat.gcd q (p % q) < B64 := Nat.lt_of_le_of_lt (Nat.gcd_le_left _ (Nat.pos_of_ne_zero hq0)) hqw
          obtain ⟨r, hr⟩ : ∃ r, p % q = r := ⟨_, rfl⟩
          rw [hr] at hmw hgg hgw HW
          have HCW := Lib.hid (fun W => wordG_any q r hqw hmw W)
          rw [hgg] at HCW hgw
          have HOF := Lib.hid (fun W => of_any (Nat.gcd v u) W hgw)
          clear hw hE hmw hgg hgw hr hqw hq0 hc4 hx hp hq hqp hg h0 h1
          go_wp2_with fail
          refine HW.out.mono ?_
          rintro e w2 ⟨A5, k5, c5, rfl, o5, hb2⟩
          have hcw : w2.cell? ⟨b4, o4, none⟩ = some (u64 q) := (hb2.cell (cell_lt hc)).trans hc
          replace hb2 := below_then hB hb2
          clear HW hB o5 hc
          go_wp2_with fail
          refine (HCW.out _).mono ?_
          rintro e w3 ⟨rfl, hb3⟩
          replace hb3 := below_then hb2 hb3
          clear hb2 hcw
          go_wp2_with fail
          refine (HOF.out _).mono ?_
          rintro e w4 ⟨A6, k6, c6, rfl, o6, hb4⟩
          replace o6 := own_mono o6 hb3.size
          replace hb4 := below_then hb3 hb4
          clear hb3
          go_wp2
          go_ret
          exact ⟨_, _, _, rfl, o6, hb4⟩
end

theorem two_lens {a b : List Nat} {na nb : Nat} (h1 : a.length = na) (h2 : b.length = nb) (h3 : na ≤ 1000) (h4 : nb ≤ 1000) : ∀ l ∈ [a, b], l.length ≤ 4294967296 := by
  intro l h
  rcases List.mem_cons.1 h with rfl | h
  · omega
  · rcases List.mem_cons.1 h with rfl | h
    · omega
    · cases h

set_option maxRecDepth 100000 in
set_option maxHeartbeats 1000000 in
theorem gcd_is : GcdIs 53 := fun A A2 na ca nb cb a b w hra hrb hna hnb hca hcb => by
  have HR := Lib.hid (rows2_two (ca := ca) (cb := cb) hra hrb (by omega) (by omega) 23)
  have HL := Lib.hid (two_lens hra.len hrb.len (by omega) (by omega))
  cases hm : both a b with
  | false =>
    have e1 : gcdL a b = [] := by simp [gcdL, hm]
    have e2 : err2 a b = 8 := by simp [err2, hm]
    have HM := Lib.hid (show [a, b].all may = false by rw [both_all]; exact hm)
    rw [e1, e2]
    clear hra hrb e1 e2 hm
    go_enter Tryz.func53, Tryz.ntmps53
    go_wp2_with fail
    refine (mayBeG_any w.heap.size 0 2 2 [a, b] _ HR.out rfl (by omega) HL.out).mono ?_
    rw [bad_eight HM.out]
    rintro e w1 ⟨rfl, hb1⟩
    replace hb1 := below_new hb1
    clear HR HL
    go_wp2
    go_ret2
    exact answers_nil hb1
  | true =>
    have e1 : gcdL a b = limbs (Nat.gcd (val a) (val b)) := by simp [gcdL, hm]
    have e2 : err2 a b = 0 := by simp [err2, hm]
    have hmm : may a = true ∧ may b = true := by simpa [both] using hm
    have HM := Lib.hid (show [a, b].all may = true by rw [both_all]; exact hm)
    have hva := nm_of hra hmm.1 hca.1 hca.2
    have hub := nm_of hrb hmm.2 hcb.1 hcb.2
    rw [e1, e2]
    clear hra hrb e1 e2 hm hmm
    go_enter Tryz.func53, Tryz.ntmps53
    go_wp2_with fail
    refine (mayBeG_any w.heap.size 0 2 2 [a, b] _ HR.out rfl (by omega) HL.out).mono ?_
    rw [bad_zero HM.out]
    rintro e w1 ⟨rfl, hb1⟩
    replace hb1 := below_new hb1
    replace hva := hva.below hb1
    replace hub := hub.below hb1
    clear HR HL
    go_wp2_with fail
    refine (common_nm A A2 na ca nb cb (val a) (val b) w1 hva hub (by omega) (by omega)).mono ?_
    rintro e w2 ⟨A3, k3, c3, rfl, o3, hb2⟩
    replace o3 := own_mono o3 hb1.size
    replace hb2 := below_then hb1 hb2
    clear hb1
    go_wp2
    go_ret2
    exact ⟨_, _, _, rfl, o3, hb2⟩

end Go.Proofs.YtbldimplddiheaaGreatDoor

/- rat: whole numbers of lists, products, Check. -/
namespace Go.Proofs.YtbldimplddiheaaGreatDoor
open Go.RowKit Go.Shelf
set_option linter.unusedVariables false
set_option linter.unusedSimpArgs false

section
variable {A A2 D : Option Addr} {na ca nb cb nd cd u : Nat} {a d a2 d2 : List Nat} {w : World} {z y : Int} {v v2 : QV}
theorem plus_any : Calls Tryz.prog 44 #[.slice D nd cd] w fun e w' => e = .returned (zv false D nd cd) ∧ Below w.heap.size w w' := by
  have r0 := (uno_box w false none 0 0).x.c0
  have r1 := (uno_box w false none 0 0).x.c1
  have f0 := (uno_box w false none 0 0).x.f 0
  have f1 := (uno_box w false none 0 0).x.f 1
  have hb := bxb w (zo false none 0 0)
  go_enter Tryz.func44, Tryz.ntmps44
  go_wp2
  refine bodyPost_ret (v := zv false D nd cd) (by simp [results, Tryz.results44, go_sem, r0, r1, zv]) rfl ?_
  exact ⟨rfl, bxb _ _⟩
set_option maxRecDepth 100000 in
set_option maxHeartbeats 4000000 in
theorem qtimes_any (ha : ZNm w A na ca z) (hb : ZNm w A2 nb cb y) (l1 : na ≤ 400) (l2 : nb ≤ 400) : Calls Tryz.prog 43 #[zV z A na ca, zV y A2 nb cb] w (ZOne w (z * y)) := by
  have HN := Lib.hid (fun W (hW : Below w.heap.size w W) => mulN (w := W) (ha.below hW) (hb.below hW) l1 l2)
  have T0 := tri_box w (decide (z < 0)) A na ca (decide (y < 0)) A2 nb cb
  clear ha hb l1 l2
  generalize z * y = t at HN ⊢
  unfold zV zv ZOne at *
  have xa0 := T0.t.x.c0
  have xa1 := T0.t.x.c1
  have xb0 := T0.t.y.c0
  have xb1 := T0.t.y.c1
  have r0 := T0.r.c0
  have r1 := T0.r.c1
  have f0 := T0.r.f 0
  have f1 := T0.r.f 1
  go_enter Tryz.func43, Tryz.ntmps43
  go_wp2_with fail
  refine (HN.out _ T0.t.b).mono ?_
  rintro e w1 ⟨A3, k3, c3, rfl, o3, hb⟩
  have T1 := T0.next (below_then hb (bxb _ (zo (decide (t < 0)) A3 k3 c3)))
  have hG := Lib.hid (Array.getElem?_eq_some_iff.1 T0.r).1
  have o4 := o3.below (bxb _ (zo (decide (t < 0)) A3 k3 c3))
  clear hb T0 o3
  clear xa0 xa1 xb0 xb1 r0 r1 f0 f1
  have r0 := T1.r.c0
  have r1 := T1.r.c1
  have f0 := T1.r.f 0
  have f1 := T1.r.f 1
  have hg1 := (Array.getElem?_eq_some_iff.1 T1.r).1
  unfold zV zv
  go_wp2
  refine bodyPost_ret (v := zV t A3 k3 c3) (by simp [results, Tryz.results43, go_sem, r0, r1, zV, zv]) rfl ?_
  exact ⟨A3, k3, c3, rfl, own_box hG.out (show w.heap.size ≤ w.heap.size + 1 + 1 by omega) o4 _ _, box_below (show w.heap.size ≤ w.heap.size + 1 + 1 by omega) T1.t.b _ _⟩
theorem word_nm {v : Nat} (h : Nm w A na ca v) (hn : na ≤ 1000) : Calls Tryz.prog 86 #[.slice A na ca] w fun e w' => (∃ x E, e = .returned (.tuple #[u64 x, .int .i64 E]) ∧ ((E : Int) == 0 && ((x : Int) == 1)) = decide (v = 1)) ∧ Below w.heap.size w w' := by
  refine (word_spec A na ca (limbs v) w h.rd hn).mono ?_
  rintro e w' ⟨rfl, hb⟩
  refine ⟨⟨_, _, rfl, ?_⟩, hb⟩
  unfold wordV wordE
  rw [may_limbs]
  by_cases h1 : (limbs v).length ≤ 1
  · rw [show (if true = true ∧ (limbs v).length ≤ 1 then lim (limbs v) 0 else 0) = lim (limbs v) 0 from if_pos ⟨rfl, h1⟩, if_pos rfl, if_pos h1]
    have e1 : v = lim (limbs v) 0 := by have := val_one h1; rwa [val_limbs] at this
    rw [← e1]
    by_cases hv : v = 1 <;> simp [hv]
    omega
  · rw [show (if true = true ∧ (limbs v).length ≤ 1 then lim (limbs v) 0 else 0) = 0 from if_neg (fun h => h1 h.2), if_pos rfl, if_neg h1]
    have : v ≠ 1 := fun e => h1 (by rw [e]; exact limbs_length_le (k := 1) (by rw [Nat.pow_one]; decide))
    simp [this]
set_option maxHeartbeats 2000000 in
theorem isOne_any {v : Nat} (h : Nm w A na ca v) (hn : na ≤ 1000) : Calls Tryz.prog 54 #[.slice A na ca] w fun e w' => e = .returned (.bool (decide (v = 1))) ∧ Below w.heap.size w w' := by
  have H := Lib.hid (word_nm h hn)
  generalize decide (v = 1) = t at H ⊢
  clear h hn
  go_enter Tryz.func54, Tryz.ntmps54
  go_wp2_with fail
  refine H.out.mono ?_
  rintro e w1 ⟨⟨x, E, rfl, hE⟩, hb⟩
  subst hE
  by_cases h0 : E = 0
  · subst h0
    go_wp2
    go_ret
    exact ⟨rfl, hb⟩
  · have he : (E == 0) = false := by simpa using h0
    clear h0
    go_wp2
    go_ret
    exact ⟨by rw [he]; rfl, hb⟩
theorem isOneT {v : Nat} {t : Bool} (ht : decide (v = 1) = t) (h : Nm w A na ca v) (hn : na ≤ 1000) : Calls Tryz.prog 54 #[.slice A na ca] w fun e w' => e = .returned (.bool t) ∧ Below w.heap.size w w' := by
  subst ht
  exact isOne_any h hn
end
set_option maxRecDepth 100000 in
set_option maxHeartbeats 4000000 in
theorem checkQ_is : CheckQIs 19 := fun v a d w h => by
  have T0 := uno_q w v
  have H1 := Lib.hid (fun W (hW : Below w.heap.size w W) => checkZ_any (p := v.p) (w := W) (h.z.below hW))
  cases e1 : mayZ v.p a with
  | false =>
    have HR : Hid (mayQ v.p a d = false) := by show _ = _; simp [mayQ, e1]
    rw [HR.out]
    rw [oneE_no e1] at H1
    simp only [Bool.false_eq_true, if_false]
    clear h e1
    unfold zv at *
    unfold QV.v at *
    go_enter Tryz.func19, Tryz.ntmps19
    go_wp2_with fail
    refine (H1.out _ T0.b).mono ?_
    rintro e w1 ⟨rfl, hb⟩
    have T1 := T0.next hb
    clear hb T0
    have qx0 := T1.x.c0
    have qx1 := T1.x.c1
    have qx2 := T1.x.c2
    go_wp2
    go_ret
    exact ⟨rfl, T1.b⟩
  | true =>
    rw [oneE_ok e1] at H1
    cases e2 : may d with
    | false =>
      have HR : Hid (mayQ v.p a d = false) := by show _ = _; simp [mayQ, e2]
      rw [HR.out]
      simp only [Bool.false_eq_true, if_false]
      have H2 := Lib.hid (fun W (hW : Below w.heap.size w W) => gcd_no (a := a) (b := d) gcd_is (w := W) (h.ra.below hW) (h.rd.below hW) (by have := h.la; omega) (by have := h.ld; omega) ⟨h.ca1, h.ca2⟩ ⟨h.cd1, h.cd2⟩ (by simp [both, e2]))
      clear h e1 e2
      unfold zv at *
      unfold QV.v at *
      go_enter Tryz.func19, Tryz.ntmps19
      go_wp2_with fail
      refine (H1.out _ T0.b).mono ?_
      rintro e w1 ⟨rfl, hb⟩
      have T1 := T0.next hb
      clear hb T0
      have qx0 := T1.x.c0
      have qx1 := T1.x.c1
      have qx2 := T1.x.c2
      go_wp2_with fail
      refine (H2.out _ T1.b).mono ?_
      rintro e w2 ⟨A2, c2, rfl, hb⟩
      have T2 := T1.next hb
      clear hb T1
      clear qx0 qx1 qx2
      have qx0 := T2.x.c0
      have qx1 := T2.x.c1
      have qx2 := T2.x.c2
      go_wp2
      go_ret
      exact ⟨rfl, T2.b⟩
    | true =>
      have hz := znm_of h.ra e1 h.ca1 h.ca2
      have hn := nm_of h.rd e2 h.cd1 h.cd2
      have l1 := h.la
      have l2 := h.ld
      have H2 := Lib.hid (fun W (hW : Below w.heap.size w W) => gcd_nm gcd_is (w := W) (hz.1.below hW) (hn.below hW) (by omega) (by omega))
      have HL : Hid ((limbs (Nat.gcd (zof v.p a).natAbs (val d))).length ≤ 1000) := by
        show _ ≤ _
        have := gcd_len hz.1 hn
        omega
      rw [zof_abs] at H2 HL
      obtain ⟨g, hgg⟩ : ∃ g, Nat.gcd (val a) (val d) = g := ⟨_, rfl⟩
      rw [hgg] at H2 HL
      by_cases h0 : d = []
      · have HR : Hid (mayQ v.p a d = false) := by show _ = _; simp [mayQ, h0]
        rw [HR.out]
        simp only [Bool.false_eq_true, if_false]
        have hm : v.m = 0 := by rw [← h.rd.len, h0]; rfl
        clear h e1 e2 hz hn h0 l1 l2 HR hgg
        obtain ⟨p1, A1, nn, cc, D1, mm, dd⟩ := v
        obtain rfl : mm = 0 := hm
        dsimp only [QV.v] at *
        unfold zv at *
        go_enter Tryz.func19, Tryz.ntmps19
        go_wp2_with fail
        refine (H1.out _ T0.b).mono ?_
        rintro e w1 ⟨rfl, hb⟩
        have T1 := T0.next hb
        clear hb T0
        have qx0 := T1.x.c0
        have qx1 := T1.x.c1
        have qx2 := T1.x.c2
        go_wp2_with fail
        refine (H2.out _ T1.b).mono ?_
        rintro e w2 ⟨A2, k2, c2, rfl, o2, hb⟩
        have T2 := T1.next hb
        clear hb T1 o2
        clear qx0 qx1 qx2
        have qx0 := T2.x.c0
        have qx1 := T2.x.c1
        have qx2 := T2.x.c2
        go_wp2
        go_ret
        exact ⟨rfl, T2.b⟩
      · have HR : Hid (mayQ v.p a d = decide (g = 1)) := by show _ = _; rw [← hgg]; simp [mayQ, e1, e2, h0]
        have hm : ((v.m : Int) == 0) = false := by
          have h1 := h.rd.len
          have h2 : d.length ≠ 0 := fun e => h0 (List.eq_nil_of_length_eq_zero e)
          simp
          omega
        rw [HR.out]
        obtain ⟨t, ht⟩ : ∃ t, decide (g = 1) = t := ⟨_, rfl⟩
        rw [ht]
        have ht := Lib.hid ht
        clear h e1 e2 hz hn h0 l1 l2 HR hgg
        unfold zv at *
        unfold QV.v at *
        go_enter Tryz.func19, Tryz.ntmps19
        go_wp2_with fail
        refine (H1.out _ T0.b).mono ?_
        rintro e w1 ⟨rfl, hb⟩
        have T1 := T0.next hb
        clear hb T0
        have qx0 := T1.x.c0
        have qx1 := T1.x.c1
        have qx2 := T1.x.c2
        go_wp2_with fail
        refine (H2.out _ T1.b).mono ?_
        rintro e w2 ⟨A2, k2, c2, rfl, o2, hb⟩
        have hl2 : k2 ≤ 1000 := by have := o2.rd.2.1; have := HL.out; omega
        have T2 := T1.next hb
        clear hb T1
        clear qx0 qx1 qx2
        have qx0 := T2.x.c0
        have qx1 := T2.x.c1
        have qx2 := T2.x.c2
        go_wp2_with fail
        refine (isOneT ht.out o2.nm hl2).mono ?_
        rintro e w3 ⟨rfl, hb⟩
        have T3 := T2.next hb
        clear hb T2 o2
        clear qx0 qx1 qx2
        have qx0 := T3.x.c0
        have qx1 := T3.x.c1
        have qx2 := T3.x.c2
        cases t with
        | true =>
          simp only [if_true]
          go_wp2
          go_ret
          exact ⟨rfl, T3.b⟩
        | false =>
          simp only [Bool.false_eq_true, if_false]
          go_wp2
          go_ret
          exact ⟨rfl, T3.b⟩
end Go.Proofs.YtbldimplddiheaaGreatDoor

/- rat: allMayBe. -/
namespace Go.Proofs.YtbldimplddiheaaGreatDoor
open Go.RowKit Go.Shelf
set_option linter.unusedVariables false
set_option linter.unusedSimpArgs false

/-- A row of two fractions. -/
abbrev twoRowQ (v v2 : QV) : Obj := .cells #[.bool v.p, .slice v.A v.n v.c, .slice v.D v.m v.d, .bool v2.p, .slice v2.A v2.n v2.c, .slice v2.D v2.m v2.d] qT
section
variable {A A2 : Option Addr} {na ca nb cb : Nat} {p q : Bool} {a b d a2 d2 : List Nat} {w : World} {v v2 : QV}
theorem one_E (p : Bool) (a : List Nat) (q : Bool) (b : List Nat) : (oneE p a = 0 → oneE q b = 0 → twoE p a q b = 0) ∧ (oneE p a ≠ 0 → twoE p a q b = oneE p a) ∧ (oneE q b ≠ 0 → twoE p a q b = oneE q b) := by
  unfold oneE twoE twoM
  cases mayZ p a <;> cases mayZ q b <;> decide
set_option maxRecDepth 100000 in
set_option maxHeartbeats 4000000 in
theorem allInt_any (g : Nat) (hg : w.heap[g]? = some (twoRow p A na ca q A2 nb cb)) (h : Z2 w A A2 na ca nb cb a b) : Calls Tryz.prog 36 #[.func (.func 37) #[] #[], .slice (some ⟨g, 0, none⟩) 2 2] w fun e w' => e = .returned (.int .i64 (twoE p a q b)) ∧ Below w.heap.size w w' := by
  have hgs : g < w.heap.size := (Array.getElem?_eq_some_iff.1 hg).1
  have HG : Hid (∀ W, Below w.heap.size w W → W.cell? ⟨g, 0, none⟩ = some (.bool p) ∧ W.cell? ⟨g, 1, none⟩ = some (.slice A na ca) ∧ W.cell? ⟨g, 2, none⟩ = some (.bool q) ∧ W.cell? ⟨g, 3, none⟩ = some (.slice A2 nb cb)) := fun W hb => ⟨cells_cell ((hb.block g hgs).trans hg) rfl, cells_cell ((hb.block g hgs).trans hg) rfl, cells_cell ((hb.block g hgs).trans hg) rfl, cells_cell ((hb.block g hgs).trans hg) rfl⟩
  have HC1 := Lib.hid (fun W (hW : Below w.heap.size w W) => checkZ_any (p := p) (w := W) (h.one.below hW))
  have HC2 := Lib.hid (fun W (hW : Below w.heap.size w W) => checkZ_any (p := q) (w := W) (h.two.below hW))
  unfold zv at HC1 HC2
  have TT := Lib.hid (one_E p a q b)
  generalize oneE p a = E1 at HC1 TT
  generalize oneE q b = E2 at HC2 TT
  generalize twoE p a q b = E3 at TT ⊢
  clear hg h
  go_enter Tryz.func36, Tryz.ntmps36
  go_wp2
  go_loopw [10] (fun i wr => ∃ k : Nat, k ≤ 2 ∧ i = .int .i64 (k : Int) ∧ ((1 ≤ k → E1 = 0) ∧ (2 ≤ k → E2 = 0)) ∧ Below w.heap.size w wr) (fun i _ => 2 - (intOf i).toNat)
  case atStart => exact ⟨0, by omega, rfl, ⟨fun h => absurd h (by omega), fun h => absurd h (by omega)⟩, Below.refl _ _⟩
  case round =>
    obtain ⟨k, hk, rfl, h1, hB⟩ := hrel
    have hc0 := (HG.out _ hB).1
    have hc1 := (HG.out _ hB).2.1
    have hc2 := (HG.out _ hB).2.2.1
    have hc3 := (HG.out _ hB).2.2.2
    obtain rfl | rfl | rfl : k = 0 ∨ k = 1 ∨ k = 2 := by omega
    · have HB := Lib.hid (below_then hB (bxb wr (zo p A na ca)))
      by_cases hE : E1 = 0
      · rw [hE] at HC1
        have HE := Lib.hid hE
        have H1 := Lib.hid h1
        clear hB h1 hE
        go_wp2_with fail
        refine (HC1.out _ HB.out).mono ?_
        rintro e w3 ⟨rfl, hb3⟩
        have hB3 := Lib.hid (below_then HB.out hb3)
        clear hb3
        go_wp2
        go_roundw
        case rel => exact ⟨1, by omega, rfl, ⟨fun _ => HE.out, fun h => absurd h (by omega)⟩, hB3.out⟩
        case measure => simp [intOf]
      · have HR : Hid (E3 = E1) := TT.out.2.1 hE
        have hE2 : ((E1 : Int) != 0) = true := by simpa using hE
        have hE3 : ((E1 : Int) == 0) = false := by simpa using hE
        clear hB h1 hE
        go_wp2_with fail
        refine (HC1.out _ HB.out).mono ?_
        rintro e w3 ⟨rfl, hb3⟩
        have hB3 := Lib.hid (below_then HB.out hb3)
        clear hb3
        go_wp2
        go_ret
        exact ⟨by rw [HR.out]; rfl, hB3.out⟩
    · have HB := Lib.hid (below_then hB (bxb wr (zo q A2 nb cb)))
      by_cases hE : E2 = 0
      · rw [hE] at HC2
        have HE := Lib.hid hE
        have H1 := Lib.hid h1
        clear hB h1 hE
        go_wp2_with fail
        refine (HC2.out _ HB.out).mono ?_
        rintro e w3 ⟨rfl, hb3⟩
        have hB3 := Lib.hid (below_then HB.out hb3)
        clear hb3
        go_wp2
        go_roundw
        case rel => exact ⟨2, by omega, rfl, ⟨fun _ => H1.out.1 (by omega), fun h => HE.out⟩, hB3.out⟩
        case measure => simp [intOf]
      · have HR : Hid (E3 = E2) := TT.out.2.2 hE
        have hE2 : ((E2 : Int) != 0) = true := by simpa using hE
        have hE3 : ((E2 : Int) == 0) = false := by simpa using hE
        clear hB h1 hE
        go_wp2_with fail
        refine (HC2.out _ HB.out).mono ?_
        rintro e w3 ⟨rfl, hb3⟩
        have hB3 := Lib.hid (below_then HB.out hb3)
        clear hb3
        go_wp2
        go_ret
        exact ⟨by rw [HR.out]; rfl, hB3.out⟩
    · have HR : Hid (E3 = 0) := TT.out.1 (h1.1 (by omega)) (h1.2 (by omega))
      have HB := Lib.hid hB
      clear h1 hB
      go_wp2
      go_ret
      exact ⟨by rw [HR.out]; rfl, HB.out⟩
theorem both_E (v v2 : QV) (a d a2 d2 : List Nat) : ((if mayQ v.p a d then (0 : Int) else 8) = 0 → (if mayQ v2.p a2 d2 then (0 : Int) else 8) = 0 → (if both2 v v2 a d a2 d2 then (0 : Int) else 8) = 0) ∧ ((if mayQ v.p a d then (0 : Int) else 8) ≠ 0 → (if both2 v v2 a d a2 d2 then (0 : Int) else 8) = (if mayQ v.p a d then (0 : Int) else 8)) ∧ ((if mayQ v2.p a2 d2 then (0 : Int) else 8) ≠ 0 → (if both2 v v2 a d a2 d2 then (0 : Int) else 8) = (if mayQ v2.p a2 d2 then (0 : Int) else 8)) := by
  unfold both2
  cases mayQ v.p a d <;> cases mayQ v2.p a2 d2 <;> decide
set_option maxRecDepth 100000 in
set_option maxHeartbeats 4000000 in
theorem allQ_any (g : Nat) (hg : w.heap[g]? = some (twoRowQ v v2)) (h : Q1 w v a d) (h2 : Q1 w v2 a2 d2) : Calls Tryz.prog 45 #[.func (.func 19) #[] #[], .slice (some ⟨g, 0, none⟩) 2 2] w fun e w' => e = .returned (.int .i64 (if both2 v v2 a d a2 d2 then 0 else 8)) ∧ Below w.heap.size w w' := by
  have hgs : g < w.heap.size := (Array.getElem?_eq_some_iff.1 hg).1
  have HG : Hid (∀ W, Below w.heap.size w W → W.cell? ⟨g, 0, none⟩ = some (.bool v.p) ∧ W.cell? ⟨g, 1, none⟩ = some (.slice v.A v.n v.c) ∧ W.cell? ⟨g, 2, none⟩ = some (.slice v.D v.m v.d) ∧ W.cell? ⟨g, 3, none⟩ = some (.bool v2.p) ∧ W.cell? ⟨g, 4, none⟩ = some (.slice v2.A v2.n v2.c) ∧ W.cell? ⟨g, 5, none⟩ = some (.slice v2.D v2.m v2.d)) := fun W hb => ⟨cells_cell ((hb.block g hgs).trans hg) rfl, cells_cell ((hb.block g hgs).trans hg) rfl, cells_cell ((hb.block g hgs).trans hg) rfl, cells_cell ((hb.block g hgs).trans hg) rfl, cells_cell ((hb.block g hgs).trans hg) rfl, cells_cell ((hb.block g hgs).trans hg) rfl⟩
  have HC1 := Lib.hid (fun W (hW : Below w.heap.size w W) => checkQ_is v a d W (h.below hW))
  have HC2 := Lib.hid (fun W (hW : Below w.heap.size w W) => checkQ_is v2 a2 d2 W (h2.below hW))
  unfold QV.v at HC1 HC2
  have TT := Lib.hid (both_E v v2 a d a2 d2)
  generalize (if mayQ v.p a d then (0 : Int) else 8) = E1 at HC1 TT
  generalize (if mayQ v2.p a2 d2 then (0 : Int) else 8) = E2 at HC2 TT
  generalize (if both2 v v2 a d a2 d2 then (0 : Int) else 8) = E3 at TT ⊢
  clear hg h h2
  go_enter Tryz.func45, Tryz.ntmps45
  go_wp2
  go_loopw [10] (fun i wr => ∃ k : Nat, k ≤ 2 ∧ i = .int .i64 (k : Int) ∧ ((1 ≤ k → E1 = 0) ∧ (2 ≤ k → E2 = 0)) ∧ Below w.heap.size w wr) (fun i _ => 2 - (intOf i).toNat)
  case atStart => exact ⟨0, by omega, rfl, ⟨fun h => absurd h (by omega), fun h => absurd h (by omega)⟩, Below.refl _ _⟩
  case round =>
    obtain ⟨k, hk, rfl, h1, hB⟩ := hrel
    have hc0 := (HG.out _ hB).1
    have hc1 := (HG.out _ hB).2.1
    have hc2 := (HG.out _ hB).2.2.1
    have hc3 := (HG.out _ hB).2.2.2.1
    have hc4 := (HG.out _ hB).2.2.2.2.1
    have hc5 := (HG.out _ hB).2.2.2.2.2
    obtain rfl | rfl | rfl : k = 0 ∨ k = 1 ∨ k = 2 := by omega
    · have HB := Lib.hid (below_then hB (bxb wr (v.o)))
      by_cases hE : E1 = 0
      · rw [hE] at HC1
        have HE := Lib.hid hE
        have H1 := Lib.hid h1
        clear hB h1 hE
        go_wp2_with fail
        refine (HC1.out _ HB.out).mono ?_
        rintro e w3 ⟨rfl, hb3⟩
        have hB3 := Lib.hid (below_then HB.out hb3)
        clear hb3
        go_wp2
        go_roundw
        case rel => exact ⟨1, by omega, rfl, ⟨fun _ => HE.out, fun h => absurd h (by omega)⟩, hB3.out⟩
        case measure => simp [intOf]
      · have HR : Hid (E3 = E1) := TT.out.2.1 hE
        have hE2 : ((E1 : Int) != 0) = true := by simpa using hE
        have hE3 : ((E1 : Int) == 0) = false := by simpa using hE
        clear hB h1 hE
        go_wp2_with fail
        refine (HC1.out _ HB.out).mono ?_
        rintro e w3 ⟨rfl, hb3⟩
        have hB3 := Lib.hid (below_then HB.out hb3)
        clear hb3
        go_wp2
        go_ret
        exact ⟨by rw [HR.out]; rfl, hB3.out⟩
    · have HB := Lib.hid (below_then hB (bxb wr (v2.o)))
      by_cases hE : E2 = 0
      · rw [hE] at HC2
        have HE := Lib.hid hE
        have H1 := Lib.hid h1
        clear hB h1 hE
        go_wp2_with fail
        refine (HC2.out _ HB.out).mono ?_
        rintro e w3 ⟨rfl, hb3⟩
        have hB3 := Lib.hid (below_then HB.out hb3)
        clear hb3
        go_wp2
        go_roundw
        case rel => exact ⟨2, by omega, rfl, ⟨fun _ => H1.out.1 (by omega), fun h => HE.out⟩, hB3.out⟩
        case measure => simp [intOf]
      · have HR : Hid (E3 = E2) := TT.out.2.2 hE
        have hE2 : ((E2 : Int) != 0) = true := by simpa using hE
        have hE3 : ((E2 : Int) == 0) = false := by simpa using hE
        clear hB h1 hE
        go_wp2_with fail
        refine (HC2.out _ HB.out).mono ?_
        rintro e w3 ⟨rfl, hb3⟩
        have hB3 := Lib.hid (below_then HB.out hb3)
        clear hb3
        go_wp2
        go_ret
        exact ⟨by rw [HR.out]; rfl, hB3.out⟩
    · have HR : Hid (E3 = 0) := TT.out.1 (h1.1 (by omega)) (h1.2 (by omega))
      have HB := Lib.hid hB
      clear h1 hB
      go_wp2
      go_ret
      exact ⟨by rw [HR.out]; rfl, HB.out⟩
/-- What stands behind allMayBe. -/
theorem allQ_at2 (h : Q1 w v a d) (h2 : Q1 w v2 a2 d2) : Calls Tryz.prog 45 #[.func (.func 19) #[] #[], .slice (some ⟨w.heap.size + 1 + 1, 0, none⟩) 2 2] (((w.alloc v.o).alloc v2.o).alloc (twoRowQ v v2)) fun e w' => e = .returned (.int .i64 (if both2 v v2 a d a2 d2 then 0 else 8)) ∧ DuoQ w w' v v2 := by
  have T1 := (duo_q w v v2).next (bxb _ (twoRowQ v v2))
  have hg := World.alloc_heap_new ((w.alloc v.o).alloc v2.o) (twoRowQ v v2)
  rw [World.size_alloc, World.size_alloc] at hg
  refine (allQ_any (w.heap.size + 1 + 1) hg (h.below T1.b) (h2.below T1.b)).mono ?_
  rintro e w1 ⟨rfl, hb⟩
  exact ⟨rfl, T1.next hb⟩
theorem allQ_at3 (h : Q1 w v a d) (h2 : Q1 w v2 a2 d2) : Calls Tryz.prog 45 #[.func (.func 19) #[] #[], .slice (some ⟨w.heap.size + 1 + 1 + 1, 0, none⟩) 2 2] ((((w.alloc v.o).alloc v2.o).alloc QV.zero.o).alloc (twoRowQ v v2)) fun e w' => e = .returned (.int .i64 (if both2 v v2 a d a2 d2 then 0 else 8)) ∧ TriQ w w' v v2 QV.zero := by
  have T1 := (tri_q w v v2 QV.zero).next (bxb _ (twoRowQ v v2))
  have hg := World.alloc_heap_new (((w.alloc v.o).alloc v2.o).alloc QV.zero.o) (twoRowQ v v2)
  rw [World.size_alloc, World.size_alloc, World.size_alloc] at hg
  refine (allQ_any (w.heap.size + 1 + 1 + 1) hg (h.below T1.b) (h2.below T1.b)).mono ?_
  rintro e w1 ⟨rfl, hb⟩
  exact ⟨rfl, T1.next hb⟩
end
end Go.Proofs.YtbldimplddiheaaGreatDoor

/- rat: crossed, Floor, Ceil, Cmp, Same. -/
namespace Go.Proofs.YtbldimplddiheaaGreatDoor
open Go.RowKit Go.Shelf
set_option linter.unusedVariables false
set_option linter.unusedSimpArgs false

/-- The world behind two fractions and two whole numbers. -/
structure CrossW (w W : World) (v v2 : QV) : Prop where
  t : DuoQ w W v v2
  z : BoxZ W (w.heap.size + 1 + 1) false none 0 0
  y : BoxZ W (w.heap.size + 1 + 1 + 1) false none 0 0
theorem CrossW.next {w W W' : World} {v v2 : QV} (h : CrossW w W v v2) (hb : Below W.heap.size W W') : CrossW w W' v v2 := ⟨h.t.next hb, h.z.below hb (Array.getElem?_eq_some_iff.1 h.z).1, h.y.below hb (Array.getElem?_eq_some_iff.1 h.y).1⟩
theorem cross_w (w : World) (v v2 : QV) : CrossW w ((((w.alloc v.o).alloc v2.o).alloc (zo false none 0 0)).alloc (zo false none 0 0)) v v2 := by
  have h1 := World.alloc_heap_new ((w.alloc v.o).alloc v2.o) (zo false none 0 0)
  have h2 := World.alloc_heap_new (((w.alloc v.o).alloc v2.o).alloc (zo false none 0 0)) (zo false none 0 0)
  rw [World.size_alloc, World.size_alloc] at h1
  rw [World.size_alloc, World.size_alloc, World.size_alloc] at h2
  have h3 : BoxZ (((w.alloc v.o).alloc v2.o).alloc (zo false none 0 0)) (w.heap.size + 1 + 1) false none 0 0 := h1
  exact ⟨((duo_q w v v2).next (bxb _ _)).next (bxb _ _), h3.below (bxb _ _) (Array.getElem?_eq_some_iff.1 h3).1, h2⟩
/-- A call answered two whole numbers, in new memory. -/
def ZTwo (w : World) (z y : Int) (e : Ending) (w' : World) : Prop := ∃ (A : Option Addr) (n c : Nat) (A2 : Option Addr) (m d : Nat), e = .returned (.tuple #[zV z A n c, zV y A2 m d]) ∧ Own w' w.heap.size (.slice A n c) (limbs z.natAbs) ∧ Own w' w.heap.size (.slice A2 m d) (limbs y.natAbs) ∧ Below w.heap.size w w'
theorem own_box4 {w1 w4 : World} {B g g2 : Nat} {v : Value} {l : List Nat} (h1 : g < w1.heap.size) (h2 : g2 < w1.heap.size) (hg : B ≤ g) (hg2 : B ≤ g2) (o : Own w4 w1.heap.size v l) (u1 u2 u3 u4 : Value) : Own ((((w4.setCell ⟨g, 0, none⟩ u1).setCell ⟨g, 1, none⟩ u2).setCell ⟨g2, 0, none⟩ u3).setCell ⟨g2, 1, none⟩ u4) B v l :=
  own_mono (own_far (own_far (own_far (own_far (own_mono o (show max g g2 + 1 ≤ _ by omega)) (p := ⟨g, 0, none⟩) (show g < max g g2 + 1 by omega) _) (p := ⟨g, 1, none⟩) (show g < max g g2 + 1 by omega) _) (p := ⟨g2, 0, none⟩) (show g2 < max g g2 + 1 by omega) _) (p := ⟨g2, 1, none⟩) (show g2 < max g g2 + 1 by omega) _) (by omega)
section
variable {A A2 D E : Option Addr} {na ca nb cb nd cd ne ce u t : Nat} {a d a2 d2 : List Nat} {w : World} {z : Int} {x y : Rat} {v v2 : QV}
theorem tmN (ha : ZNm w A na ca z) (hd : Nm w D nd cd u) (l1 : na ≤ 400) (l2 : nd ≤ 400) : Calls Tryz.prog 43 #[.agg #[.bool (decide (z < 0)), .slice A na ca], .agg #[.bool false, .slice D nd cd]] w (ZOne w (z * (u : Int))) := by
  have h := qtimes_any (A2 := D) (nb := nd) (cb := cd) (y := (u : Int)) ha (by show Nm _ _ _ _ ((u : Int)).natAbs; rw [Int.natAbs_natCast]; exact hd) l1 l2
  unfold zV zv at h
  rw [show decide ((u : Int) < 0) = false from decide_eq_false (by omega)] at h
  exact h
theorem tmNN (he : Nm w E ne ce t) (hd : Nm w D nd cd u) (l1 : ne ≤ 400) (l2 : nd ≤ 400) : Calls Tryz.prog 43 #[.agg #[.bool false, .slice E ne ce], .agg #[.bool false, .slice D nd cd]] w (ZOne w ((t : Int) * (u : Int))) := by
  have h := tmN (A := E) (na := ne) (ca := ce) (z := (t : Int)) (by show Nm _ _ _ _ ((t : Int)).natAbs; rw [Int.natAbs_natCast]; exact he) hd l1 l2
  rw [show decide ((t : Int) < 0) = false from decide_eq_false (by omega)] at h
  exact h
theorem tmNZ (he : Nm w E ne ce t) (ha : ZNm w A na ca z) (l1 : ne ≤ 400) (l2 : na ≤ 400) : Calls Tryz.prog 43 #[.agg #[.bool false, .slice E ne ce], .agg #[.bool (decide (z < 0)), .slice A na ca]] w (ZOne w ((t : Int) * z)) := by
  have h := qtimes_any (A := E) (na := ne) (ca := ce) (z := (t : Int)) (by show Nm _ _ _ _ ((t : Int)).natAbs; rw [Int.natAbs_natCast]; exact he) ha l1 l2
  unfold zV zv at h
  rw [show decide ((t : Int) < 0) = false from decide_eq_false (by omega)] at h
  exact h
set_option maxRecDepth 100000 in
set_option maxHeartbeats 4000000 in
theorem crossed_any (h1 : QNm w v x) (h2 : QNm w v2 y) (l1 : v.n ≤ 60) (l2 : v.m ≤ 60) (l3 : v2.n ≤ 60) (l4 : v2.m ≤ 60) : Calls Tryz.prog 47 #[v.v, v2.v] w (ZTwo w (x.num * (y.den : Int)) (y.num * (x.den : Int))) := by
  have T0 := cross_w w v v2
  have P1 := Lib.hid (fun W (hW : Below w.heap.size w W) => tmN (w := W) (h1.a.below hW) (h2.d.below hW) (by omega) (by omega))
  have P2 := Lib.hid (fun W (hW : Below w.heap.size w W) => tmN (w := W) (h2.a.below hW) (h1.d.below hW) (by omega) (by omega))
  rw [← h1.s] at P1
  rw [← h2.s] at P2
  have N1 := Lib.hid (fun W => plus_any (w := W) (D := v2.D) (nd := v2.m) (cd := v2.d))
  have N2 := Lib.hid (fun W => plus_any (w := W) (D := v.D) (nd := v.m) (cd := v.d))
  clear h1 h2 l1 l2 l3 l4
  generalize x.num * (y.den : Int) = s at *
  generalize y.num * (x.den : Int) = t at *
  unfold QV.v zv ZOne at *
  have HT0 := Lib.hid (T0.next (Below.refl _ _).drew)
  have qx0 := T0.t.x.c0
  have qx1 := T0.t.x.c1
  have qx2 := T0.t.x.c2
  have qy0 := T0.t.y.c0
  have qy1 := T0.t.y.c1
  have qy2 := T0.t.y.c2
  have zz0 := T0.z.c0
  have zz1 := T0.z.c1
  have zy0 := T0.y.c0
  have zy1 := T0.y.c1
  have fz0 := T0.z.f 0
  have fz1 := T0.z.f 1
  have fy0 := T0.y.f 0
  have fy1 := T0.y.f 1
  go_enter Tryz.func47, Tryz.ntmps47
  go_wp2_with fail
  go_region_held3 (fun W' => W'.cell? ⟨w.heap.size, 0, none⟩ = some (.bool v.p) ∧ W'.cell? ⟨w.heap.size, 1, none⟩ = some (.slice v.A v.n v.c) ∧ W'.cell? ⟨w.heap.size, 2, none⟩ = some (.slice v.D v.m v.d) ∧ W'.cell? ⟨w.heap.size + 1, 0, none⟩ = some (.bool v2.p) ∧ W'.cell? ⟨w.heap.size + 1, 1, none⟩ = some (.slice v2.A v2.n v2.c) ∧ W'.cell? ⟨w.heap.size + 1, 2, none⟩ = some (.slice v2.D v2.m v2.d)) (first | (with_reducible exact ⟨qx0, qx1, qx2, qy0, qy1, qy2⟩) | (with_reducible refine ⟨cell_far (cell_far (qx0) ?_ _) ?_ _, cell_far (cell_far (qx1) ?_ _) ?_ _, cell_far (cell_far (qx2) ?_ _) ?_ _, cell_far (cell_far (qy0) ?_ _) ?_ _, cell_far (cell_far (qy1) ?_ _) ?_ _, cell_far (cell_far (qy2) ?_ _) ?_ _⟩ <;> omega) | (with_reducible refine ⟨cell_far (cell_far (cell_far (cell_far (qx0) ?_ _) ?_ _) ?_ _) ?_ _, cell_far (cell_far (cell_far (cell_far (qx1) ?_ _) ?_ _) ?_ _) ?_ _, cell_far (cell_far (cell_far (cell_far (qx2) ?_ _) ?_ _) ?_ _) ?_ _, cell_far (cell_far (cell_far (cell_far (qy0) ?_ _) ?_ _) ?_ _) ?_ _, cell_far (cell_far (cell_far (cell_far (qy1) ?_ _) ?_ _) ?_ _) ?_ _, cell_far (cell_far (cell_far (cell_far (qy2) ?_ _) ?_ _) ?_ _) ?_ _⟩ <;> omega) | go_keep)
    (first
      | (have hmk := T3; go_at_call 43; refine (P2.out _ T3.t.b).mono ?_; rintro e w4 ⟨A5, k5, c5, rfl, o5, hb4⟩; have T4 := T3.next hb4; have o3c := o3b.below hb4; clear qx0 qx1 qx2 qy0 qy1 qy2 zz0 zz1 zy0 zy1 fz0 fz1 fy0 fy1; have qx0 := T4.t.x.c0; have qx1 := T4.t.x.c1; have qx2 := T4.t.x.c2; have qy0 := T4.t.y.c0; have qy1 := T4.t.y.c1; have qy2 := T4.t.y.c2; have zz0 := T4.z.c0; have zz1 := T4.z.c1; have zy0 := T4.y.c0; have zy1 := T4.y.c1; have fz0 := T4.z.f 0; have fz1 := T4.z.f 1; have fy0 := T4.y.f 0; have fy1 := T4.y.f 1; unfold zV zv)
      | (have hmk := T2; go_at_call 44; refine (N2.out _).mono ?_; rintro e w3 ⟨rfl, hb3⟩; have T3 := T2.next hb3; have o3b := o3.below hb3; clear qx0 qx1 qx2 qy0 qy1 qy2 zz0 zz1 zy0 zy1 fz0 fz1 fy0 fy1; have qx0 := T3.t.x.c0; have qx1 := T3.t.x.c1; have qx2 := T3.t.x.c2; have qy0 := T3.t.y.c0; have qy1 := T3.t.y.c1; have qy2 := T3.t.y.c2; have zz0 := T3.z.c0; have zz1 := T3.z.c1; have zy0 := T3.y.c0; have zy1 := T3.y.c1; have fz0 := T3.z.f 0; have fz1 := T3.z.f 1; have fy0 := T3.y.f 0; have fy1 := T3.y.f 1)
      | (have hmk := T1; go_at_call 43; refine (P1.out _ T1.t.b).mono ?_; rintro e w2 ⟨A3, k3, c3, rfl, o3, hb2⟩; have T2 := T1.next hb2; clear qx0 qx1 qx2 qy0 qy1 qy2 zz0 zz1 zy0 zy1 fz0 fz1 fy0 fy1; have qx0 := T2.t.x.c0; have qx1 := T2.t.x.c1; have qx2 := T2.t.x.c2; have qy0 := T2.t.y.c0; have qy1 := T2.t.y.c1; have qy2 := T2.t.y.c2; have zz0 := T2.z.c0; have zz1 := T2.z.c1; have zy0 := T2.y.c0; have zy1 := T2.y.c1; have fz0 := T2.z.f 0; have fz1 := T2.z.f 1; have fy0 := T2.y.f 0; have fy1 := T2.y.f 1; unfold zV zv)
      | (go_at_call 44; refine (N1.out _).mono ?_; rintro e w1 ⟨rfl, hb1⟩; have T1 := HT0.out.next hb1; clear qx0 qx1 qx2 qy0 qy1 qy2 zz0 zz1 zy0 zy1 fz0 fz1 fy0 fy1; have qx0 := T1.t.x.c0; have qx1 := T1.t.x.c1; have qx2 := T1.t.x.c2; have qy0 := T1.t.y.c0; have qy1 := T1.t.y.c1; have qy2 := T1.t.y.c2; have zz0 := T1.z.c0; have zz1 := T1.z.c1; have zy0 := T1.y.c0; have zy1 := T1.y.c1; have fz0 := T1.z.f 0; have fz1 := T1.z.f 1; have fy0 := T1.y.f 0; have fy1 := T1.y.f 1))
  have hG := Lib.hid (And.intro (Array.getElem?_eq_some_iff.1 T1.z).1 (And.intro (Array.getElem?_eq_some_iff.1 T3.z).1 (And.intro (Array.getElem?_eq_some_iff.1 T1.y).1 (Array.getElem?_eq_some_iff.1 T3.y).1)))
  go_wp2
  refine bodyPost_ret (v := .tuple #[zV s A3 k3 c3, zV t A5 k5 c5]) (by simp [results, Tryz.results47, go_sem, zz0, zz1, zy0, zy1, zV, zv]) rfl ?_
  exact ⟨A3, k3, c3, A5, k5, c5, rfl, own_box4 hG.out.1 hG.out.2.2.1 (by omega) (by omega) o3c _ _ _ _, own_box4 hG.out.2.1 hG.out.2.2.2 (by omega) (by omega) o5 _ _ _ _, box_below (show w.heap.size ≤ w.heap.size + 1 + 1 + 1 by omega) (box_below (show w.heap.size ≤ w.heap.size + 1 + 1 by omega) T4.t.b _ _) _ _⟩
end
end Go.Proofs.YtbldimplddiheaaGreatDoor

/- rat: Floor, Ceil, Cmp, Same. -/
namespace Go.Proofs.YtbldimplddiheaaGreatDoor
open Go.RowKit Go.Shelf
set_option linter.unusedVariables false
set_option linter.unusedSimpArgs false

/-- The world behind a fraction and a whole number. -/
structure UnoZ (w W : World) (v : QV) : Prop where
  t : UnoQ w W v
  z : BoxZ W (w.heap.size + 1) false none 0 0
theorem UnoZ.next {w W W' : World} {v : QV} (h : UnoZ w W v) (hb : Below W.heap.size W W') : UnoZ w W' v := ⟨h.t.next hb, h.z.below hb (Array.getElem?_eq_some_iff.1 h.z).1⟩
theorem uno_z (w : World) (v : QV) : UnoZ w ((w.alloc v.o).alloc (zo false none 0 0)) v := by
  have h1 := World.alloc_heap_new (w.alloc v.o) (zo false none 0 0)
  rw [World.size_alloc] at h1
  exact ⟨(uno_q w v).next (bxb _ _), h1⟩
section
variable {A A2 D E : Option Addr} {na ca nb cb nd cd ne ce u t : Nat} {a d a2 d2 : List Nat} {w : World} {z : Int} {x y : Rat} {v v2 : QV}
set_option maxRecDepth 100000 in
set_option maxHeartbeats 4000000 in
theorem roundedFloor_any (h : Q1 w v a d) : Calls Tryz.prog 48 #[v.v, .func (.func 49) #[] #[]] w (ZAns w (if mayQ v.p a d then Rat.floor (qof v.p a d) else 0) (if mayQ v.p a d then 0 else 8)) := by
  have T0 := uno_z w v
  have H1 := Lib.hid (fun W (hW : Below w.heap.size w W) => checkQ_is v a d W (h.below hW))
  cases hm : mayQ v.p a d with
  | false =>
    rw [hm] at H1
    simp only [Bool.false_eq_true, if_false] at H1 ⊢
    clear h hm
    unfold QV.v at *
    have qx0 := T0.t.x.c0
    have qx1 := T0.t.x.c1
    have qx2 := T0.t.x.c2
    have zz0 := T0.z.c0
    have zz1 := T0.z.c1
    have fz0 := T0.z.f 0
    have fz1 := T0.z.f 1
    go_enter Tryz.func48, Tryz.ntmps48
    go_wp2_with fail
    refine (H1.out _ T0.t.b).mono ?_
    rintro e w1 ⟨rfl, hb⟩
    have T1 := T0.next hb
    clear hb T0
    clear qx0 qx1 qx2 zz0 zz1 fz0 fz1
    have qx0 := T1.t.x.c0
    have qx1 := T1.t.x.c1
    have qx2 := T1.t.x.c2
    have zz0 := T1.z.c0
    have zz1 := T1.z.c1
    have fz0 := T1.z.f 0
    have fz1 := T1.z.f 1
    go_wp2
    refine bodyPost_ret (v := .tuple #[zv false none 0 0, .int .i64 8]) (by simp [results, Tryz.results48, go_sem, zz0, zz1, zv]) rfl ?_
    exact zans_zero (box_below (show w.heap.size ≤ w.heap.size + 1 by omega) T1.t.b _ _)
  | true =>
    rw [hm] at H1
    simp only [if_true] at H1 ⊢
    have n1 := h.num hm
    have k1 := h.la
    have k2 := h.ld
    have s1 := n1.s
    have P := Lib.hid (fun W (hW : Below w.heap.size w W) => floorN (A2 := v.D) (nb := v.m) (cb := v.d) (y := ((qof v.p a d).den : Int)) (w := W) (n1.a.below hW) (by show Nm _ _ _ _ (((qof v.p a d).den : Int)).natAbs; rw [Int.natAbs_natCast]; exact n1.d.below hW) (by omega) (by omega) (by have := (qof v.p a d).den_nz; omega))
    rw [show decide (((qof v.p a d).den : Int) < 0) = false from decide_eq_false (by omega), ← s1, floor_rat] at P
    have N1 := Lib.hid (fun W => plus_any (w := W) (D := v.D) (nd := v.m) (cd := v.d))
    clear h hm n1 k1 k2 s1
    generalize Rat.floor (qof v.p a d) = z at *
    unfold QV.v zv ZAns at *
    have qx0 := T0.t.x.c0
    have qx1 := T0.t.x.c1
    have qx2 := T0.t.x.c2
    have zz0 := T0.z.c0
    have zz1 := T0.z.c1
    have fz0 := T0.z.f 0
    have fz1 := T0.z.f 1
    go_enter Tryz.func48, Tryz.ntmps48
    go_wp2_with fail
    refine (H1.out _ T0.t.b).mono ?_
    rintro e w1 ⟨rfl, hb⟩
    have T1 := T0.next hb
    clear hb T0
    clear qx0 qx1 qx2 zz0 zz1 fz0 fz1
    have qx0 := T1.t.x.c0
    have qx1 := T1.t.x.c1
    have qx2 := T1.t.x.c2
    have zz0 := T1.z.c0
    have zz1 := T1.z.c1
    have fz0 := T1.z.f 0
    have fz1 := T1.z.f 1
    have HT1 := Lib.hid (T1.next (Below.refl _ _).drew)
    go_wp2_with fail
    go_region_held3 (fun W' => W'.cell? ⟨w.heap.size, 0, none⟩ = some (.bool v.p) ∧ W'.cell? ⟨w.heap.size, 1, none⟩ = some (.slice v.A v.n v.c) ∧ W'.cell? ⟨w.heap.size, 2, none⟩ = some (.slice v.D v.m v.d)) (first | (with_reducible exact ⟨qx0, qx1, qx2⟩) | (with_reducible refine ⟨cell_far (cell_far (qx0) ?_ _) ?_ _, cell_far (cell_far (qx1) ?_ _) ?_ _, cell_far (cell_far (qx2) ?_ _) ?_ _⟩ <;> omega) | go_keep)
      (first
        | (have hmk := T2; go_at_call 49; refine (P.out _ T2.t.b).mono ?_; rintro e w3 ⟨A3, k3, c3, rfl, o3, hb3⟩; have T3 := T2.next hb3; have hG := Lib.hid (Array.getElem?_eq_some_iff.1 T2.z).1; clear qx0 qx1 qx2 zz0 zz1 fz0 fz1; have qx0 := T3.t.x.c0; have qx1 := T3.t.x.c1; have qx2 := T3.t.x.c2; have zz0 := T3.z.c0; have zz1 := T3.z.c1; have fz0 := T3.z.f 0; have fz1 := T3.z.f 1; unfold zV zv)
        | (go_at_call 44; refine (N1.out _).mono ?_; rintro e w2 ⟨rfl, hb2⟩; have T2 := HT1.out.next hb2; clear qx0 qx1 qx2 zz0 zz1 fz0 fz1; have qx0 := T2.t.x.c0; have qx1 := T2.t.x.c1; have qx2 := T2.t.x.c2; have zz0 := T2.z.c0; have zz1 := T2.z.c1; have fz0 := T2.z.f 0; have fz1 := T2.z.f 1))
    go_wp2
    refine bodyPost_ret (v := .tuple #[zV z A3 k3 c3, .int .i64 0]) (by simp [results, Tryz.results48, go_sem, zz0, zz1, zV, zv]) rfl ?_
    exact ⟨A3, k3, c3, rfl, own_box hG.out (show w.heap.size ≤ w.heap.size + 1 by omega) o3 _ _, box_below (show w.heap.size ≤ w.heap.size + 1 by omega) T3.t.b _ _⟩
set_option maxRecDepth 100000 in
set_option maxHeartbeats 4000000 in
theorem roundedCeil_any (h : Q1 w v a d) : Calls Tryz.prog 48 #[v.v, .func (.func 50) #[] #[]] w (ZAns w (if mayQ v.p a d then Rat.ceil (qof v.p a d) else 0) (if mayQ v.p a d then 0 else 8)) := by
  have T0 := uno_z w v
  have H1 := Lib.hid (fun W (hW : Below w.heap.size w W) => checkQ_is v a d W (h.below hW))
  cases hm : mayQ v.p a d with
  | false =>
    rw [hm] at H1
    simp only [Bool.false_eq_true, if_false] at H1 ⊢
    clear h hm
    unfold QV.v at *
    have qx0 := T0.t.x.c0
    have qx1 := T0.t.x.c1
    have qx2 := T0.t.x.c2
    have zz0 := T0.z.c0
    have zz1 := T0.z.c1
    have fz0 := T0.z.f 0
    have fz1 := T0.z.f 1
    go_enter Tryz.func48, Tryz.ntmps48
    go_wp2_with fail
    refine (H1.out _ T0.t.b).mono ?_
    rintro e w1 ⟨rfl, hb⟩
    have T1 := T0.next hb
    clear hb T0
    clear qx0 qx1 qx2 zz0 zz1 fz0 fz1
    have qx0 := T1.t.x.c0
    have qx1 := T1.t.x.c1
    have qx2 := T1.t.x.c2
    have zz0 := T1.z.c0
    have zz1 := T1.z.c1
    have fz0 := T1.z.f 0
    have fz1 := T1.z.f 1
    go_wp2
    refine bodyPost_ret (v := .tuple #[zv false none 0 0, .int .i64 8]) (by simp [results, Tryz.results48, go_sem, zz0, zz1, zv]) rfl ?_
    exact zans_zero (box_below (show w.heap.size ≤ w.heap.size + 1 by omega) T1.t.b _ _)
  | true =>
    rw [hm] at H1
    simp only [if_true] at H1 ⊢
    have n1 := h.num hm
    have k1 := h.la
    have k2 := h.ld
    have s1 := n1.s
    have P := Lib.hid (fun W (hW : Below w.heap.size w W) => ceilN (A2 := v.D) (nb := v.m) (cb := v.d) (y := ((qof v.p a d).den : Int)) (w := W) (n1.a.below hW) (by show Nm _ _ _ _ (((qof v.p a d).den : Int)).natAbs; rw [Int.natAbs_natCast]; exact n1.d.below hW) (by omega) (by omega) (by have := (qof v.p a d).den_nz; omega))
    rw [show decide (((qof v.p a d).den : Int) < 0) = false from decide_eq_false (by omega), ← s1, ceil_rat] at P
    have N1 := Lib.hid (fun W => plus_any (w := W) (D := v.D) (nd := v.m) (cd := v.d))
    clear h hm n1 k1 k2 s1
    generalize Rat.ceil (qof v.p a d) = z at *
    unfold QV.v zv ZAns at *
    have qx0 := T0.t.x.c0
    have qx1 := T0.t.x.c1
    have qx2 := T0.t.x.c2
    have zz0 := T0.z.c0
    have zz1 := T0.z.c1
    have fz0 := T0.z.f 0
    have fz1 := T0.z.f 1
    go_enter Tryz.func48, Tryz.ntmps48
    go_wp2_with fail
    refine (H1.out _ T0.t.b).mono ?_
    rintro e w1 ⟨rfl, hb⟩
    have T1 := T0.next hb
    clear hb T0
    clear qx0 qx1 qx2 zz0 zz1 fz0 fz1
    have qx0 := T1.t.x.c0
    have qx1 := T1.t.x.c1
    have qx2 := T1.t.x.c2
    have zz0 := T1.z.c0
    have zz1 := T1.z.c1
    have fz0 := T1.z.f 0
    have fz1 := T1.z.f 1
    have HT1 := Lib.hid (T1.next (Below.refl _ _).drew)
    go_wp2_with fail
    go_region_held3 (fun W' => W'.cell? ⟨w.heap.size, 0, none⟩ = some (.bool v.p) ∧ W'.cell? ⟨w.heap.size, 1, none⟩ = some (.slice v.A v.n v.c) ∧ W'.cell? ⟨w.heap.size, 2, none⟩ = some (.slice v.D v.m v.d)) (first | (with_reducible exact ⟨qx0, qx1, qx2⟩) | (with_reducible refine ⟨cell_far (cell_far (qx0) ?_ _) ?_ _, cell_far (cell_far (qx1) ?_ _) ?_ _, cell_far (cell_far (qx2) ?_ _) ?_ _⟩ <;> omega) | go_keep)
      (first
        | (have hmk := T2; go_at_call 50; refine (P.out _ T2.t.b).mono ?_; rintro e w3 ⟨A3, k3, c3, rfl, o3, hb3⟩; have T3 := T2.next hb3; have hG := Lib.hid (Array.getElem?_eq_some_iff.1 T2.z).1; clear qx0 qx1 qx2 zz0 zz1 fz0 fz1; have qx0 := T3.t.x.c0; have qx1 := T3.t.x.c1; have qx2 := T3.t.x.c2; have zz0 := T3.z.c0; have zz1 := T3.z.c1; have fz0 := T3.z.f 0; have fz1 := T3.z.f 1; unfold zV zv)
        | (go_at_call 44; refine (N1.out _).mono ?_; rintro e w2 ⟨rfl, hb2⟩; have T2 := HT1.out.next hb2; clear qx0 qx1 qx2 zz0 zz1 fz0 fz1; have qx0 := T2.t.x.c0; have qx1 := T2.t.x.c1; have qx2 := T2.t.x.c2; have zz0 := T2.z.c0; have zz1 := T2.z.c1; have fz0 := T2.z.f 0; have fz1 := T2.z.f 1))
    go_wp2
    refine bodyPost_ret (v := .tuple #[zV z A3 k3 c3, .int .i64 0]) (by simp [results, Tryz.results48, go_sem, zz0, zz1, zV, zv]) rfl ?_
    exact ⟨A3, k3, c3, rfl, own_box hG.out (show w.heap.size ≤ w.heap.size + 1 by omega) o3 _ _, box_below (show w.heap.size ≤ w.heap.size + 1 by omega) T3.t.b _ _⟩
set_option maxRecDepth 100000 in
set_option maxHeartbeats 4000000 in
theorem qfloor_is : WholeQIs Rat.floor 13 := fun v a d w h => by
  have T0 := uno_z w v
  have P := Lib.hid (fun W (hW : Below w.heap.size w W) => roundedFloor_any (w := W) (h.below hW))
  generalize (if mayQ v.p a d then Rat.floor (qof v.p a d) else 0) = z at *
  generalize (if mayQ v.p a d then (0 : Int) else 8) = E at *
  clear h
  unfold QV.v ZAns at *
  have qx0 := T0.t.x.c0
  have qx1 := T0.t.x.c1
  have qx2 := T0.t.x.c2
  have zz0 := T0.z.c0
  have zz1 := T0.z.c1
  have fz0 := T0.z.f 0
  have fz1 := T0.z.f 1
  go_enter Tryz.func13, Tryz.ntmps13
  go_wp2_with fail
  refine (P.out _ T0.t.b).mono ?_
  rintro e w3 ⟨A3, k3, c3, rfl, o3, hb⟩
  have T3 := T0.next hb
  have hG := Lib.hid (Array.getElem?_eq_some_iff.1 T0.z).1
  clear hb
  clear qx0 qx1 qx2 zz0 zz1 fz0 fz1
  have qx0 := T3.t.x.c0
  have qx1 := T3.t.x.c1
  have qx2 := T3.t.x.c2
  have zz0 := T3.z.c0
  have zz1 := T3.z.c1
  have fz0 := T3.z.f 0
  have fz1 := T3.z.f 1
  unfold zV zv
  go_wp2
  refine bodyPost_ret (v := .tuple #[zV z A3 k3 c3, .int .i64 E]) (by simp [results, Tryz.results13, go_sem, zz0, zz1, zV, zv]) rfl ?_
  exact ⟨A3, k3, c3, rfl, own_box hG.out (show w.heap.size ≤ w.heap.size + 1 by omega) o3 _ _, box_below (show w.heap.size ≤ w.heap.size + 1 by omega) T3.t.b _ _⟩
set_option maxRecDepth 100000 in
set_option maxHeartbeats 4000000 in
theorem qceil_is : WholeQIs Rat.ceil 14 := fun v a d w h => by
  have T0 := uno_z w v
  have P := Lib.hid (fun W (hW : Below w.heap.size w W) => roundedCeil_any (w := W) (h.below hW))
  generalize (if mayQ v.p a d then Rat.ceil (qof v.p a d) else 0) = z at *
  generalize (if mayQ v.p a d then (0 : Int) else 8) = E at *
  clear h
  unfold QV.v ZAns at *
  have qx0 := T0.t.x.c0
  have qx1 := T0.t.x.c1
  have qx2 := T0.t.x.c2
  have zz0 := T0.z.c0
  have zz1 := T0.z.c1
  have fz0 := T0.z.f 0
  have fz1 := T0.z.f 1
  go_enter Tryz.func14, Tryz.ntmps14
  go_wp2_with fail
  refine (P.out _ T0.t.b).mono ?_
  rintro e w3 ⟨A3, k3, c3, rfl, o3, hb⟩
  have T3 := T0.next hb
  have hG := Lib.hid (Array.getElem?_eq_some_iff.1 T0.z).1
  clear hb
  clear qx0 qx1 qx2 zz0 zz1 fz0 fz1
  have qx0 := T3.t.x.c0
  have qx1 := T3.t.x.c1
  have qx2 := T3.t.x.c2
  have zz0 := T3.z.c0
  have zz1 := T3.z.c1
  have fz0 := T3.z.f 0
  have fz1 := T3.z.f 1
  unfold zV zv
  go_wp2
  refine bodyPost_ret (v := .tuple #[zV z A3 k3 c3, .int .i64 E]) (by simp [results, Tryz.results14, go_sem, zz0, zz1, zV, zv]) rfl ?_
  exact ⟨A3, k3, c3, rfl, own_box hG.out (show w.heap.size ≤ w.heap.size + 1 by omega) o3 _ _, box_below (show w.heap.size ≤ w.heap.size + 1 by omega) T3.t.b _ _⟩
set_option maxRecDepth 100000 in
set_option maxHeartbeats 4000000 in
theorem qcmp_is : CmpQIs 12 := fun v v2 a d a2 d2 w h h2 => by
  have H1 := Lib.hid (allQ_at2 h h2)
  cases hm : both2 v v2 a d a2 d2 with
  | false =>
    rw [hm] at H1
    simp only [Bool.false_eq_true, if_false] at H1 ⊢
    clear h h2 hm
    unfold QV.v QV.o at *
    go_enter Tryz.func12, Tryz.ntmps12
    go_wp2_with fail
    refine H1.out.mono ?_
    rintro e w1 ⟨rfl, T1⟩
    go_wp2
    go_ret2
    exact ⟨rfl, T1.b⟩
  | true =>
    rw [hm] at H1
    simp only [if_true] at H1 ⊢
    have hm1 : mayQ v.p a d = true ∧ mayQ v2.p a2 d2 = true := by simpa [both2] using hm
    have n1 := h.num hm1.1
    have n2 := h2.num hm1.2
    have k1 := h.la
    have k2 := h.ld
    have k3 := h2.la
    have k4 := h2.ld
    have L1 : Hid (Bd 120 ((qof v.p a d).num * ((qof v2.p a2 d2).den : Int))) := by show Bd _ _; have h1 : Bd 60 (qof v.p a d).num := Bd.of n1.a k1; exact h1.mul (den_bd (BdQ.of n2 k3 k4))
    have L2 : Hid (Bd 120 ((qof v2.p a2 d2).num * ((qof v.p a d).den : Int))) := by show Bd _ _; have h1 : Bd 60 (qof v2.p a2 d2).num := Bd.of n2.a k3; exact h1.mul (den_bd (BdQ.of n1 k1 k2))
    have P := Lib.hid (fun W (hW : Below w.heap.size w W) => crossed_any (w := W) (n1.below hW) (n2.below hW) k1 k2 k3 k4)
    rw [← sgn_rat]
    have C := Lib.hid (fun W {A A2 : Option Addr} {n c m k : Nat} {z y : Int} (h1 : ZNm W A n c z) (h2 : ZNm W A2 m k y) (l1 : n ≤ 400) (l2 : m ≤ 400) => cmpN (w := W) h1 h2 l1 l2)
    clear h h2 hm hm1 n1 n2 k1 k2 k3 k4
    generalize (qof v.p a d).num * ((qof v2.p a2 d2).den : Int) = s at *
    generalize (qof v2.p a2 d2).num * ((qof v.p a d).den : Int) = t at *
    unfold QV.v QV.o ZTwo IAns at *
    go_enter Tryz.func12, Tryz.ntmps12
    go_wp2_with fail
    refine H1.out.mono ?_
    rintro e w1 ⟨rfl, T1⟩
    have qx0 := T1.x.c0
    have qx1 := T1.x.c1
    have qx2 := T1.x.c2
    have qy0 := T1.y.c0
    have qy1 := T1.y.c1
    have qy2 := T1.y.c2
    go_wp2_with fail
    refine (P.out _ T1.b).mono ?_
    rintro e w2 ⟨A3, k3, c3, A5, k5, c5, rfl, o3, o5, hb⟩
    have j1 := Lib.hid (L1.out.len o3)
    have j2 := Lib.hid (L2.out.len o5)
    have T2 := T1.next hb
    clear hb
    unfold zV zv
    go_wp2_with fail
    refine (C.out _ o3.nm o5.nm (by have := j1.out; omega) (by have := j2.out; omega)).mono ?_
    rintro e w3 ⟨rfl, hb⟩
    have T3 := T2.next hb
    clear hb
    go_wp2
    go_ret2
    exact ⟨rfl, T3.b⟩
set_option maxRecDepth 100000 in
set_option maxHeartbeats 4000000 in
theorem qsame_is : SameQIs 34 := fun v v2 a d a2 d2 w h h2 => by
  have T0 := duo_q w v v2
  have H1 := Lib.hid (fun W (hW : Below w.heap.size w W) => sameZ_any (p := v.p) (q := v2.p) (w := W) (a := a) (b := a2) (A := v.A) (A2 := v2.A) (na := v.n) (nb := v2.n) (ca := v.c) (cb := v2.c) ⟨h.ra.below hW, h2.ra.below hW, h.z.la, h2.z.la, h.ca1, h.ca2, h2.ca1, h2.ca2⟩)
  have H2 := Lib.hid (fun W (hW : Below w.heap.size w W) => equal_any v.D v2.D v.m v.d v2.m v2.d d d2 W (h.rd.below hW) (h2.rd.below hW) (by have := h.ld; omega) (by have := h2.ld; omega))
  have HR : Hid (decide ((v.p = v2.p ∧ a = a2) ∧ d = d2) = (decide (v.p = v2.p ∧ a = a2) && decide (d = d2))) := by show _ = _; rw [Bool.decide_and]
  rw [HR.out]
  clear h h2 HR
  generalize decide (v.p = v2.p ∧ a = a2) = e1 at *
  generalize decide (d = d2) = e2 at *
  unfold QV.v zv at *
  have qx0 := T0.x.c0
  have qx1 := T0.x.c1
  have qx2 := T0.x.c2
  have qy0 := T0.y.c0
  have qy1 := T0.y.c1
  have qy2 := T0.y.c2
  go_enter Tryz.func34, Tryz.ntmps34
  go_wp2_with fail
  refine (H1.out _ T0.b).mono ?_
  rintro e w1 ⟨rfl, hb⟩
  have T1 := T0.next hb
  clear hb T0
  clear qx0 qx1 qx2 qy0 qy1 qy2
  cases e1 with
  | false =>
    go_wp2
    go_ret
    exact ⟨rfl, T1.b⟩
  | true =>
    have qx0 := T1.x.c0
    have qx1 := T1.x.c1
    have qx2 := T1.x.c2
    have qy0 := T1.y.c0
    have qy1 := T1.y.c1
    have qy2 := T1.y.c2
    go_wp2_with fail
    refine (H2.out _ T1.b).mono ?_
    rintro e w2 ⟨rfl, hb⟩
    have T2 := T1.next hb
    clear hb
    go_wp2
    go_ret
    exact ⟨by simp, T2.b⟩
end
end Go.Proofs.YtbldimplddiheaaGreatDoor
