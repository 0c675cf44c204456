import Derived.Test.YtbldimplddiheaaKGLow
import Derived.Test.YtbldimplddiheaaKRefGcd
/- GLower GCommon. -/
/- gcd's lower: some of Euclid's steps. -/
namespace Go.Proofs.Ytbldimplddiheaa
open Go.RowKit Go.Shelf
set_option linter.unusedVariables false
set_option linter.unusedSimpArgs false

/-- What stays while lower's answers are made. -/
structure LowK (A A2 : Option Addr) (na ca nb cb v u : Nat) (w : World) : Prop where
  a : Nm w A na ca v
  b : Nm w A2 nb cb u
theorem LowK.below {A A2 : Option Addr} {na ca nb cb v u : Nat} {w w' : World} (h : LowK A A2 na ca nb cb v u w) (hb : Below w.heap.size w w') : LowK A A2 na ca nb cb v u w' := ⟨h.a.below hb, h.b.below hb⟩
theorem LowK.drew {A A2 : Option Addr} {na ca nb cb v u : Nat} {w : World} (h : LowK A A2 na ca nb cb v u w) : LowK A A2 na ca nb cb v u w.drew := h.below (Below.refl _ w).drew
theorem LowK.drewN {A A2 : Option Addr} {na ca nb cb v u : Nat} {w : World} (h : LowK A A2 na ca nb cb v u w) (k : Nat) : LowK A A2 na ca nb cb v u (w.drewN k) := h.below (below_drewN (Below.refl _ w) k)

theorem top_eq {q K r u : Nat} (hK : 0 < K) (hr : r < K) (e : u = q * K + r) : q = u / K := by
  rw [e, Nat.mul_comm, Nat.mul_add_div hK, Nat.div_eq_of_lt hr, Nat.add_zero]
section
variable {A A2 : Option Addr} {na ca nb cb v u : Nat} {w : World}
/-- less of a and b, and what stays; or of b and a. -/
theorem lessG_keep (n m : Nat) (p1 p2 p3 p4 : Addr) (u1 u2 u3 u4 : Value) (hk : LowK A A2 na ca nb cb v u w) (hna : na ≤ 1000) (hnb : nb ≤ 1000) (hn : n < B64) (hm : m < B64) (hle : m * u ≤ n * v)
    (h1 : w.cell? p1 = some u1) (h2 : w.cell? p2 = some u2) (h3 : w.cell? p3 = some u3) (h4 : w.cell? p4 = some u4) :
    Calls Try.prog 55 #[.slice A na ca, wv n, .slice A2 nb cb, wv m] w fun e w' => ∃ A' k c, e = .returned (.slice A' k c) ∧ Own w' w.heap.size (.slice A' k c) (limbs (n * v - m * u)) ∧ Below w.heap.size w w' ∧ LowK A A2 na ca nb cb v u w' ∧ w'.cell? p1 = some u1 ∧ w'.cell? p2 = some u2 ∧ w'.cell? p3 = some u3 ∧ w'.cell? p4 = some u4 :=
  (lessG_nm A A2 na ca nb cb v u w n m hk.a hk.b hna hnb hn hm hle).mono fun e w' ⟨A', k, c, he, ho, hb⟩ => ⟨A', k, c, he, ho, hb, hk.below hb, (hb.cell (cell_lt h1)).trans h1, (hb.cell (cell_lt h2)).trans h2, (hb.cell (cell_lt h3)).trans h3, (hb.cell (cell_lt h4)).trans h4⟩
theorem lessG_keep' (n m : Nat) (p1 p2 p3 p4 : Addr) (u1 u2 u3 u4 : Value) (hk : LowK A A2 na ca nb cb v u w) (hna : na ≤ 1000) (hnb : nb ≤ 1000) (hn : n < B64) (hm : m < B64) (hle : m * v ≤ n * u)
    (h1 : w.cell? p1 = some u1) (h2 : w.cell? p2 = some u2) (h3 : w.cell? p3 = some u3) (h4 : w.cell? p4 = some u4) :
    Calls Try.prog 55 #[.slice A2 nb cb, wv n, .slice A na ca, wv m] w fun e w' => ∃ A' k c, e = .returned (.slice A' k c) ∧ Own w' w.heap.size (.slice A' k c) (limbs (n * u - m * v)) ∧ Below w.heap.size w w' ∧ LowK A A2 na ca nb cb v u w' ∧ w'.cell? p1 = some u1 ∧ w'.cell? p2 = some u2 ∧ w'.cell? p3 = some u3 ∧ w'.cell? p4 = some u4 :=
  (lessG_nm A2 A nb cb na ca u v w n m hk.b hk.a hnb hna hn hm hle).mono fun e w' ⟨A', k, c, he, ho, hb⟩ => ⟨A', k, c, he, ho, hb, hk.below hb, (hb.cell (cell_lt h1)).trans h1, (hb.cell (cell_lt h2)).trans h2, (hb.cell (cell_lt h3)).trans h3, (hb.cell (cell_lt h4)).trans h4⟩
end

section
variable (A A2 : Option Addr) (na ca nb cb v u : Nat) (w : World)
/-- What lower answers. -/
def LowA (v u na : Nat) (w : World) (e : Ending) (w' : World) : Prop := ∃ (A3 : Option Addr) (k3 c3 : Nat) (A4 : Option Addr) (k4 c4 : Nat) (p q : Nat), e = .returned (.tuple #[.slice A3 k3 c3, .slice A4 k4 c4]) ∧ Nm w' A3 k3 c3 p ∧ Nm w' A4 k4 c4 q ∧ q ≤ p ∧ Nat.gcd p q = Nat.gcd v u ∧ p + q < v + u ∧ k3 ≤ na ∧ k4 ≤ na ∧ Below w.heap.size w w'

set_option maxRecDepth 100000 in
set_option maxHeartbeats 4000000 in
/-- gcd.lower. -/
theorem lower_nm (hva : Nm w A na ca v) (hub : Nm w A2 nb cb u) (hna : na ≤ 1000) (hle : u ≤ v) (h2 : 2 ≤ nb) :
    Calls Try.prog 39 #[.slice A na ca, .slice A2 nb cb] w (LowA v u na w) := by
  have hnb : nb ≤ na := by
    have h1 := length_of_le (words_limbs v) (n := u) (by rw [val_limbs]; exact hle)
    rw [hva.rd.len, hub.rd.len] at h1
    exact h1
  obtain ⟨k, rfl⟩ : ∃ k, na = k + 2 := ⟨na - 2, by omega⟩
  have hu0 : u ≠ 0 := fun h => by have := hub.zero.2 h; omega
  have hl0 : lim (limbs v) (k + 1) ≠ 0 := by
    have hne : limbs v ≠ [] := fun h => by have := hva.rd.len; rw [h] at this; simp at this
    have := may_last hne
    rw [hva.rd.len, may_limbs] at this
    simpa using this.symm
  have hlle : lim (limbs u) (k + 1) ≤ lim (limbs v) (k + 1) := by
    rw [lim_val (words_limbs u), lim_val (words_limbs v), val_limbs, val_limbs]
    have hv := hva.lt
    have h1 : v / B64 ^ (k + 1) < B64 := (Nat.div_lt_iff_lt_mul (Nat.pow_pos B64_pos)).2 (by rw [Nat.mul_comm, ← Nat.pow_succ]; exact hv)
    have h3 : u / B64 ^ (k + 1) ≤ v / B64 ^ (k + 1) := Nat.div_le_div_right hle
    rw [Nat.mod_eq_of_lt h1, Nat.mod_eq_of_lt (by omega)]
    exact h3
  have HT := Lib.hid (tops_any A A2 k ca nb cb (limbs v) (limbs u) w hva.rd hub.rd (by omega) (by omega) hl0 hlle)
  have HNB := Lib.hid hnb
  have HLE := Lib.hid hle
  have HU := Lib.hid hu0
  have HD := Lib.hid (fun W (h1 : Nm W A (k + 2) ca v) (h2 : Nm W A2 nb cb u) => div_nm (F := 27) A A2 (k + 2) ca nb cb v u W div_is h1 h2 hu0 hna (by omega))
  have HNA := Lib.hid hna
  clear hnb hle hu0 hl0 hlle h2 hna
  go_enter Try.func39, Try.ntmps39
  go_wp2_with fail
  refine HT.out.mono ?_
  rintro e w1 ⟨⟨s, hs, hs1, hs2, rfl⟩, hb1⟩
  obtain ⟨r1, hr1, e1⟩ := top_div (words_limbs v) (k := k) (s := s) (by rw [hva.rd.len]; exact Nat.le_refl _) hs
  obtain ⟨r2, hr2, e2⟩ := top_div (words_limbs u) (k := k) (s := s) (by rw [hub.rd.len]; exact HNB.out) hs
  rw [val_limbs] at e1 e2
  have tA : topOf (limbs v) k s < B64 := by
    have hB := B64_split (r := s) (by omega)
    have hy : lim (limbs v) k / 2 ^ (64 - s) < 2 ^ s := by
      rw [Nat.div_lt_iff_lt_mul (Nat.two_pow_pos _), Nat.mul_comm, ← hB]
      exact (words_limbs v).get k
    have := Nat.mul_le_mul_right (2 ^ s) (show lim (limbs v) (k + 1) + 1 ≤ 2 ^ (64 - s) from hs1)
    rw [← hB, Nat.add_mul, Nat.one_mul] at this
    unfold topOf
    omega
  have tB : topOf (limbs u) k s ≤ topOf (limbs v) k s := by
    have hK : 0 < B64 ^ k * 2 ^ (64 - s) := Nat.mul_pos (Nat.pow_pos B64_pos) (Nat.two_pow_pos _)
    have h1 : topOf (limbs u) k s = u / (B64 ^ k * 2 ^ (64 - s)) := by
      exact top_eq hK hr2 e2
    have h2 : topOf (limbs v) k s = v / (B64 ^ k * 2 ^ (64 - s)) := by
      exact top_eq hK hr1 e1
    rw [h1, h2]
    exact Nat.div_le_div_right HLE.out
  obtain ⟨TA, hTA⟩ : ∃ TA, topOf (limbs v) k s = TA := ⟨_, rfl⟩
  obtain ⟨TB, hTB⟩ : ∃ TB, topOf (limbs u) k s = TB := ⟨_, rfl⟩
  obtain ⟨K, hK⟩ : ∃ K, B64 ^ k * 2 ^ (64 - s) = K := ⟨_, rfl⟩
  rw [hTA, hK] at e1
  rw [hTB, hK] at e2
  rw [hK] at hr1 hr2
  rw [hTA] at tA tB
  rw [hTB] at tB
  rw [hTA, hTB]
  have HS := Lib.hid (fun W => sure_any TA TB W tA tB)
  have E1 := Lib.hid e1
  have E2 := Lib.hid e2
  have R1 := Lib.hid hr1
  have R2 := Lib.hid hr2
  replace hva := hva.below hb1
  replace hub := hub.below hb1
  have HTA := Lib.hid tA
  have HTB := Lib.hid tB
  clear hTA hTB hK e1 e2 hr1 hr2 tA tB hs hs1 hs2 HT
  go_wp2_with fail
  refine (HS.out _).mono ?_
  rintro e w2 ⟨t1, x1, y1, t2, x2, y2, o, rfl, hL, hb2⟩
  replace hva := hva.below hb2
  replace hub := hub.below hb2
  replace hb2 := below_then hb1 hb2
  clear hb1
  unfold stp
  have hnb1 : nb ≤ 1000 := by have := HNB.out; have := HNA.out; omega
  by_cases hy0 : y1 = 0
  · subst hy0
    clear hL
    go_wp2_with fail
    refine (HD.out _ ((hva.below ((Below.refl _ w2).alloc (Nat.le_refl _) _))) ((hub.below ((Below.refl _ w2).alloc (Nat.le_refl _) _)))).mono ?_
    rintro e w3 ⟨A3, k3, c3, A4, k4, c4, rfl, o3, o4, hb3⟩
    replace hb3 := below_new hb3
    replace hub := hub.below hb3
    replace hb3 := below_then hb2 hb3
    clear hva hb2 o3
    have hlk : k4 ≤ nb := by
      have h1 := o4.rd.2.1
      have h3 := length_of_le (words_limbs u) (n := v % u) (by rw [val_limbs]; exact Nat.le_of_lt (Nat.mod_lt _ (Nat.pos_of_ne_zero HU.out)))
      rw [hub.rd.len] at h3
      omega
    go_wp2
    go_ret2
    refine ⟨_, _, _, _, _, _, u, v % u, rfl, hub, o4.nm, Nat.le_of_lt (Nat.mod_lt _ (Nat.pos_of_ne_zero HU.out)), ?_, ?_, HNB.out, by have := HNB.out; omega, hb3⟩
    · rw [Nat.gcd_comm u, ← Nat.gcd_rec, Nat.gcd_comm]
    · have h1 := Nat.mod_lt v (Nat.pos_of_ne_zero HU.out)
      have h2 := HLE.out
      omega
  · obtain ⟨r1, r2, hr21, ea, eb, y1p, y2p, hE⟩ := hL.real hy0 E1.out E2.out R1.out R2.out
    have hgcd := Lm.gcd ea eb hE
    have hless := Lm.less (x1 := 0) (x2 := 0) (b := 0) ea y1p y2p
    have hbd : x1 < B64 ∧ y1 < B64 ∧ x2 < B64 ∧ y2 < B64 := by
      have h1 := hL.sa
      have h3 := Nat.mul_le_mul_right t1 y2p
      have h4 := HTA.out
      rcases hL.so with ⟨a, _⟩ | ⟨a, b, c, d⟩
      · exact absurd a hy0
      · have := hL.xy
        omega
    have hyt : ((y1 : Int) == 0) = false := by simp; omega
    have HG := Lib.hid hgcd
    have HLS := Lib.hid hless
    have HR := Lib.hid hr21
    have HB1 := Lib.hid hbd
    have HB2 := Lib.hid hb2
    have HK := Lib.hid (LowK.mk hva hub |>.below ((Below.refl _ w2).alloc (Nat.le_refl _) (.cells #[u64 t1, u64 x1, u64 y1, u64 t2, u64 x2, u64 y2, .bool o] 85)))
    have ha1 : r1 ≤ v := by omega
    have ha2 : r2 ≤ v := by omega
    have HA1 := Lib.hid ha1
    have HA2 := Lib.hid ha2
    have zh := World.alloc_heap_new w2 (.cells #[u64 t1, u64 x1, u64 y1, u64 t2, u64 x2, u64 y2, .bool o] 85)
    have Z1 := Lib.hid (cells_cell zh (j := 1) rfl)
    have Z2 := Lib.hid (cells_cell zh (j := 2) rfl)
    have Z3 := Lib.hid (cells_cell zh (j := 4) rfl)
    have Z4 := Lib.hid (cells_cell zh (j := 5) rfl)
    clear zh
    have HV := Lib.hid hva
    clear hL hgcd hless hr21 hbd hb2 hva hub ea eb y1p y2p ha1 ha2
    cases o with
    | false =>
      simp only [Bool.false_eq_true, if_false] at hE
      have q1 : y1 * u ≤ x1 * v ∧ x2 * v ≤ y2 * u := by omega
      have v1 : x1 * v - y1 * u = r1 ∧ y2 * u - x2 * v = r2 := by omega
      have HE := Lib.hid q1
      have HV1 := Lib.hid v1
      clear hE q1 v1
      go_wp2
      go_region_held3 (fun w' => w'.cell? ⟨w2.heap.size, 1, none⟩ = some (u64 x1) ∧ w'.cell? ⟨w2.heap.size, 2, none⟩ = some (u64 y1) ∧ w'.cell? ⟨w2.heap.size, 4, none⟩ = some (u64 x2) ∧ w'.cell? ⟨w2.heap.size, 5, none⟩ = some (u64 y2)) (go_keep)
        (first
          | (go_at_call_of 55 (u64 x1); refine (lessG_keep (v := v) (u := u) x1 y1 ⟨w2.heap.size, 1, none⟩ ⟨w2.heap.size, 2, none⟩ ⟨w2.heap.size, 4, none⟩ ⟨w2.heap.size, 5, none⟩ (u64 x1) (u64 y1) (u64 x2) (u64 y2) ?_ HNA.out hnb1 ?_ ?_ ?_ ?_ ?_ ?_ ?_).mono ?_; (first | exact HK.out.drew | exact HK.out.drewN _ | assumption); (exact HB1.out.1); (exact HB1.out.2.1); (exact HE.out.1); (first | exact Z1.out | assumption); (first | exact Z2.out | assumption); (first | exact Z3.out | assumption); (first | exact Z4.out | assumption); rintro e w4 ⟨A4, k4, c4, rfl, o4, hb4, hk4, s1, s2, s3, s4⟩)
          | (go_at_call_of 55 (u64 y2); refine (lessG_keep' (v := v) (u := u) y2 x2 ⟨w2.heap.size, 1, none⟩ ⟨w2.heap.size, 2, none⟩ ⟨w2.heap.size, 4, none⟩ ⟨w2.heap.size, 5, none⟩ (u64 x1) (u64 y1) (u64 x2) (u64 y2) ?_ HNA.out hnb1 ?_ ?_ ?_ ?_ ?_ ?_ ?_).mono ?_; (first | exact HK.out.drew | exact HK.out.drewN _ | assumption); (exact HB1.out.2.2.2); (exact HB1.out.2.2.1); (exact HE.out.2); (first | exact Z1.out | assumption); (first | exact Z2.out | assumption); (first | exact Z3.out | assumption); (first | exact Z4.out | assumption); rintro e w5 ⟨A5, k5, c5, rfl, o5, hb5, hk5, s5, s6, s7, s8⟩))
      all_goals
        have b0 : Below w.heap.size w (w2.alloc (.cells #[u64 t1, u64 x1, u64 y1, u64 t2, u64 x2, u64 y2, .bool false] 85)).drew := (HB2.out.alloc HB2.out.size _).drew
        have b1 := below_then (below_then b0 hb4) hb5
        have ow4 := o4.below hb5
        rw [HV1.out.1] at ow4
        rw [HV1.out.2] at o5
        have k4l := length_of_le (words_limbs v) (n := r1) (by rw [val_limbs]; exact HA1.out)
        have k5l := length_of_le (words_limbs v) (n := r2) (by rw [val_limbs]; exact HA2.out)
        rw [HV.out.rd.len] at k4l k5l
        have k4e := ow4.rd.2.1
        have k5e := o5.rd.2.1
        have hup := Nat.pos_of_ne_zero HU.out
        clear hb4 hb5 o4 b0 hk4 hk5 s1 s2 s3 s4 s5 s6 s7 s8
        have K4 := Lib.hid k4l
        have K5 := Lib.hid k5l
        have L4 := Lib.hid k4e
        have L5 := Lib.hid k5e
        clear k4l k5l k4e k5e
        go_wp2
        go_ret2
        refine ⟨_, _, _, _, _, _, r1, r2, rfl, ow4.nm, o5.nm, HR.out, HG.out, ?_, ?_, ?_, b1⟩
        · have := HLS.out; omega
        · have := K4.out; have := L4.out; omega
        · have := K5.out; have := L5.out; omega

    | true =>
      simp only [if_true] at hE
      have q1 : x1 * v ≤ y1 * u ∧ y2 * u ≤ x2 * v := by omega
      have v1 : y1 * u - x1 * v = r1 ∧ x2 * v - y2 * u = r2 := by omega
      have HE := Lib.hid q1
      have HV1 := Lib.hid v1
      clear hE q1 v1
      go_wp2
      go_region_held3 (fun w' => w'.cell? ⟨w2.heap.size, 1, none⟩ = some (u64 x1) ∧ w'.cell? ⟨w2.heap.size, 2, none⟩ = some (u64 y1) ∧ w'.cell? ⟨w2.heap.size, 4, none⟩ = some (u64 x2) ∧ w'.cell? ⟨w2.heap.size, 5, none⟩ = some (u64 y2)) (go_keep)
        (first
          | (go_at_call_of 55 (u64 y1); refine (lessG_keep' (v := v) (u := u) y1 x1 ⟨w2.heap.size, 1, none⟩ ⟨w2.heap.size, 2, none⟩ ⟨w2.heap.size, 4, none⟩ ⟨w2.heap.size, 5, none⟩ (u64 x1) (u64 y1) (u64 x2) (u64 y2) ?_ HNA.out hnb1 ?_ ?_ ?_ ?_ ?_ ?_ ?_).mono ?_; (first | exact HK.out.drew | exact HK.out.drewN _ | assumption); (exact HB1.out.2.1); (exact HB1.out.1); (exact HE.out.1); (first | exact Z1.out | assumption); (first | exact Z2.out | assumption); (first | exact Z3.out | assumption); (first | exact Z4.out | assumption); rintro e w4 ⟨A4, k4, c4, rfl, o4, hb4, hk4, s1, s2, s3, s4⟩)
          | (go_at_call_of 55 (u64 x2); refine (lessG_keep (v := v) (u := u) x2 y2 ⟨w2.heap.size, 1, none⟩ ⟨w2.heap.size, 2, none⟩ ⟨w2.heap.size, 4, none⟩ ⟨w2.heap.size, 5, none⟩ (u64 x1) (u64 y1) (u64 x2) (u64 y2) ?_ HNA.out hnb1 ?_ ?_ ?_ ?_ ?_ ?_ ?_).mono ?_; (first | exact HK.out.drew | exact HK.out.drewN _ | assumption); (exact HB1.out.2.2.1); (exact HB1.out.2.2.2); (exact HE.out.2); (first | exact Z1.out | assumption); (first | exact Z2.out | assumption); (first | exact Z3.out | assumption); (first | exact Z4.out | assumption); rintro e w5 ⟨A5, k5, c5, rfl, o5, hb5, hk5, s5, s6, s7, s8⟩))
      all_goals
        have b0 : Below w.heap.size w (w2.alloc (.cells #[u64 t1, u64 x1, u64 y1, u64 t2, u64 x2, u64 y2, .bool true] 85)).drew := (HB2.out.alloc HB2.out.size _).drew
        have b1 := below_then (below_then b0 hb4) hb5
        have ow4 := o4.below hb5
        rw [HV1.out.1] at ow4
        rw [HV1.out.2] at o5
        have k4l := length_of_le (words_limbs v) (n := r1) (by rw [val_limbs]; exact HA1.out)
        have k5l := length_of_le (words_limbs v) (n := r2) (by rw [val_limbs]; exact HA2.out)
        rw [HV.out.rd.len] at k4l k5l
        have k4e := ow4.rd.2.1
        have k5e := o5.rd.2.1
        have hup := Nat.pos_of_ne_zero HU.out
        clear hb4 hb5 o4 b0 hk4 hk5 s1 s2 s3 s4 s5 s6 s7 s8
        have K4 := Lib.hid k4l
        have K5 := Lib.hid k5l
        have L4 := Lib.hid k4e
        have L5 := Lib.hid k5e
        clear k4l k5l k4e k5e
        go_wp2
        go_ret2
        refine ⟨_, _, _, _, _, _, r1, r2, rfl, ow4.nm, o5.nm, HR.out, HG.out, ?_, ?_, ?_, b1⟩
        · have := HLS.out; omega
        · have := K4.out; have := L4.out; omega
        · have := K5.out; have := L5.out; omega

end
end Go.Proofs.Ytbldimplddiheaa

/- gcd's common, Gcd and Lcm: greatest common divisors and least common multiples, as they landed. -/
namespace Go.Proofs.Ytbldimplddiheaa
open Go.RowKit Go.Shelf
set_option linter.unusedVariables false
set_option linter.unusedSimpArgs false

section
variable (A A2 : Option Addr) (na ca nb cb v u : Nat) (w : World)

/-- common, behind its first test. -/
def ComA (v u : Nat) (w : World) (e : Ending) (w' : World) : Prop := ∃ (A3 : Option Addr) (k3 c3 : Nat), e = .returned (.slice A3 k3 c3) ∧ Own w' w.heap.size (.slice A3 k3 c3) (limbs (Nat.gcd v u)) ∧ Below w.heap.size w w'

set_option maxRecDepth 100000 in
set_option maxHeartbeats 4000000 in
/-- gcd.common. -/
theorem common_nm (hva : Nm w A na ca v) (hub : Nm w A2 nb cb u) (hna : na ≤ 1000) (hnb : nb ≤ 1000) :
    Calls Try.prog 24 #[.slice A na ca, .slice A2 nb cb] w (ComA v u w) := by
  have HC := Lib.hid (cmp_nm A A2 na ca nb cb v u w hva hub hna hnb)
  by_cases hlt : v < u
  · rw [cmp3_lt hlt] at HC
    go_enter Try.func24, Try.ntmps24
    go_wp2_with fail
    refine HC.out.mono ?_
    rintro e w1 ⟨rfl, hb1⟩
    replace hva := hva.below hb1
    replace hub := hub.below hb1
    clear HC
    go_wp2
    go_loopw [0, 1] (fun a b wr => ∃ (p q : Nat) (A3 : Option Addr) (n3 c3 : Nat) (A4 : Option Addr) (n4 c4 : Nat), a = .slice A3 n3 c3 ∧ b = .slice A4 n4 c4 ∧ Nm wr A3 n3 c3 p ∧ Nm wr A4 n4 c4 q ∧ q ≤ p ∧ n3 ≤ 1000 ∧ n4 ≤ 1000 ∧ Nat.gcd p q = Nat.gcd v u ∧ Below w.heap.size w wr) (fun a b wr => numOf wr a + numOf wr b)
    case atStart => exact ⟨u, v, A2, nb, cb, A, na, ca, rfl, rfl, hub, hva, by omega, hnb, hna, Nat.gcd_comm _ _, hb1⟩
    case round =>
      clear hva hub hb1 hna hnb
      obtain ⟨p, q, A3, n3, c3, A4, n4, c4, rfl, rfl, hp, hq, hqp, l3, l4, hg, hB⟩ := hrel
      by_cases h1 : 1 < n4
      · have hd : decide ((1 : Int) < (n4 : Int)) = true := by simp; omega
        have HLW := Lib.hid (lower_nm A3 A4 n3 c3 n4 c4 p q wr hp hq l3 hqp (by omega))
        have hm0 : numOf wr (.slice A3 n3 c3) + numOf wr (.slice A4 n4 c4) = p + q := by rw [numOf_is hp, numOf_is hq]
        have HM := Lib.hid hm0
        have HG := Lib.hid hg
        clear hm0 hg hp hq hqp
        go_wp2_with fail
        refine HLW.out.mono ?_
        rintro e w2 ⟨A5, k5, c5, A6, k6, c6, p2, q2, rfl, hp2, hq2, hqp2, hg2, hls, hk5, hk6, hb2⟩
        replace hb2 := below_then hB hb2
        have HLS := Lib.hid hls
        have HK := Lib.hid (And.intro hk5 hk6)
        have HG2 := Lib.hid hg2
        have L3 := Lib.hid l3
        clear hls hk5 hk6 hB hg2 l3 l4 h1 hd
        go_wp2_with fail
        go_roundw
        case rel => exact ⟨p2, q2, A5, k5, c5, A6, k6, c6, rfl, rfl, hp2, hq2, hqp2, by have := HK.out; have := L3.out; omega, by have := HK.out; have := L3.out; omega, HG2.out.trans HG.out, hb2⟩
        case measure =>
          rw [HM.out, numOf_is hp2, numOf_is hq2]
          exact HLS.out
      · by_cases h0 : n4 = 0
        · subst h0
          have hq0 : q = 0 := hq.zero.1 rfl
          subst hq0
          rw [Nat.gcd_zero_right] at hg
          subst hg
          have HCL := Lib.hid (clone_any A3 n3 c3 _ wr hp.rd l3)
          clear hp hq hqp h1
          go_wp2_with fail
          refine HCL.out.mono ?_
          rintro e w2 ⟨A5, k5, c5, rfl, o5, hb2⟩
          replace o5 := own_mono o5 hB.size
          replace hb2 := below_then hB hb2
          clear HCL hB
          go_wp2
          go_ret
          exact ⟨_, _, _, rfl, o5, hb2⟩
        · obtain rfl : n4 = 1 := by omega
          obtain ⟨x, hx⟩ := one_limb hq.rd.len
          have hqx : q = x := by rw [← val_limbs q, hx]; simp [val]
          subst hqx
          have hqw : q < B64 := by have := (words_limbs q); rw [hx] at this; exact this.head
          have hq0 : q ≠ 0 := fun h => by have := hq.zero.2 h; omega
          obtain ⟨b4, o4, rfl, hl4, hc4⟩ := hq.rd.cells (by omega)
          have hc := hc4 0 (by omega)
          rw [Nat.add_zero, hx, show lim [q] 0 = q from rfl] at hc
          have hw := word_is A3 n3 c3 (limbs p) q wr hp.rd hqw l3 ⟨hp.nc, hp.cm⟩
          have hE : divE (limbs p) (limbs q) = 0 := divE_ok (may_limbs p) (may_limbs q) (fun h => hq0 (limbs_eq_nil.1 h))
          rw [quoL_ok hE, remL_ok hE, hE, val_limbs, val_limbs, val_limbs] at hw
          have HW := Lib.hid hw
          have hmw : p % q < B64 := Nat.lt_trans (Nat.mod_lt _ (Nat.pos_of_ne_zero hq0)) hqw
          have hgg : Nat.gcd q (p % q) = Nat.gcd v u := by rw [← hg, Nat.gcd_comm p q, Nat.gcd_comm q (p % q), ← Nat.gcd_rec]
          have hgw : Nat.gcd q (p % q) < B64 := Nat.lt_of_le_of_lt (Nat.gcd_le_left _ (Nat.pos_of_ne_zero hq0)) hqw
          obtain ⟨r, hr⟩ : ∃ r, p % q = r := ⟨_, rfl⟩
          rw [hr] at hmw hgg hgw HW
          have HCW := Lib.hid (fun W => wordG_any q r hqw hmw W)
          rw [hgg] at HCW hgw
          have HOF := Lib.hid (fun W => of_any (Nat.gcd v u) W hgw)
          clear hw hE hmw hgg hgw hr hqw hq0 hc4 hx hp hq hqp hg h0 h1
          go_wp2_with fail
          refine HW.out.mono ?_
          rintro e w2 ⟨A5, k5, c5, rfl, o5, hb2⟩
          have hcw : w2.cell? ⟨b4, o4, none⟩ = some (u64 q) := (hb2.cell (cell_lt hc)).trans hc
          replace hb2 := below_then hB hb2
          clear HW hB o5 hc
          go_wp2_with fail
          refine (HCW.out _).mono ?_
          rintro e w3 ⟨rfl, hb3⟩
          replace hb3 := below_then hb2 hb3
          clear hb2 hcw
          go_wp2_with fail
          refine (HOF.out _).mono ?_
          rintro e w4 ⟨A6, k6, c6, rfl, o6, hb4⟩
          replace o6 := own_mono o6 hb3.size
          replace hb4 := below_then hb3 hb4
          clear hb3
          go_wp2
          go_ret
          exact ⟨_, _, _, rfl, o6, hb4⟩
  · obtain ⟨c, hc, hc0⟩ : ∃ c : Int, cmp3 v u = c ∧ ¬ c < 0 := ⟨_, rfl, by unfold cmp3; split <;> (try split) <;> omega⟩
    rw [hc] at HC
    clear hc
    have hcd : decide (c < 0) = false := by simp; omega
    go_enter Try.func24, Try.ntmps24
    go_wp2_with fail
    refine HC.out.mono ?_
    rintro e w1 ⟨rfl, hb1⟩
    replace hva := hva.below hb1
    replace hub := hub.below hb1
    clear HC
    go_wp2
    go_loopw [0, 1] (fun a b wr => ∃ (p q : Nat) (A3 : Option Addr) (n3 c3 : Nat) (A4 : Option Addr) (n4 c4 : Nat), a = .slice A3 n3 c3 ∧ b = .slice A4 n4 c4 ∧ Nm wr A3 n3 c3 p ∧ Nm wr A4 n4 c4 q ∧ q ≤ p ∧ n3 ≤ 1000 ∧ n4 ≤ 1000 ∧ Nat.gcd p q = Nat.gcd v u ∧ Below w.heap.size w wr) (fun a b wr => numOf wr a + numOf wr b)
    case atStart => exact ⟨v, u, A, na, ca, A2, nb, cb, rfl, rfl, hva, hub, by omega, hna, hnb, rfl, hb1⟩
    case round =>
      clear hva hub hb1 hna hnb
      obtain ⟨p, q, A3, n3, c3, A4, n4, c4, rfl, rfl, hp, hq, hqp, l3, l4, hg, hB⟩ := hrel
      by_cases h1 : 1 < n4
      · have hd : decide ((1 : Int) < (n4 : Int)) = true := by simp; omega
        have HLW := Lib.hid (lower_nm A3 A4 n3 c3 n4 c4 p q wr hp hq l3 hqp (by omega))
        have hm0 : numOf wr (.slice A3 n3 c3) + numOf wr (.slice A4 n4 c4) = p + q := by rw [numOf_is hp, numOf_is hq]
        have HM := Lib.hid hm0
        have HG := Lib.hid hg
        clear hm0 hg hp hq hqp
        go_wp2_with fail
        refine HLW.out.mono ?_
        rintro e w2 ⟨A5, k5, c5, A6, k6, c6, p2, q2, rfl, hp2, hq2, hqp2, hg2, hls, hk5, hk6, hb2⟩
        replace hb2 := below_then hB hb2
        have HLS := Lib.hid hls
        have HK := Lib.hid (And.intro hk5 hk6)
        have HG2 := Lib.hid hg2
        have L3 := Lib.hid l3
        clear hls hk5 hk6 hB hg2 l3 l4 h1 hd
        go_wp2_with fail
        go_roundw
        case rel => exact ⟨p2, q2, A5, k5, c5, A6, k6, c6, rfl, rfl, hp2, hq2, hqp2, by have := HK.out; have := L3.out; omega, by have := HK.out; have := L3.out; omega, HG2.out.trans HG.out, hb2⟩
        case measure =>
          rw [HM.out, numOf_is hp2, numOf_is hq2]
          exact HLS.out
      · by_cases h0 : n4 = 0
        · subst h0
          have hq0 : q = 0 := hq.zero.1 rfl
          subst hq0
          rw [Nat.gcd_zero_right] at hg
          subst hg
          have HCL := Lib.hid (clone_any A3 n3 c3 _ wr hp.rd l3)
          clear hp hq hqp h1
          go_wp2_with fail
          refine HCL.out.mono ?_
          rintro e w2 ⟨A5, k5, c5, rfl, o5, hb2⟩
          replace o5 := own_mono o5 hB.size
          replace hb2 := below_then hB hb2
          clear HCL hB
          go_wp2
          go_ret
          exact ⟨_, _, _, rfl, o5, hb2⟩
        · obtain rfl : n4 = 1 := by omega
          obtain ⟨x, hx⟩ := one_limb hq.rd.len
          have hqx : q = x := by rw [← val_limbs q, hx]; simp [val]
          subst hqx
          have hqw : q < B64 := by have := (words_limbs q); rw [hx] at this; exact this.head
          have hq0 : q ≠ 0 := fun h => by have := hq.zero.2 h; omega
          obtain ⟨b4, o4, rfl, hl4, hc4⟩ := hq.rd.cells (by omega)
          have hc := hc4 0 (by omega)
          rw [Nat.add_zero, hx, show lim [q] 0 = q from rfl] at hc
          have hw := word_is A3 n3 c3 (limbs p) q wr hp.rd hqw l3 ⟨hp.nc, hp.cm⟩
          have hE : divE (limbs p) (limbs q) = 0 := divE_ok (may_limbs p) (may_limbs q) (fun h => hq0 (limbs_eq_nil.1 h))
          rw [quoL_ok hE, remL_ok hE, hE, val_limbs, val_limbs, val_limbs] at hw
          have HW := Lib.hid hw
          have hmw : p % q < B64 := Nat.lt_trans (Nat.mod_lt _ (Nat.pos_of_ne_zero hq0)) hqw
          have hgg : Nat.gcd q (p % q) = Nat.gcd v u := by rw [← hg, Nat.gcd_comm p q, Nat.gcd_comm q (p % q), ← Nat.gcd_rec]
          have hgw : Nat.gcd q (p % q) < B64 := Nat.lt_of_le_of_lt (Nat.gcd_le_left _ (Nat.pos_of_ne_zero hq0)) hqw
          obtain ⟨r, hr⟩ : ∃ r, p % q = r := ⟨_, rfl⟩
          rw [hr] at hmw hgg hgw HW
          have HCW := Lib.hid (fun W => wordG_any q r hqw hmw W)
          rw [hgg] at HCW hgw
          have HOF := Lib.hid (fun W => of_any (Nat.gcd v u) W hgw)
          clear hw hE hmw hgg hgw hr hqw hq0 hc4 hx hp hq hqp hg h0 h1
          go_wp2_with fail
          refine HW.out.mono ?_
          rintro e w2 ⟨A5, k5, c5, rfl, o5, hb2⟩
          have hcw : w2.cell? ⟨b4, o4, none⟩ = some (u64 q) := (hb2.cell (cell_lt hc)).trans hc
          replace hb2 := below_then hB hb2
          clear HW hB o5 hc
          go_wp2_with fail
          refine (HCW.out _).mono ?_
          rintro e w3 ⟨rfl, hb3⟩
          replace hb3 := below_then hb2 hb3
          clear hb2 hcw
          go_wp2_with fail
          refine (HOF.out _).mono ?_
          rintro e w4 ⟨A6, k6, c6, rfl, o6, hb4⟩
          replace o6 := own_mono o6 hb3.size
          replace hb4 := below_then hb3 hb4
          clear hb3
          go_wp2
          go_ret
          exact ⟨_, _, _, rfl, o6, hb4⟩
end

theorem two_lens {a b : List Nat} {na nb : Nat} (h1 : a.length = na) (h2 : b.length = nb) (h3 : na ≤ 1000) (h4 : nb ≤ 1000) : ∀ l ∈ [a, b], l.length ≤ 4294967296 := by
  intro l h
  rcases List.mem_cons.1 h with rfl | h
  · omega
  · rcases List.mem_cons.1 h with rfl | h
    · omega
    · cases h

set_option maxRecDepth 100000 in
set_option maxHeartbeats 1000000 in
theorem gcd_is : GcdIs 16 := fun A A2 na ca nb cb a b w hra hrb hna hnb hca hcb => by
  have HR := Lib.hid (rows2_two (ca := ca) (cb := cb) hra hrb (by omega) (by omega) 23)
  have HL := Lib.hid (two_lens hra.len hrb.len (by omega) (by omega))
  cases hm : both a b with
  | false =>
    have e1 : gcdL a b = [] := by simp [gcdL, hm]
    have e2 : err2 a b = 8 := by simp [err2, hm]
    have HM := Lib.hid (show [a, b].all may = false by rw [both_all]; exact hm)
    rw [e1, e2]
    clear hra hrb e1 e2 hm
    go_enter Try.func16, Try.ntmps16
    go_wp2_with fail
    refine (mayBeG_any w.heap.size 0 2 2 [a, b] _ HR.out rfl (by omega) HL.out).mono ?_
    rw [bad_eight HM.out]
    rintro e w1 ⟨rfl, hb1⟩
    replace hb1 := below_new hb1
    clear HR HL
    go_wp2
    go_ret2
    exact answers_nil hb1
  | true =>
    have e1 : gcdL a b = limbs (Nat.gcd (val a) (val b)) := by simp [gcdL, hm]
    have e2 : err2 a b = 0 := by simp [err2, hm]
    have hmm : may a = true ∧ may b = true := by simpa [both] using hm
    have HM := Lib.hid (show [a, b].all may = true by rw [both_all]; exact hm)
    have hva := nm_of hra hmm.1 hca.1 hca.2
    have hub := nm_of hrb hmm.2 hcb.1 hcb.2
    rw [e1, e2]
    clear hra hrb e1 e2 hm hmm
    go_enter Try.func16, Try.ntmps16
    go_wp2_with fail
    refine (mayBeG_any w.heap.size 0 2 2 [a, b] _ HR.out rfl (by omega) HL.out).mono ?_
    rw [bad_zero HM.out]
    rintro e w1 ⟨rfl, hb1⟩
    replace hb1 := below_new hb1
    replace hva := hva.below hb1
    replace hub := hub.below hb1
    clear HR HL
    go_wp2_with fail
    refine (common_nm A A2 na ca nb cb (val a) (val b) w1 hva hub (by omega) (by omega)).mono ?_
    rintro e w2 ⟨A3, k3, c3, rfl, o3, hb2⟩
    replace o3 := own_mono o3 hb1.size
    replace hb2 := below_then hb1 hb2
    clear hb1
    go_wp2
    go_ret2
    exact ⟨_, _, _, rfl, o3, hb2⟩

end Go.Proofs.Ytbldimplddiheaa
