import Derived.Test.YtjipdfebehcggaaGreatDoorZNm
import Derived.Test.YtjipdfebehcggaaGreatDoorZSame
import Derived.Laws.NewBlocks
/- Parts Three ThreeQ Quick MulCalls. -/
/- mul's up, sum, rest: noughts below; sums and what is left of several numbers. -/
namespace Go.Proofs.YtjipdfebehcggaaGreatDoor
open Go.RowKit Go.Shelf
set_option linter.unusedVariables false

theorem lt_of_cell? {w : World} {p : Addr} {u : Value} (h : w.cell? p = some u) : p.block < w.heap.size := by
  unfold World.cell? at h
  cases ho : w.heap[p.block]? with
  | none => simp [ho] at h
  | some o => exact (Array.getElem?_eq_some_iff.1 ho).1
/-- A slice of numbers. -/
def RowsN (w : World) (b off : Nat) (vs : List Nat) : Prop := ∀ i v, vs[i]? = some v → ∃ A n c, w.cell? ⟨b, off + i, none⟩ = some (.slice A n c) ∧ Nm w A n c v
theorem rowsN_one {w : World} {A : Option Addr} {n c v : Nat} (h : Nm w A n c v) (T : TypeId) : RowsN (w.alloc (.cells #[.slice A n c] T)) w.heap.size 0 [v] := by
  intro i l hl
  match i, hl with
  | 0, hl =>
    cases hl
    exact ⟨A, n, c, by simp, h.below ((Below.refl _ w).alloc (Nat.le_refl _) _)⟩
  | i + 1, hl => simp at hl
theorem rowsN_two {w : World} {A A2 : Option Addr} {n c n2 c2 v v2 : Nat} (h : Nm w A n c v) (h2 : Nm w A2 n2 c2 v2) (T : TypeId) : RowsN (w.alloc (.cells #[.slice A n c, .slice A2 n2 c2] T)) w.heap.size 0 [v, v2] := by
  intro i l hl
  match i, hl with
  | 0, hl =>
    cases hl
    exact ⟨A, n, c, by simp, h.below ((Below.refl _ w).alloc (Nat.le_refl _) _)⟩
  | 1, hl =>
    cases hl
    exact ⟨A2, n2, c2, by simp, h2.below ((Below.refl _ w).alloc (Nat.le_refl _) _)⟩
  | i + 2, hl => simp at hl
theorem sum_take_le (vs : List Nat) (k : Nat) : (vs.take k).sum ≤ vs.sum := by
  have e : vs.sum = (vs.take k).sum + (vs.drop k).sum := by
    conv => lhs; rw [← List.take_append_drop k vs]
    rw [List.sum_append]
  omega

set_option maxRecDepth 100000 in
set_option maxHeartbeats 2000000 in
/-- (mul.number).up: noughts below. -/
theorem upN_any (A : Option Addr) (n c v p : Nat) (w : World) (h : Nm w A n c v) (hp : p ≤ 1073741824) (hn : n ≤ 1073741824) :
    Calls Tryz.prog 136 #[.slice A n c, .int .i64 (p : Int)] w fun e w' => ∃ A' k c, e = .returned (.slice A' k c) ∧ Own w' w.heap.size (.slice A' k c) (limbs (v * B64 ^ p)) ∧ Below w.heap.size w w' := by
  by_cases h0 : n = 0
  · have hv : v = 0 := h.zero.1 h0
    subst hv
    subst h0
    clear h
    go_enter Tryz.func136, Tryz.ntmps136
    go_wp2
    go_ret
    exact ⟨_, _, _, rfl, by rw [Nat.zero_mul, limbs_zero]; exact own_nil _ _, Below.refl _ _⟩
  · obtain ⟨i0, hi, hz0, hz1, hz2⟩ := info_parts u64_info
    have hn2 : ((n : Int) == 0) = false := by simp; omega
    have hmk := fun W => run_make (P := Tryz.prog) W 105 25 i0 (.int .u64 0) Tryz.underlying105 hi hz0 .i64 .i64 (p : Int) ((p : Int) + (n : Int)) (by omega) (by omega) (by rw [hz2]; omega) (by omega)
    rw [show ((p : Int) + (n : Int)) = ((p + n : Nat) : Int) by omega, hz1, Nat.mul_one] at hmk
    simp only [Int.toNat_natCast] at hmk
    rw [show (((p + n : Nat)) : Int) = (p : Int) + (n : Int) by omega] at hmk
    have hz := RowL.zeros w (p + n)
    have hB2 := (Below.refl w.heap.size w).alloc (Nat.le_refl _) (.cells (madeCells #[.int .u64 0] (p + n)) 25)
    have ho := (own_trim (hz.own (B := w.heap.size) (n := p + n) (Nat.le_refl _) (words_zeros _) (by simp) (by simp only [maxLen]; omega)) (k := p) (by omega)).1
    rw [List.length_take, List.length_replicate, Nat.min_eq_left (by omega), List.take_replicate, Nat.min_eq_left (by omega)] at ho
    have hne : limbs v ≠ [] := fun e => h0 (h.zero.2 (limbs_eq_nil.1 e))
    have hup := limbs_up (words_limbs v) (may_limbs v) hne p
    rw [val_limbs] at hup
    obtain ⟨b1, o1, rfl, hlt, hc⟩ := h.rd.cells (by omega)
    have hlen := h.rd.len
    have HU := Lib.hid hup
    have HN := Lib.hid hlen
    have hcells : ∀ j u, ((limbs v).map u64)[j]? = some u → (w.alloc (.cells (madeCells #[.int .u64 0] (p + n)) 25)).cell? ((⟨b1, o1, none⟩ : Addr).add j) = some u := by
      intro j u hu
      have hj : j < (limbs v).length := by have := (List.getElem?_eq_some_iff.1 hu).1; simpa using this
      rw [Addr.add_lit, hB2.cell (p := ⟨b1, o1 + j, none⟩) hlt, hc j (by omega)]
      rw [List.getElem?_map, List.getElem?_eq_getElem hj] at hu
      simp at hu
      rw [← hu, lim_get hj]
    have HC := Lib.hid hcells
    have HB2 := Lib.hid hB2
    have HO := Lib.hid ho
    clear hup hlen hcells hB2 hne hz ho hc h h0
    go_enter Tryz.func136, Tryz.ntmps136
    go_wp2_with (at_builtin; go_loud (refine wpList_append_fits _ rfl _ _ 105 rfl w.heap.size 25 i0 1 Tryz.underlying105 hi hz1 _ _ _ _ rfl HO.out ⟨b1, o1, none⟩ n c ((limbs v).map u64) rfl (by simp [HN.out]) HC.out (by simp [Value.oneCell']) (by omega) ?_); intro w3 hown3 hgrow3; have HO3 := Lib.hid hown3; clear hown3)
    go_ret
    have HB3 := HB2.out.grown hgrow3 (by simp) (fun k e => by cases e; omega)
    refine ⟨_, _, _, rfl, ?_, HB3⟩
    rw [← HU.out]
    have e : (List.replicate p 0 ++ limbs v).length = p + n := by simp [HN.out]
    refine ⟨?_, words_append (words_zeros p) (words_limbs v)⟩
    rw [e, List.map_append]
    exact HO3.out

set_option maxRecDepth 100000 in
set_option maxHeartbeats 2000000 in
/-- mul.sum, of one number and one or more others. -/
theorem sumN_any (A : Option Addr) (na ca v : Nat) (b0 off m c : Nat) (vs : List Nat) (M : Nat) (w : World) (hra : Nm w A na ca v) (hrows : RowsN w b0 off vs) (hm : vs.length = m) (hm1 : 1 ≤ m ∧ m ≤ 1000) (hM : M ≤ 1073741824)
    (hb : v + vs.sum < B64 ^ M) :
    Calls Tryz.prog 135 #[.slice A na ca, .slice (some ⟨b0, off, none⟩) m c] w fun e w' => ∃ A' k c, e = .returned (.slice A' k c) ∧ Own w' w.heap.size (.slice A' k c) (limbs (v + vs.sum)) ∧ Below w.heap.size w w' := by
  go_enter Tryz.func135, Tryz.ntmps135
  go_wp2
  go_loopw [5, 11] (fun s i wr => ∃ k A1 n1 c1, k ≤ m ∧ i = .int .i64 (k : Int) ∧ s = .slice A1 n1 c1 ∧ Nm wr A1 n1 c1 (v + (vs.take k).sum) ∧ (0 < k → Own wr w.heap.size (.slice A1 n1 c1) (limbs (v + (vs.take k).sum))) ∧ Below w.heap.size w wr) (fun _ i _ => m - (intOf i).toNat)
  case atStart => exact ⟨0, A, na, ca, by omega, rfl, rfl, by simpa using hra, fun h => absurd h (by omega), Below.refl _ _⟩
  case round =>
    obtain ⟨k, A1, n1, c1, hk, rfl, rfl, hr, ho, hB⟩ := hrel
    by_cases hlt : k < m
    · obtain ⟨A2, n2, c2, hcell, hr2⟩ := hrows k vs[k] (List.getElem?_eq_getElem (by omega))
      have hcw : wr.cell? ⟨b0, off + k, none⟩ = some (.slice A2 n2 c2) := (hB.cell (p := ⟨b0, off + k, none⟩) (lt_of_cell? hcell)).trans hcell
      have hr3 := hr2.below hB
      have e1 : (vs.take (k + 1)).sum = (vs.take k).sum + vs[k] := by
        rw [List.take_succ_eq_append_getElem (by omega), List.sum_append]; simp
      have e2 := sum_take_le vs (k + 1)
      have l1 : n1 ≤ M := hr.len (by omega)
      have l2 : n2 ≤ M := hr2.len (by omega)
      have hne : (v + (vs.take k).sum) + vs[k] = v + (vs.take (k + 1)).sum := by omega
      have hle : True := by first | trivial | omega
      have HE := Lib.hid hne
      have HR := Lib.hid hr
      have HR3 := Lib.hid hr3
      have HLE := Lib.hid hle
      clear e1 e2 hne hr hr2 hr3 hle hcell ho hb hrows 
      go_wp2_with (go_at_call 58; refine (add_ok A1 A2 n1 c1 n2 c2 _ _ _ HR.out.rd HR3.out.rd (by omega) (by omega) (by simp [may_limbs])).mono ?_; rw [val_limbs, val_limbs, HE.out]; rintro e w3 ⟨A3, k3, c3, rfl, o3, hb3⟩; have HO := Lib.hid o3; clear o3)
      go_roundw
      case rel => exact ⟨k + 1, A3, k3, c3, by omega, by go_num, rfl, HO.out.nm, fun _ => own_mono HO.out hB.size, below_then hB hb3⟩
      case measure => simp [intOf]; omega
    · have hkm : k = m := by omega
      subst hkm
      have ho2 := ho (by omega)
      rw [List.take_of_length_le (by omega)] at ho2
      have HO := Lib.hid ho2
      clear ho2 ho hr hrows hb hm
      go_wp2
      go_ret
      exact ⟨A1, n1, c1, rfl, HO.out, hB⟩

set_option maxRecDepth 100000 in
set_option maxHeartbeats 2000000 in
/-- mul.rest, of one number and one or more others. -/
theorem restN_any (A : Option Addr) (na ca v : Nat) (b0 off m c : Nat) (vs : List Nat) (M : Nat) (w : World) (hra : Nm w A na ca v) (hrows : RowsN w b0 off vs) (hm : vs.length = m) (hm1 : 1 ≤ m ∧ m ≤ 1000) (hM : M ≤ 1073741824)
    (hb : v  < B64 ^ M) (hle2 : vs.sum ≤ v) :
    Calls Tryz.prog 134 #[.slice A na ca, .slice (some ⟨b0, off, none⟩) m c] w fun e w' => ∃ A' k c, e = .returned (.slice A' k c) ∧ Own w' w.heap.size (.slice A' k c) (limbs (v - vs.sum)) ∧ Below w.heap.size w w' := by
  go_enter Tryz.func134, Tryz.ntmps134
  go_wp2
  go_loopw [5, 11] (fun s i wr => ∃ k A1 n1 c1, k ≤ m ∧ i = .int .i64 (k : Int) ∧ s = .slice A1 n1 c1 ∧ Nm wr A1 n1 c1 (v - (vs.take k).sum) ∧ (0 < k → Own wr w.heap.size (.slice A1 n1 c1) (limbs (v - (vs.take k).sum))) ∧ Below w.heap.size w wr) (fun _ i _ => m - (intOf i).toNat)
  case atStart => exact ⟨0, A, na, ca, by omega, rfl, rfl, by simpa using hra, fun h => absurd h (by omega), Below.refl _ _⟩
  case round =>
    obtain ⟨k, A1, n1, c1, hk, rfl, rfl, hr, ho, hB⟩ := hrel
    by_cases hlt : k < m
    · obtain ⟨A2, n2, c2, hcell, hr2⟩ := hrows k vs[k] (List.getElem?_eq_getElem (by omega))
      have hcw : wr.cell? ⟨b0, off + k, none⟩ = some (.slice A2 n2 c2) := (hB.cell (p := ⟨b0, off + k, none⟩) (lt_of_cell? hcell)).trans hcell
      have hr3 := hr2.below hB
      have e1 : (vs.take (k + 1)).sum = (vs.take k).sum + vs[k] := by
        rw [List.take_succ_eq_append_getElem (by omega), List.sum_append]; simp
      have e2 := sum_take_le vs (k + 1)
      have l1 : n1 ≤ M := hr.len (by omega)
      have l2 : n2 ≤ M := hr2.len (by omega)
      have hne : (v - (vs.take k).sum) - vs[k] = v - (vs.take (k + 1)).sum := by omega
      have hle : vs[k] ≤ v - (vs.take k).sum := by first | trivial | omega
      have HE := Lib.hid hne
      have HR := Lib.hid hr
      have HR3 := Lib.hid hr3
      have HLE := Lib.hid hle
      clear e1 e2 hne hr hr2 hr3 hle hcell ho hb hrows hle2
      go_wp2_with (go_at_call 107; refine (sub_ok A1 A2 n1 c1 n2 c2 _ _ _ HR.out.rd HR3.out.rd (by omega) (by omega) (by simp [may_limbs]) (by rw [val_limbs, val_limbs]; exact HLE.out)).mono ?_; rw [val_limbs, val_limbs, HE.out]; rintro e w3 ⟨A3, k3, c3, rfl, o3, hb3⟩; have HO := Lib.hid o3; clear o3)
      go_roundw
      case rel => exact ⟨k + 1, A3, k3, c3, by omega, by go_num, rfl, HO.out.nm, fun _ => own_mono HO.out hB.size, below_then hB hb3⟩
      case measure => simp [intOf]; omega
    · have hkm : k = m := by omega
      subst hkm
      have ho2 := ho (by omega)
      rw [List.take_of_length_le (by omega)] at ho2
      have HO := Lib.hid ho2
      clear ho2 ho hr hrows hb hm
      go_wp2
      go_ret
      exact ⟨A1, n1, c1, rfl, HO.out, hB⟩
end Go.Proofs.YtjipdfebehcggaaGreatDoor

/- (mul.number).inThree: a product by three products of parts. -/
namespace Go.Proofs.YtjipdfebehcggaaGreatDoor
open Go.RowKit Go.Shelf
set_option linter.unusedVariables false

/-- What makes products of two numbers that are together less than M. -/
def MulsAt (F : Nat) (N M : Nat) : Prop := ∀ (A : Option Addr) (n c v : Nat) (A2 : Option Addr) (n2 c2 u : Nat) (w : World), Nm w A n c v → Nm w A2 n2 c2 u → v < B64 ^ N → u < B64 ^ N → v + u < M →
  Calls Tryz.prog F #[.slice A n c, .slice A2 n2 c2] w fun e w' => ∃ A' k c', e = .returned (.slice A' k c') ∧ Own w' w.heap.size (.slice A' k c') (limbs (v * u)) ∧ Below w.heap.size w w'
theorem sum_one (v x : Nat) : v + [x].sum = v + x := by simp
theorem sum_two (x y : Nat) : [x, y].sum = x + y := by simp
theorem three_sizes (v u p N : Nat) (hv : v < B64 ^ N) (hu : u < B64 ^ N) :
    v % B64 ^ p * (u % B64 ^ p) < B64 ^ (2 * N) ∧ v / B64 ^ p * (u / B64 ^ p) < B64 ^ (2 * N) ∧ (v % B64 ^ p + v / B64 ^ p) * (u % B64 ^ p + u / B64 ^ p) < B64 ^ (2 * N) ∧
    (v % B64 ^ p + v / B64 ^ p) * (u % B64 ^ p + u / B64 ^ p) - (v % B64 ^ p * (u % B64 ^ p) + v / B64 ^ p * (u / B64 ^ p)) < B64 ^ (2 * N) ∧
    v % B64 ^ p * (u % B64 ^ p) + v / B64 ^ p * (u / B64 ^ p) ≤ (v % B64 ^ p + v / B64 ^ p) * (u % B64 ^ p + u / B64 ^ p) ∧
    (v % B64 ^ p * (u % B64 ^ p) + ((v % B64 ^ p + v / B64 ^ p) * (u % B64 ^ p + u / B64 ^ p) - (v % B64 ^ p * (u % B64 ^ p) + v / B64 ^ p * (u / B64 ^ p))) * B64 ^ p + v / B64 ^ p * (u / B64 ^ p) * B64 ^ (2 * p) = v * u ∧ v * u < B64 ^ (2 * N)) := by
  have hvu : v * u < B64 ^ (2 * N) := by
    rw [Nat.two_mul, Nat.pow_add]
    exact Nat.lt_of_le_of_lt (Nat.mul_le_mul_left _ (Nat.le_of_lt hu)) (Nat.mul_lt_mul_of_pos_right hv (Nat.pow_pos B64_pos))
  have hk := kara (v % B64 ^ p) (v / B64 ^ p) (u % B64 ^ p) (u / B64 ^ p) (B64 ^ p)
  have hl := kara_le (v % B64 ^ p) (v / B64 ^ p) (u % B64 ^ p) (u / B64 ^ p)
  have h1 := parts_le v p
  have h2 := parts_le u p
  rw [Nat.mod_add_div, Nat.mod_add_div] at hk
  have e : B64 ^ (2 * p) = B64 ^ p * B64 ^ p := by rw [Nat.two_mul, Nat.pow_add]
  rw [e]
  have h3 := Nat.mul_le_mul h1 h2
  have e2 : (v % B64 ^ p + v / B64 ^ p) * (u % B64 ^ p + u / B64 ^ p) - (v % B64 ^ p * (u % B64 ^ p) + v / B64 ^ p * (u / B64 ^ p)) = (v % B64 ^ p + v / B64 ^ p) * (u % B64 ^ p + u / B64 ^ p) - v % B64 ^ p * (u % B64 ^ p) - v / B64 ^ p * (u / B64 ^ p) := by omega
  refine ⟨by omega, by omega, by omega, by omega, by omega, ?_, hvu⟩
  rw [e2]
  exact hk

end Go.Proofs.YtjipdfebehcggaaGreatDoor

/- (mul.number).inThree, by quick. -/
namespace Go.Proofs.YtjipdfebehcggaaGreatDoor
open Go.RowKit Go.Shelf
set_option linter.unusedVariables false

set_option maxRecDepth 100000 in
set_option maxHeartbeats 3000000 in
/-- inThree, its three products made by quick. -/
theorem three_quick (A A2 : Option Addr) (na ca nb cb v u p N : Nat) (w : World) (hT : MulsAt 81 N (v + u)) (hva : Nm w A na ca v) (hub : Nm w A2 nb cb u) (hN : N ≤ 16777216) (hv : v < B64 ^ N) (hu : u < B64 ^ N)
    (hp : (na < nb ∧ (nb + 1) / 2 = p ∧ 2 ≤ nb) ∨ (nb ≤ na ∧ (na + 1) / 2 = p ∧ 2 ≤ na)) :
    Calls Tryz.prog 110 #[.slice A na ca, .slice A2 nb cb, .func (.func 81) #[] #[]] w fun e w' => ∃ A' k c, e = .returned (.slice A' k c) ∧ Own w' w.heap.size (.slice A' k c) (limbs (v * u)) ∧ Below w.heap.size w w' := by
  have hp1 : 0 < p ∧ p ≤ 16777217 := by
    have h1 := hva.len hv
    have h2 := hub.len hu
    omega
  have hlt : v % B64 ^ p + v / B64 ^ p + (u % B64 ^ p + u / B64 ^ p) < v + u := by
    have h1 := parts_le v p
    have h2 := parts_le u p
    rcases hp with ⟨h3, h4, h5⟩ | ⟨h3, h4, h5⟩
    · have := parts_lt (v := u) (p := p) (by omega) (by rw [hub.rd.len]; omega)
      omega
    · have := parts_lt (v := v) (p := p) (by omega) (by rw [hva.rd.len]; omega)
      omega
  have hk := three_sizes v u p N hv hu
  obtain ⟨v0, hv0⟩ : ∃ x, v % B64 ^ p = x := ⟨_, rfl⟩
  obtain ⟨v1, hv1⟩ : ∃ x, v / B64 ^ p = x := ⟨_, rfl⟩
  obtain ⟨u0, hu0⟩ : ∃ x, u % B64 ^ p = x := ⟨_, rfl⟩
  obtain ⟨u1, hu1⟩ : ∃ x, u / B64 ^ p = x := ⟨_, rfl⟩
  have hpv := parts_le v p
  have hpu := parts_le u p
  rw [hv0, hv1, hu0, hu1] at hlt
  rw [hv0, hv1] at hpv
  rw [hu0, hu1] at hpu
  rw [hv0, hv1, hu0, hu1] at hk
  obtain ⟨lo, hlo⟩ : ∃ x, v0 * u0 = x := ⟨_, rfl⟩
  obtain ⟨hi, hhi⟩ : ∃ x, v1 * u1 = x := ⟨_, rfl⟩
  obtain ⟨fu, hfu⟩ : ∃ x, (v0 + v1) * (u0 + u1) = x := ⟨_, rfl⟩
  rw [hlo, hhi, hfu] at hk
  obtain ⟨k1, k2, k3, k4, k5, k6⟩ := hk
  obtain ⟨mi, hmi⟩ : ∃ x, fu - (lo + hi) = x := ⟨_, rfl⟩
  rw [hmi] at k4 k6
  obtain ⟨mu, hmu⟩ : ∃ x, mi * B64 ^ p = x := ⟨_, rfl⟩
  obtain ⟨hu2, hhu2⟩ : ∃ x, hi * B64 ^ (2 * p) = x := ⟨_, rfl⟩
  rw [hmu, hhu2] at k6
  have HV0 := Lib.hid hv0
  have HV1 := Lib.hid hv1
  have HU0 := Lib.hid hu0
  have HU1 := Lib.hid hu1
  have HLO := Lib.hid hlo
  have HHI := Lib.hid hhi
  have HFU := Lib.hid hfu
  have HMI := Lib.hid hmi
  have HMU := Lib.hid hmu
  have HHU := Lib.hid hhu2
  have K1 := Lib.hid k1
  have K2 := Lib.hid k2
  have K3 := Lib.hid k3
  have K4 := Lib.hid k4
  have K5 := Lib.hid k5
  have K6 := Lib.hid k6
  have HP := Lib.hid hp
  clear hv0 hv1 hu0 hu1 hlo hhi hfu hmi hmu hhu2 k1 k2 k3 k4 k5 k6
  rcases hp with ⟨hmx, e1, _⟩ | ⟨hmx, e1, _⟩
  all_goals
    first
    | have e2 : Int.tdiv ((nb : Int) + 1) 2 = (p : Int) := by rw [Int.tdiv_eq_ediv_of_nonneg (by omega)]; omega
      have e3 : ((nb : Int) + 1) / 2 = (p : Int) := by omega
    | have e2 : Int.tdiv ((na : Int) + 1) 2 = (p : Int) := by rw [Int.tdiv_eq_ediv_of_nonneg (by omega)]; omega
      have e3 : ((na : Int) + 1) / 2 = (p : Int) := by omega
    clear e1
    have HT := Lib.hid hT
    have HLT := Lib.hid hlt
    have HPV := Lib.hid hpv
    have HPU := Lib.hid hpu
    have HV := Lib.hid hv
    have HU := Lib.hid hu
    clear hT hlt hpv hpu hv hu
    go_enter Tryz.func110, Tryz.ntmps110
    go_wp2_with fail
    clear e2 e3
    refine (at_any A na ca v p _ hva (by omega)).mono ?_
    rw [HV0.out, HV1.out]
    rintro e w1 ⟨x0, y0, A1, x1, y1, rfl, n0, n1, hb1⟩
    replace hub := hub.below hb1
    clear hva
    go_wp2_with fail
    refine (at_any A2 nb cb u p _ hub (by omega)).mono ?_
    rw [HU0.out, HU1.out]
    rintro e w2 ⟨x2, y2, A3, x3, y3, rfl, m0, m1, hb2⟩
    replace n0 := n0.below hb2
    replace n1 := n1.below hb2
    replace hb2 := below_then hb1 hb2
    clear hb1 hub
    go_wp2_with fail
    refine (HT.out _ _ _ _ _ _ _ _ _ n0 m0 (by have := HPV.out; have := HV.out; omega) (by have := HPU.out; have := HU.out; omega) (by have := HLT.out; omega)).mono ?_
    rw [HLO.out]
    rintro e w3 ⟨A4, x4, y4, rfl, o4, hb3⟩
    have l0 := o4.nm
    clear o4
    replace n0 := n0.below hb3
    replace n1 := n1.below hb3
    replace m0 := m0.below hb3
    replace m1 := m1.below hb3
    replace hb3 := below_then hb2 hb3
    clear hb2
    go_wp2_with fail
    refine (HT.out _ _ _ _ _ _ _ _ _ n1 m1 (by have := HPV.out; have := HV.out; omega) (by have := HPU.out; have := HU.out; omega) (by have := HLT.out; omega)).mono ?_
    rw [HHI.out]
    rintro e w4 ⟨A5, x5, y5, rfl, o5, hb4⟩
    have h0 := o5.nm
    clear o5
    replace n0 := n0.below hb4
    replace n1 := n1.below hb4
    replace m0 := m0.below hb4
    replace m1 := m1.below hb4
    replace l0 := l0.below hb4
    replace hb4 := below_then hb3 hb4
    clear hb3
    go_wp2_with fail
    refine (sumN_any A x0 y0 v0 w4.heap.size 0 1 1 [v1] N _ (n0.below ((Below.refl _ _).alloc (Nat.le_refl _) _)) (rowsN_one n1 _) rfl (by omega) (by omega) (by rw [sum_one]; have := HPV.out; have := HV.out; omega)).mono ?_
    rw [sum_one]
    rintro e w5 ⟨A6, x6, y6, rfl, o6, hb5⟩
    have s0 := o6.nm
    clear o6 n0 n1
    replace hb5 := below_new hb5
    replace m0 := m0.below hb5
    replace m1 := m1.below hb5
    replace l0 := l0.below hb5
    replace h0 := h0.below hb5
    replace hb5 := below_then hb4 hb5
    clear hb4
    go_wp2_with fail
    refine (sumN_any A2 x2 y2 u0 w5.heap.size 0 1 1 [u1] N _ (m0.below ((Below.refl _ _).alloc (Nat.le_refl _) _)) (rowsN_one m1 _) rfl (by omega) (by omega) (by rw [sum_one]; have := HPU.out; have := HU.out; omega)).mono ?_
    rw [sum_one]
    rintro e w6 ⟨A7, x7, y7, rfl, o7, hb6⟩
    have s1 := o7.nm
    clear o7 m0 m1
    replace hb6 := below_new hb6
    replace s0 := s0.below hb6
    replace l0 := l0.below hb6
    replace h0 := h0.below hb6
    replace hb6 := below_then hb5 hb6
    clear hb5
    go_wp2_with fail
    refine (HT.out _ _ _ _ _ _ _ _ _ s0 s1 (by have := HPV.out; have := HV.out; omega) (by have := HPU.out; have := HU.out; omega) (by have := HLT.out; omega)).mono ?_
    rw [HFU.out]
    rintro e w7 ⟨A8, x8, y8, rfl, o8, hb7⟩
    have f0 := o8.nm
    clear o8 s0 s1
    replace l0 := l0.below hb7
    replace h0 := h0.below hb7
    replace hb7 := below_then hb6 hb7
    clear hb6
    go_wp2_with fail
    refine (restN_any A8 x8 y8 fu w7.heap.size 0 2 2 [lo, hi] (2 * N) _ (f0.below ((Below.refl _ _).alloc (Nat.le_refl _) _)) (rowsN_two l0 h0 _) rfl (by omega) (by omega) K3.out (by rw [sum_two]; exact K5.out)).mono ?_
    rw [sum_two, HMI.out]
    rintro e w8 ⟨A9, x9, y9, rfl, o9, hb8⟩
    have m2 := o9.nm
    clear o9 f0
    replace hb8 := below_new hb8
    replace l0 := l0.below hb8
    replace h0 := h0.below hb8
    replace hb8 := below_then hb7 hb8
    clear hb7
    go_wp2_with fail
    have l9 := m2.len K4.out
    refine (upN_any A9 x9 y9 mi p _ m2 (by omega) (by omega)).mono ?_
    rw [HMU.out]
    rintro e w9 ⟨A10, x10, y10, rfl, o10, hb9⟩
    have m3 := o10.nm
    clear o10 m2 l9
    replace l0 := l0.below hb9
    replace h0 := h0.below hb9
    replace hb9 := below_then hb8 hb9
    clear hb8
    go_wp2_with fail
    have l5 := h0.len K2.out
    have e4 : ((2 * p : Nat) : Int) = 2 * (p : Int) := by omega
    refine (show Calls _ _ #[_, .int .i64 (2 * (p : Int))] _ _ from e4 ▸ (upN_any A5 x5 y5 hi (2 * p) _ h0 (by omega) (by omega))).mono ?_
    rw [HHU.out]
    rintro e w10 ⟨A11, x11, y11, rfl, o11, hb10⟩
    have h2 := o11.nm
    clear o11 h0 l5 e4
    replace l0 := l0.below hb10
    replace m3 := m3.below hb10
    replace hb10 := below_then hb9 hb10
    clear hb9
    go_wp2_with fail
    refine (sumN_any A4 x4 y4 lo w10.heap.size 0 2 2 [mu, hu2] (2 * N) _ (l0.below ((Below.refl _ _).alloc (Nat.le_refl _) _)) (rowsN_two m3 h2 _) rfl (by omega) (by omega) (by rw [sum_two, ← Nat.add_assoc, K6.out.1]; exact K6.out.2)).mono ?_
    rw [sum_two, ← Nat.add_assoc, K6.out.1]
    rintro e w11 ⟨A12, x12, y12, rfl, o12, hb11⟩
    replace o12 := own_mono o12 (by rw [World.size_alloc]; exact Nat.le_succ_of_le hb10.size)
    replace hb11 := below_new hb11
    replace hb11 := below_then hb10 hb11
    clear hb10 l0 m3 h2
    go_wp2_with fail
    go_ret
    exact ⟨_, _, _, rfl, o12, hb11⟩
end Go.Proofs.YtjipdfebehcggaaGreatDoor

/- (mul.number).split and quick: products, whichever way. -/
namespace Go.Proofs.YtjipdfebehcggaaGreatDoor
open Go.RowKit Go.Shelf
set_option linter.unusedVariables false

set_option maxRecDepth 100000 in
set_option maxHeartbeats 2000000 in
theorem quick_small (A A2 : Option Addr) (na ca nb cb v u N : Nat) (w : World) (hva : Nm w A na ca v) (hub : Nm w A2 nb cb u) (hN : N ≤ 16777216) (hv : v < B64 ^ N) (hu : u < B64 ^ N) (hs : (nb < na ∧ nb < 200) ∨ (na ≤ nb ∧ na < 200)) :
    Calls Tryz.prog 81 #[.slice A na ca, .slice A2 nb cb] w fun e w' => ∃ A' k c', e = .returned (.slice A' k c') ∧ Own w' w.heap.size (.slice A' k c') (limbs (v * u)) ∧ Below w.heap.size w w' := by
  have h1 := hva.len hv
  have h2 := hub.len hu
  clear hv hu
  rcases hs with ⟨hlt, hf⟩ | ⟨hlt, hf⟩
  all_goals
    go_enter Tryz.func81, Tryz.ntmps81
    go_wp2_with fail
    refine (school_any A A2 na ca nb cb (limbs v) (limbs u) _ hva.rd hub.rd (by omega) (by omega)).mono ?_
    rw [val_limbs, val_limbs]
    rintro e w1 ⟨A3, k, c, rfl, o, hb⟩
    go_wp2_with fail
    go_ret
    exact ⟨_, _, _, rfl, o, hb⟩
set_option maxRecDepth 100000 in
set_option maxHeartbeats 2000000 in
theorem quick_great (A A2 : Option Addr) (na ca nb cb v u N : Nat) (w : World) (hT : MulsAt 81 N (v + u)) (hva : Nm w A na ca v) (hub : Nm w A2 nb cb u) (hN : N ≤ 16777216) (hv : v < B64 ^ N) (hu : u < B64 ^ N)
    (hs : (nb < na ∧ ¬ nb < 200) ∨ (na ≤ nb ∧ ¬ na < 200)) :
    Calls Tryz.prog 81 #[.slice A na ca, .slice A2 nb cb] w fun e w' => ∃ A' k c', e = .returned (.slice A' k c') ∧ Own w' w.heap.size (.slice A' k c') (limbs (v * u)) ∧ Below w.heap.size w w' := by
  have hp : ∃ p, (na < nb ∧ (nb + 1) / 2 = p ∧ 2 ≤ nb) ∨ (nb ≤ na ∧ (na + 1) / 2 = p ∧ 2 ≤ na) := by
    rcases Nat.lt_or_ge na nb with h | h
    · exact ⟨_, .inl ⟨h, rfl, by omega⟩⟩
    · exact ⟨_, .inr ⟨h, rfl, by omega⟩⟩
  obtain ⟨p, hp⟩ := hp
  have HP := Lib.hid hp
  have HT := Lib.hid hT
  have HV := Lib.hid hv
  have HU := Lib.hid hu
  clear hp hT hv hu
  rcases hs with ⟨hlt, hf⟩ | ⟨hlt, hf⟩
  all_goals
    go_enter Tryz.func81, Tryz.ntmps81
    go_wp2_with fail
    refine (three_quick A A2 na ca nb cb v u p N _ HT.out hva hub hN HV.out HU.out HP.out).mono ?_
    rintro e w1 ⟨A3, k, c, rfl, o, hb⟩
    go_wp2_with fail
    go_ret
    exact ⟨_, _, _, rfl, o, hb⟩
/-- Products by quick. -/
theorem quick_muls (N : Nat) (hN : N ≤ 16777216) : ∀ M, MulsAt 81 N M := by
  intro M
  induction M with
  | zero => intro A n c v A2 n2 c2 u w _ _ _ _ h; omega
  | succ M ih =>
    intro A n c v A2 n2 c2 u w hva hub hv hu h
    have hT : MulsAt 81 N (v + u) := fun A n c v' A2 n2 c2 u' w h1 h2 h3 h4 h5 => ih A n c v' A2 n2 c2 u' w h1 h2 h3 h4 (by omega)
    by_cases hs : (n2 < n ∧ n2 < 200) ∨ (n ≤ n2 ∧ n < 200)
    · exact quick_small A A2 n c n2 c2 v u N w hva hub hN hv hu hs
    · exact quick_great A A2 n c n2 c2 v u N w hT hva hub hN hv hu (by omega)
theorem quick_any (A A2 : Option Addr) (na ca nb cb v u N : Nat) (w : World) (hva : Nm w A na ca v) (hub : Nm w A2 nb cb u) (hN : N ≤ 16777216) (hv : v < B64 ^ N) (hu : u < B64 ^ N) :
    Calls Tryz.prog 81 #[.slice A na ca, .slice A2 nb cb] w fun e w' => ∃ A' k c', e = .returned (.slice A' k c') ∧ Own w' w.heap.size (.slice A' k c') (limbs (v * u)) ∧ Below w.heap.size w w' :=
  quick_muls N hN (v + u + 1) A na ca v A2 nb cb u w hva hub hv hu (by omega)
end Go.Proofs.YtjipdfebehcggaaGreatDoor

/- mul's mayBe, product, and the three calls that make products. -/
namespace Go.Proofs.YtjipdfebehcggaaGreatDoor
open Go.RowKit Go.Shelf
set_option linter.unusedVariables false

set_option maxRecDepth 100000 in
set_option maxHeartbeats 1000000 in
/-- mul.mayBe: OK, if all of these numbers may be. -/
theorem mayBeM_any (b off m c : Nat) (ls : List (List Nat)) (w : World) (h : Rows2 w b off ls) (hm : ls.length = m) (hm1 : m ≤ 1000) (hl : ∀ l ∈ ls, l.length ≤ 4294967296) :
    Calls Tryz.prog 108 #[.slice (some ⟨b, off, none⟩) m c] w fun e w' => e = .returned (.int .i64 (bad ls)) ∧ Below w.heap.size w w' := by
  go_enter Tryz.func108, Tryz.ntmps108
  go_wp2
  go_loopw [8] (fun i wr => ∃ k : Nat, k ≤ m ∧ i = .int .i64 (k : Int) ∧ (ls.take k).all may = true ∧ Below w.heap.size w wr) (fun i _ => m - (intOf i).toNat)
  case atStart => exact ⟨0, by omega, rfl, by simp, Below.refl _ _⟩
  case round =>
    obtain ⟨k, hk, rfl, hs, hB⟩ := hrel
    by_cases hlt : k < m
    · obtain ⟨A, n, c', hcell, hr, hn⟩ := h k ls[k] (List.getElem?_eq_getElem (by omega))
      have hcw : wr.cell? ⟨b, off + k, none⟩ = some (.slice A n c') := (hB.cell (p := ⟨b, off + k, none⟩) (lt_of_cell? hcell)).trans hcell
      have hn2 : n ≤ 4294967296 := by rw [← hr.len]; exact hl _ (List.getElem_mem _)
      have hr2 := hr.below hB
      have hnext : (ls.take (k + 1)).all may = ((ls.take k).all may && may ls[k]) := by
        rw [List.take_succ_eq_append_getElem (by omega), List.all_append]; simp
      have hbad : may ls[k] = false → bad ls = 8 := by
        intro hf
        unfold bad
        rw [if_neg]
        intro ha
        have := List.all_eq_true.1 ha ls[k] (List.getElem_mem _)
        rw [hf] at this; cases this
      cases hmk : may ls[k] with
      | true =>
        have HS : Hid ((ls.take (k + 1)).all may = true) := by rw [hnext, hs, hmk]; exact rfl
        have HB0 : Hid (bad [ls[k]] = 0) := bad_zero (by simp [hmk])
        clear hnext hbad hr h hs hmk hl hcell
        go_wp2_with (go_at_call 47; refine (check_any A n c' ls[k] wr hr2 hn2).mono ?_; rw [HB0.out]; rintro e w3 ⟨rfl, hb3⟩)
        go_roundw
        case rel => exact ⟨k + 1, by omega, by go_num, HS.out, below_then hB hb3⟩
        case measure => simp [intOf]; omega
      | false =>
        have HB : Hid (bad ls = 8) := hbad hmk
        have HB0 : Hid (bad [ls[k]] = 8) := bad_eight (by simp [hmk])
        clear hnext hbad hr h hs hmk hl hcell
        go_wp2_with (go_at_call 47; refine (check_any A n c' ls[k] wr hr2 hn2).mono ?_; rw [HB0.out]; rintro e w3 ⟨rfl, hb3⟩)
        go_ret
        exact ⟨by rw [HB.out]; rfl, below_then hB hb3⟩
    · have hk2 : k = m := by omega
      have HB : Hid (bad ls = 0) := by
        show bad ls = 0
        unfold bad
        rw [List.take_of_length_le (by omega)] at hs
        rw [if_pos hs]
      clear h hs hm hl
      go_wp2
      go_ret
      exact ⟨by rw [HB.out]; rfl, hB⟩

set_option maxRecDepth 100000 in
set_option maxHeartbeats 1000000 in
/-- mul.product, where one of the numbers may not be: whatever the way. -/
theorem product_bad (A A2 : Option Addr) (na ca nb cb : Nat) (a b : List Nat) (F : Value) (w : World) (hra : Rd w A na a) (hrb : Rd w A2 nb b) (hna : na ≤ 16777216) (hnb : nb ≤ 16777216) (hm : [a, b].all may = false) :
    Calls Tryz.prog 80 #[.slice A na ca, .slice A2 nb cb, F] w fun e w' => e = .returned (.tuple #[.slice none 0 0, .int .i64 8]) ∧ Below w.heap.size w w' := by
  have hr := rows2_two (ca := ca) (cb := cb) hra hrb (by omega) (by omega) 27
  have hl : ∀ l ∈ [a, b], l.length ≤ 4294967296 := by
    intro l h
    have h1 := hra.len
    have h2 := hrb.len
    rcases List.mem_cons.1 h with rfl | h
    · omega
    · rcases List.mem_cons.1 h with rfl | h
      · omega
      · cases h
  have HL := Lib.hid hl
  have HR := Lib.hid hr
  have HM := Lib.hid hm
  clear hr hm hra hrb hl
  go_enter Tryz.func80, Tryz.ntmps80
  go_wp2_with (go_at_call 108; refine (mayBeM_any w.heap.size 0 2 2 [a, b] _ HR.out rfl (by omega) HL.out).mono ?_; rw [bad_eight HM.out]; rintro e w1 ⟨rfl, hb1⟩)
  go_ret2
  exact ⟨rfl, below_new hb1⟩

set_option maxRecDepth 100000 in
set_option maxHeartbeats 1000000 in
/-- mul.product by school. -/
theorem product_school (A A2 : Option Addr) (na ca nb cb v u N : Nat) (w : World) (hva : Nm w A na ca v) (hub : Nm w A2 nb cb u) (hN : N ≤ 16777216) (hv : v < B64 ^ N) (hu : u < B64 ^ N) :
    Calls Tryz.prog 80 #[.slice A na ca, .slice A2 nb cb, .func (.func 109) #[.slice A na ca] #[]] w fun e w' => ∃ A' k c, e = .returned (.tuple #[.slice A' k c, .int .i64 0]) ∧ Own w' w.heap.size (.slice A' k c) (limbs (v * u)) ∧ Below w.heap.size w w' := by
  have h1 := hva.len hv
  have h2 := hub.len hu
  have hr := rows2_two (ca := ca) (cb := cb) hva.rd hub.rd (by omega) (by omega) 27
  have hl : ∀ l ∈ [limbs v, limbs u], l.length ≤ 4294967296 := by
    intro l h
    have h1 := hva.rd.len
    have h2 := hub.rd.len
    rcases List.mem_cons.1 h with rfl | h
    · omega
    · rcases List.mem_cons.1 h with rfl | h
      · omega
      · cases h
  have HL := Lib.hid hl
  have HR := Lib.hid hr
  have HV := Lib.hid hv
  have HU := Lib.hid hu
  clear hr hl hv hu
  go_enter Tryz.func80, Tryz.ntmps80
  go_wp2_with fail
  refine (mayBeM_any w.heap.size 0 2 2 [limbs v, limbs u] _ HR.out rfl (by omega) HL.out).mono ?_
  rw [bad_zero (by simp [may_limbs])]
  rintro e w1 ⟨rfl, hb1⟩
  replace hb1 := below_new hb1
  replace hva := hva.below hb1
  replace hub := hub.below hb1
  clear HR HL
  go_wp2_with fail
  refine (school_any A A2 na ca nb cb (limbs v) (limbs u) _ hva.rd hub.rd (by omega) (by omega)).mono ?_
  rw [val_limbs, val_limbs]
  rintro e w2 ⟨A3, k, c, rfl, o, hb2⟩
  replace o := own_mono o hb1.size
  replace hb2 := below_then hb1 hb2
  clear hb1
  go_wp2_with fail
  go_ret2
  exact ⟨_, _, _, rfl, o, hb2⟩

set_option maxRecDepth 100000 in
set_option maxHeartbeats 1000000 in
/-- mul.product by quick. -/
theorem product_quick (A A2 : Option Addr) (na ca nb cb v u N : Nat) (w : World) (hva : Nm w A na ca v) (hub : Nm w A2 nb cb u) (hN : N ≤ 16777216) (hv : v < B64 ^ N) (hu : u < B64 ^ N) :
    Calls Tryz.prog 80 #[.slice A na ca, .slice A2 nb cb, .func (.func 81) #[.slice A na ca] #[]] w fun e w' => ∃ A' k c, e = .returned (.tuple #[.slice A' k c, .int .i64 0]) ∧ Own w' w.heap.size (.slice A' k c) (limbs (v * u)) ∧ Below w.heap.size w w' := by
  have h1 := hva.len hv
  have h2 := hub.len hu
  have hr := rows2_two (ca := ca) (cb := cb) hva.rd hub.rd (by omega) (by omega) 27
  have hl : ∀ l ∈ [limbs v, limbs u], l.length ≤ 4294967296 := by
    intro l h
    have h1 := hva.rd.len
    have h2 := hub.rd.len
    rcases List.mem_cons.1 h with rfl | h
    · omega
    · rcases List.mem_cons.1 h with rfl | h
      · omega
      · cases h
  have HL := Lib.hid hl
  have HR := Lib.hid hr
  have HV := Lib.hid hv
  have HU := Lib.hid hu
  clear hr hl hv hu
  go_enter Tryz.func80, Tryz.ntmps80
  go_wp2_with fail
  refine (mayBeM_any w.heap.size 0 2 2 [limbs v, limbs u] _ HR.out rfl (by omega) HL.out).mono ?_
  rw [bad_zero (by simp [may_limbs])]
  rintro e w1 ⟨rfl, hb1⟩
  replace hb1 := below_new hb1
  replace hva := hva.below hb1
  replace hub := hub.below hb1
  clear HR HL
  go_wp2_with fail
  refine (quick_any A A2 na ca nb cb v u N _ hva hub hN HV.out HU.out).mono ?_
  rintro e w2 ⟨A3, k, c, rfl, o, hb2⟩
  replace o := own_mono o hb1.size
  replace hb2 := below_then hb1 hb2
  clear hb1
  go_wp2_with fail
  go_ret2
  exact ⟨_, _, _, rfl, o, hb2⟩

set_option maxRecDepth 100000 in
set_option maxHeartbeats 1000000 in
/-- mul.Mul. -/
theorem Mul_ok (A A2 : Option Addr) (na ca nb cb v u N : Nat) (w : World) (hva : Nm w A na ca v) (hub : Nm w A2 nb cb u) (hN : N ≤ 16777216) (hv : v < B64 ^ N) (hu : u < B64 ^ N) :
    Calls Tryz.prog 61 #[.slice A na ca, .slice A2 nb cb] w fun e w' => ∃ A' k c, e = .returned (.tuple #[.slice A' k c, .int .i64 0]) ∧ Own w' w.heap.size (.slice A' k c) (limbs (v * u)) ∧ Below w.heap.size w w' := by
  have hmf : ∀ (fn : Fn) (first cap : Array Value) (w : World), (Instr.makeFunc fn first cap).run Tryz.prog w = .ok (.func fn first cap) w := fun _ _ _ _ => rfl
  go_enter Tryz.func61, Tryz.ntmps61
  go_wp2_with (go_at_call 80; refine (product_quick A A2 na ca nb cb v u N _ hva hub hN hv hu).mono ?_; rintro e w1 ⟨A3, k, c, rfl, o, hb⟩)
  go_ret2
  exact ⟨_, _, _, rfl, o, hb⟩
set_option maxRecDepth 100000 in
set_option maxHeartbeats 1000000 in
theorem Mul_bad (A A2 : Option Addr) (na ca nb cb : Nat) (a b : List Nat) (w : World) (hra : Rd w A na a) (hrb : Rd w A2 nb b) (hna : na ≤ 16777216) (hnb : nb ≤ 16777216) (hm : [a, b].all may = false) :
    Calls Tryz.prog 61 #[.slice A na ca, .slice A2 nb cb] w fun e w' => e = .returned (.tuple #[.slice none 0 0, .int .i64 8]) ∧ Below w.heap.size w w' := by
  have hmf : ∀ (fn : Fn) (first cap : Array Value) (w : World), (Instr.makeFunc fn first cap).run Tryz.prog w = .ok (.func fn first cap) w := fun _ _ _ _ => rfl
  go_enter Tryz.func61, Tryz.ntmps61
  go_wp2_with (go_at_call 80; refine (product_bad A A2 na ca nb cb a b _ _ hra hrb hna hnb hm).mono ?_; rintro e w1 ⟨rfl, hb⟩)
  go_ret2
  exact ⟨rfl, hb⟩

end Go.Proofs.YtjipdfebehcggaaGreatDoor
