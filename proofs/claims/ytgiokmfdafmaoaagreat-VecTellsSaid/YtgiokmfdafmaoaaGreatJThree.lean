import Derived.Test.YtgiokmfdafmaoaaGreatJNm
import Derived.Test.YtgiokmfdafmaoaaGreatJSame
import Derived.Laws.NewBlocks
/- Parts Three. -/
/- mul's up, sum, rest: noughts below; sums and what is left of several numbers. -/
namespace Go.Proofs.YtgiokmfdafmaoaaGreat
open Go.RowKit Go.Shelf
set_option linter.unusedVariables false

theorem lt_of_cell? {w : World} {p : Addr} {u : Value} (h : w.cell? p = some u) : p.block < w.heap.size := by
  unfold World.cell? at h
  cases ho : w.heap[p.block]? with
  | none => simp [ho] at h
  | some o => exact (Array.getElem?_eq_some_iff.1 ho).1
/-- A slice of numbers. -/
def RowsN (w : World) (b off : Nat) (vs : List Nat) : Prop := ∀ i v, vs[i]? = some v → ∃ A n c, w.cell? ⟨b, off + i, none⟩ = some (.slice A n c) ∧ Nm w A n c v
theorem rowsN_one {w : World} {A : Option Addr} {n c v : Nat} (h : Nm w A n c v) (T : TypeId) : RowsN (w.alloc (.cells #[.slice A n c] T)) w.heap.size 0 [v] := by
  intro i l hl
  match i, hl with
  | 0, hl =>
    cases hl
    exact ⟨A, n, c, by simp, h.below ((Below.refl _ w).alloc (Nat.le_refl _) _)⟩
  | i + 1, hl => simp at hl
theorem rowsN_two {w : World} {A A2 : Option Addr} {n c n2 c2 v v2 : Nat} (h : Nm w A n c v) (h2 : Nm w A2 n2 c2 v2) (T : TypeId) : RowsN (w.alloc (.cells #[.slice A n c, .slice A2 n2 c2] T)) w.heap.size 0 [v, v2] := by
  intro i l hl
  match i, hl with
  | 0, hl =>
    cases hl
    exact ⟨A, n, c, by simp, h.below ((Below.refl _ w).alloc (Nat.le_refl _) _)⟩
  | 1, hl =>
    cases hl
    exact ⟨A2, n2, c2, by simp, h2.below ((Below.refl _ w).alloc (Nat.le_refl _) _)⟩
  | i + 2, hl => simp at hl
theorem sum_take_le (vs : List Nat) (k : Nat) : (vs.take k).sum ≤ vs.sum := by
  have e : vs.sum = (vs.take k).sum + (vs.drop k).sum := by
    conv => lhs; rw [← List.take_append_drop k vs]
    rw [List.sum_append]
  omega

set_option maxRecDepth 100000 in
set_option maxHeartbeats 2000000 in
/-- (mul.number).up: noughts below. -/
theorem upN_any (A : Option Addr) (n c v p : Nat) (w : World) (h : Nm w A n c v) (hp : p ≤ 1073741824) (hn : n ≤ 1073741824) :
    Calls Tryz.prog 149 #[.slice A n c, .int .i64 (p : Int)] w fun e w' => ∃ A' k c, e = .returned (.slice A' k c) ∧ Own w' w.heap.size (.slice A' k c) (limbs (v * B64 ^ p)) ∧ Below w.heap.size w w' := by
  by_cases h0 : n = 0
  · have hv : v = 0 := h.zero.1 h0
    subst hv
    subst h0
    clear h
    go_enter Tryz.func149, Tryz.ntmps149
    go_wp2
    go_ret
    exact ⟨_, _, _, rfl, by rw [Nat.zero_mul, limbs_zero]; exact own_nil _ _, Below.refl _ _⟩
  · obtain ⟨i0, hi, hz0, hz1, hz2⟩ := info_parts u64_info
    have hn2 : ((n : Int) == 0) = false := by simp; omega
    have hmk := fun W => run_make (P := Tryz.prog) W 131 36 i0 (.int .u64 0) Tryz.underlying131 hi hz0 .i64 .i64 (p : Int) ((p : Int) + (n : Int)) (by omega) (by omega) (by rw [hz2]; omega) (by omega)
    rw [show ((p : Int) + (n : Int)) = ((p + n : Nat) : Int) by omega, hz1, Nat.mul_one] at hmk
    simp only [Int.toNat_natCast] at hmk
    rw [show (((p + n : Nat)) : Int) = (p : Int) + (n : Int) by omega] at hmk
    have hz := RowL.zeros w (p + n)
    have hB2 := (Below.refl w.heap.size w).alloc (Nat.le_refl _) (.cells (madeCells #[.int .u64 0] (p + n)) 36)
    have ho := (own_trim (hz.own (B := w.heap.size) (n := p + n) (Nat.le_refl _) (words_zeros _) (by simp) (by simp only [maxLen]; omega)) (k := p) (by omega)).1
    rw [List.length_take, List.length_replicate, Nat.min_eq_left (by omega), List.take_replicate, Nat.min_eq_left (by omega)] at ho
    have hne : limbs v ≠ [] := fun e => h0 (h.zero.2 (limbs_eq_nil.1 e))
    have hup := limbs_up (words_limbs v) (may_limbs v) hne p
    rw [val_limbs] at hup
    obtain ⟨b1, o1, rfl, hlt, hc⟩ := h.rd.cells (by omega)
    have hlen := h.rd.len
    have HU := Lib.hid hup
    have HN := Lib.hid hlen
    have hcells : ∀ j u, ((limbs v).map u64)[j]? = some u → (w.alloc (.cells (madeCells #[.int .u64 0] (p + n)) 36)).cell? ((⟨b1, o1, none⟩ : Addr).add j) = some u := by
      intro j u hu
      have hj : j < (limbs v).length := by have := (List.getElem?_eq_some_iff.1 hu).1; simpa using this
      rw [Addr.add_lit, hB2.cell (p := ⟨b1, o1 + j, none⟩) hlt, hc j (by omega)]
      rw [List.getElem?_map, List.getElem?_eq_getElem hj] at hu
      simp at hu
      rw [← hu, lim_get hj]
    have HC := Lib.hid hcells
    have HB2 := Lib.hid hB2
    have HO := Lib.hid ho
    clear hup hlen hcells hB2 hne hz ho hc h h0
    go_enter Tryz.func149, Tryz.ntmps149
    go_wp2_with (at_builtin; go_loud (refine wpList_append_fits _ rfl _ _ 131 rfl w.heap.size 36 i0 1 Tryz.underlying131 hi hz1 _ _ _ _ rfl HO.out ⟨b1, o1, none⟩ n c ((limbs v).map u64) rfl (by simp [HN.out]) HC.out (by simp [Value.oneCell']) (by omega) ?_); intro w3 hown3 hgrow3; have HO3 := Lib.hid hown3; clear hown3)
    go_ret
    have HB3 := HB2.out.grown hgrow3 (by simp) (fun k e => by cases e; omega)
    refine ⟨_, _, _, rfl, ?_, HB3⟩
    rw [← HU.out]
    have e : (List.replicate p 0 ++ limbs v).length = p + n := by simp [HN.out]
    refine ⟨?_, words_append (words_zeros p) (words_limbs v)⟩
    rw [e, List.map_append]
    exact HO3.out

set_option maxRecDepth 100000 in
set_option maxHeartbeats 2000000 in
/-- mul.sum, of one number and one or more others. -/
theorem sumN_any (A : Option Addr) (na ca v : Nat) (b0 off m c : Nat) (vs : List Nat) (M : Nat) (w : World) (hra : Nm w A na ca v) (hrows : RowsN w b0 off vs) (hm : vs.length = m) (hm1 : 1 ≤ m ∧ m ≤ 1000) (hM : M ≤ 1073741824)
    (hb : v + vs.sum < B64 ^ M) :
    Calls Tryz.prog 148 #[.slice A na ca, .slice (some ⟨b0, off, none⟩) m c] w fun e w' => ∃ A' k c, e = .returned (.slice A' k c) ∧ Own w' w.heap.size (.slice A' k c) (limbs (v + vs.sum)) ∧ Below w.heap.size w w' := by
  go_enter Tryz.func148, Tryz.ntmps148
  go_wp2
  go_loopw [5, 11] (fun s i wr => ∃ k A1 n1 c1, k ≤ m ∧ i = .int .i64 (k : Int) ∧ s = .slice A1 n1 c1 ∧ Nm wr A1 n1 c1 (v + (vs.take k).sum) ∧ (0 < k → Own wr w.heap.size (.slice A1 n1 c1) (limbs (v + (vs.take k).sum))) ∧ Below w.heap.size w wr) (fun _ i _ => m - (intOf i).toNat)
  case atStart => exact ⟨0, A, na, ca, by omega, rfl, rfl, by simpa using hra, fun h => absurd h (by omega), Below.refl _ _⟩
  case round =>
    obtain ⟨k, A1, n1, c1, hk, rfl, rfl, hr, ho, hB⟩ := hrel
    by_cases hlt : k < m
    · obtain ⟨A2, n2, c2, hcell, hr2⟩ := hrows k vs[k] (List.getElem?_eq_getElem (by omega))
      have hcw : wr.cell? ⟨b0, off + k, none⟩ = some (.slice A2 n2 c2) := (hB.cell (p := ⟨b0, off + k, none⟩) (lt_of_cell? hcell)).trans hcell
      have hr3 := hr2.below hB
      have e1 : (vs.take (k + 1)).sum = (vs.take k).sum + vs[k] := by
        rw [List.take_succ_eq_append_getElem (by omega), List.sum_append]; simp
      have e2 := sum_take_le vs (k + 1)
      have l1 : n1 ≤ M := hr.len (by omega)
      have l2 : n2 ≤ M := hr2.len (by omega)
      have hne : (v + (vs.take k).sum) + vs[k] = v + (vs.take (k + 1)).sum := by omega
      have hle : True := by first | trivial | omega
      have HE := Lib.hid hne
      have HR := Lib.hid hr
      have HR3 := Lib.hid hr3
      have HLE := Lib.hid hle
      clear e1 e2 hne hr hr2 hr3 hle hcell ho hb hrows 
      go_wp2_with (go_at_call 114; refine (add_ok A1 A2 n1 c1 n2 c2 _ _ _ HR.out.rd HR3.out.rd (by omega) (by omega) (by simp [may_limbs])).mono ?_; rw [val_limbs, val_limbs, HE.out]; rintro e w3 ⟨A3, k3, c3, rfl, o3, hb3⟩; have HO := Lib.hid o3; clear o3)
      go_roundw
      case rel => exact ⟨k + 1, A3, k3, c3, by omega, by go_num, rfl, HO.out.nm, fun _ => own_mono HO.out hB.size, below_then hB hb3⟩
      case measure => simp [intOf]; omega
    · have hkm : k = m := by omega
      subst hkm
      have ho2 := ho (by omega)
      rw [List.take_of_length_le (by omega)] at ho2
      have HO := Lib.hid ho2
      clear ho2 ho hr hrows hb hm
      go_wp2
      go_ret
      exact ⟨A1, n1, c1, rfl, HO.out, hB⟩

set_option maxRecDepth 100000 in
set_option maxHeartbeats 2000000 in
/-- mul.rest, of one number and one or more others. -/
theorem restN_any (A : Option Addr) (na ca v : Nat) (b0 off m c : Nat) (vs : List Nat) (M : Nat) (w : World) (hra : Nm w A na ca v) (hrows : RowsN w b0 off vs) (hm : vs.length = m) (hm1 : 1 ≤ m ∧ m ≤ 1000) (hM : M ≤ 1073741824)
    (hb : v  < B64 ^ M) (hle2 : vs.sum ≤ v) :
    Calls Tryz.prog 147 #[.slice A na ca, .slice (some ⟨b0, off, none⟩) m c] w fun e w' => ∃ A' k c, e = .returned (.slice A' k c) ∧ Own w' w.heap.size (.slice A' k c) (limbs (v - vs.sum)) ∧ Below w.heap.size w w' := by
  go_enter Tryz.func147, Tryz.ntmps147
  go_wp2
  go_loopw [5, 11] (fun s i wr => ∃ k A1 n1 c1, k ≤ m ∧ i = .int .i64 (k : Int) ∧ s = .slice A1 n1 c1 ∧ Nm wr A1 n1 c1 (v - (vs.take k).sum) ∧ (0 < k → Own wr w.heap.size (.slice A1 n1 c1) (limbs (v - (vs.take k).sum))) ∧ Below w.heap.size w wr) (fun _ i _ => m - (intOf i).toNat)
  case atStart => exact ⟨0, A, na, ca, by omega, rfl, rfl, by simpa using hra, fun h => absurd h (by omega), Below.refl _ _⟩
  case round =>
    obtain ⟨k, A1, n1, c1, hk, rfl, rfl, hr, ho, hB⟩ := hrel
    by_cases hlt : k < m
    · obtain ⟨A2, n2, c2, hcell, hr2⟩ := hrows k vs[k] (List.getElem?_eq_getElem (by omega))
      have hcw : wr.cell? ⟨b0, off + k, none⟩ = some (.slice A2 n2 c2) := (hB.cell (p := ⟨b0, off + k, none⟩) (lt_of_cell? hcell)).trans hcell
      have hr3 := hr2.below hB
      have e1 : (vs.take (k + 1)).sum = (vs.take k).sum + vs[k] := by
        rw [List.take_succ_eq_append_getElem (by omega), List.sum_append]; simp
      have e2 := sum_take_le vs (k + 1)
      have l1 : n1 ≤ M := hr.len (by omega)
      have l2 : n2 ≤ M := hr2.len (by omega)
      have hne : (v - (vs.take k).sum) - vs[k] = v - (vs.take (k + 1)).sum := by omega
      have hle : vs[k] ≤ v - (vs.take k).sum := by first | trivial | omega
      have HE := Lib.hid hne
      have HR := Lib.hid hr
      have HR3 := Lib.hid hr3
      have HLE := Lib.hid hle
      clear e1 e2 hne hr hr2 hr3 hle hcell ho hb hrows hle2
      go_wp2_with (go_at_call 129; refine (sub_ok A1 A2 n1 c1 n2 c2 _ _ _ HR.out.rd HR3.out.rd (by omega) (by omega) (by simp [may_limbs]) (by rw [val_limbs, val_limbs]; exact HLE.out)).mono ?_; rw [val_limbs, val_limbs, HE.out]; rintro e w3 ⟨A3, k3, c3, rfl, o3, hb3⟩; have HO := Lib.hid o3; clear o3)
      go_roundw
      case rel => exact ⟨k + 1, A3, k3, c3, by omega, by go_num, rfl, HO.out.nm, fun _ => own_mono HO.out hB.size, below_then hB hb3⟩
      case measure => simp [intOf]; omega
    · have hkm : k = m := by omega
      subst hkm
      have ho2 := ho (by omega)
      rw [List.take_of_length_le (by omega)] at ho2
      have HO := Lib.hid ho2
      clear ho2 ho hr hrows hb hm
      go_wp2
      go_ret
      exact ⟨A1, n1, c1, rfl, HO.out, hB⟩
end Go.Proofs.YtgiokmfdafmaoaaGreat

/- (mul.number).inThree: a product by three products of parts. -/
namespace Go.Proofs.YtgiokmfdafmaoaaGreat
open Go.RowKit Go.Shelf
set_option linter.unusedVariables false

/-- What makes products of two numbers that are together less than M. -/
def MulsAt (F : Nat) (N M : Nat) : Prop := ∀ (A : Option Addr) (n c v : Nat) (A2 : Option Addr) (n2 c2 u : Nat) (w : World), Nm w A n c v → Nm w A2 n2 c2 u → v < B64 ^ N → u < B64 ^ N → v + u < M →
  Calls Tryz.prog F #[.slice A n c, .slice A2 n2 c2] w fun e w' => ∃ A' k c', e = .returned (.slice A' k c') ∧ Own w' w.heap.size (.slice A' k c') (limbs (v * u)) ∧ Below w.heap.size w w'
theorem sum_one (v x : Nat) : v + [x].sum = v + x := by simp
theorem sum_two (x y : Nat) : [x, y].sum = x + y := by simp
theorem three_sizes (v u p N : Nat) (hv : v < B64 ^ N) (hu : u < B64 ^ N) :
    v % B64 ^ p * (u % B64 ^ p) < B64 ^ (2 * N) ∧ v / B64 ^ p * (u / B64 ^ p) < B64 ^ (2 * N) ∧ (v % B64 ^ p + v / B64 ^ p) * (u % B64 ^ p + u / B64 ^ p) < B64 ^ (2 * N) ∧
    (v % B64 ^ p + v / B64 ^ p) * (u % B64 ^ p + u / B64 ^ p) - (v % B64 ^ p * (u % B64 ^ p) + v / B64 ^ p * (u / B64 ^ p)) < B64 ^ (2 * N) ∧
    v % B64 ^ p * (u % B64 ^ p) + v / B64 ^ p * (u / B64 ^ p) ≤ (v % B64 ^ p + v / B64 ^ p) * (u % B64 ^ p + u / B64 ^ p) ∧
    (v % B64 ^ p * (u % B64 ^ p) + ((v % B64 ^ p + v / B64 ^ p) * (u % B64 ^ p + u / B64 ^ p) - (v % B64 ^ p * (u % B64 ^ p) + v / B64 ^ p * (u / B64 ^ p))) * B64 ^ p + v / B64 ^ p * (u / B64 ^ p) * B64 ^ (2 * p) = v * u ∧ v * u < B64 ^ (2 * N)) := by
  have hvu : v * u < B64 ^ (2 * N) := by
    rw [Nat.two_mul, Nat.pow_add]
    exact Nat.lt_of_le_of_lt (Nat.mul_le_mul_left _ (Nat.le_of_lt hu)) (Nat.mul_lt_mul_of_pos_right hv (Nat.pow_pos B64_pos))
  have hk := kara (v % B64 ^ p) (v / B64 ^ p) (u % B64 ^ p) (u / B64 ^ p) (B64 ^ p)
  have hl := kara_le (v % B64 ^ p) (v / B64 ^ p) (u % B64 ^ p) (u / B64 ^ p)
  have h1 := parts_le v p
  have h2 := parts_le u p
  rw [Nat.mod_add_div, Nat.mod_add_div] at hk
  have e : B64 ^ (2 * p) = B64 ^ p * B64 ^ p := by rw [Nat.two_mul, Nat.pow_add]
  rw [e]
  have h3 := Nat.mul_le_mul h1 h2
  have e2 : (v % B64 ^ p + v / B64 ^ p) * (u % B64 ^ p + u / B64 ^ p) - (v % B64 ^ p * (u % B64 ^ p) + v / B64 ^ p * (u / B64 ^ p)) = (v % B64 ^ p + v / B64 ^ p) * (u % B64 ^ p + u / B64 ^ p) - v % B64 ^ p * (u % B64 ^ p) - v / B64 ^ p * (u / B64 ^ p) := by omega
  refine ⟨by omega, by omega, by omega, by omega, by omega, ?_, hvu⟩
  rw [e2]
  exact hk

end Go.Proofs.YtgiokmfdafmaoaaGreat
