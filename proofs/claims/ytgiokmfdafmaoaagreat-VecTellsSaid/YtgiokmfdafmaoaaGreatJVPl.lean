import Derived.Test.YtgiokmfdafmaoaaGreatJVVal
import Derived.Test.YtgiokmfdafmaoaaGreatJRefDiv
import Derived.Deep.OwnRows
import Derived.Test.YtgiokmfdafmaoaaGreatJVHeld
/- VMake VPl. -/
/- A row that make lays, and that is filled place by place. -/
namespace Go.Proofs.YtgiokmfdafmaoaaGreat
open Go.RowKit Go.Shelf
set_option linter.unusedVariables false
set_option linter.unusedSimpArgs false

/-- 0, as make lays it. -/
def ZE.nought : ZE := ⟨false, none, 0, 0, []⟩
theorem flat_noughts (n : Nat) : (madeCells #[.bool false, .slice none 0 0] (n * 2)).toList = flat (List.replicate n ZE.nought) := by
  induction n with
  | zero => simp [madeCells, flat, Array.range_zero']
  | succ k ih =>
    rw [show (k + 1) * 2 = k * 2 + 1 + 1 by omega]
    rw [List.replicate_succ', flat_append, ← ih]
    simp [madeCells, Array.range_succ, flat, ZE.nought, Nat.add_mod]
theorem run_makeV (t : TypeId) (ht : Tryz.prog.underlying t = some (.slice zT)) (n : Nat) (hn : n ≤ 100000) (w : World) :
    (Instr.makeSlice t (.int .i64 (n : Int)) (.int .i64 (n : Int))).run Tryz.prog w = .ok (.slice (some ⟨w.heap.size, 0, none⟩) n n) (w.alloc (.cells (madeCells #[.bool false, .slice none 0 0] (n * 2)) zT)) := by
  obtain ⟨i, hi, hz, hs, hb⟩ := z_parts
  have hr := run_make (P := Tryz.prog) w t zT i _ ht hi hz .i64 .i64 (n : Int) (n : Int) (by omega) (Int.le_refl _) (by rw [hb]; omega) (by omega)
  rw [hs] at hr
  simpa [Value.cells] using hr
theorem ownv_made (w : World) (n : Nat) (hn : n ≤ 100000) : OwnV (w.alloc (.cells (madeCells #[.bool false, .slice none 0 0] (n * 2)) zT)) w.heap.size (some ⟨w.heap.size, 0, none⟩) n n (List.replicate n ZE.nought) := by
  refine ⟨⟨by rw [flat_len, List.length_replicate], .inr ⟨w.heap.size, n, _, rfl, Nat.le_refl _, World.alloc_heap_new _ _, Nat.le_refl _, by unfold maxLen; omega, size_madeCells _ _, ?_⟩⟩, List.length_replicate .., fun e he => ?_⟩
  · rw [flat_noughts, List.take_of_length_le]
    rw [flat_len, List.length_replicate]
    omega
  · rw [List.eq_of_mem_replicate he]
    exact own_nil _ _
section
variable {w w' : World} {B g n c : Nat} {L : List ZE}
theorem flat_set {L : List ZE} {k : Nat} (e : ZE) (hk : k < L.length) : flat (L.set k e) = ((flat L).set (k * 2) (.bool e.p)).set (k * 2 + 1) (.slice e.A e.n e.c) := by
  induction L generalizing k with
  | nil => cases hk
  | cons x L ih =>
    cases k with
    | zero => rfl
    | succ k =>
      rw [List.length_cons] at hk
      rw [List.set_cons_succ, flat, flat, ih (by omega), show (k + 1) * 2 = k * 2 + 1 + 1 by omega]
      rfl
/-- The k-th place of a row of the call's own: what stands there may be written. -/
theorem OwnV.at (h : OwnV w B (some ⟨g, 0, none⟩) n c L) {k : Nat} (hk : k < n) : ∃ u v, w.cell? ⟨g, k * 2, none⟩ = some u ∧ w.cell? ⟨g, k * 2 + 1, none⟩ = some v ∧ w.frozen? ⟨g, k * 2, none⟩ = false ∧ w.frozen? ⟨g, k * 2 + 1, none⟩ = false := by
  have hk2 : k < L.length := by rw [h.len]; exact hk
  have h2 := flat_get (List.getElem?_eq_getElem hk2)
  have c0 := h.row.cells (g := g) rfl (k * 2) _ h2.1
  have c1 := h.row.cells (g := g) rfl (k * 2 + 1) _ h2.2
  rw [addr_at] at c0 c1
  rcases h.row.2 with ⟨e, _⟩ | ⟨g', cap, cur, e, hg, hh, r⟩
  · cases e
  · cases e
    exact ⟨_, _, c0, c1, by simp [World.frozen?, hh], by simp [World.frozen?, hh]⟩
/-- A number is laid at a place. -/
theorem OwnV.set (h : OwnV w B (some ⟨g, 0, none⟩) n c L) {k : Nat} (hk : k < n) {e : ZE} (he : Own w B (.slice e.A e.n e.c) e.l) :
    OwnV ((w.setCell ⟨g, k * 2, none⟩ (.bool e.p)).setCell ⟨g, k * 2 + 1, none⟩ (.slice e.A e.n e.c)) B (some ⟨g, 0, none⟩) n c (L.set k e) := by
  have hk2 : k < L.length := by rw [h.len]; exact hk
  have hset : ∀ x : ZE, Own w B (.slice x.A x.n x.c) x.l → Own ((w.setCell ⟨g, k * 2, none⟩ (.bool e.p)).setCell ⟨g, k * 2 + 1, none⟩ (.slice e.A e.n e.c)) B (.slice x.A x.n x.c) x.l := by
    intro x hx
    refine ⟨⟨hx.1.1, ?_⟩, hx.2⟩
    rcases hx.1.2 with h2 | ⟨b, cap, cur, e2, hg, hh, r⟩
    · exact .inl h2
    · have hb : b ≠ g := by
        rcases ownv_apart hx h.row with h0 | h0
        · rw [e2] at h0; cases h0
        · rw [e2] at h0
          intro hbg
          subst hbg
          exact h0 rfl
      exact .inr ⟨b, cap, cur, e2, hg, ((Below.heap_setCell _ _ _ b hb).trans (Below.heap_setCell w _ _ b hb)).trans hh, r⟩
  refine ⟨⟨?_, ?_⟩, by rw [List.length_set]; exact h.len, fun x hx => ?_⟩
  · rw [flat_len, List.length_set, h.len]
  · rcases h.row.2 with ⟨e, _⟩ | ⟨g', cap, cur, e2, hg, hh, hnc, hc, hs, ht⟩
    · cases e
    · cases e2
      refine .inr ⟨g, c, (cur.setIfInBounds (k * 2) (.bool e.p)).setIfInBounds (k * 2 + 1) (.slice e.A e.n e.c), rfl, hg, ?_, hnc, hc, by simpa using hs, ?_⟩
      · simp [World.setCell, Array.getElem?_modify, hh]
      · rw [flat_set e hk2, ← ht]
        simp [List.take_set]
  · rcases List.mem_or_eq_of_mem_set hx with hx | rfl
    · exact hset x (h.el x hx)
    · exact hset _ he
end
end Go.Proofs.YtgiokmfdafmaoaaGreat

/- vec: placed. -/
namespace Go.Proofs.YtgiokmfdafmaoaaGreat
open Go.RowKit Go.Shelf
set_option linter.unusedVariables false
set_option linter.unusedSimpArgs false

/-- A call answered a number of that sign and these limbs, in new memory. -/
def KAns (w : World) (p : Bool) (l : List Nat) (e : Ending) (w' : World) : Prop := ∃ (B : Option Addr) (m d : Nat), e = .returned (.agg #[.bool p, .slice B m d]) ∧ Own w' w.heap.size (.slice B m d) l ∧ Below w.heap.size w w'
/-- A call answered the row of n such numbers, in new memory. -/
def KRow (w : World) (n : Nat) (K : Nat → Bool × List Nat) (e : Ending) (w' : World) : Prop := ∃ (A : Option Addr) (c : Nat) (L : List ZE), e = .returned (.slice A n c) ∧ OwnV w' w.heap.size A n c L ∧ (∀ i x, L[i]? = some x → x.key = K i) ∧ Below w.heap.size w w'
set_option maxRecDepth 100000 in
set_option maxHeartbeats 4000000 in
theorem placedV1_any (F : Nat) (k0 : Value) (hE : ∀ args w, (callFunc F args).run Tryz.prog w = .ok (.enter F args) w) (n : Nat) (hn : n ≤ 1000) (K : Nat → Bool × List Nat) (w : World)
    (hC : ∀ k, k < n → ∀ W, Below w.heap.size w W → Calls Tryz.prog F #[.int .i64 (k : Int), k0] W (KAns W (K k).1 (K k).2)) :
    Calls Tryz.prog 36 #[.int .i64 (n : Int), .func (.func F) #[] #[k0]] w (KRow w n K) := by
  have hmk := fun W => run_makeV 28 Tryz.underlying28 n (by omega) W
  have HC := Lib.hid hC
  have O0 := ownv_made w n (by omega)
  have hb0 := bxb w (.cells (madeCells #[.bool false, .slice none 0 0] (n * 2)) zT)
  unfold KRow
  unfold KAns at HC
  clear hC
  go_enter Tryz.func36, Tryz.ntmps36
  go_wp2
  go_loopw [11] (fun i wr => ∃ (k : Nat) (L : List ZE), k ≤ n ∧ i = .int .i64 (k : Int) ∧ OwnV wr w.heap.size (some ⟨w.heap.size, 0, none⟩) n n L ∧ (∀ j x, j < k → L[j]? = some x → x.key = K j) ∧ Below w.heap.size w wr) (fun i _ => n - (intOf i).toNat)
  case atStart => exact ⟨0, _, by omega, rfl, O0, fun j x hj => absurd hj (by omega), hb0⟩
  case round =>
    obtain ⟨k, L, hk, rfl, hO, hK, hB⟩ := hrel
    by_cases hlt : k < n
    · have HO := Lib.hid hO
      have HK := Lib.hid hK
      have HB := Lib.hid hB
      have HM := Lib.hid (HC.out k hlt wr hB)
      clear hO hK hB O0 hb0 hmk
      go_wp2_with fail
      refine HM.out.mono ?_
      rintro e w3 ⟨B, m, d, rfl, hoo, hb3⟩
      have HO3 := Lib.hid (HO.out.below hb3)
      obtain ⟨u, v, c0, c1, z0, z1⟩ := HO3.out.at hlt
      have HE := Lib.hid (own_mono hoo HB.out.size)
      have hg := Lib.hid (HO.out.row.lt w.heap.size rfl)
      have HB3 := Lib.hid (below_then HB.out hb3)
      clear hoo hb3
      go_wp2
      go_roundw
      case rel =>
        refine ⟨k + 1, L.set k ⟨(K k).1, B, m, d, (K k).2⟩, by omega, by go_num, HO3.out.set hlt (e := ⟨(K k).1, B, m, d, (K k).2⟩) HE.out, fun j x hj hx => ?_, (HB3.out.setCell (p := ⟨w.heap.size, k * 2, none⟩) (Nat.le_refl _) _).setCell (p := ⟨w.heap.size, k * 2 + 1, none⟩) (Nat.le_refl _) _⟩
        have hkl : k < L.length := by rw [HO.out.len]; exact hlt
        rcases Nat.lt_or_ge j k with hjk | hjk
        · rw [List.getElem?_set_ne (by omega)] at hx
          exact HK.out j x hjk hx
        · obtain rfl : j = k := by omega
          rw [List.getElem?_set_self hkl] at hx
          cases hx
          rfl
      case measure => simp [intOf]; omega
    · have HO := Lib.hid hO
      have HK := Lib.hid hK
      have HB := Lib.hid hB
      clear hO hK hB O0 hb0 hmk
      go_wp2
      go_ret
      refine ⟨_, _, L, rfl, HO.out, fun i x hx => HK.out i x ?_ hx, HB.out⟩
      have h1 := (List.getElem?_eq_some_iff.1 hx).1
      rw [HO.out.len] at h1
      omega
set_option maxRecDepth 100000 in
set_option maxHeartbeats 4000000 in
theorem placedV2_any (F : Nat) (k0 k1 : Value) (hE : ∀ args w, (callFunc F args).run Tryz.prog w = .ok (.enter F args) w) (n : Nat) (hn : n ≤ 1000) (K : Nat → Bool × List Nat) (w : World)
    (hC : ∀ k, k < n → ∀ W, Below w.heap.size w W → Calls Tryz.prog F #[.int .i64 (k : Int), k0, k1] W (KAns W (K k).1 (K k).2)) :
    Calls Tryz.prog 36 #[.int .i64 (n : Int), .func (.func F) #[] #[k0, k1]] w (KRow w n K) := by
  have hmk := fun W => run_makeV 28 Tryz.underlying28 n (by omega) W
  have HC := Lib.hid hC
  have O0 := ownv_made w n (by omega)
  have hb0 := bxb w (.cells (madeCells #[.bool false, .slice none 0 0] (n * 2)) zT)
  unfold KRow
  unfold KAns at HC
  clear hC
  go_enter Tryz.func36, Tryz.ntmps36
  go_wp2
  go_loopw [11] (fun i wr => ∃ (k : Nat) (L : List ZE), k ≤ n ∧ i = .int .i64 (k : Int) ∧ OwnV wr w.heap.size (some ⟨w.heap.size, 0, none⟩) n n L ∧ (∀ j x, j < k → L[j]? = some x → x.key = K j) ∧ Below w.heap.size w wr) (fun i _ => n - (intOf i).toNat)
  case atStart => exact ⟨0, _, by omega, rfl, O0, fun j x hj => absurd hj (by omega), hb0⟩
  case round =>
    obtain ⟨k, L, hk, rfl, hO, hK, hB⟩ := hrel
    by_cases hlt : k < n
    · have HO := Lib.hid hO
      have HK := Lib.hid hK
      have HB := Lib.hid hB
      have HM := Lib.hid (HC.out k hlt wr hB)
      clear hO hK hB O0 hb0 hmk
      go_wp2_with fail
      refine HM.out.mono ?_
      rintro e w3 ⟨B, m, d, rfl, hoo, hb3⟩
      have HO3 := Lib.hid (HO.out.below hb3)
      obtain ⟨u, v, c0, c1, z0, z1⟩ := HO3.out.at hlt
      have HE := Lib.hid (own_mono hoo HB.out.size)
      have hg := Lib.hid (HO.out.row.lt w.heap.size rfl)
      have HB3 := Lib.hid (below_then HB.out hb3)
      clear hoo hb3
      go_wp2
      go_roundw
      case rel =>
        refine ⟨k + 1, L.set k ⟨(K k).1, B, m, d, (K k).2⟩, by omega, by go_num, HO3.out.set hlt (e := ⟨(K k).1, B, m, d, (K k).2⟩) HE.out, fun j x hj hx => ?_, (HB3.out.setCell (p := ⟨w.heap.size, k * 2, none⟩) (Nat.le_refl _) _).setCell (p := ⟨w.heap.size, k * 2 + 1, none⟩) (Nat.le_refl _) _⟩
        have hkl : k < L.length := by rw [HO.out.len]; exact hlt
        rcases Nat.lt_or_ge j k with hjk | hjk
        · rw [List.getElem?_set_ne (by omega)] at hx
          exact HK.out j x hjk hx
        · obtain rfl : j = k := by omega
          rw [List.getElem?_set_self hkl] at hx
          cases hx
          rfl
      case measure => simp [intOf]; omega
    · have HO := Lib.hid hO
      have HK := Lib.hid hK
      have HB := Lib.hid hB
      clear hO hK hB O0 hb0 hmk
      go_wp2
      go_ret
      refine ⟨_, _, L, rfl, HO.out, fun i x hx => HK.out i x ?_ hx, HB.out⟩
      have h1 := (List.getElem?_eq_some_iff.1 hx).1
      rw [HO.out.len] at h1
      omega
set_option maxRecDepth 100000 in
set_option maxHeartbeats 4000000 in
theorem placedV4_any (F : Nat) (k0 k1 k2 k3 : Value) (hE : ∀ args w, (callFunc F args).run Tryz.prog w = .ok (.enter F args) w) (n : Nat) (hn : n ≤ 1000) (K : Nat → Bool × List Nat) (w : World)
    (hC : ∀ k, k < n → ∀ W, Below w.heap.size w W → Calls Tryz.prog F #[.int .i64 (k : Int), k0, k1, k2, k3] W (KAns W (K k).1 (K k).2)) :
    Calls Tryz.prog 36 #[.int .i64 (n : Int), .func (.func F) #[] #[k0, k1, k2, k3]] w (KRow w n K) := by
  have hmk := fun W => run_makeV 28 Tryz.underlying28 n (by omega) W
  have HC := Lib.hid hC
  have O0 := ownv_made w n (by omega)
  have hb0 := bxb w (.cells (madeCells #[.bool false, .slice none 0 0] (n * 2)) zT)
  unfold KRow
  unfold KAns at HC
  clear hC
  go_enter Tryz.func36, Tryz.ntmps36
  go_wp2
  go_loopw [11] (fun i wr => ∃ (k : Nat) (L : List ZE), k ≤ n ∧ i = .int .i64 (k : Int) ∧ OwnV wr w.heap.size (some ⟨w.heap.size, 0, none⟩) n n L ∧ (∀ j x, j < k → L[j]? = some x → x.key = K j) ∧ Below w.heap.size w wr) (fun i _ => n - (intOf i).toNat)
  case atStart => exact ⟨0, _, by omega, rfl, O0, fun j x hj => absurd hj (by omega), hb0⟩
  case round =>
    obtain ⟨k, L, hk, rfl, hO, hK, hB⟩ := hrel
    by_cases hlt : k < n
    · have HO := Lib.hid hO
      have HK := Lib.hid hK
      have HB := Lib.hid hB
      have HM := Lib.hid (HC.out k hlt wr hB)
      clear hO hK hB O0 hb0 hmk
      go_wp2_with fail
      refine HM.out.mono ?_
      rintro e w3 ⟨B, m, d, rfl, hoo, hb3⟩
      have HO3 := Lib.hid (HO.out.below hb3)
      obtain ⟨u, v, c0, c1, z0, z1⟩ := HO3.out.at hlt
      have HE := Lib.hid (own_mono hoo HB.out.size)
      have hg := Lib.hid (HO.out.row.lt w.heap.size rfl)
      have HB3 := Lib.hid (below_then HB.out hb3)
      clear hoo hb3
      go_wp2
      go_roundw
      case rel =>
        refine ⟨k + 1, L.set k ⟨(K k).1, B, m, d, (K k).2⟩, by omega, by go_num, HO3.out.set hlt (e := ⟨(K k).1, B, m, d, (K k).2⟩) HE.out, fun j x hj hx => ?_, (HB3.out.setCell (p := ⟨w.heap.size, k * 2, none⟩) (Nat.le_refl _) _).setCell (p := ⟨w.heap.size, k * 2 + 1, none⟩) (Nat.le_refl _) _⟩
        have hkl : k < L.length := by rw [HO.out.len]; exact hlt
        rcases Nat.lt_or_ge j k with hjk | hjk
        · rw [List.getElem?_set_ne (by omega)] at hx
          exact HK.out j x hjk hx
        · obtain rfl : j = k := by omega
          rw [List.getElem?_set_self hkl] at hx
          cases hx
          rfl
      case measure => simp [intOf]; omega
    · have HO := Lib.hid hO
      have HK := Lib.hid hK
      have HB := Lib.hid hB
      clear hO hK hB O0 hb0 hmk
      go_wp2
      go_ret
      refine ⟨_, _, L, rfl, HO.out, fun i x hx => HK.out i x ?_ hx, HB.out⟩
      have h1 := (List.getElem?_eq_some_iff.1 hx).1
      rw [HO.out.len] at h1
      omega
end Go.Proofs.YtgiokmfdafmaoaaGreat
