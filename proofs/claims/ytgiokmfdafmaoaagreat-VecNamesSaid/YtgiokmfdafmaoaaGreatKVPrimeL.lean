import Derived.Test.YtgiokmfdafmaoaaGreatKVVal
import Derived.Test.YtgiokmfdafmaoaaGreatKRefDiv
import Derived.Deep.OwnRows
import Derived.Test.YtgiokmfdafmaoaaGreatKVHeld
import Derived.Test.YtgiokmfdafmaoaaGreatKZHeld
import Derived.Test.YtgiokmfdafmaoaaGreatKDCode
import Derived.Test.YtgiokmfdafmaoaaGreatKGCommon
import Derived.Test.YtgiokmfdafmaoaaGreatKVRow
import Derived.Test.YtgiokmfdafmaoaaGreatKZFr
import Derived.Deep.Slices
import Derived.ChangeSame
import Derived.Test.YtgiokmfdafmaoaaGreatKMSpec
/- VMake VPl VCk VOne VPrime VClo VJo VCloM VAdd VCmp VRef1 VCloP VCon VDot VOfC VFr VLaw VLawC VLawW VAlive VGuard VLawP VPrimeL. -/
/- A row that make lays, and that is filled place by place. -/
namespace Go.Proofs.YtgiokmfdafmaoaaGreat
open Go.RowKit Go.Shelf
set_option linter.unusedVariables false
set_option linter.unusedSimpArgs false

/-- 0, as make lays it. -/
def ZE.nought : ZE := ⟨false, none, 0, 0, []⟩
theorem flat_noughts (n : Nat) : (madeCells #[.bool false, .slice none 0 0] (n * 2)).toList = flat (List.replicate n ZE.nought) := by
  induction n with
  | zero => simp [madeCells, flat, Array.range_zero']
  | succ k ih =>
    rw [show (k + 1) * 2 = k * 2 + 1 + 1 by omega]
    rw [List.replicate_succ', flat_append, ← ih]
    simp [madeCells, Array.range_succ, flat, ZE.nought, Nat.add_mod]
theorem run_makeV (t : TypeId) (ht : Tryz.prog.underlying t = some (.slice zT)) (n : Nat) (hn : n ≤ 100000) (w : World) :
    (Instr.makeSlice t (.int .i64 (n : Int)) (.int .i64 (n : Int))).run Tryz.prog w = .ok (.slice (some ⟨w.heap.size, 0, none⟩) n n) (w.alloc (.cells (madeCells #[.bool false, .slice none 0 0] (n * 2)) zT)) := by
  obtain ⟨i, hi, hz, hs, hb⟩ := z_parts
  have hr := run_make (P := Tryz.prog) w t zT i _ ht hi hz .i64 .i64 (n : Int) (n : Int) (by omega) (Int.le_refl _) (by rw [hb]; omega) (by omega)
  rw [hs] at hr
  simpa [Value.cells] using hr
theorem ownv_made (w : World) (n : Nat) (hn : n ≤ 100000) : OwnV (w.alloc (.cells (madeCells #[.bool false, .slice none 0 0] (n * 2)) zT)) w.heap.size (some ⟨w.heap.size, 0, none⟩) n n (List.replicate n ZE.nought) := by
  refine ⟨⟨by rw [flat_len, List.length_replicate], .inr ⟨w.heap.size, n, _, rfl, Nat.le_refl _, World.alloc_heap_new _ _, Nat.le_refl _, by unfold maxLen; omega, size_madeCells _ _, ?_⟩⟩, List.length_replicate .., fun e he => ?_⟩
  · rw [flat_noughts, List.take_of_length_le]
    rw [flat_len, List.length_replicate]
    omega
  · rw [List.eq_of_mem_replicate he]
    exact own_nil _ _
section
variable {w w' : World} {B g n c : Nat} {L : List ZE}
theorem flat_set {L : List ZE} {k : Nat} (e : ZE) (hk : k < L.length) : flat (L.set k e) = ((flat L).set (k * 2) (.bool e.p)).set (k * 2 + 1) (.slice e.A e.n e.c) := by
  induction L generalizing k with
  | nil => cases hk
  | cons x L ih =>
    cases k with
    | zero => rfl
    | succ k =>
      rw [List.length_cons] at hk
      rw [List.set_cons_succ, flat, flat, ih (by omega), show (k + 1) * 2 = k * 2 + 1 + 1 by omega]
      rfl
/-- The k-th place of a row of the call's own: what stands there may be written. -/
theorem OwnV.at (h : OwnV w B (some ⟨g, 0, none⟩) n c L) {k : Nat} (hk : k < n) : ∃ u v, w.cell? ⟨g, k * 2, none⟩ = some u ∧ w.cell? ⟨g, k * 2 + 1, none⟩ = some v ∧ w.frozen? ⟨g, k * 2, none⟩ = false ∧ w.frozen? ⟨g, k * 2 + 1, none⟩ = false := by
  have hk2 : k < L.length := by rw [h.len]; exact hk
  have h2 := flat_get (List.getElem?_eq_getElem hk2)
  have c0 := h.row.cells (g := g) rfl (k * 2) _ h2.1
  have c1 := h.row.cells (g := g) rfl (k * 2 + 1) _ h2.2
  rw [addr_at] at c0 c1
  rcases h.row.2 with ⟨e, _⟩ | ⟨g', cap, cur, e, hg, hh, r⟩
  · cases e
  · cases e
    exact ⟨_, _, c0, c1, by simp [World.frozen?, hh], by simp [World.frozen?, hh]⟩
/-- A number is laid at a place. -/
theorem OwnV.set (h : OwnV w B (some ⟨g, 0, none⟩) n c L) {k : Nat} (hk : k < n) {e : ZE} (he : Own w B (.slice e.A e.n e.c) e.l) :
    OwnV ((w.setCell ⟨g, k * 2, none⟩ (.bool e.p)).setCell ⟨g, k * 2 + 1, none⟩ (.slice e.A e.n e.c)) B (some ⟨g, 0, none⟩) n c (L.set k e) := by
  have hk2 : k < L.length := by rw [h.len]; exact hk
  have hset : ∀ x : ZE, Own w B (.slice x.A x.n x.c) x.l → Own ((w.setCell ⟨g, k * 2, none⟩ (.bool e.p)).setCell ⟨g, k * 2 + 1, none⟩ (.slice e.A e.n e.c)) B (.slice x.A x.n x.c) x.l := by
    intro x hx
    refine ⟨⟨hx.1.1, ?_⟩, hx.2⟩
    rcases hx.1.2 with h2 | ⟨b, cap, cur, e2, hg, hh, r⟩
    · exact .inl h2
    · have hb : b ≠ g := by
        rcases ownv_apart hx h.row with h0 | h0
        · rw [e2] at h0; cases h0
        · rw [e2] at h0
          intro hbg
          subst hbg
          exact h0 rfl
      exact .inr ⟨b, cap, cur, e2, hg, ((Below.heap_setCell _ _ _ b hb).trans (Below.heap_setCell w _ _ b hb)).trans hh, r⟩
  refine ⟨⟨?_, ?_⟩, by rw [List.length_set]; exact h.len, fun x hx => ?_⟩
  · rw [flat_len, List.length_set, h.len]
  · rcases h.row.2 with ⟨e, _⟩ | ⟨g', cap, cur, e2, hg, hh, hnc, hc, hs, ht⟩
    · cases e
    · cases e2
      refine .inr ⟨g, c, (cur.setIfInBounds (k * 2) (.bool e.p)).setIfInBounds (k * 2 + 1) (.slice e.A e.n e.c), rfl, hg, ?_, hnc, hc, by simpa using hs, ?_⟩
      · simp [World.setCell, Array.getElem?_modify, hh]
      · rw [flat_set e hk2, ← ht]
        simp [List.take_set]
  · rcases List.mem_or_eq_of_mem_set hx with hx | rfl
    · exact hset x (h.el x hx)
    · exact hset _ he
end
end Go.Proofs.YtgiokmfdafmaoaaGreat

/- vec: placed. -/
namespace Go.Proofs.YtgiokmfdafmaoaaGreat
open Go.RowKit Go.Shelf
set_option linter.unusedVariables false
set_option linter.unusedSimpArgs false

/-- A call answered a number of that sign and these limbs, in new memory. -/
def KAns (w : World) (p : Bool) (l : List Nat) (e : Ending) (w' : World) : Prop := ∃ (B : Option Addr) (m d : Nat), e = .returned (.agg #[.bool p, .slice B m d]) ∧ Own w' w.heap.size (.slice B m d) l ∧ Below w.heap.size w w'
/-- A call answered the row of n such numbers, in new memory. -/
def KRow (w : World) (n : Nat) (K : Nat → Bool × List Nat) (e : Ending) (w' : World) : Prop := ∃ (A : Option Addr) (c : Nat) (L : List ZE), e = .returned (.slice A n c) ∧ OwnV w' w.heap.size A n c L ∧ (∀ i x, L[i]? = some x → x.key = K i) ∧ Below w.heap.size w w'
set_option maxRecDepth 100000 in
set_option maxHeartbeats 4000000 in
theorem placedV1_any (F : Nat) (k0 : Value) (hE : ∀ args w, (callFunc F args).run Tryz.prog w = .ok (.enter F args) w) (n : Nat) (hn : n ≤ 1000) (K : Nat → Bool × List Nat) (w : World)
    (hC : ∀ k, k < n → ∀ W, Below w.heap.size w W → Calls Tryz.prog F #[.int .i64 (k : Int), k0] W (KAns W (K k).1 (K k).2)) :
    Calls Tryz.prog 36 #[.int .i64 (n : Int), .func (.func F) #[] #[k0]] w (KRow w n K) := by
  have hmk := fun W => run_makeV 28 Tryz.underlying28 n (by omega) W
  have HC := Lib.hid hC
  have O0 := ownv_made w n (by omega)
  have hb0 := bxb w (.cells (madeCells #[.bool false, .slice none 0 0] (n * 2)) zT)
  unfold KRow
  unfold KAns at HC
  clear hC
  go_enter Tryz.func36, Tryz.ntmps36
  go_wp2
  go_loopw [11] (fun i wr => ∃ (k : Nat) (L : List ZE), k ≤ n ∧ i = .int .i64 (k : Int) ∧ OwnV wr w.heap.size (some ⟨w.heap.size, 0, none⟩) n n L ∧ (∀ j x, j < k → L[j]? = some x → x.key = K j) ∧ Below w.heap.size w wr) (fun i _ => n - (intOf i).toNat)
  case atStart => exact ⟨0, _, by omega, rfl, O0, fun j x hj => absurd hj (by omega), hb0⟩
  case round =>
    obtain ⟨k, L, hk, rfl, hO, hK, hB⟩ := hrel
    by_cases hlt : k < n
    · have HO := Lib.hid hO
      have HK := Lib.hid hK
      have HB := Lib.hid hB
      have HM := Lib.hid (HC.out k hlt wr hB)
      clear hO hK hB O0 hb0 hmk
      go_wp2_with fail
      refine HM.out.mono ?_
      rintro e w3 ⟨B, m, d, rfl, hoo, hb3⟩
      have HO3 := Lib.hid (HO.out.below hb3)
      obtain ⟨u, v, c0, c1, z0, z1⟩ := HO3.out.at hlt
      have HE := Lib.hid (own_mono hoo HB.out.size)
      have hg := Lib.hid (HO.out.row.lt w.heap.size rfl)
      have HB3 := Lib.hid (below_then HB.out hb3)
      clear hoo hb3
      go_wp2
      go_roundw
      case rel =>
        refine ⟨k + 1, L.set k ⟨(K k).1, B, m, d, (K k).2⟩, by omega, by go_num, HO3.out.set hlt (e := ⟨(K k).1, B, m, d, (K k).2⟩) HE.out, fun j x hj hx => ?_, (HB3.out.setCell (p := ⟨w.heap.size, k * 2, none⟩) (Nat.le_refl _) _).setCell (p := ⟨w.heap.size, k * 2 + 1, none⟩) (Nat.le_refl _) _⟩
        have hkl : k < L.length := by rw [HO.out.len]; exact hlt
        rcases Nat.lt_or_ge j k with hjk | hjk
        · rw [List.getElem?_set_ne (by omega)] at hx
          exact HK.out j x hjk hx
        · obtain rfl : j = k := by omega
          rw [List.getElem?_set_self hkl] at hx
          cases hx
          rfl
      case measure => simp [intOf]; omega
    · have HO := Lib.hid hO
      have HK := Lib.hid hK
      have HB := Lib.hid hB
      clear hO hK hB O0 hb0 hmk
      go_wp2
      go_ret
      refine ⟨_, _, L, rfl, HO.out, fun i x hx => HK.out i x ?_ hx, HB.out⟩
      have h1 := (List.getElem?_eq_some_iff.1 hx).1
      rw [HO.out.len] at h1
      omega
set_option maxRecDepth 100000 in
set_option maxHeartbeats 4000000 in
theorem placedV2_any (F : Nat) (k0 k1 : Value) (hE : ∀ args w, (callFunc F args).run Tryz.prog w = .ok (.enter F args) w) (n : Nat) (hn : n ≤ 1000) (K : Nat → Bool × List Nat) (w : World)
    (hC : ∀ k, k < n → ∀ W, Below w.heap.size w W → Calls Tryz.prog F #[.int .i64 (k : Int), k0, k1] W (KAns W (K k).1 (K k).2)) :
    Calls Tryz.prog 36 #[.int .i64 (n : Int), .func (.func F) #[] #[k0, k1]] w (KRow w n K) := by
  have hmk := fun W => run_makeV 28 Tryz.underlying28 n (by omega) W
  have HC := Lib.hid hC
  have O0 := ownv_made w n (by omega)
  have hb0 := bxb w (.cells (madeCells #[.bool false, .slice none 0 0] (n * 2)) zT)
  unfold KRow
  unfold KAns at HC
  clear hC
  go_enter Tryz.func36, Tryz.ntmps36
  go_wp2
  go_loopw [11] (fun i wr => ∃ (k : Nat) (L : List ZE), k ≤ n ∧ i = .int .i64 (k : Int) ∧ OwnV wr w.heap.size (some ⟨w.heap.size, 0, none⟩) n n L ∧ (∀ j x, j < k → L[j]? = some x → x.key = K j) ∧ Below w.heap.size w wr) (fun i _ => n - (intOf i).toNat)
  case atStart => exact ⟨0, _, by omega, rfl, O0, fun j x hj => absurd hj (by omega), hb0⟩
  case round =>
    obtain ⟨k, L, hk, rfl, hO, hK, hB⟩ := hrel
    by_cases hlt : k < n
    · have HO := Lib.hid hO
      have HK := Lib.hid hK
      have HB := Lib.hid hB
      have HM := Lib.hid (HC.out k hlt wr hB)
      clear hO hK hB O0 hb0 hmk
      go_wp2_with fail
      refine HM.out.mono ?_
      rintro e w3 ⟨B, m, d, rfl, hoo, hb3⟩
      have HO3 := Lib.hid (HO.out.below hb3)
      obtain ⟨u, v, c0, c1, z0, z1⟩ := HO3.out.at hlt
      have HE := Lib.hid (own_mono hoo HB.out.size)
      have hg := Lib.hid (HO.out.row.lt w.heap.size rfl)
      have HB3 := Lib.hid (below_then HB.out hb3)
      clear hoo hb3
      go_wp2
      go_roundw
      case rel =>
        refine ⟨k + 1, L.set k ⟨(K k).1, B, m, d, (K k).2⟩, by omega, by go_num, HO3.out.set hlt (e := ⟨(K k).1, B, m, d, (K k).2⟩) HE.out, fun j x hj hx => ?_, (HB3.out.setCell (p := ⟨w.heap.size, k * 2, none⟩) (Nat.le_refl _) _).setCell (p := ⟨w.heap.size, k * 2 + 1, none⟩) (Nat.le_refl _) _⟩
        have hkl : k < L.length := by rw [HO.out.len]; exact hlt
        rcases Nat.lt_or_ge j k with hjk | hjk
        · rw [List.getElem?_set_ne (by omega)] at hx
          exact HK.out j x hjk hx
        · obtain rfl : j = k := by omega
          rw [List.getElem?_set_self hkl] at hx
          cases hx
          rfl
      case measure => simp [intOf]; omega
    · have HO := Lib.hid hO
      have HK := Lib.hid hK
      have HB := Lib.hid hB
      clear hO hK hB O0 hb0 hmk
      go_wp2
      go_ret
      refine ⟨_, _, L, rfl, HO.out, fun i x hx => HK.out i x ?_ hx, HB.out⟩
      have h1 := (List.getElem?_eq_some_iff.1 hx).1
      rw [HO.out.len] at h1
      omega
set_option maxRecDepth 100000 in
set_option maxHeartbeats 4000000 in
theorem placedV4_any (F : Nat) (k0 k1 k2 k3 : Value) (hE : ∀ args w, (callFunc F args).run Tryz.prog w = .ok (.enter F args) w) (n : Nat) (hn : n ≤ 1000) (K : Nat → Bool × List Nat) (w : World)
    (hC : ∀ k, k < n → ∀ W, Below w.heap.size w W → Calls Tryz.prog F #[.int .i64 (k : Int), k0, k1, k2, k3] W (KAns W (K k).1 (K k).2)) :
    Calls Tryz.prog 36 #[.int .i64 (n : Int), .func (.func F) #[] #[k0, k1, k2, k3]] w (KRow w n K) := by
  have hmk := fun W => run_makeV 28 Tryz.underlying28 n (by omega) W
  have HC := Lib.hid hC
  have O0 := ownv_made w n (by omega)
  have hb0 := bxb w (.cells (madeCells #[.bool false, .slice none 0 0] (n * 2)) zT)
  unfold KRow
  unfold KAns at HC
  clear hC
  go_enter Tryz.func36, Tryz.ntmps36
  go_wp2
  go_loopw [11] (fun i wr => ∃ (k : Nat) (L : List ZE), k ≤ n ∧ i = .int .i64 (k : Int) ∧ OwnV wr w.heap.size (some ⟨w.heap.size, 0, none⟩) n n L ∧ (∀ j x, j < k → L[j]? = some x → x.key = K j) ∧ Below w.heap.size w wr) (fun i _ => n - (intOf i).toNat)
  case atStart => exact ⟨0, _, by omega, rfl, O0, fun j x hj => absurd hj (by omega), hb0⟩
  case round =>
    obtain ⟨k, L, hk, rfl, hO, hK, hB⟩ := hrel
    by_cases hlt : k < n
    · have HO := Lib.hid hO
      have HK := Lib.hid hK
      have HB := Lib.hid hB
      have HM := Lib.hid (HC.out k hlt wr hB)
      clear hO hK hB O0 hb0 hmk
      go_wp2_with fail
      refine HM.out.mono ?_
      rintro e w3 ⟨B, m, d, rfl, hoo, hb3⟩
      have HO3 := Lib.hid (HO.out.below hb3)
      obtain ⟨u, v, c0, c1, z0, z1⟩ := HO3.out.at hlt
      have HE := Lib.hid (own_mono hoo HB.out.size)
      have hg := Lib.hid (HO.out.row.lt w.heap.size rfl)
      have HB3 := Lib.hid (below_then HB.out hb3)
      clear hoo hb3
      go_wp2
      go_roundw
      case rel =>
        refine ⟨k + 1, L.set k ⟨(K k).1, B, m, d, (K k).2⟩, by omega, by go_num, HO3.out.set hlt (e := ⟨(K k).1, B, m, d, (K k).2⟩) HE.out, fun j x hj hx => ?_, (HB3.out.setCell (p := ⟨w.heap.size, k * 2, none⟩) (Nat.le_refl _) _).setCell (p := ⟨w.heap.size, k * 2 + 1, none⟩) (Nat.le_refl _) _⟩
        have hkl : k < L.length := by rw [HO.out.len]; exact hlt
        rcases Nat.lt_or_ge j k with hjk | hjk
        · rw [List.getElem?_set_ne (by omega)] at hx
          exact HK.out j x hjk hx
        · obtain rfl : j = k := by omega
          rw [List.getElem?_set_self hkl] at hx
          cases hx
          rfl
      case measure => simp [intOf]; omega
    · have HO := Lib.hid hO
      have HK := Lib.hid hK
      have HB := Lib.hid hB
      clear hO hK hB O0 hb0 hmk
      go_wp2
      go_ret
      refine ⟨_, _, L, rfl, HO.out, fun i x hx => HK.out i x ?_ hx, HB.out⟩
      have h1 := (List.getElem?_eq_some_iff.1 hx).1
      rw [HO.out.len] at h1
      omega
end Go.Proofs.YtgiokmfdafmaoaaGreat

/- vec: numbersMayBe, Check, alike. -/
namespace Go.Proofs.YtgiokmfdafmaoaaGreat
open Go.RowKit Go.Shelf
set_option linter.unusedVariables false
set_option linter.unusedSimpArgs false

set_option maxRecDepth 100000 in
set_option maxHeartbeats 4000000 in
theorem numbers_any (A : Option Addr) (n c : Nat) (L : List ZE) (w : World) (h : RdV w A n L) (hs : ∀ e, e ∈ L → e.n ≤ 400) (hn : n ≤ c) (hc : c ≤ 9223372036854775807) : Calls Tryz.prog 45 #[.slice A n c] w fun e w' => e = .returned (.int .i64 (if mayV L then 0 else 8)) ∧ Below w.heap.size w w' := by
  have HC : Hid (∀ (e : ZE) (W : World), e ∈ L → Below w.heap.size w W → Calls Tryz.prog 72 #[.agg #[.bool e.p, .slice e.A e.n e.c]] W fun x w' => x = .returned (.int .i64 (oneE e.p e.l)) ∧ Below W.heap.size W w') := fun e W he hW =>
    checkZ_any (p := e.p) (w := W) ⟨((h.ok e he).below hW).r, hs e he, (h.ok e he).c1, (h.ok e he).c2⟩
  have HL := Lib.hid h.len
  generalize hE : (if mayV L then (0 : Int) else 8) = E
  have HX := Lib.hid hE
  clear hE
  go_enter Tryz.func45, Tryz.ntmps45
  go_wp2
  go_loopw [8] (fun i wr => ∃ k : Nat, k ≤ n ∧ i = .int .i64 (k : Int) ∧ (∀ j e, j < k → L[j]? = some e → mayZ e.p e.l = true) ∧ Below w.heap.size w wr) (fun i _ => n - (intOf i).toNat)
  case atStart => exact ⟨0, by omega, rfl, fun j e hj => absurd hj (by omega), Below.refl _ _⟩
  case round =>
    obtain ⟨k, hk, rfl, h1, hB⟩ := hrel
    by_cases hlt : k < n
    · obtain ⟨e, he, _⟩ := h.elem hlt
      have hm : e ∈ L := List.mem_of_getElem? he
      obtain ⟨b, o, rfl, hbl, hc0, hc1⟩ := (h.below hB).cell he
      obtain ⟨p, A1, n1, c1, l1⟩ := e
      dsimp only at hc0 hc1
      have HB := Lib.hid (below_then hB (bxb wr (zo p A1 n1 c1)))
      have HM := Lib.hid (HC.out _ _ hm HB.out)
      dsimp only at HM
      have H1 := Lib.hid h1
      have HE := Lib.hid he
      cases e1 : mayZ p l1 with
      | false =>
        have HR : Hid (mayV L = false) := mayV_no he e1
        rw [oneE_no e1] at HM
        clear h1 hB h hs hm he e1
        go_wp2_with fail
        refine HM.out.mono ?_
        rintro x w3 ⟨rfl, hb3⟩
        have hB3 := Lib.hid (below_then HB.out hb3)
        clear hb3
        go_wp2
        go_ret
        exact ⟨by rw [← HX.out, HR.out]; rfl, hB3.out⟩
      | true =>
        have HK := Lib.hid e1
        rw [oneE_ok e1] at HM
        clear h1 hB h hs hm he e1
        go_wp2_with fail
        refine HM.out.mono ?_
        rintro x w3 ⟨rfl, hb3⟩
        have hB3 := Lib.hid (below_then HB.out hb3)
        clear hb3
        go_wp2
        go_roundw
        case rel =>
          refine ⟨k + 1, by omega, by go_num, fun j e hj hje => ?_, hB3.out⟩
          rcases Nat.lt_or_ge j k with hjk | hjk
          · exact H1.out j e hjk hje
          · obtain rfl : j = k := by omega
            rw [HE.out] at hje
            cases hje
            exact HK.out
        case measure => simp [intOf]; omega
    · have HR : Hid (mayV L = true) := mayV_yes HL.out fun j e hj hje => h1 j e (by omega) hje
      have HB := Lib.hid hB
      clear h1 hB h hs
      go_wp2
      go_ret
      exact ⟨by rw [← HX.out, HR.out]; rfl, HB.out⟩
/-- Rows of one number, of two, as variadic calls lay them. -/
theorem rdv_one {w : World} {p : Bool} {B : Option Addr} {m d : Nat} {l : List Nat} (h : ZE.ok w ⟨p, B, m, d, l⟩) : RdV (w.alloc (zo p B m d)) (some ⟨w.heap.size, 0, none⟩) 1 [⟨p, B, m, d, l⟩] := by
  have hb : BoxZ (w.alloc (zo p B m d)) w.heap.size p B m d := World.alloc_heap_new _ _
  refine ⟨rfl, fun e he => ?_, fun _ => ⟨w.heap.size, 0, rfl, by rw [World.size_alloc]; omega, fun i x hx => ?_⟩⟩
  · rw [List.mem_singleton] at he
    subst he
    exact h.below (bxb _ _)
  · match i, hx with
    | 0, hx => cases hx; exact ⟨hb.c0, hb.c1⟩
abbrev zo2 (p : Bool) (A : Option Addr) (n c : Nat) (q : Bool) (B : Option Addr) (m d : Nat) : Obj := .cells #[.bool p, .slice A n c, .bool q, .slice B m d] zT
theorem rdv_two {w : World} {p q : Bool} {A B : Option Addr} {n c m d : Nat} {l k : List Nat} (h : ZE.ok w ⟨p, A, n, c, l⟩) (h2 : ZE.ok w ⟨q, B, m, d, k⟩) : RdV (w.alloc (zo2 p A n c q B m d)) (some ⟨w.heap.size, 0, none⟩) 2 [⟨p, A, n, c, l⟩, ⟨q, B, m, d, k⟩] := by
  have hb : (w.alloc (zo2 p A n c q B m d)).heap[w.heap.size]? = some (zo2 p A n c q B m d) := World.alloc_heap_new _ _
  refine ⟨rfl, fun e he => ?_, fun _ => ⟨w.heap.size, 0, rfl, by rw [World.size_alloc]; omega, fun i x hx => ?_⟩⟩
  · rcases List.mem_cons.1 he with rfl | he
    · exact h.below (bxb _ _)
    · rw [List.mem_singleton] at he
      subst he
      exact h2.below (bxb _ _)
  · match i, hx with
    | 0, hx => cases hx; exact ⟨cells_cell hb rfl, cells_cell hb rfl⟩
    | 1, hx => cases hx; exact ⟨cells_cell hb rfl, cells_cell hb rfl⟩
section
variable {A A2 : Option Addr} {n c m d : Nat} {L M : List ZE} {w : World}
set_option maxRecDepth 100000 in
set_option maxHeartbeats 4000000 in
theorem checkV_any (h : V1 w A n c L) : Calls Tryz.prog 14 #[.slice A n c] w fun e w' => e = .returned (.int .i64 (if mayR L then 0 else 8)) ∧ Below w.heap.size w w' := by
  have hN := numbers_any A n c L w h.rd (fun e he => Nat.le_trans (h.small e he) (by omega)) h.c1 h.c2
  have hl := h.rd.len
  have hf := h.few
  unfold mayR
  clear h
  by_cases h64 : n ≤ 64
  · rw [show decide (L.length ≤ 64) = true from decide_eq_true (by omega), Bool.and_true]
    generalize (if mayV L = true then (0 : Int) else 8) = E at *
    have g1 : ¬ (64 : Int) < (n : Int) := by omega
    go_enter Tryz.func14, Tryz.ntmps14
    go_wp2_with fail
    refine hN.mono ?_
    rintro e w1 ⟨rfl, hb⟩
    go_wp2
    go_ret
    exact ⟨rfl, hb⟩
  · rw [show decide (L.length ≤ 64) = false from decide_eq_false (by omega), Bool.and_false]
    have g1 : (64 : Int) < (n : Int) := by omega
    go_enter Tryz.func14, Tryz.ntmps14
    go_wp2
    go_ret
    exact ⟨rfl, Below.refl _ _⟩
abbrev vT : TypeId := 28
abbrev rows2 (A : Option Addr) (n c : Nat) (A2 : Option Addr) (m d : Nat) : Obj := .cells #[.slice A n c, .slice A2 m d] vT
theorem two_E (L M : List ZE) : ((if mayR L then (0 : Int) else 8) = 0 → (if mayR M then (0 : Int) else 8) = 0 → twoVE L M = if L.length = M.length then 0 else 70) ∧ ((if mayR L then (0 : Int) else 8) ≠ 0 → twoVE L M = (if mayR L then (0 : Int) else 8)) ∧ ((if mayR M then (0 : Int) else 8) ≠ 0 → twoVE L M = (if mayR M then (0 : Int) else 8)) := by
  unfold twoVE
  cases mayR L <;> cases mayR M <;> simp
set_option maxRecDepth 100000 in
set_option maxHeartbeats 4000000 in
theorem alike_any (h : V1 w A n c L) (h2 : V1 w A2 m d M) : Calls Tryz.prog 40 #[.slice A n c, .slice A2 m d] w fun e w' => e = .returned (.int .i64 (twoVE L M)) ∧ Below w.heap.size w w' := by
  have HG : Hid (∀ W, Below (w.heap.size + 1) (w.alloc (rows2 A n c A2 m d)) W → W.cell? ⟨w.heap.size, 0, none⟩ = some (.slice A n c) ∧ W.cell? ⟨w.heap.size, 1, none⟩ = some (.slice A2 m d)) := fun W hb => by
    have h0 : (w.alloc (rows2 A n c A2 m d)).heap[w.heap.size]? = some (rows2 A n c A2 m d) := World.alloc_heap_new _ _
    exact ⟨cells_cell ((hb.block _ (Nat.lt_succ_self _)).trans h0) rfl, cells_cell ((hb.block _ (Nat.lt_succ_self _)).trans h0) rfl⟩
  have HC1 := Lib.hid (fun W (hW : Below w.heap.size w W) => checkV_any (h.below hW))
  have HC2 := Lib.hid (fun W (hW : Below w.heap.size w W) => checkV_any (h2.below hW))
  have TT := two_E L M
  rw [h.rd.len, h2.rd.len] at TT
  have TT := Lib.hid TT
  have hf := h.few
  have hf2 := h2.few
  have hB0 := bxb w (rows2 A n c A2 m d)
  generalize (if mayR L then (0 : Int) else 8) = E1 at HC1 TT
  generalize (if mayR M then (0 : Int) else 8) = E2 at HC2 TT
  generalize twoVE L M = E3 at TT ⊢
  clear h h2
  go_enter Tryz.func40, Tryz.ntmps40
  go_wp2
  go_loopw [12] (fun i wr => ∃ k : Nat, k ≤ 2 ∧ i = .int .i64 (k : Int) ∧ ((1 ≤ k → E1 = 0) ∧ (2 ≤ k → E2 = 0)) ∧ Below (w.heap.size + 1) (w.alloc (rows2 A n c A2 m d)) wr ∧ Below w.heap.size w wr) (fun i _ => 2 - (intOf i).toNat)
  case atStart => exact ⟨0, by omega, rfl, ⟨fun h => absurd h (by omega), fun h => absurd h (by omega)⟩, Below.refl _ _, hB0⟩
  case round =>
    obtain ⟨k, hk, rfl, h1, hA, hB⟩ := hrel
    have hc0 := (HG.out _ hA).1
    have hc1 := (HG.out _ hA).2
    obtain rfl | rfl | rfl : k = 0 ∨ k = 1 ∨ k = 2 := by omega
    · have HB := Lib.hid hB
      have HA := Lib.hid hA
      by_cases hE : E1 = 0
      · rw [hE] at HC1
        have HE := Lib.hid hE
        clear hB h1 hE hA
        go_wp2_with fail
        refine (HC1.out _ HB.out).mono ?_
        rintro e w3 ⟨rfl, hb3⟩
        have hB3 := Lib.hid (below_then HB.out hb3)
        have hA3 := Lib.hid (HA.out.trans (hb3.mono (by have hq := HA.out.size; rwa [World.size_alloc] at hq)))
        clear hb3
        go_wp2
        go_roundw
        case rel => exact ⟨1, by omega, rfl, ⟨fun _ => HE.out, fun h => absurd h (by omega)⟩, hA3.out, hB3.out⟩
        case measure => simp [intOf]
      · have HR : Hid (E3 = E1) := TT.out.2.1 hE
        have hE2 : ((E1 : Int) != 0) = true := by simpa using hE
        have hE3 : ((E1 : Int) == 0) = false := by simpa using hE
        clear hB h1 hE hA
        go_wp2_with fail
        refine (HC1.out _ HB.out).mono ?_
        rintro e w3 ⟨rfl, hb3⟩
        have hB3 := Lib.hid (below_then HB.out hb3)
        clear hb3
        go_wp2
        go_ret
        exact ⟨by rw [HR.out]; rfl, hB3.out⟩
    · have HB := Lib.hid hB
      have HA := Lib.hid hA
      by_cases hE : E2 = 0
      · rw [hE] at HC2
        have HE := Lib.hid hE
        have H1 := Lib.hid h1
        clear hB h1 hE hA
        go_wp2_with fail
        refine (HC2.out _ HB.out).mono ?_
        rintro e w3 ⟨rfl, hb3⟩
        have hB3 := Lib.hid (below_then HB.out hb3)
        have hA3 := Lib.hid (HA.out.trans (hb3.mono (by have hq := HA.out.size; rwa [World.size_alloc] at hq)))
        clear hb3
        go_wp2
        go_roundw
        case rel => exact ⟨2, by omega, rfl, ⟨fun _ => H1.out.1 (by omega), fun h => HE.out⟩, hA3.out, hB3.out⟩
        case measure => simp [intOf]
      · have HR : Hid (E3 = E2) := TT.out.2.2 hE
        have hE2 : ((E2 : Int) != 0) = true := by simpa using hE
        have hE3 : ((E2 : Int) == 0) = false := by simpa using hE
        clear hB h1 hE hA
        go_wp2_with fail
        refine (HC2.out _ HB.out).mono ?_
        rintro e w3 ⟨rfl, hb3⟩
        have hB3 := Lib.hid (below_then HB.out hb3)
        clear hb3
        go_wp2
        go_ret
        exact ⟨by rw [HR.out]; rfl, hB3.out⟩
    · have HR : Hid (E3 = if n = m then 0 else 70) := TT.out.1 (h1.1 (by omega)) (h1.2 (by omega))
      have HB := Lib.hid hB
      clear h1 hB hA
      by_cases hnm : n = m
      · subst hnm
        rw [if_pos rfl] at HR
        go_wp2
        go_ret
        exact ⟨by rw [HR.out]; rfl, HB.out⟩
      · rw [if_neg hnm] at HR
        have g1 : ¬ (n : Int) = (m : Int) := by omega
        go_wp2
        go_ret
        exact ⟨by rw [HR.out]; rfl, HB.out⟩
end
end Go.Proofs.YtgiokmfdafmaoaaGreat

/- vec: sum, times, part. -/
namespace Go.Proofs.YtgiokmfdafmaoaaGreat
open Go.RowKit Go.Shelf
set_option linter.unusedVariables false
set_option linter.unusedSimpArgs false

section
variable {A A2 : Option Addr} {na ca nb cb : Nat} {w : World} {z y : Int}
set_option maxRecDepth 100000 in
set_option maxHeartbeats 4000000 in
theorem timesV_any (ha : ZNm w A na ca z) (hb : ZNm w A2 nb cb y) (l1 : na ≤ 400) (l2 : nb ≤ 400) : Calls Tryz.prog 47 #[zV z A na ca, zV y A2 nb cb] w (ZOne w (z * y)) := by
  have HN := Lib.hid (fun W (hW : Below w.heap.size w W) => mulN (w := W) (ha.below hW) (hb.below hW) l1 l2)
  have T0 := tri_box w (decide (z < 0)) A na ca (decide (y < 0)) A2 nb cb
  clear ha hb l1 l2
  generalize z * y = t at HN ⊢
  unfold zV zv ZOne at *
  have xa0 := T0.t.x.c0
  have xa1 := T0.t.x.c1
  have xb0 := T0.t.y.c0
  have xb1 := T0.t.y.c1
  have r0 := T0.r.c0
  have r1 := T0.r.c1
  have f0 := T0.r.f 0
  have f1 := T0.r.f 1
  go_enter Tryz.func47, Tryz.ntmps47
  go_wp2_with fail
  refine (HN.out _ T0.t.b).mono ?_
  rintro e w1 ⟨A3, k3, c3, rfl, o3, hb⟩
  have T1 := T0.next (below_then hb (bxb _ (zo (decide (t < 0)) A3 k3 c3)))
  have hG := Lib.hid (Array.getElem?_eq_some_iff.1 T0.r).1
  have hP : BoxZ (w1.alloc (zo (decide (t < 0)) A3 k3 c3)) w1.heap.size (decide (t < 0)) A3 k3 c3 := World.alloc_heap_new _ _
  have o4 := o3.below (bxb _ (zo (decide (t < 0)) A3 k3 c3))
  clear hb T0 o3
  clear xa0 xa1 xb0 xb1 r0 r1 f0 f1
  have r0 := T1.r.c0
  have r1 := T1.r.c1
  have f0 := T1.r.f 0
  have f1 := T1.r.f 1
  have p0 := hP.c0
  have p1 := hP.c1
  have hg1 := (Array.getElem?_eq_some_iff.1 T1.r).1
  unfold zV zv
  go_wp2
  refine bodyPost_ret (v := zV t A3 k3 c3) (by simp [results, Tryz.results47, go_sem, r0, r1, zV, zv]) rfl ?_
  exact ⟨A3, k3, c3, rfl, own_box hG.out (show w.heap.size ≤ w.heap.size + 1 + 1 by omega) o4 _ _, box_below (show w.heap.size ≤ w.heap.size + 1 + 1 by omega) T1.t.b _ _⟩
set_option maxRecDepth 100000 in
set_option maxHeartbeats 4000000 in
theorem sumV_any (ha : ZNm w A na ca z) (hb : ZNm w A2 nb cb y) (l1 : na ≤ 400) (l2 : nb ≤ 400) : Calls Tryz.prog 44 #[zV z A na ca, zV y A2 nb cb] w (ZOne w (z + y)) := by
  have HN := Lib.hid (fun W (hW : Below w.heap.size w W) => addN (w := W) (ha.below hW) (hb.below hW) l1 l2)
  have T0 := tri_box w (decide (z < 0)) A na ca (decide (y < 0)) A2 nb cb
  clear ha hb l1 l2
  generalize z + y = t at HN ⊢
  unfold zV zv ZOne at *
  have xa0 := T0.t.x.c0
  have xa1 := T0.t.x.c1
  have xb0 := T0.t.y.c0
  have xb1 := T0.t.y.c1
  have r0 := T0.r.c0
  have r1 := T0.r.c1
  have f0 := T0.r.f 0
  have f1 := T0.r.f 1
  go_enter Tryz.func44, Tryz.ntmps44
  go_wp2_with fail
  refine (HN.out _ T0.t.b).mono ?_
  rintro e w1 ⟨A3, k3, c3, rfl, o3, hb⟩
  have T1 := T0.next (below_then hb (bxb _ (zo (decide (t < 0)) A3 k3 c3)))
  have hG := Lib.hid (Array.getElem?_eq_some_iff.1 T0.r).1
  have hP : BoxZ (w1.alloc (zo (decide (t < 0)) A3 k3 c3)) w1.heap.size (decide (t < 0)) A3 k3 c3 := World.alloc_heap_new _ _
  have o4 := o3.below (bxb _ (zo (decide (t < 0)) A3 k3 c3))
  clear hb T0 o3
  clear xa0 xa1 xb0 xb1 r0 r1 f0 f1
  have r0 := T1.r.c0
  have r1 := T1.r.c1
  have f0 := T1.r.f 0
  have f1 := T1.r.f 1
  have p0 := hP.c0
  have p1 := hP.c1
  have hg1 := (Array.getElem?_eq_some_iff.1 T1.r).1
  unfold zV zv
  go_wp2
  refine bodyPost_ret (v := zV t A3 k3 c3) (by simp [results, Tryz.results44, go_sem, r0, r1, zV, zv]) rfl ?_
  exact ⟨A3, k3, c3, rfl, own_box hG.out (show w.heap.size ≤ w.heap.size + 1 + 1 by omega) o4 _ _, box_below (show w.heap.size ≤ w.heap.size + 1 + 1 by omega) T1.t.b _ _⟩
theorem nat_nm {C : Option Addr} {m d : Nat} {g : Nat} (h : Nm w C m d g) : ZNm w C m d (g : Int) := by
  have e : ((g : Int)).natAbs = g := Int.natAbs_natCast g
  unfold ZNm
  rw [e]
  exact h
set_option maxRecDepth 100000 in
set_option maxHeartbeats 4000000 in
theorem partV_any {C : Option Addr} {m d g : Nat} (ha : ZNm w A na ca z) (hc : ZNm w C m d (g : Int)) (l1 : na ≤ 400) (l2 : m ≤ 400) (h0 : g ≠ 0) (hd : (g : Int) ∣ z) : Calls Tryz.prog 39 #[zV z A na ca, .slice C m d] w (ZOne w (Int.fdiv z (g : Int))) := by
  have HN : Hid (∀ W, Below w.heap.size w W → Calls Tryz.prog 67 #[.agg #[.bool (decide (z < 0)), .slice A na ca], .agg #[.bool false, .slice C m d]] W (ZAns W (Int.fdiv z (g : Int)) 0)) := fun W hW => by
    have h := exactN (w := W) (ha.below hW) (hc.below hW) l1 l2 (by omega)
    rw [if_pos hd, if_pos hd, show decide ((g : Int) < 0) = false from decide_eq_false (by omega)] at h
    exact h
  have T0 := duo_box w (decide (z < 0)) A na ca
  clear ha hc l1 l2 hd h0
  generalize Int.fdiv z (g : Int) = t at HN ⊢
  unfold zV zv ZOne ZAns at *
  have xa0 := T0.x.c0
  have xa1 := T0.x.c1
  have r0 := T0.r.c0
  have r1 := T0.r.c1
  have f0 := T0.r.f 0
  have f1 := T0.r.f 1
  go_enter Tryz.func39, Tryz.ntmps39
  go_wp2_with fail
  refine (HN.out _ T0.b).mono ?_
  rintro e w1 ⟨A3, k3, c3, rfl, o3, hb⟩
  have T1 := T0.next (below_then hb (bxb _ (zo (decide (t < 0)) A3 k3 c3)))
  have hG := Lib.hid (Array.getElem?_eq_some_iff.1 T0.r).1
  have hP : BoxZ (w1.alloc (zo (decide (t < 0)) A3 k3 c3)) w1.heap.size (decide (t < 0)) A3 k3 c3 := World.alloc_heap_new _ _
  have o4 := o3.below (bxb _ (zo (decide (t < 0)) A3 k3 c3))
  clear hb T0 o3
  clear xa0 xa1 r0 r1 f0 f1
  have r0 := T1.r.c0
  have r1 := T1.r.c1
  have f0 := T1.r.f 0
  have f1 := T1.r.f 1
  have p0 := hP.c0
  have p1 := hP.c1
  have hg1 := (Array.getElem?_eq_some_iff.1 T1.r).1
  unfold zV zv
  go_wp2
  refine bodyPost_ret (v := zV t A3 k3 c3) (by simp [results, Tryz.results39, go_sem, r0, r1, zV, zv]) rfl ?_
  exact ⟨A3, k3, c3, rfl, own_box hG.out (show w.heap.size ≤ w.heap.size + 1 by omega) o4 _ _, box_below (show w.heap.size ≤ w.heap.size + 1 by omega) T1.b _ _⟩
end
end Go.Proofs.YtgiokmfdafmaoaaGreat

/- Rows in lowest terms: what follows. -/
namespace Go.Proofs.YtgiokmfdafmaoaaGreat
set_option linter.unusedVariables false
set_option linter.unusedSimpArgs false

theorem prime_none {f : Nat → Int} {n i : Nat} (h : gcdTo f n = 0) (hi : i < n) : primeV f n i = f i ∧ f i = 0 := by
  have h1 := gcdTo_zero.1 h i hi
  unfold primeV
  rw [if_pos h]
  exact ⟨rfl, h1⟩
theorem prime_back {f : Nat → Int} {n i : Nat} (hi : i < n) : (gcdTo f n : Int) * primeV f n i = f i := by
  by_cases h : gcdTo f n = 0
  · rw [(prime_none h hi).1, (prime_none h hi).2, Int.mul_zero]
  · unfold primeV
    rw [if_neg h]
    exact Int.mul_tdiv_cancel' (Int.ofNat_dvd_left.2 (gcdTo_dvd hi))
theorem prime_one {f : Nat → Int} {n : Nat} (h : gcdTo f n ≠ 0) : gcdTo (primeV f n) n = 1 := gcdTo_prime rfl h fun i hi => (prime_back hi).symm
theorem prime_nought {f : Nat → Int} {n : Nat} (h : gcdTo f n = 0) : gcdTo (primeV f n) n = 0 := gcdTo_zero.2 fun i hi => by rw [(prime_none h hi).1, (prime_none h hi).2]
theorem sgn_abs (m : Int) : sgn m * (m.natAbs : Int) = m := by
  unfold sgn
  split
  · omega
  · split <;> omega
/-- A row scaled by a number that is not 0, in lowest terms. -/
theorem prime_scale {f : Nat → Int} {n i : Nat} {m : Int} (hm : m ≠ 0) (hi : i < n) : primeV (fun i => m * f i) n i = sgn m * primeV f n i := by
  have hg := gcdTo_scale m f n
  by_cases h : gcdTo f n = 0
  · have h2 : gcdTo (fun i => m * f i) n = 0 := by rw [hg, h, Nat.mul_zero]
    rw [(prime_none h2 hi).1, (prime_none h hi).1, (prime_none h hi).2, Int.mul_zero, Int.mul_zero]
  · have h2 : gcdTo (fun i => m * f i) n ≠ 0 := by rw [hg]; exact Nat.mul_ne_zero (by omega) h
    have h3 := prime_back (f := fun i => m * f i) hi
    have h4 := prime_back (f := f) hi
    have h5 : ((gcdTo (fun i => m * f i) n : Nat) : Int) * primeV (fun i => m * f i) n i = ((gcdTo (fun i => m * f i) n : Nat) : Int) * (sgn m * primeV f n i) := by
      rw [h3, hg, Int.natCast_mul]
      have h6 : (m.natAbs : Int) * (gcdTo f n : Int) * (sgn m * primeV f n i) = (sgn m * (m.natAbs : Int)) * ((gcdTo f n : Int) * primeV f n i) := by
        simp only [Int.mul_assoc, Int.mul_comm, Int.mul_left_comm]
      rw [h6, sgn_abs, h4]
    exact Int.eq_of_mul_eq_mul_left (by omega) h5
theorem scale_zero {f : Nat → Int} {n i : Nat} (hi : i < n) : primeV (fun i => 0 * f i) n i = 0 := by
  have h : gcdTo (fun i => 0 * f i) n = 0 := gcdTo_zero.2 fun i _ => Int.zero_mul _
  rw [(prime_none h hi).1]
  exact Int.zero_mul _
/-- Which is ahead is kept by a third row, and turned the other way round. -/
theorem cmp_both (f g h : Nat → Int) (n : Nat) : firstTo (fun i => sgn ((f i + h i) - (g i + h i))) n = firstTo (fun i => sgn (f i - g i)) n :=
  firstTo_congr fun i _ => by rw [show (f i + h i) - (g i + h i) = f i - g i by omega]
theorem cmp_turn (f g : Nat → Int) (n : Nat) : firstTo (fun i => sgn (g i - f i)) n = -(firstTo (fun i => sgn (f i - g i)) n) := by
  rw [← firstTo_neg]
  exact firstTo_congr fun i _ => by rw [← sgn_neg, show -(f i - g i) = g i - f i by omega]
theorem cmp_same {f g : Nat → Int} {n : Nat} : firstTo (fun i => sgn (f i - g i)) n = 0 ↔ ∀ i, i < n → f i = g i := by
  rw [firstTo_zero]
  constructor
  · intro h i hi
    have := sgn_zero.1 (h i hi)
    omega
  · intro h i hi
    exact sgn_zero.2 (by rw [h i hi]; omega)
end Go.Proofs.YtgiokmfdafmaoaaGreat

/- vec: what makes a place. -/
namespace Go.Proofs.YtgiokmfdafmaoaaGreat
open Go.RowKit Go.Shelf
set_option linter.unusedVariables false
set_option linter.unusedSimpArgs false

/-- Sign and limbs of f's values. -/
def numK (f : Nat → Int) (i : Nat) : Bool × List Nat := (decide (f i < 0), limbs (f i).natAbs)
theorem numK_at {f : Nat → Int} {k : Nat} {z : Int} (h : f k = z) : numK f k = (decide (z < 0), limbs z.natAbs) := by subst h; rfl
theorem isv_key {L : List ZE} {n : Nat} {f : Nat → Int} (hl : L.length = n) (h : ∀ i x, L[i]? = some x → x.key = numK f i) : IsV L n f := by
  refine ⟨hl, fun i e he => ?_⟩
  have h1 := h i e he
  unfold ZE.key numK at h1
  rw [Prod.mk.injEq] at h1
  exact h1
abbrev bv (A : Option Addr) (n c : Nat) : Obj := .cells #[.slice A n c] vT
/-- A row in a block of its own, for closures. -/
def BoxV (w : World) (g : Nat) (A : Option Addr) (n c : Nat) : Prop := w.heap[g]? = some (bv A n c)
section
variable {A A2 B B2 : Option Addr} {n c m d nb cb na ca g1 g2 g3 g4 k : Nat} {L M : List ZE} {w W : World} {z y : Int}
theorem BoxV.lt (h : BoxV w g1 A n c) : g1 < w.heap.size := (Array.getElem?_eq_some_iff.1 h).1
theorem BoxV.next (h : BoxV w g1 A n c) (hb : Below w.heap.size w W) : BoxV W g1 A n c := (hb.block g1 h.lt).trans h
theorem BoxV.c0 (h : BoxV w g1 A n c) : w.cell? ⟨g1, 0, none⟩ = some (.slice A n c) := cells_cell h rfl
theorem BoxV.f (h : BoxV w g1 A n c) (j : Nat) : w.frozen? ⟨g1, j, none⟩ = false := cells_frozen h
/-- The k-th number of a row that may be. -/
theorem V1.num (h : V1 w A n c L) (hm : mayR L = true) (hk : k < n) : ∃ b o B m d, A = some ⟨b, o, none⟩ ∧ b < w.heap.size ∧ w.cell? ⟨b, o + k * 2, none⟩ = some (.bool (decide (zat L k < 0))) ∧ w.cell? ⟨b, o + k * 2 + 1, none⟩ = some (.slice B m d) ∧ ZNm w B m d (zat L k) ∧ m ≤ 60 := by
  obtain ⟨e, he, hok⟩ := h.rd.elem hk
  obtain ⟨b, o, hA, hlt, h0, h1⟩ := h.rd.cell he
  have hi := (h.isv hm).num k e he
  rw [hi.1] at h0
  refine ⟨b, o, e.A, e.n, e.c, hA, hlt, h0, h1, ?_, h.small e (List.mem_of_getElem? he)⟩
  have hr := hok.r
  rw [hi.2] at hr
  exact ⟨hr, hok.c1, hok.c2⟩
theorem V1.numH (h : V1 w A n c L) (hm : mayR L = true) (hk : k < n) : ∃ (s : Int), Hid (zat L k = s) ∧ ∃ b o B m d, A = some ⟨b, o, none⟩ ∧ b < w.heap.size ∧ w.cell? ⟨b, o + k * 2, none⟩ = some (.bool (decide (s < 0))) ∧ w.cell? ⟨b, o + k * 2 + 1, none⟩ = some (.slice B m d) ∧ ZNm w B m d s ∧ m ≤ 60 :=
  ⟨zat L k, Lib.hid rfl, h.num hm hk⟩
theorem V1.bd {w : World} {A : Option Addr} {n c : Nat} {L : List ZE} (h : V1 w A n c L) (hm : mayR L = true) : BdV 60 n (zat L) := fun i hi => by
  obtain ⟨_, _, B, m, d, _, _, _, _, hz, hl⟩ := h.num hm hi
  exact Bd.of hz hl
theorem two_may (h : twoVE L M = 0) : mayR L = true ∧ mayR M = true ∧ L.length = M.length := by
  unfold twoVE at h
  cases h1 : mayR L <;> cases h2 : mayR M <;> rw [h1, h2] at h <;> simp at h
  refine ⟨rfl, rfl, ?_⟩
  by_cases e : L.length = M.length
  · exact e
  · exact absurd h e
set_option maxRecDepth 100000 in
set_option maxHeartbeats 4000000 in
theorem dotClo_any (hx : BoxV w g1 A n c) (hy : BoxV w g2 A2 m d) (h : V1 w A n c L) (h2 : V1 w A2 m d M) (he : twoVE L M = 0) (hk : k < n) : Calls Tryz.prog 46 #[.int .i64 (k : Int), .pointer (some ⟨g1, 0, none⟩), .pointer (some ⟨g2, 0, none⟩)] w (KAns w (numK (fun i => zat L i * zat M i) k).1 (numK (fun i => zat L i * zat M i) k).2) := by
  obtain ⟨hm1, hm2, hl⟩ := two_may he
  have hk2 : k < m := by rw [← h2.rd.len, ← hl, h.rd.len]; exact hk
  obtain ⟨s, hs, b, o, B, nb, cb, rfl, hb, x0, x1, zn, lb⟩ := h.numH hm1 hk
  obtain ⟨t, ht, b2, o2, B2, nb2, cb2, rfl, hb2, y0, y1, zn2, lb2⟩ := h2.numH hm2 hk2
  have T0 := uno_box w false none 0 0
  have HM := Lib.hid (fun W (hW : Below w.heap.size w W) => timesV_any (w := W) (zn.below hW) (zn2.below hW) (by omega) (by omega))
  have HC : Hid (∀ W', Below w.heap.size w W' → W'.cell? ⟨g1, 0, none⟩ = some (.slice (some ⟨b, o, none⟩) n c) ∧ W'.cell? ⟨g2, 0, none⟩ = some (.slice (some ⟨b2, o2, none⟩) m d) ∧ W'.cell? ⟨b, o + k * 2, none⟩ = some (.bool (decide (s < 0))) ∧ W'.cell? ⟨b, o + k * 2 + 1, none⟩ = some (.slice B nb cb) ∧ W'.cell? ⟨b2, o2 + k * 2, none⟩ = some (.bool (decide (t < 0))) ∧ W'.cell? ⟨b2, o2 + k * 2 + 1, none⟩ = some (.slice B2 nb2 cb2)) := fun W' hW => ⟨(hx.next hW).c0, (hy.next hW).c0, (hW.cell (p := ⟨b, o + k * 2, none⟩) hb).trans x0, (hW.cell (p := ⟨b, o + k * 2 + 1, none⟩) hb).trans x1, (hW.cell (p := ⟨b2, o2 + k * 2, none⟩) hb2).trans y0, (hW.cell (p := ⟨b2, o2 + k * 2 + 1, none⟩) hb2).trans y1⟩
  have r0 := T0.x.c0
  have r1 := T0.x.c1
  have f0 := T0.x.f 0
  have f1 := T0.x.f 1
  have HT0 := Lib.hid (T0.next (Below.refl _ _).drew)
  clear x0 x1 y0 y1
  obtain ⟨c0, c1, x0, x1, y0, y1⟩ := HC.out _ T0.b
  have hl1 := hx.lt
  have hl2 := hy.lt
  clear h h2 he hm1 hm2 hl hx hy zn zn2
  rw [numK_at (f := fun i => zat L i * zat M i) (k := k) (z := s * t) (by show zat L k * zat M k = _; rw [hs.out, ht.out])]
  unfold KAns
  dsimp only
  unfold ZOne zV zv at HM
  go_enter Tryz.func46, Tryz.ntmps46
  go_wp2_with fail
  go_region_held3 (fun W' => W'.cell? ⟨g1, 0, none⟩ = some (.slice (some ⟨b, o, none⟩) n c) ∧ W'.cell? ⟨g2, 0, none⟩ = some (.slice (some ⟨b2, o2, none⟩) m d) ∧ W'.cell? ⟨b, o + k * 2, none⟩ = some (.bool (decide (s < 0))) ∧ W'.cell? ⟨b, o + k * 2 + 1, none⟩ = some (.slice B nb cb) ∧ W'.cell? ⟨b2, o2 + k * 2, none⟩ = some (.bool (decide (t < 0))) ∧ W'.cell? ⟨b2, o2 + k * 2 + 1, none⟩ = some (.slice B2 nb2 cb2)) (first | (with_reducible exact ⟨c0, c1, x0, x1, y0, y1⟩) | (with_reducible refine ⟨cell_far (cell_far c0 ?_ _) ?_ _, cell_far (cell_far c1 ?_ _) ?_ _, cell_far (cell_far x0 ?_ _) ?_ _, cell_far (cell_far x1 ?_ _) ?_ _, cell_far (cell_far y0 ?_ _) ?_ _, cell_far (cell_far y1 ?_ _) ?_ _⟩ <;> omega) | go_keep)
    (first | (go_at_call 47; refine (HM.out _ HT0.out.b).mono ?_; rintro e w1 ⟨A3, k3, c3, rfl, o3, hb3⟩; have T1 := HT0.out.next hb3; clear r0 r1 f0 f1 c0 c1 x0 x1 y0 y1; have r0 := T1.x.c0; have r1 := T1.x.c1; have f0 := T1.x.f 0; have f1 := T1.x.f 1; obtain ⟨c0, c1, x0, x1, y0, y1⟩ := HC.out _ T1.b))
  have hG := Lib.hid (Array.getElem?_eq_some_iff.1 HT0.out.x).1
  clear c0 c1 x0 x1 y0 y1
  go_wp2
  refine bodyPost_ret (v := .agg #[.bool (decide (s * t < 0)), .slice A3 k3 c3]) (by simp [results, Tryz.results46, go_sem, r0, r1]) rfl ?_
  exact ⟨A3, k3, c3, rfl, own_box hG.out (Nat.le_refl _) o3 _ _, box_below (Nat.le_refl _) T1.b _ _⟩
set_option maxRecDepth 100000 in
set_option maxHeartbeats 4000000 in
theorem addVClo_any (hx : BoxV w g1 A n c) (hy : BoxV w g2 A2 m d) (h : V1 w A n c L) (h2 : V1 w A2 m d M) (he : twoVE L M = 0) (hk : k < n) : Calls Tryz.prog 43 #[.int .i64 (k : Int), .pointer (some ⟨g1, 0, none⟩), .pointer (some ⟨g2, 0, none⟩)] w (KAns w (numK (fun i => zat L i + zat M i) k).1 (numK (fun i => zat L i + zat M i) k).2) := by
  obtain ⟨hm1, hm2, hl⟩ := two_may he
  have hk2 : k < m := by rw [← h2.rd.len, ← hl, h.rd.len]; exact hk
  obtain ⟨s, hs, b, o, B, nb, cb, rfl, hb, x0, x1, zn, lb⟩ := h.numH hm1 hk
  obtain ⟨t, ht, b2, o2, B2, nb2, cb2, rfl, hb2, y0, y1, zn2, lb2⟩ := h2.numH hm2 hk2
  have T0 := uno_box w false none 0 0
  have HM := Lib.hid (fun W (hW : Below w.heap.size w W) => sumV_any (w := W) (zn.below hW) (zn2.below hW) (by omega) (by omega))
  have HC : Hid (∀ W', Below w.heap.size w W' → W'.cell? ⟨g1, 0, none⟩ = some (.slice (some ⟨b, o, none⟩) n c) ∧ W'.cell? ⟨g2, 0, none⟩ = some (.slice (some ⟨b2, o2, none⟩) m d) ∧ W'.cell? ⟨b, o + k * 2, none⟩ = some (.bool (decide (s < 0))) ∧ W'.cell? ⟨b, o + k * 2 + 1, none⟩ = some (.slice B nb cb) ∧ W'.cell? ⟨b2, o2 + k * 2, none⟩ = some (.bool (decide (t < 0))) ∧ W'.cell? ⟨b2, o2 + k * 2 + 1, none⟩ = some (.slice B2 nb2 cb2)) := fun W' hW => ⟨(hx.next hW).c0, (hy.next hW).c0, (hW.cell (p := ⟨b, o + k * 2, none⟩) hb).trans x0, (hW.cell (p := ⟨b, o + k * 2 + 1, none⟩) hb).trans x1, (hW.cell (p := ⟨b2, o2 + k * 2, none⟩) hb2).trans y0, (hW.cell (p := ⟨b2, o2 + k * 2 + 1, none⟩) hb2).trans y1⟩
  have r0 := T0.x.c0
  have r1 := T0.x.c1
  have f0 := T0.x.f 0
  have f1 := T0.x.f 1
  have HT0 := Lib.hid (T0.next (Below.refl _ _).drew)
  clear x0 x1 y0 y1
  obtain ⟨c0, c1, x0, x1, y0, y1⟩ := HC.out _ T0.b
  have hl1 := hx.lt
  have hl2 := hy.lt
  clear h h2 he hm1 hm2 hl hx hy zn zn2
  rw [numK_at (f := fun i => zat L i + zat M i) (k := k) (z := s + t) (by show zat L k + zat M k = _; rw [hs.out, ht.out])]
  unfold KAns
  dsimp only
  unfold ZOne zV zv at HM
  go_enter Tryz.func43, Tryz.ntmps43
  go_wp2_with fail
  go_region_held3 (fun W' => W'.cell? ⟨g1, 0, none⟩ = some (.slice (some ⟨b, o, none⟩) n c) ∧ W'.cell? ⟨g2, 0, none⟩ = some (.slice (some ⟨b2, o2, none⟩) m d) ∧ W'.cell? ⟨b, o + k * 2, none⟩ = some (.bool (decide (s < 0))) ∧ W'.cell? ⟨b, o + k * 2 + 1, none⟩ = some (.slice B nb cb) ∧ W'.cell? ⟨b2, o2 + k * 2, none⟩ = some (.bool (decide (t < 0))) ∧ W'.cell? ⟨b2, o2 + k * 2 + 1, none⟩ = some (.slice B2 nb2 cb2)) (first | (with_reducible exact ⟨c0, c1, x0, x1, y0, y1⟩) | (with_reducible refine ⟨cell_far (cell_far c0 ?_ _) ?_ _, cell_far (cell_far c1 ?_ _) ?_ _, cell_far (cell_far x0 ?_ _) ?_ _, cell_far (cell_far x1 ?_ _) ?_ _, cell_far (cell_far y0 ?_ _) ?_ _, cell_far (cell_far y1 ?_ _) ?_ _⟩ <;> omega) | go_keep)
    (first | (go_at_call 44; refine (HM.out _ HT0.out.b).mono ?_; rintro e w1 ⟨A3, k3, c3, rfl, o3, hb3⟩; have T1 := HT0.out.next hb3; clear r0 r1 f0 f1 c0 c1 x0 x1 y0 y1; have r0 := T1.x.c0; have r1 := T1.x.c1; have f0 := T1.x.f 0; have f1 := T1.x.f 1; obtain ⟨c0, c1, x0, x1, y0, y1⟩ := HC.out _ T1.b))
  have hG := Lib.hid (Array.getElem?_eq_some_iff.1 HT0.out.x).1
  clear c0 c1 x0 x1 y0 y1
  go_wp2
  refine bodyPost_ret (v := .agg #[.bool (decide (s + t < 0)), .slice A3 k3 c3]) (by simp [results, Tryz.results43, go_sem, r0, r1]) rfl ?_
  exact ⟨A3, k3, c3, rfl, own_box hG.out (Nat.le_refl _) o3 _ _, box_below (Nat.le_refl _) T1.b _ _⟩
set_option maxRecDepth 100000 in
set_option maxHeartbeats 4000000 in
theorem scaleClo_any (hx : BoxZ w g1 (decide (z < 0)) B nb cb) (hy : BoxV w g2 A n c) (hz : ZNm w B nb cb z) (lz : nb ≤ 60) (h : V1 w A n c L) (hm : mayR L = true) (hk : k < n) : Calls Tryz.prog 52 #[.int .i64 (k : Int), .pointer (some ⟨g1, 0, none⟩), .pointer (some ⟨g2, 0, none⟩)] w (KAns w (numK (fun i => z * zat L i) k).1 (numK (fun i => z * zat L i) k).2) := by
  obtain ⟨t, ht, b2, o2, B2, nb2, cb2, rfl, hb2, y0, y1, zn2, lb2⟩ := h.numH hm hk
  have T0 := uno_box w false none 0 0
  have HM := Lib.hid (fun W (hW : Below w.heap.size w W) => timesV_any (w := W) (hz.below hW) (zn2.below hW) (by omega) (by omega))
  have HC : Hid (∀ W', Below w.heap.size w W' → W'.cell? ⟨g1, 0, none⟩ = some (.bool (decide (z < 0))) ∧ W'.cell? ⟨g1, 1, none⟩ = some (.slice B nb cb) ∧ W'.cell? ⟨g2, 0, none⟩ = some (.slice (some ⟨b2, o2, none⟩) n c) ∧ W'.cell? ⟨b2, o2 + k * 2, none⟩ = some (.bool (decide (t < 0))) ∧ W'.cell? ⟨b2, o2 + k * 2 + 1, none⟩ = some (.slice B2 nb2 cb2)) := fun W' hW => ⟨(hx.below hW (Array.getElem?_eq_some_iff.1 hx).1).c0, (hx.below hW (Array.getElem?_eq_some_iff.1 hx).1).c1, (hy.next hW).c0, (hW.cell (p := ⟨b2, o2 + k * 2, none⟩) hb2).trans y0, (hW.cell (p := ⟨b2, o2 + k * 2 + 1, none⟩) hb2).trans y1⟩
  have r0 := T0.x.c0
  have r1 := T0.x.c1
  have f0 := T0.x.f 0
  have f1 := T0.x.f 1
  have HT0 := Lib.hid (T0.next (Below.refl _ _).drew)
  clear y0 y1
  obtain ⟨c0, c1, c2, y0, y1⟩ := HC.out _ T0.b
  have hl1 := (Array.getElem?_eq_some_iff.1 hx).1
  have hl2 := hy.lt
  clear h hm hx hy hz zn2
  rw [numK_at (f := fun i => z * zat L i) (k := k) (z := z * t) (by show z * zat L k = _; rw [ht.out])]
  unfold KAns
  dsimp only
  unfold ZOne zV zv at HM
  go_enter Tryz.func52, Tryz.ntmps52
  go_wp2_with fail
  go_region_held3 (fun W' => W'.cell? ⟨g1, 0, none⟩ = some (.bool (decide (z < 0))) ∧ W'.cell? ⟨g1, 1, none⟩ = some (.slice B nb cb) ∧ W'.cell? ⟨g2, 0, none⟩ = some (.slice (some ⟨b2, o2, none⟩) n c) ∧ W'.cell? ⟨b2, o2 + k * 2, none⟩ = some (.bool (decide (t < 0))) ∧ W'.cell? ⟨b2, o2 + k * 2 + 1, none⟩ = some (.slice B2 nb2 cb2)) (first | (with_reducible exact ⟨c0, c1, c2, y0, y1⟩) | (with_reducible refine ⟨cell_far (cell_far c0 ?_ _) ?_ _, cell_far (cell_far c1 ?_ _) ?_ _, cell_far (cell_far c2 ?_ _) ?_ _, cell_far (cell_far y0 ?_ _) ?_ _, cell_far (cell_far y1 ?_ _) ?_ _⟩ <;> omega) | go_keep)
    (first | (go_at_call 47; refine (HM.out _ HT0.out.b).mono ?_; rintro e w1 ⟨A3, k3, c3, rfl, o3, hb3⟩; have T1 := HT0.out.next hb3; clear r0 r1 f0 f1 c0 c1 c2 y0 y1; have r0 := T1.x.c0; have r1 := T1.x.c1; have f0 := T1.x.f 0; have f1 := T1.x.f 1; obtain ⟨c0, c1, c2, y0, y1⟩ := HC.out _ T1.b))
  have hG := Lib.hid (Array.getElem?_eq_some_iff.1 HT0.out.x).1
  clear c0 c1 c2 y0 y1
  go_wp2
  refine bodyPost_ret (v := .agg #[.bool (decide (z * t < 0)), .slice A3 k3 c3]) (by simp [results, Tryz.results52, go_sem, r0, r1]) rfl ?_
  exact ⟨A3, k3, c3, rfl, own_box hG.out (Nat.le_refl _) o3 _ _, box_below (Nat.le_refl _) T1.b _ _⟩
set_option maxRecDepth 100000 in
set_option maxHeartbeats 4000000 in
theorem twinClo_any (hx : BoxV w g1 A n c) (h : V1 w A n c L) (hk : k < n) : ∃ e, L[k]? = some e ∧ Calls Tryz.prog 61 #[.int .i64 (k : Int), .pointer (some ⟨g1, 0, none⟩)] w (KAns w e.p e.l) := by
  obtain ⟨e, he, hok⟩ := h.rd.elem hk
  refine ⟨e, he, ?_⟩
  obtain ⟨b, o, rfl, hb, x0, x1⟩ := h.rd.cell he
  have hs := h.small e (List.mem_of_getElem? he)
  have HM := Lib.hid (fun W (hW : Below w.heap.size w W) => clone_any e.A e.n e.c e.l W (hok.r.below hW) (by omega))
  have T0 := uno_box w false none 0 0
  have HC : Hid (∀ W', Below w.heap.size w W' → W'.cell? ⟨g1, 0, none⟩ = some (.slice (some ⟨b, o, none⟩) n c) ∧ W'.cell? ⟨b, o + k * 2, none⟩ = some (.bool e.p) ∧ W'.cell? ⟨b, o + k * 2 + 1, none⟩ = some (.slice e.A e.n e.c)) := fun W' hW => ⟨(hx.next hW).c0, (hW.cell (p := ⟨b, o + k * 2, none⟩) hb).trans x0, (hW.cell (p := ⟨b, o + k * 2 + 1, none⟩) hb).trans x1⟩
  have r0 := T0.x.c0
  have r1 := T0.x.c1
  have f0 := T0.x.f 0
  have f1 := T0.x.f 1
  have HT0 := Lib.hid (T0.next (Below.refl _ _).drew)
  clear x0 x1
  obtain ⟨c0, x0, x1⟩ := HC.out _ T0.b
  have hl1 := hx.lt
  obtain ⟨p, A1, n1, c1, l1⟩ := e
  dsimp only at *
  clear h hx hok he hs
  unfold KAns
  go_enter Tryz.func61, Tryz.ntmps61
  go_wp2_with fail
  go_region_held3 (fun W' => W'.cell? ⟨g1, 0, none⟩ = some (.slice (some ⟨b, o, none⟩) n c) ∧ W'.cell? ⟨b, o + k * 2, none⟩ = some (.bool p) ∧ W'.cell? ⟨b, o + k * 2 + 1, none⟩ = some (.slice A1 n1 c1)) (first | (with_reducible exact ⟨c0, x0, x1⟩) | (with_reducible refine ⟨cell_far (cell_far c0 ?_ _) ?_ _, cell_far (cell_far x0 ?_ _) ?_ _, cell_far (cell_far x1 ?_ _) ?_ _⟩ <;> omega) | go_keep)
    (first | (go_at_call 62; refine (HM.out _ HT0.out.b).mono ?_; rintro e w1 ⟨A3, k3, c3, rfl, o3, hb3⟩; have T1 := HT0.out.next hb3; clear r0 r1 f0 f1 c0 x0 x1; have r0 := T1.x.c0; have r1 := T1.x.c1; have f0 := T1.x.f 0; have f1 := T1.x.f 1; obtain ⟨c0, x0, x1⟩ := HC.out _ T1.b))
  have hG := Lib.hid (Array.getElem?_eq_some_iff.1 HT0.out.x).1
  clear c0 x0 x1
  go_wp2
  refine bodyPost_ret (v := .agg #[.bool p, .slice A3 k3 c3]) (by simp [results, Tryz.results61, go_sem, r0, r1]) rfl ?_
  exact ⟨A3, k3, c3, rfl, own_box hG.out (Nat.le_refl _) o3 _ _, box_below (Nat.le_refl _) T1.b _ _⟩
end
end Go.Proofs.YtgiokmfdafmaoaaGreat

/- vec: joined. -/
namespace Go.Proofs.YtgiokmfdafmaoaaGreat
open Go.RowKit Go.Shelf
set_option linter.unusedVariables false
set_option linter.unusedSimpArgs false

/-- A call answered the row of n such numbers, in new memory, and the error 0; or none, and E. -/
def KAll (w : World) (ok : Bool) (n : Nat) (K : Nat → Bool × List Nat) (E : Int) (e : Ending) (w' : World) : Prop :=
  if ok then (∃ (A : Option Addr) (c : Nat) (L : List ZE), e = .returned (.tuple #[.slice A n c, .int .i64 0]) ∧ OwnV w' w.heap.size A n c L ∧ (∀ i x, L[i]? = some x → x.key = K i) ∧ Below w.heap.size w w')
  else e = .returned (.tuple #[.slice none 0 0, .int .i64 E]) ∧ Below w.heap.size w w'
section
variable {A A2 : Option Addr} {n c m d : Nat} {L M : List ZE} {w : World}
set_option maxRecDepth 100000 in
set_option maxHeartbeats 4000000 in
theorem joinedV2_any (F : Nat) (k0 k1 : Value) (hE : ∀ args w, (callFunc F args).run Tryz.prog w = .ok (.enter F args) w) (K : Nat → Bool × List Nat) (h : V1 w A n c L) (h2 : V1 w A2 m d M)
    (hC : twoVE L M = 0 → ∀ k, k < n → ∀ W, Below w.heap.size w W → Calls Tryz.prog F #[.int .i64 (k : Int), k0, k1] W (KAns W (K k).1 (K k).2)) :
    Calls Tryz.prog 42 #[.slice A n c, .slice A2 m d, .func (.func F) #[] #[k0, k1]] w (KAll w (decide (twoVE L M = 0)) n K (twoVE L M)) := by
  have HA := Lib.hid (alike_any h h2)
  have hf := h.few
  clear h h2
  generalize twoVE L M = E at *
  by_cases hz : E = 0
  · subst hz
    have HP := Lib.hid (fun W (hW : Below w.heap.size w W) => placedV2_any F k0 k1 hE n hf K W fun k hk V hV => hC rfl k hk V (below_then hW hV))
    clear hC
    unfold KRow at HP
    rw [show decide ((0 : Int) = 0) = true from rfl]
    unfold KAll
    simp only [if_true]
    go_enter Tryz.func42, Tryz.ntmps42
    go_wp2_with fail
    refine HA.out.mono ?_
    rintro e w1 ⟨rfl, hb1⟩
    go_wp2_with fail
    refine (HP.out w1 hb1).mono ?_
    rintro e w2 ⟨A3, c3, R, rfl, hO, hK, hb2⟩
    have HO := Lib.hid (hO.mono hb1.size)
    have HK := Lib.hid hK
    have HB := Lib.hid (below_then hb1 hb2)
    clear hO hK hb1 hb2
    go_wp2
    go_ret2
    exact ⟨A3, c3, R, rfl, HO.out, HK.out, HB.out⟩
  · rw [decide_eq_false hz]
    unfold KAll
    simp only [Bool.false_eq_true, if_false]
    have hE2 : ((E : Int) != 0) = true := by simpa using hz
    have hE3 : ((E : Int) == 0) = false := by simpa using hz
    clear hz hC
    go_enter Tryz.func42, Tryz.ntmps42
    go_wp2_with fail
    refine HA.out.mono ?_
    rintro e w1 ⟨rfl, hb1⟩
    go_wp2
    go_ret2
    exact ⟨rfl, hb1⟩
set_option maxRecDepth 100000 in
set_option maxHeartbeats 4000000 in
theorem joinedV4_any (F : Nat) (k0 k1 k2 k3 : Value) (hE : ∀ args w, (callFunc F args).run Tryz.prog w = .ok (.enter F args) w) (K : Nat → Bool × List Nat) (h : V1 w A n c L) (h2 : V1 w A2 m d M)
    (hC : twoVE L M = 0 → ∀ k, k < n → ∀ W, Below w.heap.size w W → Calls Tryz.prog F #[.int .i64 (k : Int), k0, k1, k2, k3] W (KAns W (K k).1 (K k).2)) :
    Calls Tryz.prog 42 #[.slice A n c, .slice A2 m d, .func (.func F) #[] #[k0, k1, k2, k3]] w (KAll w (decide (twoVE L M = 0)) n K (twoVE L M)) := by
  have HA := Lib.hid (alike_any h h2)
  have hf := h.few
  clear h h2
  generalize twoVE L M = E at *
  by_cases hz : E = 0
  · subst hz
    have HP := Lib.hid (fun W (hW : Below w.heap.size w W) => placedV4_any F k0 k1 k2 k3 hE n hf K W fun k hk V hV => hC rfl k hk V (below_then hW hV))
    clear hC
    unfold KRow at HP
    rw [show decide ((0 : Int) = 0) = true from rfl]
    unfold KAll
    simp only [if_true]
    go_enter Tryz.func42, Tryz.ntmps42
    go_wp2_with fail
    refine HA.out.mono ?_
    rintro e w1 ⟨rfl, hb1⟩
    go_wp2_with fail
    refine (HP.out w1 hb1).mono ?_
    rintro e w2 ⟨A3, c3, R, rfl, hO, hK, hb2⟩
    have HO := Lib.hid (hO.mono hb1.size)
    have HK := Lib.hid hK
    have HB := Lib.hid (below_then hb1 hb2)
    clear hO hK hb1 hb2
    go_wp2
    go_ret2
    exact ⟨A3, c3, R, rfl, HO.out, HK.out, HB.out⟩
  · rw [decide_eq_false hz]
    unfold KAll
    simp only [Bool.false_eq_true, if_false]
    have hE2 : ((E : Int) != 0) = true := by simpa using hz
    have hE3 : ((E : Int) == 0) = false := by simpa using hz
    clear hz hC
    go_enter Tryz.func42, Tryz.ntmps42
    go_wp2_with fail
    refine HA.out.mono ?_
    rintro e w1 ⟨rfl, hb1⟩
    go_wp2
    go_ret2
    exact ⟨rfl, hb1⟩
end
end Go.Proofs.YtgiokmfdafmaoaaGreat

/- vec: what makes a place of Mix. -/
namespace Go.Proofs.YtgiokmfdafmaoaaGreat
open Go.RowKit Go.Shelf
set_option linter.unusedVariables false
set_option linter.unusedSimpArgs false

section
variable {A A2 B B2 : Option Addr} {n c m d nb cb na ca g1 g2 g3 g4 k : Nat} {L M : List ZE} {w W : World} {z y : Int}
set_option maxRecDepth 100000 in
set_option maxHeartbeats 4000000 in
theorem mixClo_any (hx : BoxZ w g1 (decide (z < 0)) B nb cb) (hv : BoxV w g2 A n c) (hy : BoxZ w g3 (decide (y < 0)) B2 na ca) (hu : BoxV w g4 A2 m d) (hz : ZNm w B nb cb z) (lz : nb ≤ 60) (hz2 : ZNm w B2 na ca y) (lz2 : na ≤ 60) (h : V1 w A n c L) (h2 : V1 w A2 m d M) (he : twoVE L M = 0) (hk : k < n) :
    Calls Tryz.prog 55 #[.int .i64 (k : Int), .pointer (some ⟨g1, 0, none⟩), .pointer (some ⟨g2, 0, none⟩), .pointer (some ⟨g3, 0, none⟩), .pointer (some ⟨g4, 0, none⟩)] w (KAns w (numK (fun i => z * zat L i + y * zat M i) k).1 (numK (fun i => z * zat L i + y * zat M i) k).2) := by
  obtain ⟨hm1, hm2, hl⟩ := two_may he
  have hk2 : k < m := by rw [← h2.rd.len, ← hl, h.rd.len]; exact hk
  obtain ⟨s, hs, b1, o1, B3, n3, e3, rfl, hb, x0, x1, zn, lb⟩ := h.numH hm1 hk
  obtain ⟨t, ht, b2, o2, B4, n4, e4, rfl, hb2, y0, y1, zn2, lb2⟩ := h2.numH hm2 hk2
  have HM := Lib.hid (fun W (hW : Below w.heap.size w W) => timesV_any (w := W) (hz.below hW) (zn.below hW) (by omega) (by omega))
  have HM2 := Lib.hid (fun W (hW : Below w.heap.size w W) => timesV_any (w := W) (hz2.below hW) (zn2.below hW) (by omega) (by omega))
  have HC : Hid (∀ W', Below w.heap.size w W' → W'.cell? ⟨g1, 0, none⟩ = some (.bool (decide (z < 0))) ∧ W'.cell? ⟨g1, 1, none⟩ = some (.slice B nb cb) ∧ W'.cell? ⟨g2, 0, none⟩ = some (.slice (some ⟨b1, o1, none⟩) n c) ∧ W'.cell? ⟨g3, 0, none⟩ = some (.bool (decide (y < 0))) ∧ W'.cell? ⟨g3, 1, none⟩ = some (.slice B2 na ca) ∧ W'.cell? ⟨g4, 0, none⟩ = some (.slice (some ⟨b2, o2, none⟩) m d) ∧ W'.cell? ⟨b1, o1 + k * 2, none⟩ = some (.bool (decide (s < 0))) ∧ W'.cell? ⟨b1, o1 + k * 2 + 1, none⟩ = some (.slice B3 n3 e3) ∧ W'.cell? ⟨b2, o2 + k * 2, none⟩ = some (.bool (decide (t < 0))) ∧ W'.cell? ⟨b2, o2 + k * 2 + 1, none⟩ = some (.slice B4 n4 e4)) := fun W' hW =>
    ⟨(hx.below hW (Array.getElem?_eq_some_iff.1 hx).1).c0, (hx.below hW (Array.getElem?_eq_some_iff.1 hx).1).c1, (hv.next hW).c0, (hy.below hW (Array.getElem?_eq_some_iff.1 hy).1).c0, (hy.below hW (Array.getElem?_eq_some_iff.1 hy).1).c1, (hu.next hW).c0,
     (hW.cell (p := ⟨b1, o1 + k * 2, none⟩) hb).trans x0, (hW.cell (p := ⟨b1, o1 + k * 2 + 1, none⟩) hb).trans x1, (hW.cell (p := ⟨b2, o2 + k * 2, none⟩) hb2).trans y0, (hW.cell (p := ⟨b2, o2 + k * 2 + 1, none⟩) hb2).trans y1⟩
  have LP : Hid (Bd 120 (z * s)) := (Bd.of hz lz).mul (Bd.of zn lb)
  have LQ : Hid (Bd 120 (y * t)) := (Bd.of hz2 lz2).mul (Bd.of zn2 lb2)
  have HS := Lib.hid (fun W {A A2 : Option Addr} {n c m k2 : Nat} (h1 : ZNm W A n c (z * s)) (h2 : ZNm W A2 m k2 (y * t)) (l1 : n ≤ 400) (l2 : m ≤ 400) => sumV_any (w := W) h1 h2 l1 l2)
  have hl1 := (Array.getElem?_eq_some_iff.1 hx).1
  have hl2 := hv.lt
  have hl3 := (Array.getElem?_eq_some_iff.1 hy).1
  have hl4 := hu.lt
  clear x0 x1 y0 y1 h h2 he hm1 hm2 hl hx hv hy hu zn zn2 hz hz2
  rw [numK_at (f := fun i => z * zat L i + y * zat M i) (k := k) (z := z * s + y * t) (by show z * zat L k + y * zat M k = _; rw [hs.out, ht.out])]
  unfold KAns
  dsimp only
  generalize z * s = p at *
  generalize y * t = q at *
  generalize p + q = r at *
  have T0 := uno_box w false none 0 0
  have r0 := T0.x.c0
  have r1 := T0.x.c1
  have f0 := T0.x.f 0
  have f1 := T0.x.f 1
  have HT0 := Lib.hid (T0.next (Below.refl _ _).drew)
  obtain ⟨c0, c1, c2, c3, c4, c5, x0, x1, y0, y1⟩ := HC.out _ T0.b
  unfold ZOne zV zv at HM HM2 HS
  go_enter Tryz.func55, Tryz.ntmps55
  go_wp2_with fail
  go_region_held3 (fun W' => W'.cell? ⟨g1, 0, none⟩ = some (.bool (decide (z < 0))) ∧ W'.cell? ⟨g1, 1, none⟩ = some (.slice B nb cb) ∧ W'.cell? ⟨g2, 0, none⟩ = some (.slice (some ⟨b1, o1, none⟩) n c) ∧ W'.cell? ⟨g3, 0, none⟩ = some (.bool (decide (y < 0))) ∧ W'.cell? ⟨g3, 1, none⟩ = some (.slice B2 na ca) ∧ W'.cell? ⟨g4, 0, none⟩ = some (.slice (some ⟨b2, o2, none⟩) m d) ∧ W'.cell? ⟨b1, o1 + k * 2, none⟩ = some (.bool (decide (s < 0))) ∧ W'.cell? ⟨b1, o1 + k * 2 + 1, none⟩ = some (.slice B3 n3 e3) ∧ W'.cell? ⟨b2, o2 + k * 2, none⟩ = some (.bool (decide (t < 0))) ∧ W'.cell? ⟨b2, o2 + k * 2 + 1, none⟩ = some (.slice B4 n4 e4)) (first | (with_reducible exact ⟨c0, c1, c2, c3, c4, c5, x0, x1, y0, y1⟩) | (with_reducible refine ⟨cell_far (cell_far c0 ?_ _) ?_ _, cell_far (cell_far c1 ?_ _) ?_ _, cell_far (cell_far c2 ?_ _) ?_ _, cell_far (cell_far c3 ?_ _) ?_ _, cell_far (cell_far c4 ?_ _) ?_ _, cell_far (cell_far c5 ?_ _) ?_ _, cell_far (cell_far x0 ?_ _) ?_ _, cell_far (cell_far x1 ?_ _) ?_ _, cell_far (cell_far y0 ?_ _) ?_ _, cell_far (cell_far y1 ?_ _) ?_ _⟩ <;> omega) | go_keep)
    (first
      | (go_at_call 44; refine (HS.out _ (o3.below hb4).nm o4.nm (by omega) (by omega)).mono ?_; rintro e w3 ⟨A5, k5, d5, rfl, o5, hb5⟩; have T3 := T2.next hb5; have hG := Lib.hid (Array.getElem?_eq_some_iff.1 T2.x).1; clear r0 r1 f0 f1 c0 c1 c2 c3 c4 c5 x0 x1 y0 y1; have r0 := T3.x.c0; have r1 := T3.x.c1; have f0 := T3.x.f 0; have f1 := T3.x.f 1; obtain ⟨c0, c1, c2, c3, c4, c5, x0, x1, y0, y1⟩ := HC.out _ T3.b)
      | (go_at_call 47; (with_reducible refine (HM2.out _ T1.b).mono ?_); rintro e w2 ⟨A4, k4, d4, rfl, o4, hb4⟩; have T2 := T1.next hb4; have hq4 := LQ.out.len o4; clear r0 r1 f0 f1 c0 c1 c2 c3 c4 c5 x0 x1 y0 y1; have r0 := T2.x.c0; have r1 := T2.x.c1; have f0 := T2.x.f 0; have f1 := T2.x.f 1; obtain ⟨c0, c1, c2, c3, c4, c5, x0, x1, y0, y1⟩ := HC.out _ T2.b)
      | (go_at_call 47; refine (HM.out _ HT0.out.b).mono ?_; rintro e w1 ⟨A3, k3, d3, rfl, o3, hb3⟩; have T1 := HT0.out.next hb3; have hq3 := LP.out.len o3; clear r0 r1 f0 f1 c0 c1 c2 c3 c4 c5 x0 x1 y0 y1; have r0 := T1.x.c0; have r1 := T1.x.c1; have f0 := T1.x.f 0; have f1 := T1.x.f 1; obtain ⟨c0, c1, c2, c3, c4, c5, x0, x1, y0, y1⟩ := HC.out _ T1.b))
  clear c0 c1 c2 c3 c4 c5 x0 x1 y0 y1
  go_wp2
  refine bodyPost_ret (v := .agg #[.bool (decide (r < 0)), .slice A5 k5 d5]) (by simp [results, Tryz.results55, go_sem, r0, r1]) rfl ?_
  exact ⟨A5, k5, d5, rfl, own_box hG.out (Nat.le_refl _) o5 _ _, box_below (Nat.le_refl _) T3.b _ _⟩
end
end Go.Proofs.YtgiokmfdafmaoaaGreat

/- vec: Add, Scale, Mix. -/
namespace Go.Proofs.YtgiokmfdafmaoaaGreat
open Go.RowKit Go.Shelf
set_option linter.unusedVariables false
set_option linter.unusedSimpArgs false

theorem KAll.ans {w w' : World} {ok : Bool} {n : Nat} {f : Nat → Int} {E : Int} {e : Ending} (h : KAll w ok n (numK f) E e w') : VAns w ok n f E e w' := by
  unfold KAll at h
  unfold VAns
  cases ok with
  | true =>
    rw [if_pos rfl] at h ⊢
    obtain ⟨A, c, L, he, hO, hK, hb⟩ := h
    exact ⟨A, c, L, he, ⟨hO, isv_key hO.len hK⟩, hb⟩
  | false =>
    rw [if_neg (by decide)] at h ⊢
    exact h
theorem KAll.mono {w w1 w' : World} {ok : Bool} {n : Nat} {K : Nat → Bool × List Nat} {E : Int} {e : Ending} (h : KAll w1 ok n K E e w') (hb : Below w.heap.size w w1) : KAll w ok n K E e w' := by
  unfold KAll at h ⊢
  cases ok with
  | true =>
    rw [if_pos rfl] at h ⊢
    obtain ⟨A, c, L, he, hO, hK, hb2⟩ := h
    exact ⟨A, c, L, he, hO.mono hb.size, hK, below_then hb hb2⟩
  | false =>
    rw [if_neg (by decide)] at h ⊢
    exact ⟨h.1, below_then hb h.2⟩
/-- Both shapes of such an answer are a pair. -/
theorem KAll.shape {w w' : World} {ok : Bool} {n : Nat} {K : Nat → Bool × List Nat} {E : Int} {e : Ending} (h : KAll w ok n K E e w') : ∃ A3 n3 c3 E3, e = .returned (.tuple #[.slice A3 n3 c3, .int .i64 E3]) := by
  unfold KAll at h
  cases ok with
  | true =>
    rw [if_pos rfl] at h
    obtain ⟨A, c, L, he, _⟩ := h
    exact ⟨_, _, _, _, he⟩
  | false =>
    rw [if_neg (by decide)] at h
    exact ⟨_, _, _, _, h.1⟩
section
variable {A A2 B B2 : Option Addr} {n c m d nb cb na ca g1 g2 g3 g4 k : Nat} {L M : List ZE} {w W : World} {z y : Int}
set_option maxRecDepth 100000 in
set_option maxHeartbeats 4000000 in
theorem addV_is : AddVIs 10 := fun A A2 n c m d L M w h h2 => by
  have hmf : ∀ (fn : Fn) (first cap : Array Value) (w : World), (Instr.makeFunc fn first cap).run Tryz.prog w = .ok (.func fn first cap) w := fun _ _ _ _ => rfl
  have T1 : Below w.heap.size w ((w.alloc (bv A n c)).alloc (bv A2 m d)) := below_then (bxb _ _) (bxb _ _)
  have X1 : BoxV ((w.alloc (bv A n c)).alloc (bv A2 m d)) w.heap.size A n c := BoxV.next (w := w.alloc (bv A n c)) (World.alloc_heap_new _ _) (bxb _ _)
  have Y1 : BoxV ((w.alloc (bv A n c)).alloc (bv A2 m d)) (w.heap.size + 1) A2 m d := by
    have h := World.alloc_heap_new (w.alloc (bv A n c)) (bv A2 m d)
    rw [World.size_alloc] at h
    exact h
  have HJ : Hid (∀ (W : World) (g1 g2 : Nat), Below w.heap.size w W → BoxV W g1 A n c → BoxV W g2 A2 m d → Calls Tryz.prog 42 #[.slice A n c, .slice A2 m d, .func (.func 43) #[] #[.pointer (some ⟨g1, 0, none⟩), .pointer (some ⟨g2, 0, none⟩)]] W (KAll W (decide (twoVE L M = 0)) n (numK (fun i => zat L i + zat M i)) (twoVE L M))) := fun W g1 g2 hW hx hy =>
    joinedV2_any _ _ _ (enters_of Tryz.func43 (by kernel_rfl) rfl) _ (h.below hW) (h2.below hW) fun he k hk V hV => addVClo_any (hx.next hV) (hy.next hV) ((h.below hW).below hV) ((h2.below hW).below hV) he hk
  clear h h2
  generalize (fun i => zat L i + zat M i) = f at *
  have x0 := X1.c0
  have y0 := Y1.c0
  generalize twoVE L M = E at *
  go_enter Tryz.func10, Tryz.ntmps10
  go_wp2_with fail
  refine (HJ.out _ w.heap.size (w.heap.size + 1) T1 X1 Y1).mono ?_
  intro e w2 hA
  obtain ⟨A3, n3, c3, E3, rfl⟩ := hA.shape
  have HA := Lib.hid (hA.mono T1).ans
  clear hA T1 X1 Y1 x0 y0 HJ hmf
  go_wp2
  go_ret2
  exact HA.out
theorem z1_ok {w : World} {A : Option Addr} {n c : Nat} {p : Bool} {l : List Nat} (h : Z1 w A n c l) : ZE.ok w ⟨p, A, n, c, l⟩ := ⟨h.ra, h.ca1, h.ca2⟩
theorem z1_num {w : World} {A : Option Addr} {n c : Nat} {p : Bool} {l : List Nat} (h : Z1 w A n c l) (hm : mayZ p l = true) : ZNm w A n c (zof p l) ∧ p = decide (zof p l < 0) := by
  refine ⟨⟨?_, h.ca1, h.ca2⟩, (zof_neg hm).symm⟩
  rw [zof_abs, limbs_val h.ra.words (mayZ_may hm)]
  exact h.ra
set_option maxRecDepth 100000 in
set_option maxHeartbeats 4000000 in
theorem scaleV_is : ScaleIs 20 := fun A B n c nb cb p b L w h hb lb => by
  have hmf : ∀ (fn : Fn) (first cap : Array Value) (w : World), (Instr.makeFunc fn first cap).run Tryz.prog w = .ok (.func fn first cap) w := fun _ _ _ _ => rfl
  have T1 : Below w.heap.size w ((w.alloc (bv A n c)).alloc (zo p B nb cb)) := below_then (bxb _ _) (bxb _ _)
  have X1 : BoxV ((w.alloc (bv A n c)).alloc (zo p B nb cb)) w.heap.size A n c := BoxV.next (w := w.alloc (bv A n c)) (World.alloc_heap_new _ _) (bxb _ _)
  have Y1 : BoxZ ((w.alloc (bv A n c)).alloc (zo p B nb cb)) (w.heap.size + 1) p B nb cb := by
    have h := World.alloc_heap_new (w.alloc (bv A n c)) (zo p B nb cb)
    rw [World.size_alloc] at h
    exact h
  have N1 : Hid (Calls Tryz.prog 45 #[.slice (some ⟨w.heap.size + 1 + 1, 0, none⟩) 1 1] (((w.alloc (bv A n c)).alloc (zo p B nb cb)).alloc (zo p B nb cb)) fun e w' => e = .returned (.int .i64 (if mayZ p b then 0 else 8)) ∧ Below w.heap.size w w' ∧ BoxV w' w.heap.size A n c ∧ BoxZ w' (w.heap.size + 1) p B nb cb) := by
    have hr := rdv_one (w := ((w.alloc (bv A n c)).alloc (zo p B nb cb))) (p := p) ((z1_ok hb).below T1)
    have hs2 : ((w.alloc (bv A n c)).alloc (zo p B nb cb)).heap.size = w.heap.size + 1 + 1 := by rw [World.size_alloc, World.size_alloc]
    rw [hs2] at hr
    refine (numbers_any _ 1 1 _ _ hr (fun e he => by rw [List.mem_singleton] at he; subst he; exact Nat.le_trans lb (by omega)) (Nat.le_refl _) (by omega)).mono ?_
    rintro e w' ⟨rfl, hb1⟩
    have hb2 := below_then (bxb ((w.alloc (bv A n c)).alloc (zo p B nb cb)) (zo p B nb cb)) hb1
    exact ⟨by simp [mayV], below_then T1 hb2, X1.next hb2, Y1.below hb2 (Array.getElem?_eq_some_iff.1 Y1).1⟩
  have N2 := Lib.hid (fun W (hW : Below w.heap.size w W) => checkV_any (h.below hW))
  have N3 : Hid (mayR L = true → mayZ p b = true → ∀ (W : World) (g1 g2 : Nat), Below w.heap.size w W → BoxV W g1 A n c → BoxZ W g2 p B nb cb → Calls Tryz.prog 36 #[.int .i64 (n : Int), .func (.func 52) #[] #[.pointer (some ⟨g2, 0, none⟩), .pointer (some ⟨g1, 0, none⟩)]] W (KRow W n (numK (fun i => zof p b * zat L i)))) := fun hm hp W g1 g2 hW hx hy =>
    placedV2_any _ _ _ (enters_of Tryz.func52 (by kernel_rfl) rfl) n h.few _ W fun k hk V hV => by
      have hq := z1_num hb hp
      rw [hq.2] at hy
      exact scaleClo_any (hy.below hV (Array.getElem?_eq_some_iff.1 hy).1) (hx.next hV) ((hq.1.below hW).below hV) lb ((h.below hW).below hV) hm hk
  have hf := h.few
  have x0 := X1.c0
  have y0 := Y1.c0
  have y1 := Y1.c1
  clear h hb X1 Y1 T1
  unfold VAns
  cases h1 : mayZ p b with
  | false =>
    rw [h1] at N1
    simp only [Bool.and_false, Bool.false_eq_true, if_false] at N1 ⊢
    clear h1 N2 N3
    unfold zv
    go_enter Tryz.func20, Tryz.ntmps20
    go_wp2_with fail
    refine N1.out.mono ?_
    rintro e w1 ⟨rfl, hb1, hx, hy⟩
    go_wp2
    go_ret2
    exact ⟨rfl, hb1⟩
  | true =>
    rw [h1] at N1
    simp only [if_true, Bool.and_true] at N1 ⊢
    cases h2 : mayR L with
    | false =>
      rw [h2] at N2
      simp only [Bool.false_eq_true, if_false] at N2 ⊢
      clear h1 h2 N3
      unfold zv
      go_enter Tryz.func20, Tryz.ntmps20
      go_wp2_with fail
      refine N1.out.mono ?_
      rintro e w1 ⟨rfl, hb1, hx, hy⟩
      clear x0 y0 y1
      have x0 := hx.c0
      go_wp2_with fail
      refine (N2.out _ hb1).mono ?_
      rintro e w2 ⟨rfl, hb2⟩
      go_wp2
      go_ret2
      exact ⟨rfl, below_then hb1 hb2⟩
    | true =>
      rw [h2] at N2
      have N4 := Lib.hid (N3.out h2 h1)
      simp only [if_true] at N2 ⊢
      clear h1 h2 N3
      unfold KRow at N4
      unfold zv
      go_enter Tryz.func20, Tryz.ntmps20
      go_wp2_with fail
      refine N1.out.mono ?_
      rintro e w1 ⟨rfl, hb1, hx, hy⟩
      clear x0 y0 y1
      have x0 := hx.c0
      go_wp2_with fail
      refine (N2.out _ hb1).mono ?_
      rintro e w2 ⟨rfl, hb2⟩
      have HX := hx.next hb2
      have HY := hy.below hb2 (Array.getElem?_eq_some_iff.1 hy).1
      have hB := below_then hb1 hb2
      clear x0 hx hy hb1 hb2
      have x0 := HX.c0
      go_wp2_with fail
      refine (N4.out w2 w.heap.size (w.heap.size + 1) hB HX HY).mono ?_
      rintro e w3 ⟨A3, c3, R, rfl, hO, hK, hb3⟩
      have HN : Hid (NewV w3 w.heap.size A3 n c3 R (fun i => zat L i * zof p b)) := ⟨hO.mono hB.size, (isv_key hO.len hK).congr fun i _ => Int.mul_comm _ _⟩
      have HB := Lib.hid (below_then hB hb3)
      clear hO hK hb3 HX HY hB x0
      go_wp2
      go_ret2
      exact ⟨A3, c3, R, rfl, HN.out, HB.out⟩
set_option maxRecDepth 100000 in
set_option maxHeartbeats 4000000 in
/-- Four boxes: a number, a row, a number, a row. -/
theorem four_box (w : World) (p : Bool) (B : Option Addr) (na ca : Nat) (A : Option Addr) (n c : Nat) (q : Bool) (B2 : Option Addr) (nb cb : Nat) (A2 : Option Addr) (m d : Nat) : Below w.heap.size w ((((w.alloc (zo p B na ca)).alloc (bv A n c)).alloc (zo q B2 nb cb)).alloc (bv A2 m d)) ∧ BoxZ ((((w.alloc (zo p B na ca)).alloc (bv A n c)).alloc (zo q B2 nb cb)).alloc (bv A2 m d)) w.heap.size p B na ca ∧ BoxV ((((w.alloc (zo p B na ca)).alloc (bv A n c)).alloc (zo q B2 nb cb)).alloc (bv A2 m d)) (w.heap.size + 1) A n c ∧ BoxZ ((((w.alloc (zo p B na ca)).alloc (bv A n c)).alloc (zo q B2 nb cb)).alloc (bv A2 m d)) (w.heap.size + 1 + 1) q B2 nb cb ∧ BoxV ((((w.alloc (zo p B na ca)).alloc (bv A n c)).alloc (zo q B2 nb cb)).alloc (bv A2 m d)) (w.heap.size + 1 + 1 + 1) A2 m d := by
  have X1 : BoxZ (w.alloc (zo p B na ca)) w.heap.size p B na ca := World.alloc_heap_new _ _
  have X2 := World.alloc_heap_new (w.alloc (zo p B na ca)) (bv A n c)
  have X3 := World.alloc_heap_new ((w.alloc (zo p B na ca)).alloc (bv A n c)) (zo q B2 nb cb)
  have X4 := World.alloc_heap_new (((w.alloc (zo p B na ca)).alloc (bv A n c)).alloc (zo q B2 nb cb)) (bv A2 m d)
  simp only [World.size_alloc] at X2 X3 X4
  have b2 := bxb (w.alloc (zo p B na ca)) (bv A n c)
  have b3 := bxb ((w.alloc (zo p B na ca)).alloc (bv A n c)) (zo q B2 nb cb)
  have b4 := bxb (((w.alloc (zo p B na ca)).alloc (bv A n c)).alloc (zo q B2 nb cb)) (bv A2 m d)
  have b34 := below_then b3 b4
  have b24 := below_then b2 b34
  refine ⟨below_then (bxb _ _) b24, X1.below b24 (Array.getElem?_eq_some_iff.1 X1).1, (b34.block _ (Array.getElem?_eq_some_iff.1 X2).1).trans X2, (b4.block _ (Array.getElem?_eq_some_iff.1 X3).1).trans X3, X4⟩
set_option maxRecDepth 100000 in
set_option maxHeartbeats 4000000 in
theorem mixV_is : MixIs 22 := fun A A2 B B2 n c m d na ca nb cb p q a b L M w h h2 ha hb la lb => by
  have hmf : ∀ (fn : Fn) (first cap : Array Value) (w : World), (Instr.makeFunc fn first cap).run Tryz.prog w = .ok (.func fn first cap) w := fun _ _ _ _ => rfl
  obtain ⟨T1, X1, X2, X3, X4⟩ := four_box w p B na ca A n c q B2 nb cb A2 m d
  have N1 : Hid (Calls Tryz.prog 45 #[.slice (some ⟨w.heap.size + 1 + 1 + 1 + 1, 0, none⟩) 2 2] (((((w.alloc (zo p B na ca)).alloc (bv A n c)).alloc (zo q B2 nb cb)).alloc (bv A2 m d)).alloc (zo2 p B na ca q B2 nb cb)) fun e w' => e = .returned (.int .i64 (if mayZ p a && mayZ q b then 0 else 8)) ∧ Below w.heap.size w w' ∧ BoxZ w' w.heap.size p B na ca ∧ BoxV w' (w.heap.size + 1) A n c ∧ BoxZ w' (w.heap.size + 1 + 1) q B2 nb cb ∧ BoxV w' (w.heap.size + 1 + 1 + 1) A2 m d) := by
    have hr := rdv_two (w := ((((w.alloc (zo p B na ca)).alloc (bv A n c)).alloc (zo q B2 nb cb)).alloc (bv A2 m d))) (p := p) (q := q) ((z1_ok ha).below T1) ((z1_ok hb).below T1)
    have hs2 : ((((w.alloc (zo p B na ca)).alloc (bv A n c)).alloc (zo q B2 nb cb)).alloc (bv A2 m d)).heap.size = w.heap.size + 1 + 1 + 1 + 1 := by simp only [World.size_alloc]
    rw [hs2] at hr
    refine (numbers_any _ 2 2 _ _ hr (fun e he => by
      rcases List.mem_cons.1 he with rfl | he
      · exact Nat.le_trans la (by omega)
      · rw [List.mem_singleton] at he; subst he; exact Nat.le_trans lb (by omega)) (Nat.le_refl _) (by omega)).mono ?_
    rintro e w' ⟨rfl, hb1⟩
    have hb2 := below_then (bxb ((((w.alloc (zo p B na ca)).alloc (bv A n c)).alloc (zo q B2 nb cb)).alloc (bv A2 m d)) (zo2 p B na ca q B2 nb cb)) hb1
    exact ⟨by simp [mayV], below_then T1 hb2, X1.below hb2 (Array.getElem?_eq_some_iff.1 X1).1, X2.next hb2, X3.below hb2 (Array.getElem?_eq_some_iff.1 X3).1, X4.next hb2⟩
  have N3 : Hid ((mayZ p a && mayZ q b) = true → ∀ (W : World) (g1 g2 g3 g4 : Nat), Below w.heap.size w W → BoxZ W g1 p B na ca → BoxV W g2 A n c → BoxZ W g3 q B2 nb cb → BoxV W g4 A2 m d → Calls Tryz.prog 42 #[.slice A n c, .slice A2 m d, .func (.func 55) #[] #[.pointer (some ⟨g1, 0, none⟩), .pointer (some ⟨g2, 0, none⟩), .pointer (some ⟨g3, 0, none⟩), .pointer (some ⟨g4, 0, none⟩)]] W (KAll W (decide (twoVE L M = 0)) n (numK (fun i => zof p a * zat L i + zof q b * zat M i)) (twoVE L M))) := fun hm W g1 g2 g3 g4 hW h1 h3 h4 h5 =>
    joinedV4_any _ _ _ _ _ (enters_of Tryz.func55 (by kernel_rfl) rfl) _ (h.below hW) (h2.below hW) fun he k hk V hV => by
      rw [Bool.and_eq_true] at hm
      have hq := z1_num ha hm.1
      have hr := z1_num hb hm.2
      rw [hq.2] at h1
      rw [hr.2] at h4
      exact mixClo_any (h1.below hV (Array.getElem?_eq_some_iff.1 h1).1) (h3.next hV) (h4.below hV (Array.getElem?_eq_some_iff.1 h4).1) (h5.next hV) ((hq.1.below hW).below hV) la ((hr.1.below hW).below hV) lb ((h.below hW).below hV) ((h2.below hW).below hV) he hk
  have x0 := X1.c0
  have x1 := X1.c1
  have y0 := X3.c0
  have y1 := X3.c1
  clear h h2 ha hb X1 X2 X3 X4 T1
  generalize (fun i => zof p a * zat L i + zof q b * zat M i) = f at *
  generalize twoVE L M = E at *
  cases h1 : (mayZ p a && mayZ q b) with
  | false =>
    rw [h1] at N1
    simp only [Bool.false_and, Bool.false_eq_true, if_false] at N1 ⊢
    clear h1 N3
    unfold zv VAns
    simp only [Bool.false_eq_true, if_false]
    go_enter Tryz.func22, Tryz.ntmps22
    go_wp2_with fail
    refine N1.out.mono ?_
    rintro e w1 ⟨rfl, hb1, _⟩
    go_wp2
    go_ret2
    exact ⟨rfl, hb1⟩
  | true =>
    rw [h1] at N1
    have N4 := Lib.hid (N3.out h1)
    simp only [if_true, Bool.true_and] at N1 ⊢
    clear h1 N3
    unfold zv
    go_enter Tryz.func22, Tryz.ntmps22
    go_wp2_with fail
    refine N1.out.mono ?_
    rintro e w1 ⟨rfl, hb1, h1, h3, h4, h5⟩
    clear x0 x1 y0 y1
    have x0 := h3.c0
    have y0 := h5.c0
    go_wp2_with fail
    refine (N4.out w1 w.heap.size (w.heap.size + 1) (w.heap.size + 1 + 1) (w.heap.size + 1 + 1 + 1) hb1 h1 h3 h4 h5).mono ?_
    intro e w2 hA
    obtain ⟨A3, n3, c3, E3, rfl⟩ := hA.shape
    have HA := Lib.hid (hA.mono hb1).ans
    clear hA h1 h3 h4 h5 x0 y0 hb1
    go_wp2
    go_ret2
    exact HA.out
end
end Go.Proofs.YtgiokmfdafmaoaaGreat

/- vec: Cmp, Zero, Same. -/
namespace Go.Proofs.YtgiokmfdafmaoaaGreat
open Go.RowKit Go.Shelf
set_option linter.unusedVariables false
set_option linter.unusedSimpArgs false

theorem keys_ne {L M : List ZE} {k : Nat} {e x : ZE} (h1 : L[k]? = some e) (h2 : M[k]? = some x) (h : ZE.key e ≠ ZE.key x) : keys L ≠ keys M := fun he => by
  have h3 : (keys L)[k]? = (keys M)[k]? := by rw [he]
  unfold keys at h3
  rw [List.getElem?_map, List.getElem?_map, h1, h2] at h3
  exact h (by simpa using h3)
theorem keys_eq {L M : List ZE} {n : Nat} (hl : L.length = n) (hm : M.length = n) (h : ∀ j e x, j < n → L[j]? = some e → M[j]? = some x → ZE.key e = ZE.key x) : keys L = keys M := by
  unfold keys
  apply List.ext_getElem?
  intro i
  rw [List.getElem?_map, List.getElem?_map]
  by_cases hi : i < n
  · rw [List.getElem?_eq_getElem (show i < L.length by omega), List.getElem?_eq_getElem (show i < M.length by omega)]
    exact congrArg some (h i _ _ hi (List.getElem?_eq_getElem (show i < L.length by omega)) (List.getElem?_eq_getElem (show i < M.length by omega)))
  · rw [List.getElem?_eq_none (by omega), List.getElem?_eq_none (by omega)]
theorem noughts_no {L : List ZE} {k : Nat} {e : ZE} (he : L[k]? = some e) (h : ¬ (e.p = false ∧ e.l = [])) : noughts L = false := by
  have hm : e ∈ L := List.mem_of_getElem? he
  cases hv : noughts L with
  | false => rfl
  | true =>
    unfold noughts at hv
    rw [List.all_eq_true] at hv
    have h1 := hv e hm
    rw [Bool.and_eq_true] at h1
    exact absurd ⟨by simpa using h1.1, by simpa using h1.2⟩ h
theorem noughts_yes {L : List ZE} {n : Nat} (hn : L.length = n) (h : ∀ k e, k < n → L[k]? = some e → e.p = false ∧ e.l = []) : noughts L = true := by
  unfold noughts
  rw [List.all_eq_true]
  intro e he
  obtain ⟨k, hk⟩ := List.getElem?_of_mem he
  obtain ⟨h1, h2⟩ := h k e (by have := (List.getElem?_eq_some_iff.1 hk).1; omega) hk
  rw [h1, h2]
  rfl
theorem key_iff (e x : ZE) : ZE.key e = ZE.key x ↔ e.p = x.p ∧ e.l = x.l := by unfold ZE.key; rw [Prod.mk.injEq]
section
set_option maxRecDepth 100000 in
set_option maxHeartbeats 4000000 in
theorem zeroV_is : ZeroIs 29 := fun A n c L w h => by
  have HS : Hid (∀ (e : ZE) (W : World), e ∈ L → Below w.heap.size w W → Calls Tryz.prog 59 #[.agg #[.bool e.p, .slice e.A e.n e.c], .agg #[.bool false, .slice none 0 0]] W fun x w' => x = .returned (.bool (decide (e.p = false ∧ e.l = []))) ∧ Below W.heap.size W w') := fun e W he hW =>
    sameZ_any (p := e.p) (q := false) (w := W) ⟨((h.rd.ok e he).below hW).r, rd_nil _ _, Nat.le_trans (h.small e he) (by omega), Nat.zero_le _, (h.rd.ok e he).c1, (h.rd.ok e he).c2, Nat.le_refl _, Nat.zero_le _⟩
  have HL := Lib.hid h.rd.len
  have hf := h.few
  have h := h.rd
  generalize hE : noughts L = E
  have HX := Lib.hid hE
  clear hE
  go_enter Tryz.func29, Tryz.ntmps29
  go_wp2
  go_loopw [7] (fun i wr => ∃ k : Nat, k ≤ n ∧ i = .int .i64 (k : Int) ∧ (∀ j e, j < k → L[j]? = some e → e.p = false ∧ e.l = []) ∧ Below w.heap.size w wr) (fun i _ => n - (intOf i).toNat)
  case atStart => exact ⟨0, by omega, rfl, fun j e hj => absurd hj (by omega), Below.refl _ _⟩
  case round =>
    obtain ⟨k, hk, rfl, h1, hB⟩ := hrel
    by_cases hlt : k < n
    · obtain ⟨e, he, _⟩ := h.elem hlt
      have hm : e ∈ L := List.mem_of_getElem? he
      obtain ⟨b, o, rfl, hbl, hc0, hc1⟩ := (h.below hB).cell he
      obtain ⟨p, A1, n1, c1, l1⟩ := e
      dsimp only at hc0 hc1
      have HB := Lib.hid (below_then hB (bxb wr (zo p A1 n1 c1)))
      have HM := Lib.hid (HS.out _ _ hm HB.out)
      dsimp only at HM
      have H1 := Lib.hid h1
      have HE := Lib.hid he
      by_cases e1 : p = false ∧ l1 = []
      · have HK := Lib.hid e1
        rw [decide_eq_true e1] at HM
        clear h1 hB h hm he e1
        go_wp2_with fail
        refine HM.out.mono ?_
        rintro x w3 ⟨rfl, hb3⟩
        have hB3 := Lib.hid (below_then HB.out hb3)
        clear hb3
        go_wp2
        go_roundw
        case rel =>
          refine ⟨k + 1, by omega, by go_num, fun j e hj hje => ?_, hB3.out⟩
          rcases Nat.lt_or_ge j k with hjk | hjk
          · exact H1.out j e hjk hje
          · obtain rfl : j = k := by omega
            rw [HE.out] at hje
            cases hje
            exact HK.out
        case measure => simp [intOf]; omega
      · have HR : Hid (noughts L = false) := noughts_no he e1
        rw [decide_eq_false e1] at HM
        clear h1 hB h hm he e1
        go_wp2_with fail
        refine HM.out.mono ?_
        rintro x w3 ⟨rfl, hb3⟩
        have hB3 := Lib.hid (below_then HB.out hb3)
        clear hb3
        go_wp2
        go_ret
        exact ⟨by rw [← HX.out, HR.out]; (try rfl), hB3.out⟩
    · have HR : Hid (noughts L = true) := noughts_yes HL.out fun j e hj hje => h1 j e (by omega) hje
      have HB := Lib.hid hB
      clear h1 hB h
      go_wp2
      go_ret
      exact ⟨by rw [← HX.out, HR.out]; (try rfl), HB.out⟩
set_option maxRecDepth 100000 in
set_option maxHeartbeats 4000000 in
theorem equalFunc_any {A A2 : Option Addr} {n c m d : Nat} {L M : List ZE} {w : World} (h : V1 w A n c L) (h2 : V1 w A2 m d M) : Calls Tryz.prog 60 #[.slice A n c, .slice A2 m d, .func (.func 59) #[] #[]] w fun e w' => e = .returned (.bool (decide (keys L = keys M))) ∧ Below w.heap.size w w' := by
  have hE := enters_of Tryz.func59 (by kernel_rfl) rfl
  have HS : Hid (∀ (e x : ZE) (W : World), e ∈ L → x ∈ M → Below w.heap.size w W → Calls Tryz.prog 59 #[.agg #[.bool e.p, .slice e.A e.n e.c], .agg #[.bool x.p, .slice x.A x.n x.c]] W fun r w' => r = .returned (.bool (decide (e.p = x.p ∧ e.l = x.l))) ∧ Below W.heap.size W w') := fun e x W he hx hW =>
    sameZ_any (p := e.p) (q := x.p) (w := W) ⟨((h.rd.ok e he).below hW).r, ((h2.rd.ok x hx).below hW).r, Nat.le_trans (h.small e he) (by omega), Nat.le_trans (h2.small x hx) (by omega), (h.rd.ok e he).c1, (h.rd.ok e he).c2, (h2.rd.ok x hx).c1, (h2.rd.ok x hx).c2⟩
  have hf1 := h.few
  have hf2 := h2.few
  have h := h.rd
  have h2 := h2.rd
  have HL := Lib.hid h.len
  have HL2 := Lib.hid h2.len
  by_cases hnm : n = m
  · subst hnm
    generalize hD : decide (keys L = keys M) = D
    have HX := Lib.hid hD
    clear hD
    go_enter Tryz.func60, Tryz.ntmps60
    go_wp2
    go_loopw [17] (fun i wr => ∃ k : Nat, k ≤ n ∧ i = .int .i64 (k : Int) ∧ (∀ j e x, j < k → L[j]? = some e → M[j]? = some x → ZE.key e = ZE.key x) ∧ Below w.heap.size w wr) (fun i _ => n - (intOf i).toNat)
    case atStart => exact ⟨0, by omega, rfl, fun j e x hj => absurd hj (by omega), Below.refl _ _⟩
    case round =>
      obtain ⟨k, hk, rfl, h1, hB⟩ := hrel
      by_cases hlt : k < n
      · obtain ⟨e, he, _⟩ := h.elem hlt
        have hm : e ∈ L := List.mem_of_getElem? he
        obtain ⟨b, o, rfl, hbl, hc0, hc1⟩ := (h.below hB).cell he
        obtain ⟨x, hx, _⟩ := h2.elem hlt
        have hm2 : x ∈ M := List.mem_of_getElem? hx
        obtain ⟨b2, o2, rfl, hbl2, hd0, hd1⟩ := (h2.below hB).cell hx
        obtain ⟨p, A1, n1, c1, l1⟩ := e
        obtain ⟨q, A3, n3, c3, l3⟩ := x
        dsimp only at hc0 hc1 hd0 hd1
        have HB := Lib.hid (below_then hB (below_then (bxb wr (zo p A1 n1 c1)) (bxb _ (zo q A3 n3 c3))))
        have HM := Lib.hid (HS.out _ _ _ hm hm2 HB.out)
        dsimp only at HM
        have H1 := Lib.hid h1
        have HE := Lib.hid (And.intro he hx)
        by_cases e1 : p = q ∧ l1 = l3
        · have HK := Lib.hid e1
          rw [decide_eq_true e1] at HM
          clear h1 hB h h2 hm hm2 he hx e1
          go_wp2_with fail
          refine HM.out.mono ?_
          rintro r w3 ⟨rfl, hb3⟩
          have hB3 := Lib.hid (below_then HB.out hb3)
          clear hb3
          go_wp2
          go_roundw
          case rel =>
            refine ⟨k + 1, by omega, by go_num, fun j e x hj hje hjx => ?_, hB3.out⟩
            rcases Nat.lt_or_ge j k with hjk | hjk
            · exact H1.out j e x hjk hje hjx
            · obtain rfl : j = k := by omega
              rw [HE.out.1] at hje
              rw [HE.out.2] at hjx
              cases hje
              cases hjx
              exact (key_iff _ _).2 HK.out
          case measure => simp [intOf]; omega
        · have HR : Hid (decide (keys L = keys M) = false) := decide_eq_false (keys_ne he hx fun hk => e1 ((key_iff _ _).1 hk))
          rw [decide_eq_false e1] at HM
          clear h1 hB h h2 hm hm2 he hx e1
          go_wp2_with fail
          refine HM.out.mono ?_
          rintro r w3 ⟨rfl, hb3⟩
          have hB3 := Lib.hid (below_then HB.out hb3)
          clear hb3
          go_wp2
          go_ret
          exact ⟨by rw [← HX.out, HR.out]; (try rfl), hB3.out⟩
      · have HR : Hid (decide (keys L = keys M) = true) := decide_eq_true (keys_eq HL.out HL2.out fun j e x hj hje hjx => h1 j e x (by omega) hje hjx)
        have HB := Lib.hid hB
        clear h1 hB h h2
        go_wp2
        go_ret
        exact ⟨by rw [← HX.out, HR.out]; (try rfl), HB.out⟩
  · have HR : Hid (decide (keys L = keys M) = false) := decide_eq_false fun e => by
      have e2 : (keys L).length = (keys M).length := by rw [e]
      rw [keys_len, keys_len, HL.out, HL2.out] at e2
      exact hnm e2
    rw [HR.out]
    have g1 : ¬ (n : Int) = (m : Int) := by omega
    clear h h2 HR
    go_enter Tryz.func60, Tryz.ntmps60
    go_wp2
    go_ret
    exact ⟨rfl, Below.refl _ _⟩
set_option maxRecDepth 100000 in
set_option maxHeartbeats 4000000 in
theorem sameV_is : SameVIs 31 := fun A A2 n c m d L M w h h2 => by
  have HN := Lib.hid (equalFunc_any h h2)
  clear h h2
  go_enter Tryz.func31, Tryz.ntmps31
  go_wp2_with fail
  refine HN.out.mono ?_
  rintro e w1 ⟨rfl, hb⟩
  go_wp2
  go_ret
  exact ⟨rfl, hb⟩
set_option maxRecDepth 100000 in
set_option maxHeartbeats 4000000 in
theorem cmpV_is : CmpVIs 9 := fun A A2 n c m d L M w h h2 => by
  have HA := Lib.hid (alike_any h h2)
  have HN : Hid (twoVE L M = 0 → ∀ k, k < n → ∃ b o B nb cb b2 o2 B2 nb2 cb2, A = some ⟨b, o, none⟩ ∧ A2 = some ⟨b2, o2, none⟩ ∧ k < m ∧ ∀ W, Below w.heap.size w W → (W.cell? ⟨b, o + k * 2, none⟩ = some (.bool (decide (zat L k < 0))) ∧ W.cell? ⟨b, o + k * 2 + 1, none⟩ = some (.slice B nb cb) ∧ W.cell? ⟨b2, o2 + k * 2, none⟩ = some (.bool (decide (zat M k < 0))) ∧ W.cell? ⟨b2, o2 + k * 2 + 1, none⟩ = some (.slice B2 nb2 cb2)) ∧ Calls Tryz.prog 41 #[.agg #[.bool (decide (zat L k < 0)), .slice B nb cb], .agg #[.bool (decide (zat M k < 0)), .slice B2 nb2 cb2]] W (IAns W (sgn (zat L k - zat M k)) 0)) := fun he k hk => by
    obtain ⟨hm1, hm2, hl⟩ := two_may he
    have hk2 : k < m := by rw [← h2.rd.len, ← hl, h.rd.len]; exact hk
    obtain ⟨b, o, B, nb, cb, hA, hb, x0, x1, zn, lb⟩ := h.num hm1 hk
    obtain ⟨b2, o2, B2, nb2, cb2, hA2, hb2, y0, y1, zn2, lb2⟩ := h2.num hm2 hk2
    exact ⟨b, o, B, nb, cb, b2, o2, B2, nb2, cb2, hA, hA2, hk2, fun W hW => ⟨⟨(hW.cell (p := ⟨b, o + k * 2, none⟩) hb).trans x0, (hW.cell (p := ⟨b, o + k * 2 + 1, none⟩) hb).trans x1, (hW.cell (p := ⟨b2, o2 + k * 2, none⟩) hb2).trans y0, (hW.cell (p := ⟨b2, o2 + k * 2 + 1, none⟩) hb2).trans y1⟩, cmpN (zn.below hW) (zn2.below hW) (by omega) (by omega)⟩⟩
  have hf := h.few
  have hf2 := h2.few
  clear h h2
  generalize zat L = f at *
  generalize zat M = g at *
  unfold IAns at *
  generalize twoVE L M = E at *
  by_cases hz : E = 0
  · subst hz
    replace HN := Lib.hid (HN.out rfl)
    rw [if_pos rfl]
    go_enter Tryz.func9, Tryz.ntmps9
    go_wp2_with fail
    refine HA.out.mono ?_
    rintro e w1 ⟨rfl, hb1⟩
    go_wp2
    go_loopw [18] (fun i wr => ∃ k : Nat, k ≤ n ∧ i = .int .i64 (k : Int) ∧ (∀ j, j < k → sgn (f j - g j) = 0) ∧ Below w.heap.size w wr) (fun i _ => n - (intOf i).toNat)
    case atStart => exact ⟨0, by omega, rfl, fun j hj => absurd hj (by omega), hb1⟩
    case round =>
      obtain ⟨k, hk, rfl, h1, hB⟩ := hrel
      by_cases hlt : k < n
      · obtain ⟨b, o, B, nb, cb, b2, o2, B2, nb2, cb2, rfl, rfl, hkm, hC⟩ := HN.out k hlt
        have HX := Lib.hid (fun W hW => (hC W hW).1)
        obtain ⟨x0, x1, y0, y1⟩ := HX.out _ hB
        have HBd := Lib.hid hB.drew
        replace hC := fun W hW => (hC W hW).2
        have HC := Lib.hid hC
        have H1 := Lib.hid h1
        have HB := Lib.hid hB
        by_cases hs : sgn (f k - g k) = 0
        · have HS := Lib.hid hs
          rw [hs] at HC
          clear hs h1 hC hB HB
          go_wp2_with fail
          go_region_held3 (fun W' => W'.cell? ⟨b, o + k * 2, none⟩ = some (.bool (decide (f k < 0))) ∧ W'.cell? ⟨b, o + k * 2 + 1, none⟩ = some (.slice B nb cb) ∧ W'.cell? ⟨b2, o2 + k * 2, none⟩ = some (.bool (decide (g k < 0))) ∧ W'.cell? ⟨b2, o2 + k * 2 + 1, none⟩ = some (.slice B2 nb2 cb2)) (first | (with_reducible exact ⟨x0, x1, y0, y1⟩) | go_keep)
            (first | (go_at_call 41; refine (HC.out _ HBd.out).mono ?_; rintro e w3 ⟨rfl, hb3⟩; have HB3 := Lib.hid (below_then HBd.out hb3); clear x0 x1 y0 y1 hb3; obtain ⟨x0, x1, y0, y1⟩ := HX.out _ HB3.out))
          go_wp2
          go_roundw
          case rel =>
            refine ⟨k + 1, by omega, by go_num, fun j hj => ?_, HB3.out⟩
            rcases Nat.lt_or_ge j k with hjk | hjk
            · exact H1.out j hjk
            · obtain rfl : j = k := by omega
              exact HS.out
          case measure => simp [intOf]; omega
        · have HR : Hid (firstTo (fun i => sgn (f i - g i)) n = sgn (f k - g k)) := firstTo_found (f := fun i => sgn (f i - g i)) h1 hs hlt
          generalize sgn (f k - g k) = s at *
          have hE2 : ((s : Int) != 0) = true := by simpa using hs
          have hE3 : ((s : Int) == 0) = false := by simpa using hs
          clear hs h1 hC hB HB
          go_wp2_with fail
          go_region_held3 (fun W' => W'.cell? ⟨b, o + k * 2, none⟩ = some (.bool (decide (f k < 0))) ∧ W'.cell? ⟨b, o + k * 2 + 1, none⟩ = some (.slice B nb cb) ∧ W'.cell? ⟨b2, o2 + k * 2, none⟩ = some (.bool (decide (g k < 0))) ∧ W'.cell? ⟨b2, o2 + k * 2 + 1, none⟩ = some (.slice B2 nb2 cb2)) (first | (with_reducible exact ⟨x0, x1, y0, y1⟩) | go_keep)
            (first | (go_at_call 41; refine (HC.out _ HBd.out).mono ?_; rintro e w3 ⟨rfl, hb3⟩; have HB3 := Lib.hid (below_then HBd.out hb3); clear x0 x1 y0 y1 hb3; obtain ⟨x0, x1, y0, y1⟩ := HX.out _ HB3.out))
          go_wp2
          go_ret2
          exact ⟨by rw [HR.out]; (try rfl), HB3.out⟩
      · have HR : Hid (firstTo (fun i => sgn (f i - g i)) n = 0) := firstTo_zero.2 fun i hi => h1 i (by omega)
        have HB := Lib.hid hB
        clear h1 hB
        go_wp2
        go_ret2
        exact ⟨by rw [HR.out]; (try rfl), HB.out⟩
  · rw [if_neg hz]
    have hE2 : ((E : Int) != 0) = true := by simpa using hz
    have hE3 : ((E : Int) == 0) = false := by simpa using hz
    clear hz HN
    go_enter Tryz.func9, Tryz.ntmps9
    go_wp2_with fail
    refine HA.out.mono ?_
    rintro e w1 ⟨rfl, hb1⟩
    go_wp2
    go_ret2
    exact ⟨rfl, hb1⟩
end
end Go.Proofs.YtgiokmfdafmaoaaGreat

/- The document's May, Check, Zero, Same, Great of rows. -/
namespace Go.Proofs.YtgiokmfdafmaoaaGreat
open Go.RowKit Go.Shelf
set_option linter.unusedVariables false
set_option linter.unusedSimpArgs false

section
variable {A A2 B B2 : Option Addr} {n c m d nb cb na ca g1 g2 g3 g4 k : Nat} {L M : List ZE} {w W : World} {z y : Int}
set_option maxRecDepth 100000 in
set_option maxHeartbeats 4000000 in
theorem rMayV_any (h : V1 w A n c L) : Calls Tryz.prog 53 #[.slice A n c] w fun e w' => e = .returned (.bool (mayR L)) ∧ Below w.heap.size w w' := by
  have HC : Hid (∀ (e : ZE) (W : World), e ∈ L → Below w.heap.size w W → Calls Tryz.prog 54 #[.agg #[.bool e.p, .slice e.A e.n e.c]] W fun x w' => x = .returned (.bool (mayZ e.p e.l)) ∧ Below W.heap.size W w') := fun e W he hW =>
    rMayZ_any (p := e.p) (w := W) ⟨((h.rd.ok e he).below hW).r, Nat.le_trans (h.small e he) (by omega), (h.rd.ok e he).c1, (h.rd.ok e he).c2⟩
  have HL := Lib.hid h.rd.len
  have hf := h.few
  have h := h.rd
  generalize hE : mayR L = E
  have HX := Lib.hid hE
  clear hE
  go_enter Tryz.func53, Tryz.ntmps53
  go_wp2
  go_loopw [3] (fun i wr => ∃ k : Nat, k ≤ n ∧ i = .int .i64 (k : Int) ∧ (∀ j e, j < k → L[j]? = some e → mayZ e.p e.l = true) ∧ Below w.heap.size w wr) (fun i _ => n - (intOf i).toNat)
  case atStart => exact ⟨0, by omega, rfl, fun j e hj => absurd hj (by omega), Below.refl _ _⟩
  case round =>
    obtain ⟨k, hk, rfl, h1, hB⟩ := hrel
    by_cases hlt : k < n
    · obtain ⟨e, he, _⟩ := h.elem hlt
      have hm : e ∈ L := List.mem_of_getElem? he
      obtain ⟨b, o, rfl, hbl, hc0, hc1⟩ := (h.below hB).cell he
      obtain ⟨p, A1, n1, c1, l1⟩ := e
      dsimp only at hc0 hc1
      have HB := Lib.hid hB
      have HM := Lib.hid (HC.out _ _ hm HB.out)
      dsimp only at HM
      have H1 := Lib.hid h1
      have HE := Lib.hid he
      cases e1 : mayZ p l1 with
      | false =>
        have HR : Hid (mayR L = false) := by show mayR L = false; unfold mayR; rw [mayV_no he e1]; rfl
        rw [e1] at HM
        clear h1 hB h hm he e1
        go_wp2_with fail
        refine HM.out.mono ?_
        rintro x w3 ⟨rfl, hb3⟩
        have hB3 := Lib.hid (below_then HB.out hb3)
        clear hb3
        go_wp2
        go_ret
        exact ⟨by rw [← HX.out, HR.out]; (try rfl), hB3.out⟩
      | true =>
        have HK := Lib.hid e1
        rw [e1] at HM
        clear h1 hB h hm he e1
        go_wp2_with fail
        refine HM.out.mono ?_
        rintro x w3 ⟨rfl, hb3⟩
        have hB3 := Lib.hid (below_then HB.out hb3)
        clear hb3
        go_wp2
        go_roundw
        case rel =>
          refine ⟨k + 1, by omega, by go_num, fun j e hj hje => ?_, hB3.out⟩
          rcases Nat.lt_or_ge j k with hjk | hjk
          · exact H1.out j e hjk hje
          · obtain rfl : j = k := by omega
            rw [HE.out] at hje
            cases hje
            exact HK.out
        case measure => simp [intOf]; omega
    · have HR : Hid (mayR L = decide (n ≤ 64)) := by
        show mayR L = _
        unfold mayR
        rw [mayV_yes HL.out fun j e hj hje => h1 j e (by omega) hje, HL.out, Bool.true_and]
      have HB := Lib.hid hB
      clear h1 hB h
      by_cases h64 : n ≤ 64
      · have HR2 : Hid (mayR L = true) := HR.out.trans (decide_eq_true h64)
        have g1 : (n : Int) ≤ 64 := by omega
        go_wp2
        go_ret
        exact ⟨by rw [← HX.out, HR2.out]; (try rfl), HB.out⟩
      · have HR2 : Hid (mayR L = false) := HR.out.trans (decide_eq_false h64)
        have g1 : ¬ (n : Int) ≤ 64 := by omega
        go_wp2
        go_ret
        exact ⟨by rw [← HX.out, HR2.out]; (try rfl), HB.out⟩
set_option maxRecDepth 100000 in
set_option maxHeartbeats 4000000 in
theorem rCheckV_any (h : V1 w A n c L) : Calls Tryz.prog 28 #[.slice A n c] w fun e w' => e = .returned (.int .i64 (if mayR L then 0 else 8)) ∧ Below w.heap.size w w' := by
  have HN := Lib.hid (rMayV_any h)
  clear h
  cases hm : mayR L with
  | false =>
    rw [hm] at HN
    simp only [Bool.false_eq_true, if_false]
    clear hm
    go_enter Tryz.func28, Tryz.ntmps28
    go_wp2_with fail
    refine HN.out.mono ?_
    rintro e w1 ⟨rfl, hb⟩
    go_wp2
    go_ret
    exact ⟨rfl, hb⟩
  | true =>
    rw [hm] at HN
    simp only [if_true]
    clear hm
    go_enter Tryz.func28, Tryz.ntmps28
    go_wp2_with fail
    refine HN.out.mono ?_
    rintro e w1 ⟨rfl, hb⟩
    go_wp2
    go_ret
    exact ⟨rfl, hb⟩
set_option maxRecDepth 100000 in
set_option maxHeartbeats 4000000 in
theorem rTwoV_any (h : V1 w A n c L) (h2 : V1 w A2 m d M) : Calls Tryz.prog 48 #[.slice A n c, .slice A2 m d] w fun e w' => e = .returned (.int .i64 (twoVE L M)) ∧ Below w.heap.size w w' := by
  have HN := Lib.hid (rMayV_any h)
  have HN2 := Lib.hid (fun W (hW : Below w.heap.size w W) => rMayV_any (h2.below hW))
  have hf := h.few
  have hf2 := h2.few
  have TT : Hid (twoVE L M = if mayR L && mayR M then (if n = m then 0 else 70) else 8) := by
    show twoVE L M = _
    unfold twoVE
    rw [h.rd.len, h2.rd.len]
  clear h h2
  rw [TT.out]
  clear TT
  cases hm : mayR L with
  | false =>
    rw [hm] at HN
    simp only [Bool.false_and, Bool.false_eq_true, if_false]
    clear hm
    go_enter Tryz.func48, Tryz.ntmps48
    go_wp2_with fail
    refine HN.out.mono ?_
    rintro e w1 ⟨rfl, hb⟩
    go_wp2
    go_ret
    exact ⟨rfl, hb⟩
  | true =>
    rw [hm] at HN
    clear hm
    cases hm : mayR M with
    | false =>
      rw [hm] at HN2
      simp only [Bool.and_false, Bool.false_eq_true, if_false]
      clear hm
      go_enter Tryz.func48, Tryz.ntmps48
      go_wp2_with fail
      refine HN.out.mono ?_
      rintro e w1 ⟨rfl, hb⟩
      go_wp2_with fail
      refine (HN2.out _ hb).mono ?_
      rintro e w2 ⟨rfl, hb2⟩
      have HB := Lib.hid (below_then hb hb2)
      clear hb hb2
      go_wp2
      go_ret
      exact ⟨rfl, HB.out⟩
    | true =>
      rw [hm] at HN2
      simp only [Bool.and_true, if_true]
      clear hm
      by_cases hnm : n = m
      · subst hnm
        rw [if_pos rfl]
        go_enter Tryz.func48, Tryz.ntmps48
        go_wp2_with fail
        refine HN.out.mono ?_
        rintro e w1 ⟨rfl, hb⟩
        go_wp2_with fail
        refine (HN2.out _ hb).mono ?_
        rintro e w2 ⟨rfl, hb2⟩
        have HB := Lib.hid (below_then hb hb2)
        clear hb hb2
        go_wp2
        go_ret
        exact ⟨rfl, HB.out⟩
      · rw [if_neg hnm]
        have g1 : ¬ (n : Int) = (m : Int) := by omega
        go_enter Tryz.func48, Tryz.ntmps48
        go_wp2_with fail
        refine HN.out.mono ?_
        rintro e w1 ⟨rfl, hb⟩
        go_wp2_with fail
        refine (HN2.out _ hb).mono ?_
        rintro e w2 ⟨rfl, hb2⟩
        have HB := Lib.hid (below_then hb hb2)
        clear hb hb2
        go_wp2
        go_ret
        exact ⟨rfl, HB.out⟩
set_option maxRecDepth 100000 in
set_option maxHeartbeats 4000000 in
theorem rZeroV_any : ZeroIs 30 := fun A n c L w h => by
  have HL := Lib.hid h.rd.len
  have hf := h.few
  have HZ : Hid (∀ e, e ∈ L → (e.n = 0 ↔ e.l = []) ∧ e.n ≤ 60) := fun e he => ⟨by rw [← (h.rd.ok e he).r.len]; exact List.length_eq_zero_iff, h.small e he⟩
  have h := h.rd
  generalize hE : noughts L = E
  have HX := Lib.hid hE
  clear hE
  go_enter Tryz.func30, Tryz.ntmps30
  go_wp2
  go_loopw [3] (fun i wr => ∃ k : Nat, k ≤ n ∧ i = .int .i64 (k : Int) ∧ (∀ j e, j < k → L[j]? = some e → e.p = false ∧ e.l = []) ∧ Below w.heap.size w wr) (fun i _ => n - (intOf i).toNat)
  case atStart => exact ⟨0, by omega, rfl, fun j e hj => absurd hj (by omega), Below.refl _ _⟩
  case round =>
    obtain ⟨k, hk, rfl, h1, hB⟩ := hrel
    by_cases hlt : k < n
    · obtain ⟨e, he, _⟩ := h.elem hlt
      have hm : e ∈ L := List.mem_of_getElem? he
      obtain ⟨b, o, rfl, hbl, hc0, hc1⟩ := (h.below hB).cell he
      obtain ⟨hz, hz2⟩ := HZ.out e hm
      obtain ⟨p, A1, n1, c1, l1⟩ := e
      dsimp only at hc0 hc1 hz hz2
      have HB := Lib.hid hB
      have H1 := Lib.hid h1
      have HE := Lib.hid he
      have HN : Hid (¬ (p = false ∧ l1 = []) → noughts L = false) := fun e1 => noughts_no he e1
      have HI := Lib.hid hz
      clear h1 hB h hm he hz
      cases p with
      | true =>
        go_wp2
        go_ret
        exact ⟨by rw [← HX.out, HN.out (fun h => by cases h.1)]; (try rfl), HB.out⟩
      | false =>
        by_cases e1 : n1 = 0
        · subst e1
          have HK : Hid (l1 = []) := HI.out.1 rfl
          go_wp2
          go_roundw
          case rel =>
            refine ⟨k + 1, by omega, by go_num, fun j e hj hje => ?_, HB.out⟩
            rcases Nat.lt_or_ge j k with hjk | hjk
            · exact H1.out j e hjk hje
            · obtain rfl : j = k := by omega
              rw [HE.out] at hje
              cases hje
              exact ⟨rfl, HK.out⟩
          case measure => simp [intOf]; omega
        · have HR : Hid (noughts L = false) := HN.out (fun h => e1 (HI.out.2 h.2))
          have g1 : (0 : Int) < (n1 : Int) := by omega
          go_wp2
          go_ret
          exact ⟨by rw [← HX.out, HR.out]; (try rfl), HB.out⟩
    · have HR : Hid (noughts L = true) := noughts_yes HL.out fun j e hj hje => h1 j e (by omega) hje
      have HB := Lib.hid hB
      clear h1 hB h
      go_wp2
      go_ret
      exact ⟨by rw [← HX.out, HR.out]; (try rfl), HB.out⟩
set_option maxRecDepth 100000 in
set_option maxHeartbeats 4000000 in
theorem rSameV_any : SameVIs 12 := fun A A2 n c m d L M w h h2 => by
  have HS : Hid (∀ (e x : ZE) (W : World), e ∈ L → x ∈ M → Below w.heap.size w W → Calls Tryz.prog 27 #[.agg #[.bool e.p, .slice e.A e.n e.c], .agg #[.bool x.p, .slice x.A x.n x.c]] W fun r w' => r = .returned (.bool (decide (e.p = x.p ∧ e.l = x.l))) ∧ Below W.heap.size W w') := fun e x W he hx hW =>
    rSameZ_any e.A x.A e.n e.c x.n x.c e.p x.p e.l x.l W ⟨((h.rd.ok e he).below hW).r, ((h2.rd.ok x hx).below hW).r, Nat.le_trans (h.small e he) (by omega), Nat.le_trans (h2.small x hx) (by omega), (h.rd.ok e he).c1, (h.rd.ok e he).c2, (h2.rd.ok x hx).c1, (h2.rd.ok x hx).c2⟩
  have hf1 := h.few
  have hf2 := h2.few
  have h := h.rd
  have h2 := h2.rd
  have HL := Lib.hid h.len
  have HL2 := Lib.hid h2.len
  by_cases hnm : n = m
  · subst hnm
    generalize hD : decide (keys L = keys M) = D
    have HX := Lib.hid hD
    clear hD
    go_enter Tryz.func12, Tryz.ntmps12
    go_wp2
    go_loopw [5] (fun i wr => ∃ k : Nat, k ≤ n ∧ i = .int .i64 (k : Int) ∧ (∀ j e x, j < k → L[j]? = some e → M[j]? = some x → ZE.key e = ZE.key x) ∧ Below w.heap.size w wr) (fun i _ => n - (intOf i).toNat)
    case atStart => exact ⟨0, by omega, rfl, fun j e x hj => absurd hj (by omega), Below.refl _ _⟩
    case round =>
      obtain ⟨k, hk, rfl, h1, hB⟩ := hrel
      by_cases hlt : k < n
      · obtain ⟨e, he, _⟩ := h.elem hlt
        have hm : e ∈ L := List.mem_of_getElem? he
        obtain ⟨b, o, hA, hbl, hcA, hcB⟩ := h.cell he
        obtain ⟨x, hx, _⟩ := h2.elem hlt
        have hm2 : x ∈ M := List.mem_of_getElem? hx
        obtain ⟨b2, o2, hA2, hbl2, hdA, hdB⟩ := h2.cell hx
        have HX0 := Lib.hid (fun W (hW : Below w.heap.size w W) => And.intro ((hW.cell (p := ⟨b, o + k * 2, none⟩) hbl).trans hcA) (And.intro ((hW.cell (p := ⟨b, o + k * 2 + 1, none⟩) hbl).trans hcB) (And.intro ((hW.cell (p := ⟨b2, o2 + k * 2, none⟩) hbl2).trans hdA) ((hW.cell (p := ⟨b2, o2 + k * 2 + 1, none⟩) hbl2).trans hdB))))
        obtain ⟨hc0, hc1, hd0, hd1⟩ := HX0.out _ hB
        subst hA
        subst hA2
        clear hcA hcB hdA hdB
        obtain ⟨p, A1, n1, c1, l1⟩ := e
        obtain ⟨q, A3, n3, c3, l3⟩ := x
        dsimp only at hc0 hc1 hd0 hd1 HX0
        have HB := Lib.hid hB
        have HM := Lib.hid (fun W hW => HS.out _ _ W hm hm2 hW)
        dsimp only at HM
        have HBd := Lib.hid hB.drew
        have HXc : Hid (∀ W, Below w.heap.size w W → W.cell? ⟨b, o + k * 2, none⟩ = some (.bool p) ∧ W.cell? ⟨b, o + k * 2 + 1, none⟩ = some (.slice A1 n1 c1) ∧ W.cell? ⟨b2, o2 + k * 2, none⟩ = some (.bool q) ∧ W.cell? ⟨b2, o2 + k * 2 + 1, none⟩ = some (.slice A3 n3 c3)) := HX0
        have H1 := Lib.hid h1
        have HE := Lib.hid (And.intro he hx)
        by_cases e1 : p = q ∧ l1 = l3
        · have HK := Lib.hid e1
          rw [decide_eq_true e1] at HM
          clear h1 hB h h2 hm hm2 he hx e1 HX0 HB
          go_wp2_with fail
          go_region_held3 (fun W' => W'.cell? ⟨b, o + k * 2, none⟩ = some (.bool p) ∧ W'.cell? ⟨b, o + k * 2 + 1, none⟩ = some (.slice A1 n1 c1) ∧ W'.cell? ⟨b2, o2 + k * 2, none⟩ = some (.bool q) ∧ W'.cell? ⟨b2, o2 + k * 2 + 1, none⟩ = some (.slice A3 n3 c3)) (first | (with_reducible exact ⟨hc0, hc1, hd0, hd1⟩) | go_keep)
            (first | (go_at_call 27; refine (HM.out _ HBd.out).mono ?_; rintro e w3 ⟨rfl, hb3⟩; have HB3 := Lib.hid (below_then HBd.out hb3); clear hc0 hc1 hd0 hd1 hb3; obtain ⟨hc0, hc1, hd0, hd1⟩ := HXc.out _ HB3.out))
          go_wp2
          go_roundw
          case rel =>
            refine ⟨k + 1, by omega, by go_num, fun j e x hj hje hjx => ?_, HB3.out⟩
            rcases Nat.lt_or_ge j k with hjk | hjk
            · exact H1.out j e x hjk hje hjx
            · obtain rfl : j = k := by omega
              rw [HE.out.1] at hje
              rw [HE.out.2] at hjx
              cases hje
              cases hjx
              exact (key_iff _ _).2 HK.out
          case measure => simp [intOf]; omega
        · have HR : Hid (decide (keys L = keys M) = false) := decide_eq_false (keys_ne he hx fun hk => e1 ((key_iff _ _).1 hk))
          rw [decide_eq_false e1] at HM
          clear h1 hB h h2 hm hm2 he hx e1 HX0 HB
          go_wp2_with fail
          go_region_held3 (fun W' => W'.cell? ⟨b, o + k * 2, none⟩ = some (.bool p) ∧ W'.cell? ⟨b, o + k * 2 + 1, none⟩ = some (.slice A1 n1 c1) ∧ W'.cell? ⟨b2, o2 + k * 2, none⟩ = some (.bool q) ∧ W'.cell? ⟨b2, o2 + k * 2 + 1, none⟩ = some (.slice A3 n3 c3)) (first | (with_reducible exact ⟨hc0, hc1, hd0, hd1⟩) | go_keep)
            (first | (go_at_call 27; refine (HM.out _ HBd.out).mono ?_; rintro e w3 ⟨rfl, hb3⟩; have HB3 := Lib.hid (below_then HBd.out hb3); clear hc0 hc1 hd0 hd1 hb3; obtain ⟨hc0, hc1, hd0, hd1⟩ := HXc.out _ HB3.out))
          go_wp2
          go_ret
          exact ⟨by rw [← HX.out, HR.out]; (try rfl), HB3.out⟩
      · have HR : Hid (decide (keys L = keys M) = true) := decide_eq_true (keys_eq HL.out HL2.out fun j e x hj hje hjx => h1 j e x (by omega) hje hjx)
        have HB := Lib.hid hB
        clear h1 hB h h2
        go_wp2
        go_ret
        exact ⟨by rw [← HX.out, HR.out]; (try rfl), HB.out⟩
  · have HR : Hid (decide (keys L = keys M) = false) := decide_eq_false fun e => by
      have e2 : (keys L).length = (keys M).length := by rw [e]
      rw [keys_len, keys_len, HL.out, HL2.out] at e2
      exact hnm e2
    rw [HR.out]
    have g1 : ¬ (n : Int) = (m : Int) := by omega
    clear h h2 HR
    go_enter Tryz.func12, Tryz.ntmps12
    go_wp2
    go_ret
    exact ⟨rfl, Below.refl _ _⟩
/-- Is a row of more than so many numbers, or one of them of more than so many limbs? -/
def greatV (L : List ZE) (many limbs : Nat) : Bool := decide (many < L.length) || L.any fun e => decide (limbs < e.n)
theorem great_no {L : List ZE} {many limbs : Nat} (h : greatV L many limbs = false) : L.length ≤ many ∧ ∀ e, e ∈ L → e.n ≤ limbs := by
  unfold greatV at h
  rw [Bool.or_eq_false_iff, List.any_eq_false] at h
  refine ⟨by simpa using h.1, fun e he => by simpa using h.2 e he⟩
set_option maxRecDepth 100000 in
set_option maxHeartbeats 4000000 in
theorem greatV_any {many limbs : Nat} (h : RdV w A n L) (hn : n ≤ 9223372036854775807) (hs : ∀ e, e ∈ L → e.n ≤ 9223372036854775807) : Calls Tryz.prog 15 #[.slice A n c, .int .i64 (many : Int), .int .i64 (limbs : Int)] w fun e w' => e = .returned (.bool (greatV L many limbs)) ∧ Below w.heap.size w w' := by
  have HL := Lib.hid h.len
  have HS := Lib.hid hs
  clear hs
  generalize hE : greatV L many limbs = E
  have HX := Lib.hid hE
  clear hE
  by_cases hmany : many < n
  · have HR : Hid (greatV L many limbs = true) := by show greatV L many limbs = true; unfold greatV; rw [HL.out, decide_eq_true hmany]; rfl
    have g1 : (many : Int) < (n : Int) := by omega
    clear h
    go_enter Tryz.func15, Tryz.ntmps15
    go_wp2
    go_ret
    exact ⟨by rw [← HX.out, HR.out]; (try rfl), Below.refl _ _⟩
  · have g1 : ¬ (many : Int) < (n : Int) := by omega
    go_enter Tryz.func15, Tryz.ntmps15
    go_wp2
    go_loopw [7] (fun i wr => ∃ k : Nat, k ≤ n ∧ i = .int .i64 (k : Int) ∧ (∀ j e, j < k → L[j]? = some e → e.n ≤ limbs) ∧ Below w.heap.size w wr) (fun i _ => n - (intOf i).toNat)
    case atStart => exact ⟨0, by omega, rfl, fun j e hj => absurd hj (by omega), Below.refl _ _⟩
    case round =>
      obtain ⟨k, hk, rfl, h1, hB⟩ := hrel
      by_cases hlt : k < n
      · obtain ⟨e, he, _⟩ := h.elem hlt
        have hm : e ∈ L := List.mem_of_getElem? he
        obtain ⟨b, o, rfl, hbl, hc0, hc1⟩ := (h.below hB).cell he
        have hz2 := HS.out e hm
        have HN : Hid (limbs < e.n → greatV L many limbs = true) := fun e1 => by
          unfold greatV
          rw [Bool.or_eq_true]
          exact .inr (List.any_eq_true.2 ⟨e, hm, decide_eq_true e1⟩)
        obtain ⟨p, A1, n1, c1, l1⟩ := e
        dsimp only at hc0 hc1 hz2 HN
        have HB := Lib.hid hB
        have H1 := Lib.hid h1
        have HE := Lib.hid he
        clear h1 hB h hm he
        by_cases e1 : limbs < n1
        · have HR := Lib.hid (HN.out e1)
          have g2 : (limbs : Int) < (n1 : Int) := by omega
          clear HN
          go_wp2
          go_ret
          exact ⟨by rw [← HX.out, HR.out]; (try rfl), HB.out⟩
        · have g2 : ¬ (limbs : Int) < (n1 : Int) := by omega
          clear HN
          go_wp2
          go_roundw
          case rel =>
            refine ⟨k + 1, by omega, by go_num, fun j e hj hje => ?_, HB.out⟩
            rcases Nat.lt_or_ge j k with hjk | hjk
            · exact H1.out j e hjk hje
            · obtain rfl : j = k := by omega
              rw [HE.out] at hje
              cases hje
              exact Nat.le_of_not_lt e1
          case measure => simp [intOf]; omega
      · have HR : Hid (greatV L many limbs = false) := by
          show greatV L many limbs = false
          unfold greatV
          rw [Bool.or_eq_false_iff]
          refine ⟨decide_eq_false (by rw [HL.out]; exact hmany), List.any_eq_false.2 fun e he => ?_⟩
          obtain ⟨j, hj⟩ := List.getElem?_of_mem he
          have hjl := (List.getElem?_eq_some_iff.1 hj).1
          rw [HL.out] at hjl
          have := h1 j e (by omega) hj
          simpa using this
        have HB := Lib.hid hB
        clear h1 hB h
        go_wp2
        go_ret
        exact ⟨by rw [← HX.out, HR.out]; (try rfl), HB.out⟩
end
end Go.Proofs.YtgiokmfdafmaoaaGreat

/- vec: what makes a place of Prime. -/
namespace Go.Proofs.YtgiokmfdafmaoaaGreat
open Go.RowKit Go.Shelf
set_option linter.unusedVariables false
set_option linter.unusedSimpArgs false

section
variable {A A2 B B2 : Option Addr} {n c m d nb cb na ca g1 g2 g3 g4 k : Nat} {L M : List ZE} {w W : World} {z y : Int}
set_option maxRecDepth 100000 in
set_option maxHeartbeats 4000000 in
theorem primeClo_any (hv : BoxV w g1 A n c) (hx : w.heap[g2]? = some (.cells #[.slice B nb cb] 23)) (hz : Own w W.heap.size (.slice B nb cb) (limbs (gcdTo (zat L) n))) (lz : nb ≤ 60) (h0 : gcdTo (zat L) n ≠ 0) (h : V1 w A n c L) (hm : mayR L = true) (hk : k < n) :
    Calls Tryz.prog 38 #[.int .i64 (k : Int), .pointer (some ⟨g1, 0, none⟩), .pointer (some ⟨g2, 0, none⟩)] w (KAns w (numK (primeV (zat L) n) k).1 (numK (primeV (zat L) n) k).2) := by
  obtain ⟨s, hs, b2, o2, B2, nb2, cb2, rfl, hb2, y0, y1, zn2, lb2⟩ := h.numH hm hk
  have hd : ((gcdTo (zat L) n : Nat) : Int) ∣ s := by rw [← hs.out]; exact Int.ofNat_dvd_left.2 (gcdTo_dvd hk)
  have T0 := uno_box w false none 0 0
  have HM := Lib.hid (fun V (hV : Below w.heap.size w V) => partV_any (w := V) (zn2.below hV) (nat_nm (hz.nm.below hV)) (by omega) (by omega) h0 hd)
  have HC : Hid (∀ W', Below w.heap.size w W' → W'.cell? ⟨g2, 0, none⟩ = some (.slice B nb cb) ∧ W'.cell? ⟨g1, 0, none⟩ = some (.slice (some ⟨b2, o2, none⟩) n c) ∧ W'.cell? ⟨b2, o2 + k * 2, none⟩ = some (.bool (decide (s < 0))) ∧ W'.cell? ⟨b2, o2 + k * 2 + 1, none⟩ = some (.slice B2 nb2 cb2)) := fun W' hW => ⟨cells_cell ((hW.block g2 (Array.getElem?_eq_some_iff.1 hx).1).trans hx) rfl, (hv.next hW).c0, (hW.cell (p := ⟨b2, o2 + k * 2, none⟩) hb2).trans y0, (hW.cell (p := ⟨b2, o2 + k * 2 + 1, none⟩) hb2).trans y1⟩
  have r0 := T0.x.c0
  have r1 := T0.x.c1
  have f0 := T0.x.f 0
  have f1 := T0.x.f 1
  have HT0 := Lib.hid (T0.next (Below.refl _ _).drew)
  clear y0 y1
  obtain ⟨c0, c2, y0, y1⟩ := HC.out _ T0.b
  have e : primeV (zat L) n k = Int.fdiv s (gcdTo (zat L) n : Int) := by
    unfold primeV
    rw [if_neg h0, hs.out, (Int.fdiv_eq_of_eq_mul_right (by omega) (Int.mul_tdiv_cancel' hd).symm)]
  have hl1 := hv.lt
  have hl2 := (Array.getElem?_eq_some_iff.1 hx).1
  clear h hm hx hv hz zn2 hd
  rw [numK_at e]
  clear e
  unfold KAns
  dsimp only
  generalize Int.fdiv s (gcdTo (zat L) n : Int) = t at *
  unfold ZOne zV zv at HM
  go_enter Tryz.func38, Tryz.ntmps38
  go_wp2_with fail
  go_region_held3 (fun W' => W'.cell? ⟨g2, 0, none⟩ = some (.slice B nb cb) ∧ W'.cell? ⟨g1, 0, none⟩ = some (.slice (some ⟨b2, o2, none⟩) n c) ∧ W'.cell? ⟨b2, o2 + k * 2, none⟩ = some (.bool (decide (s < 0))) ∧ W'.cell? ⟨b2, o2 + k * 2 + 1, none⟩ = some (.slice B2 nb2 cb2)) (first | (with_reducible exact ⟨c0, c2, y0, y1⟩) | (with_reducible refine ⟨cell_far (cell_far c0 ?_ _) ?_ _, cell_far (cell_far c2 ?_ _) ?_ _, cell_far (cell_far y0 ?_ _) ?_ _, cell_far (cell_far y1 ?_ _) ?_ _⟩ <;> omega) | go_keep)
    (first | (go_at_call 39; refine (HM.out _ HT0.out.b).mono ?_; rintro e w1 ⟨A3, k3, c3, rfl, o3, hb3⟩; have T1 := HT0.out.next hb3; clear r0 r1 f0 f1 c0 c2 y0 y1; have r0 := T1.x.c0; have r1 := T1.x.c1; have f0 := T1.x.f 0; have f1 := T1.x.f 1; obtain ⟨c0, c2, y0, y1⟩ := HC.out _ T1.b))
  have hG := Lib.hid (Array.getElem?_eq_some_iff.1 HT0.out.x).1
  clear c0 c2 y0 y1
  go_wp2
  refine bodyPost_ret (v := .agg #[.bool (decide (t < 0)), .slice A3 k3 c3]) (by simp [results, Tryz.results38, go_sem, r0, r1]) rfl ?_
  exact ⟨A3, k3, c3, rfl, own_box hG.out (Nat.le_refl _) o3 _ _, box_below (Nat.le_refl _) T1.b _ _⟩
end
end Go.Proofs.YtgiokmfdafmaoaaGreat

/- vec: Content, Prime, Twin. -/
namespace Go.Proofs.YtgiokmfdafmaoaaGreat
open Go.RowKit Go.Shelf
set_option linter.unusedVariables false
set_option linter.unusedSimpArgs false

theorem gcd_bd {a b X : Nat} (h1 : a < X) (h2 : b < X) : Nat.gcd a b < X := by
  rcases Nat.eq_zero_or_pos b with h | h
  · subst h; rwa [Nat.gcd_zero_right]
  · exact Nat.lt_of_le_of_lt (Nat.le_of_dvd h (Nat.gcd_dvd_right a b)) h2
theorem gcdTo_bd {f : Nat → Int} {j n : Nat} (h : BdV j n f) : ∀ k, k ≤ n → gcdTo f k < B64 ^ j := by
  intro k
  induction k with
  | zero => intro _; exact Nat.pow_pos B64_pos
  | succ k ih => intro hk; exact gcd_bd (ih (by omega)) (h k (by omega))
theorem gcdN {w : World} {A A2 : Option Addr} {na ca nb cb x y : Nat} (h1 : Nm w A na ca x) (h2 : Nm w A2 nb cb y) (l1 : na ≤ 400) (l2 : nb ≤ 400) : Calls Tryz.prog 35 #[.slice A na ca, .slice A2 nb cb] w (Answers w (limbs (Nat.gcd x y)) 0) := by
  have h := gcd_is A A2 na ca nb cb (limbs x) (limbs y) w h1.rd h2.rd l1 l2 ⟨h1.nc, h1.cm⟩ ⟨h2.nc, h2.cm⟩
  have e : both (limbs x) (limbs y) = true := by unfold both; rw [may_limbs, may_limbs]; rfl
  unfold gcdL err2 at h
  rw [if_pos e, if_pos e, val_limbs, val_limbs] at h
  exact h
section
variable {A A2 B B2 : Option Addr} {n c m d nb cb na ca g1 g2 g3 g4 k : Nat} {L M : List ZE} {w W : World} {z y : Int}
set_option maxRecDepth 100000 in
set_option maxHeartbeats 4000000 in
theorem twinV_is : TwinIs 32 := fun A n c L w h => by
  have hmf : ∀ (fn : Fn) (first cap : Array Value) (w : World), (Instr.makeFunc fn first cap).run Tryz.prog w = .ok (.func fn first cap) w := fun _ _ _ _ => rfl
  have T1 := bxb w (bv A n c)
  have X1 : BoxV (w.alloc (bv A n c)) w.heap.size A n c := World.alloc_heap_new _ _
  have HP : Hid (∀ (W : World) (g1 : Nat), Below w.heap.size w W → BoxV W g1 A n c → Calls Tryz.prog 36 #[.int .i64 (n : Int), .func (.func 61) #[] #[.pointer (some ⟨g1, 0, none⟩)]] W (KRow W n (fun i => (keys L).getD i (false, [])))) := fun W g1 hW hx =>
    placedV1_any _ _ (enters_of Tryz.func61 (by kernel_rfl) rfl) n h.few _ W fun k hk V hV => by
      obtain ⟨e, he, hc⟩ := twinClo_any (hx.next hV) ((h.below hW).below hV) hk
      have hkk : (keys L).getD k (false, []) = (e.p, e.l) := by
        unfold keys
        rw [List.getD_eq_getElem?_getD, List.getElem?_map, he]
        rfl
      rw [hkk]
      exact hc
  have hl := h.rd.len
  have x0 := X1.c0
  unfold KRow at HP
  clear h
  go_enter Tryz.func32, Tryz.ntmps32
  go_wp2_with fail
  refine (HP.out _ w.heap.size T1 X1).mono ?_
  rintro e w2 ⟨A3, c3, R, rfl, hO, hK, hb2⟩
  have HO := Lib.hid (hO.mono T1.size)
  have HB := Lib.hid (below_then T1 hb2)
  have HK : Hid (keys R = keys L) := by
    have hr := hO.len
    apply List.ext_getElem?
    intro i
    unfold keys at *
    rw [List.getElem?_map, List.getElem?_map]
    by_cases hi : i < n
    · have h1 := List.getElem?_eq_getElem (show i < R.length by omega)
      have h2 := List.getElem?_eq_getElem (show i < L.length by omega)
      have h3 := hK i _ h1
      rw [List.getD_eq_getElem?_getD, List.getElem?_map, h2] at h3
      rw [h1, h2]
      exact congrArg some h3
    · rw [List.getElem?_eq_none (by omega), List.getElem?_eq_none (by omega)]
  clear hO hK hb2 T1 X1 x0 HP hmf
  go_wp2
  go_ret
  exact ⟨A3, c3, R, rfl, HO.out, HK.out, HB.out⟩
set_option maxRecDepth 100000 in
set_option maxHeartbeats 4000000 in
theorem contentV_is : ContentIs 6 := fun A n c L w h => by
  have N1 := Lib.hid (checkV_any h)
  have HN : Hid (mayR L = true → ∀ k, k < n → ∀ W, Below w.heap.size w W → ∃ b o B m d, A = some ⟨b, o, none⟩ ∧ W.cell? ⟨b, o + k * 2, none⟩ = some (.bool (decide (zat L k < 0))) ∧ W.cell? ⟨b, o + k * 2 + 1, none⟩ = some (.slice B m d) ∧ ZNm W B m d (zat L k) ∧ m ≤ 60) := fun hm k hk W hW => by
    obtain ⟨b, o, B, m, d, hA, _, h0, h1, h2, h3⟩ := (h.below hW).num hm hk
    exact ⟨b, o, B, m, d, hA, h0, h1, h2, h3⟩
  have HQ : Hid (mayR L = true → ∀ k, k ≤ n → gcdTo (zat L) k < B64 ^ 60) := fun hm => gcdTo_bd (h.bd hm)
  have hf := h.few
  clear h
  cases hm : mayR L with
  | false =>
    rw [hm] at N1
    simp only [Bool.false_eq_true, if_false] at N1 ⊢
    clear hm HN HQ
    go_enter Tryz.func6, Tryz.ntmps6
    go_wp2_with fail
    refine N1.out.mono ?_
    rintro e w1 ⟨rfl, hb1⟩
    go_wp2
    go_ret2
    exact answers_nil hb1
  | true =>
    rw [hm] at N1
    replace HN := Lib.hid (HN.out hm)
    replace HQ := Lib.hid (HQ.out hm)
    simp only [if_true] at N1 ⊢
    clear hm
    generalize zat L = f at *
    unfold Answers
    go_enter Tryz.func6, Tryz.ntmps6
    go_wp2_with fail
    refine N1.out.mono ?_
    rintro e w1 ⟨rfl, hb1⟩
    go_wp2
    go_loopw [5, 15] (fun s i wr => ∃ (k : Nat) (A4 : Option Addr) (n4 c4 : Nat), k ≤ n ∧ s = .slice A4 n4 c4 ∧ i = .int .i64 (k : Int) ∧ Own wr w.heap.size (.slice A4 n4 c4) (limbs (gcdTo f k)) ∧ Below w.heap.size w wr) (fun _ i _ => n - (intOf i).toNat)
    case atStart => exact ⟨0, none, 0, 0, by omega, rfl, rfl, by rw [show gcdTo f 0 = 0 from rfl, limbs_zero]; exact own_nil _ _, hb1⟩
    case round =>
      obtain ⟨k, A4, n4, c4, hk, rfl, rfl, hOw, hB⟩ := hrel
      by_cases hlt : k < n
      · obtain ⟨b, o, B, m, d, rfl, hc0, hc1, hzn, hl⟩ := HN.out k hlt wr hB
        have hl5 : n4 ≤ 60 := hOw.nm.len (HQ.out k hk)
        have HB4 := Lib.hid (below_then hB (bxb wr (zo (decide (f k < 0)) B m d)))
        have HG := Lib.hid (gcdN (w := wr.alloc (zo (decide (f k < 0)) B m d)) (hOw.nm.below (bxb _ _)) (hzn.below (bxb _ _)) (by omega) (by omega))
        unfold Answers at HG
        clear hOw hB hzn
        generalize hd0 : decide (f k < 0) = dd at *
        clear hd0
        go_wp2_with fail
        refine HG.out.mono ?_
        rintro e w3 ⟨A5, n5, c5, rfl, hoo, hb3⟩
        have HO := Lib.hid (own_mono hoo HB4.out.size)
        have HB5 := Lib.hid (below_then HB4.out hb3)
        clear hoo hb3
        go_wp2
        go_roundw
        case rel => exact ⟨k + 1, A5, n5, c5, by omega, rfl, by go_num, HO.out, HB5.out⟩
        case measure => simp [intOf]; omega
      · obtain rfl : k = n := by omega
        have HO := Lib.hid hOw
        have HB := Lib.hid hB
        clear hOw hB
        go_wp2
        go_ret2
        exact ⟨A4, n4, c4, rfl, HO.out, HB.out⟩
set_option maxRecDepth 100000 in
set_option maxHeartbeats 4000000 in
theorem primeV_is : PrimeIs 8 := fun A n c L w h => by
  have hmf : ∀ (fn : Fn) (first cap : Array Value) (w : World), (Instr.makeFunc fn first cap).run Tryz.prog w = .ok (.func fn first cap) w := fun _ _ _ _ => rfl
  have T1 := bxb w (bv A n c)
  have X1 : BoxV (w.alloc (bv A n c)) w.heap.size A n c := World.alloc_heap_new _ _
  have N1 := Lib.hid (fun W (hW : Below w.heap.size w W) => contentV_is A n c L W (h.below hW))
  have N2 := Lib.hid (fun W (hW : Below w.heap.size w W) => twinV_is A n c L W (h.below hW))
  have HQ : Hid (mayR L = true → gcdTo (zat L) n < B64 ^ 60) := fun hm => gcdTo_bd (h.bd hm) n (Nat.le_refl _)
  have N3 : Hid (mayR L = true → gcdTo (zat L) n ≠ 0 → ∀ (W : World) (g1 g2 : Nat) (B : Option Addr) (nb cb : Nat), Below w.heap.size w W → BoxV W g1 A n c → W.heap[g2]? = some (.cells #[.slice B nb cb] 23) → Own W w.heap.size (.slice B nb cb) (limbs (gcdTo (zat L) n)) → Calls Tryz.prog 36 #[.int .i64 (n : Int), .func (.func 38) #[] #[.pointer (some ⟨g1, 0, none⟩), .pointer (some ⟨g2, 0, none⟩)]] W (KRow W n (numK (primeV (zat L) n)))) := fun hm h0 W g1 g2 B nb cb hW hx hy hoo =>
    placedV2_any _ _ _ (enters_of Tryz.func38 (by kernel_rfl) rfl) n h.few _ W fun k hk V hV =>
      primeClo_any (W := w) (hx.next hV) ((hV.block _ (Array.getElem?_eq_some_iff.1 hy).1).trans hy) (hoo.below hV) (hoo.nm.len (HQ.out hm)) h0 ((h.below hW).below hV) hm hk
  have HI : Hid (mayR L = true → gcdTo (zat L) n = 0 → IsV L n (primeV (zat L) n)) := fun hm h0 => (h.isv hm).congr fun i hi => (prime_none h0 hi).1.symm
  have hf := h.few
  have x0 := X1.c0
  clear h
  unfold VAns
  cases hm : mayR L with
  | false =>
    rw [hm] at N1
    simp only [Bool.false_eq_true, if_false] at N1 ⊢
    clear hm N2 N3 HQ HI
    unfold Answers at N1
    go_enter Tryz.func8, Tryz.ntmps8
    go_wp2_with fail
    refine (N1.out _ T1).mono ?_
    rintro e w1 ⟨A3, k3, c3, rfl, hoo, hb1⟩
    have HB := Lib.hid (below_then (below_then T1 hb1) (bxb w1 (.cells #[.slice A3 k3 c3] 23)))
    clear hoo hb1 T1 X1 x0
    go_wp2
    go_ret2
    exact ⟨rfl, HB.out⟩
  | true =>
    rw [hm] at N1
    replace HI := Lib.hid (HI.out hm)
    replace N3 := Lib.hid (N3.out hm)
    replace HQ := Lib.hid (HQ.out hm)
    simp only [if_true] at N1 ⊢
    clear hm
    unfold Answers at N1
    have N5 : Hid (gcdTo (zat L) n = 0 → limbs (gcdTo (zat L) n) = []) := fun e => by rw [e, limbs_zero]
    go_enter Tryz.func8, Tryz.ntmps8
    go_wp2_with fail
    refine (N1.out _ T1).mono ?_
    rintro e w1 ⟨A3, k3, c3, rfl, hoo, hb1⟩
    have HB := Lib.hid (below_then (below_then T1 hb1) (bxb w1 (.cells #[.slice A3 k3 c3] 23)))
    have HX := (X1.next hb1).next (bxb w1 (.cells #[.slice A3 k3 c3] 23))
    have HO := Lib.hid ((own_mono hoo T1.size).below (bxb w1 (.cells #[.slice A3 k3 c3] 23)))
    have HY : (w1.alloc (.cells #[.slice A3 k3 c3] 23)).heap[w1.heap.size]? = some (.cells #[.slice A3 k3 c3] 23) := World.alloc_heap_new _ _
    have hln := hoo.rd.1.len
    clear hoo hb1 T1 X1 x0
    have x0 := HX.c0
    have y0 : (w1.alloc (.cells #[.slice A3 k3 c3] 23)).cell? ⟨w1.heap.size, 0, none⟩ = some (.slice A3 k3 c3) := cells_cell HY rfl
    by_cases h0 : gcdTo (zat L) n = 0
    · rw [N5.out h0] at hln
      simp at hln
      subst hln
      replace HI := Lib.hid (HI.out h0)
      clear N3 HQ HO N1
      go_wp2_with fail
      refine (N2.out _ HB.out).mono ?_
      rintro e w2 ⟨A4, c4, R, rfl, hO, hK, hb2⟩
      have HN : Hid (NewV w2 w.heap.size A4 n c4 R (primeV (zat L) n)) := ⟨hO.mono HB.out.size, ⟨hO.len, fun i e he => by
        have h1 : (keys R)[i]? = (keys L)[i]? := by rw [hK]
        unfold keys at h1
        rw [List.getElem?_map, List.getElem?_map, he] at h1
        cases hL : L[i]? with
        | none => rw [hL] at h1; cases h1
        | some x =>
          rw [hL] at h1
          have h2 : ZE.key e = ZE.key x := by simpa using h1
          unfold ZE.key at h2
          rw [Prod.mk.injEq] at h2
          have h3 := HI.out.num i x hL
          exact ⟨h2.1.trans h3.1, h2.2.trans h3.2⟩⟩⟩
      have HB2 := Lib.hid (below_then HB.out hb2)
      clear hO hK hb2 HB x0 y0 HX HY
      go_wp2
      go_ret2
      exact ⟨A4, c4, R, rfl, HN.out, HB2.out⟩
    · have hk0 : ¬ k3 = 0 := fun e => by
        subst e
        exact h0 (limbs_eq_nil.1 (List.eq_nil_of_length_eq_zero hln))
      have N6 := Lib.hid (N3.out h0 _ w.heap.size w1.heap.size A3 k3 c3 HB.out HX HY HO.out)
      unfold KRow at N6
      clear N3 HQ N1 N2 HI N5 hln
      go_wp2_with fail
      refine N6.out.mono ?_
      rintro e w2 ⟨A4, c4, R, rfl, hO, hK, hb2⟩
      have HN : Hid (NewV w2 w.heap.size A4 n c4 R (primeV (zat L) n)) := ⟨hO.mono HB.out.size, isv_key hO.len hK⟩
      have HB2 := Lib.hid (below_then HB.out hb2)
      clear hO hK hb2 HB x0 y0 HX HY N6
      go_wp2
      go_ret2
      exact ⟨A4, c4, R, rfl, HN.out, HB2.out⟩
end
end Go.Proofs.YtgiokmfdafmaoaaGreat

/- vec: Dot. -/
namespace Go.Proofs.YtgiokmfdafmaoaaGreat
open Go.RowKit Go.Shelf
set_option linter.unusedVariables false
set_option linter.unusedSimpArgs false

theorem sum_bd {f : Nat → Int} {X : Nat} (n : Nat) (h : ∀ i, i < n → (f i).natAbs < X) : ∀ k, k ≤ n → (sumTo f k).natAbs ≤ k * X := by
  intro k
  induction k with
  | zero => intro _; simp [sumTo]
  | succ k ih =>
    intro hk
    have h1 := ih (by omega)
    have h2 := h k (by omega)
    rw [sumTo, Nat.succ_mul]
    have h3 := Int.natAbs_add_le (sumTo f k) (f k)
    omega
theorem sum_Bd {f : Nat → Int} {n j : Nat} (hn : n ≤ 1000) (h : BdV j n f) {k : Nat} (hk : k ≤ n) : Bd (j + 1) (sumTo f k) := by
  have h1 := sum_bd n h k hk
  unfold Bd
  have h2 : k * B64 ^ j ≤ 1000 * B64 ^ j := Nat.mul_le_mul_right _ (by omega)
  have h3 : 1000 * B64 ^ j < B64 * B64 ^ j := Nat.mul_lt_mul_of_pos_right (by rw [B64_eq]; omega) (Nat.pow_pos B64_pos)
  rw [Nat.pow_succ, Nat.mul_comm]
  omega
theorem set_numV {w : World} {g n c : Nat} {p : Bool} {A : Option Addr} (h : BoxZ w g p A n c) (q : Bool) (B : Option Addr) (m d : Nat) : BoxZ ((w.setCell ⟨g, 0, none⟩ (.bool q)).setCell ⟨g, 1, none⟩ (.slice B m d)) g q B m d := by
  have h1 := Go.Joins.block_setCell (i := 0) h (.bool q)
  exact Go.Joins.block_setCell (i := 1) h1 (.slice B m d)
section
variable {A A2 B B2 : Option Addr} {n c m d nb cb na ca g1 g2 g3 g4 k : Nat} {L M : List ZE} {w W : World} {z y : Int}
set_option maxRecDepth 100000 in
set_option maxHeartbeats 4000000 in
theorem dotV_is : DotIs 17 := fun A A2 n c m d L M w h h2 => by
  have hmf : ∀ (fn : Fn) (first cap : Array Value) (w : World), (Instr.makeFunc fn first cap).run Tryz.prog w = .ok (.func fn first cap) w := fun _ _ _ _ => rfl
  have T1 : Below w.heap.size w (((w.alloc (bv A n c)).alloc (bv A2 m d)).alloc (zo false none 0 0)) := below_then (below_then (bxb _ _) (bxb _ _)) (bxb _ _)
  have X1 : BoxV (((w.alloc (bv A n c)).alloc (bv A2 m d)).alloc (zo false none 0 0)) w.heap.size A n c := BoxV.next (BoxV.next (w := w.alloc (bv A n c)) (World.alloc_heap_new _ _) (bxb _ _)) (bxb _ _)
  have Y1 : BoxV (((w.alloc (bv A n c)).alloc (bv A2 m d)).alloc (zo false none 0 0)) (w.heap.size + 1) A2 m d := by
    have h := World.alloc_heap_new (w.alloc (bv A n c)) (bv A2 m d)
    rw [World.size_alloc] at h
    exact BoxV.next h (bxb _ _)
  have R1 : BoxZ (((w.alloc (bv A n c)).alloc (bv A2 m d)).alloc (zo false none 0 0)) (w.heap.size + 1 + 1) false none 0 0 := by
    have h := World.alloc_heap_new ((w.alloc (bv A n c)).alloc (bv A2 m d)) (zo false none 0 0)
    rw [World.size_alloc, World.size_alloc] at h
    exact h
  have HJ : Hid (∀ (W : World) (g1 g2 : Nat), Below w.heap.size w W → BoxV W g1 A n c → BoxV W g2 A2 m d → Calls Tryz.prog 42 #[.slice A n c, .slice A2 m d, .func (.func 46) #[] #[.pointer (some ⟨g1, 0, none⟩), .pointer (some ⟨g2, 0, none⟩)]] W (KAll W (decide (twoVE L M = 0)) n (numK (fun i => zat L i * zat M i)) (twoVE L M))) := fun W g1 g2 hW hx hy =>
    joinedV2_any _ _ _ (enters_of Tryz.func46 (by kernel_rfl) rfl) _ (h.below hW) (h2.below hW) fun he k hk V hV => dotClo_any (hx.next hV) (hy.next hV) ((h.below hW).below hV) ((h2.below hW).below hV) he hk
  have HQ : Hid (twoVE L M = 0 → BdV 120 n (fun i => zat L i * zat M i)) := fun he i hi => by
    obtain ⟨hm1, hm2, hl⟩ := two_may he
    have hi2 : i < m := by rw [← h2.rd.len, ← hl, h.rd.len]; exact hi
    exact ((h.bd hm1) i hi).mul ((h2.bd hm2) i hi2)
  have hf := h.few
  clear h h2
  generalize (fun i => zat L i * zat M i) = f at *
  have x0 := X1.c0
  have y0 := Y1.c0
  have r0 := R1.c0
  have r1 := R1.c1
  have f0 := R1.f 0
  have f1 := R1.f 1
  generalize twoVE L M = E at *
  by_cases hz : E = 0
  · subst hz
    rw [if_pos rfl]
    have hq := Lib.hid (HQ.out rfl)
    clear HQ
    rw [show decide ((0 : Int) = 0) = true from rfl] at HJ
    unfold KAll at HJ
    simp only [if_true] at HJ
    go_enter Tryz.func17, Tryz.ntmps17
    go_wp2_with fail
    refine (HJ.out _ w.heap.size (w.heap.size + 1) T1 X1 Y1).mono ?_
    rintro e w2 ⟨A3, c3, R, rfl, hO, hK, hb2⟩
    have HI := Lib.hid (isv_key hO.len hK)
    have HO := Lib.hid hO
    have HB := Lib.hid (below_then T1 hb2)
    have hn3 := hO.cap.1
    have hc3 := hO.cap.2
    have hb4 := bxb w2 (zo false none 0 0)
    have HR2 := Lib.hid (R1.below hb2 (Array.getElem?_eq_some_iff.1 R1).1)
    have hRs : w.heap.size + 1 + 1 < w2.heap.size := (Array.getElem?_eq_some_iff.1 HR2.out).1
    have T4 : BoxZ (w2.alloc (zo false none 0 0)) w2.heap.size false none 0 0 := World.alloc_heap_new _ _
    clear hO hK hb2 T1 X1 Y1 R1 x0 y0 r0 r1 f0 f1 HJ hmf
    go_wp2
    go_loopw [24] (fun i wr => ∃ (k : Nat) (A4 : Option Addr) (n4 c4 : Nat), k ≤ n ∧ i = .int .i64 (k : Int) ∧ BoxZ wr w2.heap.size (decide (sumTo f k < 0)) A4 n4 c4 ∧ Own wr (w2.heap.size + 1) (.slice A4 n4 c4) (limbs (sumTo f k).natAbs) ∧ Below w2.heap.size w2 wr) (fun i _ => n - (intOf i).toNat)
    case atStart => exact ⟨0, none, 0, 0, by omega, rfl, T4, by rw [show (sumTo f 0).natAbs = 0 from rfl, limbs_zero]; exact own_nil _ _, hb4⟩
    case round =>
      obtain ⟨k, A4, n4, c4, hk, rfl, hX, hOw, hB⟩ := hrel
      have r0 := hX.c0
      have r1 := hX.c1
      have f0 := hX.f 0
      have f1 := hX.f 1
      have hXl := (Array.getElem?_eq_some_iff.1 hX).1
      by_cases hlt : k < n
      · have hR := HO.out.rd.below (w' := wr) hB
        obtain ⟨e, he, hok⟩ := hR.elem hlt
        obtain ⟨b, o, rfl, hbl, hc0, hc1⟩ := hR.cell he
        have hi := HI.out.num k e he
        have hbk := (hq.out) k hlt
        have hzn : ZNm wr e.A e.n e.c (f k) := ⟨by have hr := hok.r; rw [hi.2] at hr; exact hr, hok.c1, hok.c2⟩
        have hl4 : e.n ≤ 121 := hzn.len (hbk.mono (by omega))
        have hl5 : n4 ≤ 121 := (sum_Bd hf hq.out hk).len hOw
        have HS := Lib.hid (fun W (hW : Below wr.heap.size wr W) => sumV_any (w := W) (hOw.nm.below hW) (hzn.below hW) (by omega) (by omega))
        rw [hi.1] at hc0
        have hsk : sumTo f k + f k = sumTo f (k + 1) := rfl
        rw [hsk] at HS
        obtain ⟨p, A1, n1, c1, l1⟩ := e
        dsimp only at hc0 hc1 HS
        have hb5 := bxb wr (zo (decide (f k < 0)) A1 n1 c1)
        have HX5 := Lib.hid (hX.below hb5 hXl)
        have HB5 := Lib.hid (hB.trans (hb5.mono hB.size))
        have HP5 : Hid (BoxZ (wr.alloc (zo (decide (f k < 0)) A1 n1 c1)) wr.heap.size (decide (f k < 0)) A1 n1 c1) := World.alloc_heap_new _ _
        have HBe0 := Lib.hid hb5
        clear hi hok hR hzn hbk he hb5 hX hOw r0 r1 f0 f1
        have r0 := HX5.out.c0
        have r1 := HX5.out.c1
        have f0 := HX5.out.f 0
        have f1 := HX5.out.f 1
        have p0 := HP5.out.c0
        have p1 := HP5.out.c1
        unfold ZOne zV zv at HS
        generalize hsg : decide (sumTo f k < 0) = sg at *
        generalize hst : sumTo f (k + 1) = s1 at *
        generalize hsf : decide (f k < 0) = sf at *
        have HS1 := Lib.hid hst
        clear hsk hsg hst hsf
        go_wp2_with fail
        refine (HS.out _ HBe0.out).mono ?_
        rintro e w3 ⟨A5, k5, c5, rfl, o5, hb3⟩
        have HX6 := Lib.hid (HX5.out.below hb3 (Nat.lt_of_lt_of_le hXl (by rw [World.size_alloc]; omega)))
        have HB6 := Lib.hid (HB5.out.trans (hb3.mono HB5.out.size))
        have HO6 := Lib.hid (own_mono o5 (show w2.heap.size + 1 ≤ (wr.alloc (zo sf A1 n1 c1)).heap.size by rw [World.size_alloc]; omega))
        have HO7 := Lib.hid (own_far (own_far HO6.out (p := ⟨w2.heap.size, 0, none⟩) (Nat.lt_succ_self _) (.bool (decide (s1 < 0)))) (p := ⟨w2.heap.size, 1, none⟩) (Nat.lt_succ_self _) (.slice A5 k5 c5))
        clear hb3 o5 r0 r1 f0 f1 p0 p1
        have r0 := HX6.out.c0
        have r1 := HX6.out.c1
        have f0 := HX6.out.f 0
        have f1 := HX6.out.f 1
        go_wp2
        go_roundw
        case rel => exact ⟨k + 1, A5, k5, c5, by omega, by go_num, by rw [HS1.out]; exact set_numV HX6.out _ _ _ _, by rw [HS1.out]; exact HO7.out, box_below (Nat.le_refl _) HB6.out _ _⟩
        case measure => simp [intOf]; omega
      · obtain rfl : k = n := by omega
        have HRr := Lib.hid (HR2.out.below hB hRs)
        have HOw := Lib.hid hOw
        have HBf := Lib.hid (below_then HB.out hB)
        clear hX hOw hB
        have q0 := HRr.out.c0
        have q1 := HRr.out.c1
        have g0 := HRr.out.f 0
        have g1 := HRr.out.f 1
        generalize sumTo f k = s at *
        go_wp2
        refine bodyPost_ret (v := .tuple #[zV s A4 n4 c4, .int .i64 0]) (by simp [results, Tryz.results17, go_sem, q0, q1, zV, zv]) rfl ?_
        exact ⟨A4, n4, c4, rfl, own_mono (own_far (own_far HOw.out (p := ⟨w.heap.size + 1 + 1, 0, none⟩) (by show w.heap.size + 1 + 1 < _; omega) _) (p := ⟨w.heap.size + 1 + 1, 1, none⟩) (by show w.heap.size + 1 + 1 < _; omega) _) (by omega), box_below (show w.heap.size ≤ w.heap.size + 1 + 1 by omega) HBf.out _ _⟩
  · rw [if_neg hz]
    rw [decide_eq_false hz] at HJ
    unfold KAll at HJ
    simp only [Bool.false_eq_true, if_false] at HJ
    have hE2 : ((E : Int) != 0) = true := by simpa using hz
    have hE3 : ((E : Int) == 0) = false := by simpa using hz
    clear hz HQ
    go_enter Tryz.func17, Tryz.ntmps17
    go_wp2_with fail
    refine (HJ.out _ w.heap.size (w.heap.size + 1) T1 X1 Y1).mono ?_
    rintro e w2 ⟨rfl, hb2⟩
    have HB := Lib.hid (below_then T1 hb2)
    have HR2 := R1.below hb2 (Array.getElem?_eq_some_iff.1 R1).1
    clear x0 y0 r0 r1 f0 f1 T1 X1 Y1 R1 hb2
    have r0 := HR2.c0
    have r1 := HR2.c1
    have f0 := HR2.f 0
    have f1 := HR2.f 1
    go_wp2
    refine bodyPost_ret (v := .tuple #[zV 0 none 0 0, .int .i64 E]) (by simp [results, Tryz.results17, go_sem, r0, r1, zV, zv]) rfl ?_
    exact ⟨none, 0, 0, rfl, by rw [show Int.natAbs 0 = 0 from rfl, limbs_zero]; exact own_nil _ _, box_below (show w.heap.size ≤ w.heap.size + 1 + 1 by omega) HB.out _ _⟩
end
end Go.Proofs.YtgiokmfdafmaoaaGreat

/- vec: Of. -/
namespace Go.Proofs.YtgiokmfdafmaoaaGreat
open Go.RowKit Go.Shelf
set_option linter.unusedVariables false
set_option linter.unusedSimpArgs false

abbrev isT : TypeId := 67
/-- A slice of n ints. -/
structure RdN (w : World) (A : Option Addr) (n : Nat) (X : List Int) : Prop where
  len : X.length = n
  ok : ∀ x, x ∈ X → -9223372036854775808 ≤ x ∧ x ≤ 9223372036854775807
  cells : 0 < n → ∃ b o, A = some ⟨b, o, none⟩ ∧ b < w.heap.size ∧ ∀ i x, X[i]? = some x → w.cell? ⟨b, o + i, none⟩ = some (.int .i64 x)
theorem RdN.below {w w' : World} {A : Option Addr} {n : Nat} {X : List Int} (h : RdN w A n X) (hb : Below w.heap.size w w') : RdN w' A n X :=
  ⟨h.len, h.ok, fun hn => by
    obtain ⟨b, o, e, hlt, hc⟩ := h.cells hn
    exact ⟨b, o, e, Nat.lt_of_lt_of_le hlt hb.size, fun i x hx => (hb.cell (p := ⟨b, o + i, none⟩) hlt).trans (hc i x hx)⟩⟩
/-- Ints that a call lays. -/
theorem rdn_new {w : World} {g : Nat} {cs : Array Value} {T : TypeId} {X : List Int} (hg : w.heap[g]? = some (.cells cs T)) (hc : cs.toList = X.map (Value.int .i64)) (hX : ∀ x, x ∈ X → -9223372036854775808 ≤ x ∧ x ≤ 9223372036854775807) : RdN w (some ⟨g, 0, none⟩) X.length X := by
  refine ⟨rfl, hX, fun _ => ⟨g, 0, rfl, (Array.getElem?_eq_some_iff.1 hg).1, fun i x hx => ?_⟩⟩
  refine cells_cell hg ?_
  rw [Nat.zero_add, ← Array.getElem?_toList, hc, List.getElem?_map, hx]
  rfl
/-- The ints as a row. -/
def iat (X : List Int) (i : Nat) : Int := X.getD i 0
theorem iat_some {X : List Int} {i : Nat} {x : Int} (h : X[i]? = some x) : iat X i = x := by unfold iat; rw [List.getD_eq_getElem?_getD, h]; rfl
abbrev bi (A : Option Addr) (n c : Nat) : Obj := .cells #[.slice A n c] isT
def BoxI (w : World) (g : Nat) (A : Option Addr) (n c : Nat) : Prop := w.heap[g]? = some (bi A n c)
section
variable {A A2 B B2 : Option Addr} {n c m d nb cb na ca g1 g2 g3 g4 k : Nat} {L M : List ZE} {w W : World} {z y : Int}
variable {X : List Int}
theorem BoxI.lt (h : BoxI w g1 A n c) : g1 < w.heap.size := (Array.getElem?_eq_some_iff.1 h).1
theorem BoxI.next (h : BoxI w g1 A n c) (hb : Below w.heap.size w W) : BoxI W g1 A n c := (hb.block g1 h.lt).trans h
theorem BoxI.c0 (h : BoxI w g1 A n c) : w.cell? ⟨g1, 0, none⟩ = some (.slice A n c) := cells_cell h rfl
set_option maxRecDepth 100000 in
set_option maxHeartbeats 4000000 in
theorem ofClo_any (hx : BoxI w g1 A n c) (h : RdN w A n X) (hk : k < n) : Calls Tryz.prog 37 #[.int .i64 (k : Int), .pointer (some ⟨g1, 0, none⟩)] w (KAns w (numK (iat X) k).1 (numK (iat X) k).2) := by
  obtain ⟨b, o, rfl, hb, hc⟩ := h.cells (by omega)
  obtain ⟨x, hxk⟩ : ∃ x, X[k]? = some x := ⟨X[k]'(by rw [h.len]; exact hk), List.getElem?_eq_getElem _⟩
  have hok := h.ok x (List.mem_of_getElem? hxk)
  have y0 := hc k x hxk
  have e := iat_some hxk
  have T0 := uno_box w false none 0 0
  have HM := Lib.hid (fun W => wOf_any (w := W) x hok.1 hok.2)
  have HC : Hid (∀ W', Below w.heap.size w W' → W'.cell? ⟨g1, 0, none⟩ = some (.slice (some ⟨b, o, none⟩) n c) ∧ W'.cell? ⟨b, o + k, none⟩ = some (.int .i64 x)) := fun W' hW => ⟨(hx.next hW).c0, (hW.cell (p := ⟨b, o + k, none⟩) hb).trans y0⟩
  have r0 := T0.x.c0
  have r1 := T0.x.c1
  have f0 := T0.x.f 0
  have f1 := T0.x.f 1
  have HT0 := Lib.hid (T0.next (Below.refl _ _).drew)
  clear y0
  obtain ⟨c0, y0⟩ := HC.out _ T0.b
  have hl1 := hx.lt
  rw [numK_at e]
  clear h hx hc hxk e
  unfold KAns
  dsimp only
  unfold ZOne zV zv at HM
  go_enter Tryz.func37, Tryz.ntmps37
  go_wp2_with fail
  refine (HM.out _).mono ?_
  rintro e w1 ⟨A3, k3, c3, rfl, o3, hb3⟩
  have T1 := T0.next hb3
  clear r0 r1 f0 f1 c0 y0
  have r0 := T1.x.c0
  have r1 := T1.x.c1
  have f0 := T1.x.f 0
  have f1 := T1.x.f 1
  have hG := Lib.hid (Array.getElem?_eq_some_iff.1 T0.x).1
  go_wp2
  refine bodyPost_ret (v := .agg #[.bool (decide (x < 0)), .slice A3 k3 c3]) (by simp [results, Tryz.results37, go_sem, r0, r1]) rfl ?_
  exact ⟨A3, k3, c3, rfl, own_box hG.out (Nat.le_refl _) o3 _ _, box_below (Nat.le_refl _) T1.b _ _⟩
/-- A call answered the row of these ints, in new memory. -/
def NAns (w : World) (n : Nat) (f : Nat → Int) (e : Ending) (w' : World) : Prop := ∃ (A : Option Addr) (c : Nat) (L : List ZE), e = .returned (.slice A n c) ∧ NewV w' w.heap.size A n c L f ∧ Below w.heap.size w w'
set_option maxRecDepth 100000 in
set_option maxHeartbeats 4000000 in
theorem ofV_any (h : RdN w A n X) (hn : n ≤ 1000) (hc1 : n ≤ c) (hc2 : c ≤ 9223372036854775807) : Calls Tryz.prog 7 #[.slice A n c] w (NAns w n (iat X)) := by
  have hmf : ∀ (fn : Fn) (first cap : Array Value) (w : World), (Instr.makeFunc fn first cap).run Tryz.prog w = .ok (.func fn first cap) w := fun _ _ _ _ => rfl
  have T1 := bxb w (bi A n c)
  have X1 : BoxI (w.alloc (bi A n c)) w.heap.size A n c := World.alloc_heap_new _ _
  have HP : Hid (∀ (W : World) (g1 : Nat), Below w.heap.size w W → BoxI W g1 A n c → Calls Tryz.prog 36 #[.int .i64 (n : Int), .func (.func 37) #[] #[.pointer (some ⟨g1, 0, none⟩)]] W (KRow W n (numK (iat X)))) := fun W g1 hW hx =>
    placedV1_any _ _ (enters_of Tryz.func37 (by kernel_rfl) rfl) n hn _ W fun k hk V hV => ofClo_any (hx.next hV) ((h.below hW).below hV) hk
  have x0 := X1.c0
  unfold KRow at HP
  unfold NAns
  clear h
  go_enter Tryz.func7, Tryz.ntmps7
  go_wp2_with fail
  refine (HP.out _ w.heap.size T1 X1).mono ?_
  rintro e w2 ⟨A3, c3, R, rfl, hO, hK, hb2⟩
  have HO : Hid (NewV w2 w.heap.size A3 n c3 R (iat X)) := ⟨hO.mono T1.size, isv_key hO.len hK⟩
  have HB := Lib.hid (below_then T1 hb2)
  clear hO hK hb2 T1 X1 x0 HP hmf
  go_wp2
  go_ret
  exact ⟨A3, c3, R, rfl, HO.out, HB.out⟩
/-- Of of a few small ints that are laid for it. -/
theorem ofL_any {g : Nat} {cs : Array Value} {T : TypeId} (X : List Int) (hg : w.heap[g]? = some (.cells cs T)) (hc : cs.toList = X.map (Value.int .i64)) (hX : ∀ x, x ∈ X → -1000 ≤ x ∧ x ≤ 1000) (hl : X.length ≤ 60) : Calls Tryz.prog 7 #[.slice (some ⟨g, 0, none⟩) X.length X.length] w (NAns w X.length (iat X)) :=
  ofV_any (rdn_new hg hc fun x hx => by have := hX x hx; omega) (by omega) (Nat.le_refl _) (by omega)
end
end Go.Proofs.YtgiokmfdafmaoaaGreat

/- A row of whole numbers that came in, opened. -/
namespace Go.Proofs.YtgiokmfdafmaoaaGreat
open Go.RowKit Go.Shelf Go.ChangeShapes Go.WideShapes
set_option linter.unusedVariables false

theorem vncells : Tryz.prog.cellsOf 23 = 1 := by kernel_rfl
theorem vbcells : Tryz.prog.cellsOf 4 = 1 := by kernel_rfl
set_option maxRecDepth 100000 in
theorem nat_rd {H : Type} {enc : TypeId × Value → H} {W : World} {base n : Nat} {held : Bool} {c1 : Value} {y1 : DataW H × List MemPlace}
    (hy1 : DataW.trod enc Tryz.prog W base (fun _ => true) held n 23 [c1] = some y1) :
    ∃ a len cap l, c1 = .slice a len cap ∧ Rd W a len l ∧ len ≤ cap ∧ cap ≤ 9223372036854775807 ∧ (a = none → len = 0 ∧ cap = 0) := by
  obtain ⟨a, l, c, e1⟩ := Go.Joins.slice_form Tryz.underlying23 hy1
  simp at e1
  subst e1
  have hrow : (a = none ∧ l = 0 ∧ c = 0 ∧ ∃ zs : List Int, zs = []) ∨ ∃ zs : List Int, ∃ x, a = some x ∧ l ≤ c ∧ c ≤ maxLen ∧ zs.length = c ∧ (∀ i, i < zs.length → W.cell? (x.add i) = some (.int .u64 (zs.getD i 0))) ∧ ∀ n ∈ zs, (Lit.int .u64 n).wf = true := by
    rcases open_ints Tryz.underlying23 Tryz.underlying36 (by kernel_rfl) hy1 with ⟨hcs, _⟩ | ⟨x, l', c', zs, hcs, _, hl, hm, hz, _, hcell, hwz⟩
    · simp at hcs
      obtain ⟨rfl, rfl, rfl⟩ := hcs
      exact .inl ⟨rfl, rfl, rfl, [], rfl⟩
    · simp at hcs
      obtain ⟨rfl, rfl, rfl⟩ := hcs
      exact .inr ⟨zs, _, rfl, hl, hm, by simpa using hz, hcell, hwz⟩
  rcases hrow with ⟨h1, h2, h3, zs, h4⟩ | ⟨zs, hx⟩
  · obtain ⟨⟨L, hL⟩, k1, k2⟩ := rd_of_row (w := W) (a := a) (len := l) (cap := c) (zs := zs) (.inl ⟨h1, h2, h3, h4⟩)
    exact ⟨a, l, c, L, rfl, hL, k1, k2, fun _ => ⟨h2, h3⟩⟩
  · obtain ⟨⟨L, hL⟩, k1, k2⟩ := rd_of_row (w := W) (a := a) (len := l) (cap := c) (zs := zs) (.inr hx)
    exact ⟨a, l, c, L, rfl, hL, k1, k2, fun h0 => by obtain ⟨x, hx2, _⟩ := hx; rw [hx2] at h0; cases h0⟩
set_option maxRecDepth 100000 in
/-- Two cells that read as a whole number. -/
theorem elem_z {H : Type} {enc : TypeId × Value → H} {W : World} {base n : Nat} {held : Bool} {cs : List Value} {y : DataW H × List MemPlace}
    (h : DataW.trod enc Tryz.prog W base (fun _ => true) held n zT cs = some y) : ∃ e : ZE, cs = [.bool e.p, .slice e.A e.n e.c] ∧ ZE.ok W e ∧ (e.A = none → e.n = 0 ∧ e.c = 0) := by
  obtain ⟨y0, y1, m, _, hl, h0, h1⟩ := trod_struct2 Tryz.underlying41 h
  rw [zcells] at hl
  match cs, hl with
  | [c0, c1], _ =>
    simp [vncells, vbcells] at h0 h1
    obtain ⟨s, e0, _⟩ := DataW.trod_bool Tryz.underlying4 h0
    obtain ⟨a, l, p, L, rfl, r1, q1, u1, x1⟩ := nat_rd h1
    simp at e0
    subst e0
    exact ⟨⟨s, a, l, p, L⟩, rfl, ⟨r1, q1, u1⟩, x1⟩
theorem cells_two {W : World} {base : Nat} {a : Addr} {u v : Value} (h : W.cells? base a 2 = some [u, v]) : W.cell? (a.add 0) = some u ∧ W.cell? (a.add 1) = some v := by
  obtain ⟨_, _, hc⟩ := World.cells?_some h
  exact ⟨hc 0 (by omega), hc 1 (by omega)⟩
theorem choose_row {α : Type} {n : Nat} {p : Nat → α → Prop} (h : ∀ i, i < n → ∃ x, p i x) : ∃ L : List α, L.length = n ∧ ∀ i x, L[i]? = some x → p i x := by
  induction n with
  | zero => exact ⟨[], rfl, fun i x hx => by cases hx⟩
  | succ k ih =>
    obtain ⟨L, hL, hp⟩ := ih fun i hi => h i (by omega)
    obtain ⟨x, hx⟩ := h k (by omega)
    refine ⟨L ++ [x], by rw [List.length_append, hL]; rfl, fun i y hy => ?_⟩
    rcases Nat.lt_or_ge i k with hi | hi
    · rw [List.getElem?_append_left (by rw [hL]; exact hi)] at hy
      exact hp i y hy
    · rw [List.getElem?_append_right (by rw [hL]; exact hi), hL] at hy
      have hi2 : i = k := by
        rcases Nat.eq_zero_or_pos (i - k) with h0 | h0
        · omega
        · obtain ⟨j, hj⟩ : ∃ j, i - k = j + 1 := ⟨i - k - 1, by omega⟩
          rw [hj] at hy
          cases hy
      subst hi2
      rw [Nat.sub_self] at hy
      cases hy
      exact hx
set_option maxRecDepth 100000 in
theorem open_v {H : Type} {enc : TypeId × Value → H} {W : World} {base b0 : Nat} {held : Bool} {r : Reach} {v : Value} {d : DataW H} {ps : List MemPlace} {T : TypeId} (ht : Tryz.prog.underlying T = some (.slice zT))
    (hv : Value.okWide Tryz.prog W r b0 T v) (h : DataW.Trod enc Tryz.prog W base (fun _ => true) held T v d ps) :
    ∃ A n c L, v = .slice A n c ∧ RdV W A n L ∧ n ≤ c ∧ c ≤ 9223372036854775807 ∧ (A = none → n = 0 ∧ c = 0) ∧ (∀ e, e ∈ L → e.A = none → e.n = 0 ∧ e.c = 0) := by
  obtain ⟨A, n, c, rfl⟩ := okWide_slice ht hv
  obtain ⟨fuel, hf⟩ := h
  rcases Go.Deep.open_slice ht hf with ⟨hcs, _⟩ | ⟨a, len, cap, m, k, D, Pl, hcs, _, hl, hm, hmm, _, hx⟩
  · simp [Value.cells] at hcs
    obtain ⟨rfl, rfl, rfl⟩ := hcs
    exact ⟨none, 0, 0, [], rfl, rdv_nil _ _, Nat.le_refl _, Nat.zero_le _, fun _ => ⟨rfl, rfl⟩, fun e he => by cases he⟩
  · simp [Value.cells] at hcs
    obtain ⟨rfl, rfl, rfl⟩ := hcs
    rw [zcells] at hx
    have hmc : n ≤ m := by rw [hmm]; simp; exact hl
    obtain ⟨L, hL, hp⟩ := choose_row (α := ZE) (n := n) (p := fun i e => (W.cell? ((a.add (i * 2)).add 0) = some (.bool e.p) ∧ W.cell? ((a.add (i * 2)).add 1) = some (.slice e.A e.n e.c)) ∧ ZE.ok W e ∧ (e.A = none → e.n = 0 ∧ e.c = 0)) (fun i hi => by
      obtain ⟨cs, hc, htr⟩ := hx i (by omega)
      obtain ⟨e, rfl, he⟩ := elem_z htr
      exact ⟨e, cells_two hc, he⟩)
    refine ⟨some a, n, c, L, rfl, ⟨hL, fun e he => ?_, fun hn => ?_⟩, hl, hm, fun h => (by cases h), fun e he => ?_⟩
    · obtain ⟨i, hi⟩ := List.getElem?_of_mem he
      exact (hp i e hi).2.1
    · obtain ⟨b, off, spot⟩ := a
      have hn0 : 0 < L.length := by rw [hL]; exact hn
      have h0 := (hp 0 _ (List.getElem?_eq_getElem hn0)).1.1
      have hspot : spot = none := by simpa [Addr.add] using World.cell?_spot h0
      subst hspot
      have hlt : b < W.heap.size := by
        have h1 := h0
        simp [Addr.add] at h1
        unfold World.cell? at h1
        cases hob : W.heap[b]? with
        | none => simp [hob] at h1
        | some o => exact (Array.getElem?_eq_some_iff.1 hob).1
      refine ⟨b, off, rfl, hlt, fun i e he => ?_⟩
      have h1 := (hp i e he).1
      by_cases hi : i = 0
      · subst hi
        simpa [Addr.add] using h1
      · have hi2 : ¬ i * 2 = 0 := by omega
        simpa [Addr.add, hi, hi2] using h1
    · obtain ⟨i, hi⟩ := List.getElem?_of_mem he
      exact (hp i e hi).2.2
end Go.Proofs.YtgiokmfdafmaoaaGreat

/- What a law over rows holds; rows told by keys. -/
namespace Go.Proofs.YtgiokmfdafmaoaaGreat
open Go.RowKit Go.Shelf
set_option linter.unusedVariables false
set_option linter.unusedSimpArgs false

/-- A row. -/
structure IV where
  A : Option Addr
  n : Nat
  c : Nat
  L : List ZE
def HeldV (W : World) (l : List IV) : Prop := ∀ i, i ∈ l → V1 W i.A i.n i.c i.L
theorem heldv_nil (W : World) : HeldV W [] := fun i hi => by cases hi
theorem HeldV.next {W W' : World} {l : List IV} (h : HeldV W l) (hb : Below W.heap.size W W') : HeldV W' l := fun i hi => (h i hi).below hb
theorem HeldV.cons {W : World} {l : List IV} {A : Option Addr} {n c : Nat} {L : List ZE} (h : HeldV W l) (hi : V1 W A n c L) : HeldV W (⟨A, n, c, L⟩ :: l) := fun j hj => by
  rcases List.mem_cons.1 hj with rfl | hj
  · exact hi
  · exact h j hj
/-- All of a row depends on its keys. -/
theorem keys_get {L M : List ZE} (h : keys L = keys M) (i : Nat) : (L[i]?).map ZE.key = (M[i]?).map ZE.key := by
  have h1 : (keys L)[i]? = (keys M)[i]? := by rw [h]
  unfold keys at h1
  rwa [List.getElem?_map, List.getElem?_map] at h1
theorem keys_length {L M : List ZE} (h : keys L = keys M) : L.length = M.length := by rw [← keys_len, ← keys_len, h]
theorem keys_zat {L M : List ZE} (h : keys L = keys M) : zat L = zat M := by
  funext i
  have h1 := keys_get h i
  unfold zat
  cases hL : L[i]? with
  | none =>
    rw [hL] at h1
    cases hM : M[i]? with
    | none => rfl
    | some x => rw [hM] at h1; cases h1
  | some e =>
    rw [hL] at h1
    cases hM : M[i]? with
    | none => rw [hM] at h1; cases h1
    | some x =>
      rw [hM] at h1
      have h2 := (key_iff e x).1 (by simpa using h1)
      show zof e.p e.l = zof x.p x.l
      rw [h2.1, h2.2]
theorem keys_all {L M : List ZE} (h : keys L = keys M) (f : Bool → List Nat → Bool) : (L.all fun e => f e.p e.l) = (M.all fun e => f e.p e.l) := by
  have h1 : ∀ K : List ZE, (K.all fun e => f e.p e.l) = (keys K).all fun x => f x.1 x.2 := fun K => by
    unfold keys
    rw [List.all_map]
    rfl
  rw [h1, h1, h]
theorem keys_mayR {L M : List ZE} (h : keys L = keys M) : mayR L = mayR M := by
  unfold mayR mayV
  rw [keys_all h (fun p l => mayZ p l), keys_length h]
theorem keys_noughts {L M : List ZE} (h : keys L = keys M) : noughts L = noughts M := by
  unfold noughts
  exact keys_all h (fun p l => !p && l.isEmpty)
theorem keys_two {L L2 M : List ZE} (h : keys L = keys L2) : twoVE L M = twoVE L2 M := by
  unfold twoVE
  rw [keys_mayR h, keys_length h]
/-- A row that is so many values of f. -/
theorem isv_len {L : List ZE} {n : Nat} {f : Nat → Int} (h : IsV L n f) : L.length = n := h.len
theorem isv_mayR {L : List ZE} {n : Nat} {f : Nat → Int} (h : IsV L n f) (hn : n ≤ 64) : mayR L = true := newv_may h hn
theorem isv_zat {L : List ZE} {n : Nat} {f : Nat → Int} (h : IsV L n f) {i : Nat} (hi : i < n) : zat L i = f i := h.zat hi
theorem two_ok {L M : List ZE} {n : Nat} (h1 : mayR L = true) (h2 : mayR M = true) (l1 : L.length = n) (l2 : M.length = n) : twoVE L M = 0 := by
  unfold twoVE
  rw [h1, h2, Bool.and_true, if_pos rfl, if_pos (l1.trans l2.symm)]
theorem mayR_le {L : List ZE} (h : mayR L = true) : L.length ≤ 64 := by
  unfold mayR at h
  rw [Bool.and_eq_true] at h
  simpa using h.2
/-- How long a row's numbers are. -/
theorem V1.bdk {w : World} {A : Option Addr} {n c j : Nat} {L : List ZE} (h : V1 w A n c L) (hm : mayR L = true) (hs : ∀ e, e ∈ L → e.n ≤ j) : BdV j n (zat L) := fun i hi => by
  obtain ⟨e, he, hok⟩ := h.rd.elem hi
  have hr := hok.r
  have h1 := (h.isv hm).num i e he
  rw [h1.2] at hr
  exact Bd.of ⟨hr, hok.c1, hok.c2⟩ (hs e (List.mem_of_getElem? he))
theorem BdV.mono {j k n : Nat} {f : Nat → Int} (h : BdV j n f) (hjk : j ≤ k) : BdV k n f := fun i hi => (h i hi).mono hjk
theorem BdV.congr {j n : Nat} {f g : Nat → Int} (h : BdV j n f) (hfg : ∀ i, i < n → f i = g i) : BdV j n g := fun i hi => by rw [← hfg i hi]; exact h i hi
/-- Small ints as a row. -/
theorem iat_bd {X : List Int} (hX : ∀ x, x ∈ X → -1000 ≤ x ∧ x ≤ 1000) : BdV 1 X.length (iat X) := fun i hi => by
  have h1 := iat_some (List.getElem?_eq_getElem hi)
  rw [h1]
  have h2 := hX _ (List.getElem_mem hi)
  unfold Bd
  have h3 : B64 ^ 1 = 18446744073709551616 := by rw [Nat.pow_one, B64_eq]
  omega
section
end
end Go.Proofs.YtgiokmfdafmaoaaGreat

/- vec's calls of rows that may be. -/
namespace Go.Proofs.YtgiokmfdafmaoaaGreat
open Go.RowKit Go.Shelf
set_option linter.unusedVariables false
set_option linter.unusedSimpArgs false

/-- A call answered the row of f's first n values, in new memory, and no error. -/
def TAns (w : World) (n : Nat) (f : Nat → Int) (e : Ending) (w' : World) : Prop := ∃ (A : Option Addr) (c : Nat) (L : List ZE), e = .returned (.tuple #[.slice A n c, .int .i64 0]) ∧ NewV w' w.heap.size A n c L f ∧ Below w.heap.size w w'
theorem VAns.t {w w' : World} {n : Nat} {f g : Nat → Int} {E : Int} {e : Ending} (h : VAns w true n f E e w') (hfg : ∀ i, i < n → f i = g i) : TAns w n g e w' := by
  unfold VAns at h
  rw [if_pos rfl] at h
  obtain ⟨A, c, L, he, hN, hb⟩ := h
  exact ⟨A, c, L, he, ⟨hN.o, hN.v.congr hfg⟩, hb⟩
theorem isv_two {L M : List ZE} {n : Nat} {f g : Nat → Int} (i : IsV L n f) (j : IsV M n g) (hn : n ≤ 64) : twoVE L M = 0 := two_ok (isv_mayR i hn) (isv_mayR j hn) i.len j.len
theorem isv_keys {L M : List ZE} {n : Nat} {f g : Nat → Int} (i : IsV L n f) (j : IsV M n g) : keys L = keys M ↔ ∀ k, k < n → f k = g k :=
  ⟨fun h k hk => i.keys j h hk, fun h => (i.congr h).same j⟩
theorem isv_noughts {L : List ZE} {n : Nat} {f : Nat → Int} (h : IsV L n f) : noughts L = true ↔ ∀ k, k < n → f k = 0 := by
  constructor
  · intro hN k hk
    unfold noughts at hN
    rw [List.all_eq_true] at hN
    have hk2 : k < L.length := by rw [h.len]; exact hk
    have h1 := hN _ (List.getElem_mem hk2)
    have h2 := h.num k _ (List.getElem?_eq_getElem hk2)
    rw [Bool.and_eq_true] at h1
    have h3 : (L[k]).l = [] := by simpa using h1.2
    rw [h3] at h2
    have h4 := limbs_eq_nil.1 h2.2.symm
    omega
  · intro hf
    refine noughts_yes h.len fun k e hk he => ?_
    have h2 := h.num k e he
    rw [hf k hk] at h2
    exact ⟨by rw [h2.1]; rfl, by rw [h2.2]; exact limbs_zero⟩
section
variable {A A2 B B2 : Option Addr} {n c m d nb cb na ca g1 g2 g3 g4 k : Nat} {L M : List ZE} {w W : World} {z y : Int}
variable {f g : Nat → Int}
theorem numZ1 {B : Option Addr} (h : ZNm w B nb cb z) (lb : nb ≤ 60) : Z1 w B nb cb (limbs z.natAbs) := ⟨h.rd, by omega, h.nc, h.cm⟩
theorem dotR (h : V1 w A n c L) (h2 : V1 w A2 n d M) (i : IsV L n f) (j : IsV M n g) (hn : n ≤ 64) : Calls Tryz.prog 17 #[.slice A n c, .slice A2 n d] w (ZAns w (sumTo (fun i => f i * g i) n) 0) := by
  have hc := dotV_is A A2 n c n d L M w h h2
  rw [isv_two i j hn, if_pos rfl, sumTo_congr (g := fun i => f i * g i) fun k hk => by rw [i.zat hk, j.zat hk]] at hc
  exact hc
theorem addR (h : V1 w A n c L) (h2 : V1 w A2 n d M) (i : IsV L n f) (j : IsV M n g) (hn : n ≤ 64) : Calls Tryz.prog 10 #[.slice A n c, .slice A2 n d] w (TAns w n (fun i => f i + g i)) := by
  have hc := addV_is A A2 n c n d L M w h h2
  rw [isv_two i j hn, show decide ((0 : Int) = 0) = true from rfl] at hc
  exact hc.mono fun e w' ha => ha.t fun k hk => by rw [i.zat hk, j.zat hk]
theorem scaleR (h : V1 w A n c L) (hb : ZNm w B nb cb z) (lb : nb ≤ 60) (i : IsV L n f) (hn : n ≤ 64) : Calls Tryz.prog 20 #[.slice A n c, .agg #[.bool (decide (z < 0)), .slice B nb cb]] w (TAns w n (fun i => f i * z)) := by
  have hc := scaleV_is A B n c nb cb (decide (z < 0)) (limbs z.natAbs) L w h (numZ1 hb lb) lb
  rw [isv_mayR i hn, mayZ_num, Bool.and_true] at hc
  exact hc.mono fun e w' ha => ha.t fun k hk => by rw [i.zat hk, zof_num]
theorem mixR (h : V1 w A n c L) (h2 : V1 w A2 n d M) (hb : ZNm w B nb cb z) (hb2 : ZNm w B2 na ca y) (lb : nb ≤ 60) (lb2 : na ≤ 60) (i : IsV L n f) (j : IsV M n g) (hn : n ≤ 64) : Calls Tryz.prog 22 #[.agg #[.bool (decide (z < 0)), .slice B nb cb], .slice A n c, .agg #[.bool (decide (y < 0)), .slice B2 na ca], .slice A2 n d] w (TAns w n (fun i => z * f i + y * g i)) := by
  have hc := mixV_is A A2 B B2 n c n d nb cb na ca (decide (z < 0)) (decide (y < 0)) (limbs z.natAbs) (limbs y.natAbs) L M w h h2 (numZ1 hb lb) (numZ1 hb2 lb2) lb lb2
  rw [isv_two i j hn, mayZ_num, mayZ_num, Bool.and_true, show decide ((0 : Int) = 0) = true from rfl, Bool.and_true] at hc
  exact hc.mono fun e w' ha => ha.t fun k hk => by rw [i.zat hk, j.zat hk, zof_num, zof_num]
theorem cmpR (h : V1 w A n c L) (h2 : V1 w A2 n d M) (i : IsV L n f) (j : IsV M n g) (hn : n ≤ 64) : Calls Tryz.prog 9 #[.slice A n c, .slice A2 n d] w (IAns w (firstTo (fun i => sgn (f i - g i)) n) 0) := by
  have hc := cmpV_is A A2 n c n d L M w h h2
  rw [isv_two i j hn, if_pos rfl, firstTo_congr (g := fun i => sgn (f i - g i)) fun k hk => by rw [i.zat hk, j.zat hk]] at hc
  exact hc
theorem sameR {p : Prop} [Decidable p] (h : V1 w A n c L) (h2 : V1 w A2 m d M) (hp : keys L = keys M ↔ p) : Calls Tryz.prog 31 #[.slice A n c, .slice A2 m d] w fun e w' => e = .returned (.bool (decide p)) ∧ Below w.heap.size w w' := by
  have hc := sameV_is A A2 n c m d L M w h h2
  rw [decide_eq_decide.2 hp] at hc
  exact hc
theorem rsameR {p : Prop} [Decidable p] (h : V1 w A n c L) (h2 : V1 w A2 m d M) (hp : keys L = keys M ↔ p) : Calls Tryz.prog 12 #[.slice A n c, .slice A2 m d] w fun e w' => e = .returned (.bool (decide p)) ∧ Below w.heap.size w w' := by
  have hc := rSameV_any A A2 n c m d L M w h h2
  rw [decide_eq_decide.2 hp] at hc
  exact hc
theorem rsameT (h : V1 w A n c L) (h2 : V1 w A2 m d M) (hk : keys L = keys M) : Calls Tryz.prog 12 #[.slice A n c, .slice A2 m d] w fun e w' => e = .returned (.bool true) ∧ Below w.heap.size w w' := by
  have hc := rSameV_any A A2 n c m d L M w h h2
  rw [decide_eq_true hk] at hc
  exact hc
theorem zeroR {p : Prop} [Decidable p] (h : V1 w A n c L) (hp : noughts L = true ↔ p) : Calls Tryz.prog 29 #[.slice A n c] w fun e w' => e = .returned (.bool (decide p)) ∧ Below w.heap.size w w' := by
  have hc := zeroV_is A n c L w h
  rw [show noughts L = decide p by rw [Bool.eq_iff_iff, decide_eq_true_iff]; exact hp] at hc
  exact hc
end
end Go.Proofs.YtgiokmfdafmaoaaGreat

/- Numbers and boxes of a law over rows. -/
namespace Go.Proofs.YtgiokmfdafmaoaaGreat
open Go.RowKit Go.Shelf
set_option linter.unusedVariables false
set_option linter.unusedSimpArgs false

structure IN where
  z : Int
  A : Option Addr
  n : Nat
  c : Nat
def HeldN (W : World) (l : List IN) : Prop := ∀ i, i ∈ l → ZNm W i.A i.n i.c i.z ∧ i.n ≤ 60
theorem heldn_nil (W : World) : HeldN W [] := fun i hi => by cases hi
theorem HeldN.next {W W' : World} {l : List IN} (h : HeldN W l) (hb : Below W.heap.size W W') : HeldN W' l := fun i hi => ⟨(h i hi).1.below hb, (h i hi).2⟩
theorem HeldN.cons {W : World} {l : List IN} {A : Option Addr} {n c : Nat} {z : Int} (h : HeldN W l) (hi : ZNm W A n c z) (hn : n ≤ 60) : HeldN W (⟨z, A, n, c⟩ :: l) := fun j hj => by
  rcases List.mem_cons.1 hj with rfl | hj
  · exact ⟨hi, hn⟩
  · exact h j hj
structure IX where
  g : Nat
  p : Bool
  A : Option Addr
  n : Nat
  c : Nat
def HeldX (W : World) (l : List IX) : Prop := ∀ i, i ∈ l → BoxZ W i.g i.p i.A i.n i.c
theorem heldx_nil (W : World) : HeldX W [] := fun i hi => by cases hi
theorem HeldX.next {W W' : World} {l : List IX} (h : HeldX W l) (hb : Below W.heap.size W W') : HeldX W' l := fun i hi => (h i hi).below hb (Array.getElem?_eq_some_iff.1 (h i hi)).1
theorem HeldX.cons {W : World} {l : List IX} {g : Nat} {p : Bool} {A : Option Addr} {n c : Nat} (h : HeldX W l) (hi : BoxZ W g p A n c) : HeldX W (⟨g, p, A, n, c⟩ :: l) := fun j hj => by
  rcases List.mem_cons.1 hj with rfl | hj
  · exact hi
  · exact h j hj
section
variable {A A2 B B2 : Option Addr} {n c m d nb cb na ca g1 g2 g3 g4 k : Nat} {L M : List ZE} {w W : World} {z y : Int}
variable {f g : Nat → Int} {s : Int}
theorem ofK_any {g : Nat} {cs : Array Value} {T : TypeId} (X : List Int) (n : Nat) (hn : X.length = n) (hg : w.heap[g]? = some (.cells cs T)) (hc : cs.toList = X.map (Value.int .i64)) (hX : ∀ x, x ∈ X → -1000 ≤ x ∧ x ≤ 1000) (hl : n ≤ 60) : Calls Tryz.prog 7 #[.slice (some ⟨g, 0, none⟩) n n] w (NAns w n (iat X)) := by
  subst hn
  exact ofL_any X hg hc hX hl
theorem iatK_bd {X : List Int} (n : Nat) (hn : X.length = n) (hX : ∀ x, x ∈ X → -1000 ≤ x ∧ x ≤ 1000) : BdV 1 n (iat X) := by
  subst hn
  exact iat_bd hX
theorem wofS {m k : Int} (W : World) (hm : m = k) (h1 : -1000 ≤ k) (h2 : k ≤ 1000) : Calls Tryz.prog 34 #[.int .i64 k] W (ZOne W m) := by
  subst hm
  exact wOf_any m (by omega) (by omega)
theorem dotS (h : V1 w A n c L) (h2 : V1 w A2 n d M) (i : IsV L n f) (j : IsV M n g) (hn : n ≤ 64) (e : sumTo (fun i => f i * g i) n = s) : Calls Tryz.prog 17 #[.slice A n c, .slice A2 n d] w (ZAns w s 0) := by
  rw [← e]
  exact dotR h h2 i j hn
theorem small_bd {k : Int} (h : s = k) (h1 : -1000 ≤ k) (h2 : k ≤ 1000) : Bd 60 s := by
  subst h
  have h3 : Bd 1 s := by
    unfold Bd
    have h4 : B64 ^ 1 = 18446744073709551616 := by rw [Nat.pow_one, B64_eq]
    omega
  exact h3.mono (by omega)
end
end Go.Proofs.YtgiokmfdafmaoaaGreat

/- The chapter's first examples. -/
namespace Go.Proofs.YtgiokmfdafmaoaaGreat
open Go.RowKit Go.Shelf
set_option linter.unusedVariables false
set_option linter.unusedSimpArgs false

section
variable {w : World}
set_option maxRecDepth 100000 in
set_option maxHeartbeats 4000000 in
theorem valive_any (w : World) : Calls Tryz.prog 13 #[] w fun e w' => e = .returned (.bool true) ∧ Below w.heap.size w w' := by
  obtain ⟨s12, es12⟩ : ∃ s : Int, s = (12 : Int) := ⟨_, rfl⟩
  have Ls12 : Hid (Bd 60 s12) := by show Bd _ _; rw [es12]; exact small_bd rfl (by omega) (by omega)
  have Es12 := Lib.hid es12
  clear es12
  obtain ⟨t12, et12⟩ : ∃ s : Int, s = (12 : Int) := ⟨_, rfl⟩
  have Lt12 : Hid (Bd 60 t12) := by show Bd _ _; rw [et12]; exact small_bd rfl (by omega) (by omega)
  have Et12 := Lib.hid et12
  clear et12
  obtain ⟨m2, em2⟩ : ∃ s : Int, s = (2 : Int) := ⟨_, rfl⟩
  have Lm2 : Hid (Bd 60 m2) := by show Bd _ _; rw [em2]; exact small_bd rfl (by omega) (by omega)
  have Em2 := Lib.hid em2
  clear em2
  obtain ⟨m1, em1⟩ : ∃ s : Int, s = (-1 : Int) := ⟨_, rfl⟩
  have Lm1 : Hid (Bd 60 m1) := by show Bd _ _; rw [em1]; exact small_bd rfl (by omega) (by omega)
  have Em1 := Lib.hid em1
  clear em1
  have Q1 : Hid (sumTo (fun i => iat [1, 2, 3] i * iat [4, -5, 6] i) 3 = s12) := by show _ = s12; rw [Es12.out]; simp [sumTo, iat]
  have Q2 : Hid (∀ i, i < 2 → m2 * iat [1, 0] i + m1 * iat [0, 3] i = iat [2, -3] i) := fun i hi => by
    rw [Em2.out, Em1.out]
    match i, hi with
    | 0, _ => rfl
    | 1, _ => rfl
  have Q3 : Hid (BdV 1 2 (fun i => m2 * iat [1, 0] i + m1 * iat [0, 3] i)) := (iatK_bd (X := [2, -3]) 2 rfl (by decide)).congr fun i hi => (Q2.out i hi).symm
  have KV0 := heldv_nil w
  have KN0 := heldn_nil w
  have KX0 := heldx_nil w
  have D0 := Below.refl w.heap.size w
  try simp only [World.size_alloc] at KV0
  have HV0 := Lib.hid KV0
  try simp only [World.size_alloc] at KN0
  have HN0 := Lib.hid KN0
  try simp only [World.size_alloc] at KX0
  have HX0 := Lib.hid KX0
  have HB0 := Lib.hid D0
  clear KV0 KN0 KX0 D0
  go_enter Tryz.func13, Tryz.ntmps13
  go_wp2_with fail
  refine (ofK_any ([1, 2, 3] : List Int) 3 rfl (World.alloc_heap_new _ _) rfl (by decide) (by omega)).mono ?_
  rintro e v1_ ⟨A1_, c1_, L1_, rfl, o, hb⟩
  have Ia := Lib.hid o.v
  have HV1 := Lib.hid ((HV0.out.next (below_then (bxb _ _) hb)).cons (o.v1 (iatK_bd (X := [1, 2, 3]) 3 rfl (by decide)) (by omega) (by omega)))
  have HN1 := Lib.hid (HN0.out.next (below_then (bxb _ _) hb))
  have HX1 := Lib.hid (HX0.out.next (below_then (bxb _ _) hb))
  have HB1 := Lib.hid (below_then HB0.out (below_then (bxb _ _) hb))
  clear o hb HV0 HN0 HX0 HB0
  go_wp2_with fail
  refine (ofK_any ([4, -5, 6] : List Int) 3 rfl (World.alloc_heap_new _ _) rfl (by decide) (by omega)).mono ?_
  rintro e v2_ ⟨A2_, c2_, L2_, rfl, o, hb⟩
  have Ib := Lib.hid o.v
  have HV2 := Lib.hid ((HV1.out.next (below_then (bxb _ _) hb)).cons (o.v1 (iatK_bd (X := [4, -5, 6]) 3 rfl (by decide)) (by omega) (by omega)))
  have HN2 := Lib.hid (HN1.out.next (below_then (bxb _ _) hb))
  have HX2 := Lib.hid (HX1.out.next (below_then (bxb _ _) hb))
  have HB2 := Lib.hid (below_then HB1.out (below_then (bxb _ _) hb))
  clear o hb HV1 HN1 HX1 HB1
  go_wp2_with fail
  refine (dotS (show V1 _ A1_ 3 c1_ L1_ from HV2.out ⟨A1_, 3, c1_, L1_⟩ (.tail _ (.head _))) (show V1 _ A2_ 3 c2_ L2_ from HV2.out ⟨A2_, 3, c2_, L2_⟩ (.head _)) Ia.out Ib.out (by omega) Q1.out).mono ?_
  rintro e v3_ ⟨A3_, n3_, c3_, rfl, o, hb⟩
  have hl := Ls12.out.len o
  have HV3 := Lib.hid (HV2.out.next (below_then hb (bxb _ (zo (decide (s12 < 0)) A3_ n3_ c3_))))
  have HN3 := Lib.hid ((HN2.out.next (below_then hb (bxb _ (zo (decide (s12 < 0)) A3_ n3_ c3_)))).cons (o.nm.below (bxb _ (zo (decide (s12 < 0)) A3_ n3_ c3_))) (show n3_ ≤ 60 by omega))
  have HX3 := Lib.hid ((HX2.out.next (below_then hb (bxb _ (zo (decide (s12 < 0)) A3_ n3_ c3_)))).cons (show BoxZ _ _ (decide (s12 < 0)) A3_ n3_ c3_ from World.alloc_heap_new _ _))
  have HB3 := Lib.hid (below_then HB2.out (below_then hb (bxb _ (zo (decide (s12 < 0)) A3_ n3_ c3_))))
  clear o hb hl HV2 HN2 HX2 HB2
  try unfold zV
  try unfold zv
  go_wp2_with fail
  refine (wofS (m := m2) _ Em2.out (by omega) (by omega)).mono ?_
  rintro e v4_ ⟨A4_, n4_, c4_, rfl, o, hb⟩
  have hl := Lm2.out.len o
  have HV4 := Lib.hid (HV3.out.next hb)
  have HN4 := Lib.hid ((HN3.out.next hb).cons (o.nm) (show n4_ ≤ 60 by omega))
  have HX4 := Lib.hid (HX3.out.next hb)
  have HB4 := Lib.hid (below_then HB3.out hb)
  clear o hb hl HV3 HN3 HX3 HB3
  try unfold zV
  try unfold zv
  go_wp2_with fail
  refine (ofK_any ([1, 0] : List Int) 2 rfl (World.alloc_heap_new _ _) rfl (by decide) (by omega)).mono ?_
  rintro e v5_ ⟨A5_, c5_, L5_, rfl, o, hb⟩
  have Ic := Lib.hid o.v
  have HV5 := Lib.hid ((HV4.out.next (below_then (bxb _ _) hb)).cons (o.v1 (iatK_bd (X := [1, 0]) 2 rfl (by decide)) (by omega) (by omega)))
  have HN5 := Lib.hid (HN4.out.next (below_then (bxb _ _) hb))
  have HX5 := Lib.hid (HX4.out.next (below_then (bxb _ _) hb))
  have HB5 := Lib.hid (below_then HB4.out (below_then (bxb _ _) hb))
  clear o hb HV4 HN4 HX4 HB4
  go_wp2_with fail
  refine (wofS (m := m1) _ Em1.out (by omega) (by omega)).mono ?_
  rintro e v6_ ⟨A6_, n6_, c6_, rfl, o, hb⟩
  have hl := Lm1.out.len o
  have HV6 := Lib.hid (HV5.out.next hb)
  have HN6 := Lib.hid ((HN5.out.next hb).cons (o.nm) (show n6_ ≤ 60 by omega))
  have HX6 := Lib.hid (HX5.out.next hb)
  have HB6 := Lib.hid (below_then HB5.out hb)
  clear o hb hl HV5 HN5 HX5 HB5
  try unfold zV
  try unfold zv
  go_wp2_with fail
  refine (ofK_any ([0, 3] : List Int) 2 rfl (World.alloc_heap_new _ _) rfl (by decide) (by omega)).mono ?_
  rintro e v7_ ⟨A7_, c7_, L7_, rfl, o, hb⟩
  have Id := Lib.hid o.v
  have HV7 := Lib.hid ((HV6.out.next (below_then (bxb _ _) hb)).cons (o.v1 (iatK_bd (X := [0, 3]) 2 rfl (by decide)) (by omega) (by omega)))
  have HN7 := Lib.hid (HN6.out.next (below_then (bxb _ _) hb))
  have HX7 := Lib.hid (HX6.out.next (below_then (bxb _ _) hb))
  have HB7 := Lib.hid (below_then HB6.out (below_then (bxb _ _) hb))
  clear o hb HV6 HN6 HX6 HB6
  go_wp2_with fail
  refine (mixR (show V1 _ A5_ 2 c5_ L5_ from HV7.out ⟨A5_, 2, c5_, L5_⟩ (.tail _ (.head _))) (show V1 _ A7_ 2 c7_ L7_ from HV7.out ⟨A7_, 2, c7_, L7_⟩ (.head _)) (show ZNm _ A4_ n4_ c4_ m2 from (HN7.out ⟨m2, A4_, n4_, c4_⟩ (.tail _ (.head _))).1) (show ZNm _ A6_ n6_ c6_ m1 from (HN7.out ⟨m1, A6_, n6_, c6_⟩ (.head _)).1) (show n4_ ≤ 60 from (HN7.out ⟨m2, A4_, n4_, c4_⟩ (.tail _ (.head _))).2) (show n6_ ≤ 60 from (HN7.out ⟨m1, A6_, n6_, c6_⟩ (.head _)).2) Ic.out Id.out (by omega)).mono ?_
  rintro e v8_ ⟨A8_, c8_, L8_, rfl, o, hb⟩
  have Ix := Lib.hid o.v
  have HV8 := Lib.hid ((HV7.out.next hb).cons (o.v1 (Q3.out) (by omega) (by omega)))
  have HN8 := Lib.hid (HN7.out.next hb)
  have HX8 := Lib.hid (HX7.out.next hb)
  have HB8 := Lib.hid (below_then HB7.out hb)
  clear o hb HV7 HN7 HX7 HB7
  have HV9 := Lib.hid (HV8.out.next (Below.refl _ _).drew)
  have HN9 := Lib.hid (HN8.out.next (Below.refl _ _).drew)
  have HX9 := Lib.hid (HX8.out.next (Below.refl _ _).drew)
  have HB9 := Lib.hid (below_then HB8.out (Below.refl _ _).drew)
  have xs0 := (show BoxZ _ (v3_.heap.size) (decide (s12 < 0)) A3_ n3_ c3_ from HX9.out ⟨v3_.heap.size, (decide (s12 < 0)), A3_, n3_, c3_⟩ (.head _)).c0
  have xs1 := (show BoxZ _ (v3_.heap.size) (decide (s12 < 0)) A3_ n3_ c3_ from HX9.out ⟨v3_.heap.size, (decide (s12 < 0)), A3_, n3_, c3_⟩ (.head _)).c1
  go_wp2_with fail
  go_region_held3 (fun W' => W'.cell? ⟨v3_.heap.size, 0, none⟩ = some (.bool (decide (s12 < 0))) ∧ W'.cell? ⟨v3_.heap.size, 1, none⟩ = some (.slice A3_ n3_ c3_)) (first | (with_reducible exact ⟨xs0, xs1⟩) | go_keep)
    (first
      | (go_at_call 12; refine (rsameT (show V1 _ A8_ 2 c8_ L8_ from HV12.out ⟨A8_, 2, c8_, L8_⟩ (.tail _ (.head _))) (show V1 _ A12_ 2 c12_ L12_ from HV12.out ⟨A12_, 2, c12_, L12_⟩ (.head _)) ((isv_keys Ix.out Iy.out).2 Q2.out)).mono ?_; rintro e v13_ ⟨rfl, hb⟩; have HV13 := Lib.hid (HV12.out.next hb); have HN13 := Lib.hid (HN12.out.next hb); have HX13 := Lib.hid (HX12.out.next hb); have HB13 := Lib.hid (below_then HB12.out hb); clear HV12 HN12 HX12 HB12; clear hb; clear xs0 xs1; have xs0 := (show BoxZ _ (v3_.heap.size) (decide (s12 < 0)) A3_ n3_ c3_ from HX13.out ⟨v3_.heap.size, (decide (s12 < 0)), A3_, n3_, c3_⟩ (.head _)).c0; have xs1 := (show BoxZ _ (v3_.heap.size) (decide (s12 < 0)) A3_ n3_ c3_ from HX13.out ⟨v3_.heap.size, (decide (s12 < 0)), A3_, n3_, c3_⟩ (.head _)).c1)
      | (go_at_call 7; refine (ofK_any ([2, -3] : List Int) 2 rfl (World.alloc_heap_new _ _) rfl (by decide) (by omega)).mono ?_; rintro e v12_ ⟨A12_, c12_, L12_, rfl, o, hb⟩; have Iy := Lib.hid o.v; have HV12 := Lib.hid ((HV11.out.next (below_then (bxb _ _) hb)).cons (o.v1 (iatK_bd (X := [2, -3]) 2 rfl (by decide)) (by omega) (by omega))); have HN12 := Lib.hid (HN11.out.next (below_then (bxb _ _) hb)); have HX12 := Lib.hid (HX11.out.next (below_then (bxb _ _) hb)); have HB12 := Lib.hid (below_then HB11.out (below_then (bxb _ _) hb)); clear o hb HV11 HN11 HX11 HB11; clear xs0 xs1; have xs0 := (show BoxZ _ (v3_.heap.size) (decide (s12 < 0)) A3_ n3_ c3_ from HX12.out ⟨v3_.heap.size, (decide (s12 < 0)), A3_, n3_, c3_⟩ (.head _)).c0; have xs1 := (show BoxZ _ (v3_.heap.size) (decide (s12 < 0)) A3_ n3_ c3_ from HX12.out ⟨v3_.heap.size, (decide (s12 < 0)), A3_, n3_, c3_⟩ (.head _)).c1)
      | (go_at_call 27; refine (sameT (show ZNm _ A3_ n3_ c3_ s12 from (HN10.out ⟨s12, A3_, n3_, c3_⟩ (.tail _ (.tail _ (.tail _ (.head _))))).1) (show ZNm _ A10_ n10_ c10_ t12 from (HN10.out ⟨t12, A10_, n10_, c10_⟩ (.head _)).1) (Nat.le_trans (show n3_ ≤ 60 from (HN10.out ⟨s12, A3_, n3_, c3_⟩ (.tail _ (.tail _ (.tail _ (.head _))))).2) (by omega)) (Nat.le_trans (show n10_ ≤ 60 from (HN10.out ⟨t12, A10_, n10_, c10_⟩ (.head _)).2) (by omega)) (Es12.out.trans Et12.out.symm)).mono ?_; rintro e v11_ ⟨rfl, hb⟩; have HV11 := Lib.hid (HV10.out.next hb); have HN11 := Lib.hid (HN10.out.next hb); have HX11 := Lib.hid (HX10.out.next hb); have HB11 := Lib.hid (below_then HB10.out hb); clear HV10 HN10 HX10 HB10; clear hb; clear xs0 xs1; have xs0 := (show BoxZ _ (v3_.heap.size) (decide (s12 < 0)) A3_ n3_ c3_ from HX11.out ⟨v3_.heap.size, (decide (s12 < 0)), A3_, n3_, c3_⟩ (.head _)).c0; have xs1 := (show BoxZ _ (v3_.heap.size) (decide (s12 < 0)) A3_ n3_ c3_ from HX11.out ⟨v3_.heap.size, (decide (s12 < 0)), A3_, n3_, c3_⟩ (.head _)).c1)
      | (go_at_call 34; refine (wofS (m := t12) _ Et12.out (by omega) (by omega)).mono ?_; rintro e v10_ ⟨A10_, n10_, c10_, rfl, o, hb⟩; have hl := Lt12.out.len o; have HV10 := Lib.hid (HV9.out.next hb); have HN10 := Lib.hid ((HN9.out.next hb).cons (o.nm) (show n10_ ≤ 60 by omega)); have HX10 := Lib.hid (HX9.out.next hb); have HB10 := Lib.hid (below_then HB9.out hb); clear o hb hl HV9 HN9 HX9 HB9; (try unfold zV); (try unfold zv); clear xs0 xs1; have xs0 := (show BoxZ _ (v3_.heap.size) (decide (s12 < 0)) A3_ n3_ c3_ from HX10.out ⟨v3_.heap.size, (decide (s12 < 0)), A3_, n3_, c3_⟩ (.head _)).c0; have xs1 := (show BoxZ _ (v3_.heap.size) (decide (s12 < 0)) A3_ n3_ c3_ from HX10.out ⟨v3_.heap.size, (decide (s12 < 0)), A3_, n3_, c3_⟩ (.head _)).c1))
  go_wp2_with fail
  go_ret
  exact ⟨rfl, HB13.out⟩
end
end Go.Proofs.YtgiokmfdafmaoaaGreat

/- Rows that came in, and a law's guards. -/
namespace Go.Proofs.YtgiokmfdafmaoaaGreat
open Go.RowKit Go.Shelf
set_option linter.unusedVariables false
set_option linter.unusedSimpArgs false

/-- A row that came in. -/
structure RV (w : World) (A : Option Addr) (n c : Nat) (L : List ZE) : Prop where
  rd : RdV w A n L
  c1 : n ≤ c
  c2 : c ≤ 9223372036854775807
  nil0 : ∀ e, e ∈ L → e.A = none → e.n = 0 ∧ e.c = 0
theorem RV.below {w w' : World} {A : Option Addr} {n c : Nat} {L : List ZE} (h : RV w A n c L) (hb : Below w.heap.size w w') : RV w' A n c L := ⟨h.rd.below hb, h.c1, h.c2, h.nil0⟩
theorem RV.great {w : World} {A : Option Addr} {n c : Nat} {L : List ZE} (h : RV w A n c L) (many limbs : Nat) : Calls Tryz.prog 15 #[.slice A n c, .int .i64 (many : Int), .int .i64 (limbs : Int)] w fun e w' => e = .returned (.bool (greatV L many limbs)) ∧ Below w.heap.size w w' :=
  greatV_any h.rd (Nat.le_trans h.c1 h.c2) (fun e he => Nat.le_trans (h.rd.ok e he).c1 (h.rd.ok e he).c2)
theorem RV.great20 {w : World} {A : Option Addr} {n c : Nat} {L : List ZE} (h : RV w A n c L) : Calls Tryz.prog 15 #[.slice A n c, .int .i64 20, .int .i64 10] w fun e w' => e = .returned (.bool (greatV L 20 10)) ∧ Below w.heap.size w w' := h.great 20 10
theorem RV.great80 {w : World} {A : Option Addr} {n c : Nat} {L : List ZE} (h : RV w A n c L) : Calls Tryz.prog 15 #[.slice A n c, .int .i64 80, .int .i64 3] w fun e w' => e = .returned (.bool (greatV L 80 3)) ∧ Below w.heap.size w w' := h.great 80 3
theorem RV.v1 {w : World} {A : Option Addr} {n c many limbs : Nat} {L : List ZE} (h : RV w A n c L) (hg : greatV L many limbs = false) (h1 : many ≤ 1000) (h2 : limbs ≤ 60) : V1 w A n c L := by
  obtain ⟨k1, k2⟩ := great_no hg
  rw [h.rd.len] at k1
  exact ⟨h.rd, h.c1, h.c2, by omega, fun e he => Nat.le_trans (k2 e he) h2, h.nil0⟩
/-- A call answered a number, whatever it is, and the error E. -/
def WNum (w : World) (E : Int) (e : Ending) (w' : World) : Prop := ∃ (p : Bool) (A : Option Addr) (n c : Nat), e = .returned (.tuple #[.agg #[.bool p, .slice A n c], .int .i64 E]) ∧ Below w.heap.size w w'
def WRow (w : World) (E : Int) (e : Ending) (w' : World) : Prop := ∃ (A : Option Addr) (n c : Nat), e = .returned (.tuple #[.slice A n c, .int .i64 E]) ∧ Below w.heap.size w w'
theorem VAns.w {w w' : World} {ok : Bool} {n : Nat} {f : Nat → Int} {E F : Int} {e : Ending} (h : VAns w ok n f E e w') (hF : F = if ok then 0 else E) : WRow w F e w' := by
  unfold VAns at h
  cases ok with
  | true =>
    rw [if_pos rfl] at h hF
    subst hF
    obtain ⟨A, c, L, he, hN, hb⟩ := h
    exact ⟨A, n, c, he, hb⟩
  | false =>
    rw [if_neg (by decide)] at h hF
    subst hF
    exact ⟨none, 0, 0, h.1, h.2⟩
section
variable {A A2 B B2 : Option Addr} {n c m d nb cb na ca g1 g2 g3 g4 k : Nat} {L M : List ZE} {w W : World} {z y : Int}
theorem dotW (h : V1 w A n c L) (h2 : V1 w A2 m d M) : Calls Tryz.prog 17 #[.slice A n c, .slice A2 m d] w (WNum w (twoVE L M)) :=
  (dotV_is A A2 n c m d L M w h h2).mono fun e w' ⟨A', k, c', he, _, hb⟩ => ⟨_, A', k, c', he, hb⟩
theorem addW (h : V1 w A n c L) (h2 : V1 w A2 m d M) : Calls Tryz.prog 10 #[.slice A n c, .slice A2 m d] w (WRow w (twoVE L M)) :=
  (addV_is A A2 n c m d L M w h h2).mono fun e w' h => h.w (by by_cases hz : twoVE L M = 0 <;> simp [hz])
theorem cmpW (h : V1 w A n c L) (h2 : V1 w A2 m d M) : Calls Tryz.prog 9 #[.slice A n c, .slice A2 m d] w (IAns w (if twoVE L M = 0 then firstTo (fun i => sgn (zat L i - zat M i)) n else 0) (twoVE L M)) := cmpV_is A A2 n c m d L M w h h2
theorem mixW {p q : Bool} {a b : List Nat} {E : Int} (h : V1 w A n c L) (h2 : V1 w A2 m d M) (ha : Z1 w B na ca a) (hb : Z1 w B2 nb cb b) (la : na ≤ 60) (lb : nb ≤ 60) (hE : E = if mayZ p a && mayZ q b then twoVE L M else 8) : Calls Tryz.prog 22 #[.agg #[.bool p, .slice B na ca], .slice A n c, .agg #[.bool q, .slice B2 nb cb], .slice A2 m d] w (WRow w E) :=
  (mixV_is A A2 B B2 n c m d na ca nb cb p q a b L M w h h2 ha hb la lb).mono fun e w' h => h.w (by
    rw [hE]
    by_cases hm : (mayZ p a && mayZ q b) = true
    · by_cases hz : twoVE L M = 0 <;> simp [hm, hz]
    · simp [hm])
theorem cmpS {f g : Nat → Int} {s : Int} (h : V1 w A n c L) (h2 : V1 w A2 n d M) (i : IsV L n f) (j : IsV M n g) (hn : n ≤ 64) (e : firstTo (fun i => sgn (f i - g i)) n = s) : Calls Tryz.prog 9 #[.slice A n c, .slice A2 n d] w (IAns w s 0) := by
  rw [← e]
  exact cmpR h h2 i j hn
theorem sameB (h : V1 w A n c L) (h2 : V1 w A2 m d M) (t : Bool) (hp : keys L = keys M ↔ t = true) : Calls Tryz.prog 31 #[.slice A n c, .slice A2 m d] w fun e w' => e = .returned (.bool t) ∧ Below w.heap.size w w' := by
  have hc := sameR h h2 hp
  rwa [show decide (t = true) = t by cases t <;> rfl] at hc
theorem zeroB (h : V1 w A n c L) (t : Bool) (hp : noughts L = true ↔ t = true) : Calls Tryz.prog 29 #[.slice A n c] w fun e w' => e = .returned (.bool t) ∧ Below w.heap.size w w' := by
  have hc := zeroR h hp
  rwa [show decide (t = true) = t by cases t <;> rfl] at hc
end
end Go.Proofs.YtgiokmfdafmaoaaGreat

/- vec's Content and Prime of rows that may be. -/
namespace Go.Proofs.YtgiokmfdafmaoaaGreat
open Go.RowKit Go.Shelf
set_option linter.unusedVariables false
set_option linter.unusedSimpArgs false

section
variable {A A2 B B2 : Option Addr} {n c m d nb cb na ca g1 g2 g3 g4 k : Nat} {L M : List ZE} {w W : World} {z y : Int}
variable {f g : Nat → Int}
theorem contentR (h : V1 w A n c L) (i : IsV L n f) (hn : n ≤ 64) : Calls Tryz.prog 6 #[.slice A n c] w (Answers w (limbs (gcdTo f n)) 0) := by
  have hc := contentV_is A n c L w h
  rw [isv_mayR i hn, if_pos rfl, if_pos rfl, gcdTo_congr (g := f) fun k hk => by rw [i.zat hk]] at hc
  exact hc
theorem primeV_congr (hfg : ∀ i, i < n → f i = g i) {k : Nat} (hk : k < n) : primeV f n k = primeV g n k := by
  unfold primeV
  rw [gcdTo_congr (g := g) fun i hi => by rw [hfg i hi], hfg k hk]
theorem primeR (h : V1 w A n c L) (i : IsV L n f) (hn : n ≤ 64) : Calls Tryz.prog 8 #[.slice A n c] w (TAns w n (primeV f n)) := by
  have hc := primeV_is A n c L w h
  rw [isv_mayR i hn] at hc
  exact hc.mono fun e w' ha => ha.t fun k hk => primeV_congr (fun i2 hi => i.zat hi) hk
theorem prime_bd {j : Nat} (h : BdV j n f) : BdV j n (primeV f n) := fun k hk => by
  by_cases h0 : gcdTo f n = 0
  · rw [(prime_none h0 hk).1]; exact h k hk
  · have h1 := prime_back (f := f) hk
    have h2 := h k hk
    unfold Bd at *
    rw [← h1, Int.natAbs_mul] at h2
    have h3 : 1 * (primeV f n k).natAbs ≤ ((gcdTo f n : Nat) : Int).natAbs * (primeV f n k).natAbs := Nat.mul_le_mul_right _ (by omega)
    omega
end
end Go.Proofs.YtgiokmfdafmaoaaGreat

/- The law VecPrime. -/
namespace Go.Proofs.YtgiokmfdafmaoaaGreat
open Go.RowKit Go.Shelf
set_option linter.unusedVariables false
set_option linter.unusedSimpArgs false

theorem limbs_uni {x : Nat} (h0 : 0 < x) (h : x < B64) : limbs x = [x] := by
  rw [limbs_pos (by omega), Nat.mod_eq_of_lt h, Nat.div_eq_of_lt h, limbs_zero]
theorem nmK {w : World} {T : TypeId} (x : Nat) (h0 : 0 < x) (h : x < B64) : Nm (w.alloc (.cells #[u64 x] T)) (some ⟨w.heap.size, 0, none⟩) 1 1 x :=
  ⟨by rw [limbs_uni h0 h]; exact rd_new1 w x T h, Nat.le_refl _, by omega⟩
theorem sgn_bd (z : Int) : Bd 1 (sgn z) := by
  unfold Bd
  have h4 : B64 ^ 1 = 18446744073709551616 := by rw [Nat.pow_one, B64_eq]
  rcases sgn_one z with h | h | h <;> rw [h] <;> omega
set_option maxRecDepth 100000 in
set_option maxHeartbeats 4000000 in
theorem vprime_long (A1 B1 : Option Addr) (n1 c1 m1 d1 : Nat) (La : List ZE) (p : Bool) (w : World) (ra : RV w A1 n1 c1 La) (hm : m1 ≤ 9223372036854775807) (hl : ¬ (greatV La 20 10 = false ∧ m1 ≤ 10)) : Calls Tryz.prog 5 #[.slice A1 n1 c1, .agg #[.bool p, .slice B1 m1 d1]] w fun e w' => e = .returned (.bool true) ∧ Below w.heap.size w w' := by
  have Ga := Lib.hid (fun W (hW : Below w.heap.size w W) => (ra.below hW).great20)
  clear ra
  cases ka : greatV La 20 10 with
  | true =>
    have Ka := Lib.hid ka
    clear hl ka
    have KV0 := heldv_nil w
    have KN0 := heldn_nil w
    have KX0 := heldx_nil w
    have D0 := Below.refl w.heap.size w
    have KV1 := KV0.next (bxb _ (zo p B1 m1 d1))
    have KN1 := KN0.next (bxb _ (zo p B1 m1 d1))
    have KX1 := (KX0.next (bxb _ (zo p B1 m1 d1))).cons (show BoxZ _ _ p B1 m1 d1 from World.alloc_heap_new _ _)
    have D1 := below_then D0 (bxb _ (zo p B1 m1 d1))
    try simp only [World.size_alloc] at KV1
    have HV0 := Lib.hid KV1
    try simp only [World.size_alloc] at KN1
    have HN0 := Lib.hid KN1
    try simp only [World.size_alloc] at KX1
    have HX0 := Lib.hid KX1
    have HB0 := Lib.hid D1
    clear KV1 KN1 KX1 D1 KV0 KN0 KX0 D0
    go_enter Tryz.func5, Tryz.ntmps5
    go_wp2_with fail
    refine (valive_any _).mono ?_
    rintro e v1_ ⟨rfl, hb⟩
    have HV1 := Lib.hid (HV0.out.next hb)
    have HN1 := Lib.hid (HN0.out.next hb)
    have HX1 := Lib.hid (HX0.out.next hb)
    have HB1 := Lib.hid (below_then HB0.out hb)
    clear HV0 HN0 HX0 HB0
    clear hb
    have xn0 := (show BoxZ _ (w.heap.size) p B1 m1 d1 from HX1.out ⟨w.heap.size, p, B1, m1, d1⟩ (.head _)).c0
    have xn1 := (show BoxZ _ (w.heap.size) p B1 m1 d1 from HX1.out ⟨w.heap.size, p, B1, m1, d1⟩ (.head _)).c1
    go_wp2_with fail
    refine (Ga.out _ HB1.out).mono ?_
    rintro e v2_ ⟨rfl, hb⟩
    rw [Ka.out]
    have HV2 := Lib.hid (HV1.out.next hb)
    have HN2 := Lib.hid (HN1.out.next hb)
    have HX2 := Lib.hid (HX1.out.next hb)
    have HB2 := Lib.hid (below_then HB1.out hb)
    clear HV1 HN1 HX1 HB1
    clear hb
    clear xn0 xn1
    have xn0 := (show BoxZ _ (w.heap.size) p B1 m1 d1 from HX2.out ⟨w.heap.size, p, B1, m1, d1⟩ (.head _)).c0
    have xn1 := (show BoxZ _ (w.heap.size) p B1 m1 d1 from HX2.out ⟨w.heap.size, p, B1, m1, d1⟩ (.head _)).c1
    go_wp2
    go_ret
    exact ⟨rfl, HB2.out⟩
  | false =>
    have Ka := Lib.hid ka
    have g2 : (10 : Int) < (m1 : Int) := by
      have h1 : ¬ m1 ≤ 10 := fun h => hl ⟨ka, h⟩
      omega
    clear hl ka
    have KV0 := heldv_nil w
    have KN0 := heldn_nil w
    have KX0 := heldx_nil w
    have D0 := Below.refl w.heap.size w
    have KV1 := KV0.next (bxb _ (zo p B1 m1 d1))
    have KN1 := KN0.next (bxb _ (zo p B1 m1 d1))
    have KX1 := (KX0.next (bxb _ (zo p B1 m1 d1))).cons (show BoxZ _ _ p B1 m1 d1 from World.alloc_heap_new _ _)
    have D1 := below_then D0 (bxb _ (zo p B1 m1 d1))
    try simp only [World.size_alloc] at KV1
    have HV0 := Lib.hid KV1
    try simp only [World.size_alloc] at KN1
    have HN0 := Lib.hid KN1
    try simp only [World.size_alloc] at KX1
    have HX0 := Lib.hid KX1
    have HB0 := Lib.hid D1
    clear KV1 KN1 KX1 D1 KV0 KN0 KX0 D0
    go_enter Tryz.func5, Tryz.ntmps5
    go_wp2_with fail
    refine (valive_any _).mono ?_
    rintro e v1_ ⟨rfl, hb⟩
    have HV1 := Lib.hid (HV0.out.next hb)
    have HN1 := Lib.hid (HN0.out.next hb)
    have HX1 := Lib.hid (HX0.out.next hb)
    have HB1 := Lib.hid (below_then HB0.out hb)
    clear HV0 HN0 HX0 HB0
    clear hb
    have xn0 := (show BoxZ _ (w.heap.size) p B1 m1 d1 from HX1.out ⟨w.heap.size, p, B1, m1, d1⟩ (.head _)).c0
    have xn1 := (show BoxZ _ (w.heap.size) p B1 m1 d1 from HX1.out ⟨w.heap.size, p, B1, m1, d1⟩ (.head _)).c1
    go_wp2_with fail
    refine (Ga.out _ HB1.out).mono ?_
    rintro e v2_ ⟨rfl, hb⟩
    rw [Ka.out]
    have HV2 := Lib.hid (HV1.out.next hb)
    have HN2 := Lib.hid (HN1.out.next hb)
    have HX2 := Lib.hid (HX1.out.next hb)
    have HB2 := Lib.hid (below_then HB1.out hb)
    clear HV1 HN1 HX1 HB1
    clear hb
    clear xn0 xn1
    have xn0 := (show BoxZ _ (w.heap.size) p B1 m1 d1 from HX2.out ⟨w.heap.size, p, B1, m1, d1⟩ (.head _)).c0
    have xn1 := (show BoxZ _ (w.heap.size) p B1 m1 d1 from HX2.out ⟨w.heap.size, p, B1, m1, d1⟩ (.head _)).c1
    go_wp2
    go_ret
    exact ⟨rfl, HB2.out⟩
set_option maxRecDepth 100000 in
set_option maxHeartbeats 4000000 in
theorem vprime_bad (A1 B1 : Option Addr) (n1 c1 m1 d1 : Nat) (La : List ZE) (p : Bool) (w : World) (ra : RV w A1 n1 c1 La) (va : V1 w A1 n1 c1 La) (la : m1 ≤ 10) (Ka : Hid (greatV La 20 10 = false)) (hbad : mayR La = false) : Calls Tryz.prog 5 #[.slice A1 n1 c1, .agg #[.bool p, .slice B1 m1 d1]] w fun e w' => e = .returned (.bool true) ∧ Below w.heap.size w w' := by
  have Ga := Lib.hid (fun W (hW : Below w.heap.size w W) => (ra.below hW).great20)
  have g1 : ¬ (10 : Int) < (m1 : Int) := by omega
  have N1 := Lib.hid (fun W (hW : Below w.heap.size w W) => primeV_is A1 n1 c1 La W (va.below hW))
  have N2 := Lib.hid (fun W (hW : Below w.heap.size w W) => contentV_is A1 n1 c1 La W (va.below hW))
  rw [hbad] at N1 N2
  unfold VAns Answers at *
  simp only [Bool.false_eq_true, if_false] at N1 N2
  clear ra va hbad
  have KV0 := heldv_nil w
  have KN0 := heldn_nil w
  have KX0 := heldx_nil w
  have D0 := Below.refl w.heap.size w
  have KV1 := KV0.next (bxb _ (zo p B1 m1 d1))
  have KN1 := KN0.next (bxb _ (zo p B1 m1 d1))
  have KX1 := (KX0.next (bxb _ (zo p B1 m1 d1))).cons (show BoxZ _ _ p B1 m1 d1 from World.alloc_heap_new _ _)
  have D1 := below_then D0 (bxb _ (zo p B1 m1 d1))
  try simp only [World.size_alloc] at KV1
  have HV0 := Lib.hid KV1
  try simp only [World.size_alloc] at KN1
  have HN0 := Lib.hid KN1
  try simp only [World.size_alloc] at KX1
  have HX0 := Lib.hid KX1
  have HB0 := Lib.hid D1
  clear KV1 KN1 KX1 D1 KV0 KN0 KX0 D0
  go_enter Tryz.func5, Tryz.ntmps5
  go_wp2_with fail
  refine (valive_any _).mono ?_
  rintro e v1_ ⟨rfl, hb⟩
  have HV1 := Lib.hid (HV0.out.next hb)
  have HN1 := Lib.hid (HN0.out.next hb)
  have HX1 := Lib.hid (HX0.out.next hb)
  have HB1 := Lib.hid (below_then HB0.out hb)
  clear HV0 HN0 HX0 HB0
  clear hb
  have xn0 := (show BoxZ _ (w.heap.size) p B1 m1 d1 from HX1.out ⟨w.heap.size, p, B1, m1, d1⟩ (.head _)).c0
  have xn1 := (show BoxZ _ (w.heap.size) p B1 m1 d1 from HX1.out ⟨w.heap.size, p, B1, m1, d1⟩ (.head _)).c1
  go_wp2_with fail
  refine (Ga.out _ HB1.out).mono ?_
  rintro e v2_ ⟨rfl, hb⟩
  rw [Ka.out]
  have HV2 := Lib.hid (HV1.out.next hb)
  have HN2 := Lib.hid (HN1.out.next hb)
  have HX2 := Lib.hid (HX1.out.next hb)
  have HB2 := Lib.hid (below_then HB1.out hb)
  clear HV1 HN1 HX1 HB1
  clear hb
  clear xn0 xn1
  have xn0 := (show BoxZ _ (w.heap.size) p B1 m1 d1 from HX2.out ⟨w.heap.size, p, B1, m1, d1⟩ (.head _)).c0
  have xn1 := (show BoxZ _ (w.heap.size) p B1 m1 d1 from HX2.out ⟨w.heap.size, p, B1, m1, d1⟩ (.head _)).c1
  go_wp2_with fail
  refine (N1.out _ HB2.out).mono ?_
  rintro e v3_ ⟨rfl, hb⟩
  have HV3 := Lib.hid (HV2.out.next hb)
  have HN3 := Lib.hid (HN2.out.next hb)
  have HX3 := Lib.hid (HX2.out.next hb)
  have HB3 := Lib.hid (below_then HB2.out hb)
  clear HV2 HN2 HX2 HB2
  clear hb
  go_wp2_with fail
  refine (N2.out _ HB3.out).mono ?_
  rintro e v4_ ⟨A4_, n4_, c4_, rfl, o, hb⟩
  clear o
  have HV4 := Lib.hid (HV3.out.next hb)
  have HN4 := Lib.hid (HN3.out.next hb)
  have HX4 := Lib.hid (HX3.out.next hb)
  have HB4 := Lib.hid (below_then HB3.out hb)
  clear HV3 HN3 HX3 HB3
  clear hb
  go_wp2
  go_ret
  exact ⟨rfl, HB4.out⟩
set_option maxRecDepth 100000 in
set_option maxHeartbeats 4000000 in
theorem vprime_zero (A1 B1 : Option Addr) (nn c1 m1 d1 : Nat) (La : List ZE) (f : Nat → Int) (p : Bool) (w : World) (ra : RV w A1 nn c1 La) (ha : V1 w A1 nn c1 La) (la : m1 ≤ 10) (h20 : nn ≤ 20) (Ka : Hid (greatV La 20 10 = false)) (Ia : Hid (IsV La nn f)) (Ba : Hid (BdV 10 nn f)) (h0 : gcdTo f nn = 0) : Calls Tryz.prog 5 #[.slice A1 nn c1, .agg #[.bool p, .slice B1 m1 d1]] w fun e w' => e = .returned (.bool true) ∧ Below w.heap.size w w' := by
  have Ga := Lib.hid (fun W (hW : Below w.heap.size w W) => (ra.below hW).great20)
  have g1 : ¬ (10 : Int) < (m1 : Int) := by omega
  have Bp : Hid (BdV 10 nn (primeV f nn)) := prime_bd Ba.out
  obtain ⟨gc, eg⟩ : ∃ g, g = gcdTo f nn := ⟨_, rfl⟩
  have Lgc : Hid (gc < B64 ^ 60) := by show gc < _; rw [eg]; exact gcdTo_bd (Ba.out.mono (by omega)) _ (Nat.le_refl _)
  have Eg := Lib.hid eg
  obtain ⟨gd, ed⟩ : ∃ g, g = gcdTo (primeV f nn) nn := ⟨_, rfl⟩
  have Lgd : Hid (gd < B64 ^ 60) := by show gd < _; rw [ed]; exact gcdTo_bd (Bp.out.mono (by omega)) _ (Nat.le_refl _)
  have Ed := Lib.hid ed
  have Bk : Hid (BdV 10 nn (fun i => primeV f nn i * (gc : Int))) := Ba.out.congr fun i hi => (show f i = primeV f nn i * (gc : Int) from by rw [Int.mul_comm, eg]; exact (prime_back hi).symm)
  have Qk : Hid (∀ i, i < nn → primeV f nn i * (gc : Int) = f i) := fun i hi => by rw [Int.mul_comm, eg]; exact prime_back hi
  have Zf : Hid ((∀ k, k < nn → f k = 0) ↔ gc = 0) := by show _ ↔ gc = 0; rw [eg]; exact gcdTo_zero.symm
  have Zg : Hid (decide ((gc : Int) < 0) = false) := decide_eq_false (by omega)
  have E0 : Hid (gc = 0) := eg.trans h0
  have E1 : Hid (gd = 0) := ed.trans (prime_nought h0)
  have Qp : Hid (∀ i, i < nn → primeV f nn i = f i) := fun i hi => (prime_none h0 hi).1
  clear eg ed ra la h0
  have KV0 := heldv_nil w
  have KN0 := heldn_nil w
  have KX0 := heldx_nil w
  have D0 := Below.refl w.heap.size w
  have KV1 := KV0.cons (ha.below D0)
  have KN1 := KN0
  have KX1 := KX0
  have D1 := D0
  have KV2 := KV1.next (bxb _ (zo p B1 m1 d1))
  have KN2 := KN1.next (bxb _ (zo p B1 m1 d1))
  have KX2 := (KX1.next (bxb _ (zo p B1 m1 d1))).cons (show BoxZ _ _ p B1 m1 d1 from World.alloc_heap_new _ _)
  have D2 := below_then D1 (bxb _ (zo p B1 m1 d1))
  try simp only [World.size_alloc] at KV2
  have HV0 := Lib.hid KV2
  try simp only [World.size_alloc] at KN2
  have HN0 := Lib.hid KN2
  try simp only [World.size_alloc] at KX2
  have HX0 := Lib.hid KX2
  have HB0 := Lib.hid D2
  clear KV2 KN2 KX2 D2 KV1 KN1 KX1 D1 KV0 KN0 KX0 D0
  clear ha
  go_enter Tryz.func5, Tryz.ntmps5
  go_wp2_with fail
  refine (valive_any _).mono ?_
  rintro e v1_ ⟨rfl, hb⟩
  have HV1 := Lib.hid (HV0.out.next hb)
  have HN1 := Lib.hid (HN0.out.next hb)
  have HX1 := Lib.hid (HX0.out.next hb)
  have HB1 := Lib.hid (below_then HB0.out hb)
  clear HV0 HN0 HX0 HB0
  clear hb
  have xn0 := (show BoxZ _ (w.heap.size) p B1 m1 d1 from HX1.out ⟨w.heap.size, p, B1, m1, d1⟩ (.head _)).c0
  have xn1 := (show BoxZ _ (w.heap.size) p B1 m1 d1 from HX1.out ⟨w.heap.size, p, B1, m1, d1⟩ (.head _)).c1
  go_wp2_with fail
  refine (Ga.out _ HB1.out).mono ?_
  rintro e v2_ ⟨rfl, hb⟩
  rw [Ka.out]
  have HV2 := Lib.hid (HV1.out.next hb)
  have HN2 := Lib.hid (HN1.out.next hb)
  have HX2 := Lib.hid (HX1.out.next hb)
  have HB2 := Lib.hid (below_then HB1.out hb)
  clear HV1 HN1 HX1 HB1
  clear hb
  clear xn0 xn1
  have xn0 := (show BoxZ _ (w.heap.size) p B1 m1 d1 from HX2.out ⟨w.heap.size, p, B1, m1, d1⟩ (.head _)).c0
  have xn1 := (show BoxZ _ (w.heap.size) p B1 m1 d1 from HX2.out ⟨w.heap.size, p, B1, m1, d1⟩ (.head _)).c1
  go_wp2_with fail
  refine (primeR (show V1 _ A1 nn c1 La from HV2.out ⟨A1, nn, c1, La⟩ (.head _)) Ia.out (by omega)).mono ?_
  rintro e v3_ ⟨A3_, c3_, L3_, rfl, o, hb⟩
  have Ip := Lib.hid o.v
  have HV3 := Lib.hid ((HV2.out.next hb).cons (o.v1 (Bp.out) (by omega) (by omega)))
  have HN3 := Lib.hid (HN2.out.next hb)
  have HX3 := Lib.hid (HX2.out.next hb)
  have HB3 := Lib.hid (below_then HB2.out hb)
  clear o hb HV2 HN2 HX2 HB2
  clear xn0 xn1
  go_wp2_with fail
  refine (Eg.out.symm ▸ contentR (show V1 _ A1 nn c1 La from HV3.out ⟨A1, nn, c1, La⟩ (.tail _ (.head _))) Ia.out (by omega)).mono ?_
  rintro e v4_ ⟨A4_, n4_, c4_, rfl, o, hb⟩
  have hl := o.nm.len Lgc.out
  have HV4 := Lib.hid (HV3.out.next hb)
  have HN4 := Lib.hid ((HN3.out.next hb).cons (nat_nm o.nm) (show n4_ ≤ 60 by omega))
  have HX4 := Lib.hid (HX3.out.next hb)
  have HB4 := Lib.hid (below_then HB3.out hb)
  have Zgc : Hid (n4_ = 0 ↔ gc = 0) := o.nm.zero
  have Rgc : Hid (A4_ = A4_) := rfl
  clear o hb hl HV3 HN3 HX3 HB3
  go_wp2_with fail
  refine (Ed.out.symm ▸ contentR (show V1 _ A3_ nn c3_ L3_ from HV4.out ⟨A3_, nn, c3_, L3_⟩ (.head _)) Ip.out (by omega)).mono ?_
  rintro e v5_ ⟨A5_, n5_, c5_, rfl, o, hb⟩
  have hl := o.nm.len Lgd.out
  have HV5 := Lib.hid (HV4.out.next hb)
  have HN5 := Lib.hid ((HN4.out.next hb).cons (nat_nm o.nm) (show n5_ ≤ 60 by omega))
  have HX5 := Lib.hid (HX4.out.next hb)
  have HB5 := Lib.hid (below_then HB4.out hb)
  have Zgd : Hid (n5_ = 0 ↔ gd = 0) := o.nm.zero
  have Rgd : Hid (A5_ = A5_) := rfl
  clear o hb hl HV4 HN4 HX4 HB4
  go_wp2_with fail
  have hsc := Lib.hid (scaleR (show V1 _ A3_ nn c3_ L3_ from HV5.out ⟨A3_, nn, c3_, L3_⟩ (.head _)) (show ZNm _ A4_ n4_ c4_ (gc : Int) from (HN5.out ⟨(gc : Int), A4_, n4_, c4_⟩ (.tail _ (.head _))).1) (show n4_ ≤ 60 from (HN5.out ⟨(gc : Int), A4_, n4_, c4_⟩ (.tail _ (.head _))).2) Ip.out (by omega))
  rw [Zg.out] at hsc
  refine (hsc.out).mono ?_
  rintro e v6_ ⟨A6_, c6_, L6_, rfl, o, hb⟩
  have Iback := Lib.hid o.v
  have HV6 := Lib.hid ((HV5.out.next hb).cons (o.v1 (Bk.out) (by omega) (by omega)))
  have HN6 := Lib.hid (HN5.out.next hb)
  have HX6 := Lib.hid (HX5.out.next hb)
  have HB6 := Lib.hid (below_then HB5.out hb)
  clear o hb HV5 HN5 HX5 HB5
  clear hsc
  go_wp2_with fail
  refine (zeroB (show V1 _ A1 nn c1 La from HV6.out ⟨A1, nn, c1, La⟩ (.tail _ (.tail _ (.head _)))) true ((isv_noughts Ia.out).trans (Zf.out.trans (by simp [E0.out])))).mono ?_
  rintro e v7_ ⟨rfl, hb⟩
  have HV7 := Lib.hid (HV6.out.next hb)
  have HN7 := Lib.hid (HN6.out.next hb)
  have HX7 := Lib.hid (HX6.out.next hb)
  have HB7 := Lib.hid (below_then HB6.out hb)
  clear HV6 HN6 HX6 HB6
  clear hb
  have y1 : n4_ = 0 := Zgc.out.2 E0.out
  have y2 : n5_ = 0 := Zgd.out.2 E1.out
  have y3 : ((n4_ : Int) == 0) = true := by rw [y1]; rfl
  go_wp2_with fail
  refine (rsameT (show V1 _ A3_ nn c3_ L3_ from HV7.out ⟨A3_, nn, c3_, L3_⟩ (.tail _ (.head _))) (show V1 _ A1 nn c1 La from HV7.out ⟨A1, nn, c1, La⟩ (.tail _ (.tail _ (.head _)))) ((isv_keys Ip.out Ia.out).2 Qp.out)).mono ?_
  rintro e v8_ ⟨rfl, hb⟩
  have HV8 := Lib.hid (HV7.out.next hb)
  have HN8 := Lib.hid (HN7.out.next hb)
  have HX8 := Lib.hid (HX7.out.next hb)
  have HB8 := Lib.hid (below_then HB7.out hb)
  clear HV7 HN7 HX7 HB7
  clear hb
  clear y2 y3
  have y2 : n5_ = 0 := Zgd.out.2 E1.out
  have y4 : ((n5_ : Int) == 0) = true := by rw [y2]; rfl
  go_wp2
  go_ret
  exact ⟨rfl, HB8.out⟩
set_option maxRecDepth 100000 in
set_option maxHeartbeats 4000000 in
theorem vprime_pos (A1 B1 : Option Addr) (nn c1 m1 d1 : Nat) (La : List ZE) (zn : Int) (f : Nat → Int) (w : World) (ra : RV w A1 nn c1 La) (ha : V1 w A1 nn c1 La) (la : m1 ≤ 10) (h20 : nn ≤ 20) (Ka : Hid (greatV La 20 10 = false)) (Ia : Hid (IsV La nn f)) (Ba : Hid (BdV 10 nn f)) (hn : ZNm w B1 m1 d1 zn) (hm0 : gcdTo f nn ≠ 0) : Calls Tryz.prog 5 #[.slice A1 nn c1, .agg #[.bool (decide (zn < 0)), .slice B1 m1 d1]] w fun e w' => e = .returned (.bool true) ∧ Below w.heap.size w w' := by
  have Ga := Lib.hid (fun W (hW : Below w.heap.size w W) => (ra.below hW).great20)
  have g1 : ¬ (10 : Int) < (m1 : Int) := by omega
  have Bp : Hid (BdV 10 nn (primeV f nn)) := prime_bd Ba.out
  obtain ⟨gc, eg⟩ : ∃ g, g = gcdTo f nn := ⟨_, rfl⟩
  have Lgc : Hid (gc < B64 ^ 60) := by show gc < _; rw [eg]; exact gcdTo_bd (Ba.out.mono (by omega)) _ (Nat.le_refl _)
  have Eg := Lib.hid eg
  obtain ⟨gd, ed⟩ : ∃ g, g = gcdTo (primeV f nn) nn := ⟨_, rfl⟩
  have Lgd : Hid (gd < B64 ^ 60) := by show gd < _; rw [ed]; exact gcdTo_bd (Bp.out.mono (by omega)) _ (Nat.le_refl _)
  have Ed := Lib.hid ed
  have Bk : Hid (BdV 10 nn (fun i => primeV f nn i * (gc : Int))) := Ba.out.congr fun i hi => (show f i = primeV f nn i * (gc : Int) from by rw [Int.mul_comm, eg]; exact (prime_back hi).symm)
  have Qk : Hid (∀ i, i < nn → primeV f nn i * (gc : Int) = f i) := fun i hi => by rw [Int.mul_comm, eg]; exact prime_back hi
  have Zf : Hid ((∀ k, k < nn → f k = 0) ↔ gc = 0) := by show _ ↔ gc = 0; rw [eg]; exact gcdTo_zero.symm
  have Zg : Hid (decide ((gc : Int) < 0) = false) := decide_eq_false (by omega)
  have E0 : Hid (gc ≠ 0) := by show gc ≠ 0; rw [eg]; exact hm0
  have E1 : Hid (gd = 1) := ed.trans (prime_one hm0)
  have ln : m1 ≤ 60 := by omega
  have Zn : Hid (Bd 10 zn) := Bd.of hn la
  have Bs : Hid (BdV 20 nn (fun i => f i * zn)) := fun i hi => (Ba.out i hi).mul Zn.out
  have Bq : Hid (BdV 20 nn (primeV (fun i => f i * zn) nn)) := prime_bd Bs.out
  have Bt : Hid (BdV 11 nn (fun i => primeV f nn i * sgn zn)) := fun i hi => (Bp.out i hi).mul (sgn_bd zn)
  have Qt : Hid (∀ i, i < nn → primeV (fun i => f i * zn) nn i = primeV f nn i * sgn zn) := fun i hi => by
    rw [show (fun i => f i * zn) = (fun i => zn * f i) from funext fun i => Int.mul_comm _ _, Int.mul_comm _ (sgn zn)]
    by_cases hz : zn = 0
    · subst hz
      rw [scale_zero hi]
      simp [sgn]
    · exact prime_scale hz hi
  clear eg ed ra la hm0
  obtain ⟨sg, esg⟩ : ∃ s : Int, s = sgn zn := ⟨_, rfl⟩
  have Lsg : Hid (Bd 60 sg) := by show Bd _ _; rw [esg]; exact ((sgn_bd zn).mono (by omega))
  have Esg := Lib.hid esg
  clear esg
  have KV0 := heldv_nil w
  have KN0 := heldn_nil w
  have KX0 := heldx_nil w
  have D0 := Below.refl w.heap.size w
  have KV1 := KV0.cons (ha.below D0)
  have KN1 := KN0
  have KX1 := KX0
  have D1 := D0
  have KV2 := KV1.next (bxb _ (zo (decide (zn < 0)) B1 m1 d1))
  have KN2 := (KN1.next (bxb _ (zo (decide (zn < 0)) B1 m1 d1))).cons ((hn.below D1).below (bxb _ (zo (decide (zn < 0)) B1 m1 d1))) ln
  have KX2 := (KX1.next (bxb _ (zo (decide (zn < 0)) B1 m1 d1))).cons (show BoxZ _ _ (decide (zn < 0)) B1 m1 d1 from World.alloc_heap_new _ _)
  have D2 := below_then D1 (bxb _ (zo (decide (zn < 0)) B1 m1 d1))
  try simp only [World.size_alloc] at KV2
  have HV0 := Lib.hid KV2
  try simp only [World.size_alloc] at KN2
  have HN0 := Lib.hid KN2
  try simp only [World.size_alloc] at KX2
  have HX0 := Lib.hid KX2
  have HB0 := Lib.hid D2
  clear KV2 KN2 KX2 D2 KV1 KN1 KX1 D1 KV0 KN0 KX0 D0
  clear ha hn
  go_enter Tryz.func5, Tryz.ntmps5
  go_wp2_with fail
  refine (valive_any _).mono ?_
  rintro e v1_ ⟨rfl, hb⟩
  have HV1 := Lib.hid (HV0.out.next hb)
  have HN1 := Lib.hid (HN0.out.next hb)
  have HX1 := Lib.hid (HX0.out.next hb)
  have HB1 := Lib.hid (below_then HB0.out hb)
  clear HV0 HN0 HX0 HB0
  clear hb
  have xn0 := (show BoxZ _ (w.heap.size) (decide (zn < 0)) B1 m1 d1 from HX1.out ⟨w.heap.size, (decide (zn < 0)), B1, m1, d1⟩ (.head _)).c0
  have xn1 := (show BoxZ _ (w.heap.size) (decide (zn < 0)) B1 m1 d1 from HX1.out ⟨w.heap.size, (decide (zn < 0)), B1, m1, d1⟩ (.head _)).c1
  go_wp2_with fail
  refine (Ga.out _ HB1.out).mono ?_
  rintro e v2_ ⟨rfl, hb⟩
  rw [Ka.out]
  have HV2 := Lib.hid (HV1.out.next hb)
  have HN2 := Lib.hid (HN1.out.next hb)
  have HX2 := Lib.hid (HX1.out.next hb)
  have HB2 := Lib.hid (below_then HB1.out hb)
  clear HV1 HN1 HX1 HB1
  clear hb
  clear xn0 xn1
  have xn0 := (show BoxZ _ (w.heap.size) (decide (zn < 0)) B1 m1 d1 from HX2.out ⟨w.heap.size, (decide (zn < 0)), B1, m1, d1⟩ (.head _)).c0
  have xn1 := (show BoxZ _ (w.heap.size) (decide (zn < 0)) B1 m1 d1 from HX2.out ⟨w.heap.size, (decide (zn < 0)), B1, m1, d1⟩ (.head _)).c1
  go_wp2_with fail
  refine (primeR (show V1 _ A1 nn c1 La from HV2.out ⟨A1, nn, c1, La⟩ (.head _)) Ia.out (by omega)).mono ?_
  rintro e v3_ ⟨A3_, c3_, L3_, rfl, o, hb⟩
  have Ip := Lib.hid o.v
  have HV3 := Lib.hid ((HV2.out.next hb).cons (o.v1 (Bp.out) (by omega) (by omega)))
  have HN3 := Lib.hid (HN2.out.next hb)
  have HX3 := Lib.hid (HX2.out.next hb)
  have HB3 := Lib.hid (below_then HB2.out hb)
  clear o hb HV2 HN2 HX2 HB2
  clear xn0 xn1
  go_wp2_with fail
  refine (Eg.out.symm ▸ contentR (show V1 _ A1 nn c1 La from HV3.out ⟨A1, nn, c1, La⟩ (.tail _ (.head _))) Ia.out (by omega)).mono ?_
  rintro e v4_ ⟨A4_, n4_, c4_, rfl, o, hb⟩
  have hl := o.nm.len Lgc.out
  have HV4 := Lib.hid (HV3.out.next hb)
  have HN4 := Lib.hid ((HN3.out.next hb).cons (nat_nm o.nm) (show n4_ ≤ 60 by omega))
  have HX4 := Lib.hid (HX3.out.next hb)
  have HB4 := Lib.hid (below_then HB3.out hb)
  have Zgc : Hid (n4_ = 0 ↔ gc = 0) := o.nm.zero
  have Rgc : Hid (A4_ = A4_) := rfl
  clear o hb hl HV3 HN3 HX3 HB3
  go_wp2_with fail
  refine (Ed.out.symm ▸ contentR (show V1 _ A3_ nn c3_ L3_ from HV4.out ⟨A3_, nn, c3_, L3_⟩ (.head _)) Ip.out (by omega)).mono ?_
  rintro e v5_ ⟨A5_, n5_, c5_, rfl, o, hb⟩
  have hl := o.nm.len Lgd.out
  have HV5 := Lib.hid (HV4.out.next hb)
  have HN5 := Lib.hid ((HN4.out.next hb).cons (nat_nm o.nm) (show n5_ ≤ 60 by omega))
  have HX5 := Lib.hid (HX4.out.next hb)
  have HB5 := Lib.hid (below_then HB4.out hb)
  have Zgd : Hid (n5_ = 0 ↔ gd = 0) := o.nm.zero
  have Rgd : Hid (A5_ = A5_) := rfl
  clear o hb hl HV4 HN4 HX4 HB4
  go_wp2_with fail
  have hsc := Lib.hid (scaleR (show V1 _ A3_ nn c3_ L3_ from HV5.out ⟨A3_, nn, c3_, L3_⟩ (.head _)) (show ZNm _ A4_ n4_ c4_ (gc : Int) from (HN5.out ⟨(gc : Int), A4_, n4_, c4_⟩ (.tail _ (.head _))).1) (show n4_ ≤ 60 from (HN5.out ⟨(gc : Int), A4_, n4_, c4_⟩ (.tail _ (.head _))).2) Ip.out (by omega))
  rw [Zg.out] at hsc
  refine (hsc.out).mono ?_
  rintro e v6_ ⟨A6_, c6_, L6_, rfl, o, hb⟩
  have Iback := Lib.hid o.v
  have HV6 := Lib.hid ((HV5.out.next hb).cons (o.v1 (Bk.out) (by omega) (by omega)))
  have HN6 := Lib.hid (HN5.out.next hb)
  have HX6 := Lib.hid (HX5.out.next hb)
  have HB6 := Lib.hid (below_then HB5.out hb)
  clear o hb HV5 HN5 HX5 HB5
  clear hsc
  go_wp2_with fail
  refine (zeroB (show V1 _ A1 nn c1 La from HV6.out ⟨A1, nn, c1, La⟩ (.tail _ (.tail _ (.head _)))) false ((isv_noughts Ia.out).trans (Zf.out.trans (by simp [E0.out])))).mono ?_
  rintro e v7_ ⟨rfl, hb⟩
  have HV7 := Lib.hid (HV6.out.next hb)
  have HN7 := Lib.hid (HN6.out.next hb)
  have HX7 := Lib.hid (HX6.out.next hb)
  have HB7 := Lib.hid (below_then HB6.out hb)
  clear HV6 HN6 HX6 HB6
  clear hb
  have y1 : ¬ n4_ = 0 := fun h => E0.out (Zgc.out.1 h)
  have y3 : ((n4_ : Int) == 0) = false := by simp; exact y1
  go_wp2_with fail
  refine (rsameT (show V1 _ A6_ nn c6_ L6_ from HV7.out ⟨A6_, nn, c6_, L6_⟩ (.head _)) (show V1 _ A1 nn c1 La from HV7.out ⟨A1, nn, c1, La⟩ (.tail _ (.tail _ (.head _)))) ((isv_keys Iback.out Ia.out).2 Qk.out)).mono ?_
  rintro e v8_ ⟨rfl, hb⟩
  have HV8 := Lib.hid (HV7.out.next hb)
  have HN8 := Lib.hid (HN7.out.next hb)
  have HX8 := Lib.hid (HX7.out.next hb)
  have HB8 := Lib.hid (below_then HB7.out hb)
  clear HV7 HN7 HX7 HB7
  clear hb
  go_wp2_with fail
  have hdn : Nm _ _ _ _ ((gd : Int)).natAbs := (show ZNm _ A5_ n5_ c5_ (gd : Int) from (HN8.out ⟨(gd : Int), A5_, n5_, c5_⟩ (.head _)).1)
  refine (same_eq _ _ _ _ _ _ _ _ _ (hdn.below (bxb _ _)) (nmK 1 (by omega) (by rw [B64_eq]; omega)) (Nat.le_trans (show n5_ ≤ 60 from (HN8.out ⟨(gd : Int), A5_, n5_, c5_⟩ (.head _)).2) (by omega)) (by omega) (by rw [E1.out]; rfl)).mono ?_
  rintro e v9_ ⟨rfl, hb⟩
  have HV9 := Lib.hid (HV8.out.next (below_then (bxb _ _) hb))
  have HN9 := Lib.hid (HN8.out.next (below_then (bxb _ _) hb))
  have HX9 := Lib.hid (HX8.out.next (below_then (bxb _ _) hb))
  have HB9 := Lib.hid (below_then HB8.out (below_then (bxb _ _) hb))
  clear HV8 HN8 HX8 HB8
  clear hb
  clear hdn
  have xn0 := (show BoxZ _ (w.heap.size) (decide (zn < 0)) B1 m1 d1 from HX9.out ⟨w.heap.size, (decide (zn < 0)), B1, m1, d1⟩ (.head _)).c0
  have xn1 := (show BoxZ _ (w.heap.size) (decide (zn < 0)) B1 m1 d1 from HX9.out ⟨w.heap.size, (decide (zn < 0)), B1, m1, d1⟩ (.head _)).c1
  go_wp2_with fail
  refine (scaleR (show V1 _ A1 nn c1 La from HV9.out ⟨A1, nn, c1, La⟩ (.tail _ (.tail _ (.head _)))) (show ZNm _ B1 m1 d1 zn from (HN9.out ⟨zn, B1, m1, d1⟩ (.tail _ (.tail _ (.head _)))).1) (show m1 ≤ 60 from (HN9.out ⟨zn, B1, m1, d1⟩ (.tail _ (.tail _ (.head _)))).2) Ia.out (by omega)).mono ?_
  rintro e v10_ ⟨A10_, c10_, L10_, rfl, o, hb⟩
  have Is := Lib.hid o.v
  have HV10 := Lib.hid ((HV9.out.next hb).cons (o.v1 (Bs.out) (by omega) (by omega)))
  have HN10 := Lib.hid (HN9.out.next hb)
  have HX10 := Lib.hid (HX9.out.next hb)
  have HB10 := Lib.hid (below_then HB9.out hb)
  clear o hb HV9 HN9 HX9 HB9
  clear xn0 xn1
  go_wp2_with fail
  refine (primeR (show V1 _ A10_ nn c10_ L10_ from HV10.out ⟨A10_, nn, c10_, L10_⟩ (.head _)) Is.out (by omega)).mono ?_
  rintro e v11_ ⟨A11_, c11_, L11_, rfl, o, hb⟩
  have Iq := Lib.hid o.v
  have HV11 := Lib.hid ((HV10.out.next hb).cons (o.v1 (Bq.out) (by omega) (by omega)))
  have HN11 := Lib.hid (HN10.out.next hb)
  have HX11 := Lib.hid (HX10.out.next hb)
  have HB11 := Lib.hid (below_then HB10.out hb)
  clear o hb HV10 HN10 HX10 HB10
  have xn0 := (show BoxZ _ (w.heap.size) (decide (zn < 0)) B1 m1 d1 from HX11.out ⟨w.heap.size, (decide (zn < 0)), B1, m1, d1⟩ (.head _)).c0
  have xn1 := (show BoxZ _ (w.heap.size) (decide (zn < 0)) B1 m1 d1 from HX11.out ⟨w.heap.size, (decide (zn < 0)), B1, m1, d1⟩ (.head _)).c1
  go_wp2_with fail
  refine (Esg.out ▸ signN (show ZNm _ B1 m1 d1 zn from (HN11.out ⟨zn, B1, m1, d1⟩ (.tail _ (.tail _ (.head _)))).1) (Nat.le_trans (show m1 ≤ 60 from (HN11.out ⟨zn, B1, m1, d1⟩ (.tail _ (.tail _ (.head _)))).2) (by omega))).mono ?_
  rintro e v12_ ⟨rfl, hb⟩
  have HV12 := Lib.hid (HV11.out.next hb)
  have HN12 := Lib.hid (HN11.out.next hb)
  have HX12 := Lib.hid (HX11.out.next hb)
  have HB12 := Lib.hid (below_then HB11.out hb)
  clear HV11 HN11 HX11 HB11
  clear hb
  clear xn0 xn1
  go_wp2_with fail
  refine (wOf_any sg (by have := sgn_one zn; rw [← Esg.out] at this; omega) (by have := sgn_one zn; rw [← Esg.out] at this; omega)).mono ?_
  rintro e v13_ ⟨A13_, n13_, c13_, rfl, o, hb⟩
  have hl := Lsg.out.len o
  have HV13 := Lib.hid (HV12.out.next hb)
  have HN13 := Lib.hid ((HN12.out.next hb).cons (o.nm) (show n13_ ≤ 60 by omega))
  have HX13 := Lib.hid (HX12.out.next hb)
  have HB13 := Lib.hid (below_then HB12.out hb)
  clear o hb hl HV12 HN12 HX12 HB12
  try unfold zV
  try unfold zv
  go_wp2_with fail
  refine (scaleR (show V1 _ A3_ nn c3_ L3_ from HV13.out ⟨A3_, nn, c3_, L3_⟩ (.tail _ (.tail _ (.tail _ (.head _))))) (show ZNm _ A13_ n13_ c13_ sg from (HN13.out ⟨sg, A13_, n13_, c13_⟩ (.head _)).1) (show n13_ ≤ 60 from (HN13.out ⟨sg, A13_, n13_, c13_⟩ (.head _)).2) Ip.out (by omega)).mono ?_
  rintro e v14_ ⟨A14_, c14_, L14_, rfl, o, hb⟩
  have It := Lib.hid o.v
  have HV14 := Lib.hid ((HV13.out.next hb).cons (o.v1 ((show BdV 11 nn (fun i => primeV f nn i * sg) from by rw [Esg.out]; exact Bt.out)) (by omega) (by omega)))
  have HN14 := Lib.hid (HN13.out.next hb)
  have HX14 := Lib.hid (HX13.out.next hb)
  have HB14 := Lib.hid (below_then HB13.out hb)
  clear o hb HV13 HN13 HX13 HB13
  go_wp2_with fail
  refine (rsameT (show V1 _ A11_ nn c11_ L11_ from HV14.out ⟨A11_, nn, c11_, L11_⟩ (.tail _ (.head _))) (show V1 _ A14_ nn c14_ L14_ from HV14.out ⟨A14_, nn, c14_, L14_⟩ (.head _)) ((isv_keys Iq.out It.out).2 (by rw [Esg.out]; exact Qt.out))).mono ?_
  rintro e v15_ ⟨rfl, hb⟩
  have HV15 := Lib.hid (HV14.out.next hb)
  have HN15 := Lib.hid (HN14.out.next hb)
  have HX15 := Lib.hid (HX14.out.next hb)
  have HB15 := Lib.hid (below_then HB14.out hb)
  clear HV14 HN14 HX14 HB14
  clear hb
  go_wp2
  go_ret
  exact ⟨rfl, HB15.out⟩
set_option maxRecDepth 100000 in
set_option maxHeartbeats 4000000 in
theorem vprime_bad2 (A1 B1 : Option Addr) (nn c1 m1 d1 : Nat) (La : List ZE) (f : Nat → Int) (p : Bool) (b : List Nat) (w : World) (ra : RV w A1 nn c1 La) (ha : V1 w A1 nn c1 La) (la : m1 ≤ 10) (h20 : nn ≤ 20) (Ka : Hid (greatV La 20 10 = false)) (Ia : Hid (IsV La nn f)) (Ba : Hid (BdV 10 nn f)) (zb : Z1 w B1 m1 d1 b) (hp : mayZ p b = false) (hm0 : gcdTo f nn ≠ 0) : Calls Tryz.prog 5 #[.slice A1 nn c1, .agg #[.bool p, .slice B1 m1 d1]] w fun e w' => e = .returned (.bool true) ∧ Below w.heap.size w w' := by
  have Ga := Lib.hid (fun W (hW : Below w.heap.size w W) => (ra.below hW).great20)
  have g1 : ¬ (10 : Int) < (m1 : Int) := by omega
  have Bp : Hid (BdV 10 nn (primeV f nn)) := prime_bd Ba.out
  obtain ⟨gc, eg⟩ : ∃ g, g = gcdTo f nn := ⟨_, rfl⟩
  have Lgc : Hid (gc < B64 ^ 60) := by show gc < _; rw [eg]; exact gcdTo_bd (Ba.out.mono (by omega)) _ (Nat.le_refl _)
  have Eg := Lib.hid eg
  obtain ⟨gd, ed⟩ : ∃ g, g = gcdTo (primeV f nn) nn := ⟨_, rfl⟩
  have Lgd : Hid (gd < B64 ^ 60) := by show gd < _; rw [ed]; exact gcdTo_bd (Bp.out.mono (by omega)) _ (Nat.le_refl _)
  have Ed := Lib.hid ed
  have Bk : Hid (BdV 10 nn (fun i => primeV f nn i * (gc : Int))) := Ba.out.congr fun i hi => (show f i = primeV f nn i * (gc : Int) from by rw [Int.mul_comm, eg]; exact (prime_back hi).symm)
  have Qk : Hid (∀ i, i < nn → primeV f nn i * (gc : Int) = f i) := fun i hi => by rw [Int.mul_comm, eg]; exact prime_back hi
  have Zf : Hid ((∀ k, k < nn → f k = 0) ↔ gc = 0) := by show _ ↔ gc = 0; rw [eg]; exact gcdTo_zero.symm
  have Zg : Hid (decide ((gc : Int) < 0) = false) := decide_eq_false (by omega)
  have E0 : Hid (gc ≠ 0) := by show gc ≠ 0; rw [eg]; exact hm0
  have E1 : Hid (gd = 1) := ed.trans (prime_one hm0)
  have NS := Lib.hid (fun W (hW : Below w.heap.size w W) => scaleV_is A1 B1 nn c1 m1 d1 p b La W (ha.below hW) ⟨zb.ra.below hW, zb.la, zb.ca1, zb.ca2⟩ (by omega))
  rw [hp, Bool.and_false] at NS
  unfold VAns zv at NS
  simp only [Bool.false_eq_true, if_false] at NS
  clear eg ed ra la hm0 zb hp
  have KV0 := heldv_nil w
  have KN0 := heldn_nil w
  have KX0 := heldx_nil w
  have D0 := Below.refl w.heap.size w
  have KV1 := KV0.cons (ha.below D0)
  have KN1 := KN0
  have KX1 := KX0
  have D1 := D0
  have KV2 := KV1.next (bxb _ (zo p B1 m1 d1))
  have KN2 := KN1.next (bxb _ (zo p B1 m1 d1))
  have KX2 := (KX1.next (bxb _ (zo p B1 m1 d1))).cons (show BoxZ _ _ p B1 m1 d1 from World.alloc_heap_new _ _)
  have D2 := below_then D1 (bxb _ (zo p B1 m1 d1))
  try simp only [World.size_alloc] at KV2
  have HV0 := Lib.hid KV2
  try simp only [World.size_alloc] at KN2
  have HN0 := Lib.hid KN2
  try simp only [World.size_alloc] at KX2
  have HX0 := Lib.hid KX2
  have HB0 := Lib.hid D2
  clear KV2 KN2 KX2 D2 KV1 KN1 KX1 D1 KV0 KN0 KX0 D0
  clear ha
  go_enter Tryz.func5, Tryz.ntmps5
  go_wp2_with fail
  refine (valive_any _).mono ?_
  rintro e v1_ ⟨rfl, hb⟩
  have HV1 := Lib.hid (HV0.out.next hb)
  have HN1 := Lib.hid (HN0.out.next hb)
  have HX1 := Lib.hid (HX0.out.next hb)
  have HB1 := Lib.hid (below_then HB0.out hb)
  clear HV0 HN0 HX0 HB0
  clear hb
  have xn0 := (show BoxZ _ (w.heap.size) p B1 m1 d1 from HX1.out ⟨w.heap.size, p, B1, m1, d1⟩ (.head _)).c0
  have xn1 := (show BoxZ _ (w.heap.size) p B1 m1 d1 from HX1.out ⟨w.heap.size, p, B1, m1, d1⟩ (.head _)).c1
  go_wp2_with fail
  refine (Ga.out _ HB1.out).mono ?_
  rintro e v2_ ⟨rfl, hb⟩
  rw [Ka.out]
  have HV2 := Lib.hid (HV1.out.next hb)
  have HN2 := Lib.hid (HN1.out.next hb)
  have HX2 := Lib.hid (HX1.out.next hb)
  have HB2 := Lib.hid (below_then HB1.out hb)
  clear HV1 HN1 HX1 HB1
  clear hb
  clear xn0 xn1
  have xn0 := (show BoxZ _ (w.heap.size) p B1 m1 d1 from HX2.out ⟨w.heap.size, p, B1, m1, d1⟩ (.head _)).c0
  have xn1 := (show BoxZ _ (w.heap.size) p B1 m1 d1 from HX2.out ⟨w.heap.size, p, B1, m1, d1⟩ (.head _)).c1
  go_wp2_with fail
  refine (primeR (show V1 _ A1 nn c1 La from HV2.out ⟨A1, nn, c1, La⟩ (.head _)) Ia.out (by omega)).mono ?_
  rintro e v3_ ⟨A3_, c3_, L3_, rfl, o, hb⟩
  have Ip := Lib.hid o.v
  have HV3 := Lib.hid ((HV2.out.next hb).cons (o.v1 (Bp.out) (by omega) (by omega)))
  have HN3 := Lib.hid (HN2.out.next hb)
  have HX3 := Lib.hid (HX2.out.next hb)
  have HB3 := Lib.hid (below_then HB2.out hb)
  clear o hb HV2 HN2 HX2 HB2
  clear xn0 xn1
  go_wp2_with fail
  refine (Eg.out.symm ▸ contentR (show V1 _ A1 nn c1 La from HV3.out ⟨A1, nn, c1, La⟩ (.tail _ (.head _))) Ia.out (by omega)).mono ?_
  rintro e v4_ ⟨A4_, n4_, c4_, rfl, o, hb⟩
  have hl := o.nm.len Lgc.out
  have HV4 := Lib.hid (HV3.out.next hb)
  have HN4 := Lib.hid ((HN3.out.next hb).cons (nat_nm o.nm) (show n4_ ≤ 60 by omega))
  have HX4 := Lib.hid (HX3.out.next hb)
  have HB4 := Lib.hid (below_then HB3.out hb)
  have Zgc : Hid (n4_ = 0 ↔ gc = 0) := o.nm.zero
  have Rgc : Hid (A4_ = A4_) := rfl
  clear o hb hl HV3 HN3 HX3 HB3
  go_wp2_with fail
  refine (Ed.out.symm ▸ contentR (show V1 _ A3_ nn c3_ L3_ from HV4.out ⟨A3_, nn, c3_, L3_⟩ (.head _)) Ip.out (by omega)).mono ?_
  rintro e v5_ ⟨A5_, n5_, c5_, rfl, o, hb⟩
  have hl := o.nm.len Lgd.out
  have HV5 := Lib.hid (HV4.out.next hb)
  have HN5 := Lib.hid ((HN4.out.next hb).cons (nat_nm o.nm) (show n5_ ≤ 60 by omega))
  have HX5 := Lib.hid (HX4.out.next hb)
  have HB5 := Lib.hid (below_then HB4.out hb)
  have Zgd : Hid (n5_ = 0 ↔ gd = 0) := o.nm.zero
  have Rgd : Hid (A5_ = A5_) := rfl
  clear o hb hl HV4 HN4 HX4 HB4
  go_wp2_with fail
  have hsc := Lib.hid (scaleR (show V1 _ A3_ nn c3_ L3_ from HV5.out ⟨A3_, nn, c3_, L3_⟩ (.head _)) (show ZNm _ A4_ n4_ c4_ (gc : Int) from (HN5.out ⟨(gc : Int), A4_, n4_, c4_⟩ (.tail _ (.head _))).1) (show n4_ ≤ 60 from (HN5.out ⟨(gc : Int), A4_, n4_, c4_⟩ (.tail _ (.head _))).2) Ip.out (by omega))
  rw [Zg.out] at hsc
  refine (hsc.out).mono ?_
  rintro e v6_ ⟨A6_, c6_, L6_, rfl, o, hb⟩
  have Iback := Lib.hid o.v
  have HV6 := Lib.hid ((HV5.out.next hb).cons (o.v1 (Bk.out) (by omega) (by omega)))
  have HN6 := Lib.hid (HN5.out.next hb)
  have HX6 := Lib.hid (HX5.out.next hb)
  have HB6 := Lib.hid (below_then HB5.out hb)
  clear o hb HV5 HN5 HX5 HB5
  clear hsc
  go_wp2_with fail
  refine (zeroB (show V1 _ A1 nn c1 La from HV6.out ⟨A1, nn, c1, La⟩ (.tail _ (.tail _ (.head _)))) false ((isv_noughts Ia.out).trans (Zf.out.trans (by simp [E0.out])))).mono ?_
  rintro e v7_ ⟨rfl, hb⟩
  have HV7 := Lib.hid (HV6.out.next hb)
  have HN7 := Lib.hid (HN6.out.next hb)
  have HX7 := Lib.hid (HX6.out.next hb)
  have HB7 := Lib.hid (below_then HB6.out hb)
  clear HV6 HN6 HX6 HB6
  clear hb
  have y1 : ¬ n4_ = 0 := fun h => E0.out (Zgc.out.1 h)
  have y3 : ((n4_ : Int) == 0) = false := by simp; exact y1
  go_wp2_with fail
  refine (rsameT (show V1 _ A6_ nn c6_ L6_ from HV7.out ⟨A6_, nn, c6_, L6_⟩ (.head _)) (show V1 _ A1 nn c1 La from HV7.out ⟨A1, nn, c1, La⟩ (.tail _ (.tail _ (.head _)))) ((isv_keys Iback.out Ia.out).2 Qk.out)).mono ?_
  rintro e v8_ ⟨rfl, hb⟩
  have HV8 := Lib.hid (HV7.out.next hb)
  have HN8 := Lib.hid (HN7.out.next hb)
  have HX8 := Lib.hid (HX7.out.next hb)
  have HB8 := Lib.hid (below_then HB7.out hb)
  clear HV7 HN7 HX7 HB7
  clear hb
  go_wp2_with fail
  have hdn : Nm _ _ _ _ ((gd : Int)).natAbs := (show ZNm _ A5_ n5_ c5_ (gd : Int) from (HN8.out ⟨(gd : Int), A5_, n5_, c5_⟩ (.head _)).1)
  refine (same_eq _ _ _ _ _ _ _ _ _ (hdn.below (bxb _ _)) (nmK 1 (by omega) (by rw [B64_eq]; omega)) (Nat.le_trans (show n5_ ≤ 60 from (HN8.out ⟨(gd : Int), A5_, n5_, c5_⟩ (.head _)).2) (by omega)) (by omega) (by rw [E1.out]; rfl)).mono ?_
  rintro e v9_ ⟨rfl, hb⟩
  have HV9 := Lib.hid (HV8.out.next (below_then (bxb _ _) hb))
  have HN9 := Lib.hid (HN8.out.next (below_then (bxb _ _) hb))
  have HX9 := Lib.hid (HX8.out.next (below_then (bxb _ _) hb))
  have HB9 := Lib.hid (below_then HB8.out (below_then (bxb _ _) hb))
  clear HV8 HN8 HX8 HB8
  clear hb
  clear hdn
  have xn0 := (show BoxZ _ (w.heap.size) p B1 m1 d1 from HX9.out ⟨w.heap.size, p, B1, m1, d1⟩ (.head _)).c0
  have xn1 := (show BoxZ _ (w.heap.size) p B1 m1 d1 from HX9.out ⟨w.heap.size, p, B1, m1, d1⟩ (.head _)).c1
  go_wp2_with fail
  refine (NS.out _ HB9.out).mono ?_
  rintro e v10_ ⟨rfl, hb⟩
  have HV10 := Lib.hid (HV9.out.next hb)
  have HN10 := Lib.hid (HN9.out.next hb)
  have HX10 := Lib.hid (HX9.out.next hb)
  have HB10 := Lib.hid (below_then HB9.out hb)
  clear HV9 HN9 HX9 HB9
  clear hb
  go_wp2
  go_ret
  exact ⟨rfl, HB10.out⟩
set_option maxRecDepth 100000 in
set_option maxHeartbeats 4000000 in
theorem vprime_any (A1 B1 : Option Addr) (n1 c1 m1 d1 : Nat) (La : List ZE) (p : Bool) (w : World) (b : List Nat) (ra : RV w A1 n1 c1 La) (zb : Rd w B1 m1 b) (cb : m1 ≤ d1 ∧ d1 ≤ 9223372036854775807) : Calls Tryz.prog 5 #[.slice A1 n1 c1, .agg #[.bool p, .slice B1 m1 d1]] w fun e w' => e = .returned (.bool true) ∧ Below w.heap.size w w' := by
  by_cases hl : greatV La 20 10 = false ∧ m1 ≤ 10
  · obtain ⟨ka, km⟩ := hl
    have va := ra.v1 ka (by omega) (by omega)
    have g1 := great_no ka
    cases hm : mayR La with
    | false => exact vprime_bad A1 B1 n1 c1 m1 d1 La p w ra va km ka hm
    | true =>
      have z1 : Z1 w B1 m1 d1 b := ⟨zb, by omega, cb.1, cb.2⟩
      have h20 : n1 ≤ 20 := by rw [← va.rd.len]; exact g1.1
      by_cases h0 : gcdTo (zat La) n1 = 0
      · exact vprime_zero A1 B1 n1 c1 m1 d1 La (zat La) p w ra va km h20 ka (va.isv hm) (va.bdk hm g1.2) h0
      · cases hp : mayZ p b with
        | false => exact vprime_bad2 A1 B1 n1 c1 m1 d1 La (zat La) p b w ra va km h20 ka (va.isv hm) (va.bdk hm g1.2) z1 hp h0
        | true =>
          have w1 := z1_num z1 hp
          rw [w1.2]
          exact vprime_pos A1 B1 n1 c1 m1 d1 La (zof p b) (zat La) w ra va km h20 ka (va.isv hm) (va.bdk hm g1.2) w1.1 h0
  · exact vprime_long A1 B1 n1 c1 m1 d1 La p w ra (by omega) hl
section
end
end Go.Proofs.YtgiokmfdafmaoaaGreat
