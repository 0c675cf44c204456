import Derived.Test.YtgiokmfdafmaoaaGreatJVPl
import Derived.Test.YtgiokmfdafmaoaaGreatJZHeld
import Derived.Test.YtgiokmfdafmaoaaGreatJVCk
import Derived.Test.YtgiokmfdafmaoaaGreatJVPrime
import Derived.Test.YtgiokmfdafmaoaaGreatJDCode
/- VOne VClo. -/
/- vec: sum, times, part. -/
namespace Go.Proofs.YtgiokmfdafmaoaaGreat
open Go.RowKit Go.Shelf
set_option linter.unusedVariables false
set_option linter.unusedSimpArgs false

section
variable {A A2 : Option Addr} {na ca nb cb : Nat} {w : World} {z y : Int}
set_option maxRecDepth 100000 in
set_option maxHeartbeats 4000000 in
theorem timesV_any (ha : ZNm w A na ca z) (hb : ZNm w A2 nb cb y) (l1 : na ≤ 400) (l2 : nb ≤ 400) : Calls Tryz.prog 47 #[zV z A na ca, zV y A2 nb cb] w (ZOne w (z * y)) := by
  have HN := Lib.hid (fun W (hW : Below w.heap.size w W) => mulN (w := W) (ha.below hW) (hb.below hW) l1 l2)
  have T0 := tri_box w (decide (z < 0)) A na ca (decide (y < 0)) A2 nb cb
  clear ha hb l1 l2
  generalize z * y = t at HN ⊢
  unfold zV zv ZOne at *
  have xa0 := T0.t.x.c0
  have xa1 := T0.t.x.c1
  have xb0 := T0.t.y.c0
  have xb1 := T0.t.y.c1
  have r0 := T0.r.c0
  have r1 := T0.r.c1
  have f0 := T0.r.f 0
  have f1 := T0.r.f 1
  go_enter Tryz.func47, Tryz.ntmps47
  go_wp2_with fail
  refine (HN.out _ T0.t.b).mono ?_
  rintro e w1 ⟨A3, k3, c3, rfl, o3, hb⟩
  have T1 := T0.next (below_then hb (bxb _ (zo (decide (t < 0)) A3 k3 c3)))
  have hG := Lib.hid (Array.getElem?_eq_some_iff.1 T0.r).1
  have hP : BoxZ (w1.alloc (zo (decide (t < 0)) A3 k3 c3)) w1.heap.size (decide (t < 0)) A3 k3 c3 := World.alloc_heap_new _ _
  have o4 := o3.below (bxb _ (zo (decide (t < 0)) A3 k3 c3))
  clear hb T0 o3
  clear xa0 xa1 xb0 xb1 r0 r1 f0 f1
  have r0 := T1.r.c0
  have r1 := T1.r.c1
  have f0 := T1.r.f 0
  have f1 := T1.r.f 1
  have p0 := hP.c0
  have p1 := hP.c1
  have hg1 := (Array.getElem?_eq_some_iff.1 T1.r).1
  unfold zV zv
  go_wp2
  refine bodyPost_ret (v := zV t A3 k3 c3) (by simp [results, Tryz.results47, go_sem, r0, r1, zV, zv]) rfl ?_
  exact ⟨A3, k3, c3, rfl, own_box hG.out (show w.heap.size ≤ w.heap.size + 1 + 1 by omega) o4 _ _, box_below (show w.heap.size ≤ w.heap.size + 1 + 1 by omega) T1.t.b _ _⟩
set_option maxRecDepth 100000 in
set_option maxHeartbeats 4000000 in
theorem sumV_any (ha : ZNm w A na ca z) (hb : ZNm w A2 nb cb y) (l1 : na ≤ 400) (l2 : nb ≤ 400) : Calls Tryz.prog 44 #[zV z A na ca, zV y A2 nb cb] w (ZOne w (z + y)) := by
  have HN := Lib.hid (fun W (hW : Below w.heap.size w W) => addN (w := W) (ha.below hW) (hb.below hW) l1 l2)
  have T0 := tri_box w (decide (z < 0)) A na ca (decide (y < 0)) A2 nb cb
  clear ha hb l1 l2
  generalize z + y = t at HN ⊢
  unfold zV zv ZOne at *
  have xa0 := T0.t.x.c0
  have xa1 := T0.t.x.c1
  have xb0 := T0.t.y.c0
  have xb1 := T0.t.y.c1
  have r0 := T0.r.c0
  have r1 := T0.r.c1
  have f0 := T0.r.f 0
  have f1 := T0.r.f 1
  go_enter Tryz.func44, Tryz.ntmps44
  go_wp2_with fail
  refine (HN.out _ T0.t.b).mono ?_
  rintro e w1 ⟨A3, k3, c3, rfl, o3, hb⟩
  have T1 := T0.next (below_then hb (bxb _ (zo (decide (t < 0)) A3 k3 c3)))
  have hG := Lib.hid (Array.getElem?_eq_some_iff.1 T0.r).1
  have hP : BoxZ (w1.alloc (zo (decide (t < 0)) A3 k3 c3)) w1.heap.size (decide (t < 0)) A3 k3 c3 := World.alloc_heap_new _ _
  have o4 := o3.below (bxb _ (zo (decide (t < 0)) A3 k3 c3))
  clear hb T0 o3
  clear xa0 xa1 xb0 xb1 r0 r1 f0 f1
  have r0 := T1.r.c0
  have r1 := T1.r.c1
  have f0 := T1.r.f 0
  have f1 := T1.r.f 1
  have p0 := hP.c0
  have p1 := hP.c1
  have hg1 := (Array.getElem?_eq_some_iff.1 T1.r).1
  unfold zV zv
  go_wp2
  refine bodyPost_ret (v := zV t A3 k3 c3) (by simp [results, Tryz.results44, go_sem, r0, r1, zV, zv]) rfl ?_
  exact ⟨A3, k3, c3, rfl, own_box hG.out (show w.heap.size ≤ w.heap.size + 1 + 1 by omega) o4 _ _, box_below (show w.heap.size ≤ w.heap.size + 1 + 1 by omega) T1.t.b _ _⟩
theorem nat_nm {C : Option Addr} {m d : Nat} {g : Nat} (h : Nm w C m d g) : ZNm w C m d (g : Int) := by
  have e : ((g : Int)).natAbs = g := Int.natAbs_natCast g
  unfold ZNm
  rw [e]
  exact h
set_option maxRecDepth 100000 in
set_option maxHeartbeats 4000000 in
theorem partV_any {C : Option Addr} {m d g : Nat} (ha : ZNm w A na ca z) (hc : ZNm w C m d (g : Int)) (l1 : na ≤ 400) (l2 : m ≤ 400) (h0 : g ≠ 0) (hd : (g : Int) ∣ z) : Calls Tryz.prog 39 #[zV z A na ca, .slice C m d] w (ZOne w (Int.fdiv z (g : Int))) := by
  have HN : Hid (∀ W, Below w.heap.size w W → Calls Tryz.prog 67 #[.agg #[.bool (decide (z < 0)), .slice A na ca], .agg #[.bool false, .slice C m d]] W (ZAns W (Int.fdiv z (g : Int)) 0)) := fun W hW => by
    have h := exactN (w := W) (ha.below hW) (hc.below hW) l1 l2 (by omega)
    rw [if_pos hd, if_pos hd, show decide ((g : Int) < 0) = false from decide_eq_false (by omega)] at h
    exact h
  have T0 := duo_box w (decide (z < 0)) A na ca
  clear ha hc l1 l2 hd h0
  generalize Int.fdiv z (g : Int) = t at HN ⊢
  unfold zV zv ZOne ZAns at *
  have xa0 := T0.x.c0
  have xa1 := T0.x.c1
  have r0 := T0.r.c0
  have r1 := T0.r.c1
  have f0 := T0.r.f 0
  have f1 := T0.r.f 1
  go_enter Tryz.func39, Tryz.ntmps39
  go_wp2_with fail
  refine (HN.out _ T0.b).mono ?_
  rintro e w1 ⟨A3, k3, c3, rfl, o3, hb⟩
  have T1 := T0.next (below_then hb (bxb _ (zo (decide (t < 0)) A3 k3 c3)))
  have hG := Lib.hid (Array.getElem?_eq_some_iff.1 T0.r).1
  have hP : BoxZ (w1.alloc (zo (decide (t < 0)) A3 k3 c3)) w1.heap.size (decide (t < 0)) A3 k3 c3 := World.alloc_heap_new _ _
  have o4 := o3.below (bxb _ (zo (decide (t < 0)) A3 k3 c3))
  clear hb T0 o3
  clear xa0 xa1 r0 r1 f0 f1
  have r0 := T1.r.c0
  have r1 := T1.r.c1
  have f0 := T1.r.f 0
  have f1 := T1.r.f 1
  have p0 := hP.c0
  have p1 := hP.c1
  have hg1 := (Array.getElem?_eq_some_iff.1 T1.r).1
  unfold zV zv
  go_wp2
  refine bodyPost_ret (v := zV t A3 k3 c3) (by simp [results, Tryz.results39, go_sem, r0, r1, zV, zv]) rfl ?_
  exact ⟨A3, k3, c3, rfl, own_box hG.out (show w.heap.size ≤ w.heap.size + 1 by omega) o4 _ _, box_below (show w.heap.size ≤ w.heap.size + 1 by omega) T1.b _ _⟩
end
end Go.Proofs.YtgiokmfdafmaoaaGreat

/- vec: what makes a place. -/
namespace Go.Proofs.YtgiokmfdafmaoaaGreat
open Go.RowKit Go.Shelf
set_option linter.unusedVariables false
set_option linter.unusedSimpArgs false

/-- Sign and limbs of f's values. -/
def numK (f : Nat → Int) (i : Nat) : Bool × List Nat := (decide (f i < 0), limbs (f i).natAbs)
theorem numK_at {f : Nat → Int} {k : Nat} {z : Int} (h : f k = z) : numK f k = (decide (z < 0), limbs z.natAbs) := by subst h; rfl
theorem isv_key {L : List ZE} {n : Nat} {f : Nat → Int} (hl : L.length = n) (h : ∀ i x, L[i]? = some x → x.key = numK f i) : IsV L n f := by
  refine ⟨hl, fun i e he => ?_⟩
  have h1 := h i e he
  unfold ZE.key numK at h1
  rw [Prod.mk.injEq] at h1
  exact h1
abbrev bv (A : Option Addr) (n c : Nat) : Obj := .cells #[.slice A n c] vT
/-- A row in a block of its own, for closures. -/
def BoxV (w : World) (g : Nat) (A : Option Addr) (n c : Nat) : Prop := w.heap[g]? = some (bv A n c)
section
variable {A A2 B B2 : Option Addr} {n c m d nb cb na ca g1 g2 g3 g4 k : Nat} {L M : List ZE} {w W : World} {z y : Int}
theorem BoxV.lt (h : BoxV w g1 A n c) : g1 < w.heap.size := (Array.getElem?_eq_some_iff.1 h).1
theorem BoxV.next (h : BoxV w g1 A n c) (hb : Below w.heap.size w W) : BoxV W g1 A n c := (hb.block g1 h.lt).trans h
theorem BoxV.c0 (h : BoxV w g1 A n c) : w.cell? ⟨g1, 0, none⟩ = some (.slice A n c) := cells_cell h rfl
theorem BoxV.f (h : BoxV w g1 A n c) (j : Nat) : w.frozen? ⟨g1, j, none⟩ = false := cells_frozen h
/-- The k-th number of a row that may be. -/
theorem V1.num (h : V1 w A n c L) (hm : mayR L = true) (hk : k < n) : ∃ b o B m d, A = some ⟨b, o, none⟩ ∧ b < w.heap.size ∧ w.cell? ⟨b, o + k * 2, none⟩ = some (.bool (decide (zat L k < 0))) ∧ w.cell? ⟨b, o + k * 2 + 1, none⟩ = some (.slice B m d) ∧ ZNm w B m d (zat L k) ∧ m ≤ 60 := by
  obtain ⟨e, he, hok⟩ := h.rd.elem hk
  obtain ⟨b, o, hA, hlt, h0, h1⟩ := h.rd.cell he
  have hi := (h.isv hm).num k e he
  rw [hi.1] at h0
  refine ⟨b, o, e.A, e.n, e.c, hA, hlt, h0, h1, ?_, h.small e (List.mem_of_getElem? he)⟩
  have hr := hok.r
  rw [hi.2] at hr
  exact ⟨hr, hok.c1, hok.c2⟩
theorem V1.numH (h : V1 w A n c L) (hm : mayR L = true) (hk : k < n) : ∃ (s : Int), Hid (zat L k = s) ∧ ∃ b o B m d, A = some ⟨b, o, none⟩ ∧ b < w.heap.size ∧ w.cell? ⟨b, o + k * 2, none⟩ = some (.bool (decide (s < 0))) ∧ w.cell? ⟨b, o + k * 2 + 1, none⟩ = some (.slice B m d) ∧ ZNm w B m d s ∧ m ≤ 60 :=
  ⟨zat L k, Lib.hid rfl, h.num hm hk⟩
theorem V1.bd {w : World} {A : Option Addr} {n c : Nat} {L : List ZE} (h : V1 w A n c L) (hm : mayR L = true) : BdV 60 n (zat L) := fun i hi => by
  obtain ⟨_, _, B, m, d, _, _, _, _, hz, hl⟩ := h.num hm hi
  exact Bd.of hz hl
theorem two_may (h : twoVE L M = 0) : mayR L = true ∧ mayR M = true ∧ L.length = M.length := by
  unfold twoVE at h
  cases h1 : mayR L <;> cases h2 : mayR M <;> rw [h1, h2] at h <;> simp at h
  refine ⟨rfl, rfl, ?_⟩
  by_cases e : L.length = M.length
  · exact e
  · exact absurd h e
set_option maxRecDepth 100000 in
set_option maxHeartbeats 4000000 in
theorem dotClo_any (hx : BoxV w g1 A n c) (hy : BoxV w g2 A2 m d) (h : V1 w A n c L) (h2 : V1 w A2 m d M) (he : twoVE L M = 0) (hk : k < n) : Calls Tryz.prog 46 #[.int .i64 (k : Int), .pointer (some ⟨g1, 0, none⟩), .pointer (some ⟨g2, 0, none⟩)] w (KAns w (numK (fun i => zat L i * zat M i) k).1 (numK (fun i => zat L i * zat M i) k).2) := by
  obtain ⟨hm1, hm2, hl⟩ := two_may he
  have hk2 : k < m := by rw [← h2.rd.len, ← hl, h.rd.len]; exact hk
  obtain ⟨s, hs, b, o, B, nb, cb, rfl, hb, x0, x1, zn, lb⟩ := h.numH hm1 hk
  obtain ⟨t, ht, b2, o2, B2, nb2, cb2, rfl, hb2, y0, y1, zn2, lb2⟩ := h2.numH hm2 hk2
  have T0 := uno_box w false none 0 0
  have HM := Lib.hid (fun W (hW : Below w.heap.size w W) => timesV_any (w := W) (zn.below hW) (zn2.below hW) (by omega) (by omega))
  have HC : Hid (∀ W', Below w.heap.size w W' → W'.cell? ⟨g1, 0, none⟩ = some (.slice (some ⟨b, o, none⟩) n c) ∧ W'.cell? ⟨g2, 0, none⟩ = some (.slice (some ⟨b2, o2, none⟩) m d) ∧ W'.cell? ⟨b, o + k * 2, none⟩ = some (.bool (decide (s < 0))) ∧ W'.cell? ⟨b, o + k * 2 + 1, none⟩ = some (.slice B nb cb) ∧ W'.cell? ⟨b2, o2 + k * 2, none⟩ = some (.bool (decide (t < 0))) ∧ W'.cell? ⟨b2, o2 + k * 2 + 1, none⟩ = some (.slice B2 nb2 cb2)) := fun W' hW => ⟨(hx.next hW).c0, (hy.next hW).c0, (hW.cell (p := ⟨b, o + k * 2, none⟩) hb).trans x0, (hW.cell (p := ⟨b, o + k * 2 + 1, none⟩) hb).trans x1, (hW.cell (p := ⟨b2, o2 + k * 2, none⟩) hb2).trans y0, (hW.cell (p := ⟨b2, o2 + k * 2 + 1, none⟩) hb2).trans y1⟩
  have r0 := T0.x.c0
  have r1 := T0.x.c1
  have f0 := T0.x.f 0
  have f1 := T0.x.f 1
  have HT0 := Lib.hid (T0.next (Below.refl _ _).drew)
  clear x0 x1 y0 y1
  obtain ⟨c0, c1, x0, x1, y0, y1⟩ := HC.out _ T0.b
  have hl1 := hx.lt
  have hl2 := hy.lt
  clear h h2 he hm1 hm2 hl hx hy zn zn2
  rw [numK_at (f := fun i => zat L i * zat M i) (k := k) (z := s * t) (by show zat L k * zat M k = _; rw [hs.out, ht.out])]
  unfold KAns
  dsimp only
  unfold ZOne zV zv at HM
  go_enter Tryz.func46, Tryz.ntmps46
  go_wp2_with fail
  go_region_held3 (fun W' => W'.cell? ⟨g1, 0, none⟩ = some (.slice (some ⟨b, o, none⟩) n c) ∧ W'.cell? ⟨g2, 0, none⟩ = some (.slice (some ⟨b2, o2, none⟩) m d) ∧ W'.cell? ⟨b, o + k * 2, none⟩ = some (.bool (decide (s < 0))) ∧ W'.cell? ⟨b, o + k * 2 + 1, none⟩ = some (.slice B nb cb) ∧ W'.cell? ⟨b2, o2 + k * 2, none⟩ = some (.bool (decide (t < 0))) ∧ W'.cell? ⟨b2, o2 + k * 2 + 1, none⟩ = some (.slice B2 nb2 cb2)) (first | (with_reducible exact ⟨c0, c1, x0, x1, y0, y1⟩) | (with_reducible refine ⟨cell_far (cell_far c0 ?_ _) ?_ _, cell_far (cell_far c1 ?_ _) ?_ _, cell_far (cell_far x0 ?_ _) ?_ _, cell_far (cell_far x1 ?_ _) ?_ _, cell_far (cell_far y0 ?_ _) ?_ _, cell_far (cell_far y1 ?_ _) ?_ _⟩ <;> omega) | go_keep)
    (first | (go_at_call 47; refine (HM.out _ HT0.out.b).mono ?_; rintro e w1 ⟨A3, k3, c3, rfl, o3, hb3⟩; have T1 := HT0.out.next hb3; clear r0 r1 f0 f1 c0 c1 x0 x1 y0 y1; have r0 := T1.x.c0; have r1 := T1.x.c1; have f0 := T1.x.f 0; have f1 := T1.x.f 1; obtain ⟨c0, c1, x0, x1, y0, y1⟩ := HC.out _ T1.b))
  have hG := Lib.hid (Array.getElem?_eq_some_iff.1 HT0.out.x).1
  clear c0 c1 x0 x1 y0 y1
  go_wp2
  refine bodyPost_ret (v := .agg #[.bool (decide (s * t < 0)), .slice A3 k3 c3]) (by simp [results, Tryz.results46, go_sem, r0, r1]) rfl ?_
  exact ⟨A3, k3, c3, rfl, own_box hG.out (Nat.le_refl _) o3 _ _, box_below (Nat.le_refl _) T1.b _ _⟩
set_option maxRecDepth 100000 in
set_option maxHeartbeats 4000000 in
theorem addVClo_any (hx : BoxV w g1 A n c) (hy : BoxV w g2 A2 m d) (h : V1 w A n c L) (h2 : V1 w A2 m d M) (he : twoVE L M = 0) (hk : k < n) : Calls Tryz.prog 43 #[.int .i64 (k : Int), .pointer (some ⟨g1, 0, none⟩), .pointer (some ⟨g2, 0, none⟩)] w (KAns w (numK (fun i => zat L i + zat M i) k).1 (numK (fun i => zat L i + zat M i) k).2) := by
  obtain ⟨hm1, hm2, hl⟩ := two_may he
  have hk2 : k < m := by rw [← h2.rd.len, ← hl, h.rd.len]; exact hk
  obtain ⟨s, hs, b, o, B, nb, cb, rfl, hb, x0, x1, zn, lb⟩ := h.numH hm1 hk
  obtain ⟨t, ht, b2, o2, B2, nb2, cb2, rfl, hb2, y0, y1, zn2, lb2⟩ := h2.numH hm2 hk2
  have T0 := uno_box w false none 0 0
  have HM := Lib.hid (fun W (hW : Below w.heap.size w W) => sumV_any (w := W) (zn.below hW) (zn2.below hW) (by omega) (by omega))
  have HC : Hid (∀ W', Below w.heap.size w W' → W'.cell? ⟨g1, 0, none⟩ = some (.slice (some ⟨b, o, none⟩) n c) ∧ W'.cell? ⟨g2, 0, none⟩ = some (.slice (some ⟨b2, o2, none⟩) m d) ∧ W'.cell? ⟨b, o + k * 2, none⟩ = some (.bool (decide (s < 0))) ∧ W'.cell? ⟨b, o + k * 2 + 1, none⟩ = some (.slice B nb cb) ∧ W'.cell? ⟨b2, o2 + k * 2, none⟩ = some (.bool (decide (t < 0))) ∧ W'.cell? ⟨b2, o2 + k * 2 + 1, none⟩ = some (.slice B2 nb2 cb2)) := fun W' hW => ⟨(hx.next hW).c0, (hy.next hW).c0, (hW.cell (p := ⟨b, o + k * 2, none⟩) hb).trans x0, (hW.cell (p := ⟨b, o + k * 2 + 1, none⟩) hb).trans x1, (hW.cell (p := ⟨b2, o2 + k * 2, none⟩) hb2).trans y0, (hW.cell (p := ⟨b2, o2 + k * 2 + 1, none⟩) hb2).trans y1⟩
  have r0 := T0.x.c0
  have r1 := T0.x.c1
  have f0 := T0.x.f 0
  have f1 := T0.x.f 1
  have HT0 := Lib.hid (T0.next (Below.refl _ _).drew)
  clear x0 x1 y0 y1
  obtain ⟨c0, c1, x0, x1, y0, y1⟩ := HC.out _ T0.b
  have hl1 := hx.lt
  have hl2 := hy.lt
  clear h h2 he hm1 hm2 hl hx hy zn zn2
  rw [numK_at (f := fun i => zat L i + zat M i) (k := k) (z := s + t) (by show zat L k + zat M k = _; rw [hs.out, ht.out])]
  unfold KAns
  dsimp only
  unfold ZOne zV zv at HM
  go_enter Tryz.func43, Tryz.ntmps43
  go_wp2_with fail
  go_region_held3 (fun W' => W'.cell? ⟨g1, 0, none⟩ = some (.slice (some ⟨b, o, none⟩) n c) ∧ W'.cell? ⟨g2, 0, none⟩ = some (.slice (some ⟨b2, o2, none⟩) m d) ∧ W'.cell? ⟨b, o + k * 2, none⟩ = some (.bool (decide (s < 0))) ∧ W'.cell? ⟨b, o + k * 2 + 1, none⟩ = some (.slice B nb cb) ∧ W'.cell? ⟨b2, o2 + k * 2, none⟩ = some (.bool (decide (t < 0))) ∧ W'.cell? ⟨b2, o2 + k * 2 + 1, none⟩ = some (.slice B2 nb2 cb2)) (first | (with_reducible exact ⟨c0, c1, x0, x1, y0, y1⟩) | (with_reducible refine ⟨cell_far (cell_far c0 ?_ _) ?_ _, cell_far (cell_far c1 ?_ _) ?_ _, cell_far (cell_far x0 ?_ _) ?_ _, cell_far (cell_far x1 ?_ _) ?_ _, cell_far (cell_far y0 ?_ _) ?_ _, cell_far (cell_far y1 ?_ _) ?_ _⟩ <;> omega) | go_keep)
    (first | (go_at_call 44; refine (HM.out _ HT0.out.b).mono ?_; rintro e w1 ⟨A3, k3, c3, rfl, o3, hb3⟩; have T1 := HT0.out.next hb3; clear r0 r1 f0 f1 c0 c1 x0 x1 y0 y1; have r0 := T1.x.c0; have r1 := T1.x.c1; have f0 := T1.x.f 0; have f1 := T1.x.f 1; obtain ⟨c0, c1, x0, x1, y0, y1⟩ := HC.out _ T1.b))
  have hG := Lib.hid (Array.getElem?_eq_some_iff.1 HT0.out.x).1
  clear c0 c1 x0 x1 y0 y1
  go_wp2
  refine bodyPost_ret (v := .agg #[.bool (decide (s + t < 0)), .slice A3 k3 c3]) (by simp [results, Tryz.results43, go_sem, r0, r1]) rfl ?_
  exact ⟨A3, k3, c3, rfl, own_box hG.out (Nat.le_refl _) o3 _ _, box_below (Nat.le_refl _) T1.b _ _⟩
set_option maxRecDepth 100000 in
set_option maxHeartbeats 4000000 in
theorem scaleClo_any (hx : BoxZ w g1 (decide (z < 0)) B nb cb) (hy : BoxV w g2 A n c) (hz : ZNm w B nb cb z) (lz : nb ≤ 60) (h : V1 w A n c L) (hm : mayR L = true) (hk : k < n) : Calls Tryz.prog 52 #[.int .i64 (k : Int), .pointer (some ⟨g1, 0, none⟩), .pointer (some ⟨g2, 0, none⟩)] w (KAns w (numK (fun i => z * zat L i) k).1 (numK (fun i => z * zat L i) k).2) := by
  obtain ⟨t, ht, b2, o2, B2, nb2, cb2, rfl, hb2, y0, y1, zn2, lb2⟩ := h.numH hm hk
  have T0 := uno_box w false none 0 0
  have HM := Lib.hid (fun W (hW : Below w.heap.size w W) => timesV_any (w := W) (hz.below hW) (zn2.below hW) (by omega) (by omega))
  have HC : Hid (∀ W', Below w.heap.size w W' → W'.cell? ⟨g1, 0, none⟩ = some (.bool (decide (z < 0))) ∧ W'.cell? ⟨g1, 1, none⟩ = some (.slice B nb cb) ∧ W'.cell? ⟨g2, 0, none⟩ = some (.slice (some ⟨b2, o2, none⟩) n c) ∧ W'.cell? ⟨b2, o2 + k * 2, none⟩ = some (.bool (decide (t < 0))) ∧ W'.cell? ⟨b2, o2 + k * 2 + 1, none⟩ = some (.slice B2 nb2 cb2)) := fun W' hW => ⟨(hx.below hW (Array.getElem?_eq_some_iff.1 hx).1).c0, (hx.below hW (Array.getElem?_eq_some_iff.1 hx).1).c1, (hy.next hW).c0, (hW.cell (p := ⟨b2, o2 + k * 2, none⟩) hb2).trans y0, (hW.cell (p := ⟨b2, o2 + k * 2 + 1, none⟩) hb2).trans y1⟩
  have r0 := T0.x.c0
  have r1 := T0.x.c1
  have f0 := T0.x.f 0
  have f1 := T0.x.f 1
  have HT0 := Lib.hid (T0.next (Below.refl _ _).drew)
  clear y0 y1
  obtain ⟨c0, c1, c2, y0, y1⟩ := HC.out _ T0.b
  have hl1 := (Array.getElem?_eq_some_iff.1 hx).1
  have hl2 := hy.lt
  clear h hm hx hy hz zn2
  rw [numK_at (f := fun i => z * zat L i) (k := k) (z := z * t) (by show z * zat L k = _; rw [ht.out])]
  unfold KAns
  dsimp only
  unfold ZOne zV zv at HM
  go_enter Tryz.func52, Tryz.ntmps52
  go_wp2_with fail
  go_region_held3 (fun W' => W'.cell? ⟨g1, 0, none⟩ = some (.bool (decide (z < 0))) ∧ W'.cell? ⟨g1, 1, none⟩ = some (.slice B nb cb) ∧ W'.cell? ⟨g2, 0, none⟩ = some (.slice (some ⟨b2, o2, none⟩) n c) ∧ W'.cell? ⟨b2, o2 + k * 2, none⟩ = some (.bool (decide (t < 0))) ∧ W'.cell? ⟨b2, o2 + k * 2 + 1, none⟩ = some (.slice B2 nb2 cb2)) (first | (with_reducible exact ⟨c0, c1, c2, y0, y1⟩) | (with_reducible refine ⟨cell_far (cell_far c0 ?_ _) ?_ _, cell_far (cell_far c1 ?_ _) ?_ _, cell_far (cell_far c2 ?_ _) ?_ _, cell_far (cell_far y0 ?_ _) ?_ _, cell_far (cell_far y1 ?_ _) ?_ _⟩ <;> omega) | go_keep)
    (first | (go_at_call 47; refine (HM.out _ HT0.out.b).mono ?_; rintro e w1 ⟨A3, k3, c3, rfl, o3, hb3⟩; have T1 := HT0.out.next hb3; clear r0 r1 f0 f1 c0 c1 c2 y0 y1; have r0 := T1.x.c0; have r1 := T1.x.c1; have f0 := T1.x.f 0; have f1 := T1.x.f 1; obtain ⟨c0, c1, c2, y0, y1⟩ := HC.out _ T1.b))
  have hG := Lib.hid (Array.getElem?_eq_some_iff.1 HT0.out.x).1
  clear c0 c1 c2 y0 y1
  go_wp2
  refine bodyPost_ret (v := .agg #[.bool (decide (z * t < 0)), .slice A3 k3 c3]) (by simp [results, Tryz.results52, go_sem, r0, r1]) rfl ?_
  exact ⟨A3, k3, c3, rfl, own_box hG.out (Nat.le_refl _) o3 _ _, box_below (Nat.le_refl _) T1.b _ _⟩
set_option maxRecDepth 100000 in
set_option maxHeartbeats 4000000 in
theorem twinClo_any (hx : BoxV w g1 A n c) (h : V1 w A n c L) (hk : k < n) : ∃ e, L[k]? = some e ∧ Calls Tryz.prog 61 #[.int .i64 (k : Int), .pointer (some ⟨g1, 0, none⟩)] w (KAns w e.p e.l) := by
  obtain ⟨e, he, hok⟩ := h.rd.elem hk
  refine ⟨e, he, ?_⟩
  obtain ⟨b, o, rfl, hb, x0, x1⟩ := h.rd.cell he
  have hs := h.small e (List.mem_of_getElem? he)
  have HM := Lib.hid (fun W (hW : Below w.heap.size w W) => clone_any e.A e.n e.c e.l W (hok.r.below hW) (by omega))
  have T0 := uno_box w false none 0 0
  have HC : Hid (∀ W', Below w.heap.size w W' → W'.cell? ⟨g1, 0, none⟩ = some (.slice (some ⟨b, o, none⟩) n c) ∧ W'.cell? ⟨b, o + k * 2, none⟩ = some (.bool e.p) ∧ W'.cell? ⟨b, o + k * 2 + 1, none⟩ = some (.slice e.A e.n e.c)) := fun W' hW => ⟨(hx.next hW).c0, (hW.cell (p := ⟨b, o + k * 2, none⟩) hb).trans x0, (hW.cell (p := ⟨b, o + k * 2 + 1, none⟩) hb).trans x1⟩
  have r0 := T0.x.c0
  have r1 := T0.x.c1
  have f0 := T0.x.f 0
  have f1 := T0.x.f 1
  have HT0 := Lib.hid (T0.next (Below.refl _ _).drew)
  clear x0 x1
  obtain ⟨c0, x0, x1⟩ := HC.out _ T0.b
  have hl1 := hx.lt
  obtain ⟨p, A1, n1, c1, l1⟩ := e
  dsimp only at *
  clear h hx hok he hs
  unfold KAns
  go_enter Tryz.func61, Tryz.ntmps61
  go_wp2_with fail
  go_region_held3 (fun W' => W'.cell? ⟨g1, 0, none⟩ = some (.slice (some ⟨b, o, none⟩) n c) ∧ W'.cell? ⟨b, o + k * 2, none⟩ = some (.bool p) ∧ W'.cell? ⟨b, o + k * 2 + 1, none⟩ = some (.slice A1 n1 c1)) (first | (with_reducible exact ⟨c0, x0, x1⟩) | (with_reducible refine ⟨cell_far (cell_far c0 ?_ _) ?_ _, cell_far (cell_far x0 ?_ _) ?_ _, cell_far (cell_far x1 ?_ _) ?_ _⟩ <;> omega) | go_keep)
    (first | (go_at_call 62; refine (HM.out _ HT0.out.b).mono ?_; rintro e w1 ⟨A3, k3, c3, rfl, o3, hb3⟩; have T1 := HT0.out.next hb3; clear r0 r1 f0 f1 c0 x0 x1; have r0 := T1.x.c0; have r1 := T1.x.c1; have f0 := T1.x.f 0; have f1 := T1.x.f 1; obtain ⟨c0, x0, x1⟩ := HC.out _ T1.b))
  have hG := Lib.hid (Array.getElem?_eq_some_iff.1 HT0.out.x).1
  clear c0 x0 x1
  go_wp2
  refine bodyPost_ret (v := .agg #[.bool p, .slice A3 k3 c3]) (by simp [results, Tryz.results61, go_sem, r0, r1]) rfl ?_
  exact ⟨A3, k3, c3, rfl, own_box hG.out (Nat.le_refl _) o3 _ _, box_below (Nat.le_refl _) T1.b _ _⟩
end
end Go.Proofs.YtgiokmfdafmaoaaGreat
