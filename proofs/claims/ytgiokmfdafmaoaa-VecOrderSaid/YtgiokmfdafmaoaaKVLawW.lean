import Derived.Test.YtgiokmfdafmaoaaKVPl
import Derived.Test.YtgiokmfdafmaoaaKZHeld
import Derived.Test.YtgiokmfdafmaoaaKVHeld
import Derived.Test.YtgiokmfdafmaoaaKVCk
import Derived.Test.YtgiokmfdafmaoaaKDCode
import Derived.Test.YtgiokmfdafmaoaaKVFr
/- VOne VPrime VClo VJo VCloM VAdd VCmp VRef1 VDot VOfC VLaw VLawC VLawW. -/
/- vec: sum, times, part. -/
namespace Go.Proofs.Ytgiokmfdafmaoaa
open Go.RowKit Go.Shelf
set_option linter.unusedVariables false
set_option linter.unusedSimpArgs false

section
variable {A A2 : Option Addr} {na ca nb cb : Nat} {w : World} {z y : Int}
set_option maxRecDepth 100000 in
set_option maxHeartbeats 4000000 in
theorem timesV_any (ha : ZNm w A na ca z) (hb : ZNm w A2 nb cb y) (l1 : na ≤ 400) (l2 : nb ≤ 400) : Calls Try.prog 27 #[zV z A na ca, zV y A2 nb cb] w (ZOne w (z * y)) := by
  have HN := Lib.hid (fun W (hW : Below w.heap.size w W) => mulN (w := W) (ha.below hW) (hb.below hW) l1 l2)
  have T0 := tri_box w (decide (z < 0)) A na ca (decide (y < 0)) A2 nb cb
  clear ha hb l1 l2
  generalize z * y = t at HN ⊢
  unfold zV zv ZOne at *
  have xa0 := T0.t.x.c0
  have xa1 := T0.t.x.c1
  have xb0 := T0.t.y.c0
  have xb1 := T0.t.y.c1
  have r0 := T0.r.c0
  have r1 := T0.r.c1
  have f0 := T0.r.f 0
  have f1 := T0.r.f 1
  go_enter Try.func27, Try.ntmps27
  go_wp2_with fail
  refine (HN.out _ T0.t.b).mono ?_
  rintro e w1 ⟨A3, k3, c3, rfl, o3, hb⟩
  have T1 := T0.next (below_then hb (bxb _ (zo (decide (t < 0)) A3 k3 c3)))
  have hG := Lib.hid (Array.getElem?_eq_some_iff.1 T0.r).1
  have hP : BoxZ (w1.alloc (zo (decide (t < 0)) A3 k3 c3)) w1.heap.size (decide (t < 0)) A3 k3 c3 := World.alloc_heap_new _ _
  have o4 := o3.below (bxb _ (zo (decide (t < 0)) A3 k3 c3))
  clear hb T0 o3
  clear xa0 xa1 xb0 xb1 r0 r1 f0 f1
  have r0 := T1.r.c0
  have r1 := T1.r.c1
  have f0 := T1.r.f 0
  have f1 := T1.r.f 1
  have p0 := hP.c0
  have p1 := hP.c1
  have hg1 := (Array.getElem?_eq_some_iff.1 T1.r).1
  unfold zV zv
  go_wp2
  refine bodyPost_ret (v := zV t A3 k3 c3) (by simp [results, Try.results27, go_sem, r0, r1, zV, zv]) rfl ?_
  exact ⟨A3, k3, c3, rfl, own_box hG.out (show w.heap.size ≤ w.heap.size + 1 + 1 by omega) o4 _ _, box_below (show w.heap.size ≤ w.heap.size + 1 + 1 by omega) T1.t.b _ _⟩
set_option maxRecDepth 100000 in
set_option maxHeartbeats 4000000 in
theorem sumV_any (ha : ZNm w A na ca z) (hb : ZNm w A2 nb cb y) (l1 : na ≤ 400) (l2 : nb ≤ 400) : Calls Try.prog 28 #[zV z A na ca, zV y A2 nb cb] w (ZOne w (z + y)) := by
  have HN := Lib.hid (fun W (hW : Below w.heap.size w W) => addN (w := W) (ha.below hW) (hb.below hW) l1 l2)
  have T0 := tri_box w (decide (z < 0)) A na ca (decide (y < 0)) A2 nb cb
  clear ha hb l1 l2
  generalize z + y = t at HN ⊢
  unfold zV zv ZOne at *
  have xa0 := T0.t.x.c0
  have xa1 := T0.t.x.c1
  have xb0 := T0.t.y.c0
  have xb1 := T0.t.y.c1
  have r0 := T0.r.c0
  have r1 := T0.r.c1
  have f0 := T0.r.f 0
  have f1 := T0.r.f 1
  go_enter Try.func28, Try.ntmps28
  go_wp2_with fail
  refine (HN.out _ T0.t.b).mono ?_
  rintro e w1 ⟨A3, k3, c3, rfl, o3, hb⟩
  have T1 := T0.next (below_then hb (bxb _ (zo (decide (t < 0)) A3 k3 c3)))
  have hG := Lib.hid (Array.getElem?_eq_some_iff.1 T0.r).1
  have hP : BoxZ (w1.alloc (zo (decide (t < 0)) A3 k3 c3)) w1.heap.size (decide (t < 0)) A3 k3 c3 := World.alloc_heap_new _ _
  have o4 := o3.below (bxb _ (zo (decide (t < 0)) A3 k3 c3))
  clear hb T0 o3
  clear xa0 xa1 xb0 xb1 r0 r1 f0 f1
  have r0 := T1.r.c0
  have r1 := T1.r.c1
  have f0 := T1.r.f 0
  have f1 := T1.r.f 1
  have p0 := hP.c0
  have p1 := hP.c1
  have hg1 := (Array.getElem?_eq_some_iff.1 T1.r).1
  unfold zV zv
  go_wp2
  refine bodyPost_ret (v := zV t A3 k3 c3) (by simp [results, Try.results28, go_sem, r0, r1, zV, zv]) rfl ?_
  exact ⟨A3, k3, c3, rfl, own_box hG.out (show w.heap.size ≤ w.heap.size + 1 + 1 by omega) o4 _ _, box_below (show w.heap.size ≤ w.heap.size + 1 + 1 by omega) T1.t.b _ _⟩
theorem nat_nm {C : Option Addr} {m d : Nat} {g : Nat} (h : Nm w C m d g) : ZNm w C m d (g : Int) := by
  have e : ((g : Int)).natAbs = g := Int.natAbs_natCast g
  unfold ZNm
  rw [e]
  exact h
end
end Go.Proofs.Ytgiokmfdafmaoaa

/- Rows in lowest terms: what follows. -/
namespace Go.Proofs.Ytgiokmfdafmaoaa
set_option linter.unusedVariables false
set_option linter.unusedSimpArgs false

theorem prime_none {f : Nat → Int} {n i : Nat} (h : gcdTo f n = 0) (hi : i < n) : primeV f n i = f i ∧ f i = 0 := by
  have h1 := gcdTo_zero.1 h i hi
  unfold primeV
  rw [if_pos h]
  exact ⟨rfl, h1⟩
theorem prime_back {f : Nat → Int} {n i : Nat} (hi : i < n) : (gcdTo f n : Int) * primeV f n i = f i := by
  by_cases h : gcdTo f n = 0
  · rw [(prime_none h hi).1, (prime_none h hi).2, Int.mul_zero]
  · unfold primeV
    rw [if_neg h]
    exact Int.mul_tdiv_cancel' (Int.ofNat_dvd_left.2 (gcdTo_dvd hi))
theorem prime_one {f : Nat → Int} {n : Nat} (h : gcdTo f n ≠ 0) : gcdTo (primeV f n) n = 1 := gcdTo_prime rfl h fun i hi => (prime_back hi).symm
theorem prime_nought {f : Nat → Int} {n : Nat} (h : gcdTo f n = 0) : gcdTo (primeV f n) n = 0 := gcdTo_zero.2 fun i hi => by rw [(prime_none h hi).1, (prime_none h hi).2]
theorem sgn_abs (m : Int) : sgn m * (m.natAbs : Int) = m := by
  unfold sgn
  split
  · omega
  · split <;> omega
/-- A row scaled by a number that is not 0, in lowest terms. -/
theorem prime_scale {f : Nat → Int} {n i : Nat} {m : Int} (hm : m ≠ 0) (hi : i < n) : primeV (fun i => m * f i) n i = sgn m * primeV f n i := by
  have hg := gcdTo_scale m f n
  by_cases h : gcdTo f n = 0
  · have h2 : gcdTo (fun i => m * f i) n = 0 := by rw [hg, h, Nat.mul_zero]
    rw [(prime_none h2 hi).1, (prime_none h hi).1, (prime_none h hi).2, Int.mul_zero, Int.mul_zero]
  · have h2 : gcdTo (fun i => m * f i) n ≠ 0 := by rw [hg]; exact Nat.mul_ne_zero (by omega) h
    have h3 := prime_back (f := fun i => m * f i) hi
    have h4 := prime_back (f := f) hi
    have h5 : ((gcdTo (fun i => m * f i) n : Nat) : Int) * primeV (fun i => m * f i) n i = ((gcdTo (fun i => m * f i) n : Nat) : Int) * (sgn m * primeV f n i) := by
      rw [h3, hg, Int.natCast_mul]
      have h6 : (m.natAbs : Int) * (gcdTo f n : Int) * (sgn m * primeV f n i) = (sgn m * (m.natAbs : Int)) * ((gcdTo f n : Int) * primeV f n i) := by
        simp only [Int.mul_assoc, Int.mul_comm, Int.mul_left_comm]
      rw [h6, sgn_abs, h4]
    exact Int.eq_of_mul_eq_mul_left (by omega) h5
theorem scale_zero {f : Nat → Int} {n i : Nat} (hi : i < n) : primeV (fun i => 0 * f i) n i = 0 := by
  have h : gcdTo (fun i => 0 * f i) n = 0 := gcdTo_zero.2 fun i _ => Int.zero_mul _
  rw [(prime_none h hi).1]
  exact Int.zero_mul _
/-- Which is ahead is kept by a third row, and turned the other way round. -/
theorem cmp_both (f g h : Nat → Int) (n : Nat) : firstTo (fun i => sgn ((f i + h i) - (g i + h i))) n = firstTo (fun i => sgn (f i - g i)) n :=
  firstTo_congr fun i _ => by rw [show (f i + h i) - (g i + h i) = f i - g i by omega]
theorem cmp_turn (f g : Nat → Int) (n : Nat) : firstTo (fun i => sgn (g i - f i)) n = -(firstTo (fun i => sgn (f i - g i)) n) := by
  rw [← firstTo_neg]
  exact firstTo_congr fun i _ => by rw [← sgn_neg, show -(f i - g i) = g i - f i by omega]
theorem cmp_same {f g : Nat → Int} {n : Nat} : firstTo (fun i => sgn (f i - g i)) n = 0 ↔ ∀ i, i < n → f i = g i := by
  rw [firstTo_zero]
  constructor
  · intro h i hi
    have := sgn_zero.1 (h i hi)
    omega
  · intro h i hi
    exact sgn_zero.2 (by rw [h i hi]; omega)
end Go.Proofs.Ytgiokmfdafmaoaa

/- vec: what makes a place. -/
namespace Go.Proofs.Ytgiokmfdafmaoaa
open Go.RowKit Go.Shelf
set_option linter.unusedVariables false
set_option linter.unusedSimpArgs false

/-- Sign and limbs of f's values. -/
def numK (f : Nat → Int) (i : Nat) : Bool × List Nat := (decide (f i < 0), limbs (f i).natAbs)
theorem numK_at {f : Nat → Int} {k : Nat} {z : Int} (h : f k = z) : numK f k = (decide (z < 0), limbs z.natAbs) := by subst h; rfl
theorem isv_key {L : List ZE} {n : Nat} {f : Nat → Int} (hl : L.length = n) (h : ∀ i x, L[i]? = some x → x.key = numK f i) : IsV L n f := by
  refine ⟨hl, fun i e he => ?_⟩
  have h1 := h i e he
  unfold ZE.key numK at h1
  rw [Prod.mk.injEq] at h1
  exact h1
abbrev bv (A : Option Addr) (n c : Nat) : Obj := .cells #[.slice A n c] vT
/-- A row in a block of its own, for closures. -/
def BoxV (w : World) (g : Nat) (A : Option Addr) (n c : Nat) : Prop := w.heap[g]? = some (bv A n c)
section
variable {A A2 B B2 : Option Addr} {n c m d nb cb na ca g1 g2 g3 g4 k : Nat} {L M : List ZE} {w W : World} {z y : Int}
theorem BoxV.lt (h : BoxV w g1 A n c) : g1 < w.heap.size := (Array.getElem?_eq_some_iff.1 h).1
theorem BoxV.next (h : BoxV w g1 A n c) (hb : Below w.heap.size w W) : BoxV W g1 A n c := (hb.block g1 h.lt).trans h
theorem BoxV.c0 (h : BoxV w g1 A n c) : w.cell? ⟨g1, 0, none⟩ = some (.slice A n c) := cells_cell h rfl
theorem BoxV.f (h : BoxV w g1 A n c) (j : Nat) : w.frozen? ⟨g1, j, none⟩ = false := cells_frozen h
/-- The k-th number of a row that may be. -/
theorem V1.num (h : V1 w A n c L) (hm : mayR L = true) (hk : k < n) : ∃ b o B m d, A = some ⟨b, o, none⟩ ∧ b < w.heap.size ∧ w.cell? ⟨b, o + k * 2, none⟩ = some (.bool (decide (zat L k < 0))) ∧ w.cell? ⟨b, o + k * 2 + 1, none⟩ = some (.slice B m d) ∧ ZNm w B m d (zat L k) ∧ m ≤ 60 := by
  obtain ⟨e, he, hok⟩ := h.rd.elem hk
  obtain ⟨b, o, hA, hlt, h0, h1⟩ := h.rd.cell he
  have hi := (h.isv hm).num k e he
  rw [hi.1] at h0
  refine ⟨b, o, e.A, e.n, e.c, hA, hlt, h0, h1, ?_, h.small e (List.mem_of_getElem? he)⟩
  have hr := hok.r
  rw [hi.2] at hr
  exact ⟨hr, hok.c1, hok.c2⟩
theorem V1.numH (h : V1 w A n c L) (hm : mayR L = true) (hk : k < n) : ∃ (s : Int), Hid (zat L k = s) ∧ ∃ b o B m d, A = some ⟨b, o, none⟩ ∧ b < w.heap.size ∧ w.cell? ⟨b, o + k * 2, none⟩ = some (.bool (decide (s < 0))) ∧ w.cell? ⟨b, o + k * 2 + 1, none⟩ = some (.slice B m d) ∧ ZNm w B m d s ∧ m ≤ 60 :=
  ⟨zat L k, Lib.hid rfl, h.num hm hk⟩
theorem V1.bd {w : World} {A : Option Addr} {n c : Nat} {L : List ZE} (h : V1 w A n c L) (hm : mayR L = true) : BdV 60 n (zat L) := fun i hi => by
  obtain ⟨_, _, B, m, d, _, _, _, _, hz, hl⟩ := h.num hm hi
  exact Bd.of hz hl
theorem two_may (h : twoVE L M = 0) : mayR L = true ∧ mayR M = true ∧ L.length = M.length := by
  unfold twoVE at h
  cases h1 : mayR L <;> cases h2 : mayR M <;> rw [h1, h2] at h <;> simp at h
  refine ⟨rfl, rfl, ?_⟩
  by_cases e : L.length = M.length
  · exact e
  · exact absurd h e
set_option maxRecDepth 100000 in
set_option maxHeartbeats 4000000 in
theorem dotClo_any (hx : BoxV w g1 A n c) (hy : BoxV w g2 A2 m d) (h : V1 w A n c L) (h2 : V1 w A2 m d M) (he : twoVE L M = 0) (hk : k < n) : Calls Try.prog 26 #[.int .i64 (k : Int), .pointer (some ⟨g1, 0, none⟩), .pointer (some ⟨g2, 0, none⟩)] w (KAns w (numK (fun i => zat L i * zat M i) k).1 (numK (fun i => zat L i * zat M i) k).2) := by
  obtain ⟨hm1, hm2, hl⟩ := two_may he
  have hk2 : k < m := by rw [← h2.rd.len, ← hl, h.rd.len]; exact hk
  obtain ⟨s, hs, b, o, B, nb, cb, rfl, hb, x0, x1, zn, lb⟩ := h.numH hm1 hk
  obtain ⟨t, ht, b2, o2, B2, nb2, cb2, rfl, hb2, y0, y1, zn2, lb2⟩ := h2.numH hm2 hk2
  have T0 := uno_box w false none 0 0
  have HM := Lib.hid (fun W (hW : Below w.heap.size w W) => timesV_any (w := W) (zn.below hW) (zn2.below hW) (by omega) (by omega))
  have HC : Hid (∀ W', Below w.heap.size w W' → W'.cell? ⟨g1, 0, none⟩ = some (.slice (some ⟨b, o, none⟩) n c) ∧ W'.cell? ⟨g2, 0, none⟩ = some (.slice (some ⟨b2, o2, none⟩) m d) ∧ W'.cell? ⟨b, o + k * 2, none⟩ = some (.bool (decide (s < 0))) ∧ W'.cell? ⟨b, o + k * 2 + 1, none⟩ = some (.slice B nb cb) ∧ W'.cell? ⟨b2, o2 + k * 2, none⟩ = some (.bool (decide (t < 0))) ∧ W'.cell? ⟨b2, o2 + k * 2 + 1, none⟩ = some (.slice B2 nb2 cb2)) := fun W' hW => ⟨(hx.next hW).c0, (hy.next hW).c0, (hW.cell (p := ⟨b, o + k * 2, none⟩) hb).trans x0, (hW.cell (p := ⟨b, o + k * 2 + 1, none⟩) hb).trans x1, (hW.cell (p := ⟨b2, o2 + k * 2, none⟩) hb2).trans y0, (hW.cell (p := ⟨b2, o2 + k * 2 + 1, none⟩) hb2).trans y1⟩
  have r0 := T0.x.c0
  have r1 := T0.x.c1
  have f0 := T0.x.f 0
  have f1 := T0.x.f 1
  have HT0 := Lib.hid (T0.next (Below.refl _ _).drew)
  clear x0 x1 y0 y1
  obtain ⟨c0, c1, x0, x1, y0, y1⟩ := HC.out _ T0.b
  have hl1 := hx.lt
  have hl2 := hy.lt
  clear h h2 he hm1 hm2 hl hx hy zn zn2
  rw [numK_at (f := fun i => zat L i * zat M i) (k := k) (z := s * t) (by show zat L k * zat M k = _; rw [hs.out, ht.out])]
  unfold KAns
  dsimp only
  unfold ZOne zV zv at HM
  go_enter Try.func26, Try.ntmps26
  go_wp2_with fail
  go_region_held3 (fun W' => W'.cell? ⟨g1, 0, none⟩ = some (.slice (some ⟨b, o, none⟩) n c) ∧ W'.cell? ⟨g2, 0, none⟩ = some (.slice (some ⟨b2, o2, none⟩) m d) ∧ W'.cell? ⟨b, o + k * 2, none⟩ = some (.bool (decide (s < 0))) ∧ W'.cell? ⟨b, o + k * 2 + 1, none⟩ = some (.slice B nb cb) ∧ W'.cell? ⟨b2, o2 + k * 2, none⟩ = some (.bool (decide (t < 0))) ∧ W'.cell? ⟨b2, o2 + k * 2 + 1, none⟩ = some (.slice B2 nb2 cb2)) (first | (with_reducible exact ⟨c0, c1, x0, x1, y0, y1⟩) | (with_reducible refine ⟨cell_far (cell_far c0 ?_ _) ?_ _, cell_far (cell_far c1 ?_ _) ?_ _, cell_far (cell_far x0 ?_ _) ?_ _, cell_far (cell_far x1 ?_ _) ?_ _, cell_far (cell_far y0 ?_ _) ?_ _, cell_far (cell_far y1 ?_ _) ?_ _⟩ <;> omega) | go_keep)
    (first | (go_at_call 27; refine (HM.out _ HT0.out.b).mono ?_; rintro e w1 ⟨A3, k3, c3, rfl, o3, hb3⟩; have T1 := HT0.out.next hb3; clear r0 r1 f0 f1 c0 c1 x0 x1 y0 y1; have r0 := T1.x.c0; have r1 := T1.x.c1; have f0 := T1.x.f 0; have f1 := T1.x.f 1; obtain ⟨c0, c1, x0, x1, y0, y1⟩ := HC.out _ T1.b))
  have hG := Lib.hid (Array.getElem?_eq_some_iff.1 HT0.out.x).1
  clear c0 c1 x0 x1 y0 y1
  go_wp2
  refine bodyPost_ret (v := .agg #[.bool (decide (s * t < 0)), .slice A3 k3 c3]) (by simp [results, Try.results26, go_sem, r0, r1]) rfl ?_
  exact ⟨A3, k3, c3, rfl, own_box hG.out (Nat.le_refl _) o3 _ _, box_below (Nat.le_refl _) T1.b _ _⟩
set_option maxRecDepth 100000 in
set_option maxHeartbeats 4000000 in
theorem addVClo_any (hx : BoxV w g1 A n c) (hy : BoxV w g2 A2 m d) (h : V1 w A n c L) (h2 : V1 w A2 m d M) (he : twoVE L M = 0) (hk : k < n) : Calls Try.prog 38 #[.int .i64 (k : Int), .pointer (some ⟨g1, 0, none⟩), .pointer (some ⟨g2, 0, none⟩)] w (KAns w (numK (fun i => zat L i + zat M i) k).1 (numK (fun i => zat L i + zat M i) k).2) := by
  obtain ⟨hm1, hm2, hl⟩ := two_may he
  have hk2 : k < m := by rw [← h2.rd.len, ← hl, h.rd.len]; exact hk
  obtain ⟨s, hs, b, o, B, nb, cb, rfl, hb, x0, x1, zn, lb⟩ := h.numH hm1 hk
  obtain ⟨t, ht, b2, o2, B2, nb2, cb2, rfl, hb2, y0, y1, zn2, lb2⟩ := h2.numH hm2 hk2
  have T0 := uno_box w false none 0 0
  have HM := Lib.hid (fun W (hW : Below w.heap.size w W) => sumV_any (w := W) (zn.below hW) (zn2.below hW) (by omega) (by omega))
  have HC : Hid (∀ W', Below w.heap.size w W' → W'.cell? ⟨g1, 0, none⟩ = some (.slice (some ⟨b, o, none⟩) n c) ∧ W'.cell? ⟨g2, 0, none⟩ = some (.slice (some ⟨b2, o2, none⟩) m d) ∧ W'.cell? ⟨b, o + k * 2, none⟩ = some (.bool (decide (s < 0))) ∧ W'.cell? ⟨b, o + k * 2 + 1, none⟩ = some (.slice B nb cb) ∧ W'.cell? ⟨b2, o2 + k * 2, none⟩ = some (.bool (decide (t < 0))) ∧ W'.cell? ⟨b2, o2 + k * 2 + 1, none⟩ = some (.slice B2 nb2 cb2)) := fun W' hW => ⟨(hx.next hW).c0, (hy.next hW).c0, (hW.cell (p := ⟨b, o + k * 2, none⟩) hb).trans x0, (hW.cell (p := ⟨b, o + k * 2 + 1, none⟩) hb).trans x1, (hW.cell (p := ⟨b2, o2 + k * 2, none⟩) hb2).trans y0, (hW.cell (p := ⟨b2, o2 + k * 2 + 1, none⟩) hb2).trans y1⟩
  have r0 := T0.x.c0
  have r1 := T0.x.c1
  have f0 := T0.x.f 0
  have f1 := T0.x.f 1
  have HT0 := Lib.hid (T0.next (Below.refl _ _).drew)
  clear x0 x1 y0 y1
  obtain ⟨c0, c1, x0, x1, y0, y1⟩ := HC.out _ T0.b
  have hl1 := hx.lt
  have hl2 := hy.lt
  clear h h2 he hm1 hm2 hl hx hy zn zn2
  rw [numK_at (f := fun i => zat L i + zat M i) (k := k) (z := s + t) (by show zat L k + zat M k = _; rw [hs.out, ht.out])]
  unfold KAns
  dsimp only
  unfold ZOne zV zv at HM
  go_enter Try.func38, Try.ntmps38
  go_wp2_with fail
  go_region_held3 (fun W' => W'.cell? ⟨g1, 0, none⟩ = some (.slice (some ⟨b, o, none⟩) n c) ∧ W'.cell? ⟨g2, 0, none⟩ = some (.slice (some ⟨b2, o2, none⟩) m d) ∧ W'.cell? ⟨b, o + k * 2, none⟩ = some (.bool (decide (s < 0))) ∧ W'.cell? ⟨b, o + k * 2 + 1, none⟩ = some (.slice B nb cb) ∧ W'.cell? ⟨b2, o2 + k * 2, none⟩ = some (.bool (decide (t < 0))) ∧ W'.cell? ⟨b2, o2 + k * 2 + 1, none⟩ = some (.slice B2 nb2 cb2)) (first | (with_reducible exact ⟨c0, c1, x0, x1, y0, y1⟩) | (with_reducible refine ⟨cell_far (cell_far c0 ?_ _) ?_ _, cell_far (cell_far c1 ?_ _) ?_ _, cell_far (cell_far x0 ?_ _) ?_ _, cell_far (cell_far x1 ?_ _) ?_ _, cell_far (cell_far y0 ?_ _) ?_ _, cell_far (cell_far y1 ?_ _) ?_ _⟩ <;> omega) | go_keep)
    (first | (go_at_call 28; refine (HM.out _ HT0.out.b).mono ?_; rintro e w1 ⟨A3, k3, c3, rfl, o3, hb3⟩; have T1 := HT0.out.next hb3; clear r0 r1 f0 f1 c0 c1 x0 x1 y0 y1; have r0 := T1.x.c0; have r1 := T1.x.c1; have f0 := T1.x.f 0; have f1 := T1.x.f 1; obtain ⟨c0, c1, x0, x1, y0, y1⟩ := HC.out _ T1.b))
  have hG := Lib.hid (Array.getElem?_eq_some_iff.1 HT0.out.x).1
  clear c0 c1 x0 x1 y0 y1
  go_wp2
  refine bodyPost_ret (v := .agg #[.bool (decide (s + t < 0)), .slice A3 k3 c3]) (by simp [results, Try.results38, go_sem, r0, r1]) rfl ?_
  exact ⟨A3, k3, c3, rfl, own_box hG.out (Nat.le_refl _) o3 _ _, box_below (Nat.le_refl _) T1.b _ _⟩
set_option maxRecDepth 100000 in
set_option maxHeartbeats 4000000 in
theorem scaleClo_any (hx : BoxZ w g1 (decide (z < 0)) B nb cb) (hy : BoxV w g2 A n c) (hz : ZNm w B nb cb z) (lz : nb ≤ 60) (h : V1 w A n c L) (hm : mayR L = true) (hk : k < n) : Calls Try.prog 37 #[.int .i64 (k : Int), .pointer (some ⟨g1, 0, none⟩), .pointer (some ⟨g2, 0, none⟩)] w (KAns w (numK (fun i => z * zat L i) k).1 (numK (fun i => z * zat L i) k).2) := by
  obtain ⟨t, ht, b2, o2, B2, nb2, cb2, rfl, hb2, y0, y1, zn2, lb2⟩ := h.numH hm hk
  have T0 := uno_box w false none 0 0
  have HM := Lib.hid (fun W (hW : Below w.heap.size w W) => timesV_any (w := W) (hz.below hW) (zn2.below hW) (by omega) (by omega))
  have HC : Hid (∀ W', Below w.heap.size w W' → W'.cell? ⟨g1, 0, none⟩ = some (.bool (decide (z < 0))) ∧ W'.cell? ⟨g1, 1, none⟩ = some (.slice B nb cb) ∧ W'.cell? ⟨g2, 0, none⟩ = some (.slice (some ⟨b2, o2, none⟩) n c) ∧ W'.cell? ⟨b2, o2 + k * 2, none⟩ = some (.bool (decide (t < 0))) ∧ W'.cell? ⟨b2, o2 + k * 2 + 1, none⟩ = some (.slice B2 nb2 cb2)) := fun W' hW => ⟨(hx.below hW (Array.getElem?_eq_some_iff.1 hx).1).c0, (hx.below hW (Array.getElem?_eq_some_iff.1 hx).1).c1, (hy.next hW).c0, (hW.cell (p := ⟨b2, o2 + k * 2, none⟩) hb2).trans y0, (hW.cell (p := ⟨b2, o2 + k * 2 + 1, none⟩) hb2).trans y1⟩
  have r0 := T0.x.c0
  have r1 := T0.x.c1
  have f0 := T0.x.f 0
  have f1 := T0.x.f 1
  have HT0 := Lib.hid (T0.next (Below.refl _ _).drew)
  clear y0 y1
  obtain ⟨c0, c1, c2, y0, y1⟩ := HC.out _ T0.b
  have hl1 := (Array.getElem?_eq_some_iff.1 hx).1
  have hl2 := hy.lt
  clear h hm hx hy hz zn2
  rw [numK_at (f := fun i => z * zat L i) (k := k) (z := z * t) (by show z * zat L k = _; rw [ht.out])]
  unfold KAns
  dsimp only
  unfold ZOne zV zv at HM
  go_enter Try.func37, Try.ntmps37
  go_wp2_with fail
  go_region_held3 (fun W' => W'.cell? ⟨g1, 0, none⟩ = some (.bool (decide (z < 0))) ∧ W'.cell? ⟨g1, 1, none⟩ = some (.slice B nb cb) ∧ W'.cell? ⟨g2, 0, none⟩ = some (.slice (some ⟨b2, o2, none⟩) n c) ∧ W'.cell? ⟨b2, o2 + k * 2, none⟩ = some (.bool (decide (t < 0))) ∧ W'.cell? ⟨b2, o2 + k * 2 + 1, none⟩ = some (.slice B2 nb2 cb2)) (first | (with_reducible exact ⟨c0, c1, c2, y0, y1⟩) | (with_reducible refine ⟨cell_far (cell_far c0 ?_ _) ?_ _, cell_far (cell_far c1 ?_ _) ?_ _, cell_far (cell_far c2 ?_ _) ?_ _, cell_far (cell_far y0 ?_ _) ?_ _, cell_far (cell_far y1 ?_ _) ?_ _⟩ <;> omega) | go_keep)
    (first | (go_at_call 27; refine (HM.out _ HT0.out.b).mono ?_; rintro e w1 ⟨A3, k3, c3, rfl, o3, hb3⟩; have T1 := HT0.out.next hb3; clear r0 r1 f0 f1 c0 c1 c2 y0 y1; have r0 := T1.x.c0; have r1 := T1.x.c1; have f0 := T1.x.f 0; have f1 := T1.x.f 1; obtain ⟨c0, c1, c2, y0, y1⟩ := HC.out _ T1.b))
  have hG := Lib.hid (Array.getElem?_eq_some_iff.1 HT0.out.x).1
  clear c0 c1 c2 y0 y1
  go_wp2
  refine bodyPost_ret (v := .agg #[.bool (decide (z * t < 0)), .slice A3 k3 c3]) (by simp [results, Try.results37, go_sem, r0, r1]) rfl ?_
  exact ⟨A3, k3, c3, rfl, own_box hG.out (Nat.le_refl _) o3 _ _, box_below (Nat.le_refl _) T1.b _ _⟩
end
end Go.Proofs.Ytgiokmfdafmaoaa

/- vec: joined. -/
namespace Go.Proofs.Ytgiokmfdafmaoaa
open Go.RowKit Go.Shelf
set_option linter.unusedVariables false
set_option linter.unusedSimpArgs false

/-- A call answered the row of n such numbers, in new memory, and the error 0; or none, and E. -/
def KAll (w : World) (ok : Bool) (n : Nat) (K : Nat → Bool × List Nat) (E : Int) (e : Ending) (w' : World) : Prop :=
  if ok then (∃ (A : Option Addr) (c : Nat) (L : List ZE), e = .returned (.tuple #[.slice A n c, .int .i64 0]) ∧ OwnV w' w.heap.size A n c L ∧ (∀ i x, L[i]? = some x → x.key = K i) ∧ Below w.heap.size w w')
  else e = .returned (.tuple #[.slice none 0 0, .int .i64 E]) ∧ Below w.heap.size w w'
section
variable {A A2 : Option Addr} {n c m d : Nat} {L M : List ZE} {w : World}
set_option maxRecDepth 100000 in
set_option maxHeartbeats 4000000 in
theorem joinedV2_any (F : Nat) (k0 k1 : Value) (hE : ∀ args w, (callFunc F args).run Try.prog w = .ok (.enter F args) w) (K : Nat → Bool × List Nat) (h : V1 w A n c L) (h2 : V1 w A2 m d M)
    (hC : twoVE L M = 0 → ∀ k, k < n → ∀ W, Below w.heap.size w W → Calls Try.prog F #[.int .i64 (k : Int), k0, k1] W (KAns W (K k).1 (K k).2)) :
    Calls Try.prog 25 #[.slice A n c, .slice A2 m d, .func (.func F) #[] #[k0, k1]] w (KAll w (decide (twoVE L M = 0)) n K (twoVE L M)) := by
  have HA := Lib.hid (alike_any h h2)
  have hf := h.few
  clear h h2
  generalize twoVE L M = E at *
  by_cases hz : E = 0
  · subst hz
    have HP := Lib.hid (fun W (hW : Below w.heap.size w W) => placedV2_any F k0 k1 hE n hf K W fun k hk V hV => hC rfl k hk V (below_then hW hV))
    clear hC
    unfold KRow at HP
    rw [show decide ((0 : Int) = 0) = true from rfl]
    unfold KAll
    simp only [if_true]
    go_enter Try.func25, Try.ntmps25
    go_wp2_with fail
    refine HA.out.mono ?_
    rintro e w1 ⟨rfl, hb1⟩
    go_wp2_with fail
    refine (HP.out w1 hb1).mono ?_
    rintro e w2 ⟨A3, c3, R, rfl, hO, hK, hb2⟩
    have HO := Lib.hid (hO.mono hb1.size)
    have HK := Lib.hid hK
    have HB := Lib.hid (below_then hb1 hb2)
    clear hO hK hb1 hb2
    go_wp2
    go_ret2
    exact ⟨A3, c3, R, rfl, HO.out, HK.out, HB.out⟩
  · rw [decide_eq_false hz]
    unfold KAll
    simp only [Bool.false_eq_true, if_false]
    have hE2 : ((E : Int) != 0) = true := by simpa using hz
    have hE3 : ((E : Int) == 0) = false := by simpa using hz
    clear hz hC
    go_enter Try.func25, Try.ntmps25
    go_wp2_with fail
    refine HA.out.mono ?_
    rintro e w1 ⟨rfl, hb1⟩
    go_wp2
    go_ret2
    exact ⟨rfl, hb1⟩
set_option maxRecDepth 100000 in
set_option maxHeartbeats 4000000 in
theorem joinedV4_any (F : Nat) (k0 k1 k2 k3 : Value) (hE : ∀ args w, (callFunc F args).run Try.prog w = .ok (.enter F args) w) (K : Nat → Bool × List Nat) (h : V1 w A n c L) (h2 : V1 w A2 m d M)
    (hC : twoVE L M = 0 → ∀ k, k < n → ∀ W, Below w.heap.size w W → Calls Try.prog F #[.int .i64 (k : Int), k0, k1, k2, k3] W (KAns W (K k).1 (K k).2)) :
    Calls Try.prog 25 #[.slice A n c, .slice A2 m d, .func (.func F) #[] #[k0, k1, k2, k3]] w (KAll w (decide (twoVE L M = 0)) n K (twoVE L M)) := by
  have HA := Lib.hid (alike_any h h2)
  have hf := h.few
  clear h h2
  generalize twoVE L M = E at *
  by_cases hz : E = 0
  · subst hz
    have HP := Lib.hid (fun W (hW : Below w.heap.size w W) => placedV4_any F k0 k1 k2 k3 hE n hf K W fun k hk V hV => hC rfl k hk V (below_then hW hV))
    clear hC
    unfold KRow at HP
    rw [show decide ((0 : Int) = 0) = true from rfl]
    unfold KAll
    simp only [if_true]
    go_enter Try.func25, Try.ntmps25
    go_wp2_with fail
    refine HA.out.mono ?_
    rintro e w1 ⟨rfl, hb1⟩
    go_wp2_with fail
    refine (HP.out w1 hb1).mono ?_
    rintro e w2 ⟨A3, c3, R, rfl, hO, hK, hb2⟩
    have HO := Lib.hid (hO.mono hb1.size)
    have HK := Lib.hid hK
    have HB := Lib.hid (below_then hb1 hb2)
    clear hO hK hb1 hb2
    go_wp2
    go_ret2
    exact ⟨A3, c3, R, rfl, HO.out, HK.out, HB.out⟩
  · rw [decide_eq_false hz]
    unfold KAll
    simp only [Bool.false_eq_true, if_false]
    have hE2 : ((E : Int) != 0) = true := by simpa using hz
    have hE3 : ((E : Int) == 0) = false := by simpa using hz
    clear hz hC
    go_enter Try.func25, Try.ntmps25
    go_wp2_with fail
    refine HA.out.mono ?_
    rintro e w1 ⟨rfl, hb1⟩
    go_wp2
    go_ret2
    exact ⟨rfl, hb1⟩
end
end Go.Proofs.Ytgiokmfdafmaoaa

/- vec: what makes a place of Mix. -/
namespace Go.Proofs.Ytgiokmfdafmaoaa
open Go.RowKit Go.Shelf
set_option linter.unusedVariables false
set_option linter.unusedSimpArgs false

section
variable {A A2 B B2 : Option Addr} {n c m d nb cb na ca g1 g2 g3 g4 k : Nat} {L M : List ZE} {w W : World} {z y : Int}
set_option maxRecDepth 100000 in
set_option maxHeartbeats 4000000 in
theorem mixClo_any (hx : BoxZ w g1 (decide (z < 0)) B nb cb) (hv : BoxV w g2 A n c) (hy : BoxZ w g3 (decide (y < 0)) B2 na ca) (hu : BoxV w g4 A2 m d) (hz : ZNm w B nb cb z) (lz : nb ≤ 60) (hz2 : ZNm w B2 na ca y) (lz2 : na ≤ 60) (h : V1 w A n c L) (h2 : V1 w A2 m d M) (he : twoVE L M = 0) (hk : k < n) :
    Calls Try.prog 30 #[.int .i64 (k : Int), .pointer (some ⟨g1, 0, none⟩), .pointer (some ⟨g2, 0, none⟩), .pointer (some ⟨g3, 0, none⟩), .pointer (some ⟨g4, 0, none⟩)] w (KAns w (numK (fun i => z * zat L i + y * zat M i) k).1 (numK (fun i => z * zat L i + y * zat M i) k).2) := by
  obtain ⟨hm1, hm2, hl⟩ := two_may he
  have hk2 : k < m := by rw [← h2.rd.len, ← hl, h.rd.len]; exact hk
  obtain ⟨s, hs, b1, o1, B3, n3, e3, rfl, hb, x0, x1, zn, lb⟩ := h.numH hm1 hk
  obtain ⟨t, ht, b2, o2, B4, n4, e4, rfl, hb2, y0, y1, zn2, lb2⟩ := h2.numH hm2 hk2
  have HM := Lib.hid (fun W (hW : Below w.heap.size w W) => timesV_any (w := W) (hz.below hW) (zn.below hW) (by omega) (by omega))
  have HM2 := Lib.hid (fun W (hW : Below w.heap.size w W) => timesV_any (w := W) (hz2.below hW) (zn2.below hW) (by omega) (by omega))
  have HC : Hid (∀ W', Below w.heap.size w W' → W'.cell? ⟨g1, 0, none⟩ = some (.bool (decide (z < 0))) ∧ W'.cell? ⟨g1, 1, none⟩ = some (.slice B nb cb) ∧ W'.cell? ⟨g2, 0, none⟩ = some (.slice (some ⟨b1, o1, none⟩) n c) ∧ W'.cell? ⟨g3, 0, none⟩ = some (.bool (decide (y < 0))) ∧ W'.cell? ⟨g3, 1, none⟩ = some (.slice B2 na ca) ∧ W'.cell? ⟨g4, 0, none⟩ = some (.slice (some ⟨b2, o2, none⟩) m d) ∧ W'.cell? ⟨b1, o1 + k * 2, none⟩ = some (.bool (decide (s < 0))) ∧ W'.cell? ⟨b1, o1 + k * 2 + 1, none⟩ = some (.slice B3 n3 e3) ∧ W'.cell? ⟨b2, o2 + k * 2, none⟩ = some (.bool (decide (t < 0))) ∧ W'.cell? ⟨b2, o2 + k * 2 + 1, none⟩ = some (.slice B4 n4 e4)) := fun W' hW =>
    ⟨(hx.below hW (Array.getElem?_eq_some_iff.1 hx).1).c0, (hx.below hW (Array.getElem?_eq_some_iff.1 hx).1).c1, (hv.next hW).c0, (hy.below hW (Array.getElem?_eq_some_iff.1 hy).1).c0, (hy.below hW (Array.getElem?_eq_some_iff.1 hy).1).c1, (hu.next hW).c0,
     (hW.cell (p := ⟨b1, o1 + k * 2, none⟩) hb).trans x0, (hW.cell (p := ⟨b1, o1 + k * 2 + 1, none⟩) hb).trans x1, (hW.cell (p := ⟨b2, o2 + k * 2, none⟩) hb2).trans y0, (hW.cell (p := ⟨b2, o2 + k * 2 + 1, none⟩) hb2).trans y1⟩
  have LP : Hid (Bd 120 (z * s)) := (Bd.of hz lz).mul (Bd.of zn lb)
  have LQ : Hid (Bd 120 (y * t)) := (Bd.of hz2 lz2).mul (Bd.of zn2 lb2)
  have HS := Lib.hid (fun W {A A2 : Option Addr} {n c m k2 : Nat} (h1 : ZNm W A n c (z * s)) (h2 : ZNm W A2 m k2 (y * t)) (l1 : n ≤ 400) (l2 : m ≤ 400) => sumV_any (w := W) h1 h2 l1 l2)
  have hl1 := (Array.getElem?_eq_some_iff.1 hx).1
  have hl2 := hv.lt
  have hl3 := (Array.getElem?_eq_some_iff.1 hy).1
  have hl4 := hu.lt
  clear x0 x1 y0 y1 h h2 he hm1 hm2 hl hx hv hy hu zn zn2 hz hz2
  rw [numK_at (f := fun i => z * zat L i + y * zat M i) (k := k) (z := z * s + y * t) (by show z * zat L k + y * zat M k = _; rw [hs.out, ht.out])]
  unfold KAns
  dsimp only
  generalize z * s = p at *
  generalize y * t = q at *
  generalize p + q = r at *
  have T0 := uno_box w false none 0 0
  have r0 := T0.x.c0
  have r1 := T0.x.c1
  have f0 := T0.x.f 0
  have f1 := T0.x.f 1
  have HT0 := Lib.hid (T0.next (Below.refl _ _).drew)
  obtain ⟨c0, c1, c2, c3, c4, c5, x0, x1, y0, y1⟩ := HC.out _ T0.b
  unfold ZOne zV zv at HM HM2 HS
  go_enter Try.func30, Try.ntmps30
  go_wp2_with fail
  go_region_held3 (fun W' => W'.cell? ⟨g1, 0, none⟩ = some (.bool (decide (z < 0))) ∧ W'.cell? ⟨g1, 1, none⟩ = some (.slice B nb cb) ∧ W'.cell? ⟨g2, 0, none⟩ = some (.slice (some ⟨b1, o1, none⟩) n c) ∧ W'.cell? ⟨g3, 0, none⟩ = some (.bool (decide (y < 0))) ∧ W'.cell? ⟨g3, 1, none⟩ = some (.slice B2 na ca) ∧ W'.cell? ⟨g4, 0, none⟩ = some (.slice (some ⟨b2, o2, none⟩) m d) ∧ W'.cell? ⟨b1, o1 + k * 2, none⟩ = some (.bool (decide (s < 0))) ∧ W'.cell? ⟨b1, o1 + k * 2 + 1, none⟩ = some (.slice B3 n3 e3) ∧ W'.cell? ⟨b2, o2 + k * 2, none⟩ = some (.bool (decide (t < 0))) ∧ W'.cell? ⟨b2, o2 + k * 2 + 1, none⟩ = some (.slice B4 n4 e4)) (first | (with_reducible exact ⟨c0, c1, c2, c3, c4, c5, x0, x1, y0, y1⟩) | (with_reducible refine ⟨cell_far (cell_far c0 ?_ _) ?_ _, cell_far (cell_far c1 ?_ _) ?_ _, cell_far (cell_far c2 ?_ _) ?_ _, cell_far (cell_far c3 ?_ _) ?_ _, cell_far (cell_far c4 ?_ _) ?_ _, cell_far (cell_far c5 ?_ _) ?_ _, cell_far (cell_far x0 ?_ _) ?_ _, cell_far (cell_far x1 ?_ _) ?_ _, cell_far (cell_far y0 ?_ _) ?_ _, cell_far (cell_far y1 ?_ _) ?_ _⟩ <;> omega) | go_keep)
    (first
      | (go_at_call 28; refine (HS.out _ (o3.below hb4).nm o4.nm (by omega) (by omega)).mono ?_; rintro e w3 ⟨A5, k5, d5, rfl, o5, hb5⟩; have T3 := T2.next hb5; have hG := Lib.hid (Array.getElem?_eq_some_iff.1 T2.x).1; clear r0 r1 f0 f1 c0 c1 c2 c3 c4 c5 x0 x1 y0 y1; have r0 := T3.x.c0; have r1 := T3.x.c1; have f0 := T3.x.f 0; have f1 := T3.x.f 1; obtain ⟨c0, c1, c2, c3, c4, c5, x0, x1, y0, y1⟩ := HC.out _ T3.b)
      | (go_at_call 27; (with_reducible refine (HM2.out _ T1.b).mono ?_); rintro e w2 ⟨A4, k4, d4, rfl, o4, hb4⟩; have T2 := T1.next hb4; have hq4 := LQ.out.len o4; clear r0 r1 f0 f1 c0 c1 c2 c3 c4 c5 x0 x1 y0 y1; have r0 := T2.x.c0; have r1 := T2.x.c1; have f0 := T2.x.f 0; have f1 := T2.x.f 1; obtain ⟨c0, c1, c2, c3, c4, c5, x0, x1, y0, y1⟩ := HC.out _ T2.b)
      | (go_at_call 27; refine (HM.out _ HT0.out.b).mono ?_; rintro e w1 ⟨A3, k3, d3, rfl, o3, hb3⟩; have T1 := HT0.out.next hb3; have hq3 := LP.out.len o3; clear r0 r1 f0 f1 c0 c1 c2 c3 c4 c5 x0 x1 y0 y1; have r0 := T1.x.c0; have r1 := T1.x.c1; have f0 := T1.x.f 0; have f1 := T1.x.f 1; obtain ⟨c0, c1, c2, c3, c4, c5, x0, x1, y0, y1⟩ := HC.out _ T1.b))
  clear c0 c1 c2 c3 c4 c5 x0 x1 y0 y1
  go_wp2
  refine bodyPost_ret (v := .agg #[.bool (decide (r < 0)), .slice A5 k5 d5]) (by simp [results, Try.results30, go_sem, r0, r1]) rfl ?_
  exact ⟨A5, k5, d5, rfl, own_box hG.out (Nat.le_refl _) o5 _ _, box_below (Nat.le_refl _) T3.b _ _⟩
end
end Go.Proofs.Ytgiokmfdafmaoaa

/- vec: Add, Scale, Mix. -/
namespace Go.Proofs.Ytgiokmfdafmaoaa
open Go.RowKit Go.Shelf
set_option linter.unusedVariables false
set_option linter.unusedSimpArgs false

theorem KAll.ans {w w' : World} {ok : Bool} {n : Nat} {f : Nat → Int} {E : Int} {e : Ending} (h : KAll w ok n (numK f) E e w') : VAns w ok n f E e w' := by
  unfold KAll at h
  unfold VAns
  cases ok with
  | true =>
    rw [if_pos rfl] at h ⊢
    obtain ⟨A, c, L, he, hO, hK, hb⟩ := h
    exact ⟨A, c, L, he, ⟨hO, isv_key hO.len hK⟩, hb⟩
  | false =>
    rw [if_neg (by decide)] at h ⊢
    exact h
theorem KAll.mono {w w1 w' : World} {ok : Bool} {n : Nat} {K : Nat → Bool × List Nat} {E : Int} {e : Ending} (h : KAll w1 ok n K E e w') (hb : Below w.heap.size w w1) : KAll w ok n K E e w' := by
  unfold KAll at h ⊢
  cases ok with
  | true =>
    rw [if_pos rfl] at h ⊢
    obtain ⟨A, c, L, he, hO, hK, hb2⟩ := h
    exact ⟨A, c, L, he, hO.mono hb.size, hK, below_then hb hb2⟩
  | false =>
    rw [if_neg (by decide)] at h ⊢
    exact ⟨h.1, below_then hb h.2⟩
/-- Both shapes of such an answer are a pair. -/
theorem KAll.shape {w w' : World} {ok : Bool} {n : Nat} {K : Nat → Bool × List Nat} {E : Int} {e : Ending} (h : KAll w ok n K E e w') : ∃ A3 n3 c3 E3, e = .returned (.tuple #[.slice A3 n3 c3, .int .i64 E3]) := by
  unfold KAll at h
  cases ok with
  | true =>
    rw [if_pos rfl] at h
    obtain ⟨A, c, L, he, _⟩ := h
    exact ⟨_, _, _, _, he⟩
  | false =>
    rw [if_neg (by decide)] at h
    exact ⟨_, _, _, _, h.1⟩
section
variable {A A2 B B2 : Option Addr} {n c m d nb cb na ca g1 g2 g3 g4 k : Nat} {L M : List ZE} {w W : World} {z y : Int}
set_option maxRecDepth 100000 in
set_option maxHeartbeats 4000000 in
theorem addV_is : AddVIs 16 := fun A A2 n c m d L M w h h2 => by
  have hmf : ∀ (fn : Fn) (first cap : Array Value) (w : World), (Instr.makeFunc fn first cap).run Try.prog w = .ok (.func fn first cap) w := fun _ _ _ _ => rfl
  have T1 : Below w.heap.size w ((w.alloc (bv A n c)).alloc (bv A2 m d)) := below_then (bxb _ _) (bxb _ _)
  have X1 : BoxV ((w.alloc (bv A n c)).alloc (bv A2 m d)) w.heap.size A n c := BoxV.next (w := w.alloc (bv A n c)) (World.alloc_heap_new _ _) (bxb _ _)
  have Y1 : BoxV ((w.alloc (bv A n c)).alloc (bv A2 m d)) (w.heap.size + 1) A2 m d := by
    have h := World.alloc_heap_new (w.alloc (bv A n c)) (bv A2 m d)
    rw [World.size_alloc] at h
    exact h
  have HJ : Hid (∀ (W : World) (g1 g2 : Nat), Below w.heap.size w W → BoxV W g1 A n c → BoxV W g2 A2 m d → Calls Try.prog 25 #[.slice A n c, .slice A2 m d, .func (.func 38) #[] #[.pointer (some ⟨g1, 0, none⟩), .pointer (some ⟨g2, 0, none⟩)]] W (KAll W (decide (twoVE L M = 0)) n (numK (fun i => zat L i + zat M i)) (twoVE L M))) := fun W g1 g2 hW hx hy =>
    joinedV2_any _ _ _ (enters_of Try.func38 (by kernel_rfl) rfl) _ (h.below hW) (h2.below hW) fun he k hk V hV => addVClo_any (hx.next hV) (hy.next hV) ((h.below hW).below hV) ((h2.below hW).below hV) he hk
  clear h h2
  generalize (fun i => zat L i + zat M i) = f at *
  have x0 := X1.c0
  have y0 := Y1.c0
  generalize twoVE L M = E at *
  go_enter Try.func16, Try.ntmps16
  go_wp2_with fail
  refine (HJ.out _ w.heap.size (w.heap.size + 1) T1 X1 Y1).mono ?_
  intro e w2 hA
  obtain ⟨A3, n3, c3, E3, rfl⟩ := hA.shape
  have HA := Lib.hid (hA.mono T1).ans
  clear hA T1 X1 Y1 x0 y0 HJ hmf
  go_wp2
  go_ret2
  exact HA.out
theorem z1_ok {w : World} {A : Option Addr} {n c : Nat} {p : Bool} {l : List Nat} (h : Z1 w A n c l) : ZE.ok w ⟨p, A, n, c, l⟩ := ⟨h.ra, h.ca1, h.ca2⟩
theorem z1_num {w : World} {A : Option Addr} {n c : Nat} {p : Bool} {l : List Nat} (h : Z1 w A n c l) (hm : mayZ p l = true) : ZNm w A n c (zof p l) ∧ p = decide (zof p l < 0) := by
  refine ⟨⟨?_, h.ca1, h.ca2⟩, (zof_neg hm).symm⟩
  rw [zof_abs, limbs_val h.ra.words (mayZ_may hm)]
  exact h.ra
set_option maxRecDepth 100000 in
set_option maxHeartbeats 4000000 in
theorem scaleV_is : ScaleIs 15 := fun A B n c nb cb p b L w h hb lb => by
  have hmf : ∀ (fn : Fn) (first cap : Array Value) (w : World), (Instr.makeFunc fn first cap).run Try.prog w = .ok (.func fn first cap) w := fun _ _ _ _ => rfl
  have T1 : Below w.heap.size w ((w.alloc (bv A n c)).alloc (zo p B nb cb)) := below_then (bxb _ _) (bxb _ _)
  have X1 : BoxV ((w.alloc (bv A n c)).alloc (zo p B nb cb)) w.heap.size A n c := BoxV.next (w := w.alloc (bv A n c)) (World.alloc_heap_new _ _) (bxb _ _)
  have Y1 : BoxZ ((w.alloc (bv A n c)).alloc (zo p B nb cb)) (w.heap.size + 1) p B nb cb := by
    have h := World.alloc_heap_new (w.alloc (bv A n c)) (zo p B nb cb)
    rw [World.size_alloc] at h
    exact h
  have N1 : Hid (Calls Try.prog 29 #[.slice (some ⟨w.heap.size + 1 + 1, 0, none⟩) 1 1] (((w.alloc (bv A n c)).alloc (zo p B nb cb)).alloc (zo p B nb cb)) fun e w' => e = .returned (.int .i64 (if mayZ p b then 0 else 8)) ∧ Below w.heap.size w w' ∧ BoxV w' w.heap.size A n c ∧ BoxZ w' (w.heap.size + 1) p B nb cb) := by
    have hr := rdv_one (w := ((w.alloc (bv A n c)).alloc (zo p B nb cb))) (p := p) ((z1_ok hb).below T1)
    have hs2 : ((w.alloc (bv A n c)).alloc (zo p B nb cb)).heap.size = w.heap.size + 1 + 1 := by rw [World.size_alloc, World.size_alloc]
    rw [hs2] at hr
    refine (numbers_any _ 1 1 _ _ hr (fun e he => by rw [List.mem_singleton] at he; subst he; exact Nat.le_trans lb (by omega)) (Nat.le_refl _) (by omega)).mono ?_
    rintro e w' ⟨rfl, hb1⟩
    have hb2 := below_then (bxb ((w.alloc (bv A n c)).alloc (zo p B nb cb)) (zo p B nb cb)) hb1
    exact ⟨by simp [mayV], below_then T1 hb2, X1.next hb2, Y1.below hb2 (Array.getElem?_eq_some_iff.1 Y1).1⟩
  have N2 := Lib.hid (fun W (hW : Below w.heap.size w W) => checkV_any (h.below hW))
  have N3 : Hid (mayR L = true → mayZ p b = true → ∀ (W : World) (g1 g2 : Nat), Below w.heap.size w W → BoxV W g1 A n c → BoxZ W g2 p B nb cb → Calls Try.prog 21 #[.int .i64 (n : Int), .func (.func 37) #[] #[.pointer (some ⟨g2, 0, none⟩), .pointer (some ⟨g1, 0, none⟩)]] W (KRow W n (numK (fun i => zof p b * zat L i)))) := fun hm hp W g1 g2 hW hx hy =>
    placedV2_any _ _ _ (enters_of Try.func37 (by kernel_rfl) rfl) n h.few _ W fun k hk V hV => by
      have hq := z1_num hb hp
      rw [hq.2] at hy
      exact scaleClo_any (hy.below hV (Array.getElem?_eq_some_iff.1 hy).1) (hx.next hV) ((hq.1.below hW).below hV) lb ((h.below hW).below hV) hm hk
  have hf := h.few
  have x0 := X1.c0
  have y0 := Y1.c0
  have y1 := Y1.c1
  clear h hb X1 Y1 T1
  unfold VAns
  cases h1 : mayZ p b with
  | false =>
    rw [h1] at N1
    simp only [Bool.and_false, Bool.false_eq_true, if_false] at N1 ⊢
    clear h1 N2 N3
    unfold zv
    go_enter Try.func15, Try.ntmps15
    go_wp2_with fail
    refine N1.out.mono ?_
    rintro e w1 ⟨rfl, hb1, hx, hy⟩
    go_wp2
    go_ret2
    exact ⟨rfl, hb1⟩
  | true =>
    rw [h1] at N1
    simp only [if_true, Bool.and_true] at N1 ⊢
    cases h2 : mayR L with
    | false =>
      rw [h2] at N2
      simp only [Bool.false_eq_true, if_false] at N2 ⊢
      clear h1 h2 N3
      unfold zv
      go_enter Try.func15, Try.ntmps15
      go_wp2_with fail
      refine N1.out.mono ?_
      rintro e w1 ⟨rfl, hb1, hx, hy⟩
      clear x0 y0 y1
      have x0 := hx.c0
      go_wp2_with fail
      refine (N2.out _ hb1).mono ?_
      rintro e w2 ⟨rfl, hb2⟩
      go_wp2
      go_ret2
      exact ⟨rfl, below_then hb1 hb2⟩
    | true =>
      rw [h2] at N2
      have N4 := Lib.hid (N3.out h2 h1)
      simp only [if_true] at N2 ⊢
      clear h1 h2 N3
      unfold KRow at N4
      unfold zv
      go_enter Try.func15, Try.ntmps15
      go_wp2_with fail
      refine N1.out.mono ?_
      rintro e w1 ⟨rfl, hb1, hx, hy⟩
      clear x0 y0 y1
      have x0 := hx.c0
      go_wp2_with fail
      refine (N2.out _ hb1).mono ?_
      rintro e w2 ⟨rfl, hb2⟩
      have HX := hx.next hb2
      have HY := hy.below hb2 (Array.getElem?_eq_some_iff.1 hy).1
      have hB := below_then hb1 hb2
      clear x0 hx hy hb1 hb2
      have x0 := HX.c0
      go_wp2_with fail
      refine (N4.out w2 w.heap.size (w.heap.size + 1) hB HX HY).mono ?_
      rintro e w3 ⟨A3, c3, R, rfl, hO, hK, hb3⟩
      have HN : Hid (NewV w3 w.heap.size A3 n c3 R (fun i => zat L i * zof p b)) := ⟨hO.mono hB.size, (isv_key hO.len hK).congr fun i _ => Int.mul_comm _ _⟩
      have HB := Lib.hid (below_then hB hb3)
      clear hO hK hb3 HX HY hB x0
      go_wp2
      go_ret2
      exact ⟨A3, c3, R, rfl, HN.out, HB.out⟩
set_option maxRecDepth 100000 in
set_option maxHeartbeats 4000000 in
/-- Four boxes: a number, a row, a number, a row. -/
theorem four_box (w : World) (p : Bool) (B : Option Addr) (na ca : Nat) (A : Option Addr) (n c : Nat) (q : Bool) (B2 : Option Addr) (nb cb : Nat) (A2 : Option Addr) (m d : Nat) : Below w.heap.size w ((((w.alloc (zo p B na ca)).alloc (bv A n c)).alloc (zo q B2 nb cb)).alloc (bv A2 m d)) ∧ BoxZ ((((w.alloc (zo p B na ca)).alloc (bv A n c)).alloc (zo q B2 nb cb)).alloc (bv A2 m d)) w.heap.size p B na ca ∧ BoxV ((((w.alloc (zo p B na ca)).alloc (bv A n c)).alloc (zo q B2 nb cb)).alloc (bv A2 m d)) (w.heap.size + 1) A n c ∧ BoxZ ((((w.alloc (zo p B na ca)).alloc (bv A n c)).alloc (zo q B2 nb cb)).alloc (bv A2 m d)) (w.heap.size + 1 + 1) q B2 nb cb ∧ BoxV ((((w.alloc (zo p B na ca)).alloc (bv A n c)).alloc (zo q B2 nb cb)).alloc (bv A2 m d)) (w.heap.size + 1 + 1 + 1) A2 m d := by
  have X1 : BoxZ (w.alloc (zo p B na ca)) w.heap.size p B na ca := World.alloc_heap_new _ _
  have X2 := World.alloc_heap_new (w.alloc (zo p B na ca)) (bv A n c)
  have X3 := World.alloc_heap_new ((w.alloc (zo p B na ca)).alloc (bv A n c)) (zo q B2 nb cb)
  have X4 := World.alloc_heap_new (((w.alloc (zo p B na ca)).alloc (bv A n c)).alloc (zo q B2 nb cb)) (bv A2 m d)
  simp only [World.size_alloc] at X2 X3 X4
  have b2 := bxb (w.alloc (zo p B na ca)) (bv A n c)
  have b3 := bxb ((w.alloc (zo p B na ca)).alloc (bv A n c)) (zo q B2 nb cb)
  have b4 := bxb (((w.alloc (zo p B na ca)).alloc (bv A n c)).alloc (zo q B2 nb cb)) (bv A2 m d)
  have b34 := below_then b3 b4
  have b24 := below_then b2 b34
  refine ⟨below_then (bxb _ _) b24, X1.below b24 (Array.getElem?_eq_some_iff.1 X1).1, (b34.block _ (Array.getElem?_eq_some_iff.1 X2).1).trans X2, (b4.block _ (Array.getElem?_eq_some_iff.1 X3).1).trans X3, X4⟩
set_option maxRecDepth 100000 in
set_option maxHeartbeats 4000000 in
theorem mixV_is : MixIs 12 := fun A A2 B B2 n c m d na ca nb cb p q a b L M w h h2 ha hb la lb => by
  have hmf : ∀ (fn : Fn) (first cap : Array Value) (w : World), (Instr.makeFunc fn first cap).run Try.prog w = .ok (.func fn first cap) w := fun _ _ _ _ => rfl
  obtain ⟨T1, X1, X2, X3, X4⟩ := four_box w p B na ca A n c q B2 nb cb A2 m d
  have N1 : Hid (Calls Try.prog 29 #[.slice (some ⟨w.heap.size + 1 + 1 + 1 + 1, 0, none⟩) 2 2] (((((w.alloc (zo p B na ca)).alloc (bv A n c)).alloc (zo q B2 nb cb)).alloc (bv A2 m d)).alloc (zo2 p B na ca q B2 nb cb)) fun e w' => e = .returned (.int .i64 (if mayZ p a && mayZ q b then 0 else 8)) ∧ Below w.heap.size w w' ∧ BoxZ w' w.heap.size p B na ca ∧ BoxV w' (w.heap.size + 1) A n c ∧ BoxZ w' (w.heap.size + 1 + 1) q B2 nb cb ∧ BoxV w' (w.heap.size + 1 + 1 + 1) A2 m d) := by
    have hr := rdv_two (w := ((((w.alloc (zo p B na ca)).alloc (bv A n c)).alloc (zo q B2 nb cb)).alloc (bv A2 m d))) (p := p) (q := q) ((z1_ok ha).below T1) ((z1_ok hb).below T1)
    have hs2 : ((((w.alloc (zo p B na ca)).alloc (bv A n c)).alloc (zo q B2 nb cb)).alloc (bv A2 m d)).heap.size = w.heap.size + 1 + 1 + 1 + 1 := by simp only [World.size_alloc]
    rw [hs2] at hr
    refine (numbers_any _ 2 2 _ _ hr (fun e he => by
      rcases List.mem_cons.1 he with rfl | he
      · exact Nat.le_trans la (by omega)
      · rw [List.mem_singleton] at he; subst he; exact Nat.le_trans lb (by omega)) (Nat.le_refl _) (by omega)).mono ?_
    rintro e w' ⟨rfl, hb1⟩
    have hb2 := below_then (bxb ((((w.alloc (zo p B na ca)).alloc (bv A n c)).alloc (zo q B2 nb cb)).alloc (bv A2 m d)) (zo2 p B na ca q B2 nb cb)) hb1
    exact ⟨by simp [mayV], below_then T1 hb2, X1.below hb2 (Array.getElem?_eq_some_iff.1 X1).1, X2.next hb2, X3.below hb2 (Array.getElem?_eq_some_iff.1 X3).1, X4.next hb2⟩
  have N3 : Hid ((mayZ p a && mayZ q b) = true → ∀ (W : World) (g1 g2 g3 g4 : Nat), Below w.heap.size w W → BoxZ W g1 p B na ca → BoxV W g2 A n c → BoxZ W g3 q B2 nb cb → BoxV W g4 A2 m d → Calls Try.prog 25 #[.slice A n c, .slice A2 m d, .func (.func 30) #[] #[.pointer (some ⟨g1, 0, none⟩), .pointer (some ⟨g2, 0, none⟩), .pointer (some ⟨g3, 0, none⟩), .pointer (some ⟨g4, 0, none⟩)]] W (KAll W (decide (twoVE L M = 0)) n (numK (fun i => zof p a * zat L i + zof q b * zat M i)) (twoVE L M))) := fun hm W g1 g2 g3 g4 hW h1 h3 h4 h5 =>
    joinedV4_any _ _ _ _ _ (enters_of Try.func30 (by kernel_rfl) rfl) _ (h.below hW) (h2.below hW) fun he k hk V hV => by
      rw [Bool.and_eq_true] at hm
      have hq := z1_num ha hm.1
      have hr := z1_num hb hm.2
      rw [hq.2] at h1
      rw [hr.2] at h4
      exact mixClo_any (h1.below hV (Array.getElem?_eq_some_iff.1 h1).1) (h3.next hV) (h4.below hV (Array.getElem?_eq_some_iff.1 h4).1) (h5.next hV) ((hq.1.below hW).below hV) la ((hr.1.below hW).below hV) lb ((h.below hW).below hV) ((h2.below hW).below hV) he hk
  have x0 := X1.c0
  have x1 := X1.c1
  have y0 := X3.c0
  have y1 := X3.c1
  clear h h2 ha hb X1 X2 X3 X4 T1
  generalize (fun i => zof p a * zat L i + zof q b * zat M i) = f at *
  generalize twoVE L M = E at *
  cases h1 : (mayZ p a && mayZ q b) with
  | false =>
    rw [h1] at N1
    simp only [Bool.false_and, Bool.false_eq_true, if_false] at N1 ⊢
    clear h1 N3
    unfold zv VAns
    simp only [Bool.false_eq_true, if_false]
    go_enter Try.func12, Try.ntmps12
    go_wp2_with fail
    refine N1.out.mono ?_
    rintro e w1 ⟨rfl, hb1, _⟩
    go_wp2
    go_ret2
    exact ⟨rfl, hb1⟩
  | true =>
    rw [h1] at N1
    have N4 := Lib.hid (N3.out h1)
    simp only [if_true, Bool.true_and] at N1 ⊢
    clear h1 N3
    unfold zv
    go_enter Try.func12, Try.ntmps12
    go_wp2_with fail
    refine N1.out.mono ?_
    rintro e w1 ⟨rfl, hb1, h1, h3, h4, h5⟩
    clear x0 x1 y0 y1
    have x0 := h3.c0
    have y0 := h5.c0
    go_wp2_with fail
    refine (N4.out w1 w.heap.size (w.heap.size + 1) (w.heap.size + 1 + 1) (w.heap.size + 1 + 1 + 1) hb1 h1 h3 h4 h5).mono ?_
    intro e w2 hA
    obtain ⟨A3, n3, c3, E3, rfl⟩ := hA.shape
    have HA := Lib.hid (hA.mono hb1).ans
    clear hA h1 h3 h4 h5 x0 y0 hb1
    go_wp2
    go_ret2
    exact HA.out
end
end Go.Proofs.Ytgiokmfdafmaoaa

/- vec: Cmp, Zero, Same. -/
namespace Go.Proofs.Ytgiokmfdafmaoaa
open Go.RowKit Go.Shelf
set_option linter.unusedVariables false
set_option linter.unusedSimpArgs false

theorem keys_ne {L M : List ZE} {k : Nat} {e x : ZE} (h1 : L[k]? = some e) (h2 : M[k]? = some x) (h : ZE.key e ≠ ZE.key x) : keys L ≠ keys M := fun he => by
  have h3 : (keys L)[k]? = (keys M)[k]? := by rw [he]
  unfold keys at h3
  rw [List.getElem?_map, List.getElem?_map, h1, h2] at h3
  exact h (by simpa using h3)
theorem keys_eq {L M : List ZE} {n : Nat} (hl : L.length = n) (hm : M.length = n) (h : ∀ j e x, j < n → L[j]? = some e → M[j]? = some x → ZE.key e = ZE.key x) : keys L = keys M := by
  unfold keys
  apply List.ext_getElem?
  intro i
  rw [List.getElem?_map, List.getElem?_map]
  by_cases hi : i < n
  · rw [List.getElem?_eq_getElem (show i < L.length by omega), List.getElem?_eq_getElem (show i < M.length by omega)]
    exact congrArg some (h i _ _ hi (List.getElem?_eq_getElem (show i < L.length by omega)) (List.getElem?_eq_getElem (show i < M.length by omega)))
  · rw [List.getElem?_eq_none (by omega), List.getElem?_eq_none (by omega)]
theorem noughts_no {L : List ZE} {k : Nat} {e : ZE} (he : L[k]? = some e) (h : ¬ (e.p = false ∧ e.l = [])) : noughts L = false := by
  have hm : e ∈ L := List.mem_of_getElem? he
  cases hv : noughts L with
  | false => rfl
  | true =>
    unfold noughts at hv
    rw [List.all_eq_true] at hv
    have h1 := hv e hm
    rw [Bool.and_eq_true] at h1
    exact absurd ⟨by simpa using h1.1, by simpa using h1.2⟩ h
theorem noughts_yes {L : List ZE} {n : Nat} (hn : L.length = n) (h : ∀ k e, k < n → L[k]? = some e → e.p = false ∧ e.l = []) : noughts L = true := by
  unfold noughts
  rw [List.all_eq_true]
  intro e he
  obtain ⟨k, hk⟩ := List.getElem?_of_mem he
  obtain ⟨h1, h2⟩ := h k e (by have := (List.getElem?_eq_some_iff.1 hk).1; omega) hk
  rw [h1, h2]
  rfl
theorem key_iff (e x : ZE) : ZE.key e = ZE.key x ↔ e.p = x.p ∧ e.l = x.l := by unfold ZE.key; rw [Prod.mk.injEq]
section
set_option maxRecDepth 100000 in
set_option maxHeartbeats 4000000 in
theorem zeroV_is : ZeroIs 20 := fun A n c L w h => by
  have HS : Hid (∀ (e : ZE) (W : World), e ∈ L → Below w.heap.size w W → Calls Try.prog 43 #[.agg #[.bool e.p, .slice e.A e.n e.c], .agg #[.bool false, .slice none 0 0]] W fun x w' => x = .returned (.bool (decide (e.p = false ∧ e.l = []))) ∧ Below W.heap.size W w') := fun e W he hW =>
    sameZ_any (p := e.p) (q := false) (w := W) ⟨((h.rd.ok e he).below hW).r, rd_nil _ _, Nat.le_trans (h.small e he) (by omega), Nat.zero_le _, (h.rd.ok e he).c1, (h.rd.ok e he).c2, Nat.le_refl _, Nat.zero_le _⟩
  have HL := Lib.hid h.rd.len
  have hf := h.few
  have h := h.rd
  generalize hE : noughts L = E
  have HX := Lib.hid hE
  clear hE
  go_enter Try.func20, Try.ntmps20
  go_wp2
  go_loopw [7] (fun i wr => ∃ k : Nat, k ≤ n ∧ i = .int .i64 (k : Int) ∧ (∀ j e, j < k → L[j]? = some e → e.p = false ∧ e.l = []) ∧ Below w.heap.size w wr) (fun i _ => n - (intOf i).toNat)
  case atStart => exact ⟨0, by omega, rfl, fun j e hj => absurd hj (by omega), Below.refl _ _⟩
  case round =>
    obtain ⟨k, hk, rfl, h1, hB⟩ := hrel
    by_cases hlt : k < n
    · obtain ⟨e, he, _⟩ := h.elem hlt
      have hm : e ∈ L := List.mem_of_getElem? he
      obtain ⟨b, o, rfl, hbl, hc0, hc1⟩ := (h.below hB).cell he
      obtain ⟨p, A1, n1, c1, l1⟩ := e
      dsimp only at hc0 hc1
      have HB := Lib.hid (below_then hB (bxb wr (zo p A1 n1 c1)))
      have HM := Lib.hid (HS.out _ _ hm HB.out)
      dsimp only at HM
      have H1 := Lib.hid h1
      have HE := Lib.hid he
      by_cases e1 : p = false ∧ l1 = []
      · have HK := Lib.hid e1
        rw [decide_eq_true e1] at HM
        clear h1 hB h hm he e1
        go_wp2_with fail
        refine HM.out.mono ?_
        rintro x w3 ⟨rfl, hb3⟩
        have hB3 := Lib.hid (below_then HB.out hb3)
        clear hb3
        go_wp2
        go_roundw
        case rel =>
          refine ⟨k + 1, by omega, by go_num, fun j e hj hje => ?_, hB3.out⟩
          rcases Nat.lt_or_ge j k with hjk | hjk
          · exact H1.out j e hjk hje
          · obtain rfl : j = k := by omega
            rw [HE.out] at hje
            cases hje
            exact HK.out
        case measure => simp [intOf]; omega
      · have HR : Hid (noughts L = false) := noughts_no he e1
        rw [decide_eq_false e1] at HM
        clear h1 hB h hm he e1
        go_wp2_with fail
        refine HM.out.mono ?_
        rintro x w3 ⟨rfl, hb3⟩
        have hB3 := Lib.hid (below_then HB.out hb3)
        clear hb3
        go_wp2
        go_ret
        exact ⟨by rw [← HX.out, HR.out]; (try rfl), hB3.out⟩
    · have HR : Hid (noughts L = true) := noughts_yes HL.out fun j e hj hje => h1 j e (by omega) hje
      have HB := Lib.hid hB
      clear h1 hB h
      go_wp2
      go_ret
      exact ⟨by rw [← HX.out, HR.out]; (try rfl), HB.out⟩
set_option maxRecDepth 100000 in
set_option maxHeartbeats 4000000 in
theorem equalFunc_any {A A2 : Option Addr} {n c m d : Nat} {L M : List ZE} {w : World} (h : V1 w A n c L) (h2 : V1 w A2 m d M) : Calls Try.prog 42 #[.slice A n c, .slice A2 m d, .func (.func 43) #[] #[]] w fun e w' => e = .returned (.bool (decide (keys L = keys M))) ∧ Below w.heap.size w w' := by
  have hE := enters_of Try.func43 (by kernel_rfl) rfl
  have HS : Hid (∀ (e x : ZE) (W : World), e ∈ L → x ∈ M → Below w.heap.size w W → Calls Try.prog 43 #[.agg #[.bool e.p, .slice e.A e.n e.c], .agg #[.bool x.p, .slice x.A x.n x.c]] W fun r w' => r = .returned (.bool (decide (e.p = x.p ∧ e.l = x.l))) ∧ Below W.heap.size W w') := fun e x W he hx hW =>
    sameZ_any (p := e.p) (q := x.p) (w := W) ⟨((h.rd.ok e he).below hW).r, ((h2.rd.ok x hx).below hW).r, Nat.le_trans (h.small e he) (by omega), Nat.le_trans (h2.small x hx) (by omega), (h.rd.ok e he).c1, (h.rd.ok e he).c2, (h2.rd.ok x hx).c1, (h2.rd.ok x hx).c2⟩
  have hf1 := h.few
  have hf2 := h2.few
  have h := h.rd
  have h2 := h2.rd
  have HL := Lib.hid h.len
  have HL2 := Lib.hid h2.len
  by_cases hnm : n = m
  · subst hnm
    generalize hD : decide (keys L = keys M) = D
    have HX := Lib.hid hD
    clear hD
    go_enter Try.func42, Try.ntmps42
    go_wp2
    go_loopw [17] (fun i wr => ∃ k : Nat, k ≤ n ∧ i = .int .i64 (k : Int) ∧ (∀ j e x, j < k → L[j]? = some e → M[j]? = some x → ZE.key e = ZE.key x) ∧ Below w.heap.size w wr) (fun i _ => n - (intOf i).toNat)
    case atStart => exact ⟨0, by omega, rfl, fun j e x hj => absurd hj (by omega), Below.refl _ _⟩
    case round =>
      obtain ⟨k, hk, rfl, h1, hB⟩ := hrel
      by_cases hlt : k < n
      · obtain ⟨e, he, _⟩ := h.elem hlt
        have hm : e ∈ L := List.mem_of_getElem? he
        obtain ⟨b, o, rfl, hbl, hc0, hc1⟩ := (h.below hB).cell he
        obtain ⟨x, hx, _⟩ := h2.elem hlt
        have hm2 : x ∈ M := List.mem_of_getElem? hx
        obtain ⟨b2, o2, rfl, hbl2, hd0, hd1⟩ := (h2.below hB).cell hx
        obtain ⟨p, A1, n1, c1, l1⟩ := e
        obtain ⟨q, A3, n3, c3, l3⟩ := x
        dsimp only at hc0 hc1 hd0 hd1
        have HB := Lib.hid (below_then hB (below_then (bxb wr (zo p A1 n1 c1)) (bxb _ (zo q A3 n3 c3))))
        have HM := Lib.hid (HS.out _ _ _ hm hm2 HB.out)
        dsimp only at HM
        have H1 := Lib.hid h1
        have HE := Lib.hid (And.intro he hx)
        by_cases e1 : p = q ∧ l1 = l3
        · have HK := Lib.hid e1
          rw [decide_eq_true e1] at HM
          clear h1 hB h h2 hm hm2 he hx e1
          go_wp2_with fail
          refine HM.out.mono ?_
          rintro r w3 ⟨rfl, hb3⟩
          have hB3 := Lib.hid (below_then HB.out hb3)
          clear hb3
          go_wp2
          go_roundw
          case rel =>
            refine ⟨k + 1, by omega, by go_num, fun j e x hj hje hjx => ?_, hB3.out⟩
            rcases Nat.lt_or_ge j k with hjk | hjk
            · exact H1.out j e x hjk hje hjx
            · obtain rfl : j = k := by omega
              rw [HE.out.1] at hje
              rw [HE.out.2] at hjx
              cases hje
              cases hjx
              exact (key_iff _ _).2 HK.out
          case measure => simp [intOf]; omega
        · have HR : Hid (decide (keys L = keys M) = false) := decide_eq_false (keys_ne he hx fun hk => e1 ((key_iff _ _).1 hk))
          rw [decide_eq_false e1] at HM
          clear h1 hB h h2 hm hm2 he hx e1
          go_wp2_with fail
          refine HM.out.mono ?_
          rintro r w3 ⟨rfl, hb3⟩
          have hB3 := Lib.hid (below_then HB.out hb3)
          clear hb3
          go_wp2
          go_ret
          exact ⟨by rw [← HX.out, HR.out]; (try rfl), hB3.out⟩
      · have HR : Hid (decide (keys L = keys M) = true) := decide_eq_true (keys_eq HL.out HL2.out fun j e x hj hje hjx => h1 j e x (by omega) hje hjx)
        have HB := Lib.hid hB
        clear h1 hB h h2
        go_wp2
        go_ret
        exact ⟨by rw [← HX.out, HR.out]; (try rfl), HB.out⟩
  · have HR : Hid (decide (keys L = keys M) = false) := decide_eq_false fun e => by
      have e2 : (keys L).length = (keys M).length := by rw [e]
      rw [keys_len, keys_len, HL.out, HL2.out] at e2
      exact hnm e2
    rw [HR.out]
    have g1 : ¬ (n : Int) = (m : Int) := by omega
    clear h h2 HR
    go_enter Try.func42, Try.ntmps42
    go_wp2
    go_ret
    exact ⟨rfl, Below.refl _ _⟩
set_option maxRecDepth 100000 in
set_option maxHeartbeats 4000000 in
theorem sameV_is : SameVIs 19 := fun A A2 n c m d L M w h h2 => by
  have HN := Lib.hid (equalFunc_any h h2)
  clear h h2
  go_enter Try.func19, Try.ntmps19
  go_wp2_with fail
  refine HN.out.mono ?_
  rintro e w1 ⟨rfl, hb⟩
  go_wp2
  go_ret
  exact ⟨rfl, hb⟩
set_option maxRecDepth 100000 in
set_option maxHeartbeats 4000000 in
theorem cmpV_is : CmpVIs 18 := fun A A2 n c m d L M w h h2 => by
  have HA := Lib.hid (alike_any h h2)
  have HN : Hid (twoVE L M = 0 → ∀ k, k < n → ∃ b o B nb cb b2 o2 B2 nb2 cb2, A = some ⟨b, o, none⟩ ∧ A2 = some ⟨b2, o2, none⟩ ∧ k < m ∧ ∀ W, Below w.heap.size w W → (W.cell? ⟨b, o + k * 2, none⟩ = some (.bool (decide (zat L k < 0))) ∧ W.cell? ⟨b, o + k * 2 + 1, none⟩ = some (.slice B nb cb) ∧ W.cell? ⟨b2, o2 + k * 2, none⟩ = some (.bool (decide (zat M k < 0))) ∧ W.cell? ⟨b2, o2 + k * 2 + 1, none⟩ = some (.slice B2 nb2 cb2)) ∧ Calls Try.prog 41 #[.agg #[.bool (decide (zat L k < 0)), .slice B nb cb], .agg #[.bool (decide (zat M k < 0)), .slice B2 nb2 cb2]] W (IAns W (sgn (zat L k - zat M k)) 0)) := fun he k hk => by
    obtain ⟨hm1, hm2, hl⟩ := two_may he
    have hk2 : k < m := by rw [← h2.rd.len, ← hl, h.rd.len]; exact hk
    obtain ⟨b, o, B, nb, cb, hA, hb, x0, x1, zn, lb⟩ := h.num hm1 hk
    obtain ⟨b2, o2, B2, nb2, cb2, hA2, hb2, y0, y1, zn2, lb2⟩ := h2.num hm2 hk2
    exact ⟨b, o, B, nb, cb, b2, o2, B2, nb2, cb2, hA, hA2, hk2, fun W hW => ⟨⟨(hW.cell (p := ⟨b, o + k * 2, none⟩) hb).trans x0, (hW.cell (p := ⟨b, o + k * 2 + 1, none⟩) hb).trans x1, (hW.cell (p := ⟨b2, o2 + k * 2, none⟩) hb2).trans y0, (hW.cell (p := ⟨b2, o2 + k * 2 + 1, none⟩) hb2).trans y1⟩, cmpN (zn.below hW) (zn2.below hW) (by omega) (by omega)⟩⟩
  have hf := h.few
  have hf2 := h2.few
  clear h h2
  generalize zat L = f at *
  generalize zat M = g at *
  unfold IAns at *
  generalize twoVE L M = E at *
  by_cases hz : E = 0
  · subst hz
    replace HN := Lib.hid (HN.out rfl)
    rw [if_pos rfl]
    go_enter Try.func18, Try.ntmps18
    go_wp2_with fail
    refine HA.out.mono ?_
    rintro e w1 ⟨rfl, hb1⟩
    go_wp2
    go_loopw [18] (fun i wr => ∃ k : Nat, k ≤ n ∧ i = .int .i64 (k : Int) ∧ (∀ j, j < k → sgn (f j - g j) = 0) ∧ Below w.heap.size w wr) (fun i _ => n - (intOf i).toNat)
    case atStart => exact ⟨0, by omega, rfl, fun j hj => absurd hj (by omega), hb1⟩
    case round =>
      obtain ⟨k, hk, rfl, h1, hB⟩ := hrel
      by_cases hlt : k < n
      · obtain ⟨b, o, B, nb, cb, b2, o2, B2, nb2, cb2, rfl, rfl, hkm, hC⟩ := HN.out k hlt
        have HX := Lib.hid (fun W hW => (hC W hW).1)
        obtain ⟨x0, x1, y0, y1⟩ := HX.out _ hB
        have HBd := Lib.hid hB.drew
        replace hC := fun W hW => (hC W hW).2
        have HC := Lib.hid hC
        have H1 := Lib.hid h1
        have HB := Lib.hid hB
        by_cases hs : sgn (f k - g k) = 0
        · have HS := Lib.hid hs
          rw [hs] at HC
          clear hs h1 hC hB HB
          go_wp2_with fail
          go_region_held3 (fun W' => W'.cell? ⟨b, o + k * 2, none⟩ = some (.bool (decide (f k < 0))) ∧ W'.cell? ⟨b, o + k * 2 + 1, none⟩ = some (.slice B nb cb) ∧ W'.cell? ⟨b2, o2 + k * 2, none⟩ = some (.bool (decide (g k < 0))) ∧ W'.cell? ⟨b2, o2 + k * 2 + 1, none⟩ = some (.slice B2 nb2 cb2)) (first | (with_reducible exact ⟨x0, x1, y0, y1⟩) | go_keep)
            (first | (go_at_call 41; refine (HC.out _ HBd.out).mono ?_; rintro e w3 ⟨rfl, hb3⟩; have HB3 := Lib.hid (below_then HBd.out hb3); clear x0 x1 y0 y1 hb3; obtain ⟨x0, x1, y0, y1⟩ := HX.out _ HB3.out))
          go_wp2
          go_roundw
          case rel =>
            refine ⟨k + 1, by omega, by go_num, fun j hj => ?_, HB3.out⟩
            rcases Nat.lt_or_ge j k with hjk | hjk
            · exact H1.out j hjk
            · obtain rfl : j = k := by omega
              exact HS.out
          case measure => simp [intOf]; omega
        · have HR : Hid (firstTo (fun i => sgn (f i - g i)) n = sgn (f k - g k)) := firstTo_found (f := fun i => sgn (f i - g i)) h1 hs hlt
          generalize sgn (f k - g k) = s at *
          have hE2 : ((s : Int) != 0) = true := by simpa using hs
          have hE3 : ((s : Int) == 0) = false := by simpa using hs
          clear hs h1 hC hB HB
          go_wp2_with fail
          go_region_held3 (fun W' => W'.cell? ⟨b, o + k * 2, none⟩ = some (.bool (decide (f k < 0))) ∧ W'.cell? ⟨b, o + k * 2 + 1, none⟩ = some (.slice B nb cb) ∧ W'.cell? ⟨b2, o2 + k * 2, none⟩ = some (.bool (decide (g k < 0))) ∧ W'.cell? ⟨b2, o2 + k * 2 + 1, none⟩ = some (.slice B2 nb2 cb2)) (first | (with_reducible exact ⟨x0, x1, y0, y1⟩) | go_keep)
            (first | (go_at_call 41; refine (HC.out _ HBd.out).mono ?_; rintro e w3 ⟨rfl, hb3⟩; have HB3 := Lib.hid (below_then HBd.out hb3); clear x0 x1 y0 y1 hb3; obtain ⟨x0, x1, y0, y1⟩ := HX.out _ HB3.out))
          go_wp2
          go_ret2
          exact ⟨by rw [HR.out]; (try rfl), HB3.out⟩
      · have HR : Hid (firstTo (fun i => sgn (f i - g i)) n = 0) := firstTo_zero.2 fun i hi => h1 i (by omega)
        have HB := Lib.hid hB
        clear h1 hB
        go_wp2
        go_ret2
        exact ⟨by rw [HR.out]; (try rfl), HB.out⟩
  · rw [if_neg hz]
    have hE2 : ((E : Int) != 0) = true := by simpa using hz
    have hE3 : ((E : Int) == 0) = false := by simpa using hz
    clear hz HN
    go_enter Try.func18, Try.ntmps18
    go_wp2_with fail
    refine HA.out.mono ?_
    rintro e w1 ⟨rfl, hb1⟩
    go_wp2
    go_ret2
    exact ⟨rfl, hb1⟩
end
end Go.Proofs.Ytgiokmfdafmaoaa

/- The document's May, Check, Zero, Same, Great of rows. -/
namespace Go.Proofs.Ytgiokmfdafmaoaa
open Go.RowKit Go.Shelf
set_option linter.unusedVariables false
set_option linter.unusedSimpArgs false

section
variable {A A2 B B2 : Option Addr} {n c m d nb cb na ca g1 g2 g3 g4 k : Nat} {L M : List ZE} {w W : World} {z y : Int}
set_option maxRecDepth 100000 in
set_option maxHeartbeats 4000000 in
theorem rSameV_any : SameVIs 6 := fun A A2 n c m d L M w h h2 => by
  have HS : Hid (∀ (e x : ZE) (W : World), e ∈ L → x ∈ M → Below w.heap.size w W → Calls Try.prog 17 #[.agg #[.bool e.p, .slice e.A e.n e.c], .agg #[.bool x.p, .slice x.A x.n x.c]] W fun r w' => r = .returned (.bool (decide (e.p = x.p ∧ e.l = x.l))) ∧ Below W.heap.size W w') := fun e x W he hx hW =>
    rSameZ_any e.A x.A e.n e.c x.n x.c e.p x.p e.l x.l W ⟨((h.rd.ok e he).below hW).r, ((h2.rd.ok x hx).below hW).r, Nat.le_trans (h.small e he) (by omega), Nat.le_trans (h2.small x hx) (by omega), (h.rd.ok e he).c1, (h.rd.ok e he).c2, (h2.rd.ok x hx).c1, (h2.rd.ok x hx).c2⟩
  have hf1 := h.few
  have hf2 := h2.few
  have h := h.rd
  have h2 := h2.rd
  have HL := Lib.hid h.len
  have HL2 := Lib.hid h2.len
  by_cases hnm : n = m
  · subst hnm
    generalize hD : decide (keys L = keys M) = D
    have HX := Lib.hid hD
    clear hD
    go_enter Try.func6, Try.ntmps6
    go_wp2
    go_loopw [5] (fun i wr => ∃ k : Nat, k ≤ n ∧ i = .int .i64 (k : Int) ∧ (∀ j e x, j < k → L[j]? = some e → M[j]? = some x → ZE.key e = ZE.key x) ∧ Below w.heap.size w wr) (fun i _ => n - (intOf i).toNat)
    case atStart => exact ⟨0, by omega, rfl, fun j e x hj => absurd hj (by omega), Below.refl _ _⟩
    case round =>
      obtain ⟨k, hk, rfl, h1, hB⟩ := hrel
      by_cases hlt : k < n
      · obtain ⟨e, he, _⟩ := h.elem hlt
        have hm : e ∈ L := List.mem_of_getElem? he
        obtain ⟨b, o, hA, hbl, hcA, hcB⟩ := h.cell he
        obtain ⟨x, hx, _⟩ := h2.elem hlt
        have hm2 : x ∈ M := List.mem_of_getElem? hx
        obtain ⟨b2, o2, hA2, hbl2, hdA, hdB⟩ := h2.cell hx
        have HX0 := Lib.hid (fun W (hW : Below w.heap.size w W) => And.intro ((hW.cell (p := ⟨b, o + k * 2, none⟩) hbl).trans hcA) (And.intro ((hW.cell (p := ⟨b, o + k * 2 + 1, none⟩) hbl).trans hcB) (And.intro ((hW.cell (p := ⟨b2, o2 + k * 2, none⟩) hbl2).trans hdA) ((hW.cell (p := ⟨b2, o2 + k * 2 + 1, none⟩) hbl2).trans hdB))))
        obtain ⟨hc0, hc1, hd0, hd1⟩ := HX0.out _ hB
        subst hA
        subst hA2
        clear hcA hcB hdA hdB
        obtain ⟨p, A1, n1, c1, l1⟩ := e
        obtain ⟨q, A3, n3, c3, l3⟩ := x
        dsimp only at hc0 hc1 hd0 hd1 HX0
        have HB := Lib.hid hB
        have HM := Lib.hid (fun W hW => HS.out _ _ W hm hm2 hW)
        dsimp only at HM
        have HBd := Lib.hid hB.drew
        have HXc : Hid (∀ W, Below w.heap.size w W → W.cell? ⟨b, o + k * 2, none⟩ = some (.bool p) ∧ W.cell? ⟨b, o + k * 2 + 1, none⟩ = some (.slice A1 n1 c1) ∧ W.cell? ⟨b2, o2 + k * 2, none⟩ = some (.bool q) ∧ W.cell? ⟨b2, o2 + k * 2 + 1, none⟩ = some (.slice A3 n3 c3)) := HX0
        have H1 := Lib.hid h1
        have HE := Lib.hid (And.intro he hx)
        by_cases e1 : p = q ∧ l1 = l3
        · have HK := Lib.hid e1
          rw [decide_eq_true e1] at HM
          clear h1 hB h h2 hm hm2 he hx e1 HX0 HB
          go_wp2_with fail
          go_region_held3 (fun W' => W'.cell? ⟨b, o + k * 2, none⟩ = some (.bool p) ∧ W'.cell? ⟨b, o + k * 2 + 1, none⟩ = some (.slice A1 n1 c1) ∧ W'.cell? ⟨b2, o2 + k * 2, none⟩ = some (.bool q) ∧ W'.cell? ⟨b2, o2 + k * 2 + 1, none⟩ = some (.slice A3 n3 c3)) (first | (with_reducible exact ⟨hc0, hc1, hd0, hd1⟩) | go_keep)
            (first | (go_at_call 17; refine (HM.out _ HBd.out).mono ?_; rintro e w3 ⟨rfl, hb3⟩; have HB3 := Lib.hid (below_then HBd.out hb3); clear hc0 hc1 hd0 hd1 hb3; obtain ⟨hc0, hc1, hd0, hd1⟩ := HXc.out _ HB3.out))
          go_wp2
          go_roundw
          case rel =>
            refine ⟨k + 1, by omega, by go_num, fun j e x hj hje hjx => ?_, HB3.out⟩
            rcases Nat.lt_or_ge j k with hjk | hjk
            · exact H1.out j e x hjk hje hjx
            · obtain rfl : j = k := by omega
              rw [HE.out.1] at hje
              rw [HE.out.2] at hjx
              cases hje
              cases hjx
              exact (key_iff _ _).2 HK.out
          case measure => simp [intOf]; omega
        · have HR : Hid (decide (keys L = keys M) = false) := decide_eq_false (keys_ne he hx fun hk => e1 ((key_iff _ _).1 hk))
          rw [decide_eq_false e1] at HM
          clear h1 hB h h2 hm hm2 he hx e1 HX0 HB
          go_wp2_with fail
          go_region_held3 (fun W' => W'.cell? ⟨b, o + k * 2, none⟩ = some (.bool p) ∧ W'.cell? ⟨b, o + k * 2 + 1, none⟩ = some (.slice A1 n1 c1) ∧ W'.cell? ⟨b2, o2 + k * 2, none⟩ = some (.bool q) ∧ W'.cell? ⟨b2, o2 + k * 2 + 1, none⟩ = some (.slice A3 n3 c3)) (first | (with_reducible exact ⟨hc0, hc1, hd0, hd1⟩) | go_keep)
            (first | (go_at_call 17; refine (HM.out _ HBd.out).mono ?_; rintro e w3 ⟨rfl, hb3⟩; have HB3 := Lib.hid (below_then HBd.out hb3); clear hc0 hc1 hd0 hd1 hb3; obtain ⟨hc0, hc1, hd0, hd1⟩ := HXc.out _ HB3.out))
          go_wp2
          go_ret
          exact ⟨by rw [← HX.out, HR.out]; (try rfl), HB3.out⟩
      · have HR : Hid (decide (keys L = keys M) = true) := decide_eq_true (keys_eq HL.out HL2.out fun j e x hj hje hjx => h1 j e x (by omega) hje hjx)
        have HB := Lib.hid hB
        clear h1 hB h h2
        go_wp2
        go_ret
        exact ⟨by rw [← HX.out, HR.out]; (try rfl), HB.out⟩
  · have HR : Hid (decide (keys L = keys M) = false) := decide_eq_false fun e => by
      have e2 : (keys L).length = (keys M).length := by rw [e]
      rw [keys_len, keys_len, HL.out, HL2.out] at e2
      exact hnm e2
    rw [HR.out]
    have g1 : ¬ (n : Int) = (m : Int) := by omega
    clear h h2 HR
    go_enter Try.func6, Try.ntmps6
    go_wp2
    go_ret
    exact ⟨rfl, Below.refl _ _⟩
/-- Is a row of more than so many numbers, or one of them of more than so many limbs? -/
def greatV (L : List ZE) (many limbs : Nat) : Bool := decide (many < L.length) || L.any fun e => decide (limbs < e.n)
theorem great_no {L : List ZE} {many limbs : Nat} (h : greatV L many limbs = false) : L.length ≤ many ∧ ∀ e, e ∈ L → e.n ≤ limbs := by
  unfold greatV at h
  rw [Bool.or_eq_false_iff, List.any_eq_false] at h
  refine ⟨by simpa using h.1, fun e he => by simpa using h.2 e he⟩
set_option maxRecDepth 100000 in
set_option maxHeartbeats 4000000 in
theorem greatV_any {many limbs : Nat} (h : RdV w A n L) (hn : n ≤ 9223372036854775807) (hs : ∀ e, e ∈ L → e.n ≤ 9223372036854775807) : Calls Try.prog 10 #[.slice A n c, .int .i64 (many : Int), .int .i64 (limbs : Int)] w fun e w' => e = .returned (.bool (greatV L many limbs)) ∧ Below w.heap.size w w' := by
  have HL := Lib.hid h.len
  have HS := Lib.hid hs
  clear hs
  generalize hE : greatV L many limbs = E
  have HX := Lib.hid hE
  clear hE
  by_cases hmany : many < n
  · have HR : Hid (greatV L many limbs = true) := by show greatV L many limbs = true; unfold greatV; rw [HL.out, decide_eq_true hmany]; rfl
    have g1 : (many : Int) < (n : Int) := by omega
    clear h
    go_enter Try.func10, Try.ntmps10
    go_wp2
    go_ret
    exact ⟨by rw [← HX.out, HR.out]; (try rfl), Below.refl _ _⟩
  · have g1 : ¬ (many : Int) < (n : Int) := by omega
    go_enter Try.func10, Try.ntmps10
    go_wp2
    go_loopw [7] (fun i wr => ∃ k : Nat, k ≤ n ∧ i = .int .i64 (k : Int) ∧ (∀ j e, j < k → L[j]? = some e → e.n ≤ limbs) ∧ Below w.heap.size w wr) (fun i _ => n - (intOf i).toNat)
    case atStart => exact ⟨0, by omega, rfl, fun j e hj => absurd hj (by omega), Below.refl _ _⟩
    case round =>
      obtain ⟨k, hk, rfl, h1, hB⟩ := hrel
      by_cases hlt : k < n
      · obtain ⟨e, he, _⟩ := h.elem hlt
        have hm : e ∈ L := List.mem_of_getElem? he
        obtain ⟨b, o, rfl, hbl, hc0, hc1⟩ := (h.below hB).cell he
        have hz2 := HS.out e hm
        have HN : Hid (limbs < e.n → greatV L many limbs = true) := fun e1 => by
          unfold greatV
          rw [Bool.or_eq_true]
          exact .inr (List.any_eq_true.2 ⟨e, hm, decide_eq_true e1⟩)
        obtain ⟨p, A1, n1, c1, l1⟩ := e
        dsimp only at hc0 hc1 hz2 HN
        have HB := Lib.hid hB
        have H1 := Lib.hid h1
        have HE := Lib.hid he
        clear h1 hB h hm he
        by_cases e1 : limbs < n1
        · have HR := Lib.hid (HN.out e1)
          have g2 : (limbs : Int) < (n1 : Int) := by omega
          clear HN
          go_wp2
          go_ret
          exact ⟨by rw [← HX.out, HR.out]; (try rfl), HB.out⟩
        · have g2 : ¬ (limbs : Int) < (n1 : Int) := by omega
          clear HN
          go_wp2
          go_roundw
          case rel =>
            refine ⟨k + 1, by omega, by go_num, fun j e hj hje => ?_, HB.out⟩
            rcases Nat.lt_or_ge j k with hjk | hjk
            · exact H1.out j e hjk hje
            · obtain rfl : j = k := by omega
              rw [HE.out] at hje
              cases hje
              exact Nat.le_of_not_lt e1
          case measure => simp [intOf]; omega
      · have HR : Hid (greatV L many limbs = false) := by
          show greatV L many limbs = false
          unfold greatV
          rw [Bool.or_eq_false_iff]
          refine ⟨decide_eq_false (by rw [HL.out]; exact hmany), List.any_eq_false.2 fun e he => ?_⟩
          obtain ⟨j, hj⟩ := List.getElem?_of_mem he
          have hjl := (List.getElem?_eq_some_iff.1 hj).1
          rw [HL.out] at hjl
          have := h1 j e (by omega) hj
          simpa using this
        have HB := Lib.hid hB
        clear h1 hB h
        go_wp2
        go_ret
        exact ⟨by rw [← HX.out, HR.out]; (try rfl), HB.out⟩
end
end Go.Proofs.Ytgiokmfdafmaoaa

/- vec: Dot. -/
namespace Go.Proofs.Ytgiokmfdafmaoaa
open Go.RowKit Go.Shelf
set_option linter.unusedVariables false
set_option linter.unusedSimpArgs false

theorem sum_bd {f : Nat → Int} {X : Nat} (n : Nat) (h : ∀ i, i < n → (f i).natAbs < X) : ∀ k, k ≤ n → (sumTo f k).natAbs ≤ k * X := by
  intro k
  induction k with
  | zero => intro _; simp [sumTo]
  | succ k ih =>
    intro hk
    have h1 := ih (by omega)
    have h2 := h k (by omega)
    rw [sumTo, Nat.succ_mul]
    have h3 := Int.natAbs_add_le (sumTo f k) (f k)
    omega
theorem sum_Bd {f : Nat → Int} {n j : Nat} (hn : n ≤ 1000) (h : BdV j n f) {k : Nat} (hk : k ≤ n) : Bd (j + 1) (sumTo f k) := by
  have h1 := sum_bd n h k hk
  unfold Bd
  have h2 : k * B64 ^ j ≤ 1000 * B64 ^ j := Nat.mul_le_mul_right _ (by omega)
  have h3 : 1000 * B64 ^ j < B64 * B64 ^ j := Nat.mul_lt_mul_of_pos_right (by rw [B64_eq]; omega) (Nat.pow_pos B64_pos)
  rw [Nat.pow_succ, Nat.mul_comm]
  omega
theorem set_numV {w : World} {g n c : Nat} {p : Bool} {A : Option Addr} (h : BoxZ w g p A n c) (q : Bool) (B : Option Addr) (m d : Nat) : BoxZ ((w.setCell ⟨g, 0, none⟩ (.bool q)).setCell ⟨g, 1, none⟩ (.slice B m d)) g q B m d := by
  have h1 := Go.Joins.block_setCell (i := 0) h (.bool q)
  exact Go.Joins.block_setCell (i := 1) h1 (.slice B m d)
section
variable {A A2 B B2 : Option Addr} {n c m d nb cb na ca g1 g2 g3 g4 k : Nat} {L M : List ZE} {w W : World} {z y : Int}
set_option maxRecDepth 100000 in
set_option maxHeartbeats 4000000 in
theorem dotV_is : DotIs 11 := fun A A2 n c m d L M w h h2 => by
  have hmf : ∀ (fn : Fn) (first cap : Array Value) (w : World), (Instr.makeFunc fn first cap).run Try.prog w = .ok (.func fn first cap) w := fun _ _ _ _ => rfl
  have T1 : Below w.heap.size w (((w.alloc (bv A n c)).alloc (bv A2 m d)).alloc (zo false none 0 0)) := below_then (below_then (bxb _ _) (bxb _ _)) (bxb _ _)
  have X1 : BoxV (((w.alloc (bv A n c)).alloc (bv A2 m d)).alloc (zo false none 0 0)) w.heap.size A n c := BoxV.next (BoxV.next (w := w.alloc (bv A n c)) (World.alloc_heap_new _ _) (bxb _ _)) (bxb _ _)
  have Y1 : BoxV (((w.alloc (bv A n c)).alloc (bv A2 m d)).alloc (zo false none 0 0)) (w.heap.size + 1) A2 m d := by
    have h := World.alloc_heap_new (w.alloc (bv A n c)) (bv A2 m d)
    rw [World.size_alloc] at h
    exact BoxV.next h (bxb _ _)
  have R1 : BoxZ (((w.alloc (bv A n c)).alloc (bv A2 m d)).alloc (zo false none 0 0)) (w.heap.size + 1 + 1) false none 0 0 := by
    have h := World.alloc_heap_new ((w.alloc (bv A n c)).alloc (bv A2 m d)) (zo false none 0 0)
    rw [World.size_alloc, World.size_alloc] at h
    exact h
  have HJ : Hid (∀ (W : World) (g1 g2 : Nat), Below w.heap.size w W → BoxV W g1 A n c → BoxV W g2 A2 m d → Calls Try.prog 25 #[.slice A n c, .slice A2 m d, .func (.func 26) #[] #[.pointer (some ⟨g1, 0, none⟩), .pointer (some ⟨g2, 0, none⟩)]] W (KAll W (decide (twoVE L M = 0)) n (numK (fun i => zat L i * zat M i)) (twoVE L M))) := fun W g1 g2 hW hx hy =>
    joinedV2_any _ _ _ (enters_of Try.func26 (by kernel_rfl) rfl) _ (h.below hW) (h2.below hW) fun he k hk V hV => dotClo_any (hx.next hV) (hy.next hV) ((h.below hW).below hV) ((h2.below hW).below hV) he hk
  have HQ : Hid (twoVE L M = 0 → BdV 120 n (fun i => zat L i * zat M i)) := fun he i hi => by
    obtain ⟨hm1, hm2, hl⟩ := two_may he
    have hi2 : i < m := by rw [← h2.rd.len, ← hl, h.rd.len]; exact hi
    exact ((h.bd hm1) i hi).mul ((h2.bd hm2) i hi2)
  have hf := h.few
  clear h h2
  generalize (fun i => zat L i * zat M i) = f at *
  have x0 := X1.c0
  have y0 := Y1.c0
  have r0 := R1.c0
  have r1 := R1.c1
  have f0 := R1.f 0
  have f1 := R1.f 1
  generalize twoVE L M = E at *
  by_cases hz : E = 0
  · subst hz
    rw [if_pos rfl]
    have hq := Lib.hid (HQ.out rfl)
    clear HQ
    rw [show decide ((0 : Int) = 0) = true from rfl] at HJ
    unfold KAll at HJ
    simp only [if_true] at HJ
    go_enter Try.func11, Try.ntmps11
    go_wp2_with fail
    refine (HJ.out _ w.heap.size (w.heap.size + 1) T1 X1 Y1).mono ?_
    rintro e w2 ⟨A3, c3, R, rfl, hO, hK, hb2⟩
    have HI := Lib.hid (isv_key hO.len hK)
    have HO := Lib.hid hO
    have HB := Lib.hid (below_then T1 hb2)
    have hn3 := hO.cap.1
    have hc3 := hO.cap.2
    have hb4 := bxb w2 (zo false none 0 0)
    have HR2 := Lib.hid (R1.below hb2 (Array.getElem?_eq_some_iff.1 R1).1)
    have hRs : w.heap.size + 1 + 1 < w2.heap.size := (Array.getElem?_eq_some_iff.1 HR2.out).1
    have T4 : BoxZ (w2.alloc (zo false none 0 0)) w2.heap.size false none 0 0 := World.alloc_heap_new _ _
    clear hO hK hb2 T1 X1 Y1 R1 x0 y0 r0 r1 f0 f1 HJ hmf
    go_wp2
    go_loopw [24] (fun i wr => ∃ (k : Nat) (A4 : Option Addr) (n4 c4 : Nat), k ≤ n ∧ i = .int .i64 (k : Int) ∧ BoxZ wr w2.heap.size (decide (sumTo f k < 0)) A4 n4 c4 ∧ Own wr (w2.heap.size + 1) (.slice A4 n4 c4) (limbs (sumTo f k).natAbs) ∧ Below w2.heap.size w2 wr) (fun i _ => n - (intOf i).toNat)
    case atStart => exact ⟨0, none, 0, 0, by omega, rfl, T4, by rw [show (sumTo f 0).natAbs = 0 from rfl, limbs_zero]; exact own_nil _ _, hb4⟩
    case round =>
      obtain ⟨k, A4, n4, c4, hk, rfl, hX, hOw, hB⟩ := hrel
      have r0 := hX.c0
      have r1 := hX.c1
      have f0 := hX.f 0
      have f1 := hX.f 1
      have hXl := (Array.getElem?_eq_some_iff.1 hX).1
      by_cases hlt : k < n
      · have hR := HO.out.rd.below (w' := wr) hB
        obtain ⟨e, he, hok⟩ := hR.elem hlt
        obtain ⟨b, o, rfl, hbl, hc0, hc1⟩ := hR.cell he
        have hi := HI.out.num k e he
        have hbk := (hq.out) k hlt
        have hzn : ZNm wr e.A e.n e.c (f k) := ⟨by have hr := hok.r; rw [hi.2] at hr; exact hr, hok.c1, hok.c2⟩
        have hl4 : e.n ≤ 121 := hzn.len (hbk.mono (by omega))
        have hl5 : n4 ≤ 121 := (sum_Bd hf hq.out hk).len hOw
        have HS := Lib.hid (fun W (hW : Below wr.heap.size wr W) => sumV_any (w := W) (hOw.nm.below hW) (hzn.below hW) (by omega) (by omega))
        rw [hi.1] at hc0
        have hsk : sumTo f k + f k = sumTo f (k + 1) := rfl
        rw [hsk] at HS
        obtain ⟨p, A1, n1, c1, l1⟩ := e
        dsimp only at hc0 hc1 HS
        have hb5 := bxb wr (zo (decide (f k < 0)) A1 n1 c1)
        have HX5 := Lib.hid (hX.below hb5 hXl)
        have HB5 := Lib.hid (hB.trans (hb5.mono hB.size))
        have HP5 : Hid (BoxZ (wr.alloc (zo (decide (f k < 0)) A1 n1 c1)) wr.heap.size (decide (f k < 0)) A1 n1 c1) := World.alloc_heap_new _ _
        have HBe0 := Lib.hid hb5
        clear hi hok hR hzn hbk he hb5 hX hOw r0 r1 f0 f1
        have r0 := HX5.out.c0
        have r1 := HX5.out.c1
        have f0 := HX5.out.f 0
        have f1 := HX5.out.f 1
        have p0 := HP5.out.c0
        have p1 := HP5.out.c1
        unfold ZOne zV zv at HS
        generalize hsg : decide (sumTo f k < 0) = sg at *
        generalize hst : sumTo f (k + 1) = s1 at *
        generalize hsf : decide (f k < 0) = sf at *
        have HS1 := Lib.hid hst
        clear hsk hsg hst hsf
        go_wp2_with fail
        refine (HS.out _ HBe0.out).mono ?_
        rintro e w3 ⟨A5, k5, c5, rfl, o5, hb3⟩
        have HX6 := Lib.hid (HX5.out.below hb3 (Nat.lt_of_lt_of_le hXl (by rw [World.size_alloc]; omega)))
        have HB6 := Lib.hid (HB5.out.trans (hb3.mono HB5.out.size))
        have HO6 := Lib.hid (own_mono o5 (show w2.heap.size + 1 ≤ (wr.alloc (zo sf A1 n1 c1)).heap.size by rw [World.size_alloc]; omega))
        have HO7 := Lib.hid (own_far (own_far HO6.out (p := ⟨w2.heap.size, 0, none⟩) (Nat.lt_succ_self _) (.bool (decide (s1 < 0)))) (p := ⟨w2.heap.size, 1, none⟩) (Nat.lt_succ_self _) (.slice A5 k5 c5))
        clear hb3 o5 r0 r1 f0 f1 p0 p1
        have r0 := HX6.out.c0
        have r1 := HX6.out.c1
        have f0 := HX6.out.f 0
        have f1 := HX6.out.f 1
        go_wp2
        go_roundw
        case rel => exact ⟨k + 1, A5, k5, c5, by omega, by go_num, by rw [HS1.out]; exact set_numV HX6.out _ _ _ _, by rw [HS1.out]; exact HO7.out, box_below (Nat.le_refl _) HB6.out _ _⟩
        case measure => simp [intOf]; omega
      · obtain rfl : k = n := by omega
        have HRr := Lib.hid (HR2.out.below hB hRs)
        have HOw := Lib.hid hOw
        have HBf := Lib.hid (below_then HB.out hB)
        clear hX hOw hB
        have q0 := HRr.out.c0
        have q1 := HRr.out.c1
        have g0 := HRr.out.f 0
        have g1 := HRr.out.f 1
        generalize sumTo f k = s at *
        go_wp2
        refine bodyPost_ret (v := .tuple #[zV s A4 n4 c4, .int .i64 0]) (by simp [results, Try.results11, go_sem, q0, q1, zV, zv]) rfl ?_
        exact ⟨A4, n4, c4, rfl, own_mono (own_far (own_far HOw.out (p := ⟨w.heap.size + 1 + 1, 0, none⟩) (by show w.heap.size + 1 + 1 < _; omega) _) (p := ⟨w.heap.size + 1 + 1, 1, none⟩) (by show w.heap.size + 1 + 1 < _; omega) _) (by omega), box_below (show w.heap.size ≤ w.heap.size + 1 + 1 by omega) HBf.out _ _⟩
  · rw [if_neg hz]
    rw [decide_eq_false hz] at HJ
    unfold KAll at HJ
    simp only [Bool.false_eq_true, if_false] at HJ
    have hE2 : ((E : Int) != 0) = true := by simpa using hz
    have hE3 : ((E : Int) == 0) = false := by simpa using hz
    clear hz HQ
    go_enter Try.func11, Try.ntmps11
    go_wp2_with fail
    refine (HJ.out _ w.heap.size (w.heap.size + 1) T1 X1 Y1).mono ?_
    rintro e w2 ⟨rfl, hb2⟩
    have HB := Lib.hid (below_then T1 hb2)
    have HR2 := R1.below hb2 (Array.getElem?_eq_some_iff.1 R1).1
    clear x0 y0 r0 r1 f0 f1 T1 X1 Y1 R1 hb2
    have r0 := HR2.c0
    have r1 := HR2.c1
    have f0 := HR2.f 0
    have f1 := HR2.f 1
    go_wp2
    refine bodyPost_ret (v := .tuple #[zV 0 none 0 0, .int .i64 E]) (by simp [results, Try.results11, go_sem, r0, r1, zV, zv]) rfl ?_
    exact ⟨none, 0, 0, rfl, by rw [show Int.natAbs 0 = 0 from rfl, limbs_zero]; exact own_nil _ _, box_below (show w.heap.size ≤ w.heap.size + 1 + 1 by omega) HB.out _ _⟩
end
end Go.Proofs.Ytgiokmfdafmaoaa

/- vec: Of. -/
namespace Go.Proofs.Ytgiokmfdafmaoaa
open Go.RowKit Go.Shelf
set_option linter.unusedVariables false
set_option linter.unusedSimpArgs false

abbrev isT : TypeId := 22
/-- A slice of n ints. -/
structure RdN (w : World) (A : Option Addr) (n : Nat) (X : List Int) : Prop where
  len : X.length = n
  ok : ∀ x, x ∈ X → -9223372036854775808 ≤ x ∧ x ≤ 9223372036854775807
  cells : 0 < n → ∃ b o, A = some ⟨b, o, none⟩ ∧ b < w.heap.size ∧ ∀ i x, X[i]? = some x → w.cell? ⟨b, o + i, none⟩ = some (.int .i64 x)
theorem RdN.below {w w' : World} {A : Option Addr} {n : Nat} {X : List Int} (h : RdN w A n X) (hb : Below w.heap.size w w') : RdN w' A n X :=
  ⟨h.len, h.ok, fun hn => by
    obtain ⟨b, o, e, hlt, hc⟩ := h.cells hn
    exact ⟨b, o, e, Nat.lt_of_lt_of_le hlt hb.size, fun i x hx => (hb.cell (p := ⟨b, o + i, none⟩) hlt).trans (hc i x hx)⟩⟩
/-- Ints that a call lays. -/
theorem rdn_new {w : World} {g : Nat} {cs : Array Value} {T : TypeId} {X : List Int} (hg : w.heap[g]? = some (.cells cs T)) (hc : cs.toList = X.map (Value.int .i64)) (hX : ∀ x, x ∈ X → -9223372036854775808 ≤ x ∧ x ≤ 9223372036854775807) : RdN w (some ⟨g, 0, none⟩) X.length X := by
  refine ⟨rfl, hX, fun _ => ⟨g, 0, rfl, (Array.getElem?_eq_some_iff.1 hg).1, fun i x hx => ?_⟩⟩
  refine cells_cell hg ?_
  rw [Nat.zero_add, ← Array.getElem?_toList, hc, List.getElem?_map, hx]
  rfl
/-- The ints as a row. -/
def iat (X : List Int) (i : Nat) : Int := X.getD i 0
theorem iat_some {X : List Int} {i : Nat} {x : Int} (h : X[i]? = some x) : iat X i = x := by unfold iat; rw [List.getD_eq_getElem?_getD, h]; rfl
abbrev bi (A : Option Addr) (n c : Nat) : Obj := .cells #[.slice A n c] isT
def BoxI (w : World) (g : Nat) (A : Option Addr) (n c : Nat) : Prop := w.heap[g]? = some (bi A n c)
section
variable {A A2 B B2 : Option Addr} {n c m d nb cb na ca g1 g2 g3 g4 k : Nat} {L M : List ZE} {w W : World} {z y : Int}
variable {X : List Int}
theorem BoxI.lt (h : BoxI w g1 A n c) : g1 < w.heap.size := (Array.getElem?_eq_some_iff.1 h).1
theorem BoxI.next (h : BoxI w g1 A n c) (hb : Below w.heap.size w W) : BoxI W g1 A n c := (hb.block g1 h.lt).trans h
theorem BoxI.c0 (h : BoxI w g1 A n c) : w.cell? ⟨g1, 0, none⟩ = some (.slice A n c) := cells_cell h rfl
set_option maxRecDepth 100000 in
set_option maxHeartbeats 4000000 in
theorem ofClo_any (hx : BoxI w g1 A n c) (h : RdN w A n X) (hk : k < n) : Calls Try.prog 22 #[.int .i64 (k : Int), .pointer (some ⟨g1, 0, none⟩)] w (KAns w (numK (iat X) k).1 (numK (iat X) k).2) := by
  obtain ⟨b, o, rfl, hb, hc⟩ := h.cells (by omega)
  obtain ⟨x, hxk⟩ : ∃ x, X[k]? = some x := ⟨X[k]'(by rw [h.len]; exact hk), List.getElem?_eq_getElem _⟩
  have hok := h.ok x (List.mem_of_getElem? hxk)
  have y0 := hc k x hxk
  have e := iat_some hxk
  have T0 := uno_box w false none 0 0
  have HM := Lib.hid (fun W => wOf_any (w := W) x hok.1 hok.2)
  have HC : Hid (∀ W', Below w.heap.size w W' → W'.cell? ⟨g1, 0, none⟩ = some (.slice (some ⟨b, o, none⟩) n c) ∧ W'.cell? ⟨b, o + k, none⟩ = some (.int .i64 x)) := fun W' hW => ⟨(hx.next hW).c0, (hW.cell (p := ⟨b, o + k, none⟩) hb).trans y0⟩
  have r0 := T0.x.c0
  have r1 := T0.x.c1
  have f0 := T0.x.f 0
  have f1 := T0.x.f 1
  have HT0 := Lib.hid (T0.next (Below.refl _ _).drew)
  clear y0
  obtain ⟨c0, y0⟩ := HC.out _ T0.b
  have hl1 := hx.lt
  rw [numK_at e]
  clear h hx hc hxk e
  unfold KAns
  dsimp only
  unfold ZOne zV zv at HM
  go_enter Try.func22, Try.ntmps22
  go_wp2_with fail
  refine (HM.out _).mono ?_
  rintro e w1 ⟨A3, k3, c3, rfl, o3, hb3⟩
  have T1 := T0.next hb3
  clear r0 r1 f0 f1 c0 y0
  have r0 := T1.x.c0
  have r1 := T1.x.c1
  have f0 := T1.x.f 0
  have f1 := T1.x.f 1
  have hG := Lib.hid (Array.getElem?_eq_some_iff.1 T0.x).1
  go_wp2
  refine bodyPost_ret (v := .agg #[.bool (decide (x < 0)), .slice A3 k3 c3]) (by simp [results, Try.results22, go_sem, r0, r1]) rfl ?_
  exact ⟨A3, k3, c3, rfl, own_box hG.out (Nat.le_refl _) o3 _ _, box_below (Nat.le_refl _) T1.b _ _⟩
/-- A call answered the row of these ints, in new memory. -/
def NAns (w : World) (n : Nat) (f : Nat → Int) (e : Ending) (w' : World) : Prop := ∃ (A : Option Addr) (c : Nat) (L : List ZE), e = .returned (.slice A n c) ∧ NewV w' w.heap.size A n c L f ∧ Below w.heap.size w w'
set_option maxRecDepth 100000 in
set_option maxHeartbeats 4000000 in
theorem ofV_any (h : RdN w A n X) (hn : n ≤ 1000) (hc1 : n ≤ c) (hc2 : c ≤ 9223372036854775807) : Calls Try.prog 7 #[.slice A n c] w (NAns w n (iat X)) := by
  have hmf : ∀ (fn : Fn) (first cap : Array Value) (w : World), (Instr.makeFunc fn first cap).run Try.prog w = .ok (.func fn first cap) w := fun _ _ _ _ => rfl
  have T1 := bxb w (bi A n c)
  have X1 : BoxI (w.alloc (bi A n c)) w.heap.size A n c := World.alloc_heap_new _ _
  have HP : Hid (∀ (W : World) (g1 : Nat), Below w.heap.size w W → BoxI W g1 A n c → Calls Try.prog 21 #[.int .i64 (n : Int), .func (.func 22) #[] #[.pointer (some ⟨g1, 0, none⟩)]] W (KRow W n (numK (iat X)))) := fun W g1 hW hx =>
    placedV1_any _ _ (enters_of Try.func22 (by kernel_rfl) rfl) n hn _ W fun k hk V hV => ofClo_any (hx.next hV) ((h.below hW).below hV) hk
  have x0 := X1.c0
  unfold KRow at HP
  unfold NAns
  clear h
  go_enter Try.func7, Try.ntmps7
  go_wp2_with fail
  refine (HP.out _ w.heap.size T1 X1).mono ?_
  rintro e w2 ⟨A3, c3, R, rfl, hO, hK, hb2⟩
  have HO : Hid (NewV w2 w.heap.size A3 n c3 R (iat X)) := ⟨hO.mono T1.size, isv_key hO.len hK⟩
  have HB := Lib.hid (below_then T1 hb2)
  clear hO hK hb2 T1 X1 x0 HP hmf
  go_wp2
  go_ret
  exact ⟨A3, c3, R, rfl, HO.out, HB.out⟩
/-- Of of a few small ints that are laid for it. -/
theorem ofL_any {g : Nat} {cs : Array Value} {T : TypeId} (X : List Int) (hg : w.heap[g]? = some (.cells cs T)) (hc : cs.toList = X.map (Value.int .i64)) (hX : ∀ x, x ∈ X → -1000 ≤ x ∧ x ≤ 1000) (hl : X.length ≤ 60) : Calls Try.prog 7 #[.slice (some ⟨g, 0, none⟩) X.length X.length] w (NAns w X.length (iat X)) :=
  ofV_any (rdn_new hg hc fun x hx => by have := hX x hx; omega) (by omega) (Nat.le_refl _) (by omega)
end
end Go.Proofs.Ytgiokmfdafmaoaa

/- What a law over rows holds; rows told by keys. -/
namespace Go.Proofs.Ytgiokmfdafmaoaa
open Go.RowKit Go.Shelf
set_option linter.unusedVariables false
set_option linter.unusedSimpArgs false

/-- A row. -/
structure IV where
  A : Option Addr
  n : Nat
  c : Nat
  L : List ZE
def HeldV (W : World) (l : List IV) : Prop := ∀ i, i ∈ l → V1 W i.A i.n i.c i.L
theorem heldv_nil (W : World) : HeldV W [] := fun i hi => by cases hi
theorem HeldV.next {W W' : World} {l : List IV} (h : HeldV W l) (hb : Below W.heap.size W W') : HeldV W' l := fun i hi => (h i hi).below hb
theorem HeldV.cons {W : World} {l : List IV} {A : Option Addr} {n c : Nat} {L : List ZE} (h : HeldV W l) (hi : V1 W A n c L) : HeldV W (⟨A, n, c, L⟩ :: l) := fun j hj => by
  rcases List.mem_cons.1 hj with rfl | hj
  · exact hi
  · exact h j hj
/-- All of a row depends on its keys. -/
theorem keys_get {L M : List ZE} (h : keys L = keys M) (i : Nat) : (L[i]?).map ZE.key = (M[i]?).map ZE.key := by
  have h1 : (keys L)[i]? = (keys M)[i]? := by rw [h]
  unfold keys at h1
  rwa [List.getElem?_map, List.getElem?_map] at h1
theorem keys_length {L M : List ZE} (h : keys L = keys M) : L.length = M.length := by rw [← keys_len, ← keys_len, h]
theorem keys_zat {L M : List ZE} (h : keys L = keys M) : zat L = zat M := by
  funext i
  have h1 := keys_get h i
  unfold zat
  cases hL : L[i]? with
  | none =>
    rw [hL] at h1
    cases hM : M[i]? with
    | none => rfl
    | some x => rw [hM] at h1; cases h1
  | some e =>
    rw [hL] at h1
    cases hM : M[i]? with
    | none => rw [hM] at h1; cases h1
    | some x =>
      rw [hM] at h1
      have h2 := (key_iff e x).1 (by simpa using h1)
      show zof e.p e.l = zof x.p x.l
      rw [h2.1, h2.2]
theorem keys_all {L M : List ZE} (h : keys L = keys M) (f : Bool → List Nat → Bool) : (L.all fun e => f e.p e.l) = (M.all fun e => f e.p e.l) := by
  have h1 : ∀ K : List ZE, (K.all fun e => f e.p e.l) = (keys K).all fun x => f x.1 x.2 := fun K => by
    unfold keys
    rw [List.all_map]
    rfl
  rw [h1, h1, h]
theorem keys_mayR {L M : List ZE} (h : keys L = keys M) : mayR L = mayR M := by
  unfold mayR mayV
  rw [keys_all h (fun p l => mayZ p l), keys_length h]
theorem keys_noughts {L M : List ZE} (h : keys L = keys M) : noughts L = noughts M := by
  unfold noughts
  exact keys_all h (fun p l => !p && l.isEmpty)
theorem keys_two {L L2 M : List ZE} (h : keys L = keys L2) : twoVE L M = twoVE L2 M := by
  unfold twoVE
  rw [keys_mayR h, keys_length h]
/-- A row that is so many values of f. -/
theorem isv_len {L : List ZE} {n : Nat} {f : Nat → Int} (h : IsV L n f) : L.length = n := h.len
theorem isv_mayR {L : List ZE} {n : Nat} {f : Nat → Int} (h : IsV L n f) (hn : n ≤ 64) : mayR L = true := newv_may h hn
theorem isv_zat {L : List ZE} {n : Nat} {f : Nat → Int} (h : IsV L n f) {i : Nat} (hi : i < n) : zat L i = f i := h.zat hi
theorem two_ok {L M : List ZE} {n : Nat} (h1 : mayR L = true) (h2 : mayR M = true) (l1 : L.length = n) (l2 : M.length = n) : twoVE L M = 0 := by
  unfold twoVE
  rw [h1, h2, Bool.and_true, if_pos rfl, if_pos (l1.trans l2.symm)]
theorem mayR_le {L : List ZE} (h : mayR L = true) : L.length ≤ 64 := by
  unfold mayR at h
  rw [Bool.and_eq_true] at h
  simpa using h.2
/-- How long a row's numbers are. -/
theorem V1.bdk {w : World} {A : Option Addr} {n c j : Nat} {L : List ZE} (h : V1 w A n c L) (hm : mayR L = true) (hs : ∀ e, e ∈ L → e.n ≤ j) : BdV j n (zat L) := fun i hi => by
  obtain ⟨e, he, hok⟩ := h.rd.elem hi
  have hr := hok.r
  have h1 := (h.isv hm).num i e he
  rw [h1.2] at hr
  exact Bd.of ⟨hr, hok.c1, hok.c2⟩ (hs e (List.mem_of_getElem? he))
theorem BdV.mono {j k n : Nat} {f : Nat → Int} (h : BdV j n f) (hjk : j ≤ k) : BdV k n f := fun i hi => (h i hi).mono hjk
theorem BdV.congr {j n : Nat} {f g : Nat → Int} (h : BdV j n f) (hfg : ∀ i, i < n → f i = g i) : BdV j n g := fun i hi => by rw [← hfg i hi]; exact h i hi
/-- Small ints as a row. -/
theorem iat_bd {X : List Int} (hX : ∀ x, x ∈ X → -1000 ≤ x ∧ x ≤ 1000) : BdV 1 X.length (iat X) := fun i hi => by
  have h1 := iat_some (List.getElem?_eq_getElem hi)
  rw [h1]
  have h2 := hX _ (List.getElem_mem hi)
  unfold Bd
  have h3 : B64 ^ 1 = 18446744073709551616 := by rw [Nat.pow_one, B64_eq]
  omega
section
end
end Go.Proofs.Ytgiokmfdafmaoaa

/- vec's calls of rows that may be. -/
namespace Go.Proofs.Ytgiokmfdafmaoaa
open Go.RowKit Go.Shelf
set_option linter.unusedVariables false
set_option linter.unusedSimpArgs false

/-- A call answered the row of f's first n values, in new memory, and no error. -/
def TAns (w : World) (n : Nat) (f : Nat → Int) (e : Ending) (w' : World) : Prop := ∃ (A : Option Addr) (c : Nat) (L : List ZE), e = .returned (.tuple #[.slice A n c, .int .i64 0]) ∧ NewV w' w.heap.size A n c L f ∧ Below w.heap.size w w'
theorem VAns.t {w w' : World} {n : Nat} {f g : Nat → Int} {E : Int} {e : Ending} (h : VAns w true n f E e w') (hfg : ∀ i, i < n → f i = g i) : TAns w n g e w' := by
  unfold VAns at h
  rw [if_pos rfl] at h
  obtain ⟨A, c, L, he, hN, hb⟩ := h
  exact ⟨A, c, L, he, ⟨hN.o, hN.v.congr hfg⟩, hb⟩
theorem isv_two {L M : List ZE} {n : Nat} {f g : Nat → Int} (i : IsV L n f) (j : IsV M n g) (hn : n ≤ 64) : twoVE L M = 0 := two_ok (isv_mayR i hn) (isv_mayR j hn) i.len j.len
theorem isv_keys {L M : List ZE} {n : Nat} {f g : Nat → Int} (i : IsV L n f) (j : IsV M n g) : keys L = keys M ↔ ∀ k, k < n → f k = g k :=
  ⟨fun h k hk => i.keys j h hk, fun h => (i.congr h).same j⟩
theorem isv_noughts {L : List ZE} {n : Nat} {f : Nat → Int} (h : IsV L n f) : noughts L = true ↔ ∀ k, k < n → f k = 0 := by
  constructor
  · intro hN k hk
    unfold noughts at hN
    rw [List.all_eq_true] at hN
    have hk2 : k < L.length := by rw [h.len]; exact hk
    have h1 := hN _ (List.getElem_mem hk2)
    have h2 := h.num k _ (List.getElem?_eq_getElem hk2)
    rw [Bool.and_eq_true] at h1
    have h3 : (L[k]).l = [] := by simpa using h1.2
    rw [h3] at h2
    have h4 := limbs_eq_nil.1 h2.2.symm
    omega
  · intro hf
    refine noughts_yes h.len fun k e hk he => ?_
    have h2 := h.num k e he
    rw [hf k hk] at h2
    exact ⟨by rw [h2.1]; rfl, by rw [h2.2]; exact limbs_zero⟩
section
variable {A A2 B B2 : Option Addr} {n c m d nb cb na ca g1 g2 g3 g4 k : Nat} {L M : List ZE} {w W : World} {z y : Int}
variable {f g : Nat → Int}
theorem numZ1 {B : Option Addr} (h : ZNm w B nb cb z) (lb : nb ≤ 60) : Z1 w B nb cb (limbs z.natAbs) := ⟨h.rd, by omega, h.nc, h.cm⟩
theorem dotR (h : V1 w A n c L) (h2 : V1 w A2 n d M) (i : IsV L n f) (j : IsV M n g) (hn : n ≤ 64) : Calls Try.prog 11 #[.slice A n c, .slice A2 n d] w (ZAns w (sumTo (fun i => f i * g i) n) 0) := by
  have hc := dotV_is A A2 n c n d L M w h h2
  rw [isv_two i j hn, if_pos rfl, sumTo_congr (g := fun i => f i * g i) fun k hk => by rw [i.zat hk, j.zat hk]] at hc
  exact hc
theorem addR (h : V1 w A n c L) (h2 : V1 w A2 n d M) (i : IsV L n f) (j : IsV M n g) (hn : n ≤ 64) : Calls Try.prog 16 #[.slice A n c, .slice A2 n d] w (TAns w n (fun i => f i + g i)) := by
  have hc := addV_is A A2 n c n d L M w h h2
  rw [isv_two i j hn, show decide ((0 : Int) = 0) = true from rfl] at hc
  exact hc.mono fun e w' ha => ha.t fun k hk => by rw [i.zat hk, j.zat hk]
theorem scaleR (h : V1 w A n c L) (hb : ZNm w B nb cb z) (lb : nb ≤ 60) (i : IsV L n f) (hn : n ≤ 64) : Calls Try.prog 15 #[.slice A n c, .agg #[.bool (decide (z < 0)), .slice B nb cb]] w (TAns w n (fun i => f i * z)) := by
  have hc := scaleV_is A B n c nb cb (decide (z < 0)) (limbs z.natAbs) L w h (numZ1 hb lb) lb
  rw [isv_mayR i hn, mayZ_num, Bool.and_true] at hc
  exact hc.mono fun e w' ha => ha.t fun k hk => by rw [i.zat hk, zof_num]
theorem mixR (h : V1 w A n c L) (h2 : V1 w A2 n d M) (hb : ZNm w B nb cb z) (hb2 : ZNm w B2 na ca y) (lb : nb ≤ 60) (lb2 : na ≤ 60) (i : IsV L n f) (j : IsV M n g) (hn : n ≤ 64) : Calls Try.prog 12 #[.agg #[.bool (decide (z < 0)), .slice B nb cb], .slice A n c, .agg #[.bool (decide (y < 0)), .slice B2 na ca], .slice A2 n d] w (TAns w n (fun i => z * f i + y * g i)) := by
  have hc := mixV_is A A2 B B2 n c n d nb cb na ca (decide (z < 0)) (decide (y < 0)) (limbs z.natAbs) (limbs y.natAbs) L M w h h2 (numZ1 hb lb) (numZ1 hb2 lb2) lb lb2
  rw [isv_two i j hn, mayZ_num, mayZ_num, Bool.and_true, show decide ((0 : Int) = 0) = true from rfl, Bool.and_true] at hc
  exact hc.mono fun e w' ha => ha.t fun k hk => by rw [i.zat hk, j.zat hk, zof_num, zof_num]
theorem cmpR (h : V1 w A n c L) (h2 : V1 w A2 n d M) (i : IsV L n f) (j : IsV M n g) (hn : n ≤ 64) : Calls Try.prog 18 #[.slice A n c, .slice A2 n d] w (IAns w (firstTo (fun i => sgn (f i - g i)) n) 0) := by
  have hc := cmpV_is A A2 n c n d L M w h h2
  rw [isv_two i j hn, if_pos rfl, firstTo_congr (g := fun i => sgn (f i - g i)) fun k hk => by rw [i.zat hk, j.zat hk]] at hc
  exact hc
theorem sameR {p : Prop} [Decidable p] (h : V1 w A n c L) (h2 : V1 w A2 m d M) (hp : keys L = keys M ↔ p) : Calls Try.prog 19 #[.slice A n c, .slice A2 m d] w fun e w' => e = .returned (.bool (decide p)) ∧ Below w.heap.size w w' := by
  have hc := sameV_is A A2 n c m d L M w h h2
  rw [decide_eq_decide.2 hp] at hc
  exact hc
theorem rsameR {p : Prop} [Decidable p] (h : V1 w A n c L) (h2 : V1 w A2 m d M) (hp : keys L = keys M ↔ p) : Calls Try.prog 6 #[.slice A n c, .slice A2 m d] w fun e w' => e = .returned (.bool (decide p)) ∧ Below w.heap.size w w' := by
  have hc := rSameV_any A A2 n c m d L M w h h2
  rw [decide_eq_decide.2 hp] at hc
  exact hc
theorem rsameT (h : V1 w A n c L) (h2 : V1 w A2 m d M) (hk : keys L = keys M) : Calls Try.prog 6 #[.slice A n c, .slice A2 m d] w fun e w' => e = .returned (.bool true) ∧ Below w.heap.size w w' := by
  have hc := rSameV_any A A2 n c m d L M w h h2
  rw [decide_eq_true hk] at hc
  exact hc
theorem zeroR {p : Prop} [Decidable p] (h : V1 w A n c L) (hp : noughts L = true ↔ p) : Calls Try.prog 20 #[.slice A n c] w fun e w' => e = .returned (.bool (decide p)) ∧ Below w.heap.size w w' := by
  have hc := zeroV_is A n c L w h
  rw [show noughts L = decide p by rw [Bool.eq_iff_iff, decide_eq_true_iff]; exact hp] at hc
  exact hc
end
end Go.Proofs.Ytgiokmfdafmaoaa

/- Numbers and boxes of a law over rows. -/
namespace Go.Proofs.Ytgiokmfdafmaoaa
open Go.RowKit Go.Shelf
set_option linter.unusedVariables false
set_option linter.unusedSimpArgs false

structure IN where
  z : Int
  A : Option Addr
  n : Nat
  c : Nat
def HeldN (W : World) (l : List IN) : Prop := ∀ i, i ∈ l → ZNm W i.A i.n i.c i.z ∧ i.n ≤ 60
theorem heldn_nil (W : World) : HeldN W [] := fun i hi => by cases hi
theorem HeldN.next {W W' : World} {l : List IN} (h : HeldN W l) (hb : Below W.heap.size W W') : HeldN W' l := fun i hi => ⟨(h i hi).1.below hb, (h i hi).2⟩
theorem HeldN.cons {W : World} {l : List IN} {A : Option Addr} {n c : Nat} {z : Int} (h : HeldN W l) (hi : ZNm W A n c z) (hn : n ≤ 60) : HeldN W (⟨z, A, n, c⟩ :: l) := fun j hj => by
  rcases List.mem_cons.1 hj with rfl | hj
  · exact ⟨hi, hn⟩
  · exact h j hj
structure IX where
  g : Nat
  p : Bool
  A : Option Addr
  n : Nat
  c : Nat
def HeldX (W : World) (l : List IX) : Prop := ∀ i, i ∈ l → BoxZ W i.g i.p i.A i.n i.c
theorem heldx_nil (W : World) : HeldX W [] := fun i hi => by cases hi
theorem HeldX.next {W W' : World} {l : List IX} (h : HeldX W l) (hb : Below W.heap.size W W') : HeldX W' l := fun i hi => (h i hi).below hb (Array.getElem?_eq_some_iff.1 (h i hi)).1
theorem HeldX.cons {W : World} {l : List IX} {g : Nat} {p : Bool} {A : Option Addr} {n c : Nat} (h : HeldX W l) (hi : BoxZ W g p A n c) : HeldX W (⟨g, p, A, n, c⟩ :: l) := fun j hj => by
  rcases List.mem_cons.1 hj with rfl | hj
  · exact hi
  · exact h j hj
section
variable {A A2 B B2 : Option Addr} {n c m d nb cb na ca g1 g2 g3 g4 k : Nat} {L M : List ZE} {w W : World} {z y : Int}
variable {f g : Nat → Int} {s : Int}
theorem ofK_any {g : Nat} {cs : Array Value} {T : TypeId} (X : List Int) (n : Nat) (hn : X.length = n) (hg : w.heap[g]? = some (.cells cs T)) (hc : cs.toList = X.map (Value.int .i64)) (hX : ∀ x, x ∈ X → -1000 ≤ x ∧ x ≤ 1000) (hl : n ≤ 60) : Calls Try.prog 7 #[.slice (some ⟨g, 0, none⟩) n n] w (NAns w n (iat X)) := by
  subst hn
  exact ofL_any X hg hc hX hl
theorem iatK_bd {X : List Int} (n : Nat) (hn : X.length = n) (hX : ∀ x, x ∈ X → -1000 ≤ x ∧ x ≤ 1000) : BdV 1 n (iat X) := by
  subst hn
  exact iat_bd hX
theorem wofS {m k : Int} (W : World) (hm : m = k) (h1 : -1000 ≤ k) (h2 : k ≤ 1000) : Calls Try.prog 23 #[.int .i64 k] W (ZOne W m) := by
  subst hm
  exact wOf_any m (by omega) (by omega)
theorem dotS (h : V1 w A n c L) (h2 : V1 w A2 n d M) (i : IsV L n f) (j : IsV M n g) (hn : n ≤ 64) (e : sumTo (fun i => f i * g i) n = s) : Calls Try.prog 11 #[.slice A n c, .slice A2 n d] w (ZAns w s 0) := by
  rw [← e]
  exact dotR h h2 i j hn
theorem small_bd {k : Int} (h : s = k) (h1 : -1000 ≤ k) (h2 : k ≤ 1000) : Bd 60 s := by
  subst h
  have h3 : Bd 1 s := by
    unfold Bd
    have h4 : B64 ^ 1 = 18446744073709551616 := by rw [Nat.pow_one, B64_eq]
    omega
  exact h3.mono (by omega)
end
end Go.Proofs.Ytgiokmfdafmaoaa
