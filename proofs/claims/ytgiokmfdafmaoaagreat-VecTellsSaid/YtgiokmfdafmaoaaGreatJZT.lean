import Derived.Test.YtgiokmfdafmaoaaGreatJZ
import Derived.Test.YtgiokmfdafmaoaaGreatJRefCommon
import Derived.Test.YtgiokmfdafmaoaaGreatJMSpec
import Derived.Test.YtgiokmfdafmaoaaGreatJCopy
import Derived.Test.YtgiokmfdafmaoaaGreatJRefMul
/- ZRef ZT. -/
/- The document's whole numbers: facetroomref05's calls. -/
namespace Go.Proofs.YtgiokmfdafmaoaaGreat
open Go.RowKit Go.Shelf
set_option linter.unusedVariables false
set_option linter.unusedSimpArgs false

abbrev zT : TypeId := 41
abbrev zo (p : Bool) (A : Option Addr) (n c : Nat) : Obj := .cells #[.bool p, .slice A n c] zT
/-- A block that holds a whole number. -/
def BoxZ (w : World) (g : Nat) (p : Bool) (A : Option Addr) (n c : Nat) : Prop := w.heap[g]? = some (zo p A n c)
theorem BoxZ.below {w w' : World} {g n c B : Nat} {p : Bool} {A : Option Addr} (h : BoxZ w g p A n c) (hb : Below B w w') (hg : g < B) : BoxZ w' g p A n c := (hb.block g hg).trans h
theorem BoxZ.c0 {w : World} {g n c : Nat} {p : Bool} {A : Option Addr} (h : BoxZ w g p A n c) : w.cell? ⟨g, 0, none⟩ = some (.bool p) := cells_cell h rfl
theorem BoxZ.c1 {w : World} {g n c : Nat} {p : Bool} {A : Option Addr} (h : BoxZ w g p A n c) : w.cell? ⟨g, 1, none⟩ = some (.slice A n c) := cells_cell h rfl
theorem bxb (w : World) (o : Obj) : Below w.heap.size w (w.alloc o) := (Below.refl _ w).alloc (Nat.le_refl _) o
/-- The world behind two boxes. -/
structure Two (w W : World) (p : Bool) (A : Option Addr) (na ca : Nat) (q : Bool) (A2 : Option Addr) (nb cb : Nat) : Prop where
  b : Below w.heap.size w W
  x : BoxZ W w.heap.size p A na ca
  y : BoxZ W (w.heap.size + 1) q A2 nb cb
  s : w.heap.size + 1 < W.heap.size
theorem two_box (w : World) (p : Bool) (A : Option Addr) (na ca : Nat) (q : Bool) (A2 : Option Addr) (nb cb : Nat) : Two w ((w.alloc (zo p A na ca)).alloc (zo q A2 nb cb)) p A na ca q A2 nb cb := by
  refine ⟨(bxb w _).alloc (by simp) _, ?_, ?_, by simp⟩
  · show ((w.alloc (zo p A na ca)).alloc (zo q A2 nb cb)).heap[w.heap.size]? = _
    rw [Below.heap_alloc _ _ _ (by simp)]
    exact World.alloc_heap_new _ _
  · have h := World.alloc_heap_new (w.alloc (zo p A na ca)) (zo q A2 nb cb)
    rw [World.size_alloc] at h
    exact h
theorem Two.next {w W W' : World} {p : Bool} {A : Option Addr} {na ca : Nat} {q : Bool} {A2 : Option Addr} {nb cb : Nat} (h : Two w W p A na ca q A2 nb cb) (hb : Below W.heap.size W W') : Two w W' p A na ca q A2 nb cb :=
  ⟨below_then h.b hb, h.x.below hb (by have := h.s; omega), h.y.below hb h.s, Nat.lt_of_lt_of_le h.s hb.size⟩
/-- .. and a third block, for the answer. -/
structure Tri (w W : World) (p : Bool) (A : Option Addr) (na ca : Nat) (q : Bool) (A2 : Option Addr) (nb cb : Nat) : Prop where
  t : Two w W p A na ca q A2 nb cb
  r : BoxZ W (w.heap.size + 1 + 1) false none 0 0
theorem Tri.next {w W W' : World} {p : Bool} {A : Option Addr} {na ca : Nat} {q : Bool} {A2 : Option Addr} {nb cb : Nat} (h : Tri w W p A na ca q A2 nb cb) (hb : Below W.heap.size W W') : Tri w W' p A na ca q A2 nb cb :=
  ⟨h.t.next hb, h.r.below hb (Array.getElem?_eq_some_iff.1 h.r).1⟩
theorem tri_box (w : World) (p : Bool) (A : Option Addr) (na ca : Nat) (q : Bool) (A2 : Option Addr) (nb cb : Nat) : Tri w (((w.alloc (zo p A na ca)).alloc (zo q A2 nb cb)).alloc (zo false none 0 0)) p A na ca q A2 nb cb := by
  refine ⟨(two_box w p A na ca q A2 nb cb).next (bxb _ _), ?_⟩
  have h := World.alloc_heap_new ((w.alloc (zo p A na ca)).alloc (zo q A2 nb cb)) (zo false none 0 0)
  rw [World.size_alloc, World.size_alloc] at h
  exact h
theorem BoxZ.f {w : World} {g n c : Nat} {p : Bool} {A : Option Addr} (h : BoxZ w g p A n c) (j : Nat) : w.frozen? ⟨g, j, none⟩ = false := cells_frozen h
theorem zsame_d {z y : Int} {d : Bool} (h : decide (z < 0) = d) (k : decide (y < 0) = d) : decide (z < 0) = decide (y < 0) := h.trans k.symm

section
variable {A A2 : Option Addr} {na ca nb cb : Nat} {p q : Bool} {a b : List Nat} {w : World} {z y : Int}
set_option maxRecDepth 100000 in
set_option maxHeartbeats 2000000 in
theorem rMayZ_any (h : Z1 w A na ca a) : Calls Tryz.prog 54 #[zv p A na ca] w fun e w' => e = .returned (.bool (mayZ p a)) ∧ Below w.heap.size w w' := by
  unfold zv
  have hal := h.ra.len
  have HM := Lib.hid (rMay_any A na ca a (w.alloc (zo p A na ca)) (h.ra.alloc _) (by have := h.la; omega))
  cases hm : may a with
  | false =>
    have HR : Hid (mayZ p a = false) := by show _ = _; simp [mayZ, hm]
    rw [hm] at HM
    clear h hal hm
    go_enter Tryz.func54, Tryz.ntmps54
    go_wp2_with fail
    refine HM.out.mono ?_
    rintro e w1 ⟨rfl, rfl⟩
    go_wp2
    go_ret
    exact ⟨by rw [HR.out]; rfl, bxb _ _⟩
  | true =>
    rw [hm] at HM
    cases p with
    | false =>
      have HR : Hid (mayZ false a = true) := by show _ = _; simp [mayZ, hm]
      clear h hal hm
      go_enter Tryz.func54, Tryz.ntmps54
      go_wp2_with fail
      refine HM.out.mono ?_
      rintro e w1 ⟨rfl, rfl⟩
      go_wp2
      go_ret
      exact ⟨by rw [HR.out]; rfl, bxb _ _⟩
    | true =>
      by_cases h0 : na = 0
      · subst h0
        have ha : a = [] := List.eq_nil_of_length_eq_zero hal
        have HR : Hid (mayZ true a = false) := by show _ = _; subst ha; rfl
        clear h hal hm ha
        go_enter Tryz.func54, Tryz.ntmps54
        go_wp2_with fail
        refine HM.out.mono ?_
        rintro e w1 ⟨rfl, rfl⟩
        go_wp2
        go_ret
        exact ⟨by rw [HR.out]; rfl, bxb _ _⟩
      · have ha : a ≠ [] := fun e => h0 (by rw [← hal, e]; rfl)
        have HR : Hid (mayZ true a = true) := by show _ = _; simp [mayZ, hm, ha]
        have h1 : 0 < na := Nat.pos_of_ne_zero h0
        clear h hal hm ha
        go_enter Tryz.func54, Tryz.ntmps54
        go_wp2_with fail
        refine HM.out.mono ?_
        rintro e w1 ⟨rfl, rfl⟩
        go_wp2
        go_ret
        exact ⟨by rw [HR.out]; rfl, bxb _ _⟩
theorem Z1.below {w' : World} (h : Z1 w A na ca a) (hb : Below w.heap.size w w') : Z1 w' A na ca a := ⟨h.ra.below hb, h.la, h.ca1, h.ca2⟩
theorem Z2.below {w' : World} (h : Z2 w A A2 na ca nb cb a b) (hb : Below w.heap.size w w') : Z2 w' A A2 na ca nb cb a b := ⟨h.ra.below hb, h.rb.below hb, h.la, h.lb, h.ca1, h.ca2, h.cb1, h.cb2⟩
theorem Z2.one (h : Z2 w A A2 na ca nb cb a b) : Z1 w A na ca a := ⟨h.ra, h.la, h.ca1, h.ca2⟩
theorem Z2.two (h : Z2 w A A2 na ca nb cb a b) : Z1 w A2 nb cb b := ⟨h.rb, h.lb, h.cb1, h.cb2⟩
theorem Z2.num (h : Z2 w A A2 na ca nb cb a b) (hm : twoM p a q b = true) : ZNm w A na ca (zof p a) ∧ ZNm w A2 nb cb (zof q b) ∧ zv p A na ca = zV (zof p a) A na ca ∧ zv q A2 nb cb = zV (zof q b) A2 nb cb := by
  obtain ⟨h1, h2⟩ := twoM_iff.1 hm
  exact ⟨(znm_of h.ra h1 h.ca1 h.ca2).1, (znm_of h.rb h2 h.cb1 h.cb2).1, (znm_of h.ra h1 h.ca1 h.ca2).2, (znm_of h.rb h2 h.cb1 h.cb2).2⟩
set_option maxRecDepth 100000 in
set_option maxHeartbeats 2000000 in
theorem rSigned_any (ha : ZNm w A na ca z) (hna : na ≤ 9223372036854775807) : Calls Tryz.prog 103 #[zV z A na ca] w fun e w' => e = .returned (.int .i64 (sgn z)) ∧ Below w.heap.size w w' := by
  unfold zV zv
  by_cases h0 : na = 0
  · subst h0
    have hz : z = 0 := by have := ha.zero.1 rfl; omega
    subst hz
    clear ha hna
    go_enter Tryz.func103, Tryz.ntmps103
    go_wp2
    go_ret
    exact ⟨rfl, bxb _ _⟩
  · have hz : z ≠ 0 := fun h => h0 (ha.zero.2 (by omega))
    have h1 : ((na : Int) == 0) = false := by simp; omega
    clear ha hna
    by_cases hn : z < 0
    · have HR : Hid (sgn z = -1) := by show _ = _; unfold sgn; rw [if_pos hn]
      rw [show decide (z < 0) = true by simpa using hn]
      clear hn hz
      go_enter Tryz.func103, Tryz.ntmps103
      go_wp2
      go_ret
      exact ⟨by rw [HR.out]; rfl, bxb _ _⟩
    · have HR : Hid (sgn z = 1) := by show _ = _; unfold sgn; rw [if_neg hn, if_pos (by omega)]
      rw [show decide (z < 0) = false by simpa using hn]
      clear hn hz
      go_enter Tryz.func103, Tryz.ntmps103
      go_wp2
      go_ret
      exact ⟨by rw [HR.out]; rfl, bxb _ _⟩
set_option maxRecDepth 100000 in
set_option maxHeartbeats 2000000 in
theorem rSumZ_any (ha : ZNm w A na ca z) (hb : ZNm w A2 nb cb y) (hna : na ≤ 1000) (hnb : nb ≤ 1000) : Calls Tryz.prog 74 #[zV z A na ca, zV y A2 nb cb] w (ZOne w (z + y)) := by
  unfold ZOne zV zv
  by_cases hs : decide (z < 0) = decide (y < 0)
  · have hq := zsum_same hs
    have HS := Lib.hid (fun W (h1 : ZNm W A na ca z) (h2 : ZNm W A2 nb cb y) => rSum_nm A A2 na ca nb cb z.natAbs y.natAbs W h1 h2 (by omega) (by omega))
    rw [← hs, hq.1, hq.2]
    obtain ⟨d, hd⟩ : ∃ d, decide (z < 0) = d := ⟨_, rfl⟩
    rw [hd]
    clear hs hq hd
    have T0 := tri_box w d A na ca d A2 nb cb
    replace ha := ha.below T0.t.b
    replace hb := hb.below T0.t.b
    have HT := Lib.hid (HS.out _ (ha.below (Below.refl _ _).drew) (hb.below (Below.refl _ _).drew))
    have HT0 := Lib.hid (T0.next (Below.refl _ _).drew)
    clear ha hb HS T0
    go_enter Tryz.func74, Tryz.ntmps74
    go_wp2
    go_region_held3 (fun W' => W'.cell? ⟨w.heap.size, 0, none⟩ = some (.bool d) ∧ W'.cell? ⟨w.heap.size, 1, none⟩ = some (.slice A na ca) ∧ W'.cell? ⟨w.heap.size + 1, 0, none⟩ = some (.bool d) ∧ W'.cell? ⟨w.heap.size + 1, 1, none⟩ = some (.slice A2 nb cb)) (first | (refine ⟨?_, ?_, ?_, ?_⟩ <;> exact cell_far (cell_far (by assumption) (by omega) _) (by omega) _) | go_keep)
      (first
        | (go_at_call 94; refine HT.out.mono ?_; rintro e w4 ⟨A3, k3, c3, rfl, o3, hb3⟩; have T4 := HT0.out.next hb3; have xa0 := T4.t.x.c0; have xa1 := T4.t.x.c1; have xb0 := T4.t.y.c0; have xb1 := T4.t.y.c1; have r0 := T4.r.c0; have r1 := T4.r.c1; have f0 := T4.r.f 0; have f1 := T4.r.f 1))
    all_goals
      go_wp2
      refine bodyPost_ret (v := zv d A3 k3 c3) (by simp [results, Tryz.results74, go_sem, r0, r1, zv]) rfl ?_
      have o4 := own_mono o3 (show w.heap.size + 1 + 1 + 1 ≤ _ by simp)
      refine ⟨A3, k3, c3, rfl, own_mono (own_far (own_far o4 (p := ⟨w.heap.size + 1 + 1, 0, none⟩) (Nat.lt_succ_self _) _) (p := ⟨w.heap.size + 1 + 1, 1, none⟩) (Nat.lt_succ_self _) _) (by omega), ?_⟩
      exact (T4.t.b.setCell (p := ⟨w.heap.size + 1 + 1, 0, none⟩) (show w.heap.size ≤ w.heap.size + 1 + 1 by omega) _).setCell (p := ⟨w.heap.size + 1 + 1, 1, none⟩) (show w.heap.size ≤ w.heap.size + 1 + 1 by omega) _
  · obtain ⟨d1, hd1⟩ : ∃ d, decide (z < 0) = d := ⟨_, rfl⟩
    obtain ⟨d2, hd2⟩ : ∃ d, decide (y < 0) = d := ⟨_, rfl⟩
    have hdd : (d1 == d2) = false := by rw [← hd1, ← hd2]; simpa using hs
    have T0 := tri_box w d1 A na ca d2 A2 nb cb
    have HC := Lib.hid (fun W (h1 : ZNm W A na ca z) (h2 : ZNm W A2 nb cb y) => rCmp_nm A A2 na ca nb cb z.natAbs y.natAbs W h1 h2 (by omega) (by omega))
    by_cases he : z.natAbs = y.natAbs
    · have h0 := zsum_even hs he
      rw [h0, hd1, hd2]
      rw [he, cmp3_self] at HC
      replace ha := ha.below T0.t.b
      replace hb := hb.below T0.t.b
      have HT := Lib.hid (HC.out _ ha hb)
      have T0' := Lib.hid T0
      have r0 := T0.r.c0
      have r1 := T0.r.c1
      have f0 := T0.r.f 0
      have f1 := T0.r.f 1
      clear hs hd1 hd2 he h0 ha hb HC T0
      go_enter Tryz.func74, Tryz.ntmps74
      go_wp2_with fail
      refine HT.out.mono ?_
      rintro e w1 ⟨rfl, rfl⟩
      go_wp2
      refine bodyPost_ret (v := zv false none 0 0) (by simp [results, Tryz.results74, go_sem, r0, r1, zv]) rfl ?_
      refine ⟨none, 0, 0, rfl, by rw [show (0 : Int).natAbs = 0 from rfl, limbs_zero]; exact own_nil _ _, ?_⟩
      exact T0'.out.t.b
    · by_cases hm : y.natAbs < z.natAbs
      · have hq := zsum_more hs hm
        rw [hq.1, hq.2, hd1, hd2]
        have HS := Lib.hid (fun W (h1 : ZNm W A na ca z) (h2 : ZNm W A2 nb cb y) => rRest_nm A A2 na ca nb cb z.natAbs y.natAbs W h1 h2 (by omega) (by omega) (by omega))
        rw [cmp3_gt hm] at HC
        replace ha := ha.below T0.t.b
        replace hb := hb.below T0.t.b
        have HT1 := Lib.hid (HC.out _ ha hb)
        have HT := Lib.hid (HS.out _ (ha.below (Below.refl _ _).drew) (hb.below (Below.refl _ _).drew))
        have HT0 := Lib.hid (T0.next (Below.refl _ _).drew)
        clear hs hd1 hd2 he hm hq ha hb HC T0 HS
        go_enter Tryz.func74, Tryz.ntmps74
        go_wp2_with fail
        refine HT1.out.mono ?_
        rintro e w1 ⟨rfl, rfl⟩
        go_wp2
        go_region_held3 (fun W' => W'.cell? ⟨w.heap.size, 0, none⟩ = some (.bool d1) ∧ W'.cell? ⟨w.heap.size, 1, none⟩ = some (.slice A na ca) ∧ W'.cell? ⟨w.heap.size + 1, 0, none⟩ = some (.bool d2) ∧ W'.cell? ⟨w.heap.size + 1, 1, none⟩ = some (.slice A2 nb cb)) (first | (refine ⟨?_, ?_, ?_, ?_⟩ <;> exact cell_far (cell_far (by assumption) (by omega) _) (by omega) _) | go_keep)
          (first
            | (go_at_call 96; refine HT.out.mono ?_; rintro e w4 ⟨A3, k3, c3, rfl, o3, hb3⟩; have T4 := HT0.out.next hb3; have xa0 := T4.t.x.c0; have xa1 := T4.t.x.c1; have xb0 := T4.t.y.c0; have xb1 := T4.t.y.c1; have r0 := T4.r.c0; have r1 := T4.r.c1; have f0 := T4.r.f 0; have f1 := T4.r.f 1))
        all_goals
          go_wp2
          refine bodyPost_ret (v := zv d1 A3 k3 c3) (by simp [results, Tryz.results74, go_sem, r0, r1, zv]) rfl ?_
          have o4 := own_mono o3 (show w.heap.size + 1 + 1 + 1 ≤ _ by simp)
          refine ⟨A3, k3, c3, rfl, own_mono (own_far (own_far o4 (p := ⟨w.heap.size + 1 + 1, 0, none⟩) (Nat.lt_succ_self _) _) (p := ⟨w.heap.size + 1 + 1, 1, none⟩) (Nat.lt_succ_self _) _) (by omega), ?_⟩
          exact (T4.t.b.setCell (p := ⟨w.heap.size + 1 + 1, 0, none⟩) (show w.heap.size ≤ w.heap.size + 1 + 1 by omega) _).setCell (p := ⟨w.heap.size + 1 + 1, 1, none⟩) (show w.heap.size ≤ w.heap.size + 1 + 1 by omega) _
      · have hm2 : z.natAbs < y.natAbs := by omega
        have hq := zsum_more (fun h => hs h.symm) hm2
        rw [Int.add_comm, hq.1, hq.2, hd1, hd2]
        have HS := Lib.hid (fun W (h1 : ZNm W A na ca z) (h2 : ZNm W A2 nb cb y) => rRest_nm A2 A nb cb na ca y.natAbs z.natAbs W h2 h1 (by omega) (by omega) (by omega))
        rw [cmp3_lt hm2] at HC
        replace ha := ha.below T0.t.b
        replace hb := hb.below T0.t.b
        have HT1 := Lib.hid (HC.out _ ha hb)
        have HT := Lib.hid (HS.out _ (ha.below (Below.refl _ _).drew) (hb.below (Below.refl _ _).drew))
        have HT0 := Lib.hid (T0.next (Below.refl _ _).drew)
        clear hs hd1 hd2 he hm hm2 hq ha hb HC T0 HS
        go_enter Tryz.func74, Tryz.ntmps74
        go_wp2_with fail
        refine HT1.out.mono ?_
        rintro e w1 ⟨rfl, rfl⟩
        go_wp2
        go_region_held3 (fun W' => W'.cell? ⟨w.heap.size, 0, none⟩ = some (.bool d1) ∧ W'.cell? ⟨w.heap.size, 1, none⟩ = some (.slice A na ca) ∧ W'.cell? ⟨w.heap.size + 1, 0, none⟩ = some (.bool d2) ∧ W'.cell? ⟨w.heap.size + 1, 1, none⟩ = some (.slice A2 nb cb)) (first | (refine ⟨?_, ?_, ?_, ?_⟩ <;> exact cell_far (cell_far (by assumption) (by omega) _) (by omega) _) | go_keep)
          (first
            | (go_at_call 96; refine HT.out.mono ?_; rintro e w4 ⟨A3, k3, c3, rfl, o3, hb3⟩; have T4 := HT0.out.next hb3; have xa0 := T4.t.x.c0; have xa1 := T4.t.x.c1; have xb0 := T4.t.y.c0; have xb1 := T4.t.y.c1; have r0 := T4.r.c0; have r1 := T4.r.c1; have f0 := T4.r.f 0; have f1 := T4.r.f 1))
        all_goals
          go_wp2
          refine bodyPost_ret (v := zv d2 A3 k3 c3) (by simp [results, Tryz.results74, go_sem, r0, r1, zv]) rfl ?_
          have o4 := own_mono o3 (show w.heap.size + 1 + 1 + 1 ≤ _ by simp)
          refine ⟨A3, k3, c3, rfl, own_mono (own_far (own_far o4 (p := ⟨w.heap.size + 1 + 1, 0, none⟩) (Nat.lt_succ_self _) _) (p := ⟨w.heap.size + 1 + 1, 1, none⟩) (Nat.lt_succ_self _) _) (by omega), ?_⟩
          exact (T4.t.b.setCell (p := ⟨w.heap.size + 1 + 1, 0, none⟩) (show w.heap.size ≤ w.heap.size + 1 + 1 by omega) _).setCell (p := ⟨w.heap.size + 1 + 1, 1, none⟩) (show w.heap.size ≤ w.heap.size + 1 + 1 by omega) _

end
end Go.Proofs.YtgiokmfdafmaoaaGreat

/- A number, copied within a region that draws; the other way round. -/
namespace Go.Proofs.YtgiokmfdafmaoaaGreat
open Go.RowKit Go.Shelf
set_option linter.unusedVariables false
set_option linter.unusedSimpArgs false

theorem run_copy0 (w : World) (A : Option Addr) (c : Nat) (ty : TypeId) : (Builtin.append_ #[23, 23] ty #[.slice none 0 0, .slice A 0 c]).run Tryz.prog w = .ok (.slice none 0 0) w := by
  obtain ⟨i0, hi0, hz0, hz1, hz2⟩ := info_parts u64_info
  cases A <;> simp [loadCells, loadCellsFrom, Builtin.append_, run_underlying Tryz.underlying23, sizeOf, typeInfo, zeroValue, hi0, hz0, hz1, hz2, Builtin.lenOf, Builtin.firstCells]
theorem run_copy (w : World) (A : Option Addr) (m c : Nat) (a : List Nat) (ty : TypeId) (hra : Rd w A m a) (hm : m ≤ 1000) :
    ∃ v' w', (Builtin.append_ #[23, 23] ty #[.slice none 0 0, .slice A m c]).run Tryz.prog w = .ok v' w' ∧ Own w' w.heap.size v' a ∧ Below w.heap.size w w' := by
  obtain ⟨i0, hi0, hz0, hz1, hz2⟩ := info_parts u64_info
  have hal := hra.len
  by_cases h0 : m = 0
  · subst h0
    have ha : a = [] := List.eq_nil_of_length_eq_zero hal
    subst ha
    exact ⟨_, _, run_copy0 w A c ty, own_nil _ _, Below.refl _ _⟩
  · obtain ⟨b, off, rfl, hlt, hc⟩ := hra.cells (by omega)
    have hown : w.ownsRow w.heap.size 36 1 (.slice none 0 0) 0 [] := ⟨rfl, .inl ⟨rfl, rfl⟩⟩
    obtain ⟨v', w', hrun, r1, r2, _⟩ := run_append_own (P := Tryz.prog) w w.heap.size 23 ty 36 i0 _ 1 8 Tryz.underlying23 hi0 hz0 hz1 hz2 rfl (by omega) _ 0 [] hown ⟨b, off, none⟩ m c (a.map u64) (by simp [hal]) (fun j u hj => by
      have hjl : j < a.length := by have := (List.getElem?_eq_some_iff.1 hj).1; simpa using this
      have h := hc j (by omega)
      have hu : u = u64 (lim a j) := by
        rw [List.getElem?_map, List.getElem?_eq_getElem hjl] at hj
        simp at hj
        rw [← hj, lim_get hjl]
      rw [hu, ← h, Addr.add_lit]) (fun u hu => by obtain ⟨x, _, rfl⟩ := List.mem_map.1 hu; rfl) (by simp only [maxLen]; omega) (by omega) (Nat.le_refl _)
    refine ⟨v', w', hrun, ⟨by rw [hal]; simpa using r1, hra.words⟩, ?_⟩
    exact (Below.refl _ w).grown r2 (Nat.le_refl _) (fun k e => by simp [Value.ownBlock] at e)
theorem step_copy {ops : Array Oper} {o : Oper} {a : Act} {w : World} {K : Act → World → Prop} {Q : Exit → Act → World → Prop} {E : Prop}
    (hg : o.guard = none) (s x : Operand) (hop : o.op = Op.call { callee := Callee.builtin Builtin.append, args := #[s, x], argTypes := #[23, 23] })
    (A : Option Addr) (m c : Nat) (l : List Nat) (hs : a.eval s = .slice none 0 0) (hx : a.eval x = .slice A m c) (hra : Rd w A m l) (hm : m ≤ 1000)
    (hK : ∀ A' k' c' w', Own w' w.heap.size (.slice A' k' c') l → Below w.heap.size w w' → K (a.put o.dst (.slice A' k' c')) w') :
    if Region.wanted o (yielded ops a.tmps) = true then Oper.wp Tryz.prog o a w K Q else E := by
  have hw : Region.wanted o (yielded ops a.tmps) = true := by simp [Region.wanted, hg]
  rw [if_pos hw]
  obtain ⟨v', w', hrun, r1, r2⟩ := run_copy w A m c l o.type hra hm
  unfold Oper.wp
  simp [execOp, hop, resolve, invoke, builtin, hs, hx, hrun, Result.andThen]
  obtain ⟨A', c', rfl⟩ := own_shape r1
  exact hK A' _ c' w' r1 r2

/-- A call that is not asked for. -/
theorem step_skip {ops : Array Oper} {o : Oper} {a : Act} {X E : Prop} (hw : Region.wanted o (yielded ops a.tmps) = false) (h : E) : if Region.wanted o (yielded ops a.tmps) = true then X else E := by
  rw [if_neg (by rw [hw]; simp)]
  exact h
/-- The world behind a box, and a block for the answer. -/
structure Duo (w W : World) (p : Bool) (A : Option Addr) (na ca : Nat) : Prop where
  b : Below w.heap.size w W
  x : BoxZ W w.heap.size p A na ca
  r : BoxZ W (w.heap.size + 1) false none 0 0
theorem Duo.next {w W W' : World} {p : Bool} {A : Option Addr} {na ca : Nat} (h : Duo w W p A na ca) (hb : Below W.heap.size W W') : Duo w W' p A na ca :=
  ⟨below_then h.b hb, h.x.below hb (Array.getElem?_eq_some_iff.1 h.x).1, h.r.below hb (Array.getElem?_eq_some_iff.1 h.r).1⟩
theorem duo_box (w : World) (p : Bool) (A : Option Addr) (na ca : Nat) : Duo w ((w.alloc (zo p A na ca)).alloc (zo false none 0 0)) p A na ca := by
  have h := two_box w p A na ca false none 0 0
  exact ⟨h.b, h.x, h.y⟩
theorem zneg_d {z : Int} : decide (-z < 0) = (!decide (z < 0) && decide (z ≠ 0)) := by
  rw [Bool.eq_iff_iff]
  simp
  omega

section
variable {A A2 : Option Addr} {na ca nb cb : Nat} {p q : Bool} {a b : List Nat} {w : World} {z y : Int}
set_option maxRecDepth 100000 in
set_option maxHeartbeats 2000000 in
theorem rTurned_any (ha : ZNm w A na ca z) (hna : na ≤ 1000) : Calls Tryz.prog 104 #[zV z A na ca] w (ZOne w (-z)) := by
  unfold ZOne zV zv
  rw [zneg_d, Int.natAbs_neg]
  obtain ⟨d, hd⟩ : ∃ d, decide (z < 0) = d := ⟨_, rfl⟩
  have T0 := duo_box w d A na ca
  have HR := Lib.hid ((ha.rd.below T0.b).drew)
  have HT0 := Lib.hid (T0.next (Below.refl _ _).drew)
  have n1 : (w.heap.size + 1 = w.heap.size) = False := by simp
  rw [hd]
  cases hdd : d with
  | true =>
    have HD : Hid ((!true && decide (z ≠ 0)) = false) := rfl
    subst hdd
    clear hd ha T0
    go_enter Tryz.func104, Tryz.ntmps104
    go_wp2
    have xa0 := HT0.out.x.c0
    have xa1 := HT0.out.x.c1
    have r0 := HT0.out.r.c0
    have r1 := HT0.out.r.c1
    have f0 := HT0.out.r.f 0
    have f1 := HT0.out.r.f 1
    first
      | (go_region_law (first
        | (refine step_skip (by rfl) ?_)
        | (refine step_copy rfl _ _ rfl A na ca (limbs z.natAbs) rfl rfl HR.out (by omega) ?_; intro A3 k3 c3 w4 o3 hb3; have T4 := HT0.out.next hb3; have xa0 := T4.x.c0; have xa1 := T4.x.c1; have r0 := T4.r.c0; have r1 := T4.r.c1; have f0 := T4.r.f 0; have f1 := T4.r.f 1)))
      | fail
    all_goals
      go_wp2
      refine bodyPost_ret (v := zv false A3 k3 c3) (by simp [results, Tryz.results104, go_sem, r0, r1, zv]) rfl ?_
      have o4 := own_mono o3 (show w.heap.size + 1 + 1 ≤ _ by simp)
      refine ⟨A3, k3, c3, by rw [HD.out]; rfl, own_mono (own_far (own_far o4 (p := ⟨w.heap.size + 1, 0, none⟩) (Nat.lt_succ_self _) _) (p := ⟨w.heap.size + 1, 1, none⟩) (Nat.lt_succ_self _) _) (by omega), ?_⟩
      exact (T4.b.setCell (p := ⟨w.heap.size + 1, 0, none⟩) (show w.heap.size ≤ w.heap.size + 1 by omega) _).setCell (p := ⟨w.heap.size + 1, 1, none⟩) (show w.heap.size ≤ w.heap.size + 1 by omega) _
  | false =>
    subst hdd
    by_cases h0 : na = 0
    · have HD : Hid ((!false && decide (z ≠ 0)) = false) := by
        have := ha.zero.1 h0
        show _ = _
        simp
        omega
      have h1 : ((0 : Int) < ↑na) = False := by subst h0; simp
      have h2 : (0 < na) = False := by subst h0; simp
      clear hd ha T0 h0
      go_enter Tryz.func104, Tryz.ntmps104
      go_wp2
      go_region_held3 (fun W' => W'.cell? ⟨w.heap.size, 0, none⟩ = some (.bool false) ∧ W'.cell? ⟨w.heap.size, 1, none⟩ = some (.slice A na ca)) (first | (refine ⟨?_, ?_⟩ <;> exact cell_far (cell_far (by assumption) (by omega) _) (by omega) _) | go_keep)
        (first
          | (refine step_skip (by rfl) ?_)
          | (refine step_copy rfl _ _ rfl A na ca (limbs z.natAbs) rfl rfl HR.out (by omega) ?_; intro A3 k3 c3 w4 o3 hb3; have T4 := HT0.out.next hb3; have xa0 := T4.x.c0; have xa1 := T4.x.c1; have r0 := T4.r.c0; have r1 := T4.r.c1; have f0 := T4.r.f 0; have f1 := T4.r.f 1))
      all_goals
        go_wp2
        refine bodyPost_ret (v := zv false A3 k3 c3) (by simp [results, Tryz.results104, go_sem, r0, r1, zv]) rfl ?_
        have o4 := own_mono o3 (show w.heap.size + 1 + 1 ≤ _ by simp)
        refine ⟨A3, k3, c3, by rw [HD.out]; rfl, own_mono (own_far (own_far o4 (p := ⟨w.heap.size + 1, 0, none⟩) (Nat.lt_succ_self _) _) (p := ⟨w.heap.size + 1, 1, none⟩) (Nat.lt_succ_self _) _) (by omega), ?_⟩
        exact (T4.b.setCell (p := ⟨w.heap.size + 1, 0, none⟩) (show w.heap.size ≤ w.heap.size + 1 by omega) _).setCell (p := ⟨w.heap.size + 1, 1, none⟩) (show w.heap.size ≤ w.heap.size + 1 by omega) _
    · have HD : Hid ((!false && decide (z ≠ 0)) = true) := by
        have : z ≠ 0 := fun e => h0 (ha.zero.2 (by omega))
        show _ = _
        simpa using this
      have h1 : 0 < na := Nat.pos_of_ne_zero h0
      clear hd ha T0
      go_enter Tryz.func104, Tryz.ntmps104
      go_wp2
      go_region_held3 (fun W' => W'.cell? ⟨w.heap.size, 0, none⟩ = some (.bool false) ∧ W'.cell? ⟨w.heap.size, 1, none⟩ = some (.slice A na ca)) (first | (refine ⟨?_, ?_⟩ <;> exact cell_far (cell_far (by assumption) (by omega) _) (by omega) _) | go_keep)
        (first
          | (refine step_skip (by rfl) ?_)
          | (refine step_copy rfl _ _ rfl A na ca (limbs z.natAbs) rfl rfl HR.out (by omega) ?_; intro A3 k3 c3 w4 o3 hb3; have T4 := HT0.out.next hb3; have xa0 := T4.x.c0; have xa1 := T4.x.c1; have r0 := T4.r.c0; have r1 := T4.r.c1; have f0 := T4.r.f 0; have f1 := T4.r.f 1))
      all_goals
        go_wp2
        refine bodyPost_ret (v := zv true A3 k3 c3) (by simp [results, Tryz.results104, go_sem, r0, r1, zv]) rfl ?_
        have o4 := own_mono o3 (show w.heap.size + 1 + 1 ≤ _ by simp)
        refine ⟨A3, k3, c3, by rw [HD.out]; rfl, own_mono (own_far (own_far o4 (p := ⟨w.heap.size + 1, 0, none⟩) (Nat.lt_succ_self _) _) (p := ⟨w.heap.size + 1, 1, none⟩) (Nat.lt_succ_self _) _) (by omega), ?_⟩
        exact (T4.b.setCell (p := ⟨w.heap.size + 1, 0, none⟩) (show w.heap.size ≤ w.heap.size + 1 by omega) _).setCell (p := ⟨w.heap.size + 1, 1, none⟩) (show w.heap.size ≤ w.heap.size + 1 by omega) _
end
end Go.Proofs.YtgiokmfdafmaoaaGreat
