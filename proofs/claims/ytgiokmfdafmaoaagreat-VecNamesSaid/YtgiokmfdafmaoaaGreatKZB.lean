import Derived.Test.YtgiokmfdafmaoaaGreatKZU
import Derived.Test.YtgiokmfdafmaoaaGreatKAdd
import Derived.ChangeKeysEq
import Derived.Test.YtgiokmfdafmaoaaGreatKDivSpec
import Derived.Test.YtgiokmfdafmaoaaGreatKZMath
/- ZA ZB. -/
/- whole: signs; what may be. -/
namespace Go.Proofs.YtgiokmfdafmaoaaGreat
open Go.RowKit Go.Shelf
set_option linter.unusedVariables false
set_option linter.unusedSimpArgs false

theorem bool_info : (Tryz.prog.info? 4).map (fun i => (i.zero, i.size, i.bytes)) = some (some (.bool false), 1, 1) := by kernel_rfl
theorem bool_cells : Tryz.prog.cellsOf 4 = 1 := by kernel_rfl
theorem part_bool (xs : Array Value) (i : Nat) (x : Bool) (w : World) (h : xs[i]? = some (.bool x)) : (part 4 xs i).run Tryz.prog w = .ok (.bool x) w := by
  simp [part, isAgg, run_underlying Tryz.underlying4, h]
/-- Two arrays of signs, compared. -/
theorem eq_signs (a b c d : Bool) (w : World) : Sem.run Tryz.prog (Op.equalIn 10000 90 (.agg #[.bool a, .bool b]) (.agg #[.bool c, .bool d])) w = .ok (a == c && b == d) w := by
  obtain ⟨i, hi, _⟩ := info_parts bool_info
  have h := run_equalIn_array (P := Tryz.prog) w 9999 #[.bool a, .bool b] #[.bool c, .bool d] Tryz.underlying90 hi
  refine Eq.trans h ?_
  rw [bool_cells]
  have p0 := fun x y => part_bool #[.bool x, .bool y] 0 x w rfl
  have p1 := fun x y => part_bool #[.bool x, .bool y] 1 y w rfl
  have q0 : ∀ x y, Sem.run Tryz.prog (Op.equalIn 9999 4 (.bool x) (.bool y)) w = .ok (x == y) w := fun x y => run_equalIn_bool (P := Tryz.prog) w 9998 4 x y Tryz.underlying4
  simp only [Op.eqItems, List.range, List.range.loop, Sem.run_bind, Nat.mul_one, p0, p1, Result.andThen_ok, q0]
  cases a <;> cases b <;> cases c <;> cases d <;> simp [p1, q0]
section
variable {A A2 : Option Addr} {na ca nb cb : Nat} {p q : Bool} {a b : List Nat} {w : World} {z y : Int}
set_option maxRecDepth 100000 in
set_option maxHeartbeats 2000000 in
theorem signsOf_any  : Calls Tryz.prog 69 #[zv p A na ca, zv q A2 nb cb] w fun e w' => e = .returned (.agg #[.bool p, .bool q]) ∧ Below w.heap.size w w' := by
  have T0 := two_box w p A na ca q A2 nb cb
  have HB : Hid (Below w.heap.size w (((w.alloc (zo p A na ca)).alloc (zo q A2 nb cb)).alloc (.cells #[.bool p, .bool q] 90))) := below_then T0.b (bxb _ _)
  have r : (((w.alloc (zo p A na ca)).alloc (zo q A2 nb cb)).alloc (.cells #[.bool p, .bool q] 90)).heap[w.heap.size + 1 + 1]? = some (.cells #[.bool p, .bool q] 90) := by
    have h := World.alloc_heap_new ((w.alloc (zo p A na ca)).alloc (zo q A2 nb cb)) (.cells #[.bool p, .bool q] 90)
    rw [World.size_alloc, World.size_alloc] at h
    exact h
  have r0 := cells_cell r (j := 0) rfl
  have r1 := cells_cell r (j := 1) rfl
  clear T0 r
  unfold zv
  go_enter Tryz.func69, Tryz.ntmps69
  go_wp2
  refine bodyPost_ret (v := .agg #[.bool p, .bool q]) (by simp [results, Tryz.results69, go_sem, r0, r1]) rfl ?_
  exact ⟨rfl, HB.out⟩
set_option maxRecDepth 100000 in
set_option maxHeartbeats 2000000 in
theorem unlike_any  : Calls Tryz.prog 88 #[zv p A na ca, zv q A2 nb cb] w fun e w' => e = .returned (.bool (p != q)) ∧ Below w.heap.size w w' := by
  have T0 := two_box w p A na ca q A2 nb cb
  have HS := Lib.hid (signsOf_any (A := A) (A2 := A2) (na := na) (ca := ca) (nb := nb) (cb := cb) (p := p) (q := q) (w := ((w.alloc (zo p A na ca)).alloc (zo q A2 nb cb))))
  have E1 := eq_signs p q true false
  have E2 := eq_signs p q false true
  unfold zv at *
  cases p <;> cases q <;>
  · go_enter Tryz.func88, Tryz.ntmps88
    go_wp2_with fail
    refine HS.out.mono ?_
    rintro e w1 ⟨rfl, hb1⟩
    have hb2 := Lib.hid (below_then T0.b hb1)
    clear T0 hb1 HS
    go_wp2
    go_ret
    exact ⟨rfl, below_then hb2.out (bxb _ _)⟩
set_option maxRecDepth 100000 in
set_option maxHeartbeats 2000000 in
theorem signed_any  : Calls Tryz.prog 63 #[.bool p, .slice A na ca] w fun e w' => e = .returned (if na = 0 then zv false none 0 0 else zv p A na ca) ∧ Below w.heap.size w w' := by
  by_cases h0 : na = 0
  · subst h0
    rw [if_pos rfl]
    have HB : Hid (Below w.heap.size w (w.alloc (zo false none 0 0))) := bxb _ _
    have r : BoxZ (w.alloc (zo false none 0 0)) w.heap.size false none 0 0 := World.alloc_heap_new _ _
    have r0 := r.c0
    have r1 := r.c1
    clear r
    unfold zv
    go_enter Tryz.func63, Tryz.ntmps63
    go_wp2
    refine bodyPost_ret (v := zv false none 0 0) (by simp [results, Tryz.results63, go_sem, r0, r1, zv]) rfl ?_
    exact ⟨rfl, HB.out⟩
  · have h1 : ((na : Int) == 0) = false := by simp; omega
    rw [if_neg h0]
    have HB : Hid (Below w.heap.size w (w.alloc (zo p A na ca))) := bxb _ _
    have r : BoxZ (w.alloc (zo p A na ca)) w.heap.size p A na ca := World.alloc_heap_new _ _
    have r0 := r.c0
    have r1 := r.c1
    clear r
    unfold zv
    go_enter Tryz.func63, Tryz.ntmps63
    go_wp2
    refine bodyPost_ret (v := zv p A na ca) (by simp [results, Tryz.results63, go_sem, r0, r1, zv]) rfl ?_
    exact ⟨rfl, HB.out⟩
theorem signed_z (h : ZNm w A na ca z) : (if na = 0 then zv false none 0 0 else zv (decide (z < 0)) A na ca) = (if z = 0 then zV 0 none 0 0 else zV z A na ca) := by
  have h0 := h.zero
  by_cases hz : z = 0
  · rw [if_pos hz, if_pos (h0.2 (by omega))]
    rfl
  · rw [if_neg hz, if_neg (fun e => hz (by have := h0.1 e; omega))]
/-- A row of one number, of two: whole.mayBe's. -/
def oneRow (p : Bool) (A : Option Addr) (na ca : Nat) : Obj := .cells #[.bool p, .slice A na ca] zT
def twoRow (p : Bool) (A : Option Addr) (na ca : Nat) (q : Bool) (A2 : Option Addr) (nb cb : Nat) : Obj := .cells #[.bool p, .slice A na ca, .bool q, .slice A2 nb cb] zT
set_option maxRecDepth 100000 in
set_option maxHeartbeats 2000000 in
theorem mayOne_any (g : Nat) (hg : w.heap[g]? = some (oneRow p A na ca)) (ha : Rd w A na a) (hna : na ≤ 400) : Calls Tryz.prog 68 #[.slice (some ⟨g, 0, none⟩) 1 1] w fun e w' => e = .returned (.int .i64 (oneE p a)) ∧ Below w.heap.size w w' := by
  have hgs : g < w.heap.size := (Array.getElem?_eq_some_iff.1 hg).1
  have hb := True.intro
  have HG : Hid (∀ W, Below w.heap.size w W → W.cell? ⟨g, 0, none⟩ = some (.bool p) ∧ W.cell? ⟨g, 1, none⟩ = some (.slice A na ca)) := fun W hb => ⟨cells_cell ((hb.block g hgs).trans hg) rfl, cells_cell ((hb.block g hgs).trans hg) rfl⟩
  clear hg
  go_enter Tryz.func68, Tryz.ntmps68
  go_wp2
  go_loopw [8] (fun i wr => ∃ k : Nat, k ≤ 1 ∧ i = .int .i64 (k : Int) ∧ (1 ≤ k → mayZ p a = true) ∧ Below w.heap.size w wr) (fun i _ => 1 - (intOf i).toNat)
  case atStart => exact ⟨0, by omega, rfl, fun h => absurd h (by omega), Below.refl _ _⟩
  case round =>
    obtain ⟨k, hk, rfl, h1, hB⟩ := hrel
    have hc0 := (HG.out _ hB).1
    have hc1 := (HG.out _ hB).2
    obtain rfl | rfl : k = 0 ∨ k = 1 := by omega
    · have HC := Lib.hid (fun W (hW : Below w.heap.size w W) => check_any A na ca a W (ha.below hW) (by omega))
      have HB := Lib.hid (below_then hB (bxb wr (zo p A na ca)))
      have hbx : BoxZ (wr.alloc (zo p A na ca)) wr.heap.size p A na ca := World.alloc_heap_new _ _
      have HX := Lib.hid hbx
      clear hbx
      cases hm : may a with
      | false =>
        rw [bad_eight (ls := [a]) (by simp [hm])] at HC
        have HR : Hid (oneE p a = 8) := by show _ = _; simp [oneE, mayZ, hm]
        clear hm hB ha hb h1
        go_wp2_with fail
        refine (HC.out _ HB.out).mono ?_
        rintro e w3 ⟨rfl, hb3⟩
        have hB3 := Lib.hid (below_then HB.out hb3)
        go_wp2
        go_ret
        exact ⟨by rw [HR.out]; rfl, hB3.out⟩
      | true =>
        rw [bad_zero (ls := [a]) (by simp [hm])] at HC
        cases hp : p with
        | false =>
          have HK : Hid (mayZ false a = true) := by show _ = _; simp [mayZ, hm]
          subst hp
          have H1 := Lib.hid h1
          clear hm hB ha hb h1
          go_wp2_with fail
          refine (HC.out _ HB.out).mono ?_
          rintro e w3 ⟨rfl, hb3⟩
          have hB3 := Lib.hid (below_then HB.out hb3)
          have hX3 := HX.out.below hb3 (by simp)
          have x0 := hX3.c0
          have x1 := hX3.c1
          clear hb3 hX3
          go_wp2
          go_roundw
          case rel => exact ⟨1, by omega, rfl, fun _ => HK.out, hB3.out⟩
          case measure => simp [intOf]
        | true =>
          by_cases h0 : na = 0
          · have ha0 : a = [] := List.eq_nil_of_length_eq_zero (by rw [ha.len]; exact h0)
            have HR : Hid (oneE p a = 8) := by show _ = _; simp [oneE, mayZ, hp, ha0]
            subst hp
            subst h0
            clear hm hB ha hb h1
            go_wp2_with fail
            refine (HC.out _ HB.out).mono ?_
            rintro e w3 ⟨rfl, hb3⟩
            have hB3 := Lib.hid (below_then HB.out hb3)
            have hX3 := HX.out.below hb3 (by simp)
            have x0 := hX3.c0
            have x1 := hX3.c1
            clear hb3 hX3
            go_wp2
            go_ret
            exact ⟨by rw [HR.out]; rfl, hB3.out⟩
          · have ha0 : a ≠ [] := fun e => h0 (by rw [← ha.len, e]; rfl)
            have HK : Hid (mayZ true a = true) := by show _ = _; simp [mayZ, hm, ha0]
            have hn0 : ((na : Int) == 0) = false := by simp; omega
            subst hp
            have H1 := Lib.hid h1
            clear hm hB ha hb h1
            go_wp2_with fail
            refine (HC.out _ HB.out).mono ?_
            rintro e w3 ⟨rfl, hb3⟩
            have hB3 := Lib.hid (below_then HB.out hb3)
            have hX3 := HX.out.below hb3 (by simp)
            have x0 := hX3.c0
            have x1 := hX3.c1
            clear hb3 hX3
            go_wp2
            go_roundw
            case rel => exact ⟨1, by omega, rfl, fun _ => HK.out, hB3.out⟩
            case measure => simp [intOf]
    · have HR : Hid (oneE p a = 0) := by show _ = _; simp [oneE, h1 (by omega)]
      have HB := Lib.hid hB
      clear h1 hB ha
      go_wp2
      go_ret
      exact ⟨by rw [HR.out]; rfl, HB.out⟩
set_option maxRecDepth 100000 in
set_option maxHeartbeats 2000000 in
theorem mayTwo_any (g : Nat) (hg : w.heap[g]? = some (twoRow p A na ca q A2 nb cb)) (ha : Rd w A na a) (hb : Rd w A2 nb b) (hna : na ≤ 400) (hnb : nb ≤ 400) : Calls Tryz.prog 68 #[.slice (some ⟨g, 0, none⟩) 2 2] w fun e w' => e = .returned (.int .i64 (twoE p a q b)) ∧ Below w.heap.size w w' := by
  have hgs : g < w.heap.size := (Array.getElem?_eq_some_iff.1 hg).1
  have HG : Hid (∀ W, Below w.heap.size w W → W.cell? ⟨g, 0, none⟩ = some (.bool p) ∧ W.cell? ⟨g, 1, none⟩ = some (.slice A na ca) ∧ W.cell? ⟨g, 2, none⟩ = some (.bool q) ∧ W.cell? ⟨g, 3, none⟩ = some (.slice A2 nb cb)) := fun W hb => ⟨cells_cell ((hb.block g hgs).trans hg) rfl, cells_cell ((hb.block g hgs).trans hg) rfl, cells_cell ((hb.block g hgs).trans hg) rfl, cells_cell ((hb.block g hgs).trans hg) rfl⟩
  clear hg
  go_enter Tryz.func68, Tryz.ntmps68
  go_wp2
  go_loopw [8] (fun i wr => ∃ k : Nat, k ≤ 2 ∧ i = .int .i64 (k : Int) ∧ ((1 ≤ k → mayZ p a = true) ∧ (2 ≤ k → mayZ q b = true)) ∧ Below w.heap.size w wr) (fun i _ => 2 - (intOf i).toNat)
  case atStart => exact ⟨0, by omega, rfl, ⟨fun h => absurd h (by omega), fun h => absurd h (by omega)⟩, Below.refl _ _⟩
  case round =>
    obtain ⟨k, hk, rfl, h1, hB⟩ := hrel
    have hc0 := (HG.out _ hB).1
    have hc1 := (HG.out _ hB).2.1
    have hc2 := (HG.out _ hB).2.2.1
    have hc3 := (HG.out _ hB).2.2.2
    obtain rfl | rfl | rfl : k = 0 ∨ k = 1 ∨ k = 2 := by omega
    · have HC := Lib.hid (fun W (hW : Below w.heap.size w W) => check_any A na ca a W (ha.below hW) (by omega))
      have HB := Lib.hid (below_then hB (bxb wr (zo p A na ca)))
      have hbx : BoxZ (wr.alloc (zo p A na ca)) wr.heap.size p A na ca := World.alloc_heap_new _ _
      have HX := Lib.hid hbx
      clear hbx
      cases hm : may a with
      | false =>
        rw [bad_eight (ls := [a]) (by simp [hm])] at HC
        have HR : Hid (twoE p a q b = 8) := by show _ = _; simp [twoE, twoM, mayZ, hm]
        clear hm hB ha hb h1
        go_wp2_with fail
        refine (HC.out _ HB.out).mono ?_
        rintro e w3 ⟨rfl, hb3⟩
        have hB3 := Lib.hid (below_then HB.out hb3)
        go_wp2
        go_ret
        exact ⟨by rw [HR.out]; rfl, hB3.out⟩
      | true =>
        rw [bad_zero (ls := [a]) (by simp [hm])] at HC
        cases hp : p with
        | false =>
          have HK : Hid (mayZ false a = true) := by show _ = _; simp [mayZ, hm]
          subst hp
          have H1 := Lib.hid h1
          clear hm hB ha hb h1
          go_wp2_with fail
          refine (HC.out _ HB.out).mono ?_
          rintro e w3 ⟨rfl, hb3⟩
          have hB3 := Lib.hid (below_then HB.out hb3)
          have hX3 := HX.out.below hb3 (by simp)
          have x0 := hX3.c0
          have x1 := hX3.c1
          clear hb3 hX3
          go_wp2
          go_roundw
          case rel => exact ⟨1, by omega, rfl, ⟨fun _ => HK.out, fun h => absurd h (by omega)⟩, hB3.out⟩
          case measure => simp [intOf]
        | true =>
          by_cases h0 : na = 0
          · have ha0 : a = [] := List.eq_nil_of_length_eq_zero (by rw [ha.len]; exact h0)
            have HR : Hid (twoE p a q b = 8) := by show _ = _; simp [twoE, twoM, mayZ, hp, ha0]
            subst hp
            subst h0
            clear hm hB ha hb h1
            go_wp2_with fail
            refine (HC.out _ HB.out).mono ?_
            rintro e w3 ⟨rfl, hb3⟩
            have hB3 := Lib.hid (below_then HB.out hb3)
            have hX3 := HX.out.below hb3 (by simp)
            have x0 := hX3.c0
            have x1 := hX3.c1
            clear hb3 hX3
            go_wp2
            go_ret
            exact ⟨by rw [HR.out]; rfl, hB3.out⟩
          · have ha0 : a ≠ [] := fun e => h0 (by rw [← ha.len, e]; rfl)
            have HK : Hid (mayZ true a = true) := by show _ = _; simp [mayZ, hm, ha0]
            have hn0 : ((na : Int) == 0) = false := by simp; omega
            subst hp
            have H1 := Lib.hid h1
            clear hm hB ha hb h1
            go_wp2_with fail
            refine (HC.out _ HB.out).mono ?_
            rintro e w3 ⟨rfl, hb3⟩
            have hB3 := Lib.hid (below_then HB.out hb3)
            have hX3 := HX.out.below hb3 (by simp)
            have x0 := hX3.c0
            have x1 := hX3.c1
            clear hb3 hX3
            go_wp2
            go_roundw
            case rel => exact ⟨1, by omega, rfl, ⟨fun _ => HK.out, fun h => absurd h (by omega)⟩, hB3.out⟩
            case measure => simp [intOf]
    · have HC := Lib.hid (fun W (hW : Below w.heap.size w W) => check_any A2 nb cb b W (hb.below hW) (by omega))
      have HB := Lib.hid (below_then hB (bxb wr (zo q A2 nb cb)))
      have hbx : BoxZ (wr.alloc (zo q A2 nb cb)) wr.heap.size q A2 nb cb := World.alloc_heap_new _ _
      have HX := Lib.hid hbx
      clear hbx
      cases hm : may b with
      | false =>
        rw [bad_eight (ls := [b]) (by simp [hm])] at HC
        have HR : Hid (twoE p a q b = 8) := by show _ = _; simp [twoE, twoM, mayZ, hm]
        clear hm hB ha hb h1
        go_wp2_with fail
        refine (HC.out _ HB.out).mono ?_
        rintro e w3 ⟨rfl, hb3⟩
        have hB3 := Lib.hid (below_then HB.out hb3)
        go_wp2
        go_ret
        exact ⟨by rw [HR.out]; rfl, hB3.out⟩
      | true =>
        rw [bad_zero (ls := [b]) (by simp [hm])] at HC
        cases hp : q with
        | false =>
          have HK : Hid (mayZ false b = true) := by show _ = _; simp [mayZ, hm]
          subst hp
          have H1 := Lib.hid h1
          clear hm hB ha hb h1
          go_wp2_with fail
          refine (HC.out _ HB.out).mono ?_
          rintro e w3 ⟨rfl, hb3⟩
          have hB3 := Lib.hid (below_then HB.out hb3)
          have hX3 := HX.out.below hb3 (by simp)
          have x0 := hX3.c0
          have x1 := hX3.c1
          clear hb3 hX3
          go_wp2
          go_roundw
          case rel => exact ⟨2, by omega, rfl, ⟨fun _ => H1.out.1 (by omega), fun _ => HK.out⟩, hB3.out⟩
          case measure => simp [intOf]
        | true =>
          by_cases h0 : nb = 0
          · have ha0 : b = [] := List.eq_nil_of_length_eq_zero (by rw [hb.len]; exact h0)
            have HR : Hid (twoE p a q b = 8) := by show _ = _; simp [twoE, twoM, mayZ, hp, ha0]
            subst hp
            subst h0
            clear hm hB ha hb h1
            go_wp2_with fail
            refine (HC.out _ HB.out).mono ?_
            rintro e w3 ⟨rfl, hb3⟩
            have hB3 := Lib.hid (below_then HB.out hb3)
            have hX3 := HX.out.below hb3 (by simp)
            have x0 := hX3.c0
            have x1 := hX3.c1
            clear hb3 hX3
            go_wp2
            go_ret
            exact ⟨by rw [HR.out]; rfl, hB3.out⟩
          · have ha0 : b ≠ [] := fun e => h0 (by rw [← hb.len, e]; rfl)
            have HK : Hid (mayZ true b = true) := by show _ = _; simp [mayZ, hm, ha0]
            have hn0 : ((nb : Int) == 0) = false := by simp; omega
            subst hp
            have H1 := Lib.hid h1
            clear hm hB ha hb h1
            go_wp2_with fail
            refine (HC.out _ HB.out).mono ?_
            rintro e w3 ⟨rfl, hb3⟩
            have hB3 := Lib.hid (below_then HB.out hb3)
            have hX3 := HX.out.below hb3 (by simp)
            have x0 := hX3.c0
            have x1 := hX3.c1
            clear hb3 hX3
            go_wp2
            go_roundw
            case rel => exact ⟨2, by omega, rfl, ⟨fun _ => H1.out.1 (by omega), fun _ => HK.out⟩, hB3.out⟩
            case measure => simp [intOf]
    · have HR : Hid (twoE p a q b = 0) := by show _ = _; simp [twoE, twoM, h1.1 (by omega), h1.2 (by omega)]
      have HB := Lib.hid hB
      clear h1 hB ha hb
      go_wp2
      go_ret
      exact ⟨by rw [HR.out]; rfl, HB.out⟩
end
end Go.Proofs.YtgiokmfdafmaoaaGreat

/- whole: sums, products. -/
namespace Go.Proofs.YtgiokmfdafmaoaaGreat
open Go.RowKit Go.Shelf
set_option linter.unusedVariables false
set_option linter.unusedSimpArgs false

theorem sub_nm {A A2 : Option Addr} {na ca nb cb v u : Nat} {w : World} (h1 : Nm w A na ca v) (h2 : Nm w A2 nb cb u) (l1 : na ≤ 400) (l2 : nb ≤ 400) (h : u ≤ v) :
    Calls Tryz.prog 129 #[.slice A na ca, .slice A2 nb cb] w fun e w' => ∃ A' k c, e = .returned (.tuple #[.slice A' k c, .int .i64 0]) ∧ Own w' w.heap.size (.slice A' k c) (limbs (v - u)) ∧ Below w.heap.size w w' := by
  have h := sub_ok A A2 na ca nb cb (limbs v) (limbs u) w h1.rd h2.rd (by omega) (by omega) (by simp [may_limbs]) (by rw [val_limbs, val_limbs]; exact h)
  rwa [val_limbs, val_limbs] at h
theorem sub_few_nm {A A2 : Option Addr} {na ca nb cb v u : Nat} {w : World} (h1 : Nm w A na ca v) (h2 : Nm w A2 nb cb u) (l1 : na ≤ 400) (l2 : nb ≤ 400) (h : v < u) :
    Calls Tryz.prog 129 #[.slice A na ca, .slice A2 nb cb] w fun e w' => e = .returned (.tuple #[.slice none 0 0, .int .i64 10]) ∧ Below w.heap.size w w' :=
  sub_less A A2 na ca nb cb (limbs v) (limbs u) w h1.rd h2.rd (by omega) (by omega) (by simp [may_limbs]) (by rw [val_limbs, val_limbs]; exact h)
section
variable {A A2 : Option Addr} {na ca nb cb v u : Nat} {p q : Bool} {a b : List Nat} {w : World} {z y : Int}
theorem signed_own {B k c : Nat} {d : Bool} (o : Own w B (.slice A k c) (limbs z.natAbs)) (hd : z ≠ 0 → decide (z < 0) = d) :
    Calls Tryz.prog 63 #[.bool d, .slice A k c] w fun e w' => ∃ A' k' c', e = .returned (zV z A' k' c') ∧ Own w' B (.slice A' k' c') (limbs z.natAbs) ∧ Below w.heap.size w w' := by
  refine (signed_any (p := d) (A := A) (na := k) (ca := c) (w := w)).mono ?_
  rintro e w1 ⟨rfl, hb⟩
  have h0 := o.nm.zero
  by_cases hz : k = 0
  · have hz0 : z = 0 := by have := h0.1 hz; omega
    rw [if_pos hz]
    subst hz0
    exact ⟨none, 0, 0, rfl, by rw [show (0 : Int).natAbs = 0 from rfl, limbs_zero]; exact own_nil _ _, hb⟩
  · have hz0 : z ≠ 0 := fun e => hz (h0.2 (by omega))
    rw [if_neg hz, ← hd hz0]
    exact ⟨A, k, c, rfl, o.below hb, hb⟩
set_option maxRecDepth 100000 in
set_option maxHeartbeats 2000000 in
theorem difference_any (h1 : Nm w A na ca v) (h2 : Nm w A2 nb cb u) (l1 : na ≤ 400) (l2 : nb ≤ 400) : Calls Tryz.prog 113 #[.slice A na ca, .slice A2 nb cb] w (ZOne w ((v : Int) - u)) := by
  have hb0 := bxb w (zo false none 0 0)
  have R0 : BoxZ (w.alloc (zo false none 0 0)) w.heap.size false none 0 0 := World.alloc_heap_new _ _
  have hW0 : Hid (w.heap.size < (w.alloc (zo false none 0 0)).heap.size) := by show _ < _; simp
  obtain ⟨W0, hW⟩ : ∃ W0, W0 = w.alloc (zo false none 0 0) := ⟨_, rfl⟩
  by_cases hle : u ≤ v
  · have HS := Lib.hid (sub_nm (h1.below hb0) (h2.below hb0) l1 l2 hle)
    have hz : (v : Int) - u = ((v - u : Nat) : Int) := by omega
    rw [hz]
    clear h1 h2 l1 l2 hle hz
    generalize v - u = n0 at HS ⊢
    obtain ⟨n, hn⟩ : ∃ n : Int, n = (n0 : Int) := ⟨_, rfl⟩
    have HD : Hid (n ≠ 0 → decide (n < 0) = false) := fun _ => by simp; omega
    have hn0 : n0 = n.natAbs := by omega
    rw [← hn]
    rw [hn0] at HS
    clear hn hn0
    clear hW
    go_enter Tryz.func113, Tryz.ntmps113
    go_wp2_with fail
    refine HS.out.mono ?_
    rintro e w1 ⟨A3, k3, c3, rfl, o3, hb3⟩
    have hb2 := below_then hb0 hb3
    have R1 := R0.below hb3 hW0.out
    clear hb0 R0 HS
    go_wp2_with fail
    refine (signed_own (z := n) (d := false) o3 HD.out).mono ?_
    rintro e w4 ⟨A4, k4, c4, rfl, o4, hb4⟩
    have hb5 := below_then hb2 hb4
    have R4 := R1.below hb4 (Array.getElem?_eq_some_iff.1 R1).1
    have r0 := R4.c0
    have r1 := R4.c1
    have f0 := R4.f 0
    have f1 := R4.f 1
    clear R4 R1 hb4 hb3
    unfold zV zv
    go_wp2
    refine bodyPost_ret (v := zV n A4 k4 c4) (by simp [results, Tryz.results113, go_sem, r0, r1, zV, zv]) rfl ?_
    exact ⟨A4, k4, c4, rfl, own_box (w1 := w.alloc (zo false none 0 0)) hW0.out (Nat.le_refl _) o4 _ _, box_below (Nat.le_refl _) hb5 _ _⟩
  · have hlt : v < u := by omega
    have HF := Lib.hid (sub_few_nm (h1.below hb0) (h2.below hb0) l1 l2 hlt)
    have HS := Lib.hid (fun W (hW : Below (w.alloc (zo false none 0 0)).heap.size (w.alloc (zo false none 0 0)) W) => sub_nm ((h2.below hb0).below hW) ((h1.below hb0).below hW) l2 l1 (Nat.le_of_lt hlt))
    have hz : (v : Int) - u = -((u - v : Nat) : Int) := by omega
    rw [hz]
    clear h1 h2 l1 l2 hle hz hlt
    generalize u - v = n0 at HS ⊢
    obtain ⟨n, hn⟩ : ∃ n : Int, n = -(n0 : Int) := ⟨_, rfl⟩
    have HD : Hid (n ≠ 0 → decide (n < 0) = true) := fun h => by simp; omega
    have hn0 : n0 = n.natAbs := by omega
    rw [← hn]
    rw [hn0] at HS
    clear hn hn0
    clear hW
    go_enter Tryz.func113, Tryz.ntmps113
    go_wp2_with fail
    refine HF.out.mono ?_
    rintro e w9 ⟨rfl, hb9⟩
    have HS9 := Lib.hid (HS.out _ hb9)
    clear HS HF
    have hb10 := below_then hb0 hb9
    have R9 := R0.below hb9 hW0.out
    have hs9 := hb9.size
    clear hb0 R0 hb9
    go_wp2_with fail
    refine HS9.out.mono ?_
    rintro e w1 ⟨A3, k3, c3, rfl, o3, hb3⟩
    have hb2 := below_then hb10 hb3
    have R1 := R9.below hb3 (Array.getElem?_eq_some_iff.1 R9).1
    replace o3 := own_mono o3 hs9
    clear hb10 R9 HS9 hs9
    go_wp2_with fail
    refine (signed_own (z := n) (d := true) o3 HD.out).mono ?_
    rintro e w4 ⟨A4, k4, c4, rfl, o4, hb4⟩
    have hb5 := below_then hb2 hb4
    have R4 := R1.below hb4 (Array.getElem?_eq_some_iff.1 R1).1
    have r0 := R4.c0
    have r1 := R4.c1
    have f0 := R4.f 0
    have f1 := R4.f 1
    clear R4 R1 hb4 hb3
    unfold zV zv
    go_wp2
    refine bodyPost_ret (v := zV n A4 k4 c4) (by simp [results, Tryz.results113, go_sem, r0, r1, zV, zv]) rfl ?_
    exact ⟨A4, k4, c4, rfl, own_box (w1 := w.alloc (zo false none 0 0)) hW0.out (Nat.le_refl _) o4 _ _, box_below (Nat.le_refl _) hb5 _ _⟩
set_option maxRecDepth 100000 in
set_option maxHeartbeats 4000000 in
theorem sum_any (ha : ZNm w A na ca z) (hb : ZNm w A2 nb cb y) (l1 : na ≤ 400) (l2 : nb ≤ 400) : Calls Tryz.prog 92 #[zV z A na ca, zV y A2 nb cb] w (ZOne w (z + y)) := by
  obtain ⟨d1, hd1⟩ : ∃ d, decide (z < 0) = d := ⟨_, rfl⟩
  obtain ⟨d2, hd2⟩ : ∃ d, decide (y < 0) = d := ⟨_, rfl⟩
  unfold zV zv
  rw [hd1, hd2]
  have T0 := tri_box w d1 A na ca d2 A2 nb cb
  have HSg := Lib.hid (fun W => signsOf_any (A := A) (A2 := A2) (na := na) (ca := ca) (nb := nb) (cb := cb) (p := d1) (q := d2) (w := W))
  unfold zv at HSg
  have E1 := eq_signs d1 d2 true false
  have E2 := eq_signs d1 d2 false true
  cases d1 with
  | true =>
    cases d2 with
    | true =>
      have hq := zsum_same (hd1.trans hd2.symm)
      have hd3 : z + y ≠ 0 → decide (z + y < 0) = true := fun _ => hq.1.trans hd1
      have HS := Lib.hid (fun W (hW : Below w.heap.size w W) => add_nm A A2 na ca nb cb z.natAbs y.natAbs W (ha.below hW) (hb.below hW) (by omega) (by omega))
      rw [← hq.2] at HS
      have HD := Lib.hid hd3
      clear hd1 hd2 ha hb l1 l2 hq hd3
      generalize z + y = n at HS HD ⊢
      go_enter Tryz.func92, Tryz.ntmps92
      go_wp2_with fail
      refine (HSg.out _).mono ?_
      rintro e w1 ⟨rfl, hb1⟩
      have T1 := T0.next (below_then hb1 (bxb _ (.cells #[.bool true, .bool true] 90)))
      have hs1 : (w1.alloc (.cells #[.bool true, .bool true] 90)).heap[w1.heap.size]? = some (.cells #[.bool true, .bool true] 90) := World.alloc_heap_new _ _
      have s0 := cells_cell hs1 (j := 0) rfl
      have s1 := cells_cell hs1 (j := 1) rfl
      clear hb1 T0 HSg hs1
      have xa0 := T1.t.x.c0
      have xa1 := T1.t.x.c1
      have xb0 := T1.t.y.c0
      have xb1 := T1.t.y.c1
      have r0 := T1.r.c0
      have r1 := T1.r.c1
      have f0 := T1.r.f 0
      have f1 := T1.r.f 1
      go_wp2_with fail
      refine (HS.out _ T1.t.b).mono ?_
      rintro e w3 ⟨A3, k3, c3, rfl, o3, hb3⟩
      have T3 := T1.next hb3
      have hT1 := Lib.hid (Array.getElem?_eq_some_iff.1 T1.r).1
      clear hb3 T1 s0 s1
      clear xa0 xa1 xb0 xb1 r0 r1 f0 f1
      have xa0 := T3.t.x.c0
      have xa1 := T3.t.x.c1
      have xb0 := T3.t.y.c0
      have xb1 := T3.t.y.c1
      have r0 := T3.r.c0
      have r1 := T3.r.c1
      have f0 := T3.r.f 0
      have f1 := T3.r.f 1
      go_wp2_with fail
      refine (signed_own (z := n) (d := true) o3 HD.out).mono ?_
      rintro e w4 ⟨A4, k4, c4, rfl, o4, hb4⟩
      have T4 := T3.next hb4
      clear hb4 T3
      clear xa0 xa1 xb0 xb1 r0 r1 f0 f1
      have xa0 := T4.t.x.c0
      have xa1 := T4.t.x.c1
      have xb0 := T4.t.y.c0
      have xb1 := T4.t.y.c1
      have r0 := T4.r.c0
      have r1 := T4.r.c1
      have f0 := T4.r.f 0
      have f1 := T4.r.f 1
      unfold zV zv
      go_wp2
      refine bodyPost_ret (v := zV n A4 k4 c4) (by simp [results, Tryz.results92, go_sem, r0, r1, zV, zv]) rfl ?_
      exact ⟨A4, k4, c4, rfl, own_box hT1.out (show w.heap.size ≤ w.heap.size + 1 + 1 by omega) o4 _ _, box_below (show w.heap.size ≤ w.heap.size + 1 + 1 by omega) T4.t.b _ _⟩
    | false =>
      have hz : z + y = ((y.natAbs : Nat) : Int) - (z.natAbs : Nat) := by simp only [decide_eq_true_eq, decide_eq_false_iff_not] at hd1 hd2; omega
      have HD := Lib.hid (fun W (hW : Below w.heap.size w W) => difference_any (hb.below hW) (ha.below hW) l2 l1)
      rw [hz]
      clear hd1 hd2 ha hb l1 l2 hz
      generalize ((y.natAbs : Nat) : Int) - (z.natAbs : Nat) = n at HD ⊢
      go_enter Tryz.func92, Tryz.ntmps92
      go_wp2_with fail
      refine (HSg.out _).mono ?_
      rintro e w1 ⟨rfl, hb1⟩
      have T1 := T0.next (below_then hb1 (bxb _ (.cells #[.bool true, .bool false] 90)))
      have hs1 : (w1.alloc (.cells #[.bool true, .bool false] 90)).heap[w1.heap.size]? = some (.cells #[.bool true, .bool false] 90) := World.alloc_heap_new _ _
      have s0 := cells_cell hs1 (j := 0) rfl
      have s1 := cells_cell hs1 (j := 1) rfl
      clear hb1 T0 HSg hs1
      have xa0 := T1.t.x.c0
      have xa1 := T1.t.x.c1
      have xb0 := T1.t.y.c0
      have xb1 := T1.t.y.c1
      have r0 := T1.r.c0
      have r1 := T1.r.c1
      have f0 := T1.r.f 0
      have f1 := T1.r.f 1
      go_wp2_with fail
      refine (HD.out _ T1.t.b).mono ?_
      rintro e w4 ⟨A4, k4, c4, rfl, o4, hb4⟩
      have T4 := T1.next hb4
      have hT1 := Lib.hid (Array.getElem?_eq_some_iff.1 T1.r).1
      clear hb4 T1 s0 s1
      clear xa0 xa1 xb0 xb1 r0 r1 f0 f1
      have xa0 := T4.t.x.c0
      have xa1 := T4.t.x.c1
      have xb0 := T4.t.y.c0
      have xb1 := T4.t.y.c1
      have r0 := T4.r.c0
      have r1 := T4.r.c1
      have f0 := T4.r.f 0
      have f1 := T4.r.f 1
      unfold zV zv
      go_wp2
      refine bodyPost_ret (v := zV n A4 k4 c4) (by simp [results, Tryz.results92, go_sem, r0, r1, zV, zv]) rfl ?_
      exact ⟨A4, k4, c4, rfl, own_box hT1.out (show w.heap.size ≤ w.heap.size + 1 + 1 by omega) o4 _ _, box_below (show w.heap.size ≤ w.heap.size + 1 + 1 by omega) T4.t.b _ _⟩
  | false =>
    cases d2 with
    | true =>
      have hz : z + y = ((z.natAbs : Nat) : Int) - (y.natAbs : Nat) := by simp only [decide_eq_true_eq, decide_eq_false_iff_not] at hd1 hd2; omega
      have HD := Lib.hid (fun W (hW : Below w.heap.size w W) => difference_any (ha.below hW) (hb.below hW) l1 l2)
      rw [hz]
      clear hd1 hd2 ha hb l1 l2 hz
      generalize ((z.natAbs : Nat) : Int) - (y.natAbs : Nat) = n at HD ⊢
      go_enter Tryz.func92, Tryz.ntmps92
      go_wp2_with fail
      refine (HSg.out _).mono ?_
      rintro e w1 ⟨rfl, hb1⟩
      have T1 := T0.next (below_then hb1 (bxb _ (.cells #[.bool false, .bool true] 90)))
      have hs1 : (w1.alloc (.cells #[.bool false, .bool true] 90)).heap[w1.heap.size]? = some (.cells #[.bool false, .bool true] 90) := World.alloc_heap_new _ _
      have s0 := cells_cell hs1 (j := 0) rfl
      have s1 := cells_cell hs1 (j := 1) rfl
      clear hb1 T0 HSg hs1
      have xa0 := T1.t.x.c0
      have xa1 := T1.t.x.c1
      have xb0 := T1.t.y.c0
      have xb1 := T1.t.y.c1
      have r0 := T1.r.c0
      have r1 := T1.r.c1
      have f0 := T1.r.f 0
      have f1 := T1.r.f 1
      go_wp2_with fail
      refine (HD.out _ T1.t.b).mono ?_
      rintro e w4 ⟨A4, k4, c4, rfl, o4, hb4⟩
      have T4 := T1.next hb4
      have hT1 := Lib.hid (Array.getElem?_eq_some_iff.1 T1.r).1
      clear hb4 T1 s0 s1
      clear xa0 xa1 xb0 xb1 r0 r1 f0 f1
      have xa0 := T4.t.x.c0
      have xa1 := T4.t.x.c1
      have xb0 := T4.t.y.c0
      have xb1 := T4.t.y.c1
      have r0 := T4.r.c0
      have r1 := T4.r.c1
      have f0 := T4.r.f 0
      have f1 := T4.r.f 1
      unfold zV zv
      go_wp2
      refine bodyPost_ret (v := zV n A4 k4 c4) (by simp [results, Tryz.results92, go_sem, r0, r1, zV, zv]) rfl ?_
      exact ⟨A4, k4, c4, rfl, own_box hT1.out (show w.heap.size ≤ w.heap.size + 1 + 1 by omega) o4 _ _, box_below (show w.heap.size ≤ w.heap.size + 1 + 1 by omega) T4.t.b _ _⟩
    | false =>
      have hq := zsum_same (hd1.trans hd2.symm)
      have hd3 : z + y ≠ 0 → decide (z + y < 0) = false := fun _ => hq.1.trans hd1
      have HS := Lib.hid (fun W (hW : Below w.heap.size w W) => add_nm A A2 na ca nb cb z.natAbs y.natAbs W (ha.below hW) (hb.below hW) (by omega) (by omega))
      rw [← hq.2] at HS
      have HD := Lib.hid hd3
      clear hd1 hd2 ha hb l1 l2 hq hd3
      generalize z + y = n at HS HD ⊢
      go_enter Tryz.func92, Tryz.ntmps92
      go_wp2_with fail
      refine (HSg.out _).mono ?_
      rintro e w1 ⟨rfl, hb1⟩
      have T1 := T0.next (below_then hb1 (bxb _ (.cells #[.bool false, .bool false] 90)))
      have hs1 : (w1.alloc (.cells #[.bool false, .bool false] 90)).heap[w1.heap.size]? = some (.cells #[.bool false, .bool false] 90) := World.alloc_heap_new _ _
      have s0 := cells_cell hs1 (j := 0) rfl
      have s1 := cells_cell hs1 (j := 1) rfl
      clear hb1 T0 HSg hs1
      have xa0 := T1.t.x.c0
      have xa1 := T1.t.x.c1
      have xb0 := T1.t.y.c0
      have xb1 := T1.t.y.c1
      have r0 := T1.r.c0
      have r1 := T1.r.c1
      have f0 := T1.r.f 0
      have f1 := T1.r.f 1
      go_wp2_with fail
      refine (HS.out _ T1.t.b).mono ?_
      rintro e w3 ⟨A3, k3, c3, rfl, o3, hb3⟩
      have T3 := T1.next hb3
      have hT1 := Lib.hid (Array.getElem?_eq_some_iff.1 T1.r).1
      clear hb3 T1 s0 s1
      clear xa0 xa1 xb0 xb1 r0 r1 f0 f1
      have xa0 := T3.t.x.c0
      have xa1 := T3.t.x.c1
      have xb0 := T3.t.y.c0
      have xb1 := T3.t.y.c1
      have r0 := T3.r.c0
      have r1 := T3.r.c1
      have f0 := T3.r.f 0
      have f1 := T3.r.f 1
      go_wp2_with fail
      refine (signed_own (z := n) (d := false) o3 HD.out).mono ?_
      rintro e w4 ⟨A4, k4, c4, rfl, o4, hb4⟩
      have T4 := T3.next hb4
      clear hb4 T3
      clear xa0 xa1 xb0 xb1 r0 r1 f0 f1
      have xa0 := T4.t.x.c0
      have xa1 := T4.t.x.c1
      have xb0 := T4.t.y.c0
      have xb1 := T4.t.y.c1
      have r0 := T4.r.c0
      have r1 := T4.r.c1
      have f0 := T4.r.f 0
      have f1 := T4.r.f 1
      unfold zV zv
      go_wp2
      refine bodyPost_ret (v := zV n A4 k4 c4) (by simp [results, Tryz.results92, go_sem, r0, r1, zV, zv]) rfl ?_
      exact ⟨A4, k4, c4, rfl, own_box hT1.out (show w.heap.size ≤ w.heap.size + 1 + 1 by omega) o4 _ _, box_below (show w.heap.size ≤ w.heap.size + 1 + 1 by omega) T4.t.b _ _⟩
/-- What stands behind mayBe of two, and of one. -/
theorem mayTwo_at (h : Z2 w A A2 na ca nb cb a b) : Calls Tryz.prog 68 #[.slice (some ⟨w.heap.size + 1 + 1 + 1, 0, none⟩) 2 2] ((((w.alloc (zo p A na ca)).alloc (zo q A2 nb cb)).alloc (zo false none 0 0)).alloc (.cells #[.bool p, .slice A na ca, .bool q, .slice A2 nb cb] zT)) fun e w' => e = .returned (.int .i64 (twoE p a q b)) ∧ Tri w w' p A na ca q A2 nb cb := by
  have T1 := (tri_box w p A na ca q A2 nb cb).next (bxb _ (.cells #[.bool p, .slice A na ca, .bool q, .slice A2 nb cb] zT))
  have hg := World.alloc_heap_new (((w.alloc (zo p A na ca)).alloc (zo q A2 nb cb)).alloc (zo false none 0 0)) (.cells #[.bool p, .slice A na ca, .bool q, .slice A2 nb cb] zT)
  rw [World.size_alloc, World.size_alloc, World.size_alloc] at hg
  refine (mayTwo_any (w.heap.size + 1 + 1 + 1) hg (h.ra.below T1.t.b) (h.rb.below T1.t.b) h.la h.lb).mono ?_
  rintro e w1 ⟨rfl, hb⟩
  exact ⟨rfl, T1.next hb⟩
theorem mayTwo_at2 (h : Z2 w A A2 na ca nb cb a b) : Calls Tryz.prog 68 #[.slice (some ⟨w.heap.size + 1 + 1, 0, none⟩) 2 2] (((w.alloc (zo p A na ca)).alloc (zo q A2 nb cb)).alloc (.cells #[.bool p, .slice A na ca, .bool q, .slice A2 nb cb] zT)) fun e w' => e = .returned (.int .i64 (twoE p a q b)) ∧ Two w w' p A na ca q A2 nb cb := by
  have T1 := (two_box w p A na ca q A2 nb cb).next (bxb _ (.cells #[.bool p, .slice A na ca, .bool q, .slice A2 nb cb] zT))
  have hg := World.alloc_heap_new ((w.alloc (zo p A na ca)).alloc (zo q A2 nb cb)) (.cells #[.bool p, .slice A na ca, .bool q, .slice A2 nb cb] zT)
  rw [World.size_alloc, World.size_alloc] at hg
  refine (mayTwo_any (w.heap.size + 1 + 1) hg (h.ra.below T1.b) (h.rb.below T1.b) h.la h.lb).mono ?_
  rintro e w1 ⟨rfl, hb⟩
  exact ⟨rfl, T1.next hb⟩
theorem mayOne_at (h : Z1 w A na ca a) : Calls Tryz.prog 68 #[.slice (some ⟨w.heap.size + 1 + 1, 0, none⟩) 1 1] (((w.alloc (zo p A na ca)).alloc (zo false none 0 0)).alloc (.cells #[.bool p, .slice A na ca] zT)) fun e w' => e = .returned (.int .i64 (oneE p a)) ∧ Duo w w' p A na ca := by
  have T1 := (duo_box w p A na ca).next (bxb _ (.cells #[.bool p, .slice A na ca] zT))
  have hg := World.alloc_heap_new ((w.alloc (zo p A na ca)).alloc (zo false none 0 0)) (.cells #[.bool p, .slice A na ca] zT)
  rw [World.size_alloc, World.size_alloc] at hg
  refine (mayOne_any (w.heap.size + 1 + 1) hg (h.ra.below T1.b) h.la).mono ?_
  rintro e w1 ⟨rfl, hb⟩
  exact ⟨rfl, T1.next hb⟩
/-- The world behind one box. -/
structure Uno (w W : World) (p : Bool) (A : Option Addr) (na ca : Nat) : Prop where
  b : Below w.heap.size w W
  x : BoxZ W w.heap.size p A na ca
theorem Uno.next {W W' : World} (h : Uno w W p A na ca) (hb : Below W.heap.size W W') : Uno w W' p A na ca :=
  ⟨below_then h.b hb, h.x.below hb (Array.getElem?_eq_some_iff.1 h.x).1⟩
theorem uno_box (w : World) (p : Bool) (A : Option Addr) (na ca : Nat) : Uno w (w.alloc (zo p A na ca)) p A na ca := ⟨bxb _ _, World.alloc_heap_new _ _⟩
theorem mayOne_at1 (h : Z1 w A na ca a) : Calls Tryz.prog 68 #[.slice (some ⟨w.heap.size + 1, 0, none⟩) 1 1] ((w.alloc (zo p A na ca)).alloc (.cells #[.bool p, .slice A na ca] zT)) fun e w' => e = .returned (.int .i64 (oneE p a)) ∧ Uno w w' p A na ca := by
  have T1 := (uno_box w p A na ca).next (bxb _ (.cells #[.bool p, .slice A na ca] zT))
  have hg := World.alloc_heap_new (w.alloc (zo p A na ca)) (.cells #[.bool p, .slice A na ca] zT)
  rw [World.size_alloc] at hg
  refine (mayOne_any (w.heap.size + 1) hg (h.ra.below T1.b) h.la).mono ?_
  rintro e w1 ⟨rfl, hb⟩
  exact ⟨rfl, T1.next hb⟩
end
end Go.Proofs.YtgiokmfdafmaoaaGreat
