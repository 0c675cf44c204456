import Derived.Test.YtgiokmfdafmaoaaGreatJZU
import Derived.Test.YtgiokmfdafmaoaaGreatJAdd
import Derived.ChangeKeysEq
import Derived.Test.YtgiokmfdafmaoaaGreatJDivSpec
import Derived.Test.YtgiokmfdafmaoaaGreatJZMath
import Derived.Test.YtgiokmfdafmaoaaGreatJDCode
import Derived.Test.YtgiokmfdafmaoaaGreatJDNames
import Derived.Test.YtgiokmfdafmaoaaGreatJBit
import Derived.Test.YtgiokmfdafmaoaaGreatJZFr
import Derived.Test.YtgiokmfdafmaoaaGreatJZM
/- ZA ZB ZP ZQ ZR ZAl ZHeld. -/
/- whole: signs; what may be. -/
namespace Go.Proofs.YtgiokmfdafmaoaaGreat
open Go.RowKit Go.Shelf
set_option linter.unusedVariables false
set_option linter.unusedSimpArgs false

theorem bool_info : (Tryz.prog.info? 4).map (fun i => (i.zero, i.size, i.bytes)) = some (some (.bool false), 1, 1) := by kernel_rfl
theorem bool_cells : Tryz.prog.cellsOf 4 = 1 := by kernel_rfl
theorem part_bool (xs : Array Value) (i : Nat) (x : Bool) (w : World) (h : xs[i]? = some (.bool x)) : (part 4 xs i).run Tryz.prog w = .ok (.bool x) w := by
  simp [part, isAgg, run_underlying Tryz.underlying4, h]
/-- Two arrays of signs, compared. -/
theorem eq_signs (a b c d : Bool) (w : World) : Sem.run Tryz.prog (Op.equalIn 10000 90 (.agg #[.bool a, .bool b]) (.agg #[.bool c, .bool d])) w = .ok (a == c && b == d) w := by
  obtain ⟨i, hi, _⟩ := info_parts bool_info
  have h := run_equalIn_array (P := Tryz.prog) w 9999 #[.bool a, .bool b] #[.bool c, .bool d] Tryz.underlying90 hi
  refine Eq.trans h ?_
  rw [bool_cells]
  have p0 := fun x y => part_bool #[.bool x, .bool y] 0 x w rfl
  have p1 := fun x y => part_bool #[.bool x, .bool y] 1 y w rfl
  have q0 : ∀ x y, Sem.run Tryz.prog (Op.equalIn 9999 4 (.bool x) (.bool y)) w = .ok (x == y) w := fun x y => run_equalIn_bool (P := Tryz.prog) w 9998 4 x y Tryz.underlying4
  simp only [Op.eqItems, List.range, List.range.loop, Sem.run_bind, Nat.mul_one, p0, p1, Result.andThen_ok, q0]
  cases a <;> cases b <;> cases c <;> cases d <;> simp [p1, q0]
section
variable {A A2 : Option Addr} {na ca nb cb : Nat} {p q : Bool} {a b : List Nat} {w : World} {z y : Int}
set_option maxRecDepth 100000 in
set_option maxHeartbeats 2000000 in
theorem signsOf_any  : Calls Tryz.prog 69 #[zv p A na ca, zv q A2 nb cb] w fun e w' => e = .returned (.agg #[.bool p, .bool q]) ∧ Below w.heap.size w w' := by
  have T0 := two_box w p A na ca q A2 nb cb
  have HB : Hid (Below w.heap.size w (((w.alloc (zo p A na ca)).alloc (zo q A2 nb cb)).alloc (.cells #[.bool p, .bool q] 90))) := below_then T0.b (bxb _ _)
  have r : (((w.alloc (zo p A na ca)).alloc (zo q A2 nb cb)).alloc (.cells #[.bool p, .bool q] 90)).heap[w.heap.size + 1 + 1]? = some (.cells #[.bool p, .bool q] 90) := by
    have h := World.alloc_heap_new ((w.alloc (zo p A na ca)).alloc (zo q A2 nb cb)) (.cells #[.bool p, .bool q] 90)
    rw [World.size_alloc, World.size_alloc] at h
    exact h
  have r0 := cells_cell r (j := 0) rfl
  have r1 := cells_cell r (j := 1) rfl
  clear T0 r
  unfold zv
  go_enter Tryz.func69, Tryz.ntmps69
  go_wp2
  refine bodyPost_ret (v := .agg #[.bool p, .bool q]) (by simp [results, Tryz.results69, go_sem, r0, r1]) rfl ?_
  exact ⟨rfl, HB.out⟩
set_option maxRecDepth 100000 in
set_option maxHeartbeats 2000000 in
theorem unlike_any  : Calls Tryz.prog 88 #[zv p A na ca, zv q A2 nb cb] w fun e w' => e = .returned (.bool (p != q)) ∧ Below w.heap.size w w' := by
  have T0 := two_box w p A na ca q A2 nb cb
  have HS := Lib.hid (signsOf_any (A := A) (A2 := A2) (na := na) (ca := ca) (nb := nb) (cb := cb) (p := p) (q := q) (w := ((w.alloc (zo p A na ca)).alloc (zo q A2 nb cb))))
  have E1 := eq_signs p q true false
  have E2 := eq_signs p q false true
  unfold zv at *
  cases p <;> cases q <;>
  · go_enter Tryz.func88, Tryz.ntmps88
    go_wp2_with fail
    refine HS.out.mono ?_
    rintro e w1 ⟨rfl, hb1⟩
    have hb2 := Lib.hid (below_then T0.b hb1)
    clear T0 hb1 HS
    go_wp2
    go_ret
    exact ⟨rfl, below_then hb2.out (bxb _ _)⟩
set_option maxRecDepth 100000 in
set_option maxHeartbeats 2000000 in
theorem signed_any  : Calls Tryz.prog 63 #[.bool p, .slice A na ca] w fun e w' => e = .returned (if na = 0 then zv false none 0 0 else zv p A na ca) ∧ Below w.heap.size w w' := by
  by_cases h0 : na = 0
  · subst h0
    rw [if_pos rfl]
    have HB : Hid (Below w.heap.size w (w.alloc (zo false none 0 0))) := bxb _ _
    have r : BoxZ (w.alloc (zo false none 0 0)) w.heap.size false none 0 0 := World.alloc_heap_new _ _
    have r0 := r.c0
    have r1 := r.c1
    clear r
    unfold zv
    go_enter Tryz.func63, Tryz.ntmps63
    go_wp2
    refine bodyPost_ret (v := zv false none 0 0) (by simp [results, Tryz.results63, go_sem, r0, r1, zv]) rfl ?_
    exact ⟨rfl, HB.out⟩
  · have h1 : ((na : Int) == 0) = false := by simp; omega
    rw [if_neg h0]
    have HB : Hid (Below w.heap.size w (w.alloc (zo p A na ca))) := bxb _ _
    have r : BoxZ (w.alloc (zo p A na ca)) w.heap.size p A na ca := World.alloc_heap_new _ _
    have r0 := r.c0
    have r1 := r.c1
    clear r
    unfold zv
    go_enter Tryz.func63, Tryz.ntmps63
    go_wp2
    refine bodyPost_ret (v := zv p A na ca) (by simp [results, Tryz.results63, go_sem, r0, r1, zv]) rfl ?_
    exact ⟨rfl, HB.out⟩
theorem signed_z (h : ZNm w A na ca z) : (if na = 0 then zv false none 0 0 else zv (decide (z < 0)) A na ca) = (if z = 0 then zV 0 none 0 0 else zV z A na ca) := by
  have h0 := h.zero
  by_cases hz : z = 0
  · rw [if_pos hz, if_pos (h0.2 (by omega))]
    rfl
  · rw [if_neg hz, if_neg (fun e => hz (by have := h0.1 e; omega))]
/-- A row of one number, of two: whole.mayBe's. -/
def oneRow (p : Bool) (A : Option Addr) (na ca : Nat) : Obj := .cells #[.bool p, .slice A na ca] zT
def twoRow (p : Bool) (A : Option Addr) (na ca : Nat) (q : Bool) (A2 : Option Addr) (nb cb : Nat) : Obj := .cells #[.bool p, .slice A na ca, .bool q, .slice A2 nb cb] zT
set_option maxRecDepth 100000 in
set_option maxHeartbeats 2000000 in
theorem mayOne_any (g : Nat) (hg : w.heap[g]? = some (oneRow p A na ca)) (ha : Rd w A na a) (hna : na ≤ 400) : Calls Tryz.prog 68 #[.slice (some ⟨g, 0, none⟩) 1 1] w fun e w' => e = .returned (.int .i64 (oneE p a)) ∧ Below w.heap.size w w' := by
  have hgs : g < w.heap.size := (Array.getElem?_eq_some_iff.1 hg).1
  have hb := True.intro
  have HG : Hid (∀ W, Below w.heap.size w W → W.cell? ⟨g, 0, none⟩ = some (.bool p) ∧ W.cell? ⟨g, 1, none⟩ = some (.slice A na ca)) := fun W hb => ⟨cells_cell ((hb.block g hgs).trans hg) rfl, cells_cell ((hb.block g hgs).trans hg) rfl⟩
  clear hg
  go_enter Tryz.func68, Tryz.ntmps68
  go_wp2
  go_loopw [8] (fun i wr => ∃ k : Nat, k ≤ 1 ∧ i = .int .i64 (k : Int) ∧ (1 ≤ k → mayZ p a = true) ∧ Below w.heap.size w wr) (fun i _ => 1 - (intOf i).toNat)
  case atStart => exact ⟨0, by omega, rfl, fun h => absurd h (by omega), Below.refl _ _⟩
  case round =>
    obtain ⟨k, hk, rfl, h1, hB⟩ := hrel
    have hc0 := (HG.out _ hB).1
    have hc1 := (HG.out _ hB).2
    obtain rfl | rfl : k = 0 ∨ k = 1 := by omega
    · have HC := Lib.hid (fun W (hW : Below w.heap.size w W) => check_any A na ca a W (ha.below hW) (by omega))
      have HB := Lib.hid (below_then hB (bxb wr (zo p A na ca)))
      have hbx : BoxZ (wr.alloc (zo p A na ca)) wr.heap.size p A na ca := World.alloc_heap_new _ _
      have HX := Lib.hid hbx
      clear hbx
      cases hm : may a with
      | false =>
        rw [bad_eight (ls := [a]) (by simp [hm])] at HC
        have HR : Hid (oneE p a = 8) := by show _ = _; simp [oneE, mayZ, hm]
        clear hm hB ha hb h1
        go_wp2_with fail
        refine (HC.out _ HB.out).mono ?_
        rintro e w3 ⟨rfl, hb3⟩
        have hB3 := Lib.hid (below_then HB.out hb3)
        go_wp2
        go_ret
        exact ⟨by rw [HR.out]; rfl, hB3.out⟩
      | true =>
        rw [bad_zero (ls := [a]) (by simp [hm])] at HC
        cases hp : p with
        | false =>
          have HK : Hid (mayZ false a = true) := by show _ = _; simp [mayZ, hm]
          subst hp
          have H1 := Lib.hid h1
          clear hm hB ha hb h1
          go_wp2_with fail
          refine (HC.out _ HB.out).mono ?_
          rintro e w3 ⟨rfl, hb3⟩
          have hB3 := Lib.hid (below_then HB.out hb3)
          have hX3 := HX.out.below hb3 (by simp)
          have x0 := hX3.c0
          have x1 := hX3.c1
          clear hb3 hX3
          go_wp2
          go_roundw
          case rel => exact ⟨1, by omega, rfl, fun _ => HK.out, hB3.out⟩
          case measure => simp [intOf]
        | true =>
          by_cases h0 : na = 0
          · have ha0 : a = [] := List.eq_nil_of_length_eq_zero (by rw [ha.len]; exact h0)
            have HR : Hid (oneE p a = 8) := by show _ = _; simp [oneE, mayZ, hp, ha0]
            subst hp
            subst h0
            clear hm hB ha hb h1
            go_wp2_with fail
            refine (HC.out _ HB.out).mono ?_
            rintro e w3 ⟨rfl, hb3⟩
            have hB3 := Lib.hid (below_then HB.out hb3)
            have hX3 := HX.out.below hb3 (by simp)
            have x0 := hX3.c0
            have x1 := hX3.c1
            clear hb3 hX3
            go_wp2
            go_ret
            exact ⟨by rw [HR.out]; rfl, hB3.out⟩
          · have ha0 : a ≠ [] := fun e => h0 (by rw [← ha.len, e]; rfl)
            have HK : Hid (mayZ true a = true) := by show _ = _; simp [mayZ, hm, ha0]
            have hn0 : ((na : Int) == 0) = false := by simp; omega
            subst hp
            have H1 := Lib.hid h1
            clear hm hB ha hb h1
            go_wp2_with fail
            refine (HC.out _ HB.out).mono ?_
            rintro e w3 ⟨rfl, hb3⟩
            have hB3 := Lib.hid (below_then HB.out hb3)
            have hX3 := HX.out.below hb3 (by simp)
            have x0 := hX3.c0
            have x1 := hX3.c1
            clear hb3 hX3
            go_wp2
            go_roundw
            case rel => exact ⟨1, by omega, rfl, fun _ => HK.out, hB3.out⟩
            case measure => simp [intOf]
    · have HR : Hid (oneE p a = 0) := by show _ = _; simp [oneE, h1 (by omega)]
      have HB := Lib.hid hB
      clear h1 hB ha
      go_wp2
      go_ret
      exact ⟨by rw [HR.out]; rfl, HB.out⟩
set_option maxRecDepth 100000 in
set_option maxHeartbeats 2000000 in
theorem mayTwo_any (g : Nat) (hg : w.heap[g]? = some (twoRow p A na ca q A2 nb cb)) (ha : Rd w A na a) (hb : Rd w A2 nb b) (hna : na ≤ 400) (hnb : nb ≤ 400) : Calls Tryz.prog 68 #[.slice (some ⟨g, 0, none⟩) 2 2] w fun e w' => e = .returned (.int .i64 (twoE p a q b)) ∧ Below w.heap.size w w' := by
  have hgs : g < w.heap.size := (Array.getElem?_eq_some_iff.1 hg).1
  have HG : Hid (∀ W, Below w.heap.size w W → W.cell? ⟨g, 0, none⟩ = some (.bool p) ∧ W.cell? ⟨g, 1, none⟩ = some (.slice A na ca) ∧ W.cell? ⟨g, 2, none⟩ = some (.bool q) ∧ W.cell? ⟨g, 3, none⟩ = some (.slice A2 nb cb)) := fun W hb => ⟨cells_cell ((hb.block g hgs).trans hg) rfl, cells_cell ((hb.block g hgs).trans hg) rfl, cells_cell ((hb.block g hgs).trans hg) rfl, cells_cell ((hb.block g hgs).trans hg) rfl⟩
  clear hg
  go_enter Tryz.func68, Tryz.ntmps68
  go_wp2
  go_loopw [8] (fun i wr => ∃ k : Nat, k ≤ 2 ∧ i = .int .i64 (k : Int) ∧ ((1 ≤ k → mayZ p a = true) ∧ (2 ≤ k → mayZ q b = true)) ∧ Below w.heap.size w wr) (fun i _ => 2 - (intOf i).toNat)
  case atStart => exact ⟨0, by omega, rfl, ⟨fun h => absurd h (by omega), fun h => absurd h (by omega)⟩, Below.refl _ _⟩
  case round =>
    obtain ⟨k, hk, rfl, h1, hB⟩ := hrel
    have hc0 := (HG.out _ hB).1
    have hc1 := (HG.out _ hB).2.1
    have hc2 := (HG.out _ hB).2.2.1
    have hc3 := (HG.out _ hB).2.2.2
    obtain rfl | rfl | rfl : k = 0 ∨ k = 1 ∨ k = 2 := by omega
    · have HC := Lib.hid (fun W (hW : Below w.heap.size w W) => check_any A na ca a W (ha.below hW) (by omega))
      have HB := Lib.hid (below_then hB (bxb wr (zo p A na ca)))
      have hbx : BoxZ (wr.alloc (zo p A na ca)) wr.heap.size p A na ca := World.alloc_heap_new _ _
      have HX := Lib.hid hbx
      clear hbx
      cases hm : may a with
      | false =>
        rw [bad_eight (ls := [a]) (by simp [hm])] at HC
        have HR : Hid (twoE p a q b = 8) := by show _ = _; simp [twoE, twoM, mayZ, hm]
        clear hm hB ha hb h1
        go_wp2_with fail
        refine (HC.out _ HB.out).mono ?_
        rintro e w3 ⟨rfl, hb3⟩
        have hB3 := Lib.hid (below_then HB.out hb3)
        go_wp2
        go_ret
        exact ⟨by rw [HR.out]; rfl, hB3.out⟩
      | true =>
        rw [bad_zero (ls := [a]) (by simp [hm])] at HC
        cases hp : p with
        | false =>
          have HK : Hid (mayZ false a = true) := by show _ = _; simp [mayZ, hm]
          subst hp
          have H1 := Lib.hid h1
          clear hm hB ha hb h1
          go_wp2_with fail
          refine (HC.out _ HB.out).mono ?_
          rintro e w3 ⟨rfl, hb3⟩
          have hB3 := Lib.hid (below_then HB.out hb3)
          have hX3 := HX.out.below hb3 (by simp)
          have x0 := hX3.c0
          have x1 := hX3.c1
          clear hb3 hX3
          go_wp2
          go_roundw
          case rel => exact ⟨1, by omega, rfl, ⟨fun _ => HK.out, fun h => absurd h (by omega)⟩, hB3.out⟩
          case measure => simp [intOf]
        | true =>
          by_cases h0 : na = 0
          · have ha0 : a = [] := List.eq_nil_of_length_eq_zero (by rw [ha.len]; exact h0)
            have HR : Hid (twoE p a q b = 8) := by show _ = _; simp [twoE, twoM, mayZ, hp, ha0]
            subst hp
            subst h0
            clear hm hB ha hb h1
            go_wp2_with fail
            refine (HC.out _ HB.out).mono ?_
            rintro e w3 ⟨rfl, hb3⟩
            have hB3 := Lib.hid (below_then HB.out hb3)
            have hX3 := HX.out.below hb3 (by simp)
            have x0 := hX3.c0
            have x1 := hX3.c1
            clear hb3 hX3
            go_wp2
            go_ret
            exact ⟨by rw [HR.out]; rfl, hB3.out⟩
          · have ha0 : a ≠ [] := fun e => h0 (by rw [← ha.len, e]; rfl)
            have HK : Hid (mayZ true a = true) := by show _ = _; simp [mayZ, hm, ha0]
            have hn0 : ((na : Int) == 0) = false := by simp; omega
            subst hp
            have H1 := Lib.hid h1
            clear hm hB ha hb h1
            go_wp2_with fail
            refine (HC.out _ HB.out).mono ?_
            rintro e w3 ⟨rfl, hb3⟩
            have hB3 := Lib.hid (below_then HB.out hb3)
            have hX3 := HX.out.below hb3 (by simp)
            have x0 := hX3.c0
            have x1 := hX3.c1
            clear hb3 hX3
            go_wp2
            go_roundw
            case rel => exact ⟨1, by omega, rfl, ⟨fun _ => HK.out, fun h => absurd h (by omega)⟩, hB3.out⟩
            case measure => simp [intOf]
    · have HC := Lib.hid (fun W (hW : Below w.heap.size w W) => check_any A2 nb cb b W (hb.below hW) (by omega))
      have HB := Lib.hid (below_then hB (bxb wr (zo q A2 nb cb)))
      have hbx : BoxZ (wr.alloc (zo q A2 nb cb)) wr.heap.size q A2 nb cb := World.alloc_heap_new _ _
      have HX := Lib.hid hbx
      clear hbx
      cases hm : may b with
      | false =>
        rw [bad_eight (ls := [b]) (by simp [hm])] at HC
        have HR : Hid (twoE p a q b = 8) := by show _ = _; simp [twoE, twoM, mayZ, hm]
        clear hm hB ha hb h1
        go_wp2_with fail
        refine (HC.out _ HB.out).mono ?_
        rintro e w3 ⟨rfl, hb3⟩
        have hB3 := Lib.hid (below_then HB.out hb3)
        go_wp2
        go_ret
        exact ⟨by rw [HR.out]; rfl, hB3.out⟩
      | true =>
        rw [bad_zero (ls := [b]) (by simp [hm])] at HC
        cases hp : q with
        | false =>
          have HK : Hid (mayZ false b = true) := by show _ = _; simp [mayZ, hm]
          subst hp
          have H1 := Lib.hid h1
          clear hm hB ha hb h1
          go_wp2_with fail
          refine (HC.out _ HB.out).mono ?_
          rintro e w3 ⟨rfl, hb3⟩
          have hB3 := Lib.hid (below_then HB.out hb3)
          have hX3 := HX.out.below hb3 (by simp)
          have x0 := hX3.c0
          have x1 := hX3.c1
          clear hb3 hX3
          go_wp2
          go_roundw
          case rel => exact ⟨2, by omega, rfl, ⟨fun _ => H1.out.1 (by omega), fun _ => HK.out⟩, hB3.out⟩
          case measure => simp [intOf]
        | true =>
          by_cases h0 : nb = 0
          · have ha0 : b = [] := List.eq_nil_of_length_eq_zero (by rw [hb.len]; exact h0)
            have HR : Hid (twoE p a q b = 8) := by show _ = _; simp [twoE, twoM, mayZ, hp, ha0]
            subst hp
            subst h0
            clear hm hB ha hb h1
            go_wp2_with fail
            refine (HC.out _ HB.out).mono ?_
            rintro e w3 ⟨rfl, hb3⟩
            have hB3 := Lib.hid (below_then HB.out hb3)
            have hX3 := HX.out.below hb3 (by simp)
            have x0 := hX3.c0
            have x1 := hX3.c1
            clear hb3 hX3
            go_wp2
            go_ret
            exact ⟨by rw [HR.out]; rfl, hB3.out⟩
          · have ha0 : b ≠ [] := fun e => h0 (by rw [← hb.len, e]; rfl)
            have HK : Hid (mayZ true b = true) := by show _ = _; simp [mayZ, hm, ha0]
            have hn0 : ((nb : Int) == 0) = false := by simp; omega
            subst hp
            have H1 := Lib.hid h1
            clear hm hB ha hb h1
            go_wp2_with fail
            refine (HC.out _ HB.out).mono ?_
            rintro e w3 ⟨rfl, hb3⟩
            have hB3 := Lib.hid (below_then HB.out hb3)
            have hX3 := HX.out.below hb3 (by simp)
            have x0 := hX3.c0
            have x1 := hX3.c1
            clear hb3 hX3
            go_wp2
            go_roundw
            case rel => exact ⟨2, by omega, rfl, ⟨fun _ => H1.out.1 (by omega), fun _ => HK.out⟩, hB3.out⟩
            case measure => simp [intOf]
    · have HR : Hid (twoE p a q b = 0) := by show _ = _; simp [twoE, twoM, h1.1 (by omega), h1.2 (by omega)]
      have HB := Lib.hid hB
      clear h1 hB ha hb
      go_wp2
      go_ret
      exact ⟨by rw [HR.out]; rfl, HB.out⟩
end
end Go.Proofs.YtgiokmfdafmaoaaGreat

/- whole: sums, products. -/
namespace Go.Proofs.YtgiokmfdafmaoaaGreat
open Go.RowKit Go.Shelf
set_option linter.unusedVariables false
set_option linter.unusedSimpArgs false

theorem sub_nm {A A2 : Option Addr} {na ca nb cb v u : Nat} {w : World} (h1 : Nm w A na ca v) (h2 : Nm w A2 nb cb u) (l1 : na ≤ 400) (l2 : nb ≤ 400) (h : u ≤ v) :
    Calls Tryz.prog 129 #[.slice A na ca, .slice A2 nb cb] w fun e w' => ∃ A' k c, e = .returned (.tuple #[.slice A' k c, .int .i64 0]) ∧ Own w' w.heap.size (.slice A' k c) (limbs (v - u)) ∧ Below w.heap.size w w' := by
  have h := sub_ok A A2 na ca nb cb (limbs v) (limbs u) w h1.rd h2.rd (by omega) (by omega) (by simp [may_limbs]) (by rw [val_limbs, val_limbs]; exact h)
  rwa [val_limbs, val_limbs] at h
theorem sub_few_nm {A A2 : Option Addr} {na ca nb cb v u : Nat} {w : World} (h1 : Nm w A na ca v) (h2 : Nm w A2 nb cb u) (l1 : na ≤ 400) (l2 : nb ≤ 400) (h : v < u) :
    Calls Tryz.prog 129 #[.slice A na ca, .slice A2 nb cb] w fun e w' => e = .returned (.tuple #[.slice none 0 0, .int .i64 10]) ∧ Below w.heap.size w w' :=
  sub_less A A2 na ca nb cb (limbs v) (limbs u) w h1.rd h2.rd (by omega) (by omega) (by simp [may_limbs]) (by rw [val_limbs, val_limbs]; exact h)
section
variable {A A2 : Option Addr} {na ca nb cb v u : Nat} {p q : Bool} {a b : List Nat} {w : World} {z y : Int}
theorem signed_own {B k c : Nat} {d : Bool} (o : Own w B (.slice A k c) (limbs z.natAbs)) (hd : z ≠ 0 → decide (z < 0) = d) :
    Calls Tryz.prog 63 #[.bool d, .slice A k c] w fun e w' => ∃ A' k' c', e = .returned (zV z A' k' c') ∧ Own w' B (.slice A' k' c') (limbs z.natAbs) ∧ Below w.heap.size w w' := by
  refine (signed_any (p := d) (A := A) (na := k) (ca := c) (w := w)).mono ?_
  rintro e w1 ⟨rfl, hb⟩
  have h0 := o.nm.zero
  by_cases hz : k = 0
  · have hz0 : z = 0 := by have := h0.1 hz; omega
    rw [if_pos hz]
    subst hz0
    exact ⟨none, 0, 0, rfl, by rw [show (0 : Int).natAbs = 0 from rfl, limbs_zero]; exact own_nil _ _, hb⟩
  · have hz0 : z ≠ 0 := fun e => hz (h0.2 (by omega))
    rw [if_neg hz, ← hd hz0]
    exact ⟨A, k, c, rfl, o.below hb, hb⟩
set_option maxRecDepth 100000 in
set_option maxHeartbeats 2000000 in
theorem difference_any (h1 : Nm w A na ca v) (h2 : Nm w A2 nb cb u) (l1 : na ≤ 400) (l2 : nb ≤ 400) : Calls Tryz.prog 113 #[.slice A na ca, .slice A2 nb cb] w (ZOne w ((v : Int) - u)) := by
  have hb0 := bxb w (zo false none 0 0)
  have R0 : BoxZ (w.alloc (zo false none 0 0)) w.heap.size false none 0 0 := World.alloc_heap_new _ _
  have hW0 : Hid (w.heap.size < (w.alloc (zo false none 0 0)).heap.size) := by show _ < _; simp
  obtain ⟨W0, hW⟩ : ∃ W0, W0 = w.alloc (zo false none 0 0) := ⟨_, rfl⟩
  by_cases hle : u ≤ v
  · have HS := Lib.hid (sub_nm (h1.below hb0) (h2.below hb0) l1 l2 hle)
    have hz : (v : Int) - u = ((v - u : Nat) : Int) := by omega
    rw [hz]
    clear h1 h2 l1 l2 hle hz
    generalize v - u = n0 at HS ⊢
    obtain ⟨n, hn⟩ : ∃ n : Int, n = (n0 : Int) := ⟨_, rfl⟩
    have HD : Hid (n ≠ 0 → decide (n < 0) = false) := fun _ => by simp; omega
    have hn0 : n0 = n.natAbs := by omega
    rw [← hn]
    rw [hn0] at HS
    clear hn hn0
    clear hW
    go_enter Tryz.func113, Tryz.ntmps113
    go_wp2_with fail
    refine HS.out.mono ?_
    rintro e w1 ⟨A3, k3, c3, rfl, o3, hb3⟩
    have hb2 := below_then hb0 hb3
    have R1 := R0.below hb3 hW0.out
    clear hb0 R0 HS
    go_wp2_with fail
    refine (signed_own (z := n) (d := false) o3 HD.out).mono ?_
    rintro e w4 ⟨A4, k4, c4, rfl, o4, hb4⟩
    have hb5 := below_then hb2 hb4
    have R4 := R1.below hb4 (Array.getElem?_eq_some_iff.1 R1).1
    have r0 := R4.c0
    have r1 := R4.c1
    have f0 := R4.f 0
    have f1 := R4.f 1
    clear R4 R1 hb4 hb3
    unfold zV zv
    go_wp2
    refine bodyPost_ret (v := zV n A4 k4 c4) (by simp [results, Tryz.results113, go_sem, r0, r1, zV, zv]) rfl ?_
    exact ⟨A4, k4, c4, rfl, own_box (w1 := w.alloc (zo false none 0 0)) hW0.out (Nat.le_refl _) o4 _ _, box_below (Nat.le_refl _) hb5 _ _⟩
  · have hlt : v < u := by omega
    have HF := Lib.hid (sub_few_nm (h1.below hb0) (h2.below hb0) l1 l2 hlt)
    have HS := Lib.hid (fun W (hW : Below (w.alloc (zo false none 0 0)).heap.size (w.alloc (zo false none 0 0)) W) => sub_nm ((h2.below hb0).below hW) ((h1.below hb0).below hW) l2 l1 (Nat.le_of_lt hlt))
    have hz : (v : Int) - u = -((u - v : Nat) : Int) := by omega
    rw [hz]
    clear h1 h2 l1 l2 hle hz hlt
    generalize u - v = n0 at HS ⊢
    obtain ⟨n, hn⟩ : ∃ n : Int, n = -(n0 : Int) := ⟨_, rfl⟩
    have HD : Hid (n ≠ 0 → decide (n < 0) = true) := fun h => by simp; omega
    have hn0 : n0 = n.natAbs := by omega
    rw [← hn]
    rw [hn0] at HS
    clear hn hn0
    clear hW
    go_enter Tryz.func113, Tryz.ntmps113
    go_wp2_with fail
    refine HF.out.mono ?_
    rintro e w9 ⟨rfl, hb9⟩
    have HS9 := Lib.hid (HS.out _ hb9)
    clear HS HF
    have hb10 := below_then hb0 hb9
    have R9 := R0.below hb9 hW0.out
    have hs9 := hb9.size
    clear hb0 R0 hb9
    go_wp2_with fail
    refine HS9.out.mono ?_
    rintro e w1 ⟨A3, k3, c3, rfl, o3, hb3⟩
    have hb2 := below_then hb10 hb3
    have R1 := R9.below hb3 (Array.getElem?_eq_some_iff.1 R9).1
    replace o3 := own_mono o3 hs9
    clear hb10 R9 HS9 hs9
    go_wp2_with fail
    refine (signed_own (z := n) (d := true) o3 HD.out).mono ?_
    rintro e w4 ⟨A4, k4, c4, rfl, o4, hb4⟩
    have hb5 := below_then hb2 hb4
    have R4 := R1.below hb4 (Array.getElem?_eq_some_iff.1 R1).1
    have r0 := R4.c0
    have r1 := R4.c1
    have f0 := R4.f 0
    have f1 := R4.f 1
    clear R4 R1 hb4 hb3
    unfold zV zv
    go_wp2
    refine bodyPost_ret (v := zV n A4 k4 c4) (by simp [results, Tryz.results113, go_sem, r0, r1, zV, zv]) rfl ?_
    exact ⟨A4, k4, c4, rfl, own_box (w1 := w.alloc (zo false none 0 0)) hW0.out (Nat.le_refl _) o4 _ _, box_below (Nat.le_refl _) hb5 _ _⟩
set_option maxRecDepth 100000 in
set_option maxHeartbeats 4000000 in
theorem sum_any (ha : ZNm w A na ca z) (hb : ZNm w A2 nb cb y) (l1 : na ≤ 400) (l2 : nb ≤ 400) : Calls Tryz.prog 92 #[zV z A na ca, zV y A2 nb cb] w (ZOne w (z + y)) := by
  obtain ⟨d1, hd1⟩ : ∃ d, decide (z < 0) = d := ⟨_, rfl⟩
  obtain ⟨d2, hd2⟩ : ∃ d, decide (y < 0) = d := ⟨_, rfl⟩
  unfold zV zv
  rw [hd1, hd2]
  have T0 := tri_box w d1 A na ca d2 A2 nb cb
  have HSg := Lib.hid (fun W => signsOf_any (A := A) (A2 := A2) (na := na) (ca := ca) (nb := nb) (cb := cb) (p := d1) (q := d2) (w := W))
  unfold zv at HSg
  have E1 := eq_signs d1 d2 true false
  have E2 := eq_signs d1 d2 false true
  cases d1 with
  | true =>
    cases d2 with
    | true =>
      have hq := zsum_same (hd1.trans hd2.symm)
      have hd3 : z + y ≠ 0 → decide (z + y < 0) = true := fun _ => hq.1.trans hd1
      have HS := Lib.hid (fun W (hW : Below w.heap.size w W) => add_nm A A2 na ca nb cb z.natAbs y.natAbs W (ha.below hW) (hb.below hW) (by omega) (by omega))
      rw [← hq.2] at HS
      have HD := Lib.hid hd3
      clear hd1 hd2 ha hb l1 l2 hq hd3
      generalize z + y = n at HS HD ⊢
      go_enter Tryz.func92, Tryz.ntmps92
      go_wp2_with fail
      refine (HSg.out _).mono ?_
      rintro e w1 ⟨rfl, hb1⟩
      have T1 := T0.next (below_then hb1 (bxb _ (.cells #[.bool true, .bool true] 90)))
      have hs1 : (w1.alloc (.cells #[.bool true, .bool true] 90)).heap[w1.heap.size]? = some (.cells #[.bool true, .bool true] 90) := World.alloc_heap_new _ _
      have s0 := cells_cell hs1 (j := 0) rfl
      have s1 := cells_cell hs1 (j := 1) rfl
      clear hb1 T0 HSg hs1
      have xa0 := T1.t.x.c0
      have xa1 := T1.t.x.c1
      have xb0 := T1.t.y.c0
      have xb1 := T1.t.y.c1
      have r0 := T1.r.c0
      have r1 := T1.r.c1
      have f0 := T1.r.f 0
      have f1 := T1.r.f 1
      go_wp2_with fail
      refine (HS.out _ T1.t.b).mono ?_
      rintro e w3 ⟨A3, k3, c3, rfl, o3, hb3⟩
      have T3 := T1.next hb3
      have hT1 := Lib.hid (Array.getElem?_eq_some_iff.1 T1.r).1
      clear hb3 T1 s0 s1
      clear xa0 xa1 xb0 xb1 r0 r1 f0 f1
      have xa0 := T3.t.x.c0
      have xa1 := T3.t.x.c1
      have xb0 := T3.t.y.c0
      have xb1 := T3.t.y.c1
      have r0 := T3.r.c0
      have r1 := T3.r.c1
      have f0 := T3.r.f 0
      have f1 := T3.r.f 1
      go_wp2_with fail
      refine (signed_own (z := n) (d := true) o3 HD.out).mono ?_
      rintro e w4 ⟨A4, k4, c4, rfl, o4, hb4⟩
      have T4 := T3.next hb4
      clear hb4 T3
      clear xa0 xa1 xb0 xb1 r0 r1 f0 f1
      have xa0 := T4.t.x.c0
      have xa1 := T4.t.x.c1
      have xb0 := T4.t.y.c0
      have xb1 := T4.t.y.c1
      have r0 := T4.r.c0
      have r1 := T4.r.c1
      have f0 := T4.r.f 0
      have f1 := T4.r.f 1
      unfold zV zv
      go_wp2
      refine bodyPost_ret (v := zV n A4 k4 c4) (by simp [results, Tryz.results92, go_sem, r0, r1, zV, zv]) rfl ?_
      exact ⟨A4, k4, c4, rfl, own_box hT1.out (show w.heap.size ≤ w.heap.size + 1 + 1 by omega) o4 _ _, box_below (show w.heap.size ≤ w.heap.size + 1 + 1 by omega) T4.t.b _ _⟩
    | false =>
      have hz : z + y = ((y.natAbs : Nat) : Int) - (z.natAbs : Nat) := by simp only [decide_eq_true_eq, decide_eq_false_iff_not] at hd1 hd2; omega
      have HD := Lib.hid (fun W (hW : Below w.heap.size w W) => difference_any (hb.below hW) (ha.below hW) l2 l1)
      rw [hz]
      clear hd1 hd2 ha hb l1 l2 hz
      generalize ((y.natAbs : Nat) : Int) - (z.natAbs : Nat) = n at HD ⊢
      go_enter Tryz.func92, Tryz.ntmps92
      go_wp2_with fail
      refine (HSg.out _).mono ?_
      rintro e w1 ⟨rfl, hb1⟩
      have T1 := T0.next (below_then hb1 (bxb _ (.cells #[.bool true, .bool false] 90)))
      have hs1 : (w1.alloc (.cells #[.bool true, .bool false] 90)).heap[w1.heap.size]? = some (.cells #[.bool true, .bool false] 90) := World.alloc_heap_new _ _
      have s0 := cells_cell hs1 (j := 0) rfl
      have s1 := cells_cell hs1 (j := 1) rfl
      clear hb1 T0 HSg hs1
      have xa0 := T1.t.x.c0
      have xa1 := T1.t.x.c1
      have xb0 := T1.t.y.c0
      have xb1 := T1.t.y.c1
      have r0 := T1.r.c0
      have r1 := T1.r.c1
      have f0 := T1.r.f 0
      have f1 := T1.r.f 1
      go_wp2_with fail
      refine (HD.out _ T1.t.b).mono ?_
      rintro e w4 ⟨A4, k4, c4, rfl, o4, hb4⟩
      have T4 := T1.next hb4
      have hT1 := Lib.hid (Array.getElem?_eq_some_iff.1 T1.r).1
      clear hb4 T1 s0 s1
      clear xa0 xa1 xb0 xb1 r0 r1 f0 f1
      have xa0 := T4.t.x.c0
      have xa1 := T4.t.x.c1
      have xb0 := T4.t.y.c0
      have xb1 := T4.t.y.c1
      have r0 := T4.r.c0
      have r1 := T4.r.c1
      have f0 := T4.r.f 0
      have f1 := T4.r.f 1
      unfold zV zv
      go_wp2
      refine bodyPost_ret (v := zV n A4 k4 c4) (by simp [results, Tryz.results92, go_sem, r0, r1, zV, zv]) rfl ?_
      exact ⟨A4, k4, c4, rfl, own_box hT1.out (show w.heap.size ≤ w.heap.size + 1 + 1 by omega) o4 _ _, box_below (show w.heap.size ≤ w.heap.size + 1 + 1 by omega) T4.t.b _ _⟩
  | false =>
    cases d2 with
    | true =>
      have hz : z + y = ((z.natAbs : Nat) : Int) - (y.natAbs : Nat) := by simp only [decide_eq_true_eq, decide_eq_false_iff_not] at hd1 hd2; omega
      have HD := Lib.hid (fun W (hW : Below w.heap.size w W) => difference_any (ha.below hW) (hb.below hW) l1 l2)
      rw [hz]
      clear hd1 hd2 ha hb l1 l2 hz
      generalize ((z.natAbs : Nat) : Int) - (y.natAbs : Nat) = n at HD ⊢
      go_enter Tryz.func92, Tryz.ntmps92
      go_wp2_with fail
      refine (HSg.out _).mono ?_
      rintro e w1 ⟨rfl, hb1⟩
      have T1 := T0.next (below_then hb1 (bxb _ (.cells #[.bool false, .bool true] 90)))
      have hs1 : (w1.alloc (.cells #[.bool false, .bool true] 90)).heap[w1.heap.size]? = some (.cells #[.bool false, .bool true] 90) := World.alloc_heap_new _ _
      have s0 := cells_cell hs1 (j := 0) rfl
      have s1 := cells_cell hs1 (j := 1) rfl
      clear hb1 T0 HSg hs1
      have xa0 := T1.t.x.c0
      have xa1 := T1.t.x.c1
      have xb0 := T1.t.y.c0
      have xb1 := T1.t.y.c1
      have r0 := T1.r.c0
      have r1 := T1.r.c1
      have f0 := T1.r.f 0
      have f1 := T1.r.f 1
      go_wp2_with fail
      refine (HD.out _ T1.t.b).mono ?_
      rintro e w4 ⟨A4, k4, c4, rfl, o4, hb4⟩
      have T4 := T1.next hb4
      have hT1 := Lib.hid (Array.getElem?_eq_some_iff.1 T1.r).1
      clear hb4 T1 s0 s1
      clear xa0 xa1 xb0 xb1 r0 r1 f0 f1
      have xa0 := T4.t.x.c0
      have xa1 := T4.t.x.c1
      have xb0 := T4.t.y.c0
      have xb1 := T4.t.y.c1
      have r0 := T4.r.c0
      have r1 := T4.r.c1
      have f0 := T4.r.f 0
      have f1 := T4.r.f 1
      unfold zV zv
      go_wp2
      refine bodyPost_ret (v := zV n A4 k4 c4) (by simp [results, Tryz.results92, go_sem, r0, r1, zV, zv]) rfl ?_
      exact ⟨A4, k4, c4, rfl, own_box hT1.out (show w.heap.size ≤ w.heap.size + 1 + 1 by omega) o4 _ _, box_below (show w.heap.size ≤ w.heap.size + 1 + 1 by omega) T4.t.b _ _⟩
    | false =>
      have hq := zsum_same (hd1.trans hd2.symm)
      have hd3 : z + y ≠ 0 → decide (z + y < 0) = false := fun _ => hq.1.trans hd1
      have HS := Lib.hid (fun W (hW : Below w.heap.size w W) => add_nm A A2 na ca nb cb z.natAbs y.natAbs W (ha.below hW) (hb.below hW) (by omega) (by omega))
      rw [← hq.2] at HS
      have HD := Lib.hid hd3
      clear hd1 hd2 ha hb l1 l2 hq hd3
      generalize z + y = n at HS HD ⊢
      go_enter Tryz.func92, Tryz.ntmps92
      go_wp2_with fail
      refine (HSg.out _).mono ?_
      rintro e w1 ⟨rfl, hb1⟩
      have T1 := T0.next (below_then hb1 (bxb _ (.cells #[.bool false, .bool false] 90)))
      have hs1 : (w1.alloc (.cells #[.bool false, .bool false] 90)).heap[w1.heap.size]? = some (.cells #[.bool false, .bool false] 90) := World.alloc_heap_new _ _
      have s0 := cells_cell hs1 (j := 0) rfl
      have s1 := cells_cell hs1 (j := 1) rfl
      clear hb1 T0 HSg hs1
      have xa0 := T1.t.x.c0
      have xa1 := T1.t.x.c1
      have xb0 := T1.t.y.c0
      have xb1 := T1.t.y.c1
      have r0 := T1.r.c0
      have r1 := T1.r.c1
      have f0 := T1.r.f 0
      have f1 := T1.r.f 1
      go_wp2_with fail
      refine (HS.out _ T1.t.b).mono ?_
      rintro e w3 ⟨A3, k3, c3, rfl, o3, hb3⟩
      have T3 := T1.next hb3
      have hT1 := Lib.hid (Array.getElem?_eq_some_iff.1 T1.r).1
      clear hb3 T1 s0 s1
      clear xa0 xa1 xb0 xb1 r0 r1 f0 f1
      have xa0 := T3.t.x.c0
      have xa1 := T3.t.x.c1
      have xb0 := T3.t.y.c0
      have xb1 := T3.t.y.c1
      have r0 := T3.r.c0
      have r1 := T3.r.c1
      have f0 := T3.r.f 0
      have f1 := T3.r.f 1
      go_wp2_with fail
      refine (signed_own (z := n) (d := false) o3 HD.out).mono ?_
      rintro e w4 ⟨A4, k4, c4, rfl, o4, hb4⟩
      have T4 := T3.next hb4
      clear hb4 T3
      clear xa0 xa1 xb0 xb1 r0 r1 f0 f1
      have xa0 := T4.t.x.c0
      have xa1 := T4.t.x.c1
      have xb0 := T4.t.y.c0
      have xb1 := T4.t.y.c1
      have r0 := T4.r.c0
      have r1 := T4.r.c1
      have f0 := T4.r.f 0
      have f1 := T4.r.f 1
      unfold zV zv
      go_wp2
      refine bodyPost_ret (v := zV n A4 k4 c4) (by simp [results, Tryz.results92, go_sem, r0, r1, zV, zv]) rfl ?_
      exact ⟨A4, k4, c4, rfl, own_box hT1.out (show w.heap.size ≤ w.heap.size + 1 + 1 by omega) o4 _ _, box_below (show w.heap.size ≤ w.heap.size + 1 + 1 by omega) T4.t.b _ _⟩
/-- What stands behind mayBe of two, and of one. -/
theorem mayTwo_at (h : Z2 w A A2 na ca nb cb a b) : Calls Tryz.prog 68 #[.slice (some ⟨w.heap.size + 1 + 1 + 1, 0, none⟩) 2 2] ((((w.alloc (zo p A na ca)).alloc (zo q A2 nb cb)).alloc (zo false none 0 0)).alloc (.cells #[.bool p, .slice A na ca, .bool q, .slice A2 nb cb] zT)) fun e w' => e = .returned (.int .i64 (twoE p a q b)) ∧ Tri w w' p A na ca q A2 nb cb := by
  have T1 := (tri_box w p A na ca q A2 nb cb).next (bxb _ (.cells #[.bool p, .slice A na ca, .bool q, .slice A2 nb cb] zT))
  have hg := World.alloc_heap_new (((w.alloc (zo p A na ca)).alloc (zo q A2 nb cb)).alloc (zo false none 0 0)) (.cells #[.bool p, .slice A na ca, .bool q, .slice A2 nb cb] zT)
  rw [World.size_alloc, World.size_alloc, World.size_alloc] at hg
  refine (mayTwo_any (w.heap.size + 1 + 1 + 1) hg (h.ra.below T1.t.b) (h.rb.below T1.t.b) h.la h.lb).mono ?_
  rintro e w1 ⟨rfl, hb⟩
  exact ⟨rfl, T1.next hb⟩
theorem mayTwo_at2 (h : Z2 w A A2 na ca nb cb a b) : Calls Tryz.prog 68 #[.slice (some ⟨w.heap.size + 1 + 1, 0, none⟩) 2 2] (((w.alloc (zo p A na ca)).alloc (zo q A2 nb cb)).alloc (.cells #[.bool p, .slice A na ca, .bool q, .slice A2 nb cb] zT)) fun e w' => e = .returned (.int .i64 (twoE p a q b)) ∧ Two w w' p A na ca q A2 nb cb := by
  have T1 := (two_box w p A na ca q A2 nb cb).next (bxb _ (.cells #[.bool p, .slice A na ca, .bool q, .slice A2 nb cb] zT))
  have hg := World.alloc_heap_new ((w.alloc (zo p A na ca)).alloc (zo q A2 nb cb)) (.cells #[.bool p, .slice A na ca, .bool q, .slice A2 nb cb] zT)
  rw [World.size_alloc, World.size_alloc] at hg
  refine (mayTwo_any (w.heap.size + 1 + 1) hg (h.ra.below T1.b) (h.rb.below T1.b) h.la h.lb).mono ?_
  rintro e w1 ⟨rfl, hb⟩
  exact ⟨rfl, T1.next hb⟩
theorem mayOne_at (h : Z1 w A na ca a) : Calls Tryz.prog 68 #[.slice (some ⟨w.heap.size + 1 + 1, 0, none⟩) 1 1] (((w.alloc (zo p A na ca)).alloc (zo false none 0 0)).alloc (.cells #[.bool p, .slice A na ca] zT)) fun e w' => e = .returned (.int .i64 (oneE p a)) ∧ Duo w w' p A na ca := by
  have T1 := (duo_box w p A na ca).next (bxb _ (.cells #[.bool p, .slice A na ca] zT))
  have hg := World.alloc_heap_new ((w.alloc (zo p A na ca)).alloc (zo false none 0 0)) (.cells #[.bool p, .slice A na ca] zT)
  rw [World.size_alloc, World.size_alloc] at hg
  refine (mayOne_any (w.heap.size + 1 + 1) hg (h.ra.below T1.b) h.la).mono ?_
  rintro e w1 ⟨rfl, hb⟩
  exact ⟨rfl, T1.next hb⟩
/-- The world behind one box. -/
structure Uno (w W : World) (p : Bool) (A : Option Addr) (na ca : Nat) : Prop where
  b : Below w.heap.size w W
  x : BoxZ W w.heap.size p A na ca
theorem Uno.next {W W' : World} (h : Uno w W p A na ca) (hb : Below W.heap.size W W') : Uno w W' p A na ca :=
  ⟨below_then h.b hb, h.x.below hb (Array.getElem?_eq_some_iff.1 h.x).1⟩
theorem uno_box (w : World) (p : Bool) (A : Option Addr) (na ca : Nat) : Uno w (w.alloc (zo p A na ca)) p A na ca := ⟨bxb _ _, World.alloc_heap_new _ _⟩
theorem mayOne_at1 (h : Z1 w A na ca a) : Calls Tryz.prog 68 #[.slice (some ⟨w.heap.size + 1, 0, none⟩) 1 1] ((w.alloc (zo p A na ca)).alloc (.cells #[.bool p, .slice A na ca] zT)) fun e w' => e = .returned (.int .i64 (oneE p a)) ∧ Uno w w' p A na ca := by
  have T1 := (uno_box w p A na ca).next (bxb _ (.cells #[.bool p, .slice A na ca] zT))
  have hg := World.alloc_heap_new (w.alloc (zo p A na ca)) (.cells #[.bool p, .slice A na ca] zT)
  rw [World.size_alloc] at hg
  refine (mayOne_any (w.heap.size + 1) hg (h.ra.below T1.b) h.la).mono ?_
  rintro e w1 ⟨rfl, hb⟩
  exact ⟨rfl, T1.next hb⟩
end
end Go.Proofs.YtgiokmfdafmaoaaGreat

/- whole: its operations. -/
namespace Go.Proofs.YtgiokmfdafmaoaaGreat
open Go.RowKit Go.Shelf
set_option linter.unusedVariables false
set_option linter.unusedSimpArgs false

theorem mayZ_sgn {p : Bool} {a : List Nat} (h : mayZ p a = true) : p = decide (zof p a < 0) := (zof_neg h).symm
section
variable {A A2 : Option Addr} {na ca nb cb v u : Nat} {p q : Bool} {a b : List Nat} {w : World} {z y : Int}
theorem opp_z (h : ZNm w A na ca z) (hp : p = decide (z < 0)) : (if na = 0 then zv false none 0 0 else zv (!p) A na ca) = (if z = 0 then zV 0 none 0 0 else zV (-z) A na ca) := by
  have h0 := h.zero
  by_cases hz : z = 0
  · rw [if_pos hz, if_pos (h0.2 (by omega))]
    rfl
  · rw [if_neg hz, if_neg (fun e => hz (by have := h0.1 e; omega)), hp]
    unfold zV
    rw [zneg_d]
    simp [hz]
theorem opp_nm (h : ZNm w A na ca z) : ∃ A3 k c, (if z = 0 then zV 0 none 0 0 else zV (-z) A na ca) = zV (-z) A3 k c ∧ ZNm w A3 k c (-z) ∧ k ≤ na := by
  by_cases hz : z = 0
  · subst hz
    exact ⟨none, 0, 0, rfl, zero_znm w, Nat.zero_le _⟩
  · rw [if_neg hz]
    refine ⟨A, na, ca, rfl, ?_, Nat.le_refl _⟩
    show Nm _ _ _ _ (-z).natAbs
    rw [Int.natAbs_neg]
    exact h
set_option maxRecDepth 100000 in
set_option maxHeartbeats 2000000 in
theorem addZ (h : Z2 w A A2 na ca nb cb a b) : Calls Tryz.prog 71 #[zv p A na ca, zv q A2 nb cb] w (ZAns w (twoZ p a q b (zof p a + zof q b)) (twoE p a q b)) := by
  have H1 := Lib.hid (mayTwo_at (p := p) (q := q) h)
  have T0 := tri_box w p A na ca q A2 nb cb
  cases hm : twoM p a q b with
  | false =>
    rw [twoZ_no hm, twoE_no hm]
    rw [twoE_no hm] at H1
    clear h hm T0
    unfold zv at *
    go_enter Tryz.func71, Tryz.ntmps71
    go_wp2_with fail
    refine H1.out.mono ?_
    rintro e w1 ⟨rfl, T1⟩
    have xa0 := T1.t.x.c0
    have xa1 := T1.t.x.c1
    have xb0 := T1.t.y.c0
    have xb1 := T1.t.y.c1
    have r0 := T1.r.c0
    have r1 := T1.r.c1
    have f0 := T1.r.f 0
    have f1 := T1.r.f 1
    go_wp2
    refine bodyPost_ret (v := .tuple #[zv false none 0 0, .int .i64 8]) (by simp [results, Tryz.results71, go_sem, r0, r1, zv]) rfl ?_
    exact zans_zero (box_below (show w.heap.size ≤ w.heap.size + 1 + 1 by omega) T1.t.b _ _)
  | true =>
    have hz := h.num hm
    rw [twoZ_ok hm, twoE_ok hm]
    rw [twoE_ok hm] at H1
    have hzv1 := hz.2.2.1
    have hzv2 := hz.2.2.2
    have hla := h.la
    have hlb := h.lb
    have HN := Lib.hid (fun W (hb : Below w.heap.size w W) => sum_any (w := W) (hz.1.below hb) (hz.2.1.below hb) (by omega) (by omega))
    rw [← hzv1, ← hzv2] at HN
    clear h hm T0 hz hzv1 hzv2 hla hlb
    generalize zof p a + zof q b = y at HN ⊢
    unfold zv at *
    go_enter Tryz.func71, Tryz.ntmps71
    go_wp2_with fail
    refine H1.out.mono ?_
    rintro e w1 ⟨rfl, T1⟩
    have HG := Lib.hid (Array.getElem?_eq_some_iff.1 T1.r).1
    have xa0 := T1.t.x.c0
    have xa1 := T1.t.x.c1
    have xb0 := T1.t.y.c0
    have xb1 := T1.t.y.c1
    have r0 := T1.r.c0
    have r1 := T1.r.c1
    have f0 := T1.r.f 0
    have f1 := T1.r.f 1
    go_wp2_with fail
    refine (HN.out _ T1.t.b).mono ?_
    rintro e w4 ⟨A9, k9, c9, rfl, o9, hb9⟩
    have T4 := T1.next hb9
    clear xa0 xa1 xb0 xb1 r0 r1 f0 f1
    have xa0 := T4.t.x.c0
    have xa1 := T4.t.x.c1
    have xb0 := T4.t.y.c0
    have xb1 := T4.t.y.c1
    have r0 := T4.r.c0
    have r1 := T4.r.c1
    have f0 := T4.r.f 0
    have f1 := T4.r.f 1
    unfold zV zv
    go_wp2
    refine bodyPost_ret (v := .tuple #[zV y A9 k9 c9, .int .i64 0]) (by simp [results, Tryz.results71, go_sem, r0, r1, zV, zv]) rfl ?_
    exact ⟨A9, k9, c9, rfl, own_box HG.out (show w.heap.size ≤ w.heap.size + 1 + 1 by omega) o9 _ _, box_below (show w.heap.size ≤ w.heap.size + 1 + 1 by omega) T4.t.b _ _⟩
set_option maxRecDepth 100000 in
set_option maxHeartbeats 2000000 in
theorem mulZ (h : Z2 w A A2 na ca nb cb a b) : Calls Tryz.prog 73 #[zv p A na ca, zv q A2 nb cb] w (ZAns w (twoZ p a q b (zof p a * zof q b)) (twoE p a q b)) := by
  have H1 := Lib.hid (mayTwo_at (p := p) (q := q) h)
  have T0 := tri_box w p A na ca q A2 nb cb
  cases hm : twoM p a q b with
  | false =>
    rw [twoZ_no hm, twoE_no hm]
    rw [twoE_no hm] at H1
    clear h hm T0
    unfold zv at *
    go_enter Tryz.func73, Tryz.ntmps73
    go_wp2_with fail
    refine H1.out.mono ?_
    rintro e w1 ⟨rfl, T1⟩
    have xa0 := T1.t.x.c0
    have xa1 := T1.t.x.c1
    have xb0 := T1.t.y.c0
    have xb1 := T1.t.y.c1
    have r0 := T1.r.c0
    have r1 := T1.r.c1
    have f0 := T1.r.f 0
    have f1 := T1.r.f 1
    go_wp2
    refine bodyPost_ret (v := .tuple #[zv false none 0 0, .int .i64 8]) (by simp [results, Tryz.results73, go_sem, r0, r1, zv]) rfl ?_
    exact zans_zero (box_below (show w.heap.size ≤ w.heap.size + 1 + 1 by omega) T1.t.b _ _)
  | true =>
    have hz := h.num hm
    rw [twoZ_ok hm, twoE_ok hm]
    rw [twoE_ok hm] at H1
    have hzv1 := hz.2.2.1
    have hzv2 := hz.2.2.2
    have hla := h.la
    have hlb := h.lb
    have HN := Lib.hid (fun W (hb : Below w.heap.size w W) => mul_nm A A2 na ca nb cb (zof p a).natAbs (zof q b).natAbs W (hz.1.below hb) (hz.2.1.below hb) (by omega) (by omega))
    rw [← Int.natAbs_mul] at HN
    have HU := Lib.hid (fun W => unlike_any (A := A) (A2 := A2) (na := na) (ca := ca) (nb := nb) (cb := cb) (p := p) (q := q) (w := W))
    have HD : Hid (zof p a * zof q b ≠ 0 → decide (zof p a * zof q b < 0) = (p != q)) := fun hne => by
      rw [ztimes, ← mayZ_sgn (twoM_iff.1 hm).1, ← mayZ_sgn (twoM_iff.1 hm).2]
      simp [hne]
    clear h hm T0 hz hzv1 hzv2 hla hlb
    generalize zof p a * zof q b = y at HN HD ⊢
    generalize (p != q) = d at HU HD
    unfold zv at *
    go_enter Tryz.func73, Tryz.ntmps73
    go_wp2_with fail
    refine H1.out.mono ?_
    rintro e w1 ⟨rfl, T1⟩
    have HG := Lib.hid (Array.getElem?_eq_some_iff.1 T1.r).1
    have xa0 := T1.t.x.c0
    have xa1 := T1.t.x.c1
    have xb0 := T1.t.y.c0
    have xb1 := T1.t.y.c1
    have r0 := T1.r.c0
    have r1 := T1.r.c1
    have f0 := T1.r.f 0
    have f1 := T1.r.f 1
    go_wp2_with fail
    refine (HN.out _ T1.t.b).mono ?_
    rintro e w3 ⟨A3, k3, c3, rfl, o3, hb3⟩
    have T3 := T1.next hb3
    clear T1 hb3
    clear xa0 xa1 xb0 xb1 r0 r1 f0 f1
    have xa0 := T3.t.x.c0
    have xa1 := T3.t.x.c1
    have xb0 := T3.t.y.c0
    have xb1 := T3.t.y.c1
    have r0 := T3.r.c0
    have r1 := T3.r.c1
    have f0 := T3.r.f 0
    have f1 := T3.r.f 1
    go_wp2_with fail
    refine (HU.out _).mono ?_
    rintro e w4 ⟨rfl, hb4⟩
    replace o3 := o3.below hb4
    have T4 := T3.next hb4
    clear T3 hb4
    clear xa0 xa1 xb0 xb1 r0 r1 f0 f1
    have xa0 := T4.t.x.c0
    have xa1 := T4.t.x.c1
    have xb0 := T4.t.y.c0
    have xb1 := T4.t.y.c1
    have r0 := T4.r.c0
    have r1 := T4.r.c1
    have f0 := T4.r.f 0
    have f1 := T4.r.f 1
    go_wp2_with fail
    refine (signed_own (z := y) (d := d) o3 HD.out).mono ?_
    rintro e w5 ⟨A9, k9, c9, rfl, o9, hb5⟩
    have T5 := T4.next hb5
    clear T4 hb5
    clear xa0 xa1 xb0 xb1 r0 r1 f0 f1
    have xa0 := T5.t.x.c0
    have xa1 := T5.t.x.c1
    have xb0 := T5.t.y.c0
    have xb1 := T5.t.y.c1
    have r0 := T5.r.c0
    have r1 := T5.r.c1
    have f0 := T5.r.f 0
    have f1 := T5.r.f 1
    unfold zV zv
    go_wp2
    refine bodyPost_ret (v := .tuple #[zV y A9 k9 c9, .int .i64 0]) (by simp [results, Tryz.results73, go_sem, r0, r1, zV, zv]) rfl ?_
    exact ⟨A9, k9, c9, rfl, own_box HG.out (show w.heap.size ≤ w.heap.size + 1 + 1 by omega) o9 _ _, box_below (show w.heap.size ≤ w.heap.size + 1 + 1 by omega) T5.t.b _ _⟩
end
end Go.Proofs.YtgiokmfdafmaoaaGreat

/- whole: which is less, ints, the same. -/
namespace Go.Proofs.YtgiokmfdafmaoaaGreat
open Go.RowKit Go.Shelf
set_option linter.unusedVariables false
set_option linter.unusedSimpArgs false

theorem sgn_cmp (v u : Nat) : sgn ((v : Int) - u) = cmp3 v u := by unfold sgn cmp3; split <;> split <;> (try split) <;> (try split) <;> omega
theorem big_val {a : List Nat} (hw : Words a) (hm : may a = true) (hl : 1 < a.length) : B64 ≤ val a := by
  refine Nat.le_of_not_lt fun h => ?_
  have h1 := limbs_length_le (k := 1) (show val a < B64 ^ 1 by rw [Nat.pow_one]; exact h)
  rw [limbs_val hw hm] at h1
  omega
theorem val_one {a : List Nat} (hl : a.length ≤ 1) : val a = lim a 0 := by
  cases a with
  | nil => rfl
  | cons x r =>
    have : r = [] := List.eq_nil_of_length_eq_zero (by rw [List.length_cons] at hl; omega)
    subst this
    simp [val, lim]
theorem words_lim {a : List Nat} (hw : Words a) (i : Nat) : lim a i < B64 := by
  by_cases h : i < a.length
  · rw [lim_get h]
    exact hw _ (List.getElem_mem h)
  · rw [lim_past (by omega)]
    exact B64_pos
theorem zof_sgn (p : Bool) (a : List Nat) : zof p a = if p then -(val a : Int) else (val a : Int) := rfl
theorem zof_nil (p : Bool) : zof p [] = 0 := by cases p <;> rfl
section
variable {A A2 : Option Addr} {na ca nb cb v u : Nat} {p q : Bool} {a b : List Nat} {w : World} {z y : Int}
set_option maxRecDepth 100000 in
set_option maxHeartbeats 4000000 in
theorem cmpZ_any (h : Z2 w A A2 na ca nb cb a b) : Calls Tryz.prog 41 #[zv p A na ca, zv q A2 nb cb] w (IAns w (twoZ p a q b (sgn (zof p a - zof q b))) (twoE p a q b)) := by
  have H1 := Lib.hid (mayTwo_at2 (p := p) (q := q) h)
  cases hm : twoM p a q b with
  | false =>
    rw [twoZ_no hm, twoE_no hm]
    rw [twoE_no hm] at H1
    clear h hm
    unfold zv at *
    go_enter Tryz.func41, Tryz.ntmps41
    go_wp2_with fail
    refine H1.out.mono ?_
    rintro e w1 ⟨rfl, T1⟩
    have xa0 := T1.x.c0
    have xa1 := T1.x.c1
    have xb0 := T1.y.c0
    have xb1 := T1.y.c1
    go_wp2
    go_ret2
    exact ⟨rfl, T1.b⟩
  | true =>
    have hz := h.num hm
    rw [twoZ_ok hm, twoE_ok hm]
    rw [twoE_ok hm] at H1
    have hp := mayZ_sgn (twoM_iff.1 hm).1
    have hq := mayZ_sgn (twoM_iff.1 hm).2
    have hla := h.la
    have hlb := h.lb
    have n1 := hz.1
    have n2 := hz.2.1
    have HSg := Lib.hid (fun W => signsOf_any (A := A) (A2 := A2) (na := na) (ca := ca) (nb := nb) (cb := cb) (p := p) (q := q) (w := W))
    unfold zv at *
    clear h hm hz
    generalize zof p a = z at n1 hp ⊢
    generalize zof q b = y at n2 hq ⊢
    have E1 := eq_signs p q true false
    have E2 := eq_signs p q false true
    have E3 := eq_signs p q true true
    cases p with
    | true =>
      cases q with
      | true =>
        have HR : Hid (sgn (z - y) = cmp3 y.natAbs z.natAbs) := by
          show _ = _
          rw [← sgn_cmp]
          have h1 := of_decide_eq_true hp.symm
          have h2 := of_decide_eq_true hq.symm
          congr 1
          omega
        have HC := Lib.hid (fun W (hW : Below w.heap.size w W) => cmp_nm A2 A nb cb na ca y.natAbs z.natAbs W (n2.below hW) (n1.below hW) (by omega) (by omega))
        rw [← HR.out] at HC
        clear hp hq n1 n2 hla hlb HR
        generalize sgn (z - y) = n at HC ⊢
        go_enter Tryz.func41, Tryz.ntmps41
        go_wp2_with fail
        refine H1.out.mono ?_
        rintro e w1 ⟨rfl, T1⟩
        have xa0 := T1.x.c0
        have xa1 := T1.x.c1
        have xb0 := T1.y.c0
        have xb1 := T1.y.c1
        go_wp2_with fail
        refine (HSg.out _).mono ?_
        rintro e w2 ⟨rfl, hb2⟩
        have T2 := T1.next (below_then hb2 (bxb _ (.cells #[.bool true, .bool true] 90)))
        have hs1 : (w2.alloc (.cells #[.bool true, .bool true] 90)).heap[w2.heap.size]? = some (.cells #[.bool true, .bool true] 90) := World.alloc_heap_new _ _
        have s0 := cells_cell hs1 (j := 0) rfl
        have s1 := cells_cell hs1 (j := 1) rfl
        clear hb2 hs1
        clear xa0 xa1 xb0 xb1
        have xa0 := T2.x.c0
        have xa1 := T2.x.c1
        have xb0 := T2.y.c0
        have xb1 := T2.y.c1
        go_wp2_with fail
        refine (HC.out _ T2.b).mono ?_
        rintro e w3 ⟨rfl, hb3⟩
        have T3 := T2.next hb3
        clear hb3
        go_wp2
        go_ret2
        exact ⟨rfl, T3.b⟩
      | false =>
        have HR : Hid (sgn (z - y) = -1) := by
          show _ = _
          have h1 := of_decide_eq_true hp.symm
          have h2 := of_decide_eq_false hq.symm
          unfold sgn
          split <;> (try split) <;> omega
        clear hp hq n1 n2 hla hlb
        go_enter Tryz.func41, Tryz.ntmps41
        go_wp2_with fail
        refine H1.out.mono ?_
        rintro e w1 ⟨rfl, T1⟩
        have xa0 := T1.x.c0
        have xa1 := T1.x.c1
        have xb0 := T1.y.c0
        have xb1 := T1.y.c1
        go_wp2_with fail
        refine (HSg.out _).mono ?_
        rintro e w2 ⟨rfl, hb2⟩
        have T2 := T1.next (below_then hb2 (bxb _ (.cells #[.bool true, .bool false] 90)))
        have hs1 : (w2.alloc (.cells #[.bool true, .bool false] 90)).heap[w2.heap.size]? = some (.cells #[.bool true, .bool false] 90) := World.alloc_heap_new _ _
        have s0 := cells_cell hs1 (j := 0) rfl
        have s1 := cells_cell hs1 (j := 1) rfl
        clear hb2 hs1
        clear xa0 xa1 xb0 xb1
        have xa0 := T2.x.c0
        have xa1 := T2.x.c1
        have xb0 := T2.y.c0
        have xb1 := T2.y.c1
        go_wp2
        go_ret2
        exact ⟨by rw [HR.out]; rfl, T2.b⟩
    | false =>
      cases q with
      | true =>
        have HR : Hid (sgn (z - y) = 1) := by
          show _ = _
          have h1 := of_decide_eq_false hp.symm
          have h2 := of_decide_eq_true hq.symm
          unfold sgn
          split <;> (try split) <;> omega
        clear hp hq n1 n2 hla hlb
        go_enter Tryz.func41, Tryz.ntmps41
        go_wp2_with fail
        refine H1.out.mono ?_
        rintro e w1 ⟨rfl, T1⟩
        have xa0 := T1.x.c0
        have xa1 := T1.x.c1
        have xb0 := T1.y.c0
        have xb1 := T1.y.c1
        go_wp2_with fail
        refine (HSg.out _).mono ?_
        rintro e w2 ⟨rfl, hb2⟩
        have T2 := T1.next (below_then hb2 (bxb _ (.cells #[.bool false, .bool true] 90)))
        have hs1 : (w2.alloc (.cells #[.bool false, .bool true] 90)).heap[w2.heap.size]? = some (.cells #[.bool false, .bool true] 90) := World.alloc_heap_new _ _
        have s0 := cells_cell hs1 (j := 0) rfl
        have s1 := cells_cell hs1 (j := 1) rfl
        clear hb2 hs1
        clear xa0 xa1 xb0 xb1
        have xa0 := T2.x.c0
        have xa1 := T2.x.c1
        have xb0 := T2.y.c0
        have xb1 := T2.y.c1
        go_wp2
        go_ret2
        exact ⟨by rw [HR.out]; rfl, T2.b⟩
      | false =>
        have HR : Hid (sgn (z - y) = cmp3 z.natAbs y.natAbs) := by
          show _ = _
          rw [← sgn_cmp]
          have h1 := of_decide_eq_false hp.symm
          have h2 := of_decide_eq_false hq.symm
          congr 1
          omega
        have HC := Lib.hid (fun W (hW : Below w.heap.size w W) => cmp_nm A A2 na ca nb cb z.natAbs y.natAbs W (n1.below hW) (n2.below hW) (by omega) (by omega))
        rw [← HR.out] at HC
        clear hp hq n1 n2 hla hlb HR
        generalize sgn (z - y) = n at HC ⊢
        go_enter Tryz.func41, Tryz.ntmps41
        go_wp2_with fail
        refine H1.out.mono ?_
        rintro e w1 ⟨rfl, T1⟩
        have xa0 := T1.x.c0
        have xa1 := T1.x.c1
        have xb0 := T1.y.c0
        have xb1 := T1.y.c1
        go_wp2_with fail
        refine (HSg.out _).mono ?_
        rintro e w2 ⟨rfl, hb2⟩
        have T2 := T1.next (below_then hb2 (bxb _ (.cells #[.bool false, .bool false] 90)))
        have hs1 : (w2.alloc (.cells #[.bool false, .bool false] 90)).heap[w2.heap.size]? = some (.cells #[.bool false, .bool false] 90) := World.alloc_heap_new _ _
        have s0 := cells_cell hs1 (j := 0) rfl
        have s1 := cells_cell hs1 (j := 1) rfl
        clear hb2 hs1
        clear xa0 xa1 xb0 xb1
        have xa0 := T2.x.c0
        have xa1 := T2.x.c1
        have xb0 := T2.y.c0
        have xb1 := T2.y.c1
        go_wp2_with fail
        refine (HC.out _ T2.b).mono ?_
        rintro e w3 ⟨rfl, hb3⟩
        have T3 := T2.next hb3
        clear hb3
        go_wp2
        go_ret2
        exact ⟨rfl, T3.b⟩
set_option maxRecDepth 100000 in
set_option maxHeartbeats 2000000 in
theorem signZ_any (h : Z1 w A na ca a) : Calls Tryz.prog 33 #[zv p A na ca] w (IAns w (oneZ p a (sgn (zof p a))) (oneE p a)) := by
  have T0 := uno_box w p A na ca
  have HC := Lib.hid (fun W (hW : Below w.heap.size w W) => cmpZ_any (p := p) (q := false) (A2 := none) (nb := 0) (cb := 0) (b := []) (w := W) ⟨h.ra.below hW, rd_nil W none, h.la, by omega, h.ca1, h.ca2, by omega, by omega⟩)
  have e1 : twoE p a false [] = oneE p a := by simp [twoE, oneE, twoM, mayZ, show may [] = true from rfl]
  have e2 : ∀ x, twoZ p a false [] x = oneZ p a x := fun x => by simp [twoZ, oneZ, twoM, mayZ, show may [] = true from rfl]
  rw [e1, e2, zof_nil, Int.sub_zero] at HC
  clear h e1 e2
  generalize oneZ p a (sgn (zof p a)) = n at HC ⊢
  generalize oneE p a = E at HC ⊢
  unfold zv IAns at *
  go_enter Tryz.func33, Tryz.ntmps33
  go_wp2_with fail
  refine (HC.out _ T0.b).mono ?_
  rintro e w1 ⟨rfl, hb⟩
  have T1 := T0.next hb
  go_wp2
  go_ret2
  exact ⟨rfl, T1.b⟩
set_option maxRecDepth 100000 in
set_option maxHeartbeats 2000000 in
theorem checkZ_any (h : Z1 w A na ca a) : Calls Tryz.prog 72 #[zv p A na ca] w fun e w' => e = .returned (.int .i64 (oneE p a)) ∧ Below w.heap.size w w' := by
  have H1 := Lib.hid (mayOne_at1 (p := p) h)
  clear h
  generalize oneE p a = E at H1 ⊢
  unfold zv at *
  go_enter Tryz.func72, Tryz.ntmps72
  go_wp2_with fail
  refine H1.out.mono ?_
  rintro e w1 ⟨rfl, T1⟩
  go_wp2
  go_ret
  exact ⟨rfl, T1.b⟩
set_option maxRecDepth 100000 in
set_option maxHeartbeats 2000000 in
theorem wOf_any (n : Int) (h1 : -9223372036854775808 ≤ n) (h2 : n ≤ 9223372036854775807) : Calls Tryz.prog 34 #[.int .i64 n] w (ZOne w n) := by
  have hx : BoxZ (w.alloc (zo false none 0 0)) w.heap.size false none 0 0 := World.alloc_heap_new _ _
  have hs : w.heap.size < (w.alloc (zo false none 0 0)).heap.size := by simp
  have HB := Lib.hid (And.intro (bxb w (zo false none 0 0)) hx)
  have HS := Lib.hid hs
  clear hx hs
  have HT := Lib.hid (fun W => of_any n.natAbs W (by rw [B64_eq]; omega))
  by_cases hn : n < 0
  · have hc : IntKind.u64.wrap n = 18446744073709551616 + n := by rw [IntKind.wrap_u64]; omega
    have hc2 : IntKind.u64.wrap (-(18446744073709551616 + n)) = (n.natAbs : Int) := by rw [IntKind.wrap_u64]; omega
    have HD : Hid (n ≠ 0 → decide (n < 0) = true) := fun _ => decide_eq_true hn
    have HQ : Hid (decide (n < 0) = true) := decide_eq_true hn
    go_enter Tryz.func34, Tryz.ntmps34
    go_wp2_with fail
    refine (HT.out _).mono ?_
    rintro e w4 ⟨A3, k3, c3, rfl, o3, hb3⟩
    have x4 := HB.out.2.below hb3 HS.out
    have B4 := below_then HB.out.1 hb3
    clear hb3
    go_wp2_with fail
    refine (signed_own (z := n) (d := true) o3 HD.out).mono ?_
    rintro e w5 ⟨A9, k9, c9, rfl, o9, hb5⟩
    have HV : Hid (zV n A9 k9 c9 = zv true A9 k9 c9) := by show _ = _; unfold zV; rw [HQ.out]
    rw [HV.out]
    have x5 := x4.below hb5 (Array.getElem?_eq_some_iff.1 x4).1
    have B5 := below_then B4 hb5
    have r0 := x5.c0
    have r1 := x5.c1
    have f0 := x5.f 0
    have f1 := x5.f 1
    clear x4 B4 hb5
    unfold zv
    go_wp2
    refine bodyPost_ret (v := zv true A9 k9 c9) (by simp [results, Tryz.results34, go_sem, r0, r1, zV, zv]) rfl ?_
    exact ⟨A9, k9, c9, by rw [HV.out], own_box HS.out (Nat.le_refl _) o9 _ _, box_below (Nat.le_refl _) B5 _ _⟩
  · have hc : IntKind.u64.wrap n = (n.natAbs : Int) := by rw [IntKind.wrap_u64]; omega
    have HD : Hid (n ≠ 0 → decide (n < 0) = false) := fun _ => decide_eq_false hn
    have HQ : Hid (decide (n < 0) = false) := decide_eq_false hn
    go_enter Tryz.func34, Tryz.ntmps34
    go_wp2_with fail
    refine (HT.out _).mono ?_
    rintro e w4 ⟨A3, k3, c3, rfl, o3, hb3⟩
    have x4 := HB.out.2.below hb3 HS.out
    have B4 := below_then HB.out.1 hb3
    clear hb3
    go_wp2_with fail
    refine (signed_own (z := n) (d := false) o3 HD.out).mono ?_
    rintro e w5 ⟨A9, k9, c9, rfl, o9, hb5⟩
    have HV : Hid (zV n A9 k9 c9 = zv false A9 k9 c9) := by show _ = _; unfold zV; rw [HQ.out]
    rw [HV.out]
    have x5 := x4.below hb5 (Array.getElem?_eq_some_iff.1 x4).1
    have B5 := below_then B4 hb5
    have r0 := x5.c0
    have r1 := x5.c1
    have f0 := x5.f 0
    have f1 := x5.f 1
    clear x4 B4 hb5
    unfold zv
    go_wp2
    refine bodyPost_ret (v := zv false A9 k9 c9) (by simp [results, Tryz.results34, go_sem, r0, r1, zV, zv]) rfl ?_
    exact ⟨A9, k9, c9, by rw [HV.out], own_box HS.out (Nat.le_refl _) o9 _ _, box_below (Nat.le_refl _) B5 _ _⟩
end
set_option maxHeartbeats 2000000 in
/-- slices.Equal. -/
theorem equal_any (A A2 : Option Addr) (na ca nb cb : Nat) (a b : List Nat) (w : World) (hra : Rd w A na a) (hrb : Rd w A2 nb b) (hna : na ≤ 4294967296) (hnb : nb ≤ 4294967296) :
    Calls Tryz.prog 81 #[.slice A na ca, .slice A2 nb cb] w fun e w' => e = .returned (.bool (decide (a = b))) ∧ Below w.heap.size w w' := by
  by_cases hl : na = nb
  · subst hl
    go_enter Tryz.func81, Tryz.ntmps81
    go_wp2
    go_loopw [13] (fun i wr => ∃ k : Nat, k ≤ na ∧ i = .int .i64 (k : Int) ∧ (∀ j, j < k → lim a j = lim b j) ∧ Below w.heap.size w wr) (fun i _ => na - (intOf i).toNat)
    case atStart => exact ⟨0, by omega, rfl, fun j hj => by omega, Below.refl _ _⟩
    case round =>
      obtain ⟨k, hk, rfl, hs, hb⟩ := hrel
      by_cases hlt : k < na
      · obtain ⟨b1, o1, rfl, _, hc1⟩ := (hra.below hb).cells (by omega)
        obtain ⟨b2, o2, rfl, _, hc2⟩ := (hrb.below hb).cells (by omega)
        have hca := hc1 k hlt
        have hcb := hc2 k hlt
        have HS := Lib.hid hs
        clear hc1 hc2 hs
        by_cases he : lim a k = lim b k
        · have HE := Lib.hid he
          have hne : (((lim a k : Nat) : Int) != ((lim b k : Nat) : Int)) = false := by simp [he]
          clear he
          go_wp2
          go_quiet (fail)
          go_wp2
          go_roundw
          case rel => exact ⟨k + 1, by omega, by go_num, fun j hj => (by
            rcases Nat.lt_or_ge j k with h | h
            · exact HS.out j h
            · obtain rfl : j = k := by omega
              exact HE.out), below_drewN hb _⟩
          case measure => simp [intOf]; omega
        · have hne : (((lim a k : Nat) : Int) != ((lim b k : Nat) : Int)) = true := by simp; omega
          have hab : decide (a = b) = false := by simp; exact lim_ne he
          have HB := Lib.hid hab
          clear hab he
          go_wp2
          go_quiet (fail)
          go_wp2
          go_ret
          exact ⟨by rw [HB.out]; rfl, below_drewN hb _⟩
      · have hab : decide (a = b) = true := by
          have e := hra.len
          have e2 := hrb.len
          simp
          exact eq_of_lim (by omega) fun i hi => hs i (by omega)
        have HB := Lib.hid hab
        clear hab hs hra hrb
        go_wp2
        go_ret
        exact ⟨by rw [HB.out]; rfl, hb⟩
  · have hab : decide (a = b) = false := by
      have e := hra.len
      have e2 := hrb.len
      simp
      rintro rfl
      omega
    have HB := Lib.hid hab
    have hne : (((na : Nat) : Int) != ((nb : Nat) : Int)) = true := by simp; omega
    clear hab hra hrb
    go_enter Tryz.func81, Tryz.ntmps81
    go_wp2
    go_ret
    exact ⟨by rw [HB.out]; rfl, Below.refl _ _⟩

section
variable {A A2 : Option Addr} {na ca nb cb v u : Nat} {p q : Bool} {a b : List Nat} {w : World} {z y : Int}
set_option maxRecDepth 100000 in
set_option maxHeartbeats 2000000 in
theorem sameZ_any (h : Z2 w A A2 na ca nb cb a b) : Calls Tryz.prog 59 #[zv p A na ca, zv q A2 nb cb] w fun e w' => e = .returned (.bool (decide (p = q ∧ a = b))) ∧ Below w.heap.size w w' := by
  have T0 := two_box w p A na ca q A2 nb cb
  have HQ := Lib.hid (fun W (hW : Below w.heap.size w W) => equal_any A A2 na ca nb cb a b W (h.ra.below hW) (h.rb.below hW) (by have := h.la; omega) (by have := h.lb; omega))
  by_cases hpq : p = q
  · subst hpq
    have HR : Hid (decide (p = p ∧ a = b) = decide (a = b)) := by show _ = _; simp
    clear h
    unfold zv at *
    go_enter Tryz.func59, Tryz.ntmps59
    go_wp2_with fail
    refine (HQ.out _ T0.b).mono ?_
    rintro e w1 ⟨rfl, hb⟩
    have T1 := T0.next hb
    clear hb
    go_wp2
    go_ret
    exact ⟨by rw [HR.out]; rfl, T1.b⟩
  · have HR : Hid (decide (p = q ∧ a = b) = false) := by show _ = _; simp [hpq]
    have hpq2 : (p == q) = false := by simp [hpq]
    clear h hpq
    unfold zv at *
    go_enter Tryz.func59, Tryz.ntmps59
    go_wp2_with fail
    go_ret
    exact ⟨by rw [HR.out]; rfl, T0.b⟩
end
end Go.Proofs.YtgiokmfdafmaoaaGreat

/- whole: quotients. -/
namespace Go.Proofs.YtgiokmfdafmaoaaGreat
open Go.RowKit Go.Shelf
set_option linter.unusedVariables false
set_option linter.unusedSimpArgs false

section
variable {A A2 : Option Addr} {na ca nb cb v u : Nat} {p q : Bool} {a b : List Nat} {w : World} {z y : Int}
theorem quo_nm (hva : Nm w A na ca v) (hub : Nm w A2 nb cb u) (hu : u ≠ 0) (hna : na ≤ 1000) (hnb : nb ≤ 1000) :
    Calls Tryz.prog 107 #[.slice A na ca, .slice A2 nb cb] w (Answers2 w (limbs (v / u)) (limbs (v % u)) 0) := by
  have e : divE (limbs v) (limbs u) = 0 := divE_ok (may_limbs v) (may_limbs u) (fun h => hu (limbs_eq_nil.1 h))
  have h := div_is A A2 na ca nb cb (limbs v) (limbs u) w hva.rd hub.rd hna hnb ⟨hva.nc, hva.cm⟩ ⟨hub.nc, hub.cm⟩
  rw [quoL_ok e, remL_ok e, e, val_limbs, val_limbs] at h
  exact h
theorem quo_nm0 (hva : Nm w A na ca v) (hub : Nm w A2 0 cb 0) (hna : na ≤ 1000) :
    Calls Tryz.prog 107 #[.slice A na ca, .slice A2 0 cb] w (Answers2 w [] [] 30) := by
  have e : divE (limbs v) [] = 30 := divE_zero (may_limbs v)
  have h := div_is A A2 na ca 0 cb (limbs v) [] w hva.rd (limbs_zero ▸ hub.rd) hna (by omega) ⟨hva.nc, hva.cm⟩ ⟨hub.nc, hub.cm⟩
  rw [quoL_no (by rw [e]; decide), remL_no (by rw [e]; decide), e] at h
  exact h
theorem exq_nm (hva : Nm w A na ca v) (hub : Nm w A2 nb cb u) (hu : u ≠ 0) (hm : v % u = 0) (hna : na ≤ 1000) (hnb : nb ≤ 1000) :
    Calls Tryz.prog 87 #[.slice A na ca, .slice A2 nb cb] w (Answers w (limbs (v / u)) 0) := by
  have e : divE (limbs v) (limbs u) = 0 := divE_ok (may_limbs v) (may_limbs u) (fun h => hu (limbs_eq_nil.1 h))
  have e2 : exactE (limbs v) (limbs u) = 0 := by simp [exactE, e, val_limbs, hm]
  have e3 : exactL (limbs v) (limbs u) = limbs (v / u) := by simp [exactL, e2, val_limbs]
  have h := exact_is A A2 na ca nb cb (limbs v) (limbs u) w hva.rd hub.rd hna hnb ⟨hva.nc, hva.cm⟩ ⟨hub.nc, hub.cm⟩
  rw [e2, e3] at h
  exact h
theorem exq_nm6 (hva : Nm w A na ca v) (hub : Nm w A2 nb cb u) (hu : u ≠ 0) (hm : v % u ≠ 0) (hna : na ≤ 1000) (hnb : nb ≤ 1000) :
    Calls Tryz.prog 87 #[.slice A na ca, .slice A2 nb cb] w (Answers w [] 6) := by
  have e : divE (limbs v) (limbs u) = 0 := divE_ok (may_limbs v) (may_limbs u) (fun h => hu (limbs_eq_nil.1 h))
  have e2 : exactE (limbs v) (limbs u) = 6 := by simp [exactE, e, val_limbs, hm]
  have e3 : exactL (limbs v) (limbs u) = [] := by simp [exactL, e2]
  have h := exact_is A A2 na ca nb cb (limbs v) (limbs u) w hva.rd hub.rd hna hnb ⟨hva.nc, hva.cm⟩ ⟨hub.nc, hub.cm⟩
  rw [e2, e3] at h
  exact h
theorem exq_nm0 (hva : Nm w A na ca v) (hub : Nm w A2 0 cb 0) (hna : na ≤ 1000) :
    Calls Tryz.prog 87 #[.slice A na ca, .slice A2 0 cb] w (Answers w [] 30) := by
  have e : divE (limbs v) [] = 30 := divE_zero (may_limbs v)
  have e2 : exactE (limbs v) [] = 30 := by simp [exactE, e]
  have e3 : exactL (limbs v) [] = [] := by simp [exactL, e2]
  have h := exact_is A A2 na ca 0 cb (limbs v) [] w hva.rd (limbs_zero ▸ hub.rd) hna (by omega) ⟨hva.nc, hva.cm⟩ ⟨hub.nc, hub.cm⟩
  rw [e2, e3] at h
  exact h
end

theorem fdiv_quot {z y : Int} (hy : y ≠ 0) : (Int.fdiv z y).natAbs = z.natAbs / y.natAbs + (if (decide (z < 0) != decide (y < 0)) = true ∧ z.natAbs % y.natAbs ≠ 0 then 1 else 0) ∧ (Int.fdiv z y ≠ 0 → decide (Int.fdiv z y < 0) = (decide (z < 0) != decide (y < 0))) := by
  by_cases h : decide (z < 0) = decide (y < 0)
  · rw [fdiv_same hy h]
    have e : (decide (z < 0) != decide (y < 0)) = false := by rw [h]; simp
    rw [e]
    generalize z.natAbs / y.natAbs = n
    refine ⟨by simp, fun _ => decide_eq_false (by omega)⟩
  · rw [fdiv_diff hy h]
    have e : (decide (z < 0) != decide (y < 0)) = true := by simpa using h
    rw [e]
    generalize z.natAbs / y.natAbs = n
    generalize z.natAbs % y.natAbs = r
    by_cases hr : r = 0
    · rw [if_pos hr, if_neg (by simp [hr])]
      refine ⟨by omega, fun hne => decide_eq_true (by omega)⟩
    · rw [if_neg hr, if_pos ⟨rfl, hr⟩]
      refine ⟨by omega, fun hne => decide_eq_true (by omega)⟩
theorem cdiv_quot {z y : Int} (hy : y ≠ 0) : (cdiv z y).natAbs = z.natAbs / y.natAbs + (if (!(decide (z < 0) != decide (y < 0))) = true ∧ z.natAbs % y.natAbs ≠ 0 then 1 else 0) ∧ (cdiv z y ≠ 0 → decide (cdiv z y < 0) = (decide (z < 0) != decide (y < 0))) := by
  by_cases hz : z = 0
  · subst hz
    have : cdiv 0 y = 0 := by simp [cdiv]
    rw [this]
    simp
  · have h := fdiv_quot (z := -z) hy
    have e : decide (-z < 0) = !decide (z < 0) := by rw [zneg_d]; simp [hz]
    rw [Int.natAbs_neg, e] at h
    have e2 : ((!decide (z < 0)) != decide (y < 0)) = !(decide (z < 0) != decide (y < 0)) := by cases decide (z < 0) <;> cases decide (y < 0) <;> rfl
    rw [e2] at h
    unfold cdiv
    refine ⟨by rw [Int.natAbs_neg]; exact h.1, fun hne => ?_⟩
    have h2 := h.2 (by omega)
    rw [show (decide (z < 0) != decide (y < 0)) = !(!(decide (z < 0) != decide (y < 0))) by simp, ← h2]
    generalize Int.fdiv (-z) y = k at hne
    rw [zneg_d]
    have hk : decide (k ≠ 0) = true := decide_eq_true (by omega)
    rw [hk]
    simp
theorem zof_ne {p : Bool} {a : List Nat} (hm : mayZ p a = true) (h : a ≠ []) : zof p a ≠ 0 := fun e => by
  have h1 := zof_abs p a
  have h2 := val_pos (mayZ_may hm) h
  rw [e] at h1
  omega
theorem dvd_mod (z y : Int) : y ∣ z ↔ z.natAbs % y.natAbs = 0 := by
  rw [← Int.natAbs_dvd_natAbs, Nat.dvd_iff_mod_eq_zero]
section
variable {A A2 : Option Addr} {na ca nb cb v u : Nat} {p q : Bool} {a b : List Nat} {w : World} {z y : Int}
set_option maxRecDepth 100000 in
set_option maxHeartbeats 4000000 in
theorem exactZ_any (h : Z2 w A A2 na ca nb cb a b) : Calls Tryz.prog 67 #[zv p A na ca, zv q A2 nb cb] w (ZAns w (exZ p a q b) (exE p a q b)) := by
  have H1 := Lib.hid (mayTwo_at (p := p) (q := q) h)
  cases hm : twoM p a q b with
  | false =>
    have e0 : quoE p a q b = 8 := by simp [quoE, hm]
    have e : exE p a q b = 8 := by unfold exE; rw [e0, if_neg (by decide)]
    have e2 : exZ p a q b = 0 := by unfold exZ; rw [e, if_neg (by decide)]
    rw [e, e2]
    rw [twoE_no hm] at H1
    clear h hm e0 e e2
    unfold zv at *
    go_enter Tryz.func67, Tryz.ntmps67
    go_wp2_with fail
    refine H1.out.mono ?_
    rintro e w1 ⟨rfl, T1⟩
    have xa0 := T1.t.x.c0
    have xa1 := T1.t.x.c1
    have xb0 := T1.t.y.c0
    have xb1 := T1.t.y.c1
    have r0 := T1.r.c0
    have r1 := T1.r.c1
    have f0 := T1.r.f 0
    have f1 := T1.r.f 1
    go_wp2
    refine bodyPost_ret (v := .tuple #[zv false none 0 0, .int .i64 8]) (by simp [results, Tryz.results67, go_sem, r0, r1, zv]) rfl ?_
    exact zans_zero (box_below (show w.heap.size ≤ w.heap.size + 1 + 1 by omega) T1.t.b _ _)
  | true =>
    have hz := h.num hm
    have n1 := hz.1
    have n2 := hz.2.1
    have hla := h.la
    have hlb := h.lb
    rw [twoE_ok hm] at H1
    by_cases hb : nb = 0
    · subst hb
      have hb0 : b = [] := List.eq_nil_of_length_eq_zero h.rb.len
      have hy0 : zof q b = 0 := by rw [hb0]; cases q <;> rfl
      rw [hy0] at n2
      have e0 : quoE p a q b = 30 := by unfold quoE; rw [if_pos hm, if_pos hb0]
      have e : exE p a q b = 30 := by unfold exE; rw [e0, if_neg (by decide)]
      have e2 : exZ p a q b = 0 := by unfold exZ; rw [e, if_neg (by decide)]
      rw [e, e2]
      have HN := Lib.hid (fun W (hW : Below w.heap.size w W) => exq_nm0 (n1.below hW) (n2.below hW) (by omega))
      clear h hm e0 e e2 hz n1 n2 hb0 hy0 hla hlb
      unfold zv at *
      go_enter Tryz.func67, Tryz.ntmps67
      go_wp2_with fail
      refine H1.out.mono ?_
      rintro e w1 ⟨rfl, T1⟩
      have xa0 := T1.t.x.c0
      have xa1 := T1.t.x.c1
      have xb0 := T1.t.y.c0
      have xb1 := T1.t.y.c1
      have r0 := T1.r.c0
      have r1 := T1.r.c1
      have f0 := T1.r.f 0
      have f1 := T1.r.f 1
      go_wp2_with fail
      refine (HN.out _ T1.t.b).mono ?_
      rintro e w3 ⟨A3, k3, c3, rfl, o3, hb3⟩
      have T3 := T1.next hb3
      clear T1 hb3
      clear xa0 xa1 xb0 xb1 r0 r1 f0 f1
      have xa0 := T3.t.x.c0
      have xa1 := T3.t.x.c1
      have xb0 := T3.t.y.c0
      have xb1 := T3.t.y.c1
      have r0 := T3.r.c0
      have r1 := T3.r.c1
      have f0 := T3.r.f 0
      have f1 := T3.r.f 1
      go_wp2
      refine bodyPost_ret (v := .tuple #[zv false none 0 0, .int .i64 30]) (by simp [results, Tryz.results67, go_sem, r0, r1, zv]) rfl ?_
      exact zans_zero (box_below (show w.heap.size ≤ w.heap.size + 1 + 1 by omega) T3.t.b _ _)
    · have hb0 : b ≠ [] := fun e => hb (by rw [← h.rb.len, e]; rfl)
      have hu : (zof q b).natAbs ≠ 0 := fun e => hb (n2.zero.2 e)
      have e0 : quoE p a q b = 0 := by unfold quoE; rw [if_pos hm, if_neg hb0]
      by_cases hdv : (zof p a).natAbs % (zof q b).natAbs = 0
      · have e : exE p a q b = 0 := by unfold exE; rw [e0, if_pos rfl, if_pos ((dvd_mod _ _).2 hdv)]
        have e2 : exZ p a q b = Int.fdiv (zof p a) (zof q b) := by unfold exZ; rw [e, if_pos rfl]
        rw [e, e2]
        have hq := fdiv_quot (z := zof p a) (zof_ne (twoM_iff.1 hm).2 hb0)
        rw [if_neg (by simp [hdv]), Nat.add_zero, ← mayZ_sgn (twoM_iff.1 hm).1, ← mayZ_sgn (twoM_iff.1 hm).2] at hq
        have HN := Lib.hid (fun W (hW : Below w.heap.size w W) => exq_nm (n1.below hW) (n2.below hW) hu hdv (by omega) (by omega))
        rw [← hq.1] at HN
        have HU := Lib.hid (fun W => unlike_any (A := A) (A2 := A2) (na := na) (ca := ca) (nb := nb) (cb := cb) (p := p) (q := q) (w := W))
        have HD := Lib.hid hq.2
        clear h hm e0 e e2 hz n1 n2 hb0 hla hlb hu hb hq hdv
        generalize Int.fdiv (zof p a) (zof q b) = Z at HN HD ⊢
        generalize (p != q) = d at HU HD
        unfold zv at *
        go_enter Tryz.func67, Tryz.ntmps67
        go_wp2_with fail
        refine H1.out.mono ?_
        rintro e w1 ⟨rfl, T1⟩
        have HG := Lib.hid (Array.getElem?_eq_some_iff.1 T1.r).1
        have xa0 := T1.t.x.c0
        have xa1 := T1.t.x.c1
        have xb0 := T1.t.y.c0
        have xb1 := T1.t.y.c1
        have r0 := T1.r.c0
        have r1 := T1.r.c1
        have f0 := T1.r.f 0
        have f1 := T1.r.f 1
        go_wp2_with fail
        refine (HN.out _ T1.t.b).mono ?_
        rintro e w3 ⟨A3, k3, c3, rfl, o3, hb3⟩
        have T3 := T1.next hb3
        clear T1 hb3
        clear xa0 xa1 xb0 xb1 r0 r1 f0 f1
        have xa0 := T3.t.x.c0
        have xa1 := T3.t.x.c1
        have xb0 := T3.t.y.c0
        have xb1 := T3.t.y.c1
        have r0 := T3.r.c0
        have r1 := T3.r.c1
        have f0 := T3.r.f 0
        have f1 := T3.r.f 1
        go_wp2_with fail
        refine (HU.out _).mono ?_
        rintro e w7 ⟨rfl, hb7⟩
        replace o3 := o3.below hb7
        have T7 := T3.next hb7
        clear T3 hb7
        clear xa0 xa1 xb0 xb1 r0 r1 f0 f1
        have xa0 := T7.t.x.c0
        have xa1 := T7.t.x.c1
        have xb0 := T7.t.y.c0
        have xb1 := T7.t.y.c1
        have r0 := T7.r.c0
        have r1 := T7.r.c1
        have f0 := T7.r.f 0
        have f1 := T7.r.f 1
        go_wp2_with fail
        refine (signed_own (z := Z) (d := d) o3 HD.out).mono ?_
        rintro e w8 ⟨A9, k9, c9, rfl, o9, hb8⟩
        have T8 := T7.next hb8
        clear T7 hb8
        clear xa0 xa1 xb0 xb1 r0 r1 f0 f1
        have xa0 := T8.t.x.c0
        have xa1 := T8.t.x.c1
        have xb0 := T8.t.y.c0
        have xb1 := T8.t.y.c1
        have r0 := T8.r.c0
        have r1 := T8.r.c1
        have f0 := T8.r.f 0
        have f1 := T8.r.f 1
        unfold zV zv
        go_wp2
        refine bodyPost_ret (v := .tuple #[zV Z A9 k9 c9, .int .i64 0]) (by simp [results, Tryz.results67, go_sem, r0, r1, zV, zv]) rfl ?_
        exact ⟨A9, k9, c9, rfl, own_box HG.out (show w.heap.size ≤ w.heap.size + 1 + 1 by omega) o9 _ _, box_below (show w.heap.size ≤ w.heap.size + 1 + 1 by omega) T8.t.b _ _⟩
      · have e : exE p a q b = 6 := by unfold exE; rw [e0, if_pos rfl, if_neg (fun x => hdv ((dvd_mod _ _).1 x))]
        have e2 : exZ p a q b = 0 := by unfold exZ; rw [e, if_neg (by decide)]
        rw [e, e2]
        have HN := Lib.hid (fun W (hW : Below w.heap.size w W) => exq_nm6 (n1.below hW) (n2.below hW) hu hdv (by omega) (by omega))
        clear h hm e0 e e2 hz n1 n2 hb0 hla hlb hu hb hdv
        unfold zv at *
        go_enter Tryz.func67, Tryz.ntmps67
        go_wp2_with fail
        refine H1.out.mono ?_
        rintro e w1 ⟨rfl, T1⟩
        have xa0 := T1.t.x.c0
        have xa1 := T1.t.x.c1
        have xb0 := T1.t.y.c0
        have xb1 := T1.t.y.c1
        have r0 := T1.r.c0
        have r1 := T1.r.c1
        have f0 := T1.r.f 0
        have f1 := T1.r.f 1
        go_wp2_with fail
        refine (HN.out _ T1.t.b).mono ?_
        rintro e w3 ⟨A3, k3, c3, rfl, o3, hb3⟩
        have T3 := T1.next hb3
        clear T1 hb3
        clear xa0 xa1 xb0 xb1 r0 r1 f0 f1
        have xa0 := T3.t.x.c0
        have xa1 := T3.t.x.c1
        have xb0 := T3.t.y.c0
        have xb1 := T3.t.y.c1
        have r0 := T3.r.c0
        have r1 := T3.r.c1
        have f0 := T3.r.f 0
        have f1 := T3.r.f 1
        go_wp2
        refine bodyPost_ret (v := .tuple #[zv false none 0 0, .int .i64 6]) (by simp [results, Tryz.results67, go_sem, r0, r1, zv]) rfl ?_
        exact zans_zero (box_below (show w.heap.size ≤ w.heap.size + 1 + 1 by omega) T3.t.b _ _)
end
end Go.Proofs.YtgiokmfdafmaoaaGreat

/- The chapter's first examples. -/
namespace Go.Proofs.YtgiokmfdafmaoaaGreat
open Go.RowKit Go.Shelf
set_option linter.unusedVariables false
set_option linter.unusedSimpArgs false

def GivesIs (F : Nat) (x y z : Int) : Prop := ∀ (A A2 : Option Addr) (na ca nb cb : Nat) (w : World), ZNm w A na ca x → ZNm w A2 nb cb y → na ≤ 400 → nb ≤ 400 →
  Calls Tryz.prog F #[zV x A na ca, zV y A2 nb cb] w (ZAns w z 0)
theorem small_len {W : World} {B : Nat} {A : Option Addr} {k c : Nat} {x : Int} (o : Own W B (.slice A k c) (limbs x.natAbs)) (h1 : -1000 ≤ x) (h2 : x ≤ 1000) : k ≤ 1 := o.nm.len (N := 1) (by rw [Nat.pow_one, B64_eq]; omega)
theorem int_small {z : Int} (z1 : -1000 ≤ z) (z2 : z ≤ 1000) : intE (decide (z < 0)) (limbs z.natAbs) = 0 ∧ intZ (decide (z < 0)) (limbs z.natAbs) = z := by
  have e : intE (decide (z < 0)) (limbs z.natAbs) = 0 := by unfold intE; rw [if_pos (mayZ_num z), zof_num, if_pos (by omega)]
  refine ⟨e, ?_⟩
  unfold intZ
  rw [e, if_pos rfl, zof_num]
theorem isAdd1 (A A2 : Option Addr) (na ca nb cb : Nat) (w : World) (h1 : ZNm w A na ca (-3)) (h2 : ZNm w A2 nb cb (5)) (l1 : na ≤ 400) (l2 : nb ≤ 400) : Calls Tryz.prog 71 #[zV (-3) A na ca, zV (5) A2 nb cb] w (ZAns w (2) 0) := by
  have h := addZ (p := decide ((-3 : Int) < 0)) (q := decide ((5 : Int) < 0)) (w := w) ⟨h1.rd, h2.rd, l1, l2, h1.nc, h1.cm, h2.nc, h2.cm⟩
  rw [twoZ_ok (twoM_num _ _), twoE_ok (twoM_num _ _), zof_num, zof_num] at h
  exact h
theorem isMul1 (A A2 : Option Addr) (na ca nb cb : Nat) (w : World) (h1 : ZNm w A na ca (-3)) (h2 : ZNm w A2 nb cb (5)) (l1 : na ≤ 400) (l2 : nb ≤ 400) : Calls Tryz.prog 73 #[zV (-3) A na ca, zV (5) A2 nb cb] w (ZAns w (-15) 0) := by
  have h := mulZ (p := decide ((-3 : Int) < 0)) (q := decide ((5 : Int) < 0)) (w := w) ⟨h1.rd, h2.rd, l1, l2, h1.nc, h1.cm, h2.nc, h2.cm⟩
  rw [twoZ_ok (twoM_num _ _), twoE_ok (twoM_num _ _), zof_num, zof_num] at h
  exact h
end Go.Proofs.YtgiokmfdafmaoaaGreat

/- What a law holds: its whole numbers, each in a block of its own. -/
namespace Go.Proofs.YtgiokmfdafmaoaaGreat
open Go.RowKit Go.Shelf
set_option linter.unusedVariables false
set_option linter.unusedSimpArgs false

/-- A number in a block. -/
structure It where
  g : Nat
  z : Int
  A : Option Addr
  n : Nat
  c : Nat
structure It.ok (W : World) (i : It) : Prop where
  b : BoxZ W i.g (decide (i.z < 0)) i.A i.n i.c
  m : ZNm W i.A i.n i.c i.z
  l : i.n ≤ 400
def Held (W : World) (L : List It) : Prop := ∀ i, i ∈ L → It.ok W i
theorem It.ok.below {W W' : World} {i : It} (h : It.ok W i) (hb : Below W.heap.size W W') : It.ok W' i := ⟨h.b.below hb (Array.getElem?_eq_some_iff.1 h.b).1, h.m.below hb, h.l⟩
theorem Held.next {W W' : World} {L : List It} (h : Held W L) (hb : Below W.heap.size W W') : Held W' L := fun i hi => (h i hi).below hb
theorem Held.cons {W : World} {L : List It} {i : It} (h : Held W L) (hi : It.ok W i) : Held W (i :: L) := fun j hj => by
  rcases List.mem_cons.1 hj with rfl | hj
  · exact hi
  · exact h j hj
theorem held_nil (W : World) : Held W [] := fun i hi => by cases hi
/-- A number that a call has answered, laid in a block. -/
theorem It.fresh {W : World} {B : Nat} {z : Int} {A : Option Addr} {n c : Nat} (o : Own W B (.slice A n c) (limbs z.natAbs)) (hl : n ≤ 400) : It.ok (W.alloc (zo (decide (z < 0)) A n c)) ⟨W.heap.size, z, A, n, c⟩ :=
  ⟨World.alloc_heap_new _ _, o.nm.below (bxb _ _), hl⟩
theorem It.param {w : World} {z : Int} {A : Option Addr} {n c : Nat} (h : ZNm w A n c z) (hl : n ≤ 400) : It.ok (w.alloc (zo (decide (z < 0)) A n c)) ⟨w.heap.size, z, A, n, c⟩ :=
  ⟨World.alloc_heap_new _ _, h.below (bxb _ _), hl⟩
/-- How long a number may be. -/
def Bd (k : Nat) (z : Int) : Prop := z.natAbs < B64 ^ k
theorem Bd.len {W : World} {B k : Nat} {z : Int} {A : Option Addr} {n c : Nat} (h : Bd k z) (o : Own W B (.slice A n c) (limbs z.natAbs)) : n ≤ k := o.nm.len h
theorem Bd.mono {k m : Nat} {z : Int} (h : Bd k z) (hkm : k ≤ m) : Bd m z := Nat.lt_of_lt_of_le h (Nat.pow_le_pow_right B64_pos hkm)
theorem Bd.add {k : Nat} {z y : Int} (h1 : Bd k z) (h2 : Bd k y) : Bd (k + 1) (z + y) := by
  unfold Bd at *
  rw [Nat.pow_succ]
  have := B64_gt
  have h3 : B64 ^ k * 2 ≤ B64 ^ k * B64 := Nat.mul_le_mul_left _ (by omega)
  omega
theorem Bd.neg {k : Nat} {z : Int} (h : Bd k z) : Bd k (-z) := by unfold Bd at *; rw [Int.natAbs_neg]; exact h
theorem Bd.sub {k : Nat} {z y : Int} (h1 : Bd k z) (h2 : Bd k y) : Bd (k + 1) (z - y) := by rw [Int.sub_eq_add_neg]; exact h1.add h2.neg
theorem Bd.mul {k m : Nat} {z y : Int} (h1 : Bd k z) (h2 : Bd m y) : Bd (k + m) (z * y) := by
  unfold Bd at *
  rw [Int.natAbs_mul, Nat.pow_add]
  exact Nat.mul_lt_mul_of_lt_of_le h1 (Nat.le_of_lt h2) (Nat.pos_of_ne_zero (by intro e; omega))
theorem Bd.of {w : World} {A : Option Addr} {n c k : Nat} {z : Int} (h : ZNm w A n c z) (hk : n ≤ k) : Bd k z := Nat.lt_of_lt_of_le h.lt (Nat.pow_le_pow_right B64_pos hk)

section
variable {A A2 : Option Addr} {na ca nb cb : Nat} {w : World} {z y : Int}
theorem z2_num (h1 : ZNm w A na ca z) (h2 : ZNm w A2 nb cb y) (l1 : na ≤ 400) (l2 : nb ≤ 400) : Z2 w A A2 na ca nb cb (limbs z.natAbs) (limbs y.natAbs) := ⟨h1.rd, h2.rd, l1, l2, h1.nc, h1.cm, h2.nc, h2.cm⟩
theorem addN (h1 : ZNm w A na ca z) (h2 : ZNm w A2 nb cb y) (l1 : na ≤ 400) (l2 : nb ≤ 400) : Calls Tryz.prog 71 #[.agg #[.bool (decide (z < 0)), .slice A na ca], .agg #[.bool (decide (y < 0)), .slice A2 nb cb]] w (ZAns w (z + y) 0) := by
  have h := addZ (p := decide (z < 0)) (q := decide (y < 0)) (z2_num h1 h2 l1 l2)
  rw [twoZ_ok (twoM_num _ _), twoE_ok (twoM_num _ _), zof_num, zof_num] at h
  exact h
theorem mulN (h1 : ZNm w A na ca z) (h2 : ZNm w A2 nb cb y) (l1 : na ≤ 400) (l2 : nb ≤ 400) : Calls Tryz.prog 73 #[.agg #[.bool (decide (z < 0)), .slice A na ca], .agg #[.bool (decide (y < 0)), .slice A2 nb cb]] w (ZAns w (z * y) 0) := by
  have h := mulZ (p := decide (z < 0)) (q := decide (y < 0)) (z2_num h1 h2 l1 l2)
  rw [twoZ_ok (twoM_num _ _), twoE_ok (twoM_num _ _), zof_num, zof_num] at h
  exact h
theorem cmpN (h1 : ZNm w A na ca z) (h2 : ZNm w A2 nb cb y) (l1 : na ≤ 400) (l2 : nb ≤ 400) : Calls Tryz.prog 41 #[.agg #[.bool (decide (z < 0)), .slice A na ca], .agg #[.bool (decide (y < 0)), .slice A2 nb cb]] w (IAns w (sgn (z - y)) 0) := by
  have h := cmpZ_any (p := decide (z < 0)) (q := decide (y < 0)) (z2_num h1 h2 l1 l2)
  rw [twoZ_ok (twoM_num _ _), twoE_ok (twoM_num _ _), zof_num, zof_num] at h
  exact h
theorem signN (h1 : ZNm w A na ca z) (l1 : na ≤ 400) : Calls Tryz.prog 33 #[.agg #[.bool (decide (z < 0)), .slice A na ca]] w (IAns w (sgn z) 0) := by
  have h := signZ_any (p := decide (z < 0)) (w := w) ⟨h1.rd, l1, h1.nc, h1.cm⟩
  rw [oneZ_ok (mayZ_num _), oneE_ok (mayZ_num _), zof_num] at h
  exact h
theorem checkN (h1 : ZNm w A na ca z) (l1 : na ≤ 400) : Calls Tryz.prog 72 #[.agg #[.bool (decide (z < 0)), .slice A na ca]] w fun e w' => e = .returned (.int .i64 0) ∧ Below w.heap.size w w' := by
  have h := checkZ_any (p := decide (z < 0)) (w := w) ⟨h1.rd, l1, h1.nc, h1.cm⟩
  rw [oneE_ok (mayZ_num _)] at h
  exact h
theorem sameN (h1 : ZNm w A na ca z) (h2 : ZNm w A2 nb cb y) (l1 : na ≤ 400) (l2 : nb ≤ 400) : Calls Tryz.prog 27 #[.agg #[.bool (decide (z < 0)), .slice A na ca], .agg #[.bool (decide (y < 0)), .slice A2 nb cb]] w fun e w' => e = .returned (.bool (decide (z = y))) ∧ Below w.heap.size w w' := by
  have h := rSameZ_any A A2 na ca nb cb (decide (z < 0)) (decide (y < 0)) (limbs z.natAbs) (limbs y.natAbs) w (z2_num h1 h2 l1 l2)
  have e : decide (decide (z < 0) = decide (y < 0) ∧ limbs z.natAbs = limbs y.natAbs) = decide (z = y) := by
    rw [decide_eq_decide]
    constructor
    · rintro ⟨e1, e2⟩
      have e3 := limbs_inj e2
      rw [decide_eq_decide] at e1
      omega
    · rintro rfl
      exact ⟨rfl, rfl⟩
  rw [e] at h
  exact h
theorem sameT (h1 : ZNm w A na ca z) (h2 : ZNm w A2 nb cb y) (l1 : na ≤ 400) (l2 : nb ≤ 400) (e : z = y) : Calls Tryz.prog 27 #[.agg #[.bool (decide (z < 0)), .slice A na ca], .agg #[.bool (decide (y < 0)), .slice A2 nb cb]] w fun e w' => e = .returned (.bool true) ∧ Below w.heap.size w w' := by
  have h := sameN h1 h2 l1 l2
  rwa [decide_eq_true e] at h
theorem sameT0 (h1 : ZNm w A na ca z) (l1 : na ≤ 400) (e : z = 0) : Calls Tryz.prog 27 #[.agg #[.bool (decide (z < 0)), .slice A na ca], .agg #[.bool false, .slice none 0 0]] w fun e w' => e = .returned (.bool true) ∧ Below w.heap.size w w' := by
  have h := sameT h1 (zero_znm w) l1 (Nat.zero_le _) e
  rwa [show decide ((0 : Int) < 0) = false from decide_eq_false (by omega)] at h
theorem quoE_num {b : Int} (h0 : b ≠ 0) : quoE (decide (z < 0)) (limbs z.natAbs) (decide (b < 0)) (limbs b.natAbs) = 0 := by
  unfold quoE
  rw [if_pos (twoM_num _ _), if_neg (fun e => by have := limbs_eq_nil.1 e; omega)]
theorem exactN (h1 : ZNm w A na ca z) (h2 : ZNm w A2 nb cb y) (l1 : na ≤ 400) (l2 : nb ≤ 400) (h0 : y ≠ 0) : Calls Tryz.prog 67 #[.agg #[.bool (decide (z < 0)), .slice A na ca], .agg #[.bool (decide (y < 0)), .slice A2 nb cb]] w (ZAns w (if y ∣ z then Int.fdiv z y else 0) (if y ∣ z then 0 else 6)) := by
  have h := exactZ_any (p := decide (z < 0)) (q := decide (y < 0)) (z2_num h1 h2 l1 l2)
  unfold exZ exE at h
  rw [quoE_num h0, if_pos rfl, zof_num, zof_num] at h
  by_cases hd : y ∣ z
  · rw [if_pos hd] at h
    rw [if_pos hd, if_pos hd]
    exact h
  · rw [if_neg hd] at h
    rw [if_neg hd, if_neg hd]
    exact h
theorem Bd.fdiv {k : Nat} {z y : Int} (h : Bd k z) (h0 : y ≠ 0) : Bd (k + 1) (Int.fdiv z y) := by
  unfold Bd at *
  rw [(fdiv_quot h0).1, Nat.pow_succ]
  have h1 := Nat.div_le_self z.natAbs y.natAbs
  have := B64_gt
  have h3 : B64 ^ k * 2 ≤ B64 ^ k * B64 := Nat.mul_le_mul_left _ (by omega)
  split <;> omega
theorem Bd.cdiv {k : Nat} {z y : Int} (h : Bd k z) (h0 : y ≠ 0) : Bd (k + 1) (Go.Proofs.YtgiokmfdafmaoaaGreat.cdiv z y) := by
  unfold Go.Proofs.YtgiokmfdafmaoaaGreat.cdiv
  exact (Bd.fdiv h.neg h0).neg
end
end Go.Proofs.YtgiokmfdafmaoaaGreat
