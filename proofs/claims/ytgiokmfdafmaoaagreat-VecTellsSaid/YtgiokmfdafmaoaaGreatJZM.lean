import Derived.Test.YtgiokmfdafmaoaaGreatJZW
import Derived.Test.YtgiokmfdafmaoaaGreatJSame
/- ZC ZK ZS ZM. -/
/- The document's whole numbers: compared. -/
namespace Go.Proofs.YtgiokmfdafmaoaaGreat
open Go.RowKit Go.Shelf
set_option linter.unusedVariables false
set_option linter.unusedSimpArgs false

section
variable {A A2 : Option Addr} {na ca nb cb : Nat} {p q : Bool} {a b : List Nat} {w : World} {z y : Int}
set_option maxRecDepth 100000 in
set_option maxHeartbeats 2000000 in
theorem rComparedZ_any (ha : ZNm w A na ca z) (hb : ZNm w A2 nb cb y) (hna : na ≤ 1000) (hnb : nb ≤ 1000) : Calls Tryz.prog 80 #[zV z A na ca, zV y A2 nb cb] w fun e w' => e = .returned (.int .i64 (sgn (z - y))) ∧ Below w.heap.size w w' := by
  have HL : Hid ((limbs (-y).natAbs).length ≤ 1000) := by show _ ≤ _; rw [Int.natAbs_neg, hb.rd.len]; exact hnb
  have HT := Lib.hid (fun W (hb0 : Below w.heap.size w W) => rTurned_any (w := W) (hb.below hb0) hnb)
  have HS := Lib.hid (fun W A3 k3 c3 (hb0 : Below w.heap.size w W) (h3 : ZNm W A3 k3 c3 (-y)) (hk : k3 ≤ 1000) => rSumZ_any (w := W) (ha.below hb0) h3 hna hk)
  have HG := Lib.hid (fun W A5 k5 c5 (h5 : ZNm W A5 k5 c5 (z + -y)) => rSigned_any (w := W) h5 (by have := h5.nc; have := h5.cm; omega))
  obtain ⟨p, hp⟩ : ∃ p, zV z A na ca = zv p A na ca := ⟨_, rfl⟩
  obtain ⟨q, hq⟩ : ∃ q, zV y A2 nb cb = zv q A2 nb cb := ⟨_, rfl⟩
  have hzy : z - y = z + -y := by omega
  rw [hzy]
  rw [hq] at HT
  rw [hp] at HS
  rw [hp, hq]
  have HT0 := Lib.hid ((two_box w p A na ca q A2 nb cb).next (Below.refl _ _).drew)
  clear ha hb hp hq hzy
  generalize -y = y1 at HL HT HS HG ⊢
  generalize sgn (z + y1) = s at HG ⊢
  generalize z + y1 = x at HS HG ⊢
  unfold zv at *
  go_enter Tryz.func80, Tryz.ntmps80
  go_wp2_with fail
  go_region_held3 (fun W' => W'.cell? ⟨w.heap.size, 0, none⟩ = some (.bool p) ∧ W'.cell? ⟨w.heap.size, 1, none⟩ = some (.slice A na ca) ∧ W'.cell? ⟨w.heap.size + 1, 0, none⟩ = some (.bool q) ∧ W'.cell? ⟨w.heap.size + 1, 1, none⟩ = some (.slice A2 nb cb)) (first | (refine ⟨?_, ?_, ?_, ?_⟩ <;> exact cell_far (cell_far (by assumption) (by omega) _) (by omega) _) | go_keep)
    (first
      | (go_at_call 104; refine (HT.out _ HT0.out.b).mono ?_; rintro e w4 ⟨A3, k3, c3, rfl, o3, hb3⟩; have T4 := HT0.out.next hb3; have xa0 := T4.x.c0; have xa1 := T4.x.c1; have xb0 := T4.y.c0; have xb1 := T4.y.c1; unfold zV zv)
      | (go_at_call 74; refine (HS.out _ A3 k3 c3 T4.b o3.nm (o3.rd.2.1 ▸ HL.out)).mono ?_; rintro e w5 ⟨A5, k5, c5, rfl, o5, hb5⟩; have T5 := T4.next hb5; clear xa0 xa1 xb0 xb1; have xa0 := T5.x.c0; have xa1 := T5.x.c1; have xb0 := T5.y.c0; have xb1 := T5.y.c1; unfold zV zv)
      | (go_at_call 103; refine (HG.out _ A5 k5 c5 o5.nm).mono ?_; rintro e w6 ⟨rfl, hb6⟩; have T6 := T5.next hb6; clear xa0 xa1 xb0 xb1; have xa0 := T6.x.c0; have xa1 := T6.x.c1; have xb0 := T6.y.c0; have xb1 := T6.y.c1))
  all_goals
    go_wp2
    go_ret
    exact ⟨rfl, T6.b⟩
end
end Go.Proofs.YtgiokmfdafmaoaaGreat

/- The document's whole numbers: what answers with ints. -/
namespace Go.Proofs.YtgiokmfdafmaoaaGreat
open Go.RowKit Go.Shelf
set_option linter.unusedVariables false
set_option linter.unusedSimpArgs false

end Go.Proofs.YtgiokmfdafmaoaaGreat

/- The document's whole numbers: the difference. -/
namespace Go.Proofs.YtgiokmfdafmaoaaGreat
open Go.RowKit Go.Shelf
set_option linter.unusedVariables false
set_option linter.unusedSimpArgs false

section
variable {A A2 : Option Addr} {na ca nb cb : Nat} {p q : Bool} {a b : List Nat} {w : World} {z y : Int}
end
end Go.Proofs.YtgiokmfdafmaoaaGreat

/- The document's whole numbers: the same. -/
namespace Go.Proofs.YtgiokmfdafmaoaaGreat
open Go.RowKit Go.Shelf
set_option linter.unusedVariables false
set_option linter.unusedSimpArgs false

set_option maxRecDepth 100000 in
set_option maxHeartbeats 2000000 in
theorem rSameZ_any : SameZIs 27 := by
  intro A A2 na ca nb cb p q a b w h
  have T0 := two_box w p A na ca q A2 nb cb
  have HT := Lib.hid (same_any A A2 na ca nb cb a b _ (h.ra.below T0.b) (h.rb.below T0.b) (by have := h.la; omega) (by have := h.lb; omega))
  have HT0 := Lib.hid T0
  by_cases hpq : p = q
  · subst hpq
    rw [show decide (p = p ∧ a = b) = decide (a = b) by simp]
    clear h T0
    generalize decide (a = b) = d at HT ⊢
    unfold zv
    go_enter Tryz.func27, Tryz.ntmps27
    go_wp2_with fail
    refine HT.out.mono ?_
    rintro e w1 ⟨rfl, hb1⟩
    have B1 := below_then HT0.out.b hb1
    clear hb1
    go_wp2
    go_ret
    exact ⟨rfl, B1⟩
  · have hpf : (p = q) = False := by simpa using hpq
    rw [show decide (p = q ∧ a = b) = false by simp [hpq]]
    clear h T0 HT hpq
    unfold zv
    go_enter Tryz.func27, Tryz.ntmps27
    go_wp2
    go_ret
    exact ⟨by simp [hpf], HT0.out.b⟩
end Go.Proofs.YtgiokmfdafmaoaaGreat
