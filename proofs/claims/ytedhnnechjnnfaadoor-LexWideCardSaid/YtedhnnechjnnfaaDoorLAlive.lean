/- The laws' first example. -/
import Derived.Test.YtedhnnechjnnfaaDoorLRef6
import Derived.Test.YtedhnnechjnnfaaDoorLTokens
import Derived.Test.YtedhnnechjnnfaaDoorLName
namespace Go.Proofs.YtedhnnechjnnfaaDoor
open Go.RowKit Go.Shelf
set_option linter.unusedVariables false
set_option linter.unusedSimpArgs false
theorem toks_alive : toksR ⟨#[120, 60, 61, 50]⟩ = .ok [⟨1, [120], 0⟩, ⟨3, [60, 61], 1⟩, ⟨2, [50], 3⟩] := by rfl
set_option maxRecDepth 100000 in
set_option maxHeartbeats 4000000 in
theorem alive_any (w : World) (hV : LexVars w) :
    Calls Tryd.prog 8 #[] w fun e w' => e = .returned (.bool true) ∧ Below w.heap.size w w' := by
  have HTA := Lib.hid toks_alive
  have HV := Lib.hid hV
  clear hV
  go_enter Tryd.func8, Tryd.ntmps8
  go_wp2_with fail
  refine (tokens_any _ (by decide) _ HV.out).mono ?_
  rintro e w1 ⟨h1, b1⟩
  rw [HTA.out] at h1
  rcases h1 with ⟨A, n, c, L, hR, hn, rfl, hO⟩ | ⟨a, x, hR, rfl⟩
  · cases hR
    have h3 := hO.len
    simp at h3
    subst h3
    obtain ⟨b, rfl, _, hb, p0, p1, p2⟩ := ownT_tok hO (k := 0) rfl
    obtain ⟨b', e', _, _, q0, q1, q2⟩ := ownT_tok hO (k := 1) rfl
    cases e'
    obtain ⟨b', e', _, _, r0, r1, r2⟩ := ownT_tok hO (k := 2) rfl
    cases e'
    have HB := Lib.hid b1
    clear b1 hO
    replace p1 : w1.cell? ⟨b, 0 * 3 + 1, none⟩ = some (.string ⟨#[120]⟩) := p1
    replace q1 : w1.cell? ⟨b, 1 * 3 + 1, none⟩ = some (.string ⟨#[60, 61]⟩) := q1
    replace r1 : w1.cell? ⟨b, 2 * 3 + 1, none⟩ = some (.string ⟨#[50]⟩) := r1
    replace p2 : w1.cell? ⟨b, 0 * 3 + 2, none⟩ = some (.int .i64 0) := p2
    replace q2 : w1.cell? ⟨b, 1 * 3 + 2, none⟩ = some (.int .i64 1) := q2
    replace r2 : w1.cell? ⟨b, 2 * 3 + 2, none⟩ = some (.int .i64 3) := r2
    go_wp2_with fail
    go_ret
    exact ⟨rfl, HB.out⟩
  · cases hR
theorem toks_seven : toksR ⟨#[97, 49, 60, 61, 48, 55]⟩ = .error (4, 81) := by rfl
theorem toks_hash : toksR ⟨#[35]⟩ = .error (0, 80) := by rfl
theorem name_if : isName [105, 102] = false := by rfl
theorem name_x : isName [120] = true := by rfl
theorem kw_if : isKw [105, 102] = true := by rfl
set_option maxRecDepth 100000 in
set_option maxHeartbeats 4000000 in
/-- The chapter's examples. -/
theorem lnames_any (w : World) (hV : LexVars w) :
    Calls Tryd.prog 3 #[] w fun e w' => e = .returned (.bool true) ∧ Below w.heap.size w w' := by
  have HV := Lib.hid hV
  have H7 := Lib.hid toks_seven
  have HH := Lib.hid toks_hash
  clear hV
  go_enter Tryd.func3, Tryd.ntmps3
  go_wp2_with fail
  refine (tokens_any _ (by decide) _ HV.out).mono ?_
  rintro e w1 ⟨h1, b1⟩
  rw [H7.out] at h1
  have HB1 := Lib.hid b1
  have HV1 := Lib.hid (HV.out.later b1)
  clear b1
  rcases h1 with ⟨A, n, c, L, hR, hn, rfl, hO⟩ | ⟨a, x, hR, rfl⟩
  · cases hR
  · cases hR
    go_wp2_with fail
    refine (tokens_any _ (by decide) _ HV1.out).mono ?_
    rintro e w2 ⟨h2, b2⟩
    rw [HH.out] at h2
    have HB2 := Lib.hid (lx_then HB1.out b2)
    have HV2 := Lib.hid (HV1.out.later b2)
    clear b2
    rcases h2 with ⟨A, n, c, L, hR, hn, rfl, hO⟩ | ⟨a, x, hR, rfl⟩
    · cases hR
    · cases hR
      go_wp2_with fail
      refine (alive_any _ HV2.out).mono ?_
      rintro e w3 ⟨rfl, b3⟩
      have HB3 := Lib.hid (lx_then HB2.out b3)
      have HV3 := Lib.hid (HV2.out.later b3)
      clear b3
      go_wp2_with fail
      refine (name_any ⟨#[105, 102]⟩ (by decide) _ HV3.out).mono ?_
      rw [show (⟨#[105, 102]⟩ : ByteArray).data.toList = [105, 102] from rfl, name_if]
      rintro e w4 ⟨rfl, b4⟩
      have HB4 := Lib.hid (lx_then HB3.out b4)
      have HV4 := Lib.hid (HV3.out.later b4)
      clear b4
      go_wp2_with fail
      refine (keyword_any ⟨#[105, 102]⟩ _).mono ?_
      rw [show (⟨#[105, 102]⟩ : ByteArray).data.toList = [105, 102] from rfl, kw_if]
      rintro e w5 ⟨rfl, rfl⟩
      go_wp2_with fail
      refine (name_any ⟨#[120]⟩ (by decide) _ HV4.out).mono ?_
      rw [show (⟨#[120]⟩ : ByteArray).data.toList = [120] from rfl, name_x]
      rintro e w6 ⟨rfl, b6⟩
      have HB6 := Lib.hid (lx_then HB4.out b6)
      clear b6
      go_wp2_with fail
      go_ret
      exact ⟨rfl, HB6.out⟩
end Go.Proofs.YtedhnnechjnnfaaDoor
