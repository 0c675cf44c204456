import Derived.Test.YtoehkaagfokamaaGreatDoorZGAlive
import Derived.Test.YtoehkaagfokamaaGreatDoorZGTexts
import Derived.Test.YtoehkaagfokamaaGreatDoorZGDigits
import Derived.Test.YtoehkaagfokamaaGreatDoorZGCommon
import Derived.Test.YtoehkaagfokamaaGreatDoorZGDig
import Derived.Test.YtoehkaagfokamaaGreatDoorZGPar
/- GNames GCodeZ. -/
/- The law GcdNames. -/
namespace Go.Proofs.YtoehkaagfokamaaGreatDoor
open Go.RowKit Go.Shelf
set_option linter.unusedVariables false
set_option linter.unusedSimpArgs false

theorem text_none : textE [] = 0 ∧ textS [] = ⟨#[48]⟩ := by
  have h : textE [] = 0 := textE_ok rfl (by decide)
  exact ⟨h, by rw [textS_ok h]; rfl⟩
theorem text_bad2 : textE [0, 0] = 8 ∧ textS [0, 0] = ⟨#[]⟩ := by
  have h : textE [0, 0] = 8 := textE_bad rfl
  exact ⟨h, textS_no (by rw [h]; decide)⟩
theorem parse_two64 : parseE ⟨#[49, 56, 52, 52, 54, 55, 52, 52, 48, 55, 51, 55, 48, 57, 53, 53, 49, 54, 49, 54]⟩ = 0 ∧ parseL ⟨#[49, 56, 52, 52, 54, 55, 52, 52, 48, 55, 51, 55, 48, 57, 53, 53, 49, 54, 49, 54]⟩ = [0, 1] := by
  have h : parseE ⟨#[49, 56, 52, 52, 54, 55, 52, 52, 48, 55, 51, 55, 48, 57, 53, 53, 49, 54, 49, 54]⟩ = 0 := parseE_ok (by decide) two64_ok
  refine ⟨h, ?_⟩
  rw [parseL_ok h]
  show limbs (numV two64) = _
  rw [two64_num, ← two64_val]
  exact limbs_val (words_cons B64_pos (words_cons B64_gt words_nil)) rfl
theorem parse_007 : parseE ⟨#[48, 48, 55]⟩ = 8 ∧ parseL ⟨#[48, 48, 55]⟩ = [] := by
  have h : parseE ⟨#[48, 48, 55]⟩ = 8 := parseE_bad (by decide) (by decide)
  exact ⟨h, parseL_no (by rw [h]; decide)⟩
theorem parse_neg : parseE ⟨#[45, 49]⟩ = 8 ∧ parseL ⟨#[45, 49]⟩ = [] := by
  have h : parseE ⟨#[45, 49]⟩ = 8 := parseE_bad (by decide) (by decide)
  exact ⟨h, parseL_no (by rw [h]; decide)⟩

section
variable (w : World)
set_option maxRecDepth 100000 in
set_option maxHeartbeats 3000000 in
theorem gcdNames_any (hG : GcdIs 37) (hM : LcmIs 38) (hT : TextIs 6) (hP : ParseIs 7) :
    Calls Tryz.prog 3 #[] w fun e w' => e = .returned (.bool true) ∧ Below w.heap.size w w' := by
  have hmk := fun W => run_make_row' (P := Tryz.prog) 26 31 (.int .u64 0) 8 Tryz.underlying26 u64_info rfl .i64 .i64 2 (by omega) (by omega) W
  simp only [show ((2 : Nat) : Int) = 2 from rfl] at hmk
  go_enter Tryz.func3, Tryz.ntmps3
  go_wp2_with fail
  refine (hT none 0 0 [] _ (rd_nil _ none) (by omega) ⟨by omega, by omega⟩).mono ?_
  rw [text_none.1, text_none.2]
  rintro e w1 ⟨rfl, hb1⟩
  go_wp2_with fail
  refine (hP _ _ (by decide)).mono ?_
  rw [parse_two64.1, parse_two64.2]
  rintro e w2 ⟨A2, k2, c2, rfl, o2, hb2⟩
  have r2 := o2.rd.1
  have l2 : k2 = 2 := o2.rd.2.1
  subst l2
  clear o2
  replace hb2 := below_then hb1 hb2
  clear hb1
  go_wp2_with fail
  refine (hP _ _ (by decide)).mono ?_
  rw [parse_007.1, parse_007.2]
  rintro e w3 ⟨A3, k3, c3, rfl, o3, hb3⟩
  clear o3
  replace r2 := r2.below hb3
  replace hb3 := below_then hb2 hb3
  clear hb2
  go_wp2_with fail
  refine (hP _ _ (by decide)).mono ?_
  rw [parse_neg.1, parse_neg.2]
  rintro e w4 ⟨A4, k4, c4, rfl, o4, hb4⟩
  clear o4
  replace r2 := r2.below hb4
  replace hb4 := below_then hb3 hb4
  clear hb3
  go_wp2_with fail
  have hz := ((RowL.zeros w4 2).own (B := w4.heap.size) (Nat.le_refl _) (l := List.replicate 2 0) (n := 2) (words_cons B64_pos (words_cons B64_pos words_nil)) rfl (by simp only [maxLen]; omega)).rd.1
  replace r2 := r2.alloc (.cells (madeCells #[.int .u64 0] 2) 31)
  replace hb4 := hb4.alloc hb4.size (.cells (madeCells #[.int .u64 0] 2) 31)
  refine (hT _ 2 2 [0, 0] _ hz (by omega) ⟨by omega, by omega⟩).mono ?_
  rw [text_bad2.1, text_bad2.2]
  rintro e w5 ⟨rfl, hb5⟩
  replace r2 := r2.below hb5
  replace hb5 := below_then hb4 hb5
  clear hb4 hz
  go_wp2_with fail
  refine (galive_any _ hG hM hT).mono ?_
  rintro e w6 ⟨rfl, hb6⟩
  replace r2 := r2.below hb6
  replace hb6 := below_then hb5 hb6
  clear hb5
  go_wp2_with fail
  refine (same_any _ _ _ _ _ _ [0, 1] [0, 1] _ (r2.alloc _) (rd_new2 _ 0 1 _ B64_pos B64_gt) (by omega) (by omega)).mono ?_
  rw [decide_eq_true (show [0, 1] = [0, 1] from rfl)]
  rintro e w7 ⟨rfl, hb7⟩
  replace hb7 := below_then hb6 (below_new hb7)
  clear hb6
  go_wp2_with fail
  go_ret
  exact ⟨rfl, hb7⟩
end
end Go.Proofs.YtoehkaagfokamaaGreatDoor

/- Stage 4: the laws GcdNames, GcdTexts and GcdDigits, and the calls as they landed. -/
namespace Go.Proofs.YtoehkaagfokamaaGreatDoor
theorem gcodeZ : True := trivial
end Go.Proofs.YtoehkaagfokamaaGreatDoor
