/- lex: what the rows' variables hold where the call begins. -/
import Derived.Test.YtedhnnechjnnfaaDoorLVars
import Derived.Test.YtedhnnechjnnfaaDoorLNumb
import Derived.Stop.LaidErr
import Derived.OpenShut
import Derived.MakeChecks
namespace Go.Proofs.YtedhnnechjnnfaaDoor
open Go.RowKit Go.Shelf Go.ChangeShapes
set_option linter.unusedVariables false
set_option linter.unusedSimpArgs false
theorem lx_star : "*" ++ "errors.errorString" = "*errors.errorString" := by decide
theorem lx_err_row (u : TypeId) (h : Tryd.prog.typeName? 3 u = some "*errors.errorString") : u = 79 :=
  typeName_ptr_named (nm := "errors.errorString") (by rw [lx_star]; kernel_rfl) (by kernel_rfl) (by decide) u (by rw [lx_star]; exact h)
theorem lx_cells_err : Tryd.prog.cellsOf 81 = 1 := by kernel_rfl
theorem lx_cells_str : Tryd.prog.cellsOf 9 = 1 := by kernel_rfl
theorem lx_cells_arr : Tryd.prog.cellsOf 52 = 25 := by kernel_rfl
/-- The table of signs, as the row lists it. -/
theorem lx_signs_datum : (Rows.laid_facetroom_lex_signs : DataW Unit) = .agg (signsL.map fun s => .lit (.string s.data.toList)) := rfl
theorem lexVars_laid {W : World} (h : laidMetH Tryd.prog Rows.lexDoesRow.laid W) : LexVars W := by
  rw [MakeChecks.laidMetH_plain _ _ _ (by kernel_rfl)] at h
  have h3 := (laidMet.tail (laidMet.tail (laidMet.tail h)))
  have h4 := laidMet.tail h3
  have h5 := laidMet.tail h4
  obtain ⟨a0, s0, hv0, _, _, _⟩ := laid_sentinel (g := 3) h3 (by kernel_rfl) (by kernel_rfl) Tryd.underlying55 lx_err_row Tryd.underlying79 Tryd.underlying81 rfl rfl Tryd.underlying9 lx_cells_err lx_cells_str
  obtain ⟨a1, s1, hv1, _, _, _⟩ := laid_sentinel (g := 2) h4 (by kernel_rfl) (by kernel_rfl) Tryd.underlying55 lx_err_row Tryd.underlying79 Tryd.underlying81 rfl rfl Tryd.underlying9 lx_cells_err lx_cells_str
  have hs1 := World.var?_cell (P := Tryd.prog) (g := 2) (by kernel_rfl) hv1 0
  have hs0 := World.var?_cell (P := Tryd.prog) (g := 3) (by kernel_rfl) hv0 0
  refine ⟨?_, ⟨_, _, hs1⟩, ⟨_, _, hs0⟩⟩
  obtain ⟨ps, ⟨g, t, cs, fuel, p, q, hg, ht, hv, hd, _, _⟩, _, _⟩ := h5
  obtain rfl := Option.some.inj ((show Tryd.prog.globalNamed "facetroom/lex.signs" = some 0 by kernel_rfl).symm.trans hg)
  obtain rfl := Option.some.inj ((show (Tryd.prog.globals[(0 : Nat)]?).map (·.type) = some 52 by kernel_rfl).symm.trans ht)
  obtain ⟨xs, m, _, ex, hcl, hl, hel⟩ := DataW.trod_array Tryd.underlying52 hd
  have e3 : (xs.map (·.1)) = signsL.map fun s => (DataW.lit (.string s.data.toList) : DataW Unit) := (DataW.agg.inj ((Prod.mk.inj ex).1.symm.trans lx_signs_datum))
  have hcs : cs = signsV := by
    rw [lx_cells_arr] at hcl
    have hsz : cs.size = 25 := by rw [← Array.length_toList]; exact hcl
    refine Array.ext (by rw [hsz]; rfl) fun i h1 h2 => ?_
    have hi : i < 25 := by omega
    have hE := hel i hi
    rw [lx_cells_str, Nat.mul_one, List.getElem?_eq_getElem (by omega)] at hE
    obtain ⟨z, e1, e2, _⟩ := DataW.trod_string Tryd.underlying9 hE
    have hsl : i < signsL.length := hi
    have e4 : (xs.map (·.1))[i]? = (signsL.map fun s => (DataW.lit (.string s.data.toList) : DataW Unit))[i]? := by rw [e3]
    rw [List.getElem?_map, List.getElem?_map, List.getElem?_eq_getElem (by omega : i < xs.length), List.getElem?_eq_getElem hsl, e2] at e4
    have hz : z = signsL[i] := by
      have e5 : z.data.toList = (signsL[i]).data.toList := by
        simpa using e4
      rw [← bs_of z, e5, bs_of]
    have hci : cs[i] = .string z := by
      have h0 : ((cs.toList.drop i).take 1)[0]? = some (.string z) := by rw [e1]; rfl
      have h3 : cs.toList[i]? = some (.string z) := by simpa using h0
      rw [Array.getElem?_toList, Array.getElem?_eq_getElem h1] at h3
      exact Option.some.inj h3
    have hsv : signsV[i] = .string (signsL[i]) := by
      have h3 := signsV_at (List.getElem?_eq_getElem hsl)
      rw [Array.getElem?_eq_getElem h2] at h3
      exact Option.some.inj h3
    rw [hci, hz]
    exact hsv.symm
  subst hcs
  simp only [World.var?, hg, Option.bind_some] at hv
  split at hv
  · rename_i c t fr hb
    cases hv
    exact ⟨t, fr, hb⟩
  · cases hv
end Go.Proofs.YtedhnnechjnnfaaDoor
