import Derived.Test.YtgiokmfdafmaoaaGreatJRowL
import Derived.Test.YtgiokmfdafmaoaaGreatJZ
import Derived.Lib.SmallJoins
import Derived.WalkKit
import Derived.ProofKit
import Derived.OpenShut
/- ZFr. -/
/- A whole number that came in, opened. -/
namespace Go.Proofs.YtgiokmfdafmaoaaGreat
open Go.RowKit Go.Shelf Go.ChangeShapes Go.WideShapes
set_option linter.unusedVariables false

theorem zcells : Tryz.prog.cellsOf 41 = 2 := by kernel_rfl
set_option maxRecDepth 100000 in
theorem open_z {H : Type} {enc : TypeId × Value → H} {W : World} {base b0 : Nat} {held : Bool} {r : Reach} {v : Value} {d : DataW H} {ps : List MemPlace}
    (hv : Value.okWide Tryz.prog W r b0 41 v) (h : DataW.Trod enc Tryz.prog W base (fun _ => true) held 41 v d ps) :
    ∃ s a len cap l, v = .agg #[.bool s, .slice a len cap] ∧ Rd W a len l ∧ len ≤ cap ∧ cap ≤ 9223372036854775807 := by
  obtain ⟨c0, c1, y0, y1, m, rfl, rfl, rfl, hy0, hy1⟩ := Go.Joins.open_agg2 Tryz.underlying41 (by kernel_rfl) zcells hv h
  obtain ⟨s, e0, _⟩ := DataW.trod_bool Tryz.underlying4 hy0
  obtain ⟨a, l, c, e1⟩ := Go.Joins.slice_form Tryz.underlying23 hy1
  simp at e0 e1
  subst e0 e1
  have hrow : (a = none ∧ l = 0 ∧ c = 0 ∧ ∃ zs : List Int, zs = []) ∨ ∃ zs : List Int, ∃ x, a = some x ∧ l ≤ c ∧ c ≤ maxLen ∧ zs.length = c ∧ (∀ i, i < zs.length → W.cell? (x.add i) = some (.int .u64 (zs.getD i 0))) ∧ ∀ n ∈ zs, (Lit.int .u64 n).wf = true := by
    rcases open_ints Tryz.underlying23 Tryz.underlying36 (by kernel_rfl) hy1 with ⟨hcs, _⟩ | ⟨x, l', c', zs, hcs, _, hl, hm, hz, _, hcell, hwz⟩
    · simp at hcs
      obtain ⟨rfl, rfl, rfl⟩ := hcs
      exact .inl ⟨rfl, rfl, rfl, [], rfl⟩
    · simp at hcs
      obtain ⟨rfl, rfl, rfl⟩ := hcs
      exact .inr ⟨zs, _, rfl, hl, hm, by simpa using hz, hcell, hwz⟩
  rcases hrow with ⟨h1, h2, h3, zs, h4⟩ | ⟨zs, hx⟩
  · obtain ⟨⟨L, hL⟩, k1, k2⟩ := rd_of_row (w := W) (a := a) (len := l) (cap := c) (zs := zs) (.inl ⟨h1, h2, h3, h4⟩)
    exact ⟨s, a, l, c, L, rfl, hL, k1, k2⟩
  · obtain ⟨⟨L, hL⟩, k1, k2⟩ := rd_of_row (w := W) (a := a) (len := l) (cap := c) (zs := zs) (.inr hx)
    exact ⟨s, a, l, c, L, rfl, hL, k1, k2⟩
end Go.Proofs.YtgiokmfdafmaoaaGreat
