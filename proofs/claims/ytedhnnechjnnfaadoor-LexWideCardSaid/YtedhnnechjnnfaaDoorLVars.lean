/- lex: what the package's variables hold; tokens. -/
import Derived.Test.YtedhnnechjnnfaaDoorLBase
import Derived.Laws.Rows
namespace Go.Proofs.YtedhnnechjnnfaaDoor
open Go.RowKit Go.Shelf
set_option linter.unusedVariables false
set_option linter.unusedSimpArgs false

/-- The signs, as the program's table has them. -/
def signsL : List ByteArray := [⟨#[60, 60]⟩, ⟨#[62, 62]⟩, ⟨#[60, 61]⟩, ⟨#[62, 61]⟩, ⟨#[61, 61]⟩, ⟨#[33, 61]⟩, ⟨#[38, 38]⟩, ⟨#[124, 124]⟩, ⟨#[40]⟩, ⟨#[41]⟩, ⟨#[123]⟩, ⟨#[125]⟩, ⟨#[91]⟩, ⟨#[93]⟩, ⟨#[59]⟩, ⟨#[44]⟩, ⟨#[61]⟩, ⟨#[60]⟩, ⟨#[62]⟩, ⟨#[43]⟩, ⟨#[45]⟩, ⟨#[42]⟩, ⟨#[47]⟩, ⟨#[37]⟩, ⟨#[33]⟩]
def signsV : Array Value := (signsL.map Value.string).toArray
theorem signsV_size : signsV.size = 25 := rfl
theorem signsV_at {k : Nat} {s : ByteArray} (h : signsL[k]? = some s) : signsV[k]? = some (.string s) := by
  unfold signsV
  rw [List.getElem?_toArray, List.getElem?_map, h]; rfl
/-- What the variables hold that lex reads. -/
structure LexVars (w : World) : Prop where
  sign : ∃ t fr, w.heap[(0 : Nat)]? = some (.cells signsV t fr)
  syn : ∃ tp p, w.cell? ⟨2, 0, none⟩ = some (.iface tp p)
  rng : ∃ tp p, w.cell? ⟨3, 0, none⟩ = some (.iface tp p)
theorem LexVars.later {w W : World} (h : LexVars w) (hb : Below w.heap.size w W) : LexVars W := by
  obtain ⟨⟨t1, f1, h1⟩, ⟨t2, p2, h2⟩, ⟨t3, p3, h3⟩⟩ := h
  exact ⟨⟨t1, f1, (hb.block _ (Array.getElem?_eq_some_iff.1 h1).1).trans h1⟩, ⟨t2, p2, lx_cell h2 hb (Lib.lt_of_cell h2)⟩, ⟨t3, p3, lx_cell h3 hb (Lib.lt_of_cell h3)⟩⟩
end Go.Proofs.YtedhnnechjnnfaaDoor
