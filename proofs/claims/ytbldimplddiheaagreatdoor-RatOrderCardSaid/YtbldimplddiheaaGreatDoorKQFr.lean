import Derived.Test.YtbldimplddiheaaGreatDoorKZHeld
import Derived.Test.YtbldimplddiheaaGreatDoorKZV
import Derived.Test.YtbldimplddiheaaGreatDoorKZFr
import Derived.Test.YtbldimplddiheaaGreatDoorKQ
import Derived.ChangeSame
/- ZQuo QFr. -/
/- The law WholeQuotients. -/
namespace Go.Proofs.YtbldimplddiheaaGreatDoor
open Go.RowKit Go.Shelf
set_option linter.unusedVariables false
set_option linter.unusedSimpArgs false

/-- A number that is no longer than a law may hold. -/
def Ln (z : Int) : Prop := (limbs z.natAbs).length ≤ 400
theorem Ln.len {z : Int} {W : World} {B : Nat} {A : Option Addr} {n c : Nat} (h : Ln z) (o : Own W B (.slice A n c) (limbs z.natAbs)) : n ≤ 400 := by
  have h1 := o.rd.2.1
  unfold Ln at h
  omega
theorem ln_zero : Ln 0 := by unfold Ln; rw [show (0 : Int).natAbs = 0 from rfl, limbs_zero]; exact Nat.zero_le _
theorem Bd.ln {k : Nat} {z : Int} (h : Bd k z) (hk : k ≤ 400) : Ln z := Nat.le_trans (limbs_length_le h) hk
theorem zof_bd {w : World} {A : Option Addr} {na : Nat} {a : List Nat} {p : Bool} (h : Rd w A na a) : Bd na (zof p a) := by
  unfold Bd
  rw [zof_abs]
  have h1 := val_lt h.words
  rw [h.len] at h1
  exact h1
section
variable {A A2 : Option Addr} {na ca nb cb : Nat} {p q : Bool} {a b : List Nat} {w : World}
theorem quo_ok (h : quoE p a q b = 0) : zof q b ≠ 0 := by
  have hm : twoM p a q b = true := by
    cases hm : twoM p a q b with
    | true => rfl
    | false => unfold quoE at h; rw [if_neg (by rw [hm]; decide)] at h; cases h
  have hb : b ≠ [] := fun e => by unfold quoE at h; rw [if_pos hm, if_pos e] at h; cases h
  exact zof_ne (twoM_iff.1 hm).2 hb
theorem ln_floor (h : Z2 w A A2 na ca nb cb a b) (hn : na ≤ 100) : Ln (quoZ Int.fdiv p a q b) := by
  unfold quoZ
  split
  · rename_i h0
    exact (Bd.fdiv (zof_bd h.ra) (quo_ok h0)).ln (by omega)
  · exact ln_zero
theorem ln_ceil (h : Z2 w A A2 na ca nb cb a b) (hn : na ≤ 100) : Ln (quoZ cdiv p a q b) := by
  unfold quoZ
  split
  · rename_i h0
    exact (Bd.cdiv (zof_bd h.ra) (quo_ok h0)).ln (by omega)
  · exact ln_zero
theorem ln_exact (h : Z2 w A A2 na ca nb cb a b) (hn : na ≤ 100) : Ln (exZ p a q b) := by
  unfold exZ
  split
  · rename_i h0
    have h1 : quoE p a q b = 0 := by
      unfold exE at h0
      split at h0
      · assumption
      · exact absurd h0 (by assumption)
    exact (Bd.fdiv (zof_bd h.ra) (quo_ok h1)).ln (by omega)
  · exact ln_zero
end
theorem ln_parse (s : ByteArray) : Ln (parseZ s) := by
  by_cases h : parseZE s = 0
  · unfold Ln
    rw [← (parseL_z h).2]
    exact Nat.le_trans (parse_len _) (by omega)
  · rw [parseZE_no h]
    exact ln_zero
theorem wrap_small {E : Int} (h1 : 0 ≤ E) (h2 : E ≤ 1000) : IntKind.i64.wrap E = E := by rw [IntKind.wrap_i64]; omega
theorem quoE_small (p : Bool) (a : List Nat) (q : Bool) (b : List Nat) : 0 ≤ quoE p a q b ∧ quoE p a q b ≤ 1000 := by unfold quoE; split <;> (try split) <;> omega
theorem exE_small (p : Bool) (a : List Nat) (q : Bool) (b : List Nat) : 0 ≤ exE p a q b ∧ exE p a q b ≤ 1000 := by
  have := quoE_small p a q b
  unfold exE; split <;> (try split) <;> omega
theorem textZE_small (p : Bool) (a : List Nat) : 0 ≤ textZE p a ∧ textZE p a ≤ 1000 := by unfold textZE textE; split <;> (try split) <;> (try split) <;> omega
theorem parseZE_small (s : ByteArray) : 0 ≤ parseZE s ∧ parseZE s ≤ 1000 := by unfold parseZE parseE; split <;> (try split) <;> (try split) <;> (try split) <;> omega
end Go.Proofs.YtbldimplddiheaaGreatDoor

/- A fraction that came in, opened. -/
namespace Go.Proofs.YtbldimplddiheaaGreatDoor
open Go.RowKit Go.Shelf Go.ChangeShapes Go.WideShapes
set_option linter.unusedVariables false

theorem qcells : Tryz.prog.cellsOf 27 = 3 := by kernel_rfl
theorem ncells : Tryz.prog.cellsOf 23 = 1 := by kernel_rfl
theorem bcells : Tryz.prog.cellsOf 4 = 1 := by kernel_rfl
set_option maxRecDepth 100000 in
theorem slice_rd {H : Type} {enc : TypeId × Value → H} {W : World} {base n : Nat} {held : Bool} {c1 : Value} {y1 : DataW H × List MemPlace}
    (hy1 : DataW.trod enc Tryz.prog W base (fun _ => true) held n 23 [c1] = some y1) :
    ∃ a len cap l, c1 = .slice a len cap ∧ Rd W a len l ∧ len ≤ cap ∧ cap ≤ 9223372036854775807 := by
  obtain ⟨a, l, c, e1⟩ := Go.Joins.slice_form Tryz.underlying23 hy1
  simp at e1
  subst e1
  have hrow : (a = none ∧ l = 0 ∧ c = 0 ∧ ∃ zs : List Int, zs = []) ∨ ∃ zs : List Int, ∃ x, a = some x ∧ l ≤ c ∧ c ≤ maxLen ∧ zs.length = c ∧ (∀ i, i < zs.length → W.cell? (x.add i) = some (.int .u64 (zs.getD i 0))) ∧ ∀ n ∈ zs, (Lit.int .u64 n).wf = true := by
    rcases open_ints Tryz.underlying23 Tryz.underlying63 (by kernel_rfl) hy1 with ⟨hcs, _⟩ | ⟨x, l', c', zs, hcs, _, hl, hm, hz, _, hcell, hwz⟩
    · simp at hcs
      obtain ⟨rfl, rfl, rfl⟩ := hcs
      exact .inl ⟨rfl, rfl, rfl, [], rfl⟩
    · simp at hcs
      obtain ⟨rfl, rfl, rfl⟩ := hcs
      exact .inr ⟨zs, _, rfl, hl, hm, by simpa using hz, hcell, hwz⟩
  rcases hrow with ⟨h1, h2, h3, zs, h4⟩ | ⟨zs, hx⟩
  · obtain ⟨⟨L, hL⟩, k1, k2⟩ := rd_of_row (w := W) (a := a) (len := l) (cap := c) (zs := zs) (.inl ⟨h1, h2, h3, h4⟩)
    exact ⟨a, l, c, L, rfl, hL, k1, k2⟩
  · obtain ⟨⟨L, hL⟩, k1, k2⟩ := rd_of_row (w := W) (a := a) (len := l) (cap := c) (zs := zs) (.inr hx)
    exact ⟨a, l, c, L, rfl, hL, k1, k2⟩
set_option maxRecDepth 100000 in
theorem open_q {H : Type} {enc : TypeId × Value → H} {W : World} {base b0 : Nat} {held : Bool} {r : Reach} {v : Value} {d : DataW H} {ps : List MemPlace}
    (hv : Value.okWide Tryz.prog W r b0 27 v) (h : DataW.Trod enc Tryz.prog W base (fun _ => true) held 27 v d ps) :
    ∃ (x : QV) (a e : List Nat), v = x.v ∧ (Rd W x.A x.n a ∧ Rd W x.D x.m e) ∧ (x.n ≤ x.c ∧ x.c ≤ 9223372036854775807) ∧ (x.m ≤ x.d ∧ x.d ≤ 9223372036854775807) := by
  obtain ⟨cs, rfl, hsz⟩ := okWide_struct Tryz.underlying27 hv
  obtain ⟨c0, c1, c2, rfl⟩ := Go.Joins.array3 (hsz.trans qcells)
  obtain ⟨fuel, hf⟩ := h
  obtain ⟨y0, y1, n, _, _, h0, h1⟩ := trod_struct2 Tryz.underlying27 hf
  obtain ⟨z0, z1, m, _, _, k0, k1⟩ := trod_struct2 Tryz.underlying25 h0
  simp [Value.cells, zcells, ncells, bcells] at h1 k0 k1
  obtain ⟨s, e0, _⟩ := DataW.trod_bool Tryz.underlying4 k0
  obtain ⟨a1, l1, p1, L1, rfl, r1, q1, u1⟩ := slice_rd k1
  obtain ⟨a2, l2, p2, L2, rfl, r2, q2, u2⟩ := slice_rd h1
  simp at e0
  subst e0
  exact ⟨⟨s, a1, l1, p1, a2, l2, p2⟩, L1, L2, rfl, ⟨r1, r2⟩, ⟨q1, u1⟩, q2, u2⟩
end Go.Proofs.YtbldimplddiheaaGreatDoor
