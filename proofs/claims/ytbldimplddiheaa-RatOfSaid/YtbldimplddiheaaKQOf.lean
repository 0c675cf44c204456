import Derived.Test.YtbldimplddiheaaKRowL
import Derived.Test.YtbldimplddiheaaKZ
import Derived.Lib.SmallJoins
import Derived.WalkKit
import Derived.ProofKit
import Derived.OpenShut
import Derived.Test.YtbldimplddiheaaKZU
import Derived.Test.YtbldimplddiheaaKTimes
import Derived.Test.YtbldimplddiheaaKSame
import Derived.Test.YtbldimplddiheaaKZP
import Derived.Test.YtbldimplddiheaaKDNames
import Derived.Test.YtbldimplddiheaaKBit
import Derived.Test.YtbldimplddiheaaKZR
import Derived.Test.YtbldimplddiheaaKDivSpec
import Derived.Test.YtbldimplddiheaaKPower
import Derived.Test.YtbldimplddiheaaKRefGcd3
import Derived.Test.YtbldimplddiheaaKDigits
import Derived.Test.YtbldimplddiheaaKNm
import Derived.Laws.IdiomStrings
import Derived.Test.YtbldimplddiheaaKGLow
import Derived.Test.YtbldimplddiheaaKRefText
import Derived.Test.YtbldimplddiheaaKGTexts
import Derived.Shelf.Pu.ParseUintPublic10
import Derived.Ground.MpProg
import Derived.Test.YtbldimplddiheaaProg
import Derived.Test.YtbldimplddiheaaKMSpec
import Derived.Test.YtbldimplddiheaaKRefParse
import Derived.Lib.OthersKept
import Derived.Lib.AtoiErrMem
import Derived.Test.YtbldimplddiheaaKZB
import Derived.Test.YtbldimplddiheaaKGCommon
import Derived.Test.YtbldimplddiheaaKCopy
/- ZFr ZW ZC ZK ZS ZM ZQ ZAl ZHeld ZD ZFloor ZY ZX QMath Q QRef QRef2 QRef3 QRef4 QRef7 QHeld Bytes GDig Pu GPar ZPre ZN ZV QRef8 QA QB QHeldL QC QD QE QOf. -/
/- A whole number that came in, opened. -/
namespace Go.Proofs.Ytbldimplddiheaa
open Go.RowKit Go.Shelf Go.ChangeShapes Go.WideShapes
set_option linter.unusedVariables false

theorem zcells : Try.prog.cellsOf 25 = 2 := by kernel_rfl
set_option maxRecDepth 100000 in
theorem open_z {H : Type} {enc : TypeId × Value → H} {W : World} {base b0 : Nat} {held : Bool} {r : Reach} {v : Value} {d : DataW H} {ps : List MemPlace}
    (hv : Value.okWide Try.prog W r b0 25 v) (h : DataW.Trod enc Try.prog W base (fun _ => true) held 25 v d ps) :
    ∃ s a len cap l, v = .agg #[.bool s, .slice a len cap] ∧ Rd W a len l ∧ len ≤ cap ∧ cap ≤ 9223372036854775807 := by
  obtain ⟨c0, c1, y0, y1, m, rfl, rfl, rfl, hy0, hy1⟩ := Go.Joins.open_agg2 Try.underlying25 (by kernel_rfl) zcells hv h
  obtain ⟨s, e0, _⟩ := DataW.trod_bool Try.underlying4 hy0
  obtain ⟨a, l, c, e1⟩ := Go.Joins.slice_form Try.underlying23 hy1
  simp at e0 e1
  subst e0 e1
  have hrow : (a = none ∧ l = 0 ∧ c = 0 ∧ ∃ zs : List Int, zs = []) ∨ ∃ zs : List Int, ∃ x, a = some x ∧ l ≤ c ∧ c ≤ maxLen ∧ zs.length = c ∧ (∀ i, i < zs.length → W.cell? (x.add i) = some (.int .u64 (zs.getD i 0))) ∧ ∀ n ∈ zs, (Lit.int .u64 n).wf = true := by
    rcases open_ints Try.underlying23 Try.underlying34 (by kernel_rfl) hy1 with ⟨hcs, _⟩ | ⟨x, l', c', zs, hcs, _, hl, hm, hz, _, hcell, hwz⟩
    · simp at hcs
      obtain ⟨rfl, rfl, rfl⟩ := hcs
      exact .inl ⟨rfl, rfl, rfl, [], rfl⟩
    · simp at hcs
      obtain ⟨rfl, rfl, rfl⟩ := hcs
      exact .inr ⟨zs, _, rfl, hl, hm, by simpa using hz, hcell, hwz⟩
  rcases hrow with ⟨h1, h2, h3, zs, h4⟩ | ⟨zs, hx⟩
  · obtain ⟨⟨L, hL⟩, k1, k2⟩ := rd_of_row (w := W) (a := a) (len := l) (cap := c) (zs := zs) (.inl ⟨h1, h2, h3, h4⟩)
    exact ⟨s, a, l, c, L, rfl, hL, k1, k2⟩
  · obtain ⟨⟨L, hL⟩, k1, k2⟩ := rd_of_row (w := W) (a := a) (len := l) (cap := c) (zs := zs) (.inr hx)
    exact ⟨s, a, l, c, L, rfl, hL, k1, k2⟩
end Go.Proofs.Ytbldimplddiheaa

/- The document's whole numbers: products. -/
namespace Go.Proofs.Ytbldimplddiheaa
open Go.RowKit Go.Shelf
set_option linter.unusedVariables false
set_option linter.unusedSimpArgs false

section
variable {A A2 : Option Addr} {na ca nb cb : Nat} {p q : Bool} {a b : List Nat} {w : World} {z y : Int}
end
end Go.Proofs.Ytbldimplddiheaa

/- The document's whole numbers: compared. -/
namespace Go.Proofs.Ytbldimplddiheaa
open Go.RowKit Go.Shelf
set_option linter.unusedVariables false
set_option linter.unusedSimpArgs false

section
variable {A A2 : Option Addr} {na ca nb cb : Nat} {p q : Bool} {a b : List Nat} {w : World} {z y : Int}
end
end Go.Proofs.Ytbldimplddiheaa

/- The document's whole numbers: what answers with ints. -/
namespace Go.Proofs.Ytbldimplddiheaa
open Go.RowKit Go.Shelf
set_option linter.unusedVariables false
set_option linter.unusedSimpArgs false

end Go.Proofs.Ytbldimplddiheaa

/- The document's whole numbers: the difference. -/
namespace Go.Proofs.Ytbldimplddiheaa
open Go.RowKit Go.Shelf
set_option linter.unusedVariables false
set_option linter.unusedSimpArgs false

section
variable {A A2 : Option Addr} {na ca nb cb : Nat} {p q : Bool} {a b : List Nat} {w : World} {z y : Int}
end
end Go.Proofs.Ytbldimplddiheaa

/- The document's whole numbers: the same. -/
namespace Go.Proofs.Ytbldimplddiheaa
open Go.RowKit Go.Shelf
set_option linter.unusedVariables false
set_option linter.unusedSimpArgs false

set_option maxRecDepth 100000 in
set_option maxHeartbeats 2000000 in
theorem rSameZ_any : SameZIs 7 := by
  intro A A2 na ca nb cb p q a b w h
  have T0 := two_box w p A na ca q A2 nb cb
  have HT := Lib.hid (same_any A A2 na ca nb cb a b _ (h.ra.below T0.b) (h.rb.below T0.b) (by have := h.la; omega) (by have := h.lb; omega))
  have HT0 := Lib.hid T0
  by_cases hpq : p = q
  · subst hpq
    rw [show decide (p = p ∧ a = b) = decide (a = b) by simp]
    clear h T0
    generalize decide (a = b) = d at HT ⊢
    unfold zv
    go_enter Try.func7, Try.ntmps7
    go_wp2_with fail
    refine HT.out.mono ?_
    rintro e w1 ⟨rfl, hb1⟩
    have B1 := below_then HT0.out.b hb1
    clear hb1
    go_wp2
    go_ret
    exact ⟨rfl, B1⟩
  · have hpf : (p = q) = False := by simpa using hpq
    rw [show decide (p = q ∧ a = b) = false by simp [hpq]]
    clear h T0 HT hpq
    unfold zv
    go_enter Try.func7, Try.ntmps7
    go_wp2
    go_ret
    exact ⟨by simp [hpf], HT0.out.b⟩
end Go.Proofs.Ytbldimplddiheaa

/- whole: which is less, ints, the same. -/
namespace Go.Proofs.Ytbldimplddiheaa
open Go.RowKit Go.Shelf
set_option linter.unusedVariables false
set_option linter.unusedSimpArgs false

theorem sgn_cmp (v u : Nat) : sgn ((v : Int) - u) = cmp3 v u := by unfold sgn cmp3; split <;> split <;> (try split) <;> (try split) <;> omega
theorem big_val {a : List Nat} (hw : Words a) (hm : may a = true) (hl : 1 < a.length) : B64 ≤ val a := by
  refine Nat.le_of_not_lt fun h => ?_
  have h1 := limbs_length_le (k := 1) (show val a < B64 ^ 1 by rw [Nat.pow_one]; exact h)
  rw [limbs_val hw hm] at h1
  omega
theorem val_one {a : List Nat} (hl : a.length ≤ 1) : val a = lim a 0 := by
  cases a with
  | nil => rfl
  | cons x r =>
    have : r = [] := List.eq_nil_of_length_eq_zero (by rw [List.length_cons] at hl; omega)
    subst this
    simp [val, lim]
theorem words_lim {a : List Nat} (hw : Words a) (i : Nat) : lim a i < B64 := by
  by_cases h : i < a.length
  · rw [lim_get h]
    exact hw _ (List.getElem_mem h)
  · rw [lim_past (by omega)]
    exact B64_pos
theorem zof_sgn (p : Bool) (a : List Nat) : zof p a = if p then -(val a : Int) else (val a : Int) := rfl
theorem zof_nil (p : Bool) : zof p [] = 0 := by cases p <;> rfl
section
variable {A A2 : Option Addr} {na ca nb cb v u : Nat} {p q : Bool} {a b : List Nat} {w : World} {z y : Int}
set_option maxRecDepth 100000 in
set_option maxHeartbeats 2000000 in
theorem checkZ_any (h : Z1 w A na ca a) : Calls Try.prog 9 #[zv p A na ca] w fun e w' => e = .returned (.int .i64 (oneE p a)) ∧ Below w.heap.size w w' := by
  have H1 := Lib.hid (mayOne_at1 (p := p) h)
  clear h
  generalize oneE p a = E at H1 ⊢
  unfold zv at *
  go_enter Try.func9, Try.ntmps9
  go_wp2_with fail
  refine H1.out.mono ?_
  rintro e w1 ⟨rfl, T1⟩
  go_wp2
  go_ret
  exact ⟨rfl, T1.b⟩
end
section
variable {A A2 : Option Addr} {na ca nb cb v u : Nat} {p q : Bool} {a b : List Nat} {w : World} {z y : Int}
end
end Go.Proofs.Ytbldimplddiheaa

/- The chapter's first examples. -/
namespace Go.Proofs.Ytbldimplddiheaa
open Go.RowKit Go.Shelf
set_option linter.unusedVariables false
set_option linter.unusedSimpArgs false

def GivesIs (F : Nat) (x y z : Int) : Prop := ∀ (A A2 : Option Addr) (na ca nb cb : Nat) (w : World), ZNm w A na ca x → ZNm w A2 nb cb y → na ≤ 400 → nb ≤ 400 →
  Calls Try.prog F #[zV x A na ca, zV y A2 nb cb] w (ZAns w z 0)
theorem small_len {W : World} {B : Nat} {A : Option Addr} {k c : Nat} {x : Int} (o : Own W B (.slice A k c) (limbs x.natAbs)) (h1 : -1000 ≤ x) (h2 : x ≤ 1000) : k ≤ 1 := o.nm.len (N := 1) (by rw [Nat.pow_one, B64_eq]; omega)
theorem int_small {z : Int} (z1 : -1000 ≤ z) (z2 : z ≤ 1000) : intE (decide (z < 0)) (limbs z.natAbs) = 0 ∧ intZ (decide (z < 0)) (limbs z.natAbs) = z := by
  have e : intE (decide (z < 0)) (limbs z.natAbs) = 0 := by unfold intE; rw [if_pos (mayZ_num z), zof_num, if_pos (by omega)]
  refine ⟨e, ?_⟩
  unfold intZ
  rw [e, if_pos rfl, zof_num]
end Go.Proofs.Ytbldimplddiheaa

/- What a law holds: its whole numbers, each in a block of its own. -/
namespace Go.Proofs.Ytbldimplddiheaa
open Go.RowKit Go.Shelf
set_option linter.unusedVariables false
set_option linter.unusedSimpArgs false

/-- A number in a block. -/
structure It where
  g : Nat
  z : Int
  A : Option Addr
  n : Nat
  c : Nat
structure It.ok (W : World) (i : It) : Prop where
  b : BoxZ W i.g (decide (i.z < 0)) i.A i.n i.c
  m : ZNm W i.A i.n i.c i.z
  l : i.n ≤ 400
def Held (W : World) (L : List It) : Prop := ∀ i, i ∈ L → It.ok W i
theorem It.ok.below {W W' : World} {i : It} (h : It.ok W i) (hb : Below W.heap.size W W') : It.ok W' i := ⟨h.b.below hb (Array.getElem?_eq_some_iff.1 h.b).1, h.m.below hb, h.l⟩
theorem Held.next {W W' : World} {L : List It} (h : Held W L) (hb : Below W.heap.size W W') : Held W' L := fun i hi => (h i hi).below hb
theorem Held.cons {W : World} {L : List It} {i : It} (h : Held W L) (hi : It.ok W i) : Held W (i :: L) := fun j hj => by
  rcases List.mem_cons.1 hj with rfl | hj
  · exact hi
  · exact h j hj
theorem held_nil (W : World) : Held W [] := fun i hi => by cases hi
/-- A number that a call has answered, laid in a block. -/
theorem It.fresh {W : World} {B : Nat} {z : Int} {A : Option Addr} {n c : Nat} (o : Own W B (.slice A n c) (limbs z.natAbs)) (hl : n ≤ 400) : It.ok (W.alloc (zo (decide (z < 0)) A n c)) ⟨W.heap.size, z, A, n, c⟩ :=
  ⟨World.alloc_heap_new _ _, o.nm.below (bxb _ _), hl⟩
theorem It.param {w : World} {z : Int} {A : Option Addr} {n c : Nat} (h : ZNm w A n c z) (hl : n ≤ 400) : It.ok (w.alloc (zo (decide (z < 0)) A n c)) ⟨w.heap.size, z, A, n, c⟩ :=
  ⟨World.alloc_heap_new _ _, h.below (bxb _ _), hl⟩
/-- How long a number may be. -/
def Bd (k : Nat) (z : Int) : Prop := z.natAbs < B64 ^ k
theorem Bd.len {W : World} {B k : Nat} {z : Int} {A : Option Addr} {n c : Nat} (h : Bd k z) (o : Own W B (.slice A n c) (limbs z.natAbs)) : n ≤ k := o.nm.len h
theorem Bd.mono {k m : Nat} {z : Int} (h : Bd k z) (hkm : k ≤ m) : Bd m z := Nat.lt_of_lt_of_le h (Nat.pow_le_pow_right B64_pos hkm)
theorem Bd.add {k : Nat} {z y : Int} (h1 : Bd k z) (h2 : Bd k y) : Bd (k + 1) (z + y) := by
  unfold Bd at *
  rw [Nat.pow_succ]
  have := B64_gt
  have h3 : B64 ^ k * 2 ≤ B64 ^ k * B64 := Nat.mul_le_mul_left _ (by omega)
  omega
theorem Bd.neg {k : Nat} {z : Int} (h : Bd k z) : Bd k (-z) := by unfold Bd at *; rw [Int.natAbs_neg]; exact h
theorem Bd.sub {k : Nat} {z y : Int} (h1 : Bd k z) (h2 : Bd k y) : Bd (k + 1) (z - y) := by rw [Int.sub_eq_add_neg]; exact h1.add h2.neg
theorem Bd.mul {k m : Nat} {z y : Int} (h1 : Bd k z) (h2 : Bd m y) : Bd (k + m) (z * y) := by
  unfold Bd at *
  rw [Int.natAbs_mul, Nat.pow_add]
  exact Nat.mul_lt_mul_of_lt_of_le h1 (Nat.le_of_lt h2) (Nat.pos_of_ne_zero (by intro e; omega))
theorem Bd.of {w : World} {A : Option Addr} {n c k : Nat} {z : Int} (h : ZNm w A n c z) (hk : n ≤ k) : Bd k z := Nat.lt_of_lt_of_le h.lt (Nat.pow_le_pow_right B64_pos hk)

section
variable {A A2 : Option Addr} {na ca nb cb : Nat} {w : World} {z y : Int}
theorem z2_num (h1 : ZNm w A na ca z) (h2 : ZNm w A2 nb cb y) (l1 : na ≤ 400) (l2 : nb ≤ 400) : Z2 w A A2 na ca nb cb (limbs z.natAbs) (limbs y.natAbs) := ⟨h1.rd, h2.rd, l1, l2, h1.nc, h1.cm, h2.nc, h2.cm⟩
theorem checkN (h1 : ZNm w A na ca z) (l1 : na ≤ 400) : Calls Try.prog 9 #[.agg #[.bool (decide (z < 0)), .slice A na ca]] w fun e w' => e = .returned (.int .i64 0) ∧ Below w.heap.size w w' := by
  have h := checkZ_any (p := decide (z < 0)) (w := w) ⟨h1.rd, l1, h1.nc, h1.cm⟩
  rw [oneE_ok (mayZ_num _)] at h
  exact h
theorem sameN (h1 : ZNm w A na ca z) (h2 : ZNm w A2 nb cb y) (l1 : na ≤ 400) (l2 : nb ≤ 400) : Calls Try.prog 7 #[.agg #[.bool (decide (z < 0)), .slice A na ca], .agg #[.bool (decide (y < 0)), .slice A2 nb cb]] w fun e w' => e = .returned (.bool (decide (z = y))) ∧ Below w.heap.size w w' := by
  have h := rSameZ_any A A2 na ca nb cb (decide (z < 0)) (decide (y < 0)) (limbs z.natAbs) (limbs y.natAbs) w (z2_num h1 h2 l1 l2)
  have e : decide (decide (z < 0) = decide (y < 0) ∧ limbs z.natAbs = limbs y.natAbs) = decide (z = y) := by
    rw [decide_eq_decide]
    constructor
    · rintro ⟨e1, e2⟩
      have e3 := limbs_inj e2
      rw [decide_eq_decide] at e1
      omega
    · rintro rfl
      exact ⟨rfl, rfl⟩
  rw [e] at h
  exact h
theorem sameT (h1 : ZNm w A na ca z) (h2 : ZNm w A2 nb cb y) (l1 : na ≤ 400) (l2 : nb ≤ 400) (e : z = y) : Calls Try.prog 7 #[.agg #[.bool (decide (z < 0)), .slice A na ca], .agg #[.bool (decide (y < 0)), .slice A2 nb cb]] w fun e w' => e = .returned (.bool true) ∧ Below w.heap.size w w' := by
  have h := sameN h1 h2 l1 l2
  rwa [decide_eq_true e] at h
theorem sameT0 (h1 : ZNm w A na ca z) (l1 : na ≤ 400) (e : z = 0) : Calls Try.prog 7 #[.agg #[.bool (decide (z < 0)), .slice A na ca], .agg #[.bool false, .slice none 0 0]] w fun e w' => e = .returned (.bool true) ∧ Below w.heap.size w w' := by
  have h := sameT h1 (zero_znm w) l1 (Nat.zero_le _) e
  rwa [show decide ((0 : Int) < 0) = false from decide_eq_false (by omega)] at h
theorem quoE_num {b : Int} (h0 : b ≠ 0) : quoE (decide (z < 0)) (limbs z.natAbs) (decide (b < 0)) (limbs b.natAbs) = 0 := by
  unfold quoE
  rw [if_pos (twoM_num _ _), if_neg (fun e => by have := limbs_eq_nil.1 e; omega)]
theorem exactN (h1 : ZNm w A na ca z) (h2 : ZNm w A2 nb cb y) (l1 : na ≤ 400) (l2 : nb ≤ 400) (h0 : y ≠ 0) : Calls Try.prog 17 #[.agg #[.bool (decide (z < 0)), .slice A na ca], .agg #[.bool (decide (y < 0)), .slice A2 nb cb]] w (ZAns w (if y ∣ z then Int.fdiv z y else 0) (if y ∣ z then 0 else 6)) := by
  have h := exactZ_any (p := decide (z < 0)) (q := decide (y < 0)) (z2_num h1 h2 l1 l2)
  unfold exZ exE at h
  rw [quoE_num h0, if_pos rfl, zof_num, zof_num] at h
  by_cases hd : y ∣ z
  · rw [if_pos hd] at h
    rw [if_pos hd, if_pos hd]
    exact h
  · rw [if_neg hd] at h
    rw [if_neg hd, if_neg hd]
    exact h
theorem Bd.fdiv {k : Nat} {z y : Int} (h : Bd k z) (h0 : y ≠ 0) : Bd (k + 1) (Int.fdiv z y) := by
  unfold Bd at *
  rw [(fdiv_quot h0).1, Nat.pow_succ]
  have h1 := Nat.div_le_self z.natAbs y.natAbs
  have := B64_gt
  have h3 : B64 ^ k * 2 ≤ B64 ^ k * B64 := Nat.mul_le_mul_left _ (by omega)
  split <;> omega
theorem Bd.cdiv {k : Nat} {z y : Int} (h : Bd k z) (h0 : y ≠ 0) : Bd (k + 1) (Go.Proofs.Ytbldimplddiheaa.cdiv z y) := by
  unfold Go.Proofs.Ytbldimplddiheaa.cdiv
  exact (Bd.fdiv h.neg h0).neg
end
end Go.Proofs.Ytbldimplddiheaa

/- The document's whole numbers: the quotient, rounded down. -/
namespace Go.Proofs.Ytbldimplddiheaa
open Go.RowKit Go.Shelf
set_option linter.unusedVariables false
set_option linter.unusedSimpArgs false

section
variable {A A2 : Option Addr} {na ca nb cb : Nat} {p q : Bool} {a b : List Nat} {w : World} {z y : Int}
end
end Go.Proofs.Ytbldimplddiheaa

/- The document's whole numbers: quotients, rounded down. -/
namespace Go.Proofs.Ytbldimplddiheaa
open Go.RowKit Go.Shelf
set_option linter.unusedVariables false
set_option linter.unusedSimpArgs false

end Go.Proofs.Ytbldimplddiheaa

/- The document's whole numbers: quotients, rounded up, and exact. -/
namespace Go.Proofs.Ytbldimplddiheaa
open Go.RowKit Go.Shelf
set_option linter.unusedVariables false
set_option linter.unusedSimpArgs false

end Go.Proofs.Ytbldimplddiheaa

/- The document's whole numbers: as texts. -/
namespace Go.Proofs.Ytbldimplddiheaa
open Go.RowKit Go.Shelf
set_option linter.unusedVariables false
set_option linter.unusedSimpArgs false

theorem textS_size (a : List Nat) : (textS a).size ≤ 4096 := by
  unfold textS
  split
  · rename_i h
    unfold textE at h
    split at h
    · split at h
      · rename_i h2
        rw [textB_size]
        exact h2
      · cases h
    · cases h
  · exact Nat.zero_le _
end Go.Proofs.Ytbldimplddiheaa

/- Fractions: what their numbers are. -/
namespace Go.Proofs.Ytbldimplddiheaa
open Go.RowKit Go.Shelf
set_option linter.unusedVariables false
set_option linter.unusedSimpArgs false

theorem pos_mul_neg {g k : Int} (hg : 0 < g) : g * k < 0 ↔ k < 0 := by
  constructor
  · intro h
    refine Int.not_le.1 fun h2 => ?_
    have := Int.mul_nonneg (Int.le_of_lt hg) h2
    omega
  · intro h
    exact Int.mul_neg_of_pos_of_neg hg h
theorem mk_parts (z : Int) {u : Nat} (hu : u ≠ 0) : (mkRat z u).num.natAbs = z.natAbs / Nat.gcd z.natAbs u ∧ decide ((mkRat z u).num < 0) = decide (z < 0) ∧ (mkRat z u).den = u / Nat.gcd z.natAbs u := by
  rw [Rat.num_mkRat, Rat.den_mkRat, if_neg hu, if_neg hu, Nat.gcd_comm u]
  have hg : Nat.gcd z.natAbs u ≠ 0 := fun e => hu (Nat.gcd_eq_zero_iff.1 e).2
  have hd : ((Nat.gcd z.natAbs u : Nat) : Int) ∣ z := Int.natAbs_dvd_natAbs.1 (by rw [Int.natAbs_natCast]; exact Nat.gcd_dvd_left _ _)
  generalize Nat.gcd z.natAbs u = g at hg hd
  obtain ⟨k, hk⟩ := hd
  have hg2 : (g : Int) ≠ 0 := by omega
  have e1 : z / (g : Int) = k := by rw [hk]; exact Int.mul_ediv_cancel_left k hg2
  rw [e1]
  refine ⟨?_, ?_, rfl⟩
  · rw [hk, Int.natAbs_mul, Int.natAbs_natCast, Nat.mul_div_cancel_left _ (Nat.pos_of_ne_zero hg)]
  · rw [decide_eq_decide, hk]
    exact (pos_mul_neg (by omega)).symm
theorem den_ne (x : Rat) : x.den ≠ 0 := x.den_nz
theorem sum_rat (x y : Rat) : mkRat (x.num * y.den + y.num * x.den) (x.den * y.den) = x + y := by
  rw [Rat.add_def, Rat.normalize_eq_mkRat]
theorem dif_rat (x y : Rat) : mkRat (x.num * y.den - y.num * x.den) (x.den * y.den) = x - y := by
  rw [Rat.sub_def, Rat.normalize_eq_mkRat]
theorem mul_rat (x y : Rat) : mkRat (x.num * y.num) (x.den * y.den) = x * y := by
  rw [Rat.mul_def, Rat.normalize_eq_mkRat]
/-- The fraction of two whole numbers, the second one not 0. -/
theorem of_rat (n m : Int) (hm : m ≠ 0) : mkRat (if m < 0 then -n else n) m.natAbs = Rat.divInt n m := by
  by_cases h : m < 0
  · rw [if_pos h]
    have e : m = ((m.natAbs : Nat) : Int) * -1 := by omega
    have e2 : n = (-n) * -1 := by omega
    conv => rhs; rw [e, e2]
    rw [Rat.divInt_mul_right (by omega), Rat.divInt_ofNat]
  · rw [if_neg h]
    have e : m = ((m.natAbs : Nat) : Int) := by omega
    conv => rhs; rw [e]
    rw [Rat.divInt_ofNat]
theorem self_rat (x : Rat) : Rat.divInt x.num x.den = x := by rw [Rat.divInt_ofNat, Rat.mkRat_self]
theorem div_rat (x y : Rat) : Rat.divInt (x.num * y.den) (x.den * y.num) = x / y := by
  rw [Rat.div_def, Rat.inv_def, ← Rat.divInt_mul_divInt, self_rat]
theorem num_ne {y : Rat} (h : y ≠ 0) : y.num ≠ 0 := fun e => h (Rat.num_eq_zero.1 e)
theorem div_rat2 (x y : Rat) (hy : y ≠ 0) : mkRat (if y.num < 0 then -(x.num * y.den) else x.num * y.den) (x.den * y.num.natAbs) = x / y := by
  have h0 : (x.den : Int) * y.num ≠ 0 := Int.mul_ne_zero (by have := x.den_nz; omega) (num_ne hy)
  have h1 := of_rat (x.num * y.den) (x.den * y.num) h0
  have h2 : ((x.den : Int) * y.num < 0) = (y.num < 0) := by
    rw [eq_iff_iff]
    exact pos_mul_neg (by have := x.den_nz; omega)
  rw [← div_rat, ← h1]
  simp only [h2, Int.natAbs_mul, Int.natAbs_natCast]
theorem sgn_rat (x y : Rat) : sgn (x.num * y.den - y.num * x.den) = sgn (x - y).num := by
  rw [← dif_rat]
  have h := mk_parts (x.num * y.den - y.num * x.den) (u := x.den * y.den) (Nat.mul_ne_zero x.den_nz y.den_nz)
  have hz : (mkRat (x.num * y.den - y.num * x.den) (x.den * y.den)).num = 0 ↔ x.num * y.den - y.num * x.den = 0 := by
    rw [Rat.num_eq_zero, Rat.mkRat_eq_zero (Nat.mul_ne_zero x.den_nz y.den_nz)]
  have h2 := decide_eq_decide.1 h.2.1
  unfold sgn
  split
  · rw [if_pos (h2.2 (by assumption))]
  · rename_i hn
    rw [if_neg (fun e => hn (h2.1 e))]
    split
    · rw [if_pos (by omega)]
    · rw [if_neg (by omega)]
theorem floor_rat (x : Rat) : Int.fdiv x.num x.den = x.floor := by
  rw [Rat.floor_def, Int.fdiv_eq_ediv_of_nonneg _ (by omega)]
theorem ceil_rat (x : Rat) : cdiv x.num x.den = x.ceil := by
  unfold cdiv
  rw [← Rat.neg_num, ← Rat.neg_den, floor_rat]
  rw [Rat.ceil_eq_neg_floor_neg]
end Go.Proofs.Ytbldimplddiheaa

/- Fractions: what may be, values, blocks, what calls of layer 6 are. -/
namespace Go.Proofs.Ytbldimplddiheaa
open Go.RowKit Go.Shelf
set_option linter.unusedVariables false
set_option linter.unusedSimpArgs false

abbrev qT : TypeId := 27
/-- What a fraction's value holds: its number's sign and slice, and its second number's slice. -/
structure QV where
  p : Bool
  A : Option Addr
  n : Nat
  c : Nat
  D : Option Addr
  m : Nat
  d : Nat
/-- The value. -/
def QV.v (x : QV) : Value := .agg #[.bool x.p, .slice x.A x.n x.c, .slice x.D x.m x.d]
def QV.o (x : QV) : Obj := .cells #[.bool x.p, .slice x.A x.n x.c, .slice x.D x.m x.d] qT
def QV.zero : QV := ⟨false, none, 0, 0, none, 0, 0⟩
abbrev qz : Obj := .cells #[.bool false, .slice none 0 0, .slice none 0 0] qT
/-- A block that holds a fraction. -/
def BoxQ (w : World) (g : Nat) (x : QV) : Prop := w.heap[g]? = some x.o
section
variable {w w' : World} {g B : Nat} {x : QV}
theorem BoxQ.below (h : BoxQ w g x) (hb : Below B w w') (hg : g < B) : BoxQ w' g x := (hb.block g hg).trans h
theorem BoxQ.lt (h : BoxQ w g x) : g < w.heap.size := (Array.getElem?_eq_some_iff.1 h).1
theorem BoxQ.next (h : BoxQ w g x) (hb : Below w.heap.size w w') : BoxQ w' g x := h.below hb h.lt
theorem BoxQ.c0 (h : BoxQ w g x) : w.cell? ⟨g, 0, none⟩ = some (.bool x.p) := cells_cell h rfl
theorem BoxQ.c1 (h : BoxQ w g x) : w.cell? ⟨g, 1, none⟩ = some (.slice x.A x.n x.c) := cells_cell h rfl
theorem BoxQ.c2 (h : BoxQ w g x) : w.cell? ⟨g, 2, none⟩ = some (.slice x.D x.m x.d) := cells_cell h rfl
theorem BoxQ.f (h : BoxQ w g x) (j : Nat) : w.frozen? ⟨g, j, none⟩ = false := cells_frozen h
end
def mayQ (p : Bool) (a d : List Nat) : Bool := mayZ p a && may d && !d.isEmpty && decide (Nat.gcd (val a) (val d) = 1)
/-- The fraction of two lists. -/
def qof (p : Bool) (a d : List Nat) : Rat := mkRat (zof p a) (val d)
theorem mayQ_iff {p : Bool} {a d : List Nat} : mayQ p a d = true ↔ mayZ p a = true ∧ may d = true ∧ d ≠ [] ∧ Nat.gcd (val a) (val d) = 1 := by
  unfold mayQ
  simp [and_assoc]
theorem qof_parts {p : Bool} {a d : List Nat} (h : mayQ p a d = true) : (qof p a d).num = zof p a ∧ (qof p a d).den = val d := by
  obtain ⟨h1, h2, h3, h4⟩ := mayQ_iff.1 h
  have hd : val d ≠ 0 := by have := val_pos h2 h3; omega
  have hm := mk_parts (zof p a) hd
  rw [zof_abs, h4, Nat.div_one, Nat.div_one] at hm
  unfold qof
  refine ⟨?_, hm.2.2⟩
  have h5 := decide_eq_decide.1 hm.2.1
  have h6 := zof_abs p a
  omega
/-- The value's slices are the fraction x. -/
structure QNm (w : World) (v : QV) (x : Rat) : Prop where
  s : v.p = decide (x.num < 0)
  a : ZNm w v.A v.n v.c x.num
  d : Nm w v.D v.m v.d x.den
theorem QNm.below {w w' : World} {v : QV} {x : Rat} (h : QNm w v x) (hb : Below w.heap.size w w') : QNm w' v x := ⟨h.s, h.a.below hb, h.d.below hb⟩
theorem QNm.pos {w : World} {v : QV} {x : Rat} (h : QNm w v x) : 0 < v.m := Nat.pos_of_ne_zero fun e => x.den_nz (h.d.zero.1 e)
/-- .. and they are the call's own. -/
structure QOwn (w : World) (B : Nat) (v : QV) (x : Rat) : Prop where
  s : v.p = decide (x.num < 0)
  a : Own w B (.slice v.A v.n v.c) (limbs x.num.natAbs)
  d : Own w B (.slice v.D v.m v.d) (limbs x.den)
theorem QOwn.below {w w' : World} {B : Nat} {v : QV} {x : Rat} (h : QOwn w B v x) (hb : Below w.heap.size w w') : QOwn w' B v x := ⟨h.s, h.a.below hb, h.d.below hb⟩
theorem QOwn.mono {w : World} {B C : Nat} {v : QV} {x : Rat} (h : QOwn w B v x) (hc : C ≤ B) : QOwn w C v x := ⟨h.s, own_mono h.a hc, own_mono h.d hc⟩
theorem QOwn.nm {w : World} {B : Nat} {v : QV} {x : Rat} (h : QOwn w B v x) : QNm w v x := ⟨h.s, h.a.nm, h.d.nm⟩
/-- What a call of one fraction is handed. -/
structure Q1 (w : World) (v : QV) (a d : List Nat) : Prop where
  ra : Rd w v.A v.n a
  rd : Rd w v.D v.m d
  la : v.n ≤ 60
  ld : v.m ≤ 60
  ca1 : v.n ≤ v.c
  ca2 : v.c ≤ 9223372036854775807
  cd1 : v.m ≤ v.d
  cd2 : v.d ≤ 9223372036854775807
theorem Q1.below {w w' : World} {v : QV} {a d : List Nat} (h : Q1 w v a d) (hb : Below w.heap.size w w') : Q1 w' v a d := ⟨h.ra.below hb, h.rd.below hb, h.la, h.ld, h.ca1, h.ca2, h.cd1, h.cd2⟩
theorem Q1.z {w : World} {v : QV} {a d : List Nat} (h : Q1 w v a d) : Z1 w v.A v.n v.c a := ⟨h.ra, by have := h.la; omega, h.ca1, h.ca2⟩
theorem Q1.num {w : World} {v : QV} {a d : List Nat} (h : Q1 w v a d) (hm : mayQ v.p a d = true) : QNm w v (qof v.p a d) := by
  obtain ⟨h1, h2, h3, h4⟩ := mayQ_iff.1 hm
  obtain ⟨e1, e2⟩ := qof_parts hm
  have hz := znm_of h.ra h1 h.ca1 h.ca2
  refine ⟨?_, ?_, ?_⟩
  · rw [e1, zof_neg h1]
  · rw [e1]; exact hz.1
  · rw [e2]; exact nm_of h.rd h2 h.cd1 h.cd2
/-- A call answered the fraction x alone, in new memory. -/
def QOne (w : World) (x : Rat) (e : Ending) (w' : World) : Prop := ∃ v : QV, e = .returned v.v ∧ QOwn w' w.heap.size v x ∧ Below w.heap.size w w'
/-- A call answered a fraction and an error: x and 0, or none and E. -/
def QAns (w : World) (ok : Bool) (x : Rat) (E : Int) (e : Ending) (w' : World) : Prop :=
  if ok then (∃ v : QV, e = .returned (.tuple #[v.v, .int .i64 0]) ∧ QOwn w' w.heap.size v x ∧ Below w.heap.size w w')
  else e = .returned (.tuple #[.agg #[.bool false, .slice none 0 0, .slice none 0 0], .int .i64 E]) ∧ Below w.heap.size w w'
/-- The worlds behind one block, two, three. -/
structure UnoQ (w W : World) (x : QV) : Prop where
  b : Below w.heap.size w W
  x : BoxQ W w.heap.size x
theorem UnoQ.next {w W W' : World} {x : QV} (h : UnoQ w W x) (hb : Below W.heap.size W W') : UnoQ w W' x := ⟨below_then h.b hb, h.x.next hb⟩
theorem uno_q (w : World) (x : QV) : UnoQ w (w.alloc x.o) x := ⟨bxb _ _, World.alloc_heap_new _ _⟩
structure DuoQ (w W : World) (x y : QV) : Prop where
  b : Below w.heap.size w W
  x : BoxQ W w.heap.size x
  y : BoxQ W (w.heap.size + 1) y
theorem DuoQ.next {w W W' : World} {x y : QV} (h : DuoQ w W x y) (hb : Below W.heap.size W W') : DuoQ w W' x y := ⟨below_then h.b hb, h.x.next hb, h.y.next hb⟩
theorem duo_q (w : World) (x y : QV) : DuoQ w ((w.alloc x.o).alloc y.o) x y := by
  have h := (uno_q w x).next (bxb _ y.o)
  have h2 := World.alloc_heap_new (w.alloc x.o) y.o
  rw [World.size_alloc] at h2
  exact ⟨h.b, h.x, h2⟩
structure TriQ (w W : World) (x y z : QV) : Prop where
  b : Below w.heap.size w W
  x : BoxQ W w.heap.size x
  y : BoxQ W (w.heap.size + 1) y
  r : BoxQ W (w.heap.size + 1 + 1) z
theorem TriQ.next {w W W' : World} {x y z : QV} (h : TriQ w W x y z) (hb : Below W.heap.size W W') : TriQ w W' x y z := ⟨below_then h.b hb, h.x.next hb, h.y.next hb, h.r.next hb⟩
theorem tri_q (w : World) (x y z : QV) : TriQ w (((w.alloc x.o).alloc y.o).alloc z.o) x y z := by
  have h := (duo_q w x y).next (bxb _ z.o)
  have h2 := World.alloc_heap_new ((w.alloc x.o).alloc y.o) z.o
  rw [World.size_alloc, World.size_alloc] at h2
  exact ⟨h.b, h.x, h.y, h2⟩
theorem own_box3 {w1 w4 : World} {B g : Nat} {v : Value} {l : List Nat} (h1 : g < w1.heap.size) (hg : B ≤ g) (o : Own w4 w1.heap.size v l) (u1 u2 u3 : Value) : Own (((w4.setCell ⟨g, 0, none⟩ u1).setCell ⟨g, 1, none⟩ u2).setCell ⟨g, 2, none⟩ u3) B v l :=
  own_mono (own_far (own_far (own_far (own_mono o (show g + 1 ≤ _ from h1)) (p := ⟨g, 0, none⟩) (Nat.lt_succ_self _) _) (p := ⟨g, 1, none⟩) (Nat.lt_succ_self _) _) (p := ⟨g, 2, none⟩) (Nat.lt_succ_self _) _) (by omega)
theorem QOwn.box3 {w1 w4 : World} {B g : Nat} {v : QV} {x : Rat} (o : QOwn w4 w1.heap.size v x) (h1 : g < w1.heap.size) (hg : B ≤ g) (u1 u2 u3 : Value) : QOwn (((w4.setCell ⟨g, 0, none⟩ u1).setCell ⟨g, 1, none⟩ u2).setCell ⟨g, 2, none⟩ u3) B v x :=
  ⟨o.s, own_box3 h1 hg o.a _ _ _, own_box3 h1 hg o.d _ _ _⟩
theorem box_below3 {w w4 : World} {B g : Nat} (hg : B ≤ g) (h : Below B w w4) (u1 u2 u3 : Value) : Below B w (((w4.setCell ⟨g, 0, none⟩ u1).setCell ⟨g, 1, none⟩ u2).setCell ⟨g, 2, none⟩ u3) := (box_below hg h u1 u2).setCell (p := ⟨g, 2, none⟩) hg _
end Go.Proofs.Ytbldimplddiheaa

/- The document's fractions: facetroomref06's calls. -/
namespace Go.Proofs.Ytbldimplddiheaa
open Go.RowKit Go.Shelf
set_option linter.unusedVariables false
set_option linter.unusedSimpArgs false

/-- The world behind a whole number's block and a fraction's. -/
structure MixQ (w W : World) (p : Bool) (A : Option Addr) (na ca : Nat) (y : QV) : Prop where
  b : Below w.heap.size w W
  x : BoxZ W w.heap.size p A na ca
  r : BoxQ W (w.heap.size + 1) y
theorem MixQ.next {w W W' : World} {p : Bool} {A : Option Addr} {na ca : Nat} {y : QV} (h : MixQ w W p A na ca y) (hb : Below W.heap.size W W') : MixQ w W' p A na ca y := ⟨below_then h.b hb, h.x.below hb (Array.getElem?_eq_some_iff.1 h.x).1, h.r.next hb⟩
theorem mix_q (w : World) (p : Bool) (A : Option Addr) (na ca : Nat) (y : QV) : MixQ w ((w.alloc (zo p A na ca)).alloc y.o) p A na ca y := by
  have h := (uno_box w p A na ca).next (bxb _ y.o)
  have h2 := World.alloc_heap_new (w.alloc (zo p A na ca)) y.o
  rw [World.size_alloc] at h2
  exact ⟨h.b, h.x, h2⟩
section
variable {A D : Option Addr} {na ca nd cd u : Nat} {a d a2 d2 : List Nat} {w : World} {z : Int} {x y : Rat} {v v2 : QV}
set_option maxRecDepth 100000 in
set_option maxHeartbeats 4000000 in
theorem rLow_any (ha : ZNm w A na ca z) (hd : Nm w D nd cd u) (hu : u ≠ 0) (l1 : na ≤ 400) (l2 : nd ≤ 400) : Calls Try.prog 12 #[zV z A na ca, .slice D nd cd] w (QOne w (mkRat z u)) := by
  have hm := mk_parts z hu
  have hg : Nat.gcd z.natAbs u ≠ 0 := fun e => hu (Nat.gcd_eq_zero_iff.1 e).2
  have hge : limbs (Nat.gcd z.natAbs u) ≠ [] := fun e => hg (limbs_eq_nil.1 e)
  have T0 := mix_q w (decide (z < 0)) A na ca QV.zero
  have HC := Lib.hid (fun W (hW : Below w.heap.size w W) => common_any (A := A) (A2 := D) (na := na) (ca := ca) (nb := nd) (cb := cd) (v := z.natAbs) (u := u) (w := W) (ha.below hW) (hd.below hW) (by omega) (by omega))
  have LG : Hid ((limbs (Nat.gcd z.natAbs u)).length ≤ 400) := by
    show _ ≤ _
    refine Nat.le_trans (limbs_length_le (k := nd) (Nat.lt_of_le_of_lt (Nat.le_of_dvd (Nat.pos_of_ne_zero hu) (Nat.gcd_dvd_right _ _)) hd.lt)) l2
  have H1 := Lib.hid (fun W (G : Option Addr) (kg cg : Nat) (hW : Below w.heap.size w W) (h : Nm W G kg cg (Nat.gcd z.natAbs u)) (hk : kg ≤ 400) => over_any A G na ca kg cg _ _ W (ha.below hW).rd h.rd (by omega) (by omega) (may_limbs _) hge)
  have H2 := Lib.hid (fun W (G : Option Addr) (kg cg : Nat) (hW : Below w.heap.size w W) (h : Nm W G kg cg (Nat.gcd z.natAbs u)) (hk : kg ≤ 400) => over_any D G nd cd kg cg _ _ W (hd.below hW).rd h.rd (by omega) (by omega) (may_limbs _) hge)
  rw [val_limbs, val_limbs] at H1 H2
  have HM := Lib.hid hm
  clear hm hg hge ha hd hu l1 l2
  generalize Nat.gcd z.natAbs u = g at HC LG H1 H2 HM
  unfold zV zv QOne
  go_enter Try.func12, Try.ntmps12
  go_wp2_with fail
  refine (HC.out _ T0.b).mono ?_
  rintro e w1 ⟨G, kg, cg, rfl, og, hb⟩
  have T1 := T0.next hb
  have hkg : kg ≤ 400 := by have := og.rd.2.1; have := LG.out; omega
  clear hb
  have xa0 := T1.x.c0
  have xa1 := T1.x.c1
  have r0 := T1.r.c0
  have r1 := T1.r.c1
  have r2 := T1.r.c2
  have f0 := T1.r.f 0
  have f1 := T1.r.f 1
  have f2 := T1.r.f 2
  go_wp2_with fail
  refine (H1.out _ G kg cg T1.b og.nm hkg).mono ?_
  rintro e w2 ⟨A3, k3, c3, A4, k4, c4, rfl, o3, o4, hb⟩
  have T2 := T1.next hb
  have og2 := og.below hb
  clear hb og o4
  clear xa0 xa1 r0 r1 r2 f0 f1 f2
  have xa0 := T2.x.c0
  have xa1 := T2.x.c1
  have r0 := T2.r.c0
  have r1 := T2.r.c1
  have r2 := T2.r.c2
  have f0 := T2.r.f 0
  have f1 := T2.r.f 1
  have f2 := T2.r.f 2
  go_wp2_with fail
  refine (H2.out _ G kg cg T2.b og2.nm hkg).mono ?_
  rintro e w3 ⟨A5, k5, c5, A6, k6, c6, rfl, o5, o6, hb⟩
  have T3 := T2.next hb
  have o3 := o3.below hb
  have hs := T1.r.lt
  have hs2 := T2.r.lt
  clear hb og2 o6 hkg
  clear xa0 xa1 r0 r1 r2 f0 f1 f2
  have xa0 := T3.x.c0
  have xa1 := T3.x.c1
  have r0 := T3.r.c0
  have r1 := T3.r.c1
  have r2 := T3.r.c2
  have f0 := T3.r.f 0
  have f1 := T3.r.f 1
  have f2 := T3.r.f 2
  have Q := Lib.hid (And.intro hs hs2)
  clear hs hs2
  go_wp2
  refine bodyPost_ret (v := (QV.mk (decide (z < 0)) A3 k3 c3 A5 k5 c5).v) (by simp [results, Try.results12, go_sem, r0, r1, r2, QV.v]) rfl ?_
  refine ⟨_, rfl, ⟨HM.out.2.1.symm, ?_, ?_⟩, box_below3 (show w.heap.size ≤ w.heap.size + 1 by omega) T3.b _ _ _⟩
  · rw [HM.out.1]; exact own_box3 Q.out.1 (show w.heap.size ≤ w.heap.size + 1 by omega) o3 _ _ _
  · rw [HM.out.2.2]; exact own_box3 Q.out.2 (show w.heap.size ≤ w.heap.size + 1 by omega) o5 _ _ _
end
end Go.Proofs.Ytbldimplddiheaa

/- The document's fractions: what answers with an error. -/
namespace Go.Proofs.Ytbldimplddiheaa
open Go.RowKit Go.Shelf
set_option linter.unusedVariables false
set_option linter.unusedSimpArgs false

/-- A call answered a fraction the other way round: its number new, its second number as it was. -/
def QTurn (w : World) (v : QV) (x : Rat) (e : Ending) (w' : World) : Prop := ∃ (A' : Option Addr) (k c : Nat), e = .returned (QV.mk (decide ((-x).num < 0)) A' k c v.D v.m v.d).v ∧ Own w' w.heap.size (.slice A' k c) (limbs (-x).num.natAbs) ∧ Below w.heap.size w w'
def both2 (v v2 : QV) (a d a2 d2 : List Nat) : Bool := mayQ v.p a d && mayQ v2.p a2 d2
section
variable {A D : Option Addr} {na ca nd cd u : Nat} {a d a2 d2 : List Nat} {w : World} {z : Int} {x y : Rat} {v v2 : QV}
end
end Go.Proofs.Ytbldimplddiheaa

/- The document's fractions: differences, which is less, the same. -/
namespace Go.Proofs.Ytbldimplddiheaa
open Go.RowKit Go.Shelf
set_option linter.unusedVariables false
set_option linter.unusedSimpArgs false

section
variable {A D : Option Addr} {na ca nd cd u : Nat} {a d a2 d2 : List Nat} {w : World} {z : Int} {x y : Rat} {v v2 : QV}
set_option maxRecDepth 100000 in
set_option maxHeartbeats 4000000 in
theorem rSameQ_any (h : Q1 w v a d) (h2 : Q1 w v2 a2 d2) : Calls Try.prog 6 #[v.v, v2.v] w fun e w' => e = .returned (.bool (decide ((v.p = v2.p ∧ a = a2) ∧ d = d2))) ∧ Below w.heap.size w w' := by
  have T0 := duo_q w v v2
  have H1 := Lib.hid (fun W (hW : Below w.heap.size w W) => rSameZ_any v.A v2.A v.n v.c v2.n v2.c v.p v2.p a a2 W ⟨(h.below hW).ra, (h2.below hW).ra, by have := h.la; omega, by have := h2.la; omega, h.ca1, h.ca2, h2.ca1, h2.ca2⟩)
  have H2 := Lib.hid (fun W (hW : Below w.heap.size w W) => same_any v.D v2.D v.m v.d v2.m v2.d d d2 W (h.below hW).rd (h2.below hW).rd (by have := h.ld; omega) (by have := h2.ld; omega))
  by_cases e1 : v.p = v2.p ∧ a = a2
  · have HR : Hid (decide ((v.p = v2.p ∧ a = a2) ∧ d = d2) = decide (d = d2)) := by show _ = _; simp [e1]
    rw [decide_eq_true e1] at H1
    rw [HR.out]
    generalize decide (d = d2) = s at H2 ⊢
    clear h h2 HR e1
    unfold QV.v zv at *
    go_enter Try.func6, Try.ntmps6
    go_wp2_with fail
    refine (H1.out _ T0.b).mono ?_
    rintro e w1 ⟨rfl, hb⟩
    have T1 := T0.next hb
    clear hb T0
    have qx0 := T1.x.c0
    have qx1 := T1.x.c1
    have qx2 := T1.x.c2
    have qy0 := T1.y.c0
    have qy1 := T1.y.c1
    have qy2 := T1.y.c2
    go_wp2_with fail
    refine (H2.out _ T1.b).mono ?_
    rintro e w2 ⟨rfl, hb⟩
    have T2 := T1.next hb
    clear hb
    go_wp2
    go_ret
    exact ⟨rfl, T2.b⟩
  · have HR : Hid (decide ((v.p = v2.p ∧ a = a2) ∧ d = d2) = false) := by show _ = _; simp [e1]
    rw [decide_eq_false e1] at H1
    rw [HR.out]
    clear h h2 HR e1
    unfold QV.v zv at *
    go_enter Try.func6, Try.ntmps6
    go_wp2_with fail
    refine (H1.out _ T0.b).mono ?_
    rintro e w1 ⟨rfl, hb⟩
    have T1 := T0.next hb
    clear hb T0
    have qx0 := T1.x.c0
    have qx1 := T1.x.c1
    have qx2 := T1.x.c2
    have qy0 := T1.y.c0
    have qy1 := T1.y.c1
    have qy2 := T1.y.c2
    go_wp2
    go_ret
    exact ⟨rfl, T1.b⟩
end
end Go.Proofs.Ytbldimplddiheaa

/- The document's fractions: quotients, whole numbers below and above, texts. -/
namespace Go.Proofs.Ytbldimplddiheaa
open Go.RowKit Go.Shelf
set_option linter.unusedVariables false
set_option linter.unusedSimpArgs false

/-- The world behind a fraction's block and a whole number's. -/
structure QMix (w W : World) (x : QV) : Prop where
  b : Below w.heap.size w W
  x : BoxQ W w.heap.size x
  r : BoxZ W (w.heap.size + 1) false none 0 0
theorem QMix.next {w W W' : World} {x : QV} (h : QMix w W x) (hb : Below W.heap.size W W') : QMix w W' x := ⟨below_then h.b hb, h.x.next hb, h.r.below hb (Array.getElem?_eq_some_iff.1 h.r).1⟩
theorem q_mix (w : World) (x : QV) : QMix w ((w.alloc x.o).alloc (zo false none 0 0)) x := by
  have h := (uno_q w x).next (bxb _ (zo false none 0 0))
  have h2 := World.alloc_heap_new (w.alloc x.o) (zo false none 0 0)
  rw [World.size_alloc] at h2
  exact ⟨h.b, h.x, h2⟩
section
variable {A D : Option Addr} {na ca nd cd u : Nat} {a d a2 d2 : List Nat} {w : World} {z : Int} {x y : Rat} {v v2 : QV}
end
end Go.Proofs.Ytbldimplddiheaa

/- The document's fractions: as texts. -/
namespace Go.Proofs.Ytbldimplddiheaa
open Go.RowKit Go.Shelf
set_option linter.unusedVariables false
set_option linter.unusedSimpArgs false

/-- A fraction as a text. -/
def qTextE (p : Bool) (a d : List Nat) : Int := if mayQ p a d then (if textZE p a = 0 then (if d = [1] then 0 else textE d) else textZE p a) else 8
def qTextS (p : Bool) (a d : List Nat) : ByteArray := if mayQ p a d then (if textZE p a = 0 then (if d = [1] then textZS p a else (if textE d = 0 then textZS p a ++ ⟨#[47]⟩ ++ textS d else ⟨#[]⟩)) else textZS p a) else ⟨#[]⟩
theorem textZS_size (p : Bool) (a : List Nat) : (textZS p a).size ≤ 4097 := by
  have h := textS_size a
  unfold textZS
  split
  · split
    · rw [ByteArray.size_append]
      have : (⟨#[45]⟩ : ByteArray).size = 1 := rfl
      omega
    · omega
  · exact Nat.zero_le _
section
variable {a d : List Nat} {w : World} {v : QV}
end
end Go.Proofs.Ytbldimplddiheaa

/- What a law holds: its fractions, each in a block of its own; how long they may be; what calls of rat are. -/
namespace Go.Proofs.Ytbldimplddiheaa
open Go.RowKit Go.Shelf
set_option linter.unusedVariables false
set_option linter.unusedSimpArgs false

/-- A fraction in a block. -/
structure IQ where
  g : Nat
  v : QV
  x : Rat
structure IQ.ok (W : World) (i : IQ) : Prop where
  b : BoxQ W i.g i.v
  m : QNm W i.v i.x
  ln : i.v.n ≤ 60
  ld : i.v.m ≤ 60
def HeldQ (W : World) (L : List IQ) : Prop := ∀ i, i ∈ L → IQ.ok W i
theorem IQ.ok.below {W W' : World} {i : IQ} (h : IQ.ok W i) (hb : Below W.heap.size W W') : IQ.ok W' i := ⟨h.b.next hb, h.m.below hb, h.ln, h.ld⟩
theorem HeldQ.next {W W' : World} {L : List IQ} (h : HeldQ W L) (hb : Below W.heap.size W W') : HeldQ W' L := fun i hi => (h i hi).below hb
theorem HeldQ.cons {W : World} {L : List IQ} {i : IQ} (h : HeldQ W L) (hi : IQ.ok W i) : HeldQ W (i :: L) := fun j hj => by
  rcases List.mem_cons.1 hj with rfl | hj
  · exact hi
  · exact h j hj
theorem heldq_nil (W : World) : HeldQ W [] := fun i hi => by cases hi
theorem IQ.fresh {W : World} {B : Nat} {v : QV} {x : Rat} (o : QOwn W B v x) (h1 : v.n ≤ 60) (h2 : v.m ≤ 60) : IQ.ok (W.alloc v.o) ⟨W.heap.size, v, x⟩ := ⟨World.alloc_heap_new _ _, o.nm.below (bxb _ _), h1, h2⟩
theorem IQ.param {W : World} {v : QV} {x : Rat} (h : QNm W v x) (h1 : v.n ≤ 60) (h2 : v.m ≤ 60) : IQ.ok (W.alloc v.o) ⟨W.heap.size, v, x⟩ := ⟨World.alloc_heap_new _ _, h.below (bxb _ _), h1, h2⟩
/-- How long a fraction's two numbers may be. -/
def BdQ (k m : Nat) (x : Rat) : Prop := x.num.natAbs < B64 ^ k ∧ x.den < B64 ^ m
theorem BdQ.len {W : World} {B k m : Nat} {v : QV} {x : Rat} (h : BdQ k m x) (o : QOwn W B v x) : v.n ≤ k ∧ v.m ≤ m := ⟨o.a.nm.len h.1, o.d.nm.len h.2⟩
theorem BdQ.of {w : World} {v : QV} {x : Rat} {k m : Nat} (h : QNm w v x) (h1 : v.n ≤ k) (h2 : v.m ≤ m) : BdQ k m x :=
  ⟨Nat.lt_of_lt_of_le h.a.lt (Nat.pow_le_pow_right B64_pos h1), Nat.lt_of_lt_of_le h.d.lt (Nat.pow_le_pow_right B64_pos h2)⟩
theorem BdQ.mono {k m k2 m2 : Nat} {x : Rat} (h : BdQ k m x) (h1 : k ≤ k2) (h2 : m ≤ m2) : BdQ k2 m2 x :=
  ⟨Nat.lt_of_lt_of_le h.1 (Nat.pow_le_pow_right B64_pos h1), Nat.lt_of_lt_of_le h.2 (Nat.pow_le_pow_right B64_pos h2)⟩
theorem BdQ.mk {k m u : Nat} {z : Int} (h1 : Bd k z) (h2 : u < B64 ^ m) (hu : u ≠ 0) : BdQ k m (mkRat z u) := by
  have h := mk_parts z hu
  exact ⟨by rw [h.1]; exact Nat.lt_of_le_of_lt (Nat.div_le_self _ _) h1, by rw [h.2.2]; exact Nat.lt_of_le_of_lt (Nat.div_le_self _ _) h2⟩
theorem den_bd {k m : Nat} {x : Rat} (h : BdQ k m x) : Bd m (x.den : Int) := by unfold Bd; rw [Int.natAbs_natCast]; exact h.2
theorem den_mul {k m k2 m2 : Nat} {x y : Rat} (h : BdQ k m x) (h2 : BdQ k2 m2 y) : x.den * y.den < B64 ^ (m + m2) := by
  rw [Nat.pow_add]
  exact Nat.mul_lt_mul_of_lt_of_le h.2 (Nat.le_of_lt h2.2) (Nat.pow_pos B64_pos)
theorem BdQ.add {k m k2 m2 K : Nat} {x y : Rat} (h : BdQ k m x) (h2 : BdQ k2 m2 y) (hK : k + m2 ≤ K) (hK2 : k2 + m ≤ K) : BdQ (K + 1) (m + m2) (x + y) := by
  rw [← sum_rat]
  have e1 : Bd k x.num := h.1
  have e2 : Bd k2 y.num := h2.1
  exact BdQ.mk (((e1.mul (den_bd h2)).mono hK).add ((e2.mul (den_bd h)).mono hK2)) (den_mul h h2) (Nat.mul_ne_zero x.den_nz y.den_nz)
theorem BdQ.neg {k m : Nat} {x : Rat} (h : BdQ k m x) : BdQ k m (-x) := ⟨by rw [Rat.neg_num, Int.natAbs_neg]; exact h.1, by rw [Rat.neg_den]; exact h.2⟩
theorem BdQ.sub {k m k2 m2 K : Nat} {x y : Rat} (h : BdQ k m x) (h2 : BdQ k2 m2 y) (hK : k + m2 ≤ K) (hK2 : k2 + m ≤ K) : BdQ (K + 1) (m + m2) (x - y) := by
  rw [Rat.sub_eq_add_neg]
  exact h.add h2.neg hK hK2
theorem BdQ.mul {k m k2 m2 : Nat} {x y : Rat} (h : BdQ k m x) (h2 : BdQ k2 m2 y) : BdQ (k + k2) (m + m2) (x * y) := by
  rw [← mul_rat]
  have e1 : Bd k x.num := h.1
  have e2 : Bd k2 y.num := h2.1
  exact BdQ.mk (e1.mul e2) (den_mul h h2) (Nat.mul_ne_zero x.den_nz y.den_nz)
theorem BdQ.div {k m k2 m2 : Nat} {x y : Rat} (h : BdQ k m x) (h2 : BdQ k2 m2 y) (hy : y ≠ 0) : BdQ (k + m2) (m + k2) (x / y) := by
  rw [← div_rat2 x y hy]
  have e1 : Bd (k + m2) (x.num * (y.den : Int)) := by have e : Bd k x.num := h.1; exact e.mul (den_bd h2)
  refine BdQ.mk ?_ ?_ (Nat.mul_ne_zero x.den_nz (by have := num_ne hy; omega))
  · split
    · exact e1.neg
    · exact e1
  · rw [Nat.pow_add]
    exact Nat.mul_lt_mul_of_lt_of_le h.2 (Nat.le_of_lt h2.1) (Nat.pow_pos B64_pos)

/-- Calls of rat: of two fractions. -/
def OpQIs (f : Rat → Rat → Rat) (F : Nat) : Prop := ∀ (v v2 : QV) (a d a2 d2 : List Nat) (w : World), Q1 w v a d → Q1 w v2 a2 d2 →
  Calls Try.prog F #[v.v, v2.v] w (QAns w (both2 v v2 a d a2 d2) (f (qof v.p a d) (qof v2.p a2 d2)) 8)
def DivQIs (F : Nat) : Prop := ∀ (v v2 : QV) (a d a2 d2 : List Nat) (w : World), Q1 w v a d → Q1 w v2 a2 d2 →
  Calls Try.prog F #[v.v, v2.v] w (QAns w (both2 v v2 a d a2 d2 && decide (qof v2.p a2 d2 ≠ 0)) (qof v.p a d / qof v2.p a2 d2) (if both2 v v2 a d a2 d2 then 30 else 8))
def CmpQIs (F : Nat) : Prop := ∀ (v v2 : QV) (a d a2 d2 : List Nat) (w : World), Q1 w v a d → Q1 w v2 a2 d2 →
  Calls Try.prog F #[v.v, v2.v] w (IAns w (if both2 v v2 a d a2 d2 then sgn (qof v.p a d - qof v2.p a2 d2).num else 0) (if both2 v v2 a d a2 d2 then 0 else 8))
def CheckQIs (F : Nat) : Prop := ∀ (v : QV) (a d : List Nat) (w : World), Q1 w v a d →
  Calls Try.prog F #[v.v] w fun e w' => e = .returned (.int .i64 (if mayQ v.p a d then 0 else 8)) ∧ Below w.heap.size w w'
def WholeQIs (f : Rat → Int) (F : Nat) : Prop := ∀ (v : QV) (a d : List Nat) (w : World), Q1 w v a d →
  Calls Try.prog F #[v.v] w (ZAns w (if mayQ v.p a d then f (qof v.p a d) else 0) (if mayQ v.p a d then 0 else 8))
def TextQIs (F : Nat) : Prop := ∀ (v : QV) (a d : List Nat) (w : World), Q1 w v a d →
  Calls Try.prog F #[v.v] w fun e w' => e = .returned (.tuple #[.string (qTextS v.p a d), .int .i64 (qTextE v.p a d)]) ∧ Below w.heap.size w w'
def SameQIs (F : Nat) : Prop := ∀ (v v2 : QV) (a d a2 d2 : List Nat) (w : World), Q1 w v a d → Q1 w v2 a2 d2 →
  Calls Try.prog F #[v.v, v2.v] w fun e w' => e = .returned (.bool (decide ((v.p = v2.p ∧ a = a2) ∧ d = d2))) ∧ Below w.heap.size w w'
/-- The fraction of two whole numbers: ErrBad 8, ErrZero 30, else num by den. -/
def OfQIs (F : Nat) : Prop := ∀ (A A2 : Option Addr) (na ca nb cb : Nat) (p q : Bool) (a b : List Nat) (w : World), Z2 w A A2 na ca nb cb a b →
  Calls Try.prog F #[zv p A na ca, zv q A2 nb cb] w (QAns w (twoM p a q b && !b.isEmpty) (Rat.divInt (zof p a) (zof q b)) (if twoM p a q b then 30 else 8))
end Go.Proofs.Ytbldimplddiheaa

/- Rows of bytes; the lowest digits of a number. -/
namespace Go.Proofs.Ytbldimplddiheaa
open Go.RowKit Go.Shelf
set_option linter.unusedVariables false
set_option linter.unusedSimpArgs false

abbrev by8 (c : UInt8) : Value := .int .u8 (c.toNat : Int)
theorem u8_info : (Try.prog.info? 5).map (fun i => (i.zero, i.size, i.bytes)) = some (some (.int .u8 0), 1, 1) := by kernel_rfl
/-- A slice of bytes of the call's own. -/
def OwnY (w : World) (B : Nat) (v : Value) (l : List UInt8) : Prop := w.ownsRow B 5 1 v l.length (l.map by8)
theorem OwnY.below {w w' : World} {B : Nat} {v : Value} {l : List UInt8} (h : OwnY w B v l) (hb : Below w.heap.size w w') : OwnY w' B v l := by
  refine ⟨h.1, ?_⟩
  rcases h.2 with h2 | ⟨g, cap, cur, e, hg, hh, r⟩
  · exact .inl h2
  · exact .inr ⟨g, cap, cur, e, hg, (hb.block g (Array.getElem?_eq_some_iff.1 hh).1).trans hh, r⟩
theorem owny_block {w : World} {B : Nat} {v : Value} {l : List UInt8} (h : OwnY w B v l) : ∀ k, v.ownBlock = some k → B ≤ k := fun k e => (h.lt k e).1
theorem owny_nil (w : World) (B : Nat) : OwnY w B (.slice none 0 0) [] := ⟨rfl, .inl ⟨rfl, rfl⟩⟩
theorem OwnY.form {w : World} {B : Nat} {v : Value} {l : List UInt8} (h : OwnY w B v l) (hl : l ≠ []) : ∃ g c, v = .slice (some ⟨g, 0, none⟩) l.length c ∧ B ≤ g ∧ g < w.heap.size ∧ l.length ≤ c ∧ c ≤ maxLen ∧ (∀ i (hi : i < l.length), w.cell? ⟨g, i, none⟩ = some (by8 l[i]) ∧ w.frozen? ⟨g, i, none⟩ = false) := by
  rcases h.2 with ⟨e, h0⟩ | ⟨g, cap, cur, e, hg, hh, hn, hc, hs, ht⟩
  · exact absurd (List.eq_nil_of_length_eq_zero h0) hl
  · refine ⟨g, cap, e, hg, (Array.getElem?_eq_some_iff.1 hh).1, hn, hc, fun i hi => ⟨?_, by simp [World.frozen?, hh]⟩⟩
    have hci := h.cells (g := g) (by rw [e]; rfl) i (by8 l[i]) (by rw [List.getElem?_map, List.getElem?_eq_getElem hi]; rfl)
    by_cases h0 : i = 0
    · subst h0; simpa [Addr.add] using hci
    · simpa [Addr.add, h0] using hci
theorem OwnY.set {w : World} {B g n c : Nat} {l : List UInt8} (h : OwnY w B (.slice (some ⟨g, 0, none⟩) n c) l) (hn : n = l.length) {i : Nat} (hi : i < l.length) (x : UInt8) : OwnY (w.setCell ⟨g, i, none⟩ (by8 x)) B (.slice (some ⟨g, 0, none⟩) n c) (l.set i x) := by
  subst hn
  rcases h.2 with ⟨e, _⟩ | ⟨g2, cap, cur, e, hg, hh, hn, hc, hs, ht⟩
  · cases e
  · cases e
    refine ⟨by simp, .inr ⟨g, c, cur.set! i (by8 x), by rw [List.length_set], hg, ?_, by rw [List.length_set]; exact hn, hc, by simpa using hs, ?_⟩⟩
    · simp [World.setCell, Array.getElem?_modify, hh]
    · rw [List.length_set, Nat.mul_one] at *
      rw [List.map_set, ← ht]
      simp [List.take_set, Array.set!]
/-- Limbs and bytes lie apart. -/
theorem own_apart {w : World} {B B2 : Nat} {v m : Value} {l : List Nat} {y : List UInt8} (h : Own w B v l) (hy : OwnY w B2 m y) : v.ownBlock = none ∨ v.ownBlock ≠ m.ownBlock := by
  rcases h.1.2 with ⟨e, _⟩ | ⟨g, cap, cur, e, hg, hh, _⟩
  · exact .inl (by rw [e]; rfl)
  · rcases hy.2 with ⟨e2, _⟩ | ⟨g2, cap2, cur2, e2, hg2, hh2, _⟩
    · exact .inr (by rw [e, e2]; simp [Value.ownBlock])
    · refine .inr (fun hc => ?_)
      rw [e, e2] at hc
      have hgg : g = g2 := by simpa [Value.ownBlock] using hc
      rw [hgg, hh2] at hh
      simp at hh
theorem own_grown {w w' : World} {B B2 : Nat} {v m : Value} {l : List Nat} {y : List UInt8} (h : Own w B v l) (hy : OwnY w B2 m y) (hg : w.grownBy w' m.ownBlock) : Own w' B v l := ⟨h.1.kept hg (own_apart h hy), h.2⟩
theorem u8_wrap {d : Nat} (h : d < 10) : IntKind.u8.wrap (48 + IntKind.u8.wrap (d : Int)) = ((dig d).toNat : Int) := by
  rw [dig_nat h, IntKind.wrap_u8, IntKind.wrap_u8]
  omega

/-- n digits to ten, the lowest first. -/
def lowD : Nat → Nat → List Nat
  | 0, _ => []
  | n + 1, v => v % 10 :: lowD n (v / 10)
theorem lowD_len (n v : Nat) : (lowD n v).length = n := by
  induction n generalizing v with
  | zero => rfl
  | succ n ih => simp [lowD, ih]
theorem lowD_snoc (n v : Nat) : lowD (n + 1) v = lowD n v ++ [v / 10 ^ n % 10] := by
  induction n generalizing v with
  | zero => simp [lowD]
  | succ n ih =>
    show v % 10 :: lowD (n + 1) (v / 10) = (v % 10 :: lowD n (v / 10)) ++ [v / 10 ^ (n + 1) % 10]
    rw [ih, Nat.div_div_eq_div_mul, Nat.pow_succ, Nat.mul_comm 10]
    rfl
/-- .. as bytes. -/
def lowB (n v : Nat) : List UInt8 := (lowD n v).map dig
theorem lowB_len (n v : Nat) : (lowB n v).length = n := by rw [lowB, List.length_map, lowD_len]
theorem lowB_snoc (n v : Nat) : lowB (n + 1) v = lowB n v ++ [dig (v / 10 ^ n % 10)] := by rw [lowB, lowB, lowD_snoc, List.map_append]; rfl
theorem lowB_zero (v : Nat) : lowB 0 v = [] := rfl
theorem ten_pad {n v : Nat} (h : v < 10 ^ n) : (lowB n v).reverse = List.replicate (n - (tenL v).length) 48 ++ tenL v := by
  induction n generalizing v with
  | zero =>
    have : v = 0 := by simp at h; omega
    subst this
    simp [lowB, lowD, tenL_zero]
  | succ n ih =>
    have hv : v / 10 < 10 ^ n := by rw [Nat.pow_succ] at h; omega
    have e : (lowB (n + 1) v).reverse = (lowB n (v / 10)).reverse ++ [dig (v % 10)] := by simp [lowB, lowD]
    rw [e, ih hv]
    by_cases h0 : v = 0
    · subst h0
      simp only [Nat.zero_div, Nat.zero_mod, tenL_zero, List.length_nil, Nat.sub_zero, List.append_nil]
      rw [List.replicate_succ']
      rfl
    · rw [tenL_pos h0, List.length_append, List.length_singleton, Nat.add_sub_add_right, List.append_assoc]
theorem drop_pad {k : Nat} {l : List UInt8} (h : l.head? ≠ some 48) : (List.replicate k 48 ++ l).dropWhile (· == 48) = l := by
  induction k with
  | zero =>
    rw [List.replicate_zero, List.nil_append]
    cases l with
    | nil => rfl
    | cons x r =>
      have : x ≠ 48 := by simpa using h
      rw [List.dropWhile_cons, if_neg (by simpa using this)]
  | succ k ih => rw [List.replicate_succ, List.cons_append, List.dropWhile_cons, if_pos (by simp), ih]
theorem trim_low {n v : Nat} (h : v < 10 ^ n) (h0 : v ≠ 0) : ((lowB n v).reverse).dropWhile (· == 48) = tenL v := by rw [ten_pad h, drop_pad (head_ten h0)]
theorem low_digit {x j : Nat} (hj : j < 19) : x % 10 ^ 19 / 10 ^ j % 10 = x / 10 ^ j % 10 := by
  have e : 10 ^ 19 = 10 ^ j * 10 ^ (19 - j) := by rw [← Nat.pow_add]; congr 1; omega
  have e2 : 10 ^ (19 - j) = 10 * 10 ^ (18 - j) := by rw [← Nat.pow_succ']; congr 1; omega
  rw [e, Nat.mod_mul_right_div_self, e2, Nat.mod_mul_right_mod]
end Go.Proofs.Ytbldimplddiheaa

/- gcd's digits and Text, as they landed. -/
namespace Go.Proofs.Ytbldimplddiheaa
open Go.RowKit Go.Shelf
set_option linter.unusedVariables false
set_option linter.unusedSimpArgs false

section
variable (w : World)
/-- The list behind i exchanges. -/
def Swapped (l lk : List UInt8) (i : Nat) : Prop := lk.length = l.length ∧ ∀ t, t < l.length → lk[t]? = if t < i ∨ l.length ≤ t + i then l[l.length - 1 - t]? else l[t]?
theorem Swapped.next {l lk : List UInt8} {i j : Nat} (h : Swapped l lk i) (hij : i < j) (hj : i + j + 1 = l.length) (hi : i < lk.length) (hjl : j < lk.length) : Swapped l ((lk.set i lk[j]).set j lk[i]) (i + 1) := by
  refine ⟨by simp [h.1], fun t ht => ?_⟩
  have hi1 := h.2 i (by omega)
  have hj1 := h.2 j (by omega)
  rw [if_neg (by omega), List.getElem?_eq_getElem hi] at hi1
  rw [if_neg (by omega), List.getElem?_eq_getElem hjl] at hj1
  have e1 : l.length - 1 - i = j := by omega
  have e2 : l.length - 1 - j = i := by omega
  rw [List.getElem?_set]
  by_cases h1 : j = t
  · subst h1
    rw [if_pos rfl, if_pos (by rw [List.length_set]; exact hjl), if_pos (by omega), e2, hi1]
  · rw [if_neg h1, List.getElem?_set]
    by_cases h2 : i = t
    · subst h2
      rw [if_pos rfl, if_pos hi, if_pos (by omega), e1, hj1]
    · rw [if_neg h2, h.2 t ht]
      by_cases h3 : t < i ∨ l.length ≤ t + i
      · rw [if_pos h3, if_pos (by omega)]
      · rw [if_neg h3, if_neg (by omega)]
theorem Swapped.done {l lk : List UInt8} {i : Nat} (h : Swapped l lk i) (hn : l.length ≤ 2 * i + 1) : lk = l.reverse := by
  apply List.ext_getElem?
  intro t
  by_cases ht : t < l.length
  · rw [List.getElem?_reverse ht, h.2 t ht]
    split
    · rfl
    · congr 1; omega
  · rw [List.getElem?_eq_none (by rw [h.1]; omega), List.getElem?_eq_none (by rw [List.length_reverse]; omega)]

theorem chunk_lt : 10000000000000000000 < B64 := by rw [B64_eq]; omega
theorem wordZ (A : Option Addr) (na ca v x : Nat) (z : Int) (w : World) (hz : z = (x : Int)) (h : Nm w A na ca v) (hx : x < B64) (hx0 : x ≠ 0) (hna : na ≤ 1000) :
    Calls Try.prog 41 #[.slice A na ca, .int .u64 z] w fun e w' => ∃ A' k c, e = .returned (.tuple #[.slice A' k c, .int .u64 ((v % x : Nat) : Int), .int .i64 0]) ∧ Own w' w.heap.size (.slice A' k c) (limbs (v / x)) ∧ Below w.heap.size w w' := by
  subst hz
  have hw := word_is A na ca (limbs v) x w h.rd hx hna ⟨h.nc, h.cm⟩
  have hE : divE (limbs v) (limbs x) = 0 := divE_ok (may_limbs v) (may_limbs x) (fun h => hx0 (limbs_eq_nil.1 h))
  rw [quoL_ok hE, remL_ok hE, hE, val_limbs, val_limbs, val_limbs] at hw
  exact hw
theorem digits_bound {v k na : Nat} (hv : v < B64 ^ na) (hna : na ≤ 217) (h : v / 10 ^ (19 * k) ≠ 0) : k ≤ 243 := by
  have h1 : 10 ^ (19 * k) ≤ v := by
    rcases Nat.lt_or_ge v (10 ^ (19 * k)) with h2 | h2
    · exact absurd (Nat.div_eq_of_lt h2) h
    · exact h2
  have h2 : 8 ^ (19 * k) ≤ 10 ^ (19 * k) := Nat.pow_le_pow_left (by omega) _
  have h3 : (8 : Nat) ^ (19 * k) = 2 ^ (3 * (19 * k)) := by rw [show (8 : Nat) = 2 ^ 3 from rfl, ← Nat.pow_mul]
  rw [B64_pow] at hv
  have h4 : 2 ^ (3 * (19 * k)) < 2 ^ (64 * na) := by omega
  have h5 := (Nat.pow_lt_pow_iff_right (by omega : 1 < 2)).1 h4
  omega

theorem one_lens {a : List Nat} {na : Nat} (h1 : a.length = na) (h3 : na ≤ 5000) : ∀ l ∈ [a], l.length ≤ 4294967296 := by
  intro l h
  rcases List.mem_cons.1 h with rfl | h
  · omega
  · cases h
theorem text_many {A : Option Addr} {na ca v : Nat} {w : World} (h : Nm w A na ca v) (hn : 4096 ≤ (na - 1) * 19) : ¬ (textL v).length ≤ 4096 := by
  intro hle
  have hv0 : v ≠ 0 := fun h0 => by have := h.zero.2 h0; omega
  have h1 := le_of_limbs hv0
  rw [h.rd.len] at h1
  have h2 := text_lt v
  have h3 : 10 ^ (textL v).length ≤ 10 ^ (19 * (na - 1)) := Nat.pow_le_pow_right (by omega) (by omega)
  have h4 : (10 ^ 19) ^ (na - 1) ≤ B64 ^ (na - 1) := Nat.pow_le_pow_left (by rw [B64_eq]; omega) _
  rw [← Nat.pow_mul] at h4
  exact absurd (Nat.lt_of_lt_of_le h2 (Nat.le_trans h3 (Nat.le_trans h4 h1))) (Nat.lt_irrefl _)
theorem textB_sz (v : Nat) : (textB v).size = (textL v).length := by rw [← size_list, textB_list]

end
end Go.Proofs.Ytbldimplddiheaa

/- A laying of the library's contracts at this program. -/
namespace Go.Proofs
open Go.Shelf
end Go.Proofs
namespace Go.Proofs.Ytbldimplddiheaa
open Go.Shelf
end Go.Proofs.Ytbldimplddiheaa

/- gcd's isNumber, value and Parse, as they landed. -/
namespace Go.Proofs.Ytbldimplddiheaa
open Go.RowKit Go.Shelf
set_option linter.unusedVariables false
set_option linter.unusedSimpArgs false

theorem numV_append (a b : List UInt8) : numV (a ++ b) = numV a * 10 ^ b.length + numV b := by
  induction b using snoc_ind with
  | h0 => simp [numV_nil]
  | h1 l c ih =>
    rw [← List.append_assoc, numV_snoc, ih, numV_snoc, List.length_append, List.length_singleton, Nat.pow_succ, Nat.add_mul]
    rw [Nat.mul_assoc]
    omega
theorem uint_go {l : List UInt8} {acc : Nat} (h : l.all isD = true) (hb : (acc + 1) * 10 ^ l.length ≤ 10000000000000000000) : Lib.parseUintM 18446744073709551615 acc l = .ok (l.foldl (fun v c => v * 10 + (c.toNat - 48)) acc) := by
  induction l generalizing acc with
  | nil => rfl
  | cons c r ih =>
    rw [List.all_cons, Bool.and_eq_true] at h
    have hc := h.1
    unfold isD at hc
    simp only [Bool.and_eq_true, decide_eq_true_eq] at hc
    rw [List.length_cons, Nat.pow_succ] at hb
    have hp := Nat.pow_pos (n := r.length) (show 0 < 10 by omega)
    have hb2 : (acc + 1) * 10 * 10 ^ r.length ≤ 10000000000000000000 := by
      rw [Nat.mul_assoc, Nat.mul_comm 10]; exact hb
    have hb3 : (acc + 1) * 10 ≤ (acc + 1) * 10 * 10 ^ r.length := Nat.le_mul_of_pos_right _ hp
    have hb4 : (acc * 10 + (c.toNat - 48) + 1) * 10 ^ r.length ≤ 10000000000000000000 := Nat.le_trans (Nat.mul_le_mul_right _ (by omega)) hb2
    rw [Lib.parseUintM, if_pos hc, if_neg (by omega), if_neg (by omega), ih h.2 hb4]
    rfl
theorem uint_num {l : List UInt8} (h : l.all isD = true) (h0 : l ≠ []) (hn : l.length ≤ 19) : Lib.parseUintB 64 l = .ok (numV l) := by
  unfold Lib.parseUintB
  rw [if_neg h0]
  have h2 : (10 : Nat) ^ l.length ≤ 10 ^ 19 := Nat.pow_le_pow_right (by omega) hn
  exact uint_go h (by omega)

section
variable (s : ByteArray) (w : World)

theorem ofZ_any (x : Nat) (z : Int) (w : World) (hz : z = (x : Int)) (hx : x < B64) :
    Calls Try.prog 42 #[.int .u64 z] w fun e w' => ∃ A' k c, e = .returned (.slice A' k c) ∧ Own w' w.heap.size (.slice A' k c) (limbs x) ∧ Below w.heap.size w w' := hz ▸ of_any x w hx
end
end Go.Proofs.Ytbldimplddiheaa

/- strings.HasPrefix and CutPrefix, of one byte. -/
namespace Go.Proofs.Ytbldimplddiheaa
open Go.RowKit Go.Shelf
set_option linter.unusedVariables false
set_option linter.unusedSimpArgs false

theorem first_list {s : ByteArray} (h : 0 < s.size) : (s.extract 0 1).toList = [s[0]] := by
  rw [Lib.toList_data, ByteArray.data_extract, Array.toList_extract]
  have h1 := head_zero h
  cases hl : s.data.toList with
  | nil => rw [hl] at h1; cases h1
  | cons x r =>
    rw [hl] at h1
    simp only [List.head?_cons, Option.some.injEq] at h1
    rw [← h1]
    rfl
theorem head_eq {s : ByteArray} (h : 0 < s.size) (c : UInt8) : ((s.extract 0 1).toList == [c]) = (s.data.toList.head? == some c) := by
  rw [first_list h, head_zero h]
  rw [Bool.eq_iff_iff]
  simp
theorem head_none {s : ByteArray} (h : s.size = 0) : s.data.toList.head? = none := by
  rw [List.eq_nil_of_length_eq_zero ((size_list s).trans h)]
  rfl
end Go.Proofs.Ytbldimplddiheaa

/- Whole numbers of texts: the document's, and whole's own; as texts. -/
namespace Go.Proofs.Ytbldimplddiheaa
open Go.RowKit Go.Shelf
set_option linter.unusedVariables false
set_option linter.unusedSimpArgs false

theorem drop_list (s : ByteArray) : (s.extract 1 s.size).data.toList = s.data.toList.drop 1 := by
  rw [ByteArray.data_extract, Array.toList_extract]
  rw [List.extract_eq_take_drop]
  have := size_list s
  rw [List.take_of_length_le (by rw [List.length_drop]; omega)]
theorem drop_size (s : ByteArray) : (s.extract 1 s.size).size = s.size - 1 := by
  rw [← size_list, drop_list, List.length_drop, size_list]
theorem num_pos {l : List UInt8} (h : okL l = true) (h2 : l.head? ≠ some 48) : numV l ≠ 0 := fun e => by
  have h3 := text_num h
  rw [e] at h3
  rw [← h3] at h2
  exact h2 rfl
/-- A text's number, where it is one: its sign, and its size. -/
theorem parseZ_ok {s : ByteArray} (h : parseZE s = 0) : (parseZ s).natAbs = numV (if minus s then s.data.toList.drop 1 else s.data.toList) ∧ decide (parseZ s < 0) = minus s := by
  unfold parseZ
  rw [if_pos h]
  cases hm : minus s with
  | false =>
    simp only [Bool.false_eq_true, if_false]
    exact ⟨by simp, decide_eq_false (by omega)⟩
  | true =>
    simp only [if_true]
    unfold parseZE at h
    rw [hm] at h
    simp only [if_true] at h
    split at h
    · cases h
    · rename_i h48
      have hp : parseE (s.extract 1 s.size) = 0 := h
      have hk : okL (s.data.toList.drop 1) = true := by
        cases hk : okL (s.data.toList.drop 1) with
        | true => rfl
        | false =>
          rw [← drop_list] at hk
          unfold parseE at hp
          rw [hk] at hp
          split at hp <;> cases hp
      have := num_pos hk h48
      exact ⟨by simp, decide_eq_true (by omega)⟩
theorem parseL_z {s : ByteArray} (h : parseZE s = 0) : parseE (if minus s then s.extract 1 s.size else s) = 0 ∧ parseL (if minus s then s.extract 1 s.size else s) = limbs (parseZ s).natAbs := by
  have h2 := parseZ_ok h
  rw [h2.1]
  unfold parseZE at h
  cases hm : minus s with
  | false =>
    rw [hm] at h
    simp only [Bool.false_eq_true, if_false] at h ⊢
    exact ⟨h, by unfold parseL; rw [if_pos h]⟩
  | true =>
    rw [hm] at h
    simp only [if_true] at h ⊢
    split at h
    · cases h
    · exact ⟨h, by unfold parseL; rw [if_pos h, drop_list]⟩
theorem parseZE_no {s : ByteArray} (h : parseZE s ≠ 0) : parseZ s = 0 := by unfold parseZ; rw [if_neg h]
theorem parseE_t {s : ByteArray} (h : ¬ (minus s = true ∧ (s.data.toList.drop 1).head? = some 48)) : parseZE s = parseE (if minus s then s.extract 1 s.size else s) := by
  unfold parseZE
  cases hm : minus s with
  | false => simp
  | true =>
    simp only [if_true]
    rw [if_neg (fun h2 => h ⟨hm, h2⟩)]
theorem parseE_48 {s : ByteArray} (h : minus s = true) (h2 : (s.data.toList.drop 1).head? = some 48) : parseZE s = 8 := by
  unfold parseZE
  rw [if_pos h, if_pos h2]
theorem row_ans {w w1 w2 : World} (R : BoxZ w1 w.heap.size false none 0 0) (hB : Below w.heap.size w w1) (hb : Below w1.heap.size w1 w2) : BoxZ w2 w.heap.size false none 0 0 ∧ Below w.heap.size w w2 :=
  ⟨R.below hb (Array.getElem?_eq_some_iff.1 R).1, below_then hB hb⟩
theorem minus_head {s : ByteArray} (h : 0 < s.size) : minus s = (((s[0].toNat : Nat) : Int) == 45) := by
  unfold minus
  rw [head_zero h, Bool.eq_iff_iff]
  simp only [beq_iff_eq, Option.some.injEq]
  constructor
  · intro e; rw [e]; rfl
  · intro e
    have e2 : s[0].toNat = (45 : UInt8).toNat := by have : (45 : UInt8).toNat = 45 := rfl; omega
    exact UInt8.toNat_inj.1 e2
theorem tail_head {s : ByteArray} (h : 0 < (s.extract 1 s.size).size) : ((((s.extract 1 s.size)[0]).toNat : Int) == 48) = decide ((s.data.toList.drop 1).head? = some 48) := by
  rw [← drop_list, head_zero h, Bool.eq_iff_iff]
  simp only [beq_iff_eq, Option.some.injEq, decide_eq_true_eq]
  constructor
  · intro e
    have e2 : ((s.extract 1 s.size)[0]).toNat = (48 : UInt8).toNat := by have : (48 : UInt8).toNat = 48 := rfl; omega
    exact UInt8.toNat_inj.1 e2
  · intro e; rw [e]; rfl
theorem tail_none {s : ByteArray} (h : s.size ≤ 1) : (s.data.toList.drop 1).head? = none := by
  rw [← drop_list]
  exact head_none (by rw [drop_size]; omega)
end Go.Proofs.Ytbldimplddiheaa

/- whole: a number as a text. -/
namespace Go.Proofs.Ytbldimplddiheaa
open Go.RowKit Go.Shelf
set_option linter.unusedVariables false
set_option linter.unusedSimpArgs false

section
variable {A : Option Addr} {na ca : Nat} {p : Bool} {a : List Nat} {w : World}
end
end Go.Proofs.Ytbldimplddiheaa

/- The document's fractions: of two whole numbers. -/
namespace Go.Proofs.Ytbldimplddiheaa
open Go.RowKit Go.Shelf
set_option linter.unusedVariables false
set_option linter.unusedSimpArgs false

structure TwoZQ (w W : World) (p : Bool) (A : Option Addr) (na ca : Nat) (q : Bool) (A2 : Option Addr) (nb cb : Nat) (x : QV) : Prop where
  t : Two w W p A na ca q A2 nb cb
  r : BoxQ W (w.heap.size + 1 + 1) x
theorem TwoZQ.next {w W W' : World} {p : Bool} {A : Option Addr} {na ca : Nat} {q : Bool} {A2 : Option Addr} {nb cb : Nat} {x : QV} (h : TwoZQ w W p A na ca q A2 nb cb x) (hb : Below W.heap.size W W') : TwoZQ w W' p A na ca q A2 nb cb x := ⟨h.t.next hb, h.r.next hb⟩
theorem two_zq (w : World) (p : Bool) (A : Option Addr) (na ca : Nat) (q : Bool) (A2 : Option Addr) (nb cb : Nat) (x : QV) : TwoZQ w (((w.alloc (zo p A na ca)).alloc (zo q A2 nb cb)).alloc x.o) p A na ca q A2 nb cb x := by
  refine ⟨(two_box w p A na ca q A2 nb cb).next (bxb _ _), ?_⟩
  have h := World.alloc_heap_new ((w.alloc (zo p A na ca)).alloc (zo q A2 nb cb)) x.o
  rw [World.size_alloc, World.size_alloc] at h
  exact h
set_option maxRecDepth 100000 in
set_option maxHeartbeats 8000000 in
theorem rOfQ_any : OfQIs 5 := by
  intro A A2 na ca nb cb p q a b w h
  have T0 := two_zq w p A na ca q A2 nb cb QV.zero
  have H1 := Lib.hid (fun W (hW : Below w.heap.size w W) => rMayZ_any (p := p) (w := W) (h.one.below hW))
  have H2 := Lib.hid (fun W (hW : Below w.heap.size w W) => rMayZ_any (p := q) (w := W) (h.two.below hW))
  unfold QAns
  cases e1 : mayZ p a with
  | false =>
    have hm : twoM p a q b = false := by simp [twoM, e1]
    rw [hm]
    simp only [Bool.false_eq_true, if_false, Bool.false_and]
    rw [e1] at H1
    clear h hm e1 H2
    unfold zv at *
    go_enter Try.func5, Try.ntmps5
    go_wp2_with fail
    refine (H1.out _ T0.t.b).mono ?_
    rintro e w1 ⟨rfl, hb⟩
    have T1 := T0.next hb
    clear hb T0
    have xa0 := T1.t.x.c0
    have xa1 := T1.t.x.c1
    have xb0 := T1.t.y.c0
    have xb1 := T1.t.y.c1
    have r0 := T1.r.c0
    have r1 := T1.r.c1
    have r2 := T1.r.c2
    have f0 := T1.r.f 0
    have f1 := T1.r.f 1
    have f2 := T1.r.f 2
    go_wp2
    refine bodyPost_ret (v := .tuple #[QV.zero.v, .int .i64 8]) (by simp [results, Try.results5, go_sem, r0, r1, r2, QV.v, QV.zero]) rfl ?_
    exact ⟨rfl, box_below3 (show w.heap.size ≤ w.heap.size + 1 + 1 by omega) T1.t.b _ _ _⟩
  | true =>
    rw [e1] at H1
    cases e2 : mayZ q b with
    | false =>
      have hm : twoM p a q b = false := by simp [twoM, e2]
      rw [hm]
      simp only [Bool.false_eq_true, if_false, Bool.false_and]
      rw [e2] at H2
      clear h hm e1 e2
      unfold zv at *
      go_enter Try.func5, Try.ntmps5
      go_wp2_with fail
      refine (H1.out _ T0.t.b).mono ?_
      rintro e w1 ⟨rfl, hb⟩
      have T1 := T0.next hb
      clear hb T0
      have xa0 := T1.t.x.c0
      have xa1 := T1.t.x.c1
      have xb0 := T1.t.y.c0
      have xb1 := T1.t.y.c1
      have r0 := T1.r.c0
      have r1 := T1.r.c1
      have r2 := T1.r.c2
      have f0 := T1.r.f 0
      have f1 := T1.r.f 1
      have f2 := T1.r.f 2
      go_wp2_with fail
      refine (H2.out _ T1.t.b).mono ?_
      rintro e w2 ⟨rfl, hb⟩
      have T2 := T1.next hb
      clear hb T1
      clear xa0 xa1 xb0 xb1 r0 r1 r2 f0 f1 f2
      have xa0 := T2.t.x.c0
      have xa1 := T2.t.x.c1
      have xb0 := T2.t.y.c0
      have xb1 := T2.t.y.c1
      have r0 := T2.r.c0
      have r1 := T2.r.c1
      have r2 := T2.r.c2
      have f0 := T2.r.f 0
      have f1 := T2.r.f 1
      have f2 := T2.r.f 2
      go_wp2
      refine bodyPost_ret (v := .tuple #[QV.zero.v, .int .i64 8]) (by simp [results, Try.results5, go_sem, r0, r1, r2, QV.v, QV.zero]) rfl ?_
      exact ⟨rfl, box_below3 (show w.heap.size ≤ w.heap.size + 1 + 1 by omega) T2.t.b _ _ _⟩
    | true =>
      rw [e2] at H2
      have hm : twoM p a q b = true := twoM_iff.2 ⟨e1, e2⟩
      rw [hm]
      simp only [if_true, Bool.true_and]
      have hz := h.num hm
      have hla := h.la
      have hlb := h.lb
      by_cases h0 : nb = 0
      · subst h0
        have hb0 : b = [] := List.eq_nil_of_length_eq_zero h.rb.len
        rw [hb0]
        simp only [List.isEmpty_nil, Bool.not_true, Bool.false_eq_true, if_false]
        clear h hm e1 e2 hz hla hlb hb0
        unfold zv at *
        go_enter Try.func5, Try.ntmps5
        go_wp2_with fail
        refine (H1.out _ T0.t.b).mono ?_
        rintro e w1 ⟨rfl, hb⟩
        have T1 := T0.next hb
        clear hb T0
        have xa0 := T1.t.x.c0
        have xa1 := T1.t.x.c1
        have xb0 := T1.t.y.c0
        have xb1 := T1.t.y.c1
        have r0 := T1.r.c0
        have r1 := T1.r.c1
        have r2 := T1.r.c2
        have f0 := T1.r.f 0
        have f1 := T1.r.f 1
        have f2 := T1.r.f 2
        go_wp2_with fail
        refine (H2.out _ T1.t.b).mono ?_
        rintro e w2 ⟨rfl, hb⟩
        have T2 := T1.next hb
        clear hb T1
        clear xa0 xa1 xb0 xb1 r0 r1 r2 f0 f1 f2
        have xa0 := T2.t.x.c0
        have xa1 := T2.t.x.c1
        have xb0 := T2.t.y.c0
        have xb1 := T2.t.y.c1
        have r0 := T2.r.c0
        have r1 := T2.r.c1
        have r2 := T2.r.c2
        have f0 := T2.r.f 0
        have f1 := T2.r.f 1
        have f2 := T2.r.f 2
        go_wp2
        refine bodyPost_ret (v := .tuple #[QV.zero.v, .int .i64 30]) (by simp [results, Try.results5, go_sem, r0, r1, r2, QV.v, QV.zero]) rfl ?_
        exact ⟨rfl, box_below3 (show w.heap.size ≤ w.heap.size + 1 + 1 by omega) T2.t.b _ _ _⟩
      · have hb0 : b ≠ [] := fun e => h0 (by rw [← h.rb.len, e]; rfl)
        have hbe : b.isEmpty = false := by cases b with | nil => exact absurd rfl hb0 | cons _ _ => rfl
        have hn1 : ((nb : Int) == 0) = false := by simp; omega
        rw [hbe]
        simp only [Bool.not_false, if_true]
        have hy := zof_ne e2 hb0
        have hq := of_rat (zof p a) (zof q b) hy
        have hs := mayZ_sgn e2
        have hzv := hz.2.2.1
        have hne : (zof q b).natAbs ≠ 0 := by omega
        have P1 := Lib.hid (fun W (hW : Below w.heap.size w W) => rTurned_any (w := W) (hz.1.below hW) (by omega))
        rw [← hzv] at P1
        have P2 := Lib.hid (fun W {A3 : Option Addr} {n3 c3 : Nat} {z : Int} (hW : Below w.heap.size w W) (h3 : ZNm W A3 n3 c3 z) (hk : n3 ≤ 400) => rLow_any (w := W) h3 (hz.2.1.below hW) hne hk hlb)
        have P3 := Lib.hid (fun W (hW : Below w.heap.size w W) => rLow_any (w := W) (hz.1.below hW) (hz.2.1.below hW) hne hla hlb)
        rw [← hzv] at P3
        have L1 : Hid ((limbs (-(zof p a)).natAbs).length ≤ 400) := by show _ ≤ _; rw [Int.natAbs_neg, hz.1.rd.len]; exact hla
        rw [← hq]
        cases q with
        | true =>
          rw [if_pos (of_decide_eq_true hs.symm)]
          clear h hm e1 e2 hz hla hlb hb0 hbe hy hq hs hzv hne P3 h0
          generalize (zof true b).natAbs = u at *
          generalize -(zof p a) = z at *
          unfold zv at *
          go_enter Try.func5, Try.ntmps5
          go_wp2_with fail
          refine (H1.out _ T0.t.b).mono ?_
          rintro e w1 ⟨rfl, hb⟩
          have T1 := T0.next hb
          clear hb T0
          have xa0 := T1.t.x.c0
          have xa1 := T1.t.x.c1
          have xb0 := T1.t.y.c0
          have xb1 := T1.t.y.c1
          have r0 := T1.r.c0
          have r1 := T1.r.c1
          have r2 := T1.r.c2
          have f0 := T1.r.f 0
          have f1 := T1.r.f 1
          have f2 := T1.r.f 2
          go_wp2_with fail
          refine (H2.out _ T1.t.b).mono ?_
          rintro e w2 ⟨rfl, hb⟩
          have T2 := T1.next hb
          clear hb T1
          clear xa0 xa1 xb0 xb1 r0 r1 r2 f0 f1 f2
          have xa0 := T2.t.x.c0
          have xa1 := T2.t.x.c1
          have xb0 := T2.t.y.c0
          have xb1 := T2.t.y.c1
          have r0 := T2.r.c0
          have r1 := T2.r.c1
          have r2 := T2.r.c2
          have f0 := T2.r.f 0
          have f1 := T2.r.f 1
          have f2 := T2.r.f 2
          have HT2 := Lib.hid (T2.next (Below.refl _ _).drew)
          go_wp2_with fail
          go_region_held3 (fun W' => W'.cell? ⟨w.heap.size, 0, none⟩ = some (.bool p) ∧ W'.cell? ⟨w.heap.size, 1, none⟩ = some (.slice A na ca) ∧ W'.cell? ⟨w.heap.size + 1, 0, none⟩ = some (.bool true) ∧ W'.cell? ⟨w.heap.size + 1, 1, none⟩ = some (.slice A2 nb cb)) (first | (refine ⟨?_, ?_, ?_, ?_⟩ <;> exact cell_far (cell_far (cell_far (by assumption) (by omega) _) (by omega) _) (by omega) _) | go_keep)
            (first
              | (go_at_call 13; refine (P1.out _ HT2.out.t.b).mono ?_; rintro e w3 ⟨A3, k3, c3, rfl, o3, hb⟩; have T3 := HT2.out.next hb; clear xa0 xa1 xb0 xb1 r0 r1 r2 f0 f1 f2; have xa0 := T3.t.x.c0; have xa1 := T3.t.x.c1; have xb0 := T3.t.y.c0; have xb1 := T3.t.y.c1; have r0 := T3.r.c0; have r1 := T3.r.c1; have r2 := T3.r.c2; have f0 := T3.r.f 0; have f1 := T3.r.f 1; have f2 := T3.r.f 2; unfold zV zv)
              | (go_at_call 12; refine (P2.out _ T3.t.b o3.nm (by have := o3.rd.2.1; have := L1.out; omega)).mono ?_; rintro e w4 ⟨vr, rfl, o9, hb⟩; have T4 := T3.next hb; clear xa0 xa1 xb0 xb1 r0 r1 r2 f0 f1 f2; have xa0 := T4.t.x.c0; have xa1 := T4.t.x.c1; have xb0 := T4.t.y.c0; have xb1 := T4.t.y.c1; have r0 := T4.r.c0; have r1 := T4.r.c1; have r2 := T4.r.c2; have f0 := T4.r.f 0; have f1 := T4.r.f 1; have f2 := T4.r.f 2; unfold QV.v))
          all_goals
            go_wp2
            refine bodyPost_ret (v := .tuple #[vr.v, .int .i64 0]) (by simp [results, Try.results5, go_sem, r0, r1, r2, QV.v]) rfl ?_
            exact ⟨vr, rfl, o9.box3 T3.r.lt (show w.heap.size ≤ w.heap.size + 1 + 1 by omega) _ _ _, box_below3 (show w.heap.size ≤ w.heap.size + 1 + 1 by omega) T4.t.b _ _ _⟩
        | false =>
          rw [if_neg (of_decide_eq_false hs.symm)]
          clear h hm e1 e2 hz hla hlb hb0 hbe hy hq hs hzv hne P1 P2 L1 h0
          generalize (zof false b).natAbs = u at *
          generalize mkRat (zof p a) u = x at *
          unfold zv at *
          go_enter Try.func5, Try.ntmps5
          go_wp2_with fail
          refine (H1.out _ T0.t.b).mono ?_
          rintro e w1 ⟨rfl, hb⟩
          have T1 := T0.next hb
          clear hb T0
          have xa0 := T1.t.x.c0
          have xa1 := T1.t.x.c1
          have xb0 := T1.t.y.c0
          have xb1 := T1.t.y.c1
          have r0 := T1.r.c0
          have r1 := T1.r.c1
          have r2 := T1.r.c2
          have f0 := T1.r.f 0
          have f1 := T1.r.f 1
          have f2 := T1.r.f 2
          go_wp2_with fail
          refine (H2.out _ T1.t.b).mono ?_
          rintro e w2 ⟨rfl, hb⟩
          have T2 := T1.next hb
          clear hb T1
          clear xa0 xa1 xb0 xb1 r0 r1 r2 f0 f1 f2
          have xa0 := T2.t.x.c0
          have xa1 := T2.t.x.c1
          have xb0 := T2.t.y.c0
          have xb1 := T2.t.y.c1
          have r0 := T2.r.c0
          have r1 := T2.r.c1
          have r2 := T2.r.c2
          have f0 := T2.r.f 0
          have f1 := T2.r.f 1
          have f2 := T2.r.f 2
          go_wp2_with fail
          refine (P3.out _ T2.t.b).mono ?_
          rintro e w3 ⟨vr, rfl, o9, hb⟩
          have T3 := T2.next hb
          clear hb
          clear xa0 xa1 xb0 xb1 r0 r1 r2 f0 f1 f2
          have xa0 := T3.t.x.c0
          have xa1 := T3.t.x.c1
          have xb0 := T3.t.y.c0
          have xb1 := T3.t.y.c1
          have r0 := T3.r.c0
          have r1 := T3.r.c1
          have r2 := T3.r.c2
          have f0 := T3.r.f 0
          have f1 := T3.r.f 1
          have f2 := T3.r.f 2
          unfold QV.v
          go_wp2
          refine bodyPost_ret (v := .tuple #[vr.v, .int .i64 0]) (by simp [results, Try.results5, go_sem, r0, r1, r2, QV.v]) rfl ?_
          exact ⟨vr, rfl, o9.box3 T2.r.lt (show w.heap.size ≤ w.heap.size + 1 + 1 by omega) _ _ _, box_below3 (show w.heap.size ≤ w.heap.size + 1 + 1 by omega) T3.t.b _ _ _⟩
end Go.Proofs.Ytbldimplddiheaa

/- rat: whole numbers of lists, products, Check. -/
namespace Go.Proofs.Ytbldimplddiheaa
open Go.RowKit Go.Shelf
set_option linter.unusedVariables false
set_option linter.unusedSimpArgs false

section
variable {A A2 D : Option Addr} {na ca nb cb nd cd u : Nat} {a d a2 d2 : List Nat} {w : World} {z y : Int} {v v2 : QV}
end
end Go.Proofs.Ytbldimplddiheaa

/- rat: allMayBe. -/
namespace Go.Proofs.Ytbldimplddiheaa
open Go.RowKit Go.Shelf
set_option linter.unusedVariables false
set_option linter.unusedSimpArgs false

/-- A row of two fractions. -/
abbrev twoRowQ (v v2 : QV) : Obj := .cells #[.bool v.p, .slice v.A v.n v.c, .slice v.D v.m v.d, .bool v2.p, .slice v2.A v2.n v2.c, .slice v2.D v2.m v2.d] qT
section
variable {A A2 : Option Addr} {na ca nb cb : Nat} {p q : Bool} {a b d a2 d2 : List Nat} {w : World} {v v2 : QV}
theorem one_E (p : Bool) (a : List Nat) (q : Bool) (b : List Nat) : (oneE p a = 0 → oneE q b = 0 → twoE p a q b = 0) ∧ (oneE p a ≠ 0 → twoE p a q b = oneE p a) ∧ (oneE q b ≠ 0 → twoE p a q b = oneE q b) := by
  unfold oneE twoE twoM
  cases mayZ p a <;> cases mayZ q b <;> decide
set_option maxRecDepth 100000 in
set_option maxHeartbeats 4000000 in
theorem allInt_any (g : Nat) (hg : w.heap[g]? = some (twoRow p A na ca q A2 nb cb)) (h : Z2 w A A2 na ca nb cb a b) : Calls Try.prog 8 #[.func (.func 9) #[] #[], .slice (some ⟨g, 0, none⟩) 2 2] w fun e w' => e = .returned (.int .i64 (twoE p a q b)) ∧ Below w.heap.size w w' := by
  have hgs : g < w.heap.size := (Array.getElem?_eq_some_iff.1 hg).1
  have HG : Hid (∀ W, Below w.heap.size w W → W.cell? ⟨g, 0, none⟩ = some (.bool p) ∧ W.cell? ⟨g, 1, none⟩ = some (.slice A na ca) ∧ W.cell? ⟨g, 2, none⟩ = some (.bool q) ∧ W.cell? ⟨g, 3, none⟩ = some (.slice A2 nb cb)) := fun W hb => ⟨cells_cell ((hb.block g hgs).trans hg) rfl, cells_cell ((hb.block g hgs).trans hg) rfl, cells_cell ((hb.block g hgs).trans hg) rfl, cells_cell ((hb.block g hgs).trans hg) rfl⟩
  have HC1 := Lib.hid (fun W (hW : Below w.heap.size w W) => checkZ_any (p := p) (w := W) (h.one.below hW))
  have HC2 := Lib.hid (fun W (hW : Below w.heap.size w W) => checkZ_any (p := q) (w := W) (h.two.below hW))
  unfold zv at HC1 HC2
  have TT := Lib.hid (one_E p a q b)
  generalize oneE p a = E1 at HC1 TT
  generalize oneE q b = E2 at HC2 TT
  generalize twoE p a q b = E3 at TT ⊢
  clear hg h
  go_enter Try.func8, Try.ntmps8
  go_wp2
  go_loopw [10] (fun i wr => ∃ k : Nat, k ≤ 2 ∧ i = .int .i64 (k : Int) ∧ ((1 ≤ k → E1 = 0) ∧ (2 ≤ k → E2 = 0)) ∧ Below w.heap.size w wr) (fun i _ => 2 - (intOf i).toNat)
  case atStart => exact ⟨0, by omega, rfl, ⟨fun h => absurd h (by omega), fun h => absurd h (by omega)⟩, Below.refl _ _⟩
  case round =>
    obtain ⟨k, hk, rfl, h1, hB⟩ := hrel
    have hc0 := (HG.out _ hB).1
    have hc1 := (HG.out _ hB).2.1
    have hc2 := (HG.out _ hB).2.2.1
    have hc3 := (HG.out _ hB).2.2.2
    obtain rfl | rfl | rfl : k = 0 ∨ k = 1 ∨ k = 2 := by omega
    · have HB := Lib.hid (below_then hB (bxb wr (zo p A na ca)))
      by_cases hE : E1 = 0
      · rw [hE] at HC1
        have HE := Lib.hid hE
        have H1 := Lib.hid h1
        clear hB h1 hE
        go_wp2_with fail
        refine (HC1.out _ HB.out).mono ?_
        rintro e w3 ⟨rfl, hb3⟩
        have hB3 := Lib.hid (below_then HB.out hb3)
        clear hb3
        go_wp2
        go_roundw
        case rel => exact ⟨1, by omega, rfl, ⟨fun _ => HE.out, fun h => absurd h (by omega)⟩, hB3.out⟩
        case measure => simp [intOf]
      · have HR : Hid (E3 = E1) := TT.out.2.1 hE
        have hE2 : ((E1 : Int) != 0) = true := by simpa using hE
        have hE3 : ((E1 : Int) == 0) = false := by simpa using hE
        clear hB h1 hE
        go_wp2_with fail
        refine (HC1.out _ HB.out).mono ?_
        rintro e w3 ⟨rfl, hb3⟩
        have hB3 := Lib.hid (below_then HB.out hb3)
        clear hb3
        go_wp2
        go_ret
        exact ⟨by rw [HR.out]; rfl, hB3.out⟩
    · have HB := Lib.hid (below_then hB (bxb wr (zo q A2 nb cb)))
      by_cases hE : E2 = 0
      · rw [hE] at HC2
        have HE := Lib.hid hE
        have H1 := Lib.hid h1
        clear hB h1 hE
        go_wp2_with fail
        refine (HC2.out _ HB.out).mono ?_
        rintro e w3 ⟨rfl, hb3⟩
        have hB3 := Lib.hid (below_then HB.out hb3)
        clear hb3
        go_wp2
        go_roundw
        case rel => exact ⟨2, by omega, rfl, ⟨fun _ => H1.out.1 (by omega), fun h => HE.out⟩, hB3.out⟩
        case measure => simp [intOf]
      · have HR : Hid (E3 = E2) := TT.out.2.2 hE
        have hE2 : ((E2 : Int) != 0) = true := by simpa using hE
        have hE3 : ((E2 : Int) == 0) = false := by simpa using hE
        clear hB h1 hE
        go_wp2_with fail
        refine (HC2.out _ HB.out).mono ?_
        rintro e w3 ⟨rfl, hb3⟩
        have hB3 := Lib.hid (below_then HB.out hb3)
        clear hb3
        go_wp2
        go_ret
        exact ⟨by rw [HR.out]; rfl, hB3.out⟩
    · have HR : Hid (E3 = 0) := TT.out.1 (h1.1 (by omega)) (h1.2 (by omega))
      have HB := Lib.hid hB
      clear h1 hB
      go_wp2
      go_ret
      exact ⟨by rw [HR.out]; rfl, HB.out⟩
theorem both_E (v v2 : QV) (a d a2 d2 : List Nat) : ((if mayQ v.p a d then (0 : Int) else 8) = 0 → (if mayQ v2.p a2 d2 then (0 : Int) else 8) = 0 → (if both2 v v2 a d a2 d2 then (0 : Int) else 8) = 0) ∧ ((if mayQ v.p a d then (0 : Int) else 8) ≠ 0 → (if both2 v v2 a d a2 d2 then (0 : Int) else 8) = (if mayQ v.p a d then (0 : Int) else 8)) ∧ ((if mayQ v2.p a2 d2 then (0 : Int) else 8) ≠ 0 → (if both2 v v2 a d a2 d2 then (0 : Int) else 8) = (if mayQ v2.p a2 d2 then (0 : Int) else 8)) := by
  unfold both2
  cases mayQ v.p a d <;> cases mayQ v2.p a2 d2 <;> decide
end
end Go.Proofs.Ytbldimplddiheaa

/- What a law holds of fractions that may be or not: lists; whole numbers beside them. -/
namespace Go.Proofs.Ytbldimplddiheaa
open Go.RowKit Go.Shelf
set_option linter.unusedVariables false
set_option linter.unusedSimpArgs false

/-- What a call answers, as a sign and two lists: none where it is an error. -/
def qlP (ok : Bool) (x : Rat) : Bool := ok && decide (x.num < 0)
def qlA (ok : Bool) (x : Rat) : List Nat := if ok then limbs x.num.natAbs else []
def qlD (ok : Bool) (x : Rat) : List Nat := if ok then limbs x.den else []
structure IL where
  g : Nat
  v : QV
  p : Bool
  a : List Nat
  d : List Nat
structure IL.ok (W : World) (i : IL) : Prop where
  b : BoxQ W i.g i.v
  q : Q1 W i.v i.a i.d
  s : i.v.p = i.p
def HeldL (W : World) (L : List IL) : Prop := ∀ i, i ∈ L → IL.ok W i
theorem IL.ok.below {W W' : World} {i : IL} (h : IL.ok W i) (hb : Below W.heap.size W W') : IL.ok W' i := ⟨h.b.next hb, h.q.below hb, h.s⟩
theorem HeldL.next {W W' : World} {L : List IL} (h : HeldL W L) (hb : Below W.heap.size W W') : HeldL W' L := fun i hi => (h i hi).below hb
theorem HeldL.cons {W : World} {L : List IL} {i : IL} (h : HeldL W L) (hi : IL.ok W i) : HeldL W (i :: L) := fun j hj => by
  rcases List.mem_cons.1 hj with rfl | hj
  · exact hi
  · exact h j hj
theorem heldl_nil (W : World) : HeldL W [] := fun i hi => by cases hi
theorem IL.new {W : World} {v : QV} {p : Bool} {a d : List Nat} (h : Q1 W v a d) (hp : v.p = p) : IL.ok (W.alloc v.o) ⟨W.heap.size, v, p, a, d⟩ := ⟨World.alloc_heap_new _ _, h.below (bxb _ _), hp⟩
/-- A call answered a fraction, or none, and an error. -/
def QAnsL (w : World) (p : Bool) (a d : List Nat) (E : Int) (e : Ending) (w' : World) : Prop :=
  ∃ v : QV, e = .returned (.tuple #[v.v, .int .i64 E]) ∧ Q1 w' v a d ∧ v.p = p ∧ Below w.heap.size w w'
theorem QAns.l {w w' : World} {ok : Bool} {x : Rat} {E : Int} {e : Ending} (h : QAns w ok x E e w') (hb : ok = true → BdQ 60 60 x) : QAnsL w (qlP ok x) (qlA ok x) (qlD ok x) (if ok then 0 else E) e w' := by
  unfold QAns at h
  cases ok with
  | true =>
    rw [if_pos rfl] at h
    obtain ⟨v, he, o, hw⟩ := h
    have hl := (hb rfl).len o
    exact ⟨v, he, ⟨o.a.nm.rd, o.d.nm.rd, hl.1, hl.2, o.a.nm.nc, o.a.nm.cm, o.d.nm.nc, o.d.nm.cm⟩, by rw [o.s]; rfl, hw⟩
  | false =>
    rw [if_neg (by decide)] at h
    exact ⟨QV.zero, h.1, ⟨rd_nil _ _, rd_nil _ _, Nat.zero_le _, Nat.zero_le _, Nat.zero_le _, by decide, Nat.zero_le _, by decide⟩, rfl, h.2⟩
theorem sameL {w : World} {v v2 : QV} {F : Nat} {p : Bool} {a d : List Nat} (hF : SameQIs F) (h1 : Q1 w v a d) (h2 : Q1 w v2 a d) (e1 : v.p = p) (e2 : v2.p = p) : Calls Try.prog F #[v.v, v2.v] w fun e w' => e = .returned (.bool true) ∧ Below w.heap.size w w' := by
  have h := hF v v2 a d a d w h1 h2
  rwa [decide_eq_true ⟨⟨e1.trans e2.symm, rfl⟩, rfl⟩] at h
end Go.Proofs.Ytbldimplddiheaa

/- rat: crossed, Floor, Ceil, Cmp, Same. -/
namespace Go.Proofs.Ytbldimplddiheaa
open Go.RowKit Go.Shelf
set_option linter.unusedVariables false
set_option linter.unusedSimpArgs false

/-- The world behind two fractions and two whole numbers. -/
structure CrossW (w W : World) (v v2 : QV) : Prop where
  t : DuoQ w W v v2
  z : BoxZ W (w.heap.size + 1 + 1) false none 0 0
  y : BoxZ W (w.heap.size + 1 + 1 + 1) false none 0 0
theorem CrossW.next {w W W' : World} {v v2 : QV} (h : CrossW w W v v2) (hb : Below W.heap.size W W') : CrossW w W' v v2 := ⟨h.t.next hb, h.z.below hb (Array.getElem?_eq_some_iff.1 h.z).1, h.y.below hb (Array.getElem?_eq_some_iff.1 h.y).1⟩
theorem cross_w (w : World) (v v2 : QV) : CrossW w ((((w.alloc v.o).alloc v2.o).alloc (zo false none 0 0)).alloc (zo false none 0 0)) v v2 := by
  have h1 := World.alloc_heap_new ((w.alloc v.o).alloc v2.o) (zo false none 0 0)
  have h2 := World.alloc_heap_new (((w.alloc v.o).alloc v2.o).alloc (zo false none 0 0)) (zo false none 0 0)
  rw [World.size_alloc, World.size_alloc] at h1
  rw [World.size_alloc, World.size_alloc, World.size_alloc] at h2
  have h3 : BoxZ (((w.alloc v.o).alloc v2.o).alloc (zo false none 0 0)) (w.heap.size + 1 + 1) false none 0 0 := h1
  exact ⟨((duo_q w v v2).next (bxb _ _)).next (bxb _ _), h3.below (bxb _ _) (Array.getElem?_eq_some_iff.1 h3).1, h2⟩
/-- A call answered two whole numbers, in new memory. -/
def ZTwo (w : World) (z y : Int) (e : Ending) (w' : World) : Prop := ∃ (A : Option Addr) (n c : Nat) (A2 : Option Addr) (m d : Nat), e = .returned (.tuple #[zV z A n c, zV y A2 m d]) ∧ Own w' w.heap.size (.slice A n c) (limbs z.natAbs) ∧ Own w' w.heap.size (.slice A2 m d) (limbs y.natAbs) ∧ Below w.heap.size w w'
theorem own_box4 {w1 w4 : World} {B g g2 : Nat} {v : Value} {l : List Nat} (h1 : g < w1.heap.size) (h2 : g2 < w1.heap.size) (hg : B ≤ g) (hg2 : B ≤ g2) (o : Own w4 w1.heap.size v l) (u1 u2 u3 u4 : Value) : Own ((((w4.setCell ⟨g, 0, none⟩ u1).setCell ⟨g, 1, none⟩ u2).setCell ⟨g2, 0, none⟩ u3).setCell ⟨g2, 1, none⟩ u4) B v l :=
  own_mono (own_far (own_far (own_far (own_far (own_mono o (show max g g2 + 1 ≤ _ by omega)) (p := ⟨g, 0, none⟩) (show g < max g g2 + 1 by omega) _) (p := ⟨g, 1, none⟩) (show g < max g g2 + 1 by omega) _) (p := ⟨g2, 0, none⟩) (show g2 < max g g2 + 1 by omega) _) (p := ⟨g2, 1, none⟩) (show g2 < max g g2 + 1 by omega) _) (by omega)
section
variable {A A2 D E : Option Addr} {na ca nb cb nd cd ne ce u t : Nat} {a d a2 d2 : List Nat} {w : World} {z : Int} {x y : Rat} {v v2 : QV}
end
end Go.Proofs.Ytbldimplddiheaa

/- rat: Floor, Ceil, Cmp, Same. -/
namespace Go.Proofs.Ytbldimplddiheaa
open Go.RowKit Go.Shelf
set_option linter.unusedVariables false
set_option linter.unusedSimpArgs false

/-- The world behind a fraction and a whole number. -/
structure UnoZ (w W : World) (v : QV) : Prop where
  t : UnoQ w W v
  z : BoxZ W (w.heap.size + 1) false none 0 0
theorem UnoZ.next {w W W' : World} {v : QV} (h : UnoZ w W v) (hb : Below W.heap.size W W') : UnoZ w W' v := ⟨h.t.next hb, h.z.below hb (Array.getElem?_eq_some_iff.1 h.z).1⟩
theorem uno_z (w : World) (v : QV) : UnoZ w ((w.alloc v.o).alloc (zo false none 0 0)) v := by
  have h1 := World.alloc_heap_new (w.alloc v.o) (zo false none 0 0)
  rw [World.size_alloc] at h1
  exact ⟨(uno_q w v).next (bxb _ _), h1⟩
section
variable {A A2 D E : Option Addr} {na ca nb cb nd cd ne ce u t : Nat} {a d a2 d2 : List Nat} {w : World} {z : Int} {x y : Rat} {v v2 : QV}
end
end Go.Proofs.Ytbldimplddiheaa

/- rat: lowest, Of. -/
namespace Go.Proofs.Ytbldimplddiheaa
open Go.RowKit Go.Shelf
set_option linter.unusedVariables false
set_option linter.unusedSimpArgs false

/-- What a greatest common divisor leaves of two numbers. -/
theorem low_parts (z : Int) {y : Int} (hy : y ≠ 0) : (if y < 0 then -((Nat.gcd z.natAbs y.natAbs : Nat) : Int) else ((Nat.gcd z.natAbs y.natAbs : Nat) : Int)) ∣ z ∧ Int.fdiv z (if y < 0 then -((Nat.gcd z.natAbs y.natAbs : Nat) : Int) else ((Nat.gcd z.natAbs y.natAbs : Nat) : Int)) = (Rat.divInt z y).num ∧ (Rat.divInt z y).den = y.natAbs / Nat.gcd z.natAbs y.natAbs := by
  have hu : y.natAbs ≠ 0 := by omega
  have hG : 0 < Nat.gcd z.natAbs y.natAbs := Nat.gcd_pos_of_pos_right _ (by omega)
  have hm := mk_parts (if y < 0 then -z else z) hu
  rw [of_rat z y hy] at hm
  have hk : (if y < 0 then -z else z).natAbs = z.natAbs := by split <;> omega
  rw [hk] at hm
  obtain ⟨m1, m2, m3⟩ := hm
  have hd : ((Nat.gcd z.natAbs y.natAbs : Nat) : Int) ∣ z := Int.ofNat_dvd_left.2 (Nat.gcd_dvd_left _ _)
  generalize Nat.gcd z.natAbs y.natAbs = G at *
  generalize Rat.divInt z y = x at *
  obtain ⟨k, rfl⟩ := hd
  have hk2 : ((G : Int) * k).natAbs / G = k.natAbs := by rw [Int.natAbs_mul, Int.natAbs_natCast, Nat.mul_div_cancel_left _ hG]
  rw [hk2] at m1
  have hG2 : (0 : Int) < (G : Int) := by omega
  have hs := pos_mul_neg (k := k) hG2
  have hs2 := pos_mul_neg (k := -k) hG2
  rw [Int.mul_neg] at hs2
  have m4 := decide_eq_decide.1 m2
  refine ⟨?_, ?_, m3⟩
  · split
    · exact Int.neg_dvd.2 ⟨k, rfl⟩
    · exact ⟨k, rfl⟩
  · by_cases hy0 : y < 0
    · rw [if_pos hy0] at m4 ⊢
      rw [show (G : Int) * k = -(G : Int) * -k by rw [Int.neg_mul_neg], Int.mul_fdiv_cancel_left _ (by omega)]
      omega
    · rw [if_neg hy0] at m4 ⊢
      rw [Int.mul_fdiv_cancel_left _ (by omega)]
      omega
theorem boxz_new (w : World) (p : Bool) (A : Option Addr) (n c : Nat) : BoxZ (w.alloc (zo p A n c)) w.heap.size p A n c := World.alloc_heap_new _ _
section
variable {A A2 : Option Addr} {na ca nb cb : Nat} {p q : Bool} {a b : List Nat} {w : World} {z y : Int} {v v2 : QV}
theorem exactT {t g : Int} (ha : ZNm w A na ca z) (hb : Nm w A2 nb cb g.natAbs) (l1 : na ≤ 400) (l2 : nb ≤ 400) (hq : q = decide (g < 0)) (h0 : g ≠ 0) (hd : g ∣ z) (ht : Int.fdiv z g = t) :
    Calls Try.prog 17 #[.agg #[.bool (decide (z < 0)), .slice A na ca], .agg #[.bool q, .slice A2 nb cb]] w (ZAns w t 0) := by
  subst hq
  subst ht
  have h := exactN ha (show ZNm w A2 nb cb g from hb) l1 l2 h0
  rw [if_pos hd, if_pos hd] at h
  exact h
set_option maxRecDepth 100000 in
set_option maxHeartbeats 8000000 in
theorem lowest_any (ha : ZNm w A na ca z) (hb : ZNm w A2 nb cb y) (hy : y ≠ 0) (l1 : na ≤ 400) (l2 : nb ≤ 400) : Calls Try.prog 10 #[zV z A na ca, zV y A2 nb cb] w (QOne w (Rat.divInt z y)) := by
  obtain ⟨m1, m2, m3⟩ := low_parts z hy
  have hG : 0 < Nat.gcd z.natAbs y.natAbs := Nat.gcd_pos_of_pos_right _ (by omega)
  have hlen : (limbs (Nat.gcd z.natAbs y.natAbs)).length ≤ 400 := by
    have h1 := length_of_le (words_limbs y.natAbs) (n := Nat.gcd z.natAbs y.natAbs) (by rw [val_limbs]; exact Nat.gcd_le_right _ (by omega))
    have h2 := hb.rd.len
    omega
  have T0 := two_zq w (decide (z < 0)) A na ca (decide (y < 0)) A2 nb cb QV.zero
  have P1 := Lib.hid (fun W (hW : Below w.heap.size w W) => gcd_nm gcd_is (w := W) (ha.below hW) (hb.below hW) l1 l2)
  have P2 : Hid (∀ (W : World) {A3 : Option Addr} {k c : Nat}, Below w.heap.size w W → Nm W A3 k c (Nat.gcd z.natAbs y.natAbs) → k ≤ 400 → Calls Try.prog 17 #[.agg #[.bool (decide (z < 0)), .slice A na ca], .agg #[.bool (decide (y < 0)), .slice A3 k c]] W (ZAns W (Rat.divInt z y).num 0)) := fun W A3 k c hW h3 l3 =>
    exactT (g := if y < 0 then -((Nat.gcd z.natAbs y.natAbs : Nat) : Int) else ((Nat.gcd z.natAbs y.natAbs : Nat) : Int)) (ha.below hW) (by rw [show (if y < 0 then -((Nat.gcd z.natAbs y.natAbs : Nat) : Int) else ((Nat.gcd z.natAbs y.natAbs : Nat) : Int)).natAbs = Nat.gcd z.natAbs y.natAbs by split <;> omega]; exact h3) l1 l3 (by rw [decide_eq_decide]; split <;> omega) (by split <;> omega) m1 m2
  have P3 : Hid (∀ (W : World) {A3 : Option Addr} {k c : Nat}, Below w.heap.size w W → Nm W A3 k c (Nat.gcd z.natAbs y.natAbs) → k ≤ 400 → Calls Try.prog 18 #[.slice A2 nb cb, .slice A3 k c] W (Answers W (limbs (Rat.divInt z y).den) 0)) := fun W A3 k c hW h3 l3 => by
    rw [m3]
    exact exq_nm (hb.below hW) h3 (by omega) (Nat.mod_eq_zero_of_dvd (Nat.gcd_dvd_right _ _)) (by omega) (by omega)
  have HL := Lib.hid hlen
  clear ha hb l1 l2 m1 m2 m3 hG hlen hy
  generalize Nat.gcd z.natAbs y.natAbs = G at *
  generalize Rat.divInt z y = x at *
  unfold zV zv QOne Answers ZAns at *
  have zx0 := T0.t.x.c0
  have zx1 := T0.t.x.c1
  have zy0 := T0.t.y.c0
  have zy1 := T0.t.y.c1
  have qr0 := T0.r.c0
  have qr1 := T0.r.c1
  have qr2 := T0.r.c2
  have fr0 := T0.r.f 0
  have fr1 := T0.r.f 1
  have fr2 := T0.r.f 2
  go_enter Try.func10, Try.ntmps10
  go_wp2_with fail
  refine (P1.out _ T0.t.b).mono ?_
  rintro e w1 ⟨A3, k3, c3, rfl, o3, hb⟩
  have l3 : k3 ≤ 400 := by have := o3.rd.2.1; have := HL.out; omega
  have T1 := T0.next hb
  clear hb
  clear zx0 zx1 zy0 zy1 qr0 qr1 qr2 fr0 fr1 fr2
  have zx0 := T1.t.x.c0
  have zx1 := T1.t.x.c1
  have zy0 := T1.t.y.c0
  have zy1 := T1.t.y.c1
  have qr0 := T1.r.c0
  have qr1 := T1.r.c1
  have qr2 := T1.r.c2
  have fr0 := T1.r.f 0
  have fr1 := T1.r.f 1
  have fr2 := T1.r.f 2
  go_wp2_with fail
  refine (P2.out _ T1.t.b o3.nm l3).mono ?_
  rintro e w2 ⟨A4, k4, c4, rfl, o4, hb⟩
  have T2 := T1.next (below_then hb (bxb _ (zo (decide (x.num < 0)) A4 k4 c4)))
  have o3b := o3.below (below_then hb (bxb _ (zo (decide (x.num < 0)) A4 k4 c4)))
  have o4b := o4.below (bxb _ (zo (decide (x.num < 0)) A4 k4 c4))
  have hbx := boxz_new w2 (decide (x.num < 0)) A4 k4 c4
  clear hb o3 o4
  clear zx0 zx1 zy0 zy1 qr0 qr1 qr2 fr0 fr1 fr2
  unfold zV zv
  have zx0 := T2.t.x.c0
  have zx1 := T2.t.x.c1
  have zy0 := T2.t.y.c0
  have zy1 := T2.t.y.c1
  have qr0 := T2.r.c0
  have qr1 := T2.r.c1
  have qr2 := T2.r.c2
  have fr0 := T2.r.f 0
  have fr1 := T2.r.f 1
  have fr2 := T2.r.f 2
  go_wp2_with fail
  refine (P3.out _ T2.t.b o3b.nm l3).mono ?_
  rintro e w3 ⟨A5, k5, c5, rfl, o5, hb⟩
  have T3 := T2.next hb
  have o4c := o4b.below hb
  have hbx3 := hbx.below hb (by simp)
  clear hb o4b
  clear zx0 zx1 zy0 zy1 qr0 qr1 qr2 fr0 fr1 fr2
  have zx0 := T3.t.x.c0
  have zx1 := T3.t.x.c1
  have zy0 := T3.t.y.c0
  have zy1 := T3.t.y.c1
  have qr0 := T3.r.c0
  have qr1 := T3.r.c1
  have qr2 := T3.r.c2
  have fr0 := T3.r.f 0
  have fr1 := T3.r.f 1
  have fr2 := T3.r.f 2
  have t0 := hbx3.c0
  have t1 := hbx3.c1
  have hG := Lib.hid (And.intro T1.r.lt T2.r.lt)
  go_wp2
  refine bodyPost_ret (v := (QV.mk (decide (x.num < 0)) A4 k4 c4 A5 k5 c5).v) (by simp [results, Try.results10, go_sem, qr0, qr1, qr2, QV.v]) rfl ?_
  exact ⟨_, rfl, ⟨rfl, own_box3 hG.out.1 (show w.heap.size ≤ w.heap.size + 1 + 1 by omega) o4c _ _ _, own_box3 hG.out.2 (show w.heap.size ≤ w.heap.size + 1 + 1 by omega) o5 _ _ _⟩, box_below3 (show w.heap.size ≤ w.heap.size + 1 + 1 by omega) T3.t.b _ _ _⟩
/-- What stands behind allMayBe of two whole numbers. -/
theorem allInt_at (h : Z2 w A A2 na ca nb cb a b) : Calls Try.prog 8 #[.func (.func 9) #[] #[], .slice (some ⟨w.heap.size + 1 + 1 + 1, 0, none⟩) 2 2] ((((w.alloc (zo p A na ca)).alloc (zo q A2 nb cb)).alloc QV.zero.o).alloc (.cells #[.bool p, .slice A na ca, .bool q, .slice A2 nb cb] zT)) fun e w' => e = .returned (.int .i64 (twoE p a q b)) ∧ TwoZQ w w' p A na ca q A2 nb cb QV.zero := by
  have T1 := (two_zq w p A na ca q A2 nb cb QV.zero).next (bxb _ (.cells #[.bool p, .slice A na ca, .bool q, .slice A2 nb cb] zT))
  have hg := World.alloc_heap_new (((w.alloc (zo p A na ca)).alloc (zo q A2 nb cb)).alloc QV.zero.o) (.cells #[.bool p, .slice A na ca, .bool q, .slice A2 nb cb] zT)
  rw [World.size_alloc, World.size_alloc, World.size_alloc] at hg
  refine (allInt_any (w.heap.size + 1 + 1 + 1) hg ⟨h.ra.below T1.t.b, h.rb.below T1.t.b, h.la, h.lb, h.ca1, h.ca2, h.cb1, h.cb2⟩).mono ?_
  rintro e w1 ⟨rfl, hb⟩
  exact ⟨rfl, T1.next hb⟩
set_option maxRecDepth 100000 in
set_option maxHeartbeats 8000000 in
theorem qof_is : OfQIs 4 := fun A A2 na ca nb cb p q a b w h => by
  have H1 := Lib.hid (allInt_at (p := p) (q := q) h)
  unfold QAns
  cases hm : twoM p a q b with
  | false =>
    rw [twoE_no hm] at H1
    simp only [Bool.false_eq_true, if_false, Bool.false_and]
    clear h hm
    unfold zv QV.zero QV.o at *
    go_enter Try.func4, Try.ntmps4
    go_wp2_with fail
    refine H1.out.mono ?_
    rintro e w1 ⟨rfl, T1⟩
    have zx0 := T1.t.x.c0
    have zx1 := T1.t.x.c1
    have zy0 := T1.t.y.c0
    have zy1 := T1.t.y.c1
    have qr0 := T1.r.c0
    have qr1 := T1.r.c1
    have qr2 := T1.r.c2
    have fr0 := T1.r.f 0
    have fr1 := T1.r.f 1
    have fr2 := T1.r.f 2
    go_wp2
    refine bodyPost_ret (v := .tuple #[QV.zero.v, .int .i64 8]) (by simp [results, Try.results4, go_sem, qr0, qr1, qr2, QV.v, QV.zero]) rfl ?_
    exact ⟨rfl, box_below3 (show w.heap.size ≤ w.heap.size + 1 + 1 by omega) T1.t.b _ _ _⟩
  | true =>
    rw [twoE_ok hm] at H1
    simp only [Bool.true_and, if_true]
    by_cases h0 : b = []
    · have hE : (!b.isEmpty) = false := by rw [h0]; rfl
      rw [hE]
      have hn : nb = 0 := by rw [← h.rb.len, h0]; rfl
      subst hn
      simp only [Bool.false_eq_true, if_false]
      clear h hm h0 hE
      unfold zv QV.zero QV.o at *
      go_enter Try.func4, Try.ntmps4
      go_wp2_with fail
      refine H1.out.mono ?_
      rintro e w1 ⟨rfl, T1⟩
      have zx0 := T1.t.x.c0
      have zx1 := T1.t.x.c1
      have zy0 := T1.t.y.c0
      have zy1 := T1.t.y.c1
      have qr0 := T1.r.c0
      have qr1 := T1.r.c1
      have qr2 := T1.r.c2
      have fr0 := T1.r.f 0
      have fr1 := T1.r.f 1
      have fr2 := T1.r.f 2
      go_wp2
      refine bodyPost_ret (v := .tuple #[QV.zero.v, .int .i64 30]) (by simp [results, Try.results4, go_sem, qr0, qr1, qr2, QV.v, QV.zero]) rfl ?_
      exact ⟨rfl, box_below3 (show w.heap.size ≤ w.heap.size + 1 + 1 by omega) T1.t.b _ _ _⟩
    · have hE : (!b.isEmpty) = true := by simpa using h0
      rw [hE]
      simp only [if_true]
      have hm2 := twoM_iff.1 hm
      have hz := h.num hm
      have hn : ((nb : Int) == 0) = false := by
        have h1 := h.rb.len
        have h2 : b.length ≠ 0 := fun e => h0 (List.eq_nil_of_length_eq_zero e)
        simp
        omega
      have P := Lib.hid (fun W (hW : Below w.heap.size w W) => lowest_any (w := W) (hz.1.below hW) (hz.2.1.below hW) (zof_ne hm2.2 h0) h.la h.lb)
      unfold zV at P
      rw [← mayZ_sgn hm2.1, ← mayZ_sgn hm2.2] at P
      generalize Rat.divInt (zof p a) (zof q b) = x at *
      clear h hm h0 hE hm2 hz
      unfold zv QV.zero QV.o QOne at *
      go_enter Try.func4, Try.ntmps4
      go_wp2_with fail
      refine H1.out.mono ?_
      rintro e w1 ⟨rfl, T1⟩
      have zx0 := T1.t.x.c0
      have zx1 := T1.t.x.c1
      have zy0 := T1.t.y.c0
      have zy1 := T1.t.y.c1
      have qr0 := T1.r.c0
      have qr1 := T1.r.c1
      have qr2 := T1.r.c2
      have fr0 := T1.r.f 0
      have fr1 := T1.r.f 1
      have fr2 := T1.r.f 2
      go_wp2_with fail
      refine (P.out _ T1.t.b).mono ?_
      rintro e w2 ⟨vr, rfl, o9, hb⟩
      have T2 := T1.next hb
      have hG := Lib.hid T1.r.lt
      clear hb
      clear zx0 zx1 zy0 zy1 qr0 qr1 qr2 fr0 fr1 fr2
      have zx0 := T2.t.x.c0
      have zx1 := T2.t.x.c1
      have zy0 := T2.t.y.c0
      have zy1 := T2.t.y.c1
      have qr0 := T2.r.c0
      have qr1 := T2.r.c1
      have qr2 := T2.r.c2
      have fr0 := T2.r.f 0
      have fr1 := T2.r.f 1
      have fr2 := T2.r.f 2
      unfold QV.v
      go_wp2
      refine bodyPost_ret (v := .tuple #[vr.v, .int .i64 0]) (by simp [results, Try.results4, go_sem, qr0, qr1, qr2, QV.v]) rfl ?_
      exact ⟨vr, rfl, o9.box3 hG.out (show w.heap.size ≤ w.heap.size + 1 + 1 by omega) _ _ _, box_below3 (show w.heap.size ≤ w.heap.size + 1 + 1 by omega) T2.t.b _ _ _⟩
end
end Go.Proofs.Ytbldimplddiheaa

/- The law RatOf. -/
namespace Go.Proofs.Ytbldimplddiheaa
open Go.RowKit Go.Shelf
set_option linter.unusedVariables false
set_option linter.unusedSimpArgs false

/-- A call answered a fraction, or none, in new memory, and an error. -/
def QAnsO (w : World) (p : Bool) (a d : List Nat) (E : Int) (e : Ending) (w' : World) : Prop :=
  ∃ v : QV, e = .returned (.tuple #[v.v, .int .i64 E]) ∧ Own w' w.heap.size (.slice v.A v.n v.c) a ∧ Own w' w.heap.size (.slice v.D v.m v.d) d ∧ v.p = p ∧ v.n ≤ 60 ∧ v.m ≤ 60 ∧ Below w.heap.size w w'
theorem QAns.o {w w' : World} {ok : Bool} {x : Rat} {E : Int} {e : Ending} (h : QAns w ok x E e w') (hb : ok = true → BdQ 60 60 x) : QAnsO w (qlP ok x) (qlA ok x) (qlD ok x) (if ok then 0 else E) e w' := by
  unfold QAns at h
  cases ok with
  | true =>
    rw [if_pos rfl] at h
    obtain ⟨v, he, o, hw⟩ := h
    have hl := (hb rfl).len o
    exact ⟨v, he, o.a, o.d, by rw [o.s]; rfl, hl.1, hl.2, hw⟩
  | false =>
    rw [if_neg (by decide)] at h
    exact ⟨QV.zero, h.1, own_nil _ _, own_nil _ _, rfl, Nat.zero_le _, Nat.zero_le _, h.2⟩
theorem BdQ.divIntO {k m : Nat} {z u : Int} (h1 : Bd k z) (h2 : Bd m u) (hu : u ≠ 0) : BdQ k m (Rat.divInt z u) := by
  rw [← of_rat z u hu]
  refine BdQ.mk ?_ h2 (by omega)
  split
  · exact h1.neg
  · exact h1
theorem wrapE (E : Int) (h1 : 0 ≤ E) (h2 : E ≤ 1000) : IntKind.i64.wrap E = E := by rw [IntKind.wrap_i64]; omega
section
variable (A A2 : Option Addr) (na ca nb cb : Nat) (p q : Bool) (a b : List Nat) (w : World)
theorem ofTwins (h : Z2 w A A2 na ca nb cb a b) (l1 : na ≤ 3) (l2 : nb ≤ 3) : ∃ (P : Bool) (LA LD : List Nat) (E : Int), IntKind.i64.wrap E = E ∧
    (∀ (W : World) (Ao : Option Addr) (co : Nat), Rd W Ao na a → Rd W A2 nb b → (na ≤ co ∧ co ≤ 9223372036854775807) → Calls Try.prog 4 #[zv p Ao na co, zv q A2 nb cb] W (QAnsO W P LA LD E)) ∧
    (∀ W : World, Rd W A na a → Rd W A2 nb b → Calls Try.prog 5 #[zv p A na ca, zv q A2 nb cb] W (QAnsL W P LA LD E)) := by
  have hb : (twoM p a q b && !b.isEmpty) = true → BdQ 60 60 (Rat.divInt (zof p a) (zof q b)) := fun hm => by
    have hm2 : twoM p a q b = true ∧ b ≠ [] := by rw [Bool.and_eq_true] at hm; exact ⟨hm.1, by simpa using hm.2⟩
    have hz := h.num hm2.1
    exact (BdQ.divIntO (Bd.of hz.1 l1) (Bd.of hz.2.1 l2) (zof_ne (twoM_iff.1 hm2.1).2 hm2.2)).mono (by omega) (by omega)
  refine ⟨qlP (twoM p a q b && !b.isEmpty) (Rat.divInt (zof p a) (zof q b)), qlA (twoM p a q b && !b.isEmpty) (Rat.divInt (zof p a) (zof q b)), qlD (twoM p a q b && !b.isEmpty) (Rat.divInt (zof p a) (zof q b)), if (twoM p a q b && !b.isEmpty) then 0 else (if twoM p a q b then 30 else 8), wrapE _ (by split <;> (try split) <;> omega) (by split <;> (try split) <;> omega), fun W Ao co r1 r2 hc => ?_, fun W r1 r2 => ?_⟩
  · exact (qof_is Ao A2 na co nb cb p q a b W ⟨r1, r2, h.la, h.lb, hc.1, hc.2, h.cb1, h.cb2⟩).mono fun e w' h => h.o hb
  · exact (rOfQ_any A A2 na ca nb cb p q a b W ⟨r1, r2, h.la, h.lb, h.ca1, h.ca2, h.cb1, h.cb2⟩).mono fun e w' h => h.l hb
set_option maxRecDepth 100000 in
set_option maxHeartbeats 8000000 in
theorem ofQ_short (h : Z2 w A A2 na ca nb cb a b) (l1 : na ≤ 3) (l2 : nb ≤ 3) (hca : A = none → na = 0 ∧ ca = 0) :
    Calls Try.prog 3 #[zv p A na ca, zv q A2 nb cb] w fun e w' => e = .returned (.bool true) ∧ Below w.heap.size w w' := by
  obtain ⟨i0, hi0, hz0, hz1, hz2⟩ := info_parts u64_info
  obtain ⟨P, LA, LD, E, wE, HO, HR⟩ := ofTwins A A2 na ca nb cb p q a b w h l1 l2
  have HO := Lib.hid HO
  have HR := Lib.hid HR
  have HCA := Lib.hid hca
  have T0 := two_box w p A na ca q A2 nb cb
  have HSame : Hid (SameQIs 6) := fun _ _ _ _ _ _ _ h1 h2 => rSameQ_any h1 h2
  have hra := h.ra.below T0.b
  have hrb := h.rb.below T0.b
  have hl1 : na ≤ 100 := by omega
  have g1 : ¬ (3 : Int) < (na : Int) := by omega
  have g2 : ¬ (3 : Int) < (nb : Int) := by omega
  have QA := Lib.hid (And.intro h.ca1 h.ca2)
  have QB := Lib.hid (And.intro h.cb1 h.cb2)
  have ltA : 0 < na → ∀ b off, A = some ⟨b, off, none⟩ → b < w.heap.size := h.ra.lt
  clear hca h
  unfold zv at *
  have xa0 := T0.x.c0
  have xa1 := T0.x.c1
  have xb0 := T0.y.c0
  have xb1 := T0.y.c1
  go_enter Try.func3, Try.ntmps3
  go_wp2_with (at_builtin; go_loud (refine wpList_copy rfl _ _ 23 rfl i0 Try.underlying23 hi0 hz0 hz1 hz2 (by rw [World.size_alloc, World.size_alloc]; rfl) A na ca a rfl HCA.out hra hl1 ?_); intro Ao co w1 hown hb1; have T1 := T0.next hb1; clear xa0 xa1 xb0 xb1; have xa0 := T1.x.c0; have xa1 := T1.x.c1; have xb0 := T1.y.c0; have xb1 := T1.y.c1)
  replace hra := hra.below hb1
  replace hrb := hrb.below hb1
  have hro := hown.rd.1
  have qo : na ≤ co ∧ co ≤ 9223372036854775807 := ⟨hown.rd.2.2.1, hown.rd.2.2.2⟩
  clear hown hb1 T0
  have ltO := hro.lt
  refine (HO.out w1 Ao co hro hrb qo).mono ?_
  rintro e w2 ⟨⟨vp, vA, vn, vc, vD, vm, vd⟩, rfl, oa, od, hp, k1, k2, hb2⟩
  dsimp only [QV.v] at oa od hp k1 k2 ⊢
  subst hp
  have T2 := T1.next (below_then hb2 (bxb _ (QV.mk vp vA vn vc vD vm vd).o))
  replace hra := hra.below (below_then hb2 (bxb _ (QV.mk vp vA vn vc vD vm vd).o))
  replace hrb := hrb.below (below_then hb2 (bxb _ (QV.mk vp vA vn vc vD vm vd).o))
  replace hro := hro.below (below_then hb2 (bxb _ (QV.mk vp vA vn vc vD vm vd).o))
  have hga : ∀ k, (Value.slice vA vn vc).ownBlock = some k → w1.heap.size ≤ k ∧ k < w2.heap.size := fun k e => oa.1.lt k e
  have BA : BoxQ (w2.alloc (QV.mk vp vA vn vc vD vm vd).o) w2.heap.size (QV.mk vp vA vn vc vD vm vd) := World.alloc_heap_new _ _
  have Q2 : Q1 (w2.alloc (QV.mk vp vA vn vc vD vm vd).o) (QV.mk vp vA vn vc vD vm vd) LA LD := (⟨oa.rd.1, od.rd.1, k1, k2, oa.rd.2.2.1, oa.rd.2.2.2, od.rd.2.2.1, od.rd.2.2.2⟩ : Q1 w2 (QV.mk vp vA vn vc vD vm vd) LA LD).below (bxb _ _)
  replace oa := oa.below (bxb _ (QV.mk vp vA vn vc vD vm vd).o)
  unfold QV.o at T2 BA Q2 oa hra hrb hro
  have zs0 := (Array.getElem?_eq_some_iff.1 (T1.next hb2).x).1
  have zs1 := (Array.getElem?_eq_some_iff.1 (T1.next hb2).y).1
  clear hb2 od xa0 xa1 xb0 xb1
  have xa0 := T2.x.c0
  have xa1 := T2.x.c1
  have xb0 := T2.y.c0
  have xb1 := T2.y.c1
  go_wp2_with fail
  refine (HR.out _ hra hrb).mono ?_
  rintro e w3 ⟨v3, rfl, Q3, hp3, hb3⟩
  replace hp3 := Lib.hid hp3
  have T3 := T2.next (below_then hb3 (bxb _ v3.o))
  replace hra := hra.below (below_then hb3 (bxb _ v3.o))
  replace hro := hro.below (below_then hb3 (bxb _ v3.o))
  replace oa := oa.below (below_then hb3 (bxb _ v3.o))
  replace BA := BA.next (below_then hb3 (bxb _ v3.o))
  replace Q2 := Q2.below (below_then hb3 (bxb _ v3.o))
  have B3 : BoxQ (w3.alloc v3.o) w3.heap.size v3 := World.alloc_heap_new _ _
  replace Q3 := Q3.below (bxb _ v3.o)
  unfold QV.o at T3 BA Q2 Q3 B3 oa hra hro
  have zs2 : w2.heap.size < w3.heap.size := by have := hb3.size; rw [World.size_alloc] at this; omega
  clear hb3 hrb xa0 xa1 xb0 xb1 T2
  have ya0 := BA.c0
  have ya1 := BA.c1
  have ya2 := BA.c2
  have yb0 := B3.c0
  have yb1 := B3.c1
  have yb2 := B3.c2
  unfold QV.v
  go_wp2_with fail
  refine (sameL HSame.out Q2 Q3 rfl hp3.out).mono ?_
  rintro e w4 ⟨rfl, hb4⟩
  have T4 := T3.next hb4
  replace hra := hra.below hb4
  replace hro := hro.below hb4
  replace oa := oa.below hb4
  replace BA := BA.next hb4
  clear hb4 Q2 Q3 B3 T3 ya0 ya1 ya2 yb0 yb1 yb2
  have hlt1 : w.heap.size < w1.heap.size := (Array.getElem?_eq_some_iff.1 T1.x).1
  have hle1 : w.heap.size ≤ w1.heap.size := T1.b.size
  have ya0 := BA.c0
  have ya1 := BA.c1
  have ya2 := BA.c2
  go_wp2_with fail
  go_loopw [11] (fun i W => ∃ (k : Nat) (l : List Nat), k ≤ vn ∧ i = .int .i64 (k : Int) ∧ Own W w1.heap.size (.slice vA vn vc) l ∧ KeepsOf (But w4.heap.size (.slice vA vn vc)) w4 W ∧ Below w.heap.size w W) (fun i _ => vn - (intOf i).toNat)
  case atStart => exact ⟨0, _, by omega, rfl, oa, KeepsOf.refl _, T4.b⟩
  case round =>
    obtain ⟨k, l, hk, rfl, ol, hkeep, hB⟩ := hrel
    have BW : BoxQ wr w2.heap.size (QV.mk vp vA vn vc vD vm vd) := (hkeep.2 _ ⟨BA.lt, fun e => by have := (hga _ e).2; omega⟩).trans BA
    clear ya0 ya1 ya2
    have ya0 := BW.c0
    have ya1 := BW.c1
    have ya2 := BW.c2
    by_cases hlt : k < vn
    · obtain ⟨g, hgA, hg, _⟩ := own_at ol (by omega)
      subst hgA
      have hcell := (own_cell ol hlt).1
      have hfr := (own_cell ol hlt).2
      have OL := Lib.hid ol
      have HK := Lib.hid hkeep
      clear ol hkeep hra hro oa BW BA T4 hga
      go_wp2
      go_roundw
      case rel =>
        rw [incr_word]
        exact ⟨k + 1, _, by omega, by go_num, own_set OL.out hlt (Nat.mod_lt _ B64_pos), set_keeps _ _ HK.out, hB.setCell (p := ⟨g, k, none⟩) (Nat.le_trans hle1 hg) _⟩
      case measure => simp [intOf]; omega
    · have hkn : k = vn := by omega
      have ZW : BoxZ wr w.heap.size p A na ca := (hkeep.2 _ ⟨(Array.getElem?_eq_some_iff.1 T4.x).1, fun e => by have := (hga _ e).1; omega⟩).trans T4.x
      replace hra := rd_but hra oa (fun hn b off e => Nat.lt_of_lt_of_le (ltA hn b off e) hle1) hkeep
      replace hro := rd_but hro oa ltO hkeep
      clear ol hkeep ltO ltA
      have hb50 := hB
      have za0 := ZW.c0
      have za1 := ZW.c1
      go_wp2_with fail
      refine (rSameZ_any Ao A na co na ca p p a a _ ⟨hro, hra, by omega, by omega, qo.1, qo.2, QA.out.1, QA.out.2⟩).mono ?_
      rw [decide_eq_true (show p = p ∧ a = a from ⟨rfl, rfl⟩)]
      rintro e w51 ⟨rfl, hb51⟩
      go_wp2
      go_ret
      exact ⟨rfl, below_then hb50 hb51⟩
set_option maxRecDepth 100000 in
set_option maxHeartbeats 4000000 in
theorem ofQ_long (hl : 3 < na ∨ 3 < nb) :
    Calls Try.prog 3 #[zv p A na ca, zv q A2 nb cb] w fun e w' => e = .returned (.bool true) ∧ Below w.heap.size w w' := by
  have T0 := two_box w p A na ca q A2 nb cb
  unfold zv at *
  by_cases k1 : 3 < na
  · have g1 : (3 : Int) < (na : Int) := by omega
    clear hl k1
    have xa0 := T0.x.c0
    have xa1 := T0.x.c1
    have xb0 := T0.y.c0
    have xb1 := T0.y.c1
    go_enter Try.func3, Try.ntmps3
    go_wp2
    go_ret
    exact ⟨rfl, T0.b⟩
  · have g1 : ¬ (3 : Int) < (na : Int) := by omega
    have g2 : (3 : Int) < (nb : Int) := by omega
    clear hl k1
    have xa0 := T0.x.c0
    have xa1 := T0.x.c1
    have xb0 := T0.y.c0
    have xb1 := T0.y.c1
    go_enter Try.func3, Try.ntmps3
    go_wp2
    go_ret
    exact ⟨rfl, T0.b⟩
end
theorem ofQ_all (A A2 : Option Addr) (na ca nb cb : Nat) (p q : Bool) (a b : List Nat) (w : World) (ra : Rd w A na a) (rb : Rd w A2 nb b) (q1 : na ≤ ca ∧ ca ≤ 9223372036854775807) (q2 : nb ≤ cb ∧ cb ≤ 9223372036854775807) (hca : A = none → na = 0 ∧ ca = 0) :
    Calls Try.prog 3 #[.agg #[.bool p, .slice A na ca], .agg #[.bool q, .slice A2 nb cb]] w fun e w' => e = .returned (.bool true) ∧ Below w.heap.size w w' := by
  by_cases h : na ≤ 3 ∧ nb ≤ 3
  · exact ofQ_short A A2 na ca nb cb p q a b w ⟨ra, rb, by omega, by omega, q1.1, q1.2, q2.1, q2.2⟩ h.1 h.2 hca
  · exact ofQ_long A A2 na ca nb cb p q w (by omega)
open Go.ChangeShapes Go.WideShapes in
set_option maxRecDepth 100000 in
theorem open_zc {H : Type} {enc : TypeId × Value → H} {W : World} {base b0 : Nat} {held : Bool} {r : Reach} {v : Value} {d : DataW H} {ps : List MemPlace}
    (hv : Value.okWide Try.prog W r b0 25 v) (h : DataW.Trod enc Try.prog W base (fun _ => true) held 25 v d ps) :
    ∃ s a len cap l, v = .agg #[.bool s, .slice a len cap] ∧ Rd W a len l ∧ len ≤ cap ∧ cap ≤ 9223372036854775807 ∧ (a = none → len = 0 ∧ cap = 0) := by
  obtain ⟨c0, c1, y0, y1, m, rfl, rfl, rfl, hy0, hy1⟩ := Go.Joins.open_agg2 Try.underlying25 (by kernel_rfl) zcells hv h
  obtain ⟨s, e0, _⟩ := DataW.trod_bool Try.underlying4 hy0
  obtain ⟨a, l, c, e1⟩ := Go.Joins.slice_form Try.underlying23 hy1
  simp at e0 e1
  subst e0 e1
  have hrow : (a = none ∧ l = 0 ∧ c = 0 ∧ ∃ zs : List Int, zs = []) ∨ ∃ zs : List Int, ∃ x, a = some x ∧ l ≤ c ∧ c ≤ maxLen ∧ zs.length = c ∧ (∀ i, i < zs.length → W.cell? (x.add i) = some (.int .u64 (zs.getD i 0))) ∧ ∀ n ∈ zs, (Lit.int .u64 n).wf = true := by
    rcases open_ints Try.underlying23 Try.underlying34 (by kernel_rfl) hy1 with ⟨hcs, _⟩ | ⟨x, l', c', zs, hcs, _, hl, hm, hz, _, hcell, hwz⟩
    · simp at hcs
      obtain ⟨rfl, rfl, rfl⟩ := hcs
      exact .inl ⟨rfl, rfl, rfl, [], rfl⟩
    · simp at hcs
      obtain ⟨rfl, rfl, rfl⟩ := hcs
      exact .inr ⟨zs, _, rfl, hl, hm, by simpa using hz, hcell, hwz⟩
  rcases hrow with ⟨h1, h2, h3, zs, h4⟩ | ⟨zs, hx⟩
  · obtain ⟨⟨L, hL⟩, k1, k2⟩ := rd_of_row (w := W) (a := a) (len := l) (cap := c) (zs := zs) (.inl ⟨h1, h2, h3, h4⟩)
    exact ⟨s, a, l, c, L, rfl, hL, k1, k2, fun _ => ⟨h2, h3⟩⟩
  · obtain ⟨⟨L, hL⟩, k1, k2⟩ := rd_of_row (w := W) (a := a) (len := l) (cap := c) (zs := zs) (.inr hx)
    obtain ⟨x, hxa, _⟩ := hx
    exact ⟨s, a, l, c, L, rfl, hL, k1, k2, fun e => by rw [e] at hxa; cases hxa⟩
end Go.Proofs.Ytbldimplddiheaa
