import Derived.Test.YtgiokmfdafmaoaaKVRow
import Derived.Test.YtgiokmfdafmaoaaKZFr
import Derived.Deep.Slices
import Derived.ChangeSame
/- VFr. -/
/- A row of whole numbers that came in, opened. -/
namespace Go.Proofs.Ytgiokmfdafmaoaa
open Go.RowKit Go.Shelf Go.ChangeShapes Go.WideShapes
set_option linter.unusedVariables false

theorem vncells : Try.prog.cellsOf 30 = 1 := by kernel_rfl
theorem vbcells : Try.prog.cellsOf 4 = 1 := by kernel_rfl
set_option maxRecDepth 100000 in
theorem nat_rd {H : Type} {enc : TypeId × Value → H} {W : World} {base n : Nat} {held : Bool} {c1 : Value} {y1 : DataW H × List MemPlace}
    (hy1 : DataW.trod enc Try.prog W base (fun _ => true) held n 30 [c1] = some y1) :
    ∃ a len cap l, c1 = .slice a len cap ∧ Rd W a len l ∧ len ≤ cap ∧ cap ≤ 9223372036854775807 ∧ (a = none → len = 0 ∧ cap = 0) := by
  obtain ⟨a, l, c, e1⟩ := Go.Joins.slice_form Try.underlying30 hy1
  simp at e1
  subst e1
  have hrow : (a = none ∧ l = 0 ∧ c = 0 ∧ ∃ zs : List Int, zs = []) ∨ ∃ zs : List Int, ∃ x, a = some x ∧ l ≤ c ∧ c ≤ maxLen ∧ zs.length = c ∧ (∀ i, i < zs.length → W.cell? (x.add i) = some (.int .u64 (zs.getD i 0))) ∧ ∀ n ∈ zs, (Lit.int .u64 n).wf = true := by
    rcases open_ints Try.underlying30 Try.underlying64 (by kernel_rfl) hy1 with ⟨hcs, _⟩ | ⟨x, l', c', zs, hcs, _, hl, hm, hz, _, hcell, hwz⟩
    · simp at hcs
      obtain ⟨rfl, rfl, rfl⟩ := hcs
      exact .inl ⟨rfl, rfl, rfl, [], rfl⟩
    · simp at hcs
      obtain ⟨rfl, rfl, rfl⟩ := hcs
      exact .inr ⟨zs, _, rfl, hl, hm, by simpa using hz, hcell, hwz⟩
  rcases hrow with ⟨h1, h2, h3, zs, h4⟩ | ⟨zs, hx⟩
  · obtain ⟨⟨L, hL⟩, k1, k2⟩ := rd_of_row (w := W) (a := a) (len := l) (cap := c) (zs := zs) (.inl ⟨h1, h2, h3, h4⟩)
    exact ⟨a, l, c, L, rfl, hL, k1, k2, fun _ => ⟨h2, h3⟩⟩
  · obtain ⟨⟨L, hL⟩, k1, k2⟩ := rd_of_row (w := W) (a := a) (len := l) (cap := c) (zs := zs) (.inr hx)
    exact ⟨a, l, c, L, rfl, hL, k1, k2, fun h0 => by obtain ⟨x, hx2, _⟩ := hx; rw [hx2] at h0; cases h0⟩
set_option maxRecDepth 100000 in
/-- Two cells that read as a whole number. -/
theorem elem_z {H : Type} {enc : TypeId × Value → H} {W : World} {base n : Nat} {held : Bool} {cs : List Value} {y : DataW H × List MemPlace}
    (h : DataW.trod enc Try.prog W base (fun _ => true) held n zT cs = some y) : ∃ e : ZE, cs = [.bool e.p, .slice e.A e.n e.c] ∧ ZE.ok W e ∧ (e.A = none → e.n = 0 ∧ e.c = 0) := by
  obtain ⟨y0, y1, m, _, hl, h0, h1⟩ := trod_struct2 Try.underlying32 h
  rw [zcells] at hl
  match cs, hl with
  | [c0, c1], _ =>
    simp [vncells, vbcells] at h0 h1
    obtain ⟨s, e0, _⟩ := DataW.trod_bool Try.underlying4 h0
    obtain ⟨a, l, p, L, rfl, r1, q1, u1, x1⟩ := nat_rd h1
    simp at e0
    subst e0
    exact ⟨⟨s, a, l, p, L⟩, rfl, ⟨r1, q1, u1⟩, x1⟩
theorem cells_two {W : World} {base : Nat} {a : Addr} {u v : Value} (h : W.cells? base a 2 = some [u, v]) : W.cell? (a.add 0) = some u ∧ W.cell? (a.add 1) = some v := by
  obtain ⟨_, _, hc⟩ := World.cells?_some h
  exact ⟨hc 0 (by omega), hc 1 (by omega)⟩
theorem choose_row {α : Type} {n : Nat} {p : Nat → α → Prop} (h : ∀ i, i < n → ∃ x, p i x) : ∃ L : List α, L.length = n ∧ ∀ i x, L[i]? = some x → p i x := by
  induction n with
  | zero => exact ⟨[], rfl, fun i x hx => by cases hx⟩
  | succ k ih =>
    obtain ⟨L, hL, hp⟩ := ih fun i hi => h i (by omega)
    obtain ⟨x, hx⟩ := h k (by omega)
    refine ⟨L ++ [x], by rw [List.length_append, hL]; rfl, fun i y hy => ?_⟩
    rcases Nat.lt_or_ge i k with hi | hi
    · rw [List.getElem?_append_left (by rw [hL]; exact hi)] at hy
      exact hp i y hy
    · rw [List.getElem?_append_right (by rw [hL]; exact hi), hL] at hy
      have hi2 : i = k := by
        rcases Nat.eq_zero_or_pos (i - k) with h0 | h0
        · omega
        · obtain ⟨j, hj⟩ : ∃ j, i - k = j + 1 := ⟨i - k - 1, by omega⟩
          rw [hj] at hy
          cases hy
      subst hi2
      rw [Nat.sub_self] at hy
      cases hy
      exact hx
set_option maxRecDepth 100000 in
theorem open_v {H : Type} {enc : TypeId × Value → H} {W : World} {base b0 : Nat} {held : Bool} {r : Reach} {v : Value} {d : DataW H} {ps : List MemPlace} {T : TypeId} (ht : Try.prog.underlying T = some (.slice zT))
    (hv : Value.okWide Try.prog W r b0 T v) (h : DataW.Trod enc Try.prog W base (fun _ => true) held T v d ps) :
    ∃ A n c L, v = .slice A n c ∧ RdV W A n L ∧ n ≤ c ∧ c ≤ 9223372036854775807 ∧ (A = none → n = 0 ∧ c = 0) ∧ (∀ e, e ∈ L → e.A = none → e.n = 0 ∧ e.c = 0) := by
  obtain ⟨A, n, c, rfl⟩ := okWide_slice ht hv
  obtain ⟨fuel, hf⟩ := h
  rcases Go.Deep.open_slice ht hf with ⟨hcs, _⟩ | ⟨a, len, cap, m, k, D, Pl, hcs, _, hl, hm, hmm, _, hx⟩
  · simp [Value.cells] at hcs
    obtain ⟨rfl, rfl, rfl⟩ := hcs
    exact ⟨none, 0, 0, [], rfl, rdv_nil _ _, Nat.le_refl _, Nat.zero_le _, fun _ => ⟨rfl, rfl⟩, fun e he => by cases he⟩
  · simp [Value.cells] at hcs
    obtain ⟨rfl, rfl, rfl⟩ := hcs
    rw [zcells] at hx
    have hmc : n ≤ m := by rw [hmm]; simp; exact hl
    obtain ⟨L, hL, hp⟩ := choose_row (α := ZE) (n := n) (p := fun i e => (W.cell? ((a.add (i * 2)).add 0) = some (.bool e.p) ∧ W.cell? ((a.add (i * 2)).add 1) = some (.slice e.A e.n e.c)) ∧ ZE.ok W e ∧ (e.A = none → e.n = 0 ∧ e.c = 0)) (fun i hi => by
      obtain ⟨cs, hc, htr⟩ := hx i (by omega)
      obtain ⟨e, rfl, he⟩ := elem_z htr
      exact ⟨e, cells_two hc, he⟩)
    refine ⟨some a, n, c, L, rfl, ⟨hL, fun e he => ?_, fun hn => ?_⟩, hl, hm, fun h => (by cases h), fun e he => ?_⟩
    · obtain ⟨i, hi⟩ := List.getElem?_of_mem he
      exact (hp i e hi).2.1
    · obtain ⟨b, off, spot⟩ := a
      have hn0 : 0 < L.length := by rw [hL]; exact hn
      have h0 := (hp 0 _ (List.getElem?_eq_getElem hn0)).1.1
      have hspot : spot = none := by simpa [Addr.add] using World.cell?_spot h0
      subst hspot
      have hlt : b < W.heap.size := by
        have h1 := h0
        simp [Addr.add] at h1
        unfold World.cell? at h1
        cases hob : W.heap[b]? with
        | none => simp [hob] at h1
        | some o => exact (Array.getElem?_eq_some_iff.1 hob).1
      refine ⟨b, off, rfl, hlt, fun i e he => ?_⟩
      have h1 := (hp i e he).1
      by_cases hi : i = 0
      · subst hi
        simpa [Addr.add] using h1
      · have hi2 : ¬ i * 2 = 0 := by omega
        simpa [Addr.add, hi, hi2] using h1
    · obtain ⟨i, hi⟩ := List.getElem?_of_mem he
      exact (hp i e hi).2.2
end Go.Proofs.Ytgiokmfdafmaoaa
