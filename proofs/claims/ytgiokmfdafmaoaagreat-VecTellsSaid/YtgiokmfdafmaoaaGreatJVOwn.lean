import Derived.Test.YtgiokmfdafmaoaaGreatJVRow
/- VOwn. -/
/- Rows of whole numbers that a call makes: their block, their numbers' blocks; append. -/
namespace Go.Proofs.YtgiokmfdafmaoaaGreat
open Go.RowKit Go.Shelf
set_option linter.unusedVariables false
set_option linter.unusedSimpArgs false

/-- A row's cells. -/
def flat : List ZE → List Value
  | [] => []
  | e :: L => .bool e.p :: .slice e.A e.n e.c :: flat L
theorem flat_len (L : List ZE) : (flat L).length = L.length * 2 := by
  induction L with
  | nil => rfl
  | cons e L ih => simp only [flat, List.length_cons, ih]; omega
theorem flat_append (L M : List ZE) : flat (L ++ M) = flat L ++ flat M := by
  induction L with
  | nil => rfl
  | cons e L ih => simp only [List.cons_append, flat, ih]
theorem flat_get {L : List ZE} {k : Nat} {e : ZE} (h : L[k]? = some e) : (flat L)[k * 2]? = some (.bool e.p) ∧ (flat L)[k * 2 + 1]? = some (.slice e.A e.n e.c) := by
  induction L generalizing k with
  | nil => cases h
  | cons x L ih =>
    cases k with
    | zero =>
      simp at h
      subst h
      exact ⟨rfl, rfl⟩
    | succ k =>
      rw [List.getElem?_cons_succ] at h
      have h2 := ih h
      rw [show (k + 1) * 2 = k * 2 + 1 + 1 by omega]
      exact h2
theorem flat_one (e : ZE) : ∀ u ∈ flat [e], u.oneCell' = true := by
  intro u hu
  simp only [flat, List.mem_cons, List.not_mem_nil, or_false] at hu
  rcases hu with rfl | rfl <;> rfl
/-- A row of n numbers, in blocks from B on. -/
structure OwnV (w : World) (B : Nat) (A : Option Addr) (n c : Nat) (L : List ZE) : Prop where
  row : w.ownsRow B zT 2 (.slice A n c) n (flat L)
  len : L.length = n
  el : ∀ e, e ∈ L → Own w B (.slice e.A e.n e.c) e.l
section
variable {w w' : World} {A : Option Addr} {B n c : Nat} {L : List ZE}
theorem ownsRow_below {base size k : Nat} {e : TypeId} {v : Value} {xs : List Value} (h : w.ownsRow base e size v k xs) (hb : Below w.heap.size w w') : w'.ownsRow base e size v k xs := by
  refine ⟨h.1, ?_⟩
  rcases h.2 with h2 | ⟨g, cap, cur, e, hg, hh, r⟩
  · exact .inl h2
  · exact .inr ⟨g, cap, cur, e, hg, (hb.block g (Array.getElem?_eq_some_iff.1 hh).1).trans hh, r⟩
theorem ownsRow_mono {base base' size k : Nat} {e : TypeId} {v : Value} {xs : List Value} (h : w.ownsRow base e size v k xs) (hB : base' ≤ base) : w.ownsRow base' e size v k xs := by
  refine ⟨h.1, ?_⟩
  rcases h.2 with h2 | ⟨g, cap, cur, e, hg, r⟩
  · exact .inl h2
  · exact .inr ⟨g, cap, cur, e, by omega, r⟩
theorem OwnV.below (h : OwnV w B A n c L) (hb : Below w.heap.size w w') : OwnV w' B A n c L := ⟨ownsRow_below h.row hb, h.len, fun e he => (h.el e he).below hb⟩
theorem OwnV.mono {C : Nat} (h : OwnV w B A n c L) (hC : C ≤ B) : OwnV w C A n c L := ⟨ownsRow_mono h.row hC, h.len, fun e he => own_mono (h.el e he) hC⟩
theorem ownv_nil (w : World) (B : Nat) : OwnV w B none 0 0 [] := ⟨World.ownsRow_nil _ _ _ _, rfl, fun _ h => (by cases h)⟩
theorem OwnV.cap (h : OwnV w B A n c L) : n ≤ c ∧ c ≤ 9223372036854775807 := by
  rcases h.row.2 with ⟨e, h0⟩ | ⟨g, cap, cur, e, hg, hh, hn, hc, hs, ht⟩
  · cases e
    exact ⟨Nat.le_refl _, Nat.zero_le _⟩
  · cases e
    exact ⟨hn, hc⟩
theorem addr_at (g j : Nat) : (⟨g, 0, none⟩ : Addr).add j = ⟨g, j, none⟩ := by
  unfold Addr.add
  split
  · rename_i h
    subst h
    rfl
  · simp
theorem own_none {v : Option Addr} {l : List Nat} (h : Own w B (.slice v n c) l) : v = none → n = 0 ∧ c = 0 := by
  rintro rfl
  rcases h.1.2 with ⟨e, h0⟩ | ⟨g, cap, cur, e, _⟩
  · cases e
    exact ⟨rfl, rfl⟩
  · cases e
/-- .. is read. -/
theorem OwnV.rd (h : OwnV w B A n c L) : RdV w A n L := by
  refine ⟨h.len, fun e he => ⟨(h.el e he).rd.1, (h.el e he).rd.2.2.1, (h.el e he).rd.2.2.2⟩, fun hn => ?_⟩
  rcases h.row.2 with ⟨e, h0⟩ | ⟨g, cap, cur, e, hg, hh, hn, hc, hs, ht⟩
  · omega
  · cases e
    refine ⟨g, 0, rfl, (Array.getElem?_eq_some_iff.1 hh).1, fun i x hx => ?_⟩
    have h2 := flat_get hx
    have c0 := h.row.cells (g := g) rfl (i * 2) _ h2.1
    have c1 := h.row.cells (g := g) rfl (i * 2 + 1) _ h2.2
    rw [addr_at] at c0 c1
    rw [Nat.zero_add]
    exact ⟨c0, c1⟩
/-- A row's block is no number's: what lies in them is of other types. -/
theorem ownv_apart {B2 n2 c2 : Nat} {A2 : Option Addr} {v : Value} {l : List Nat} (h : Own w B v l) (hy : w.ownsRow B2 zT 2 (.slice A2 n2 c2) n2 (flat L)) : v.ownBlock = none ∨ v.ownBlock ≠ (Value.slice A2 n2 c2).ownBlock := by
  rcases h.1.2 with ⟨e, _⟩ | ⟨g, cap, cur, e, hg, hh, _⟩
  · exact .inl (by rw [e]; rfl)
  · rcases hy.2 with ⟨e2, _⟩ | ⟨g2, cap2, cur2, e2, hg2, hh2, _⟩
    · exact .inr (by rw [e, e2]; simp [Value.ownBlock])
    · refine .inr (fun hc => ?_)
      rw [e, e2] at hc
      have hgg : g = g2 := by simpa [Value.ownBlock] using hc
      rw [hgg, hh2] at hh
      rw [Option.some.injEq, Obj.cells.injEq] at hh
      exact absurd hh.2.1 (by decide)
theorem own_growv {B2 n2 c2 : Nat} {A2 : Option Addr} {v : Value} {l : List Nat} (h : Own w B v l) (hy : w.ownsRow B2 zT 2 (.slice A2 n2 c2) n2 (flat L)) (hg : w.grownBy w' (Value.slice A2 n2 c2).ownBlock) : Own w' B v l := ⟨h.1.kept hg (ownv_apart h hy), h.2⟩
end
theorem z_info : (Tryz.prog.info? zT).map (fun i => (i.zero, i.size, i.bytes)) = some (some (.agg #[.bool false, .slice none 0 0]), 2, 32) := by kernel_rfl
theorem z_parts : ∃ i : TypeInfo, Tryz.prog.info? zT = some i ∧ i.zero = some (.agg #[.bool false, .slice none 0 0]) ∧ i.size = 2 ∧ i.bytes = 32 := by
  have h := z_info
  cases hi : Tryz.prog.info? zT with
  | none => rw [hi] at h; cases h
  | some i =>
    rw [hi] at h
    simp only [Option.map_some, Option.some.injEq, Prod.mk.injEq] at h
    exact ⟨i, rfl, h.1, h.2.1, h.2.2⟩
end Go.Proofs.YtgiokmfdafmaoaaGreat
