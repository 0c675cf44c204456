import Derived.Test.YtjipdfebehcggaaGreatDoorZZM
/- ZX. -/
/- The document's whole numbers: as texts. -/
namespace Go.Proofs.YtjipdfebehcggaaGreatDoor
open Go.RowKit Go.Shelf
set_option linter.unusedVariables false
set_option linter.unusedSimpArgs false

theorem textS_size (a : List Nat) : (textS a).size ≤ 4096 := by
  unfold textS
  split
  · rename_i h
    unfold textE at h
    split at h
    · split at h
      · rename_i h2
        rw [textB_size]
        exact h2
      · cases h
    · cases h
  · exact Nat.zero_le _
set_option maxRecDepth 100000 in
set_option maxHeartbeats 2000000 in
theorem rTextZ_any : TextZIs 20 := by
  intro A na ca p a w h
  have hb0 := bxb w (zo p A na ca)
  have hx : BoxZ (w.alloc (zo p A na ca)) w.heap.size p A na ca := World.alloc_heap_new _ _
  have H1 := Lib.hid (rMayZ_any (p := p) (h.below hb0))
  have HB := Lib.hid (And.intro hb0 hx)
  have hs : w.heap.size < (w.alloc (zo p A na ca)).heap.size := by simp
  have HT := Lib.hid (fun W (hb : Below w.heap.size w W) => rText_any A na ca a W (h.ra.below hb) (by have := h.la; omega) h.ca1 h.ca2)
  cases hm : mayZ p a with
  | false =>
    rw [show textZS p a = ⟨#[]⟩ by simp [textZS, textZE, hm], show textZE p a = 8 by simp [textZE, hm]]
    rw [hm] at H1
    clear h hm hb0 hx hs HT
    unfold zv at *
    go_enter Tryz.func20, Tryz.ntmps20
    go_wp2_with fail
    refine H1.out.mono ?_
    rintro e w1 ⟨rfl, hb1⟩
    have B1 := below_then HB.out.1 hb1
    clear hb1
    go_wp2
    go_ret2
    exact ⟨rfl, B1⟩
  | true =>
    rw [hm] at H1
    have hE : textZE p a = textE a := by simp [textZE, hm]
    have hS : textZS p a = if textE a = 0 then (if p then ⟨#[45]⟩ ++ textS a else textS a) else ⟨#[]⟩ := by unfold textZS; rw [hE]
    rw [hS, hE]
    clear h hm hb0 hS hE
    have hS : ¬ 9223372036854775807 < 1 + (textS a).size := by have := textS_size a; omega
    generalize textS a = S at HT hS ⊢
    generalize textE a = E at HT ⊢
    by_cases he : E = 0
    · subst he
      rw [if_pos rfl]
      cases p with
      | false =>
        simp only [Bool.false_eq_true, if_false]
        unfold zv at *
        go_enter Tryz.func20, Tryz.ntmps20
        go_wp2_with fail
        refine H1.out.mono ?_
        rintro e w1 ⟨rfl, hb1⟩
        have B1 := below_then HB.out.1 hb1
        have xa0 := (hx.below hb1 hs).c0
        have xa1 := (hx.below hb1 hs).c1
        have HL := Lib.hid (And.intro hx hs)
        clear hb1 hx hs
        go_wp2_with fail
        refine (HT.out _ B1).mono ?_
        rintro e w2 ⟨rfl, hb2⟩
        have B2 := below_then B1 hb2
        have ya0 := (hb2.cell (cell_lt xa0)).trans xa0
        have ya1 := (hb2.cell (cell_lt xa1)).trans xa1
        clear hb2 xa0 xa1
        go_wp2
        go_ret2
        exact ⟨rfl, B2⟩
      | true =>
        simp only [if_true]
        unfold zv at *
        go_enter Tryz.func20, Tryz.ntmps20
        go_wp2_with fail
        refine H1.out.mono ?_
        rintro e w1 ⟨rfl, hb1⟩
        have B1 := below_then HB.out.1 hb1
        have xa0 := (hx.below hb1 hs).c0
        have xa1 := (hx.below hb1 hs).c1
        have HL := Lib.hid (And.intro hx hs)
        clear hb1 hx hs
        go_wp2_with fail
        refine (HT.out _ B1).mono ?_
        rintro e w2 ⟨rfl, hb2⟩
        have B2 := below_then B1 hb2
        have ya0 := (hb2.cell (cell_lt xa0)).trans xa0
        have ya1 := (hb2.cell (cell_lt xa1)).trans xa1
        clear hb2 xa0 xa1
        go_wp2
        go_ret2
        exact ⟨rfl, B2⟩
    · rw [if_neg he]
      unfold zv at *
      go_enter Tryz.func20, Tryz.ntmps20
      go_wp2_with fail
      refine H1.out.mono ?_
      rintro e w1 ⟨rfl, hb1⟩
      have B1 := below_then HB.out.1 hb1
      have xa0 := (hx.below hb1 hs).c0
      have xa1 := (hx.below hb1 hs).c1
      have HL := Lib.hid (And.intro hx hs)
      clear hb1 hx hs
      go_wp2_with fail
      refine (HT.out _ B1).mono ?_
      rintro e w2 ⟨rfl, hb2⟩
      have B2 := below_then B1 hb2
      have ya0 := (hb2.cell (cell_lt xa0)).trans xa0
      have ya1 := (hb2.cell (cell_lt xa1)).trans xa1
      clear hb2 xa0 xa1
      go_wp2
      go_ret2
      exact ⟨rfl, B2⟩
end Go.Proofs.YtjipdfebehcggaaGreatDoor
