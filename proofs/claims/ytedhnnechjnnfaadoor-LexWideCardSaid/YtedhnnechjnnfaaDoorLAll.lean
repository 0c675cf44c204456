/- lex: allMarks. -/
import Derived.Test.YtedhnnechjnnfaaDoorLMark
import Derived.Laws.EntriesVeiled
namespace Go.Proofs.YtedhnnechjnnfaaDoor
open Go.RowKit Go.Shelf
set_option linter.unusedVariables false
set_option linter.unusedSimpArgs false

theorem letter_any (a b c : Value) (x : UInt8) : anyB [(a, lexIn 97 122), (b, lexIn 65 90), (c, lexBar)] x = lexL x := by
  unfold anyB lexIn lexBar lexL
  simp [Bool.or_assoc]
theorem part_any (a b : Value) (x : UInt8) : anyB [(a, lexL), (b, lexD)] x = lexW x := by
  unfold anyB lexW
  simp
/-- What all marks are. -/
structure MarksAre (B : Nat) (w : World) (v : Value) : Prop where
  out : ∃ b d p, v = .agg #[b, d, p] ∧ MarkIs B w b lexB ∧ MarkIs B w d lexD ∧ MarkIs B w p lexW
theorem MarksAre.later {B : Nat} {w W : World} {v : Value} (h : MarksAre B w v) (hb : Below w.heap.size w W) : MarksAre B W v := by
  obtain ⟨b, d, p, e, h1, h2, h3⟩ := h.out
  exact ⟨b, d, p, e, h1.later hb, h2.later hb, h3.later hb⟩
theorem either_letter {B : Nat} {w : World} (hB : B ≤ w.heap.size) {a b c : Value} (ha : MarkIs B w a (lexIn 97 122)) (hb : MarkIs B w b (lexIn 65 90)) (hc : MarkIs B w c lexBar) :
    Calls Tryd.prog 23 #[.slice (some ⟨w.heap.size, 0, none⟩) 3 3] (w.alloc (.cells #[a, b, c] 35)) fun e w' => ∃ v, e = .returned v ∧ MarkIs B w' v lexL ∧ Below w.heap.size w w' := by
  have hn := lx_new w (.cells #[a, b, c] 35)
  refine (either_any B w.heap.size 3 3 [(a, lexIn 97 122), (b, lexIn 65 90), (c, lexBar)] rfl (by omega) _ (by rw [World.size_alloc]; omega) hB ?_ ?_).mono ?_
  · intro k y hy
    match k, hy with
    | 0, hy => cases hy; simp
    | 1, hy => cases hy; simp
    | 2, hy => cases hy; simp
    | k + 3, hy => cases hy
  · intro y hy
    simp at hy
    rcases hy with rfl | rfl | rfl
    · exact ha.later hn
    · exact hb.later hn
    · exact hc.later hn
  · rintro e w' ⟨v, rfl, m, hb'⟩
    exact ⟨v, rfl, m.same (letter_any a b c), lx_then hn hb'⟩
theorem either_part {B : Nat} {w : World} (hB : B ≤ w.heap.size) {a b : Value} (ha : MarkIs B w a lexL) (hb : MarkIs B w b lexD) :
    Calls Tryd.prog 23 #[.slice (some ⟨w.heap.size, 0, none⟩) 2 2] (w.alloc (.cells #[a, b] 35)) fun e w' => ∃ v, e = .returned v ∧ MarkIs B w' v lexW ∧ Below w.heap.size w w' := by
  have hn := lx_new w (.cells #[a, b] 35)
  refine (either_any B w.heap.size 2 2 [(a, lexL), (b, lexD)] rfl (by omega) _ (by rw [World.size_alloc]; omega) hB ?_ ?_).mono ?_
  · intro k y hy
    match k, hy with
    | 0, hy => cases hy; simp
    | 1, hy => cases hy; simp
    | k + 2, hy => cases hy
  · intro y hy
    simp at hy
    rcases hy with rfl | rfl
    · exact ha.later hn
    · exact hb.later hn
  · rintro e w' ⟨v, rfl, m, hb'⟩
    exact ⟨v, rfl, m.same (part_any a b), lx_then hn hb'⟩
set_option maxRecDepth 100000 in
set_option maxHeartbeats 4000000 in
theorem allMarks_any (w : World) : Calls Tryd.prog 16 #[] w fun e w' => ∃ v, e = .returned v ∧ MarksAre (w.heap.size + 1) w' v ∧ Below w.heap.size w w' := by
  have HB0 := Lib.hid (Below.refl (w.alloc (.cells #[Value.nilFunc, Value.nilFunc, Value.nilFunc] 37)).heap.size (w.alloc (.cells #[Value.nilFunc, Value.nilFunc, Value.nilFunc] 37)))
  have HB9 := Lib.hid (lx_new w (.cells #[Value.nilFunc, Value.nilFunc, Value.nilFunc] 37))
  have hz : (w.alloc (.cells #[Value.nilFunc, Value.nilFunc, Value.nilFunc] 37)).heap.size = w.heap.size + 1 := World.size_alloc ..
  have HZ := Lib.hid hz
  clear hz
  go_enter Tryd.func16, Tryd.ntmps16
  go_wp2_with fail
  refine (between_any 48 57 (by omega) _).mono ?_
  rintro e w1 ⟨v1, rfl, m1, b1⟩
  replace m1 := m1.mono (Nat.le_of_eq HZ.out.symm)
  have s1 : w.heap.size + 1 ≤ w1.heap.size := by rw [← HZ.out]; exact b1.size
  obtain ⟨F1, k1, rfl⟩ := m1.shape
  go_wp2_with fail
  refine (between_any 97 122 (by omega) _).mono ?_
  rintro e w2 ⟨v2, rfl, m2, b2⟩
  replace m2 := m2.mono s1
  have s2 := Nat.le_trans s1 b2.size
  obtain ⟨F2, k2, rfl⟩ := m2.shape
  go_wp2_with fail
  refine (between_any 65 90 (by omega) _).mono ?_
  rintro e w3 ⟨v3, rfl, m3, b3⟩
  replace m3 := m3.mono s2
  have s3 := Nat.le_trans s2 b3.size
  obtain ⟨F3, k3, rfl⟩ := m3.shape
  go_wp2_with fail
  refine (among_any _ _ tells_bar _).mono ?_
  rintro e w4 ⟨v4, rfl, m4, b4⟩
  replace m4 := m4.mono s3
  have S4 := Lib.hid (Nat.le_trans s3 b4.size)
  obtain ⟨F4, k4, rfl⟩ := m4.shape
  have b24 := lx_then b3 b4
  have hl := either_letter S4.out (m2.later b24) (m3.later b4) m4
  have HM1 := Lib.hid (m1.later (lx_then b2 b24))
  have HB4 := Lib.hid (lx_then (lx_then HB0.out b1) (lx_then b2 b24))
  clear b24 m2 m3 m4 m1 b1 b2 b3 b4 s1 s2 s3
  go_wp2_with fail
  refine hl.mono ?_
  rintro e w5 ⟨v5, rfl, m5, b5⟩
  obtain ⟨F5, k5, rfl⟩ := m5.shape
  have HB5 := Lib.hid (lx_then HB4.out b5)
  have S5 := Lib.hid (Nat.le_trans S4.out b5.size)
  have HM5 := Lib.hid m5
  have HM15 := Lib.hid (HM1.out.later b5)
  clear hl m5 b5
  go_wp2_with fail
  refine (among_any _ _ tells_blank _).mono ?_
  rintro e w6 ⟨v6, rfl, m6, b6⟩
  replace m6 := m6.mono S5.out
  obtain ⟨F6, k6, rfl⟩ := m6.shape
  have hd9 : ∀ c, lexIn 48 57 c = lexD c := fun c => rfl
  have hp := either_part (Nat.le_trans S5.out b6.size) (HM5.out.later b6) ((HM15.out.later b6).same hd9)
  have HB6 := Lib.hid (lx_then HB5.out b6)
  have HM16 := Lib.hid ((HM15.out.later b6).same hd9)
  have HM6 := Lib.hid m6
  clear m6 b6 hd9
  go_wp2_with fail
  refine hp.mono ?_
  rintro e w7 ⟨v7, rfl, m7, b7⟩
  obtain ⟨F7, k7, rfl⟩ := m7.shape
  have HB7 := Lib.hid (lx_then HB6.out b7)
  have hbx := lx_block (lx_made w (.cells #[Value.nilFunc, Value.nilFunc, Value.nilFunc] 37)) HB7.out
  obtain ⟨c0, z0⟩ := lx_cells hbx (i := 0) (v := .nilFunc) rfl
  obtain ⟨c1, z1⟩ := lx_cells hbx (i := 1) (v := .nilFunc) rfl
  obtain ⟨c2, z2⟩ := lx_cells hbx (i := 2) (v := .nilFunc) rfl
  have HM26 := Lib.hid (HM6.out.later b7)
  have HM25 := Lib.hid (HM16.out.later b7)
  have HM27 := Lib.hid m7
  clear m7 b7 hbx hp
  go_wp2_with fail
  have hK : ∀ a b c : Value, KeptFrom (w.heap.size + 1) w7 (((w7.setCell ⟨w.heap.size, 0, none⟩ a).setCell ⟨w.heap.size, 1, none⟩ b).setCell ⟨w.heap.size, 2, none⟩ c) := fun a b c =>
    ((kept_set (B := w.heap.size + 1) w7 ⟨w.heap.size, 0, none⟩ (Nat.lt_succ_self w.heap.size) a).trans (kept_set (B := w.heap.size + 1) _ ⟨w.heap.size, 1, none⟩ (Nat.lt_succ_self w.heap.size) b)).trans (kept_set (B := w.heap.size + 1) _ ⟨w.heap.size, 2, none⟩ (Nat.lt_succ_self w.heap.size) c)
  have hG : ∀ a b c : Value, Below w.heap.size w (((w7.setCell ⟨w.heap.size, 0, none⟩ a).setCell ⟨w.heap.size, 1, none⟩ b).setCell ⟨w.heap.size, 2, none⟩ c) := fun a b c =>
    (((lx_then HB9.out HB7.out).setCell (p := ⟨w.heap.size, 0, none⟩) (Nat.le_refl _) a).setCell (p := ⟨w.heap.size, 1, none⟩) (Nat.le_refl _) b).setCell (p := ⟨w.heap.size, 2, none⟩) (Nat.le_refl _) c
  refine bodyPost_ret (v := .agg #[.func (.func F6) #[] k6, .func (.func F1) #[] k1, .func (.func F7) #[] k7]) (by simp [results, Tryd.results16, go_sem, c0, c1, c2]) rfl ?_
  exact ⟨_, rfl, ⟨_, _, _, rfl, HM26.out.kept (hK _ _ _), HM25.out.kept (hK _ _ _), HM27.out.kept (hK _ _ _)⟩, hG _ _ _⟩
end Go.Proofs.YtedhnnechjnnfaaDoor
