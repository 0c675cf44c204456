/- (mul.number).school: products by school. -/
import Derived.Test.YtmiobjkbcmicbaaAddRow
namespace Go.Proofs.Ytmiobjkbcmicbaa
open Go.RowKit Go.Shelf
set_option linter.unusedVariables false

theorem own_nil (w : World) (B : Nat) : Own w B (.slice none 0 0) [] := ⟨World.ownsRow_nil _ _ _ _, words_nil⟩
theorem limbs_none {a b : List Nat} (h : a.length = 0 ∨ b.length = 0) : limbs (val a * val b) = [] := by
  rcases h with h | h
  · rw [List.eq_nil_of_length_eq_zero h, val_nil, Nat.zero_mul, limbs_zero]
  · rw [List.eq_nil_of_length_eq_zero h, val_nil, Nat.mul_zero, limbs_zero]

set_option maxRecDepth 100000 in
set_option maxHeartbeats 2000000 in
theorem school_any (A A2 : Option Addr) (na ca nb cb : Nat) (a b : List Nat) (w : World) (hra : Rd w A na a) (hrb : Rd w A2 nb b) (hna : na ≤ 1073741824) (hnb : nb ≤ 1073741824) :
    Calls Try.prog 24 #[.slice A na ca, .slice A2 nb cb] w fun e w' => ∃ A' k c, e = .returned (.slice A' k c) ∧ Own w' w.heap.size (.slice A' k c) (limbs (val a * val b)) ∧ Below w.heap.size w w' := by
  by_cases h0 : na = 0 ∨ nb = 0
  · have hl := limbs_none (a := a) (b := b) (by rw [hra.len, hrb.len]; exact h0)
    have HL := Lib.hid hl
    clear hl hra hrb
    by_cases ha : na = 0
    · subst ha
      go_enter Try.func24, Try.ntmps24
      go_wp2
      go_ret
      exact ⟨_, _, _, rfl, by rw [HL.out]; exact own_nil _ _, Below.refl _ _⟩
    · obtain rfl : nb = 0 := by omega
      have ha2 : ((na : Int) == 0) = false := by simp; omega
      go_enter Try.func24, Try.ntmps24
      go_wp2
      go_ret
      exact ⟨_, _, _, rfl, by rw [HL.out]; exact own_nil _ _, Below.refl _ _⟩
  · have ha2 : ((na : Int) == 0) = false := by simp; omega
    have hb2 : ((nb : Int) == 0) = false := by simp; omega
    have hmk := fun W => run_make_row' (P := Try.prog) 41 27 (.int .u64 0) 8 Try.underlying41 u64_info rfl .i64 .i64 (na + nb) (by omega) (by omega) W
    rw [show ((na + nb : Nat) : Int) = (na : Int) + (nb : Int) by omega] at hmk
    have hblt := hrb.lt
    have hz := RowL.zeros w (na + nb)
    have hB2 := (Below.refl w.heap.size w).alloc (Nat.le_refl _) (.cells (madeCells #[.int .u64 0] (na + nb)) 27)
    have hnz : 0 < na ∧ 0 < nb := by omega
    have HL := Lib.hid h0
    clear h0
    go_enter Try.func24, Try.ntmps24
    go_wp2
    clear hmk ha2 hb2
    generalize hW2 : w.alloc (.cells (madeCells #[.int .u64 0] (na + nb)) 27) = w2 at *
    clear hW2
    go_loopw [24] (fun i wr => ∃ (k : Nat) (l : List Nat), k ≤ na ∧ i = .int .i64 (k : Int) ∧ RowL wr w.heap.size l ∧ l.length = na + nb ∧ Words l ∧ val l = val (a.take k) * val b ∧ Below w.heap.size w wr) (fun i _ => na - (intOf i).toNat)
    case atStart => exact ⟨0, _, by omega, rfl, hz, by simp, words_zeros _, by rw [val_zeros]; simp [val], hB2⟩
    case round =>
      obtain ⟨k, l, hk, rfl, hrow, hlen, hwl, hval, hB⟩ := hrel
      clear hz hB2
      by_cases hlt : k < na
      · obtain ⟨b1, o1, rfl, _, hc1⟩ := (hra.below hB).cells (by omega)
        have hca := hc1 k hlt
        have hx := hra.words.get k
        obtain ⟨x, hxe⟩ : ∃ x, lim a k = x := ⟨_, rfl⟩
        rw [hxe] at hca hx
        have hne : ¬ (na + nb = k) := by omega
        have hrb2 := hrb.below hB
        have HV := Lib.hid hval
        have HX := Lib.hid hxe
        have HA := Lib.hid hra
        have HR := Lib.hid hrow
        have HB := Lib.hid hrb2
        have hbl : b.length = nb := hrb.len
        have HBL := Lib.hid hbl
        have HBW := Lib.hid hrb.words
        clear hc1 hval hxe hra hrow hrb2 hbl hrb
        go_wp2_with (go_at_call 37; refine (addRow_any w.heap.size k _ _ (na + nb) l x A2 nb cb b _ HR.out hlen hwl hx HB.out hblt (by omega) (by omega) (by omega)).mono ?_; rintro e w3 ⟨L2, over, rfl, hov, hrow2, hlen2, hw2, hv2, hs2, hB3⟩; have hc2 : w3.cell? ⟨w.heap.size, k + nb, none⟩ = some (u64 (lim L2 (k + nb))) := hrow2.cell (by omega); have hf2 := hrow2.frozen (k + nb); have HR2 := Lib.hid hrow2; have HV2 := Lib.hid hv2; have HS2 := Lib.hid hs2; clear hrow2 hv2 hs2)
        go_roundw
        case rel =>
          refine ⟨k + 1, _, by omega, by go_num, HR2.out.set (k + nb) over, by simp [hlen2], words_set hw2 hov, ?_, (hB.trans hB3).setCell (p := ⟨w.heap.size, k + nb, none⟩) (Nat.le_refl _) _⟩
          have e := school_step (L2 := L2) (over := over) hwl HBW.out HA.out.words (by rw [HA.out.len]; exact hlt) HX.out (by rw [HBL.out]; omega) HV.out (by rw [HBL.out]; exact HV2.out) (by rw [HBL.out]; exact HS2.out _ (Nat.le_refl _))
          rwa [HBL.out] at e
        case measure => simp [intOf]; omega
      · have hkn : k = na := by omega
        have hv2 : val l = val a * val b := by rw [hval, hkn, val_take_all (by rw [hra.len]; omega)]
        have HV := Lib.hid hv2
        have HROW := Lib.hid hrow
        clear hval hv2 hrow hkn hra hrb
        go_wp2_with (go_at_call 38; refine (trimM_any _ _ _ l wr (HROW.out.own (B := w.heap.size) (Nat.le_refl _) hwl hlen (by simp only [maxLen]; omega)).rd.1 (by omega) (by omega)).mono ?_; rintro e w' ⟨⟨k2, hk2, rfl, ht⟩, rfl⟩; have HT := Lib.hid ht; clear ht)
        go_ret
        refine ⟨_, k2, _, rfl, ?_, hB⟩
        rw [← HV.out, ← HT.out]
        exact own_trim (HROW.out.own (B := w.heap.size) (Nat.le_refl _) hwl hlen (by simp only [maxLen]; omega)) (by omega)
end Go.Proofs.Ytmiobjkbcmicbaa
