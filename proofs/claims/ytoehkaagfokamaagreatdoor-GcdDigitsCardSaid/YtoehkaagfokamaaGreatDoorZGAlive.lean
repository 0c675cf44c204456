import Derived.Test.YtoehkaagfokamaaGreatDoorZGTexts
/- GAlive. -/
/- The chapter's first examples of layer 4. -/
namespace Go.Proofs.YtoehkaagfokamaaGreatDoor
open Go.RowKit Go.Shelf
set_option linter.unusedVariables false
set_option linter.unusedSimpArgs false

theorem limbs_word {x : Nat} (h : x < B64) : (limbs x).length ≤ 1 := limbs_length_le (by rwa [Nat.pow_one])
/-- 2^64's digits. -/
def two64 : List UInt8 := [49, 56, 52, 52, 54, 55, 52, 52, 48, 55, 51, 55, 48, 57, 53, 53, 49, 54, 49, 54]
theorem two64_ok : okL two64 = true := by decide
theorem two64_num : numV two64 = B64 := by decide
theorem two64_val : val [0, 1] = B64 := by simp [val]
theorem two64_may : may [0, 1] = true := rfl
theorem two64_text : textL B64 = two64 := by rw [← two64_num, text_num two64_ok]
theorem two64_E : textE [0, 1] = 0 := textE_ok two64_may (by rw [two64_val, two64_text]; decide)
theorem two64_S : textS [0, 1] = ⟨#[49, 56, 52, 52, 54, 55, 52, 52, 48, 55, 51, 55, 48, 57, 53, 53, 49, 54, 49, 54]⟩ := by
  rw [textS_ok two64_E, two64_val]
  unfold textB
  rw [two64_text]
  rfl
theorem gcd_no0 : Nat.gcd 0 0 = 0 ∧ Nat.lcm 0 0 = 0 := ⟨rfl, rfl⟩
section
variable (w : World)
set_option maxRecDepth 100000 in
set_option maxHeartbeats 3000000 in
theorem gof_any (hG : GcdIs 37) (hM : LcmIs 38) (a b g l : Nat) (ha : a < B64) (hb : b < B64) (hg : g < B64) (hl : l < B64) (eg : Nat.gcd a b = g) (el : Nat.lcm a b = l) :
    Calls Tryz.prog 19 #[u64 a, u64 b, u64 g, u64 l] w fun e w' => e = .returned (.bool true) ∧ Below w.heap.size w w' := by
  have HG := Lib.hid eg
  have HL := Lib.hid el
  have HA := Lib.hid ha
  have HB := Lib.hid hb
  have HGB := Lib.hid hg
  have HLB := Lib.hid hl
  have LA := Lib.hid (limbs_word ha)
  have LB := Lib.hid (limbs_word hb)
  have LG := Lib.hid (limbs_word hg)
  have LL := Lib.hid (limbs_word hl)
  clear eg el ha hb hg hl
  go_enter Tryz.func19, Tryz.ntmps19
  go_wp2_with fail
  refine (of_any a _ HA.out).mono ?_
  rintro e w1 ⟨A1, k1, c1, rfl, o1, hb1⟩
  have m1 := o1.nm
  have l1 : k1 ≤ 1 := by have h1 := o1.rd.2.1; have h2 := LA.out; omega
  clear o1
  go_wp2_with fail
  refine (of_any b _ HB.out).mono ?_
  rintro e w2 ⟨A2, k2, c2, rfl, o2, hb2⟩
  have m2 := o2.nm
  have l2 : k2 ≤ 1 := by have h1 := o2.rd.2.1; have h2 := LB.out; omega
  clear o2
  replace m1 := m1.below hb2
  replace hb2 := below_then hb1 hb2
  clear hb1
  go_wp2_with fail
  refine (gcd_nm hG m1 m2 (by omega) (by omega)).mono ?_
  rw [HG.out]
  rintro e w3 ⟨A3, k3, c3, rfl, o3, hb3⟩
  have m3 := o3.nm
  have l3 : k3 ≤ 1 := by have h1 := o3.rd.2.1; have h2 := LG.out; omega
  clear o3
  replace hb3 := below_then hb2 hb3
  clear hb2
  clear m1 m2 l1 l2
  go_wp2_with fail
  refine (of_any a _ HA.out).mono ?_
  rintro e w4 ⟨A4, k4, c4, rfl, o4, hb4⟩
  have m4 := o4.nm
  have l4 : k4 ≤ 1 := by have h1 := o4.rd.2.1; have h2 := LA.out; omega
  clear o4
  replace m3 := m3.below hb4
  replace hb4 := below_then hb3 hb4
  clear hb3
  go_wp2_with fail
  refine (of_any b _ HB.out).mono ?_
  rintro e w5 ⟨A5, k5, c5, rfl, o5, hb5⟩
  have m5 := o5.nm
  have l5 : k5 ≤ 1 := by have h1 := o5.rd.2.1; have h2 := LB.out; omega
  clear o5
  replace m3 := m3.below hb5
  replace m4 := m4.below hb5
  replace hb5 := below_then hb4 hb5
  clear hb4
  go_wp2_with fail
  refine (lcm_nm hM m4 m5 (by omega) (by omega)).mono ?_
  rw [HL.out]
  rintro e w6 ⟨A6, k6, c6, rfl, o6, hb6⟩
  have m6 := o6.nm
  have l6 : k6 ≤ 1 := by have h1 := o6.rd.2.1; have h2 := LL.out; omega
  clear o6
  replace m3 := m3.below hb6
  replace hb6 := below_then hb5 hb6
  clear hb5
  clear m4 m5 l4 l5
  go_wp2_with fail
  refine (of_any g _ HGB.out).mono ?_
  rintro e w7 ⟨A7, k7, c7, rfl, o7, hb7⟩
  have m7 := o7.nm
  have l7 : k7 ≤ 1 := by have h1 := o7.rd.2.1; have h2 := LG.out; omega
  clear o7
  replace m3 := m3.below hb7
  replace m6 := m6.below hb7
  replace hb7 := below_then hb6 hb7
  clear hb6
  go_wp2_with fail
  refine (same_eq _ _ _ _ _ _ _ _ _ m3 m7 (by omega) (by omega) rfl).mono ?_
  rintro e w8 ⟨rfl, hb8⟩
  replace m6 := m6.below hb8
  replace hb8 := below_then hb7 hb8
  clear hb7
  clear m3 m7 l3 l7
  go_wp2_with fail
  refine (of_any l _ HLB.out).mono ?_
  rintro e w9 ⟨A8, k8, c8, rfl, o8, hb9⟩
  have m8 := o8.nm
  have l8 : k8 ≤ 1 := by have h1 := o8.rd.2.1; have h2 := LL.out; omega
  clear o8
  replace m6 := m6.below hb9
  replace hb9 := below_then hb8 hb9
  clear hb8
  go_wp2_with fail
  refine (same_eq _ _ _ _ _ _ _ _ _ m6 m8 (by omega) (by omega) rfl).mono ?_
  rintro e w10 ⟨rfl, hb10⟩
  replace hb10 := below_then hb9 hb10
  clear hb9
  clear m6 m8 l6 l8
  go_wp2_with fail
  go_ret
  exact ⟨rfl, hb10⟩

set_option maxRecDepth 100000 in
set_option maxHeartbeats 3000000 in
theorem galive_any (hG : GcdIs 37) (hM : LcmIs 38) (hT : TextIs 6) :
    Calls Tryz.prog 8 #[] w fun e w' => e = .returned (.bool true) ∧ Below w.heap.size w w' := by
  go_enter Tryz.func8, Tryz.ntmps8
  go_wp2_with fail
  refine (hT _ 2 2 [0, 1] _ (rd_new2 _ 0 1 _ B64_pos B64_gt) (by omega) ⟨by omega, by omega⟩).mono ?_
  rw [two64_E, two64_S]
  rintro e w1 ⟨rfl, hb1⟩
  replace hb1 := below_new hb1
  go_wp2_with fail
  refine (gof_any _ hG hM 12 18 6 36 (small_lt (by omega)) (small_lt (by omega)) (small_lt (by omega)) (small_lt (by omega)) (by decide) (by decide)).mono ?_
  rintro e w2 ⟨rfl, hb2⟩
  replace hb2 := below_then hb1 hb2
  clear hb1
  go_wp2_with fail
  refine (gof_any _ hG hM 0 5 5 0 (small_lt (by omega)) (small_lt (by omega)) (small_lt (by omega)) (small_lt (by omega)) (by decide) (by decide)).mono ?_
  rintro e w3 ⟨rfl, hb3⟩
  replace hb3 := below_then hb2 hb3
  clear hb2
  go_wp2_with fail
  refine (gof_any _ hG hM 0 0 0 0 (small_lt (by omega)) (small_lt (by omega)) (small_lt (by omega)) (small_lt (by omega)) (by decide) (by decide)).mono ?_
  rintro e w4 ⟨rfl, hb4⟩
  replace hb4 := below_then hb3 hb4
  clear hb3
  go_wp2_with fail
  refine (gof_any _ hG hM 4 6 2 12 (small_lt (by omega)) (small_lt (by omega)) (small_lt (by omega)) (small_lt (by omega)) (by decide) (by decide)).mono ?_
  rintro e w5 ⟨rfl, hb5⟩
  replace hb5 := below_then hb4 hb5
  clear hb4
  go_wp2_with fail
  go_ret
  exact ⟨rfl, hb5⟩
end
end Go.Proofs.YtoehkaagfokamaaGreatDoor
