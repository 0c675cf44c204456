import Derived.Test.YtgiokmfdafmaoaaGreatJSum
import Derived.Deep.DeepFit
import Derived.Deep.DeepMust
/- Add. -/
namespace Go.Proofs.YtgiokmfdafmaoaaGreat
open Go.RowKit Go.Shelf

theorem bad_zero {ls : List (List Nat)} (h : ls.all may = true) : bad ls = 0 := by unfold bad; rw [if_pos h]
theorem bad_eight {ls : List (List Nat)} (h : ls.all may = false) : bad ls = 8 := by unfold bad; rw [if_neg (by rw [h]; simp)]

section
variable (A A2 : Option Addr) (na ca nb cb : Nat) (a b : List Nat) (w : World)

set_option maxHeartbeats 400000 in
/-- nat.Check. -/
theorem check_any (hra : Rd w A na a) (hna : na ≤ 4294967296) :
    Calls Tryz.prog 83 #[.slice A na ca] w fun e w' => e = .returned (.int .i64 (bad [a])) ∧ Below w.heap.size w w' := by
  have hr := rows2_one (ca := ca) hra (by omega) 23
  have HR := Lib.hid hr
  clear hr hra
  go_enter Tryz.func83, Tryz.ntmps83
  go_wp2_with (go_at_call 89; refine (mayBe_any w.heap.size 0 1 1 [a] _ HR.out rfl (by omega)).mono ?_; rintro e w' ⟨rfl, rfl⟩)
  go_ret
  exact ⟨rfl, (Below.refl _ _).alloc (Nat.le_refl _) _⟩

set_option maxHeartbeats 1000000 in
/-- nat.Add, where one of the numbers may not be. -/
theorem add_bad (hra : Rd w A na a) (hrb : Rd w A2 nb b) (hna : na ≤ 4294967296) (hnb : nb ≤ 4294967296) (hm : [a, b].all may = false) :
    Calls Tryz.prog 114 #[.slice A na ca, .slice A2 nb cb] w fun e w' => e = .returned (.tuple #[.slice none 0 0, .int .i64 8]) ∧ Below w.heap.size w w' := by
  have hr := rows2_two (ca := ca) (cb := cb) hra hrb (by omega) (by omega) 23
  have HR := Lib.hid hr
  have HM := Lib.hid hm
  clear hr hm hra hrb
  go_enter Tryz.func114, Tryz.ntmps114
  go_wp2_with (go_at_call 89; refine (mayBe_any w.heap.size 0 2 2 [a, b] _ HR.out rfl (by omega)).mono ?_; rw [bad_eight HM.out]; rintro e w' ⟨rfl, rfl⟩)
  go_ret2
  exact ⟨rfl, (Below.refl _ _).alloc (Nat.le_refl _) _⟩

set_option maxHeartbeats 1000000 in
/-- nat.Add. -/
theorem add_ok (hra : Rd w A na a) (hrb : Rd w A2 nb b) (hna : na ≤ 4294967296) (hnb : nb ≤ 4294967296) (hm : [a, b].all may = true) :
    Calls Tryz.prog 114 #[.slice A na ca, .slice A2 nb cb] w fun e w' => ∃ A' k c, e = .returned (.tuple #[.slice A' k c, .int .i64 0]) ∧ Own w' w.heap.size (.slice A' k c) (limbs (val a + val b)) ∧ Below w.heap.size w w' := by
  obtain ⟨i0, hi, hz0, hz1, hz2⟩ := info_parts u64_info
  obtain ⟨m, hmax⟩ : ∃ m, m = max na nb := ⟨_, rfl⟩
  have hm1 : na ≤ m ∧ nb ≤ m ∧ m ≤ 4294967296 := by omega
  have hr := rows2_two (ca := ca) (cb := cb) hra hrb (by omega) (by omega) 23
  have hwa := hra.words
  have hwb := hrb.words
  have hall := joined_add_all hwa hwb (m := m) (by rw [hra.len]; omega) (by rw [hrb.len]; omega)
  have hok := joined_ok joiner_add (pairs2 hwa hwb m)
  rw [pairs2_length] at hok
  have HR := Lib.hid hr
  have HM := Lib.hid hm
  have HX := Lib.hid hmax
  have HA := Lib.hid hra
  have HB := Lib.hid hrb
  have HL := Lib.hid hall
  have HO := Lib.hid hok
  clear hr hm hmax hall hok hra hrb
  go_enter Tryz.func114, Tryz.ntmps114
  go_wp2_with (first
    | (go_at_call 89; refine (mayBe_any w.heap.size 0 2 2 [a, b] _ HR.out rfl (by omega)).mono ?_; rw [bad_zero HM.out]; rintro e w' ⟨rfl, rfl⟩)
    | (go_at_call 133; refine (join_any 134 howAdd joiner_add A A2 na ca nb cb m a b _ hna hnb HX.out (HA.out.alloc _) (HB.out.alloc _) hwa hwb).mono ?_; rintro e w1 ⟨rfl, hown, hbel⟩; simp only [World.size_alloc] at hown hbel; have hrow := hown.alloc (.cells #[u64 (joined howAdd (pairs2 hwa hwb m)).2] 36); have hnew := Lib.hid (cell_one_new w1 (u64 (joined howAdd (pairs2 hwa hwb m)).2) 36); clear hown)
    | (at_builtin; go_loud (refine wpList_append_fits _ rfl _ _ 23 rfl (w.heap.size + 1) 36 i0 1 Tryz.underlying23 hi hz1 _ _ _ _ rfl hrow ⟨w1.heap.size, 0, none⟩ 1 1 [u64 (joined howAdd (pairs2 hwa hwb m)).2] rfl rfl hnew.out (by simp [Value.oneCell']) (by omega) ?_); intro w3 hown3 hgrow3; have hown4 : Own w3 (w.heap.size + 1) (.slice (some ⟨w.heap.size + 1 + 3, 0, none⟩) (m + 1) (m + 1)) ((joined howAdd (pairs2 hwa hwb m)).1 ++ [(joined howAdd (pairs2 hwa hwb m)).2]) := ⟨by rw [List.length_append, HO.out.1, List.map_append]; exact hown3, words_append HO.out.2.1 (words_cons (by have := HO.out.2.2; have := B64_gt; omega) words_nil)⟩; have hO4 := Lib.hid hown4; clear hown3 hown4)
    | (go_at_call 82; refine (trim_any _ _ _ _ w3 hO4.out.rd.1 (by omega) (by omega)).mono ?_; rintro e w' ⟨⟨k, hk, rfl, ht⟩, rfl⟩; have HT := Lib.hid ht; clear ht))
  go_ret2
  refine ⟨_, k, _, rfl, ?_, ?_⟩
  · rw [← HL.out, ← HT.out]
    exact own_mono (own_trim hO4.out hk) (by omega)
  · have h1 : Below w.heap.size w w1 := ((Below.refl _ w).alloc (Nat.le_refl _) _).trans (hbel.mono (by omega))
    exact (h1.alloc h1.size _).grown hgrow3 (by rw [World.size_alloc]; have := h1.size; omega) (fun k e => by cases e; omega)
set_option maxHeartbeats 1000000 in
/-- nat.Sub, where one of the numbers may not be. -/
theorem sub_bad (hra : Rd w A na a) (hrb : Rd w A2 nb b) (hna : na ≤ 4294967296) (hnb : nb ≤ 4294967296) (hm : [a, b].all may = false) :
    Calls Tryz.prog 129 #[.slice A na ca, .slice A2 nb cb] w fun e w' => e = .returned (.tuple #[.slice none 0 0, .int .i64 8]) ∧ Below w.heap.size w w' := by
  have hr := rows2_two (ca := ca) (cb := cb) hra hrb (by omega) (by omega) 23
  have HR := Lib.hid hr
  have HM := Lib.hid hm
  clear hr hm hra hrb
  go_enter Tryz.func129, Tryz.ntmps129
  go_wp2_with (go_at_call 89; refine (mayBe_any w.heap.size 0 2 2 [a, b] _ HR.out rfl (by omega)).mono ?_; rw [bad_eight HM.out]; rintro e w' ⟨rfl, rfl⟩)
  go_ret2
  exact ⟨rfl, (Below.refl _ _).alloc (Nat.le_refl _) _⟩


set_option maxHeartbeats 1000000 in
/-- nat.Sub, where the first number is less. -/
theorem sub_less (hra : Rd w A na a) (hrb : Rd w A2 nb b) (hna : na ≤ 4294967296) (hnb : nb ≤ 4294967296) (hm : [a, b].all may = true) (hlt : val a < val b) :
    Calls Tryz.prog 129 #[.slice A na ca, .slice A2 nb cb] w fun e w' => e = .returned (.tuple #[.slice none 0 0, .int .i64 10]) ∧ Below w.heap.size w w' := by
  obtain ⟨m, hmax⟩ : ∃ m, m = max na nb := ⟨_, rfl⟩
  have hm1 : na ≤ m ∧ nb ≤ m ∧ m ≤ 4294967296 := by omega
  have hr := rows2_two (ca := ca) (cb := cb) hra hrb (by omega) (by omega) 23
  have hwa := hra.words
  have hwb := hrb.words
  have hall := (joined_sub_all hwa hwb (m := m) (by rw [hra.len]; omega) (by rw [hrb.len]; omega)).2 hlt
  have HR := Lib.hid hr
  have HM := Lib.hid hm
  have HX := Lib.hid hmax
  have HL := Lib.hid hall
  clear hr hm hmax hall hlt
  go_enter Tryz.func129, Tryz.ntmps129
  go_wp2_with (first
    | (go_at_call 89; refine (mayBe_any w.heap.size 0 2 2 [a, b] _ HR.out rfl (by omega)).mono ?_; rw [bad_zero HM.out]; rintro e w' ⟨rfl, rfl⟩)
    | (go_at_call 133; refine (join_any 142 howSub joiner_sub A A2 na ca nb cb m a b _ hna hnb HX.out (hra.alloc _) (hrb.alloc _) hwa hwb).mono ?_; rw [HL.out]; rintro e w1 ⟨rfl, hown, hbel⟩; simp only [World.size_alloc] at hown hbel))
  go_ret2
  exact ⟨rfl, ((Below.refl _ w).alloc (Nat.le_refl _) _).trans (hbel.mono (by omega))⟩

set_option maxHeartbeats 1000000 in
/-- nat.Sub. -/
theorem sub_ok (hra : Rd w A na a) (hrb : Rd w A2 nb b) (hna : na ≤ 4294967296) (hnb : nb ≤ 4294967296) (hm : [a, b].all may = true) (hle : val b ≤ val a) :
    Calls Tryz.prog 129 #[.slice A na ca, .slice A2 nb cb] w fun e w' => ∃ A' k c, e = .returned (.tuple #[.slice A' k c, .int .i64 0]) ∧ Own w' w.heap.size (.slice A' k c) (limbs (val a - val b)) ∧ Below w.heap.size w w' := by
  obtain ⟨m, hmax⟩ : ∃ m, m = max na nb := ⟨_, rfl⟩
  have hm1 : na ≤ m ∧ nb ≤ m ∧ m ≤ 4294967296 := by omega
  have hr := rows2_two (ca := ca) (cb := cb) hra hrb (by omega) (by omega) 23
  have hwa := hra.words
  have hwb := hrb.words
  have hall := (joined_sub_all hwa hwb (m := m) (by rw [hra.len]; omega) (by rw [hrb.len]; omega)).1 hle
  have hok := joined_ok joiner_sub (pairs2 hwa hwb m)
  rw [pairs2_length] at hok
  have HR := Lib.hid hr
  have HM := Lib.hid hm
  have HX := Lib.hid hmax
  have HL := Lib.hid hall
  have HO := Lib.hid hok
  clear hr hm hmax hall hok hle
  go_enter Tryz.func129, Tryz.ntmps129
  go_wp2_with (first
    | (go_at_call 89; refine (mayBe_any w.heap.size 0 2 2 [a, b] _ HR.out rfl (by omega)).mono ?_; rw [bad_zero HM.out]; rintro e w' ⟨rfl, rfl⟩)
    | (go_at_call 133; refine (join_any 142 howSub joiner_sub A A2 na ca nb cb m a b _ hna hnb HX.out (hra.alloc _) (hrb.alloc _) hwa hwb).mono ?_; rw [HL.out.1]; rintro e w1 ⟨rfl, hown, hbel⟩; simp only [World.size_alloc] at hown hbel; have hown4 : Own w1 (w.heap.size + 1) (.slice (some ⟨w.heap.size + 1 + 3, 0, none⟩) m (m + 1)) (joined howSub (pairs2 hwa hwb m)).1 := ⟨by rw [HO.out.1]; exact hown, HO.out.2.1⟩; have hO4 := Lib.hid hown4; clear hown hown4)
    | (go_at_call 82; refine (trim_any _ _ _ _ w1 hO4.out.rd.1 (by omega) (by omega)).mono ?_; rintro e w' ⟨⟨k, hk, rfl, ht⟩, rfl⟩; have HT := Lib.hid ht; clear ht))
  go_ret2
  refine ⟨_, k, _, rfl, ?_, ?_⟩
  · rw [← HL.out.2, ← HT.out]
    exact own_mono (own_trim hO4.out hk) (by omega)
  · exact ((Below.refl _ w).alloc (Nat.le_refl _) _).trans (hbel.mono (by omega))
end
end Go.Proofs.YtgiokmfdafmaoaaGreat
