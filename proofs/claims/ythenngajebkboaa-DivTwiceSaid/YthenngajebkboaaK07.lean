import Derived.Deep.DeepFit
import Derived.Deep.DeepMust
import Derived.Test.YthenngajebkboaaK06
/- Texts of one proof, one behind another: Add Same. -/
namespace Go.Proofs.Ythenngajebkboaa
open Go.RowKit Go.Shelf

theorem bad_zero {ls : List (List Nat)} (h : ls.all may = true) : bad ls = 0 := by unfold bad; rw [if_pos h]
theorem bad_eight {ls : List (List Nat)} (h : ls.all may = false) : bad ls = 8 := by unfold bad; rw [if_neg (by rw [h]; simp)]

section
variable (A A2 : Option Addr) (na ca nb cb : Nat) (a b : List Nat) (w : World)

set_option maxHeartbeats 400000 in
/-- nat.Check. -/
theorem check_any (hra : Rd w A na a) (hna : na ≤ 4294967296) :
    Calls Try.prog 18 #[.slice A na ca] w fun e w' => e = .returned (.int .i64 (bad [a])) ∧ Below w.heap.size w w' := by
  have hr := rows2_one (ca := ca) hra (by omega) 23
  have HR := Lib.hid hr
  clear hr hra
  go_enter Try.func18, Try.ntmps18
  go_wp2_with (go_at_call 29; refine (mayBe_any w.heap.size 0 1 1 [a] _ HR.out rfl (by omega)).mono ?_; rintro e w' ⟨rfl, rfl⟩)
  go_ret
  exact ⟨rfl, (Below.refl _ _).alloc (Nat.le_refl _) _⟩

set_option maxHeartbeats 1000000 in
/-- nat.Add, where one of the numbers may not be. -/
theorem add_bad (hra : Rd w A na a) (hrb : Rd w A2 nb b) (hna : na ≤ 4294967296) (hnb : nb ≤ 4294967296) (hm : [a, b].all may = false) :
    Calls Try.prog 19 #[.slice A na ca, .slice A2 nb cb] w fun e w' => e = .returned (.tuple #[.slice none 0 0, .int .i64 8]) ∧ Below w.heap.size w w' := by
  have hr := rows2_two (ca := ca) (cb := cb) hra hrb (by omega) (by omega) 23
  have HR := Lib.hid hr
  have HM := Lib.hid hm
  clear hr hm hra hrb
  go_enter Try.func19, Try.ntmps19
  go_wp2_with (go_at_call 29; refine (mayBe_any w.heap.size 0 2 2 [a, b] _ HR.out rfl (by omega)).mono ?_; rw [bad_eight HM.out]; rintro e w' ⟨rfl, rfl⟩)
  go_ret2
  exact ⟨rfl, (Below.refl _ _).alloc (Nat.le_refl _) _⟩

set_option maxHeartbeats 1000000 in
/-- nat.Add. -/
theorem add_ok (hra : Rd w A na a) (hrb : Rd w A2 nb b) (hna : na ≤ 4294967296) (hnb : nb ≤ 4294967296) (hm : [a, b].all may = true) :
    Calls Try.prog 19 #[.slice A na ca, .slice A2 nb cb] w fun e w' => ∃ A' k c, e = .returned (.tuple #[.slice A' k c, .int .i64 0]) ∧ Own w' w.heap.size (.slice A' k c) (limbs (val a + val b)) ∧ Below w.heap.size w w' := by
  obtain ⟨i0, hi, hz0, hz1, hz2⟩ := info_parts u64_info
  obtain ⟨m, hmax⟩ : ∃ m, m = max na nb := ⟨_, rfl⟩
  have hm1 : na ≤ m ∧ nb ≤ m ∧ m ≤ 4294967296 := by omega
  have hr := rows2_two (ca := ca) (cb := cb) hra hrb (by omega) (by omega) 23
  have hwa := hra.words
  have hwb := hrb.words
  have hall := joined_add_all hwa hwb (m := m) (by rw [hra.len]; omega) (by rw [hrb.len]; omega)
  have hok := joined_ok joiner_add (pairs2 hwa hwb m)
  rw [pairs2_length] at hok
  have HR := Lib.hid hr
  have HM := Lib.hid hm
  have HX := Lib.hid hmax
  have HA := Lib.hid hra
  have HB := Lib.hid hrb
  have HL := Lib.hid hall
  have HO := Lib.hid hok
  clear hr hm hmax hall hok hra hrb
  go_enter Try.func19, Try.ntmps19
  go_wp2_with (first
    | (go_at_call 29; refine (mayBe_any w.heap.size 0 2 2 [a, b] _ HR.out rfl (by omega)).mono ?_; rw [bad_zero HM.out]; rintro e w' ⟨rfl, rfl⟩)
    | (go_at_call 30; refine (join_any 31 howAdd joiner_add A A2 na ca nb cb m a b _ hna hnb HX.out (HA.out.alloc _) (HB.out.alloc _) hwa hwb).mono ?_; rintro e w1 ⟨rfl, hown, hbel⟩; simp only [World.size_alloc] at hown hbel; have hrow := hown.alloc (.cells #[u64 (joined howAdd (pairs2 hwa hwb m)).2] 27); have hnew := Lib.hid (cell_one_new w1 (u64 (joined howAdd (pairs2 hwa hwb m)).2) 27); clear hown)
    | (at_builtin; go_loud (refine wpList_append_fits _ rfl _ _ 23 rfl (w.heap.size + 1) 27 i0 1 Try.underlying23 hi hz1 _ _ _ _ rfl hrow ⟨w1.heap.size, 0, none⟩ 1 1 [u64 (joined howAdd (pairs2 hwa hwb m)).2] rfl rfl hnew.out (by simp [Value.oneCell']) (by omega) ?_); intro w3 hown3 hgrow3; have hown4 : Own w3 (w.heap.size + 1) (.slice (some ⟨w.heap.size + 1 + 3, 0, none⟩) (m + 1) (m + 1)) ((joined howAdd (pairs2 hwa hwb m)).1 ++ [(joined howAdd (pairs2 hwa hwb m)).2]) := ⟨by rw [List.length_append, HO.out.1, List.map_append]; exact hown3, words_append HO.out.2.1 (words_cons (by have := HO.out.2.2; have := B64_gt; omega) words_nil)⟩; have hO4 := Lib.hid hown4; clear hown3 hown4)
    | (go_at_call 32; refine (trim_any _ _ _ _ w3 hO4.out.rd.1 (by omega) (by omega)).mono ?_; rintro e w' ⟨⟨k, hk, rfl, ht⟩, rfl⟩; have HT := Lib.hid ht; clear ht))
  go_ret2
  refine ⟨_, k, _, rfl, ?_, ?_⟩
  · rw [← HL.out, ← HT.out]
    exact own_mono (own_trim hO4.out hk) (by omega)
  · have h1 : Below w.heap.size w w1 := ((Below.refl _ w).alloc (Nat.le_refl _) _).trans (hbel.mono (by omega))
    exact (h1.alloc h1.size _).grown hgrow3 (by rw [World.size_alloc]; have := h1.size; omega) (fun k e => by cases e; omega)
end
end Go.Proofs.Ythenngajebkboaa

namespace Go.Proofs.Ythenngajebkboaa
open Go.RowKit

theorem below_then {w w1 w2 : World} (h : Below w.heap.size w w1) (k : Below w1.heap.size w1 w2) : Below w.heap.size w w2 := h.trans (k.mono h.size)

/-- Lists that part at a place are not the same. -/
theorem lim_ne {l m : List Nat} {i : Nat} (h : lim l i ≠ lim m i) : l ≠ m := fun e => h (by rw [e])
theorem eq_of_lim {l m : List Nat} (hl : l.length = m.length) (h : ∀ i, i < l.length → lim l i = lim m i) : l = m := by
  apply List.ext_getElem hl
  intro i h1 h2
  have := h i h1
  rwa [lim_get h1, lim_get h2] at this

set_option maxHeartbeats 1000000 in
/-- The document's Same. -/
theorem same_any (A A2 : Option Addr) (na ca nb cb : Nat) (a b : List Nat) (w : World) (hra : Rd w A na a) (hrb : Rd w A2 nb b) (hna : na ≤ 4294967296) (hnb : nb ≤ 4294967296) :
    Calls Try.prog 12 #[.slice A na ca, .slice A2 nb cb] w fun e w' => e = .returned (.bool (decide (a = b))) ∧ Below w.heap.size w w' := by
  by_cases hl : na = nb
  · subst hl
    go_enter Try.func12, Try.ntmps12
    go_wp2
    go_loopw [5] (fun i wr => ∃ k : Nat, k ≤ na ∧ i = .int .i64 (k : Int) ∧ (∀ j, j < k → lim a j = lim b j) ∧ Below w.heap.size w wr) (fun i _ => na - (intOf i).toNat)
    case atStart => exact ⟨0, by omega, rfl, fun j hj => by omega, Below.refl _ _⟩
    case round =>
      obtain ⟨k, hk, rfl, hs, hb⟩ := hrel
      by_cases hlt : k < na
      · obtain ⟨b1, o1, rfl, _, hc1⟩ := (hra.below hb).cells (by omega)
        obtain ⟨b2, o2, rfl, _, hc2⟩ := (hrb.below hb).cells (by omega)
        have hca := hc1 k hlt
        have hcb := hc2 k hlt
        have HS := Lib.hid hs
        clear hc1 hc2 hs
        by_cases he : lim a k = lim b k
        · have HE := Lib.hid he
          have hne : (((lim a k : Nat) : Int) != ((lim b k : Nat) : Int)) = false := by simp [he]
          clear he
          go_wp2
          go_quiet (fail)
          go_wp2
          go_roundw
          case rel => exact ⟨k + 1, by omega, by go_num, fun j hj => (by
            rcases Nat.lt_or_ge j k with h | h
            · exact HS.out j h
            · obtain rfl : j = k := by omega
              exact HE.out), below_drewN hb _⟩
          case measure => simp [intOf]; omega
        · have hne : (((lim a k : Nat) : Int) != ((lim b k : Nat) : Int)) = true := by simp; omega
          have hab : decide (a = b) = false := by simp; exact lim_ne he
          have HB := Lib.hid hab
          clear hab he
          go_wp2
          go_quiet (fail)
          go_wp2
          go_ret
          exact ⟨by rw [HB.out]; rfl, below_drewN hb _⟩
      · have hab : decide (a = b) = true := by
          have e := hra.len
          have e2 := hrb.len
          simp
          exact eq_of_lim (by omega) fun i hi => hs i (by omega)
        have HB := Lib.hid hab
        clear hab hs hra hrb
        go_wp2
        go_ret
        exact ⟨by rw [HB.out]; rfl, hb⟩
  · have hab : decide (a = b) = false := by
      have e := hra.len
      have e2 := hrb.len
      simp
      rintro rfl
      omega
    have HB := Lib.hid hab
    have hne : (((na : Nat) : Int) != ((nb : Nat) : Int)) = true := by simp; omega
    clear hab hra hrb
    go_enter Try.func12, Try.ntmps12
    go_wp2
    go_ret
    exact ⟨by rw [HB.out]; rfl, Below.refl _ _⟩
end Go.Proofs.Ythenngajebkboaa
