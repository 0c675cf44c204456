import Derived.Test.YtjpphhfhkdkfhaaAdd
import Derived.Test.YtjpphhfhkdkfhaaSame
import Derived.Test.YtjpphhfhkdkfhaaRowL
namespace Go.Proofs.Ytjpphhfhkdkfhaa
open Go.RowKit Go.Shelf


theorem sum_top : limbs (val [top] + val [1]) = [0, 1] := by
  have e : val [top] + val [1] = val [0, 1] := by simp [val, B64_eq, top]
  rw [e]
  exact limbs_val (words_cons B64_pos (words_cons B64_gt words_nil)) rfl
theorem rest_top : limbs (val [0, 1] - val [1]) = [top] := by
  have e : val [0, 1] - val [1] = val [top] := by simp [val, B64_eq, top]
  rw [e]
  exact limbs_val (words_cons top_lt words_nil) rfl
theorem may_top : [[top], [1]].all may = true := rfl
theorem val_01 : val [1] ≤ val [0, 1] := by simp [val, B64_eq]

set_option maxHeartbeats 2000000 in
theorem alive_any (w : World) : Calls Try.prog 16 #[] w fun e w' => e = .returned (.bool true) ∧ Below w.heap.size w w' := by
  go_enter Try.func16, Try.ntmps16
  go_wp2_with fail
  rw [← top_cast]
  refine (add_ok _ _ 1 1 1 1 [top] [1] _ ((rd_new1 w top _ top_lt).alloc _) (by have := rd_new1 (w.alloc (.cells #[u64 top] 25)) 1 25 B64_gt; rwa [World.size_alloc] at this) (by omega) (by omega) may_top).mono ?_
  rintro e w1 ⟨A1, k1, c1, rfl, ho1, hb1⟩
  rw [sum_top] at ho1
  obtain ⟨hr1, hk1, hc1, hc1'⟩ := ho1.rd
  obtain rfl : k1 = 2 := hk1
  go_wp2_with fail
  refine (sub_ok _ _ _ _ _ _ [0, 1] [1] _ (hr1.alloc _) (rd_new1 w1 1 _ B64_gt) (by omega) (by omega) rfl val_01).mono ?_
  rintro e w2 ⟨A2, k2, c2, rfl, ho2, hb2⟩
  rw [rest_top] at ho2
  obtain ⟨hr2, hk2, hc2, hc2'⟩ := ho2.rd
  obtain rfl : k2 = 1 := hk2
  replace hb1 : Below w.heap.size w w1 := (((Below.refl _ w).alloc (Nat.le_refl _) _).alloc (by simp) _).trans (hb1.mono (by simp; omega))
  replace hr1 : Rd w2 A1 2 [0, 1] := (hr1.alloc _).below hb2
  replace hb2 : Below w.heap.size w w2 := hb1.trans (((Below.refl _ w1).alloc hb1.size _).trans (hb2.mono (by have := hb1.size; simp; omega)))
  go_wp2_with fail
  refine (sub_less _ _ _ _ _ _ [1] [2] _ ((rd_new1 w2 1 _ B64_gt).alloc _) (by have := rd_new1 (w2.alloc (.cells #[u64 1] 25)) 2 25 (by rw [B64_eq]; omega); rwa [World.size_alloc] at this) (by omega) (by omega) rfl (by simp [val])).mono ?_
  rintro e w3 ⟨rfl, hb3⟩
  replace hr1 : Rd w3 A1 2 [0, 1] := ((hr1.alloc _).alloc _).below hb3
  replace hr2 : Rd w3 A2 1 [top] := ((hr2.alloc _).alloc _).below hb3
  replace hb3 : Below w.heap.size w w3 := hb2.trans ((((Below.refl _ w2).alloc hb2.size _).alloc (by have := hb2.size; simp; omega) _).trans (hb3.mono (by have := hb2.size; simp; omega)))
  clear ho1 ho2 hb1 hb2
  go_wp2_with fail
  refine (same_any _ _ _ _ _ _ [0, 1] [0, 1] _ (hr1.alloc _) (rd_new2 w3 0 1 _ B64_pos B64_gt) (by omega) (by omega)).mono ?_
  rintro e w4 ⟨rfl, hb4⟩
  rw [show decide (([0, 1] : List Nat) = [0, 1]) = true from rfl]
  replace hr2 : Rd w4 A2 1 [top] := (hr2.alloc _).below hb4
  replace hb4 : Below w.heap.size w w4 := hb3.trans (((Below.refl _ w3).alloc hb3.size _).trans (hb4.mono (by have := hb3.size; simp; omega)))
  go_wp2_with fail
  rw [← top_cast]
  refine (same_any _ _ _ _ _ _ [top] [top] _ (hr2.alloc _) (rd_new1 w4 top _ top_lt) (by omega) (by omega)).mono ?_
  rintro e w5 ⟨rfl, hb5⟩
  rw [show decide (([top] : List Nat) = [top]) = true from decide_eq_true rfl]
  replace hb5 : Below w.heap.size w w5 := hb4.trans (((Below.refl _ w4).alloc hb4.size _).trans (hb5.mono (by have := hb4.size; simp; omega)))
  go_wp2_with fail
  go_ret
  exact ⟨rfl, hb5⟩
end Go.Proofs.Ytjpphhfhkdkfhaa
