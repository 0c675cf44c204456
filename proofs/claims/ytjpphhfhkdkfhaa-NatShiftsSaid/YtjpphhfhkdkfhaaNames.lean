import Derived.Test.YtjpphhfhkdkfhaaSums
import Derived.Test.YtjpphhfhkdkfhaaBits
import Derived.Test.YtjpphhfhkdkfhaaBitLaw
namespace Go.Proofs.Ytjpphhfhkdkfhaa
open Go.RowKit Go.Shelf
set_option linter.unusedVariables false
set_option linter.unusedSimpArgs false

theorem below_alloc_then {w w1 w2 : World} {o : Obj} (h : Below w.heap.size w w1) (k : Below (w1.alloc o).heap.size (w1.alloc o) w2) : Below w.heap.size w w2 := below_then (h.alloc h.size o) k
def half : Nat := 9223372036854775808
theorem half_cast : ((half : Nat) : Int) = 9223372036854775808 := rfl
theorem half_lt : half < B64 := by unfold half; rw [B64_eq]; omega
theorem val_01' : val [0, 1] = B64 := by simp [val]
theorem names_long : blen (val [0, 1]) = 65 := by
  rw [val_01']; exact blen_eq (k := 64) (by rw [B64_eq]; omega) (by rw [B64_eq]; omega)
theorem names_long0 : blen (val []) = 0 := rfl
theorem names_up : limbs (val [3] * 2 ^ 63) = [half, 1] := by
  have e : val [3] * 2 ^ 63 = val [half, 1] := by simp [val, B64_eq, half]
  rw [e]; exact limbs_val (words_cons half_lt (words_cons B64_gt words_nil)) rfl
theorem names_down : limbs (val [0, 1] / 2 ^ 60) = [16] := by
  have e : val [0, 1] / 2 ^ 60 = val [16] := by rw [val_01', B64_eq]; simp [val]
  rw [e]; exact limbs_val (words_cons (small_lt (by omega)) words_nil) rfl
theorem names_bit2 : nbit (val [5]) 2 = 1 := by simp [val, nbit]
theorem names_bit99 : nbit (val [5]) 99 = 0 := by simp [val, nbit]
theorem names_bad : bad [[0]] = 8 := rfl

set_option maxRecDepth 100000 in
set_option maxHeartbeats 8000000 in
theorem natNames_any (w : World) : Calls Try.prog 3 #[] w fun e w' => e = .returned (.bool true) ∧ Below w.heap.size w w' := by
  go_enter Try.func3, Try.ntmps3
  go_wp2_with fail
  refine (long_ok none 0 0 [] _ (rd_nil _ none) (by omega) rfl).mono ?_
  rw [names_long0]
  rintro e w1 ⟨rfl, hb1⟩
  go_wp2_with fail
  refine (long_ok _ 2 2 [0, 1] _ (rd_new2 _ 0 1 _ B64_pos B64_gt) (by omega) rfl).mono ?_
  rw [names_long]
  rintro e w2 ⟨rfl, hb2⟩
  replace hb2 := below_alloc_then hb1 hb2
  clear hb1
  go_wp2_with fail
  refine (up_ok _ 1 1 [3] 63 _ _ _ (rd_new1 _ 3 _ (small_lt (by omega))) (by omega) rfl (by omega) rfl rfl).mono ?_
  rintro e w3 ⟨A1, k1, c1, rfl, o1, hb3⟩
  rw [names_up] at o1
  obtain ⟨hr1, hk1, _, _⟩ := o1.rd
  obtain rfl : k1 = 2 := hk1
  clear o1
  replace hb3 := below_alloc_then hb2 hb3
  clear hb2
  go_wp2_with fail
  refine (down_ok _ 2 2 [0, 1] 60 _ _ _ (rd_new2 _ 0 1 _ B64_pos B64_gt) (by omega) rfl (by omega) rfl rfl).mono ?_
  rintro e w4 ⟨A2, k2, c2, rfl, o2, hb4⟩
  rw [names_down] at o2
  obtain ⟨hr2, hk2, _, _⟩ := o2.rd
  obtain rfl : k2 = 1 := hk2
  clear o2
  replace hr1 := (hr1.alloc _).below hb4
  replace hb4 := below_alloc_then hb3 hb4
  clear hb3
  go_wp2_with fail
  refine (word_many _ 2 2 [0, 1] _ (rd_new2 _ 0 1 _ B64_pos B64_gt) (by omega) rfl (by omega)).mono ?_
  rintro e w5 ⟨rfl, hb5⟩
  replace hr1 := (hr1.alloc _).below hb5
  replace hr2 := (hr2.alloc _).below hb5
  replace hb5 := below_alloc_then hb4 hb5
  clear hb4
  go_wp2_with fail
  refine (bit_ok _ 1 1 [5] 2 _ (rd_new1 _ 5 _ (small_lt (by omega))) (by omega) rfl (by omega)).mono ?_
  rw [names_bit2]
  rintro e w6 ⟨rfl, hb6⟩
  replace hr1 := (hr1.alloc _).below hb6
  replace hr2 := (hr2.alloc _).below hb6
  replace hb6 := below_alloc_then hb5 hb6
  clear hb5
  go_wp2_with fail
  refine (bit_ok _ 1 1 [5] 99 _ (rd_new1 _ 5 _ (small_lt (by omega))) (by omega) rfl (by omega)).mono ?_
  rw [names_bit99]
  rintro e w7 ⟨rfl, hb7⟩
  replace hr1 := (hr1.alloc _).below hb7
  replace hr2 := (hr2.alloc _).below hb7
  replace hb7 := below_alloc_then hb6 hb7
  clear hb6
  go_wp2_with fail
  rw [← half_cast]
  refine (same_any _ _ 2 _ 2 2 [half, 1] [half, 1] _ (hr1.alloc _) (rd_new2 _ half 1 _ half_lt B64_gt) (by omega) (by omega)).mono ?_
  rw [decide_eq_true (show [half, 1] = [half, 1] from rfl)]
  rintro e w8 ⟨rfl, hb8⟩
  replace hr1 := (hr1.alloc _).below hb8
  replace hr2 := (hr2.alloc _).below hb8
  replace hb8 := below_alloc_then hb7 hb8
  clear hb7
  go_wp2_with fail
  refine (same_any _ _ 1 _ 1 1 [16] [16] _ (hr2.alloc _) (rd_new1 _ 16 _ (small_lt (by omega))) (by omega) (by omega)).mono ?_
  rw [decide_eq_true (show [16] = [16] from rfl)]
  rintro e w9 ⟨rfl, hb9⟩
  replace hr1 := (hr1.alloc _).below hb9
  replace hr2 := (hr2.alloc _).below hb9
  replace hb9 := below_alloc_then hb8 hb9
  clear hb8
  go_wp2_with fail
  refine (alive_any _).mono ?_
  rintro e w10 ⟨rfl, hb10⟩
  replace hb10 := below_then hb9 hb10
  clear hb9
  go_wp2_with fail
  refine (check_any _ 1 1 [0] _ (rd_new1 _ 0 _ B64_pos) (by omega)).mono ?_
  rw [names_bad]
  rintro e w11 ⟨rfl, hb11⟩
  replace hb11 := below_alloc_then hb10 hb11
  clear hb10
  go_wp2_with fail
  refine (of_any 0 _ B64_pos).mono ?_
  rintro e w12 ⟨A3, k3, c3, rfl, o3, hb12⟩
  rw [limbs_zero] at o3
  obtain ⟨hr3, hk3, _, _⟩ := o3.rd
  obtain rfl : k3 = 0 := hk3
  clear o3
  replace hb12 := below_then hb11 hb12
  clear hb11
  go_wp2_with fail
  go_ret
  exact ⟨rfl, hb12⟩
end Go.Proofs.Ytjpphhfhkdkfhaa
