import Derived.Test.YtjipdfebehcggaaGreatDoorZRefTens
import Derived.Test.YtjipdfebehcggaaGreatDoorZTimes
/- RefParse. -/
/- The document's Parse. -/
namespace Go.Proofs.YtjipdfebehcggaaGreatDoor
open Go.RowKit Go.Shelf
set_option linter.unusedVariables false
set_option linter.unusedSimpArgs false

def parseE (s : ByteArray) : Int := if 4096 < s.size then 3 else if okL s.data.toList then 0 else 8
def parseL (s : ByteArray) : List Nat := if parseE s = 0 then limbs (numV s.data.toList) else []
theorem parseE_long {s : ByteArray} (h : 4096 < s.size) : parseE s = 3 := by simp [parseE, h]
theorem parseE_ok {s : ByteArray} (h : s.size ≤ 4096) (h2 : okL s.data.toList = true) : parseE s = 0 := by simp [parseE, h2]; omega
theorem parseE_bad {s : ByteArray} (h : s.size ≤ 4096) (h2 : okL s.data.toList = false) : parseE s = 8 := by simp [parseE, h2]; omega
theorem parseL_ok {s : ByteArray} (h : parseE s = 0) : parseL s = limbs (numV s.data.toList) := by simp [parseL, h]
theorem parseL_no {s : ByteArray} (h : parseE s ≠ 0) : parseL s = [] := by simp [parseL, h]
theorem take_snoc (s : ByteArray) (k : Nat) (h : k < s.size) : s.data.toList.take (k + 1) = s.data.toList.take k ++ [s[k]] := by
  rw [List.take_succ_eq_append_getElem (by simpa using h)]; rfl
theorem size_list (s : ByteArray) : s.data.toList.length = s.size := by simp
theorem num_step {s : ByteArray} {k : Nat} (h : k < s.size) : numV (s.data.toList.take (k + 1)) = numV (s.data.toList.take k) * 10 + (s[k].toNat - 48) := by
  rw [take_snoc s k h, numV_snoc]
theorem all_step {s : ByteArray} {k : Nat} (h : k < s.size) : (s.data.toList.take (k + 1)).all isD = ((s.data.toList.take k).all isD && isD s[k]) := by
  rw [take_snoc s k h, List.all_append]; simp
theorem all_bad {s : ByteArray} {k : Nat} (h : k < s.size) (h2 : isD s[k] = false) : okL s.data.toList = false := by
  have h3 : s.data.toList.all isD = false := by
    rw [List.all_eq_false]
    exact ⟨s[k], Array.mem_toList_iff.2 (Array.getElem_mem (xs := s.data) h), by simp [h2]⟩
  simp [okL, h3]
theorem num_lt_bits {l : List UInt8} (h : l.all isD = true) {n : Nat} (hn : l.length ≤ n) : numV l < B64 ^ (n / 16 + 1) := by
  have h1 := num_lt l h
  have h2 : (10 : Nat) ^ l.length ≤ 16 ^ l.length := Nat.pow_le_pow_left (by omega) _
  have h3 : (16 : Nat) ^ l.length ≤ 16 ^ (16 * (n / 16 + 1)) := Nat.pow_le_pow_right (by omega) (by omega)
  have h4 : (16 : Nat) ^ (16 * (n / 16 + 1)) = B64 ^ (n / 16 + 1) := by rw [Nat.pow_mul]; rfl
  omega
theorem len_ten {l : List UInt8} (h : l.all isD = true) {n : Nat} (hn : l.length ≤ n) : (limbs (numV l * 10)).length ≤ n / 16 + 2 := by
  refine limbs_length_le ?_
  have h1 := num_lt_bits h hn
  have h2 : B64 ^ (n / 16 + 2) = B64 ^ (n / 16 + 1) * B64 := Nat.pow_succ ..
  have h3 : numV l * 10 < B64 ^ (n / 16 + 1) * 10 := by omega
  have h4 : B64 ^ (n / 16 + 1) * 10 ≤ B64 ^ (n / 16 + 1) * B64 := Nat.mul_le_mul_left _ (by rw [B64_eq]; omega)
  omega
/-- A text's first byte is a nought, and there are more. -/
def nought (s : ByteArray) : Prop := s.data.toList.head? = some 48 ∧ 1 < s.size
theorem ok_iff {s : ByteArray} (h : s.data.toList ≠ []) (h2 : ¬ nought s) : okL s.data.toList = s.data.toList.all isD := by
  unfold nought at h2
  unfold okL
  have e : (s.data.toList.head? != some 48 || s.data.toList.length == 1) = true := by
    by_cases h3 : s.data.toList.head? = some 48
    · have h4 : ¬ 1 < s.size := fun x => h2 ⟨h3, x⟩
      have h5 : s.data.toList.length ≠ 0 := fun x => h (List.eq_nil_of_length_eq_zero x)
      have h6 := size_list s
      have h7 : s.data.toList.length = 1 := by omega
      rw [h7]; simp
    · simp [h3]
  rw [e, List.isEmpty_eq_false_iff.2 h]
  rfl
theorem ok_nought {s : ByteArray} (h : nought s) : okL s.data.toList = false := by
  obtain ⟨h1, h2⟩ := h
  have h6 := size_list s
  have h7 : (s.data.toList.length == 1) = false := by simp; omega
  unfold okL
  rw [h1, h7]; simp
theorem head_zero {s : ByteArray} (h : 0 < s.size) : s.data.toList.head? = some s[0] := by
  rw [List.head?_eq_getElem?, List.getElem?_eq_getElem (by simpa using h)]; rfl

section
variable (s : ByteArray) (w : World)
set_option maxRecDepth 100000 in
set_option maxHeartbeats 2000000 in
theorem rParse_long (h : 4096 < s.size) (hs : s.size ≤ 9223372036854775807) :
    Calls Tryz.prog 46 #[.string s] w (Answers w (parseL s) (parseE s)) := by
  have HE := Lib.hid (parseE_long h)
  have HL := Lib.hid (parseL_no (s := s) (by rw [HE.out]; decide))
  have hq : (4096 : Int) < (s.size : Int) := by omega
  go_enter Tryz.func46, Tryz.ntmps46
  go_wp2
  go_ret2
  rw [HE.out, HL.out]
  exact answers_nil (Below.refl _ _)
set_option maxRecDepth 100000 in
set_option maxHeartbeats 2000000 in
theorem rParse_empty (h : s.data.toList = []) :
    Calls Tryz.prog 46 #[.string s] w (Answers w (parseL s) (parseE s)) := by
  have h0 : s.size = 0 := by rw [← size_list, h]; rfl
  have HE := Lib.hid (parseE_bad (s := s) (by omega) (by rw [h]; rfl))
  have HL := Lib.hid (parseL_no (s := s) (by rw [HE.out]; decide))
  have h1 : s.toList = [] := by rw [Lib.toList_data]; exact h
  have h2 : (!s.toList.isEmpty) = false := by rw [h1]; rfl
  go_enter Tryz.func46, Tryz.ntmps46
  go_wp2
  go_ret2
  rw [HE.out, HL.out]
  exact answers_nil (Below.refl _ _)
set_option maxRecDepth 100000 in
set_option maxHeartbeats 2000000 in
theorem rParse_nought (h : nought s) (hs : s.size ≤ 4096) :
    Calls Tryz.prog 46 #[.string s] w (Answers w (parseL s) (parseE s)) := by
  have HE := Lib.hid (parseE_bad (s := s) hs (ok_nought h))
  have HL := Lib.hid (parseL_no (s := s) (by rw [HE.out]; decide))
  obtain ⟨h3, h4⟩ := h
  have h5 : s.toList ≠ [] := by rw [Lib.toList_data]; intro e; rw [e] at h3; cases h3
  have h6 : s.toList.isEmpty = false := List.isEmpty_eq_false_iff.2 h5
  have h0 : 0 < s.size := by omega
  have h7 : s[0] = 48 := by have := head_zero h0; rw [h3] at this; exact (Option.some.inj this).symm
  go_enter Tryz.func46, Tryz.ntmps46
  go_wp2
  go_ret2
  rw [HE.out, HL.out]
  exact answers_nil (Below.refl _ _)
set_option maxRecDepth 100000 in
set_option maxHeartbeats 4000000 in
theorem rParse_main (h : s.data.toList ≠ []) (hn : ¬ nought s) (hs : s.size ≤ 4096) :
    Calls Tryz.prog 46 #[.string s] w (Answers w (parseL s) (parseE s)) := by
  have HO := Lib.hid (ok_iff h hn)
  have h5 : s.toList ≠ [] := by rw [Lib.toList_data]; exact h
  have h6 : s.toList.isEmpty = false := List.isEmpty_eq_false_iff.2 h5
  have h0 : 0 < s.size := by
    rw [← size_list]; exact List.length_pos_iff.2 h
  have h7 : ¬ ((s[0].toNat : Int) = 48) ∨ (((s[0].toNat : Int) = 48) ∧ (s.size : Int) ≤ 1) := by
    by_cases e : s[0] = 48
    · right
      refine ⟨by rw [e]; rfl, ?_⟩
      have : ¬ 1 < s.size := fun x => hn ⟨by rw [head_zero h0, e], x⟩
      omega
    · left
      intro e2
      exact e (UInt8.toNat_inj.1 (by show _ = 48; omega))
  clear h hn
  have h8 : ¬ (4096 < s.size) := by omega
  rcases h7 with h7 | ⟨h7, h1⟩
  all_goals
    go_enter Tryz.func46, Tryz.ntmps46
    go_wp2
    clear h7 h6 h5
    try clear h1
    go_loopw [4, 5] (fun o i wr => ∃ (k : Nat) (A3 : Option Addr) (n3 c3 : Nat), k ≤ s.size ∧ i = .int .i64 k ∧ o = .slice A3 n3 c3 ∧ Own wr w.heap.size (.slice A3 n3 c3) (limbs (numV (s.data.toList.take k))) ∧ (s.data.toList.take k).all isD = true ∧ Below w.heap.size w wr) (fun _ i _ => s.size - (intOf i).toNat)
    case atStart => exact ⟨0, _, _, _, Nat.zero_le _, rfl, rfl, by rw [List.take_zero, numV_nil, limbs_zero]; exact own_nil _ _, rfl, Below.refl _ _⟩
    case round =>
      obtain ⟨k, A3, n3, c3, hk, rfl, rfl, o3, hall, hB⟩ := hrel
      by_cases hlt : k < s.size
      · have hst := num_step hlt
        have hal := all_step hlt
        rw [hall, Bool.true_and] at hal
        have ln3 : n3 ≤ 300 := by
          have h1 := num_lt_bits hall (n := 4096) (by rw [List.length_take]; omega)
          have h2 := limbs_length_le h1
          have h3 := o3.rd.2.1
          omega
        have ln4 : (limbs (numV (s.data.toList.take k) * 10)).length ≤ 300 := by
          have := len_ten hall (n := 4096) (by rw [List.length_take]; omega)
          omega
        have HLN4 := Lib.hid ln4
        clear ln4
        cases hd : isD s[k] with
        | false =>
          have HE := Lib.hid (parseE_bad hs (all_bad hlt hd))
          have HL := Lib.hid (parseL_no (s := s) (by rw [HE.out]; decide))
          have hd2 : (s[k].toNat : Int) < 48 ∨ (¬ ((s[k].toNat : Int) < 48) ∧ 57 < (s[k].toNat : Int)) := by
            unfold isD at hd
            simp only [Bool.and_eq_false_iff, decide_eq_false_iff_not] at hd
            omega
          clear hst hal hd hall
          rcases hd2 with hd2 | ⟨hd2, hd3⟩
          · go_wp2
            go_ret2
            rw [HE.out, HL.out]
            exact answers_nil hB
          · go_wp2
            go_ret2
            rw [HE.out, HL.out]
            exact answers_nil hB
        | true =>
          rw [hd] at hal
          have hd2 : ¬ ((s[k].toNat : Int) < 48) ∧ ¬ (57 < (s[k].toNat : Int)) := by
            unfold isD at hd
            simp only [Bool.and_eq_true, decide_eq_true_eq] at hd
            omega
          obtain ⟨hd2, hd3⟩ := hd2
          have HST := Lib.hid hst
          have HAL := Lib.hid hal
          clear hst hal hd hall
          go_wp2
          obtain ⟨c, hc⟩ : ∃ c, s[k].toNat - 48 = c := ⟨_, rfl⟩
          have hc1 : c < 10 := by omega
          have hx : (s[k].toNat : Int) = (c : Int) + 48 := by omega
          have hx1 : IntKind.u8.wrap ((s[k].toNat : Int) - 48) = (c : Int) := by rw [hx, IntKind.wrap_u8]; omega
          have hx2 : IntKind.u64.wrap (c : Int) = (c : Int) := u64_is (by rw [B64_eq]; omega)
          have hcB : c < B64 := by rw [B64_eq]; omega
          rw [hc] at HST
          have lc : (limbs c).length ≤ 1 := limbs_length_le (by rw [Nat.pow_one]; exact hcB)
          have HLC := Lib.hid lc
          clear hx hc lc
          go_region_held3 (fun _ => True) (trivial)
            (first
              | (go_at_call 66; refine (times_any A3 _ n3 c3 1 1 (limbs (numV (s.data.toList.take k))) [10] _ (o3.rd.1.drew.alloc _) (rd_new10 _ _) (by omega) (by omega)).mono ?_; (rw [val_limbs, ten10_val]); rintro e w4 ⟨A4, n4, c4, rfl, o4, hb4⟩; have ln4 : n4 ≤ 300 := (by have h1 := o4.rd.2.1; have h2 := HLN4.out; omega))
              | (go_at_call 70; refine (rOf_any _ c hcB).mono ?_; rintro e w5 ⟨A5, n5, c5, rfl, o5, hb5⟩; have ln5 : n5 ≤ 300 := (by have h1 := o5.rd.2.1; have h2 := HLC.out; omega))
              | (go_at_call 63; refine (rSum_any A4 A5 n4 c4 n5 c5 _ _ _ (o4.rd.1.below hb5) o5.rd.1 (by omega) (by omega)).mono ?_; (rw [val_limbs, val_limbs]); rintro e w6 ⟨A6, n6, c6, rfl, o6, hb6⟩))
          all_goals
            have hB6 := below_then (below_then (below_then hB.drew (below_new hb4)) hb5) hb6
            have hB5 := (below_then (below_then hB.drew (below_new hb4)) hb5).size
            replace o6 := own_mono o6 hB5
            rw [← HST.out] at o6
            clear hB5 o4 o5 o3 hb4 hb5 hb6 hB
            go_wp2_with fail
            go_roundw
            case rel => exact ⟨k + 1, _, _, _, by omega, by go_num, rfl, o6, HAL.out, hB6⟩
            case measure => first | (simp [intOf]; done) | (simp [intOf]; omega)
      · obtain rfl : k = s.size := by omega
        have hF : s.data.toList.take s.size = s.data.toList := List.take_of_length_le (by rw [size_list]; exact Nat.le_refl _)
        rw [hF] at o3 hall
        have HE := Lib.hid (parseE_ok hs (by rw [HO.out]; exact hall))
        have HL := Lib.hid (parseL_ok HE.out)
        clear hall hF
        go_wp2
        go_ret2
        rw [HE.out, HL.out]
        exact ⟨_, _, _, rfl, o3, hB⟩
/-- The document's Parse. -/
theorem rParse_any (hs : s.size ≤ 9223372036854775807) :
    Calls Tryz.prog 46 #[.string s] w (Answers w (parseL s) (parseE s)) := by
  by_cases h1 : 4096 < s.size
  · exact rParse_long s w h1 hs
  · by_cases h2 : s.data.toList = []
    · exact rParse_empty s w h2
    · by_cases h3 : nought s
      · exact rParse_nought s w h3 (by omega)
      · exact rParse_main s w h2 h3 (by omega)
end
end Go.Proofs.YtjipdfebehcggaaGreatDoor
