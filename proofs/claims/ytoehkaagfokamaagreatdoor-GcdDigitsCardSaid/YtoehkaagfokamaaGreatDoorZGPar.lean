import Derived.Shelf.Pu.ParseUintPublic10
import Derived.Ground.MpProg
import Derived.Test.YtoehkaagfokamaaGreatDoorProg
import Derived.Test.YtoehkaagfokamaaGreatDoorZMSpec
import Derived.Test.YtoehkaagfokamaaGreatDoorZBit
import Derived.Test.YtoehkaagfokamaaGreatDoorZRefParse
import Derived.Test.YtoehkaagfokamaaGreatDoorZGTexts
import Derived.Lib.OthersKept
import Derived.Lib.AtoiErrMem
/- Pu GPar. -/
/- A laying of the library's contracts at this program. -/
namespace Go.Proofs
open Go.Shelf
def Tryz.laysPu14_ren : Go.Shelf.Ren := ⟨fun | 14 => 36 | 16 => 57 | 17 => 58 | 19 => 78 | 20 => 79 | 21 => 80 | 22 => 81 | 23 => 82 | 24 => 83 | 25 => 95 | 27 => 97 | 26 => 96 | 28 => 110 | 29 => 119 | 30 => 127 | 31 => 128 | 32 => 129 | 33 => 130 | 35 => 105 | 34 => 132 | 36 => 133 | 37 => 134 | 38 => 135 | 39 => 136 | 40 => 137 | n => n, fun | 9 => 9 | 3 => 3 | 22 => 31 | 24 => 63 | 25 => 64 | 4 => 4 | 34 => 110 | 5 => 5 | 36 => 112 | 37 => 57 | 0 => 0 | 39 => 113 | 21 => 21 | 44 => 128 | 47 => 148 | 50 => 151 | 48 => 149 | 2 => 2 | 52 => 165 | 55 => 167 | 59 => 170 | 60 => 171 | 20 => 20 | 61 => 172 | 65 => 176 | 66 => 177 | 67 => 178 | n => n, fun | 0 => 2 | 1 => 3 | 2 => 7 | 3 => 8 | 4 => 9 | n => n⟩
theorem Tryz.laysPu14 : Go.Proofs.LaysPu.n14 Tryz.prog Tryz.laysPu14_ren := {
  mixed := by kernel_rfl
  f14 := Tryz.func36.trans (congrArg some (by kernel_rfl))
  f16 := Tryz.func57.trans (congrArg some (by kernel_rfl))
  f17 := Tryz.func58.trans (congrArg some (by kernel_rfl))
  f19 := Tryz.func78.trans (congrArg some (by kernel_rfl))
  f20 := Tryz.func79.trans (congrArg some (by kernel_rfl))
  f21 := Tryz.func80.trans (congrArg some (by kernel_rfl))
  f22 := Tryz.func81.trans (congrArg some (by kernel_rfl))
  f23 := Tryz.func82.trans (congrArg some (by kernel_rfl))
  f24 := Tryz.func83.trans (congrArg some (by kernel_rfl))
  f25 := Tryz.func95.trans (congrArg some (by kernel_rfl))
  f26 := Tryz.func96.trans (congrArg some (by kernel_rfl))
  f27 := Tryz.func97.trans (congrArg some (by kernel_rfl))
  f28 := Tryz.func110.trans (congrArg some (by kernel_rfl))
  f29 := Tryz.func119.trans (congrArg some (by kernel_rfl))
  f30 := Tryz.func127.trans (congrArg some (by kernel_rfl))
  f31 := Tryz.func128.trans (congrArg some (by kernel_rfl))
  f32 := Tryz.func129.trans (congrArg some (by kernel_rfl))
  f33 := Tryz.func130.trans (congrArg some (by kernel_rfl))
  f34 := Tryz.func132.trans (congrArg some (by kernel_rfl))
  f35 := Tryz.func105.trans (congrArg some (by kernel_rfl))
  f36 := Tryz.func133.trans (congrArg some (by kernel_rfl))
  f37 := Tryz.func134.trans (congrArg some (by kernel_rfl))
  f38 := Tryz.func135.trans (congrArg some (by kernel_rfl))
  f39 := Tryz.func136.trans (congrArg some (by kernel_rfl))
  f40 := Tryz.func137.trans (congrArg some (by kernel_rfl))
  t0 := Tryz.underlying0
  a0 := Tryz.isAgg0
  z0 := Tryz.sizeOf0
  v0 := Tryz.zeroValue0
  i0 := by kernel_rfl
  t2 := Tryz.underlying2
  a2 := Tryz.isAgg2
  z2 := Tryz.sizeOf2
  v2 := Tryz.zeroValue2
  i2 := by kernel_rfl
  t3 := Tryz.underlying3
  a3 := Tryz.isAgg3
  z3 := Tryz.sizeOf3
  v3 := Tryz.zeroValue3
  i3 := by kernel_rfl
  t4 := Tryz.underlying4
  a4 := Tryz.isAgg4
  z4 := Tryz.sizeOf4
  v4 := Tryz.zeroValue4
  i4 := by kernel_rfl
  t5 := Tryz.underlying5
  a5 := Tryz.isAgg5
  z5 := Tryz.sizeOf5
  v5 := Tryz.zeroValue5
  i5 := by kernel_rfl
  t9 := Tryz.underlying9
  a9 := Tryz.isAgg9
  z9 := Tryz.sizeOf9
  v9 := Tryz.zeroValue9
  i9 := by kernel_rfl
  t20 := Tryz.underlying20
  a20 := Tryz.isAgg20
  z20 := Tryz.sizeOf20
  v20 := Tryz.zeroValue20
  i20 := by kernel_rfl
  t21 := Tryz.underlying21
  a21 := Tryz.isAgg21
  z21 := Tryz.sizeOf21
  v21 := Tryz.zeroValue21
  i21 := by kernel_rfl
  t22 := Tryz.underlying31
  a22 := Tryz.isAgg31
  z22 := Tryz.sizeOf31
  v22 := Tryz.zeroValue31
  i22 := by kernel_rfl
  t24 := Tryz.underlying63
  a24 := Tryz.isAgg63
  z24 := Tryz.sizeOf63
  v24 := Tryz.zeroValue63
  i24 := by kernel_rfl
  t25 := Tryz.underlying64
  a25 := Tryz.isAgg64
  z25 := Tryz.sizeOf64
  v25 := Tryz.zeroValue64
  i25 := by kernel_rfl
  t34 := Tryz.underlying110
  a34 := Tryz.isAgg110
  z34 := Tryz.sizeOf110
  v34 := Tryz.zeroValue110
  i34 := by kernel_rfl
  c34 := by kernel_rfl
  t36 := Tryz.underlying112
  a36 := Tryz.isAgg112
  z36 := Tryz.sizeOf112
  v36 := Tryz.zeroValue112
  i36 := by kernel_rfl
  t37 := Tryz.underlying57
  a37 := Tryz.isAgg57
  z37 := Tryz.sizeOf57
  v37 := Tryz.zeroValue57
  i37 := by kernel_rfl
  t39 := Tryz.underlying113
  a39 := Tryz.isAgg113
  z39 := Tryz.sizeOf113
  v39 := Tryz.zeroValue113
  i39 := by kernel_rfl
  t44 := Tryz.underlying128
  a44 := Tryz.isAgg128
  z44 := Tryz.sizeOf128
  v44 := Tryz.zeroValue128
  i44 := by kernel_rfl
  t47 := Tryz.underlying148
  a47 := Tryz.isAgg148
  z47 := Tryz.sizeOf148
  v47 := Tryz.zeroValue148
  i47 := by kernel_rfl
  t48 := Tryz.underlying149
  a48 := Tryz.isAgg149
  z48 := Tryz.sizeOf149
  v48 := Tryz.zeroValue149
  i48 := by kernel_rfl
  t50 := Tryz.underlying151
  a50 := Tryz.isAgg151
  z50 := Tryz.sizeOf151
  v50 := Tryz.zeroValue151
  i50 := by kernel_rfl
  t52 := Tryz.underlying165
  a52 := Tryz.isAgg165
  z52 := Tryz.sizeOf165
  v52 := Tryz.zeroValue165
  i52 := by kernel_rfl
  t55 := Tryz.underlying167
  a55 := Tryz.isAgg167
  z55 := Tryz.sizeOf167
  v55 := Tryz.zeroValue167
  i55 := by kernel_rfl
  t59 := Tryz.underlying170
  a59 := Tryz.isAgg170
  z59 := Tryz.sizeOf170
  v59 := Tryz.zeroValue170
  i59 := by kernel_rfl
  t60 := Tryz.underlying171
  a60 := Tryz.isAgg171
  z60 := Tryz.sizeOf171
  v60 := Tryz.zeroValue171
  i60 := by kernel_rfl
  t61 := Tryz.underlying172
  a61 := Tryz.isAgg172
  z61 := Tryz.sizeOf172
  t65 := Tryz.underlying176
  a65 := Tryz.isAgg176
  z65 := Tryz.sizeOf176
  v65 := Tryz.zeroValue176
  i65 := by kernel_rfl
  t66 := Tryz.underlying177
  a66 := Tryz.isAgg177
  z66 := Tryz.sizeOf177
  v66 := Tryz.zeroValue177
  i66 := by kernel_rfl
  t67 := Tryz.underlying178
  a67 := Tryz.isAgg178
  z67 := Tryz.sizeOf178
  v67 := Tryz.zeroValue178
  i67 := by kernel_rfl
  g0 := by kernel_rfl
  m0 := by kernel_rfl
  g1 := by kernel_rfl
  m1 := by kernel_rfl
  g2 := by kernel_rfl
  m2 := by kernel_rfl
  g3 := by kernel_rfl
  m3 := by kernel_rfl
  g4 := by kernel_rfl
  m4 := by kernel_rfl }
end Go.Proofs
namespace Go.Proofs.YtoehkaagfokamaaGreatDoor
open Go.Shelf
theorem parseUint_ok (s : ByteArray) (hmax : s.size ≤ 9223372036854775806) (u : Nat) (h : Lib.parseUintB 64 s.data.toList = .ok u) (w : World) :
    Calls Tryz.prog 36 #[.string s, .int .i64 10, .int .i64 64] w fun e w' => e = .returned (.tuple #[.int .u64 (u : Int), .nilIface]) ∧ (w' = w ∨ w' = Lib.bytesWorld w 5 s) := Any.strconv_ParseUint_10_at64_ok Tryz.laysPu14 s hmax u h w
end Go.Proofs.YtoehkaagfokamaaGreatDoor

/- gcd's isNumber, value and Parse, as they landed. -/
namespace Go.Proofs.YtoehkaagfokamaaGreatDoor
open Go.RowKit Go.Shelf
set_option linter.unusedVariables false
set_option linter.unusedSimpArgs false

theorem numV_append (a b : List UInt8) : numV (a ++ b) = numV a * 10 ^ b.length + numV b := by
  induction b using snoc_ind with
  | h0 => simp [numV_nil]
  | h1 l c ih =>
    rw [← List.append_assoc, numV_snoc, ih, numV_snoc, List.length_append, List.length_singleton, Nat.pow_succ, Nat.add_mul]
    rw [Nat.mul_assoc]
    omega
theorem uint_go {l : List UInt8} {acc : Nat} (h : l.all isD = true) (hb : (acc + 1) * 10 ^ l.length ≤ 10000000000000000000) : Lib.parseUintM 18446744073709551615 acc l = .ok (l.foldl (fun v c => v * 10 + (c.toNat - 48)) acc) := by
  induction l generalizing acc with
  | nil => rfl
  | cons c r ih =>
    rw [List.all_cons, Bool.and_eq_true] at h
    have hc := h.1
    unfold isD at hc
    simp only [Bool.and_eq_true, decide_eq_true_eq] at hc
    rw [List.length_cons, Nat.pow_succ] at hb
    have hp := Nat.pow_pos (n := r.length) (show 0 < 10 by omega)
    have hb2 : (acc + 1) * 10 * 10 ^ r.length ≤ 10000000000000000000 := by
      rw [Nat.mul_assoc, Nat.mul_comm 10]; exact hb
    have hb3 : (acc + 1) * 10 ≤ (acc + 1) * 10 * 10 ^ r.length := Nat.le_mul_of_pos_right _ hp
    have hb4 : (acc * 10 + (c.toNat - 48) + 1) * 10 ^ r.length ≤ 10000000000000000000 := Nat.le_trans (Nat.mul_le_mul_right _ (by omega)) hb2
    rw [Lib.parseUintM, if_pos hc, if_neg (by omega), if_neg (by omega), ih h.2 hb4]
    rfl
theorem uint_num {l : List UInt8} (h : l.all isD = true) (h0 : l ≠ []) (hn : l.length ≤ 19) : Lib.parseUintB 64 l = .ok (numV l) := by
  unfold Lib.parseUintB
  rw [if_neg h0]
  have h2 : (10 : Nat) ^ l.length ≤ 10 ^ 19 := Nat.pow_le_pow_right (by omega) hn
  exact uint_go h (by omega)

section
variable (s : ByteArray) (w : World)

set_option maxRecDepth 100000 in
set_option maxHeartbeats 2000000 in
/-- The range over a text's bytes, where nothing is wrong with its first one. -/
theorem isNum_main (h : s.data.toList ≠ []) (hn : ¬ nought s) (hs : s.size ≤ 4096) :
    Calls Tryz.prog 17 #[.string s] w fun e w' => e = .returned (.bool (okL s.data.toList)) ∧ Below w.heap.size w w' := by
  have HO := Lib.hid (ok_iff h hn)
  have h5 : s.toList ≠ [] := by rw [Lib.toList_data]; exact h
  have h6 : s.toList.isEmpty = false := List.isEmpty_eq_false_iff.2 h5
  have h0 : 0 < s.size := by
    rw [← size_list]; exact List.length_pos_iff.2 h
  have h7 : ¬ ((s[0].toNat : Int) = 48) ∨ (((s[0].toNat : Int) = 48) ∧ s.toList = [48]) := by
    by_cases e : s[0] = 48
    · right
      refine ⟨by rw [e]; rfl, ?_⟩
      have h1 : ¬ 1 < s.size := fun x => hn ⟨by rw [head_zero h0, e], x⟩
      have h2 := head_zero h0
      rw [e] at h2
      rw [Lib.toList_data]
      obtain ⟨x, r, he⟩ := List.exists_cons_of_ne_nil h
      have h3 := size_list s
      rw [he] at h2 h3 ⊢
      simp at h2 h3
      subst h2
      have : r = [] := List.eq_nil_of_length_eq_zero (by omega)
      rw [this]
    · left
      intro e2
      exact e (UInt8.toNat_inj.1 (by show _ = 48; omega))
  clear h hn
  rcases h7 with h7 | ⟨h7, h1⟩
  · go_enter Tryz.func17, Tryz.ntmps17
    go_wp2
    clear h7 h6 h5
    try clear h1
    go_loopw [4] (fun _ wr => ∃ pos : Nat, pos ≤ s.size ∧ wr = w.iter s pos ∧ (s.data.toList.take pos).all isD = true) (fun _ wr => s.size - wr.iterPos w.heap.size)
    case atStart => exact ⟨0, Nat.zero_le _, rfl, rfl⟩
    case round =>
      obtain ⟨pos, hp, rfl, hall⟩ := hrel
      have hB : Below w.heap.size w (w.iter s pos) := (Below.refl _ w).alloc (Nat.le_refl _) _
      by_cases hlt : pos < s.size
      · have hal := all_step hlt
        rw [hall, Bool.true_and] at hal
        cases hd : isD s[pos] with
        | true =>
          rw [hd] at hal
          have hd2 : ¬ ((s[pos].toNat : Int) < 48) ∧ ¬ (57 < (s[pos].toNat : Int)) ∧ s[pos].toNat < 128 := by
            unfold isD at hd
            simp only [Bool.and_eq_true, decide_eq_true_eq] at hd
            omega
          obtain ⟨hd2, hd3, h128⟩ := hd2
          have hnext : ∀ ty, (Instr.next (.pointer (some ⟨w.heap.size, 0, none⟩)) true ty).run Tryz.prog (w.iter s pos) = _ := fun ty => run_next_ascii w s pos ty hlt h128
          have HAL := Lib.hid hal
          have hmu : (w.iter s pos).iterPos w.heap.size = pos := World.iterPos_iter w s pos
          have HMU := Lib.hid hmu
          clear hal hall hd hmu hB
          go_wp2
          go_roundw
          case rel => exact ⟨pos + 1, by omega, rfl, HAL.out⟩
          case measure =>
            rw [HMU.out, World.iterPos_iter]
            omega
        | false =>
          have hbad := all_bad hlt hd
          have HBD := Lib.hid hbad
          by_cases h128 : s[pos].toNat < 128
          · have hnext : ∀ ty, (Instr.next (.pointer (some ⟨w.heap.size, 0, none⟩)) true ty).run Tryz.prog (w.iter s pos) = _ := fun ty => run_next_ascii w s pos ty hlt h128
            have hB2 : Below w.heap.size w (w.iter s (pos + 1)) := (Below.refl _ w).alloc (Nat.le_refl _) _
            have hd2 : (s[pos].toNat : Int) < 48 ∨ (¬ ((s[pos].toNat : Int) < 48) ∧ 57 < (s[pos].toNat : Int)) := by
              unfold isD at hd
              simp only [Bool.and_eq_false_iff, decide_eq_false_iff_not] at hd
              omega
            clear hal hall hd hbad hB
            rcases hd2 with hd2 | ⟨hd2, hd3⟩
            · go_wp2
              go_ret
              exact ⟨by rw [HBD.out]; rfl, hB2⟩
            · go_wp2
              go_ret
              exact ⟨by rw [HBD.out]; rfl, hB2⟩
          · have hhi := (decode_high s pos hlt (by omega)).1
            have hnext : ∀ ty, (Instr.next (.pointer (some ⟨w.heap.size, 0, none⟩)) true ty).run Tryz.prog (w.iter s pos) = _ := fun ty => run_next_any w s pos ty hlt
            have hB2 : Below w.heap.size w (w.iter s (pos + (Utf8.decode s pos).2)) := (Below.refl _ w).alloc (Nat.le_refl _) _
            obtain ⟨r, hr⟩ : ∃ r, (Utf8.decode s pos).1 = r := ⟨_, rfl⟩
            rw [hr] at hhi
            rw [hr] at hnext
            have hd2 : ¬ ((r : Int) < 48) := by omega
            have hd3 : (57 : Int) < (r : Int) := by omega
            clear hal hall hd hbad hB h128 hhi hr
            go_wp2
            go_ret
            exact ⟨by rw [HBD.out]; rfl, hB2⟩
      · obtain rfl : pos = s.size := by omega
        have hF : s.data.toList.take s.size = s.data.toList := List.take_of_length_le (by rw [size_list]; exact Nat.le_refl _)
        rw [hF] at hall
        have hO := HO.out
        rw [hall] at hO
        have HOK := Lib.hid hO
        have hnext : ∀ ty, (Instr.next (.pointer (some ⟨w.heap.size, 0, none⟩)) true ty).run Tryz.prog (w.iter s s.size) = _ := fun ty => run_next_end w s s.size ty hlt
        clear hall hF hO HO
        go_wp2
        go_ret
        exact ⟨by rw [HOK.out]; rfl, hB⟩
  · go_enter Tryz.func17, Tryz.ntmps17
    go_wp2
    clear h7 h6 h5
    try clear h1
    go_loopw [4] (fun _ wr => ∃ pos : Nat, pos ≤ s.size ∧ wr = w.iter s pos ∧ (s.data.toList.take pos).all isD = true) (fun _ wr => s.size - wr.iterPos w.heap.size)
    case atStart => exact ⟨0, Nat.zero_le _, rfl, rfl⟩
    case round =>
      obtain ⟨pos, hp, rfl, hall⟩ := hrel
      have hB : Below w.heap.size w (w.iter s pos) := (Below.refl _ w).alloc (Nat.le_refl _) _
      by_cases hlt : pos < s.size
      · have hal := all_step hlt
        rw [hall, Bool.true_and] at hal
        cases hd : isD s[pos] with
        | true =>
          rw [hd] at hal
          have hd2 : ¬ ((s[pos].toNat : Int) < 48) ∧ ¬ (57 < (s[pos].toNat : Int)) ∧ s[pos].toNat < 128 := by
            unfold isD at hd
            simp only [Bool.and_eq_true, decide_eq_true_eq] at hd
            omega
          obtain ⟨hd2, hd3, h128⟩ := hd2
          have hnext : ∀ ty, (Instr.next (.pointer (some ⟨w.heap.size, 0, none⟩)) true ty).run Tryz.prog (w.iter s pos) = _ := fun ty => run_next_ascii w s pos ty hlt h128
          have HAL := Lib.hid hal
          have hmu : (w.iter s pos).iterPos w.heap.size = pos := World.iterPos_iter w s pos
          have HMU := Lib.hid hmu
          clear hal hall hd hmu hB
          go_wp2
          go_roundw
          case rel => exact ⟨pos + 1, by omega, rfl, HAL.out⟩
          case measure =>
            rw [HMU.out, World.iterPos_iter]
            omega
        | false =>
          have hbad := all_bad hlt hd
          have HBD := Lib.hid hbad
          by_cases h128 : s[pos].toNat < 128
          · have hnext : ∀ ty, (Instr.next (.pointer (some ⟨w.heap.size, 0, none⟩)) true ty).run Tryz.prog (w.iter s pos) = _ := fun ty => run_next_ascii w s pos ty hlt h128
            have hB2 : Below w.heap.size w (w.iter s (pos + 1)) := (Below.refl _ w).alloc (Nat.le_refl _) _
            have hd2 : (s[pos].toNat : Int) < 48 ∨ (¬ ((s[pos].toNat : Int) < 48) ∧ 57 < (s[pos].toNat : Int)) := by
              unfold isD at hd
              simp only [Bool.and_eq_false_iff, decide_eq_false_iff_not] at hd
              omega
            clear hal hall hd hbad hB
            rcases hd2 with hd2 | ⟨hd2, hd3⟩
            · go_wp2
              go_ret
              exact ⟨by rw [HBD.out]; rfl, hB2⟩
            · go_wp2
              go_ret
              exact ⟨by rw [HBD.out]; rfl, hB2⟩
          · have hhi := (decode_high s pos hlt (by omega)).1
            have hnext : ∀ ty, (Instr.next (.pointer (some ⟨w.heap.size, 0, none⟩)) true ty).run Tryz.prog (w.iter s pos) = _ := fun ty => run_next_any w s pos ty hlt
            have hB2 : Below w.heap.size w (w.iter s (pos + (Utf8.decode s pos).2)) := (Below.refl _ w).alloc (Nat.le_refl _) _
            obtain ⟨r, hr⟩ : ∃ r, (Utf8.decode s pos).1 = r := ⟨_, rfl⟩
            rw [hr] at hhi
            rw [hr] at hnext
            have hd2 : ¬ ((r : Int) < 48) := by omega
            have hd3 : (57 : Int) < (r : Int) := by omega
            clear hal hall hd hbad hB h128 hhi hr
            go_wp2
            go_ret
            exact ⟨by rw [HBD.out]; rfl, hB2⟩
      · obtain rfl : pos = s.size := by omega
        have hF : s.data.toList.take s.size = s.data.toList := List.take_of_length_le (by rw [size_list]; exact Nat.le_refl _)
        rw [hF] at hall
        have hO := HO.out
        rw [hall] at hO
        have HOK := Lib.hid hO
        have hnext : ∀ ty, (Instr.next (.pointer (some ⟨w.heap.size, 0, none⟩)) true ty).run Tryz.prog (w.iter s s.size) = _ := fun ty => run_next_end w s s.size ty hlt
        clear hall hF hO HO
        go_wp2
        go_ret
        exact ⟨by rw [HOK.out]; rfl, hB⟩

set_option maxRecDepth 100000 in
set_option maxHeartbeats 2000000 in
theorem isNum_empty (h : s.data.toList = []) :
    Calls Tryz.prog 17 #[.string s] w fun e w' => e = .returned (.bool (okL s.data.toList)) ∧ Below w.heap.size w w' := by
  have HE : Hid (okL s.data.toList = false) := by show _ = _; rw [h]; rfl
  have h1 : s.toList = [] := by rw [Lib.toList_data]; exact h
  go_enter Tryz.func17, Tryz.ntmps17
  go_wp2
  go_ret
  exact ⟨by rw [HE.out]; rfl, Below.refl _ _⟩
set_option maxRecDepth 100000 in
set_option maxHeartbeats 2000000 in
theorem isNum_nought (h : nought s) (hs : s.size ≤ 4096) :
    Calls Tryz.prog 17 #[.string s] w fun e w' => e = .returned (.bool (okL s.data.toList)) ∧ Below w.heap.size w w' := by
  have HE := Lib.hid (ok_nought h)
  obtain ⟨h3, h4⟩ := h
  have h5 : s.toList ≠ [] := by rw [Lib.toList_data]; intro e; rw [e] at h3; cases h3
  have h6 : s.toList.isEmpty = false := List.isEmpty_eq_false_iff.2 h5
  have h0 : 0 < s.size := by omega
  have h7 : s[0] = 48 := by have := head_zero h0; rw [h3] at this; exact (Option.some.inj this).symm
  have h8 : ¬ s.toList = [48] := by
    rw [Lib.toList_data]
    intro e
    have := size_list s
    rw [e] at this
    simp at this
    omega
  have h9 : (s.toList == [48]) = false := beq_eq_false_iff_ne.2 h8
  go_enter Tryz.func17, Tryz.ntmps17
  go_wp2
  go_ret
  exact ⟨by rw [HE.out]; rfl, Below.refl _ _⟩
theorem isNum_any (hs : s.size ≤ 4096) :
    Calls Tryz.prog 17 #[.string s] w fun e w' => e = .returned (.bool (okL s.data.toList)) ∧ Below w.heap.size w w' := by
  by_cases h2 : s.data.toList = []
  · exact isNum_empty s w h2
  · by_cases h3 : nought s
    · exact isNum_nought s w h3 hs
    · exact isNum_main s w h2 h3 hs

theorem ofZ_any (x : Nat) (z : Int) (w : World) (hz : z = (x : Int)) (hx : x < B64) :
    Calls Tryz.prog 14 #[.int .u64 z] w fun e w' => ∃ A' k c, e = .returned (.slice A' k c) ∧ Own w' w.heap.size (.slice A' k c) (limbs x) ∧ Below w.heap.size w w' := hz ▸ of_any x w hx
set_option maxRecDepth 100000 in
set_option maxHeartbeats 4000000 in
/-- gcd.value. -/
theorem value_any (hs : s.size ≤ 4096) (hall : s.data.toList.all isD = true) :
    Calls Tryz.prog 18 #[.string s] w fun e w' => ∃ A k c, e = .returned (.slice A k c) ∧ Own w' w.heap.size (.slice A k c) (limbs (numV s.data.toList)) ∧ Below w.heap.size w w' := by
  have HALL := Lib.hid hall
  clear hall
  go_enter Tryz.func18, Tryz.ntmps18
  go_wp2
  go_loopw [0, 3] (fun a m wr => ∃ (t : ByteArray) (k : Nat) (A3 : Option Addr) (n3 c3 : Nat), a = .string t ∧ t.data.toList = s.data.toList.drop k ∧ k ≤ s.size ∧ (k = 0 ∨ 19 ∣ t.size) ∧ m = .slice A3 n3 c3 ∧ Own wr w.heap.size (.slice A3 n3 c3) (limbs (numV (s.data.toList.take k))) ∧ Below w.heap.size w wr) (fun a _ _ => match a with | .string t => t.size | _ => 0)
  case atStart => exact ⟨s, 0, none, 0, 0, rfl, rfl, by omega, .inl rfl, rfl, by rw [List.take_zero, numV_nil, limbs_zero]; exact own_nil _ _, Below.refl _ _⟩
  case round =>
    obtain ⟨t, k, A3, n3, c3, rfl, ht, hk, h19, rfl, o3, hB⟩ := hrel
    have htl : t.size = s.size - k := by rw [← size_list, ht, List.length_drop, size_list]
    by_cases h0 : t.size = 0
    · have hks : k = s.size := by omega
      have hF : s.data.toList.take k = s.data.toList := List.take_of_length_le (by rw [size_list]; omega)
      rw [hF] at o3
      clear ht h19 hF hks
      go_wp2
      go_ret
      exact ⟨_, _, _, rfl, o3, hB⟩
    · have hp : 0 < t.size := Nat.pos_of_ne_zero h0
      obtain ⟨m, hm⟩ : ∃ m, (t.size - 1) % 19 = m := ⟨_, rfl⟩
      have hm1 : m < 19 := by omega
      have hm2 : m + 1 ≤ t.size := by
        have := Nat.mod_le (t.size - 1) 19
        omega
      have q1 : ((t.size : Int) - 1) % 19 = (m : Int) := by omega
      have q2 : Int.tmod ((t.size : Int) - 1) 19 = (m : Int) := by rw [Int.tmod_eq_emod_of_nonneg (by omega)]; exact q1
      have hts : t.size ≤ 4096 := by omega
      have hm3 : (m : Int) + 1 ≤ (t.size : Int) := by omega
      have HTL := Lib.hid htl
      have HT := Lib.hid ht
      have H19 := Lib.hid h19
      have HM := Lib.hid hm
      have hL : (t.extract 0 (m + 1)).data.toList = (s.data.toList.drop k).take (m + 1) := by
        rw [Lib.extract_data, ht, List.drop_zero, Nat.sub_zero]
      have hLl : ((s.data.toList.drop k).take (m + 1)).length = m + 1 := by rw [List.length_take, ← ht, size_list]; omega
      have hLd : ((s.data.toList.drop k).take (m + 1)).all isD = true := by
        rw [List.all_eq_true]
        intro x hx
        exact List.all_eq_true.1 HALL.out x (List.mem_of_mem_drop (List.mem_of_mem_take hx))
      have hkd : (s.data.toList.take k).all isD = true := by
        rw [List.all_eq_true]
        intro x hx
        exact List.all_eq_true.1 HALL.out x (List.mem_of_mem_take hx)
      have hstep : numV (s.data.toList.take (k + (m + 1))) = 10 ^ 19 * numV (s.data.toList.take k) + numV ((s.data.toList.drop k).take (m + 1)) := by
        rw [List.take_add, numV_append, hLl]
        rcases h19 with h | h
        · subst h
          rw [List.take_zero, numV_nil, Nat.zero_mul, Nat.mul_zero]
        · obtain ⟨q, hq⟩ := h
          have : m = 18 := by omega
          rw [this, Nat.mul_comm]
      have hnext : (t.extract (m + 1) t.size).data.toList = s.data.toList.drop (k + (m + 1)) := by
        rw [Lib.extract_data, ht, List.drop_drop]
        apply List.take_of_length_le
        rw [List.length_drop, size_list]
        omega
      have hnsz : (t.extract (m + 1) t.size).size = t.size - (m + 1) := by rw [ByteArray.size_extract]; omega
      have hdvd : 19 ∣ (t.extract (m + 1) t.size).size := by
        rw [hnsz]
        omega
      obtain ⟨L, hLe⟩ : ∃ L, (s.data.toList.drop k).take (m + 1) = L := ⟨_, rfl⟩
      rw [hLe] at hL hLl hLd hstep
      obtain ⟨u, hu⟩ : ∃ u, numV L = u := ⟨_, rfl⟩
      have huint : Lib.parseUintB 64 (t.extract 0 (m + 1)).data.toList = .ok u := by
        rw [hL, ← hu]
        exact uint_num hLd (fun h => by rw [h] at hLl; simp at hLl) (by omega)
      rw [hu] at hstep
      have huB : u < B64 := by
        have h1 := num_lt L hLd
        have h2 : (10 : Nat) ^ L.length ≤ 10 ^ 19 := Nat.pow_le_pow_right (by omega) (by omega)
        rw [hu] at h1
        rw [B64_eq]
        omega
      have ln3 : n3 ≤ 300 := by
        have h1 := num_lt_bits hkd (n := 4096) (by rw [List.length_take, size_list]; omega)
        have h2 := limbs_length_le h1
        have h3 := o3.rd.2.1
        omega
      obtain ⟨V, hV⟩ : ∃ V, numV (s.data.toList.take k) = V := ⟨_, rfl⟩
      rw [hV] at o3 hstep
      have HPU := Lib.hid (parseUint_ok (t.extract 0 (m + 1)) (by rw [ByteArray.size_extract]; omega) u huint wr)
      have HOC := Lib.hid (fun W => ofZ_any (10 ^ 19) 10000000000000000000 W (by rfl) (by rw [B64_eq]; omega))
      have HOU := Lib.hid (fun W => of_any u W huB)
      have lc : (limbs (10 ^ 19)).length ≤ 1 := limbs_length_le (by rw [Nat.pow_one, B64_eq]; omega)
      have lu : (limbs u).length ≤ 1 := limbs_length_le (by rw [Nat.pow_one]; exact huB)
      have LC := Lib.hid lc
      have LU := Lib.hid lu
      have HST := Lib.hid hstep
      have HNX := Lib.hid hnext
      have HDV := Lib.hid hdvd
      have HNS := Lib.hid hnsz
      clear htl ht h19 hm hL hLl hLd hkd hstep hnext hnsz hdvd hLe hu huint huB hV lc lu hk
      go_wp2_with fail
      refine HPU.out.mono ?_
      rintro e w1 ⟨rfl, hw1⟩
      have hb1 : Below wr.heap.size wr w1 := by
        rcases hw1 with rfl | rfl
        · exact Below.refl _ _
        · exact Lib.bytesWorld_below _ _ _
      replace o3 := o3.below hb1
      replace hb1 := below_then hB hb1
      clear hw1 hB HPU
      go_wp2_with fail
      refine (HOC.out _).mono ?_
      rintro e w2 ⟨A4, n4, c4, rfl, o4, hb2⟩
      have l4 : n4 ≤ 1 := by have := o4.rd.2.1; have := LC.out; omega
      replace o3 := o3.below hb2
      replace hb2 := below_then hb1 hb2
      clear hb1
      go_wp2_with fail
      refine (mul_nm A4 A3 n4 c4 n3 c3 (10 ^ 19) V w2 o4.nm o3.nm (by omega) (by omega)).mono ?_
      rintro e w3 ⟨A5, n5, c5, rfl, o5, hb3⟩
      have l5 : n5 ≤ n4 + n3 := by have h1 := o5.rd.2.1; have h2 := mul_len o4.nm o3.nm; omega
      replace o5 := own_mono o5 hb2.size
      replace hb3 := below_then hb2 hb3
      clear hb2 o4 o3
      go_wp2_with fail
      refine (HOU.out _).mono ?_
      rintro e w4 ⟨A6, n6, c6, rfl, o6, hb4⟩
      have l6 : n6 ≤ 1 := by have := o6.rd.2.1; have := LU.out; omega
      replace o5 := o5.below hb4
      replace hb4 := below_then hb3 hb4
      clear hb3
      go_wp2_with fail
      refine (add_nm A5 A6 n5 c5 n6 c6 _ u w4 o5.nm o6.nm (by omega) (by omega)).mono ?_
      rintro e w5 ⟨A7, n7, c7, rfl, o7, hb5⟩
      replace o7 := own_mono o7 hb4.size
      replace hb5 := below_then hb4 hb5
      clear hb4 o5 o6
      rw [← HST.out] at o7
      go_wp2
      go_roundw
      case rel => exact ⟨_, k + (m + 1), A7, n7, c7, rfl, HNX.out, by have := HTL.out; omega, .inr HDV.out, rfl, o7, hb5⟩
      case measure =>
        show (t.extract (m + 1) t.size).size < t.size
        rw [HNS.out]
        omega

set_option maxRecDepth 100000 in
set_option maxHeartbeats 2000000 in
theorem parse_is : ParseIs 7 := fun s w hs7 => by
  by_cases hl : 4096 < s.size
  · have HE := Lib.hid (parseE_long hl)
    have HL := Lib.hid (parseL_no (s := s) (by rw [HE.out]; decide))
    have hl2 : (4096 : Int) < (s.size : Int) := by omega
    have hl3 : decide ((4096 : Int) < (s.size : Int)) = true := by simpa using hl2
    go_enter Tryz.func7, Tryz.ntmps7
    go_wp2
    go_ret2
    rw [HE.out, HL.out]
    exact answers_nil (Below.refl _ _)
  · have hs : s.size ≤ 4096 := by omega
    have hl2 : ¬ ((4096 : Int) < (s.size : Int)) := by omega
    have hl3 : decide ((4096 : Int) < (s.size : Int)) = false := by simpa using hl2
    have HN := Lib.hid (isNum_any s w hs)
    cases hk : okL s.data.toList with
    | false =>
      rw [hk] at HN
      have HE := Lib.hid (parseE_bad hs hk)
      have HL := Lib.hid (parseL_no (s := s) (by rw [HE.out]; decide))
      clear hk
      go_enter Tryz.func7, Tryz.ntmps7
      go_wp2_with fail
      refine HN.out.mono ?_
      rintro e w1 ⟨rfl, hb1⟩
      go_wp2
      go_ret2
      rw [HE.out, HL.out]
      exact answers_nil hb1
    | true =>
      rw [hk] at HN
      have HE := Lib.hid (parseE_ok hs hk)
      have HL := Lib.hid (parseL_ok HE.out)
      have hall : s.data.toList.all isD = true := by
        unfold okL at hk
        simp only [Bool.and_eq_true] at hk
        exact hk.2
      have HV := Lib.hid (fun W => value_any s W hs hall)
      clear hk hall
      go_enter Tryz.func7, Tryz.ntmps7
      go_wp2_with fail
      refine HN.out.mono ?_
      rintro e w1 ⟨rfl, hb1⟩
      go_wp2_with fail
      refine (HV.out w1).mono ?_
      rintro e w2 ⟨A2, k2, c2, rfl, o2, hb2⟩
      replace o2 := own_mono o2 hb1.size
      replace hb2 := below_then hb1 hb2
      clear hb1
      go_wp2
      go_ret2
      rw [HE.out, HL.out]
      exact ⟨_, _, _, rfl, o2, hb2⟩
end
end Go.Proofs.YtoehkaagfokamaaGreatDoor
