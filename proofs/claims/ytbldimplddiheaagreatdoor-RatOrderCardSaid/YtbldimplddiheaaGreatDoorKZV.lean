import Derived.Shelf.Pu.ParseUintPublic10
import Derived.Ground.MpProg
import Derived.Test.YtbldimplddiheaaGreatDoorProg
import Derived.Test.YtbldimplddiheaaGreatDoorKMSpec
import Derived.Test.YtbldimplddiheaaGreatDoorKBit
import Derived.Test.YtbldimplddiheaaGreatDoorKGTexts
import Derived.Lib.OthersKept
import Derived.Lib.AtoiErrMem
import Derived.Test.YtbldimplddiheaaGreatDoorKZY
import Derived.Test.YtbldimplddiheaaGreatDoorKZX
import Derived.Test.YtbldimplddiheaaGreatDoorKGDig
import Derived.Test.YtbldimplddiheaaGreatDoorKZB
/- Pu GPar ZPre ZN ZV. -/
/- A laying of the library's contracts at this program. -/
namespace Go.Proofs
open Go.Shelf
end Go.Proofs
namespace Go.Proofs.YtbldimplddiheaaGreatDoor
open Go.Shelf
end Go.Proofs.YtbldimplddiheaaGreatDoor

/- gcd's isNumber, value and Parse, as they landed. -/
namespace Go.Proofs.YtbldimplddiheaaGreatDoor
open Go.RowKit Go.Shelf
set_option linter.unusedVariables false
set_option linter.unusedSimpArgs false

theorem numV_append (a b : List UInt8) : numV (a ++ b) = numV a * 10 ^ b.length + numV b := by
  induction b using snoc_ind with
  | h0 => simp [numV_nil]
  | h1 l c ih =>
    rw [← List.append_assoc, numV_snoc, ih, numV_snoc, List.length_append, List.length_singleton, Nat.pow_succ, Nat.add_mul]
    rw [Nat.mul_assoc]
    omega
theorem uint_go {l : List UInt8} {acc : Nat} (h : l.all isD = true) (hb : (acc + 1) * 10 ^ l.length ≤ 10000000000000000000) : Lib.parseUintM 18446744073709551615 acc l = .ok (l.foldl (fun v c => v * 10 + (c.toNat - 48)) acc) := by
  induction l generalizing acc with
  | nil => rfl
  | cons c r ih =>
    rw [List.all_cons, Bool.and_eq_true] at h
    have hc := h.1
    unfold isD at hc
    simp only [Bool.and_eq_true, decide_eq_true_eq] at hc
    rw [List.length_cons, Nat.pow_succ] at hb
    have hp := Nat.pow_pos (n := r.length) (show 0 < 10 by omega)
    have hb2 : (acc + 1) * 10 * 10 ^ r.length ≤ 10000000000000000000 := by
      rw [Nat.mul_assoc, Nat.mul_comm 10]; exact hb
    have hb3 : (acc + 1) * 10 ≤ (acc + 1) * 10 * 10 ^ r.length := Nat.le_mul_of_pos_right _ hp
    have hb4 : (acc * 10 + (c.toNat - 48) + 1) * 10 ^ r.length ≤ 10000000000000000000 := Nat.le_trans (Nat.mul_le_mul_right _ (by omega)) hb2
    rw [Lib.parseUintM, if_pos hc, if_neg (by omega), if_neg (by omega), ih h.2 hb4]
    rfl
theorem uint_num {l : List UInt8} (h : l.all isD = true) (h0 : l ≠ []) (hn : l.length ≤ 19) : Lib.parseUintB 64 l = .ok (numV l) := by
  unfold Lib.parseUintB
  rw [if_neg h0]
  have h2 : (10 : Nat) ^ l.length ≤ 10 ^ 19 := Nat.pow_le_pow_right (by omega) hn
  exact uint_go h (by omega)

section
variable (s : ByteArray) (w : World)

theorem ofZ_any (x : Nat) (z : Int) (w : World) (hz : z = (x : Int)) (hx : x < B64) :
    Calls Tryz.prog 40 #[.int .u64 z] w fun e w' => ∃ A' k c, e = .returned (.slice A' k c) ∧ Own w' w.heap.size (.slice A' k c) (limbs x) ∧ Below w.heap.size w w' := hz ▸ of_any x w hx
end
end Go.Proofs.YtbldimplddiheaaGreatDoor

/- strings.HasPrefix and CutPrefix, of one byte. -/
namespace Go.Proofs.YtbldimplddiheaaGreatDoor
open Go.RowKit Go.Shelf
set_option linter.unusedVariables false
set_option linter.unusedSimpArgs false

theorem first_list {s : ByteArray} (h : 0 < s.size) : (s.extract 0 1).toList = [s[0]] := by
  rw [Lib.toList_data, ByteArray.data_extract, Array.toList_extract]
  have h1 := head_zero h
  cases hl : s.data.toList with
  | nil => rw [hl] at h1; cases h1
  | cons x r =>
    rw [hl] at h1
    simp only [List.head?_cons, Option.some.injEq] at h1
    rw [← h1]
    rfl
theorem head_eq {s : ByteArray} (h : 0 < s.size) (c : UInt8) : ((s.extract 0 1).toList == [c]) = (s.data.toList.head? == some c) := by
  rw [first_list h, head_zero h]
  rw [Bool.eq_iff_iff]
  simp
theorem head_none {s : ByteArray} (h : s.size = 0) : s.data.toList.head? = none := by
  rw [List.eq_nil_of_length_eq_zero ((size_list s).trans h)]
  rfl
end Go.Proofs.YtbldimplddiheaaGreatDoor

/- Whole numbers of texts: the document's, and whole's own; as texts. -/
namespace Go.Proofs.YtbldimplddiheaaGreatDoor
open Go.RowKit Go.Shelf
set_option linter.unusedVariables false
set_option linter.unusedSimpArgs false

theorem drop_list (s : ByteArray) : (s.extract 1 s.size).data.toList = s.data.toList.drop 1 := by
  rw [ByteArray.data_extract, Array.toList_extract]
  rw [List.extract_eq_take_drop]
  have := size_list s
  rw [List.take_of_length_le (by rw [List.length_drop]; omega)]
theorem drop_size (s : ByteArray) : (s.extract 1 s.size).size = s.size - 1 := by
  rw [← size_list, drop_list, List.length_drop, size_list]
theorem num_pos {l : List UInt8} (h : okL l = true) (h2 : l.head? ≠ some 48) : numV l ≠ 0 := fun e => by
  have h3 := text_num h
  rw [e] at h3
  rw [← h3] at h2
  exact h2 rfl
/-- A text's number, where it is one: its sign, and its size. -/
theorem parseZ_ok {s : ByteArray} (h : parseZE s = 0) : (parseZ s).natAbs = numV (if minus s then s.data.toList.drop 1 else s.data.toList) ∧ decide (parseZ s < 0) = minus s := by
  unfold parseZ
  rw [if_pos h]
  cases hm : minus s with
  | false =>
    simp only [Bool.false_eq_true, if_false]
    exact ⟨by simp, decide_eq_false (by omega)⟩
  | true =>
    simp only [if_true]
    unfold parseZE at h
    rw [hm] at h
    simp only [if_true] at h
    split at h
    · cases h
    · rename_i h48
      have hp : parseE (s.extract 1 s.size) = 0 := h
      have hk : okL (s.data.toList.drop 1) = true := by
        cases hk : okL (s.data.toList.drop 1) with
        | true => rfl
        | false =>
          rw [← drop_list] at hk
          unfold parseE at hp
          rw [hk] at hp
          split at hp <;> cases hp
      have := num_pos hk h48
      exact ⟨by simp, decide_eq_true (by omega)⟩
theorem parseL_z {s : ByteArray} (h : parseZE s = 0) : parseE (if minus s then s.extract 1 s.size else s) = 0 ∧ parseL (if minus s then s.extract 1 s.size else s) = limbs (parseZ s).natAbs := by
  have h2 := parseZ_ok h
  rw [h2.1]
  unfold parseZE at h
  cases hm : minus s with
  | false =>
    rw [hm] at h
    simp only [Bool.false_eq_true, if_false] at h ⊢
    exact ⟨h, by unfold parseL; rw [if_pos h]⟩
  | true =>
    rw [hm] at h
    simp only [if_true] at h ⊢
    split at h
    · cases h
    · exact ⟨h, by unfold parseL; rw [if_pos h, drop_list]⟩
theorem parseZE_no {s : ByteArray} (h : parseZE s ≠ 0) : parseZ s = 0 := by unfold parseZ; rw [if_neg h]
theorem parseE_t {s : ByteArray} (h : ¬ (minus s = true ∧ (s.data.toList.drop 1).head? = some 48)) : parseZE s = parseE (if minus s then s.extract 1 s.size else s) := by
  unfold parseZE
  cases hm : minus s with
  | false => simp
  | true =>
    simp only [if_true]
    rw [if_neg (fun h2 => h ⟨hm, h2⟩)]
theorem parseE_48 {s : ByteArray} (h : minus s = true) (h2 : (s.data.toList.drop 1).head? = some 48) : parseZE s = 8 := by
  unfold parseZE
  rw [if_pos h, if_pos h2]
theorem row_ans {w w1 w2 : World} (R : BoxZ w1 w.heap.size false none 0 0) (hB : Below w.heap.size w w1) (hb : Below w1.heap.size w1 w2) : BoxZ w2 w.heap.size false none 0 0 ∧ Below w.heap.size w w2 :=
  ⟨R.below hb (Array.getElem?_eq_some_iff.1 R).1, below_then hB hb⟩
theorem minus_head {s : ByteArray} (h : 0 < s.size) : minus s = (((s[0].toNat : Nat) : Int) == 45) := by
  unfold minus
  rw [head_zero h, Bool.eq_iff_iff]
  simp only [beq_iff_eq, Option.some.injEq]
  constructor
  · intro e; rw [e]; rfl
  · intro e
    have e2 : s[0].toNat = (45 : UInt8).toNat := by have : (45 : UInt8).toNat = 45 := rfl; omega
    exact UInt8.toNat_inj.1 e2
theorem tail_head {s : ByteArray} (h : 0 < (s.extract 1 s.size).size) : ((((s.extract 1 s.size)[0]).toNat : Int) == 48) = decide ((s.data.toList.drop 1).head? = some 48) := by
  rw [← drop_list, head_zero h, Bool.eq_iff_iff]
  simp only [beq_iff_eq, Option.some.injEq, decide_eq_true_eq]
  constructor
  · intro e
    have e2 : ((s.extract 1 s.size)[0]).toNat = (48 : UInt8).toNat := by have : (48 : UInt8).toNat = 48 := rfl; omega
    exact UInt8.toNat_inj.1 e2
  · intro e; rw [e]; rfl
theorem tail_none {s : ByteArray} (h : s.size ≤ 1) : (s.data.toList.drop 1).head? = none := by
  rw [← drop_list]
  exact head_none (by rw [drop_size]; omega)
end Go.Proofs.YtbldimplddiheaaGreatDoor

/- whole: a number as a text. -/
namespace Go.Proofs.YtbldimplddiheaaGreatDoor
open Go.RowKit Go.Shelf
set_option linter.unusedVariables false
set_option linter.unusedSimpArgs false

section
variable {A : Option Addr} {na ca : Nat} {p : Bool} {a : List Nat} {w : World}
set_option maxRecDepth 100000 in
set_option maxHeartbeats 2000000 in
theorem textZ_any (h : Z1 w A na ca a) : Calls Tryz.prog 69 #[zv p A na ca] w fun e w' => e = .returned (.tuple #[.string (textZS p a), .int .i64 (textZE p a)]) ∧ Below w.heap.size w w' := by
  have H1 := Lib.hid (mayOne_at1 (p := p) h)
  have HT := Lib.hid (fun W (hW : Below w.heap.size w W) => text_is A na ca a W (h.ra.below hW) (by have := h.la; omega) ⟨h.ca1, h.ca2⟩)
  cases hm : mayZ p a with
  | false =>
    rw [show textZS p a = ⟨#[]⟩ by simp [textZS, textZE, hm], show textZE p a = 8 by simp [textZE, hm]]
    rw [oneE_no hm] at H1
    clear h hm HT
    unfold zv at *
    go_enter Tryz.func69, Tryz.ntmps69
    go_wp2_with fail
    refine H1.out.mono ?_
    rintro e w1 ⟨rfl, T1⟩
    go_wp2
    go_ret2
    exact ⟨rfl, T1.b⟩
  | true =>
    rw [oneE_ok hm] at H1
    have hE : textZE p a = textE a := by simp [textZE, hm]
    have hS : textZS p a = if textE a = 0 then (if p then ⟨#[45]⟩ ++ textS a else textS a) else ⟨#[]⟩ := by unfold textZS; rw [hE]
    rw [hS, hE]
    have hSz : ¬ 9223372036854775807 < 1 + (textS a).size := by have := textS_size a; omega
    clear h hm hS hE
    generalize textS a = S at HT hSz ⊢
    generalize textE a = E at HT ⊢
    by_cases he : E = 0
    · subst he
      rw [if_pos rfl]
      cases p with
      | false =>
        simp only [Bool.false_eq_true, if_false]
        unfold zv at *
        go_enter Tryz.func69, Tryz.ntmps69
        go_wp2_with fail
        refine H1.out.mono ?_
        rintro e w1 ⟨rfl, T1⟩
        have xa0 := T1.x.c0
        have xa1 := T1.x.c1
        go_wp2_with fail
        refine (HT.out _ T1.b).mono ?_
        rintro e w2 ⟨rfl, hb⟩
        have T2 := T1.next hb
        clear xa0 xa1 hb T1
        have xa0 := T2.x.c0
        have xa1 := T2.x.c1
        go_wp2
        go_ret2
        exact ⟨rfl, T2.b⟩
      | true =>
        simp only [if_true]
        unfold zv at *
        go_enter Tryz.func69, Tryz.ntmps69
        go_wp2_with fail
        refine H1.out.mono ?_
        rintro e w1 ⟨rfl, T1⟩
        have xa0 := T1.x.c0
        have xa1 := T1.x.c1
        go_wp2_with fail
        refine (HT.out _ T1.b).mono ?_
        rintro e w2 ⟨rfl, hb⟩
        have T2 := T1.next hb
        clear xa0 xa1 hb T1
        have xa0 := T2.x.c0
        have xa1 := T2.x.c1
        go_wp2
        go_ret2
        exact ⟨rfl, T2.b⟩
    · rw [if_neg he]
      have he2 : (E != 0) = true := by simpa using he
      unfold zv at *
      go_enter Tryz.func69, Tryz.ntmps69
      go_wp2_with fail
      refine H1.out.mono ?_
      rintro e w1 ⟨rfl, T1⟩
      have xa0 := T1.x.c0
      have xa1 := T1.x.c1
      go_wp2_with fail
      refine (HT.out _ T1.b).mono ?_
      rintro e w2 ⟨rfl, hb⟩
      have T2 := T1.next hb
      clear xa0 xa1 hb T1
      have xa0 := T2.x.c0
      have xa1 := T2.x.c1
      go_wp2
      go_ret2
      exact ⟨rfl, T2.b⟩
end
theorem textZ_is : TextZIs 69 := fun _ _ _ _ _ _ h => textZ_any h
end Go.Proofs.YtbldimplddiheaaGreatDoor
