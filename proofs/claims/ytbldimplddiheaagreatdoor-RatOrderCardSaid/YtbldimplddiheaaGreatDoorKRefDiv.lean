import Derived.Test.YtbldimplddiheaaGreatDoorKSum
import Derived.Test.YtbldimplddiheaaGreatDoorKAdd
import Derived.Test.YtbldimplddiheaaGreatDoorKSame
import Derived.Test.YtbldimplddiheaaGreatDoorKRowL
import Derived.Test.YtbldimplddiheaaGreatDoorKBit
import Derived.Test.YtbldimplddiheaaGreatDoorKRefMay
import Derived.Deep.RegionWith
import Derived.Test.YtbldimplddiheaaGreatDoorKNm
import Derived.Deep.RegionHeld3
/- Cmp Alive Sums Order Bits BitLaw RefA RefFrom RefGo Names RefSum RefRest RefCmp RefShift Spec RefDiv. -/
namespace Go.Proofs.YtbldimplddiheaaGreatDoor
open Go.RowKit Go.Shelf
attribute [local go_sem] Oper.semAt_some
set_option linter.unusedVariables false
set_option linter.unusedSimpArgs false

/-- -1, 0 or 1. -/
def cmp3 (x y : Nat) : Int := if x < y then -1 else if y < x then 1 else 0
theorem cmp3_lt {x y : Nat} (h : x < y) : cmp3 x y = -1 := by unfold cmp3; rw [if_pos h]
theorem cmp3_gt {x y : Nat} (h : y < x) : cmp3 x y = 1 := by unfold cmp3; rw [if_neg (by omega), if_pos h]
theorem cmp3_self (x : Nat) : cmp3 x x = 0 := by unfold cmp3; rw [if_neg (by omega), if_neg (by omega)]
theorem cmp3_high {p a b x y : Nat} (ha : a < p) (hb : b < p) (h : x ≠ y) : cmp3 (a + p * x) (b + p * y) = cmp3 x y := by
  rcases Nat.lt_or_gt_of_ne h with h | h
  · have : p * (x + 1) ≤ p * y := Nat.mul_le_mul_left _ h
    rw [Nat.mul_add] at this
    rw [cmp3_lt h, cmp3_lt (by omega)]
  · have : p * (y + 1) ≤ p * x := Nat.mul_le_mul_left _ h
    rw [Nat.mul_add] at this
    rw [cmp3_gt h, cmp3_gt (by omega)]
theorem cmp3_low {p a b x : Nat} : cmp3 (a + p * x) (b + p * x) = cmp3 a b := by
  unfold cmp3
  by_cases h : a < b
  · rw [if_pos h, if_pos (by omega)]
  · rw [if_neg h, if_neg (by omega)]
    by_cases h2 : b < a
    · rw [if_pos h2, if_pos (by omega)]
    · rw [if_neg h2, if_neg (by omega)]

set_option maxHeartbeats 400000 in
theorem compare_any (x y : Nat) (w : World) (hx : x < B64) (hy : y < B64) :
    Calls Tryz.prog 109 #[u64 x, u64 y] w fun e w' => e = .returned (.int .i64 (cmp3 x y)) ∧ w' = w := by
  clear hx hy
  have e1 : (((x : Nat) : Int) != ((x : Nat) : Int)) = false := by simp
  have e2 : (((y : Nat) : Int) != ((y : Nat) : Int)) = false := by simp
  by_cases h : x < y
  · have HC := Lib.hid (cmp3_lt h)
    go_enter Tryz.func109, Tryz.ntmps109
    go_wp2
    go_ret
    exact ⟨by rw [HC.out]; rfl, rfl⟩
  · by_cases h2 : y < x
    · have HC := Lib.hid (cmp3_gt h2)
      go_enter Tryz.func109, Tryz.ntmps109
      go_wp2
      go_ret
      exact ⟨by rw [HC.out]; rfl, rfl⟩
    · have HC := Lib.hid (show cmp3 x y = 0 by unfold cmp3; rw [if_neg h, if_neg h2])
      go_enter Tryz.func109, Tryz.ntmps109
      go_wp2
      go_ret
      exact ⟨by rw [HC.out]; rfl, rfl⟩

/-- The sign so far: the last pair that parts decides. -/
def signs (ps : List WW) : Int := ps.foldl (fun s x => if x.1.1 = x.1.2 then s else cmp3 x.1.1 x.1.2) 0
theorem signs_snoc (ps : List WW) (x : WW) : signs (ps ++ [x]) = if x.1.1 = x.1.2 then signs ps else cmp3 x.1.1 x.1.2 := by simp [signs, List.foldl_append]
theorem signs_pairs {a b : List Nat} (ha : Words a) (hb : Words b) (k : Nat) : signs (pairs2 ha hb k) = cmp3 (val (a.take k)) (val (b.take k)) := by
  induction k with
  | zero => simp [pairs2, signs, val, cmp3_self]
  | succ k ih =>
    rw [pairs2_succ, signs_snoc, val_take_succ, val_take_succ]
    have h1 : val (a.take k) < B64 ^ k := Nat.lt_of_lt_of_le (val_lt (ha.take k)) (Nat.pow_le_pow_right B64_pos (by rw [List.length_take]; omega))
    have h2 : val (b.take k) < B64 ^ k := Nat.lt_of_lt_of_le (val_lt (hb.take k)) (Nat.pow_le_pow_right B64_pos (by rw [List.length_take]; omega))
    split
    · rename_i h
      simp only at h
      rw [h, cmp3_low, ih]
    · rename_i h
      rw [cmp3_high h1 h2 h]

/-- What the rounds of nat.Cmp hand on. -/
def CmpI (w : World) (q : Nat) (pre : List WW) (W : World) : Prop :=
  Boxed W (w.heap.size + 1) 3 (.int .i64 (signs pre)) ∧ Below w.heap.size w W ∧ q ≤ W.heap.size
theorem cmpI_own (w : World) (q B : Nat) (hB : w.heap.size ≤ B) : OwnFrom B (CmpI w q) :=
  OwnFrom.and (Own.from (boxed_own (w.heap.size + 1) 3 (fun pre : List WW => .int .i64 (signs pre))) _) (OwnFrom.and (ownFrom_below (Nat.le_refl _) hB) fun s W W' row hs hg _ => Nat.le_trans hs hg.size)

set_option maxRecDepth 100000 in
set_option maxHeartbeats 4000000 in
/-- nat.Cmp. -/
theorem cmp_ok (A A2 : Option Addr) (na ca nb cb : Nat) (a b : List Nat) (w : World) (hra : Rd w A na a) (hrb : Rd w A2 nb b) (hna : na ≤ 4294967296) (hnb : nb ≤ 4294967296) (hmm : [a, b].all may = true) :
    Calls Tryz.prog 82 #[.slice A na ca, .slice A2 nb cb] w fun e w' => e = .returned (.tuple #[.int .i64 (cmp3 (val a) (val b)), .int .i64 0]) ∧ Below w.heap.size w w' := by
  obtain ⟨m, hm⟩ : ∃ m, m = max na nb := ⟨_, rfl⟩
  have hr := rows2_two (ca := ca) (cb := cb) hra hrb (by omega) (by omega) 23
  have hwa := hra.words
  have hwb := hrb.words
  have hsig := signs_pairs hwa hwb m
  rw [val_take_all (by rw [hra.len]; omega), val_take_all (by rw [hrb.len]; omega)] at hsig
  refine (callsIn_wide (n := 8)).1 ?_
  refine callsIn_of_wp_marks Tryz.func82 rfl trivial ?_ rfl
  simp only [Tryz.ntmps82, List.size_toArray, List.length_cons, List.length_nil, Nat.reduceAdd, Nat.reduceSub, Array.replicate_succ, Array.replicate_zero, List.push_toArray, List.append_toArray, List.nil_append, List.cons_append]
  have HR := Lib.hid hr
  have HM := Lib.hid hmm
  have hM := Lib.hid hm
  have HA := Lib.hid hra
  have HB := Lib.hid hrb
  have HS := Lib.hid hsig
  clear hr hmm hm hra hrb hsig
  gi_wp2_with (refine ⟨trivial, ?_⟩; gi_at_call 107; refine (callsIn_wide.2 (mayBe_any w.heap.size 0 2 2 [a, b] _ HR.out rfl (by omega))).mono ?_; rw [show bad [a, b] = 0 by unfold bad; rw [if_pos HM.out]]; rintro e w' ⟨rfl, rfl⟩)
  refine ⟨trivial, (callsIn_wide.2 (pairs_any A A2 na ca nb cb _)).mono ?_⟩
  rintro e w' ⟨rfl, rfl⟩
  gi_wp2
  obtain ⟨w2, hw2⟩ : ∃ w2, w2 = (w.alloc (.cells #[.slice A na ca, .slice A2 nb cb] 23)).alloc (.cells #[.int .i64 0] 3) := ⟨_, rfl⟩
  have hB1 : Below w.heap.size w w2 := by rw [hw2]; exact ((Below.refl _ w).alloc (Nat.le_refl _) _).alloc (by simp) _
  have bS : Boxed w2 (w.heap.size + 1) 3 (.int .i64 0) := by
    have := Boxed.new (w.alloc (.cells #[.slice A na ca, .slice A2 nb cb] 23)) 3 (.int .i64 0)
    rw [World.size_alloc] at this
    rw [hw2]; exact this
  have hq : w2.heap.size = w.heap.size + 1 + 1 := by rw [hw2]; simp
  rw [show (w.heap.size + 1 + 1 : Nat) = w2.heap.size from hq.symm]
  rw [← hw2]
  have hq2 : w.heap.size + 1 < w2.heap.size := by omega
  clear hw2 hq
  have bA := Boxed.new w2 23 (.slice A na ca)
  have bB := Boxed.new (w2.alloc (.cells #[.slice A na ca] 23)) 23 (.slice A2 nb cb)
  rw [World.size_alloc] at bB
  have hB2 : Below w.heap.size w ((w2.alloc (.cells #[.slice A na ca] 23)).alloc (.cells #[.slice A2 nb cb] 23)) := (hB1.alloc (by omega) _).alloc (by simp; omega) _
  refine wpIn_rangeFunc_ownG rfl (by omega) (gf := 137) (lb := #[.pointer (some ⟨w2.heap.size, 0, none⟩), .pointer (some ⟨w2.heap.size + 1, 0, none⟩)]) rfl trivial (enters_of Tryz.func137 (by kernel_rfl) rfl)
      (pairs_stops (JoinS w.heap.size w2.heap.size) _ w2.heap.size (w2.heap.size + 1) A A2 na ca nb cb m a b hna hnb hM.out (fun h b off e => .inl (HA.out.lt h b off e)) (fun h b off e => .inl (HB.out.lt h b off e)) (.inr (.inl rfl)) (.inr (.inr rfl)) _ (by simp; omega) (bA.alloc _).cell bB.cell (HA.out.below hB2) (HB.out.below hB2))
      KeepsOf.trans ?hkb (Below.refl _ _) (fun _ => rfl)
      (CmpI w (w2.heap.size + 2)) (fun _ _ _ => False) (cmpI_own w _ _ (by simp; omega)) (fun _ _ _ _ _ hs _ _ => hs)
      ⟨(bS.alloc _).alloc _, hB2, by simp⟩ ?_ ?assign ?body ?done ?stop
  case assign =>
    intro l x W K hK
    gi_wp2
    exact hK
  case hkb =>
    intro W l o o' hl ho _ _
    refine ⟨by simp, fun k hk => World.putObj_heap_other (fun e => ?_)⟩
    simp only [World.size_alloc] at hl
    have := hB1.size
    rcases hk with h | rfl | rfl <;> omega
  case body =>
    rintro l pre x W ⟨hv, hBW, hqW⟩ hlt2
    have c1 := hv.cell
    have f1 := hv.frozen
    by_cases he : x.1.1 = x.1.2
    · have hne : (((x.1.1 : Nat) : Int) != ((x.1.2 : Nat) : Int)) = false := by simp [he]
      have HE := Lib.hid he
      clear he
      gi_wp2
      exact ⟨KeepsFrom.refl _ _, KeepsOf.refl _, by rw [signs_snoc, if_pos HE.out]; exact hv, hBW, hqW⟩
    · have hne : (((x.1.1 : Nat) : Int) != ((x.1.2 : Nat) : Int)) = true := by simp; omega
      gi_wp2_with (refine ⟨trivial, ?_⟩; gi_at_call 109; refine (CallsIn.inRound l (callsIn_wide.2 (compare_any x.1.1 x.1.2 W x.2.1 x.2.2))).mono ?_; rintro e w' ⟨rfl, rfl⟩)
      refine ⟨(KeepsOthers.setCell _ _ _).from _, ⟨by simp [World.setCell], fun k hk => Below.heap_setCell _ _ _ k (by rcases hk with h | rfl | rfl <;> simp <;> omega)⟩, by rw [signs_snoc, if_neg he]; exact hv.set _, hBW.setCell (p := ⟨w.heap.size + 1, 0, none⟩) (by simp) _, by rw [World.size_setCell]; exact hqW⟩
  case done =>
    rintro D ys W hD rfl ⟨hv, hBW, hqW⟩ hK
    have c1 := hv.cell
    have hBe := Lib.hid hBW
    clear hBW
    gi_wp2
    refine ⟨by simp, .inl ⟨_, _, rfl, run_takeDeferred hK, ?_⟩⟩
    have hDn : w2.heap.size + 1 + 1 ≤ D := by simpa using hD
    exact ⟨_, results_tmp2 rfl _ _ _, by rw [HS.out]; rfl, hBe.out.grown (grownBy_putObj' W D _) hBe.out.size (fun k e => by cases e; omega)⟩
  case stop =>
    rintro D c pre W _ _ h _
    exact h.elim

set_option maxHeartbeats 1000000 in
/-- nat.Cmp, where one of the numbers may not be. -/
theorem cmp_bad (A A2 : Option Addr) (na ca nb cb : Nat) (a b : List Nat) (w : World) (hra : Rd w A na a) (hrb : Rd w A2 nb b) (hna : na ≤ 4294967296) (hnb : nb ≤ 4294967296) (hmm : [a, b].all may = false) :
    Calls Tryz.prog 82 #[.slice A na ca, .slice A2 nb cb] w fun e w' => e = .returned (.tuple #[.int .i64 0, .int .i64 8]) ∧ Below w.heap.size w w' := by
  have hr := rows2_two (ca := ca) (cb := cb) hra hrb (by omega) (by omega) 23
  have HR := Lib.hid hr
  have HM := Lib.hid hmm
  clear hr hmm hra hrb
  go_enter Tryz.func82, Tryz.ntmps82
  go_wp2_with (go_at_call 107; refine (mayBe_any w.heap.size 0 2 2 [a, b] _ HR.out rfl (by omega)).mono ?_; rw [show bad [a, b] = 8 by unfold bad; rw [if_neg (by rw [HM.out]; simp)]]; rintro e w' ⟨rfl, rfl⟩)
  go_ret2
  exact ⟨rfl, (Below.refl _ _).alloc (Nat.le_refl _) _⟩
end Go.Proofs.YtbldimplddiheaaGreatDoor

namespace Go.Proofs.YtbldimplddiheaaGreatDoor
open Go.RowKit Go.Shelf


theorem sum_top : limbs (val [top] + val [1]) = [0, 1] := by
  have e : val [top] + val [1] = val [0, 1] := by simp [val, B64_eq, top]
  rw [e]
  exact limbs_val (words_cons B64_pos (words_cons B64_gt words_nil)) rfl
theorem rest_top : limbs (val [0, 1] - val [1]) = [top] := by
  have e : val [0, 1] - val [1] = val [top] := by simp [val, B64_eq, top]
  rw [e]
  exact limbs_val (words_cons top_lt words_nil) rfl
theorem may_top : [[top], [1]].all may = true := rfl
theorem val_01 : val [1] ≤ val [0, 1] := by simp [val, B64_eq]

end Go.Proofs.YtbldimplddiheaaGreatDoor

namespace Go.Proofs.YtbldimplddiheaaGreatDoor
open Go.RowKit Go.Shelf



section
variable (A A2 A3 : Option Addr) (na ca nb cb nc cc : Nat) (a b c : List Nat) (w : World)

end
end Go.Proofs.YtbldimplddiheaaGreatDoor

namespace Go.Proofs.YtbldimplddiheaaGreatDoor
open Go.RowKit Go.Shelf
set_option linter.unusedVariables false
set_option linter.unusedSimpArgs false
section
variable (A A2 A3 : Option Addr) (na ca nb cb nc cc : Nat) (a b c : List Nat) (w : World)

theorem length_sub_le {l : List Nat} (hl : Words l) (m : Nat) {n : Nat} (h : l.length ≤ n) : (limbs (val l - m)).length ≤ n :=
  limbs_length_le (Nat.lt_of_le_of_lt (Nat.sub_le _ _) (Nat.lt_of_lt_of_le (val_lt hl) (Nat.pow_le_pow_right B64_pos h)))

theorem cmp3_add (x y z : Nat) : cmp3 (x + z) (y + z) = cmp3 x y := by
  have := @cmp3_low 1 x y z
  simpa using this

end
end Go.Proofs.YtbldimplddiheaaGreatDoor

namespace Go.Proofs.YtbldimplddiheaaGreatDoor
open Go.RowKit Go.Shelf
set_option linter.unusedVariables false
set_option linter.unusedSimpArgs false
section
variable (A : Option Addr) (na ca : Nat) (a : List Nat) (w : World)


end
end Go.Proofs.YtbldimplddiheaaGreatDoor

namespace Go.Proofs.YtbldimplddiheaaGreatDoor
open Go.RowKit Go.Shelf
set_option linter.unusedVariables false
set_option linter.unusedSimpArgs false

/-- Are the first k bits of two numbers the same? -/
def sameTo (x y k : Nat) : Bool := (List.range k).all fun j => nbit x j == nbit y j
theorem sameTo_succ (x y k : Nat) : sameTo x y (k + 1) = (sameTo x y k && nbit x k == nbit y k) := by simp [sameTo, List.range_succ]
theorem sameTo_self (x k : Nat) : sameTo x x k = true := by simp [sameTo]
theorem mod_eq_of_sameTo {x y : Nat} : ∀ {k : Nat}, sameTo x y k = true → x % 2 ^ k = y % 2 ^ k
  | 0, _ => by simp [Nat.mod_one]
  | k + 1, h => by
    rw [sameTo_succ, Bool.and_eq_true] at h
    have ih := mod_eq_of_sameTo h.1
    have hb : nbit x k = nbit y k := by simpa using h.2
    unfold nbit at hb
    rw [Nat.pow_succ, Nat.mod_mul, Nat.mod_mul, ih, hb]
theorem nbit_past {x k : Nat} (h : blen x ≤ k) : nbit x k = 0 := by
  unfold nbit
  have h1 := blen_lt x
  rw [Nat.div_eq_of_lt (Nat.lt_of_lt_of_le h1 (Nat.pow_le_pow_right (by omega) h))]
theorem nbit_top {x k : Nat} (h : k + 1 = blen x) : nbit x k = 1 := by
  have h0 : x ≠ 0 := by rintro rfl; simp [blen] at h
  obtain ⟨h1, h2, _⟩ := blen_pos h0
  rw [← h] at h1 h2
  simp only [Nat.add_sub_cancel] at h1
  unfold nbit
  have : x / 2 ^ k = 1 := by
    have a1 : x / 2 ^ k < 2 := by rw [Nat.div_lt_iff_lt_mul (Nat.two_pow_pos k), Nat.mul_comm, ← Nat.pow_succ]; exact h2
    have a2 : 1 ≤ x / 2 ^ k := by rw [Nat.le_div_iff_mul_le (Nat.two_pow_pos k)]; omega
    omega
  rw [this]
theorem eq_of_sameTo {x y k : Nat} (hx : blen x ≤ k) (hy : blen y ≤ k) (h : sameTo x y k = true) : x = y := by
  have e := mod_eq_of_sameTo h
  have h1 := Nat.lt_of_lt_of_le (blen_lt x) (Nat.pow_le_pow_right (by omega : 2 > 0) hx)
  have h2 := Nat.lt_of_lt_of_le (blen_lt y) (Nat.pow_le_pow_right (by omega : 2 > 0) hy)
  rwa [Nat.mod_eq_of_lt h1, Nat.mod_eq_of_lt h2] at e

section
variable (A A2 : Option Addr) (na ca nb cb : Nat) (a b : List Nat) (w : World)

end
end Go.Proofs.YtbldimplddiheaaGreatDoor

/- The document's own answers for numbers: the small ones. -/
namespace Go.Proofs.YtbldimplddiheaaGreatDoor
open Go.RowKit Go.Shelf
set_option linter.unusedVariables false
set_option linter.unusedSimpArgs false


section
variable (A A2 : Option Addr) (na ca nb cb : Nat) (a b : List Nat) (w : World)



set_option maxHeartbeats 1000000 in
theorem rOne_any (hra : Rd w A na a) (hna : na ≤ 4294967296) :
    Calls Tryz.prog 127 #[.slice A na ca] w fun e w' => e = .returned (u64 (lim a 0)) ∧ w = w' := by
  by_cases h0 : na = 0
  · subst h0
    have hz : lim a 0 = 0 := lim_past (by rw [hra.len]; omega)
    have HZ := Lib.hid hz
    clear hz hra
    go_enter Tryz.func127, Tryz.ntmps127
    go_wp2
    go_ret
    exact ⟨by rw [HZ.out]; rfl, rfl⟩
  · obtain ⟨n, rfl⟩ : ∃ n, na = n + 1 := ⟨na - 1, by omega⟩
    obtain ⟨b, off, rfl, hb, hc⟩ := hra.cells (by omega)
    have hci := hc 0 (by omega)
    rw [Nat.add_zero] at hci
    have hne : (((n : Nat) : Int) + 1 == 0) = false := by simp; omega
    clear hra hc
    go_enter Tryz.func127, Tryz.ntmps127
    go_wp2
    go_ret
    exact ⟨rfl, rfl⟩

set_option maxHeartbeats 1000000 in
theorem rShort_any (hna : na ≤ 4294967296) (hnb : nb ≤ 4294967296) :
    Calls Tryz.prog 126 #[.slice A na ca, .slice A2 nb cb] w fun e w' => e = .returned (.bool (decide (na ≤ 1 ∧ nb ≤ 1))) ∧ w = w' := by
  by_cases h1 : na ≤ 1 <;> by_cases h2 : nb ≤ 1
  all_goals
    go_enter Tryz.func126, Tryz.ntmps126
    go_wp2
    go_ret
    exact ⟨ret_bool (by (simp [h1, h2]) <;> omega), rfl⟩

set_option maxHeartbeats 1000000 in
theorem rMany_any (hna : na ≤ 4294967296) (hnb : nb ≤ 4294967296) :
    Calls Tryz.prog 128 #[.slice A na ca, .slice A2 nb cb] w fun e w' => e = .returned (.int .i64 ((64 * max na nb : Nat) : Int)) ∧ w = w' := by
  rcases Nat.lt_or_ge na nb with h | h
  · have hm : max na nb = nb := by omega
    have HM := Lib.hid hm
    clear hm
    go_enter Tryz.func128, Tryz.ntmps128
    go_wp2
    go_ret
    exact ⟨ret_int (by have := HM.out; omega), rfl⟩
  · have hm : max na nb = na := by omega
    have HM := Lib.hid hm
    clear hm
    go_enter Tryz.func128, Tryz.ntmps128
    go_wp2
    go_ret
    exact ⟨ret_int (by have := HM.out; omega), rfl⟩

set_option maxHeartbeats 1000000 in
theorem rOf_any (x : Nat) (hx : x < B64) :
    Calls Tryz.prog 119 #[u64 x] w fun e w' => ∃ A' k c, e = .returned (.slice A' k c) ∧ Own w' w.heap.size (.slice A' k c) (limbs x) ∧ Below w.heap.size w w' := by
  by_cases h0 : x = 0
  · subst h0
    go_enter Tryz.func119, Tryz.ntmps119
    go_wp2
    go_ret
    exact ⟨none, 0, 0, rfl, by rw [limbs_zero]; exact ⟨World.ownsRow_nil _ _ _ _, words_nil⟩, Below.refl _ _⟩
  · have hrow : RowL (w.alloc (.cells #[u64 x] 63)) w.heap.size [x] := World.alloc_heap_new w _
    have hown := hrow.own (B := w.heap.size) (Nat.le_refl _) (words_cons hx words_nil) (n := 1) rfl (by simp only [maxLen]; omega)
    have HO := Lib.hid hown
    have hne : (((x : Nat) : Int) == 0) = false := by simp; omega
    clear hown hrow
    go_enter Tryz.func119, Tryz.ntmps119
    go_wp2
    go_ret
    refine ⟨_, 1, 1, rfl, ?_, (Below.refl _ _).alloc (Nat.le_refl _) _⟩
    have e : limbs x = [x] := by
      have h := limbs_val (l := [x]) (words_cons hx words_nil) (by unfold may; simp [h0])
      simpa [val] using h
    rw [e]
    exact HO.out
end
end Go.Proofs.YtbldimplddiheaaGreatDoor

/- The document's From: the number of bits. -/
namespace Go.Proofs.YtbldimplddiheaaGreatDoor
open Go.RowKit Go.Shelf
set_option linter.unusedVariables false
set_option linter.unusedSimpArgs false

/-- What a list of bits is worth. -/
def bval : List Nat → Nat
  | [] => 0
  | x :: r => x + 2 * bval r
def Bits (l : List Nat) : Prop := ∀ x ∈ l, x ≤ 1
theorem Bits.get {l : List Nat} (h : Bits l) (i : Nat) : lim l i ≤ 1 := by
  unfold lim
  rw [List.getD_eq_getElem?_getD]
  cases e : l[i]? with
  | none => exact Nat.zero_le _
  | some x => exact h x (List.mem_of_getElem? e)
theorem bits_append {l m : List Nat} (h : Bits l) (k : Bits m) : Bits (l ++ m) := fun y hy => by
  rcases List.mem_append.1 hy with hy | hy
  · exact h y hy
  · exact k y hy
theorem bits_one {x : Nat} (h : x ≤ 1) : Bits [x] := fun y hy => by
  rw [List.mem_singleton] at hy; rw [hy]; exact h
theorem bval_append (l m : List Nat) : bval (l ++ m) = bval l + 2 ^ l.length * bval m := by
  induction l with
  | nil => simp [bval]
  | cons x r ih =>
    simp only [List.cons_append, bval, ih, List.length_cons, Nat.pow_succ, Nat.mul_add]
    rw [← Nat.mul_assoc, Nat.mul_comm 2 (2 ^ r.length)]
    omega
theorem bval_snoc (l : List Nat) (x : Nat) : bval (l ++ [x]) = bval l + 2 ^ l.length * x := by rw [bval_append]; simp [bval]
theorem bval_take_succ (l : List Nat) (k : Nat) : bval (l.take (k + 1)) = bval (l.take k) + 2 ^ k * lim l k := by
  by_cases h : k < l.length
  · rw [List.take_succ_eq_append_getElem h, bval_snoc, lim_get h, List.length_take, Nat.min_eq_left (Nat.le_of_lt h)]
  · rw [List.take_of_length_le (by omega), List.take_of_length_le (by omega), lim_past (by omega), Nat.mul_zero, Nat.add_zero]
theorem bval_lt {l : List Nat} (h : Bits l) : bval l < 2 ^ l.length := by
  induction l with
  | nil => simp [bval]
  | cons x r ih =>
    have h1 : x ≤ 1 := h x List.mem_cons_self
    have h2 := ih fun y hy => h y (List.mem_cons_of_mem _ hy)
    rw [bval, List.length_cons, Nat.pow_succ]
    omega
theorem bval_take_zeros {l : List Nat} {n : Nat} (h : ∀ i, n ≤ i → lim l i = 0) : bval (l.take n) = bval l := by
  simp only [lim] at h
  induction l generalizing n with
  | nil => simp
  | cons x r ih =>
    cases n with
    | zero =>
      have h0 := h 0 (by omega)
      have hr := ih (n := 0) (fun i _ => by have := h (i + 1) (by omega); simpa using this)
      simp at h0 hr
      rw [bval, ← hr]
      simp [h0, bval]
    | succ n =>
      simp only [List.take_succ_cons, bval]
      rw [ih (fun i hi => by have := h (i + 1) (by omega); simpa using this)]
/-- The bits of a number, from a place on. -/
theorem bval_bits (v : Nat) (k : Nat) : bval ((List.range k).map (nbit v)) = v % 2 ^ k := by
  induction k with
  | zero => simp [bval, Nat.mod_one]
  | succ k ih =>
    rw [List.range_succ, List.map_append, List.map_cons, List.map_nil, bval_snoc, ih, List.length_map, List.length_range, Nat.pow_succ, Nat.mod_mul]
    rfl

abbrev i64n (x : Nat) : Value := .int .i64 (x : Int)
theorem int_info : (Tryz.prog.info? 3).map (fun i => (i.zero, i.size, i.bytes)) = some (some (.int .i64 0), 1, 8) := by kernel_rfl

/-- A slice of ints that reads as a list of bits. -/
structure RdI (w : World) (A : Option Addr) (n : Nat) (l : List Nat) : Prop where
  len : l.length = n
  bits : Bits l
  cells : 0 < n → ∃ b off, A = some ⟨b, off, none⟩ ∧ b < w.heap.size ∧ ∀ i, i < n → w.cell? ⟨b, off + i, none⟩ = some (i64n (lim l i))
theorem RdI.below {w w' : World} {A : Option Addr} {n : Nat} {l : List Nat} (h : RdI w A n l) (hb : Below w.heap.size w w') : RdI w' A n l :=
  ⟨h.len, h.bits, fun hn => by
    obtain ⟨b, off, e, hlt, hc⟩ := h.cells hn
    exact ⟨b, off, e, Nat.lt_of_lt_of_le hlt hb.size, fun i hi => (hb.cell (p := ⟨b, off + i, none⟩) hlt).trans (hc i hi)⟩⟩
/-- A slice of ints of the call's own. -/
def OwnI (w : World) (B : Nat) (v : Value) (l : List Nat) : Prop := w.ownsRow B 3 1 v l.length (l.map i64n) ∧ Bits l
theorem OwnI.below {w w' : World} {B : Nat} {v : Value} {l : List Nat} (h : OwnI w B v l) (hb : Below w.heap.size w w') : OwnI w' B v l := by
  refine ⟨⟨h.1.1, ?_⟩, h.2⟩
  rcases h.1.2 with h2 | ⟨g, cap, cur, e, hg, hh, r⟩
  · exact .inl h2
  · exact .inr ⟨g, cap, cur, e, hg, (hb.block g (Array.getElem?_eq_some_iff.1 hh).1).trans hh, r⟩
theorem OwnI.form {w : World} {B : Nat} {v : Value} {l : List Nat} (h : OwnI w B v l) : ∃ A c, v = .slice A l.length c ∧ RdI w A l.length l ∧ l.length ≤ c ∧ c ≤ maxLen := by
  rcases h.1.2 with ⟨e, h0⟩ | ⟨g, cap, cur, e, hg, hh, hn, hc, hs, ht⟩
  · have hl : l = [] := List.eq_nil_of_length_eq_zero h0
    subst hl
    exact ⟨none, 0, e, ⟨rfl, h.2, fun h => absurd h (by simp)⟩, Nat.le_refl _, Nat.zero_le _⟩
  · refine ⟨_, cap, e, ⟨rfl, h.2, fun hn0 => ⟨g, 0, rfl, (Array.getElem?_eq_some_iff.1 hh).1, fun i hi => ?_⟩⟩, hn, hc⟩
    have hci := h.1.cells (g := g) (by rw [e]; rfl) i (i64n (lim l i)) (by rw [List.getElem?_map, List.getElem?_eq_getElem hi, lim_get hi]; rfl)
    simpa [Addr.add, Nat.zero_add] using (by
      by_cases h0 : i = 0
      · subst h0; simpa [Addr.add] using hci
      · simpa [Addr.add, h0] using hci : w.cell? ⟨g, 0 + i, none⟩ = some (i64n (lim l i)))


/-- A number's list grows by bits. -/
theorem from_step {o bl : List Nat} {i : Nat} (hw : Words o) (hb : Bits bl) (hi : i < bl.length) (ho : val o = bval (bl.take i)) (hl : i / 64 < o.length) (hx : lim bl i = 1) :
    lim o (i / 64) + 2 ^ (i % 64) < B64 ∧ val (o.set (i / 64) (lim o (i / 64) + 2 ^ (i % 64))) = bval (bl.take (i + 1)) := by
  have hlt : val o < 2 ^ i := by
    rw [ho]
    have := bval_lt (l := bl.take i) (fun y hy => hb y (List.mem_of_mem_take hy))
    rwa [List.length_take, Nat.min_eq_left (Nat.le_of_lt hi)] at this
  have hp : 2 ^ i = B64 ^ (i / 64) * 2 ^ (i % 64) := by
    have e : i = 64 * (i / 64) + i % 64 := by omega
    have h2 : 2 ^ (64 * (i / 64) + i % 64) = B64 ^ (i / 64) * 2 ^ (i % 64) := by rw [Nat.pow_add, Nat.pow_mul]; rfl
    rw [← h2, ← e]
  have h1 : lim o (i / 64) < 2 ^ (i % 64) := by
    rw [lim_val hw]
    refine Nat.lt_of_le_of_lt (Nat.mod_le _ _) ?_
    rw [Nat.div_lt_iff_lt_mul (Nat.pow_pos B64_pos), Nat.mul_comm, ← hp]
    exact hlt
  have h2 : 2 ^ (i % 64) * 2 ≤ B64 := by
    rw [← Nat.pow_succ]
    exact Nat.pow_le_pow_right (by omega) (show i % 64 + 1 ≤ 64 by omega)
  refine ⟨by omega, ?_⟩
  have e1 := val_set hl (lim o (i / 64) + 2 ^ (i % 64))
  rw [Nat.mul_add] at e1
  rw [bval_take_succ, hx, Nat.mul_one, ← ho, hp]
  omega
theorem val_snoc_zero (o : List Nat) : val (o ++ [0]) = val o := by rw [val_append]; simp [val]

end Go.Proofs.YtbldimplddiheaaGreatDoor

namespace Go.Proofs.YtbldimplddiheaaGreatDoor
open Go.RowKit Go.Shelf
set_option linter.unusedVariables false
set_option linter.unusedSimpArgs false

theorem add_word (y r : Nat) (h : y + 2 ^ r < B64) : IntKind.u64.wrap ((y : Int) + IntKind.u64.wrap (2 ^ r)) = ((y + 2 ^ r : Nat) : Int) := by
  have e : (2 : Int) ^ r = ((2 ^ r : Nat) : Int) := by simp
  rw [e, u64_wrap_nat, ← Int.natCast_add, u64_wrap_nat, Nat.mod_eq_of_lt (show 2 ^ r < B64 by omega), Nat.mod_eq_of_lt h]

set_option maxRecDepth 100000 in
set_option maxHeartbeats 4000000 in
theorem from_any (A : Option Addr) (n c : Nat) (bl : List Nat) (w : World) (hr : RdI w A n bl) (hn : n ≤ 1000000) :
    Calls Tryz.prog 124 #[.slice A n c] w fun e w' => ∃ A' k c', e = .returned (.slice A' k c') ∧ Own w' w.heap.size (.slice A' k c') (limbs (bval bl)) ∧ Below w.heap.size w w' := by
  obtain ⟨i0, hi0, hz0, hz1, hz2⟩ := info_parts u64_info
  go_enter Tryz.func124, Tryz.ntmps124
  go_wp2
  go_loop [3] (fun i => ∃ k : Nat, k ≤ n ∧ i = .int .i64 (k : Int) ∧ ∀ j, k ≤ j → lim bl j = 0) (fun i => (intOf i).toNat)
  case atStart => exact ⟨n, Nat.le_refl _, rfl, fun j hj => lim_past (by rw [hr.len]; omega)⟩
  case round =>
    obtain ⟨m, hm, rfl, hz⟩ := hrel
    by_cases hstep : m ≠ 0 ∧ lim bl (m - 1) = 0
    · obtain ⟨hm0, hx⟩ := hstep
      obtain ⟨b, off, rfl, hb, hc⟩ := hr.cells (by omega)
      obtain ⟨j, rfl⟩ : ∃ j, m = j + 1 := ⟨m - 1, by omega⟩
      rw [Nat.add_sub_cancel] at hx
      have hci := hc j (by omega)
      rw [hx] at hci
      have HX := Lib.hid hx
      have HZ := Lib.hid hz
      have HH := Lib.hid hr
      clear hx hz hr hc
      go_wp2
      go_round
      case rel => exact ⟨j, by omega, by go_num, fun i hi => by
        rcases Nat.eq_or_lt_of_le hi with rfl | hi
        · exact HX.out
        · exact HZ.out i hi⟩
      case measure => simp [intOf]
    · -- THE END OF THE FIRST LOOP: m is 0, or the bit m - 1 is 1
      have htop : m = 0 ∨ lim bl (m - 1) = 1 := by
        by_cases h0 : m = 0
        · exact .inl h0
        · have h1 := hr.bits.get (m - 1)
          have h2 : lim bl (m - 1) ≠ 0 := fun e => hstep ⟨h0, e⟩
          exact .inr (by omega)
      have hv : bval (bl.take m) = bval bl := bval_take_zeros hz
      have hfin : ∀ o, Words o → o.length = (m + 63) / 64 → val o = bval (bl.take m) → o = limbs (bval bl) := by
        intro o hw hl ho
        rw [← hv, ← ho]
        refine (limbs_val hw ?_).symm
        rcases htop with h0 | h1
        · subst h0
          have : o = [] := List.eq_nil_of_length_eq_zero (by omega)
          rw [this]; rfl
        · by_cases h0 : m = 0
          · subst h0
            have : o = [] := List.eq_nil_of_length_eq_zero (by omega)
            rw [this]; rfl
          · obtain ⟨j, rfl⟩ : ∃ j, m = j + 1 := ⟨m - 1, by omega⟩
            rw [Nat.add_sub_cancel] at h1
            rw [bval_take_succ, h1, Nat.mul_one] at ho
            have hne : o ≠ [] := fun e => by rw [e] at hl; simp at hl; omega
            rw [may_last hne]
            have hge : 2 ^ j ≤ val o := by omega
            simp only [bne_iff_ne]
            intro e0
            have e2 : val (o.take (o.length - 1)) = val o := val_take_zeros fun i hi => by
              rcases Nat.eq_or_lt_of_le hi with rfl | hi
              · exact e0
              · exact lim_past (by omega)
            have h3 := val_lt (hw.take (o.length - 1))
            rw [e2] at h3
            have h4 : B64 ^ (o.take (o.length - 1)).length ≤ 2 ^ j := by
              rw [B64_pow]
              refine Nat.pow_le_pow_right (by omega) ?_
              rw [List.length_take]; omega
            omega
      have hmt : ∀ hm0 : m ≠ 0, ∃ b off, A = some ⟨b, off, none⟩ ∧ b < w.heap.size ∧ (∀ i, i < n → w.cell? ⟨b, off + i, none⟩ = some (i64n (lim bl i))) ∧ lim bl (m - 1) = 1 := fun hm0 => by
        obtain ⟨b, off, e, hb, hc⟩ := hr.cells (by omega)
        exact ⟨b, off, e, hb, hc, htop.resolve_left hm0⟩
      have HF := Lib.hid hfin
      have HT := Lib.hid hmt
      have HR := Lib.hid hr
      clear hfin hmt htop hstep hz hv hr
      have hloop : ∀ (K : Act → World → Prop), True := fun _ => trivial
      by_cases hm0 : m = 0
      · subst hm0
        go_wp2
        go_loop [4, 5] (fun o i => o = .slice none 0 0 ∧ i = .int .i64 0) (fun _ _ => 0)
        case atStart => exact ⟨rfl, rfl⟩
        case round =>
          obtain ⟨rfl, rfl⟩ := hrel
          go_wp2
          go_ret
          refine ⟨none, 0, 0, rfl, ?_, Below.refl _ _⟩
          rw [← HF.out [] words_nil rfl (by simp [val, bval])]
          exact ⟨World.ownsRow_nil _ _ _ _, words_nil⟩
      · obtain ⟨b, off, rfl, hb, hc, hx⟩ := HT.out hm0
        obtain ⟨j, rfl⟩ : ∃ j, m = j + 1 := ⟨m - 1, by omega⟩
        rw [Nat.add_sub_cancel] at hx
        have hci := hc j (by omega)
        rw [hx] at hci
        have HC := Lib.hid hc
        clear hc hx hloop
        go_wp2
        go_loopw [4, 5] (fun v i wr => ∃ (k : Nat) (o : List Nat), k ≤ j + 1 ∧ i = .int .i64 (k : Int) ∧ o.length = (k + 63) / 64 ∧ val o = bval (bl.take k) ∧ Own wr w.heap.size v o ∧ Below w.heap.size w wr) (fun _ i _ => j + 1 - (intOf i).toNat)
        case atStart => exact ⟨0, [], by omega, rfl, rfl, by simp [val, bval], ⟨World.ownsRow_nil _ _ _ _, words_nil⟩, Below.refl _ _⟩
        case round =>
          obtain ⟨k, o, hk, rfl, hlen, hval, hown, hB⟩ := hrel
          by_cases hlt : k < j + 1
          · have hck : wr.cell? ⟨b, off + k, none⟩ = some (i64n (lim bl k)) := (hB.cell (p := ⟨b, off + k, none⟩) hb).trans (HC.out k (by omega))
            obtain ⟨q, hq⟩ : ∃ q, k / 64 = q := ⟨_, rfl⟩
            obtain ⟨r, hr⟩ : ∃ r, k % 64 = r := ⟨_, rfl⟩
            have e1 : ((k : Nat) : Int) / 64 = (q : Int) := by omega
            have e2 : ((k : Nat) : Int) % 64 = (r : Int) := by omega
            have hr1 : (r : Int) < 64 := by omega
            have hq1 : (q : Int) ≤ 1000000 := by omega
            have hbit : lim bl k = 1 ∨ lim bl k = 0 := by have := HR.out.bits.get k; omega
            rcases hbit with hxx | hxx
            · have hx1 := Lib.hid hxx
              clear hxx
              by_cases h64 : r = 0
              · skip
                have ht64 : (((r : Nat) : Int) == 0) = true := by simp; omega
                have hnew := Lib.hid (cell_one_new wr (u64 0) 63)
                have hown0 := hown.below ((Below.refl _ wr).alloc (Nat.le_refl _) (.cells #[u64 0] 63))
                have HO0 := Lib.hid hown0
                have hol : o.length ≤ 20000 := by omega
                have hlen2 : (o ++ [0]).length = q + 1 := by rw [List.length_append, hlen]; simp; omega
                have hval2 : val (o ++ [0]) = bval (bl.take k) := by rw [val_snoc_zero, hval]
                have HV := Lib.hid hval2
                have HLN := Lib.hid hlen2
                have hblk := own_block hown
                have HBK := Lib.hid hblk
                have HCK := Lib.hid hck
                have HQ := Lib.hid hq
                have HRR := Lib.hid hr
                clear hown0 hval hlen hown hlen2 hval2 hblk hck hq hr h64
                go_wp2_with (at_builtin; refine wpList_append_own _ rfl _ _ 23 rfl w.heap.size 63 i0 _ 1 8 Tryz.underlying23 hi0 hz0 hz1 hz2 rfl (by decide) _ _ _ rfl HO0.out.1 ⟨wr.heap.size, 0, none⟩ 1 1 [u64 0] rfl rfl hnew.out (by simp [Value.oneCell']) (by simp only [maxLen]; omega) (by omega) (by have := hB.size; simp; omega) ?_; intro v' w1 hown1 hgrow1 _; have hB1 : Below w.heap.size w w1 := (hB.alloc hB.size _).grown hgrow1 (by rw [World.size_alloc]; have := hB.size; omega) HBK.out; have hO1 : Own w1 w.heap.size v' (o ++ [0]) := ⟨by rw [List.length_append, List.map_append]; exact hown1, words_append HO0.out.2 (words_cons B64_pos words_nil)⟩; obtain ⟨g, c3, rfl, hg, hglt⟩ := own_form hO1 (by simp); rw [HLN.out] at hO1; have hcu := (own_cell hO1 (i := q) (by omega)).1; have hfu := (own_cell hO1 (i := q) (by omega)).2; have hckk : w1.cell? ⟨b, off + k, none⟩ = some (i64n (lim bl k)) := (hB1.cell (p := ⟨b, off + k, none⟩) hb).trans (HC.out k (by omega)); rw [hx1.out] at hckk; have HO1 := Lib.hid hO1; rw [HLN.out]; clear hO1 hown1)
                have hst := from_step HO1.out.2 HR.out.bits (by rw [HR.out.len]; omega) HV.out (by rw [HLN.out, HQ.out]; omega) hx1.out
                rw [HQ.out, HRR.out] at hst
                have HST := Lib.hid hst
                clear hst
                go_region
                rw [add_word _ _ HST.out.1]
                go_wp2
                go_roundw
                case rel =>
                  refine ⟨k + 1, _, by omega, by go_num, ?_, HST.out.2, ?_, (hB1.setCell (p := ⟨g, q, none⟩) hg _).drew⟩
                  · have := HQ.out
                    rw [List.length_set, HLN.out]; omega
                  · exact (own_set HO1.out (by omega) HST.out.1).below (below_drewN (Below.refl _ _) 1)
                case measure => simp [intOf]; omega
              · skip
                have ht64 : (((r : Nat) : Int) == 0) = false := by simp; omega
                have hlen2 : o.length = q + 1 := by rw [hlen]; omega
                obtain ⟨g, c3, rfl, hg, hglt⟩ := own_form hown (by intro e; rw [e] at hlen2; simp at hlen2)
                rw [hlen2] at hown
                have hcu := (own_cell hown (i := q) (by omega)).1
                have hfu := (own_cell hown (i := q) (by omega)).2
                have HV := Lib.hid hval
                have HLN := Lib.hid hlen2
                have HO1 := Lib.hid hown
                have hckk := hck
                rw [hx1.out] at hckk
                rw [hlen2]
                have HQ := Lib.hid hq
                have HRR := Lib.hid hr
                have hB1 := hB
                clear hval hlen hown hlen2 hck hq hr h64
                go_wp2
                have hst := from_step HO1.out.2 HR.out.bits (by rw [HR.out.len]; omega) HV.out (by rw [HLN.out, HQ.out]; omega) hx1.out
                rw [HQ.out, HRR.out] at hst
                have HST := Lib.hid hst
                clear hst
                go_region
                rw [add_word _ _ HST.out.1]
                go_wp2
                go_roundw
                case rel =>
                  refine ⟨k + 1, _, by omega, by go_num, ?_, HST.out.2, ?_, (hB1.setCell (p := ⟨g, q, none⟩) hg _).drew⟩
                  · have := HQ.out
                    rw [List.length_set, HLN.out]; omega
                  · exact (own_set HO1.out (by omega) HST.out.1).below (below_drewN (Below.refl _ _) 1)
                case measure => simp [intOf]; omega
            · have hx1 := Lib.hid hxx
              clear hxx
              by_cases h64 : r = 0
              · skip
                have ht64 : (((r : Nat) : Int) == 0) = true := by simp; omega
                have hnew := Lib.hid (cell_one_new wr (u64 0) 63)
                have hown0 := hown.below ((Below.refl _ wr).alloc (Nat.le_refl _) (.cells #[u64 0] 63))
                have HO0 := Lib.hid hown0
                have hol : o.length ≤ 20000 := by omega
                have hlen2 : (o ++ [0]).length = q + 1 := by rw [List.length_append, hlen]; simp; omega
                have hval2 : val (o ++ [0]) = bval (bl.take k) := by rw [val_snoc_zero, hval]
                have HV := Lib.hid hval2
                have HLN := Lib.hid hlen2
                have hblk := own_block hown
                have HBK := Lib.hid hblk
                have HCK := Lib.hid hck
                have HQ := Lib.hid hq
                have HRR := Lib.hid hr
                clear hown0 hval hlen hown hlen2 hval2 hblk hck hq hr h64
                go_wp2_with (at_builtin; refine wpList_append_own _ rfl _ _ 23 rfl w.heap.size 63 i0 _ 1 8 Tryz.underlying23 hi0 hz0 hz1 hz2 rfl (by decide) _ _ _ rfl HO0.out.1 ⟨wr.heap.size, 0, none⟩ 1 1 [u64 0] rfl rfl hnew.out (by simp [Value.oneCell']) (by simp only [maxLen]; omega) (by omega) (by have := hB.size; simp; omega) ?_; intro v' w1 hown1 hgrow1 _; have hB1 : Below w.heap.size w w1 := (hB.alloc hB.size _).grown hgrow1 (by rw [World.size_alloc]; have := hB.size; omega) HBK.out; have hO1 : Own w1 w.heap.size v' (o ++ [0]) := ⟨by rw [List.length_append, List.map_append]; exact hown1, words_append HO0.out.2 (words_cons B64_pos words_nil)⟩; obtain ⟨g, c3, rfl, hg, hglt⟩ := own_form hO1 (by simp); rw [HLN.out] at hO1; have hcu := (own_cell hO1 (i := q) (by omega)).1; have hfu := (own_cell hO1 (i := q) (by omega)).2; have hckk : w1.cell? ⟨b, off + k, none⟩ = some (i64n (lim bl k)) := (hB1.cell (p := ⟨b, off + k, none⟩) hb).trans (HC.out k (by omega)); rw [hx1.out] at hckk; have HO1 := Lib.hid hO1; rw [HLN.out]; clear hO1 hown1)
                go_roundw
                case rel =>
                  refine ⟨k + 1, _, by omega, by go_num, ?_, ?_, HO1.out, hB1⟩
                  · have := HQ.out
                    rw [HLN.out]; omega
                  · rw [bval_take_succ, hx1.out, Nat.mul_zero, Nat.add_zero]; exact HV.out
                case measure => simp [intOf]; omega
              · skip
                have ht64 : (((r : Nat) : Int) == 0) = false := by simp; omega
                have hlen2 : o.length = q + 1 := by rw [hlen]; omega
                obtain ⟨g, c3, rfl, hg, hglt⟩ := own_form hown (by intro e; rw [e] at hlen2; simp at hlen2)
                rw [hlen2] at hown
                have hcu := (own_cell hown (i := q) (by omega)).1
                have hfu := (own_cell hown (i := q) (by omega)).2
                have HV := Lib.hid hval
                have HLN := Lib.hid hlen2
                have HO1 := Lib.hid hown
                have hckk := hck
                rw [hx1.out] at hckk
                rw [hlen2]
                have HQ := Lib.hid hq
                have HRR := Lib.hid hr
                have hB1 := hB
                clear hval hlen hown hlen2 hck hq hr h64
                go_wp2
                go_roundw
                case rel =>
                  refine ⟨k + 1, _, by omega, by go_num, ?_, ?_, HO1.out, hB1⟩
                  · have := HQ.out
                    rw [HLN.out]; omega
                  · rw [bval_take_succ, hx1.out, Nat.mul_zero, Nat.add_zero]; exact HV.out
                case measure => simp [intOf]; omega
          · have hkj : k = j + 1 := by omega
            have ho2 : o = limbs (bval bl) := HF.out o hown.2 (by rw [hlen, hkj]) (by rw [hval, hkj])
            obtain ⟨A', c', rfl⟩ := own_shape hown
            have HO := Lib.hid hown
            have HE := Lib.hid ho2
            have hkj2 : ¬ (k : Int) < (j : Int) + 1 := by omega
            clear hown ho2 hlen hval hkj
            go_wp2
            go_ret
            refine ⟨A', o.length, c', rfl, ?_, hB⟩
            have := HO.out
            rw [← HE.out]
            exact this
end Go.Proofs.YtbldimplddiheaaGreatDoor

namespace Go.Proofs.YtbldimplddiheaaGreatDoor
open Go.RowKit Go.Shelf
set_option linter.unusedVariables false
set_option linter.unusedSimpArgs false

theorem below_alloc_then {w w1 w2 : World} {o : Obj} (h : Below w.heap.size w w1) (k : Below (w1.alloc o).heap.size (w1.alloc o) w2) : Below w.heap.size w w2 := below_then (h.alloc h.size o) k
def half : Nat := 9223372036854775808
theorem half_cast : ((half : Nat) : Int) = 9223372036854775808 := rfl
theorem half_lt : half < B64 := by unfold half; rw [B64_eq]; omega
theorem val_01' : val [0, 1] = B64 := by simp [val]
theorem names_long : blen (val [0, 1]) = 65 := by
  rw [val_01']; exact blen_eq (k := 64) (by rw [B64_eq]; omega) (by rw [B64_eq]; omega)
theorem names_long0 : blen (val []) = 0 := rfl
theorem names_up : limbs (val [3] * 2 ^ 63) = [half, 1] := by
  have e : val [3] * 2 ^ 63 = val [half, 1] := by simp [val, B64_eq, half]
  rw [e]; exact limbs_val (words_cons half_lt (words_cons B64_gt words_nil)) rfl
theorem names_down : limbs (val [0, 1] / 2 ^ 60) = [16] := by
  have e : val [0, 1] / 2 ^ 60 = val [16] := by rw [val_01', B64_eq]; simp [val]
  rw [e]; exact limbs_val (words_cons (small_lt (by omega)) words_nil) rfl
theorem names_bit2 : nbit (val [5]) 2 = 1 := by simp [val, nbit]
theorem names_bit99 : nbit (val [5]) 99 = 0 := by simp [val, nbit]
theorem names_bad : bad [[0]] = 8 := rfl

end Go.Proofs.YtbldimplddiheaaGreatDoor

namespace Go.Proofs.YtbldimplddiheaaGreatDoor
open Go.RowKit Go.Shelf
set_option linter.unusedVariables false
set_option linter.unusedSimpArgs false

theorem half_no {x : Nat} (h : ¬ x < half) : decide (((x : Nat) : Int) < 9223372036854775808) = false := by
  unfold half at h
  exact decide_eq_false (by omega)
theorem half_yes {x : Nat} (h : x < half) : decide (((x : Nat) : Int) < 9223372036854775808) = true := by
  unfold half at h
  exact decide_eq_true (by omega)
theorem mod_succ_bit (v k : Nat) : v % 2 ^ (k + 1) = v % 2 ^ k + 2 ^ k * nbit v k := by
  rw [Nat.pow_succ, Nat.mod_mul]; rfl
theorem sum_step {b p x y c a1 a2 : Nat} (h : b + p * c = a1 + a2) : (b + p * ((x + y + c) % 2)) + p * 2 * ((x + y + c) / 2) = (a1 + p * x) + (a2 + p * y) := by
  have e := Nat.mod_add_div (x + y + c) 2
  have e2 : p * ((x + y + c) % 2 + 2 * ((x + y + c) / 2)) = p * (x + y + c) := by rw [e]
  simp only [Nat.mul_add] at e2
  rw [Nat.mul_assoc]
  omega
theorem owni_block {w : World} {B : Nat} {v : Value} {o : List Nat} (h : OwnI w B v o) : ∀ k, v.ownBlock = some k → B ≤ k := fun k e => (h.1.lt k e).1

section
variable (A A2 : Option Addr) (na ca nb cb : Nat) (a b : List Nat) (w : World)

set_option maxRecDepth 100000 in
set_option maxHeartbeats 1000000 in
theorem rSum_bits (hra : Rd w A na a) (hrb : Rd w A2 nb b) (hna : na ≤ 1000) (hnb : nb ≤ 1000) (hs : ¬ (na ≤ 1 ∧ nb ≤ 1 ∧ lim a 0 < half ∧ lim b 0 < half)) :
    Calls Tryz.prog 99 #[.slice A na ca, .slice A2 nb cb] w fun e w' => ∃ A' k c, e = .returned (.slice A' k c) ∧ Own w' w.heap.size (.slice A' k c) (limbs (val a + val b)) ∧ Below w.heap.size w w' := by
  obtain ⟨i0, hi0, hz0, hz1, hz2⟩ := info_parts int_info
  obtain ⟨M, hM⟩ : ∃ M, 64 * max na nb = M := ⟨_, rfl⟩
  have hM1 : M ≤ 64000 := by omega
  have hva : val a < 2 ^ M := by rw [← hM]; exact val_lt_bits hra.words (by rw [hra.len]; omega)
  have hvb : val b < 2 ^ M := by rw [← hM]; exact val_lt_bits hrb.words (by rw [hrb.len]; omega)
  have HM := Lib.hid hM
  have HVA := Lib.hid hva
  have HVB := Lib.hid hvb
  obtain ⟨x0, hx0⟩ : ∃ x, lim a 0 = x := ⟨_, rfl⟩
  obtain ⟨y0, hy0⟩ : ∃ y, lim b 0 = y := ⟨_, rfl⟩
  rw [hx0, hy0] at hs
  have HX0 := Lib.hid hx0
  have HY0 := Lib.hid hy0
  clear hM hva hvb hx0 hy0
  have hcase : (decide (na ≤ 1 ∧ nb ≤ 1) = false) ∨ (decide (na ≤ 1 ∧ nb ≤ 1) = true ∧ decide (((x0 : Nat) : Int) < 9223372036854775808) = false) ∨
      (decide (na ≤ 1 ∧ nb ≤ 1) = true ∧ decide (((x0 : Nat) : Int) < 9223372036854775808) = true ∧ decide (((y0 : Nat) : Int) < 9223372036854775808) = false) := by
    by_cases h1 : na ≤ 1 ∧ nb ≤ 1
    · by_cases h2 : x0 < half
      · exact .inr (.inr ⟨decide_eq_true h1, half_yes h2, half_no fun h3 => hs ⟨h1.1, h1.2, h2, h3⟩⟩)
      · exact .inr (.inl ⟨decide_eq_true h1, half_no h2⟩)
    · exact .inl (decide_eq_false h1)
  clear hs
  rcases hcase with hc | ⟨hc, h2⟩ | ⟨hc, h2, h3⟩
  all_goals
    have HC := Lib.hid hc
    clear hc
    go_enter Tryz.func99, Tryz.ntmps99
    go_wp2_with (first
      | (go_at_call 126; refine (rShort_any A A2 na ca nb cb _ (by omega) (by omega)).mono ?_; rw [HC.out]; rintro e w1 ⟨rfl, rfl⟩)
      | (go_at_call_of 127 (Value.slice A na ca); refine (rOne_any A na ca a _ hra (by omega)).mono ?_; rw [HX0.out]; rintro e w1 ⟨rfl, rfl⟩)
      | (go_at_call_of 127 (Value.slice A2 nb cb); refine (rOne_any A2 nb cb b _ hrb (by omega)).mono ?_; rw [HY0.out]; rintro e w1 ⟨rfl, rfl⟩))
    go_loopw [5, 6, 7] (fun v c i wr => ∃ (k cy : Nat) (bl : List Nat), k ≤ M + 1 ∧ i = .int .i64 (k : Int) ∧ c = .int .i64 (cy : Int) ∧ cy ≤ 1 ∧ bl.length = k ∧ bval bl + 2 ^ k * cy = val a % 2 ^ k + val b % 2 ^ k ∧ OwnI wr w.heap.size v bl ∧ Below w.heap.size w wr) (fun _ _ i _ => M + 1 - (intOf i).toNat)
    case atStart => exact ⟨0, 0, [], by omega, rfl, rfl, by omega, rfl, by simp [bval, Nat.mod_one], ⟨World.ownsRow_nil _ _ _ _, fun y hy => by cases hy⟩, Below.refl _ _⟩
    case round =>
      obtain ⟨k, cy, bl, hk, rfl, rfl, hcy, hlen, hval, hown, hB⟩ := hrel
      try clear h2
      try clear h3
      have hra2 := hra.below hB
      have hrb2 := hrb.below hB
      by_cases hlt : k < M + 1
      · obtain ⟨x, hx⟩ : ∃ x, nbit (val a) k = x := ⟨_, rfl⟩
        obtain ⟨y, hy⟩ : ∃ y, nbit (val b) k = y := ⟨_, rfl⟩
        have hx1 : x ≤ 1 := by have := nbit_two (val a) k; omega
        have hy1 : y ≤ 1 := by have := nbit_two (val b) k; omega
        have hst := sum_step (x := x) (y := y) (p := 2 ^ k) hval
        have HX := Lib.hid hx
        have HY := Lib.hid hy
        have HST := Lib.hid hst
        have HLN := Lib.hid hlen
        have HRA := Lib.hid hra2
        have HRB := Lib.hid hrb2
        have hown0 := hown.below ((Below.refl _ wr).alloc (Nat.le_refl _) (.cells #[.int .i64 (((x : Int) + y + cy) % 2)] 3))
        have HO0 := Lib.hid hown0
        have hblk := owni_block hown
        have HBK := Lib.hid hblk
        have hnew := Lib.hid (cell_one_new wr (.int .i64 (((x : Int) + y + cy) % 2)) 3)
        have hol : bl.length ≤ 100000 := by omega
        clear hx hy hst hval hlen hra2 hrb2 hown hown0 hblk
        go_wp2_with fail
        refine (rMany_any A A2 na ca nb cb _ (by omega) (by omega)).mono ?_
        rw [HM.out]
        rintro e w1 ⟨rfl, rfl⟩
        go_wp2_with fail
        refine (rAt_any A na ca a _ k HRA.out (by omega) (by omega)).mono ?_
        rw [HX.out]
        rintro e w1 ⟨rfl, rfl⟩
        go_wp2_with fail
        refine (rAt_any A2 nb cb b _ k HRB.out (by omega) (by omega)).mono ?_
        rw [HY.out]
        rintro e w1 ⟨rfl, rfl⟩
        go_wp2_with (at_builtin; go_loud (refine wpList_append_own _ rfl _ _ 131 rfl w.heap.size 3 i0 _ 1 8 Tryz.underlying131 hi0 hz0 hz1 hz2 rfl (by decide) _ _ _ rfl HO0.out.1 ⟨wr.heap.size, 0, none⟩ 1 1 [.int .i64 (((x : Int) + y + cy) % 2)] rfl rfl hnew.out (by simp [Value.oneCell']) (by simp only [maxLen]; omega) (by omega) (by have := hB.size; simp; omega) ?_); intro v' w3 hown1 hgrow1 _)
        go_roundw
        case rel =>
          have hb3 : Below w.heap.size w w3 := (hB.alloc hB.size _).grown hgrow1 (by rw [World.size_alloc]; have := hB.size; omega) HBK.out
          refine ⟨k + 1, (x + y + cy) / 2, bl ++ [(x + y + cy) % 2], by omega, by go_num, by go_num, by omega, by simp [HLN.out], ?_, ⟨?_, bits_append HO0.out.2 (bits_one (by omega))⟩, hb3⟩
          · rw [bval_snoc, HLN.out, mod_succ_bit, mod_succ_bit, HX.out, HY.out, Nat.pow_succ]
            exact HST.out
          · rw [List.length_append, List.map_append]
            have e : [(x + y + cy) % 2].map i64n = [Value.int .i64 (((x : Int) + y + cy) % 2)] := by simp
            rw [e]
            exact hown1
        case measure => simp [intOf]; omega
      · have hkM : k = M + 1 := by omega
        have hfin : bval bl = val a + val b := by
          have h1 := HVA.out
          have h2 := HVB.out
          have hp : 2 ^ (M + 1) = 2 * 2 ^ M := by rw [Nat.pow_succ, Nat.mul_comm]
          rw [hkM, Nat.mod_eq_of_lt (by omega), Nat.mod_eq_of_lt (by omega)] at hval
          have h3 := bval_lt hown.2
          rw [hlen, hkM] at h3
          rcases (by omega : cy = 0 ∨ cy = 1) with rfl | rfl
          · simpa using hval
          · omega
        obtain ⟨A', c', hv, hrd, _, _⟩ := hown.form
        subst hv
        have HRD := Lib.hid hrd
        have HF := Lib.hid hfin
        have hge : ¬ ((k : Int) ≤ (M : Int)) := by omega
        have hbl : bl.length ≤ 1000000 := by omega
        clear hval hown hlen hkM hrd hfin
        go_wp2_with fail
        refine (rMany_any A A2 na ca nb cb _ (by omega) (by omega)).mono ?_
        rw [HM.out]
        rintro e w1 ⟨rfl, rfl⟩
        go_wp2_with fail
        refine (from_any A' bl.length c' bl _ HRD.out hbl).mono ?_
        rintro e w4 ⟨A4, k4, c4, rfl, ho4, hb4⟩
        rw [HF.out] at ho4
        go_wp2_with fail
        go_ret
        exact ⟨A4, k4, c4, rfl, own_mono ho4 hB.size, below_then hB hb4⟩
end
end Go.Proofs.YtbldimplddiheaaGreatDoor

namespace Go.Proofs.YtbldimplddiheaaGreatDoor
open Go.RowKit Go.Shelf
set_option linter.unusedVariables false
set_option linter.unusedSimpArgs false

theorem val_short {a : List Nat} (h : a.length ≤ 1) : val a = lim a 0 := by
  match a, h with
  | [], _ => rfl
  | [x], _ => simp [val, lim]
theorem rest_digit {x y c : Nat} (hx : x ≤ 1) (hy : y ≤ 1) (hc : c ≤ 1) : ∃ z d : Nat, z ≤ 1 ∧ d ≤ 1 ∧ x + 2 * d = z + y + c ∧ ((x : Int) - y - c < 0 → d = 1 ∧ (z : Int) = (x : Int) - y - c + 2) ∧ (¬ (x : Int) - y - c < 0 → d = 0 ∧ (z : Int) = (x : Int) - y - c) := by
  by_cases h : (x : Int) - y - c < 0
  · exact ⟨x + 2 - y - c, 1, by omega, by omega, by omega, fun _ => ⟨rfl, by omega⟩, fun h2 => absurd h h2⟩
  · exact ⟨x - y - c, 0, by omega, by omega, by omega, fun h2 => absurd h2 h, fun _ => ⟨rfl, by omega⟩⟩
theorem rest_step {j a b p x y z c d : Nat} (h : j + b = a + p * c) (hz : x + 2 * d = z + y + c) : (j + p * z) + (b + p * y) = (a + p * x) + p * 2 * d := by
  have e2 : p * (x + 2 * d) = p * (z + y + c) := by rw [hz]
  simp only [Nat.mul_add] at e2
  rw [Nat.mul_assoc]
  omega

section
variable (A A2 : Option Addr) (na ca nb cb : Nat) (a b : List Nat) (w : World)

set_option maxRecDepth 100000 in
set_option maxHeartbeats 1000000 in
theorem rSum_short (hra : Rd w A na a) (hrb : Rd w A2 nb b) (h1 : na ≤ 1) (h2 : nb ≤ 1) (hx : lim a 0 < half) (hy : lim b 0 < half) :
    Calls Tryz.prog 99 #[.slice A na ca, .slice A2 nb cb] w fun e w' => ∃ A' k c, e = .returned (.slice A' k c) ∧ Own w' w.heap.size (.slice A' k c) (limbs (val a + val b)) ∧ Below w.heap.size w w' := by
  have hs : val a + val b = lim a 0 + lim b 0 := by rw [val_short (by rw [hra.len]; exact h1), val_short (by rw [hrb.len]; exact h2)]
  have hsum : lim a 0 + lim b 0 < B64 := by unfold half at hx hy; rw [B64_eq]; omega
  obtain ⟨x0, hx0⟩ : ∃ x, lim a 0 = x := ⟨_, rfl⟩
  obtain ⟨y0, hy0⟩ : ∃ y, lim b 0 = y := ⟨_, rfl⟩
  rw [hx0, hy0] at hsum hs
  rw [hx0] at hx
  rw [hy0] at hy
  have d1 := half_yes hx
  have d2 := half_yes hy
  have hw : IntKind.u64.wrap ((x0 : Int) + (y0 : Int)) = ((x0 + y0 : Nat) : Int) := by
    rw [← Int.natCast_add, u64_wrap_nat, Nat.mod_eq_of_lt hsum]
  have HW := Lib.hid hw
  have HX0 := Lib.hid hx0
  have HY0 := Lib.hid hy0
  have HS := Lib.hid hs
  have HSUM := Lib.hid hsum
  have HC := Lib.hid (decide_eq_true (show na ≤ 1 ∧ nb ≤ 1 from ⟨h1, h2⟩))
  clear hx hy hw hx0 hy0 hs hsum
  go_enter Tryz.func99, Tryz.ntmps99
  go_wp2_with (first
    | (go_at_call 126; refine (rShort_any A A2 na ca nb cb _ (by omega) (by omega)).mono ?_; rw [HC.out]; rintro e w1 ⟨rfl, rfl⟩)
    | (go_at_call_of 127 (Value.slice A na ca); refine (rOne_any A na ca a _ hra (by omega)).mono ?_; rw [HX0.out]; rintro e w1 ⟨rfl, rfl⟩)
    | (go_at_call_of 127 (Value.slice A2 nb cb); refine (rOne_any A2 nb cb b _ hrb (by omega)).mono ?_; rw [HY0.out]; rintro e w1 ⟨rfl, rfl⟩))
  clear d1 d2
  try rw [HW.out]
  refine (rOf_any w (x0 + y0) HSUM.out).mono ?_
  rintro e w1 ⟨A1, k1, c1, rfl, ho, hb⟩
  go_wp2_with fail
  go_ret
  exact ⟨A1, k1, c1, rfl, by rw [HS.out]; exact ho, hb⟩

set_option maxRecDepth 100000 in
set_option maxHeartbeats 1000000 in
theorem rRest_short (hra : Rd w A na a) (hrb : Rd w A2 nb b) (h1 : na ≤ 1) (h2 : nb ≤ 1) (hle : val b ≤ val a) :
    Calls Tryz.prog 118 #[.slice A na ca, .slice A2 nb cb] w fun e w' => ∃ A' k c, e = .returned (.slice A' k c) ∧ Own w' w.heap.size (.slice A' k c) (limbs (val a - val b)) ∧ Below w.heap.size w w' := by
  have hs : val a - val b = lim a 0 - lim b 0 := by rw [val_short (by rw [hra.len]; exact h1), val_short (by rw [hrb.len]; exact h2)]
  rw [val_short (a := a) (by rw [hra.len]; exact h1), val_short (a := b) (by rw [hrb.len]; exact h2)] at hle
  have hxw := hra.words.get 0
  obtain ⟨x0, hx0⟩ : ∃ x, lim a 0 = x := ⟨_, rfl⟩
  obtain ⟨y0, hy0⟩ : ∃ y, lim b 0 = y := ⟨_, rfl⟩
  rw [hx0, hy0] at hle hs
  rw [hx0] at hxw
  have hsum : x0 - y0 < B64 := by omega
  have hw : IntKind.u64.wrap ((x0 : Int) - (y0 : Int)) = ((x0 - y0 : Nat) : Int) := by
    rw [← Int.natCast_sub hle, u64_wrap_nat, Nat.mod_eq_of_lt hsum]
  have HW := Lib.hid hw
  have HX0 := Lib.hid hx0
  have HY0 := Lib.hid hy0
  have HS := Lib.hid hs
  have HSUM := Lib.hid hsum
  have HLE := Lib.hid hle
  have HC := Lib.hid (decide_eq_true (show na ≤ 1 ∧ nb ≤ 1 from ⟨h1, h2⟩))
  clear hw hx0 hy0 hs hsum hle hxw
  go_enter Tryz.func118, Tryz.ntmps118
  go_wp2_with (first
    | (go_at_call 126; refine (rShort_any A A2 na ca nb cb _ (by omega) (by omega)).mono ?_; rw [HC.out]; rintro e w1 ⟨rfl, rfl⟩)
    | (go_at_call_of 127 (Value.slice A na ca); refine (rOne_any A na ca a _ hra (by omega)).mono ?_; rw [HX0.out]; rintro e w1 ⟨rfl, rfl⟩)
    | (go_at_call_of 127 (Value.slice A2 nb cb); refine (rOne_any A2 nb cb b _ hrb (by omega)).mono ?_; rw [HY0.out]; rintro e w1 ⟨rfl, rfl⟩))
  first | rw [HW.out] | rw [← Int.natCast_sub HLE.out]
  refine (rOf_any w (x0 - y0) HSUM.out).mono ?_
  rintro e w1 ⟨A1, k1, c1, rfl, ho, hb⟩
  go_wp2_with fail
  go_ret
  exact ⟨A1, k1, c1, rfl, by rw [HS.out]; exact ho, hb⟩

set_option maxRecDepth 100000 in
set_option maxHeartbeats 1000000 in
theorem rRest_bits (hra : Rd w A na a) (hrb : Rd w A2 nb b) (hna : na ≤ 1000) (hnb : nb ≤ 1000) (hs : ¬ (na ≤ 1 ∧ nb ≤ 1)) (hle : val b ≤ val a) :
    Calls Tryz.prog 118 #[.slice A na ca, .slice A2 nb cb] w fun e w' => ∃ A' k c, e = .returned (.slice A' k c) ∧ Own w' w.heap.size (.slice A' k c) (limbs (val a - val b)) ∧ Below w.heap.size w w' := by
  obtain ⟨i0, hi0, hz0, hz1, hz2⟩ := info_parts int_info
  obtain ⟨M, hM⟩ : ∃ M, 64 * max na nb = M := ⟨_, rfl⟩
  have hM1 : M ≤ 64000 := by omega
  have hva : val a < 2 ^ M := by rw [← hM]; exact val_lt_bits hra.words (by rw [hra.len]; omega)
  have hvb : val b < 2 ^ M := by rw [← hM]; exact val_lt_bits hrb.words (by rw [hrb.len]; omega)
  have HM := Lib.hid hM
  have HVA := Lib.hid hva
  have HVB := Lib.hid hvb
  have HLE := Lib.hid hle
  have HC := Lib.hid (decide_eq_false hs)
  clear hM hva hvb hle hs
  go_enter Tryz.func118, Tryz.ntmps118
  go_wp2_with (go_at_call 126; refine (rShort_any A A2 na ca nb cb _ (by omega) (by omega)).mono ?_; rw [HC.out]; rintro e w1 ⟨rfl, rfl⟩)
  go_loopw [5, 6, 7] (fun v c i wr => ∃ (k cy : Nat) (bl : List Nat), k ≤ M ∧ i = .int .i64 (k : Int) ∧ c = .int .i64 (cy : Int) ∧ cy ≤ 1 ∧ bl.length = k ∧ bval bl + val b % 2 ^ k = val a % 2 ^ k + 2 ^ k * cy ∧ OwnI wr w.heap.size v bl ∧ Below w.heap.size w wr) (fun _ _ i _ => M - (intOf i).toNat)
  case atStart => exact ⟨0, 0, [], by omega, rfl, rfl, by omega, rfl, by simp [bval, Nat.mod_one], ⟨World.ownsRow_nil _ _ _ _, fun y hy => by cases hy⟩, Below.refl _ _⟩
  case round =>
    obtain ⟨k, cy, bl, hk, rfl, rfl, hcy, hlen, hval, hown, hB⟩ := hrel
    have hra2 := hra.below hB
    have hrb2 := hrb.below hB
    by_cases hlt : k < M
    · obtain ⟨x, hx⟩ : ∃ x, nbit (val a) k = x := ⟨_, rfl⟩
      obtain ⟨y, hy⟩ : ∃ y, nbit (val b) k = y := ⟨_, rfl⟩
      have hx1 : x ≤ 1 := by have := nbit_two (val a) k; omega
      have hy1 : y ≤ 1 := by have := nbit_two (val b) k; omega
      obtain ⟨z, d, hz, hd, hxz, hneg, hpos⟩ := rest_digit hx1 hy1 hcy
      have hst := rest_step (p := 2 ^ k) hval hxz
      have HX := Lib.hid hx
      have HY := Lib.hid hy
      have HST := Lib.hid hst
      have HLN := Lib.hid hlen
      have HRA := Lib.hid hra2
      have HRB := Lib.hid hrb2
      have hown0 := fun u : Value => hown.below ((Below.refl _ wr).alloc (Nat.le_refl _) (.cells #[u] 3))
      have HO0 := Lib.hid hown0
      have hblk := owni_block hown
      have HBK := Lib.hid hblk
      have hnew := Lib.hid (fun u : Value => cell_one_new wr u 3)
      have hol : bl.length ≤ 100000 := by omega
      have HNEG := Lib.hid hneg
      have HPOS := Lib.hid hpos
      clear hx hy hst hval hlen hra2 hrb2 hown hown0 hblk hneg hpos hxz
      by_cases hsgn : (x : Int) - y - cy < 0
      all_goals
        go_wp2_with fail
        refine (rMany_any A A2 na ca nb cb _ (by omega) (by omega)).mono ?_
        rw [HM.out]
        rintro e w1 ⟨rfl, rfl⟩
        go_wp2_with fail
        refine (rAt_any A na ca a _ k HRA.out (by omega) (by omega)).mono ?_
        rw [HX.out]
        rintro e w1 ⟨rfl, rfl⟩
        go_wp2_with fail
        refine (rAt_any A2 nb cb b _ k HRB.out (by omega) (by omega)).mono ?_
        rw [HY.out]
        rintro e w1 ⟨rfl, rfl⟩
        go_wp2_with (at_builtin; go_loud (refine wpList_append_own _ rfl _ _ 131 rfl w.heap.size 3 i0 _ 1 8 Tryz.underlying131 hi0 hz0 hz1 hz2 rfl (by decide) _ _ _ rfl (HO0.out _).1 ⟨wr.heap.size, 0, none⟩ 1 1 _ rfl rfl (hnew.out _) (by simp [Value.oneCell']) (by simp only [maxLen]; omega) (by omega) (by have := hB.size; simp; omega) ?_); intro v' w3 hown1 hgrow1 _)
        go_roundw
        case rel =>
          have hb3 : Below w.heap.size w w3 := (hB.alloc hB.size _).grown hgrow1 (by rw [World.size_alloc]; have := hB.size; omega) HBK.out
          refine ⟨k + 1, d, bl ++ [z], by omega, by go_num, ?_, hd, by simp [HLN.out], ?_, ⟨?_, bits_append (HO0.out undef).2 (bits_one hz)⟩, hb3⟩
          · first
              | (rw [(HNEG.out (by omega)).1]; rfl)
              | (rw [(HPOS.out (by omega)).1]; rfl)
          · rw [bval_snoc, HLN.out, mod_succ_bit, mod_succ_bit, HX.out, HY.out, Nat.pow_succ]
            exact HST.out
          · rw [List.length_append, List.map_append]
            first
              | (have e : [z].map i64n = [Value.int .i64 ((x : Int) - y - cy + 2)] := by
                   rw [← (HNEG.out (by omega)).2]; rfl
                 rw [e]
                 exact hown1)
              | (have e : [z].map i64n = [Value.int .i64 ((x : Int) - y - cy)] := by
                   rw [← (HPOS.out (by omega)).2]; rfl
                 rw [e]
                 exact hown1)
        case measure => simp [intOf]; omega
    · have hkM : k = M := by omega
      have hfin : bval bl = val a - val b := by
        have h1 := HVA.out
        have h2 := HVB.out
        have h4 := HLE.out
        rw [hkM, Nat.mod_eq_of_lt h1, Nat.mod_eq_of_lt h2] at hval
        have h3 := bval_lt hown.2
        rw [hlen, hkM] at h3
        rcases (by omega : cy = 0 ∨ cy = 1) with rfl | rfl
        · simp at hval; omega
        · simp at hval; omega
      obtain ⟨A', c', hv, hrd, _, _⟩ := hown.form
      subst hv
      have HRD := Lib.hid hrd
      have HF := Lib.hid hfin
      have hge : ¬ ((k : Int) < (M : Int)) := by omega
      have hbl : bl.length ≤ 1000000 := by omega
      clear hval hown hlen hkM hrd hfin
      go_wp2_with fail
      refine (rMany_any A A2 na ca nb cb _ (by omega) (by omega)).mono ?_
      rw [HM.out]
      rintro e w1 ⟨rfl, rfl⟩
      go_wp2_with fail
      refine (from_any A' bl.length c' bl _ HRD.out hbl).mono ?_
      rintro e w4 ⟨A4, k4, c4, rfl, ho4, hb4⟩
      rw [HF.out] at ho4
      go_wp2_with fail
      go_ret
      exact ⟨A4, k4, c4, rfl, own_mono ho4 hB.size, below_then hB hb4⟩
end
end Go.Proofs.YtbldimplddiheaaGreatDoor

namespace Go.Proofs.YtbldimplddiheaaGreatDoor
open Go.RowKit Go.Shelf
set_option linter.unusedVariables false
set_option linter.unusedSimpArgs false

theorem cmp_top {v u k : Nat} (h : v / 2 ^ (k + 1) = u / 2 ^ (k + 1)) (hne : nbit v k ≠ nbit u k) : cmp3 v u = (nbit v k : Int) - (nbit u k : Int) := by
  have e1 := div_bit v k
  have e2 := div_bit u k
  have m1 := Nat.mod_add_div v (2 ^ k)
  have m2 := Nat.mod_add_div u (2 ^ k)
  have l1 := Nat.mod_lt v (Nat.two_pow_pos k)
  have l2 := Nat.mod_lt u (Nat.two_pow_pos k)
  have b1 := nbit_two v k
  have b2 := nbit_two u k
  have h3 : v / 2 ^ k ≠ u / 2 ^ k := by omega
  have h4 : cmp3 v u = cmp3 (v / 2 ^ k) (u / 2 ^ k) := by
    rw [← cmp3_high l1 l2 h3, m1, m2]
  rw [h4]
  rcases b1 with b1 | b1 <;> rcases b2 with b2 | b2
  · exact absurd (b1.trans b2.symm) hne
  · rw [cmp3_lt (by omega), b1, b2]; rfl
  · rw [cmp3_gt (by omega), b1, b2]; rfl
  · exact absurd (b1.trans b2.symm) hne

section
variable (A A2 : Option Addr) (na ca nb cb : Nat) (a b : List Nat) (w : World)

set_option maxRecDepth 100000 in
set_option maxHeartbeats 1000000 in
theorem rCompared_short (hra : Rd w A na a) (hrb : Rd w A2 nb b) (h1 : na ≤ 1) (h2 : nb ≤ 1) (hne : lim a 0 ≠ lim b 0) :
    Calls Tryz.prog 117 #[.slice A na ca, .slice A2 nb cb] w fun e w' => e = .returned (.int .i64 (cmp3 (val a) (val b))) ∧ w = w' := by
  have hs : cmp3 (val a) (val b) = cmp3 (lim a 0) (lim b 0) := by rw [val_short (a := a) (by rw [hra.len]; exact h1), val_short (a := b) (by rw [hrb.len]; exact h2)]
  obtain ⟨x0, hx0⟩ : ∃ x, lim a 0 = x := ⟨_, rfl⟩
  obtain ⟨y0, hy0⟩ : ∃ y, lim b 0 = y := ⟨_, rfl⟩
  rw [hx0, hy0] at hne hs
  have HX0 := Lib.hid hx0
  have HY0 := Lib.hid hy0
  have HS := Lib.hid hs
  have HC := Lib.hid (decide_eq_true (show na ≤ 1 ∧ nb ≤ 1 from ⟨h1, h2⟩))
  have hb : (((x0 : Nat) : Int) != ((y0 : Nat) : Int)) = true := by simp; omega
  clear hx0 hy0 hs
  rcases Nat.lt_or_gt_of_ne hne with hlt | hgt
  · have HR := Lib.hid (cmp3_lt hlt)
    clear hne
    go_enter Tryz.func117, Tryz.ntmps117
    go_wp2_with (first
      | (go_at_call 126; refine (rShort_any A A2 na ca nb cb _ (by omega) (by omega)).mono ?_; rw [HC.out]; rintro e w1 ⟨rfl, rfl⟩)
      | (go_at_call_of 127 (Value.slice A na ca); refine (rOne_any A na ca a _ hra (by omega)).mono ?_; rw [HX0.out]; rintro e w1 ⟨rfl, rfl⟩)
      | (go_at_call_of 127 (Value.slice A2 nb cb); refine (rOne_any A2 nb cb b _ hrb (by omega)).mono ?_; rw [HY0.out]; rintro e w1 ⟨rfl, rfl⟩))
    go_ret
    exact ⟨by rw [HS.out, HR.out]; rfl, rfl⟩
  · have HR := Lib.hid (cmp3_gt hgt)
    have hnl : ¬ x0 < y0 := by omega
    clear hne
    go_enter Tryz.func117, Tryz.ntmps117
    go_wp2_with (first
      | (go_at_call 126; refine (rShort_any A A2 na ca nb cb _ (by omega) (by omega)).mono ?_; rw [HC.out]; rintro e w1 ⟨rfl, rfl⟩)
      | (go_at_call_of 127 (Value.slice A na ca); refine (rOne_any A na ca a _ hra (by omega)).mono ?_; rw [HX0.out]; rintro e w1 ⟨rfl, rfl⟩)
      | (go_at_call_of 127 (Value.slice A2 nb cb); refine (rOne_any A2 nb cb b _ hrb (by omega)).mono ?_; rw [HY0.out]; rintro e w1 ⟨rfl, rfl⟩))
    go_ret
    exact ⟨by rw [HS.out, HR.out]; rfl, rfl⟩

set_option maxRecDepth 100000 in
set_option maxHeartbeats 1000000 in
theorem rCompared_bits (hra : Rd w A na a) (hrb : Rd w A2 nb b) (hna : na ≤ 1000) (hnb : nb ≤ 1000) (hs : ¬ (na ≤ 1 ∧ nb ≤ 1) ∨ ((na ≤ 1 ∧ nb ≤ 1) ∧ lim a 0 = lim b 0)) :
    Calls Tryz.prog 117 #[.slice A na ca, .slice A2 nb cb] w fun e w' => e = .returned (.int .i64 (cmp3 (val a) (val b))) ∧ w = w' := by
  obtain ⟨M, hM⟩ : ∃ M, 64 * max na nb = M := ⟨_, rfl⟩
  have hM1 : M ≤ 64000 := by omega
  have hva : val a < 2 ^ M := by rw [← hM]; exact val_lt_bits hra.words (by rw [hra.len]; omega)
  have hvb : val b < 2 ^ M := by rw [← hM]; exact val_lt_bits hrb.words (by rw [hrb.len]; omega)
  have HM := Lib.hid hM
  have HVA := Lib.hid hva
  have HVB := Lib.hid hvb
  obtain ⟨x0, hx0⟩ : ∃ x, lim a 0 = x := ⟨_, rfl⟩
  obtain ⟨y0, hy0⟩ : ∃ y, lim b 0 = y := ⟨_, rfl⟩
  rw [hx0, hy0] at hs
  have HX0 := Lib.hid hx0
  have HY0 := Lib.hid hy0
  have hcase : decide (na ≤ 1 ∧ nb ≤ 1) = false ∨ (decide (na ≤ 1 ∧ nb ≤ 1) = true ∧ x0 = y0) := by
    rcases hs with h | ⟨h, e⟩
    · exact .inl (decide_eq_false h)
    · exact .inr ⟨decide_eq_true h, e⟩
  clear hM hva hvb hx0 hy0 hs
  rcases hcase with hc | ⟨hc, rfl⟩
  all_goals
    have HC := Lib.hid hc
    clear hc
    go_enter Tryz.func117, Tryz.ntmps117
    go_wp2_with (first
      | (go_at_call 126; refine (rShort_any A A2 na ca nb cb _ (by omega) (by omega)).mono ?_; rw [HC.out]; rintro e w1 ⟨rfl, rfl⟩)
      | (go_at_call_of 127 (Value.slice A na ca); refine (rOne_any A na ca a _ hra (by omega)).mono ?_; rw [HX0.out]; rintro e w1 ⟨rfl, rfl⟩)
      | (go_at_call_of 127 (Value.slice A2 nb cb); refine (rOne_any A2 nb cb b _ hrb (by omega)).mono ?_; rw [HY0.out]; rintro e w1 ⟨rfl, rfl⟩)
      | (go_at_call 128; refine (rMany_any A A2 na ca nb cb _ (by omega) (by omega)).mono ?_; rw [HM.out]; rintro e w1 ⟨rfl, rfl⟩))
    go_loop [5] (fun i => ∃ k : Nat, k ≤ M ∧ i = .int .i64 ((k : Int) - 1) ∧ val a / 2 ^ k = val b / 2 ^ k) (fun i => (intOf i + 1).toNat)
    case atStart => exact ⟨M, Nat.le_refl _, rfl, by rw [Nat.div_eq_of_lt HVA.out, Nat.div_eq_of_lt HVB.out]⟩
    case round =>
      obtain ⟨k, hk, rfl, hdiv⟩ := hrel
      by_cases h0 : k = 0
      · subst h0
        have hv : cmp3 (val a) (val b) = 0 := by
          simp at hdiv
          rw [hdiv, cmp3_self]
        have HV := Lib.hid hv
        clear hdiv hv
        go_wp2
        go_ret
        exact ⟨by rw [HV.out]; rfl, rfl⟩
      · obtain ⟨j, rfl⟩ : ∃ j, k = j + 1 := ⟨k - 1, by omega⟩
        obtain ⟨x, hx⟩ : ∃ x, nbit (val a) j = x := ⟨_, rfl⟩
        obtain ⟨y, hy⟩ : ∃ y, nbit (val b) j = y := ⟨_, rfl⟩
        have hx1 : x ≤ 1 := by have := nbit_two (val a) j; omega
        have hy1 : y ≤ 1 := by have := nbit_two (val b) j; omega
        have HX := Lib.hid hx
        have HY := Lib.hid hy
        by_cases hxy : x = y
        · have hd2 : val a / 2 ^ j = val b / 2 ^ j := by rw [div_bit, div_bit (val b), hdiv, hx, hy, hxy]
          have hne : (((x : Nat) : Int) != ((y : Nat) : Int)) = false := by simp [hxy]
          have HD := Lib.hid hd2
          clear hd2 hdiv hx hy hxy
          rw [show (((j + 1 : Nat) : Int) - 1) = (j : Int) by omega]
          go_wp2_with (first
            | (go_at_call_of 121 (Value.slice A na ca); refine (rAt_any A na ca a _ j hra (by omega) (by omega)).mono ?_; rw [HX.out]; rintro e w1 ⟨rfl, rfl⟩)
            | (go_at_call_of 121 (Value.slice A2 nb cb); refine (rAt_any A2 nb cb b _ j hrb (by omega) (by omega)).mono ?_; rw [HY.out]; rintro e w1 ⟨rfl, rfl⟩))
          go_round
          case rel => exact ⟨j, by omega, rfl, HD.out⟩
          case measure => (simp [intOf]) <;> omega
        · have hc := cmp_top hdiv (by rw [hx, hy]; exact hxy)
          rw [hx, hy] at hc
          have hne : (((x : Nat) : Int) != ((y : Nat) : Int)) = true := by simp; omega
          have HCC := Lib.hid hc
          clear hc hdiv hx hy
          rw [show (((j + 1 : Nat) : Int) - 1) = (j : Int) by omega]
          go_wp2_with (first
            | (go_at_call_of 121 (Value.slice A na ca); refine (rAt_any A na ca a _ j hra (by omega) (by omega)).mono ?_; rw [HX.out]; rintro e w1 ⟨rfl, rfl⟩)
            | (go_at_call_of 121 (Value.slice A2 nb cb); refine (rAt_any A2 nb cb b _ j hrb (by omega) (by omega)).mono ?_; rw [HY.out]; rintro e w1 ⟨rfl, rfl⟩))
          go_ret
          exact ⟨by rw [HCC.out]; rfl, rfl⟩
end
end Go.Proofs.YtbldimplddiheaaGreatDoor

namespace Go.Proofs.YtbldimplddiheaaGreatDoor
open Go.RowKit Go.Shelf
set_option linter.unusedVariables false
set_option linter.unusedSimpArgs false

theorem bval_zeros (n : Nat) : bval (List.replicate n 0) = 0 := by
  induction n with
  | zero => rfl
  | succ n ih => rw [List.replicate_succ, bval, ih]
theorem bits_zeros (n : Nat) : Bits (List.replicate n 0) := fun y hy => by
  rw [List.mem_replicate] at hy; omega
theorem owni_zeros (w : World) (n : Nat) (hn : n ≤ maxLen) : OwnI (w.alloc (.cells (madeCells #[.int .i64 0] n) 3)) w.heap.size (.slice (some ⟨w.heap.size, 0, none⟩) n n) (List.replicate n 0) := by
  have e : (madeCells #[.int .i64 0] n).toList = (List.replicate n 0).map i64n := by
    apply List.ext_getElem
    · simp [madeCells]
    · intro i h1 h2
      simp [madeCells, Nat.mod_one]
  refine ⟨⟨by simp, .inr ⟨w.heap.size, n, madeCells #[.int .i64 0] n, by simp, Nat.le_refl _, World.alloc_heap_new w _, by simp, hn, by simp [madeCells], ?_⟩⟩, bits_zeros n⟩
  rw [← e, List.take_of_length_le (by simp [madeCells])]
theorem nbit_div (v b i : Nat) : nbit (v / 2 ^ b) i = nbit v (b + i) := by
  unfold nbit
  rw [Nat.div_div_eq_div_mul, ← Nat.pow_add]

section
variable (A : Option Addr) (na ca : Nat) (a : List Nat) (w : World)


set_option maxRecDepth 100000 in
set_option maxHeartbeats 1000000 in
theorem rTimes_any (bits : Nat) (hra : Rd w A na a) (hna : na ≤ 1000) (hb : bits ≤ 65536) :
    Calls Tryz.prog 123 #[.slice A na ca, .int .i64 (bits : Int)] w fun e w' => ∃ A' k c, e = .returned (.slice A' k c) ∧ Own w' w.heap.size (.slice A' k c) (limbs (val a * 2 ^ bits)) ∧ Below w.heap.size w w' := by
  obtain ⟨i0, hi0, hz0, hz1, hz2⟩ := info_parts int_info
  have hva : val a < 2 ^ (64 * na) := val_lt_bits hra.words (by rw [hra.len]; omega)
  have HVA := Lib.hid hva
  have hmk := fun W => run_make_row' (P := Tryz.prog) 131 3 (.int .i64 0) 8 Tryz.underlying131 int_info rfl .i64 .i64 bits (by omega) (by omega) W
  clear hva
  go_enter Tryz.func123, Tryz.ntmps123
  go_wp2
  have hz := owni_zeros w bits (by simp only [maxLen]; omega)
  have hB2 := (Below.refl w.heap.size w).alloc (Nat.le_refl _) (.cells (madeCells #[.int .i64 0] bits) 3)
  generalize hW2 : w.alloc (.cells (madeCells #[.int .i64 0] bits) 3) = w2 at *
  clear hW2 hmk
  go_loopw [5, 6] (fun v i wr => ∃ (k : Nat) (bl : List Nat), k ≤ 64 * na ∧ i = .int .i64 (k : Int) ∧ bl.length = bits + k ∧ bval bl = 2 ^ bits * (val a % 2 ^ k) ∧ OwnI wr w.heap.size v bl ∧ Below w.heap.size w wr) (fun _ i _ => 64 * na - (intOf i).toNat)
  case atStart => exact ⟨0, _, by omega, rfl, by simp, by rw [bval_zeros]; simp [Nat.mod_one], hz, hB2⟩
  case round =>
    obtain ⟨k, bl, hk, rfl, hlen, hval, hown, hB⟩ := hrel
    have hra2 := hra.below hB
    by_cases hlt : k < 64 * na
    · obtain ⟨x, hx⟩ : ∃ x, nbit (val a) k = x := ⟨_, rfl⟩
      have hx1 : x ≤ 1 := by have := nbit_two (val a) k; omega
      have hst : bval (bl ++ [x]) = 2 ^ bits * (val a % 2 ^ (k + 1)) := by
        rw [bval_snoc, hlen, mod_succ_bit, hx, hval, Nat.pow_add, Nat.mul_add, Nat.mul_assoc]
      have hlen2 : (bl ++ [x]).length = bits + (k + 1) := by rw [List.length_append, hlen]; rfl
      have HX := Lib.hid hx
      have HST := Lib.hid hst
      have HLN := Lib.hid hlen2
      have HRA := Lib.hid hra2
      have hown0 := fun u : Value => hown.below ((Below.refl _ wr).alloc (Nat.le_refl _) (.cells #[u] 3))
      have HO0 := Lib.hid hown0
      have hblk := owni_block hown
      have HBK := Lib.hid hblk
      have hnew := Lib.hid (fun u : Value => cell_one_new wr u 3)
      have hol : bl.length ≤ 200000 := by omega
      have hlt2 : (k : Int) < 64 * (na : Int) := by omega
      clear hx hst hval hlen hra2 hown hown0 hblk hlen2
      go_wp2_with (first
        | (go_at_call 121; refine (rAt_any A na ca a _ k HRA.out (by omega) (by omega)).mono ?_; rw [HX.out]; rintro e w1 ⟨rfl, rfl⟩)
        | (at_builtin; refine wpList_append_own _ rfl _ _ 131 rfl w.heap.size 3 i0 _ 1 8 Tryz.underlying131 hi0 hz0 hz1 hz2 rfl (by decide) _ _ _ rfl (HO0.out _).1 ⟨wr.heap.size, 0, none⟩ 1 1 _ rfl rfl (hnew.out _) (by simp [Value.oneCell']) (by simp only [maxLen]; omega) (by omega) (by have := hB.size; simp; omega) ?_; intro v' w3 hown1 hgrow1 _))
      go_roundw
      case rel =>
        have hb3 : Below w.heap.size w w3 := (hB.alloc hB.size _).grown hgrow1 (by rw [World.size_alloc]; have := hB.size; omega) HBK.out
        refine ⟨k + 1, bl ++ [x], by omega, by go_num, HLN.out, HST.out, ⟨?_, bits_append (HO0.out undef).2 (bits_one hx1)⟩, hb3⟩
        rw [List.length_append, List.map_append]
        exact hown1
      case measure => simp [intOf]; omega
    · have hkM : k = 64 * na := by omega
      have hfin : bval bl = val a * 2 ^ bits := by
        rw [hval, hkM, Nat.mod_eq_of_lt HVA.out, Nat.mul_comm]
      obtain ⟨A', c', hv, hrd, _, _⟩ := hown.form
      subst hv
      have HRD := Lib.hid hrd
      have HF := Lib.hid hfin
      have hge : ¬ ((k : Int) < 64 * (na : Int)) := by omega
      have hbl : bl.length ≤ 1000000 := by omega
      clear hval hown hlen hkM hrd hfin
      go_wp2_with fail
      refine (from_any A' bl.length c' bl _ HRD.out hbl).mono ?_
      rintro e w4 ⟨A4, k4, c4, rfl, ho4, hb4⟩
      rw [HF.out] at ho4
      go_wp2_with fail
      go_ret
      exact ⟨A4, k4, c4, rfl, own_mono ho4 hB.size, below_then hB hb4⟩

set_option maxRecDepth 100000 in
set_option maxHeartbeats 1000000 in
theorem rDown_ok (bits : Nat) (hra : Rd w A na a) (hna : na ≤ 1000) (hb : bits ≤ 65536) (hm : may a = true) :
    Calls Tryz.prog 146 #[.slice A na ca, .int .i64 (bits : Int)] w fun e w' => ∃ A' k c, e = .returned (.tuple #[.slice A' k c, .int .i64 0]) ∧ Own w' w.heap.size (.slice A' k c) (limbs (val a / 2 ^ bits)) ∧ Below w.heap.size w w' := by
  obtain ⟨i0, hi0, hz0, hz1, hz2⟩ := info_parts int_info
  have hva : val a < 2 ^ (64 * na) := val_lt_bits hra.words (by rw [hra.len]; omega)
  have HVA := Lib.hid hva
  have HM := Lib.hid hm
  clear hva hm
  go_enter Tryz.func146, Tryz.ntmps146
  go_wp2_with (go_at_call 98; refine (rMay_any A na ca a _ hra (by omega)).mono ?_; rw [HM.out]; rintro e w1 ⟨rfl, rfl⟩)
  go_loopw [6, 7] (fun v i wr => ∃ (k : Nat) (bl : List Nat), (k = 0 ∨ bits + k ≤ 64 * na) ∧ i = .int .i64 ((bits + k : Nat) : Int) ∧ bl.length = k ∧ bval bl = val a / 2 ^ bits % 2 ^ k ∧ OwnI wr w.heap.size v bl ∧ Below w.heap.size w wr) (fun _ i _ => 64 * na - (intOf i).toNat)
  case atStart => exact ⟨0, [], .inl rfl, rfl, rfl, by simp [bval, Nat.mod_one], ⟨World.ownsRow_nil _ _ _ _, fun y hy => by cases hy⟩, Below.refl _ _⟩
  case round =>
    obtain ⟨k, bl, hk, rfl, hlen, hval, hown, hB⟩ := hrel
    have hra2 := hra.below hB
    by_cases hlt : bits + k < 64 * na
    · obtain ⟨x, hx⟩ : ∃ x, nbit (val a) (bits + k) = x := ⟨_, rfl⟩
      have hx1 : x ≤ 1 := by have := nbit_two (val a) (bits + k); omega
      have hst : bval (bl ++ [x]) = val a / 2 ^ bits % 2 ^ (k + 1) := by
        rw [bval_snoc, hlen, mod_succ_bit, nbit_div, hx, hval]
      have HX := Lib.hid hx
      have HST := Lib.hid hst
      have HLN := Lib.hid hlen
      have HRA := Lib.hid hra2
      have hown0 := fun u : Value => hown.below ((Below.refl _ wr).alloc (Nat.le_refl _) (.cells #[u] 3))
      have HO0 := Lib.hid hown0
      have hblk := owni_block hown
      have HBK := Lib.hid hblk
      have hnew := Lib.hid (fun u : Value => cell_one_new wr u 3)
      have hol : bl.length ≤ 200000 := by omega
      obtain ⟨m, hmm⟩ : ∃ m, bits + k = m := ⟨_, rfl⟩
      rw [hmm] at HX hlt ⊢
      have HMM := Lib.hid hmm
      have hm2 : m ≤ 200000 := by omega
      have hlt2 : (m : Int) < 64 * (na : Int) := by omega
      clear hx hst hval hlen hra2 hown hown0 hblk hmm
      go_wp2_with (first
        | (go_at_call 121; refine (rAt_any A na ca a _ m HRA.out (by omega) (by omega)).mono ?_; rw [HX.out]; rintro e w1 ⟨rfl, rfl⟩)
        | (at_builtin; refine wpList_append_own _ rfl _ _ 131 rfl w.heap.size 3 i0 _ 1 8 Tryz.underlying131 hi0 hz0 hz1 hz2 rfl (by decide) _ _ _ rfl (HO0.out _).1 ⟨wr.heap.size, 0, none⟩ 1 1 _ rfl rfl (hnew.out _) (by simp [Value.oneCell']) (by simp only [maxLen]; omega) (by omega) (by have := hB.size; simp; omega) ?_; intro v' w3 hown1 hgrow1 _))
      go_roundw
      case rel =>
        have hb3 : Below w.heap.size w w3 := (hB.alloc hB.size _).grown hgrow1 (by rw [World.size_alloc]; have := hB.size; omega) HBK.out
        have hmm := HMM.out
        refine ⟨k + 1, bl ++ [x], .inr (by omega), by rw [show bits + (k + 1) = m + 1 by omega]; go_num, by rw [List.length_append, HLN.out]; rfl, HST.out, ⟨?_, bits_append (HO0.out undef).2 (bits_one hx1)⟩, hb3⟩
        rw [List.length_append, List.map_append]
        exact hown1
      case measure => simp [intOf]; omega
    · have hfin : bval bl = val a / 2 ^ bits := by
        rw [hval]
        apply Nat.mod_eq_of_lt
        have h1 := HVA.out
        rw [Nat.div_lt_iff_lt_mul (Nat.two_pow_pos _), ← Nat.pow_add]
        exact Nat.lt_of_lt_of_le h1 (Nat.pow_le_pow_right (by omega) (by omega))
      obtain ⟨A', c', hv, hrd, _, _⟩ := hown.form
      subst hv
      have HRD := Lib.hid hrd
      have HF := Lib.hid hfin
      have hbl : bl.length ≤ 1000000 := by omega
      obtain ⟨m, hmm⟩ : ∃ m, bits + k = m := ⟨_, rfl⟩
      rw [hmm] at hlt ⊢
      have hge : ¬ ((m : Int) < 64 * (na : Int)) := by omega
      clear hval hown hlen hrd hfin hmm
      go_wp2_with fail
      refine (from_any A' bl.length c' bl _ HRD.out hbl).mono ?_
      rintro e w4 ⟨A4, k4, c4, rfl, ho4, hb4⟩
      rw [HF.out] at ho4
      go_wp2_with fail
      go_ret2
      exact ⟨A4, k4, c4, rfl, own_mono ho4 hB.size, below_then hB hb4⟩
end
end Go.Proofs.YtbldimplddiheaaGreatDoor

/- What the numbers' calls answer, as one thing for the program and for the document. -/
namespace Go.Proofs.YtbldimplddiheaaGreatDoor
open Go.RowKit Go.Shelf
set_option linter.unusedVariables false
set_option linter.unusedSimpArgs false

def cmpV (a b : List Nat) : Int := if both a b = true then cmp3 (val a) (val b) else 0
def subE (a b : List Nat) : Int := if both a b = true then (if val a < val b then 10 else 0) else 8
def subL (a b : List Nat) : List Nat := if both a b = true then (if val a < val b then [] else limbs (val a - val b)) else []
def wordV (a : List Nat) : Nat := if may a = true ∧ a.length ≤ 1 then lim a 0 else 0
def wordE (a : List Nat) : Int := if may a = true then (if a.length ≤ 1 then 0 else 4) else 8
def longV (a : List Nat) : Nat := if may a = true then blen (val a) else 0
def bitV (a : List Nat) (i : Int) : Nat := if may a = true then (if i < 0 then 0 else nbit (val a) i.toNat) else 0
def bitE (a : List Nat) (i : Int) : Int := if may a = true then (if i < 0 then 2 else 0) else 8
def shiftE (a : List Nat) (i : Int) : Int := if may a = true then (if i < 0 ∨ 65536 < i then 2 else 0) else 8
def upL (a : List Nat) (i : Int) : List Nat := if may a = true then (if i < 0 ∨ 65536 < i then [] else limbs (val a * 2 ^ i.toNat)) else []
def downL (a : List Nat) (i : Int) : List Nat := if may a = true then (if i < 0 ∨ 65536 < i then [] else limbs (val a / 2 ^ i.toNat)) else []


section
variable (A A2 : Option Addr) (na ca nb cb : Nat) (a b : List Nat) (w : World)

theorem rCompared_any (hra : Rd w A na a) (hrb : Rd w A2 nb b) (hna : na ≤ 1000) (hnb : nb ≤ 1000) :
    Calls Tryz.prog 117 #[.slice A na ca, .slice A2 nb cb] w fun e w' => e = .returned (.int .i64 (cmp3 (val a) (val b))) ∧ w = w' := by
  by_cases h : na ≤ 1 ∧ nb ≤ 1
  · by_cases h2 : lim a 0 = lim b 0
    · exact rCompared_bits A A2 na ca nb cb a b w hra hrb hna hnb (.inr ⟨h, h2⟩)
    · exact rCompared_short A A2 na ca nb cb a b w hra hrb h.1 h.2 h2
  · exact rCompared_bits A A2 na ca nb cb a b w hra hrb hna hnb (.inl h)
theorem rSum_any (hra : Rd w A na a) (hrb : Rd w A2 nb b) (hna : na ≤ 1000) (hnb : nb ≤ 1000) :
    Calls Tryz.prog 99 #[.slice A na ca, .slice A2 nb cb] w fun e w' => ∃ A' k c, e = .returned (.slice A' k c) ∧ Own w' w.heap.size (.slice A' k c) (limbs (val a + val b)) ∧ Below w.heap.size w w' := by
  by_cases h : na ≤ 1 ∧ nb ≤ 1 ∧ lim a 0 < half ∧ lim b 0 < half
  · exact rSum_short A A2 na ca nb cb a b w hra hrb h.1 h.2.1 h.2.2.1 h.2.2.2
  · exact rSum_bits A A2 na ca nb cb a b w hra hrb hna hnb h
theorem rRest_any (hra : Rd w A na a) (hrb : Rd w A2 nb b) (hna : na ≤ 1000) (hnb : nb ≤ 1000) (hle : val b ≤ val a) :
    Calls Tryz.prog 118 #[.slice A na ca, .slice A2 nb cb] w fun e w' => ∃ A' k c, e = .returned (.slice A' k c) ∧ Own w' w.heap.size (.slice A' k c) (limbs (val a - val b)) ∧ Below w.heap.size w w' := by
  by_cases h : na ≤ 1 ∧ nb ≤ 1
  · exact rRest_short A A2 na ca nb cb a b w hra hrb h.1 h.2 hle
  · exact rRest_bits A A2 na ca nb cb a b w hra hrb hna hnb h hle

theorem cmp_spec (hra : Rd w A na a) (hrb : Rd w A2 nb b) (hna : na ≤ 1000) (hnb : nb ≤ 1000) :
    Calls Tryz.prog 82 #[.slice A na ca, .slice A2 nb cb] w fun e w' => e = .returned (.tuple #[.int .i64 (cmpV a b), .int .i64 (err2 a b)]) ∧ Below w.heap.size w w' := by
  cases h : both a b with
  | true => simpa [cmpV, err2, h] using cmp_ok A A2 na ca nb cb a b w hra hrb (by omega) (by omega) (by rw [both_all, h])
  | false => simpa [cmpV, err2, h] using cmp_bad A A2 na ca nb cb a b w hra hrb (by omega) (by omega) (by rw [both_all, h])
theorem add_spec (hra : Rd w A na a) (hrb : Rd w A2 nb b) (hna : na ≤ 1000) (hnb : nb ≤ 1000) :
    Calls Tryz.prog 110 #[.slice A na ca, .slice A2 nb cb] w (Answers w (addL a b) (err2 a b)) := by
  cases h : both a b with
  | true =>
    have e1 : addL a b = limbs (val a + val b) := by simp [addL, h]
    have e2 : err2 a b = 0 := by simp [err2, h]
    rw [e1, e2]
    exact (add_ok A A2 na ca nb cb a b w hra hrb (by omega) (by omega) (by rw [both_all, h]))
  | false =>
    have e1 : addL a b = [] := by simp [addL, h]
    have e2 : err2 a b = 8 := by simp [err2, h]
    rw [e1, e2]
    refine (add_bad A A2 na ca nb cb a b w hra hrb (by omega) (by omega) (by rw [both_all, h])).mono ?_
    rintro e w' ⟨rfl, hb⟩
    exact answers_nil hb
theorem sub_spec (hra : Rd w A na a) (hrb : Rd w A2 nb b) (hna : na ≤ 1000) (hnb : nb ≤ 1000) :
    Calls Tryz.prog 145 #[.slice A na ca, .slice A2 nb cb] w (Answers w (subL a b) (subE a b)) := by
  cases h : both a b with
  | true =>
    by_cases hl : val a < val b
    · have e1 : subL a b = [] := by simp [subL, h, hl]
      have e2 : subE a b = 10 := by simp [subE, h, hl]
      rw [e1, e2]
      refine (sub_less A A2 na ca nb cb a b w hra hrb (by omega) (by omega) (by rw [both_all, h]) hl).mono ?_
      rintro e w' ⟨rfl, hb⟩
      exact answers_nil hb
    · have e1 : subL a b = limbs (val a - val b) := by simp [subL, h, hl]
      have e2 : subE a b = 0 := by simp [subE, h, hl]
      rw [e1, e2]
      exact (sub_ok A A2 na ca nb cb a b w hra hrb (by omega) (by omega) (by rw [both_all, h]) (by omega))
  | false =>
    have e1 : subL a b = [] := by simp [subL, h]
    have e2 : subE a b = 8 := by simp [subE, h]
    rw [e1, e2]
    refine (sub_bad A A2 na ca nb cb a b w hra hrb (by omega) (by omega) (by rw [both_all, h])).mono ?_
    rintro e w' ⟨rfl, hb⟩
    exact answers_nil hb
theorem word_spec (hra : Rd w A na a) (hna : na ≤ 1000) :
    Calls Tryz.prog 86 #[.slice A na ca] w fun e w' => e = .returned (.tuple #[u64 (wordV a), .int .i64 (wordE a)]) ∧ Below w.heap.size w w' := by
  have hl := hra.len
  cases h : may a with
  | true =>
    by_cases h1 : na ≤ 1
    · have e1 : wordV a = lim a 0 := by simp [wordV, h, hl, h1]
      have e2 : wordE a = 0 := by simp [wordE, h, hl, h1]
      rw [e1, e2]
      exact word_ok A na ca a w hra h h1
    · have e1 : wordV a = 0 := by simp [wordV, h, hl, h1]
      have e2 : wordE a = 4 := by simp [wordE, h, hl, h1]
      rw [e1, e2]
      exact word_many A na ca a w hra (by omega) h (by omega)
  | false =>
    have e1 : wordV a = 0 := by simp [wordV, h]
    have e2 : wordE a = 8 := by simp [wordE, h]
    rw [e1, e2]
    exact word_bad A na ca a w hra (by omega) h
theorem up_spec (i : Int) (hra : Rd w A na a) (hna : na ≤ 1000) :
    Calls Tryz.prog 173 #[.slice A na ca, .int .i64 i] w (Answers w (upL a i) (shiftE a i)) := by
  cases h : may a with
  | true =>
    by_cases h1 : i < 0 ∨ 65536 < i
    · have e1 : upL a i = [] := by simp [upL, h, h1]
      have e2 : shiftE a i = 2 := by simp [shiftE, h, h1]
      rw [e1, e2]
      refine (up_arg A na ca a i w hra (by omega) h h1).mono ?_
      rintro e w' ⟨rfl, hb⟩
      exact answers_nil hb
    · obtain ⟨k, rfl⟩ := Int.eq_ofNat_of_zero_le (show 0 ≤ i by omega)
      have e1 : upL a (k : Int) = limbs (val a * 2 ^ k) := by unfold upL; rw [if_pos h, if_neg h1, Int.toNat_natCast]
      have e2 : shiftE a (k : Int) = 0 := by unfold shiftE; rw [if_pos h, if_neg h1]
      rw [e1, e2]
      exact up_ok A na ca a k _ _ w hra (by omega) h (by omega) rfl rfl
  | false =>
    have e1 : upL a i = [] := by simp [upL, h]
    have e2 : shiftE a i = 8 := by simp [shiftE, h]
    rw [e1, e2]
    refine (up_bad A na ca a i w hra (by omega) h).mono ?_
    rintro e w' ⟨rfl, hb⟩
    exact answers_nil hb
theorem down_spec (i : Int) (hra : Rd w A na a) (hna : na ≤ 1000) :
    Calls Tryz.prog 161 #[.slice A na ca, .int .i64 i] w (Answers w (downL a i) (shiftE a i)) := by
  cases h : may a with
  | true =>
    by_cases h1 : i < 0 ∨ 65536 < i
    · have e1 : downL a i = [] := by simp [downL, h, h1]
      have e2 : shiftE a i = 2 := by simp [shiftE, h, h1]
      rw [e1, e2]
      refine (down_arg A na ca a i w hra (by omega) h h1).mono ?_
      rintro e w' ⟨rfl, hb⟩
      exact answers_nil hb
    · obtain ⟨k, rfl⟩ := Int.eq_ofNat_of_zero_le (show 0 ≤ i by omega)
      have e1 : downL a (k : Int) = limbs (val a / 2 ^ k) := by unfold downL; rw [if_pos h, if_neg h1, Int.toNat_natCast]
      have e2 : shiftE a (k : Int) = 0 := by unfold shiftE; rw [if_pos h, if_neg h1]
      rw [e1, e2]
      exact down_ok A na ca a k _ _ w hra (by omega) h (by omega) rfl rfl
  | false =>
    have e1 : downL a i = [] := by simp [downL, h]
    have e2 : shiftE a i = 8 := by simp [shiftE, h]
    rw [e1, e2]
    refine (down_bad A na ca a i w hra (by omega) h).mono ?_
    rintro e w' ⟨rfl, hb⟩
    exact answers_nil hb

/-! ### The document's -/

set_option maxRecDepth 100000 in
set_option maxHeartbeats 1000000 in
theorem rWord_spec (hra : Rd w A na a) (hna : na ≤ 1000) :
    Calls Tryz.prog 131 #[.slice A na ca] w fun e w' => e = .returned (.tuple #[u64 (wordV a), .int .i64 (wordE a)]) ∧ Below w.heap.size w w' := by
  have hl := hra.len
  cases h : may a with
  | false =>
    have H1 := Lib.hid h
    clear h
    go_enter Tryz.func131, Tryz.ntmps131
    go_wp2_with (go_at_call_of 98 (Value.slice A na ca); refine (rMay_any A na ca a _ hra (by omega)).mono ?_; rw [H1.out]; rintro e w1 ⟨rfl, rfl⟩)
    go_ret2
    exact ⟨by rw [show wordV a = 0 by { simp [wordV, H1.out] }, show wordE a = 8 by { simp [wordE, H1.out] }]; rfl, Below.refl _ _⟩
  | true =>
    have H1 := Lib.hid h
    clear h
    by_cases h1 : 1 < na
    · go_enter Tryz.func131, Tryz.ntmps131
      go_wp2_with (go_at_call_of 98 (Value.slice A na ca); refine (rMay_any A na ca a _ hra (by omega)).mono ?_; rw [H1.out]; rintro e w1 ⟨rfl, rfl⟩)
      go_ret2
      exact ⟨by rw [show wordV a = 0 by { simp [wordV, hl]; omega }, show wordE a = 4 by { simp [wordE, hl, H1.out]; omega }]; rfl, Below.refl _ _⟩
    · have hv : wordV a = lim a 0 := by simp [wordV, hl, H1.out]; omega
      have he : wordE a = 0 := by simp [wordE, hl, H1.out]; omega
      have HV := Lib.hid hv
      have HE := Lib.hid he
      clear hv he
      by_cases h0 : na = 0
      · subst h0
        have hz : lim a 0 = 0 := lim_past (by omega)
        have HZ := Lib.hid hz
        clear hz hl
        go_enter Tryz.func131, Tryz.ntmps131
        go_wp2_with (go_at_call 98; refine (rMay_any A 0 ca a _ hra (by omega)).mono ?_; rw [H1.out]; rintro e w1 ⟨rfl, rfl⟩)
        go_ret2
        exact ⟨by rw [HV.out, HE.out, HZ.out]; rfl, Below.refl _ _⟩
      · obtain rfl : na = 1 := by omega
        obtain ⟨b0, off, rfl, hb, hc⟩ := hra.cells (by omega)
        have hci := hc 0 (by omega)
        rw [Nat.add_zero] at hci
        clear hc hl
        go_enter Tryz.func131, Tryz.ntmps131
        go_wp2_with (go_at_call 98; refine (rMay_any _ 1 ca a _ hra (by omega)).mono ?_; rw [H1.out]; rintro e w1 ⟨rfl, rfl⟩)
        go_ret2
        exact ⟨by rw [HV.out, HE.out]; rfl, Below.refl _ _⟩

set_option maxRecDepth 100000 in
set_option maxHeartbeats 1000000 in
theorem rDown_spec (i : Int) (hra : Rd w A na a) (hna : na ≤ 1000) :
    Calls Tryz.prog 146 #[.slice A na ca, .int .i64 i] w (Answers w (downL a i) (shiftE a i)) := by
  have hl := hra.len
  cases h : may a with
  | false =>
    have H1 := Lib.hid h
    clear h
    go_enter Tryz.func146, Tryz.ntmps146
    go_wp2_with (go_at_call_of 98 (Value.slice A na ca); refine (rMay_any A na ca a _ hra (by omega)).mono ?_; rw [H1.out]; rintro e w1 ⟨rfl, rfl⟩)
    go_ret2
    rw [show downL a i = [] by { simp [downL, H1.out] }, show shiftE a i = 8 by { simp [shiftE, H1.out] }]; exact answers_nil (Below.refl _ _)
  | true =>
    have H1 := Lib.hid h
    clear h
    by_cases h1 : i < 0 ∨ 65536 < i
    · by_cases h2 : i < 0
      · go_enter Tryz.func146, Tryz.ntmps146
        go_wp2_with (go_at_call_of 98 (Value.slice A na ca); refine (rMay_any A na ca a _ hra (by omega)).mono ?_; rw [H1.out]; rintro e w1 ⟨rfl, rfl⟩)
        go_ret2
        rw [show downL a i = [] by { simp [downL, h1] }, show shiftE a i = 2 by { simp [shiftE, h1, H1.out] }]; exact answers_nil (Below.refl _ _)
      · have h3 : 65536 < i := by omega
        go_enter Tryz.func146, Tryz.ntmps146
        go_wp2_with (go_at_call_of 98 (Value.slice A na ca); refine (rMay_any A na ca a _ hra (by omega)).mono ?_; rw [H1.out]; rintro e w1 ⟨rfl, rfl⟩)
        go_ret2
        rw [show downL a i = [] by { simp [downL, h3] }, show shiftE a i = 2 by { simp [shiftE, h3, H1.out] }]; exact answers_nil (Below.refl _ _)
    · obtain ⟨k, rfl⟩ := Int.eq_ofNat_of_zero_le (show 0 ≤ i by omega)
      have hv : downL a (k : Int) = limbs (val a / 2 ^ k) := by unfold downL; rw [if_pos H1.out, if_neg h1, Int.toNat_natCast]
      have he : shiftE a (k : Int) = 0 := by unfold shiftE; rw [if_pos H1.out, if_neg h1]
      rw [hv, he]
      exact rDown_ok A na ca a w k hra hna (by omega) H1.out
end
end Go.Proofs.YtbldimplddiheaaGreatDoor

/- The document's quotient: of words, or bit by bit. -/
namespace Go.Proofs.YtbldimplddiheaaGreatDoor
open Go.RowKit Go.Shelf
set_option linter.unusedVariables false
set_option linter.unusedSimpArgs false

/-! ### Rows of bits of the call's own, set in place -/
theorem owni_at {w : World} {B n c : Nat} {A : Option Addr} {l : List Nat} (h : OwnI w B (.slice A n c) l) (hn : 0 < n) : ∃ g, A = some ⟨g, 0, none⟩ ∧ B ≤ g ∧ g < w.heap.size := by
  rcases h.1.2 with ⟨e, h0⟩ | ⟨g, cap, cur, e, hg, hh, r⟩
  · cases e; omega
  · cases e
    exact ⟨g, rfl, hg, (Array.getElem?_eq_some_iff.1 hh).1⟩
theorem owni_cell {w : World} {B g n c : Nat} {l : List Nat} (h : OwnI w B (.slice (some ⟨g, 0, none⟩) n c) l) {i : Nat} (hi : i < n) : w.cell? ⟨g, i, none⟩ = some (i64n (lim l i)) ∧ w.frozen? ⟨g, i, none⟩ = false := by
  obtain ⟨A, c', e, hr, _, _⟩ := h.form
  cases e
  obtain ⟨b, off, e, hlt, hc⟩ := hr.cells (by omega)
  cases e
  refine ⟨by simpa using hc i hi, ?_⟩
  rcases h.1.2 with ⟨e, _⟩ | ⟨g', cap, cur, e, hg, hh, _⟩
  · cases e
  · cases e
    simp [World.frozen?, hh]
theorem bits_set {l : List Nat} (h : Bits l) {i v : Nat} (hv : v ≤ 1) : Bits (l.set i v) := fun y hy => by
  rcases List.mem_or_eq_of_mem_set hy with hy | rfl
  · exact h y hy
  · exact hv
theorem owni_set {w : World} {B g n c : Nat} {l : List Nat} (h : OwnI w B (.slice (some ⟨g, 0, none⟩) n c) l) {i v : Nat} (hv : v ≤ 1) : OwnI (w.setCell ⟨g, i, none⟩ (i64n v)) B (.slice (some ⟨g, 0, none⟩) n c) (l.set i v) := by
  refine ⟨⟨by simp, ?_⟩, bits_set h.2 hv⟩
  rcases h.1.2 with ⟨e, _⟩ | ⟨g', cap, cur, e, hg, hh, hnc, hc, hs, ht⟩
  · cases e
  · cases e
    refine .inr ⟨g, c, cur.setIfInBounds i (i64n v), by simp, hg, ?_, by simpa using hnc, hc, by simpa using hs, ?_⟩
    · simp [World.setCell, Array.getElem?_modify, hh]
    · rw [List.map_set, ← ht]
      simp [List.take_set]
theorem cell_lt {w : World} {p : Addr} {u : Value} (h : w.cell? p = some u) : p.block < w.heap.size := by
  unfold World.cell? at h
  cases ho : w.heap[p.block]? with
  | none => simp [ho] at h
  | some o => exact (Array.getElem?_eq_some_iff.1 ho).1
/-- What is owned from a block on is kept by stores below. -/
theorem own_far {w : World} {B : Nat} {v : Value} {l : List Nat} (h : Own w B v l) {p : Addr} (hp : p.block < B) (u : Value) : Own (w.setCell p u) B v l := by
  refine ⟨⟨h.1.1, ?_⟩, h.2⟩
  rcases h.1.2 with h2 | ⟨g, cap, cur, e, hg, hh, r⟩
  · exact .inl h2
  · exact .inr ⟨g, cap, cur, e, hg, (Below.heap_setCell w p u g (by omega)).trans hh, r⟩
theorem bval_set {l : List Nat} {i : Nat} (hi : i < l.length) (h0 : lim l i = 0) : bval (l.set i 1) = bval l + 2 ^ i := by
  induction l generalizing i with
  | nil => simp at hi
  | cons x r ih =>
    cases i with
    | zero =>
      have e : x = 0 := by simpa [lim] using h0
      subst e
      simp [bval]; omega
    | succ i =>
      have h := ih (i := i) (by simpa using hi) (by simpa [lim] using h0)
      rw [List.set_cons_succ, bval, bval, h, Nat.pow_succ]
      omega

/-! ### Quotients bit by bit -/
theorem div_of {n b k r : Nat} (hb : r < b) (h : n = r + b * k) : n / b = k ∧ n % b = r := by
  subst h
  have h0 : 0 < b := by omega
  exact ⟨by rw [Nat.add_mul_div_left _ _ h0, Nat.div_eq_of_lt hb, Nat.zero_add], by rw [Nat.add_mul_mod_self_left, Nat.mod_eq_of_lt hb]⟩
theorem over_step {V b j q r t : Nat} (hb : 0 < b) (hq : V / 2 ^ (j + 1) / b = q) (hr : V / 2 ^ (j + 1) % b = r) (ht : nbit V j = t) :
    (r * 2 + t < b → V / 2 ^ j / b = 2 * q ∧ V / 2 ^ j % b = r * 2 + t) ∧ (b ≤ r * 2 + t → V / 2 ^ j / b = 2 * q + 1 ∧ V / 2 ^ j % b = r * 2 + t - b) := by
  have e := div_bit V j
  have h1 := Nat.mod_add_div (V / 2 ^ (j + 1)) b
  rw [hq, hr] at h1
  rw [ht, ← h1] at e
  have hrb : r < b := by rw [← hr]; exact Nat.mod_lt _ hb
  have ht1 : t ≤ 1 := by have := nbit_two V j; omega
  have e2 : b * (2 * q) = 2 * (b * q) := Nat.mul_left_comm _ _ _
  have e3 : b * (2 * q + 1) = 2 * (b * q) + b := by rw [Nat.mul_add, e2, Nat.mul_one]
  constructor
  · intro h
    exact div_of h (by rw [e, e2]; omega)
  · intro h
    exact div_of (by omega) (by rw [e, e3]; omega)
-- WALKS
/-- Nothing of a number stands from its length on. -/
structure V_zero (v M b : Nat) : Prop where
  out : v / 2 ^ M = 0
theorem double_lt {r b n t : Nat} (h : r < b) (hb : b < B64 ^ n) (ht : t ≤ 1) : r * 2 ^ 1 + t < B64 ^ (n + 1) := by
  rw [Nat.pow_one, Nat.pow_succ]
  have h2 : B64 ^ n * 2 ≤ B64 ^ n * B64 := Nat.mul_le_mul_left _ B64_gt
  omega

theorem one_val : val [1] = 1 := by simp [val]
theorem cmp3_ge {x y : Nat} (h : y ≤ x) : cmp3 x y = 0 ∨ cmp3 x y = 1 := by
  rcases Nat.eq_or_lt_of_le h with rfl | h
  · exact .inl (cmp3_self _)
  · exact .inr (cmp3_gt h)

section
variable (A A2 : Option Addr) (na ca nb cb : Nat) (a : List Nat) (b : Nat) (w : World)

set_option maxRecDepth 100000 in
set_option maxHeartbeats 4000000 in
theorem over_bits (hra : Rd w A na a) (hrb : Rd w A2 nb (limbs b)) (hna : na ≤ 900) (hnb : nb ≤ 900) (hb0 : 0 < b) (hs : ((na : Int) == 1) = false ∨ (((na : Int) == 1) = true ∧ ((nb : Int) == 1) = false)) :
    Calls Tryz.prog 93 #[.slice A na ca, .slice A2 nb cb] w fun e w' => ∃ A' k c A3 k3 c3, e = .returned (.tuple #[.slice A' k c, .slice A3 k3 c3]) ∧ Own w' w.heap.size (.slice A' k c) (limbs (val a / b)) ∧ Own w' w.heap.size (.slice A3 k3 c3) (limbs (val a % b)) ∧ Below w.heap.size w w' := by
  have hva : val a < 2 ^ (64 * na) := val_lt_bits hra.words (by rw [hra.len]; omega)
  have hblt : b < B64 ^ nb := by have := val_lt (words_limbs b); rwa [val_limbs, hrb.len] at this
  obtain ⟨M, hM⟩ : ∃ M, 64 * na = M := ⟨_, rfl⟩
  rw [hM] at hva
  have hM1 : M ≤ 57600 := by omega
  have w1 : 64 * (na : Int) = (M : Int) := by omega
  have w2 : IntKind.i64.wrap (64 * (na : Int)) = (M : Int) := by rw [IntKind.wrap_i64]; omega
  have w3 : wrap64 (64 * (na : Int)) = (M : Int) := by rw [w1]; exact IntWalk.wrap64_in _ ⟨by omega, by omega⟩
  have hmk := fun W => run_make_row' (P := Tryz.prog) 131 3 (.int .i64 0) 8 Tryz.underlying131 int_info rfl .i64 .i64 M (by omega) (by omega) W
  have hz := owni_zeros w M (by simp only [maxLen]; omega)
  have hB2 := (Below.refl w.heap.size w).alloc (Nat.le_refl _) (.cells (madeCells #[.int .i64 0] M) 3)
  have HVA := Lib.hid hva
  have HBL := Lib.hid hblt
  have HW := Lib.hid hM
  clear hva hblt hM
  have hgz : w.heap.size + 1 ≤ (w.alloc (.cells (madeCells #[.int .i64 0] M) 3)).heap.size := by simp
  have hzr : V_zero (val a) M b := ⟨Nat.div_eq_of_lt HVA.out⟩
  rcases hs with hs1 | ⟨hs1, hs2⟩
  all_goals
    go_enter Tryz.func93, Tryz.ntmps93
    go_wp2
    clear hmk w1 w2 w3 hs1
    try clear hs2
    generalize hW2 : w.alloc (.cells (madeCells #[.int .i64 0] M) 3) = w2 at *
    clear hW2
    go_loopw [6, 9] (fun s i wr => ∃ (k : Nat) (L : List Nat) (A1 : Option Addr) (n1 c1 : Nat), k ≤ M ∧ s = .slice A1 n1 c1 ∧ i = .int .i64 ((k : Int) - 1) ∧ OwnI wr w.heap.size (.slice (some ⟨w.heap.size, 0, none⟩) M M) L ∧ L.length = M ∧ bval L = 2 ^ k * (val a / 2 ^ k / b) ∧ (∀ s, s < k → lim L s = 0) ∧ Own wr (w.heap.size + 1) (.slice A1 n1 c1) (limbs (val a / 2 ^ k % b)) ∧ Below w.heap.size w wr ∧ w.heap.size + 1 ≤ wr.heap.size) (fun _ i _ => (intOf i + 1).toNat)
    case atStart => exact ⟨M, List.replicate M 0, none, 0, 0, Nat.le_refl _, rfl, by go_num, hz, by simp, by rw [bval_zeros, hzr.out]; simp, fun s _ => by simp [lim, List.getD_eq_getElem?_getD, List.getElem?_replicate]; split <;> rfl, by rw [hzr.out, Nat.zero_mod, limbs_zero]; exact own_nil _ _, hB2, hgz⟩
    case round =>
      obtain ⟨k, L, A1, n1, c1, hk, rfl, rfl, hI, hLn, hbv, hzz, ho, hB, hgw⟩ := hrel
      clear hz hB2 hgz hzr
      obtain rfl | ⟨j, rfl⟩ : k = 0 ∨ ∃ j, k = j + 1 := by
        cases k with
        | zero => exact .inl rfl
        | succ j => exact .inr ⟨j, rfl⟩
      · rw [Nat.pow_zero, Nat.div_one, Nat.one_mul] at hbv
        rw [Nat.pow_zero, Nat.div_one] at ho
        obtain ⟨A6, c6, e6, hrI, _, _⟩ := hI.form
        rw [hLn] at e6 hrI
        cases e6
        have HO := Lib.hid ho
        have HBV := Lib.hid hbv
        have hsz := hB.size
        clear ho hbv hzz hI hLn
        go_wp2_with fail
        refine (from_any _ M M L _ hrI (by omega)).mono ?_
        rw [HBV.out]
        rintro e w5 ⟨A5, n5, c5, rfl, o5, hb5⟩
        have HO5 := Lib.hid (own_mono o5 hsz)
        have HO6 := Lib.hid (own_mono (HO.out.below hb5) (Nat.le_succ _))
        have hB5 := below_then hB hb5
        clear o5
        go_wp2_with fail
        go_ret2
        exact ⟨_, _, _, _, _, _, rfl, HO5.out, HO6.out, hB5⟩
      · rw [show (((j + 1 : Nat) : Int) - 1) = (j : Int) by omega]
        obtain ⟨q, hq⟩ : ∃ q, val a / 2 ^ (j + 1) / b = q := ⟨_, rfl⟩
        obtain ⟨r, hr⟩ : ∃ r, val a / 2 ^ (j + 1) % b = r := ⟨_, rfl⟩
        obtain ⟨t, ht⟩ : ∃ t, nbit (val a) j = t := ⟨_, rfl⟩
        have hst := over_step hb0 hq hr ht
        have hrb0 : r < b := by rw [← hr]; exact Nat.mod_lt _ hb0
        have ht2 : t = 0 ∨ t = 1 := by have := nbit_two (val a) j; omega
        rw [hq] at hbv
        rw [hr] at ho
        have hr1 := ho.rd.1
        have hn1 : n1 ≤ nb := by have h1 := ho.rd.2.1; have h2 := limbs_length_le (Nat.lt_trans hrb0 HBL.out); omega
        have hl2 : (limbs (r * 2 ^ 1)).length ≤ nb + 1 := limbs_length_le (double_lt hrb0 HBL.out (Nat.zero_le _))
        have hl3 : (limbs (r * 2 ^ 1 + 1)).length ≤ nb + 1 := limbs_length_le (double_lt hrb0 HBL.out (Nat.le_refl _))
        have hra2 := hra.below hB
        have hrb2 := hrb.below hB
        have HI := Lib.hid hI
        have HLN := Lib.hid hLn
        have HZ := Lib.hid hzz
        have HT := Lib.hid ht
        have HL2 := Lib.hid hl2
        have HL3 := Lib.hid hl3
        have hj : j < M := by omega
        have hz0 := hzz j (by omega)
        have hgw2 : w.heap.size + 1 ≤ wr.heap.size := hgw
        clear hq hr ht hI hLn hzz ho hl2 hl3
        rcases ht2 with rfl | rfl

        · rcases Nat.lt_or_ge (r * 2 + 0) b with hlt | hge
          · obtain ⟨hnv, hnr⟩ := hst.1 hlt
            rw [Nat.add_zero] at hnr hlt
            have hbn : bval L = 2 ^ j * (val a / 2 ^ j / b) := by rw [hbv, hnv, Nat.pow_succ, Nat.mul_assoc]
            have hnr2 : val a / 2 ^ j % b = r * 2 ^ 1 := by rw [Nat.pow_one]; exact hnr
            have HNV := Lib.hid hbn
            have HNR := Lib.hid hnr2
            have HC : Hid (cmp3 (r * 2 ^ 1) b = -1) := cmp3_lt (by rw [Nat.pow_one]; exact hlt)
            clear hst hnv hnr hbn hnr2 hbv hz0 hlt hrb0
            go_wp2_with fail
            refine (rTimes_any A1 n1 c1 (limbs r) _ 1 hr1 (by omega) (by omega)).mono ?_
            rw [val_limbs]
            rintro e w3 ⟨A3, n3, c3, rfl, o3, hb3⟩
            have l3 : n3 ≤ 902 := by have h1 := o3.rd.2.1; have h2 := HL2.out; omega
            have hra3 := hra2.below hb3
            have hrb3 := hrb2.below hb3
            have hI3 := HI.out.below hb3
            replace o3 := own_mono o3 hgw
            have hB3 := below_then hB hb3
            have hg3 := Nat.le_trans hgw hb3.size
            clear hb3 hr1
            go_wp2_with fail
            refine (rAt_any A na ca a _ j hra3 (by omega) (by omega)).mono ?_
            rw [HT.out]
            rintro e wq ⟨rfl, rfl⟩
            go_wp2_with fail
            refine (rCompared_any A3 A2 n3 c3 nb cb (limbs (r * 2 ^ 1)) (limbs b) _ o3.rd.1 hrb3 (by omega) (by omega)).mono ?_
            rw [val_limbs, val_limbs, HC.out]
            rintro e wq ⟨rfl, rfl⟩
            have HO := Lib.hid o3
            have HI3 := Lib.hid hI3
            clear o3 hI3 hra3 hrb3
            go_wp2_with fail
            go_roundw
            case rel => exact ⟨j, L, A3, n3, c3, by omega, rfl, by go_num, HI3.out, HLN.out, HNV.out, fun s hs => HZ.out s (by omega), by rw [HNR.out]; exact HO.out, hB3, hg3⟩
            case measure => first | (simp [intOf]; done) | (simp [intOf]; omega)
          · obtain ⟨hnv, hnr⟩ := hst.2 hge
            rw [Nat.add_zero] at hnr hge
            have hbn : bval (L.set j 1) = 2 ^ j * (val a / 2 ^ j / b) := by rw [bval_set (by rw [HLN.out]; exact hj) hz0, hbv, hnv, Nat.pow_succ, Nat.mul_add, Nat.mul_one, Nat.mul_assoc]
            have HGE : Hid (b ≤ r * 2 ^ 1) := by show b ≤ r * 2 ^ 1; rw [Nat.pow_one]; exact hge
            have hnr2 : val a / 2 ^ j % b = r * 2 ^ 1 - b := by rw [Nat.pow_one]; exact hnr
            have HNV := Lib.hid hbn
            have HNR := Lib.hid hnr2
            rcases cmp3_ge HGE.out with hcm | hcm
            all_goals
              have HC := Lib.hid hcm
              clear hcm hst hnv hnr hbn hnr2 hbv hz0 hge hrb0
              go_wp2_with fail
              refine (rTimes_any A1 n1 c1 (limbs r) _ 1 hr1 (by omega) (by omega)).mono ?_
              rw [val_limbs]
              rintro e w3 ⟨A3, n3, c3, rfl, o3, hb3⟩
              have l3 : n3 ≤ 902 := by have h1 := o3.rd.2.1; have h2 := HL2.out; omega
              have hra3 := hra2.below hb3
              have hrb3 := hrb2.below hb3
              have hI3 := HI.out.below hb3
              replace o3 := own_mono o3 hgw
              have hB3 := below_then hB hb3
              have hg3 := Nat.le_trans hgw hb3.size
              clear hb3 hr1
              go_wp2_with fail
              refine (rAt_any A na ca a _ j hra3 (by omega) (by omega)).mono ?_
              rw [HT.out]
              rintro e wq ⟨rfl, rfl⟩
              go_wp2_with fail
              refine (rCompared_any A3 A2 n3 c3 nb cb (limbs (r * 2 ^ 1)) (limbs b) _ o3.rd.1 hrb3 (by omega) (by omega)).mono ?_
              rw [val_limbs, val_limbs, HC.out]
              rintro e wq ⟨rfl, rfl⟩
              go_wp2_with fail
              refine (rRest_any A3 A2 n3 c3 nb cb (limbs (r * 2 ^ 1)) (limbs b) _ o3.rd.1 hrb3 (by omega) (by omega) (by rw [val_limbs, val_limbs]; exact HGE.out)).mono ?_
              rw [val_limbs, val_limbs]
              rintro e w5 ⟨A5, n5, c5, rfl, o5, hb5⟩
              replace hI3 := hI3.below hb5
              have hB5 := below_then hB3 hb5
              have hg5 := Nat.le_trans hg3 hb5.size
              replace o5 := own_mono o5 hg3
              have hc := (owni_cell hI3 (i := j) (by omega)).1
              have hf := (owni_cell hI3 (i := j) (by omega)).2
              have HO5 := Lib.hid o5
              have HI3 := Lib.hid hI3
              clear o5 hI3 hb5 o3 hra3 hrb3 hB3 hg3
              go_wp2_with fail
              go_roundw
              case rel => exact ⟨j, L.set j 1, A5, n5, c5, by omega, rfl, by go_num, owni_set (v := 1) HI3.out (Nat.le_refl _), by rw [List.length_set]; exact HLN.out, HNV.out, fun s hs => by rw [lim_set (by rw [HLN.out]; omega), if_neg (by omega)]; exact HZ.out s (by omega), by rw [HNR.out]; exact own_far HO5.out (Nat.lt_succ_self _) _, hB5.setCell (p := ⟨w.heap.size, j, none⟩) (Nat.le_refl _) _, by rw [World.size_setCell]; exact hg5⟩
              case measure => first | (simp [intOf]; done) | (simp [intOf]; omega)
        · rcases Nat.lt_or_ge (r * 2 + 1) b with hlt | hge
          · obtain ⟨hnv, hnr⟩ := hst.1 hlt
            have hbn : bval L = 2 ^ j * (val a / 2 ^ j / b) := by rw [hbv, hnv, Nat.pow_succ, Nat.mul_assoc]
            have hnr2 : val a / 2 ^ j % b = r * 2 ^ 1 + 1 := by rw [Nat.pow_one]; exact hnr
            have HNV := Lib.hid hbn
            have HNR := Lib.hid hnr2
            have HC : Hid (cmp3 (r * 2 ^ 1 + 1) b = -1) := cmp3_lt (by rw [Nat.pow_one]; exact hlt)
            clear hst hnv hnr hbn hnr2 hbv hz0 hlt hrb0
            go_wp2_with fail
            refine (rTimes_any A1 n1 c1 (limbs r) _ 1 hr1 (by omega) (by omega)).mono ?_
            rw [val_limbs]
            rintro e w3 ⟨A3, n3, c3, rfl, o3, hb3⟩
            have l3 : n3 ≤ 902 := by have h1 := o3.rd.2.1; have h2 := HL2.out; omega
            have hra3 := hra2.below hb3
            have hrb3 := hrb2.below hb3
            have hI3 := HI.out.below hb3
            replace o3 := own_mono o3 hgw
            have hB3 := below_then hB hb3
            have hg3 := Nat.le_trans hgw hb3.size
            clear hb3 hr1
            go_wp2_with fail
            refine (rAt_any A na ca a _ j hra3 (by omega) (by omega)).mono ?_
            rw [HT.out]
            rintro e wq ⟨rfl, rfl⟩
            go_wp2_with fail
            refine (rSum_any A3 _ n3 c3 1 1 (limbs (r * 2 ^ 1)) [1] _ (o3.rd.1.alloc _) (rd_new1 _ 1 _ B64_gt) (by omega) (by omega)).mono ?_
            rw [val_limbs, one_val]
            rintro e w4 ⟨A4, n4, c4, rfl, o4, hb4⟩
            have l4 : n4 ≤ 902 := by have h1 := o4.rd.2.1; have h2 := HL3.out; omega
            replace hb4 := below_new hb4
            replace hra3 := hra3.below hb4
            replace hrb3 := hrb3.below hb4
            replace hI3 := hI3.below hb4
            have hB4 := below_then hB3 hb4
            have hg4 := Nat.le_trans hg3 hb4.size
            replace o4 := own_mono o4 (show w.heap.size + 1 ≤ _ by rw [World.size_alloc]; omega)
            clear hb4 o3 l3 hB3 hg3
            go_wp2_with fail
            refine (rCompared_any A4 A2 n4 c4 nb cb (limbs (r * 2 ^ 1 + 1)) (limbs b) _ o4.rd.1 hrb3 (by omega) (by omega)).mono ?_
            rw [val_limbs, val_limbs, HC.out]
            rintro e wq ⟨rfl, rfl⟩
            have HO := Lib.hid o4
            have HI3 := Lib.hid hI3
            clear o4 hI3 hra3 hrb3
            go_wp2_with fail
            go_roundw
            case rel => exact ⟨j, L, A4, n4, c4, by omega, rfl, by go_num, HI3.out, HLN.out, HNV.out, fun s hs => HZ.out s (by omega), by rw [HNR.out]; exact HO.out, hB4, hg4⟩
            case measure => first | (simp [intOf]; done) | (simp [intOf]; omega)
          · obtain ⟨hnv, hnr⟩ := hst.2 hge
            have hbn : bval (L.set j 1) = 2 ^ j * (val a / 2 ^ j / b) := by rw [bval_set (by rw [HLN.out]; exact hj) hz0, hbv, hnv, Nat.pow_succ, Nat.mul_add, Nat.mul_one, Nat.mul_assoc]
            have HGE : Hid (b ≤ r * 2 ^ 1 + 1) := by show b ≤ r * 2 ^ 1 + 1; rw [Nat.pow_one]; exact hge
            have hnr2 : val a / 2 ^ j % b = r * 2 ^ 1 + 1 - b := by rw [Nat.pow_one]; exact hnr
            have HNV := Lib.hid hbn
            have HNR := Lib.hid hnr2
            rcases cmp3_ge HGE.out with hcm | hcm
            all_goals
              have HC := Lib.hid hcm
              clear hcm hst hnv hnr hbn hnr2 hbv hz0 hge hrb0
              go_wp2_with fail
              refine (rTimes_any A1 n1 c1 (limbs r) _ 1 hr1 (by omega) (by omega)).mono ?_
              rw [val_limbs]
              rintro e w3 ⟨A3, n3, c3, rfl, o3, hb3⟩
              have l3 : n3 ≤ 902 := by have h1 := o3.rd.2.1; have h2 := HL2.out; omega
              have hra3 := hra2.below hb3
              have hrb3 := hrb2.below hb3
              have hI3 := HI.out.below hb3
              replace o3 := own_mono o3 hgw
              have hB3 := below_then hB hb3
              have hg3 := Nat.le_trans hgw hb3.size
              clear hb3 hr1
              go_wp2_with fail
              refine (rAt_any A na ca a _ j hra3 (by omega) (by omega)).mono ?_
              rw [HT.out]
              rintro e wq ⟨rfl, rfl⟩
              go_wp2_with fail
              refine (rSum_any A3 _ n3 c3 1 1 (limbs (r * 2 ^ 1)) [1] _ (o3.rd.1.alloc _) (rd_new1 _ 1 _ B64_gt) (by omega) (by omega)).mono ?_
              rw [val_limbs, one_val]
              rintro e w4 ⟨A4, n4, c4, rfl, o4, hb4⟩
              have l4 : n4 ≤ 902 := by have h1 := o4.rd.2.1; have h2 := HL3.out; omega
              replace hb4 := below_new hb4
              replace hra3 := hra3.below hb4
              replace hrb3 := hrb3.below hb4
              replace hI3 := hI3.below hb4
              have hB4 := below_then hB3 hb4
              have hg4 := Nat.le_trans hg3 hb4.size
              replace o4 := own_mono o4 (show w.heap.size + 1 ≤ _ by rw [World.size_alloc]; omega)
              clear hb4 o3 l3 hB3 hg3
              go_wp2_with fail
              refine (rCompared_any A4 A2 n4 c4 nb cb (limbs (r * 2 ^ 1 + 1)) (limbs b) _ o4.rd.1 hrb3 (by omega) (by omega)).mono ?_
              rw [val_limbs, val_limbs, HC.out]
              rintro e wq ⟨rfl, rfl⟩
              go_wp2_with fail
              refine (rRest_any A4 A2 n4 c4 nb cb (limbs (r * 2 ^ 1 + 1)) (limbs b) _ o4.rd.1 hrb3 (by omega) (by omega) (by rw [val_limbs, val_limbs]; exact HGE.out)).mono ?_
              rw [val_limbs, val_limbs]
              rintro e w5 ⟨A5, n5, c5, rfl, o5, hb5⟩
              replace hI3 := hI3.below hb5
              have hB5 := below_then hB4 hb5
              have hg5 := Nat.le_trans hg4 hb5.size
              replace o5 := own_mono o5 hg4
              have hc := (owni_cell hI3 (i := j) (by omega)).1
              have hf := (owni_cell hI3 (i := j) (by omega)).2
              have HO5 := Lib.hid o5
              have HI3 := Lib.hid hI3
              clear o5 hI3 hb5 o4 hra3 hrb3 hB4 hg4
              go_wp2_with fail
              go_roundw
              case rel => exact ⟨j, L.set j 1, A5, n5, c5, by omega, rfl, by go_num, owni_set (v := 1) HI3.out (Nat.le_refl _), by rw [List.length_set]; exact HLN.out, HNV.out, fun s hs => by rw [lim_set (by rw [HLN.out]; omega), if_neg (by omega)]; exact HZ.out s (by omega), by rw [HNR.out]; exact own_far HO5.out (Nat.lt_succ_self _) _, hB5.setCell (p := ⟨w.heap.size, j, none⟩) (Nat.le_refl _) _, by rw [World.size_setCell]; exact hg5⟩
              case measure => first | (simp [intOf]; done) | (simp [intOf]; omega)

theorem quo_word {x y q r : Nat} (hx : x < B64) (hq : x / y = q) (hr : x % y = r) : Int.tdiv (x : Int) (y : Int) = (q : Int) ∧ (x : Int) / (y : Int) = (q : Int) ∧ Int.tmod (x : Int) (y : Int) = (r : Int) ∧ (x : Int) % (y : Int) = (r : Int) ∧ IntKind.u64.wrap (q : Int) = (q : Int) ∧ IntKind.u64.wrap (r : Int) = (r : Int) ∧ q < B64 ∧ r < B64 := by
  have h1 : q < B64 := by rw [← hq]; exact Nat.lt_of_le_of_lt (Nat.div_le_self _ _) hx
  have h2 : r < B64 := by rw [← hr]; exact Nat.lt_of_le_of_lt (Nat.mod_le _ _) hx
  have e1 : (x : Int) / (y : Int) = (q : Int) := by rw [← hq]; simp
  have e2 : (x : Int) % (y : Int) = (r : Int) := by rw [← hr]; simp
  refine ⟨?_, e1, ?_, e2, ?_, ?_, h1, h2⟩
  · rw [Int.tdiv_eq_ediv_of_nonneg (by omega)]; exact e1
  · rw [Int.tmod_eq_emod_of_nonneg (by omega)]; exact e2
  · rw [IntKind.wrap_u64]; rw [B64_eq] at h1; omega
  · rw [IntKind.wrap_u64]; rw [B64_eq] at h2; omega

theorem rOf_keep (x : Nat) (hx : x < B64) (p p2 : Addr) (u u2 : Value) (h1 : w.cell? p = some u) (h2 : w.cell? p2 = some u2) :
    Calls Tryz.prog 119 #[.int .u64 (x : Int)] w fun e w' => ∃ A' k c, e = .returned (.slice A' k c) ∧ Own w' w.heap.size (.slice A' k c) (limbs x) ∧ Below w.heap.size w w' ∧ w'.cell? p = some u ∧ w'.cell? p2 = some u2 :=
  (rOf_any w x hx).mono fun e w' ⟨A', k, c, he, ho, hb⟩ => ⟨A', k, c, he, ho, hb, (hb.cell (cell_lt h1)).trans h1, (hb.cell (cell_lt h2)).trans h2⟩

set_option maxRecDepth 100000 in
set_option maxHeartbeats 4000000 in
theorem over_word (x y : Nat) (hra : Rd w A 1 [x]) (hrb : Rd w A2 1 [y]) (hy : y ≠ 0) :
    Calls Tryz.prog 93 #[.slice A 1 ca, .slice A2 1 cb] w fun e w' => ∃ A' k c A3 k3 c3, e = .returned (.tuple #[.slice A' k c, .slice A3 k3 c3]) ∧ Own w' w.heap.size (.slice A' k c) (limbs (x / y)) ∧ Own w' w.heap.size (.slice A3 k3 c3) (limbs (x % y)) ∧ Below w.heap.size w w' := by
  obtain ⟨b1, o1, rfl, hl1, hc1⟩ := hra.cells (by omega)
  obtain ⟨b2, o2, rfl, hl2, hc2⟩ := hrb.cells (by omega)
  have hcx : w.cell? ⟨b1, o1, none⟩ = some (u64 x) := hc1 0 (by omega)
  have hcy : w.cell? ⟨b2, o2, none⟩ = some (u64 y) := hc2 0 (by omega)
  obtain ⟨q, hq⟩ : ∃ q, x / y = q := ⟨_, rfl⟩
  obtain ⟨r, hr⟩ : ∃ r, x % y = r := ⟨_, rfl⟩
  obtain ⟨f1, f2, f3, f4, f5, f6, hq1, hr1⟩ := quo_word (hra.words.head) hq hr
  have hy1 : ¬ ((y : Int) = 0) := by omega
  have hy2 : ((y : Int) == 0) = false := by simp; omega
  rw [hq, hr]
  clear hc1 hc2 hra hrb hq hr
  go_enter Tryz.func93, Tryz.ntmps93
  go_wp2
  go_region_held3 (fun w' => w'.cell? ⟨b1, o1, none⟩ = some (u64 x) ∧ w'.cell? ⟨b2, o2, none⟩ = some (u64 y)) (go_keep)
    (first
      | (go_at_call_of 119 (Value.int IntKind.u64 (q : Int)); refine (rOf_keep _ q hq1 ⟨b1, o1, none⟩ ⟨b2, o2, none⟩ (u64 x) (u64 y) ?_ ?_).mono ?_; (simp [*]); (simp [*]); rintro e w3 ⟨A3, k3, c3, rfl, o3, hb3, s1, s2⟩)
      | (go_at_call_of 119 (Value.int IntKind.u64 (r : Int)); refine (rOf_keep _ r hr1 ⟨b1, o1, none⟩ ⟨b2, o2, none⟩ (u64 x) (u64 y) ?_ ?_).mono ?_; (simp [*]); (simp [*]); rintro e w4 ⟨A4, k4, c4, rfl, o4, hb4, s3, s4⟩))
  all_goals
    go_wp2
    go_ret2
    exact ⟨_, _, _, _, _, _, rfl, o3.below hb4, own_mono o4 hb3.size, (Below.refl w.heap.size w).drew.trans (below_then hb3 hb4)⟩
end
end Go.Proofs.YtbldimplddiheaaGreatDoor
