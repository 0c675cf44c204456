import Derived.Lib.ItoaNum
import Derived.Test.YthenngajebkboaaK11
/- Texts of one proof, one behind another: Long Bit Alive Sums Cmp Order Bits RefMay BitLaw Names RefA RefFrom RefGo. -/
namespace Go.Proofs.Ythenngajebkboaa
open Go.RowKit Go.Shelf
set_option linter.unusedVariables false
set_option linter.unusedSimpArgs false

/-- How many bits a number has. -/
def blen (v : Nat) : Nat := if v = 0 then 0 else Nat.log2 v + 1
theorem blen_zero : blen 0 = 0 := rfl
theorem blen_eq {v k : Nat} (h1 : 2 ^ k ≤ v) (h2 : v < 2 ^ (k + 1)) : blen v = k + 1 := by
  have h0 : v ≠ 0 := by have := Nat.two_pow_pos k; omega
  unfold blen
  rw [if_neg h0]
  have a1 := (Nat.le_log2 h0).2 h1
  have a2 := (Nat.log2_lt h0).2 h2
  omega
theorem blen_pos {v : Nat} (h : v ≠ 0) : 2 ^ (blen v - 1) ≤ v ∧ v < 2 ^ blen v ∧ 1 ≤ blen v := by
  unfold blen
  rw [if_neg h]
  exact ⟨by simpa using Nat.log2_self_le h, Nat.lt_log2_self, by omega⟩
theorem blen_lt (v : Nat) : v < 2 ^ blen v := by
  by_cases h : v = 0
  · subst h; simp [blen]
  · exact (blen_pos h).2.1
theorem blen_le {v k : Nat} (h : v < 2 ^ k) : blen v ≤ k := by
  by_cases h0 : v = 0
  · subst h0; simp [blen]
  · have h1 := (blen_pos h0).1
    have h2 := (blen_pos h0).2.2
    have h3 : 2 ^ (blen v - 1) < 2 ^ k := Nat.lt_of_le_of_lt h1 h
    have := (Nat.pow_lt_pow_iff_right (a := 2) (by omega)).1 h3
    omega
theorem blen_limbs {a : List Nat} {n : Nat} (hw : Words a) (hn : a.length = n + 1) (hx : lim a n ≠ 0) : blen (val a) = 64 * n + Lib.bitLen (lim a n) := by
  have hlt : lim a n < 2 ^ 64 := hw.get n
  obtain ⟨h1, h2, h3⟩ := Lib.bitLenAux_bounds 64 (lim a n) hlt hx
  have e : val a = val (a.take n) + B64 ^ n * lim a n := by rw [← val_take_succ, val_take_all (by omega)]
  have h4 : val (a.take n) < B64 ^ n := Nat.lt_of_lt_of_le (val_lt (hw.take n)) (Nat.pow_le_pow_right B64_pos (by rw [List.length_take]; omega))
  have hB : B64 ^ n = 2 ^ (64 * n) := by rw [Nat.pow_mul]; rfl
  show _ = 64 * n + Lib.bitLenAux 64 (lim a n)
  generalize Lib.bitLenAux 64 (lim a n) = L at *
  obtain ⟨M, rfl⟩ : ∃ M, L = M + 1 := ⟨L - 1, by omega⟩
  simp only [Nat.add_sub_cancel] at h2
  rw [← Nat.add_assoc]
  apply blen_eq
  · rw [e, hB, Nat.pow_add]
    exact Nat.le_trans (Nat.mul_le_mul_left _ h2) (Nat.le_add_left _ _)
  · rw [e, hB, Nat.add_assoc, Nat.pow_add]
    rw [hB] at h4
    have h5 : 2 ^ (64 * n) * (lim a n + 1) ≤ 2 ^ (64 * n) * 2 ^ (M + 1) := Nat.mul_le_mul_left _ h3
    rw [Nat.mul_add] at h5
    omega

/-- The bit i. -/
def nbit (v i : Nat) : Nat := v / 2 ^ i % 2
theorem nbit_limb {a : List Nat} (hw : Words a) (i : Nat) : lim a (i / 64) / 2 ^ (i % 64) % 2 = nbit (val a) i := by
  unfold nbit
  have hi : i = 64 * (i / 64) + i % 64 := by omega
  have hr : i % 64 < 64 := by omega
  generalize i / 64 = q at *
  generalize i % 64 = r at *
  subst hi
  rw [lim_val hw, Nat.pow_add, Nat.pow_mul, ← Nat.div_div_eq_div_mul]
  show val a / B64 ^ q % B64 / 2 ^ r % 2 = val a / B64 ^ q / 2 ^ r % 2
  generalize val a / B64 ^ q = v
  have e : B64 = 2 ^ r * 2 ^ (64 - r) := by rw [Nat.mul_comm]; exact B64_split (by omega)
  rw [e, Nat.mod_mul_right_div_self]
  have e2 : (2 : Nat) ^ (64 - r) = 2 * 2 ^ (63 - r) := by rw [show 64 - r = 63 - r + 1 by omega, Nat.pow_succ, Nat.mul_comm]
  rw [e2, Nat.mod_mul_right_mod]

theorem blen_shift {v b : Nat} (h : v ≠ 0) : blen (v * 2 ^ b) = blen v + b := by
  obtain ⟨h1, h2, h3⟩ := blen_pos h
  obtain ⟨k, hk⟩ : ∃ k, blen v = k + 1 := ⟨blen v - 1, by omega⟩
  rw [hk] at h1 h2 ⊢
  rw [show k + 1 + b = (k + b) + 1 by omega]
  apply blen_eq
  · rw [Nat.pow_add]; exact Nat.mul_le_mul_right _ (by simpa using h1)
  · rw [show k + b + 1 = (k + 1) + b by omega, Nat.pow_add]; exact Nat.mul_lt_mul_of_pos_right h2 (Nat.two_pow_pos b)
end Go.Proofs.Ythenngajebkboaa

namespace Go.Proofs.Ythenngajebkboaa
open Go.RowKit Go.Shelf
set_option linter.unusedVariables false
set_option linter.unusedSimpArgs false

set_option maxHeartbeats 1000000 in
/-- nat.Of. -/
theorem of_any (x : Nat) (w : World) (hx : x < B64) :
    Calls Try.prog 22 #[u64 x] w fun e w' => ∃ A' k c, e = .returned (.slice A' k c) ∧ Own w' w.heap.size (.slice A' k c) (limbs x) ∧ Below w.heap.size w w' := by
  have hrow : RowL (w.alloc (.cells #[u64 x] 27)) w.heap.size [x] := World.alloc_heap_new w _
  have hown := hrow.own (B := w.heap.size) (Nat.le_refl _) (words_cons hx words_nil) (n := 1) rfl (by simp only [maxLen]; omega)
  have HO := Lib.hid hown
  clear hown hrow
  go_enter Try.func22, Try.ntmps22
  go_wp2_with (go_at_call 32; refine (trim_any (some ⟨w.heap.size, 0, none⟩) 1 1 [x] _ HO.out.rd.1 (by omega) (by omega)).mono ?_; rintro e w' ⟨⟨k2, hk2, rfl, ht⟩, rfl⟩; have HT := Lib.hid ht; clear ht)
  go_ret
  refine ⟨_, k2, _, rfl, ?_, (Below.refl _ _).alloc (Nat.le_refl _) _⟩
  have e : val [x] = x := by simp [val]
  have h := own_trim HO.out hk2
  rw [HT.out, e] at h
  exact h

set_option maxRecDepth 100000 in
set_option maxHeartbeats 1000000 in
theorem up_bad (A : Option Addr) (na ca : Nat) (a : List Nat) (bits : Int) (w : World) (hra : Rd w A na a) (hna : na ≤ 4294967296) (hm : may a = false) :
    Calls Try.prog 58 #[.slice A na ca, .int .i64 bits] w fun e w' => e = .returned (.tuple #[.slice none 0 0, .int .i64 8]) ∧ Below w.heap.size w w' := by
  go_enter Try.func58, Try.ntmps58
  go_wp2_with (go_at_call 62; refine (mayShift_bad A na ca a bits _ hra hna hm).mono ?_; rintro e w1 ⟨rfl, hb1⟩)
  go_ret2
  exact ⟨rfl, hb1⟩

set_option maxRecDepth 100000 in
set_option maxHeartbeats 1000000 in
theorem up_arg (A : Option Addr) (na ca : Nat) (a : List Nat) (bits : Int) (w : World) (hra : Rd w A na a) (hna : na ≤ 4294967296) (hm : may a = true) (hb : bits < 0 ∨ 65536 < bits) :
    Calls Try.prog 58 #[.slice A na ca, .int .i64 bits] w fun e w' => e = .returned (.tuple #[.slice none 0 0, .int .i64 2]) ∧ Below w.heap.size w w' := by
  go_enter Try.func58, Try.ntmps58
  go_wp2_with (go_at_call 62; refine (mayShift_arg A na ca a bits _ hra hna hm hb).mono ?_; rintro e w1 ⟨rfl, hb1⟩)
  go_ret2
  exact ⟨rfl, hb1⟩

set_option maxRecDepth 100000 in
set_option maxHeartbeats 1000000 in
theorem down_bad (A : Option Addr) (na ca : Nat) (a : List Nat) (bits : Int) (w : World) (hra : Rd w A na a) (hna : na ≤ 4294967296) (hm : may a = false) :
    Calls Try.prog 44 #[.slice A na ca, .int .i64 bits] w fun e w' => e = .returned (.tuple #[.slice none 0 0, .int .i64 8]) ∧ Below w.heap.size w w' := by
  go_enter Try.func44, Try.ntmps44
  go_wp2_with (go_at_call 62; refine (mayShift_bad A na ca a bits _ hra hna hm).mono ?_; rintro e w1 ⟨rfl, hb1⟩)
  go_ret2
  exact ⟨rfl, hb1⟩

set_option maxRecDepth 100000 in
set_option maxHeartbeats 1000000 in
theorem down_arg (A : Option Addr) (na ca : Nat) (a : List Nat) (bits : Int) (w : World) (hra : Rd w A na a) (hna : na ≤ 4294967296) (hm : may a = true) (hb : bits < 0 ∨ 65536 < bits) :
    Calls Try.prog 44 #[.slice A na ca, .int .i64 bits] w fun e w' => e = .returned (.tuple #[.slice none 0 0, .int .i64 2]) ∧ Below w.heap.size w w' := by
  go_enter Try.func44, Try.ntmps44
  go_wp2_with (go_at_call 62; refine (mayShift_arg A na ca a bits _ hra hna hm hb).mono ?_; rintro e w1 ⟨rfl, hb1⟩)
  go_ret2
  exact ⟨rfl, hb1⟩
end Go.Proofs.Ythenngajebkboaa

namespace Go.Proofs.Ythenngajebkboaa
open Go.RowKit Go.Shelf


theorem sum_top : limbs (val [top] + val [1]) = [0, 1] := by
  have e : val [top] + val [1] = val [0, 1] := by simp [val, B64_eq, top]
  rw [e]
  exact limbs_val (words_cons B64_pos (words_cons B64_gt words_nil)) rfl
theorem rest_top : limbs (val [0, 1] - val [1]) = [top] := by
  have e : val [0, 1] - val [1] = val [top] := by simp [val, B64_eq, top]
  rw [e]
  exact limbs_val (words_cons top_lt words_nil) rfl
theorem may_top : [[top], [1]].all may = true := rfl
theorem val_01 : val [1] ≤ val [0, 1] := by simp [val, B64_eq]

end Go.Proofs.Ythenngajebkboaa

namespace Go.Proofs.Ythenngajebkboaa
open Go.RowKit Go.Shelf



section
variable (A A2 A3 : Option Addr) (na ca nb cb nc cc : Nat) (a b c : List Nat) (w : World)

end
end Go.Proofs.Ythenngajebkboaa

namespace Go.Proofs.Ythenngajebkboaa
open Go.RowKit Go.Shelf
attribute [local go_sem] Oper.semAt_some
set_option linter.unusedVariables false
set_option linter.unusedSimpArgs false

/-- -1, 0 or 1. -/
def cmp3 (x y : Nat) : Int := if x < y then -1 else if y < x then 1 else 0
theorem cmp3_lt {x y : Nat} (h : x < y) : cmp3 x y = -1 := by unfold cmp3; rw [if_pos h]
theorem cmp3_gt {x y : Nat} (h : y < x) : cmp3 x y = 1 := by unfold cmp3; rw [if_neg (by omega), if_pos h]
theorem cmp3_self (x : Nat) : cmp3 x x = 0 := by unfold cmp3; rw [if_neg (by omega), if_neg (by omega)]
theorem cmp3_high {p a b x y : Nat} (ha : a < p) (hb : b < p) (h : x ≠ y) : cmp3 (a + p * x) (b + p * y) = cmp3 x y := by
  rcases Nat.lt_or_gt_of_ne h with h | h
  · have : p * (x + 1) ≤ p * y := Nat.mul_le_mul_left _ h
    rw [Nat.mul_add] at this
    rw [cmp3_lt h, cmp3_lt (by omega)]
  · have : p * (y + 1) ≤ p * x := Nat.mul_le_mul_left _ h
    rw [Nat.mul_add] at this
    rw [cmp3_gt h, cmp3_gt (by omega)]
theorem cmp3_low {p a b x : Nat} : cmp3 (a + p * x) (b + p * x) = cmp3 a b := by
  unfold cmp3
  by_cases h : a < b
  · rw [if_pos h, if_pos (by omega)]
  · rw [if_neg h, if_neg (by omega)]
    by_cases h2 : b < a
    · rw [if_pos h2, if_pos (by omega)]
    · rw [if_neg h2, if_neg (by omega)]

set_option maxHeartbeats 400000 in
theorem compare_any (x y : Nat) (w : World) (hx : x < B64) (hy : y < B64) :
    Calls Try.prog 36 #[u64 x, u64 y] w fun e w' => e = .returned (.int .i64 (cmp3 x y)) ∧ w' = w := by
  clear hx hy
  have e1 : (((x : Nat) : Int) != ((x : Nat) : Int)) = false := by simp
  have e2 : (((y : Nat) : Int) != ((y : Nat) : Int)) = false := by simp
  by_cases h : x < y
  · have HC := Lib.hid (cmp3_lt h)
    go_enter Try.func36, Try.ntmps36
    go_wp2
    go_ret
    exact ⟨by rw [HC.out]; rfl, rfl⟩
  · by_cases h2 : y < x
    · have HC := Lib.hid (cmp3_gt h2)
      go_enter Try.func36, Try.ntmps36
      go_wp2
      go_ret
      exact ⟨by rw [HC.out]; rfl, rfl⟩
    · have HC := Lib.hid (show cmp3 x y = 0 by unfold cmp3; rw [if_neg h, if_neg h2])
      go_enter Try.func36, Try.ntmps36
      go_wp2
      go_ret
      exact ⟨by rw [HC.out]; rfl, rfl⟩

/-- The sign so far: the last pair that parts decides. -/
def signs (ps : List WW) : Int := ps.foldl (fun s x => if x.1.1 = x.1.2 then s else cmp3 x.1.1 x.1.2) 0
theorem signs_snoc (ps : List WW) (x : WW) : signs (ps ++ [x]) = if x.1.1 = x.1.2 then signs ps else cmp3 x.1.1 x.1.2 := by simp [signs, List.foldl_append]
theorem signs_pairs {a b : List Nat} (ha : Words a) (hb : Words b) (k : Nat) : signs (pairs2 ha hb k) = cmp3 (val (a.take k)) (val (b.take k)) := by
  induction k with
  | zero => simp [pairs2, signs, val, cmp3_self]
  | succ k ih =>
    rw [pairs2_succ, signs_snoc, val_take_succ, val_take_succ]
    have h1 : val (a.take k) < B64 ^ k := Nat.lt_of_lt_of_le (val_lt (ha.take k)) (Nat.pow_le_pow_right B64_pos (by rw [List.length_take]; omega))
    have h2 : val (b.take k) < B64 ^ k := Nat.lt_of_lt_of_le (val_lt (hb.take k)) (Nat.pow_le_pow_right B64_pos (by rw [List.length_take]; omega))
    split
    · rename_i h
      simp only at h
      rw [h, cmp3_low, ih]
    · rename_i h
      rw [cmp3_high h1 h2 h]

/-- What the rounds of nat.Cmp hand on. -/
def CmpI (w : World) (q : Nat) (pre : List WW) (W : World) : Prop :=
  Boxed W (w.heap.size + 1) 3 (.int .i64 (signs pre)) ∧ Below w.heap.size w W ∧ q ≤ W.heap.size
theorem cmpI_own (w : World) (q B : Nat) (hB : w.heap.size ≤ B) : OwnFrom B (CmpI w q) :=
  OwnFrom.and (Own.from (boxed_own (w.heap.size + 1) 3 (fun pre : List WW => .int .i64 (signs pre))) _) (OwnFrom.and (ownFrom_below (Nat.le_refl _) hB) fun s W W' row hs hg _ => Nat.le_trans hs hg.size)

set_option maxRecDepth 100000 in
set_option maxHeartbeats 4000000 in
/-- nat.Cmp. -/
theorem cmp_ok (A A2 : Option Addr) (na ca nb cb : Nat) (a b : List Nat) (w : World) (hra : Rd w A na a) (hrb : Rd w A2 nb b) (hna : na ≤ 4294967296) (hnb : nb ≤ 4294967296) (hmm : [a, b].all may = true) :
    Calls Try.prog 21 #[.slice A na ca, .slice A2 nb cb] w fun e w' => e = .returned (.tuple #[.int .i64 (cmp3 (val a) (val b)), .int .i64 0]) ∧ Below w.heap.size w w' := by
  obtain ⟨m, hm⟩ : ∃ m, m = max na nb := ⟨_, rfl⟩
  have hr := rows2_two (ca := ca) (cb := cb) hra hrb (by omega) (by omega) 23
  have hwa := hra.words
  have hwb := hrb.words
  have hsig := signs_pairs hwa hwb m
  rw [val_take_all (by rw [hra.len]; omega), val_take_all (by rw [hrb.len]; omega)] at hsig
  refine (callsIn_wide (n := 8)).1 ?_
  refine callsIn_of_wp_marks Try.func21 rfl trivial ?_ rfl
  simp only [Try.ntmps21, List.size_toArray, List.length_cons, List.length_nil, Nat.reduceAdd, Nat.reduceSub, Array.replicate_succ, Array.replicate_zero, List.push_toArray, List.append_toArray, List.nil_append, List.cons_append]
  have HR := Lib.hid hr
  have HM := Lib.hid hmm
  have hM := Lib.hid hm
  have HA := Lib.hid hra
  have HB := Lib.hid hrb
  have HS := Lib.hid hsig
  clear hr hmm hm hra hrb hsig
  gi_wp2_with (refine ⟨trivial, ?_⟩; gi_at_call 29; refine (callsIn_wide.2 (mayBe_any w.heap.size 0 2 2 [a, b] _ HR.out rfl (by omega))).mono ?_; rw [show bad [a, b] = 0 by unfold bad; rw [if_pos HM.out]]; rintro e w' ⟨rfl, rfl⟩)
  refine ⟨trivial, (callsIn_wide.2 (pairs_any A A2 na ca nb cb _)).mono ?_⟩
  rintro e w' ⟨rfl, rfl⟩
  gi_wp2
  obtain ⟨w2, hw2⟩ : ∃ w2, w2 = (w.alloc (.cells #[.slice A na ca, .slice A2 nb cb] 23)).alloc (.cells #[.int .i64 0] 3) := ⟨_, rfl⟩
  have hB1 : Below w.heap.size w w2 := by rw [hw2]; exact ((Below.refl _ w).alloc (Nat.le_refl _) _).alloc (by simp) _
  have bS : Boxed w2 (w.heap.size + 1) 3 (.int .i64 0) := by
    have := Boxed.new (w.alloc (.cells #[.slice A na ca, .slice A2 nb cb] 23)) 3 (.int .i64 0)
    rw [World.size_alloc] at this
    rw [hw2]; exact this
  have hq : w2.heap.size = w.heap.size + 1 + 1 := by rw [hw2]; simp
  rw [show (w.heap.size + 1 + 1 : Nat) = w2.heap.size from hq.symm]
  rw [← hw2]
  have hq2 : w.heap.size + 1 < w2.heap.size := by omega
  clear hw2 hq
  have bA := Boxed.new w2 23 (.slice A na ca)
  have bB := Boxed.new (w2.alloc (.cells #[.slice A na ca] 23)) 23 (.slice A2 nb cb)
  rw [World.size_alloc] at bB
  have hB2 : Below w.heap.size w ((w2.alloc (.cells #[.slice A na ca] 23)).alloc (.cells #[.slice A2 nb cb] 23)) := (hB1.alloc (by omega) _).alloc (by simp; omega) _
  refine wpIn_rangeFunc_ownG rfl (by omega) (gf := 53) (lb := #[.pointer (some ⟨w2.heap.size, 0, none⟩), .pointer (some ⟨w2.heap.size + 1, 0, none⟩)]) rfl trivial (enters_of Try.func53 (by kernel_rfl) rfl)
      (pairs_stops (JoinS w.heap.size w2.heap.size) _ w2.heap.size (w2.heap.size + 1) A A2 na ca nb cb m a b hna hnb hM.out (fun h b off e => .inl (HA.out.lt h b off e)) (fun h b off e => .inl (HB.out.lt h b off e)) (.inr (.inl rfl)) (.inr (.inr rfl)) _ (by simp; omega) (bA.alloc _).cell bB.cell (HA.out.below hB2) (HB.out.below hB2))
      KeepsOf.trans ?hkb (Below.refl _ _) (fun _ => rfl)
      (CmpI w (w2.heap.size + 2)) (fun _ _ _ => False) (cmpI_own w _ _ (by simp; omega)) (fun _ _ _ _ _ hs _ _ => hs)
      ⟨(bS.alloc _).alloc _, hB2, by simp⟩ ?_ ?assign ?body ?done ?stop
  case assign =>
    intro l x W K hK
    gi_wp2
    exact hK
  case hkb =>
    intro W l o o' hl ho _ _
    refine ⟨by simp, fun k hk => World.putObj_heap_other (fun e => ?_)⟩
    simp only [World.size_alloc] at hl
    have := hB1.size
    rcases hk with h | rfl | rfl <;> omega
  case body =>
    rintro l pre x W ⟨hv, hBW, hqW⟩ hlt2
    have c1 := hv.cell
    have f1 := hv.frozen
    by_cases he : x.1.1 = x.1.2
    · have hne : (((x.1.1 : Nat) : Int) != ((x.1.2 : Nat) : Int)) = false := by simp [he]
      have HE := Lib.hid he
      clear he
      gi_wp2
      exact ⟨KeepsFrom.refl _ _, KeepsOf.refl _, by rw [signs_snoc, if_pos HE.out]; exact hv, hBW, hqW⟩
    · have hne : (((x.1.1 : Nat) : Int) != ((x.1.2 : Nat) : Int)) = true := by simp; omega
      gi_wp2_with (refine ⟨trivial, ?_⟩; gi_at_call 36; refine (CallsIn.inRound l (callsIn_wide.2 (compare_any x.1.1 x.1.2 W x.2.1 x.2.2))).mono ?_; rintro e w' ⟨rfl, rfl⟩)
      refine ⟨(KeepsOthers.setCell _ _ _).from _, ⟨by simp [World.setCell], fun k hk => Below.heap_setCell _ _ _ k (by rcases hk with h | rfl | rfl <;> simp <;> omega)⟩, by rw [signs_snoc, if_neg he]; exact hv.set _, hBW.setCell (p := ⟨w.heap.size + 1, 0, none⟩) (by simp) _, by rw [World.size_setCell]; exact hqW⟩
  case done =>
    rintro D ys W hD rfl ⟨hv, hBW, hqW⟩ hK
    have c1 := hv.cell
    have hBe := Lib.hid hBW
    clear hBW
    gi_wp2
    refine ⟨by simp, .inl ⟨_, _, rfl, run_takeDeferred hK, ?_⟩⟩
    have hDn : w2.heap.size + 1 + 1 ≤ D := by simpa using hD
    exact ⟨_, results_tmp2 rfl _ _ _, by rw [HS.out]; rfl, hBe.out.grown (grownBy_putObj' W D _) hBe.out.size (fun k e => by cases e; omega)⟩
  case stop =>
    rintro D c pre W _ _ h _
    exact h.elim

set_option maxHeartbeats 1000000 in
/-- nat.Cmp, where one of the numbers may not be. -/
theorem cmp_bad (A A2 : Option Addr) (na ca nb cb : Nat) (a b : List Nat) (w : World) (hra : Rd w A na a) (hrb : Rd w A2 nb b) (hna : na ≤ 4294967296) (hnb : nb ≤ 4294967296) (hmm : [a, b].all may = false) :
    Calls Try.prog 21 #[.slice A na ca, .slice A2 nb cb] w fun e w' => e = .returned (.tuple #[.int .i64 0, .int .i64 8]) ∧ Below w.heap.size w w' := by
  have hr := rows2_two (ca := ca) (cb := cb) hra hrb (by omega) (by omega) 23
  have HR := Lib.hid hr
  have HM := Lib.hid hmm
  clear hr hmm hra hrb
  go_enter Try.func21, Try.ntmps21
  go_wp2_with (go_at_call 29; refine (mayBe_any w.heap.size 0 2 2 [a, b] _ HR.out rfl (by omega)).mono ?_; rw [show bad [a, b] = 8 by unfold bad; rw [if_neg (by rw [HM.out]; simp)]]; rintro e w' ⟨rfl, rfl⟩)
  go_ret2
  exact ⟨rfl, (Below.refl _ _).alloc (Nat.le_refl _) _⟩
end Go.Proofs.Ythenngajebkboaa

namespace Go.Proofs.Ythenngajebkboaa
open Go.RowKit Go.Shelf
set_option linter.unusedVariables false
set_option linter.unusedSimpArgs false
section
variable (A A2 A3 : Option Addr) (na ca nb cb nc cc : Nat) (a b c : List Nat) (w : World)

theorem length_sub_le {l : List Nat} (hl : Words l) (m : Nat) {n : Nat} (h : l.length ≤ n) : (limbs (val l - m)).length ≤ n :=
  limbs_length_le (Nat.lt_of_le_of_lt (Nat.sub_le _ _) (Nat.lt_of_lt_of_le (val_lt hl) (Nat.pow_le_pow_right B64_pos h)))

theorem cmp3_add (x y z : Nat) : cmp3 (x + z) (y + z) = cmp3 x y := by
  have := @cmp3_low 1 x y z
  simpa using this

end
end Go.Proofs.Ythenngajebkboaa

namespace Go.Proofs.Ythenngajebkboaa
open Go.RowKit Go.Shelf
set_option linter.unusedVariables false
set_option linter.unusedSimpArgs false
section
variable (A : Option Addr) (na ca : Nat) (a : List Nat) (w : World)


end
end Go.Proofs.Ythenngajebkboaa

/- The document's own answers that later layers stand on: whether a number may be, its bits, how long it is. -/
namespace Go.Proofs.Ythenngajebkboaa
open Go.RowKit Go.Shelf
set_option linter.unusedVariables false
set_option linter.unusedSimpArgs false

theorem ret_int {k : IntKind} {x y : Int} (h : x = y) : Ending.returned (.int k x) = .returned (.int k y) := by rw [h]
theorem ret_bool {x y : Bool} (h : x = y) : Ending.returned (.bool x) = .returned (.bool y) := by rw [h]
theorem nbit_two (x k : Nat) : nbit x k = 0 ∨ nbit x k = 1 := by
  have : nbit x k < 2 := Nat.mod_lt _ (by omega)
  omega
theorem div_bit (v k : Nat) : v / 2 ^ k = 2 * (v / 2 ^ (k + 1)) + nbit v k := by
  unfold nbit
  rw [Nat.pow_succ, ← Nat.div_div_eq_div_mul]
  omega
theorem val_lt_bits {a : List Nat} (hw : Words a) {M : Nat} (h : a.length ≤ M) : val a < 2 ^ (64 * M) := by
  rw [← B64_pow]; exact Nat.lt_of_lt_of_le (val_lt hw) (Nat.pow_le_pow_right B64_pos h)
theorem blen_top {v k : Nat} (h : v / 2 ^ (k + 1) = 0) (hb : nbit v k = 1) : blen v = k + 1 := by
  have e := div_bit v k
  rw [h, hb] at e
  apply blen_eq
  · have := Nat.div_mul_le_self v (2 ^ k)
    rw [e] at this
    omega
  · rwa [Nat.div_eq_zero_iff_lt (Nat.two_pow_pos _)] at h

section
variable (A A2 : Option Addr) (na ca nb cb : Nat) (a b : List Nat) (w : World)

set_option maxHeartbeats 1000000 in
theorem rMay_any (hra : Rd w A na a) (hna : na ≤ 4294967296) :
    Calls Try.prog 26 #[.slice A na ca] w fun e w' => e = .returned (.bool (may a)) ∧ w = w' := by
  by_cases h0 : na = 0
  · subst h0
    have hm : may a = true := by rw [List.eq_nil_of_length_eq_zero hra.len]; rfl
    have HM := Lib.hid hm
    clear hm hra
    go_enter Try.func26, Try.ntmps26
    go_wp2
    go_ret
    exact ⟨by rw [HM.out]; rfl, rfl⟩
  · obtain ⟨n, rfl⟩ : ∃ n, na = n + 1 := ⟨na - 1, by omega⟩
    obtain ⟨b, off, rfl, hb, hc⟩ := hra.cells (by omega)
    have h1 := may_last (l := a) (fun e => by have := hra.len; rw [e] at this; simp at this)
    rw [hra.len, Nat.add_sub_cancel] at h1
    have hci := hc n (by omega)
    have hne : (((n : Nat) : Int) + 1 == 0) = false := by simp; omega
    have HM := Lib.hid h1
    clear h1 hra hc
    go_enter Try.func26, Try.ntmps26
    go_wp2
    go_ret
    refine ⟨?_, rfl⟩
    rw [HM.out]
    congr 2
    generalize lim a n = x
    have e : (((x : Nat) : Int) == 0) = (x == 0) := by
      rw [Bool.eq_iff_iff]; simp
    simp [bne, e]

theorem bad_may (h : may a = true) : bad [a] = 0 := bad_zero (by simp [h])

theorem bad_may' (h : may a = false) : bad [a] = 8 := bad_eight (by simp [h])

theorem bit_int (x r : Nat) (hx : x < B64) : wrap64 (Go.bits BinOp.and IntKind.u64 ((x : Int) / 2 ^ r) 1) = ((x / 2 ^ r % 2 : Nat) : Int) := by
  have e3 : ((x : Nat) : Int) / 2 ^ r = ((x / 2 ^ r : Nat) : Int) := by simp
  have h1 : x / 2 ^ r ≤ x := Nat.div_le_self _ _
  rw [e3]
  generalize x / 2 ^ r = z at *
  rw [and_one_u64 _ (by omega) (by rw [B64_eq] at hx; omega)]
  have e5 : wrap64 ((z : Int) % 2) = (z : Int) % 2 := IntWalk.wrap64_in _ ⟨by omega, by omega⟩
  rw [e5]; omega

set_option maxHeartbeats 1000000 in
theorem rAt_any (i : Nat) (hra : Rd w A na a) (hna : na ≤ 4294967296) (hi : i ≤ 9223372036854775807) :
    Calls Try.prog 46 #[.slice A na ca, .int .i64 (i : Int)] w fun e w' => e = .returned (.int .i64 (nbit (val a) i : Nat)) ∧ w = w' := by
  have hb := nbit_limb hra.words i
  have hxl := hra.words.get (i / 64)
  obtain ⟨q, hq⟩ : ∃ q, q = i / 64 := ⟨_, rfl⟩
  obtain ⟨r, hr0⟩ : ∃ r, r = i % 64 := ⟨_, rfl⟩
  rw [← hq, ← hr0] at hb
  rw [← hq] at hxl
  have e1 : ((i : Nat) : Int) / 64 = (q : Int) := by omega
  have e2 : ((i : Nat) : Int) % 64 = (r : Int) := by omega
  have hr1 : r < 64 := by omega
  have hq1 : q ≤ 9223372036854775807 := by omega
  have HQ := Lib.hid hq
  have HR0 := Lib.hid hr0
  by_cases hlt : q < na
  · obtain ⟨b, off, rfl, hb', hc⟩ := hra.cells (by omega)
    have hci := hc q hlt
    have hbi := bit_int (lim a q) r hxl
    rw [hb] at hbi
    have HB := Lib.hid hbi
    have hge : ¬ ((na : Int) ≤ (q : Int)) := by omega
    clear hb hq hr0 hra hc hbi hxl
    go_enter Try.func46, Try.ntmps46
    go_wp2
    go_ret
    exact ⟨by simp only [HB.out]; rfl, rfl⟩
  · have hz : nbit (val a) i = 0 := by
      rw [← hb, lim_past (by rw [hra.len]; omega)]; simp
    have HZ := Lib.hid hz
    have hge : (na : Int) ≤ (q : Int) := by omega
    clear hb hq hr0 hra hz hxl
    go_enter Try.func46, Try.ntmps46
    go_wp2
    go_ret
    exact ⟨by rw [HZ.out]; rfl, rfl⟩

end
end Go.Proofs.Ythenngajebkboaa

namespace Go.Proofs.Ythenngajebkboaa
open Go.RowKit Go.Shelf
set_option linter.unusedVariables false
set_option linter.unusedSimpArgs false

/-- Are the first k bits of two numbers the same? -/
def sameTo (x y k : Nat) : Bool := (List.range k).all fun j => nbit x j == nbit y j
theorem sameTo_succ (x y k : Nat) : sameTo x y (k + 1) = (sameTo x y k && nbit x k == nbit y k) := by simp [sameTo, List.range_succ]
theorem sameTo_self (x k : Nat) : sameTo x x k = true := by simp [sameTo]
theorem mod_eq_of_sameTo {x y : Nat} : ∀ {k : Nat}, sameTo x y k = true → x % 2 ^ k = y % 2 ^ k
  | 0, _ => by simp [Nat.mod_one]
  | k + 1, h => by
    rw [sameTo_succ, Bool.and_eq_true] at h
    have ih := mod_eq_of_sameTo h.1
    have hb : nbit x k = nbit y k := by simpa using h.2
    unfold nbit at hb
    rw [Nat.pow_succ, Nat.mod_mul, Nat.mod_mul, ih, hb]
theorem nbit_past {x k : Nat} (h : blen x ≤ k) : nbit x k = 0 := by
  unfold nbit
  have h1 := blen_lt x
  rw [Nat.div_eq_of_lt (Nat.lt_of_lt_of_le h1 (Nat.pow_le_pow_right (by omega) h))]
theorem nbit_top {x k : Nat} (h : k + 1 = blen x) : nbit x k = 1 := by
  have h0 : x ≠ 0 := by rintro rfl; simp [blen] at h
  obtain ⟨h1, h2, _⟩ := blen_pos h0
  rw [← h] at h1 h2
  simp only [Nat.add_sub_cancel] at h1
  unfold nbit
  have : x / 2 ^ k = 1 := by
    have a1 : x / 2 ^ k < 2 := by rw [Nat.div_lt_iff_lt_mul (Nat.two_pow_pos k), Nat.mul_comm, ← Nat.pow_succ]; exact h2
    have a2 : 1 ≤ x / 2 ^ k := by rw [Nat.le_div_iff_mul_le (Nat.two_pow_pos k)]; omega
    omega
  rw [this]
theorem eq_of_sameTo {x y k : Nat} (hx : blen x ≤ k) (hy : blen y ≤ k) (h : sameTo x y k = true) : x = y := by
  have e := mod_eq_of_sameTo h
  have h1 := Nat.lt_of_lt_of_le (blen_lt x) (Nat.pow_le_pow_right (by omega : 2 > 0) hx)
  have h2 := Nat.lt_of_lt_of_le (blen_lt y) (Nat.pow_le_pow_right (by omega : 2 > 0) hy)
  rwa [Nat.mod_eq_of_lt h1, Nat.mod_eq_of_lt h2] at e

section
variable (A A2 : Option Addr) (na ca nb cb : Nat) (a b : List Nat) (w : World)

end
end Go.Proofs.Ythenngajebkboaa

namespace Go.Proofs.Ythenngajebkboaa
open Go.RowKit Go.Shelf
set_option linter.unusedVariables false
set_option linter.unusedSimpArgs false

theorem below_alloc_then {w w1 w2 : World} {o : Obj} (h : Below w.heap.size w w1) (k : Below (w1.alloc o).heap.size (w1.alloc o) w2) : Below w.heap.size w w2 := below_then (h.alloc h.size o) k
def half : Nat := 9223372036854775808
theorem half_cast : ((half : Nat) : Int) = 9223372036854775808 := rfl
theorem half_lt : half < B64 := by unfold half; rw [B64_eq]; omega
theorem val_01' : val [0, 1] = B64 := by simp [val]
theorem names_long : blen (val [0, 1]) = 65 := by
  rw [val_01']; exact blen_eq (k := 64) (by rw [B64_eq]; omega) (by rw [B64_eq]; omega)
theorem names_long0 : blen (val []) = 0 := rfl
theorem names_up : limbs (val [3] * 2 ^ 63) = [half, 1] := by
  have e : val [3] * 2 ^ 63 = val [half, 1] := by simp [val, B64_eq, half]
  rw [e]; exact limbs_val (words_cons half_lt (words_cons B64_gt words_nil)) rfl
theorem names_down : limbs (val [0, 1] / 2 ^ 60) = [16] := by
  have e : val [0, 1] / 2 ^ 60 = val [16] := by rw [val_01', B64_eq]; simp [val]
  rw [e]; exact limbs_val (words_cons (small_lt (by omega)) words_nil) rfl
theorem names_bit2 : nbit (val [5]) 2 = 1 := by simp [val, nbit]
theorem names_bit99 : nbit (val [5]) 99 = 0 := by simp [val, nbit]
theorem names_bad : bad [[0]] = 8 := rfl

end Go.Proofs.Ythenngajebkboaa

/- The document's own answers for numbers: the small ones. -/
namespace Go.Proofs.Ythenngajebkboaa
open Go.RowKit Go.Shelf
set_option linter.unusedVariables false
set_option linter.unusedSimpArgs false


section
variable (A A2 : Option Addr) (na ca nb cb : Nat) (a b : List Nat) (w : World)



set_option maxHeartbeats 1000000 in
theorem rOne_any (hra : Rd w A na a) (hna : na ≤ 4294967296) :
    Calls Try.prog 64 #[.slice A na ca] w fun e w' => e = .returned (u64 (lim a 0)) ∧ w = w' := by
  by_cases h0 : na = 0
  · subst h0
    have hz : lim a 0 = 0 := lim_past (by rw [hra.len]; omega)
    have HZ := Lib.hid hz
    clear hz hra
    go_enter Try.func64, Try.ntmps64
    go_wp2
    go_ret
    exact ⟨by rw [HZ.out]; rfl, rfl⟩
  · obtain ⟨n, rfl⟩ : ∃ n, na = n + 1 := ⟨na - 1, by omega⟩
    obtain ⟨b, off, rfl, hb, hc⟩ := hra.cells (by omega)
    have hci := hc 0 (by omega)
    rw [Nat.add_zero] at hci
    have hne : (((n : Nat) : Int) + 1 == 0) = false := by simp; omega
    clear hra hc
    go_enter Try.func64, Try.ntmps64
    go_wp2
    go_ret
    exact ⟨rfl, rfl⟩

set_option maxHeartbeats 1000000 in
theorem rShort_any (hna : na ≤ 4294967296) (hnb : nb ≤ 4294967296) :
    Calls Try.prog 63 #[.slice A na ca, .slice A2 nb cb] w fun e w' => e = .returned (.bool (decide (na ≤ 1 ∧ nb ≤ 1))) ∧ w = w' := by
  by_cases h1 : na ≤ 1 <;> by_cases h2 : nb ≤ 1
  all_goals
    go_enter Try.func63, Try.ntmps63
    go_wp2
    go_ret
    exact ⟨ret_bool (by (simp [h1, h2]) <;> omega), rfl⟩

set_option maxHeartbeats 1000000 in
theorem rMany_any (hna : na ≤ 4294967296) (hnb : nb ≤ 4294967296) :
    Calls Try.prog 65 #[.slice A na ca, .slice A2 nb cb] w fun e w' => e = .returned (.int .i64 ((64 * max na nb : Nat) : Int)) ∧ w = w' := by
  rcases Nat.lt_or_ge na nb with h | h
  · have hm : max na nb = nb := by omega
    have HM := Lib.hid hm
    clear hm
    go_enter Try.func65, Try.ntmps65
    go_wp2
    go_ret
    exact ⟨ret_int (by have := HM.out; omega), rfl⟩
  · have hm : max na nb = na := by omega
    have HM := Lib.hid hm
    clear hm
    go_enter Try.func65, Try.ntmps65
    go_wp2
    go_ret
    exact ⟨ret_int (by have := HM.out; omega), rfl⟩

set_option maxHeartbeats 1000000 in
theorem rOf_any (x : Nat) (hx : x < B64) :
    Calls Try.prog 17 #[u64 x] w fun e w' => ∃ A' k c, e = .returned (.slice A' k c) ∧ Own w' w.heap.size (.slice A' k c) (limbs x) ∧ Below w.heap.size w w' := by
  by_cases h0 : x = 0
  · subst h0
    go_enter Try.func17, Try.ntmps17
    go_wp2
    go_ret
    exact ⟨none, 0, 0, rfl, by rw [limbs_zero]; exact ⟨World.ownsRow_nil _ _ _ _, words_nil⟩, Below.refl _ _⟩
  · have hrow : RowL (w.alloc (.cells #[u64 x] 27)) w.heap.size [x] := World.alloc_heap_new w _
    have hown := hrow.own (B := w.heap.size) (Nat.le_refl _) (words_cons hx words_nil) (n := 1) rfl (by simp only [maxLen]; omega)
    have HO := Lib.hid hown
    have hne : (((x : Nat) : Int) == 0) = false := by simp; omega
    clear hown hrow
    go_enter Try.func17, Try.ntmps17
    go_wp2
    go_ret
    refine ⟨_, 1, 1, rfl, ?_, (Below.refl _ _).alloc (Nat.le_refl _) _⟩
    have e : limbs x = [x] := by
      have h := limbs_val (l := [x]) (words_cons hx words_nil) (by unfold may; simp [h0])
      simpa [val] using h
    rw [e]
    exact HO.out
end
end Go.Proofs.Ythenngajebkboaa

/- The document's From: the number of bits. -/
namespace Go.Proofs.Ythenngajebkboaa
open Go.RowKit Go.Shelf
set_option linter.unusedVariables false
set_option linter.unusedSimpArgs false

/-- What a list of bits is worth. -/
def bval : List Nat → Nat
  | [] => 0
  | x :: r => x + 2 * bval r
def Bits (l : List Nat) : Prop := ∀ x ∈ l, x ≤ 1
theorem Bits.get {l : List Nat} (h : Bits l) (i : Nat) : lim l i ≤ 1 := by
  unfold lim
  rw [List.getD_eq_getElem?_getD]
  cases e : l[i]? with
  | none => exact Nat.zero_le _
  | some x => exact h x (List.mem_of_getElem? e)
theorem bits_append {l m : List Nat} (h : Bits l) (k : Bits m) : Bits (l ++ m) := fun y hy => by
  rcases List.mem_append.1 hy with hy | hy
  · exact h y hy
  · exact k y hy
theorem bits_one {x : Nat} (h : x ≤ 1) : Bits [x] := fun y hy => by
  rw [List.mem_singleton] at hy; rw [hy]; exact h
theorem bval_append (l m : List Nat) : bval (l ++ m) = bval l + 2 ^ l.length * bval m := by
  induction l with
  | nil => simp [bval]
  | cons x r ih =>
    simp only [List.cons_append, bval, ih, List.length_cons, Nat.pow_succ, Nat.mul_add]
    rw [← Nat.mul_assoc, Nat.mul_comm 2 (2 ^ r.length)]
    omega
theorem bval_snoc (l : List Nat) (x : Nat) : bval (l ++ [x]) = bval l + 2 ^ l.length * x := by rw [bval_append]; simp [bval]
theorem bval_take_succ (l : List Nat) (k : Nat) : bval (l.take (k + 1)) = bval (l.take k) + 2 ^ k * lim l k := by
  by_cases h : k < l.length
  · rw [List.take_succ_eq_append_getElem h, bval_snoc, lim_get h, List.length_take, Nat.min_eq_left (Nat.le_of_lt h)]
  · rw [List.take_of_length_le (by omega), List.take_of_length_le (by omega), lim_past (by omega), Nat.mul_zero, Nat.add_zero]
theorem bval_lt {l : List Nat} (h : Bits l) : bval l < 2 ^ l.length := by
  induction l with
  | nil => simp [bval]
  | cons x r ih =>
    have h1 : x ≤ 1 := h x List.mem_cons_self
    have h2 := ih fun y hy => h y (List.mem_cons_of_mem _ hy)
    rw [bval, List.length_cons, Nat.pow_succ]
    omega
theorem bval_take_zeros {l : List Nat} {n : Nat} (h : ∀ i, n ≤ i → lim l i = 0) : bval (l.take n) = bval l := by
  simp only [lim] at h
  induction l generalizing n with
  | nil => simp
  | cons x r ih =>
    cases n with
    | zero =>
      have h0 := h 0 (by omega)
      have hr := ih (n := 0) (fun i _ => by have := h (i + 1) (by omega); simpa using this)
      simp at h0 hr
      rw [bval, ← hr]
      simp [h0, bval]
    | succ n =>
      simp only [List.take_succ_cons, bval]
      rw [ih (fun i hi => by have := h (i + 1) (by omega); simpa using this)]
/-- The bits of a number, from a place on. -/
theorem bval_bits (v : Nat) (k : Nat) : bval ((List.range k).map (nbit v)) = v % 2 ^ k := by
  induction k with
  | zero => simp [bval, Nat.mod_one]
  | succ k ih =>
    rw [List.range_succ, List.map_append, List.map_cons, List.map_nil, bval_snoc, ih, List.length_map, List.length_range, Nat.pow_succ, Nat.mod_mul]
    rfl

abbrev i64n (x : Nat) : Value := .int .i64 (x : Int)
theorem int_info : (Try.prog.info? 3).map (fun i => (i.zero, i.size, i.bytes)) = some (some (.int .i64 0), 1, 8) := by kernel_rfl

/-- A slice of ints that reads as a list of bits. -/
structure RdI (w : World) (A : Option Addr) (n : Nat) (l : List Nat) : Prop where
  len : l.length = n
  bits : Bits l
  cells : 0 < n → ∃ b off, A = some ⟨b, off, none⟩ ∧ b < w.heap.size ∧ ∀ i, i < n → w.cell? ⟨b, off + i, none⟩ = some (i64n (lim l i))
theorem RdI.below {w w' : World} {A : Option Addr} {n : Nat} {l : List Nat} (h : RdI w A n l) (hb : Below w.heap.size w w') : RdI w' A n l :=
  ⟨h.len, h.bits, fun hn => by
    obtain ⟨b, off, e, hlt, hc⟩ := h.cells hn
    exact ⟨b, off, e, Nat.lt_of_lt_of_le hlt hb.size, fun i hi => (hb.cell (p := ⟨b, off + i, none⟩) hlt).trans (hc i hi)⟩⟩
/-- A slice of ints of the call's own. -/
def OwnI (w : World) (B : Nat) (v : Value) (l : List Nat) : Prop := w.ownsRow B 3 1 v l.length (l.map i64n) ∧ Bits l
theorem OwnI.below {w w' : World} {B : Nat} {v : Value} {l : List Nat} (h : OwnI w B v l) (hb : Below w.heap.size w w') : OwnI w' B v l := by
  refine ⟨⟨h.1.1, ?_⟩, h.2⟩
  rcases h.1.2 with h2 | ⟨g, cap, cur, e, hg, hh, r⟩
  · exact .inl h2
  · exact .inr ⟨g, cap, cur, e, hg, (hb.block g (Array.getElem?_eq_some_iff.1 hh).1).trans hh, r⟩
theorem OwnI.form {w : World} {B : Nat} {v : Value} {l : List Nat} (h : OwnI w B v l) : ∃ A c, v = .slice A l.length c ∧ RdI w A l.length l ∧ l.length ≤ c ∧ c ≤ maxLen := by
  rcases h.1.2 with ⟨e, h0⟩ | ⟨g, cap, cur, e, hg, hh, hn, hc, hs, ht⟩
  · have hl : l = [] := List.eq_nil_of_length_eq_zero h0
    subst hl
    exact ⟨none, 0, e, ⟨rfl, h.2, fun h => absurd h (by simp)⟩, Nat.le_refl _, Nat.zero_le _⟩
  · refine ⟨_, cap, e, ⟨rfl, h.2, fun hn0 => ⟨g, 0, rfl, (Array.getElem?_eq_some_iff.1 hh).1, fun i hi => ?_⟩⟩, hn, hc⟩
    have hci := h.1.cells (g := g) (by rw [e]; rfl) i (i64n (lim l i)) (by rw [List.getElem?_map, List.getElem?_eq_getElem hi, lim_get hi]; rfl)
    simpa [Addr.add, Nat.zero_add] using (by
      by_cases h0 : i = 0
      · subst h0; simpa [Addr.add] using hci
      · simpa [Addr.add, h0] using hci : w.cell? ⟨g, 0 + i, none⟩ = some (i64n (lim l i)))


/-- A number's list grows by bits. -/
theorem from_step {o bl : List Nat} {i : Nat} (hw : Words o) (hb : Bits bl) (hi : i < bl.length) (ho : val o = bval (bl.take i)) (hl : i / 64 < o.length) (hx : lim bl i = 1) :
    lim o (i / 64) + 2 ^ (i % 64) < B64 ∧ val (o.set (i / 64) (lim o (i / 64) + 2 ^ (i % 64))) = bval (bl.take (i + 1)) := by
  have hlt : val o < 2 ^ i := by
    rw [ho]
    have := bval_lt (l := bl.take i) (fun y hy => hb y (List.mem_of_mem_take hy))
    rwa [List.length_take, Nat.min_eq_left (Nat.le_of_lt hi)] at this
  have hp : 2 ^ i = B64 ^ (i / 64) * 2 ^ (i % 64) := by
    have e : i = 64 * (i / 64) + i % 64 := by omega
    have h2 : 2 ^ (64 * (i / 64) + i % 64) = B64 ^ (i / 64) * 2 ^ (i % 64) := by rw [Nat.pow_add, Nat.pow_mul]; rfl
    rw [← h2, ← e]
  have h1 : lim o (i / 64) < 2 ^ (i % 64) := by
    rw [lim_val hw]
    refine Nat.lt_of_le_of_lt (Nat.mod_le _ _) ?_
    rw [Nat.div_lt_iff_lt_mul (Nat.pow_pos B64_pos), Nat.mul_comm, ← hp]
    exact hlt
  have h2 : 2 ^ (i % 64) * 2 ≤ B64 := by
    rw [← Nat.pow_succ]
    exact Nat.pow_le_pow_right (by omega) (show i % 64 + 1 ≤ 64 by omega)
  refine ⟨by omega, ?_⟩
  have e1 := val_set hl (lim o (i / 64) + 2 ^ (i % 64))
  rw [Nat.mul_add] at e1
  rw [bval_take_succ, hx, Nat.mul_one, ← ho, hp]
  omega
theorem val_snoc_zero (o : List Nat) : val (o ++ [0]) = val o := by rw [val_append]; simp [val]

end Go.Proofs.Ythenngajebkboaa

namespace Go.Proofs.Ythenngajebkboaa
open Go.RowKit Go.Shelf
set_option linter.unusedVariables false
set_option linter.unusedSimpArgs false

theorem add_word (y r : Nat) (h : y + 2 ^ r < B64) : IntKind.u64.wrap ((y : Int) + IntKind.u64.wrap (2 ^ r)) = ((y + 2 ^ r : Nat) : Int) := by
  have e : (2 : Int) ^ r = ((2 ^ r : Nat) : Int) := by simp
  rw [e, u64_wrap_nat, ← Int.natCast_add, u64_wrap_nat, Nat.mod_eq_of_lt (show 2 ^ r < B64 by omega), Nat.mod_eq_of_lt h]

set_option maxRecDepth 100000 in
set_option maxHeartbeats 4000000 in
theorem from_any (A : Option Addr) (n c : Nat) (bl : List Nat) (w : World) (hr : RdI w A n bl) (hn : n ≤ 1000000) :
    Calls Try.prog 50 #[.slice A n c] w fun e w' => ∃ A' k c', e = .returned (.slice A' k c') ∧ Own w' w.heap.size (.slice A' k c') (limbs (bval bl)) ∧ Below w.heap.size w w' := by
  obtain ⟨i0, hi0, hz0, hz1, hz2⟩ := info_parts u64_info
  go_enter Try.func50, Try.ntmps50
  go_wp2
  go_loop [3] (fun i => ∃ k : Nat, k ≤ n ∧ i = .int .i64 (k : Int) ∧ ∀ j, k ≤ j → lim bl j = 0) (fun i => (intOf i).toNat)
  case atStart => exact ⟨n, Nat.le_refl _, rfl, fun j hj => lim_past (by rw [hr.len]; omega)⟩
  case round =>
    obtain ⟨m, hm, rfl, hz⟩ := hrel
    by_cases hstep : m ≠ 0 ∧ lim bl (m - 1) = 0
    · obtain ⟨hm0, hx⟩ := hstep
      obtain ⟨b, off, rfl, hb, hc⟩ := hr.cells (by omega)
      obtain ⟨j, rfl⟩ : ∃ j, m = j + 1 := ⟨m - 1, by omega⟩
      rw [Nat.add_sub_cancel] at hx
      have hci := hc j (by omega)
      rw [hx] at hci
      have HX := Lib.hid hx
      have HZ := Lib.hid hz
      have HH := Lib.hid hr
      clear hx hz hr hc
      go_wp2
      go_round
      case rel => exact ⟨j, by omega, by go_num, fun i hi => by
        rcases Nat.eq_or_lt_of_le hi with rfl | hi
        · exact HX.out
        · exact HZ.out i hi⟩
      case measure => simp [intOf]
    · -- THE END OF THE FIRST LOOP: m is 0, or the bit m - 1 is 1
      have htop : m = 0 ∨ lim bl (m - 1) = 1 := by
        by_cases h0 : m = 0
        · exact .inl h0
        · have h1 := hr.bits.get (m - 1)
          have h2 : lim bl (m - 1) ≠ 0 := fun e => hstep ⟨h0, e⟩
          exact .inr (by omega)
      have hv : bval (bl.take m) = bval bl := bval_take_zeros hz
      have hfin : ∀ o, Words o → o.length = (m + 63) / 64 → val o = bval (bl.take m) → o = limbs (bval bl) := by
        intro o hw hl ho
        rw [← hv, ← ho]
        refine (limbs_val hw ?_).symm
        rcases htop with h0 | h1
        · subst h0
          have : o = [] := List.eq_nil_of_length_eq_zero (by omega)
          rw [this]; rfl
        · by_cases h0 : m = 0
          · subst h0
            have : o = [] := List.eq_nil_of_length_eq_zero (by omega)
            rw [this]; rfl
          · obtain ⟨j, rfl⟩ : ∃ j, m = j + 1 := ⟨m - 1, by omega⟩
            rw [Nat.add_sub_cancel] at h1
            rw [bval_take_succ, h1, Nat.mul_one] at ho
            have hne : o ≠ [] := fun e => by rw [e] at hl; simp at hl; omega
            rw [may_last hne]
            have hge : 2 ^ j ≤ val o := by omega
            simp only [bne_iff_ne]
            intro e0
            have e2 : val (o.take (o.length - 1)) = val o := val_take_zeros fun i hi => by
              rcases Nat.eq_or_lt_of_le hi with rfl | hi
              · exact e0
              · exact lim_past (by omega)
            have h3 := val_lt (hw.take (o.length - 1))
            rw [e2] at h3
            have h4 : B64 ^ (o.take (o.length - 1)).length ≤ 2 ^ j := by
              rw [B64_pow]
              refine Nat.pow_le_pow_right (by omega) ?_
              rw [List.length_take]; omega
            omega
      have hmt : ∀ hm0 : m ≠ 0, ∃ b off, A = some ⟨b, off, none⟩ ∧ b < w.heap.size ∧ (∀ i, i < n → w.cell? ⟨b, off + i, none⟩ = some (i64n (lim bl i))) ∧ lim bl (m - 1) = 1 := fun hm0 => by
        obtain ⟨b, off, e, hb, hc⟩ := hr.cells (by omega)
        exact ⟨b, off, e, hb, hc, htop.resolve_left hm0⟩
      have HF := Lib.hid hfin
      have HT := Lib.hid hmt
      have HR := Lib.hid hr
      clear hfin hmt htop hstep hz hv hr
      have hloop : ∀ (K : Act → World → Prop), True := fun _ => trivial
      by_cases hm0 : m = 0
      · subst hm0
        go_wp2
        go_loop [4, 5] (fun o i => o = .slice none 0 0 ∧ i = .int .i64 0) (fun _ _ => 0)
        case atStart => exact ⟨rfl, rfl⟩
        case round =>
          obtain ⟨rfl, rfl⟩ := hrel
          go_wp2
          go_ret
          refine ⟨none, 0, 0, rfl, ?_, Below.refl _ _⟩
          rw [← HF.out [] words_nil rfl (by simp [val, bval])]
          exact ⟨World.ownsRow_nil _ _ _ _, words_nil⟩
      · obtain ⟨b, off, rfl, hb, hc, hx⟩ := HT.out hm0
        obtain ⟨j, rfl⟩ : ∃ j, m = j + 1 := ⟨m - 1, by omega⟩
        rw [Nat.add_sub_cancel] at hx
        have hci := hc j (by omega)
        rw [hx] at hci
        have HC := Lib.hid hc
        clear hc hx hloop
        go_wp2
        go_loopw [4, 5] (fun v i wr => ∃ (k : Nat) (o : List Nat), k ≤ j + 1 ∧ i = .int .i64 (k : Int) ∧ o.length = (k + 63) / 64 ∧ val o = bval (bl.take k) ∧ Own wr w.heap.size v o ∧ Below w.heap.size w wr) (fun _ i _ => j + 1 - (intOf i).toNat)
        case atStart => exact ⟨0, [], by omega, rfl, rfl, by simp [val, bval], ⟨World.ownsRow_nil _ _ _ _, words_nil⟩, Below.refl _ _⟩
        case round =>
          obtain ⟨k, o, hk, rfl, hlen, hval, hown, hB⟩ := hrel
          by_cases hlt : k < j + 1
          · have hck : wr.cell? ⟨b, off + k, none⟩ = some (i64n (lim bl k)) := (hB.cell (p := ⟨b, off + k, none⟩) hb).trans (HC.out k (by omega))
            obtain ⟨q, hq⟩ : ∃ q, k / 64 = q := ⟨_, rfl⟩
            obtain ⟨r, hr⟩ : ∃ r, k % 64 = r := ⟨_, rfl⟩
            have e1 : ((k : Nat) : Int) / 64 = (q : Int) := by omega
            have e2 : ((k : Nat) : Int) % 64 = (r : Int) := by omega
            have hr1 : (r : Int) < 64 := by omega
            have hq1 : (q : Int) ≤ 1000000 := by omega
            have hbit : lim bl k = 1 ∨ lim bl k = 0 := by have := HR.out.bits.get k; omega
            rcases hbit with hxx | hxx
            · have hx1 := Lib.hid hxx
              clear hxx
              by_cases h64 : r = 0
              · skip
                have ht64 : (((r : Nat) : Int) == 0) = true := by simp; omega
                have hnew := Lib.hid (cell_one_new wr (u64 0) 27)
                have hown0 := hown.below ((Below.refl _ wr).alloc (Nat.le_refl _) (.cells #[u64 0] 27))
                have HO0 := Lib.hid hown0
                have hol : o.length ≤ 20000 := by omega
                have hlen2 : (o ++ [0]).length = q + 1 := by rw [List.length_append, hlen]; simp; omega
                have hval2 : val (o ++ [0]) = bval (bl.take k) := by rw [val_snoc_zero, hval]
                have HV := Lib.hid hval2
                have HLN := Lib.hid hlen2
                have hblk := own_block hown
                have HBK := Lib.hid hblk
                have HCK := Lib.hid hck
                have HQ := Lib.hid hq
                have HRR := Lib.hid hr
                clear hown0 hval hlen hown hlen2 hval2 hblk hck hq hr h64
                go_wp2_with (at_builtin; refine wpList_append_own _ rfl _ _ 23 rfl w.heap.size 27 i0 _ 1 8 Try.underlying23 hi0 hz0 hz1 hz2 rfl (by decide) _ _ _ rfl HO0.out.1 ⟨wr.heap.size, 0, none⟩ 1 1 [u64 0] rfl rfl hnew.out (by simp [Value.oneCell']) (by simp only [maxLen]; omega) (by omega) (by have := hB.size; simp; omega) ?_; intro v' w1 hown1 hgrow1 _; have hB1 : Below w.heap.size w w1 := (hB.alloc hB.size _).grown hgrow1 (by rw [World.size_alloc]; have := hB.size; omega) HBK.out; have hO1 : Own w1 w.heap.size v' (o ++ [0]) := ⟨by rw [List.length_append, List.map_append]; exact hown1, words_append HO0.out.2 (words_cons B64_pos words_nil)⟩; obtain ⟨g, c3, rfl, hg, hglt⟩ := own_form hO1 (by simp); rw [HLN.out] at hO1; have hcu := (own_cell hO1 (i := q) (by omega)).1; have hfu := (own_cell hO1 (i := q) (by omega)).2; have hckk : w1.cell? ⟨b, off + k, none⟩ = some (i64n (lim bl k)) := (hB1.cell (p := ⟨b, off + k, none⟩) hb).trans (HC.out k (by omega)); rw [hx1.out] at hckk; have HO1 := Lib.hid hO1; rw [HLN.out]; clear hO1 hown1)
                have hst := from_step HO1.out.2 HR.out.bits (by rw [HR.out.len]; omega) HV.out (by rw [HLN.out, HQ.out]; omega) hx1.out
                rw [HQ.out, HRR.out] at hst
                have HST := Lib.hid hst
                clear hst
                go_region
                rw [add_word _ _ HST.out.1]
                go_wp2
                go_roundw
                case rel =>
                  refine ⟨k + 1, _, by omega, by go_num, ?_, HST.out.2, ?_, (hB1.setCell (p := ⟨g, q, none⟩) hg _).drew⟩
                  · have := HQ.out
                    rw [List.length_set, HLN.out]; omega
                  · exact (own_set HO1.out (by omega) HST.out.1).below (below_drewN (Below.refl _ _) 1)
                case measure => simp [intOf]; omega
              · skip
                have ht64 : (((r : Nat) : Int) == 0) = false := by simp; omega
                have hlen2 : o.length = q + 1 := by rw [hlen]; omega
                obtain ⟨g, c3, rfl, hg, hglt⟩ := own_form hown (by intro e; rw [e] at hlen2; simp at hlen2)
                rw [hlen2] at hown
                have hcu := (own_cell hown (i := q) (by omega)).1
                have hfu := (own_cell hown (i := q) (by omega)).2
                have HV := Lib.hid hval
                have HLN := Lib.hid hlen2
                have HO1 := Lib.hid hown
                have hckk := hck
                rw [hx1.out] at hckk
                rw [hlen2]
                have HQ := Lib.hid hq
                have HRR := Lib.hid hr
                have hB1 := hB
                clear hval hlen hown hlen2 hck hq hr h64
                go_wp2
                have hst := from_step HO1.out.2 HR.out.bits (by rw [HR.out.len]; omega) HV.out (by rw [HLN.out, HQ.out]; omega) hx1.out
                rw [HQ.out, HRR.out] at hst
                have HST := Lib.hid hst
                clear hst
                go_region
                rw [add_word _ _ HST.out.1]
                go_wp2
                go_roundw
                case rel =>
                  refine ⟨k + 1, _, by omega, by go_num, ?_, HST.out.2, ?_, (hB1.setCell (p := ⟨g, q, none⟩) hg _).drew⟩
                  · have := HQ.out
                    rw [List.length_set, HLN.out]; omega
                  · exact (own_set HO1.out (by omega) HST.out.1).below (below_drewN (Below.refl _ _) 1)
                case measure => simp [intOf]; omega
            · have hx1 := Lib.hid hxx
              clear hxx
              by_cases h64 : r = 0
              · skip
                have ht64 : (((r : Nat) : Int) == 0) = true := by simp; omega
                have hnew := Lib.hid (cell_one_new wr (u64 0) 27)
                have hown0 := hown.below ((Below.refl _ wr).alloc (Nat.le_refl _) (.cells #[u64 0] 27))
                have HO0 := Lib.hid hown0
                have hol : o.length ≤ 20000 := by omega
                have hlen2 : (o ++ [0]).length = q + 1 := by rw [List.length_append, hlen]; simp; omega
                have hval2 : val (o ++ [0]) = bval (bl.take k) := by rw [val_snoc_zero, hval]
                have HV := Lib.hid hval2
                have HLN := Lib.hid hlen2
                have hblk := own_block hown
                have HBK := Lib.hid hblk
                have HCK := Lib.hid hck
                have HQ := Lib.hid hq
                have HRR := Lib.hid hr
                clear hown0 hval hlen hown hlen2 hval2 hblk hck hq hr h64
                go_wp2_with (at_builtin; refine wpList_append_own _ rfl _ _ 23 rfl w.heap.size 27 i0 _ 1 8 Try.underlying23 hi0 hz0 hz1 hz2 rfl (by decide) _ _ _ rfl HO0.out.1 ⟨wr.heap.size, 0, none⟩ 1 1 [u64 0] rfl rfl hnew.out (by simp [Value.oneCell']) (by simp only [maxLen]; omega) (by omega) (by have := hB.size; simp; omega) ?_; intro v' w1 hown1 hgrow1 _; have hB1 : Below w.heap.size w w1 := (hB.alloc hB.size _).grown hgrow1 (by rw [World.size_alloc]; have := hB.size; omega) HBK.out; have hO1 : Own w1 w.heap.size v' (o ++ [0]) := ⟨by rw [List.length_append, List.map_append]; exact hown1, words_append HO0.out.2 (words_cons B64_pos words_nil)⟩; obtain ⟨g, c3, rfl, hg, hglt⟩ := own_form hO1 (by simp); rw [HLN.out] at hO1; have hcu := (own_cell hO1 (i := q) (by omega)).1; have hfu := (own_cell hO1 (i := q) (by omega)).2; have hckk : w1.cell? ⟨b, off + k, none⟩ = some (i64n (lim bl k)) := (hB1.cell (p := ⟨b, off + k, none⟩) hb).trans (HC.out k (by omega)); rw [hx1.out] at hckk; have HO1 := Lib.hid hO1; rw [HLN.out]; clear hO1 hown1)
                go_roundw
                case rel =>
                  refine ⟨k + 1, _, by omega, by go_num, ?_, ?_, HO1.out, hB1⟩
                  · have := HQ.out
                    rw [HLN.out]; omega
                  · rw [bval_take_succ, hx1.out, Nat.mul_zero, Nat.add_zero]; exact HV.out
                case measure => simp [intOf]; omega
              · skip
                have ht64 : (((r : Nat) : Int) == 0) = false := by simp; omega
                have hlen2 : o.length = q + 1 := by rw [hlen]; omega
                obtain ⟨g, c3, rfl, hg, hglt⟩ := own_form hown (by intro e; rw [e] at hlen2; simp at hlen2)
                rw [hlen2] at hown
                have hcu := (own_cell hown (i := q) (by omega)).1
                have hfu := (own_cell hown (i := q) (by omega)).2
                have HV := Lib.hid hval
                have HLN := Lib.hid hlen2
                have HO1 := Lib.hid hown
                have hckk := hck
                rw [hx1.out] at hckk
                rw [hlen2]
                have HQ := Lib.hid hq
                have HRR := Lib.hid hr
                have hB1 := hB
                clear hval hlen hown hlen2 hck hq hr h64
                go_wp2
                go_roundw
                case rel =>
                  refine ⟨k + 1, _, by omega, by go_num, ?_, ?_, HO1.out, hB1⟩
                  · have := HQ.out
                    rw [HLN.out]; omega
                  · rw [bval_take_succ, hx1.out, Nat.mul_zero, Nat.add_zero]; exact HV.out
                case measure => simp [intOf]; omega
          · have hkj : k = j + 1 := by omega
            have ho2 : o = limbs (bval bl) := HF.out o hown.2 (by rw [hlen, hkj]) (by rw [hval, hkj])
            obtain ⟨A', c', rfl⟩ := own_shape hown
            have HO := Lib.hid hown
            have HE := Lib.hid ho2
            have hkj2 : ¬ (k : Int) < (j : Int) + 1 := by omega
            clear hown ho2 hlen hval hkj
            go_wp2
            go_ret
            refine ⟨A', o.length, c', rfl, ?_, hB⟩
            have := HO.out
            rw [← HE.out]
            exact this
end Go.Proofs.Ythenngajebkboaa
