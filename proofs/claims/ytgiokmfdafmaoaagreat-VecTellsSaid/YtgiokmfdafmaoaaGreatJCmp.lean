import Derived.Test.YtgiokmfdafmaoaaGreatJSum
/- Cmp. -/
namespace Go.Proofs.YtgiokmfdafmaoaaGreat
open Go.RowKit Go.Shelf
attribute [local go_sem] Oper.semAt_some
set_option linter.unusedVariables false
set_option linter.unusedSimpArgs false

/-- -1, 0 or 1. -/
def cmp3 (x y : Nat) : Int := if x < y then -1 else if y < x then 1 else 0
theorem cmp3_lt {x y : Nat} (h : x < y) : cmp3 x y = -1 := by unfold cmp3; rw [if_pos h]
theorem cmp3_gt {x y : Nat} (h : y < x) : cmp3 x y = 1 := by unfold cmp3; rw [if_neg (by omega), if_pos h]
theorem cmp3_self (x : Nat) : cmp3 x x = 0 := by unfold cmp3; rw [if_neg (by omega), if_neg (by omega)]
theorem cmp3_high {p a b x y : Nat} (ha : a < p) (hb : b < p) (h : x ≠ y) : cmp3 (a + p * x) (b + p * y) = cmp3 x y := by
  rcases Nat.lt_or_gt_of_ne h with h | h
  · have : p * (x + 1) ≤ p * y := Nat.mul_le_mul_left _ h
    rw [Nat.mul_add] at this
    rw [cmp3_lt h, cmp3_lt (by omega)]
  · have : p * (y + 1) ≤ p * x := Nat.mul_le_mul_left _ h
    rw [Nat.mul_add] at this
    rw [cmp3_gt h, cmp3_gt (by omega)]
theorem cmp3_low {p a b x : Nat} : cmp3 (a + p * x) (b + p * x) = cmp3 a b := by
  unfold cmp3
  by_cases h : a < b
  · rw [if_pos h, if_pos (by omega)]
  · rw [if_neg h, if_neg (by omega)]
    by_cases h2 : b < a
    · rw [if_pos h2, if_pos (by omega)]
    · rw [if_neg h2, if_neg (by omega)]

set_option maxHeartbeats 400000 in
theorem compare_any (x y : Nat) (w : World) (hx : x < B64) (hy : y < B64) :
    Calls Tryz.prog 91 #[u64 x, u64 y] w fun e w' => e = .returned (.int .i64 (cmp3 x y)) ∧ w' = w := by
  clear hx hy
  have e1 : (((x : Nat) : Int) != ((x : Nat) : Int)) = false := by simp
  have e2 : (((y : Nat) : Int) != ((y : Nat) : Int)) = false := by simp
  by_cases h : x < y
  · have HC := Lib.hid (cmp3_lt h)
    go_enter Tryz.func91, Tryz.ntmps91
    go_wp2
    go_ret
    exact ⟨by rw [HC.out]; rfl, rfl⟩
  · by_cases h2 : y < x
    · have HC := Lib.hid (cmp3_gt h2)
      go_enter Tryz.func91, Tryz.ntmps91
      go_wp2
      go_ret
      exact ⟨by rw [HC.out]; rfl, rfl⟩
    · have HC := Lib.hid (show cmp3 x y = 0 by unfold cmp3; rw [if_neg h, if_neg h2])
      go_enter Tryz.func91, Tryz.ntmps91
      go_wp2
      go_ret
      exact ⟨by rw [HC.out]; rfl, rfl⟩

/-- The sign so far: the last pair that parts decides. -/
def signs (ps : List WW) : Int := ps.foldl (fun s x => if x.1.1 = x.1.2 then s else cmp3 x.1.1 x.1.2) 0
theorem signs_snoc (ps : List WW) (x : WW) : signs (ps ++ [x]) = if x.1.1 = x.1.2 then signs ps else cmp3 x.1.1 x.1.2 := by simp [signs, List.foldl_append]
theorem signs_pairs {a b : List Nat} (ha : Words a) (hb : Words b) (k : Nat) : signs (pairs2 ha hb k) = cmp3 (val (a.take k)) (val (b.take k)) := by
  induction k with
  | zero => simp [pairs2, signs, val, cmp3_self]
  | succ k ih =>
    rw [pairs2_succ, signs_snoc, val_take_succ, val_take_succ]
    have h1 : val (a.take k) < B64 ^ k := Nat.lt_of_lt_of_le (val_lt (ha.take k)) (Nat.pow_le_pow_right B64_pos (by rw [List.length_take]; omega))
    have h2 : val (b.take k) < B64 ^ k := Nat.lt_of_lt_of_le (val_lt (hb.take k)) (Nat.pow_le_pow_right B64_pos (by rw [List.length_take]; omega))
    split
    · rename_i h
      simp only at h
      rw [h, cmp3_low, ih]
    · rename_i h
      rw [cmp3_high h1 h2 h]

/-- What the rounds of nat.Cmp hand on. -/
def CmpI (w : World) (q : Nat) (pre : List WW) (W : World) : Prop :=
  Boxed W (w.heap.size + 1) 3 (.int .i64 (signs pre)) ∧ Below w.heap.size w W ∧ q ≤ W.heap.size
theorem cmpI_own (w : World) (q B : Nat) (hB : w.heap.size ≤ B) : OwnFrom B (CmpI w q) :=
  OwnFrom.and (Own.from (boxed_own (w.heap.size + 1) 3 (fun pre : List WW => .int .i64 (signs pre))) _) (OwnFrom.and (ownFrom_below (Nat.le_refl _) hB) fun s W W' row hs hg _ => Nat.le_trans hs hg.size)

set_option maxRecDepth 100000 in
set_option maxHeartbeats 4000000 in
/-- nat.Cmp. -/
theorem cmp_ok (A A2 : Option Addr) (na ca nb cb : Nat) (a b : List Nat) (w : World) (hra : Rd w A na a) (hrb : Rd w A2 nb b) (hna : na ≤ 4294967296) (hnb : nb ≤ 4294967296) (hmm : [a, b].all may = true) :
    Calls Tryz.prog 70 #[.slice A na ca, .slice A2 nb cb] w fun e w' => e = .returned (.tuple #[.int .i64 (cmp3 (val a) (val b)), .int .i64 0]) ∧ Below w.heap.size w w' := by
  obtain ⟨m, hm⟩ : ∃ m, m = max na nb := ⟨_, rfl⟩
  have hr := rows2_two (ca := ca) (cb := cb) hra hrb (by omega) (by omega) 23
  have hwa := hra.words
  have hwb := hrb.words
  have hsig := signs_pairs hwa hwb m
  rw [val_take_all (by rw [hra.len]; omega), val_take_all (by rw [hrb.len]; omega)] at hsig
  refine (callsIn_wide (n := 8)).1 ?_
  refine callsIn_of_wp_marks Tryz.func70 rfl trivial ?_ rfl
  simp only [Tryz.ntmps70, List.size_toArray, List.length_cons, List.length_nil, Nat.reduceAdd, Nat.reduceSub, Array.replicate_succ, Array.replicate_zero, List.push_toArray, List.append_toArray, List.nil_append, List.cons_append]
  have HR := Lib.hid hr
  have HM := Lib.hid hmm
  have hM := Lib.hid hm
  have HA := Lib.hid hra
  have HB := Lib.hid hrb
  have HS := Lib.hid hsig
  clear hr hmm hm hra hrb hsig
  gi_wp2_with (refine ⟨trivial, ?_⟩; gi_at_call 89; refine (callsIn_wide.2 (mayBe_any w.heap.size 0 2 2 [a, b] _ HR.out rfl (by omega))).mono ?_; rw [show bad [a, b] = 0 by unfold bad; rw [if_pos HM.out]]; rintro e w' ⟨rfl, rfl⟩)
  refine ⟨trivial, (callsIn_wide.2 (pairs_any A A2 na ca nb cb _)).mono ?_⟩
  rintro e w' ⟨rfl, rfl⟩
  gi_wp2
  obtain ⟨w2, hw2⟩ : ∃ w2, w2 = (w.alloc (.cells #[.slice A na ca, .slice A2 nb cb] 23)).alloc (.cells #[.int .i64 0] 3) := ⟨_, rfl⟩
  have hB1 : Below w.heap.size w w2 := by rw [hw2]; exact ((Below.refl _ w).alloc (Nat.le_refl _) _).alloc (by simp) _
  have bS : Boxed w2 (w.heap.size + 1) 3 (.int .i64 0) := by
    have := Boxed.new (w.alloc (.cells #[.slice A na ca, .slice A2 nb cb] 23)) 3 (.int .i64 0)
    rw [World.size_alloc] at this
    rw [hw2]; exact this
  have hq : w2.heap.size = w.heap.size + 1 + 1 := by rw [hw2]; simp
  rw [show (w.heap.size + 1 + 1 : Nat) = w2.heap.size from hq.symm]
  rw [← hw2]
  have hq2 : w.heap.size + 1 < w2.heap.size := by omega
  clear hw2 hq
  have bA := Boxed.new w2 23 (.slice A na ca)
  have bB := Boxed.new (w2.alloc (.cells #[.slice A na ca] 23)) 23 (.slice A2 nb cb)
  rw [World.size_alloc] at bB
  have hB2 : Below w.heap.size w ((w2.alloc (.cells #[.slice A na ca] 23)).alloc (.cells #[.slice A2 nb cb] 23)) := (hB1.alloc (by omega) _).alloc (by simp; omega) _
  refine wpIn_rangeFunc_ownG rfl (by omega) (gf := 110) (lb := #[.pointer (some ⟨w2.heap.size, 0, none⟩), .pointer (some ⟨w2.heap.size + 1, 0, none⟩)]) rfl trivial (enters_of Tryz.func110 (by kernel_rfl) rfl)
      (pairs_stops (JoinS w.heap.size w2.heap.size) _ w2.heap.size (w2.heap.size + 1) A A2 na ca nb cb m a b hna hnb hM.out (fun h b off e => .inl (HA.out.lt h b off e)) (fun h b off e => .inl (HB.out.lt h b off e)) (.inr (.inl rfl)) (.inr (.inr rfl)) _ (by simp; omega) (bA.alloc _).cell bB.cell (HA.out.below hB2) (HB.out.below hB2))
      KeepsOf.trans ?hkb (Below.refl _ _) (fun _ => rfl)
      (CmpI w (w2.heap.size + 2)) (fun _ _ _ => False) (cmpI_own w _ _ (by simp; omega)) (fun _ _ _ _ _ hs _ _ => hs)
      ⟨(bS.alloc _).alloc _, hB2, by simp⟩ ?_ ?assign ?body ?done ?stop
  case assign =>
    intro l x W K hK
    gi_wp2
    exact hK
  case hkb =>
    intro W l o o' hl ho _ _
    refine ⟨by simp, fun k hk => World.putObj_heap_other (fun e => ?_)⟩
    simp only [World.size_alloc] at hl
    have := hB1.size
    rcases hk with h | rfl | rfl <;> omega
  case body =>
    rintro l pre x W ⟨hv, hBW, hqW⟩ hlt2
    have c1 := hv.cell
    have f1 := hv.frozen
    by_cases he : x.1.1 = x.1.2
    · have hne : (((x.1.1 : Nat) : Int) != ((x.1.2 : Nat) : Int)) = false := by simp [he]
      have HE := Lib.hid he
      clear he
      gi_wp2
      exact ⟨KeepsFrom.refl _ _, KeepsOf.refl _, by rw [signs_snoc, if_pos HE.out]; exact hv, hBW, hqW⟩
    · have hne : (((x.1.1 : Nat) : Int) != ((x.1.2 : Nat) : Int)) = true := by simp; omega
      gi_wp2_with (refine ⟨trivial, ?_⟩; gi_at_call 91; refine (CallsIn.inRound l (callsIn_wide.2 (compare_any x.1.1 x.1.2 W x.2.1 x.2.2))).mono ?_; rintro e w' ⟨rfl, rfl⟩)
      refine ⟨(KeepsOthers.setCell _ _ _).from _, ⟨by simp [World.setCell], fun k hk => Below.heap_setCell _ _ _ k (by rcases hk with h | rfl | rfl <;> simp <;> omega)⟩, by rw [signs_snoc, if_neg he]; exact hv.set _, hBW.setCell (p := ⟨w.heap.size + 1, 0, none⟩) (by simp) _, by rw [World.size_setCell]; exact hqW⟩
  case done =>
    rintro D ys W hD rfl ⟨hv, hBW, hqW⟩ hK
    have c1 := hv.cell
    have hBe := Lib.hid hBW
    clear hBW
    gi_wp2
    refine ⟨by simp, .inl ⟨_, _, rfl, run_takeDeferred hK, ?_⟩⟩
    have hDn : w2.heap.size + 1 + 1 ≤ D := by simpa using hD
    exact ⟨_, results_tmp2 rfl _ _ _, by rw [HS.out]; rfl, hBe.out.grown (grownBy_putObj' W D _) hBe.out.size (fun k e => by cases e; omega)⟩
  case stop =>
    rintro D c pre W _ _ h _
    exact h.elim

set_option maxHeartbeats 1000000 in
/-- nat.Cmp, where one of the numbers may not be. -/
theorem cmp_bad (A A2 : Option Addr) (na ca nb cb : Nat) (a b : List Nat) (w : World) (hra : Rd w A na a) (hrb : Rd w A2 nb b) (hna : na ≤ 4294967296) (hnb : nb ≤ 4294967296) (hmm : [a, b].all may = false) :
    Calls Tryz.prog 70 #[.slice A na ca, .slice A2 nb cb] w fun e w' => e = .returned (.tuple #[.int .i64 0, .int .i64 8]) ∧ Below w.heap.size w w' := by
  have hr := rows2_two (ca := ca) (cb := cb) hra hrb (by omega) (by omega) 23
  have HR := Lib.hid hr
  have HM := Lib.hid hmm
  clear hr hmm hra hrb
  go_enter Tryz.func70, Tryz.ntmps70
  go_wp2_with (go_at_call 89; refine (mayBe_any w.heap.size 0 2 2 [a, b] _ HR.out rfl (by omega)).mono ?_; rw [show bad [a, b] = 8 by unfold bad; rw [if_neg (by rw [HM.out]; simp)]]; rintro e w' ⟨rfl, rfl⟩)
  go_ret2
  exact ⟨rfl, (Below.refl _ _).alloc (Nat.le_refl _) _⟩
end Go.Proofs.YtgiokmfdafmaoaaGreat
