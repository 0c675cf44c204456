import Derived.Test.YtgiokmfdafmaoaaGreatJUp
import Derived.StillTailTactics
/- Down. -/
namespace Go.Proofs.YtgiokmfdafmaoaaGreat
open Go.RowKit Go.Shelf
set_option linter.unusedVariables false
set_option linter.unusedSimpArgs false

/-- One limb of what is shifted down. -/
def dlimb (a : List Nat) (q r i : Nat) : Nat := lim a (q + i) / 2 ^ r + lim a (q + i + 1) * 2 ^ (64 - r) % B64

theorem dlimb_lt {a : List Nat} (ha : Words a) {q r i : Nat} (hr : r < 64) : lim a (q + i) / 2 ^ r < 2 ^ (64 - r) := by
  rw [Nat.div_lt_iff_lt_mul (Nat.two_pow_pos r), ← B64_split (by omega)]
  exact ha.get _
theorem dlimb_word {a : List Nat} (ha : Words a) {q r i : Nat} (hr : r < 64) : dlimb a q r i < B64 := by
  have h1 := dlimb_lt ha (q := q) (i := i) hr
  unfold dlimb
  rw [shl_mod (r := 64 - r) (by omega), B64_split (r := 64 - r) (by omega)]
  have h2 : lim a (q + i + 1) % 2 ^ (64 - (64 - r)) < 2 ^ (64 - (64 - r)) := Nat.mod_lt _ (Nat.two_pow_pos _)
  have h3 : 2 ^ (64 - r) * (lim a (q + i + 1) % 2 ^ (64 - (64 - r)) + 1) ≤ 2 ^ (64 - r) * 2 ^ (64 - (64 - r)) := Nat.mul_le_mul_left _ h2
  rw [Nat.mul_add] at h3
  rw [Nat.mul_comm (2 ^ (64 - (64 - r)))]
  omega
/-- All of them. -/
def dlimbs (a : List Nat) (q r L : Nat) : List Nat := (List.range L).map (dlimb a q r)
theorem dlimbs_words {a : List Nat} (ha : Words a) {q r : Nat} (L : Nat) (hr : r < 64) : Words (dlimbs a q r L) := fun y hy => by
  obtain ⟨i, _, rfl⟩ := List.mem_map.1 hy
  exact dlimb_word ha hr
theorem dlimbs_length (a : List Nat) (q r L : Nat) : (dlimbs a q r L).length = L := by simp [dlimbs]
theorem dlimbs_set (a : List Nat) (q r : Nat) {k L : Nat} (h : k < L) : (dlimbs a q r k ++ List.replicate (L - k) 0).set k (dlimb a q r k) = dlimbs a q r (k + 1) ++ List.replicate (L - (k + 1)) 0 := by
  have e : L - k = (L - (k + 1)) + 1 := by omega
  rw [e, List.replicate_succ, List.set_append, dlimbs_length, if_neg (by omega), Nat.sub_self]
  simp [dlimbs, List.range_succ]

theorem dlimb_cons (x : Nat) (t : List Nat) (r i : Nat) : dlimb (x :: t) 0 r (i + 1) = dlimb t 0 r i := by
  simp [dlimb, lim, Nat.add_assoc, Nat.add_comm 1 i]
theorem val_dlimbs0 {a : List Nat} (ha : Words a) {r : Nat} (hr : r < 64) : val (dlimbs a 0 r a.length) = val a / 2 ^ r := by
  induction a with
  | nil => simp [dlimbs, val]
  | cons x t ih =>
    have e1 : dlimbs (x :: t) 0 r (x :: t).length = dlimb (x :: t) 0 r 0 :: dlimbs t 0 r t.length := by
      simp only [dlimbs, List.length_cons, List.range_succ_eq_map, List.map_cons, List.map_map]
      congr 1
    rw [e1, val_cons, ih ha.tail, val_cons]
    have e2 : dlimb (x :: t) 0 r 0 = x / 2 ^ r + lim t 0 * 2 ^ (64 - r) % B64 := by simp [dlimb, lim]
    rw [e2, shl_mod (r := 64 - r) (by omega), show 64 - (64 - r) = r by omega]
    have e3 : lim t 0 % 2 ^ r = val t % 2 ^ r := by
      rw [lim_val ha.tail, Nat.pow_zero, Nat.div_one, B64_split (r := r) (by omega)]
      exact Nat.mod_mul_left_mod _ _ _
    rw [e3]
    have e4 : B64 = 2 ^ (64 - r) * 2 ^ r := B64_split (by omega)
    have e5 : (x + B64 * val t) / 2 ^ r = x / 2 ^ r + 2 ^ (64 - r) * val t := by
      rw [e4, show 2 ^ (64 - r) * 2 ^ r * val t = 2 ^ r * (2 ^ (64 - r) * val t) by rw [Nat.mul_comm (2 ^ (64 - r)), Nat.mul_assoc], Nat.add_mul_div_left _ _ (Nat.two_pow_pos r)]
    rw [e5]
    have e6 : 2 ^ (64 - r) * (val t % 2 ^ r) + B64 * (val t / 2 ^ r) = 2 ^ (64 - r) * val t := by
      rw [e4, Nat.mul_assoc, ← Nat.mul_add, Nat.mod_add_div]
    omega
theorem val_drop {a : List Nat} (ha : Words a) (q : Nat) : val (a.drop q) = val a / B64 ^ q := by
  induction q generalizing a with
  | zero => simp
  | succ q ih =>
    cases a with
    | nil => simp [val]
    | cons x t =>
      rw [List.drop_succ_cons, ih ha.tail, val_cons, Nat.pow_succ, Nat.mul_comm (B64 ^ q), ← Nat.div_div_eq_div_mul, Nat.add_mul_div_left _ _ B64_pos, Nat.div_eq_of_lt ha.head, Nat.zero_add]
theorem lim_drop (a : List Nat) (q i : Nat) : lim (a.drop q) i = lim a (q + i) := by simp [lim, List.getD_eq_getElem?_getD]
theorem val_dlimbs {a : List Nat} (ha : Words a) {q r bits : Nat} (hr : r < 64) (hb : bits = 64 * q + r) : val (dlimbs a q r (a.length - q)) = val a / 2 ^ bits := by
  have h := val_dlimbs0 (ha.drop q) hr
  rw [List.length_drop, val_drop ha] at h
  have e : dlimbs (a.drop q) 0 r (a.length - q) = dlimbs a q r (a.length - q) := by
    apply List.map_congr_left
    intro i _
    simp [dlimb, lim_drop, Nat.add_assoc]
  rw [e, Nat.div_div_eq_div_mul] at h
  rw [h, hb, Nat.pow_add, Nat.pow_mul]
  rfl

theorem limb_int (A : Option Addr) (n c : Nat) (l : List Nat) (i : Int) (w : World) (h : Rd w A n l) (h0 : 0 ≤ i) (hi : i ≤ 9223372036854775807) (hn : n ≤ 9223372036854775807) :
    Calls Tryz.prog 111 #[.slice A n c, .int .i64 i] w fun e w' => e = .returned (u64 (lim l i.toNat)) ∧ w' = w := by
  obtain ⟨k, rfl⟩ := Int.eq_ofNat_of_zero_le h0
  exact limb_any A n c l k w h (by omega) hn

set_option maxRecDepth 100000 in
set_option maxHeartbeats 1000000 in
/-- nat.Down. -/
theorem down_ok (A : Option Addr) (na ca : Nat) (a : List Nat) (bits q r : Nat) (w : World) (hra : Rd w A na a) (hna : na ≤ 4294967296) (hm : may a = true) (hb : bits ≤ 65536) (hq : bits / 64 = q) (hr : bits % 64 = r) :
    Calls Tryz.prog 141 #[.slice A na ca, .int .i64 (bits : Int)] w fun e w' => ∃ A' k c, e = .returned (.tuple #[.slice A' k c, .int .i64 0]) ∧ Own w' w.heap.size (.slice A' k c) (limbs (val a / 2 ^ bits)) ∧ Below w.heap.size w w' := by
  obtain ⟨L, hL⟩ : ∃ L, L = na - q := ⟨_, rfl⟩
  have hvd := val_dlimbs hra.words (q := q) (r := r) (bits := bits) (by omega) (by omega)
  rw [hra.len, ← hL] at hvd
  have hL1 : L ≤ na := by omega
  have e1 : ((bits : Nat) : Int) / 64 = (q : Int) := by omega
  have e2 : ((bits : Nat) : Int) % 64 = (r : Int) := by omega
  have hq1 : q ≤ 1024 := by omega
  have hr1 : r < 64 := by omega
  have HQ := Lib.hid hq
  have HR := Lib.hid hr
  have HL := Lib.hid hL
  have HVD := Lib.hid hvd
  clear hq hr hvd
  by_cases hcase : q < na
  · have hmk := fun W => run_make_row' (P := Tryz.prog) 23 36 (.int .u64 0) 8 Tryz.underlying23 u64_info rfl .i64 .i64 L (by omega) (by omega) W
    rw [show ((L : Nat) : Int) = (na : Int) - (q : Int) by omega] at hmk
    clear hL
    go_enter Tryz.func141, Tryz.ntmps141
    go_wp2_with (first
      | (go_at_call 155; refine (mayShift_ok A na ca a bits _ hra hna hm (by omega) (by omega)).mono ?_; rintro e w1 ⟨rfl, hb1⟩))
    rw [e2]
    have hz := RowL.zeros w1 L
    have hB2 := hb1.alloc hb1.size (.cells (madeCells #[.int .u64 0] L) 36)
    have hG : w.heap.size ≤ w1.heap.size := hb1.size
    generalize hW2 : w1.alloc (.cells (madeCells #[.int .u64 0] L) 36) = w2 at *
    clear hW2 hmk
    go_loopw [29] (fun i wr => ∃ k : Nat, k ≤ L ∧ i = .int .i64 (k : Int) ∧ RowL wr w1.heap.size (dlimbs a q r k ++ List.replicate (L - k) 0) ∧ Below w.heap.size w wr) (fun i _ => L - (intOf i).toNat)
    case atStart => exact ⟨0, by omega, rfl, by simpa [dlimbs] using hz, hB2⟩
    case round =>
      obtain ⟨k, hk, rfl, hrow, hB⟩ := hrel
      by_cases hlt : k < L
      · have hra2 := hra.below hB
        have hlen : (dlimbs a q r k ++ List.replicate (L - k) 0).length = L := by simp [dlimbs_length]; omega
        have hcu := hrow.cell (i := k) (by omega)
        have hfu : wr.frozen? ⟨w1.heap.size, k, none⟩ = false := hrow.frozen _
        have HROW := Lib.hid hrow
        have HRA := Lib.hid hra2
        clear hrow hra2
        have hs1 : IntKind.i64.wrap ((q : Int) + (k : Int)) = (q : Int) + (k : Int) := IntWalk.i64_in _ ⟨by omega, by omega⟩
        have hs2 : IntKind.i64.wrap ((q : Int) + (k : Int) + 1) = (q : Int) + (k : Int) + 1 := IntWalk.i64_in _ ⟨by omega, by omega⟩
        have hs3 : IntKind.i64.wrap (64 - (r : Int)) = 64 - (r : Int) := IntWalk.i64_in _ ⟨by omega, by omega⟩
        go_wp2
        go_still_tail 20, (by kernel_rfl)
        repeat still_step
        still_call (limb_int A na ca a ((q : Int) + (k : Int)) _ HRA.out.drew (by omega) (by omega) (by omega))
        repeat still_step
        still_call (limb_int A na ca a ((q : Int) + (k : Int) + 1) _ HRA.out.drew (by omega) (by omega) (by omega))
        repeat still_step
        try refine wpStill_nil ?_
        go_wp2
        go_roundw
        case rel =>
          have e3 : Go.bits BinOp.or IntKind.u64 (((lim a (q + k) : Nat) : Int) / 2 ^ r) (IntKind.u64.wrap (((lim a (q + k + 1) : Nat) : Int) * 2 ^ (64 - r))) = ((dlimb a q r k : Nat) : Int) := by
            have e4 : ((lim a (q + k) : Nat) : Int) / 2 ^ r = ((lim a (q + k) / 2 ^ r : Nat) : Int) := by simp
            rw [e4, or_word _ _ _ (Nat.lt_of_le_of_lt (Nat.div_le_self _ _) (HRA.out.words.get _)), or_shl (by omega) (dlimb_lt HRA.out.words hr1)]
            rfl
          rw [e3]
          refine ⟨k + 1, by omega, by go_num, ?_, (hB.setCell (p := ⟨w1.heap.size, k, none⟩) hG _).drew⟩
          have h4 := HROW.out.set k (dlimb a q r k)
          rw [dlimbs_set a q r hlt] at h4
          exact h4.drew
        case measure => simp [intOf]; omega
      · have hkL : k = L := by omega
        have hrow2 : RowL wr w1.heap.size (dlimbs a q r L) := by
          rw [hkL] at hrow
          simpa using hrow
        have hwl : Words (dlimbs a q r L) := dlimbs_words hra.words L hr1
        have HROW := Lib.hid hrow2
        clear hrow2 hrow hkL
        go_wp2_with (go_at_call 82; refine (trim_any _ _ _ (dlimbs a q r L) wr (HROW.out.own (B := w1.heap.size) (Nat.le_refl _) hwl (dlimbs_length _ _ _ _) (by simp only [maxLen]; omega)).rd.1 (by omega) (by omega)).mono ?_; rintro e w' ⟨⟨k2, hk2, rfl, ht⟩, rfl⟩; have HT := Lib.hid ht; clear ht)
        go_ret2
        refine ⟨_, k2, _, rfl, ?_, hB⟩
        rw [← HVD.out, ← HT.out]
        exact own_mono (own_trim (HROW.out.own (B := w1.heap.size) (Nat.le_refl _) hwl (dlimbs_length _ _ _ _) (by simp only [maxLen]; omega)) (by omega)) hG
  · have hL0 : L = 0 := by omega
    have hmk := fun W => run_make_row' (P := Tryz.prog) 23 36 (.int .u64 0) 8 Tryz.underlying23 u64_info rfl .i64 .i64 0 (by omega) (by omega) W
    simp only [Int.natCast_zero, Int.ofNat_zero, show ((0 : Nat) : Int) = 0 from rfl] at hmk
    have hvd0 : limbs (val a / 2 ^ bits) = [] := by
      rw [← HVD.out, hL0]; exact limbs_zero
    have HV0 := Lib.hid hvd0
    clear hvd0 hL0 HVD HL hL hL1
    rcases Nat.lt_or_eq_of_le (Nat.le_of_not_lt hcase) with hlt | heq
    all_goals
      try subst heq
      go_enter Tryz.func141, Tryz.ntmps141
      go_wp2_with (first
        | (go_at_call 155; refine (mayShift_ok A na ca a bits _ hra hna hm (by omega) (by omega)).mono ?_; rintro e w1 ⟨rfl, hb1⟩))
      rw [e2]
      have hz := RowL.zeros w1 0
      have hB2 := hb1.alloc hb1.size (.cells (madeCells #[.int .u64 0] 0) 36)
      have hG : w.heap.size ≤ w1.heap.size := hb1.size
      generalize hW2 : w1.alloc (.cells (madeCells #[.int .u64 0] 0) 36) = w2 at *
      clear hW2 hmk
      go_loopw [29] (fun i wr => i = .int .i64 0 ∧ wr = w2) (fun i _ => 0)
      case atStart => exact ⟨rfl, rfl⟩
      case round =>
        obtain ⟨rfl, rfl⟩ := hrel
        have hown := hz.own (B := w1.heap.size) (Nat.le_refl _) words_nil rfl (Nat.zero_le _)
        have HO := Lib.hid hown
        clear hown hz
        go_wp2_with (go_at_call 82; refine (trim_any _ 0 0 [] _ HO.out.rd.1 (Nat.le_refl _) (by omega)).mono ?_; rintro e w' ⟨⟨k2, hk2, rfl, ht⟩, rfl⟩; have HT := Lib.hid ht; clear ht)
        go_ret2
        refine ⟨_, k2, _, rfl, ?_, hB2⟩
        rw [HV0.out]
        have h6 := own_trim HO.out hk2
        simp only [List.replicate_zero, List.take_nil, List.length_nil] at h6
        exact own_mono h6 hG
end Go.Proofs.YtgiokmfdafmaoaaGreat
