import Derived.Test.YtjpphhfhkdkfhaaRefCmp
namespace Go.Proofs.Ytjpphhfhkdkfhaa
open Go.RowKit Go.Shelf
set_option linter.unusedVariables false
set_option linter.unusedSimpArgs false

theorem bval_zeros (n : Nat) : bval (List.replicate n 0) = 0 := by
  induction n with
  | zero => rfl
  | succ n ih => rw [List.replicate_succ, bval, ih]
theorem bits_zeros (n : Nat) : Bits (List.replicate n 0) := fun y hy => by
  rw [List.mem_replicate] at hy; omega
theorem owni_zeros (w : World) (n : Nat) (hn : n ≤ maxLen) : OwnI (w.alloc (.cells (madeCells #[.int .i64 0] n) 3)) w.heap.size (.slice (some ⟨w.heap.size, 0, none⟩) n n) (List.replicate n 0) := by
  have e : (madeCells #[.int .i64 0] n).toList = (List.replicate n 0).map i64n := by
    apply List.ext_getElem
    · simp [madeCells]
    · intro i h1 h2
      simp [madeCells, Nat.mod_one]
  refine ⟨⟨by simp, .inr ⟨w.heap.size, n, madeCells #[.int .i64 0] n, by simp, Nat.le_refl _, World.alloc_heap_new w _, by simp, hn, by simp [madeCells], ?_⟩⟩, bits_zeros n⟩
  rw [← e, List.take_of_length_le (by simp [madeCells])]
theorem nbit_div (v b i : Nat) : nbit (v / 2 ^ b) i = nbit v (b + i) := by
  unfold nbit
  rw [Nat.div_div_eq_div_mul, ← Nat.pow_add]

section
variable (A : Option Addr) (na ca : Nat) (a : List Nat) (w : World)


set_option maxRecDepth 100000 in
set_option maxHeartbeats 1000000 in
theorem rTimes_any (bits : Nat) (hra : Rd w A na a) (hna : na ≤ 1000) (hb : bits ≤ 65536) :
    Calls Try.prog 48 #[.slice A na ca, .int .i64 (bits : Int)] w fun e w' => ∃ A' k c, e = .returned (.slice A' k c) ∧ Own w' w.heap.size (.slice A' k c) (limbs (val a * 2 ^ bits)) ∧ Below w.heap.size w w' := by
  obtain ⟨i0, hi0, hz0, hz1, hz2⟩ := info_parts int_info
  have hva : val a < 2 ^ (64 * na) := val_lt_bits hra.words (by rw [hra.len]; omega)
  have HVA := Lib.hid hva
  have hmk := fun W => run_make_row' (P := Try.prog) 70 3 (.int .i64 0) 8 Try.underlying70 int_info rfl .i64 .i64 bits (by omega) (by omega) W
  clear hva
  go_enter Try.func48, Try.ntmps48
  go_wp2
  have hz := owni_zeros w bits (by simp only [maxLen]; omega)
  have hB2 := (Below.refl w.heap.size w).alloc (Nat.le_refl _) (.cells (madeCells #[.int .i64 0] bits) 3)
  generalize hW2 : w.alloc (.cells (madeCells #[.int .i64 0] bits) 3) = w2 at *
  clear hW2 hmk
  go_loopw [5, 6] (fun v i wr => ∃ (k : Nat) (bl : List Nat), k ≤ 64 * na ∧ i = .int .i64 (k : Int) ∧ bl.length = bits + k ∧ bval bl = 2 ^ bits * (val a % 2 ^ k) ∧ OwnI wr w.heap.size v bl ∧ Below w.heap.size w wr) (fun _ i _ => 64 * na - (intOf i).toNat)
  case atStart => exact ⟨0, _, by omega, rfl, by simp, by rw [bval_zeros]; simp [Nat.mod_one], hz, hB2⟩
  case round =>
    obtain ⟨k, bl, hk, rfl, hlen, hval, hown, hB⟩ := hrel
    have hra2 := hra.below hB
    by_cases hlt : k < 64 * na
    · obtain ⟨x, hx⟩ : ∃ x, nbit (val a) k = x := ⟨_, rfl⟩
      have hx1 : x ≤ 1 := by have := nbit_two (val a) k; omega
      have hst : bval (bl ++ [x]) = 2 ^ bits * (val a % 2 ^ (k + 1)) := by
        rw [bval_snoc, hlen, mod_succ_bit, hx, hval, Nat.pow_add, Nat.mul_add, Nat.mul_assoc]
      have hlen2 : (bl ++ [x]).length = bits + (k + 1) := by rw [List.length_append, hlen]; rfl
      have HX := Lib.hid hx
      have HST := Lib.hid hst
      have HLN := Lib.hid hlen2
      have HRA := Lib.hid hra2
      have hown0 := fun u : Value => hown.below ((Below.refl _ wr).alloc (Nat.le_refl _) (.cells #[u] 3))
      have HO0 := Lib.hid hown0
      have hblk := owni_block hown
      have HBK := Lib.hid hblk
      have hnew := Lib.hid (fun u : Value => cell_one_new wr u 3)
      have hol : bl.length ≤ 200000 := by omega
      have hlt2 : (k : Int) < 64 * (na : Int) := by omega
      clear hx hst hval hlen hra2 hown hown0 hblk hlen2
      go_wp2_with (first
        | (go_at_call 47; refine (rAt_any A na ca a _ k HRA.out (by omega) (by omega)).mono ?_; rw [HX.out]; rintro e w1 ⟨rfl, rfl⟩)
        | (at_builtin; refine wpList_append_own _ rfl _ _ 70 rfl w.heap.size 3 i0 _ 1 8 Try.underlying70 hi0 hz0 hz1 hz2 rfl (by decide) _ _ _ rfl (HO0.out _).1 ⟨wr.heap.size, 0, none⟩ 1 1 _ rfl rfl (hnew.out _) (by simp [Value.oneCell']) (by simp only [maxLen]; omega) (by omega) (by have := hB.size; simp; omega) ?_; intro v' w3 hown1 hgrow1 _))
      go_roundw
      case rel =>
        have hb3 : Below w.heap.size w w3 := (hB.alloc hB.size _).grown hgrow1 (by rw [World.size_alloc]; have := hB.size; omega) HBK.out
        refine ⟨k + 1, bl ++ [x], by omega, by go_num, HLN.out, HST.out, ⟨?_, bits_append (HO0.out undef).2 (bits_one hx1)⟩, hb3⟩
        rw [List.length_append, List.map_append]
        exact hown1
      case measure => simp [intOf]; omega
    · have hkM : k = 64 * na := by omega
      have hfin : bval bl = val a * 2 ^ bits := by
        rw [hval, hkM, Nat.mod_eq_of_lt HVA.out, Nat.mul_comm]
      obtain ⟨A', c', hv, hrd, _, _⟩ := hown.form
      subst hv
      have HRD := Lib.hid hrd
      have HF := Lib.hid hfin
      have hge : ¬ ((k : Int) < 64 * (na : Int)) := by omega
      have hbl : bl.length ≤ 1000000 := by omega
      clear hval hown hlen hkM hrd hfin
      go_wp2_with fail
      refine (from_any A' bl.length c' bl _ HRD.out hbl).mono ?_
      rintro e w4 ⟨A4, k4, c4, rfl, ho4, hb4⟩
      rw [HF.out] at ho4
      go_wp2_with fail
      go_ret
      exact ⟨A4, k4, c4, rfl, own_mono ho4 hB.size, below_then hB hb4⟩

set_option maxRecDepth 100000 in
set_option maxHeartbeats 1000000 in
theorem rDown_ok (bits : Nat) (hra : Rd w A na a) (hna : na ≤ 1000) (hb : bits ≤ 65536) (hm : may a = true) :
    Calls Try.prog 31 #[.slice A na ca, .int .i64 (bits : Int)] w fun e w' => ∃ A' k c, e = .returned (.tuple #[.slice A' k c, .int .i64 0]) ∧ Own w' w.heap.size (.slice A' k c) (limbs (val a / 2 ^ bits)) ∧ Below w.heap.size w w' := by
  obtain ⟨i0, hi0, hz0, hz1, hz2⟩ := info_parts int_info
  have hva : val a < 2 ^ (64 * na) := val_lt_bits hra.words (by rw [hra.len]; omega)
  have HVA := Lib.hid hva
  have HM := Lib.hid hm
  clear hva hm
  go_enter Try.func31, Try.ntmps31
  go_wp2_with (go_at_call 39; refine (rMay_any A na ca a _ hra (by omega)).mono ?_; rw [HM.out]; rintro e w1 ⟨rfl, rfl⟩)
  go_loopw [6, 7] (fun v i wr => ∃ (k : Nat) (bl : List Nat), (k = 0 ∨ bits + k ≤ 64 * na) ∧ i = .int .i64 ((bits + k : Nat) : Int) ∧ bl.length = k ∧ bval bl = val a / 2 ^ bits % 2 ^ k ∧ OwnI wr w.heap.size v bl ∧ Below w.heap.size w wr) (fun _ i _ => 64 * na - (intOf i).toNat)
  case atStart => exact ⟨0, [], .inl rfl, rfl, rfl, by simp [bval, Nat.mod_one], ⟨World.ownsRow_nil _ _ _ _, fun y hy => by cases hy⟩, Below.refl _ _⟩
  case round =>
    obtain ⟨k, bl, hk, rfl, hlen, hval, hown, hB⟩ := hrel
    have hra2 := hra.below hB
    by_cases hlt : bits + k < 64 * na
    · obtain ⟨x, hx⟩ : ∃ x, nbit (val a) (bits + k) = x := ⟨_, rfl⟩
      have hx1 : x ≤ 1 := by have := nbit_two (val a) (bits + k); omega
      have hst : bval (bl ++ [x]) = val a / 2 ^ bits % 2 ^ (k + 1) := by
        rw [bval_snoc, hlen, mod_succ_bit, nbit_div, hx, hval]
      have HX := Lib.hid hx
      have HST := Lib.hid hst
      have HLN := Lib.hid hlen
      have HRA := Lib.hid hra2
      have hown0 := fun u : Value => hown.below ((Below.refl _ wr).alloc (Nat.le_refl _) (.cells #[u] 3))
      have HO0 := Lib.hid hown0
      have hblk := owni_block hown
      have HBK := Lib.hid hblk
      have hnew := Lib.hid (fun u : Value => cell_one_new wr u 3)
      have hol : bl.length ≤ 200000 := by omega
      obtain ⟨m, hmm⟩ : ∃ m, bits + k = m := ⟨_, rfl⟩
      rw [hmm] at HX hlt ⊢
      have HMM := Lib.hid hmm
      have hm2 : m ≤ 200000 := by omega
      have hlt2 : (m : Int) < 64 * (na : Int) := by omega
      clear hx hst hval hlen hra2 hown hown0 hblk hmm
      go_wp2_with (first
        | (go_at_call 47; refine (rAt_any A na ca a _ m HRA.out (by omega) (by omega)).mono ?_; rw [HX.out]; rintro e w1 ⟨rfl, rfl⟩)
        | (at_builtin; refine wpList_append_own _ rfl _ _ 70 rfl w.heap.size 3 i0 _ 1 8 Try.underlying70 hi0 hz0 hz1 hz2 rfl (by decide) _ _ _ rfl (HO0.out _).1 ⟨wr.heap.size, 0, none⟩ 1 1 _ rfl rfl (hnew.out _) (by simp [Value.oneCell']) (by simp only [maxLen]; omega) (by omega) (by have := hB.size; simp; omega) ?_; intro v' w3 hown1 hgrow1 _))
      go_roundw
      case rel =>
        have hb3 : Below w.heap.size w w3 := (hB.alloc hB.size _).grown hgrow1 (by rw [World.size_alloc]; have := hB.size; omega) HBK.out
        have hmm := HMM.out
        refine ⟨k + 1, bl ++ [x], .inr (by omega), by rw [show bits + (k + 1) = m + 1 by omega]; go_num, by rw [List.length_append, HLN.out]; rfl, HST.out, ⟨?_, bits_append (HO0.out undef).2 (bits_one hx1)⟩, hb3⟩
        rw [List.length_append, List.map_append]
        exact hown1
      case measure => simp [intOf]; omega
    · have hfin : bval bl = val a / 2 ^ bits := by
        rw [hval]
        apply Nat.mod_eq_of_lt
        have h1 := HVA.out
        rw [Nat.div_lt_iff_lt_mul (Nat.two_pow_pos _), ← Nat.pow_add]
        exact Nat.lt_of_lt_of_le h1 (Nat.pow_le_pow_right (by omega) (by omega))
      obtain ⟨A', c', hv, hrd, _, _⟩ := hown.form
      subst hv
      have HRD := Lib.hid hrd
      have HF := Lib.hid hfin
      have hbl : bl.length ≤ 1000000 := by omega
      obtain ⟨m, hmm⟩ : ∃ m, bits + k = m := ⟨_, rfl⟩
      rw [hmm] at hlt ⊢
      have hge : ¬ ((m : Int) < 64 * (na : Int)) := by omega
      clear hval hown hlen hrd hfin hmm
      go_wp2_with fail
      refine (from_any A' bl.length c' bl _ HRD.out hbl).mono ?_
      rintro e w4 ⟨A4, k4, c4, rfl, ho4, hb4⟩
      rw [HF.out] at ho4
      go_wp2_with fail
      go_ret2
      exact ⟨A4, k4, c4, rfl, own_mono ho4 hB.size, below_then hB hb4⟩
end
end Go.Proofs.Ytjpphhfhkdkfhaa
