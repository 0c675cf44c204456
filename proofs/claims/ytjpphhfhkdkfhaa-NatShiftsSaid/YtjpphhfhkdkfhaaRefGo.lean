import Derived.Test.YtjpphhfhkdkfhaaRefFrom
namespace Go.Proofs.Ytjpphhfhkdkfhaa
open Go.RowKit Go.Shelf
set_option linter.unusedVariables false
set_option linter.unusedSimpArgs false

theorem add_word (y r : Nat) (h : y + 2 ^ r < B64) : IntKind.u64.wrap ((y : Int) + IntKind.u64.wrap (2 ^ r)) = ((y + 2 ^ r : Nat) : Int) := by
  have e : (2 : Int) ^ r = ((2 ^ r : Nat) : Int) := by simp
  rw [e, u64_wrap_nat, ← Int.natCast_add, u64_wrap_nat, Nat.mod_eq_of_lt (show 2 ^ r < B64 by omega), Nat.mod_eq_of_lt h]

set_option maxRecDepth 100000 in
set_option maxHeartbeats 4000000 in
theorem from_any (A : Option Addr) (n c : Nat) (bl : List Nat) (w : World) (hr : RdI w A n bl) (hn : n ≤ 1000000) :
    Calls Try.prog 49 #[.slice A n c] w fun e w' => ∃ A' k c', e = .returned (.slice A' k c') ∧ Own w' w.heap.size (.slice A' k c') (limbs (bval bl)) ∧ Below w.heap.size w w' := by
  obtain ⟨i0, hi0, hz0, hz1, hz2⟩ := info_parts u64_info
  go_enter Try.func49, Try.ntmps49
  go_wp2
  go_loop [3] (fun i => ∃ k : Nat, k ≤ n ∧ i = .int .i64 (k : Int) ∧ ∀ j, k ≤ j → lim bl j = 0) (fun i => (intOf i).toNat)
  case atStart => exact ⟨n, Nat.le_refl _, rfl, fun j hj => lim_past (by rw [hr.len]; omega)⟩
  case round =>
    obtain ⟨m, hm, rfl, hz⟩ := hrel
    by_cases hstep : m ≠ 0 ∧ lim bl (m - 1) = 0
    · obtain ⟨hm0, hx⟩ := hstep
      obtain ⟨b, off, rfl, hb, hc⟩ := hr.cells (by omega)
      obtain ⟨j, rfl⟩ : ∃ j, m = j + 1 := ⟨m - 1, by omega⟩
      rw [Nat.add_sub_cancel] at hx
      have hci := hc j (by omega)
      rw [hx] at hci
      have HX := Lib.hid hx
      have HZ := Lib.hid hz
      have HH := Lib.hid hr
      clear hx hz hr hc
      go_wp2
      go_round
      case rel => exact ⟨j, by omega, by go_num, fun i hi => by
        rcases Nat.eq_or_lt_of_le hi with rfl | hi
        · exact HX.out
        · exact HZ.out i hi⟩
      case measure => simp [intOf]
    · -- THE END OF THE FIRST LOOP: m is 0, or the bit m - 1 is 1
      have htop : m = 0 ∨ lim bl (m - 1) = 1 := by
        by_cases h0 : m = 0
        · exact .inl h0
        · have h1 := hr.bits.get (m - 1)
          have h2 : lim bl (m - 1) ≠ 0 := fun e => hstep ⟨h0, e⟩
          exact .inr (by omega)
      have hv : bval (bl.take m) = bval bl := bval_take_zeros hz
      have hfin : ∀ o, Words o → o.length = (m + 63) / 64 → val o = bval (bl.take m) → o = limbs (bval bl) := by
        intro o hw hl ho
        rw [← hv, ← ho]
        refine (limbs_val hw ?_).symm
        rcases htop with h0 | h1
        · subst h0
          have : o = [] := List.eq_nil_of_length_eq_zero (by omega)
          rw [this]; rfl
        · by_cases h0 : m = 0
          · subst h0
            have : o = [] := List.eq_nil_of_length_eq_zero (by omega)
            rw [this]; rfl
          · obtain ⟨j, rfl⟩ : ∃ j, m = j + 1 := ⟨m - 1, by omega⟩
            rw [Nat.add_sub_cancel] at h1
            rw [bval_take_succ, h1, Nat.mul_one] at ho
            have hne : o ≠ [] := fun e => by rw [e] at hl; simp at hl; omega
            rw [may_last hne]
            have hge : 2 ^ j ≤ val o := by omega
            simp only [bne_iff_ne]
            intro e0
            have e2 : val (o.take (o.length - 1)) = val o := val_take_zeros fun i hi => by
              rcases Nat.eq_or_lt_of_le hi with rfl | hi
              · exact e0
              · exact lim_past (by omega)
            have h3 := val_lt (hw.take (o.length - 1))
            rw [e2] at h3
            have h4 : B64 ^ (o.take (o.length - 1)).length ≤ 2 ^ j := by
              rw [B64_pow]
              refine Nat.pow_le_pow_right (by omega) ?_
              rw [List.length_take]; omega
            omega
      have hmt : ∀ hm0 : m ≠ 0, ∃ b off, A = some ⟨b, off, none⟩ ∧ b < w.heap.size ∧ (∀ i, i < n → w.cell? ⟨b, off + i, none⟩ = some (i64n (lim bl i))) ∧ lim bl (m - 1) = 1 := fun hm0 => by
        obtain ⟨b, off, e, hb, hc⟩ := hr.cells (by omega)
        exact ⟨b, off, e, hb, hc, htop.resolve_left hm0⟩
      have HF := Lib.hid hfin
      have HT := Lib.hid hmt
      have HR := Lib.hid hr
      clear hfin hmt htop hstep hz hv hr
      have hloop : ∀ (K : Act → World → Prop), True := fun _ => trivial
      by_cases hm0 : m = 0
      · subst hm0
        go_wp2
        go_loop [4, 5] (fun o i => o = .slice none 0 0 ∧ i = .int .i64 0) (fun _ _ => 0)
        case atStart => exact ⟨rfl, rfl⟩
        case round =>
          obtain ⟨rfl, rfl⟩ := hrel
          go_wp2
          go_ret
          refine ⟨none, 0, 0, rfl, ?_, Below.refl _ _⟩
          rw [← HF.out [] words_nil rfl (by simp [val, bval])]
          exact ⟨World.ownsRow_nil _ _ _ _, words_nil⟩
      · obtain ⟨b, off, rfl, hb, hc, hx⟩ := HT.out hm0
        obtain ⟨j, rfl⟩ : ∃ j, m = j + 1 := ⟨m - 1, by omega⟩
        rw [Nat.add_sub_cancel] at hx
        have hci := hc j (by omega)
        rw [hx] at hci
        have HC := Lib.hid hc
        clear hc hx hloop
        go_wp2
        go_loopw [4, 5] (fun v i wr => ∃ (k : Nat) (o : List Nat), k ≤ j + 1 ∧ i = .int .i64 (k : Int) ∧ o.length = (k + 63) / 64 ∧ val o = bval (bl.take k) ∧ Own wr w.heap.size v o ∧ Below w.heap.size w wr) (fun _ i _ => j + 1 - (intOf i).toNat)
        case atStart => exact ⟨0, [], by omega, rfl, rfl, by simp [val, bval], ⟨World.ownsRow_nil _ _ _ _, words_nil⟩, Below.refl _ _⟩
        case round =>
          obtain ⟨k, o, hk, rfl, hlen, hval, hown, hB⟩ := hrel
          by_cases hlt : k < j + 1
          · have hck : wr.cell? ⟨b, off + k, none⟩ = some (i64n (lim bl k)) := (hB.cell (p := ⟨b, off + k, none⟩) hb).trans (HC.out k (by omega))
            obtain ⟨q, hq⟩ : ∃ q, k / 64 = q := ⟨_, rfl⟩
            obtain ⟨r, hr⟩ : ∃ r, k % 64 = r := ⟨_, rfl⟩
            have e1 : ((k : Nat) : Int) / 64 = (q : Int) := by omega
            have e2 : ((k : Nat) : Int) % 64 = (r : Int) := by omega
            have hr1 : (r : Int) < 64 := by omega
            have hq1 : (q : Int) ≤ 1000000 := by omega
            have hbit : lim bl k = 1 ∨ lim bl k = 0 := by have := HR.out.bits.get k; omega
            rcases hbit with hxx | hxx
            · have hx1 := Lib.hid hxx
              clear hxx
              by_cases h64 : r = 0
              · skip
                have ht64 : (((r : Nat) : Int) == 0) = true := by simp; omega
                have hnew := Lib.hid (cell_one_new wr (u64 0) 25)
                have hown0 := hown.below ((Below.refl _ wr).alloc (Nat.le_refl _) (.cells #[u64 0] 25))
                have HO0 := Lib.hid hown0
                have hol : o.length ≤ 20000 := by omega
                have hlen2 : (o ++ [0]).length = q + 1 := by rw [List.length_append, hlen]; simp; omega
                have hval2 : val (o ++ [0]) = bval (bl.take k) := by rw [val_snoc_zero, hval]
                have HV := Lib.hid hval2
                have HLN := Lib.hid hlen2
                have hblk := own_block hown
                have HBK := Lib.hid hblk
                have HCK := Lib.hid hck
                have HQ := Lib.hid hq
                have HRR := Lib.hid hr
                clear hown0 hval hlen hown hlen2 hval2 hblk hck hq hr h64
                go_wp2_with (at_builtin; refine wpList_append_own _ rfl _ _ 27 rfl w.heap.size 25 i0 _ 1 8 Try.underlying27 hi0 hz0 hz1 hz2 rfl (by decide) _ _ _ rfl HO0.out.1 ⟨wr.heap.size, 0, none⟩ 1 1 [u64 0] rfl rfl hnew.out (by simp [Value.oneCell']) (by simp only [maxLen]; omega) (by omega) (by have := hB.size; simp; omega) ?_; intro v' w1 hown1 hgrow1 _; have hB1 : Below w.heap.size w w1 := (hB.alloc hB.size _).grown hgrow1 (by rw [World.size_alloc]; have := hB.size; omega) HBK.out; have hO1 : Own w1 w.heap.size v' (o ++ [0]) := ⟨by rw [List.length_append, List.map_append]; exact hown1, words_append HO0.out.2 (words_cons B64_pos words_nil)⟩; obtain ⟨g, c3, rfl, hg, hglt⟩ := own_form hO1 (by simp); rw [HLN.out] at hO1; have hcu := (own_cell hO1 (i := q) (by omega)).1; have hfu := (own_cell hO1 (i := q) (by omega)).2; have hckk : w1.cell? ⟨b, off + k, none⟩ = some (i64n (lim bl k)) := (hB1.cell (p := ⟨b, off + k, none⟩) hb).trans (HC.out k (by omega)); rw [hx1.out] at hckk; have HO1 := Lib.hid hO1; rw [HLN.out]; clear hO1 hown1)
                have hst := from_step HO1.out.2 HR.out.bits (by rw [HR.out.len]; omega) HV.out (by rw [HLN.out, HQ.out]; omega) hx1.out
                rw [HQ.out, HRR.out] at hst
                have HST := Lib.hid hst
                clear hst
                go_region
                rw [add_word _ _ HST.out.1]
                go_wp2
                go_roundw
                case rel =>
                  refine ⟨k + 1, _, by omega, by go_num, ?_, HST.out.2, ?_, (hB1.setCell (p := ⟨g, q, none⟩) hg _).drew⟩
                  · have := HQ.out
                    rw [List.length_set, HLN.out]; omega
                  · exact (own_set HO1.out (by omega) HST.out.1).below (below_drewN (Below.refl _ _) 1)
                case measure => simp [intOf]; omega
              · skip
                have ht64 : (((r : Nat) : Int) == 0) = false := by simp; omega
                have hlen2 : o.length = q + 1 := by rw [hlen]; omega
                obtain ⟨g, c3, rfl, hg, hglt⟩ := own_form hown (by intro e; rw [e] at hlen2; simp at hlen2)
                rw [hlen2] at hown
                have hcu := (own_cell hown (i := q) (by omega)).1
                have hfu := (own_cell hown (i := q) (by omega)).2
                have HV := Lib.hid hval
                have HLN := Lib.hid hlen2
                have HO1 := Lib.hid hown
                have hckk := hck
                rw [hx1.out] at hckk
                rw [hlen2]
                have HQ := Lib.hid hq
                have HRR := Lib.hid hr
                have hB1 := hB
                clear hval hlen hown hlen2 hck hq hr h64
                go_wp2
                have hst := from_step HO1.out.2 HR.out.bits (by rw [HR.out.len]; omega) HV.out (by rw [HLN.out, HQ.out]; omega) hx1.out
                rw [HQ.out, HRR.out] at hst
                have HST := Lib.hid hst
                clear hst
                go_region
                rw [add_word _ _ HST.out.1]
                go_wp2
                go_roundw
                case rel =>
                  refine ⟨k + 1, _, by omega, by go_num, ?_, HST.out.2, ?_, (hB1.setCell (p := ⟨g, q, none⟩) hg _).drew⟩
                  · have := HQ.out
                    rw [List.length_set, HLN.out]; omega
                  · exact (own_set HO1.out (by omega) HST.out.1).below (below_drewN (Below.refl _ _) 1)
                case measure => simp [intOf]; omega
            · have hx1 := Lib.hid hxx
              clear hxx
              by_cases h64 : r = 0
              · skip
                have ht64 : (((r : Nat) : Int) == 0) = true := by simp; omega
                have hnew := Lib.hid (cell_one_new wr (u64 0) 25)
                have hown0 := hown.below ((Below.refl _ wr).alloc (Nat.le_refl _) (.cells #[u64 0] 25))
                have HO0 := Lib.hid hown0
                have hol : o.length ≤ 20000 := by omega
                have hlen2 : (o ++ [0]).length = q + 1 := by rw [List.length_append, hlen]; simp; omega
                have hval2 : val (o ++ [0]) = bval (bl.take k) := by rw [val_snoc_zero, hval]
                have HV := Lib.hid hval2
                have HLN := Lib.hid hlen2
                have hblk := own_block hown
                have HBK := Lib.hid hblk
                have HCK := Lib.hid hck
                have HQ := Lib.hid hq
                have HRR := Lib.hid hr
                clear hown0 hval hlen hown hlen2 hval2 hblk hck hq hr h64
                go_wp2_with (at_builtin; refine wpList_append_own _ rfl _ _ 27 rfl w.heap.size 25 i0 _ 1 8 Try.underlying27 hi0 hz0 hz1 hz2 rfl (by decide) _ _ _ rfl HO0.out.1 ⟨wr.heap.size, 0, none⟩ 1 1 [u64 0] rfl rfl hnew.out (by simp [Value.oneCell']) (by simp only [maxLen]; omega) (by omega) (by have := hB.size; simp; omega) ?_; intro v' w1 hown1 hgrow1 _; have hB1 : Below w.heap.size w w1 := (hB.alloc hB.size _).grown hgrow1 (by rw [World.size_alloc]; have := hB.size; omega) HBK.out; have hO1 : Own w1 w.heap.size v' (o ++ [0]) := ⟨by rw [List.length_append, List.map_append]; exact hown1, words_append HO0.out.2 (words_cons B64_pos words_nil)⟩; obtain ⟨g, c3, rfl, hg, hglt⟩ := own_form hO1 (by simp); rw [HLN.out] at hO1; have hcu := (own_cell hO1 (i := q) (by omega)).1; have hfu := (own_cell hO1 (i := q) (by omega)).2; have hckk : w1.cell? ⟨b, off + k, none⟩ = some (i64n (lim bl k)) := (hB1.cell (p := ⟨b, off + k, none⟩) hb).trans (HC.out k (by omega)); rw [hx1.out] at hckk; have HO1 := Lib.hid hO1; rw [HLN.out]; clear hO1 hown1)
                go_roundw
                case rel =>
                  refine ⟨k + 1, _, by omega, by go_num, ?_, ?_, HO1.out, hB1⟩
                  · have := HQ.out
                    rw [HLN.out]; omega
                  · rw [bval_take_succ, hx1.out, Nat.mul_zero, Nat.add_zero]; exact HV.out
                case measure => simp [intOf]; omega
              · skip
                have ht64 : (((r : Nat) : Int) == 0) = false := by simp; omega
                have hlen2 : o.length = q + 1 := by rw [hlen]; omega
                obtain ⟨g, c3, rfl, hg, hglt⟩ := own_form hown (by intro e; rw [e] at hlen2; simp at hlen2)
                rw [hlen2] at hown
                have hcu := (own_cell hown (i := q) (by omega)).1
                have hfu := (own_cell hown (i := q) (by omega)).2
                have HV := Lib.hid hval
                have HLN := Lib.hid hlen2
                have HO1 := Lib.hid hown
                have hckk := hck
                rw [hx1.out] at hckk
                rw [hlen2]
                have HQ := Lib.hid hq
                have HRR := Lib.hid hr
                have hB1 := hB
                clear hval hlen hown hlen2 hck hq hr h64
                go_wp2
                go_roundw
                case rel =>
                  refine ⟨k + 1, _, by omega, by go_num, ?_, ?_, HO1.out, hB1⟩
                  · have := HQ.out
                    rw [HLN.out]; omega
                  · rw [bval_take_succ, hx1.out, Nat.mul_zero, Nat.add_zero]; exact HV.out
                case measure => simp [intOf]; omega
          · have hkj : k = j + 1 := by omega
            have ho2 : o = limbs (bval bl) := HF.out o hown.2 (by rw [hlen, hkj]) (by rw [hval, hkj])
            obtain ⟨A', c', rfl⟩ := own_shape hown
            have HO := Lib.hid hown
            have HE := Lib.hid ho2
            have hkj2 : ¬ (k : Int) < (j : Int) + 1 := by omega
            clear hown ho2 hlen hval hkj
            go_wp2
            go_ret
            refine ⟨A', o.length, c', rfl, ?_, hB⟩
            have := HO.out
            rw [← HE.out]
            exact this
end Go.Proofs.Ytjpphhfhkdkfhaa
