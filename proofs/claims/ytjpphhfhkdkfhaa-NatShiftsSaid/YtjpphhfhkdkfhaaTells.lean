/- The law NatTells: sums, what is left, which is less and a number's word are the document's. -/
import Derived.Test.YtjpphhfhkdkfhaaCopy
import Derived.Test.YtjpphhfhkdkfhaaSpec
namespace Go.Proofs.Ytjpphhfhkdkfhaa
open Go.RowKit Go.Shelf
set_option linter.unusedVariables false
set_option linter.unusedSimpArgs false


section
variable (A A2 : Option Addr) (na ca nb cb : Nat) (a b : List Nat) (w : World)

set_option maxRecDepth 100000 in
set_option maxHeartbeats 2000000 in
theorem natTells_long (x0 : Nat) (hb : 100 < na ∨ 100 < nb) (h1 : na ≤ 9223372036854775807) (h2 : nb ≤ 9223372036854775807) :
    Calls Try.prog 4 #[.slice A na ca, .slice A2 nb cb, u64 x0] w fun e w' => e = .returned (.bool true) ∧ Below w.heap.size w w' := by
  by_cases ha : 100 < na
  · go_enter Try.func4, Try.ntmps4
    go_wp2
    go_ret
    exact ⟨rfl, Below.refl _ _⟩
  · have hc : 100 < nb := by omega
    go_enter Try.func4, Try.ntmps4
    go_wp2
    go_ret
    exact ⟨rfl, Below.refl _ _⟩

set_option maxRecDepth 100000 in
set_option maxHeartbeats 1500000 in
theorem natTells_short (x0 : Nat) (hx0 : x0 < B64) (hra : Rd w A na a) (hrb : Rd w A2 nb b) (h1 : na ≤ 100) (h2 : nb ≤ 100) (hca : A = none → na = 0 ∧ ca = 0) :
    Calls Try.prog 4 #[.slice A na ca, .slice A2 nb cb, u64 x0] w fun e w' => e = .returned (.bool true) ∧ Below w.heap.size w w' := by
  obtain ⟨i0, hi0, hz0, hz1, hz2⟩ := info_parts u64_info
  have hlaX : (addL a b).length ≤ 101 := by
    unfold addL
    split
    · exact length_le_of_val hra.words hrb.words (by rw [hra.len]; omega) (by rw [hrb.len]; omega)
    · simp
  have hlaZ : (subL a b).length ≤ 101 := by
    unfold subL
    split
    · split
      · simp
      · exact length_sub_le hra.words _ (by rw [hra.len]; omega)
    · simp
  have HCA := Lib.hid hca
  clear hca
  go_enter Try.func4, Try.ntmps4
  go_wp2_with (at_builtin; go_loud (refine wpList_copy rfl _ _ 27 rfl i0 Try.underlying27 hi0 hz0 hz1 hz2 rfl A na ca a rfl HCA.out hra h1 ?_); intro Ao co w1 hown hb1)
  replace hra := hra.below hb1
  replace hrb := hrb.below hb1
  have hro := hown.rd.1
  clear hown
  go_wp2_with fail
  refine (cmp_spec _ _ _ _ _ _ a b _ hro hrb (by omega) (by omega)).mono ?_
  rintro e w2 ⟨rfl, hb2⟩
  replace hra := hra.below hb2
  replace hrb := hrb.below hb2
  replace hro := hro.below hb2
  replace hb2 := below_then hb1 hb2
  clear hb1
  go_wp2_with fail
  refine (rCmp_spec _ _ _ _ _ _ a b _ hra hrb (by omega) (by omega)).mono ?_
  rintro e w3 ⟨rfl, hb3⟩
  replace hra := hra.below hb3
  replace hrb := hrb.below hb3
  replace hro := hro.below hb3
  replace hb3 := below_then hb2 hb3
  clear hb2
  go_wp2_with fail
  have ltO := hro.lt
  have ltA := hra.lt
  have hGx : w.heap.size ≤ w3.heap.size := hb3.size
  refine (add_spec _ _ _ _ _ _ a b _ hro hrb (by omega) (by omega)).mono ?_
  rintro e w4 ⟨Ax, kx, cx, rfl, ox, hb4⟩
  have hB4 := hb4.size
  generalize hBx : w3.heap.size = Bx at ox ltO ltA hGx hB4
  replace hra := hra.below hb4
  replace hrb := hrb.below hb4
  replace hro := hro.below hb4
  replace hb4 := below_then hb3 hb4
  clear hb3
  go_wp2_with fail
  refine (rAdd_spec _ _ _ _ _ _ a b _ hra hrb (by omega) (by omega)).mono ?_
  rintro e w5 ⟨Ay, ky, cy, rfl, oy, hb5⟩
  have hBB := Nat.le_trans hB4 hb5.size
  have ry := oy.rd.1
  have ly : ky ≤ 101 := by have := oy.rd.2.1; omega
  clear oy
  replace hra := hra.below hb5
  replace hrb := hrb.below hb5
  replace hro := hro.below hb5
  replace ox := ox.below hb5
  replace hb5 := below_then hb4 hb5
  clear hb4
  go_wp2_with fail
  have ltX := fun k e => (ox.1.lt k e).2
  have hGz : w.heap.size ≤ w5.heap.size := hb5.size
  clear hB4
  refine (sub_spec _ _ _ _ _ _ a b _ hro hrb (by omega) (by omega)).mono ?_
  rintro e w6 ⟨Az, kz, cz, rfl, oz, hb6⟩
  generalize hBz : w5.heap.size = Bz at oz ltX hGz hBB
  replace hra := hra.below hb6
  replace hrb := hrb.below hb6
  replace hro := hro.below hb6
  replace ox := ox.below hb6
  replace ry := ry.below hb6
  replace hb6 := below_then hb5 hb6
  clear hb5
  go_wp2_with fail
  refine (rSub_spec _ _ _ _ _ _ a b _ hra hrb (by omega) (by omega)).mono ?_
  rintro e w7 ⟨Av, kv, cv, rfl, ov, hb7⟩
  have rv := ov.rd.1
  have lv : kv ≤ 101 := by have := ov.rd.2.1; omega
  clear ov
  replace hra := hra.below hb7
  replace hrb := hrb.below hb7
  replace hro := hro.below hb7
  replace ox := ox.below hb7
  replace ry := ry.below hb7
  replace oz := oz.below hb7
  replace hb7 := below_then hb6 hb7
  clear hb6
  go_wp2_with fail
  refine (word_spec _ _ _ a _ hro (by omega)).mono ?_
  rintro e w8 ⟨rfl, hb8⟩
  replace hra := hra.below hb8
  replace hrb := hrb.below hb8
  replace hro := hro.below hb8
  replace ox := ox.below hb8
  replace ry := ry.below hb8
  replace oz := oz.below hb8
  replace rv := rv.below hb8
  replace hb8 := below_then hb7 hb8
  clear hb7
  go_wp2_with fail
  refine (rWord_spec _ _ _ a _ hra (by omega)).mono ?_
  rintro e w9 ⟨rfl, hb9⟩
  replace hra := hra.below hb9
  replace hrb := hrb.below hb9
  replace hro := hro.below hb9
  replace ox := ox.below hb9
  replace ry := ry.below hb9
  replace oz := oz.below hb9
  replace rv := rv.below hb9
  replace hb9 := below_then hb8 hb9
  clear hb8
  go_wp2_with fail
  refine (check_any _ _ _ a _ hro (by omega)).mono ?_
  rintro e w10 ⟨rfl, hb10⟩
  replace hra := hra.below hb10
  replace hrb := hrb.below hb10
  replace hro := hro.below hb10
  replace ox := ox.below hb10
  replace ry := ry.below hb10
  replace oz := oz.below hb10
  replace rv := rv.below hb10
  replace hb10 := below_then hb9 hb10
  clear hb9
  go_wp2_with fail
  refine (rCheck_any _ _ _ a _ hra (by omega)).mono ?_
  rintro e wq ⟨rfl, rfl⟩
  go_wp2_with fail
  refine (same_any _ _ _ _ _ _ (addL a b) (addL a b) _ ox.rd.1 ry (by have := ox.rd.2.1; omega) (by omega)).mono ?_
  rw [decide_eq_true (show addL a b = addL a b from rfl)]
  rintro e w11 ⟨rfl, hb11⟩
  replace hra := hra.below hb11
  replace hrb := hrb.below hb11
  replace hro := hro.below hb11
  replace ox := ox.below hb11
  replace oz := oz.below hb11
  replace rv := rv.below hb11
  replace hb11 := below_then hb10 hb11
  clear hb10
  go_wp2_with fail
  refine (same_any _ _ _ _ _ _ (subL a b) (subL a b) _ oz.rd.1 rv (by have := oz.rd.2.1; omega) (by omega)).mono ?_
  rw [decide_eq_true (show subL a b = subL a b from rfl)]
  rintro e w12 ⟨rfl, hb12⟩
  replace hra := hra.below hb12
  replace hrb := hrb.below hb12
  replace hro := hro.below hb12
  replace ox := ox.below hb12
  replace oz := oz.below hb12
  replace hb12 := below_then hb11 hb12
  clear hb11
  have hlx : kx ≤ 101 := by have := ox.rd.2.1; omega
  go_wp2_with fail
  go_loopw [25] (fun i W => ∃ (k : Nat) (l : List Nat), k ≤ kx ∧ i = .int .i64 (k : Int) ∧ Own W Bx (.slice Ax kx cx) l ∧ KeepsOf (But w12.heap.size (.slice Ax kx cx)) w12 W ∧ Below w.heap.size w W) (fun i _ => kx - (intOf i).toNat)
  case atStart => exact ⟨0, _, by omega, rfl, ox, KeepsOf.refl _, hb12⟩
  case round =>
    obtain ⟨k, l, hk, rfl, ol, hkeep, hB⟩ := hrel
    by_cases hlt : k < kx
    · obtain ⟨g, rfl, hg, _⟩ := own_at ol (by omega)
      have hcell := (own_cell ol hlt).1
      have hfr := (own_cell ol hlt).2
      have OL := Lib.hid ol
      have HK := Lib.hid hkeep
      clear ol hkeep hra hrb hro ox oz
      go_wp2
      go_roundw
      case rel =>
        rw [incr_word]
        exact ⟨k + 1, _, by omega, by go_num, own_set OL.out hlt (Nat.mod_lt _ B64_pos), set_keeps _ _ HK.out, hB.setCell (p := ⟨g, k, none⟩) (Nat.le_trans hGx hg) _⟩
      case measure => simp [intOf]; omega
    · have hkn : k = kx := by omega
      subst hkn
      replace hra := rd_but hra ox ltA hkeep
      replace hro := rd_but hro ox ltO hkeep
      replace oz := own_but oz ox ltX hkeep
      have ltO2 : 0 < na → ∀ b off, Ao = some ⟨b, off, none⟩ → b < Bz := fun h b off e => Nat.lt_of_lt_of_le (ltO h b off e) hBB
      have ltA2 : 0 < na → ∀ b off, A = some ⟨b, off, none⟩ → b < Bz := fun h b off e => Nat.lt_of_lt_of_le (ltA h b off e) hBB
      clear ol hkeep hrb ox ltX ltO ltA hb12
      have hlz : kz ≤ 101 := by have := oz.rd.2.1; omega
      go_wp2_with fail
      go_loopw [26] (fun i W => ∃ (k : Nat) (l : List Nat), k ≤ kz ∧ i = .int .i64 (k : Int) ∧ Own W Bz (.slice Az kz cz) l ∧ KeepsOf (But wr.heap.size (.slice Az kz cz)) wr W ∧ Below w.heap.size w W) (fun i _ => kz - (intOf i).toNat)
      case atStart => exact ⟨0, _, by omega, rfl, oz, KeepsOf.refl _, hB⟩
      case round =>
        obtain ⟨k, l, hk, rfl, ol, hkeep, hB2⟩ := hrel
        by_cases hlt : k < kz
        · obtain ⟨g, rfl, hg, _⟩ := own_at ol (by omega)
          have hcell := (own_cell ol hlt).1
          have hfr := (own_cell ol hlt).2
          have OL := Lib.hid ol
          have HK := Lib.hid hkeep
          clear ol hkeep hra hro oz
          go_wp2
          go_roundw
          case rel =>
            rw [incr_word]
            exact ⟨k + 1, _, by omega, by go_num, own_set OL.out hlt (Nat.mod_lt _ B64_pos), set_keeps _ _ HK.out, hB2.setCell (p := ⟨g, k, none⟩) (Nat.le_trans hGz hg) _⟩
          case measure => simp [intOf]; omega
        · have hkn : k = kz := by omega
          subst hkn
          replace hra := rd_but hra oz ltA2 hkeep
          replace hro := rd_but hro oz ltO2 hkeep
          clear ol hkeep oz ltO2 ltA2 hB
          have hb20 := hB2
          clear hB2
          go_wp2_with fail
          refine (of_any x0 _ hx0).mono ?_
          rintro e w21 ⟨Ap, kp, cp, rfl, op, hb21⟩
          have rp := op.rd.1
          have lp : kp ≤ 1 := by have h1 := op.rd.2.1; have h2 := limbs_length_le (k := 1) (show x0 < B64 ^ 1 by simpa using hx0); omega
          clear op
          replace hra := hra.below hb21
          replace hro := hro.below hb21
          replace hb21 := below_then hb20 hb21
          clear hb20
          go_wp2_with fail
          refine (rOf_any _ x0 hx0).mono ?_
          rintro e w22 ⟨Aq, kq, cq, rfl, oq, hb22⟩
          have rq := oq.rd.1
          have lq : kq ≤ 1 := by have h1 := oq.rd.2.1; have h2 := limbs_length_le (k := 1) (show x0 < B64 ^ 1 by simpa using hx0); omega
          clear oq
          replace hra := hra.below hb22
          replace hro := hro.below hb22
          replace rp := rp.below hb22
          replace hb22 := below_then hb21 hb22
          clear hb21
          go_wp2_with fail
          refine (same_any _ _ _ _ _ _ (limbs x0) (limbs x0) _ rp rq (by omega) (by omega)).mono ?_
          rw [decide_eq_true (show limbs x0 = limbs x0 from rfl)]
          rintro e w23 ⟨rfl, hb23⟩
          replace hra := hra.below hb23
          replace hro := hro.below hb23
          replace hb23 := below_then hb22 hb23
          clear hb22
          go_wp2_with fail
          refine (same_any _ _ _ _ _ _ a a _ hro hra (by omega) (by omega)).mono ?_
          rw [decide_eq_true (show a = a from rfl)]
          rintro e w24 ⟨rfl, hb24⟩
          replace hra := hra.below hb24
          replace hro := hro.below hb24
          replace hb24 := below_then hb23 hb24
          clear hb23
          go_wp2_with fail
          go_ret
          exact ⟨rfl, hb24⟩


theorem natTells_any (x0 : Nat) (hx0 : x0 < B64) (hra : Rd w A na a) (hrb : Rd w A2 nb b) (h1 : na ≤ 9223372036854775807) (h2 : nb ≤ 9223372036854775807) (hca : A = none → na = 0 ∧ ca = 0) :
    Calls Try.prog 4 #[.slice A na ca, .slice A2 nb cb, u64 x0] w fun e w' => e = .returned (.bool true) ∧ Below w.heap.size w w' := by
  by_cases h : 100 < na ∨ 100 < nb
  · exact natTells_long A A2 na ca nb cb w x0 h h1 h2
  · exact natTells_short A A2 na ca nb cb a b w x0 hx0 hra hrb (by omega) (by omega) hca
end
end Go.Proofs.Ytjpphhfhkdkfhaa
