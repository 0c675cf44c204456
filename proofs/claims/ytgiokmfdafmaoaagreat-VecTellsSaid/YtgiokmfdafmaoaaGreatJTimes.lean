import Derived.Test.YtgiokmfdafmaoaaGreatJRefMul
/- Times. -/
/- The document's product of two numbers, and its answers to Mul and Pow. -/
namespace Go.Proofs.YtgiokmfdafmaoaaGreat
open Go.RowKit Go.Shelf
set_option linter.unusedVariables false
set_option linter.unusedSimpArgs false

/-- A word as a value. (Another name: the walk calls slot 64 'u64'.) -/
abbrev wd (x : Nat) : Value := .int .u64 (x : Int)
theorem digit_facts {x y m c n t d : Nat} (hx : x < H) (hy : y < H) (hm : m < H) (hc : c < H) (hn : x * y + m + c = n) (ht : n % H = t) (hd : n / H = d) :
    IntKind.u64.wrap ((x : Int) * (y : Int)) = (x : Int) * (y : Int) ∧ IntKind.u64.wrap ((x : Int) * (y : Int) + (m : Int)) = (x : Int) * (y : Int) + (m : Int) ∧ IntKind.u64.wrap ((x : Int) * (y : Int) + (m : Int) + (c : Int)) = (n : Int) ∧
    t < H ∧ d < H ∧ t + H * d = x * y + c + m ∧ n < B64 := by
  have h1 := two_digs hx hy hm hc
  rw [hn, H_sq] at h1
  have e : ((x * y : Nat) : Int) = (x : Int) * (y : Int) := by simp
  rw [← e]
  have h2 : d < H := by rw [← hd, Nat.div_lt_iff_lt_mul H_pos, H_sq]; exact h1
  have h3 : t < H := by rw [← ht]; exact Nat.mod_lt _ H_pos
  have h4 := Nat.mod_add_div n H
  rw [ht, hd] at h4
  refine ⟨u64_is (by omega), ?_, ?_, h3, h2, by omega, h1⟩
  · rw [← Int.natCast_add]; exact u64_is (by omega)
  · rw [← Int.natCast_add, ← Int.natCast_add, hn]; exact u64_is h1
theorem sum_idx {i k N : Nat} (h : i + k < N) (hN : N ≤ 1000000) : IntKind.i64.wrap ((i : Int) + (k : Int)) = (i : Int) + (k : Int) := by rw [IntKind.wrap_i64]; omega

section
variable (A A2 : Option Addr) (na ca nb cb : Nat) (a b : List Nat) (w : World)

set_option maxRecDepth 100000 in
set_option maxHeartbeats 3000000 in
/-- The document's Times. -/
theorem times_any (hra : Rd w A na a) (hrb : Rd w A2 nb b) (hna : na ≤ 100000) (hnb : nb ≤ 100000) :
    Calls Tryz.prog 97 #[.slice A na ca, .slice A2 nb cb] w fun e w' => ∃ A' k c, e = .returned (.slice A' k c) ∧ Own w' w.heap.size (.slice A' k c) (limbs (val a * val b)) ∧ Below w.heap.size w w' := by
  have hlX : (halvesL a).length = 2 * na := by rw [halves_length, hra.len]
  have hlY : (halvesL b).length = 2 * nb := by rw [halves_length, hrb.len]
  have hdX := halves_digs hra.words
  have hdY := halves_digs hrb.words
  have hvX := halves_val a
  have hvY := halves_val b
  go_enter Tryz.func97, Tryz.ntmps97
  go_wp2_with fail
  refine (halves_any A na ca a _ hra hna).mono ?_
  rintro e w1 ⟨Ax, kx, cx, rfl, ox, hb1⟩
  replace hrb := hrb.below hb1
  go_wp2_with fail
  refine (halves_any A2 nb cb b _ hrb hnb).mono ?_
  rintro e w2 ⟨Ay, ky, cy, rfl, oy, hb2⟩
  have hrx := (ox.rd.1).below hb2
  have hry := oy.rd.1
  have lx : kx = 2 * na := by have := ox.rd.2.1; omega
  have ly : ky = 2 * nb := by have := oy.rd.2.1; omega
  generalize halvesL a = X at *
  generalize halvesL b = Y at *
  replace hb2 := below_then hb1 hb2
  have HXY : Hid (vb H X = val a ∧ vb H Y = val b) := ⟨hvX, hvY⟩
  have HLX := Lib.hid hlX
  have HLY := Lib.hid hlY
  have LX := Lib.hid lx
  have LY := Lib.hid ly
  have lxb : kx ≤ 200000 := by omega
  have lyb : ky ≤ 200000 := by omega
  clear ox oy hb1 hra hrb hvX hvY hlX hlY lx ly
  have hmk := fun W => run_make_row' (P := Tryz.prog) 22 36 (.int .u64 0) 8 Tryz.underlying22 u64_info rfl .i64 .i64 (kx + ky) (by omega) (by omega) W
  rw [show ((kx + ky : Nat) : Int) = (kx : Int) + (ky : Int) by omega] at hmk
  have hz := RowL.zeros w2 (kx + ky)
  have hB3 := hb2.alloc hb2.size (.cells (madeCells #[.int .u64 0] (kx + ky)) 36)
  have hB3' := (Below.refl w2.heap.size w2).alloc (Nat.le_refl _) (.cells (madeCells #[.int .u64 0] (kx + ky)) 36)
  have hxlt := hrx.lt
  have hylt := hry.lt
  replace hrx := hrx.below hB3'
  replace hry := hry.below hB3'
  have hg : w.heap.size ≤ w2.heap.size := hb2.size
  go_wp2
  clear hmk hB3' hb2
  generalize hW3 : w2.alloc (.cells (madeCells #[.int .u64 0] (kx + ky)) 36) = w3 at *
  generalize hG : w2.heap.size = g at *
  clear hW3 hG
  go_loopw [8] (fun i wr => ∃ (k : Nat) (l : List Nat), k ≤ kx ∧ i = .int .i64 (k : Int) ∧ RowL wr g l ∧ l.length = kx + ky ∧ Digs H l ∧ vb H l = vb H (X.take k) * vb H Y ∧ Below g w3 wr) (fun i _ => kx - (intOf i).toNat)
  case atStart => exact ⟨0, _, by omega, rfl, hz, by simp, digs_zeros H_pos _, by rw [vb_zeros]; simp [vb], Below.refl _ _⟩
  case round =>
    obtain ⟨i, l, hi, rfl, hrow, hlen, hdl, hval, hB⟩ := hrel
    clear hz
    by_cases hlt : i < kx
    · have hrx2 := hrx.keep (hxlt (by omega)) hB
      obtain ⟨b1, o1, rfl, _, hc1⟩ := hrx2.cells (by omega)
      have hcx := hc1 i hlt
      have hxd := hdX.get H_pos i
      obtain ⟨x, hxe⟩ : ∃ x, lim X i = x := ⟨_, rfl⟩
      rw [hxe] at hcx hxd
      have HXE := Lib.hid hxe
      have HV := Lib.hid hval
      have HROW := Lib.hid hrow
      have HLN := Lib.hid hlen
      have hxb : b1 < g := hxlt (by omega) b1 o1 rfl
      have hcx3 : w3.cell? ⟨b1, o1 + i, none⟩ = some (wd x) := (hB.cell (p := ⟨b1, o1 + i, none⟩) hxb).symm.trans hcx
      clear hc1 hxe hval hrow hlen hrx2
      go_wp2
      go_loopw [9, 10] (fun cy i2 wr2 => ∃ (j c : Nat) (l2 : List Nat), j ≤ ky ∧ i2 = .int .i64 (j : Int) ∧ cy = wd c ∧ c < H ∧ RowL wr2 g l2 ∧ l2.length = kx + ky ∧ Digs H l2 ∧ vb H l2 + H ^ (i + j) * c = vb H l + H ^ i * (x * vb H (Y.take j)) ∧ (∀ t, i + j ≤ t → lim l2 t = lim l t) ∧ Below g w3 wr2) (fun _ i2 _ => ky - (intOf i2).toNat)
      case atStart => exact ⟨0, 0, l, by omega, rfl, rfl, H_pos, HROW.out, HLN.out, hdl, by simp [vb], fun _ _ => rfl, hB⟩
      case round =>
        obtain ⟨j, c, l2, hj, rfl, rfl, hc, hrow2, hlen2, hd2, hval2, hsame, hB2⟩ := hrel
        by_cases hlt2 : j < ky
        · have hry2 := hry.keep (hylt (by omega)) hB2
          obtain ⟨b2, o2, rfl, _, hc2⟩ := hry2.cells (by omega)
          have hcy := hc2 j hlt2
          have hcx2 := (hB2.cell (p := ⟨b1, o1 + i, none⟩) hxb).trans hcx3
          have hcu : wr.cell? ⟨g, i + j, none⟩ = some (wd (lim l2 (i + j))) := hrow2.cell (by omega)
          have hfu : wr.frozen? ⟨g, i + j, none⟩ = false := hrow2.frozen _
          have hyd := hdY.get H_pos j
          have hmd := hd2.get H_pos (i + j)
          obtain ⟨y, hye⟩ : ∃ y, lim Y j = y := ⟨_, rfl⟩
          obtain ⟨m, hme⟩ : ∃ m, lim l2 (i + j) = m := ⟨_, rfl⟩
          rw [hye] at hcy hyd
          rw [hme] at hcu hmd
          obtain ⟨n, hn⟩ : ∃ n, x * y + m + c = n := ⟨_, rfl⟩
          obtain ⟨t, ht⟩ : ∃ t, n % H = t := ⟨_, rfl⟩
          obtain ⟨d, hd⟩ : ∃ d, n / H = d := ⟨_, rfl⟩
          obtain ⟨f1, f2, f3, htH, hdH, hkey, hnB⟩ := digit_facts hxd hyd hmd hc hn ht hd
          obtain ⟨g1, g2, g3, g4⟩ := half_facts ht hd
          have f6 := sum_idx (i := i) (k := j) (N := kx + ky) (by omega) (by omega)
          have hst := vrow_step (B := H) (L := l2) (L0 := l) (b := Y) (i := i) (j := j) (by omega) (by rw [hye, hme]; exact hkey) hval2
          have HST := Lib.hid hst
          have HR2 := Lib.hid hrow2
          have HSM := Lib.hid hsame
          have HD2 := Lib.hid hd2
          have HL2 := Lib.hid hlen2
          have hT : Hid (t < H ∧ d < H) := ⟨htH, hdH⟩
          have hwt := u64_is (x := t) (Nat.lt_trans htH (by rw [H_eq, B64_eq]; omega))
          have hwd := u64_is (x := d) (Nat.lt_trans hdH (by rw [H_eq, B64_eq]; omega))
          clear hst hrow2 hsame hd2 hlen2 htH hdH hkey hnB hn ht hd hye hme hc2 hval2 hry2 hdl hdX hdY
          go_wp2
          go_quiet (fail)
          go_wp2
          go_roundw
          case rel =>
            refine ⟨j + 1, d, l2.set (i + j) t, by omega, by go_num, by go_num, hT.out.2, ?_, by rw [List.length_set]; exact HL2.out, digs_set HD2.out hT.out.1, HST.out, fun s hs => ?_, ?_⟩
            · exact (HR2.out.drewN nq).set _ _
            · rw [lim_set (by rw [HL2.out]; omega), if_neg (by omega)]
              exact HSM.out s (by omega)
            · exact (below_drewN hB2 nq).setCell (p := ⟨g, i + j, none⟩) (Nat.le_refl _) _
          case measure => simp [intOf]; omega
        · have hjn : j = ky := by omega
          subst hjn
          have hs0 := hsame (i + j) (Nat.le_refl _)
          have hcu : wr.cell? ⟨g, i + j, none⟩ = some (wd (lim l2 (i + j))) := hrow2.cell (by omega)
          have hfu : wr.frozen? ⟨g, i + j, none⟩ = false := hrow2.frozen _
          have f6 := sum_idx (i := i) (k := j) (N := kx + j) (by omega) (by omega)
          have e1 : Y.length = j := by rw [HLY.out, ← LY.out]
          have e2 : X.length = kx := by rw [HLX.out, ← LX.out]
          rw [vb_take_all (by omega)] at hval2
          have hst := vschool_step H_pos (L := l) (L2 := l2) (a := X) (b := Y) (i := i) (over := c) hdl hdY hdX (by omega) HXE.out (by rw [e1, hlen2]; omega) HV.out (by rw [e1]; exact hval2) (by rw [e1]; exact hs0)
          rw [e1] at hst
          have HST := Lib.hid hst
          have HR2 := Lib.hid hrow2
          have HD2 := Lib.hid hd2
          have HL2 := Lib.hid hlen2
          clear hst hrow2 hsame hd2 hlen2 hval2 hs0 e1 e2
          go_wp2
          go_roundw
          case rel => exact ⟨i + 1, l2.set (i + j) c, by omega, by go_num, HR2.out.set _ _, by rw [List.length_set]; exact HL2.out, digs_set HD2.out hc, HST.out, hB2.setCell (p := ⟨g, i + j, none⟩) (Nat.le_refl _) _⟩
          case measure => simp [intOf]; omega
    · have hik : i = kx := by omega
      have e2 : X.length = kx := by rw [HLX.out, ← LX.out]
      have hv2 : vb H l = val a * val b := by rw [hval, hik, vb_take_all (by omega), HXY.out.1, HXY.out.2]
      have HV := Lib.hid hv2
      have hown := hrow.own (B := g) (n := kx + ky) (Nat.le_refl _) (digs_words hdl) hlen (by simp only [maxLen]; omega)
      have hre := hown.rd.1
      have hBe := hB3.trans (hB.mono hg)
      have hsz := hBe.size
      have e3 : kx + ky = 2 * (na + nb) := by have := LX.out; have := LY.out; omega
      have E3 := Lib.hid e3
      clear hval hv2 hrow hik e2 hown hrx hry e3
      go_wp2_with fail
      refine (whole_any _ (kx + ky) _ _ l (na + nb) hre hdl E3.out (by omega)).mono ?_
      rw [HV.out]
      rintro e w5 ⟨A5, k5, c5, rfl, o5, hb5⟩
      replace o5 := own_mono o5 hsz
      replace hb5 := below_then hBe hb5
      go_wp2_with fail
      go_ret
      exact ⟨_, _, _, rfl, o5, hb5⟩
end
end Go.Proofs.YtgiokmfdafmaoaaGreat
