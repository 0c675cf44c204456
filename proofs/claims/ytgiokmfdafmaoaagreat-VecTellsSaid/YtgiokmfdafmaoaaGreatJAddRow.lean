import Derived.Test.YtgiokmfdafmaoaaGreatJMTrim
/- AddRow. -/
/- mul.addRow: a number times one limb is added to the lowest limbs of a row, in place. -/
namespace Go.Proofs.YtgiokmfdafmaoaaGreat
open Go.RowKit Go.Shelf
set_option linter.unusedVariables false

theorem u64_add_fits {x y : Nat} (h : x + y < B64) : IntKind.u64.wrap ((x : Int) + (y : Int)) = (x : Int) + (y : Int) := by
  rw [IntKind.wrap_u64]; rw [B64_eq] at h; omega

set_option maxRecDepth 100000 in
set_option maxHeartbeats 2000000 in
/-- mul.addRow. -/
theorem addRow_any (g i M C N : Nat) (L : List Nat) (x : Nat) (A : Option Addr) (nb cb : Nat) (b : List Nat) (w : World) (hrow : RowL w g L) (hL : L.length = N) (hwL : Words L) (hx : x < B64) (hrb : Rd w A nb b)
    (hg : 0 < nb → ∀ b0 off, A = some ⟨b0, off, none⟩ → b0 < g) (hM : i + M = N) (hN : nb ≤ M) (hN2 : N ≤ 4294967296) :
    Calls Tryz.prog 144 #[.slice (some ⟨g, i, none⟩) M C, u64 x, .slice A nb cb] w fun e w' => ∃ L2 over, e = .returned (u64 over) ∧ over < B64 ∧ RowL w' g L2 ∧ L2.length = N ∧ Words L2 ∧
      val L2 + B64 ^ (i + nb) * over = val L + B64 ^ i * (x * val b) ∧ (∀ k, i + nb ≤ k → lim L2 k = lim L k) ∧ Below g w w' := by
  go_enter Tryz.func144, Tryz.ntmps144
  go_wp2
  go_loopw [7, 17] (fun o i2 wr => ∃ (j over : Nat) (L2 : List Nat), j ≤ nb ∧ i2 = .int .i64 (j : Int) ∧ o = u64 over ∧ over < B64 ∧ RowL wr g L2 ∧ L2.length = N ∧ Words L2 ∧ val L2 + B64 ^ (i + j) * over = val L + B64 ^ i * (x * val (b.take j)) ∧ (∀ k, i + j ≤ k → lim L2 k = lim L k) ∧ Below g w wr) (fun _ i2 _ => nb - (intOf i2).toNat)
  case atStart => exact ⟨0, 0, L, by omega, rfl, rfl, B64_pos, hrow, hL, hwL, by simp [val], fun _ _ => rfl, Below.refl _ _⟩
  case round =>
    obtain ⟨j, over, L2, hj, rfl, rfl, ho, hrow2, hlen, hw2, hval, hsame, hkp⟩ := hrel
    by_cases hlt : j < nb
    · obtain ⟨b1, o1, rfl, _, hc1⟩ := (hrb.keep (hg (by omega)) hkp).cells (by omega)
      have hcb := hc1 j hlt
      have hcu : wr.cell? ⟨g, i + j, none⟩ = some (u64 (lim L2 (i + j))) := hrow2.cell (by omega)
      have hfu : wr.frozen? ⟨g, i + j, none⟩ = false := hrow2.frozen _
      have hyb := hrb.words.get j
      have hmb := hw2.get (i + j)
      obtain ⟨y, hy⟩ : ∃ y, lim b j = y := ⟨_, rfl⟩
      obtain ⟨m, hm⟩ : ∃ m, lim L2 (i + j) = m := ⟨_, rfl⟩
      rw [hy] at hcb hyb
      rw [hm] at hcu hmb
      obtain ⟨h, hh⟩ : ∃ h, x * y / B64 = h := ⟨_, rfl⟩
      obtain ⟨l, hl⟩ : ∃ l, x * y % B64 = l := ⟨_, rfl⟩
      obtain ⟨s, hs⟩ : ∃ s, (l + over) % B64 = s := ⟨_, rfl⟩
      obtain ⟨c1, h1⟩ : ∃ c1, (l + over) / B64 = c1 := ⟨_, rfl⟩
      obtain ⟨t, ht⟩ : ∃ t, (m + s) % B64 = t := ⟨_, rfl⟩
      obtain ⟨c2, h2⟩ : ∃ c2, (m + s) / B64 = c2 := ⟨_, rfl⟩
      obtain ⟨key, hnx, hhb, hlb, hsb, htb⟩ := row_carry hx hyb hmb ho hh hl hs h1 ht h2
      have hst := row_step (L := L2) (L0 := L) (b := b) (i := i) (j := j) (by omega) (by rw [hy, hm]; exact key) hval
      have r1 := fun W => add64_two l over hlb ho W
      have r2 := fun W => add64_two m s hmb hsb W
      rw [hs, h1] at r1
      rw [ht, h2] at r2
      have f1 := u64_add_fits (x := h) (y := c1) (by omega)
      have f2 := u64_add_fits (x := h + c1) (y := c2) (by omega)
      rw [Int.natCast_add] at f2
      have HST := Lib.hid hst
      have HROW := Lib.hid hrow2
      have HSM := Lib.hid hsame
      have HKP := Lib.hid hkp
      have HH := Lib.hid hh
      have HL := Lib.hid hl
      have HW := Lib.hid hw2
      clear hst hrow2 hsame hkp hh hl hc1 hy hm hs h1 ht h2 key hval hw2 hrow hwL
      go_wp2_with (go_at_call 156; refine (mul64_any x y hx hyb _).mono ?_; rw [HH.out, HL.out]; rintro e w1 ⟨rfl, rfl⟩)
      go_roundw
      case rel =>
        refine ⟨j + 1, h + c1 + c2, L2.set (i + j) t, by omega, by go_num, by go_num, hnx, HROW.out.set _ _, by simp [hlen], words_set HW.out htb, HST.out, fun k hk => ?_, HKP.out.setCell (p := ⟨g, i + j, none⟩) (Nat.le_refl _) _⟩
        rw [lim_set (by omega), if_neg (by omega)]
        exact HSM.out k (by omega)
      case measure => simp [intOf]; omega
    · have hjn : j = nb := by omega
      subst hjn
      rw [val_take_all (by rw [hrb.len]; omega)] at hval
      have HROW := Lib.hid hrow2
      have HV := Lib.hid hval
      have HSM := Lib.hid hsame
      have HKP := Lib.hid hkp
      clear hrow2 hval hsame hkp hrow
      go_wp2
      go_ret
      exact ⟨L2, over, rfl, ho, HROW.out, hlen, hw2, HV.out, HSM.out, HKP.out⟩
end Go.Proofs.YtgiokmfdafmaoaaGreat
