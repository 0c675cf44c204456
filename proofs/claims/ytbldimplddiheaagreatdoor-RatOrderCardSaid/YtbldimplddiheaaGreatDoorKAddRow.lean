import Derived.Test.YtbldimplddiheaaGreatDoorKRowL
import Derived.Shelf.Bits.Mul64
import Derived.Test.YtbldimplddiheaaGreatDoorKAdd
/- Prod MTrim AddRow. -/
/- Products of plain numbers: limb by limb, and by splitting. No program in sight. -/
namespace Go.Proofs.YtbldimplddiheaaGreatDoor
set_option linter.unusedVariables false

theorem lim_set {l : List Nat} {i : Nat} (hi : i < l.length) (v k : Nat) : lim (l.set i v) k = if k = i then v else lim l k := by
  unfold lim
  rw [List.getD_eq_getElem?_getD, List.getD_eq_getElem?_getD, List.getElem?_set]
  by_cases h : i = k
  · subst h; simp [hi]
  · rw [if_neg h, if_neg (fun e => h e.symm)]
theorem carry_key {P h l s c1 m t c2 B c : Nat} (e1 : l + B * h = P) (e2 : s + B * c1 = l + c) (e3 : t + B * c2 = m + s) : t + B * (h + c1 + c2) = P + c + m := by
  rw [Nat.mul_add, Nat.mul_add]; omega
theorem two_words {x y m c : Nat} (hx : x < B64) (hy : y < B64) (hm : m < B64) (hc : c < B64) : x * y + c + m < B64 * B64 := by
  obtain ⟨D, hD⟩ : ∃ D, B64 = D + 1 := ⟨B64 - 1, by have := B64_pos; omega⟩
  rw [hD] at hx hy hm hc ⊢
  have h : x * y ≤ D * D := Nat.mul_le_mul (by omega) (by omega)
  have e : (D + 1) * (D + 1) = D * D + D + D + 1 := by rw [Nat.add_mul, Nat.mul_add]; omega
  omega
/-- What one limb of a row comes to, and what is carried. -/
theorem row_carry {x y m c h l s c1 t c2 : Nat} (hx : x < B64) (hy : y < B64) (hm : m < B64) (hc : c < B64) (hh : x * y / B64 = h) (hl : x * y % B64 = l) (hs : (l + c) % B64 = s) (h1 : (l + c) / B64 = c1) (ht : (m + s) % B64 = t) (h2 : (m + s) / B64 = c2) :
    t + B64 * (h + c1 + c2) = x * y + c + m ∧ h + c1 + c2 < B64 ∧ h < B64 ∧ l < B64 ∧ s < B64 ∧ t < B64 := by
  have e1 := Nat.mod_add_div (x * y) B64
  have e2 := Nat.mod_add_div (l + c) B64
  have e3 := Nat.mod_add_div (m + s) B64
  rw [hh, hl] at e1
  rw [hs, h1] at e2
  rw [ht, h2] at e3
  have key := carry_key e1 e2 e3
  have hlt : h + c1 + c2 < B64 := by
    have h3 := two_words hx hy hm hc
    rw [← key] at h3
    exact Nat.lt_of_mul_lt_mul_left (a := B64) (by omega)
  exact ⟨key, hlt, by omega, by rw [← hl]; exact Nat.mod_lt _ B64_pos, by rw [← hs]; exact Nat.mod_lt _ B64_pos, by rw [← ht]; exact Nat.mod_lt _ B64_pos⟩
/-- One limb more of a row. -/
theorem row_step {L L0 b : List Nat} {i j x over limb next : Nat} (hij : i + j < L.length) (hs : limb + B64 * next = x * lim b j + over + lim L (i + j))
    (hv : val L + B64 ^ (i + j) * over = val L0 + B64 ^ i * (x * val (b.take j))) :
    val (L.set (i + j) limb) + B64 ^ (i + (j + 1)) * next = val L0 + B64 ^ i * (x * val (b.take (j + 1))) := by
  have h1 := val_set hij limb
  rw [val_take_succ]
  have e : B64 ^ (i + (j + 1)) * next = B64 ^ (i + j) * (B64 * next) := by rw [← Nat.add_assoc, Nat.pow_succ, Nat.mul_assoc]
  have e2 : B64 ^ i * (x * (val (b.take j) + B64 ^ j * lim b j)) = B64 ^ i * (x * val (b.take j)) + B64 ^ (i + j) * (x * lim b j) := by
    rw [Nat.mul_add, Nat.mul_add, Nat.pow_add, Nat.mul_left_comm x, Nat.mul_assoc]
  rw [e, e2]
  have h2 : B64 ^ (i + j) * (limb + B64 * next) = B64 ^ (i + j) * (x * lim b j + over + lim L (i + j)) := by rw [hs]
  simp only [Nat.mul_add] at h2
  omega
/-- One row more of a product by school. -/
theorem school_step {L L2 a b : List Nat} {i x over : Nat} (hL : Words L) (hb : Words b) (ha : Words a) (hil : i < a.length) (hx : lim a i = x) (hlen : i + b.length < L2.length)
    (hv : val L = val (a.take i) * val b) (h2 : val L2 + B64 ^ (i + b.length) * over = val L + B64 ^ i * (x * val b)) (hs : lim L2 (i + b.length) = lim L (i + b.length)) :
    val (L2.set (i + b.length) over) = val (a.take (i + 1)) * val b := by
  have h0 : lim L (i + b.length) = 0 := by
    apply lim_zero_of_lt hL
    rw [hv, Nat.pow_add]
    have h1 := val_lt (ha.take i)
    have h2 := val_lt hb
    rw [List.length_take, Nat.min_eq_left (by omega)] at h1
    have hp : 0 < B64 ^ b.length := Nat.pow_pos B64_pos
    exact Nat.lt_of_le_of_lt (Nat.mul_le_mul_left _ (Nat.le_of_lt h2)) (Nat.mul_lt_mul_of_pos_right h1 hp)
  have h1 := val_set hlen over
  rw [hs, h0, Nat.mul_zero, Nat.add_zero] at h1
  rw [h1, h2, hv, val_take_succ, hx, Nat.add_mul, Nat.mul_assoc]
/-- Three products of halves make the whole one. -/
theorem kara (a0 a1 b0 b1 p : Nat) : a0 * b0 + ((a0 + a1) * (b0 + b1) - a0 * b0 - a1 * b1) * p + a1 * b1 * (p * p) = (a0 + p * a1) * (b0 + p * b1) := by
  have e : (a0 + a1) * (b0 + b1) - a0 * b0 - a1 * b1 = a0 * b1 + a1 * b0 := by
    rw [Nat.add_mul, Nat.mul_add, Nat.mul_add]; omega
  rw [e]
  simp only [Nat.add_mul, Nat.mul_add]
  have e1 : a0 * (p * b1) = a0 * b1 * p := by rw [Nat.mul_left_comm, Nat.mul_comm]
  have e2 : p * a1 * b0 = a1 * b0 * p := by rw [Nat.mul_assoc, Nat.mul_comm]
  have e3 : p * a1 * (p * b1) = a1 * b1 * (p * p) := by rw [Nat.mul_mul_mul_comm, Nat.mul_comm]
  rw [e1, e2, e3]
  omega
theorem kara_le (a0 a1 b0 b1 : Nat) : a0 * b0 ≤ (a0 + a1) * (b0 + b1) ∧ a1 * b1 ≤ (a0 + a1) * (b0 + b1) - a0 * b0 := by
  rw [Nat.add_mul, Nat.mul_add, Nat.mul_add]; omega
theorem val_split (l : List Nat) {p : Nat} (h : p ≤ l.length) : val l = val (l.take p) + B64 ^ p * val (l.drop p) := by
  conv => lhs; rw [← List.take_append_drop p l]
  rw [val_append, List.length_take, Nat.min_eq_left h]
theorem val_split' (l : List Nat) (p : Nat) : val l = val (l.take p) + B64 ^ p * val (l.drop p) := by
  by_cases h : p ≤ l.length
  · exact val_split l h
  · rw [List.drop_eq_nil_of_le (by omega), List.take_of_length_le (by omega)]; rfl
theorem may_drop {l : List Nat} (h : may l = true) (p : Nat) : may (l.drop p) = true := by
  unfold may at h ⊢
  rw [List.getLast?_drop]
  split
  · rfl
  · exact h
/-- What is split is together less than it was, where there is a high part, and never more. -/
theorem split_le (l : List Nat) {p : Nat} : val (l.take p) + val (l.drop p) ≤ val l := by
  have h := val_split' l p
  have hp : 1 ≤ B64 ^ p := Nat.pow_pos B64_pos
  have := Nat.mul_le_mul_right (val (l.drop p)) hp
  omega
theorem split_lt {l : List Nat} {p : Nat} (hm : may l = true) (h0 : 0 < p) (hp : p < l.length) : val (l.take p) + val (l.drop p) < val l := by
  have h := val_split' l p
  have h1 : 0 < val (l.drop p) := val_pos (may_drop hm p) (by simp; omega)
  have hp : 2 ≤ B64 ^ p := by
    obtain ⟨q, rfl⟩ : ∃ q, p = q + 1 := ⟨p - 1, by omega⟩
    rw [Nat.pow_succ]
    have h2 : 1 ≤ B64 ^ q := Nat.pow_pos B64_pos
    have h3 : 2 ≤ B64 := B64_gt
    have := Nat.mul_le_mul h2 h3
    omega
  have := Nat.mul_le_mul_right (val (l.drop p)) hp
  omega
theorem length_mul {l m : List Nat} (hl : Words l) (hm : Words m) : (limbs (val l * val m)).length ≤ l.length + m.length := by
  apply limbs_length_le
  rw [Nat.pow_add]
  have h1 := val_lt hl
  have h2 := val_lt hm
  have hp : 0 < B64 ^ m.length := Nat.pow_pos B64_pos
  exact Nat.lt_of_le_of_lt (Nat.mul_le_mul_left _ (Nat.le_of_lt h2)) (Nat.mul_lt_mul_of_pos_right h1 hp)
theorem length_of_le {l : List Nat} {n : Nat} (hl : Words l) (h : n ≤ val l) : (limbs n).length ≤ l.length := limbs_length_le (Nat.lt_of_le_of_lt h (val_lt hl))
theorem limbs_up {l : List Nat} (hw : Words l) (hm : may l = true) (h : l ≠ []) (p : Nat) : List.replicate p 0 ++ l = limbs (val l * B64 ^ p) := by
  have e : val (List.replicate p 0 ++ l) = val l * B64 ^ p := by rw [val_append, val_zeros, List.length_replicate, Nat.zero_add, Nat.mul_comm]
  rw [← e, limbs_val (words_append (words_zeros p) hw)]
  unfold may at hm ⊢
  rw [List.getLast?_append]
  cases e2 : l.getLast? with
  | none => exact absurd (List.getLast?_eq_none_iff.1 e2) h
  | some x => rw [e2] at hm; exact hm
end Go.Proofs.YtbldimplddiheaaGreatDoor

/- mul's trim; bits.Mul64, laid at this program; two words' sum. -/
namespace Go.Proofs
open Go.Shelf
def Tryz.lays264_ren : Go.Shelf.Ren := ⟨fun | 264 => 171 | n => n, fun | 53 => 63 | 46 => 198 | n => n, fun | n => n⟩
theorem Tryz.lays264 : Go.Proofs.Lays.n264 Tryz.prog Tryz.lays264_ren := {
  mixed := by kernel_rfl
  f264 := Tryz.func171.trans (congrArg some (by kernel_rfl))
  t46 := Tryz.underlying198
  a46 := Tryz.isAgg198
  z46 := Tryz.sizeOf198
  v46 := Tryz.zeroValue198
  t53 := Tryz.underlying63
  a53 := Tryz.isAgg63
  z53 := Tryz.sizeOf63
  v53 := Tryz.zeroValue63 }
end Go.Proofs
namespace Go.Proofs.YtbldimplddiheaaGreatDoor
open Go.RowKit Go.Shelf
set_option linter.unusedVariables false

theorem mul64_any (x y : Nat) (hx : x < B64) (hy : y < B64) (w : World) :
    Calls Tryz.prog 171 #[u64 x, u64 y] w fun e w' => e = .returned (.tuple #[u64 (x * y / B64), u64 (x * y % B64)]) ∧ w' = w := Any.bits_Mul64 Tryz.lays264 x y hx hy w

theorem add64_two (x y : Nat) (hx : x < B64) (hy : y < B64) (w : World) :
    (callFunc 140 #[.int .u64 (x : Int), .int .u64 (y : Int), .int .u64 0]).run Tryz.prog w = .ok (.value (.tuple #[u64 ((x + y) % B64), u64 ((x + y) / B64)])) w :=
  joiner_add.run x y 0 hx hy (by omega) w

set_option maxHeartbeats 400000 in
/-- (mul.number).trim: a slice cut behind its last limb that is not 0. -/
theorem trimM_any (A : Option Addr) (n c : Nat) (l : List Nat) (w : World) (h : Rd w A n l) (hc0 : n ≤ c) (hc1 : c ≤ 9223372036854775807) :
    Calls Tryz.prog 152 #[.slice A n c] w fun e w' => (∃ k, k ≤ n ∧ e = .returned (.slice A k c) ∧ l.take k = limbs (val l)) ∧ w' = w := by
  go_enter Tryz.func152, Tryz.ntmps152
  go_wp2
  go_loop [3] (fun i => ∃ k : Nat, k ≤ n ∧ i = .int .i64 (k : Int) ∧ ∀ j, k ≤ j → lim l j = 0) (fun i => (intOf i).toNat)
  case atStart => exact ⟨n, Nat.le_refl _, rfl, fun j hj => lim_past (by rw [h.len]; omega)⟩
  case round =>
    obtain ⟨k, hk, rfl, hz⟩ := hrel
    by_cases h0 : k = 0
    · subst h0
      have ht : l.take 0 = limbs (val l) := take_limbs h.words (by omega) (fun h => absurd rfl h) hz
      have HT : Hid (l.take 0 = limbs (val l)) := ht
      clear ht hz h
      go_wp2
      go_ret
      exact ⟨⟨0, by omega, rfl, HT.out⟩, rfl⟩
    · obtain ⟨b, off, rfl, hb, hc⟩ := h.cells (by omega)
      have hci := hc (k - 1) (by omega)
      clear hc
      obtain ⟨j, rfl⟩ : ∃ j, k = j + 1 := ⟨k - 1, by omega⟩
      simp only [Nat.add_sub_cancel] at hci
      by_cases hx : lim l j = 0
      · rw [hx] at hci
        have HX : Hid (lim l j = 0) := hx
        have HZ := Lib.hid hz
        have HH := Lib.hid h
        clear hx hz h
        go_wp2
        go_round
        case rel => exact ⟨j, by omega, by go_num, fun i hi => by
          rcases Nat.eq_or_lt_of_le hi with rfl | hi
          · exact HX.out
          · exact HZ.out i hi⟩
        case measure => simp [intOf]
      · have ht : l.take (j + 1) = limbs (val l) := take_limbs h.words (by rw [h.len]; omega) (fun _ => hx) hz
        have HT : Hid (l.take (j + 1) = limbs (val l)) := ht
        have hne : ((lim l j : Int) == 0) = false := by simp; omega
        clear ht hz h hx
        go_wp2
        go_ret
        exact ⟨⟨j + 1, by omega, rfl, HT.out⟩, rfl⟩
end Go.Proofs.YtbldimplddiheaaGreatDoor

/- mul.addRow: a number times one limb is added to the lowest limbs of a row, in place. -/
namespace Go.Proofs.YtbldimplddiheaaGreatDoor
open Go.RowKit Go.Shelf
set_option linter.unusedVariables false

theorem u64_add_fits {x y : Nat} (h : x + y < B64) : IntKind.u64.wrap ((x : Int) + (y : Int)) = (x : Int) + (y : Int) := by
  rw [IntKind.wrap_u64]; rw [B64_eq] at h; omega

set_option maxRecDepth 100000 in
set_option maxHeartbeats 2000000 in
/-- mul.addRow. -/
theorem addRow_any (g i M C N : Nat) (L : List Nat) (x : Nat) (A : Option Addr) (nb cb : Nat) (b : List Nat) (w : World) (hrow : RowL w g L) (hL : L.length = N) (hwL : Words L) (hx : x < B64) (hrb : Rd w A nb b)
    (hg : 0 < nb → ∀ b0 off, A = some ⟨b0, off, none⟩ → b0 < g) (hM : i + M = N) (hN : nb ≤ M) (hN2 : N ≤ 4294967296) :
    Calls Tryz.prog 151 #[.slice (some ⟨g, i, none⟩) M C, u64 x, .slice A nb cb] w fun e w' => ∃ L2 over, e = .returned (u64 over) ∧ over < B64 ∧ RowL w' g L2 ∧ L2.length = N ∧ Words L2 ∧
      val L2 + B64 ^ (i + nb) * over = val L + B64 ^ i * (x * val b) ∧ (∀ k, i + nb ≤ k → lim L2 k = lim L k) ∧ Below g w w' := by
  go_enter Tryz.func151, Tryz.ntmps151
  go_wp2
  go_loopw [7, 17] (fun o i2 wr => ∃ (j over : Nat) (L2 : List Nat), j ≤ nb ∧ i2 = .int .i64 (j : Int) ∧ o = u64 over ∧ over < B64 ∧ RowL wr g L2 ∧ L2.length = N ∧ Words L2 ∧ val L2 + B64 ^ (i + j) * over = val L + B64 ^ i * (x * val (b.take j)) ∧ (∀ k, i + j ≤ k → lim L2 k = lim L k) ∧ Below g w wr) (fun _ i2 _ => nb - (intOf i2).toNat)
  case atStart => exact ⟨0, 0, L, by omega, rfl, rfl, B64_pos, hrow, hL, hwL, by simp [val], fun _ _ => rfl, Below.refl _ _⟩
  case round =>
    obtain ⟨j, over, L2, hj, rfl, rfl, ho, hrow2, hlen, hw2, hval, hsame, hkp⟩ := hrel
    by_cases hlt : j < nb
    · obtain ⟨b1, o1, rfl, _, hc1⟩ := (hrb.keep (hg (by omega)) hkp).cells (by omega)
      have hcb := hc1 j hlt
      have hcu : wr.cell? ⟨g, i + j, none⟩ = some (u64 (lim L2 (i + j))) := hrow2.cell (by omega)
      have hfu : wr.frozen? ⟨g, i + j, none⟩ = false := hrow2.frozen _
      have hyb := hrb.words.get j
      have hmb := hw2.get (i + j)
      obtain ⟨y, hy⟩ : ∃ y, lim b j = y := ⟨_, rfl⟩
      obtain ⟨m, hm⟩ : ∃ m, lim L2 (i + j) = m := ⟨_, rfl⟩
      rw [hy] at hcb hyb
      rw [hm] at hcu hmb
      obtain ⟨h, hh⟩ : ∃ h, x * y / B64 = h := ⟨_, rfl⟩
      obtain ⟨l, hl⟩ : ∃ l, x * y % B64 = l := ⟨_, rfl⟩
      obtain ⟨s, hs⟩ : ∃ s, (l + over) % B64 = s := ⟨_, rfl⟩
      obtain ⟨c1, h1⟩ : ∃ c1, (l + over) / B64 = c1 := ⟨_, rfl⟩
      obtain ⟨t, ht⟩ : ∃ t, (m + s) % B64 = t := ⟨_, rfl⟩
      obtain ⟨c2, h2⟩ : ∃ c2, (m + s) / B64 = c2 := ⟨_, rfl⟩
      obtain ⟨key, hnx, hhb, hlb, hsb, htb⟩ := row_carry hx hyb hmb ho hh hl hs h1 ht h2
      have hst := row_step (L := L2) (L0 := L) (b := b) (i := i) (j := j) (by omega) (by rw [hy, hm]; exact key) hval
      have r1 := fun W => add64_two l over hlb ho W
      have r2 := fun W => add64_two m s hmb hsb W
      rw [hs, h1] at r1
      rw [ht, h2] at r2
      have f1 := u64_add_fits (x := h) (y := c1) (by omega)
      have f2 := u64_add_fits (x := h + c1) (y := c2) (by omega)
      rw [Int.natCast_add] at f2
      have HST := Lib.hid hst
      have HROW := Lib.hid hrow2
      have HSM := Lib.hid hsame
      have HKP := Lib.hid hkp
      have HH := Lib.hid hh
      have HL := Lib.hid hl
      have HW := Lib.hid hw2
      clear hst hrow2 hsame hkp hh hl hc1 hy hm hs h1 ht h2 key hval hw2 hrow hwL
      go_wp2_with (go_at_call 171; refine (mul64_any x y hx hyb _).mono ?_; rw [HH.out, HL.out]; rintro e w1 ⟨rfl, rfl⟩)
      go_roundw
      case rel =>
        refine ⟨j + 1, h + c1 + c2, L2.set (i + j) t, by omega, by go_num, by go_num, hnx, HROW.out.set _ _, by simp [hlen], words_set HW.out htb, HST.out, fun k hk => ?_, HKP.out.setCell (p := ⟨g, i + j, none⟩) (Nat.le_refl _) _⟩
        rw [lim_set (by omega), if_neg (by omega)]
        exact HSM.out k (by omega)
      case measure => simp [intOf]; omega
    · have hjn : j = nb := by omega
      subst hjn
      rw [val_take_all (by rw [hrb.len]; omega)] at hval
      have HROW := Lib.hid hrow2
      have HV := Lib.hid hval
      have HSM := Lib.hid hsame
      have HKP := Lib.hid hkp
      clear hrow2 hval hsame hkp hrow
      go_wp2
      go_ret
      exact ⟨L2, over, rfl, ho, HROW.out, hlen, hw2, HV.out, HSM.out, HKP.out⟩
end Go.Proofs.YtbldimplddiheaaGreatDoor
