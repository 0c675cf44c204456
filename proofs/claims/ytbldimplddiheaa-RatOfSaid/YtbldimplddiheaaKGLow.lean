import Derived.Test.YtbldimplddiheaaKSure
import Derived.Test.YtbldimplddiheaaKDLimb
import Derived.Test.YtbldimplddiheaaKDown
import Derived.Test.YtbldimplddiheaaKMSpec
import Derived.Test.YtbldimplddiheaaKDCode
import Derived.Test.YtbldimplddiheaaKDNames
import Derived.Test.YtbldimplddiheaaKRefCommon
import Derived.Test.YtbldimplddiheaaKGSpec
import Derived.Deep.RegionHeld3
/- Tops GLow. -/
/- gcd's tops: the highest bits of two numbers. -/
namespace Go.Proofs.Ytbldimplddiheaa
open Go.RowKit Go.Shelf
set_option linter.unusedVariables false
set_option linter.unusedSimpArgs false

set_option maxHeartbeats 400000 in
/-- gcd.limb: the limb at a place, 0 beyond the last one. -/
theorem limbG_any (A : Option Addr) (n c : Nat) (l : List Nat) (i : Nat) (w : World) (h : Rd w A n l) (hi : i ≤ 9223372036854775807) (hn : n ≤ 9223372036854775807) :
    Calls Try.prog 69 #[.slice A n c, .int .i64 (i : Int)] w fun e w' => e = .returned (u64 (lim l i)) ∧ w' = w := by
  by_cases hlt : i < n
  · obtain ⟨b, off, rfl, hb, hc⟩ := h.cells (by omega)
    have hci := hc i hlt
    clear hc h
    go_enter Try.func69, Try.ntmps69
    go_wp2
    go_ret
    exact ⟨rfl, rfl⟩
  · have h0 : lim l i = 0 := lim_past (by rw [h.len]; omega)
    have H0 : Hid (lim l i = 0) := h0
    clear h0 h
    go_enter Try.func69, Try.ntmps69
    go_wp2
    go_ret
    exact ⟨by rw [H0.out]; rfl, rfl⟩

theorem top_word {x y s : Nat} {S R : Int} (hs : s ≤ 63) (hx : x < 2 ^ (64 - s)) (hy : y < B64) (hS : S = (s : Int)) (hR : R = ((64 - s : Nat) : Int)) :
    bits BinOp.or IntKind.u64 (IntKind.u64.wrap ((x : Int) * 2 ^ min S.toNat 64)) ((y : Int) / 2 ^ min R.toNat 64) = ((x * 2 ^ s + y / 2 ^ (64 - s) : Nat) : Int) := by
  have m1 : min S.toNat 64 = s := by omega
  have m2 : min R.toNat 64 = 64 - s := by omega
  have hB := B64_split (r := s) (by omega)
  have hX : x * 2 ^ s < B64 := by rw [hB]; exact Nat.mul_lt_mul_of_pos_right hx (Nat.two_pow_pos s)
  have hY : y / 2 ^ (64 - s) < 2 ^ s := by
    rw [Nat.div_lt_iff_lt_mul (Nat.two_pow_pos _), Nat.mul_comm, ← hB]
    exact hy
  have e1 : IntKind.u64.wrap ((x : Int) * 2 ^ s) = ((x * 2 ^ s : Nat) : Int) := by
    have := wrap_fits hX
    rw [← this, Int.natCast_mul, Int.natCast_pow]
    rfl
  have e2 : ((y : Int) / 2 ^ (64 - s)) = ((y / 2 ^ (64 - s) : Nat) : Int) := by
    rw [Int.natCast_ediv, Int.natCast_pow]
    rfl
  have hor := or_shl (x := x) (r := s) (y := y / 2 ^ (64 - s)) (by omega) hY
  rw [Nat.mod_eq_of_lt hX] at hor
  rw [m1, m2, e1, e2, bits_or_u64_nat _ _ hX (Nat.lt_of_le_of_lt (Nat.div_le_self _ _) hy), Nat.or_comm, hor, Nat.add_comm]
theorem limbG_z (A : Option Addr) (n c : Nat) (l : List Nat) (i : Nat) (z : Int) (w : World) (h : Rd w A n l) (hz : z = (i : Int)) (hi : i ≤ 9223372036854775807) (hn : n ≤ 9223372036854775807) :
    Calls Try.prog 69 #[.slice A n c, .int .i64 z] w fun e w' => e = .returned (u64 (lim l i)) ∧ w' = w := hz ▸ limbG_any A n c l i w h hi hn

set_option maxRecDepth 100000 in
set_option maxHeartbeats 2000000 in
/-- The function within tops. -/
theorem top_in (A : Option Addr) (n c : Nat) (l : List Nat) (k s b1 o1 b2 o2 : Nat) (K1 S : Int) (w : World) (h : Rd w A n l) (hn : n ≤ 9223372036854775807) (hk : k < 9223372036854775807) (hs : s ≤ 63) (hlim : lim l (k + 1) < 2 ^ (64 - s))
    (hK : K1 = ((k + 1 : Nat) : Int)) (hS : S = (s : Int)) (h1 : w.cell? ⟨b1, o1, none⟩ = some (.int .i64 K1)) (h2 : w.cell? ⟨b2, o2, none⟩ = some (.int .i64 S)) :
    Calls Try.prog 68 #[.slice A n c, .pointer (some ⟨b1, o1, none⟩), .pointer (some ⟨b2, o2, none⟩)] w fun e w' => e = .returned (u64 (lim l (k + 1) * 2 ^ s + lim l k / 2 ^ (64 - s))) ∧ ∃ m, w' = w.drewN m := by
  obtain ⟨K0, hK0⟩ : ∃ K0 : Int, K0 = (k : Int) := ⟨_, rfl⟩
  obtain ⟨R, hR⟩ : ∃ R : Int, R = ((64 - s : Nat) : Int) := ⟨_, rfl⟩
  have e0 : IntKind.i64.wrap (K1 - 1) = K0 := by rw [IntKind.wrap_i64]; omega
  have e1 : IntKind.i64.wrap (64 - S) = R := by rw [IntKind.wrap_i64]; omega
  have e2 : wrap64 (K1 - 1) = K0 := by unfold wrap64; omega
  have e3 : wrap64 (64 - S) = R := by unfold wrap64; omega
  have s1 : ¬ S < 0 := by omega
  have s2 : ¬ R < 0 := by omega
  have C1 := Lib.hid (fun m => limbG_z A n c l (k + 1) K1 _ (h.drewN m) hK (by omega) hn)
  have C0 := Lib.hid (fun m => limbG_z A n c l k K0 _ (h.drewN m) hK0 (by omega) hn)
  have HK := Lib.hid hK
  have HS := Lib.hid hS
  have HR := Lib.hid hR
  have HL := Lib.hid hlim
  have H0 := Lib.hid (h.words.get k)
  clear h hK hS hR hK0 hlim
  go_enter Try.func68, Try.ntmps68
  go_wp2
  go_quiet (first
    | (go_at_call_of 69 K1; exact Calls.quiet_of_same (C1.out _))
    | (go_at_call_of 69 K0; exact Calls.quiet_of_same (C0.out _)))
  go_wp2
  go_ret
  refine ⟨?_, _, rfl⟩
  rw [top_word hs HL.out H0.out HS.out HR.out]
  rfl

/-- The two highest limbs' highest bits. -/
def topOf (l : List Nat) (k s : Nat) : Nat := lim l (k + 1) * 2 ^ s + lim l k / 2 ^ (64 - s)

set_option maxRecDepth 100000 in
set_option maxHeartbeats 2000000 in
/-- gcd.tops. -/
theorem tops_any (A A2 : Option Addr) (k ca nb cb : Nat) (a b : List Nat) (w : World) (hra : Rd w A (k + 2) a) (hrb : Rd w A2 nb b) (hna : k ≤ 1000000) (hnb : nb ≤ k + 2) (h0 : lim a (k + 1) ≠ 0) (hle : lim b (k + 1) ≤ lim a (k + 1)) :
    Calls Try.prog 54 #[.slice A (k + 2) ca, .slice A2 nb cb] w fun e w' => (∃ s, s ≤ 63 ∧ lim a (k + 1) < 2 ^ (64 - s) ∧ 2 ^ (63 - s) ≤ lim a (k + 1) ∧ e = .returned (.tuple #[u64 (topOf a k s), u64 (topOf b k s)])) ∧ Below w.heap.size w w' := by
  unfold topOf
  have hx := hra.words.get (k + 1)
  obtain ⟨k1, k2, k3⟩ := Lib.bitLenAux_bounds 64 _ hx h0
  have hb : Lib.bitLen (lim a (k + 1)) ≤ 64 := Lib.bitLen_le _ 64 (Nat.le_refl _) hx
  have hlz := fun W => lead_any _ hx W
  obtain ⟨s, hs⟩ : ∃ s, 64 - Lib.bitLen (lim a (k + 1)) = s := ⟨_, rfl⟩
  have e1 : Lib.bitLenAux 64 (lim a (k + 1)) = 64 - s := by
    show Lib.bitLen _ = _
    omega
  rw [e1] at k1 k2 k3
  have hs63 : s ≤ 63 := by omega
  rw [show 64 - s - 1 = 63 - s by omega] at k2
  obtain ⟨ba, oa, rfl, hlt, hc⟩ := hra.cells (by omega)
  have hci := hc (k + 1) (by omega)
  obtain ⟨K1, hK⟩ : ∃ K1 : Int, K1 = ((k + 1 : Nat) : Int) := ⟨_, rfl⟩
  obtain ⟨S, hS⟩ : ∃ S : Int, S = (s : Int) := ⟨_, rfl⟩
  have q1 : wrap64 (((k + 2 : Nat) : Int) - 1) = K1 := by unfold wrap64; omega
  rw [hs, ← hS] at hlz
  have HLZ := Lib.hid hlz
  have HRA := Lib.hid hra
  have HRB := Lib.hid hrb
  have H1 := Lib.hid k2
  have H2 := Lib.hid k3
  have H3 := Lib.hid hs63
  have HK := Lib.hid hK
  have HS := Lib.hid hS
  have hlb : lim b (k + 1) < 2 ^ (64 - s) := Nat.lt_of_le_of_lt hle k3
  have hw2 : ∃ W, (w.alloc (.cells #[.int .i64 (↑k + 2 - 1)] 3)).alloc (.cells #[.int .i64 S] 3) = W := ⟨_, rfl⟩
  obtain ⟨W, hW⟩ := hw2
  have z1 : W.cell? ⟨w.heap.size, 0, none⟩ = some (.int .i64 (↑k + 2 - 1)) := by rw [← hW]; simp [go_sem]
  have z2 : W.cell? ⟨w.heap.size + 1, 0, none⟩ = some (.int .i64 S) := by rw [← hW]; simp [go_sem]
  have hB : Below w.heap.size w W := by rw [← hW]; exact ((Below.refl _ w).alloc (Nat.le_refl _) _).alloc (by simp) _
  have C1 := Lib.hid (top_in (some ⟨ba, oa, none⟩) (k + 2) ca a k s w.heap.size 0 (w.heap.size + 1) 0 _ _ W (hra.below hB) (by omega) (by omega) hs63 k3 (by omega) hS z1 z2)
  have C2 := Lib.hid (fun m => top_in A2 nb cb b k s w.heap.size 0 (w.heap.size + 1) 0 ((k : Int) + 2 - 1) S (W.drewN m) ((hrb.below hB).drewN m) (by omega) (by omega) hs63 hlb (by omega) hS z1 z2)
  have HB := Lib.hid hB
  have HW := Lib.hid hW
  clear hra hlb z1 z2 hB hW hrb hs e1 k1 k2 k3 hb hc hle h0 hx hS hs63 hlz
  go_enter Try.func54, Try.ntmps54
  go_wp2_with fail
  refine (HLZ.out _).mono ?_
  rintro e w1 ⟨rfl, rfl⟩
  go_wp2_with fail
  rw [HW.out]
  refine C1.out.mono ?_
  rintro e w2 ⟨rfl, m1, rfl⟩
  go_wp2_with fail
  refine (C2.out _).mono ?_
  rintro e w3 ⟨rfl, m2, rfl⟩
  go_wp2
  go_ret2
  exact ⟨⟨s, H3.out, H2.out, H1.out, rfl⟩, below_drewN HB.out _⟩
end Go.Proofs.Ytbldimplddiheaa

/- gcd's less, lower, commonWord, mayBe. -/
namespace Go.Proofs.Ytbldimplddiheaa
open Go.RowKit Go.Shelf
set_option linter.unusedVariables false
set_option linter.unusedSimpArgs false

set_option maxRecDepth 100000 in
set_option maxHeartbeats 1000000 in
/-- gcd.mayBe: OK, if all of these numbers may be. -/
theorem mayBeG_any (b off m c : Nat) (ls : List (List Nat)) (w : World) (h : Rows2 w b off ls) (hm : ls.length = m) (hm1 : m ≤ 1000) (hl : ∀ l ∈ ls, l.length ≤ 4294967296) :
    Calls Try.prog 23 #[.slice (some ⟨b, off, none⟩) m c] w fun e w' => e = .returned (.int .i64 (bad ls)) ∧ Below w.heap.size w w' := by
  go_enter Try.func23, Try.ntmps23
  go_wp2
  go_loopw [8] (fun i wr => ∃ k : Nat, k ≤ m ∧ i = .int .i64 (k : Int) ∧ (ls.take k).all may = true ∧ Below w.heap.size w wr) (fun i _ => m - (intOf i).toNat)
  case atStart => exact ⟨0, by omega, rfl, by simp, Below.refl _ _⟩
  case round =>
    obtain ⟨k, hk, rfl, hs, hB⟩ := hrel
    by_cases hlt : k < m
    · obtain ⟨A, n, c', hcell, hr, hn⟩ := h k ls[k] (List.getElem?_eq_getElem (by omega))
      have hcw : wr.cell? ⟨b, off + k, none⟩ = some (.slice A n c') := (hB.cell (p := ⟨b, off + k, none⟩) (lt_of_cell? hcell)).trans hcell
      have hn2 : n ≤ 4294967296 := by rw [← hr.len]; exact hl _ (List.getElem_mem _)
      have hr2 := hr.below hB
      have hnext : (ls.take (k + 1)).all may = ((ls.take k).all may && may ls[k]) := by
        rw [List.take_succ_eq_append_getElem (by omega), List.all_append]; simp
      have hbad : may ls[k] = false → bad ls = 8 := by
        intro hf
        unfold bad
        rw [if_neg]
        intro ha
        have := List.all_eq_true.1 ha ls[k] (List.getElem_mem _)
        rw [hf] at this; cases this
      cases hmk : may ls[k] with
      | true =>
        have HS : Hid ((ls.take (k + 1)).all may = true) := by rw [hnext, hs, hmk]; exact rfl
        have HB0 : Hid (bad [ls[k]] = 0) := bad_zero (by simp [hmk])
        clear hnext hbad hr h hs hmk hl hcell
        go_wp2_with (go_at_call 22; refine (check_any A n c' ls[k] wr hr2 hn2).mono ?_; rw [HB0.out]; rintro e w3 ⟨rfl, hb3⟩)
        go_roundw
        case rel => exact ⟨k + 1, by omega, by go_num, HS.out, below_then hB hb3⟩
        case measure => simp [intOf]; omega
      | false =>
        have HB : Hid (bad ls = 8) := hbad hmk
        have HB0 : Hid (bad [ls[k]] = 8) := bad_eight (by simp [hmk])
        clear hnext hbad hr h hs hmk hl hcell
        go_wp2_with (go_at_call 22; refine (check_any A n c' ls[k] wr hr2 hn2).mono ?_; rw [HB0.out]; rintro e w3 ⟨rfl, hb3⟩)
        go_ret
        exact ⟨by rw [HB.out]; rfl, below_then hB hb3⟩
    · have hk2 : k = m := by omega
      have HB : Hid (bad ls = 0) := by
        show bad ls = 0
        unfold bad
        rw [List.take_of_length_le (by omega)] at hs
        rw [if_pos hs]
      clear h hs hm hl
      go_wp2
      go_ret
      exact ⟨by rw [HB.out]; rfl, hB⟩

set_option maxRecDepth 100000 in
set_option maxHeartbeats 1000000 in
theorem wordG_any (x y : Nat) (hx : x < B64) (hy : y < B64) (w : World) :
    Calls Try.prog 43 #[wv x, wv y] w fun e w' => e = .returned (wv (Nat.gcd x y)) ∧ Below w.heap.size w w' := by
  go_enter Try.func43, Try.ntmps43
  go_wp2
  go_loopw [0, 1] (fun a b wr => ∃ p q : Nat, a = wv p ∧ b = wv q ∧ p < B64 ∧ q < B64 ∧ Nat.gcd p q = Nat.gcd x y ∧ Below w.heap.size w wr) (fun _ b _ => (intOf b).toNat)
  case atStart => exact ⟨x, y, rfl, rfl, hx, hy, rfl, Below.refl _ _⟩
  case round =>
    obtain ⟨p, q, rfl, rfl, hp, hq, hg, hB⟩ := hrel
    by_cases h0 : q = 0
    · subst h0
      rw [Nat.gcd_zero_right] at hg
      subst hg
      clear hp hq hx hy
      go_wp2
      go_ret
      exact ⟨rfl, hB⟩
    · obtain ⟨r, hr⟩ : ∃ r, p % q = r := ⟨_, rfl⟩
      have hrq : r < q := by rw [← hr]; exact Nat.mod_lt _ (by omega)
      have hgq : Nat.gcd q r = Nat.gcd x y := by rw [← hg, ← hr, Nat.gcd_comm q, ← Nat.gcd_rec, Nat.gcd_comm]
      obtain ⟨f1, f2, f3, f4, f5, f6, _, _⟩ := quo_word (x := p) (y := q) hp rfl hr
      have hq0 : (0 : Int) < (q : Int) := by omega
      have hq5 : 0 < q := by omega
      have hq6 : ¬ q = 0 := h0
      have hq1 : ¬ ((q : Int) = 0) := by omega
      have hq2 : ((q : Int) == 0) = false := by simp; omega
      have HG := Lib.hid hgq
      clear hg hgq hr hx hy f1 f2 f5
      go_wp2
      first
        | go_quiet (fail)
        | go_region
      go_wp2
      go_roundw
      case rel => exact ⟨q, r, rfl, rfl, hq, by omega, HG.out, by first | exact below_drewN hB _ | exact hB.drew⟩
      case measure => simp [intOf]; omega


/-- A number told by its highest bits: what is left is less than their place. -/
theorem top_div {l : List Nat} {k s : Nat} (hw : Words l) (hl : l.length ≤ k + 2) (hs : s ≤ 63) : ∃ r, r < B64 ^ k * 2 ^ (64 - s) ∧ val l = topOf l k s * (B64 ^ k * 2 ^ (64 - s)) + r := by
  have h1 := val_take_succ l (k + 1)
  have h2 := val_take_succ l k
  rw [val_take_all (l := l) (k := k + 1 + 1) (by omega)] at h1
  have h3 := val_lt (hw.take k)
  have h4 : B64 ^ (l.take k).length ≤ B64 ^ k := Nat.pow_le_pow_right B64_pos (by rw [List.length_take]; omega)
  have hm := Nat.div_add_mod (lim l k) (2 ^ (64 - s))
  have hr := Nat.mod_lt (lim l k) (Nat.two_pow_pos (64 - s))
  have hB := B64_split (r := s) (by omega)
  unfold topOf
  obtain ⟨x, hx⟩ : ∃ x, lim l (k + 1) = x := ⟨_, rfl⟩
  obtain ⟨y, hy⟩ : ∃ y, lim l k / 2 ^ (64 - s) = y := ⟨_, rfl⟩
  obtain ⟨z, hz⟩ : ∃ z, lim l k % 2 ^ (64 - s) = z := ⟨_, rfl⟩
  rw [hy, hz] at hm
  rw [hz] at hr
  rw [hx] at h1
  rw [hx, hy]
  rw [← hm] at h2
  generalize 2 ^ (64 - s) = P at *
  generalize 2 ^ s = R at *
  refine ⟨val (l.take k) + B64 ^ k * z, ?_, ?_⟩
  · have := Nat.mul_le_mul_left (B64 ^ k) (show z + 1 ≤ P from hr)
    rw [Nat.mul_add, Nat.mul_one] at this
    omega
  · rw [h1, h2, Nat.pow_succ, Nat.add_mul, Nat.mul_add (B64 ^ k) (P * y) z]
    generalize B64 ^ k = Q
    have e1 : Q * B64 * x = x * R * (Q * P) := by
      rw [hB, Nat.mul_comm (Q * (P * R)) x, Nat.mul_comm P R, ← Nat.mul_assoc Q R P, Nat.mul_comm Q R, Nat.mul_assoc R, Nat.mul_assoc x R]
    have e2 : Q * (P * y) = y * (Q * P) := by rw [← Nat.mul_assoc, Nat.mul_comm]
    rw [e1, e2]
    omega

section
variable (A A2 : Option Addr) (na ca nb cb v u : Nat) (w : World)
set_option maxRecDepth 100000 in
set_option maxHeartbeats 1000000 in
/-- gcd.less. -/
theorem lessG_nm (n m : Nat) (hva : Nm w A na ca v) (hub : Nm w A2 nb cb u) (hna : na ≤ 1000) (hnb : nb ≤ 1000) (hn : n < B64) (hm : m < B64) (hle : m * u ≤ n * v) :
    Calls Try.prog 55 #[.slice A na ca, wv n, .slice A2 nb cb, wv m] w fun e w' => ∃ A' k c, e = .returned (.slice A' k c) ∧ Own w' w.heap.size (.slice A' k c) (limbs (n * v - m * u)) ∧ Below w.heap.size w w' := by
  have l1 : (limbs n).length ≤ 1 := limbs_length_le (by rw [Nat.pow_one]; exact hn)
  have l2 : (limbs m).length ≤ 1 := limbs_length_le (by rw [Nat.pow_one]; exact hm)
  have HN := Lib.hid hn
  have HM := Lib.hid hm
  have HLE := Lib.hid hle
  have L1 := Lib.hid l1
  have L2 := Lib.hid l2
  clear hn hm hle l1 l2
  go_enter Try.func55, Try.ntmps55
  go_wp2_with fail
  refine (of_any n _ HN.out).mono ?_
  rintro e w1 ⟨A3, k3, c3, rfl, o3, hb1⟩
  have lk3 : k3 ≤ 1 := by have h1 := o3.rd.2.1; have h2 := L1.out; omega
  go_wp2_with fail
  refine (mul_nm A3 A k3 c3 na ca n v w1 o3.nm (hva.below hb1) (by omega) (by omega)).mono ?_
  rintro e w2 ⟨A4, k4, c4, rfl, o4, hb2⟩
  have lk4 : k4 ≤ k3 + na := by have h1 := o4.rd.2.1; have h2 := mul_len o3.nm (hva.below hb1); omega
  replace hb2 := below_then hb1 hb2
  replace o4 := own_mono o4 hb1.size
  clear hb1 o3
  go_wp2_with fail
  refine (of_any m _ HM.out).mono ?_
  rintro e w3 ⟨A5, k5, c5, rfl, o5, hb3⟩
  have lk5 : k5 ≤ 1 := by have h1 := o5.rd.2.1; have h2 := L2.out; omega
  replace o4 := o4.below hb3
  replace hb3 := below_then hb2 hb3
  clear hb2
  go_wp2_with fail
  refine (mul_nm A5 A2 k5 c5 nb cb m u w3 o5.nm (hub.below hb3) (by omega) (by omega)).mono ?_
  rintro e w4 ⟨A6, k6, c6, rfl, o6, hb4⟩
  have lk6 : k6 ≤ k5 + nb := by have h1 := o6.rd.2.1; have h2 := mul_len o5.nm (hub.below hb3); omega
  replace o4 := o4.below hb4
  replace hb4 := below_then hb3 hb4
  clear hb3 o5
  go_wp2_with fail
  refine (sub_ok A4 A6 k4 c4 k6 c6 (limbs (n * v)) (limbs (m * u)) w4 o4.rd.1 o6.rd.1 (by omega) (by omega) (by simp [may_limbs]) (by rw [val_limbs, val_limbs]; exact HLE.out)).mono ?_
  rw [val_limbs, val_limbs]
  rintro e w5 ⟨A7, k7, c7, rfl, o7, hb5⟩
  replace o7 := own_mono o7 hb4.size
  replace hb5 := below_then hb4 hb5
  clear hb4 o4 o6
  go_wp2
  go_ret
  exact ⟨_, _, _, rfl, o7, hb5⟩
end
end Go.Proofs.Ytbldimplddiheaa
