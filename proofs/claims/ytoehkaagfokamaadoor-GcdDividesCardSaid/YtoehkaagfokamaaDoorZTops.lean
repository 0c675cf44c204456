import Derived.Test.YtoehkaagfokamaaDoorZSure
import Derived.Test.YtoehkaagfokamaaDoorZDLimb
import Derived.Test.YtoehkaagfokamaaDoorZDown
/- Tops. -/
/- gcd's tops: the highest bits of two numbers. -/
namespace Go.Proofs.YtoehkaagfokamaaDoor
open Go.RowKit Go.Shelf
set_option linter.unusedVariables false
set_option linter.unusedSimpArgs false

set_option maxHeartbeats 400000 in
/-- gcd.limb: the limb at a place, 0 beyond the last one. -/
theorem limbG_any (A : Option Addr) (n c : Nat) (l : List Nat) (i : Nat) (w : World) (h : Rd w A n l) (hi : i ≤ 9223372036854775807) (hn : n ≤ 9223372036854775807) :
    Calls Tryd.prog 62 #[.slice A n c, .int .i64 (i : Int)] w fun e w' => e = .returned (u64 (lim l i)) ∧ w' = w := by
  by_cases hlt : i < n
  · obtain ⟨b, off, rfl, hb, hc⟩ := h.cells (by omega)
    have hci := hc i hlt
    clear hc h
    go_enter Tryd.func62, Tryd.ntmps62
    go_wp2
    go_ret
    exact ⟨rfl, rfl⟩
  · have h0 : lim l i = 0 := lim_past (by rw [h.len]; omega)
    have H0 : Hid (lim l i = 0) := h0
    clear h0 h
    go_enter Tryd.func62, Tryd.ntmps62
    go_wp2
    go_ret
    exact ⟨by rw [H0.out]; rfl, rfl⟩

theorem top_word {x y s : Nat} {S R : Int} (hs : s ≤ 63) (hx : x < 2 ^ (64 - s)) (hy : y < B64) (hS : S = (s : Int)) (hR : R = ((64 - s : Nat) : Int)) :
    bits BinOp.or IntKind.u64 (IntKind.u64.wrap ((x : Int) * 2 ^ min S.toNat 64)) ((y : Int) / 2 ^ min R.toNat 64) = ((x * 2 ^ s + y / 2 ^ (64 - s) : Nat) : Int) := by
  have m1 : min S.toNat 64 = s := by omega
  have m2 : min R.toNat 64 = 64 - s := by omega
  have hB := B64_split (r := s) (by omega)
  have hX : x * 2 ^ s < B64 := by rw [hB]; exact Nat.mul_lt_mul_of_pos_right hx (Nat.two_pow_pos s)
  have hY : y / 2 ^ (64 - s) < 2 ^ s := by
    rw [Nat.div_lt_iff_lt_mul (Nat.two_pow_pos _), Nat.mul_comm, ← hB]
    exact hy
  have e1 : IntKind.u64.wrap ((x : Int) * 2 ^ s) = ((x * 2 ^ s : Nat) : Int) := by
    have := wrap_fits hX
    rw [← this, Int.natCast_mul, Int.natCast_pow]
    rfl
  have e2 : ((y : Int) / 2 ^ (64 - s)) = ((y / 2 ^ (64 - s) : Nat) : Int) := by
    rw [Int.natCast_ediv, Int.natCast_pow]
    rfl
  have hor := or_shl (x := x) (r := s) (y := y / 2 ^ (64 - s)) (by omega) hY
  rw [Nat.mod_eq_of_lt hX] at hor
  rw [m1, m2, e1, e2, bits_or_u64_nat _ _ hX (Nat.lt_of_le_of_lt (Nat.div_le_self _ _) hy), Nat.or_comm, hor, Nat.add_comm]
theorem limbG_z (A : Option Addr) (n c : Nat) (l : List Nat) (i : Nat) (z : Int) (w : World) (h : Rd w A n l) (hz : z = (i : Int)) (hi : i ≤ 9223372036854775807) (hn : n ≤ 9223372036854775807) :
    Calls Tryd.prog 62 #[.slice A n c, .int .i64 z] w fun e w' => e = .returned (u64 (lim l i)) ∧ w' = w := hz ▸ limbG_any A n c l i w h hi hn

set_option maxRecDepth 100000 in
set_option maxHeartbeats 2000000 in
/-- The function within tops. -/
theorem top_in (A : Option Addr) (n c : Nat) (l : List Nat) (k s b1 o1 b2 o2 : Nat) (K1 S : Int) (w : World) (h : Rd w A n l) (hn : n ≤ 9223372036854775807) (hk : k < 9223372036854775807) (hs : s ≤ 63) (hlim : lim l (k + 1) < 2 ^ (64 - s))
    (hK : K1 = ((k + 1 : Nat) : Int)) (hS : S = (s : Int)) (h1 : w.cell? ⟨b1, o1, none⟩ = some (.int .i64 K1)) (h2 : w.cell? ⟨b2, o2, none⟩ = some (.int .i64 S)) :
    Calls Tryd.prog 61 #[.slice A n c, .pointer (some ⟨b1, o1, none⟩), .pointer (some ⟨b2, o2, none⟩)] w fun e w' => e = .returned (u64 (lim l (k + 1) * 2 ^ s + lim l k / 2 ^ (64 - s))) ∧ ∃ m, w' = w.drewN m := by
  obtain ⟨K0, hK0⟩ : ∃ K0 : Int, K0 = (k : Int) := ⟨_, rfl⟩
  obtain ⟨R, hR⟩ : ∃ R : Int, R = ((64 - s : Nat) : Int) := ⟨_, rfl⟩
  have e0 : IntKind.i64.wrap (K1 - 1) = K0 := by rw [IntKind.wrap_i64]; omega
  have e1 : IntKind.i64.wrap (64 - S) = R := by rw [IntKind.wrap_i64]; omega
  have e2 : wrap64 (K1 - 1) = K0 := by unfold wrap64; omega
  have e3 : wrap64 (64 - S) = R := by unfold wrap64; omega
  have s1 : ¬ S < 0 := by omega
  have s2 : ¬ R < 0 := by omega
  have C1 := Lib.hid (fun m => limbG_z A n c l (k + 1) K1 _ (h.drewN m) hK (by omega) hn)
  have C0 := Lib.hid (fun m => limbG_z A n c l k K0 _ (h.drewN m) hK0 (by omega) hn)
  have HK := Lib.hid hK
  have HS := Lib.hid hS
  have HR := Lib.hid hR
  have HL := Lib.hid hlim
  have H0 := Lib.hid (h.words.get k)
  clear h hK hS hR hK0 hlim
  go_enter Tryd.func61, Tryd.ntmps61
  go_wp2
  go_quiet (first
    | (go_at_call_of 62 K1; exact Calls.quiet_of_same (C1.out _))
    | (go_at_call_of 62 K0; exact Calls.quiet_of_same (C0.out _)))
  go_wp2
  go_ret
  refine ⟨?_, _, rfl⟩
  rw [top_word hs HL.out H0.out HS.out HR.out]
  rfl

/-- The two highest limbs' highest bits. -/
def topOf (l : List Nat) (k s : Nat) : Nat := lim l (k + 1) * 2 ^ s + lim l k / 2 ^ (64 - s)

set_option maxRecDepth 100000 in
set_option maxHeartbeats 2000000 in
/-- gcd.tops. -/
theorem tops_any (A A2 : Option Addr) (k ca nb cb : Nat) (a b : List Nat) (w : World) (hra : Rd w A (k + 2) a) (hrb : Rd w A2 nb b) (hna : k ≤ 1000000) (hnb : nb ≤ k + 2) (h0 : lim a (k + 1) ≠ 0) (hle : lim b (k + 1) ≤ lim a (k + 1)) :
    Calls Tryd.prog 38 #[.slice A (k + 2) ca, .slice A2 nb cb] w fun e w' => (∃ s, s ≤ 63 ∧ lim a (k + 1) < 2 ^ (64 - s) ∧ 2 ^ (63 - s) ≤ lim a (k + 1) ∧ e = .returned (.tuple #[u64 (topOf a k s), u64 (topOf b k s)])) ∧ Below w.heap.size w w' := by
  unfold topOf
  have hx := hra.words.get (k + 1)
  obtain ⟨k1, k2, k3⟩ := Lib.bitLenAux_bounds 64 _ hx h0
  have hb : Lib.bitLen (lim a (k + 1)) ≤ 64 := Lib.bitLen_le _ 64 (Nat.le_refl _) hx
  have hlz := fun W => lead_any _ hx W
  obtain ⟨s, hs⟩ : ∃ s, 64 - Lib.bitLen (lim a (k + 1)) = s := ⟨_, rfl⟩
  have e1 : Lib.bitLenAux 64 (lim a (k + 1)) = 64 - s := by
    show Lib.bitLen _ = _
    omega
  rw [e1] at k1 k2 k3
  have hs63 : s ≤ 63 := by omega
  rw [show 64 - s - 1 = 63 - s by omega] at k2
  obtain ⟨ba, oa, rfl, hlt, hc⟩ := hra.cells (by omega)
  have hci := hc (k + 1) (by omega)
  obtain ⟨K1, hK⟩ : ∃ K1 : Int, K1 = ((k + 1 : Nat) : Int) := ⟨_, rfl⟩
  obtain ⟨S, hS⟩ : ∃ S : Int, S = (s : Int) := ⟨_, rfl⟩
  have q1 : wrap64 (((k + 2 : Nat) : Int) - 1) = K1 := by unfold wrap64; omega
  rw [hs, ← hS] at hlz
  have HLZ := Lib.hid hlz
  have HRA := Lib.hid hra
  have HRB := Lib.hid hrb
  have H1 := Lib.hid k2
  have H2 := Lib.hid k3
  have H3 := Lib.hid hs63
  have HK := Lib.hid hK
  have HS := Lib.hid hS
  have hlb : lim b (k + 1) < 2 ^ (64 - s) := Nat.lt_of_le_of_lt hle k3
  have hw2 : ∃ W, (w.alloc (.cells #[.int .i64 (↑k + 2 - 1)] 3)).alloc (.cells #[.int .i64 S] 3) = W := ⟨_, rfl⟩
  obtain ⟨W, hW⟩ := hw2
  have z1 : W.cell? ⟨w.heap.size, 0, none⟩ = some (.int .i64 (↑k + 2 - 1)) := by rw [← hW]; simp [go_sem]
  have z2 : W.cell? ⟨w.heap.size + 1, 0, none⟩ = some (.int .i64 S) := by rw [← hW]; simp [go_sem]
  have hB : Below w.heap.size w W := by rw [← hW]; exact ((Below.refl _ w).alloc (Nat.le_refl _) _).alloc (by simp) _
  have C1 := Lib.hid (top_in (some ⟨ba, oa, none⟩) (k + 2) ca a k s w.heap.size 0 (w.heap.size + 1) 0 _ _ W (hra.below hB) (by omega) (by omega) hs63 k3 (by omega) hS z1 z2)
  have C2 := Lib.hid (fun m => top_in A2 nb cb b k s w.heap.size 0 (w.heap.size + 1) 0 ((k : Int) + 2 - 1) S (W.drewN m) ((hrb.below hB).drewN m) (by omega) (by omega) hs63 hlb (by omega) hS z1 z2)
  have HB := Lib.hid hB
  have HW := Lib.hid hW
  clear hra hlb z1 z2 hB hW hrb hs e1 k1 k2 k3 hb hc hle h0 hx hS hs63 hlz
  go_enter Tryd.func38, Tryd.ntmps38
  go_wp2_with fail
  refine (HLZ.out _).mono ?_
  rintro e w1 ⟨rfl, rfl⟩
  go_wp2_with fail
  rw [HW.out]
  refine C1.out.mono ?_
  rintro e w2 ⟨rfl, m1, rfl⟩
  go_wp2_with fail
  refine (C2.out _).mono ?_
  rintro e w3 ⟨rfl, m2, rfl⟩
  go_wp2
  go_ret2
  exact ⟨⟨s, H3.out, H2.out, H1.out, rfl⟩, below_drewN HB.out _⟩
end Go.Proofs.YtoehkaagfokamaaDoor
