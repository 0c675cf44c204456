import Derived.Test.YtoehkaagfokamaaGreatDoorZDivSpec
import Derived.Test.YtoehkaagfokamaaGreatDoorZSure
import Derived.Test.YtoehkaagfokamaaGreatDoorZDLimb
import Derived.Test.YtoehkaagfokamaaGreatDoorZDown
import Derived.Test.YtoehkaagfokamaaGreatDoorZDLimbs
import Derived.Test.YtoehkaagfokamaaGreatDoorZRefDiv
import Derived.Test.YtoehkaagfokamaaGreatDoorZBit
import Derived.Test.YtoehkaagfokamaaGreatDoorZCopy
import Derived.Lib.SliceRun
import Derived.Test.YtoehkaagfokamaaGreatDoorZMSpec
import Derived.Test.YtoehkaagfokamaaGreatDoorZRefCommon
import Derived.Test.YtoehkaagfokamaaGreatDoorZGSpec
import Derived.Deep.RegionHeld3
/- DNames Tops DBits DBack DTwice DTells DProduct DCode GLow. -/
/- Div by numbers; the law DivNames. -/
namespace Go.Proofs.YtoehkaagfokamaaGreatDoor
open Go.RowKit Go.Shelf
set_option linter.unusedVariables false
set_option linter.unusedSimpArgs false

section
variable {F : Nat} (A A2 : Option Addr) (na ca nb cb v u : Nat) (w : World)
theorem div_nm (hD : DivIs F) (hva : Nm w A na ca v) (hub : Nm w A2 nb cb u) (hu : u ≠ 0) (hna : na ≤ 1000) (hnb : nb ≤ 1000) :
    Calls Tryz.prog F #[.slice A na ca, .slice A2 nb cb] w fun e w' => ∃ A k c A2 k2 c2, e = .returned (.tuple #[.slice A k c, .slice A2 k2 c2, .int .i64 0]) ∧ Own w' w.heap.size (.slice A k c) (limbs (v / u)) ∧ Own w' w.heap.size (.slice A2 k2 c2) (limbs (v % u)) ∧ Below w.heap.size w w' := by
  have e : divE (limbs v) (limbs u) = 0 := divE_ok (may_limbs v) (may_limbs u) (fun h => hu (limbs_eq_nil.1 h))
  have h := hD A A2 na ca nb cb (limbs v) (limbs u) w hva.rd hub.rd hna hnb ⟨hva.nc, hva.cm⟩ ⟨hub.nc, hub.cm⟩
  rw [quoL_ok e, remL_ok e, e, val_limbs, val_limbs] at h
  exact h
theorem div_none (hD : DivIs F) (hva : Nm w A na ca v) (hna : na ≤ 1000) :
    Calls Tryz.prog F #[.slice A na ca, .slice none 0 0] w fun e w' => ∃ A k c A2 k2 c2, e = .returned (.tuple #[.slice A k c, .slice A2 k2 c2, .int .i64 30]) ∧ Own w' w.heap.size (.slice A k c) [] ∧ Own w' w.heap.size (.slice A2 k2 c2) [] ∧ Below w.heap.size w w' := by
  have e : divE (limbs v) [] = 30 := divE_zero (may_limbs v)
  have h := hD A none na ca 0 0 (limbs v) [] w hva.rd (rd_nil w none) hna (by omega) ⟨hva.nc, hva.cm⟩ ⟨by omega, by omega⟩
  rw [quoL_no (by rw [e]; omega), remL_no (by rw [e]; omega), e] at h
  exact h
theorem exact_nm (hE : ExactIs F) (hva : Nm w A na ca v) (hub : Nm w A2 nb cb u) (hu : u ≠ 0) (hm : v % u = 0) (hna : na ≤ 1000) (hnb : nb ≤ 1000) :
    Calls Tryz.prog F #[.slice A na ca, .slice A2 nb cb] w fun e w' => ∃ A k c, e = .returned (.tuple #[.slice A k c, .int .i64 0]) ∧ Own w' w.heap.size (.slice A k c) (limbs (v / u)) ∧ Below w.heap.size w w' := by
  have e : divE (limbs v) (limbs u) = 0 := divE_ok (may_limbs v) (may_limbs u) (fun h => hu (limbs_eq_nil.1 h))
  have e2 : exactE (limbs v) (limbs u) = 0 := by simp [exactE, e, val_limbs, hm]
  have e3 : exactL (limbs v) (limbs u) = limbs (v / u) := by simp [exactL, e2, val_limbs]
  have h := hE A A2 na ca nb cb (limbs v) (limbs u) w hva.rd hub.rd hna hnb ⟨hva.nc, hva.cm⟩ ⟨hub.nc, hub.cm⟩
  rw [e2, e3] at h
  exact h
theorem exact_none (hE : ExactIs F) (hva : Nm w A na ca v) (hub : Nm w A2 nb cb u) (hu : u ≠ 0) (hm : v % u ≠ 0) (hna : na ≤ 1000) (hnb : nb ≤ 1000) :
    Calls Tryz.prog F #[.slice A na ca, .slice A2 nb cb] w fun e w' => ∃ A k c, e = .returned (.tuple #[.slice A k c, .int .i64 6]) ∧ Own w' w.heap.size (.slice A k c) [] ∧ Below w.heap.size w w' := by
  have e : divE (limbs v) (limbs u) = 0 := divE_ok (may_limbs v) (may_limbs u) (fun h => hu (limbs_eq_nil.1 h))
  have e2 : exactE (limbs v) (limbs u) = 6 := by simp [exactE, e, val_limbs, hm]
  have e3 : exactL (limbs v) (limbs u) = [] := by simp [exactL, e2]
  have h := hE A A2 na ca nb cb (limbs v) (limbs u) w hva.rd hub.rd hna hnb ⟨hva.nc, hva.cm⟩ ⟨hub.nc, hub.cm⟩
  rw [e2, e3] at h
  exact h
theorem cmp_nm (hva : Nm w A na ca v) (hub : Nm w A2 nb cb u) (hna : na ≤ 1000) (hnb : nb ≤ 1000) :
    Calls Tryz.prog 84 #[.slice A na ca, .slice A2 nb cb] w fun e w' => e = .returned (.tuple #[.int .i64 (cmp3 v u), .int .i64 0]) ∧ Below w.heap.size w w' := by
  have h := cmp_ok A A2 na ca nb cb (limbs v) (limbs u) w hva.rd hub.rd (by omega) (by omega) (by simp [may_limbs])
  rwa [val_limbs, val_limbs] at h
theorem check_nm (hva : Nm w A na ca v) (hna : na ≤ 1000) :
    Calls Tryz.prog 32 #[.slice A na ca] w fun e w' => e = .returned (.int .i64 0) ∧ Below w.heap.size w w' := by
  have h := check_any A na ca (limbs v) w hva.rd (by omega)
  rwa [bad_zero (by simp [may_limbs])] at h
theorem times_nm (hva : Nm w A na ca v) (hub : Nm w A2 nb cb u) (hna : na ≤ 1000) (hnb : nb ≤ 1000) :
    Calls Tryz.prog 24 #[.slice A na ca, .slice A2 nb cb] w fun e w' => ∃ A k c, e = .returned (.slice A k c) ∧ Own w' w.heap.size (.slice A k c) (limbs (v * u)) ∧ Below w.heap.size w w' := by
  have h := times_any A A2 na ca nb cb (limbs v) (limbs u) w hva.rd hub.rd (by omega) (by omega)
  rwa [val_limbs, val_limbs] at h
variable {A A2 : Option Addr} {na ca nb cb v u : Nat} {w w2 : World}
theorem div_len (hva : Nm w A na ca v) (u : Nat) : (limbs (v / u)).length ≤ na := by
  have := length_of_le (words_limbs v) (n := v / u) (by rw [val_limbs]; exact Nat.div_le_self _ _)
  rwa [hva.rd.len] at this
theorem mod_len (hva : Nm w A na ca v) (u : Nat) : (limbs (v % u)).length ≤ na := by
  have := length_of_le (words_limbs v) (n := v % u) (by rw [val_limbs]; exact Nat.mod_le _ _)
  rwa [hva.rd.len] at this
end
theorem nm_at1 (w : World) (g : Nat) (hg : w.heap.size = g) (x : Nat) (T : TypeId) (hx : x < B64) (h0 : (x != 0) = true) : Nm (w.alloc (.cells #[u64 x] T)) (some ⟨g, 0, none⟩) 1 1 x := by
  subst hg; exact nm_new1 w x T hx h0
theorem nm_at2 (w : World) (g : Nat) (hg : w.heap.size = g) (x y : Nat) (T : TypeId) (hx : x < B64) (hy : y < B64) (h0 : (y != 0) = true) : Nm (w.alloc (.cells #[u64 x, u64 y] T)) (some ⟨g, 0, none⟩) 2 2 (x + B64 * y) := by
  subst hg; exact nm_new2 w x y T hx hy h0
theorem nm_at3 (w : World) (g : Nat) (hg : w.heap.size = g) (T : TypeId) : Nm (w.alloc (.cells #[u64 0, u64 0, u64 1] T)) (some ⟨g, 0, none⟩) 3 3 (B64 * B64) := by
  subst hg
  have h : Rd (w.alloc (.cells #[u64 0, u64 0, u64 1] T)) (some ⟨w.heap.size, 0, none⟩) 3 [0, 0, 1] :=
    ⟨rfl, words_cons B64_pos (words_cons B64_pos (words_cons B64_gt words_nil)), fun _ => ⟨w.heap.size, 0, rfl, by simp, fun i hi => by
      rcases (by omega : i = 0 ∨ i = 1 ∨ i = 2) with rfl | rfl | rfl <;> simp [lim]⟩⟩
  have h2 := nm_of (c := 3) h rfl (by omega) (by omega)
  simpa [val] using h2
theorem Nm.al {w : World} {A : Option Addr} {n c v : Nat} (h : Nm w A n c v) (o : Obj) : Nm (w.alloc o) A n c v := h.below ((Below.refl _ w).alloc (Nat.le_refl _) o)

section
variable {F : Nat} (A : Option Addr) (na ca v x : Nat) (w : World)
theorem wordD_nm (hW : WordIs F) (hva : Nm w A na ca v) (hx : x < B64) (h0 : x ≠ 0) (hna : na ≤ 1000) :
    Calls Tryz.prog F #[.slice A na ca, .int .u64 (x : Int)] w fun e w' => ∃ A k c, e = .returned (.tuple #[.slice A k c, .int .u64 ((v % x : Nat) : Int), .int .i64 0]) ∧ Own w' w.heap.size (.slice A k c) (limbs (v / x)) ∧ Below w.heap.size w w' := by
  have e : divE (limbs v) (limbs x) = 0 := divE_ok (may_limbs v) (may_limbs x) (fun h => h0 (limbs_eq_nil.1 h))
  have h := hW A na ca (limbs v) x w hva.rd hx hna ⟨hva.nc, hva.cm⟩
  rw [quoL_ok e, remL_ok e, e, val_limbs, val_limbs, val_limbs] at h
  exact h
theorem wordD_none (hW : WordIs F) (hva : Nm w A na ca v) (hna : na ≤ 1000) :
    Calls Tryz.prog F #[.slice A na ca, .int .u64 0] w fun e w' => ∃ A k c, e = .returned (.tuple #[.slice A k c, .int .u64 0, .int .i64 30]) ∧ Below w.heap.size w w' := by
  have e : divE (limbs v) [] = 30 := divE_zero (may_limbs v)
  have h := hW A na ca (limbs v) 0 w hva.rd B64_pos hna ⟨hva.nc, hva.cm⟩
  rw [limbs_zero, quoL_no (by rw [e]; omega), remL_no (by rw [e]; omega), e, val_nil] at h
  exact h.mono fun e w' ⟨A, k, c, he, ho, hb⟩ => ⟨A, k, c, he, hb⟩
theorem wordD_bad (a : List Nat) (hW : WordIs F) (hra : Rd w A na a) (hm : may a = false) (hx : x < B64) (hna : na ≤ 1000) (q : na ≤ ca ∧ ca ≤ 9223372036854775807) :
    Calls Tryz.prog F #[.slice A na ca, .int .u64 (x : Int)] w fun e w' => ∃ A k c, e = .returned (.tuple #[.slice A k c, .int .u64 0, .int .i64 8]) ∧ Below w.heap.size w w' := by
  have e : divE a (limbs x) = 8 := divE_bad (by simp [both, hm])
  have h := hW A na ca a x w hra hx hna q
  rw [quoL_no (by rw [e]; omega), remL_no (by rw [e]; omega), e, val_nil] at h
  exact h.mono fun e w' ⟨A, k, c, he, ho, hb⟩ => ⟨A, k, c, he, hb⟩
end

theorem five_by : 5 / (0 + B64 * 1) = 0 ∧ 5 % (0 + B64 * 1) = 5 := by
  have h : 5 < 0 + B64 * 1 := by rw [B64_eq]; omega
  exact ⟨Nat.div_eq_of_lt h, Nat.mod_eq_of_lt h⟩
theorem big_by : B64 * B64 / (1 + B64 * 1) = top ∧ B64 * B64 % (1 + B64 * 1) = 1 := div_of (by rw [B64_eq]; omega) (by rw [B64_eq]; rfl)
theorem b64_ne (x : Nat) : x + B64 * 1 ≠ 0 := by rw [B64_eq]; omega

end Go.Proofs.YtoehkaagfokamaaGreatDoor

/- gcd's tops: the highest bits of two numbers. -/
namespace Go.Proofs.YtoehkaagfokamaaGreatDoor
open Go.RowKit Go.Shelf
set_option linter.unusedVariables false
set_option linter.unusedSimpArgs false

set_option maxHeartbeats 400000 in
/-- gcd.limb: the limb at a place, 0 beyond the last one. -/
theorem limbG_any (A : Option Addr) (n c : Nat) (l : List Nat) (i : Nat) (w : World) (h : Rd w A n l) (hi : i ≤ 9223372036854775807) (hn : n ≤ 9223372036854775807) :
    Calls Tryz.prog 114 #[.slice A n c, .int .i64 (i : Int)] w fun e w' => e = .returned (u64 (lim l i)) ∧ w' = w := by
  by_cases hlt : i < n
  · obtain ⟨b, off, rfl, hb, hc⟩ := h.cells (by omega)
    have hci := hc i hlt
    clear hc h
    go_enter Tryz.func114, Tryz.ntmps114
    go_wp2
    go_ret
    exact ⟨rfl, rfl⟩
  · have h0 : lim l i = 0 := lim_past (by rw [h.len]; omega)
    have H0 : Hid (lim l i = 0) := h0
    clear h0 h
    go_enter Tryz.func114, Tryz.ntmps114
    go_wp2
    go_ret
    exact ⟨by rw [H0.out]; rfl, rfl⟩

theorem top_word {x y s : Nat} {S R : Int} (hs : s ≤ 63) (hx : x < 2 ^ (64 - s)) (hy : y < B64) (hS : S = (s : Int)) (hR : R = ((64 - s : Nat) : Int)) :
    bits BinOp.or IntKind.u64 (IntKind.u64.wrap ((x : Int) * 2 ^ min S.toNat 64)) ((y : Int) / 2 ^ min R.toNat 64) = ((x * 2 ^ s + y / 2 ^ (64 - s) : Nat) : Int) := by
  have m1 : min S.toNat 64 = s := by omega
  have m2 : min R.toNat 64 = 64 - s := by omega
  have hB := B64_split (r := s) (by omega)
  have hX : x * 2 ^ s < B64 := by rw [hB]; exact Nat.mul_lt_mul_of_pos_right hx (Nat.two_pow_pos s)
  have hY : y / 2 ^ (64 - s) < 2 ^ s := by
    rw [Nat.div_lt_iff_lt_mul (Nat.two_pow_pos _), Nat.mul_comm, ← hB]
    exact hy
  have e1 : IntKind.u64.wrap ((x : Int) * 2 ^ s) = ((x * 2 ^ s : Nat) : Int) := by
    have := wrap_fits hX
    rw [← this, Int.natCast_mul, Int.natCast_pow]
    rfl
  have e2 : ((y : Int) / 2 ^ (64 - s)) = ((y / 2 ^ (64 - s) : Nat) : Int) := by
    rw [Int.natCast_ediv, Int.natCast_pow]
    rfl
  have hor := or_shl (x := x) (r := s) (y := y / 2 ^ (64 - s)) (by omega) hY
  rw [Nat.mod_eq_of_lt hX] at hor
  rw [m1, m2, e1, e2, bits_or_u64_nat _ _ hX (Nat.lt_of_le_of_lt (Nat.div_le_self _ _) hy), Nat.or_comm, hor, Nat.add_comm]
theorem limbG_z (A : Option Addr) (n c : Nat) (l : List Nat) (i : Nat) (z : Int) (w : World) (h : Rd w A n l) (hz : z = (i : Int)) (hi : i ≤ 9223372036854775807) (hn : n ≤ 9223372036854775807) :
    Calls Tryz.prog 114 #[.slice A n c, .int .i64 z] w fun e w' => e = .returned (u64 (lim l i)) ∧ w' = w := hz ▸ limbG_any A n c l i w h hi hn

set_option maxRecDepth 100000 in
set_option maxHeartbeats 2000000 in
/-- The function within tops. -/
theorem top_in (A : Option Addr) (n c : Nat) (l : List Nat) (k s b1 o1 b2 o2 : Nat) (K1 S : Int) (w : World) (h : Rd w A n l) (hn : n ≤ 9223372036854775807) (hk : k < 9223372036854775807) (hs : s ≤ 63) (hlim : lim l (k + 1) < 2 ^ (64 - s))
    (hK : K1 = ((k + 1 : Nat) : Int)) (hS : S = (s : Int)) (h1 : w.cell? ⟨b1, o1, none⟩ = some (.int .i64 K1)) (h2 : w.cell? ⟨b2, o2, none⟩ = some (.int .i64 S)) :
    Calls Tryz.prog 113 #[.slice A n c, .pointer (some ⟨b1, o1, none⟩), .pointer (some ⟨b2, o2, none⟩)] w fun e w' => e = .returned (u64 (lim l (k + 1) * 2 ^ s + lim l k / 2 ^ (64 - s))) ∧ ∃ m, w' = w.drewN m := by
  obtain ⟨K0, hK0⟩ : ∃ K0 : Int, K0 = (k : Int) := ⟨_, rfl⟩
  obtain ⟨R, hR⟩ : ∃ R : Int, R = ((64 - s : Nat) : Int) := ⟨_, rfl⟩
  have e0 : IntKind.i64.wrap (K1 - 1) = K0 := by rw [IntKind.wrap_i64]; omega
  have e1 : IntKind.i64.wrap (64 - S) = R := by rw [IntKind.wrap_i64]; omega
  have e2 : wrap64 (K1 - 1) = K0 := by unfold wrap64; omega
  have e3 : wrap64 (64 - S) = R := by unfold wrap64; omega
  have s1 : ¬ S < 0 := by omega
  have s2 : ¬ R < 0 := by omega
  have C1 := Lib.hid (fun m => limbG_z A n c l (k + 1) K1 _ (h.drewN m) hK (by omega) hn)
  have C0 := Lib.hid (fun m => limbG_z A n c l k K0 _ (h.drewN m) hK0 (by omega) hn)
  have HK := Lib.hid hK
  have HS := Lib.hid hS
  have HR := Lib.hid hR
  have HL := Lib.hid hlim
  have H0 := Lib.hid (h.words.get k)
  clear h hK hS hR hK0 hlim
  go_enter Tryz.func113, Tryz.ntmps113
  go_wp2
  go_quiet (first
    | (go_at_call_of 114 K1; exact Calls.quiet_of_same (C1.out _))
    | (go_at_call_of 114 K0; exact Calls.quiet_of_same (C0.out _)))
  go_wp2
  go_ret
  refine ⟨?_, _, rfl⟩
  rw [top_word hs HL.out H0.out HS.out HR.out]
  rfl

/-- The two highest limbs' highest bits. -/
def topOf (l : List Nat) (k s : Nat) : Nat := lim l (k + 1) * 2 ^ s + lim l k / 2 ^ (64 - s)

set_option maxRecDepth 100000 in
set_option maxHeartbeats 2000000 in
/-- gcd.tops. -/
theorem tops_any (A A2 : Option Addr) (k ca nb cb : Nat) (a b : List Nat) (w : World) (hra : Rd w A (k + 2) a) (hrb : Rd w A2 nb b) (hna : k ≤ 1000000) (hnb : nb ≤ k + 2) (h0 : lim a (k + 1) ≠ 0) (hle : lim b (k + 1) ≤ lim a (k + 1)) :
    Calls Tryz.prog 100 #[.slice A (k + 2) ca, .slice A2 nb cb] w fun e w' => (∃ s, s ≤ 63 ∧ lim a (k + 1) < 2 ^ (64 - s) ∧ 2 ^ (63 - s) ≤ lim a (k + 1) ∧ e = .returned (.tuple #[u64 (topOf a k s), u64 (topOf b k s)])) ∧ Below w.heap.size w w' := by
  unfold topOf
  have hx := hra.words.get (k + 1)
  obtain ⟨k1, k2, k3⟩ := Lib.bitLenAux_bounds 64 _ hx h0
  have hb : Lib.bitLen (lim a (k + 1)) ≤ 64 := Lib.bitLen_le _ 64 (Nat.le_refl _) hx
  have hlz := fun W => lead_any _ hx W
  obtain ⟨s, hs⟩ : ∃ s, 64 - Lib.bitLen (lim a (k + 1)) = s := ⟨_, rfl⟩
  have e1 : Lib.bitLenAux 64 (lim a (k + 1)) = 64 - s := by
    show Lib.bitLen _ = _
    omega
  rw [e1] at k1 k2 k3
  have hs63 : s ≤ 63 := by omega
  rw [show 64 - s - 1 = 63 - s by omega] at k2
  obtain ⟨ba, oa, rfl, hlt, hc⟩ := hra.cells (by omega)
  have hci := hc (k + 1) (by omega)
  obtain ⟨K1, hK⟩ : ∃ K1 : Int, K1 = ((k + 1 : Nat) : Int) := ⟨_, rfl⟩
  obtain ⟨S, hS⟩ : ∃ S : Int, S = (s : Int) := ⟨_, rfl⟩
  have q1 : wrap64 (((k + 2 : Nat) : Int) - 1) = K1 := by unfold wrap64; omega
  rw [hs, ← hS] at hlz
  have HLZ := Lib.hid hlz
  have HRA := Lib.hid hra
  have HRB := Lib.hid hrb
  have H1 := Lib.hid k2
  have H2 := Lib.hid k3
  have H3 := Lib.hid hs63
  have HK := Lib.hid hK
  have HS := Lib.hid hS
  have hlb : lim b (k + 1) < 2 ^ (64 - s) := Nat.lt_of_le_of_lt hle k3
  have hw2 : ∃ W, (w.alloc (.cells #[.int .i64 (↑k + 2 - 1)] 3)).alloc (.cells #[.int .i64 S] 3) = W := ⟨_, rfl⟩
  obtain ⟨W, hW⟩ := hw2
  have z1 : W.cell? ⟨w.heap.size, 0, none⟩ = some (.int .i64 (↑k + 2 - 1)) := by rw [← hW]; simp [go_sem]
  have z2 : W.cell? ⟨w.heap.size + 1, 0, none⟩ = some (.int .i64 S) := by rw [← hW]; simp [go_sem]
  have hB : Below w.heap.size w W := by rw [← hW]; exact ((Below.refl _ w).alloc (Nat.le_refl _) _).alloc (by simp) _
  have C1 := Lib.hid (top_in (some ⟨ba, oa, none⟩) (k + 2) ca a k s w.heap.size 0 (w.heap.size + 1) 0 _ _ W (hra.below hB) (by omega) (by omega) hs63 k3 (by omega) hS z1 z2)
  have C2 := Lib.hid (fun m => top_in A2 nb cb b k s w.heap.size 0 (w.heap.size + 1) 0 ((k : Int) + 2 - 1) S (W.drewN m) ((hrb.below hB).drewN m) (by omega) (by omega) hs63 hlb (by omega) hS z1 z2)
  have HB := Lib.hid hB
  have HW := Lib.hid hW
  clear hra hlb z1 z2 hB hW hrb hs e1 k1 k2 k3 hb hc hle h0 hx hS hs63 hlz
  go_enter Tryz.func100, Tryz.ntmps100
  go_wp2_with fail
  refine (HLZ.out _).mono ?_
  rintro e w1 ⟨rfl, rfl⟩
  go_wp2_with fail
  rw [HW.out]
  refine C1.out.mono ?_
  rintro e w2 ⟨rfl, m1, rfl⟩
  go_wp2_with fail
  refine (C2.out _).mono ?_
  rintro e w3 ⟨rfl, m2, rfl⟩
  go_wp2
  go_ret2
  exact ⟨⟨s, H3.out, H2.out, H1.out, rfl⟩, below_drewN HB.out _⟩
end Go.Proofs.YtoehkaagfokamaaGreatDoor

/- div.bitByBit: a quotient bit by bit. -/
namespace Go.Proofs.YtoehkaagfokamaaGreatDoor
open Go.RowKit Go.Shelf
set_option linter.unusedVariables false
set_option linter.unusedSimpArgs false

theorem wpList_copy_run {P : Program} (w : World) {ops : Array Oper} {rest : List Oper} {o : Oper} {a : Act} {Q : Exit → Act → World → Prop} (hgd : o.guard = none) (d s : Operand) (t1 t2 : TypeId)
    (ho : o.op = .call { callee := .builtin .copy, args := #[d, s], argTypes := #[t1, t2] }) (vd vs : Value) (hd : a.eval d = vd) (hs : a.eval s = vs)
    (v' : Value) (w' : World) (hr : (Builtin.copy_ #[t1, t2] o.type #[vd, vs]).run P w = .ok v' w') (h : wpList P ops Q rest (a.put o.dst v') w') : wpList P ops Q (o :: rest) a w :=
  wpList_plain hgd fun K hK => by
    unfold Oper.wp execOp
    simp only [ho, resolve, invoke, builtin, Sem.run_bind, Sem.run_pure, Result.andThen_ok, List.map_toArray, List.map_cons, List.map_nil, hd, hs, hr]
    exact hK _ _ h

/-- One row over another one, of the same length. -/
theorem copy_rows {w : World} {gt gr n : Nat} {T R : List Nat} (ty : TypeId) (hT : RowL w gt T) (hR : RowL w gr R) (hlt : T.length = n) (hlr : R.length = n) :
    ∃ w', (Builtin.copy_ #[26, 26] ty #[.slice (some ⟨gt, 0, none⟩) n n, .slice (some ⟨gr, 0, none⟩) n n]).run Tryz.prog w = .ok (goInt n) w' ∧ RowL w' gt R ∧ Only gt w w' := by
  have h := run_copy_row (P := Tryz.prog) w 26 26 ty 31 gt 0 n n ⟨gr, 0, none⟩ n n (T.map u64).toArray 31 (R.map u64) Tryz.underlying26 (by kernel_rfl) hT (by simp [hlr])
    (fun j v hv => by
      have hj : j < R.length := by have := (List.getElem?_eq_some_iff.1 hv).1; simpa using this
      rw [Addr.add_lit, Nat.zero_add, hR.cell hj]
      rw [List.getElem?_map, List.getElem?_eq_getElem hj] at hv
      simp at hv
      rw [← hv, lim_get hj]) (by simp; omega) (fun v hv => by obtain ⟨y, _, rfl⟩ := List.mem_map.1 hv; rfl)
  rw [List.length_map, hlr] at h
  refine ⟨_, h, ?_, ?_⟩
  · have e : ((T.map u64).toArray.toList.take 0 ++ R.map u64 ++ (T.map u64).toArray.toList.drop (0 + n)).toArray = (R.map u64).toArray := by
      refine congrArg List.toArray ?_
      show List.take 0 (T.map u64) ++ R.map u64 ++ List.drop (0 + n) (T.map u64) = _
      rw [List.take_zero, List.nil_append, List.drop_eq_nil_of_le (by simp; omega), List.append_nil]
    rw [e]
    exact setRow_heap w gt _ _ _ _ hT
  · refine ⟨⟨rfl, rfl, rfl, by simp [World.setRow], fun k hk => absurd hk (by omega)⟩, fun j hj hg => ?_⟩
    simp only [World.setRow, Array.getElem?_modify]
    rw [if_neg (by omega)]

theorem or_bit {x t : Nat} (hx : x % 2 ^ (t + 1) = 0) (ht : t < 64) (hxb : x < B64) : Go.bits BinOp.or IntKind.u64 (x : Int) (IntKind.u64.wrap (2 ^ t)) = ((x + 2 ^ t : Nat) : Int) ∧ x + 2 ^ t < B64 := by
  have h2 : (2 : Nat) ^ t < B64 := by rw [show B64 = 2 ^ 64 from rfl]; exact Nat.pow_lt_pow_right (by omega) ht
  have e0 : x = 2 ^ (t + 1) * (x / 2 ^ (t + 1)) := by have := Nat.div_add_mod x (2 ^ (t + 1)); omega
  have e1 : x ||| 2 ^ t = x + 2 ^ t := by
    have := Nat.two_pow_add_eq_or_of_lt (i := t + 1) (b := 2 ^ t) (Nat.pow_lt_pow_right (by omega) (by omega)) (x / 2 ^ (t + 1))
    rw [← e0] at this
    exact this.symm
  have e2 : IntKind.u64.wrap ((2 : Int) ^ t) = ((2 ^ t : Nat) : Int) := by
    rw [show ((2 : Int) ^ t) = ((2 ^ t : Nat) : Int) by simp, u64_wrap_nat, Nat.mod_eq_of_lt h2]
  refine ⟨by rw [e2, bits_or_u64_nat _ _ hxb h2, e1], ?_⟩
  rw [← e1]
  exact Nat.or_lt_two_pow (n := 64) hxb h2
/-- One bit more of the quotient. -/
theorem bit_more {L : List Nat} {Q i p t : Nat} (hw : Words L) (hv : val L = Q * 2 ^ (i + 1)) (hi : i = 64 * p + t) (ht : t < 64) (hp : p < L.length) :
    lim L p % 2 ^ (t + 1) = 0 ∧ val (L.set p (lim L p + 2 ^ t)) = (2 * Q + 1) * 2 ^ i := by
  have e1 : (2 : Nat) ^ (i + 1) = B64 ^ p * 2 ^ (t + 1) := by rw [B64_pow, ← Nat.pow_add, hi]; rfl
  have e2 : (2 : Nat) ^ i = B64 ^ p * 2 ^ t := by rw [B64_pow, ← Nat.pow_add, hi]
  constructor
  · rw [lim_val hw, hv, e1, Nat.mul_left_comm, Nat.mul_div_cancel_left _ (Nat.pow_pos B64_pos), show B64 = 2 ^ 64 from rfl, Nat.mod_mod_of_dvd _ (Nat.pow_dvd_pow 2 (by omega))]
    exact Nat.mul_mod_left _ _
  · have hs := val_set hp (lim L p + 2 ^ t)
    rw [Nat.mul_add] at hs
    have e3 : val L = 2 * Q * 2 ^ i := by rw [hv, Nat.pow_succ, Nat.mul_comm (2 ^ i) 2, ← Nat.mul_assoc, Nat.mul_comm Q 2]
    rw [Nat.add_mul, Nat.one_mul, ← e3, e2]
    omega
theorem bit_no {L : List Nat} {Q i : Nat} (hv : val L = Q * 2 ^ (i + 1)) : val L = 2 * Q * 2 ^ i := by rw [hv, Nat.pow_succ, Nat.mul_comm (2 ^ i) 2, ← Nat.mul_assoc, Nat.mul_comm Q 2]
/-- What the try tells. -/
theorem try_yes {r2 t2 D P over short V : Nat} (hd : r2 + P * over = V) (hl : t2 + D = r2 + P * short) (h : short ≤ over) (ho : over ≤ 1) (hV : V < 2 * D) (hDP : D < P) : D ≤ V ∧ t2 = V - D := by
  rcases (by omega : (short = 0 ∧ over = 0) ∨ (short = 0 ∧ over = 1) ∨ (short = 1 ∧ over = 1)) with ⟨rfl, rfl⟩ | ⟨rfl, rfl⟩ | ⟨rfl, rfl⟩
  · simp at hd hl; omega
  · simp at hd hl; omega
  · simp at hd hl; omega
theorem try_no {r2 t2 D P over short V : Nat} (hd : r2 + P * over = V) (hl : t2 + D = r2 + P * short) (h : over < short) (hs : short ≤ 1) (ht2 : t2 < P) : V < D ∧ r2 = V := by
  obtain ⟨rfl, rfl⟩ : over = 0 ∧ short = 1 := by omega
  simp at hd hl
  omega
theorem wp_cut {P : Program} {c : Code} {Q : Exit → Act → World → Prop} {a : Act} {w : World} (Φ : Act → Act → World → Prop) (h1 : c.wp P (fun e a' w' => e = .normal ∧ Φ a a' w') a w) (h2 : ∀ a' w', Φ a a' w' → Q .normal a' w') : c.wp P Q a w :=
  Code.wp_mono (fun e a' w' h => by rw [h.1]; exact h2 _ _ h.2) h1
/-- Behind the making of the quotient and of what is left over. -/
def Reg1 (na nb : Nat) (av bv : Value) (w : World) (a a' : Act) (W : World) : Prop :=
  ∃ gq gr, a' = ((((((((a.put (some 11) av).put (some 12) (.int .i64 (na : Int))).put (some 14) bv).put (some 15) (.int .i64 (nb : Int))).put (some 13) (.slice (some ⟨gq, 0, none⟩) na na)).put (some 16) (.slice (some ⟨gr, 0, none⟩) nb nb)).put (some 4) (.slice (some ⟨gq, 0, none⟩) na na)).put (some 5) (.slice (some ⟨gr, 0, none⟩) nb nb)) ∧
    RowL W gq (List.replicate na 0) ∧ RowL W gr (List.replicate nb 0) ∧ gq ≠ gr ∧ w.heap.size ≤ gq ∧ w.heap.size ≤ gr ∧ Below w.heap.size w W

end Go.Proofs.YtoehkaagfokamaaGreatDoor

/- The law DivBack: the quotient, multiplied, and what is left over, lead home. -/
namespace Go.Proofs.YtoehkaagfokamaaGreatDoor
open Go.RowKit Go.Shelf
set_option linter.unusedVariables false
set_option linter.unusedSimpArgs false

section
variable {F : Nat} (A A2 : Option Addr) (na ca nb cb : Nat) (a b : List Nat) (w : World)
theorem div_no (hD : DivIs F) (E : Int) (he : divE a b = E) (h0 : E ≠ 0) (hra : Rd w A na a) (hrb : Rd w A2 nb b) (hna : na ≤ 1000) (hnb : nb ≤ 1000) (q1 : na ≤ ca ∧ ca ≤ 9223372036854775807) (q2 : nb ≤ cb ∧ cb ≤ 9223372036854775807) :
    Calls Tryz.prog F #[.slice A na ca, .slice A2 nb cb] w fun e w' => ∃ A c A2 c2, e = .returned (.tuple #[.slice A 0 c, .slice A2 0 c2, .int .i64 E]) ∧ Below w.heap.size w w' := by
  have h := hD A A2 na ca nb cb a b w hra hrb hna hnb q1 q2
  rw [quoL_no (by rw [he]; exact h0), remL_no (by rw [he]; exact h0), he] at h
  refine h.mono ?_
  rintro e w' ⟨A3, k3, c3, A4, k4, c4, rfl, o3, o4, hb⟩
  obtain rfl : k3 = 0 := o3.rd.2.1
  obtain rfl : k4 = 0 := o4.rd.2.1
  exact ⟨_, _, _, _, rfl, hb⟩
theorem int_ne0 {n : Nat} (h : n ≠ 0) : ((n : Int) == 0) = false := by simp; omega
end
section
variable (hD : DivIs 88) (hL : DivIs 0) (A A2 : Option Addr) (na ca nb cb : Nat) (a b : List Nat) (w : World)
include hD hL

end

end Go.Proofs.YtoehkaagfokamaaGreatDoor

/- The law DivTwice: divided twice; by a word. -/
namespace Go.Proofs.YtoehkaagfokamaaGreatDoor
open Go.RowKit Go.Shelf
set_option linter.unusedVariables false
set_option linter.unusedSimpArgs false

theorem quo_words (a b : List Nat) : Words (quoL a b) := by
  unfold quoL
  split
  · exact words_limbs _
  · exact words_nil
theorem rem_canon (a b : List Nat) : limbs (val (remL a b)) = remL a b := by
  unfold remL
  split
  · rw [val_limbs]
  · rw [val_nil, limbs_zero]
theorem val_rem_lt {a : List Nat} {x : Nat} (hx : x < B64) : val (remL a (limbs x)) < B64 := by
  unfold remL
  split
  · rw [val_limbs, val_limbs]
    by_cases h : x = 0
    · subst h
      rename_i he
      rw [limbs_zero] at he
      unfold divE at he
      split at he <;> simp at he
    · exact Nat.lt_trans (Nat.mod_lt _ (by omega)) hx
  · rw [val_nil]; exact B64_pos
theorem twice_is {a b c : List Nat} (h1 : divE a b = 0) (h2 : divE (quoL a b) c = 0) : quoL a (limbs (val b * val c)) = quoL (quoL a b) c ∧ divE a (limbs (val b * val c)) = 0 := by
  have h1' := h1
  rcases divE_cases a b with ⟨_, hma, hmb, hb⟩ | ⟨he, _⟩ | ⟨he, _⟩
  · rcases divE_cases (quoL a b) c with ⟨_, hmq, hmc, hc⟩ | ⟨he, _⟩ | ⟨he, _⟩
    · have hb0 := val_pos hmb hb
      have hc0 := val_pos hmc hc
      have hp : val b * val c ≠ 0 := Nat.ne_of_gt (Nat.mul_pos hb0 hc0)
      have e : divE a (limbs (val b * val c)) = 0 := divE_ok hma (may_limbs _) (fun h => hp (limbs_eq_nil.1 h))
      refine ⟨?_, e⟩
      rw [quoL_ok e, quoL_ok h2, quoL_ok h1, val_limbs, val_limbs, Nat.div_div_eq_div_mul]
    · rw [he] at h2; omega
    · rw [he] at h2; omega
  · rw [he] at h1; omega
  · rw [he] at h1; omega
section
variable (hD : DivIs 88) (hL : DivIs 0) (A A2 A3 : Option Addr) (na ca nb cb nc cc : Nat) (a b c : List Nat) (w : World)
theorem same_l (hra : Rd w A na a) (hrb : Rd w A2 nb b) (hna : na ≤ 100000) (hnb : nb ≤ 100000) (h : a = b) :
    Calls Tryz.prog 9 #[.slice A na ca, .slice A2 nb cb] w fun e w' => e = .returned (.bool true) ∧ Below w.heap.size w w' := by
  subst h
  have h := same_any A A2 na ca nb cb a a w hra hrb (by omega) (by omega)
  rwa [decide_eq_true rfl] at h
include hD hL

end

end Go.Proofs.YtoehkaagfokamaaGreatDoor

/- The law DivTells: quotients, however they are made, are the document's. -/
namespace Go.Proofs.YtoehkaagfokamaaGreatDoor
open Go.RowKit Go.Shelf
set_option linter.unusedVariables false
set_option linter.unusedSimpArgs false

section
variable (hD : DivIs 88) (hL : DivIs 0) (A A2 : Option Addr) (na ca nb cb : Nat) (a b : List Nat) (w : World)
theorem exact_len (hw : Words a) : (exactL a b).length ≤ a.length := by
  unfold exactL
  split
  · exact length_of_le hw (Nat.div_le_self _ _)
  · simp

end

end Go.Proofs.YtoehkaagfokamaaGreatDoor

/- The law DivProduct: a product divided by one of its numbers. -/
namespace Go.Proofs.YtoehkaagfokamaaGreatDoor
open Go.RowKit Go.Shelf
set_option linter.unusedVariables false
set_option linter.unusedSimpArgs false

section
variable (hD : DivIs 88) (hL : DivIs 0) (A A2 A3 : Option Addr) (na ca nb cb nc cc : Nat) (a b c : List Nat) (w : World)
include hD hL

end

end Go.Proofs.YtoehkaagfokamaaGreatDoor

/- div's calls, as they landed. -/
namespace Go.Proofs.YtoehkaagfokamaaGreatDoor
open Go.RowKit Go.Shelf
set_option linter.unusedVariables false
set_option linter.unusedSimpArgs false

theorem wpList_copyB {P : Program} {w : World} {ops : Array Oper} {rest : List Oper} {o : Oper} {st : Act} {Q : Exit → Act → World → Prop} (hgd : o.guard = none) (s x : Operand) (t : TypeId)
    (ho : o.op = .call { callee := .builtin .append, args := #[s, x], argTypes := #[t, t] })
    (i : TypeInfo) (ht : P.underlying t = some (.slice 31)) (hi : P.info? 31 = some i) (hz : i.zero = some (.int .u64 0)) (hsize : i.size = 1) (hby : i.bytes = 8)
    (hs : st.eval s = .slice (some ⟨w.heap.size, 0, none⟩) 0 0) (A : Option Addr) (m c : Nat) (a : List Nat) (hx : st.eval x = .slice A m c) (hA : A = none → m = 0 ∧ c = 0) (hra : Rd w A m a) (hm : m ≤ 1000)
    (h : ∀ A' c' w', Own w' w.heap.size (.slice A' m c') a → Below w.heap.size w w' → wpList P ops Q rest (st.put o.dst (.slice A' m c')) w') :
    wpList P ops Q (o :: rest) st (w.alloc (.cells #[] 31)) := by
  have hown : (w.alloc (.cells #[] 31)).ownsRow w.heap.size 31 1 (.slice (some ⟨w.heap.size, 0, none⟩) 0 0) 0 [] := World.ownsRow_made w #[] 0 (Nat.le_refl _) (Nat.zero_le _) rfl
  have hal := hra.len
  have hB1 : Below w.heap.size w (w.alloc (.cells #[] 31)) := (Below.refl _ w).alloc (Nat.le_refl _) _
  cases A with
  | none =>
    obtain ⟨rfl, rfl⟩ := hA rfl
    have ha : a = [] := List.eq_nil_of_length_eq_zero hal
    subst ha
    exact wpList_append_own_none hgd s x t ho w.heap.size 31 i 1 ht hi _ 0 [] hs hown hx (h _ _ _ ⟨hown, words_nil⟩ hB1)
  | some ad =>
    refine wpList_append_own _ hgd s x t ho w.heap.size 31 i _ 1 8 ht hi hz hsize hby (by rfl) (by omega) _ _ _ hs hown ad m c (a.map u64) hx (by simp [hal]) ?_ ?_ (by simp only [maxLen]; omega) (by omega) (by simp) ?_
    · intro j u hj
      have hjl : j < a.length := by
        have := (List.getElem?_eq_some_iff.1 hj).1
        simpa using this
      obtain ⟨b0, off, e, hlt, hc⟩ := (hra.alloc (.cells #[] 31)).cells (by omega)
      cases e
      have h := hc j (by omega)
      have hu : u = u64 (lim a j) := by
        rw [List.getElem?_map, List.getElem?_eq_getElem hjl] at hj
        simp at hj
        rw [← hj, lim_get hjl]
      rw [hu, ← h]
      congr 1
      unfold Addr.add
      split
      · next h0 => subst h0; simp
      · rfl
    · intro u hu
      obtain ⟨x, _, rfl⟩ := List.mem_map.1 hu
      rfl
    · intro v1 w1 ho1 hg1 _
      have ho2 : Own w1 w.heap.size v1 a := ⟨by rw [hal]; simpa using ho1, hra.words⟩
      obtain ⟨A1, c1, rfl⟩ := own_shape ho2
      rw [hal] at ho2 ⊢
      refine h _ _ _ ho2 (hB1.grown hg1 (by simp) (fun k e => ?_))
      simp [Value.ownBlock] at e
      omega

set_option maxRecDepth 100000 in
set_option maxHeartbeats 1000000 in
theorem clone_any (A : Option Addr) (na ca : Nat) (a : List Nat) (w : World) (hra : Rd w A na a) (hna : na ≤ 1000) :
    Calls Tryz.prog 86 #[.slice A na ca] w fun e w' => ∃ A' k c, e = .returned (.slice A' k c) ∧ Own w' w.heap.size (.slice A' k c) a ∧ Below w.heap.size w w' := by
  obtain ⟨i0, hi0, hz0, hz1, hz2⟩ := info_parts u64_info
  have q := fun (w : World) (a : Option Addr) (n c n' c' : Nat) => Lib.run_eql_slice_nil (P := Tryz.prog) w 26 31 a n c n' c' Tryz.underlying26
  cases A with
  | none =>
    obtain rfl : na = 0 := by
      rcases Nat.eq_zero_or_pos na with h | h
      · exact h
      · obtain ⟨_, _, e, _⟩ := hra.cells h
        cases e
    have ha : a = [] := List.eq_nil_of_length_eq_zero hra.len
    subst ha
    clear hra
    go_enter Tryz.func86, Tryz.ntmps86
    go_wp2
    go_ret
    exact ⟨_, _, _, rfl, own_nil _ _, Below.refl _ _⟩
  | some ad =>
    go_enter Tryz.func86, Tryz.ntmps86
    go_wp2_with (at_builtin; go_loud (refine wpList_copyB rfl _ _ 26 rfl i0 Tryz.underlying26 hi0 hz0 hz1 hz2 rfl (some ad) na ca a rfl (fun h => by cases h) hra (by omega) ?_); intro Ao co w1 hown hb1)
    go_ret
    exact ⟨_, _, _, rfl, hown, hb1⟩

set_option maxRecDepth 100000 in
set_option maxHeartbeats 1000000 in
theorem byLimbs_any (A A2 : Option Addr) (na ca nb cb : Nat) (a b : List Nat) (w : World) (hra : Rd w A na a) (hrb : Rd w A2 nb b) (hna : na ≤ 1000) (hnb : nb ≤ 1000) (hma : may a = true) (hmb : may b = true) (hb : b ≠ []) :
    Calls Tryz.prog 103 #[.slice A na ca, .slice A2 nb cb] w fun e w' => ∃ A' k c A3 k3 c3, e = .returned (.tuple #[.slice A' k c, .slice A3 k3 c3]) ∧ Own w' w.heap.size (.slice A' k c) (limbs (val a / val b)) ∧ Own w' w.heap.size (.slice A3 k3 c3) (limbs (val a % val b)) ∧ Below w.heap.size w w' := by
  have hnb0 : nb ≠ 0 := fun h => hb (List.eq_nil_of_length_eq_zero (by rw [hrb.len]; exact h))
  by_cases hlt : na < nb
  · have hv : val a < val b := by
      obtain ⟨n1, rfl⟩ : ∃ n1, nb = n1 + 1 := ⟨nb - 1, by omega⟩
      have h1 := val_lt hra.words
      rw [hra.len] at h1
      have h2 := val_take_succ b n1
      rw [val_take_all (by rw [hrb.len]; omega)] at h2
      have h3 : lim b n1 ≠ 0 := by
        have := may_last hb
        rw [hrb.len, Nat.add_sub_cancel, hmb] at this
        simpa using this.symm
      have h4 := Nat.mul_le_mul_left (B64 ^ n1) (show 1 ≤ lim b n1 by omega)
      have h5 : B64 ^ na ≤ B64 ^ n1 := Nat.pow_le_pow_right B64_pos (by omega)
      omega
    rw [Nat.div_eq_of_lt hv, Nat.mod_eq_of_lt hv, limbs_zero, limbs_val hra.words hma]
    have hd : decide ((na : Int) < (nb : Int)) = true := by simp; omega
    have hc := clone_any A na ca a (w.alloc (.cells #[.slice none 0 0] 26)) (hra.alloc _) (by omega)
    have HC := Lib.hid hc
    clear hc hra hrb
    go_enter Tryz.func103, Tryz.ntmps103
    go_wp2_with fail
    refine HC.out.mono ?_
    rintro e w1 ⟨A', k, c, rfl, ho, hb1⟩
    have h0 := (hb1.block w.heap.size (by simp)).trans (World.alloc_heap_new w _)
    have c0 : w1.cell? ⟨w.heap.size, 0, none⟩ = some (.slice none 0 0) := cells_cell h0 rfl
    have f0 : w1.frozen? ⟨w.heap.size, 0, none⟩ = false := cells_frozen h0
    have HO := Lib.hid ho
    have H0 := Lib.hid h0
    have HB := Lib.hid hb1
    clear ho h0 hb1
    go_wp2
    have b1 : Boxed (w1.setCell ⟨w.heap.size, 0, none⟩ (.slice none 0 0)) w.heap.size 26 (.slice none 0 0) := Boxed.set _ H0.out
    have c1 := b1.cell
    refine bodyPost_ret (v := .tuple #[.slice none 0 0, .slice A' k c]) (by simp [results, Tryz.results103, go_sem, c1]) rfl ?_
    refine ⟨_, _, _, _, _, _, rfl, own_nil _ _, own_mono (own_far HO.out (p := ⟨w.heap.size, 0, none⟩) (by simp) _) (show w.heap.size ≤ (w.alloc (.cells #[.slice none 0 0] 26)).heap.size by simp), ?_⟩
    exact (below_new HB.out).setCell (p := ⟨w.heap.size, 0, none⟩) (Nat.le_refl _) _
  · by_cases h1 : nb = 1
    · subst h1
      obtain ⟨x, rfl⟩ := one_limb hrb.len
      have hx0 : x ≠ 0 := by simpa [may] using hmb
      have hx : x < B64 := hrb.words.head
      have hvx : val [x] = x := by simp [val]
      rw [hvx]
      have hd : decide ((na : Int) < ((1 : Nat) : Int)) = false := by simp; omega
      obtain ⟨b1, o1, rfl, hl1, hc1⟩ := (hrb.alloc (.cells #[.slice none 0 0] 26)).cells (by omega)
      have hc := hc1 0 (by omega)
      rw [show lim [x] 0 = x from rfl, Nat.add_zero] at hc
      have hw := byWord_any A na ca x a (w.alloc (.cells #[.slice none 0 0] 26)) (hra.alloc _) (by omega) hx (by omega)
      have HW := Lib.hid hw
      have hrl : val a % x < B64 := Nat.lt_trans (Nat.mod_lt _ (by omega)) hx
      obtain ⟨q, hq⟩ : ∃ q, val a / x = q := ⟨_, rfl⟩
      obtain ⟨r, hr⟩ : ∃ r, val a % x = r := ⟨_, rfl⟩
      rw [hr] at hrl
      rw [hq, hr] at hw ⊢
      have HW := Lib.hid hw
      clear hw hra hrb hc1 hq hr hmb hma hb hnb0 hnb hvx
      go_enter Tryz.func103, Tryz.ntmps103
      go_wp2_with fail
      refine HW.out.mono ?_
      rintro e w1 ⟨A', k, c, rfl, ho, hb1⟩
      go_wp2_with fail
      refine (of_any r w1 hrl).mono ?_
      rintro e w2 ⟨A3, k3, c3, rfl, ho3, hb2⟩
      have h0 := (hb2.block w.heap.size (by have := hb1.size; simp at this; omega)).trans ((hb1.block w.heap.size (by simp)).trans (World.alloc_heap_new w _))
      have c0 : w2.cell? ⟨w.heap.size, 0, none⟩ = some (.slice none 0 0) := cells_cell h0 rfl
      have f0 : w2.frozen? ⟨w.heap.size, 0, none⟩ = false := cells_frozen h0
      have HO := Lib.hid (ho.below hb2)
      have HO3 := Lib.hid ho3
      have H0 := Lib.hid h0
      have HB := Lib.hid (below_then (below_new hb1) (show Below w1.heap.size w1 w2 from hb2))
      have hs1 := hb1.size
      simp only [World.size_alloc] at hs1
      have HS1 := Lib.hid hs1
      clear ho h0 hb1 ho3 hb2 hs1
      go_wp2
      have bx : Boxed (w2.setCell ⟨w.heap.size, 0, none⟩ (.slice A' k c)) w.heap.size 26 (.slice A' k c) := Boxed.set _ H0.out
      have c1 := bx.cell
      have hs1 := HS1.out
      refine bodyPost_ret (v := .tuple #[.slice A' k c, .slice A3 k3 c3]) (by simp [results, Tryz.results103, go_sem, c1]) rfl ?_
      refine ⟨_, _, _, _, _, _, rfl, own_mono (own_far HO.out (p := ⟨w.heap.size, 0, none⟩) (by simp) _) (show w.heap.size ≤ (w.alloc (.cells #[.slice none 0 0] 26)).heap.size by simp), own_mono (own_far HO3.out (p := ⟨w.heap.size, 0, none⟩) (by show w.heap.size < w1.heap.size; omega) _) (by omega), ?_⟩
      exact HB.out.setCell (p := ⟨w.heap.size, 0, none⟩) (Nat.le_refl _) _
    · exact limbs_main A A2 na ca nb cb a b w hra hrb (by omega) (by omega) (by omega) hma hmb
/-- A way of making a quotient of two numbers that may be. -/
def WayIs (F : Nat) : Prop := ∀ (A A2 : Option Addr) (na ca nb cb : Nat) (a b : List Nat) (w : World), Rd w A na a → Rd w A2 nb b → na ≤ 1000 → nb ≤ 1000 → may a = true → may b = true → b ≠ [] →
    Calls Tryz.prog F #[.slice A na ca, .slice A2 nb cb] w fun e w' => ∃ A' k c A3 k3 c3, e = .returned (.tuple #[.slice A' k c, .slice A3 k3 c3]) ∧ Own w' w.heap.size (.slice A' k c) (limbs (val a / val b)) ∧ Own w' w.heap.size (.slice A3 k3 c3) (limbs (val a % val b)) ∧ Below w.heap.size w w'

theorem bad_one {a : List Nat} (h : may a = true) : bad [a] = 0 := by unfold bad; rw [if_pos (by simp [h])]
theorem bad_one' {a : List Nat} (h : may a = false) : bad [a] = 8 := by unfold bad; rw [if_neg (by simp [h])]

set_option maxRecDepth 100000 in
set_option maxHeartbeats 2000000 in
/-- div.divided, over a way. -/
theorem divided_any (F : Nat) (hF : WayIs F) (hE : ∀ args w, (callFunc F args).run Tryz.prog w = .ok (.enter F args) w) (A A2 : Option Addr) (na ca nb cb : Nat) (a b : List Nat) (w : World) (hra : Rd w A na a) (hrb : Rd w A2 nb b) (hna : na ≤ 1000) (hnb : nb ≤ 1000) :
    Calls Tryz.prog 102 #[.slice A na ca, .slice A2 nb cb, .func (.func F) #[] #[]] w (Answers2 w (quoL a b) (remL a b) (divE a b)) := by
  have hlb := hrb.len
  cases hma : may a with
  | false =>
    have hE8 : divE a b = 8 := by unfold divE; rw [if_neg (by simp [both, hma])]
    rw [quoL_no (by rw [hE8]; omega), remL_no (by rw [hE8]; omega), hE8]
    have HA := Lib.hid (bad_one' hma)
    clear hma hE8
    go_enter Tryz.func102, Tryz.ntmps102
    go_wp2_with fail
    refine (check_any A na ca a w hra (by omega)).mono ?_
    rw [HA.out]
    rintro e w1 ⟨rfl, hb1⟩
    go_wp2
    go_ret3
    exact answers2_nil hb1
  | true =>
    cases hmb : may b with
    | false =>
      have hE8 : divE a b = 8 := by unfold divE; rw [if_neg (by simp [both, hmb])]
      rw [quoL_no (by rw [hE8]; omega), remL_no (by rw [hE8]; omega), hE8]
      have HA := Lib.hid (bad_one hma)
      have HB := Lib.hid (bad_one' hmb)
      clear hma hmb hE8
      go_enter Tryz.func102, Tryz.ntmps102
      go_wp2_with fail
      refine (check_any A na ca a w hra (by omega)).mono ?_
      rw [HA.out]
      rintro e w1 ⟨rfl, hb1⟩
      go_wp2_with fail
      refine (check_any A2 nb cb b w1 (hrb.below hb1) (by omega)).mono ?_
      rw [HB.out]
      rintro e w2 ⟨rfl, hb2⟩
      have hb3 := below_then hb1 hb2
      go_wp2
      go_ret3
      exact answers2_nil hb3
    | true =>
      have HA := Lib.hid (bad_one hma)
      have HB := Lib.hid (bad_one hmb)
      by_cases hb : b = []
      · have hE3 : divE a b = 30 := by rw [hb]; exact divE_zero hma
        rw [quoL_no (by rw [hE3]; omega), remL_no (by rw [hE3]; omega), hE3]
        obtain rfl : nb = 0 := by rw [hb] at hlb; simpa using hlb.symm
        clear hma hmb hE3 hb hlb
        go_enter Tryz.func102, Tryz.ntmps102
        go_wp2_with fail
        refine (check_any A na ca a w hra (by omega)).mono ?_
        rw [HA.out]
        rintro e w1 ⟨rfl, hb1⟩
        go_wp2_with fail
        refine (check_any A2 0 cb b w1 (hrb.below hb1) (by omega)).mono ?_
        rw [HB.out]
        rintro e w2 ⟨rfl, hb2⟩
        have hb3 := below_then hb1 hb2
        go_wp2
        go_ret3
        exact answers2_nil hb3
      · have hE0 := divE_ok hma hmb hb
        rw [quoL_ok hE0, remL_ok hE0, hE0]
        have hn0 : ((nb : Int) == 0) = false := by
          have : nb ≠ 0 := fun h => hb (List.eq_nil_of_length_eq_zero (by omega))
          simp; omega
        have HMA := Lib.hid hma
        have HMB := Lib.hid hmb
        have HNB := Lib.hid hb
        clear hma hmb hE0 hb hlb
        go_enter Tryz.func102, Tryz.ntmps102
        go_wp2_with fail
        refine (check_any A na ca a w hra (by omega)).mono ?_
        rw [HA.out]
        rintro e w1 ⟨rfl, hb1⟩
        go_wp2_with fail
        refine (check_any A2 nb cb b w1 (hrb.below hb1) (by omega)).mono ?_
        rw [HB.out]
        rintro e w2 ⟨rfl, hb2⟩
        have hb3 := below_then hb1 hb2
        go_wp2_with fail
        refine (hF A A2 na ca nb cb a b w2 (hra.below hb3) (hrb.below hb3) hna hnb HMA.out HMB.out HNB.out).mono ?_
        rintro e w3 ⟨A3, k3, c3, A4, k4, c4, rfl, o3, o4, hb4⟩
        have hb5 := below_then hb3 hb4
        have s3 := hb3.size
        have o3' := own_mono o3 s3
        have o4' := own_mono o4 s3
        clear o3 o4
        go_wp2
        go_ret3
        exact ⟨_, _, _, _, _, _, rfl, o3', o4', hb5⟩

set_option maxRecDepth 100000 in
set_option maxHeartbeats 1000000 in
theorem div_is : DivIs 88 := fun A A2 na ca nb cb a b w hra hrb hna hnb _ _ => by
  have h := divided_any 103 byLimbs_any (enters_of Tryz.func103 (by kernel_rfl) rfl) A A2 na ca nb cb a b w hra hrb hna hnb
  have H := Lib.hid h
  clear h hra hrb
  go_enter Tryz.func88, Tryz.ntmps88
  go_wp2_with fail
  refine H.out.mono ?_
  rintro e w1 ⟨A3, k3, c3, A4, k4, c4, rfl, o3, o4, hb1⟩
  go_wp2
  go_ret3
  exact ⟨_, _, _, _, _, _, rfl, o3, o4, hb1⟩
set_option maxRecDepth 100000 in
set_option maxHeartbeats 2000000 in
theorem exact_is : ExactIs 60 := fun A A2 na ca nb cb a b w hra hrb hna hnb hca hcb => by
  have HD := Lib.hid (div_is A A2 na ca nb cb a b w hra hrb hna hnb hca hcb)
  clear hra hrb
  by_cases he : divE a b = 0
  · by_cases hz : val a % val b = 0
    · have e2 : exactE a b = 0 := by simp [exactE, he, hz]
      have e3 : exactL a b = quoL a b := by simp [exactL, e2, quoL_ok he]
      have e4 : (remL a b).length = 0 := by rw [remL_ok he, hz, limbs_zero]; rfl
      rw [e2, e3]
      have HE := Lib.hid he
      have H4 := Lib.hid e4
      clear he hz e2 e3 e4
      go_enter Tryz.func60, Tryz.ntmps60
      go_wp2_with fail
      refine HD.out.mono ?_
      rw [HE.out]
      rintro e w1 ⟨A3, k3, c3, A4, k4, c4, rfl, o3, o4, hb1⟩
      obtain rfl : k4 = 0 := by have h1 := o4.rd.2.1; have h2 := H4.out; omega
      clear o4
      go_wp2
      go_ret2
      exact ⟨_, _, _, rfl, o3, hb1⟩
    · have e2 : exactE a b = 6 := by simp [exactE, he, hz]
      have e3 : exactL a b = [] := by simp [exactL, e2]
      have e4 : 0 < (remL a b).length := by
        rw [remL_ok he]
        exact Nat.pos_of_ne_zero (fun h => hz (limbs_eq_nil.1 (List.eq_nil_of_length_eq_zero h)))
      rw [e2, e3]
      have HE := Lib.hid he
      have H4 := Lib.hid e4
      clear he hz e2 e3 e4
      go_enter Tryz.func60, Tryz.ntmps60
      go_wp2_with fail
      refine HD.out.mono ?_
      rw [HE.out]
      rintro e w1 ⟨A3, k3, c3, A4, k4, c4, rfl, o3, o4, hb1⟩
      have hk4 : (0 : Int) < (k4 : Int) := by have h1 := o4.rd.2.1; have h2 := H4.out; omega
      clear o4 o3
      go_wp2
      go_ret2
      exact answers_nil hb1
  · have e2 : exactE a b = divE a b := by simp [exactE, he]
    have e3 : exactL a b = [] := by simp [exactL, e2, he]
    have hne : (divE a b != 0) = true := by simpa using he
    rw [e2, e3]
    clear e2 e3 he
    generalize divE a b = E at *
    go_enter Tryz.func60, Tryz.ntmps60
    go_wp2_with fail
    refine HD.out.mono ?_
    rintro e w1 ⟨A3, k3, c3, A4, k4, c4, rfl, o3, o4, hb1⟩
    clear o4 o3
    go_wp2
    go_ret2
    exact answers_nil hb1
set_option maxRecDepth 100000 in
set_option maxHeartbeats 2000000 in
theorem word_is : WordIs 33 := fun A na ca a x w hra hx hna hca => by
  cases hma : may a with
  | false =>
    have hE8 : divE a (limbs x) = 8 := by unfold divE; rw [if_neg (by simp [both, hma])]
    rw [quoL_no (by rw [hE8]; omega), remL_no (by rw [hE8]; omega), hE8, val_nil]
    have HA := Lib.hid (bad_one' hma)
    clear hma hE8
    go_enter Tryz.func33, Tryz.ntmps33
    go_wp2_with fail
    refine (check_any A na ca a w hra (by omega)).mono ?_
    rw [HA.out]
    rintro e w1 ⟨rfl, hb1⟩
    go_wp2
    go_ret3
    exact ⟨_, _, _, rfl, own_nil _ _, hb1⟩
  | true =>
    have HA := Lib.hid (bad_one hma)
    by_cases h0 : x = 0
    · subst h0
      rw [limbs_zero]
      have hE3 : divE a [] = 30 := divE_zero hma
      rw [quoL_no (by rw [hE3]; omega), remL_no (by rw [hE3]; omega), hE3, val_nil]
      clear hma hE3
      go_enter Tryz.func33, Tryz.ntmps33
      go_wp2_with fail
      refine (check_any A na ca a w hra (by omega)).mono ?_
      rw [HA.out]
      rintro e w1 ⟨rfl, hb1⟩
      go_wp2
      go_ret3
      exact ⟨_, _, _, rfl, own_nil _ _, hb1⟩
    · have hne : limbs x ≠ [] := fun h => h0 (limbs_eq_nil.1 h)
      have hE0 := divE_ok hma (may_limbs x) hne
      rw [quoL_ok hE0, remL_ok hE0, hE0, val_limbs, val_limbs]
      have hx0 : ((x : Int) == 0) = false := by simp; omega
      clear hma hE0 hne
      go_enter Tryz.func33, Tryz.ntmps33
      go_wp2_with fail
      refine (check_any A na ca a w hra (by omega)).mono ?_
      rw [HA.out]
      rintro e w1 ⟨rfl, hb1⟩
      go_wp2_with fail
      refine (byWord_any A na ca x a w1 (hra.below hb1) (by omega) hx (by omega)).mono ?_
      rintro e w2 ⟨A', k, c, rfl, ho, hb2⟩
      have hb3 := below_then hb1 hb2
      have ho' := own_mono ho hb1.size
      clear ho
      go_wp2
      go_ret3
      exact ⟨_, _, _, rfl, ho', hb3⟩
end Go.Proofs.YtoehkaagfokamaaGreatDoor

/- gcd's less, lower, commonWord, mayBe. -/
namespace Go.Proofs.YtoehkaagfokamaaGreatDoor
open Go.RowKit Go.Shelf
set_option linter.unusedVariables false
set_option linter.unusedSimpArgs false

set_option maxRecDepth 100000 in
set_option maxHeartbeats 1000000 in
/-- gcd.mayBe: OK, if all of these numbers may be. -/
theorem mayBeG_any (b off m c : Nat) (ls : List (List Nat)) (w : World) (h : Rows2 w b off ls) (hm : ls.length = m) (hm1 : m ≤ 1000) (hl : ∀ l ∈ ls, l.length ≤ 4294967296) :
    Calls Tryz.prog 15 #[.slice (some ⟨b, off, none⟩) m c] w fun e w' => e = .returned (.int .i64 (bad ls)) ∧ Below w.heap.size w w' := by
  go_enter Tryz.func15, Tryz.ntmps15
  go_wp2
  go_loopw [8] (fun i wr => ∃ k : Nat, k ≤ m ∧ i = .int .i64 (k : Int) ∧ (ls.take k).all may = true ∧ Below w.heap.size w wr) (fun i _ => m - (intOf i).toNat)
  case atStart => exact ⟨0, by omega, rfl, by simp, Below.refl _ _⟩
  case round =>
    obtain ⟨k, hk, rfl, hs, hB⟩ := hrel
    by_cases hlt : k < m
    · obtain ⟨A, n, c', hcell, hr, hn⟩ := h k ls[k] (List.getElem?_eq_getElem (by omega))
      have hcw : wr.cell? ⟨b, off + k, none⟩ = some (.slice A n c') := (hB.cell (p := ⟨b, off + k, none⟩) (lt_of_cell? hcell)).trans hcell
      have hn2 : n ≤ 4294967296 := by rw [← hr.len]; exact hl _ (List.getElem_mem _)
      have hr2 := hr.below hB
      have hnext : (ls.take (k + 1)).all may = ((ls.take k).all may && may ls[k]) := by
        rw [List.take_succ_eq_append_getElem (by omega), List.all_append]; simp
      have hbad : may ls[k] = false → bad ls = 8 := by
        intro hf
        unfold bad
        rw [if_neg]
        intro ha
        have := List.all_eq_true.1 ha ls[k] (List.getElem_mem _)
        rw [hf] at this; cases this
      cases hmk : may ls[k] with
      | true =>
        have HS : Hid ((ls.take (k + 1)).all may = true) := by rw [hnext, hs, hmk]; exact rfl
        have HB0 : Hid (bad [ls[k]] = 0) := bad_zero (by simp [hmk])
        clear hnext hbad hr h hs hmk hl hcell
        go_wp2_with (go_at_call 32; refine (check_any A n c' ls[k] wr hr2 hn2).mono ?_; rw [HB0.out]; rintro e w3 ⟨rfl, hb3⟩)
        go_roundw
        case rel => exact ⟨k + 1, by omega, by go_num, HS.out, below_then hB hb3⟩
        case measure => simp [intOf]; omega
      | false =>
        have HB : Hid (bad ls = 8) := hbad hmk
        have HB0 : Hid (bad [ls[k]] = 8) := bad_eight (by simp [hmk])
        clear hnext hbad hr h hs hmk hl hcell
        go_wp2_with (go_at_call 32; refine (check_any A n c' ls[k] wr hr2 hn2).mono ?_; rw [HB0.out]; rintro e w3 ⟨rfl, hb3⟩)
        go_ret
        exact ⟨by rw [HB.out]; rfl, below_then hB hb3⟩
    · have hk2 : k = m := by omega
      have HB : Hid (bad ls = 0) := by
        show bad ls = 0
        unfold bad
        rw [List.take_of_length_le (by omega)] at hs
        rw [if_pos hs]
      clear h hs hm hl
      go_wp2
      go_ret
      exact ⟨by rw [HB.out]; rfl, hB⟩

set_option maxRecDepth 100000 in
set_option maxHeartbeats 1000000 in
theorem wordG_any (x y : Nat) (hx : x < B64) (hy : y < B64) (w : World) :
    Calls Tryz.prog 87 #[wv x, wv y] w fun e w' => e = .returned (wv (Nat.gcd x y)) ∧ Below w.heap.size w w' := by
  go_enter Tryz.func87, Tryz.ntmps87
  go_wp2
  go_loopw [0, 1] (fun a b wr => ∃ p q : Nat, a = wv p ∧ b = wv q ∧ p < B64 ∧ q < B64 ∧ Nat.gcd p q = Nat.gcd x y ∧ Below w.heap.size w wr) (fun _ b _ => (intOf b).toNat)
  case atStart => exact ⟨x, y, rfl, rfl, hx, hy, rfl, Below.refl _ _⟩
  case round =>
    obtain ⟨p, q, rfl, rfl, hp, hq, hg, hB⟩ := hrel
    by_cases h0 : q = 0
    · subst h0
      rw [Nat.gcd_zero_right] at hg
      subst hg
      clear hp hq hx hy
      go_wp2
      go_ret
      exact ⟨rfl, hB⟩
    · obtain ⟨r, hr⟩ : ∃ r, p % q = r := ⟨_, rfl⟩
      have hrq : r < q := by rw [← hr]; exact Nat.mod_lt _ (by omega)
      have hgq : Nat.gcd q r = Nat.gcd x y := by rw [← hg, ← hr, Nat.gcd_comm q, ← Nat.gcd_rec, Nat.gcd_comm]
      obtain ⟨f1, f2, f3, f4, f5, f6, _, _⟩ := quo_word (x := p) (y := q) hp rfl hr
      have hq0 : (0 : Int) < (q : Int) := by omega
      have hq5 : 0 < q := by omega
      have hq6 : ¬ q = 0 := h0
      have hq1 : ¬ ((q : Int) = 0) := by omega
      have hq2 : ((q : Int) == 0) = false := by simp; omega
      have HG := Lib.hid hgq
      clear hg hgq hr hx hy f1 f2 f5
      go_wp2
      first
        | go_quiet (fail)
        | go_region
      go_wp2
      go_roundw
      case rel => exact ⟨q, r, rfl, rfl, hq, by omega, HG.out, by first | exact below_drewN hB _ | exact hB.drew⟩
      case measure => simp [intOf]; omega


/-- A number told by its highest bits: what is left is less than their place. -/
theorem top_div {l : List Nat} {k s : Nat} (hw : Words l) (hl : l.length ≤ k + 2) (hs : s ≤ 63) : ∃ r, r < B64 ^ k * 2 ^ (64 - s) ∧ val l = topOf l k s * (B64 ^ k * 2 ^ (64 - s)) + r := by
  have h1 := val_take_succ l (k + 1)
  have h2 := val_take_succ l k
  rw [val_take_all (l := l) (k := k + 1 + 1) (by omega)] at h1
  have h3 := val_lt (hw.take k)
  have h4 : B64 ^ (l.take k).length ≤ B64 ^ k := Nat.pow_le_pow_right B64_pos (by rw [List.length_take]; omega)
  have hm := Nat.div_add_mod (lim l k) (2 ^ (64 - s))
  have hr := Nat.mod_lt (lim l k) (Nat.two_pow_pos (64 - s))
  have hB := B64_split (r := s) (by omega)
  unfold topOf
  obtain ⟨x, hx⟩ : ∃ x, lim l (k + 1) = x := ⟨_, rfl⟩
  obtain ⟨y, hy⟩ : ∃ y, lim l k / 2 ^ (64 - s) = y := ⟨_, rfl⟩
  obtain ⟨z, hz⟩ : ∃ z, lim l k % 2 ^ (64 - s) = z := ⟨_, rfl⟩
  rw [hy, hz] at hm
  rw [hz] at hr
  rw [hx] at h1
  rw [hx, hy]
  rw [← hm] at h2
  generalize 2 ^ (64 - s) = P at *
  generalize 2 ^ s = R at *
  refine ⟨val (l.take k) + B64 ^ k * z, ?_, ?_⟩
  · have := Nat.mul_le_mul_left (B64 ^ k) (show z + 1 ≤ P from hr)
    rw [Nat.mul_add, Nat.mul_one] at this
    omega
  · rw [h1, h2, Nat.pow_succ, Nat.add_mul, Nat.mul_add (B64 ^ k) (P * y) z]
    generalize B64 ^ k = Q
    have e1 : Q * B64 * x = x * R * (Q * P) := by
      rw [hB, Nat.mul_comm (Q * (P * R)) x, Nat.mul_comm P R, ← Nat.mul_assoc Q R P, Nat.mul_comm Q R, Nat.mul_assoc R, Nat.mul_assoc x R]
    have e2 : Q * (P * y) = y * (Q * P) := by rw [← Nat.mul_assoc, Nat.mul_comm]
    rw [e1, e2]
    omega

section
variable (A A2 : Option Addr) (na ca nb cb v u : Nat) (w : World)
set_option maxRecDepth 100000 in
set_option maxHeartbeats 1000000 in
/-- gcd.less. -/
theorem lessG_nm (n m : Nat) (hva : Nm w A na ca v) (hub : Nm w A2 nb cb u) (hna : na ≤ 1000) (hnb : nb ≤ 1000) (hn : n < B64) (hm : m < B64) (hle : m * u ≤ n * v) :
    Calls Tryz.prog 101 #[.slice A na ca, wv n, .slice A2 nb cb, wv m] w fun e w' => ∃ A' k c, e = .returned (.slice A' k c) ∧ Own w' w.heap.size (.slice A' k c) (limbs (n * v - m * u)) ∧ Below w.heap.size w w' := by
  have l1 : (limbs n).length ≤ 1 := limbs_length_le (by rw [Nat.pow_one]; exact hn)
  have l2 : (limbs m).length ≤ 1 := limbs_length_le (by rw [Nat.pow_one]; exact hm)
  have HN := Lib.hid hn
  have HM := Lib.hid hm
  have HLE := Lib.hid hle
  have L1 := Lib.hid l1
  have L2 := Lib.hid l2
  clear hn hm hle l1 l2
  go_enter Tryz.func101, Tryz.ntmps101
  go_wp2_with fail
  refine (of_any n _ HN.out).mono ?_
  rintro e w1 ⟨A3, k3, c3, rfl, o3, hb1⟩
  have lk3 : k3 ≤ 1 := by have h1 := o3.rd.2.1; have h2 := L1.out; omega
  go_wp2_with fail
  refine (mul_nm A3 A k3 c3 na ca n v w1 o3.nm (hva.below hb1) (by omega) (by omega)).mono ?_
  rintro e w2 ⟨A4, k4, c4, rfl, o4, hb2⟩
  have lk4 : k4 ≤ k3 + na := by have h1 := o4.rd.2.1; have h2 := mul_len o3.nm (hva.below hb1); omega
  replace hb2 := below_then hb1 hb2
  replace o4 := own_mono o4 hb1.size
  clear hb1 o3
  go_wp2_with fail
  refine (of_any m _ HM.out).mono ?_
  rintro e w3 ⟨A5, k5, c5, rfl, o5, hb3⟩
  have lk5 : k5 ≤ 1 := by have h1 := o5.rd.2.1; have h2 := L2.out; omega
  replace o4 := o4.below hb3
  replace hb3 := below_then hb2 hb3
  clear hb2
  go_wp2_with fail
  refine (mul_nm A5 A2 k5 c5 nb cb m u w3 o5.nm (hub.below hb3) (by omega) (by omega)).mono ?_
  rintro e w4 ⟨A6, k6, c6, rfl, o6, hb4⟩
  have lk6 : k6 ≤ k5 + nb := by have h1 := o6.rd.2.1; have h2 := mul_len o5.nm (hub.below hb3); omega
  replace o4 := o4.below hb4
  replace hb4 := below_then hb3 hb4
  clear hb3 o5
  go_wp2_with fail
  refine (sub_ok A4 A6 k4 c4 k6 c6 (limbs (n * v)) (limbs (m * u)) w4 o4.rd.1 o6.rd.1 (by omega) (by omega) (by simp [may_limbs]) (by rw [val_limbs, val_limbs]; exact HLE.out)).mono ?_
  rw [val_limbs, val_limbs]
  rintro e w5 ⟨A7, k7, c7, rfl, o7, hb5⟩
  replace o7 := own_mono o7 hb4.size
  replace hb5 := below_then hb4 hb5
  clear hb4 o4 o6
  go_wp2
  go_ret
  exact ⟨_, _, _, rfl, o7, hb5⟩
end
end Go.Proofs.YtoehkaagfokamaaGreatDoor
