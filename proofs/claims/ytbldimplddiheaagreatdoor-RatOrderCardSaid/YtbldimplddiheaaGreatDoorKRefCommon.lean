import Derived.Test.YtbldimplddiheaaGreatDoorKRefDiv
import Derived.Test.YtbldimplddiheaaGreatDoorKTimes
import Derived.Test.YtbldimplddiheaaGreatDoorKMSpec
/- DivSpec RefGcd RefCommon. -/
/- What div's calls and the document answer: quotients, what is left over, errors. -/
namespace Go.Proofs.YtbldimplddiheaaGreatDoor
open Go.RowKit Go.Shelf
set_option linter.unusedVariables false
set_option linter.unusedSimpArgs false

def divE (a b : List Nat) : Int := if both a b = true then (if b = [] then 30 else 0) else 8
def quoL (a b : List Nat) : List Nat := if divE a b = 0 then limbs (val a / val b) else []
def remL (a b : List Nat) : List Nat := if divE a b = 0 then limbs (val a % val b) else []
def exactE (a b : List Nat) : Int := if divE a b = 0 then (if val a % val b = 0 then 0 else 6) else divE a b
def exactL (a b : List Nat) : List Nat := if exactE a b = 0 then limbs (val a / val b) else []

/-- A call has answered the numbers Q and R, each of its own, and the error's number E. -/
def Answers2 (w : World) (Q R : List Nat) (E : Int) (e : Ending) (w' : World) : Prop :=
  ∃ A k c A2 k2 c2, e = .returned (.tuple #[.slice A k c, .slice A2 k2 c2, .int .i64 E]) ∧ Own w' w.heap.size (.slice A k c) Q ∧ Own w' w.heap.size (.slice A2 k2 c2) R ∧ Below w.heap.size w w'
theorem answers2_nil {w w' : World} {E : Int} (h : Below w.heap.size w w') : Answers2 w [] [] E (.returned (.tuple #[.slice none 0 0, .slice none 0 0, .int .i64 E])) w' :=
  ⟨none, 0, 0, none, 0, 0, rfl, own_nil _ _, own_nil _ _, h⟩

/-- A call that is Div, or Long. -/
def DivIs (F : Nat) : Prop := ∀ (A A2 : Option Addr) (na ca nb cb : Nat) (a b : List Nat) (w : World), Rd w A na a → Rd w A2 nb b → na ≤ 1000 → nb ≤ 1000 → (na ≤ ca ∧ ca ≤ 9223372036854775807) → (nb ≤ cb ∧ cb ≤ 9223372036854775807) →
  Calls Tryz.prog F #[.slice A na ca, .slice A2 nb cb] w (Answers2 w (quoL a b) (remL a b) (divE a b))
/-- A call that is Word. -/
def WordIs (F : Nat) : Prop := ∀ (A : Option Addr) (na ca : Nat) (a : List Nat) (x : Nat) (w : World), Rd w A na a → x < B64 → na ≤ 1000 → (na ≤ ca ∧ ca ≤ 9223372036854775807) →
  Calls Tryz.prog F #[.slice A na ca, .int .u64 (x : Int)] w fun e w' => ∃ A' k c, e = .returned (.tuple #[.slice A' k c, .int .u64 ((val (remL a (limbs x)) : Nat) : Int), .int .i64 (divE a (limbs x))]) ∧ Own w' w.heap.size (.slice A' k c) (quoL a (limbs x)) ∧ Below w.heap.size w w'
/-- A call that is Exact. -/
def ExactIs (F : Nat) : Prop := ∀ (A A2 : Option Addr) (na ca nb cb : Nat) (a b : List Nat) (w : World), Rd w A na a → Rd w A2 nb b → na ≤ 1000 → nb ≤ 1000 → (na ≤ ca ∧ ca ≤ 9223372036854775807) → (nb ≤ cb ∧ cb ≤ 9223372036854775807) →
  Calls Tryz.prog F #[.slice A na ca, .slice A2 nb cb] w (Answers w (exactL a b) (exactE a b))

section
variable {a b : List Nat}
theorem divE_ok (ha : may a = true) (hb : may b = true) (h : b ≠ []) : divE a b = 0 := by simp [divE, both, ha, hb, h]
theorem divE_zero (ha : may a = true) : divE a [] = 30 := by simp [divE, both, ha, show may [] = true from rfl]
theorem divE_bad (h : both a b = false) : divE a b = 8 := by simp [divE, h]
theorem divE_cases (a b : List Nat) : (divE a b = 0 ∧ may a = true ∧ may b = true ∧ b ≠ []) ∨ (divE a b = 30 ∧ may a = true ∧ b = []) ∨ (divE a b = 8 ∧ both a b = false) := by
  unfold divE
  cases h : both a b with
  | false => simp
  | true =>
    have hm : may a = true ∧ may b = true := by simpa [both] using h
    by_cases hb : b = []
    · subst hb; simp [hm.1]
    · simp [hb, hm.1, hm.2]
theorem quoL_ok (h : divE a b = 0) : quoL a b = limbs (val a / val b) := by simp [quoL, h]
theorem remL_ok (h : divE a b = 0) : remL a b = limbs (val a % val b) := by simp [remL, h]
theorem quoL_no (h : divE a b ≠ 0) : quoL a b = [] := by simp [quoL, h]
theorem remL_no (h : divE a b ≠ 0) : remL a b = [] := by simp [remL, h]
theorem quo_len (hw : Words a) : (quoL a b).length ≤ a.length := by
  unfold quoL
  split
  · exact length_of_le hw (Nat.div_le_self _ _)
  · simp
theorem rem_len (hw : Words a) : (remL a b).length ≤ a.length := by
  unfold remL
  split
  · exact length_of_le hw (Nat.mod_le _ _)
  · simp
end

theorem one_limb {a : List Nat} (h : a.length = 1) : ∃ x, a = [x] := by
  match a, h with
  | [x], _ => exact ⟨x, rfl⟩
theorem int_ne1 {n : Nat} (h : n ≠ 1) : ((n : Int) == 1) = false := by simp; omega

section
variable (A A2 : Option Addr) (na ca nb cb : Nat) (a b : List Nat) (w : World)
/-- The document's Over. -/
theorem over_any (hra : Rd w A na a) (hrb : Rd w A2 nb b) (hna : na ≤ 900) (hnb : nb ≤ 900) (hm : may b = true) (hb : b ≠ []) :
    Calls Tryz.prog 93 #[.slice A na ca, .slice A2 nb cb] w fun e w' => ∃ A' k c A3 k3 c3, e = .returned (.tuple #[.slice A' k c, .slice A3 k3 c3]) ∧ Own w' w.heap.size (.slice A' k c) (limbs (val a / val b)) ∧ Own w' w.heap.size (.slice A3 k3 c3) (limbs (val a % val b)) ∧ Below w.heap.size w w' := by
  by_cases h : na = 1 ∧ nb = 1
  · obtain ⟨rfl, rfl⟩ := h
    obtain ⟨x, rfl⟩ := one_limb hra.len
    obtain ⟨y, rfl⟩ := one_limb hrb.len
    have hy : y ≠ 0 := by simpa [may] using hm
    have e1 : val [x] = x := by simp [val]
    have e2 : val [y] = y := by simp [val]
    rw [e1, e2]
    exact over_word A A2 ca cb w x y hra hrb hy
  · have hb0 : 0 < val b := val_pos hm hb
    rw [← limbs_val hrb.words hm] at hrb
    refine over_bits A A2 na ca nb cb a (val b) w hra hrb hna hnb hb0 ?_
    by_cases h1 : na = 1
    · right
      exact ⟨by rw [h1]; rfl, int_ne1 (fun h2 => h ⟨h1, h2⟩)⟩
    · left
      exact int_ne1 h1

end
end Go.Proofs.YtbldimplddiheaaGreatDoor

/- The document's greatest common divisor and least common multiple: plain numbers, and what its parts answer. -/
namespace Go.Proofs.YtbldimplddiheaaGreatDoor
open Go.RowKit Go.Shelf
set_option linter.unusedVariables false
set_option linter.unusedSimpArgs false

theorem gcd_odd {b : Nat} (hb : b % 2 = 1) (a : Nat) : Nat.gcd (2 * a) b = Nat.gcd a b :=
  Nat.Coprime.gcd_mul_left_cancel a (by show Nat.gcd 2 b = 1; rw [Nat.gcd_rec, hb]; exact Nat.gcd_one_left 2)
theorem gcd_half_left {a b : Nat} (ha : a % 2 = 0) (hb : b % 2 = 1) : Nat.gcd (a / 2) b = Nat.gcd a b := by
  have h := gcd_odd hb (a / 2)
  rw [show 2 * (a / 2) = a by omega] at h
  exact h.symm
theorem gcd_half_right {a b : Nat} (ha : a % 2 = 1) (hb : b % 2 = 0) : Nat.gcd a (b / 2) = Nat.gcd a b := by
  rw [Nat.gcd_comm, gcd_half_left hb ha, Nat.gcd_comm]
theorem gcd_half_both {a b : Nat} (ha : a % 2 = 0) (hb : b % 2 = 0) : 2 * Nat.gcd (a / 2) (b / 2) = Nat.gcd a b := by
  rw [← Nat.gcd_mul_left, show 2 * (a / 2) = a by omega, show 2 * (b / 2) = b by omega]
theorem gcd_rest_left {a b : Nat} (h : b ≤ a) : Nat.gcd (a - b) b = Nat.gcd a b := Nat.gcd_sub_self_left h
theorem gcd_rest_right {a b : Nat} (h : a ≤ b) : Nat.gcd a (b - a) = Nat.gcd a b := by rw [Nat.gcd_comm, gcd_rest_left h, Nat.gcd_comm]
theorem int_eq0 {n : Nat} (h : n ≠ 0) : ((n : Int) == 0) = false := by simp; omega
theorem nbit_low (v : Nat) : nbit v 0 = v % 2 := by simp [nbit]

/-! ### The number that a slice is, as a function: what a loop over numbers counts down -/
theorem nm_same {w : World} {A : Option Addr} {n c v u : Nat} (h : Nm w A n c v) (k : Nm w A n c u) : v = u := by
  have e : limbs v = limbs u := by
    refine eq_of_lim (by rw [h.rd.len, k.rd.len]) fun i hi => ?_
    rw [h.rd.len] at hi
    obtain ⟨b, off, rfl, hb, hc⟩ := h.rd.cells (by omega)
    obtain ⟨b2, off2, e2, _, hc2⟩ := k.rd.cells (by omega)
    cases e2
    have h1 := hc i hi
    rw [hc2 i hi] at h1
    have h2 : ((lim (limbs u) i : Nat) : Int) = ((lim (limbs v) i : Nat) : Int) := by simpa using h1
    omega
  exact limbs_inj e
open Classical in
/-- The number that a value is in a world; 0 if it is none. -/
noncomputable def numOf (w : World) (x : Value) : Nat := if h : ∃ v A n c, x = .slice A n c ∧ Nm w A n c v then h.choose else 0
theorem numOf_is {w : World} {A : Option Addr} {n c v : Nat} (h : Nm w A n c v) : numOf w (.slice A n c) = v := by
  have hx : ∃ v A' n' c', Value.slice A n c = .slice A' n' c' ∧ Nm w A' n' c' v := ⟨v, A, n, c, rfl, h⟩
  unfold numOf
  rw [dif_pos hx]
  obtain ⟨A', n', c', e, h2⟩ := hx.choose_spec
  cases e
  exact nm_same h2 h
end Go.Proofs.YtbldimplddiheaaGreatDoor

/- The document's Common: walks. -/
namespace Go.Proofs.YtbldimplddiheaaGreatDoor
open Go.RowKit Go.Shelf
set_option linter.unusedVariables false
set_option linter.unusedSimpArgs false

/-- A word as a value. (Another name: the walk calls slot 64 'u64'.) -/
abbrev wv (x : Nat) : Value := .int .u64 (x : Int)

set_option maxRecDepth 100000 in
set_option maxHeartbeats 1000000 in
theorem rwords_any (x y : Nat) (hx : x < B64) (hy : y < B64) (w : World) :
    Calls Tryz.prog 120 #[wv x, wv y] w fun e w' => e = .returned (wv (Nat.gcd x y)) ∧ Below w.heap.size w w' := by
  go_enter Tryz.func120, Tryz.ntmps120
  go_wp2
  go_loopw [0, 1] (fun a b wr => ∃ p q : Nat, a = wv p ∧ b = wv q ∧ p < B64 ∧ q < B64 ∧ Nat.gcd p q = Nat.gcd x y ∧ Below w.heap.size w wr) (fun _ b _ => (intOf b).toNat)
  case atStart => exact ⟨x, y, rfl, rfl, hx, hy, rfl, Below.refl _ _⟩
  case round =>
    obtain ⟨p, q, rfl, rfl, hp, hq, hg, hB⟩ := hrel
    by_cases h0 : q = 0
    · subst h0
      rw [Nat.gcd_zero_right] at hg
      subst hg
      clear hp hq hx hy
      go_wp2
      go_ret
      exact ⟨rfl, hB⟩
    · obtain ⟨r, hr⟩ : ∃ r, p % q = r := ⟨_, rfl⟩
      have hrq : r < q := by rw [← hr]; exact Nat.mod_lt _ (by omega)
      have hgq : Nat.gcd q r = Nat.gcd x y := by rw [← hg, ← hr, Nat.gcd_comm q, ← Nat.gcd_rec, Nat.gcd_comm]
      obtain ⟨f1, f2, f3, f4, f5, f6, _, _⟩ := quo_word (x := p) (y := q) hp rfl hr
      have hq0 : (0 : Int) < (q : Int) := by omega
      have hq1 : ¬ ((q : Int) = 0) := by omega
      have hq2 : ((q : Int) == 0) = false := by simp; omega
      have HG := Lib.hid hgq
      clear hg hgq hr hx hy f1 f2 f5
      go_wp2
      first
        | go_quiet (fail)
        | go_region
      go_wp2
      go_roundw
      case rel => exact ⟨q, r, rfl, rfl, hq, by omega, HG.out, by first | exact below_drewN hB _ | exact hB.drew⟩
      case measure => simp [intOf]; omega

section
variable (A A2 : Option Addr) (na ca nb cb v u : Nat) (w : World)

set_option maxRecDepth 100000 in
set_option maxHeartbeats 1000000 in
theorem rHalf_any (hva : Nm w A na ca v) (hna : na ≤ 1000) :
    Calls Tryz.prog 122 #[.slice A na ca] w fun e w' => ∃ A' k c, e = .returned (.slice A' k c) ∧ Own w' w.heap.size (.slice A' k c) (limbs (v / 2)) ∧ Below w.heap.size w w' := by
  have h := rDown_spec A na ca (limbs v) w 1 hva.rd hna
  have e1 : downL (limbs v) 1 = limbs (v / 2) := by simp [downL, may_limbs, val_limbs]
  have e2 : shiftE (limbs v) 1 = 0 := by simp [shiftE, may_limbs]
  rw [e1, e2] at h
  have HD := Lib.hid h
  clear h e1 e2
  go_enter Tryz.func122, Tryz.ntmps122
  go_wp2_with fail
  refine HD.out.mono ?_
  rintro e w1 ⟨A3, k3, c3, rfl, o3, hb3⟩
  go_wp2_with fail
  go_ret
  exact ⟨_, _, _, rfl, o3, hb3⟩
theorem rAt_nm (j : Nat) (hva : Nm w A na ca v) (hna : na ≤ 1000) (hj : j ≤ 100000) :
    Calls Tryz.prog 121 #[.slice A na ca, .int .i64 (j : Int)] w fun e w' => e = .returned (.int .i64 (nbit v j : Nat)) ∧ w = w' := by
  have h := rAt_any A na ca (limbs v) w j hva.rd (by omega) (by omega)
  rwa [val_limbs] at h
theorem rCmp_nm (hva : Nm w A na ca v) (hub : Nm w A2 nb cb u) (hna : na ≤ 1000) (hnb : nb ≤ 1000) :
    Calls Tryz.prog 117 #[.slice A na ca, .slice A2 nb cb] w fun e w' => e = .returned (.int .i64 (cmp3 v u)) ∧ w = w' := by
  have h := rCompared_any A A2 na ca nb cb (limbs v) (limbs u) w hva.rd hub.rd hna hnb
  rwa [val_limbs, val_limbs] at h
theorem rRest_nm (hva : Nm w A na ca v) (hub : Nm w A2 nb cb u) (hna : na ≤ 1000) (hnb : nb ≤ 1000) (hle : u ≤ v) :
    Calls Tryz.prog 118 #[.slice A na ca, .slice A2 nb cb] w fun e w' => ∃ A' k c, e = .returned (.slice A' k c) ∧ Own w' w.heap.size (.slice A' k c) (limbs (v - u)) ∧ Below w.heap.size w w' := by
  have h := rRest_any A A2 na ca nb cb (limbs v) (limbs u) w hva.rd hub.rd hna hnb (by rw [val_limbs, val_limbs]; exact hle)
  rwa [val_limbs, val_limbs] at h
theorem rSum_nm (hva : Nm w A na ca v) (hub : Nm w A2 nb cb u) (hna : na ≤ 1000) (hnb : nb ≤ 1000) :
    Calls Tryz.prog 99 #[.slice A na ca, .slice A2 nb cb] w fun e w' => ∃ A' k c, e = .returned (.slice A' k c) ∧ Own w' w.heap.size (.slice A' k c) (limbs (v + u)) ∧ Below w.heap.size w w' := by
  have h := rSum_any A A2 na ca nb cb (limbs v) (limbs u) w hva.rd hub.rd hna hnb
  rwa [val_limbs, val_limbs] at h
theorem rTimes_nm (b : Nat) (hva : Nm w A na ca v) (hna : na ≤ 1000) (hb : b ≤ 65536) :
    Calls Tryz.prog 123 #[.slice A na ca, .int .i64 (b : Int)] w fun e w' => ∃ A' k c, e = .returned (.slice A' k c) ∧ Own w' w.heap.size (.slice A' k c) (limbs (v * 2 ^ b)) ∧ Below w.heap.size w w' := by
  have h := rTimes_any A na ca (limbs v) w b hva.rd hna hb
  rwa [val_limbs] at h
end
end Go.Proofs.YtbldimplddiheaaGreatDoor
