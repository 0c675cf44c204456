import Derived.Test.YtgiokmfdafmaoaaGreatJLong
import Derived.Test.YtgiokmfdafmaoaaGreatJSame
import Derived.Test.YtgiokmfdafmaoaaGreatJAdd
/- RefMay. -/
/- The document's own answers that later layers stand on: whether a number may be, its bits, how long it is. -/
namespace Go.Proofs.YtgiokmfdafmaoaaGreat
open Go.RowKit Go.Shelf
set_option linter.unusedVariables false
set_option linter.unusedSimpArgs false

theorem ret_int {k : IntKind} {x y : Int} (h : x = y) : Ending.returned (.int k x) = .returned (.int k y) := by rw [h]
theorem ret_bool {x y : Bool} (h : x = y) : Ending.returned (.bool x) = .returned (.bool y) := by rw [h]
theorem nbit_two (x k : Nat) : nbit x k = 0 ∨ nbit x k = 1 := by
  have : nbit x k < 2 := Nat.mod_lt _ (by omega)
  omega
theorem div_bit (v k : Nat) : v / 2 ^ k = 2 * (v / 2 ^ (k + 1)) + nbit v k := by
  unfold nbit
  rw [Nat.pow_succ, ← Nat.div_div_eq_div_mul]
  omega
theorem val_lt_bits {a : List Nat} (hw : Words a) {M : Nat} (h : a.length ≤ M) : val a < 2 ^ (64 * M) := by
  rw [← B64_pow]; exact Nat.lt_of_lt_of_le (val_lt hw) (Nat.pow_le_pow_right B64_pos h)
theorem blen_top {v k : Nat} (h : v / 2 ^ (k + 1) = 0) (hb : nbit v k = 1) : blen v = k + 1 := by
  have e := div_bit v k
  rw [h, hb] at e
  apply blen_eq
  · have := Nat.div_mul_le_self v (2 ^ k)
    rw [e] at this
    omega
  · rwa [Nat.div_eq_zero_iff_lt (Nat.two_pow_pos _)] at h

section
variable (A A2 : Option Addr) (na ca nb cb : Nat) (a b : List Nat) (w : World)

set_option maxHeartbeats 1000000 in
theorem rMay_any (hra : Rd w A na a) (hna : na ≤ 4294967296) :
    Calls Tryz.prog 77 #[.slice A na ca] w fun e w' => e = .returned (.bool (may a)) ∧ w = w' := by
  by_cases h0 : na = 0
  · subst h0
    have hm : may a = true := by rw [List.eq_nil_of_length_eq_zero hra.len]; rfl
    have HM := Lib.hid hm
    clear hm hra
    go_enter Tryz.func77, Tryz.ntmps77
    go_wp2
    go_ret
    exact ⟨by rw [HM.out]; rfl, rfl⟩
  · obtain ⟨n, rfl⟩ : ∃ n, na = n + 1 := ⟨na - 1, by omega⟩
    obtain ⟨b, off, rfl, hb, hc⟩ := hra.cells (by omega)
    have h1 := may_last (l := a) (fun e => by have := hra.len; rw [e] at this; simp at this)
    rw [hra.len, Nat.add_sub_cancel] at h1
    have hci := hc n (by omega)
    have hne : (((n : Nat) : Int) + 1 == 0) = false := by simp; omega
    have HM := Lib.hid h1
    clear h1 hra hc
    go_enter Tryz.func77, Tryz.ntmps77
    go_wp2
    go_ret
    refine ⟨?_, rfl⟩
    rw [HM.out]
    congr 2
    generalize lim a n = x
    have e : (((x : Nat) : Int) == 0) = (x == 0) := by
      rw [Bool.eq_iff_iff]; simp
    simp [bne, e]

theorem bad_may (h : may a = true) : bad [a] = 0 := bad_zero (by simp [h])

theorem bad_may' (h : may a = false) : bad [a] = 8 := bad_eight (by simp [h])

theorem bit_int (x r : Nat) (hx : x < B64) : wrap64 (Go.bits BinOp.and IntKind.u64 ((x : Int) / 2 ^ r) 1) = ((x / 2 ^ r % 2 : Nat) : Int) := by
  have e3 : ((x : Nat) : Int) / 2 ^ r = ((x / 2 ^ r : Nat) : Int) := by simp
  have h1 : x / 2 ^ r ≤ x := Nat.div_le_self _ _
  rw [e3]
  generalize x / 2 ^ r = z at *
  rw [and_one_u64 _ (by omega) (by rw [B64_eq] at hx; omega)]
  have e5 : wrap64 ((z : Int) % 2) = (z : Int) % 2 := IntWalk.wrap64_in _ ⟨by omega, by omega⟩
  rw [e5]; omega

set_option maxHeartbeats 1000000 in
theorem rAt_any (i : Nat) (hra : Rd w A na a) (hna : na ≤ 4294967296) (hi : i ≤ 9223372036854775807) :
    Calls Tryz.prog 99 #[.slice A na ca, .int .i64 (i : Int)] w fun e w' => e = .returned (.int .i64 (nbit (val a) i : Nat)) ∧ w = w' := by
  have hb := nbit_limb hra.words i
  have hxl := hra.words.get (i / 64)
  obtain ⟨q, hq⟩ : ∃ q, q = i / 64 := ⟨_, rfl⟩
  obtain ⟨r, hr0⟩ : ∃ r, r = i % 64 := ⟨_, rfl⟩
  rw [← hq, ← hr0] at hb
  rw [← hq] at hxl
  have e1 : ((i : Nat) : Int) / 64 = (q : Int) := by omega
  have e2 : ((i : Nat) : Int) % 64 = (r : Int) := by omega
  have hr1 : r < 64 := by omega
  have hq1 : q ≤ 9223372036854775807 := by omega
  have HQ := Lib.hid hq
  have HR0 := Lib.hid hr0
  by_cases hlt : q < na
  · obtain ⟨b, off, rfl, hb', hc⟩ := hra.cells (by omega)
    have hci := hc q hlt
    have hbi := bit_int (lim a q) r hxl
    rw [hb] at hbi
    have HB := Lib.hid hbi
    have hge : ¬ ((na : Int) ≤ (q : Int)) := by omega
    clear hb hq hr0 hra hc hbi hxl
    go_enter Tryz.func99, Tryz.ntmps99
    go_wp2
    go_ret
    exact ⟨by simp only [HB.out]; rfl, rfl⟩
  · have hz : nbit (val a) i = 0 := by
      rw [← hb, lim_past (by rw [hra.len]; omega)]; simp
    have HZ := Lib.hid hz
    have hge : (na : Int) ≤ (q : Int) := by omega
    clear hb hq hr0 hra hz hxl
    go_enter Tryz.func99, Tryz.ntmps99
    go_wp2
    go_ret
    exact ⟨by rw [HZ.out]; rfl, rfl⟩

end
end Go.Proofs.YtgiokmfdafmaoaaGreat
