import Derived.Test.YtbldimplddiheaaKPower
import Derived.Test.YtbldimplddiheaaKCopy
/- PowCall MAlive MSpec. -/
/- mul.Pow: powers, and what is refused. -/
namespace Go.Proofs.Ytbldimplddiheaa
open Go.RowKit Go.Shelf
set_option linter.unusedVariables false

theorem pow_fits {v n k N : Nat} (hb : n * blen v ≤ 65536) (hk : k ≤ n) (hN : 1025 ≤ N) : v ^ k < B64 ^ N := by
  have h1 : v ^ k ≤ (2 ^ blen v) ^ k := Nat.pow_le_pow_left (Nat.le_of_lt (blen_lt v)) k
  rw [← Nat.pow_mul] at h1
  have h2 : blen v * k ≤ 65536 := Nat.le_trans (by rw [Nat.mul_comm]; exact Nat.mul_le_mul_right _ hk) hb
  obtain ⟨M, hM⟩ : ∃ M, M = 1024 := ⟨_, rfl⟩
  have h3 : 2 ^ (blen v * k) ≤ B64 ^ M := pow_le_B64 (by omega)
  have h4 : B64 ^ M < B64 ^ N := Nat.pow_lt_pow_right B64_gt (by omega)
  exact Nat.lt_of_le_of_lt (Nat.le_trans h1 h3) h4
theorem nm_lt {w : World} {A : Option Addr} {n c v N : Nat} (h : Nm w A n c v) (hn : n ≤ N) : v < B64 ^ N := Nat.lt_of_lt_of_le h.lt (Nat.pow_le_pow_right B64_pos hn)

section
variable (A : Option Addr) (na ca : Nat) (w : World)

theorem quo_nat {n q : Nat} (h : 65536 / n = q) : Int.tdiv 65536 (n : Int) = (q : Int) := by
  rw [Int.tdiv_eq_ediv_of_nonneg (by omega), ← h]; rfl
theorem quo_wrap {n q : Nat} (h : 65536 / n = q) : wrap64 (q : Int) = (q : Int) := by
  have h1 : q ≤ 65536 := by rw [← h]; exact Nat.div_le_self _ _
  exact IntWalk.wrap64_in _ ⟨by omega, by omega⟩

end
end Go.Proofs.Ytbldimplddiheaa

/- The law MulNames, and the chapter's first examples. -/
namespace Go.Proofs.Ytbldimplddiheaa
open Go.RowKit Go.Shelf
set_option linter.unusedVariables false

section
variable (A A2 : Option Addr) (na ca nb cb v u : Nat) (w : World)
theorem mul_nm (hva : Nm w A na ca v) (hub : Nm w A2 nb cb u) (hna : na ≤ 100000) (hnb : nb ≤ 100000) :
    Calls Try.prog 70 #[.slice A na ca, .slice A2 nb cb] w fun e w' => ∃ A' k c, e = .returned (.tuple #[.slice A' k c, .int .i64 0]) ∧ Own w' w.heap.size (.slice A' k c) (limbs (v * u)) ∧ Below w.heap.size w w' := by
  obtain ⟨N, hN⟩ : ∃ N, N = 100000 := ⟨_, rfl⟩
  exact Mul_ok A A2 na ca nb cb v u N w hva hub (by omega) (nm_lt hva (by omega)) (nm_lt hub (by omega))
end

theorem nm_new1 (w : World) (x : Nat) (T : TypeId) (hx : x < B64) (h0 : (x != 0) = true) : Nm (w.alloc (.cells #[u64 x] T)) (some ⟨w.heap.size, 0, none⟩) 1 1 x := by
  have h := nm_of (c := 1) (rd_new1 w x T hx) (by simpa [may] using h0) (by omega) (by omega)
  simpa [val] using h
theorem nm_new2 (w : World) (x y : Nat) (T : TypeId) (hx : x < B64) (hy : y < B64) (h0 : (y != 0) = true) : Nm (w.alloc (.cells #[u64 x, u64 y] T)) (some ⟨w.heap.size, 0, none⟩) 2 2 (x + B64 * y) := by
  have h := nm_of (c := 2) (rd_new2 w x y T hx hy) (by simpa [may] using h0) (by omega) (by omega)
  simpa [val] using h
/-- 2^64 - 2. -/
def top2 : Nat := 18446744073709551614
theorem top2_lt : top2 < B64 := by unfold top2; rw [B64_eq]; omega
theorem top2_cast : ((top2 : Nat) : Int) = 18446744073709551614 := rfl
theorem top_ne : (top != 0) = true := rfl
theorem top_sq : limbs (top * top) = [1, top2] := by
  have e : top * top = val [1, top2] := by simp [val, B64_eq, top, top2]
  rw [e]
  exact limbs_val (words_cons B64_gt (words_cons top2_lt words_nil)) rfl
/-- 10^20's lower limb. -/
def ten20 : Nat := 7766279631452241920
theorem ten20_lt : ten20 < B64 := by unfold ten20; rw [B64_eq]; omega
theorem ten20_cast : ((ten20 : Nat) : Int) = 7766279631452241920 := rfl
theorem ten_pow : limbs (10 ^ 20) = [ten20, 5] := by
  have e : 10 ^ 20 = val [ten20, 5] := by simp [val, B64_eq, ten20]
  rw [e]
  exact limbs_val (words_cons ten20_lt (words_cons (small_lt (by omega)) words_nil)) rfl
theorem ten_len : 20 * blen 10 ≤ 65536 := by
  have := blen_le (v := 10) (k := 4) (by omega)
  omega
theorem five_zero : limbs (0 * 5) = [] := by rw [Nat.zero_mul, limbs_zero]

theorem two64_many : 65536 < 1024 * blen (0 + B64 * 1) := by
  have : blen (0 + B64 * 1) = 65 := by
    apply blen_eq <;> rw [B64_eq] <;> simp
  omega

end Go.Proofs.Ytbldimplddiheaa

/- The calls of mul and nat by numbers, for laws. -/
namespace Go.Proofs.Ytbldimplddiheaa
open Go.RowKit Go.Shelf
set_option linter.unusedVariables false

section
variable (A A2 : Option Addr) (na ca nb cb v u : Nat) (w : World)
theorem add_nm (hva : Nm w A na ca v) (hub : Nm w A2 nb cb u) (hna : na ≤ 100000) (hnb : nb ≤ 100000) :
    Calls Try.prog 97 #[.slice A na ca, .slice A2 nb cb] w fun e w' => ∃ A' k c, e = .returned (.tuple #[.slice A' k c, .int .i64 0]) ∧ Own w' w.heap.size (.slice A' k c) (limbs (v + u)) ∧ Below w.heap.size w w' := by
  have h := add_ok A A2 na ca nb cb (limbs v) (limbs u) w hva.rd hub.rd (by omega) (by omega) (by simp [may_limbs])
  rwa [val_limbs, val_limbs] at h
theorem same_eq (hva : Nm w A na ca v) (hub : Nm w A2 nb cb u) (hna : na ≤ 100000) (hnb : nb ≤ 100000) (h : v = u) :
    Calls Try.prog 14 #[.slice A na ca, .slice A2 nb cb] w fun e w' => e = .returned (.bool true) ∧ Below w.heap.size w w' := by
  subst h
  have h := same_any A A2 na ca nb cb (limbs v) (limbs v) w hva.rd hub.rd (by omega) (by omega)
  rwa [decide_eq_true rfl] at h
theorem up_nm (b : Nat) (hva : Nm w A na ca v) (hna : na ≤ 100000) (hb : b ≤ 65536) :
    Calls Try.prog 74 #[.slice A na ca, .int .i64 (b : Int)] w fun e w' => ∃ A' k c, e = .returned (.tuple #[.slice A' k c, .int .i64 0]) ∧ Own w' w.heap.size (.slice A' k c) (limbs (v * 2 ^ b)) ∧ Below w.heap.size w w' := by
  have h := up_ok A na ca (limbs v) b _ _ w hva.rd (by omega) (may_limbs v) hb rfl rfl
  rwa [val_limbs] at h
variable {A A2 : Option Addr} {na ca nb cb v u : Nat} {w w2 : World}
theorem mul_len (hva : Nm w A na ca v) (hub : Nm w2 A2 nb cb u) : (limbs (v * u)).length ≤ na + nb := by
  apply limbs_length_le
  rw [Nat.pow_add]
  exact Nat.lt_of_le_of_lt (Nat.mul_le_mul_left _ (Nat.le_of_lt hub.lt)) (Nat.mul_lt_mul_of_pos_right hva.lt (Nat.pow_pos B64_pos))
theorem add_len (hva : Nm w A na ca v) (hub : Nm w2 A2 nb cb u) {n : Nat} (h1 : na ≤ n) (h2 : nb ≤ n) : (limbs (v + u)).length ≤ n + 1 := by
  have h := length_le_of_val (words_limbs v) (words_limbs u) (n := n) (by rw [hva.rd.len]; exact h1) (by rw [hub.rd.len]; exact h2)
  rwa [val_limbs, val_limbs] at h
theorem pow_len (hva : Nm w A na ca v) {n N : Nat} (h : na * n ≤ N) : (limbs (v ^ n)).length ≤ N + 1 := by
  apply limbs_length_le
  have h1 := Nat.pow_le_pow_left (Nat.le_of_lt hva.lt) n
  rw [← Nat.pow_mul] at h1
  exact Nat.lt_of_le_of_lt h1 (Nat.pow_lt_pow_right B64_gt (by omega))
theorem up_len (hva : Nm w A na ca v) {b : Nat} (hb : b ≤ 2000) : (limbs (v * 2 ^ b)).length ≤ na + 32 := by
  have h := length_shift (words_limbs v) (n := na) (b := b) (by rw [hva.rd.len]; exact Nat.le_refl _) hb
  rwa [val_limbs] at h
theorem nm_blen (hva : Nm w A na ca v) {n : Nat} (h : na ≤ n) : blen v ≤ 64 * n := by
  apply blen_le
  rw [← B64_pow]
  exact Nat.lt_of_lt_of_le hva.lt (Nat.pow_le_pow_right B64_pos h)
end
section
variable (A A2 : Option Addr) (na ca nb cb : Nat) (a b : List Nat) (w : World)
/-- mul's Mul, whatever the numbers are. -/
def mulL (a b : List Nat) : List Nat := if both a b = true then limbs (val a * val b) else []
theorem mul_spec (hra : Rd w A na a) (hrb : Rd w A2 nb b) (hna : na ≤ 100000) (hnb : nb ≤ 100000) (h1 : na ≤ ca ∧ ca ≤ 9223372036854775807) (h2 : nb ≤ cb ∧ cb ≤ 9223372036854775807) :
    Calls Try.prog 70 #[.slice A na ca, .slice A2 nb cb] w (Answers w (mulL a b) (err2 a b)) := by
  cases h : both a b with
  | true =>
    have e1 : mulL a b = limbs (val a * val b) := by simp [mulL, h]
    have e2 : err2 a b = 0 := by simp [err2, h]
    rw [e1, e2]
    have hm : may a = true ∧ may b = true := by simpa [both] using h
    exact mul_nm A A2 na ca nb cb (val a) (val b) w (nm_of hra hm.1 h1.1 h1.2) (nm_of hrb hm.2 h2.1 h2.2) hna hnb
  | false =>
    have e1 : mulL a b = [] := by simp [mulL, h]
    have e2 : err2 a b = 8 := by simp [err2, h]
    rw [e1, e2]
    refine (Mul_bad A A2 na ca nb cb a b w hra hrb (by omega) (by omega) (by rw [both_all]; exact h)).mono ?_
    rintro e w' ⟨rfl, hb⟩
    exact answers_nil hb
end
end Go.Proofs.Ytbldimplddiheaa
