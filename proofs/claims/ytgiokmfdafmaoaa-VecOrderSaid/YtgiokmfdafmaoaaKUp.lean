import Derived.Test.YtgiokmfdafmaoaaKRowL
import Derived.BigRegion
/- Up. -/
namespace Go.Proofs.Ytgiokmfdafmaoaa
open Go.RowKit Go.Shelf
set_option linter.unusedVariables false
set_option linter.unusedSimpArgs false

/-- One limb more, shifted into its two places. -/
theorem up_step {a l : List Nat} {q r k n bits : Nat} (hwl : Words l) (hwa : Words a) (hlen : l.length = q + n + 1) (hk : k < a.length ∧ k < n) (hr : r < 64) (hb : bits = 64 * q + r) (hv : val l = val (a.take k) * 2 ^ bits) :
    Words ((l.set (q + k) (lim l (q + k) ||| (lim a k * 2 ^ r % B64))).set (q + k + 1) (lim a k / 2 ^ (64 - r))) ∧
    val ((l.set (q + k) (lim l (q + k) ||| (lim a k * 2 ^ r % B64))).set (q + k + 1) (lim a k / 2 ^ (64 - r))) = val (a.take (k + 1)) * 2 ^ bits := by
  have hx := hwa.get k
  have hp : 2 ^ bits = B64 ^ q * 2 ^ r := by
    rw [hb, Nat.pow_add, Nat.pow_mul]; rfl
  have hlt : val l < B64 ^ (q + k) * 2 ^ r := by
    rw [hv, hp, Nat.pow_add, Nat.mul_comm (B64 ^ q) (B64 ^ k), Nat.mul_assoc]
    have h1 : val (a.take k) < B64 ^ k := Nat.lt_of_lt_of_le (val_lt (hwa.take k)) (Nat.pow_le_pow_right B64_pos (by rw [List.length_take]; omega))
    exact Nat.mul_lt_mul_of_pos_right h1 (Nat.mul_pos (Nat.pow_pos B64_pos) (Nat.two_pow_pos r))
  have hlow : lim l (q + k) < 2 ^ r := by
    rw [lim_val hwl]
    refine Nat.lt_of_le_of_lt (Nat.mod_le _ _) ?_
    rw [Nat.div_lt_iff_lt_mul (Nat.pow_pos B64_pos), Nat.mul_comm]
    exact hlt
  have hor := or_shl (x := lim a k) (r := r) (by omega) hlow
  have hsum : lim l (q + k) + lim a k * 2 ^ r % B64 < B64 := by
    rw [shl_mod (by omega), B64_split (r := r) (by omega)]
    have h1 : lim a k % 2 ^ (64 - r) < 2 ^ (64 - r) := Nat.mod_lt _ (Nat.two_pow_pos _)
    have h2 : 2 ^ r * (lim a k % 2 ^ (64 - r) + 1) ≤ 2 ^ r * 2 ^ (64 - r) := Nat.mul_le_mul_left _ h1
    rw [Nat.mul_add] at h2
    rw [Nat.mul_comm (2 ^ (64 - r))]
    omega
  rw [hor]
  have hw1 := words_set hwl (i := q + k) hsum
  have hover : lim a k / 2 ^ (64 - r) < B64 := Nat.lt_of_le_of_lt (Nat.div_le_self _ _) hx
  refine ⟨words_set hw1 hover, ?_⟩
  have e1 := val_set (l := l) (i := q + k) (by omega) (lim l (q + k) + lim a k * 2 ^ r % B64)
  rw [Nat.mul_add] at e1
  have e2 := val_set (l := l.set (q + k) (lim l (q + k) + lim a k * 2 ^ r % B64)) (i := q + k + 1) (by rw [List.length_set]; omega) (lim a k / 2 ^ (64 - r))
  have e3 : lim (l.set (q + k) (lim l (q + k) + lim a k * 2 ^ r % B64)) (q + k + 1) = lim l (q + k + 1) := by
    simp [lim, List.getD_eq_getElem?_getD, List.getElem?_set]
  have e4 : lim l (q + k + 1) = 0 := by
    apply lim_zero_of_lt hwl
    refine Nat.lt_of_lt_of_le hlt ?_
    rw [Nat.pow_succ]
    apply Nat.mul_le_mul_left
    rw [B64_split (r := r) (by omega)]
    exact Nat.le_mul_of_pos_left _ (Nat.two_pow_pos _)
  rw [e3, e4, Nat.mul_zero, Nat.add_zero] at e2
  have e5 := shl_split (x := lim a k) (r := r) (by omega)
  rw [e2, val_take_succ, Nat.add_mul, ← hv]
  have e6 : B64 ^ (q + k) * (lim a k * 2 ^ r % B64) + B64 ^ (q + k + 1) * (lim a k / 2 ^ (64 - r)) = B64 ^ (q + k) * (lim a k * 2 ^ r) := by
    rw [Nat.pow_succ, Nat.mul_assoc, ← Nat.mul_add, e5]
  have e7 : B64 ^ k * lim a k * 2 ^ bits = B64 ^ (q + k) * (lim a k * 2 ^ r) := by
    rw [hp, Nat.pow_add]
    simp only [Nat.mul_comm, Nat.mul_left_comm, Nat.mul_assoc]
  rw [e7, ← e6]
  omega
theorem u64_wrap_nat (n : Nat) : IntKind.u64.wrap (n : Int) = ((n % B64 : Nat) : Int) := by
  rw [IntKind.wrap_u64, B64_eq]; omega
theorem or_word (y x r : Nat) (hy : y < B64) : Go.bits BinOp.or IntKind.u64 (y : Int) (IntKind.u64.wrap ((x : Int) * 2 ^ r)) = ((y ||| (x * 2 ^ r % B64) : Nat) : Int) := by
  have e : (x : Int) * 2 ^ r = ((x * 2 ^ r : Nat) : Int) := by simp
  rw [e, u64_wrap_nat]
  exact bits_or_u64_nat _ _ hy (Nat.mod_lt _ B64_pos)

end Go.Proofs.Ytgiokmfdafmaoaa
