import Derived.Test.YtgiokmfdafmaoaaKUp
import Derived.StillTailTactics
/- Down. -/
namespace Go.Proofs.Ytgiokmfdafmaoaa
open Go.RowKit Go.Shelf
set_option linter.unusedVariables false
set_option linter.unusedSimpArgs false

/-- One limb of what is shifted down. -/
def dlimb (a : List Nat) (q r i : Nat) : Nat := lim a (q + i) / 2 ^ r + lim a (q + i + 1) * 2 ^ (64 - r) % B64

theorem dlimb_lt {a : List Nat} (ha : Words a) {q r i : Nat} (hr : r < 64) : lim a (q + i) / 2 ^ r < 2 ^ (64 - r) := by
  rw [Nat.div_lt_iff_lt_mul (Nat.two_pow_pos r), ← B64_split (by omega)]
  exact ha.get _
theorem dlimb_word {a : List Nat} (ha : Words a) {q r i : Nat} (hr : r < 64) : dlimb a q r i < B64 := by
  have h1 := dlimb_lt ha (q := q) (i := i) hr
  unfold dlimb
  rw [shl_mod (r := 64 - r) (by omega), B64_split (r := 64 - r) (by omega)]
  have h2 : lim a (q + i + 1) % 2 ^ (64 - (64 - r)) < 2 ^ (64 - (64 - r)) := Nat.mod_lt _ (Nat.two_pow_pos _)
  have h3 : 2 ^ (64 - r) * (lim a (q + i + 1) % 2 ^ (64 - (64 - r)) + 1) ≤ 2 ^ (64 - r) * 2 ^ (64 - (64 - r)) := Nat.mul_le_mul_left _ h2
  rw [Nat.mul_add] at h3
  rw [Nat.mul_comm (2 ^ (64 - (64 - r)))]
  omega
/-- All of them. -/
def dlimbs (a : List Nat) (q r L : Nat) : List Nat := (List.range L).map (dlimb a q r)
theorem dlimbs_words {a : List Nat} (ha : Words a) {q r : Nat} (L : Nat) (hr : r < 64) : Words (dlimbs a q r L) := fun y hy => by
  obtain ⟨i, _, rfl⟩ := List.mem_map.1 hy
  exact dlimb_word ha hr
theorem dlimbs_length (a : List Nat) (q r L : Nat) : (dlimbs a q r L).length = L := by simp [dlimbs]
theorem dlimbs_set (a : List Nat) (q r : Nat) {k L : Nat} (h : k < L) : (dlimbs a q r k ++ List.replicate (L - k) 0).set k (dlimb a q r k) = dlimbs a q r (k + 1) ++ List.replicate (L - (k + 1)) 0 := by
  have e : L - k = (L - (k + 1)) + 1 := by omega
  rw [e, List.replicate_succ, List.set_append, dlimbs_length, if_neg (by omega), Nat.sub_self]
  simp [dlimbs, List.range_succ]

theorem dlimb_cons (x : Nat) (t : List Nat) (r i : Nat) : dlimb (x :: t) 0 r (i + 1) = dlimb t 0 r i := by
  simp [dlimb, lim, Nat.add_assoc, Nat.add_comm 1 i]
theorem val_dlimbs0 {a : List Nat} (ha : Words a) {r : Nat} (hr : r < 64) : val (dlimbs a 0 r a.length) = val a / 2 ^ r := by
  induction a with
  | nil => simp [dlimbs, val]
  | cons x t ih =>
    have e1 : dlimbs (x :: t) 0 r (x :: t).length = dlimb (x :: t) 0 r 0 :: dlimbs t 0 r t.length := by
      simp only [dlimbs, List.length_cons, List.range_succ_eq_map, List.map_cons, List.map_map]
      congr 1
    rw [e1, val_cons, ih ha.tail, val_cons]
    have e2 : dlimb (x :: t) 0 r 0 = x / 2 ^ r + lim t 0 * 2 ^ (64 - r) % B64 := by simp [dlimb, lim]
    rw [e2, shl_mod (r := 64 - r) (by omega), show 64 - (64 - r) = r by omega]
    have e3 : lim t 0 % 2 ^ r = val t % 2 ^ r := by
      rw [lim_val ha.tail, Nat.pow_zero, Nat.div_one, B64_split (r := r) (by omega)]
      exact Nat.mod_mul_left_mod _ _ _
    rw [e3]
    have e4 : B64 = 2 ^ (64 - r) * 2 ^ r := B64_split (by omega)
    have e5 : (x + B64 * val t) / 2 ^ r = x / 2 ^ r + 2 ^ (64 - r) * val t := by
      rw [e4, show 2 ^ (64 - r) * 2 ^ r * val t = 2 ^ r * (2 ^ (64 - r) * val t) by rw [Nat.mul_comm (2 ^ (64 - r)), Nat.mul_assoc], Nat.add_mul_div_left _ _ (Nat.two_pow_pos r)]
    rw [e5]
    have e6 : 2 ^ (64 - r) * (val t % 2 ^ r) + B64 * (val t / 2 ^ r) = 2 ^ (64 - r) * val t := by
      rw [e4, Nat.mul_assoc, ← Nat.mul_add, Nat.mod_add_div]
    omega
theorem val_drop {a : List Nat} (ha : Words a) (q : Nat) : val (a.drop q) = val a / B64 ^ q := by
  induction q generalizing a with
  | zero => simp
  | succ q ih =>
    cases a with
    | nil => simp [val]
    | cons x t =>
      rw [List.drop_succ_cons, ih ha.tail, val_cons, Nat.pow_succ, Nat.mul_comm (B64 ^ q), ← Nat.div_div_eq_div_mul, Nat.add_mul_div_left _ _ B64_pos, Nat.div_eq_of_lt ha.head, Nat.zero_add]
theorem lim_drop (a : List Nat) (q i : Nat) : lim (a.drop q) i = lim a (q + i) := by simp [lim, List.getD_eq_getElem?_getD]
theorem val_dlimbs {a : List Nat} (ha : Words a) {q r bits : Nat} (hr : r < 64) (hb : bits = 64 * q + r) : val (dlimbs a q r (a.length - q)) = val a / 2 ^ bits := by
  have h := val_dlimbs0 (ha.drop q) hr
  rw [List.length_drop, val_drop ha] at h
  have e : dlimbs (a.drop q) 0 r (a.length - q) = dlimbs a q r (a.length - q) := by
    apply List.map_congr_left
    intro i _
    simp [dlimb, lim_drop, Nat.add_assoc]
  rw [e, Nat.div_div_eq_div_mul] at h
  rw [h, hb, Nat.pow_add, Nat.pow_mul]
  rfl

theorem limb_int (A : Option Addr) (n c : Nat) (l : List Nat) (i : Int) (w : World) (h : Rd w A n l) (h0 : 0 ≤ i) (hi : i ≤ 9223372036854775807) (hn : n ≤ 9223372036854775807) :
    Calls Try.prog 73 #[.slice A n c, .int .i64 i] w fun e w' => e = .returned (u64 (lim l i.toNat)) ∧ w' = w := by
  obtain ⟨k, rfl⟩ := Int.eq_ofNat_of_zero_le h0
  exact limb_any A n c l k w h (by omega) hn

end Go.Proofs.Ytgiokmfdafmaoaa
