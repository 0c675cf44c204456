import Derived.Test.YtoehkaagfokamaaDoorZSums
import Derived.Test.YtoehkaagfokamaaDoorZBits
import Derived.Test.YtoehkaagfokamaaDoorZBitLaw
import Derived.Test.YtoehkaagfokamaaDoorZRefGo
import Derived.Deep.RegionWith
/- Names RefSum RefRest RefCmp RefShift Spec. -/
namespace Go.Proofs.YtoehkaagfokamaaDoor
open Go.RowKit Go.Shelf
set_option linter.unusedVariables false
set_option linter.unusedSimpArgs false

theorem below_alloc_then {w w1 w2 : World} {o : Obj} (h : Below w.heap.size w w1) (k : Below (w1.alloc o).heap.size (w1.alloc o) w2) : Below w.heap.size w w2 := below_then (h.alloc h.size o) k
def half : Nat := 9223372036854775808
theorem half_cast : ((half : Nat) : Int) = 9223372036854775808 := rfl
theorem half_lt : half < B64 := by unfold half; rw [B64_eq]; omega
theorem val_01' : val [0, 1] = B64 := by simp [val]
theorem names_long : blen (val [0, 1]) = 65 := by
  rw [val_01']; exact blen_eq (k := 64) (by rw [B64_eq]; omega) (by rw [B64_eq]; omega)
theorem names_long0 : blen (val []) = 0 := rfl
theorem names_up : limbs (val [3] * 2 ^ 63) = [half, 1] := by
  have e : val [3] * 2 ^ 63 = val [half, 1] := by simp [val, B64_eq, half]
  rw [e]; exact limbs_val (words_cons half_lt (words_cons B64_gt words_nil)) rfl
theorem names_down : limbs (val [0, 1] / 2 ^ 60) = [16] := by
  have e : val [0, 1] / 2 ^ 60 = val [16] := by rw [val_01', B64_eq]; simp [val]
  rw [e]; exact limbs_val (words_cons (small_lt (by omega)) words_nil) rfl
theorem names_bit2 : nbit (val [5]) 2 = 1 := by simp [val, nbit]
theorem names_bit99 : nbit (val [5]) 99 = 0 := by simp [val, nbit]
theorem names_bad : bad [[0]] = 8 := rfl

end Go.Proofs.YtoehkaagfokamaaDoor

namespace Go.Proofs.YtoehkaagfokamaaDoor
open Go.RowKit Go.Shelf
set_option linter.unusedVariables false
set_option linter.unusedSimpArgs false

theorem half_no {x : Nat} (h : ¬ x < half) : decide (((x : Nat) : Int) < 9223372036854775808) = false := by
  unfold half at h
  exact decide_eq_false (by omega)
theorem half_yes {x : Nat} (h : x < half) : decide (((x : Nat) : Int) < 9223372036854775808) = true := by
  unfold half at h
  exact decide_eq_true (by omega)
theorem mod_succ_bit (v k : Nat) : v % 2 ^ (k + 1) = v % 2 ^ k + 2 ^ k * nbit v k := by
  rw [Nat.pow_succ, Nat.mod_mul]; rfl
theorem sum_step {b p x y c a1 a2 : Nat} (h : b + p * c = a1 + a2) : (b + p * ((x + y + c) % 2)) + p * 2 * ((x + y + c) / 2) = (a1 + p * x) + (a2 + p * y) := by
  have e := Nat.mod_add_div (x + y + c) 2
  have e2 : p * ((x + y + c) % 2 + 2 * ((x + y + c) / 2)) = p * (x + y + c) := by rw [e]
  simp only [Nat.mul_add] at e2
  rw [Nat.mul_assoc]
  omega
theorem owni_block {w : World} {B : Nat} {v : Value} {o : List Nat} (h : OwnI w B v o) : ∀ k, v.ownBlock = some k → B ≤ k := fun k e => (h.1.lt k e).1

section
variable (A A2 : Option Addr) (na ca nb cb : Nat) (a b : List Nat) (w : World)

end
end Go.Proofs.YtoehkaagfokamaaDoor

namespace Go.Proofs.YtoehkaagfokamaaDoor
open Go.RowKit Go.Shelf
set_option linter.unusedVariables false
set_option linter.unusedSimpArgs false

theorem val_short {a : List Nat} (h : a.length ≤ 1) : val a = lim a 0 := by
  match a, h with
  | [], _ => rfl
  | [x], _ => simp [val, lim]
theorem rest_digit {x y c : Nat} (hx : x ≤ 1) (hy : y ≤ 1) (hc : c ≤ 1) : ∃ z d : Nat, z ≤ 1 ∧ d ≤ 1 ∧ x + 2 * d = z + y + c ∧ ((x : Int) - y - c < 0 → d = 1 ∧ (z : Int) = (x : Int) - y - c + 2) ∧ (¬ (x : Int) - y - c < 0 → d = 0 ∧ (z : Int) = (x : Int) - y - c) := by
  by_cases h : (x : Int) - y - c < 0
  · exact ⟨x + 2 - y - c, 1, by omega, by omega, by omega, fun _ => ⟨rfl, by omega⟩, fun h2 => absurd h h2⟩
  · exact ⟨x - y - c, 0, by omega, by omega, by omega, fun h2 => absurd h2 h, fun _ => ⟨rfl, by omega⟩⟩
theorem rest_step {j a b p x y z c d : Nat} (h : j + b = a + p * c) (hz : x + 2 * d = z + y + c) : (j + p * z) + (b + p * y) = (a + p * x) + p * 2 * d := by
  have e2 : p * (x + 2 * d) = p * (z + y + c) := by rw [hz]
  simp only [Nat.mul_add] at e2
  rw [Nat.mul_assoc]
  omega

section
variable (A A2 : Option Addr) (na ca nb cb : Nat) (a b : List Nat) (w : World)

end
end Go.Proofs.YtoehkaagfokamaaDoor

namespace Go.Proofs.YtoehkaagfokamaaDoor
open Go.RowKit Go.Shelf
set_option linter.unusedVariables false
set_option linter.unusedSimpArgs false

theorem cmp_top {v u k : Nat} (h : v / 2 ^ (k + 1) = u / 2 ^ (k + 1)) (hne : nbit v k ≠ nbit u k) : cmp3 v u = (nbit v k : Int) - (nbit u k : Int) := by
  have e1 := div_bit v k
  have e2 := div_bit u k
  have m1 := Nat.mod_add_div v (2 ^ k)
  have m2 := Nat.mod_add_div u (2 ^ k)
  have l1 := Nat.mod_lt v (Nat.two_pow_pos k)
  have l2 := Nat.mod_lt u (Nat.two_pow_pos k)
  have b1 := nbit_two v k
  have b2 := nbit_two u k
  have h3 : v / 2 ^ k ≠ u / 2 ^ k := by omega
  have h4 : cmp3 v u = cmp3 (v / 2 ^ k) (u / 2 ^ k) := by
    rw [← cmp3_high l1 l2 h3, m1, m2]
  rw [h4]
  rcases b1 with b1 | b1 <;> rcases b2 with b2 | b2
  · exact absurd (b1.trans b2.symm) hne
  · rw [cmp3_lt (by omega), b1, b2]; rfl
  · rw [cmp3_gt (by omega), b1, b2]; rfl
  · exact absurd (b1.trans b2.symm) hne

section
variable (A A2 : Option Addr) (na ca nb cb : Nat) (a b : List Nat) (w : World)

end
end Go.Proofs.YtoehkaagfokamaaDoor

namespace Go.Proofs.YtoehkaagfokamaaDoor
open Go.RowKit Go.Shelf
set_option linter.unusedVariables false
set_option linter.unusedSimpArgs false

theorem bval_zeros (n : Nat) : bval (List.replicate n 0) = 0 := by
  induction n with
  | zero => rfl
  | succ n ih => rw [List.replicate_succ, bval, ih]
theorem bits_zeros (n : Nat) : Bits (List.replicate n 0) := fun y hy => by
  rw [List.mem_replicate] at hy; omega
theorem owni_zeros (w : World) (n : Nat) (hn : n ≤ maxLen) : OwnI (w.alloc (.cells (madeCells #[.int .i64 0] n) 3)) w.heap.size (.slice (some ⟨w.heap.size, 0, none⟩) n n) (List.replicate n 0) := by
  have e : (madeCells #[.int .i64 0] n).toList = (List.replicate n 0).map i64n := by
    apply List.ext_getElem
    · simp [madeCells]
    · intro i h1 h2
      simp [madeCells, Nat.mod_one]
  refine ⟨⟨by simp, .inr ⟨w.heap.size, n, madeCells #[.int .i64 0] n, by simp, Nat.le_refl _, World.alloc_heap_new w _, by simp, hn, by simp [madeCells], ?_⟩⟩, bits_zeros n⟩
  rw [← e, List.take_of_length_le (by simp [madeCells])]
theorem nbit_div (v b i : Nat) : nbit (v / 2 ^ b) i = nbit v (b + i) := by
  unfold nbit
  rw [Nat.div_div_eq_div_mul, ← Nat.pow_add]

section
variable (A : Option Addr) (na ca : Nat) (a : List Nat) (w : World)


end
end Go.Proofs.YtoehkaagfokamaaDoor

/- What the numbers' calls answer, as one thing for the program and for the document. -/
namespace Go.Proofs.YtoehkaagfokamaaDoor
open Go.RowKit Go.Shelf
set_option linter.unusedVariables false
set_option linter.unusedSimpArgs false

def cmpV (a b : List Nat) : Int := if both a b = true then cmp3 (val a) (val b) else 0
def subE (a b : List Nat) : Int := if both a b = true then (if val a < val b then 10 else 0) else 8
def subL (a b : List Nat) : List Nat := if both a b = true then (if val a < val b then [] else limbs (val a - val b)) else []
def wordV (a : List Nat) : Nat := if may a = true ∧ a.length ≤ 1 then lim a 0 else 0
def wordE (a : List Nat) : Int := if may a = true then (if a.length ≤ 1 then 0 else 4) else 8
def longV (a : List Nat) : Nat := if may a = true then blen (val a) else 0
def bitV (a : List Nat) (i : Int) : Nat := if may a = true then (if i < 0 then 0 else nbit (val a) i.toNat) else 0
def bitE (a : List Nat) (i : Int) : Int := if may a = true then (if i < 0 then 2 else 0) else 8
def shiftE (a : List Nat) (i : Int) : Int := if may a = true then (if i < 0 ∨ 65536 < i then 2 else 0) else 8
def upL (a : List Nat) (i : Int) : List Nat := if may a = true then (if i < 0 ∨ 65536 < i then [] else limbs (val a * 2 ^ i.toNat)) else []
def downL (a : List Nat) (i : Int) : List Nat := if may a = true then (if i < 0 ∨ 65536 < i then [] else limbs (val a / 2 ^ i.toNat)) else []


section
variable (A A2 : Option Addr) (na ca nb cb : Nat) (a b : List Nat) (w : World)

theorem cmp_spec (hra : Rd w A na a) (hrb : Rd w A2 nb b) (hna : na ≤ 1000) (hnb : nb ≤ 1000) :
    Calls Tryd.prog 22 #[.slice A na ca, .slice A2 nb cb] w fun e w' => e = .returned (.tuple #[.int .i64 (cmpV a b), .int .i64 (err2 a b)]) ∧ Below w.heap.size w w' := by
  cases h : both a b with
  | true => simpa [cmpV, err2, h] using cmp_ok A A2 na ca nb cb a b w hra hrb (by omega) (by omega) (by rw [both_all, h])
  | false => simpa [cmpV, err2, h] using cmp_bad A A2 na ca nb cb a b w hra hrb (by omega) (by omega) (by rw [both_all, h])
theorem add_spec (hra : Rd w A na a) (hrb : Rd w A2 nb b) (hna : na ≤ 1000) (hnb : nb ≤ 1000) :
    Calls Tryd.prog 75 #[.slice A na ca, .slice A2 nb cb] w (Answers w (addL a b) (err2 a b)) := by
  cases h : both a b with
  | true =>
    have e1 : addL a b = limbs (val a + val b) := by simp [addL, h]
    have e2 : err2 a b = 0 := by simp [err2, h]
    rw [e1, e2]
    exact (add_ok A A2 na ca nb cb a b w hra hrb (by omega) (by omega) (by rw [both_all, h]))
  | false =>
    have e1 : addL a b = [] := by simp [addL, h]
    have e2 : err2 a b = 8 := by simp [err2, h]
    rw [e1, e2]
    refine (add_bad A A2 na ca nb cb a b w hra hrb (by omega) (by omega) (by rw [both_all, h])).mono ?_
    rintro e w' ⟨rfl, hb⟩
    exact answers_nil hb
theorem sub_spec (hra : Rd w A na a) (hrb : Rd w A2 nb b) (hna : na ≤ 1000) (hnb : nb ≤ 1000) :
    Calls Tryd.prog 63 #[.slice A na ca, .slice A2 nb cb] w (Answers w (subL a b) (subE a b)) := by
  cases h : both a b with
  | true =>
    by_cases hl : val a < val b
    · have e1 : subL a b = [] := by simp [subL, h, hl]
      have e2 : subE a b = 10 := by simp [subE, h, hl]
      rw [e1, e2]
      refine (sub_less A A2 na ca nb cb a b w hra hrb (by omega) (by omega) (by rw [both_all, h]) hl).mono ?_
      rintro e w' ⟨rfl, hb⟩
      exact answers_nil hb
    · have e1 : subL a b = limbs (val a - val b) := by simp [subL, h, hl]
      have e2 : subE a b = 0 := by simp [subE, h, hl]
      rw [e1, e2]
      exact (sub_ok A A2 na ca nb cb a b w hra hrb (by omega) (by omega) (by rw [both_all, h]) (by omega))
  | false =>
    have e1 : subL a b = [] := by simp [subL, h]
    have e2 : subE a b = 8 := by simp [subE, h]
    rw [e1, e2]
    refine (sub_bad A A2 na ca nb cb a b w hra hrb (by omega) (by omega) (by rw [both_all, h])).mono ?_
    rintro e w' ⟨rfl, hb⟩
    exact answers_nil hb
theorem up_spec (i : Int) (hra : Rd w A na a) (hna : na ≤ 1000) :
    Calls Tryd.prog 66 #[.slice A na ca, .int .i64 i] w (Answers w (upL a i) (shiftE a i)) := by
  cases h : may a with
  | true =>
    by_cases h1 : i < 0 ∨ 65536 < i
    · have e1 : upL a i = [] := by simp [upL, h, h1]
      have e2 : shiftE a i = 2 := by simp [shiftE, h, h1]
      rw [e1, e2]
      refine (up_arg A na ca a i w hra (by omega) h h1).mono ?_
      rintro e w' ⟨rfl, hb⟩
      exact answers_nil hb
    · obtain ⟨k, rfl⟩ := Int.eq_ofNat_of_zero_le (show 0 ≤ i by omega)
      have e1 : upL a (k : Int) = limbs (val a * 2 ^ k) := by unfold upL; rw [if_pos h, if_neg h1, Int.toNat_natCast]
      have e2 : shiftE a (k : Int) = 0 := by unfold shiftE; rw [if_pos h, if_neg h1]
      rw [e1, e2]
      exact up_ok A na ca a k _ _ w hra (by omega) h (by omega) rfl rfl
  | false =>
    have e1 : upL a i = [] := by simp [upL, h]
    have e2 : shiftE a i = 8 := by simp [shiftE, h]
    rw [e1, e2]
    refine (up_bad A na ca a i w hra (by omega) h).mono ?_
    rintro e w' ⟨rfl, hb⟩
    exact answers_nil hb
theorem down_spec (i : Int) (hra : Rd w A na a) (hna : na ≤ 1000) :
    Calls Tryd.prog 45 #[.slice A na ca, .int .i64 i] w (Answers w (downL a i) (shiftE a i)) := by
  cases h : may a with
  | true =>
    by_cases h1 : i < 0 ∨ 65536 < i
    · have e1 : downL a i = [] := by simp [downL, h, h1]
      have e2 : shiftE a i = 2 := by simp [shiftE, h, h1]
      rw [e1, e2]
      refine (down_arg A na ca a i w hra (by omega) h h1).mono ?_
      rintro e w' ⟨rfl, hb⟩
      exact answers_nil hb
    · obtain ⟨k, rfl⟩ := Int.eq_ofNat_of_zero_le (show 0 ≤ i by omega)
      have e1 : downL a (k : Int) = limbs (val a / 2 ^ k) := by unfold downL; rw [if_pos h, if_neg h1, Int.toNat_natCast]
      have e2 : shiftE a (k : Int) = 0 := by unfold shiftE; rw [if_pos h, if_neg h1]
      rw [e1, e2]
      exact down_ok A na ca a k _ _ w hra (by omega) h (by omega) rfl rfl
  | false =>
    have e1 : downL a i = [] := by simp [downL, h]
    have e2 : shiftE a i = 8 := by simp [shiftE, h]
    rw [e1, e2]
    refine (down_bad A na ca a i w hra (by omega) h).mono ?_
    rintro e w' ⟨rfl, hb⟩
    exact answers_nil hb

/-! ### The document's -/

end
end Go.Proofs.YtoehkaagfokamaaDoor
