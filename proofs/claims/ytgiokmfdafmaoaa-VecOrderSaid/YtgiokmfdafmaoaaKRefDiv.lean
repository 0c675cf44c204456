import Derived.Test.YtgiokmfdafmaoaaKSums
import Derived.Test.YtgiokmfdafmaoaaKBits
import Derived.Test.YtgiokmfdafmaoaaKBitLaw
import Derived.Test.YtgiokmfdafmaoaaKRefGo
import Derived.Deep.RegionWith
import Derived.Test.YtgiokmfdafmaoaaKNm
import Derived.Deep.RegionHeld3
/- Names RefSum RefRest RefCmp RefShift Spec RefDiv. -/
namespace Go.Proofs.Ytgiokmfdafmaoaa
open Go.RowKit Go.Shelf
set_option linter.unusedVariables false
set_option linter.unusedSimpArgs false

theorem below_alloc_then {w w1 w2 : World} {o : Obj} (h : Below w.heap.size w w1) (k : Below (w1.alloc o).heap.size (w1.alloc o) w2) : Below w.heap.size w w2 := below_then (h.alloc h.size o) k
def half : Nat := 9223372036854775808
theorem half_cast : ((half : Nat) : Int) = 9223372036854775808 := rfl
theorem half_lt : half < B64 := by unfold half; rw [B64_eq]; omega
theorem val_01' : val [0, 1] = B64 := by simp [val]
theorem names_long : blen (val [0, 1]) = 65 := by
  rw [val_01']; exact blen_eq (k := 64) (by rw [B64_eq]; omega) (by rw [B64_eq]; omega)
theorem names_long0 : blen (val []) = 0 := rfl
theorem names_up : limbs (val [3] * 2 ^ 63) = [half, 1] := by
  have e : val [3] * 2 ^ 63 = val [half, 1] := by simp [val, B64_eq, half]
  rw [e]; exact limbs_val (words_cons half_lt (words_cons B64_gt words_nil)) rfl
theorem names_down : limbs (val [0, 1] / 2 ^ 60) = [16] := by
  have e : val [0, 1] / 2 ^ 60 = val [16] := by rw [val_01', B64_eq]; simp [val]
  rw [e]; exact limbs_val (words_cons (small_lt (by omega)) words_nil) rfl
theorem names_bit2 : nbit (val [5]) 2 = 1 := by simp [val, nbit]
theorem names_bit99 : nbit (val [5]) 99 = 0 := by simp [val, nbit]
theorem names_bad : bad [[0]] = 8 := rfl

end Go.Proofs.Ytgiokmfdafmaoaa

namespace Go.Proofs.Ytgiokmfdafmaoaa
open Go.RowKit Go.Shelf
set_option linter.unusedVariables false
set_option linter.unusedSimpArgs false

theorem half_no {x : Nat} (h : ¬ x < half) : decide (((x : Nat) : Int) < 9223372036854775808) = false := by
  unfold half at h
  exact decide_eq_false (by omega)
theorem half_yes {x : Nat} (h : x < half) : decide (((x : Nat) : Int) < 9223372036854775808) = true := by
  unfold half at h
  exact decide_eq_true (by omega)
theorem mod_succ_bit (v k : Nat) : v % 2 ^ (k + 1) = v % 2 ^ k + 2 ^ k * nbit v k := by
  rw [Nat.pow_succ, Nat.mod_mul]; rfl
theorem sum_step {b p x y c a1 a2 : Nat} (h : b + p * c = a1 + a2) : (b + p * ((x + y + c) % 2)) + p * 2 * ((x + y + c) / 2) = (a1 + p * x) + (a2 + p * y) := by
  have e := Nat.mod_add_div (x + y + c) 2
  have e2 : p * ((x + y + c) % 2 + 2 * ((x + y + c) / 2)) = p * (x + y + c) := by rw [e]
  simp only [Nat.mul_add] at e2
  rw [Nat.mul_assoc]
  omega
theorem owni_block {w : World} {B : Nat} {v : Value} {o : List Nat} (h : OwnI w B v o) : ∀ k, v.ownBlock = some k → B ≤ k := fun k e => (h.1.lt k e).1

section
variable (A A2 : Option Addr) (na ca nb cb : Nat) (a b : List Nat) (w : World)

end
end Go.Proofs.Ytgiokmfdafmaoaa

namespace Go.Proofs.Ytgiokmfdafmaoaa
open Go.RowKit Go.Shelf
set_option linter.unusedVariables false
set_option linter.unusedSimpArgs false

theorem val_short {a : List Nat} (h : a.length ≤ 1) : val a = lim a 0 := by
  match a, h with
  | [], _ => rfl
  | [x], _ => simp [val, lim]
theorem rest_digit {x y c : Nat} (hx : x ≤ 1) (hy : y ≤ 1) (hc : c ≤ 1) : ∃ z d : Nat, z ≤ 1 ∧ d ≤ 1 ∧ x + 2 * d = z + y + c ∧ ((x : Int) - y - c < 0 → d = 1 ∧ (z : Int) = (x : Int) - y - c + 2) ∧ (¬ (x : Int) - y - c < 0 → d = 0 ∧ (z : Int) = (x : Int) - y - c) := by
  by_cases h : (x : Int) - y - c < 0
  · exact ⟨x + 2 - y - c, 1, by omega, by omega, by omega, fun _ => ⟨rfl, by omega⟩, fun h2 => absurd h h2⟩
  · exact ⟨x - y - c, 0, by omega, by omega, by omega, fun h2 => absurd h2 h, fun _ => ⟨rfl, by omega⟩⟩
theorem rest_step {j a b p x y z c d : Nat} (h : j + b = a + p * c) (hz : x + 2 * d = z + y + c) : (j + p * z) + (b + p * y) = (a + p * x) + p * 2 * d := by
  have e2 : p * (x + 2 * d) = p * (z + y + c) := by rw [hz]
  simp only [Nat.mul_add] at e2
  rw [Nat.mul_assoc]
  omega

section
variable (A A2 : Option Addr) (na ca nb cb : Nat) (a b : List Nat) (w : World)

end
end Go.Proofs.Ytgiokmfdafmaoaa

namespace Go.Proofs.Ytgiokmfdafmaoaa
open Go.RowKit Go.Shelf
set_option linter.unusedVariables false
set_option linter.unusedSimpArgs false

theorem cmp_top {v u k : Nat} (h : v / 2 ^ (k + 1) = u / 2 ^ (k + 1)) (hne : nbit v k ≠ nbit u k) : cmp3 v u = (nbit v k : Int) - (nbit u k : Int) := by
  have e1 := div_bit v k
  have e2 := div_bit u k
  have m1 := Nat.mod_add_div v (2 ^ k)
  have m2 := Nat.mod_add_div u (2 ^ k)
  have l1 := Nat.mod_lt v (Nat.two_pow_pos k)
  have l2 := Nat.mod_lt u (Nat.two_pow_pos k)
  have b1 := nbit_two v k
  have b2 := nbit_two u k
  have h3 : v / 2 ^ k ≠ u / 2 ^ k := by omega
  have h4 : cmp3 v u = cmp3 (v / 2 ^ k) (u / 2 ^ k) := by
    rw [← cmp3_high l1 l2 h3, m1, m2]
  rw [h4]
  rcases b1 with b1 | b1 <;> rcases b2 with b2 | b2
  · exact absurd (b1.trans b2.symm) hne
  · rw [cmp3_lt (by omega), b1, b2]; rfl
  · rw [cmp3_gt (by omega), b1, b2]; rfl
  · exact absurd (b1.trans b2.symm) hne

section
variable (A A2 : Option Addr) (na ca nb cb : Nat) (a b : List Nat) (w : World)

end
end Go.Proofs.Ytgiokmfdafmaoaa

namespace Go.Proofs.Ytgiokmfdafmaoaa
open Go.RowKit Go.Shelf
set_option linter.unusedVariables false
set_option linter.unusedSimpArgs false

theorem bval_zeros (n : Nat) : bval (List.replicate n 0) = 0 := by
  induction n with
  | zero => rfl
  | succ n ih => rw [List.replicate_succ, bval, ih]
theorem bits_zeros (n : Nat) : Bits (List.replicate n 0) := fun y hy => by
  rw [List.mem_replicate] at hy; omega
theorem owni_zeros (w : World) (n : Nat) (hn : n ≤ maxLen) : OwnI (w.alloc (.cells (madeCells #[.int .i64 0] n) 3)) w.heap.size (.slice (some ⟨w.heap.size, 0, none⟩) n n) (List.replicate n 0) := by
  have e : (madeCells #[.int .i64 0] n).toList = (List.replicate n 0).map i64n := by
    apply List.ext_getElem
    · simp [madeCells]
    · intro i h1 h2
      simp [madeCells, Nat.mod_one]
  refine ⟨⟨by simp, .inr ⟨w.heap.size, n, madeCells #[.int .i64 0] n, by simp, Nat.le_refl _, World.alloc_heap_new w _, by simp, hn, by simp [madeCells], ?_⟩⟩, bits_zeros n⟩
  rw [← e, List.take_of_length_le (by simp [madeCells])]
theorem nbit_div (v b i : Nat) : nbit (v / 2 ^ b) i = nbit v (b + i) := by
  unfold nbit
  rw [Nat.div_div_eq_div_mul, ← Nat.pow_add]

section
variable (A : Option Addr) (na ca : Nat) (a : List Nat) (w : World)


end
end Go.Proofs.Ytgiokmfdafmaoaa

/- What the numbers' calls answer, as one thing for the program and for the document. -/
namespace Go.Proofs.Ytgiokmfdafmaoaa
open Go.RowKit Go.Shelf
set_option linter.unusedVariables false
set_option linter.unusedSimpArgs false

def cmpV (a b : List Nat) : Int := if both a b = true then cmp3 (val a) (val b) else 0
def subE (a b : List Nat) : Int := if both a b = true then (if val a < val b then 10 else 0) else 8
def subL (a b : List Nat) : List Nat := if both a b = true then (if val a < val b then [] else limbs (val a - val b)) else []
def wordV (a : List Nat) : Nat := if may a = true ∧ a.length ≤ 1 then lim a 0 else 0
def wordE (a : List Nat) : Int := if may a = true then (if a.length ≤ 1 then 0 else 4) else 8
def longV (a : List Nat) : Nat := if may a = true then blen (val a) else 0
def bitV (a : List Nat) (i : Int) : Nat := if may a = true then (if i < 0 then 0 else nbit (val a) i.toNat) else 0
def bitE (a : List Nat) (i : Int) : Int := if may a = true then (if i < 0 then 2 else 0) else 8
def shiftE (a : List Nat) (i : Int) : Int := if may a = true then (if i < 0 ∨ 65536 < i then 2 else 0) else 8
def upL (a : List Nat) (i : Int) : List Nat := if may a = true then (if i < 0 ∨ 65536 < i then [] else limbs (val a * 2 ^ i.toNat)) else []
def downL (a : List Nat) (i : Int) : List Nat := if may a = true then (if i < 0 ∨ 65536 < i then [] else limbs (val a / 2 ^ i.toNat)) else []


section
variable (A A2 : Option Addr) (na ca nb cb : Nat) (a b : List Nat) (w : World)

theorem cmp_spec (hra : Rd w A na a) (hrb : Rd w A2 nb b) (hna : na ≤ 1000) (hnb : nb ≤ 1000) :
    Calls Try.prog 53 #[.slice A na ca, .slice A2 nb cb] w fun e w' => e = .returned (.tuple #[.int .i64 (cmpV a b), .int .i64 (err2 a b)]) ∧ Below w.heap.size w w' := by
  cases h : both a b with
  | true => simpa [cmpV, err2, h] using cmp_ok A A2 na ca nb cb a b w hra hrb (by omega) (by omega) (by rw [both_all, h])
  | false => simpa [cmpV, err2, h] using cmp_bad A A2 na ca nb cb a b w hra hrb (by omega) (by omega) (by rw [both_all, h])
theorem add_spec (hra : Rd w A na a) (hrb : Rd w A2 nb b) (hna : na ≤ 1000) (hnb : nb ≤ 1000) :
    Calls Try.prog 52 #[.slice A na ca, .slice A2 nb cb] w (Answers w (addL a b) (err2 a b)) := by
  cases h : both a b with
  | true =>
    have e1 : addL a b = limbs (val a + val b) := by simp [addL, h]
    have e2 : err2 a b = 0 := by simp [err2, h]
    rw [e1, e2]
    exact (add_ok A A2 na ca nb cb a b w hra hrb (by omega) (by omega) (by rw [both_all, h]))
  | false =>
    have e1 : addL a b = [] := by simp [addL, h]
    have e2 : err2 a b = 8 := by simp [err2, h]
    rw [e1, e2]
    refine (add_bad A A2 na ca nb cb a b w hra hrb (by omega) (by omega) (by rw [both_all, h])).mono ?_
    rintro e w' ⟨rfl, hb⟩
    exact answers_nil hb
theorem sub_spec (hra : Rd w A na a) (hrb : Rd w A2 nb b) (hna : na ≤ 1000) (hnb : nb ≤ 1000) :
    Calls Try.prog 60 #[.slice A na ca, .slice A2 nb cb] w (Answers w (subL a b) (subE a b)) := by
  cases h : both a b with
  | true =>
    by_cases hl : val a < val b
    · have e1 : subL a b = [] := by simp [subL, h, hl]
      have e2 : subE a b = 10 := by simp [subE, h, hl]
      rw [e1, e2]
      refine (sub_less A A2 na ca nb cb a b w hra hrb (by omega) (by omega) (by rw [both_all, h]) hl).mono ?_
      rintro e w' ⟨rfl, hb⟩
      exact answers_nil hb
    · have e1 : subL a b = limbs (val a - val b) := by simp [subL, h, hl]
      have e2 : subE a b = 0 := by simp [subE, h, hl]
      rw [e1, e2]
      exact (sub_ok A A2 na ca nb cb a b w hra hrb (by omega) (by omega) (by rw [both_all, h]) (by omega))
  | false =>
    have e1 : subL a b = [] := by simp [subL, h]
    have e2 : subE a b = 8 := by simp [subE, h]
    rw [e1, e2]
    refine (sub_bad A A2 na ca nb cb a b w hra hrb (by omega) (by omega) (by rw [both_all, h])).mono ?_
    rintro e w' ⟨rfl, hb⟩
    exact answers_nil hb
/-! ### The document's -/

end
end Go.Proofs.Ytgiokmfdafmaoaa

/- The document's quotient: of words, or bit by bit. -/
namespace Go.Proofs.Ytgiokmfdafmaoaa
open Go.RowKit Go.Shelf
set_option linter.unusedVariables false
set_option linter.unusedSimpArgs false

/-! ### Rows of bits of the call's own, set in place -/
theorem owni_at {w : World} {B n c : Nat} {A : Option Addr} {l : List Nat} (h : OwnI w B (.slice A n c) l) (hn : 0 < n) : ∃ g, A = some ⟨g, 0, none⟩ ∧ B ≤ g ∧ g < w.heap.size := by
  rcases h.1.2 with ⟨e, h0⟩ | ⟨g, cap, cur, e, hg, hh, r⟩
  · cases e; omega
  · cases e
    exact ⟨g, rfl, hg, (Array.getElem?_eq_some_iff.1 hh).1⟩
theorem owni_cell {w : World} {B g n c : Nat} {l : List Nat} (h : OwnI w B (.slice (some ⟨g, 0, none⟩) n c) l) {i : Nat} (hi : i < n) : w.cell? ⟨g, i, none⟩ = some (i64n (lim l i)) ∧ w.frozen? ⟨g, i, none⟩ = false := by
  obtain ⟨A, c', e, hr, _, _⟩ := h.form
  cases e
  obtain ⟨b, off, e, hlt, hc⟩ := hr.cells (by omega)
  cases e
  refine ⟨by simpa using hc i hi, ?_⟩
  rcases h.1.2 with ⟨e, _⟩ | ⟨g', cap, cur, e, hg, hh, _⟩
  · cases e
  · cases e
    simp [World.frozen?, hh]
theorem bits_set {l : List Nat} (h : Bits l) {i v : Nat} (hv : v ≤ 1) : Bits (l.set i v) := fun y hy => by
  rcases List.mem_or_eq_of_mem_set hy with hy | rfl
  · exact h y hy
  · exact hv
theorem owni_set {w : World} {B g n c : Nat} {l : List Nat} (h : OwnI w B (.slice (some ⟨g, 0, none⟩) n c) l) {i v : Nat} (hv : v ≤ 1) : OwnI (w.setCell ⟨g, i, none⟩ (i64n v)) B (.slice (some ⟨g, 0, none⟩) n c) (l.set i v) := by
  refine ⟨⟨by simp, ?_⟩, bits_set h.2 hv⟩
  rcases h.1.2 with ⟨e, _⟩ | ⟨g', cap, cur, e, hg, hh, hnc, hc, hs, ht⟩
  · cases e
  · cases e
    refine .inr ⟨g, c, cur.setIfInBounds i (i64n v), by simp, hg, ?_, by simpa using hnc, hc, by simpa using hs, ?_⟩
    · simp [World.setCell, Array.getElem?_modify, hh]
    · rw [List.map_set, ← ht]
      simp [List.take_set]
theorem cell_lt {w : World} {p : Addr} {u : Value} (h : w.cell? p = some u) : p.block < w.heap.size := by
  unfold World.cell? at h
  cases ho : w.heap[p.block]? with
  | none => simp [ho] at h
  | some o => exact (Array.getElem?_eq_some_iff.1 ho).1
/-- What is owned from a block on is kept by stores below. -/
theorem own_far {w : World} {B : Nat} {v : Value} {l : List Nat} (h : Own w B v l) {p : Addr} (hp : p.block < B) (u : Value) : Own (w.setCell p u) B v l := by
  refine ⟨⟨h.1.1, ?_⟩, h.2⟩
  rcases h.1.2 with h2 | ⟨g, cap, cur, e, hg, hh, r⟩
  · exact .inl h2
  · exact .inr ⟨g, cap, cur, e, hg, (Below.heap_setCell w p u g (by omega)).trans hh, r⟩
theorem bval_set {l : List Nat} {i : Nat} (hi : i < l.length) (h0 : lim l i = 0) : bval (l.set i 1) = bval l + 2 ^ i := by
  induction l generalizing i with
  | nil => simp at hi
  | cons x r ih =>
    cases i with
    | zero =>
      have e : x = 0 := by simpa [lim] using h0
      subst e
      simp [bval]; omega
    | succ i =>
      have h := ih (i := i) (by simpa using hi) (by simpa [lim] using h0)
      rw [List.set_cons_succ, bval, bval, h, Nat.pow_succ]
      omega

/-! ### Quotients bit by bit -/
theorem div_of {n b k r : Nat} (hb : r < b) (h : n = r + b * k) : n / b = k ∧ n % b = r := by
  subst h
  have h0 : 0 < b := by omega
  exact ⟨by rw [Nat.add_mul_div_left _ _ h0, Nat.div_eq_of_lt hb, Nat.zero_add], by rw [Nat.add_mul_mod_self_left, Nat.mod_eq_of_lt hb]⟩
theorem over_step {V b j q r t : Nat} (hb : 0 < b) (hq : V / 2 ^ (j + 1) / b = q) (hr : V / 2 ^ (j + 1) % b = r) (ht : nbit V j = t) :
    (r * 2 + t < b → V / 2 ^ j / b = 2 * q ∧ V / 2 ^ j % b = r * 2 + t) ∧ (b ≤ r * 2 + t → V / 2 ^ j / b = 2 * q + 1 ∧ V / 2 ^ j % b = r * 2 + t - b) := by
  have e := div_bit V j
  have h1 := Nat.mod_add_div (V / 2 ^ (j + 1)) b
  rw [hq, hr] at h1
  rw [ht, ← h1] at e
  have hrb : r < b := by rw [← hr]; exact Nat.mod_lt _ hb
  have ht1 : t ≤ 1 := by have := nbit_two V j; omega
  have e2 : b * (2 * q) = 2 * (b * q) := Nat.mul_left_comm _ _ _
  have e3 : b * (2 * q + 1) = 2 * (b * q) + b := by rw [Nat.mul_add, e2, Nat.mul_one]
  constructor
  · intro h
    exact div_of h (by rw [e, e2]; omega)
  · intro h
    exact div_of (by omega) (by rw [e, e3]; omega)
-- WALKS
/-- Nothing of a number stands from its length on. -/
structure V_zero (v M b : Nat) : Prop where
  out : v / 2 ^ M = 0
theorem double_lt {r b n t : Nat} (h : r < b) (hb : b < B64 ^ n) (ht : t ≤ 1) : r * 2 ^ 1 + t < B64 ^ (n + 1) := by
  rw [Nat.pow_one, Nat.pow_succ]
  have h2 : B64 ^ n * 2 ≤ B64 ^ n * B64 := Nat.mul_le_mul_left _ B64_gt
  omega

theorem one_val : val [1] = 1 := by simp [val]
theorem cmp3_ge {x y : Nat} (h : y ≤ x) : cmp3 x y = 0 ∨ cmp3 x y = 1 := by
  rcases Nat.eq_or_lt_of_le h with rfl | h
  · exact .inl (cmp3_self _)
  · exact .inr (cmp3_gt h)

section
variable (A A2 : Option Addr) (na ca nb cb : Nat) (a : List Nat) (b : Nat) (w : World)

theorem quo_word {x y q r : Nat} (hx : x < B64) (hq : x / y = q) (hr : x % y = r) : Int.tdiv (x : Int) (y : Int) = (q : Int) ∧ (x : Int) / (y : Int) = (q : Int) ∧ Int.tmod (x : Int) (y : Int) = (r : Int) ∧ (x : Int) % (y : Int) = (r : Int) ∧ IntKind.u64.wrap (q : Int) = (q : Int) ∧ IntKind.u64.wrap (r : Int) = (r : Int) ∧ q < B64 ∧ r < B64 := by
  have h1 : q < B64 := by rw [← hq]; exact Nat.lt_of_le_of_lt (Nat.div_le_self _ _) hx
  have h2 : r < B64 := by rw [← hr]; exact Nat.lt_of_le_of_lt (Nat.mod_le _ _) hx
  have e1 : (x : Int) / (y : Int) = (q : Int) := by rw [← hq]; simp
  have e2 : (x : Int) % (y : Int) = (r : Int) := by rw [← hr]; simp
  refine ⟨?_, e1, ?_, e2, ?_, ?_, h1, h2⟩
  · rw [Int.tdiv_eq_ediv_of_nonneg (by omega)]; exact e1
  · rw [Int.tmod_eq_emod_of_nonneg (by omega)]; exact e2
  · rw [IntKind.wrap_u64]; rw [B64_eq] at h1; omega
  · rw [IntKind.wrap_u64]; rw [B64_eq] at h2; omega

theorem rOf_keep (x : Nat) (hx : x < B64) (p p2 : Addr) (u u2 : Value) (h1 : w.cell? p = some u) (h2 : w.cell? p2 = some u2) :
    Calls Try.prog 45 #[.int .u64 (x : Int)] w fun e w' => ∃ A' k c, e = .returned (.slice A' k c) ∧ Own w' w.heap.size (.slice A' k c) (limbs x) ∧ Below w.heap.size w w' ∧ w'.cell? p = some u ∧ w'.cell? p2 = some u2 :=
  (rOf_any w x hx).mono fun e w' ⟨A', k, c, he, ho, hb⟩ => ⟨A', k, c, he, ho, hb, (hb.cell (cell_lt h1)).trans h1, (hb.cell (cell_lt h2)).trans h2⟩

end
end Go.Proofs.Ytgiokmfdafmaoaa
