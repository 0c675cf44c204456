import Derived.Laws.NewBlocks
import Derived.Test.YthenngajebkboaaK17
/- Texts of one proof, one behind another: Parts Three ThreeQ Quick MulCalls Power PowCall MAlive MSpec DivSpec DNames DBack DProduct DTwice DTells. -/
/- mul's up, sum, rest: noughts below; sums and what is left of several numbers. -/
namespace Go.Proofs.Ythenngajebkboaa
open Go.RowKit Go.Shelf
set_option linter.unusedVariables false

theorem lt_of_cell? {w : World} {p : Addr} {u : Value} (h : w.cell? p = some u) : p.block < w.heap.size := by
  unfold World.cell? at h
  cases ho : w.heap[p.block]? with
  | none => simp [ho] at h
  | some o => exact (Array.getElem?_eq_some_iff.1 ho).1
/-- A slice of numbers. -/
def RowsN (w : World) (b off : Nat) (vs : List Nat) : Prop := ∀ i v, vs[i]? = some v → ∃ A n c, w.cell? ⟨b, off + i, none⟩ = some (.slice A n c) ∧ Nm w A n c v
theorem rowsN_one {w : World} {A : Option Addr} {n c v : Nat} (h : Nm w A n c v) (T : TypeId) : RowsN (w.alloc (.cells #[.slice A n c] T)) w.heap.size 0 [v] := by
  intro i l hl
  match i, hl with
  | 0, hl =>
    cases hl
    exact ⟨A, n, c, by simp, h.below ((Below.refl _ w).alloc (Nat.le_refl _) _)⟩
  | i + 1, hl => simp at hl
theorem rowsN_two {w : World} {A A2 : Option Addr} {n c n2 c2 v v2 : Nat} (h : Nm w A n c v) (h2 : Nm w A2 n2 c2 v2) (T : TypeId) : RowsN (w.alloc (.cells #[.slice A n c, .slice A2 n2 c2] T)) w.heap.size 0 [v, v2] := by
  intro i l hl
  match i, hl with
  | 0, hl =>
    cases hl
    exact ⟨A, n, c, by simp, h.below ((Below.refl _ w).alloc (Nat.le_refl _) _)⟩
  | 1, hl =>
    cases hl
    exact ⟨A2, n2, c2, by simp, h2.below ((Below.refl _ w).alloc (Nat.le_refl _) _)⟩
  | i + 2, hl => simp at hl
theorem sum_take_le (vs : List Nat) (k : Nat) : (vs.take k).sum ≤ vs.sum := by
  have e : vs.sum = (vs.take k).sum + (vs.drop k).sum := by
    conv => lhs; rw [← List.take_append_drop k vs]
    rw [List.sum_append]
  omega

end Go.Proofs.Ythenngajebkboaa

/- (mul.number).inThree: a product by three products of parts. -/
namespace Go.Proofs.Ythenngajebkboaa
open Go.RowKit Go.Shelf
set_option linter.unusedVariables false

/-- What makes products of two numbers that are together less than M. -/
def MulsAt (F : Nat) (N M : Nat) : Prop := ∀ (A : Option Addr) (n c v : Nat) (A2 : Option Addr) (n2 c2 u : Nat) (w : World), Nm w A n c v → Nm w A2 n2 c2 u → v < B64 ^ N → u < B64 ^ N → v + u < M →
  Calls Try.prog F #[.slice A n c, .slice A2 n2 c2] w fun e w' => ∃ A' k c', e = .returned (.slice A' k c') ∧ Own w' w.heap.size (.slice A' k c') (limbs (v * u)) ∧ Below w.heap.size w w'
theorem sum_one (v x : Nat) : v + [x].sum = v + x := by simp
theorem sum_two (x y : Nat) : [x, y].sum = x + y := by simp
theorem three_sizes (v u p N : Nat) (hv : v < B64 ^ N) (hu : u < B64 ^ N) :
    v % B64 ^ p * (u % B64 ^ p) < B64 ^ (2 * N) ∧ v / B64 ^ p * (u / B64 ^ p) < B64 ^ (2 * N) ∧ (v % B64 ^ p + v / B64 ^ p) * (u % B64 ^ p + u / B64 ^ p) < B64 ^ (2 * N) ∧
    (v % B64 ^ p + v / B64 ^ p) * (u % B64 ^ p + u / B64 ^ p) - (v % B64 ^ p * (u % B64 ^ p) + v / B64 ^ p * (u / B64 ^ p)) < B64 ^ (2 * N) ∧
    v % B64 ^ p * (u % B64 ^ p) + v / B64 ^ p * (u / B64 ^ p) ≤ (v % B64 ^ p + v / B64 ^ p) * (u % B64 ^ p + u / B64 ^ p) ∧
    (v % B64 ^ p * (u % B64 ^ p) + ((v % B64 ^ p + v / B64 ^ p) * (u % B64 ^ p + u / B64 ^ p) - (v % B64 ^ p * (u % B64 ^ p) + v / B64 ^ p * (u / B64 ^ p))) * B64 ^ p + v / B64 ^ p * (u / B64 ^ p) * B64 ^ (2 * p) = v * u ∧ v * u < B64 ^ (2 * N)) := by
  have hvu : v * u < B64 ^ (2 * N) := by
    rw [Nat.two_mul, Nat.pow_add]
    exact Nat.lt_of_le_of_lt (Nat.mul_le_mul_left _ (Nat.le_of_lt hu)) (Nat.mul_lt_mul_of_pos_right hv (Nat.pow_pos B64_pos))
  have hk := kara (v % B64 ^ p) (v / B64 ^ p) (u % B64 ^ p) (u / B64 ^ p) (B64 ^ p)
  have hl := kara_le (v % B64 ^ p) (v / B64 ^ p) (u % B64 ^ p) (u / B64 ^ p)
  have h1 := parts_le v p
  have h2 := parts_le u p
  rw [Nat.mod_add_div, Nat.mod_add_div] at hk
  have e : B64 ^ (2 * p) = B64 ^ p * B64 ^ p := by rw [Nat.two_mul, Nat.pow_add]
  rw [e]
  have h3 := Nat.mul_le_mul h1 h2
  have e2 : (v % B64 ^ p + v / B64 ^ p) * (u % B64 ^ p + u / B64 ^ p) - (v % B64 ^ p * (u % B64 ^ p) + v / B64 ^ p * (u / B64 ^ p)) = (v % B64 ^ p + v / B64 ^ p) * (u % B64 ^ p + u / B64 ^ p) - v % B64 ^ p * (u % B64 ^ p) - v / B64 ^ p * (u / B64 ^ p) := by omega
  refine ⟨by omega, by omega, by omega, by omega, by omega, ?_, hvu⟩
  rw [e2]
  exact hk

end Go.Proofs.Ythenngajebkboaa

/- (mul.number).inThree, by quick. -/
namespace Go.Proofs.Ythenngajebkboaa
open Go.RowKit Go.Shelf
set_option linter.unusedVariables false

end Go.Proofs.Ythenngajebkboaa

/- (mul.number).split and quick: products, whichever way. -/
namespace Go.Proofs.Ythenngajebkboaa
open Go.RowKit Go.Shelf
set_option linter.unusedVariables false

end Go.Proofs.Ythenngajebkboaa

/- mul's mayBe, product, and the three calls that make products. -/
namespace Go.Proofs.Ythenngajebkboaa
open Go.RowKit Go.Shelf
set_option linter.unusedVariables false

end Go.Proofs.Ythenngajebkboaa

/- (mul.number).power and mul.Pow. -/
namespace Go.Proofs.Ythenngajebkboaa
open Go.RowKit Go.Shelf
set_option linter.unusedVariables false

theorem i64_and1 (n : Int) : bits .and .i64 n 1 = n % 2 := by
  have h1 : (BitVec.ofInt 64 1).toNat = 2 ^ 1 - 1 := by decide
  have key : (BitVec.ofInt 64 n &&& BitVec.ofInt 64 1).toNat = (n % ((2 ^ 64 : Nat) : Int)).toNat % 2 ^ 1 := by
    rw [BitVec.toNat_and, BitVec.toNat_ofInt, h1, Nat.and_two_pow_sub_one_eq_mod]
  show IntKind.i64.wrap ((BitVec.ofInt 64 n &&& BitVec.ofInt 64 1).toNat : Nat) = n % 2
  rw [key, IntKind.wrap_i64]
  omega
theorem i64_bit (n j : Nat) : bits .and .i64 ((n : Int) / 2 ^ j) 1 = ((n / 2 ^ j % 2 : Nat) : Int) := by
  rw [i64_and1]
  have e3 : ((n : Nat) : Int) / 2 ^ j = ((n / 2 ^ j : Nat) : Int) := by simp
  rw [e3]; omega
theorem half_step (n j : Nat) : n / 2 ^ j = 2 * (n / 2 ^ (j + 1)) + n / 2 ^ j % 2 := by
  rw [Nat.pow_succ, ← Nat.div_div_eq_div_mul]; omega
theorem pow_sq (v q : Nat) : v ^ q * v ^ q = v ^ (2 * q) := by rw [Nat.two_mul, Nat.pow_add]
theorem limbs_one : limbs 1 = [1] := by
  have h := limbs_val (l := [1]) (words_cons B64_gt words_nil) rfl
  simpa [val] using h
theorem row_new1 (w : World) : RowL (w.alloc (.cells #[u64 1] 27)) w.heap.size [1] := by
  unfold RowL
  rw [World.alloc_heap_new]
  rfl

end Go.Proofs.Ythenngajebkboaa

/- mul.Pow: powers, and what is refused. -/
namespace Go.Proofs.Ythenngajebkboaa
open Go.RowKit Go.Shelf
set_option linter.unusedVariables false

theorem pow_fits {v n k N : Nat} (hb : n * blen v ≤ 65536) (hk : k ≤ n) (hN : 1025 ≤ N) : v ^ k < B64 ^ N := by
  have h1 : v ^ k ≤ (2 ^ blen v) ^ k := Nat.pow_le_pow_left (Nat.le_of_lt (blen_lt v)) k
  rw [← Nat.pow_mul] at h1
  have h2 : blen v * k ≤ 65536 := Nat.le_trans (by rw [Nat.mul_comm]; exact Nat.mul_le_mul_right _ hk) hb
  obtain ⟨M, hM⟩ : ∃ M, M = 1024 := ⟨_, rfl⟩
  have h3 : 2 ^ (blen v * k) ≤ B64 ^ M := pow_le_B64 (by omega)
  have h4 : B64 ^ M < B64 ^ N := Nat.pow_lt_pow_right B64_gt (by omega)
  exact Nat.lt_of_le_of_lt (Nat.le_trans h1 h3) h4
theorem nm_lt {w : World} {A : Option Addr} {n c v N : Nat} (h : Nm w A n c v) (hn : n ≤ N) : v < B64 ^ N := Nat.lt_of_lt_of_le h.lt (Nat.pow_le_pow_right B64_pos hn)

section
variable (A : Option Addr) (na ca : Nat) (w : World)

theorem quo_nat {n q : Nat} (h : 65536 / n = q) : Int.tdiv 65536 (n : Int) = (q : Int) := by
  rw [Int.tdiv_eq_ediv_of_nonneg (by omega), ← h]; rfl
theorem quo_wrap {n q : Nat} (h : 65536 / n = q) : wrap64 (q : Int) = (q : Int) := by
  have h1 : q ≤ 65536 := by rw [← h]; exact Nat.div_le_self _ _
  exact IntWalk.wrap64_in _ ⟨by omega, by omega⟩

end
end Go.Proofs.Ythenngajebkboaa

/- The law MulNames, and the chapter's first examples. -/
namespace Go.Proofs.Ythenngajebkboaa
open Go.RowKit Go.Shelf
set_option linter.unusedVariables false

section
variable (A A2 : Option Addr) (na ca nb cb v u : Nat) (w : World)
end

theorem nm_new1 (w : World) (x : Nat) (T : TypeId) (hx : x < B64) (h0 : (x != 0) = true) : Nm (w.alloc (.cells #[u64 x] T)) (some ⟨w.heap.size, 0, none⟩) 1 1 x := by
  have h := nm_of (c := 1) (rd_new1 w x T hx) (by simpa [may] using h0) (by omega) (by omega)
  simpa [val] using h
theorem nm_new2 (w : World) (x y : Nat) (T : TypeId) (hx : x < B64) (hy : y < B64) (h0 : (y != 0) = true) : Nm (w.alloc (.cells #[u64 x, u64 y] T)) (some ⟨w.heap.size, 0, none⟩) 2 2 (x + B64 * y) := by
  have h := nm_of (c := 2) (rd_new2 w x y T hx hy) (by simpa [may] using h0) (by omega) (by omega)
  simpa [val] using h
/-- 2^64 - 2. -/
def top2 : Nat := 18446744073709551614
theorem top2_lt : top2 < B64 := by unfold top2; rw [B64_eq]; omega
theorem top2_cast : ((top2 : Nat) : Int) = 18446744073709551614 := rfl
theorem top_ne : (top != 0) = true := rfl
theorem top_sq : limbs (top * top) = [1, top2] := by
  have e : top * top = val [1, top2] := by simp [val, B64_eq, top, top2]
  rw [e]
  exact limbs_val (words_cons B64_gt (words_cons top2_lt words_nil)) rfl
/-- 10^20's lower limb. -/
def ten20 : Nat := 7766279631452241920
theorem ten20_lt : ten20 < B64 := by unfold ten20; rw [B64_eq]; omega
theorem ten20_cast : ((ten20 : Nat) : Int) = 7766279631452241920 := rfl
theorem ten_pow : limbs (10 ^ 20) = [ten20, 5] := by
  have e : 10 ^ 20 = val [ten20, 5] := by simp [val, B64_eq, ten20]
  rw [e]
  exact limbs_val (words_cons ten20_lt (words_cons (small_lt (by omega)) words_nil)) rfl
theorem ten_len : 20 * blen 10 ≤ 65536 := by
  have := blen_le (v := 10) (k := 4) (by omega)
  omega
theorem five_zero : limbs (0 * 5) = [] := by rw [Nat.zero_mul, limbs_zero]

theorem two64_many : 65536 < 1024 * blen (0 + B64 * 1) := by
  have : blen (0 + B64 * 1) = 65 := by
    apply blen_eq <;> rw [B64_eq] <;> simp
  omega

end Go.Proofs.Ythenngajebkboaa

/- The calls of mul and nat by numbers, for laws. -/
namespace Go.Proofs.Ythenngajebkboaa
open Go.RowKit Go.Shelf
set_option linter.unusedVariables false

section
variable (A A2 : Option Addr) (na ca nb cb v u : Nat) (w : World)
theorem add_nm (hva : Nm w A na ca v) (hub : Nm w A2 nb cb u) (hna : na ≤ 100000) (hnb : nb ≤ 100000) :
    Calls Try.prog 19 #[.slice A na ca, .slice A2 nb cb] w fun e w' => ∃ A' k c, e = .returned (.tuple #[.slice A' k c, .int .i64 0]) ∧ Own w' w.heap.size (.slice A' k c) (limbs (v + u)) ∧ Below w.heap.size w w' := by
  have h := add_ok A A2 na ca nb cb (limbs v) (limbs u) w hva.rd hub.rd (by omega) (by omega) (by simp [may_limbs])
  rwa [val_limbs, val_limbs] at h
theorem same_eq (hva : Nm w A na ca v) (hub : Nm w A2 nb cb u) (hna : na ≤ 100000) (hnb : nb ≤ 100000) (h : v = u) :
    Calls Try.prog 12 #[.slice A na ca, .slice A2 nb cb] w fun e w' => e = .returned (.bool true) ∧ Below w.heap.size w w' := by
  subst h
  have h := same_any A A2 na ca nb cb (limbs v) (limbs v) w hva.rd hub.rd (by omega) (by omega)
  rwa [decide_eq_true rfl] at h
theorem up_nm (b : Nat) (hva : Nm w A na ca v) (hna : na ≤ 100000) (hb : b ≤ 65536) :
    Calls Try.prog 58 #[.slice A na ca, .int .i64 (b : Int)] w fun e w' => ∃ A' k c, e = .returned (.tuple #[.slice A' k c, .int .i64 0]) ∧ Own w' w.heap.size (.slice A' k c) (limbs (v * 2 ^ b)) ∧ Below w.heap.size w w' := by
  have h := up_ok A na ca (limbs v) b _ _ w hva.rd (by omega) (may_limbs v) hb rfl rfl
  rwa [val_limbs] at h
variable {A A2 : Option Addr} {na ca nb cb v u : Nat} {w w2 : World}
theorem mul_len (hva : Nm w A na ca v) (hub : Nm w2 A2 nb cb u) : (limbs (v * u)).length ≤ na + nb := by
  apply limbs_length_le
  rw [Nat.pow_add]
  exact Nat.lt_of_le_of_lt (Nat.mul_le_mul_left _ (Nat.le_of_lt hub.lt)) (Nat.mul_lt_mul_of_pos_right hva.lt (Nat.pow_pos B64_pos))
theorem add_len (hva : Nm w A na ca v) (hub : Nm w2 A2 nb cb u) {n : Nat} (h1 : na ≤ n) (h2 : nb ≤ n) : (limbs (v + u)).length ≤ n + 1 := by
  have h := length_le_of_val (words_limbs v) (words_limbs u) (n := n) (by rw [hva.rd.len]; exact h1) (by rw [hub.rd.len]; exact h2)
  rwa [val_limbs, val_limbs] at h
theorem pow_len (hva : Nm w A na ca v) {n N : Nat} (h : na * n ≤ N) : (limbs (v ^ n)).length ≤ N + 1 := by
  apply limbs_length_le
  have h1 := Nat.pow_le_pow_left (Nat.le_of_lt hva.lt) n
  rw [← Nat.pow_mul] at h1
  exact Nat.lt_of_le_of_lt h1 (Nat.pow_lt_pow_right B64_gt (by omega))
theorem up_len (hva : Nm w A na ca v) {b : Nat} (hb : b ≤ 2000) : (limbs (v * 2 ^ b)).length ≤ na + 32 := by
  have h := length_shift (words_limbs v) (n := na) (b := b) (by rw [hva.rd.len]; exact Nat.le_refl _) hb
  rwa [val_limbs] at h
theorem nm_blen (hva : Nm w A na ca v) {n : Nat} (h : na ≤ n) : blen v ≤ 64 * n := by
  apply blen_le
  rw [← B64_pow]
  exact Nat.lt_of_lt_of_le hva.lt (Nat.pow_le_pow_right B64_pos h)
end
section
variable (A A2 : Option Addr) (na ca nb cb : Nat) (a b : List Nat) (w : World)
/-- mul's Mul, whatever the numbers are. -/
def mulL (a b : List Nat) : List Nat := if both a b = true then limbs (val a * val b) else []
end
end Go.Proofs.Ythenngajebkboaa

/- What div's calls and the document answer: quotients, what is left over, errors. -/
namespace Go.Proofs.Ythenngajebkboaa
open Go.RowKit Go.Shelf
set_option linter.unusedVariables false
set_option linter.unusedSimpArgs false

def divE (a b : List Nat) : Int := if both a b = true then (if b = [] then 30 else 0) else 8
def quoL (a b : List Nat) : List Nat := if divE a b = 0 then limbs (val a / val b) else []
def remL (a b : List Nat) : List Nat := if divE a b = 0 then limbs (val a % val b) else []
def exactE (a b : List Nat) : Int := if divE a b = 0 then (if val a % val b = 0 then 0 else 6) else divE a b
def exactL (a b : List Nat) : List Nat := if exactE a b = 0 then limbs (val a / val b) else []

/-- A call has answered the numbers Q and R, each of its own, and the error's number E. -/
def Answers2 (w : World) (Q R : List Nat) (E : Int) (e : Ending) (w' : World) : Prop :=
  ∃ A k c A2 k2 c2, e = .returned (.tuple #[.slice A k c, .slice A2 k2 c2, .int .i64 E]) ∧ Own w' w.heap.size (.slice A k c) Q ∧ Own w' w.heap.size (.slice A2 k2 c2) R ∧ Below w.heap.size w w'
theorem answers2_nil {w w' : World} {E : Int} (h : Below w.heap.size w w') : Answers2 w [] [] E (.returned (.tuple #[.slice none 0 0, .slice none 0 0, .int .i64 E])) w' :=
  ⟨none, 0, 0, none, 0, 0, rfl, own_nil _ _, own_nil _ _, h⟩

/-- A call that is Div, or Long. -/
def DivIs (F : Nat) : Prop := ∀ (A A2 : Option Addr) (na ca nb cb : Nat) (a b : List Nat) (w : World), Rd w A na a → Rd w A2 nb b → na ≤ 1000 → nb ≤ 1000 → (na ≤ ca ∧ ca ≤ 9223372036854775807) → (nb ≤ cb ∧ cb ≤ 9223372036854775807) →
  Calls Try.prog F #[.slice A na ca, .slice A2 nb cb] w (Answers2 w (quoL a b) (remL a b) (divE a b))
/-- A call that is Word. -/
def WordIs (F : Nat) : Prop := ∀ (A : Option Addr) (na ca : Nat) (a : List Nat) (x : Nat) (w : World), Rd w A na a → x < B64 → na ≤ 1000 → (na ≤ ca ∧ ca ≤ 9223372036854775807) →
  Calls Try.prog F #[.slice A na ca, .int .u64 (x : Int)] w fun e w' => ∃ A' k c, e = .returned (.tuple #[.slice A' k c, .int .u64 ((val (remL a (limbs x)) : Nat) : Int), .int .i64 (divE a (limbs x))]) ∧ Own w' w.heap.size (.slice A' k c) (quoL a (limbs x)) ∧ Below w.heap.size w w'
/-- A call that is Exact. -/
def ExactIs (F : Nat) : Prop := ∀ (A A2 : Option Addr) (na ca nb cb : Nat) (a b : List Nat) (w : World), Rd w A na a → Rd w A2 nb b → na ≤ 1000 → nb ≤ 1000 → (na ≤ ca ∧ ca ≤ 9223372036854775807) → (nb ≤ cb ∧ cb ≤ 9223372036854775807) →
  Calls Try.prog F #[.slice A na ca, .slice A2 nb cb] w (Answers w (exactL a b) (exactE a b))

section
variable {a b : List Nat}
theorem divE_ok (ha : may a = true) (hb : may b = true) (h : b ≠ []) : divE a b = 0 := by simp [divE, both, ha, hb, h]
theorem divE_zero (ha : may a = true) : divE a [] = 30 := by simp [divE, both, ha, show may [] = true from rfl]
theorem divE_bad (h : both a b = false) : divE a b = 8 := by simp [divE, h]
theorem divE_cases (a b : List Nat) : (divE a b = 0 ∧ may a = true ∧ may b = true ∧ b ≠ []) ∨ (divE a b = 30 ∧ may a = true ∧ b = []) ∨ (divE a b = 8 ∧ both a b = false) := by
  unfold divE
  cases h : both a b with
  | false => simp
  | true =>
    have hm : may a = true ∧ may b = true := by simpa [both] using h
    by_cases hb : b = []
    · subst hb; simp [hm.1]
    · simp [hb, hm.1, hm.2]
theorem quoL_ok (h : divE a b = 0) : quoL a b = limbs (val a / val b) := by simp [quoL, h]
theorem remL_ok (h : divE a b = 0) : remL a b = limbs (val a % val b) := by simp [remL, h]
theorem quoL_no (h : divE a b ≠ 0) : quoL a b = [] := by simp [quoL, h]
theorem remL_no (h : divE a b ≠ 0) : remL a b = [] := by simp [remL, h]
theorem quo_len (hw : Words a) : (quoL a b).length ≤ a.length := by
  unfold quoL
  split
  · exact length_of_le hw (Nat.div_le_self _ _)
  · simp
theorem rem_len (hw : Words a) : (remL a b).length ≤ a.length := by
  unfold remL
  split
  · exact length_of_le hw (Nat.mod_le _ _)
  · simp
end

theorem one_limb {a : List Nat} (h : a.length = 1) : ∃ x, a = [x] := by
  match a, h with
  | [x], _ => exact ⟨x, rfl⟩
theorem int_ne1 {n : Nat} (h : n ≠ 1) : ((n : Int) == 1) = false := by simp; omega

section
variable (A A2 : Option Addr) (na ca nb cb : Nat) (a b : List Nat) (w : World)
/-- The document's Over. -/
theorem over_any (hra : Rd w A na a) (hrb : Rd w A2 nb b) (hna : na ≤ 900) (hnb : nb ≤ 900) (hm : may b = true) (hb : b ≠ []) :
    Calls Try.prog 27 #[.slice A na ca, .slice A2 nb cb] w fun e w' => ∃ A' k c A3 k3 c3, e = .returned (.tuple #[.slice A' k c, .slice A3 k3 c3]) ∧ Own w' w.heap.size (.slice A' k c) (limbs (val a / val b)) ∧ Own w' w.heap.size (.slice A3 k3 c3) (limbs (val a % val b)) ∧ Below w.heap.size w w' := by
  by_cases h : na = 1 ∧ nb = 1
  · obtain ⟨rfl, rfl⟩ := h
    obtain ⟨x, rfl⟩ := one_limb hra.len
    obtain ⟨y, rfl⟩ := one_limb hrb.len
    have hy : y ≠ 0 := by simpa [may] using hm
    have e1 : val [x] = x := by simp [val]
    have e2 : val [y] = y := by simp [val]
    rw [e1, e2]
    exact over_word A A2 ca cb w x y hra hrb hy
  · have hb0 : 0 < val b := val_pos hm hb
    rw [← limbs_val hrb.words hm] at hrb
    refine over_bits A A2 na ca nb cb a (val b) w hra hrb hna hnb hb0 ?_
    by_cases h1 : na = 1
    · right
      exact ⟨by rw [h1]; rfl, int_ne1 (fun h2 => h ⟨h1, h2⟩)⟩
    · left
      exact int_ne1 h1

set_option maxRecDepth 100000 in
set_option maxHeartbeats 1000000 in
/-- The document's Div. -/
theorem rDiv_spec (hra : Rd w A na a) (hrb : Rd w A2 nb b) (hna : na ≤ 900) (hnb : nb ≤ 900) :
    Calls Try.prog 14 #[.slice A na ca, .slice A2 nb cb] w (Answers2 w (quoL a b) (remL a b) (divE a b)) := by
  rcases divE_cases a b with ⟨he, hma, hmb, hb⟩ | ⟨he, hma, rfl⟩ | ⟨he, hbo⟩
  · rw [quoL_ok he, remL_ok he, he]
    have hn0 : ((nb : Int) == 0) = false := by
      have : nb ≠ 0 := fun h => hb (List.eq_nil_of_length_eq_zero (by rw [hrb.len]; exact h))
      simp; omega
    have HA := Lib.hid hma
    have HB := Lib.hid hmb
    have HN := Lib.hid hb
    clear he hma hmb hb
    go_enter Try.func14, Try.ntmps14
    go_wp2_with fail
    refine (rMay_any A na ca a _ hra (by omega)).mono ?_
    rw [HA.out]
    rintro e w1 ⟨rfl, rfl⟩
    go_wp2_with fail
    refine (rMay_any A2 nb cb b _ hrb (by omega)).mono ?_
    rw [HB.out]
    rintro e w1 ⟨rfl, rfl⟩
    go_wp2_with fail
    refine (over_any A A2 na ca nb cb a b _ hra hrb hna hnb HB.out HN.out).mono ?_
    rintro e w1 ⟨A3, k3, c3, A4, k4, c4, rfl, o3, o4, hb1⟩
    go_wp2_with fail
    go_ret3
    exact ⟨_, _, _, _, _, _, rfl, o3, o4, hb1⟩
  · rw [quoL_no (by rw [he]; omega), remL_no (by rw [he]; omega), he]
    obtain rfl : nb = 0 := by have := hrb.len; simp at this; omega
    have HA := Lib.hid hma
    have HB : Hid (may [] = true) := rfl
    clear he hma
    go_enter Try.func14, Try.ntmps14
    go_wp2_with fail
    refine (rMay_any A na ca a _ hra (by omega)).mono ?_
    rw [HA.out]
    rintro e w1 ⟨rfl, rfl⟩
    go_wp2_with fail
    refine (rMay_any A2 0 cb [] _ hrb (by omega)).mono ?_
    rw [HB.out]
    rintro e w1 ⟨rfl, rfl⟩
    go_wp2_with fail
    go_ret3
    exact answers2_nil (Below.refl _ _)
  · rw [quoL_no (by rw [he]; omega), remL_no (by rw [he]; omega), he]
    cases hma : may a with
    | false =>
      have HA := Lib.hid hma
      clear he hma hbo
      go_enter Try.func14, Try.ntmps14
      go_wp2_with fail
      refine (rMay_any A na ca a _ hra (by omega)).mono ?_
      rw [HA.out]
      rintro e w1 ⟨rfl, rfl⟩
      go_wp2_with fail
      go_ret3
      exact answers2_nil (Below.refl _ _)
    | true =>
      have hmb : may b = false := by simpa [both, hma] using hbo
      have HA := Lib.hid hma
      have HB := Lib.hid hmb
      clear he hma hbo hmb
      go_enter Try.func14, Try.ntmps14
      go_wp2_with fail
      refine (rMay_any A na ca a _ hra (by omega)).mono ?_
      rw [HA.out]
      rintro e w1 ⟨rfl, rfl⟩
      go_wp2_with fail
      refine (rMay_any A2 nb cb b _ hrb (by omega)).mono ?_
      rw [HB.out]
      rintro e w1 ⟨rfl, rfl⟩
      go_wp2_with fail
      go_ret3
      exact answers2_nil (Below.refl _ _)

set_option maxRecDepth 100000 in
set_option maxHeartbeats 1000000 in
/-- The document's Exact. -/
theorem rExact_spec (hra : Rd w A na a) (hrb : Rd w A2 nb b) (hna : na ≤ 900) (hnb : nb ≤ 900) :
    Calls Try.prog 16 #[.slice A na ca, .slice A2 nb cb] w (Answers w (exactL a b) (exactE a b)) := by
  have hD := rDiv_spec A A2 na ca nb cb a b w hra hrb hna hnb
  have HD := Lib.hid hD
  clear hD
  by_cases he : divE a b = 0
  · by_cases hz : val a % val b = 0
    · have e2 : exactE a b = 0 := by simp [exactE, he, hz]
      have e3 : exactL a b = quoL a b := by simp [exactL, e2, quoL_ok he]
      have e4 : (remL a b).length = 0 := by rw [remL_ok he, hz, limbs_zero]; rfl
      rw [e2, e3]
      have HE := Lib.hid he
      have H4 := Lib.hid e4
      clear he hz e2 e3 e4
      go_enter Try.func16, Try.ntmps16
      go_wp2_with fail
      refine HD.out.mono ?_
      rw [HE.out]
      rintro e w1 ⟨A3, k3, c3, A4, k4, c4, rfl, o3, o4, hb1⟩
      obtain rfl : k4 = 0 := by have h1 := o4.rd.2.1; have h2 := H4.out; omega
      clear o4
      go_wp2_with fail
      go_ret2
      exact ⟨_, _, _, rfl, o3, hb1⟩
    · have e2 : exactE a b = 6 := by simp [exactE, he, hz]
      have e3 : exactL a b = [] := by simp [exactL, e2]
      have e4 : 0 < (remL a b).length := by
        rw [remL_ok he]
        exact Nat.pos_of_ne_zero (fun h => hz (limbs_eq_nil.1 (List.eq_nil_of_length_eq_zero h)))
      rw [e2, e3]
      have HE := Lib.hid he
      have H4 := Lib.hid e4
      clear he hz e2 e3 e4
      go_enter Try.func16, Try.ntmps16
      go_wp2_with fail
      refine HD.out.mono ?_
      rw [HE.out]
      rintro e w1 ⟨A3, k3, c3, A4, k4, c4, rfl, o3, o4, hb1⟩
      have hk4 : (0 : Int) < (k4 : Int) := by have h1 := o4.rd.2.1; have h2 := H4.out; omega
      clear o4 o3
      go_wp2_with fail
      go_ret2
      exact answers_nil hb1
  · have e2 : exactE a b = divE a b := by simp [exactE, he]
    have e3 : exactL a b = [] := by simp [exactL, e2, he]
    have hne : (divE a b != 0) = true := by simpa using he
    rw [e2, e3]
    clear e2 e3 he
    generalize divE a b = E at *
    go_enter Try.func16, Try.ntmps16
    go_wp2_with fail
    refine HD.out.mono ?_
    rintro e w1 ⟨A3, k3, c3, A4, k4, c4, rfl, o3, o4, hb1⟩
    clear o4 o3
    go_wp2_with fail
    go_ret2
    exact answers_nil hb1
end
end Go.Proofs.Ythenngajebkboaa

/- Div by numbers; the law DivNames. -/
namespace Go.Proofs.Ythenngajebkboaa
open Go.RowKit Go.Shelf
set_option linter.unusedVariables false
set_option linter.unusedSimpArgs false

section
variable {F : Nat} (A A2 : Option Addr) (na ca nb cb v u : Nat) (w : World)
theorem div_nm (hD : DivIs F) (hva : Nm w A na ca v) (hub : Nm w A2 nb cb u) (hu : u ≠ 0) (hna : na ≤ 1000) (hnb : nb ≤ 1000) :
    Calls Try.prog F #[.slice A na ca, .slice A2 nb cb] w fun e w' => ∃ A k c A2 k2 c2, e = .returned (.tuple #[.slice A k c, .slice A2 k2 c2, .int .i64 0]) ∧ Own w' w.heap.size (.slice A k c) (limbs (v / u)) ∧ Own w' w.heap.size (.slice A2 k2 c2) (limbs (v % u)) ∧ Below w.heap.size w w' := by
  have e : divE (limbs v) (limbs u) = 0 := divE_ok (may_limbs v) (may_limbs u) (fun h => hu (limbs_eq_nil.1 h))
  have h := hD A A2 na ca nb cb (limbs v) (limbs u) w hva.rd hub.rd hna hnb ⟨hva.nc, hva.cm⟩ ⟨hub.nc, hub.cm⟩
  rw [quoL_ok e, remL_ok e, e, val_limbs, val_limbs] at h
  exact h
theorem div_none (hD : DivIs F) (hva : Nm w A na ca v) (hna : na ≤ 1000) :
    Calls Try.prog F #[.slice A na ca, .slice none 0 0] w fun e w' => ∃ A k c A2 k2 c2, e = .returned (.tuple #[.slice A k c, .slice A2 k2 c2, .int .i64 30]) ∧ Own w' w.heap.size (.slice A k c) [] ∧ Own w' w.heap.size (.slice A2 k2 c2) [] ∧ Below w.heap.size w w' := by
  have e : divE (limbs v) [] = 30 := divE_zero (may_limbs v)
  have h := hD A none na ca 0 0 (limbs v) [] w hva.rd (rd_nil w none) hna (by omega) ⟨hva.nc, hva.cm⟩ ⟨by omega, by omega⟩
  rw [quoL_no (by rw [e]; omega), remL_no (by rw [e]; omega), e] at h
  exact h
theorem exact_nm (hE : ExactIs F) (hva : Nm w A na ca v) (hub : Nm w A2 nb cb u) (hu : u ≠ 0) (hm : v % u = 0) (hna : na ≤ 1000) (hnb : nb ≤ 1000) :
    Calls Try.prog F #[.slice A na ca, .slice A2 nb cb] w fun e w' => ∃ A k c, e = .returned (.tuple #[.slice A k c, .int .i64 0]) ∧ Own w' w.heap.size (.slice A k c) (limbs (v / u)) ∧ Below w.heap.size w w' := by
  have e : divE (limbs v) (limbs u) = 0 := divE_ok (may_limbs v) (may_limbs u) (fun h => hu (limbs_eq_nil.1 h))
  have e2 : exactE (limbs v) (limbs u) = 0 := by simp [exactE, e, val_limbs, hm]
  have e3 : exactL (limbs v) (limbs u) = limbs (v / u) := by simp [exactL, e2, val_limbs]
  have h := hE A A2 na ca nb cb (limbs v) (limbs u) w hva.rd hub.rd hna hnb ⟨hva.nc, hva.cm⟩ ⟨hub.nc, hub.cm⟩
  rw [e2, e3] at h
  exact h
theorem exact_none (hE : ExactIs F) (hva : Nm w A na ca v) (hub : Nm w A2 nb cb u) (hu : u ≠ 0) (hm : v % u ≠ 0) (hna : na ≤ 1000) (hnb : nb ≤ 1000) :
    Calls Try.prog F #[.slice A na ca, .slice A2 nb cb] w fun e w' => ∃ A k c, e = .returned (.tuple #[.slice A k c, .int .i64 6]) ∧ Own w' w.heap.size (.slice A k c) [] ∧ Below w.heap.size w w' := by
  have e : divE (limbs v) (limbs u) = 0 := divE_ok (may_limbs v) (may_limbs u) (fun h => hu (limbs_eq_nil.1 h))
  have e2 : exactE (limbs v) (limbs u) = 6 := by simp [exactE, e, val_limbs, hm]
  have e3 : exactL (limbs v) (limbs u) = [] := by simp [exactL, e2]
  have h := hE A A2 na ca nb cb (limbs v) (limbs u) w hva.rd hub.rd hna hnb ⟨hva.nc, hva.cm⟩ ⟨hub.nc, hub.cm⟩
  rw [e2, e3] at h
  exact h
theorem cmp_nm (hva : Nm w A na ca v) (hub : Nm w A2 nb cb u) (hna : na ≤ 1000) (hnb : nb ≤ 1000) :
    Calls Try.prog 21 #[.slice A na ca, .slice A2 nb cb] w fun e w' => e = .returned (.tuple #[.int .i64 (cmp3 v u), .int .i64 0]) ∧ Below w.heap.size w w' := by
  have h := cmp_ok A A2 na ca nb cb (limbs v) (limbs u) w hva.rd hub.rd (by omega) (by omega) (by simp [may_limbs])
  rwa [val_limbs, val_limbs] at h
theorem check_nm (hva : Nm w A na ca v) (hna : na ≤ 1000) :
    Calls Try.prog 18 #[.slice A na ca] w fun e w' => e = .returned (.int .i64 0) ∧ Below w.heap.size w w' := by
  have h := check_any A na ca (limbs v) w hva.rd (by omega)
  rwa [bad_zero (by simp [may_limbs])] at h
theorem times_nm (hva : Nm w A na ca v) (hub : Nm w A2 nb cb u) (hna : na ≤ 1000) (hnb : nb ≤ 1000) :
    Calls Try.prog 20 #[.slice A na ca, .slice A2 nb cb] w fun e w' => ∃ A k c, e = .returned (.slice A k c) ∧ Own w' w.heap.size (.slice A k c) (limbs (v * u)) ∧ Below w.heap.size w w' := by
  have h := times_any A A2 na ca nb cb (limbs v) (limbs u) w hva.rd hub.rd (by omega) (by omega)
  rwa [val_limbs, val_limbs] at h
variable {A A2 : Option Addr} {na ca nb cb v u : Nat} {w w2 : World}
theorem div_len (hva : Nm w A na ca v) (u : Nat) : (limbs (v / u)).length ≤ na := by
  have := length_of_le (words_limbs v) (n := v / u) (by rw [val_limbs]; exact Nat.div_le_self _ _)
  rwa [hva.rd.len] at this
theorem mod_len (hva : Nm w A na ca v) (u : Nat) : (limbs (v % u)).length ≤ na := by
  have := length_of_le (words_limbs v) (n := v % u) (by rw [val_limbs]; exact Nat.mod_le _ _)
  rwa [hva.rd.len] at this
end
theorem nm_at1 (w : World) (g : Nat) (hg : w.heap.size = g) (x : Nat) (T : TypeId) (hx : x < B64) (h0 : (x != 0) = true) : Nm (w.alloc (.cells #[u64 x] T)) (some ⟨g, 0, none⟩) 1 1 x := by
  subst hg; exact nm_new1 w x T hx h0
theorem nm_at2 (w : World) (g : Nat) (hg : w.heap.size = g) (x y : Nat) (T : TypeId) (hx : x < B64) (hy : y < B64) (h0 : (y != 0) = true) : Nm (w.alloc (.cells #[u64 x, u64 y] T)) (some ⟨g, 0, none⟩) 2 2 (x + B64 * y) := by
  subst hg; exact nm_new2 w x y T hx hy h0
theorem nm_at3 (w : World) (g : Nat) (hg : w.heap.size = g) (T : TypeId) : Nm (w.alloc (.cells #[u64 0, u64 0, u64 1] T)) (some ⟨g, 0, none⟩) 3 3 (B64 * B64) := by
  subst hg
  have h : Rd (w.alloc (.cells #[u64 0, u64 0, u64 1] T)) (some ⟨w.heap.size, 0, none⟩) 3 [0, 0, 1] :=
    ⟨rfl, words_cons B64_pos (words_cons B64_pos (words_cons B64_gt words_nil)), fun _ => ⟨w.heap.size, 0, rfl, by simp, fun i hi => by
      rcases (by omega : i = 0 ∨ i = 1 ∨ i = 2) with rfl | rfl | rfl <;> simp [lim]⟩⟩
  have h2 := nm_of (c := 3) h rfl (by omega) (by omega)
  simpa [val] using h2
theorem Nm.al {w : World} {A : Option Addr} {n c v : Nat} (h : Nm w A n c v) (o : Obj) : Nm (w.alloc o) A n c v := h.below ((Below.refl _ w).alloc (Nat.le_refl _) o)

set_option maxRecDepth 100000 in
set_option maxHeartbeats 2500000 in
theorem gives_true (hD : DivIs 13) (hL : DivIs 15) (A A2 A3 A4 : Option Addr) (na ca nb cb nc cc nd cd v u x y : Nat) (w : World) (hva : Nm w A na ca v) (hub : Nm w A2 nb cb u) (hxc : Nm w A3 nc cc x) (hyd : Nm w A4 nd cd y) (h1 : na ≤ 1000) (h2 : nb ≤ 1000) (h3 : nc ≤ 1000) (h4 : nd ≤ 1000)
    (hu : u ≠ 0) (hq : v / u = x) (hr : v % u = y) :
    Calls Try.prog 11 #[.slice A na ca, .slice A2 nb cb, .slice A3 nc cc, .slice A4 nd cd] w fun e w' => e = .returned (.bool true) ∧ Below w.heap.size w w' := by
  have ld := div_len hva u
  have lm := mod_len hva u
  have HQ := Lib.hid hq
  have HR := Lib.hid hr
  clear hq hr
  go_enter Try.func11, Try.ntmps11
  go_wp2_with fail
  refine (div_nm A A2 na ca nb cb v u _ hD hva hub hu (by omega) (by omega)).mono ?_
  rintro e w1 ⟨Aq, kq, cq, Ar, kr, cr, rfl, oq, or, hb1⟩
  have rq := oq.nm
  have lq : kq ≤ 1000 := by have := oq.rd.2.1; omega
  have rr := or.nm
  have lr : kr ≤ 1000 := by have := or.rd.2.1; omega
  clear oq or
  replace hva := hva.below hb1
  replace hub := hub.below hb1
  replace hxc := hxc.below hb1
  replace hyd := hyd.below hb1
  go_wp2_with fail
  refine (div_nm A A2 na ca nb cb v u _ hL hva hub hu (by omega) (by omega)).mono ?_
  rintro e w2 ⟨Ap, kp, cp, As, ks, cs, rfl, op, os, hb2⟩
  have rp := op.nm
  have lp : kp ≤ 1000 := by have := op.rd.2.1; omega
  have rs := os.nm
  have ls : ks ≤ 1000 := by have := os.rd.2.1; omega
  clear op os
  replace hva := hva.below hb2
  replace hub := hub.below hb2
  replace hxc := hxc.below hb2
  replace hyd := hyd.below hb2
  replace rq := rq.below hb2
  replace rr := rr.below hb2
  replace hb2 := below_then hb1 hb2
  clear hb1
  go_wp2_with fail
  refine (same_eq Aq A3 kq cq nc cc (v / u) x _ rq hxc (by omega) (by omega) HQ.out).mono ?_
  rintro e w3 ⟨rfl, hb3⟩
  replace hva := hva.below hb3
  replace hub := hub.below hb3
  replace hxc := hxc.below hb3
  replace hyd := hyd.below hb3
  replace rq := rq.below hb3
  replace rr := rr.below hb3
  replace rp := rp.below hb3
  replace rs := rs.below hb3
  replace hb3 := below_then hb2 hb3
  clear hb2
  go_wp2_with fail
  refine (same_eq Ar A4 kr cr nd cd (v % u) y _ rr hyd (by omega) (by omega) HR.out).mono ?_
  rintro e w4 ⟨rfl, hb4⟩
  replace hva := hva.below hb4
  replace hub := hub.below hb4
  replace hxc := hxc.below hb4
  replace hyd := hyd.below hb4
  replace rq := rq.below hb4
  replace rr := rr.below hb4
  replace rp := rp.below hb4
  replace rs := rs.below hb4
  replace hb4 := below_then hb3 hb4
  clear hb3
  go_wp2_with fail
  refine (same_eq Ap A3 kp cp nc cc (v / u) x _ rp hxc (by omega) (by omega) HQ.out).mono ?_
  rintro e w5 ⟨rfl, hb5⟩
  replace hva := hva.below hb5
  replace hub := hub.below hb5
  replace hxc := hxc.below hb5
  replace hyd := hyd.below hb5
  replace rq := rq.below hb5
  replace rr := rr.below hb5
  replace rp := rp.below hb5
  replace rs := rs.below hb5
  replace hb5 := below_then hb4 hb5
  clear hb4
  go_wp2_with fail
  refine (same_eq As A4 ks cs nd cd (v % u) y _ rs hyd (by omega) (by omega) HR.out).mono ?_
  rintro e w6 ⟨rfl, hb6⟩
  replace hva := hva.below hb6
  replace hub := hub.below hb6
  replace hxc := hxc.below hb6
  replace hyd := hyd.below hb6
  replace rq := rq.below hb6
  replace rr := rr.below hb6
  replace rp := rp.below hb6
  replace rs := rs.below hb6
  replace hb6 := below_then hb5 hb6
  clear hb5
  go_wp2_with fail
  go_ret
  exact ⟨rfl, hb6⟩

section
variable {F : Nat} (A : Option Addr) (na ca v x : Nat) (w : World)
theorem wordD_nm (hW : WordIs F) (hva : Nm w A na ca v) (hx : x < B64) (h0 : x ≠ 0) (hna : na ≤ 1000) :
    Calls Try.prog F #[.slice A na ca, .int .u64 (x : Int)] w fun e w' => ∃ A k c, e = .returned (.tuple #[.slice A k c, .int .u64 ((v % x : Nat) : Int), .int .i64 0]) ∧ Own w' w.heap.size (.slice A k c) (limbs (v / x)) ∧ Below w.heap.size w w' := by
  have e : divE (limbs v) (limbs x) = 0 := divE_ok (may_limbs v) (may_limbs x) (fun h => h0 (limbs_eq_nil.1 h))
  have h := hW A na ca (limbs v) x w hva.rd hx hna ⟨hva.nc, hva.cm⟩
  rw [quoL_ok e, remL_ok e, e, val_limbs, val_limbs, val_limbs] at h
  exact h
theorem wordD_none (hW : WordIs F) (hva : Nm w A na ca v) (hna : na ≤ 1000) :
    Calls Try.prog F #[.slice A na ca, .int .u64 0] w fun e w' => ∃ A k c, e = .returned (.tuple #[.slice A k c, .int .u64 0, .int .i64 30]) ∧ Below w.heap.size w w' := by
  have e : divE (limbs v) [] = 30 := divE_zero (may_limbs v)
  have h := hW A na ca (limbs v) 0 w hva.rd B64_pos hna ⟨hva.nc, hva.cm⟩
  rw [limbs_zero, quoL_no (by rw [e]; omega), remL_no (by rw [e]; omega), e, val_nil] at h
  exact h.mono fun e w' ⟨A, k, c, he, ho, hb⟩ => ⟨A, k, c, he, hb⟩
theorem wordD_bad (a : List Nat) (hW : WordIs F) (hra : Rd w A na a) (hm : may a = false) (hx : x < B64) (hna : na ≤ 1000) (q : na ≤ ca ∧ ca ≤ 9223372036854775807) :
    Calls Try.prog F #[.slice A na ca, .int .u64 (x : Int)] w fun e w' => ∃ A k c, e = .returned (.tuple #[.slice A k c, .int .u64 0, .int .i64 8]) ∧ Below w.heap.size w w' := by
  have e : divE a (limbs x) = 8 := divE_bad (by simp [both, hm])
  have h := hW A na ca a x w hra hx hna q
  rw [quoL_no (by rw [e]; omega), remL_no (by rw [e]; omega), e, val_nil] at h
  exact h.mono fun e w' ⟨A, k, c, he, ho, hb⟩ => ⟨A, k, c, he, hb⟩
end

theorem five_by : 5 / (0 + B64 * 1) = 0 ∧ 5 % (0 + B64 * 1) = 5 := by
  have h : 5 < 0 + B64 * 1 := by rw [B64_eq]; omega
  exact ⟨Nat.div_eq_of_lt h, Nat.mod_eq_of_lt h⟩
theorem big_by : B64 * B64 / (1 + B64 * 1) = top ∧ B64 * B64 % (1 + B64 * 1) = 1 := div_of (by rw [B64_eq]; omega) (by rw [B64_eq]; rfl)
theorem b64_ne (x : Nat) : x + B64 * 1 ≠ 0 := by rw [B64_eq]; omega

set_option maxRecDepth 100000 in
set_option maxHeartbeats 2500000 in
theorem dalive_any (hD : DivIs 13) (hL : DivIs 15) (w : World) : Calls Try.prog 10 #[] w fun e w' => e = .returned (.bool true) ∧ Below w.heap.size w w' := by
  go_enter Try.func10, Try.ntmps10
  go_wp2_with fail
  refine (div_none _ 1 1 1 _ hD (nm_new1 _ 1 _ B64_gt rfl) (by omega)).mono ?_
  rintro e w1 ⟨Aq, kq, cq, Ar, kr, cr, rfl, oq, or, hb1⟩
  clear oq or
  replace hb1 := below_new hb1
  go_wp2_with fail
  refine (gives_true hD hL _ _ _ _ 1 1 1 1 1 1 1 1 100 7 14 2 _ ((((nm_at1 _ _ rfl 100 _ (small_lt (by omega)) rfl).al _).al _).al _) (((nm_at1 _ _ (by simp) 7 _ (small_lt (by omega)) rfl).al _).al _) ((nm_at1 _ _ (by simp) 14 _ (small_lt (by omega)) rfl).al _) (nm_at1 _ _ (by simp) 2 _ (small_lt (by omega)) rfl) (by omega) (by omega) (by omega) (by omega) (by omega) (by omega) (by omega)).mono ?_
  rintro e w2 ⟨rfl, hb2⟩
  replace hb2 := below_new (below_new (below_new (below_new hb2)))
  replace hb2 := below_then hb1 hb2
  clear hb1
  go_wp2_with fail
  refine (gives_true hD hL _ _ none _ 1 1 2 2 0 0 1 1 5 (0 + B64 * 1) 0 5 _ (((nm_at1 _ _ rfl 5 _ (small_lt (by omega)) rfl).al _).al _) ((nm_at2 _ _ (by simp) 0 1 _ B64_pos B64_gt rfl).al _) (nm_zero _ none (by omega)) (nm_at1 _ _ (by simp) 5 _ (small_lt (by omega)) rfl) (by omega) (by omega) (by omega) (by omega) (b64_ne 0) five_by.1 five_by.2).mono ?_
  rintro e w3 ⟨rfl, hb3⟩
  replace hb3 := below_new (below_new (below_new hb3))
  replace hb3 := below_then hb2 hb3
  clear hb2
  go_wp2_with fail
  go_ret
  exact ⟨rfl, hb3⟩

set_option maxRecDepth 100000 in
set_option maxHeartbeats 4000000 in
theorem divNames_any (hD : DivIs 13) (hL : DivIs 15) (hW : WordIs 9) (hE : ExactIs 8) (w : World) : Calls Try.prog 3 #[] w fun e w' => e = .returned (.bool true) ∧ Below w.heap.size w w' := by
  go_enter Try.func3, Try.ntmps3
  go_wp2_with fail
  refine (exact_nm _ _ 1 1 1 1 42 6 _ hE ((nm_at1 _ _ rfl 42 _ (small_lt (by omega)) rfl).al _) (nm_at1 _ _ (by simp) 6 _ (small_lt (by omega)) rfl) (by omega) (by omega) (by omega) (by omega)).mono ?_
  rintro e w1 ⟨Ax, kx, cx, rfl, ox, hb1⟩
  have rx := ox.nm
  have lx : kx ≤ 1 := by have h1 := ox.rd.2.1; have h2 := limbs_length_le (n := 42 / 6) (k := 1) (by rw [Nat.pow_one]; exact small_lt (by omega)); omega
  clear ox
  replace hb1 := below_new (below_new hb1)
  go_wp2_with fail
  refine (exact_none _ _ 1 1 1 1 43 6 _ hE ((nm_at1 _ _ rfl 43 _ (small_lt (by omega)) rfl).al _) (nm_at1 _ _ (by simp) 6 _ (small_lt (by omega)) rfl) (by omega) (by omega) (by omega) (by omega)).mono ?_
  rintro e w2 ⟨Ay, ky, cy, rfl, oy, hb2⟩
  clear oy
  replace hb2 := below_new (below_new hb2)
  replace rx := rx.below hb2
  replace hb2 := below_then hb1 hb2
  clear hb1
  go_wp2_with fail
  refine (wordD_none _ 1 1 1 _ hW (nm_new1 _ 1 _ B64_gt rfl) (by omega)).mono ?_
  rintro e w3 ⟨Az, kz, cz, rfl, hb3⟩
  replace hb3 := below_new hb3
  replace rx := rx.below hb3
  replace hb3 := below_then hb2 hb3
  clear hb2
  go_wp2_with fail
  refine (wordD_bad _ 1 1 1 _ [0] hW (rd_new1 _ 0 _ B64_pos) rfl B64_gt (by omega) ⟨by omega, by omega⟩).mono ?_
  rintro e w4 ⟨Av, kv, cv, rfl, hb4⟩
  replace hb4 := below_new hb4
  replace rx := rx.below hb4
  replace hb4 := below_then hb3 hb4
  clear hb3
  go_wp2_with fail
  refine (dalive_any hD hL _).mono ?_
  rintro e w5 ⟨rfl, hb5⟩
  replace rx := rx.below hb5
  replace hb5 := below_then hb4 hb5
  clear hb4
  go_wp2_with fail
  try rw [← top_cast]
  refine (gives_true hD hL _ _ _ _ 3 3 2 2 1 1 1 1 (B64 * B64) (1 + B64 * 1) top 1 _ ((((nm_at3 _ _ rfl _).al _).al _).al _) (((nm_at2 _ _ (by simp) 1 1 _ B64_gt B64_gt rfl).al _).al _) ((nm_at1 _ _ (by simp) top _ top_lt top_ne).al _) (nm_at1 _ _ (by simp) 1 _ B64_gt rfl) (by omega) (by omega) (by omega) (by omega) (b64_ne 1) big_by.1 big_by.2).mono ?_
  rintro e w6 ⟨rfl, hb6⟩
  replace hb6 := below_new (below_new (below_new (below_new hb6)))
  replace rx := rx.below hb6
  replace hb6 := below_then hb5 hb6
  clear hb5
  go_wp2_with fail
  refine (same_eq _ _ kx _ 1 1 (42 / 6) 7 _ (rx.al _) (nm_new1 _ 7 _ (small_lt (by omega)) rfl) (by omega) (by omega) (by omega)).mono ?_
  rintro e w7 ⟨rfl, hb7⟩
  replace hb7 := below_new hb7
  replace hb7 := below_then hb6 hb7
  clear hb6
  go_wp2_with fail
  go_ret
  exact ⟨rfl, hb7⟩

end Go.Proofs.Ythenngajebkboaa

/- The law DivBack: the quotient, multiplied, and what is left over, lead home. -/
namespace Go.Proofs.Ythenngajebkboaa
open Go.RowKit Go.Shelf
set_option linter.unusedVariables false
set_option linter.unusedSimpArgs false

section
variable {F : Nat} (A A2 : Option Addr) (na ca nb cb : Nat) (a b : List Nat) (w : World)
theorem div_no (hD : DivIs F) (E : Int) (he : divE a b = E) (h0 : E ≠ 0) (hra : Rd w A na a) (hrb : Rd w A2 nb b) (hna : na ≤ 1000) (hnb : nb ≤ 1000) (q1 : na ≤ ca ∧ ca ≤ 9223372036854775807) (q2 : nb ≤ cb ∧ cb ≤ 9223372036854775807) :
    Calls Try.prog F #[.slice A na ca, .slice A2 nb cb] w fun e w' => ∃ A c A2 c2, e = .returned (.tuple #[.slice A 0 c, .slice A2 0 c2, .int .i64 E]) ∧ Below w.heap.size w w' := by
  have h := hD A A2 na ca nb cb a b w hra hrb hna hnb q1 q2
  rw [quoL_no (by rw [he]; exact h0), remL_no (by rw [he]; exact h0), he] at h
  refine h.mono ?_
  rintro e w' ⟨A3, k3, c3, A4, k4, c4, rfl, o3, o4, hb⟩
  obtain rfl : k3 = 0 := o3.rd.2.1
  obtain rfl : k4 = 0 := o4.rd.2.1
  exact ⟨_, _, _, _, rfl, hb⟩
theorem int_ne0 {n : Nat} (h : n ≠ 0) : ((n : Int) == 0) = false := by simp; omega
end
section
variable (hD : DivIs 13) (hL : DivIs 15) (A A2 : Option Addr) (na ca nb cb : Nat) (a b : List Nat) (w : World)
include hD hL

set_option maxRecDepth 100000 in
set_option maxHeartbeats 2500000 in
theorem divBack_long (hb : 200 < na ∨ 200 < nb) (h1 : na ≤ 9223372036854775807) (h2 : nb ≤ 9223372036854775807) :
    Calls Try.prog 5 #[.slice A na ca, .slice A2 nb cb] w fun e w' => e = .returned (.bool true) ∧ Below w.heap.size w w' := by
  by_cases h50 : 200 < na
  · clear hb
    go_enter Try.func5, Try.ntmps5
    go_wp2_with (go_at_call 10; refine (dalive_any hD hL _).mono ?_; rintro e w1 ⟨rfl, hb1⟩)
    go_ret
    exact ⟨rfl, hb1⟩
  · skip
    have h99 : 200 < nb := by omega
    clear hb
    go_enter Try.func5, Try.ntmps5
    go_wp2_with (go_at_call 10; refine (dalive_any hD hL _).mono ?_; rintro e w1 ⟨rfl, hb1⟩)
    go_ret
    exact ⟨rfl, hb1⟩

set_option maxRecDepth 100000 in
set_option maxHeartbeats 2500000 in
theorem divBack_zero (hra : Rd w A na a) (hrb : Rd w A2 nb b) (h1 : na ≤ 200) (h2 : nb ≤ 200) (q1 : na ≤ ca ∧ ca ≤ 9223372036854775807) (q2 : nb ≤ cb ∧ cb ≤ 9223372036854775807) (he : divE a b = 30) (hma : may a = true) (hb : b = []) :
    Calls Try.prog 5 #[.slice A na ca, .slice A2 nb cb] w fun e w' => e = .returned (.bool true) ∧ Below w.heap.size w w' := by
  subst hb
  obtain rfl : nb = 0 := by have := hrb.len; simp at this; omega
  have HE := Lib.hid he
  have HB : Hid (bad [a] = 0) := bad_zero (by simp [hma])
  clear he hma
  go_enter Try.func5, Try.ntmps5
  go_wp2_with fail
  refine (dalive_any hD hL _).mono ?_
  rintro e w1 ⟨rfl, hb1⟩
  replace hra := hra.below hb1
  replace hrb := hrb.below hb1
  go_wp2_with fail
  refine (div_no A A2 na ca 0 cb a [] _ hD 30 HE.out (by omega) hra hrb (by omega) (by omega) q1 q2).mono ?_
  rintro e w2 ⟨Aq, cq, Ar, cr, rfl, hb2⟩
  replace hra := hra.below hb2
  replace hrb := hrb.below hb2
  replace hb2 := below_then hb1 hb2
  clear hb1
  go_wp2_with fail
  refine (check_any A na ca a _ hra (by omega)).mono ?_
  rw [HB.out]
  rintro e w3 ⟨rfl, hb3⟩
  replace hra := hra.below hb3
  replace hrb := hrb.below hb3
  replace hb3 := below_then hb2 hb3
  clear hb2
  go_wp2_with fail
  go_ret
  exact ⟨rfl, hb3⟩

set_option maxRecDepth 100000 in
set_option maxHeartbeats 2500000 in
theorem divBack_bada (hra : Rd w A na a) (hrb : Rd w A2 nb b) (h1 : na ≤ 200) (h2 : nb ≤ 200) (q1 : na ≤ ca ∧ ca ≤ 9223372036854775807) (q2 : nb ≤ cb ∧ cb ≤ 9223372036854775807) (he : divE a b = 8) (hma : may a = false) :
    Calls Try.prog 5 #[.slice A na ca, .slice A2 nb cb] w fun e w' => e = .returned (.bool true) ∧ Below w.heap.size w w' := by
  have HE := Lib.hid he
  have HB : Hid (bad [a] = 8) := bad_eight (by simp [hma])
  clear he hma
  go_enter Try.func5, Try.ntmps5
  go_wp2_with fail
  refine (dalive_any hD hL _).mono ?_
  rintro e w1 ⟨rfl, hb1⟩
  replace hra := hra.below hb1
  replace hrb := hrb.below hb1
  go_wp2_with fail
  refine (div_no A A2 na ca nb cb a b _ hD 8 HE.out (by omega) hra hrb (by omega) (by omega) q1 q2).mono ?_
  rintro e w2 ⟨Aq, cq, Ar, cr, rfl, hb2⟩
  replace hra := hra.below hb2
  replace hrb := hrb.below hb2
  replace hb2 := below_then hb1 hb2
  clear hb1
  go_wp2_with fail
  refine (check_any A na ca a _ hra (by omega)).mono ?_
  rw [HB.out]
  rintro e w3 ⟨rfl, hb3⟩
  replace hra := hra.below hb3
  replace hrb := hrb.below hb3
  replace hb3 := below_then hb2 hb3
  clear hb2
  go_wp2_with fail
  go_ret
  exact ⟨rfl, hb3⟩

set_option maxRecDepth 100000 in
set_option maxHeartbeats 2500000 in
theorem divBack_badb (hra : Rd w A na a) (hrb : Rd w A2 nb b) (h1 : na ≤ 200) (h2 : nb ≤ 200) (q1 : na ≤ ca ∧ ca ≤ 9223372036854775807) (q2 : nb ≤ cb ∧ cb ≤ 9223372036854775807) (he : divE a b = 8) (hma : may a = true) (hn : nb ≠ 0) :
    Calls Try.prog 5 #[.slice A na ca, .slice A2 nb cb] w fun e w' => e = .returned (.bool true) ∧ Below w.heap.size w w' := by
  have HE := Lib.hid he
  have HB : Hid (bad [a] = 0) := bad_zero (by simp [hma])
  have hn0 := int_ne0 hn
  clear he hma hn
  go_enter Try.func5, Try.ntmps5
  go_wp2_with fail
  refine (dalive_any hD hL _).mono ?_
  rintro e w1 ⟨rfl, hb1⟩
  replace hra := hra.below hb1
  replace hrb := hrb.below hb1
  go_wp2_with fail
  refine (div_no A A2 na ca nb cb a b _ hD 8 HE.out (by omega) hra hrb (by omega) (by omega) q1 q2).mono ?_
  rintro e w2 ⟨Aq, cq, Ar, cr, rfl, hb2⟩
  replace hra := hra.below hb2
  replace hrb := hrb.below hb2
  replace hb2 := below_then hb1 hb2
  clear hb1
  go_wp2_with fail
  refine (check_any A na ca a _ hra (by omega)).mono ?_
  rw [HB.out]
  rintro e w3 ⟨rfl, hb3⟩
  replace hra := hra.below hb3
  replace hrb := hrb.below hb3
  replace hb3 := below_then hb2 hb3
  clear hb2
  go_wp2_with fail
  go_ret
  exact ⟨rfl, hb3⟩

set_option maxRecDepth 100000 in
set_option maxHeartbeats 2500000 in
theorem divBack_ok (v u : Nat) (hva : Nm w A na ca v) (hub : Nm w A2 nb cb u) (hu : u ≠ 0) (h1 : na ≤ 200) (h2 : nb ≤ 200) :
    Calls Try.prog 5 #[.slice A na ca, .slice A2 nb cb] w fun e w' => e = .returned (.bool true) ∧ Below w.heap.size w w' := by
  have ld := div_len hva u
  have lm := mod_len hva u
  have HC : Hid (cmp3 (v % u) u = -1) := cmp3_lt (Nat.mod_lt _ (by omega))
  go_enter Try.func5, Try.ntmps5
  go_wp2_with fail
  refine (dalive_any hD hL _).mono ?_
  rintro e w1 ⟨rfl, hb1⟩
  replace hva := hva.below hb1
  replace hub := hub.below hb1
  go_wp2_with fail
  refine (div_nm A A2 na ca nb cb v u _ hD hva hub hu (by omega) (by omega)).mono ?_
  rintro e w2 ⟨Aq, kq, cq, Ar, kr, cr, rfl, oq, or, hb2⟩
  have rq := oq.nm
  have lq : kq ≤ 200 := by have := oq.rd.2.1; omega
  have rr := or.nm
  have lr : kr ≤ 200 := by have := or.rd.2.1; omega
  clear oq or
  clear ld lm
  replace hva := hva.below hb2
  replace hub := hub.below hb2
  replace hb2 := below_then hb1 hb2
  clear hb1
  go_wp2_with fail
  refine (check_nm Aq kq cq (v / u) _ rq (by omega)).mono ?_
  rintro e w3 ⟨rfl, hb3⟩
  replace hva := hva.below hb3
  replace hub := hub.below hb3
  replace rq := rq.below hb3
  replace rr := rr.below hb3
  replace hb3 := below_then hb2 hb3
  clear hb2
  go_wp2_with fail
  refine (check_nm Ar kr cr (v % u) _ rr (by omega)).mono ?_
  rintro e w4 ⟨rfl, hb4⟩
  have lt0 := mul_len rq hub
  replace hva := hva.below hb4
  replace hub := hub.below hb4
  replace rq := rq.below hb4
  replace rr := rr.below hb4
  replace hb4 := below_then hb3 hb4
  clear hb3
  go_wp2_with fail
  refine (times_nm Aq A2 kq cq nb cb (v / u) u _ rq hub (by omega) (by omega)).mono ?_
  rintro e w5 ⟨At, kt, ct, rfl, ot, hb5⟩
  have rt := ot.nm
  have lt : kt ≤ 400 := by have := ot.rd.2.1; omega
  clear ot
  clear lt0
  have ls0 := add_len rt rr (n := 400) (by omega) (by omega)
  replace hva := hva.below hb5
  replace hub := hub.below hb5
  replace rq := rq.below hb5
  replace rr := rr.below hb5
  replace hb5 := below_then hb4 hb5
  clear hb4
  go_wp2_with fail
  refine (add_nm At Ar kt ct kr cr (v / u * u) (v % u) _ rt rr (by omega) (by omega)).mono ?_
  rintro e w6 ⟨As, ks, cs, rfl, os, hb6⟩
  have rs := os.nm
  have ls : ks ≤ 401 := by have := os.rd.2.1; omega
  clear os
  clear ls0
  replace hva := hva.below hb6
  replace hub := hub.below hb6
  replace rq := rq.below hb6
  replace rr := rr.below hb6
  replace rt := rt.below hb6
  replace hb6 := below_then hb5 hb6
  clear hb5
  go_wp2_with fail
  refine (cmp_nm Ar A2 kr cr nb cb (v % u) u _ rr hub (by omega) (by omega)).mono ?_
  rw [HC.out]
  rintro e w7 ⟨rfl, hb7⟩
  replace hva := hva.below hb7
  replace hub := hub.below hb7
  replace rq := rq.below hb7
  replace rr := rr.below hb7
  replace rt := rt.below hb7
  replace rs := rs.below hb7
  replace hb7 := below_then hb6 hb7
  clear hb6
  go_wp2_with fail
  refine (same_eq As A ks cs na ca (v / u * u + v % u) v _ rs hva (by omega) (by omega) (Nat.div_add_mod' v u)).mono ?_
  rintro e w8 ⟨rfl, hb8⟩
  replace hva := hva.below hb8
  replace hub := hub.below hb8
  replace rq := rq.below hb8
  replace rr := rr.below hb8
  replace rt := rt.below hb8
  replace rs := rs.below hb8
  replace hb8 := below_then hb7 hb8
  clear hb7
  go_wp2_with fail
  go_ret
  exact ⟨rfl, hb8⟩

theorem divBack_any (hra : Rd w A na a) (hrb : Rd w A2 nb b) (q1 : na ≤ ca ∧ ca ≤ 9223372036854775807) (q2 : nb ≤ cb ∧ cb ≤ 9223372036854775807) :
    Calls Try.prog 5 #[.slice A na ca, .slice A2 nb cb] w fun e w' => e = .returned (.bool true) ∧ Below w.heap.size w w' := by
  by_cases hl : 200 < na ∨ 200 < nb
  · exact divBack_long hD hL A A2 na ca nb cb w hl (by omega) (by omega)
  · rcases divE_cases a b with ⟨he, hma, hmb, hb⟩ | ⟨he, hma, hb⟩ | ⟨he, hbo⟩
    · have hu : val b ≠ 0 := by have := val_pos hmb hb; omega
      exact divBack_ok hD hL A A2 na ca nb cb w _ _ (nm_of hra hma q1.1 q1.2) (nm_of hrb hmb q2.1 q2.2) hu (by omega) (by omega)
    · exact divBack_zero hD hL A A2 na ca nb cb a b w hra hrb (by omega) (by omega) q1 q2 he hma hb
    · cases hma : may a with
      | false => exact divBack_bada hD hL A A2 na ca nb cb a b w hra hrb (by omega) (by omega) q1 q2 he hma
      | true =>
        have hmb : may b = false := by simpa [both, hma] using hbo
        have hn : nb ≠ 0 := by
          rintro rfl
          rw [List.eq_nil_of_length_eq_zero hrb.len] at hmb
          cases hmb
        exact divBack_badb hD hL A A2 na ca nb cb a b w hra hrb (by omega) (by omega) q1 q2 he hma hn
end

end Go.Proofs.Ythenngajebkboaa

/- The law DivProduct: a product divided by one of its numbers. -/
namespace Go.Proofs.Ythenngajebkboaa
open Go.RowKit Go.Shelf
set_option linter.unusedVariables false
set_option linter.unusedSimpArgs false

section
variable (hD : DivIs 13) (hL : DivIs 15) (A A2 A3 : Option Addr) (na ca nb cb nc cc : Nat) (a b c : List Nat) (w : World)
include hD hL

set_option maxRecDepth 100000 in
set_option maxHeartbeats 2500000 in
theorem divProduct_long (hb : 100 < na ∨ 100 < nb ∨ 100 < nc) (h1 : na ≤ 9223372036854775807) (h2 : nb ≤ 9223372036854775807) (h3 : nc ≤ 9223372036854775807) :
    Calls Try.prog 6 #[.slice A na ca, .slice A2 nb cb, .slice A3 nc cc] w fun e w' => e = .returned (.bool true) ∧ Below w.heap.size w w' := by
  by_cases h50 : 100 < na
  · clear hb
    go_enter Try.func6, Try.ntmps6
    go_wp2_with (go_at_call 10; refine (dalive_any hD hL _).mono ?_; rintro e w1 ⟨rfl, hb1⟩)
    go_ret
    exact ⟨rfl, hb1⟩
  · skip
    by_cases h51 : 100 < nb
    · clear hb
      go_enter Try.func6, Try.ntmps6
      go_wp2_with (go_at_call 10; refine (dalive_any hD hL _).mono ?_; rintro e w1 ⟨rfl, hb1⟩)
      go_ret
      exact ⟨rfl, hb1⟩
    · skip
      have h99 : 100 < nc := by omega
      clear hb
      go_enter Try.func6, Try.ntmps6
      go_wp2_with (go_at_call 10; refine (dalive_any hD hL _).mono ?_; rintro e w1 ⟨rfl, hb1⟩)
      go_ret
      exact ⟨rfl, hb1⟩

set_option maxRecDepth 100000 in
set_option maxHeartbeats 2500000 in
theorem divProduct_bada (hra : Rd w A na a) (hrb : Rd w A2 nb b) (hrc : Rd w A3 nc c) (h1 : na ≤ 100) (h2 : nb ≤ 100) (h3 : nc ≤ 100) (hma : may a = false) :
    Calls Try.prog 6 #[.slice A na ca, .slice A2 nb cb, .slice A3 nc cc] w fun e w' => e = .returned (.bool true) ∧ Below w.heap.size w w' := by
  have HBa : Hid (bad [a] = 8) := bad_eight (by simp [hma])
  clear hma
  go_enter Try.func6, Try.ntmps6
  go_wp2_with fail
  refine (dalive_any hD hL _).mono ?_
  rintro e w1 ⟨rfl, hb1⟩
  replace hra := hra.below hb1
  replace hrb := hrb.below hb1
  replace hrc := hrc.below hb1
  go_wp2_with fail
  refine (check_any A na ca a _ hra (by omega)).mono ?_
  rw [HBa.out]
  rintro e w2 ⟨rfl, hb2⟩
  replace hra := hra.below hb2
  replace hrb := hrb.below hb2
  replace hrc := hrc.below hb2
  replace hb2 := below_then hb1 hb2
  clear hb1
  go_wp2_with fail
  go_ret
  exact ⟨rfl, hb2⟩

set_option maxRecDepth 100000 in
set_option maxHeartbeats 2500000 in
theorem divProduct_badb (hra : Rd w A na a) (hrb : Rd w A2 nb b) (hrc : Rd w A3 nc c) (h1 : na ≤ 100) (h2 : nb ≤ 100) (h3 : nc ≤ 100) (hma : may a = true) (hmb : may b = false) :
    Calls Try.prog 6 #[.slice A na ca, .slice A2 nb cb, .slice A3 nc cc] w fun e w' => e = .returned (.bool true) ∧ Below w.heap.size w w' := by
  have HBa : Hid (bad [a] = 0) := bad_zero (by simp [hma])
  have HBb : Hid (bad [b] = 8) := bad_eight (by simp [hmb])
  clear hma hmb
  go_enter Try.func6, Try.ntmps6
  go_wp2_with fail
  refine (dalive_any hD hL _).mono ?_
  rintro e w1 ⟨rfl, hb1⟩
  replace hra := hra.below hb1
  replace hrb := hrb.below hb1
  replace hrc := hrc.below hb1
  go_wp2_with fail
  refine (check_any A na ca a _ hra (by omega)).mono ?_
  rw [HBa.out]
  rintro e w2 ⟨rfl, hb2⟩
  replace hra := hra.below hb2
  replace hrb := hrb.below hb2
  replace hrc := hrc.below hb2
  replace hb2 := below_then hb1 hb2
  clear hb1
  go_wp2_with fail
  refine (check_any A2 nb cb b _ hrb (by omega)).mono ?_
  rw [HBb.out]
  rintro e w3 ⟨rfl, hb3⟩
  replace hra := hra.below hb3
  replace hrb := hrb.below hb3
  replace hrc := hrc.below hb3
  replace hb3 := below_then hb2 hb3
  clear hb2
  go_wp2_with fail
  go_ret
  exact ⟨rfl, hb3⟩

set_option maxRecDepth 100000 in
set_option maxHeartbeats 2500000 in
theorem divProduct_badc (hra : Rd w A na a) (hrb : Rd w A2 nb b) (hrc : Rd w A3 nc c) (h1 : na ≤ 100) (h2 : nb ≤ 100) (h3 : nc ≤ 100) (hma : may a = true) (hmb : may b = true) (hmc : may c = false) :
    Calls Try.prog 6 #[.slice A na ca, .slice A2 nb cb, .slice A3 nc cc] w fun e w' => e = .returned (.bool true) ∧ Below w.heap.size w w' := by
  have HBa : Hid (bad [a] = 0) := bad_zero (by simp [hma])
  have HBb : Hid (bad [b] = 0) := bad_zero (by simp [hmb])
  have HBc : Hid (bad [c] = 8) := bad_eight (by simp [hmc])
  clear hma hmb hmc
  go_enter Try.func6, Try.ntmps6
  go_wp2_with fail
  refine (dalive_any hD hL _).mono ?_
  rintro e w1 ⟨rfl, hb1⟩
  replace hra := hra.below hb1
  replace hrb := hrb.below hb1
  replace hrc := hrc.below hb1
  go_wp2_with fail
  refine (check_any A na ca a _ hra (by omega)).mono ?_
  rw [HBa.out]
  rintro e w2 ⟨rfl, hb2⟩
  replace hra := hra.below hb2
  replace hrb := hrb.below hb2
  replace hrc := hrc.below hb2
  replace hb2 := below_then hb1 hb2
  clear hb1
  go_wp2_with fail
  refine (check_any A2 nb cb b _ hrb (by omega)).mono ?_
  rw [HBb.out]
  rintro e w3 ⟨rfl, hb3⟩
  replace hra := hra.below hb3
  replace hrb := hrb.below hb3
  replace hrc := hrc.below hb3
  replace hb3 := below_then hb2 hb3
  clear hb2
  go_wp2_with fail
  refine (check_any A3 nc cc c _ hrc (by omega)).mono ?_
  rw [HBc.out]
  rintro e w4 ⟨rfl, hb4⟩
  replace hra := hra.below hb4
  replace hrb := hrb.below hb4
  replace hrc := hrc.below hb4
  replace hb4 := below_then hb3 hb4
  clear hb3
  go_wp2_with fail
  go_ret
  exact ⟨rfl, hb4⟩

set_option maxRecDepth 100000 in
set_option maxHeartbeats 2500000 in
theorem divProduct_zero (hra : Rd w A na a) (hrb : Rd w A2 nb b) (hrc : Rd w A3 nc c) (h1 : na ≤ 100) (h2 : nb ≤ 100) (h3 : nc ≤ 100) (hma : may a = true) (hmb : may b = true) (hmc : may c = true) (hb : b = []) :
    Calls Try.prog 6 #[.slice A na ca, .slice A2 nb cb, .slice A3 nc cc] w fun e w' => e = .returned (.bool true) ∧ Below w.heap.size w w' := by
  have HBa : Hid (bad [a] = 0) := bad_zero (by simp [hma])
  have HBb : Hid (bad [b] = 0) := bad_zero (by simp [hmb])
  have HBc : Hid (bad [c] = 0) := bad_zero (by simp [hmc])
  obtain rfl : nb = 0 := by have := hrb.len; rw [hb] at this; simp at this; omega
  clear hma hmb hmc hb
  go_enter Try.func6, Try.ntmps6
  go_wp2_with fail
  refine (dalive_any hD hL _).mono ?_
  rintro e w1 ⟨rfl, hb1⟩
  replace hra := hra.below hb1
  replace hrb := hrb.below hb1
  replace hrc := hrc.below hb1
  go_wp2_with fail
  refine (check_any A na ca a _ hra (by omega)).mono ?_
  rw [HBa.out]
  rintro e w2 ⟨rfl, hb2⟩
  replace hra := hra.below hb2
  replace hrb := hrb.below hb2
  replace hrc := hrc.below hb2
  replace hb2 := below_then hb1 hb2
  clear hb1
  go_wp2_with fail
  refine (check_any A2 0 cb b _ hrb (by omega)).mono ?_
  rw [HBb.out]
  rintro e w3 ⟨rfl, hb3⟩
  replace hra := hra.below hb3
  replace hrb := hrb.below hb3
  replace hrc := hrc.below hb3
  replace hb3 := below_then hb2 hb3
  clear hb2
  go_wp2_with fail
  refine (check_any A3 nc cc c _ hrc (by omega)).mono ?_
  rw [HBc.out]
  rintro e w4 ⟨rfl, hb4⟩
  replace hra := hra.below hb4
  replace hrb := hrb.below hb4
  replace hrc := hrc.below hb4
  replace hb4 := below_then hb3 hb4
  clear hb3
  go_wp2_with fail
  go_ret
  exact ⟨rfl, hb4⟩

set_option maxRecDepth 100000 in
set_option maxHeartbeats 3000000 in
theorem divProduct_less (hE : ExactIs 8) (v u t : Nat) (hva : Nm w A na ca v) (hub : Nm w A2 nb cb u) (htc : Nm w A3 nc cc t) (hu : u ≠ 0) (hn : nb ≠ 0) (h1 : na ≤ 100) (h2 : nb ≤ 100) (h3 : nc ≤ 100) (htu : t < u) :
    Calls Try.prog 6 #[.slice A na ca, .slice A2 nb cb, .slice A3 nc cc] w fun e w' => e = .returned (.bool true) ∧ Below w.heap.size w w' := by
  have HC : Hid (cmp3 t u = -1) := cmp3_lt htu
  obtain ⟨hq, hr⟩ := div_of (n := v * u + t) (b := u) (k := v) htu (by rw [Nat.mul_comm v u, Nat.add_comm])
  have lp0 := mul_len hva hub
  have hn9 := int_ne0 hn
  go_enter Try.func6, Try.ntmps6
  go_wp2_with fail
  refine (dalive_any hD hL _).mono ?_
  rintro e w1 ⟨rfl, hb1⟩
  replace hva := hva.below hb1
  replace hub := hub.below hb1
  replace htc := htc.below hb1
  go_wp2_with fail
  refine (check_nm A na ca v _ hva (by omega)).mono ?_
  rintro e w2 ⟨rfl, hb2⟩
  replace hva := hva.below hb2
  replace hub := hub.below hb2
  replace htc := htc.below hb2
  replace hb2 := below_then hb1 hb2
  clear hb1
  go_wp2_with fail
  refine (check_nm A2 nb cb u _ hub (by omega)).mono ?_
  rintro e w3 ⟨rfl, hb3⟩
  replace hva := hva.below hb3
  replace hub := hub.below hb3
  replace htc := htc.below hb3
  replace hb3 := below_then hb2 hb3
  clear hb2
  go_wp2_with fail
  refine (check_nm A3 nc cc t _ htc (by omega)).mono ?_
  rintro e w4 ⟨rfl, hb4⟩
  replace hva := hva.below hb4
  replace hub := hub.below hb4
  replace htc := htc.below hb4
  replace hb4 := below_then hb3 hb4
  clear hb3
  go_wp2_with fail
  refine (times_nm A A2 na ca nb cb v u _ hva hub (by omega) (by omega)).mono ?_
  rintro e w5 ⟨Ap, kp, cp, rfl, op, hb5⟩
  have rp := op.nm
  have lp : kp ≤ 200 := by have := op.rd.2.1; omega
  clear op
  clear lp0
  have lx0 := div_len rp u
  have ls0 := add_len rp htc (n := 200) (by omega) (by omega)
  replace hva := hva.below hb5
  replace hub := hub.below hb5
  replace htc := htc.below hb5
  replace hb5 := below_then hb4 hb5
  clear hb4
  go_wp2_with fail
  refine (exact_nm Ap A2 kp cp nb cb (v * u) u _ hE rp hub hu (Nat.mul_mod_left v u) (by omega) (by omega)).mono ?_
  rintro e w6 ⟨Ax, kx, cx, rfl, ox, hb6⟩
  have rx := ox.nm
  have lx : kx ≤ 200 := by have := ox.rd.2.1; omega
  clear ox
  clear lx0
  replace hva := hva.below hb6
  replace hub := hub.below hb6
  replace htc := htc.below hb6
  replace rp := rp.below hb6
  replace hb6 := below_then hb5 hb6
  clear hb5
  go_wp2_with fail
  refine (cmp_nm A3 A2 nc cc nb cb t u _ htc hub (by omega) (by omega)).mono ?_
  rw [HC.out]
  rintro e w7 ⟨rfl, hb7⟩
  replace hva := hva.below hb7
  replace hub := hub.below hb7
  replace htc := htc.below hb7
  replace rp := rp.below hb7
  replace rx := rx.below hb7
  replace hb7 := below_then hb6 hb7
  clear hb6
  go_wp2_with fail
  refine (add_nm Ap A3 kp cp nc cc (v * u) t _ rp htc (by omega) (by omega)).mono ?_
  rintro e w8 ⟨As, ks, cs, rfl, os, hb8⟩
  have rs := os.nm
  have ls : ks ≤ 201 := by have := os.rd.2.1; omega
  clear os
  clear ls0
  have lq0 := div_len rs u
  have lr0 := mod_len rs u
  replace hva := hva.below hb8
  replace hub := hub.below hb8
  replace htc := htc.below hb8
  replace rp := rp.below hb8
  replace rx := rx.below hb8
  replace hb8 := below_then hb7 hb8
  clear hb7
  go_wp2_with fail
  refine (div_nm As A2 ks cs nb cb (v * u + t) u _ hD rs hub hu (by omega) (by omega)).mono ?_
  rintro e w9 ⟨Aq, kq, cq, Ar, kr, cr, rfl, oq, or, hb9⟩
  have rq := oq.nm
  have lq : kq ≤ 201 := by have := oq.rd.2.1; omega
  have rr := or.nm
  have lr : kr ≤ 201 := by have := or.rd.2.1; omega
  clear oq or
  clear lq0 lr0
  replace hva := hva.below hb9
  replace hub := hub.below hb9
  replace htc := htc.below hb9
  replace rp := rp.below hb9
  replace rx := rx.below hb9
  replace rs := rs.below hb9
  replace hb9 := below_then hb8 hb9
  clear hb8
  go_wp2_with fail
  refine (same_eq Ax A kx cx na ca (v * u / u) v _ rx hva (by omega) (by omega) (Nat.mul_div_cancel v (Nat.pos_of_ne_zero hu))).mono ?_
  rintro e w10 ⟨rfl, hb10⟩
  replace hva := hva.below hb10
  replace hub := hub.below hb10
  replace htc := htc.below hb10
  replace rp := rp.below hb10
  replace rx := rx.below hb10
  replace rs := rs.below hb10
  replace rq := rq.below hb10
  replace rr := rr.below hb10
  replace hb10 := below_then hb9 hb10
  clear hb9
  go_wp2_with fail
  refine (same_eq Aq A kq cq na ca ((v * u + t) / u) v _ rq hva (by omega) (by omega) hq).mono ?_
  rintro e w11 ⟨rfl, hb11⟩
  replace hva := hva.below hb11
  replace hub := hub.below hb11
  replace htc := htc.below hb11
  replace rp := rp.below hb11
  replace rx := rx.below hb11
  replace rs := rs.below hb11
  replace rq := rq.below hb11
  replace rr := rr.below hb11
  replace hb11 := below_then hb10 hb11
  clear hb10
  go_wp2_with fail
  refine (same_eq Ar A3 kr cr nc cc ((v * u + t) % u) t _ rr htc (by omega) (by omega) hr).mono ?_
  rintro e w12 ⟨rfl, hb12⟩
  replace hva := hva.below hb12
  replace hub := hub.below hb12
  replace htc := htc.below hb12
  replace rp := rp.below hb12
  replace rx := rx.below hb12
  replace rs := rs.below hb12
  replace rq := rq.below hb12
  replace rr := rr.below hb12
  replace hb12 := below_then hb11 hb12
  clear hb11
  go_wp2_with fail
  go_ret
  exact ⟨rfl, hb12⟩

set_option maxRecDepth 100000 in
set_option maxHeartbeats 3000000 in
theorem divProduct_more (hE : ExactIs 8) (v u t : Nat) (hva : Nm w A na ca v) (hub : Nm w A2 nb cb u) (htc : Nm w A3 nc cc t) (hu : u ≠ 0) (hn : nb ≠ 0) (h1 : na ≤ 100) (h2 : nb ≤ 100) (h3 : nc ≤ 100) (N : Int) (hN : N = 0 ∨ N = 1) (hcm : cmp3 t u = N) :
    Calls Try.prog 6 #[.slice A na ca, .slice A2 nb cb, .slice A3 nc cc] w fun e w' => e = .returned (.bool true) ∧ Below w.heap.size w w' := by
  have HC := Lib.hid hcm
  have hn0 : ¬ (N < 0) := by omega
  have hn1 : 0 ≤ N := by omega
  clear hN hcm
  have lp0 := mul_len hva hub
  have hn9 := int_ne0 hn
  go_enter Try.func6, Try.ntmps6
  go_wp2_with fail
  refine (dalive_any hD hL _).mono ?_
  rintro e w1 ⟨rfl, hb1⟩
  replace hva := hva.below hb1
  replace hub := hub.below hb1
  replace htc := htc.below hb1
  go_wp2_with fail
  refine (check_nm A na ca v _ hva (by omega)).mono ?_
  rintro e w2 ⟨rfl, hb2⟩
  replace hva := hva.below hb2
  replace hub := hub.below hb2
  replace htc := htc.below hb2
  replace hb2 := below_then hb1 hb2
  clear hb1
  go_wp2_with fail
  refine (check_nm A2 nb cb u _ hub (by omega)).mono ?_
  rintro e w3 ⟨rfl, hb3⟩
  replace hva := hva.below hb3
  replace hub := hub.below hb3
  replace htc := htc.below hb3
  replace hb3 := below_then hb2 hb3
  clear hb2
  go_wp2_with fail
  refine (check_nm A3 nc cc t _ htc (by omega)).mono ?_
  rintro e w4 ⟨rfl, hb4⟩
  replace hva := hva.below hb4
  replace hub := hub.below hb4
  replace htc := htc.below hb4
  replace hb4 := below_then hb3 hb4
  clear hb3
  go_wp2_with fail
  refine (times_nm A A2 na ca nb cb v u _ hva hub (by omega) (by omega)).mono ?_
  rintro e w5 ⟨Ap, kp, cp, rfl, op, hb5⟩
  have rp := op.nm
  have lp : kp ≤ 200 := by have := op.rd.2.1; omega
  clear op
  clear lp0
  have lx0 := div_len rp u
  have ls0 := add_len rp htc (n := 200) (by omega) (by omega)
  replace hva := hva.below hb5
  replace hub := hub.below hb5
  replace htc := htc.below hb5
  replace hb5 := below_then hb4 hb5
  clear hb4
  go_wp2_with fail
  refine (exact_nm Ap A2 kp cp nb cb (v * u) u _ hE rp hub hu (Nat.mul_mod_left v u) (by omega) (by omega)).mono ?_
  rintro e w6 ⟨Ax, kx, cx, rfl, ox, hb6⟩
  have rx := ox.nm
  have lx : kx ≤ 200 := by have := ox.rd.2.1; omega
  clear ox
  clear lx0
  replace hva := hva.below hb6
  replace hub := hub.below hb6
  replace htc := htc.below hb6
  replace rp := rp.below hb6
  replace hb6 := below_then hb5 hb6
  clear hb5
  go_wp2_with fail
  refine (cmp_nm A3 A2 nc cc nb cb t u _ htc hub (by omega) (by omega)).mono ?_
  rw [HC.out]
  rintro e w7 ⟨rfl, hb7⟩
  replace hva := hva.below hb7
  replace hub := hub.below hb7
  replace htc := htc.below hb7
  replace rp := rp.below hb7
  replace rx := rx.below hb7
  replace hb7 := below_then hb6 hb7
  clear hb6
  go_wp2_with fail
  refine (add_nm Ap A3 kp cp nc cc (v * u) t _ rp htc (by omega) (by omega)).mono ?_
  rintro e w8 ⟨As, ks, cs, rfl, os, hb8⟩
  have rs := os.nm
  have ls : ks ≤ 201 := by have := os.rd.2.1; omega
  clear os
  clear ls0
  have lq0 := div_len rs u
  have lr0 := mod_len rs u
  replace hva := hva.below hb8
  replace hub := hub.below hb8
  replace htc := htc.below hb8
  replace rp := rp.below hb8
  replace rx := rx.below hb8
  replace hb8 := below_then hb7 hb8
  clear hb7
  go_wp2_with fail
  refine (div_nm As A2 ks cs nb cb (v * u + t) u _ hD rs hub hu (by omega) (by omega)).mono ?_
  rintro e w9 ⟨Aq, kq, cq, Ar, kr, cr, rfl, oq, or, hb9⟩
  have rq := oq.nm
  have lq : kq ≤ 201 := by have := oq.rd.2.1; omega
  have rr := or.nm
  have lr : kr ≤ 201 := by have := or.rd.2.1; omega
  clear oq or
  clear lq0 lr0
  replace hva := hva.below hb9
  replace hub := hub.below hb9
  replace htc := htc.below hb9
  replace rp := rp.below hb9
  replace rx := rx.below hb9
  replace rs := rs.below hb9
  replace hb9 := below_then hb8 hb9
  clear hb8
  go_wp2_with fail
  refine (same_eq Ax A kx cx na ca (v * u / u) v _ rx hva (by omega) (by omega) (Nat.mul_div_cancel v (Nat.pos_of_ne_zero hu))).mono ?_
  rintro e w10 ⟨rfl, hb10⟩
  replace hva := hva.below hb10
  replace hub := hub.below hb10
  replace htc := htc.below hb10
  replace rp := rp.below hb10
  replace rx := rx.below hb10
  replace rs := rs.below hb10
  replace rq := rq.below hb10
  replace rr := rr.below hb10
  replace hb10 := below_then hb9 hb10
  clear hb9
  go_wp2_with fail
  go_ret
  exact ⟨rfl, hb10⟩

theorem divProduct_any (hE : ExactIs 8) (hra : Rd w A na a) (hrb : Rd w A2 nb b) (hrc : Rd w A3 nc c) (q1 : na ≤ ca ∧ ca ≤ 9223372036854775807) (q2 : nb ≤ cb ∧ cb ≤ 9223372036854775807) (q3 : nc ≤ cc ∧ cc ≤ 9223372036854775807) :
    Calls Try.prog 6 #[.slice A na ca, .slice A2 nb cb, .slice A3 nc cc] w fun e w' => e = .returned (.bool true) ∧ Below w.heap.size w w' := by
  by_cases hl : 100 < na ∨ 100 < nb ∨ 100 < nc
  · exact divProduct_long hD hL A A2 A3 na ca nb cb nc cc w hl (by omega) (by omega) (by omega)
  · cases hma : may a with
    | false => exact divProduct_bada hD hL A A2 A3 na ca nb cb nc cc a b c w hra hrb hrc (by omega) (by omega) (by omega) hma
    | true =>
      cases hmb : may b with
      | false => exact divProduct_badb hD hL A A2 A3 na ca nb cb nc cc a b c w hra hrb hrc (by omega) (by omega) (by omega) hma hmb
      | true =>
        cases hmc : may c with
        | false => exact divProduct_badc hD hL A A2 A3 na ca nb cb nc cc a b c w hra hrb hrc (by omega) (by omega) (by omega) hma hmb hmc
        | true =>
          by_cases hb : b = []
          · exact divProduct_zero hD hL A A2 A3 na ca nb cb nc cc a b c w hra hrb hrc (by omega) (by omega) (by omega) hma hmb hmc hb
          · have hu : val b ≠ 0 := by have := val_pos hmb hb; omega
            have hn : nb ≠ 0 := fun h => hb (List.eq_nil_of_length_eq_zero (by rw [hrb.len]; exact h))
            have n1 := nm_of hra hma q1.1 q1.2
            have n2 := nm_of hrb hmb q2.1 q2.2
            have n3 := nm_of hrc hmc q3.1 q3.2
            by_cases ht : val c < val b
            · exact divProduct_less hD hL A A2 A3 na ca nb cb nc cc w hE _ _ _ n1 n2 n3 hu hn (by omega) (by omega) (by omega) ht
            · exact divProduct_more hD hL A A2 A3 na ca nb cb nc cc w hE _ _ _ n1 n2 n3 hu hn (by omega) (by omega) (by omega) _ (cmp3_ge (by omega)) rfl
end

end Go.Proofs.Ythenngajebkboaa

/- The law DivTwice: divided twice; by a word. -/
namespace Go.Proofs.Ythenngajebkboaa
open Go.RowKit Go.Shelf
set_option linter.unusedVariables false
set_option linter.unusedSimpArgs false

theorem quo_words (a b : List Nat) : Words (quoL a b) := by
  unfold quoL
  split
  · exact words_limbs _
  · exact words_nil
theorem rem_canon (a b : List Nat) : limbs (val (remL a b)) = remL a b := by
  unfold remL
  split
  · rw [val_limbs]
  · rw [val_nil, limbs_zero]
theorem val_rem_lt {a : List Nat} {x : Nat} (hx : x < B64) : val (remL a (limbs x)) < B64 := by
  unfold remL
  split
  · rw [val_limbs, val_limbs]
    by_cases h : x = 0
    · subst h
      rename_i he
      rw [limbs_zero] at he
      unfold divE at he
      split at he <;> simp at he
    · exact Nat.lt_trans (Nat.mod_lt _ (by omega)) hx
  · rw [val_nil]; exact B64_pos
theorem twice_is {a b c : List Nat} (h1 : divE a b = 0) (h2 : divE (quoL a b) c = 0) : quoL a (limbs (val b * val c)) = quoL (quoL a b) c ∧ divE a (limbs (val b * val c)) = 0 := by
  have h1' := h1
  rcases divE_cases a b with ⟨_, hma, hmb, hb⟩ | ⟨he, _⟩ | ⟨he, _⟩
  · rcases divE_cases (quoL a b) c with ⟨_, hmq, hmc, hc⟩ | ⟨he, _⟩ | ⟨he, _⟩
    · have hb0 := val_pos hmb hb
      have hc0 := val_pos hmc hc
      have hp : val b * val c ≠ 0 := Nat.ne_of_gt (Nat.mul_pos hb0 hc0)
      have e : divE a (limbs (val b * val c)) = 0 := divE_ok hma (may_limbs _) (fun h => hp (limbs_eq_nil.1 h))
      refine ⟨?_, e⟩
      rw [quoL_ok e, quoL_ok h2, quoL_ok h1, val_limbs, val_limbs, Nat.div_div_eq_div_mul]
    · rw [he] at h2; omega
    · rw [he] at h2; omega
  · rw [he] at h1; omega
  · rw [he] at h1; omega
section
variable (hD : DivIs 13) (hL : DivIs 15) (A A2 A3 : Option Addr) (na ca nb cb nc cc : Nat) (a b c : List Nat) (w : World)
theorem same_l (hra : Rd w A na a) (hrb : Rd w A2 nb b) (hna : na ≤ 100000) (hnb : nb ≤ 100000) (h : a = b) :
    Calls Try.prog 12 #[.slice A na ca, .slice A2 nb cb] w fun e w' => e = .returned (.bool true) ∧ Below w.heap.size w w' := by
  subst h
  have h := same_any A A2 na ca nb cb a a w hra hrb (by omega) (by omega)
  rwa [decide_eq_true rfl] at h
include hD hL

set_option maxRecDepth 100000 in
set_option maxHeartbeats 2500000 in
theorem divTwice_long (x : Nat) (hb : 50 < na ∨ 50 < nb ∨ 50 < nc) (h1 : na ≤ 9223372036854775807) (h2 : nb ≤ 9223372036854775807) (h3 : nc ≤ 9223372036854775807) :
    Calls Try.prog 7 #[.slice A na ca, .slice A2 nb cb, .slice A3 nc cc, .int .u64 (x : Int)] w fun e w' => e = .returned (.bool true) ∧ Below w.heap.size w w' := by
  by_cases h50 : 50 < na
  · clear hb
    go_enter Try.func7, Try.ntmps7
    go_wp2_with (go_at_call 10; refine (dalive_any hD hL _).mono ?_; rintro e w1 ⟨rfl, hb1⟩)
    go_ret
    exact ⟨rfl, hb1⟩
  · skip
    by_cases h51 : 50 < nb
    · clear hb
      go_enter Try.func7, Try.ntmps7
      go_wp2_with (go_at_call 10; refine (dalive_any hD hL _).mono ?_; rintro e w1 ⟨rfl, hb1⟩)
      go_ret
      exact ⟨rfl, hb1⟩
    · skip
      have h99 : 50 < nc := by omega
      clear hb
      go_enter Try.func7, Try.ntmps7
      go_wp2_with (go_at_call 10; refine (dalive_any hD hL _).mono ?_; rintro e w1 ⟨rfl, hb1⟩)
      go_ret
      exact ⟨rfl, hb1⟩

set_option maxRecDepth 100000 in
set_option maxHeartbeats 3000000 in
theorem divTwice_0a (hW : WordIs 9) (x : Nat) (hx : x < B64) (hra : Rd w A na a) (hrb : Rd w A2 nb b) (hrc : Rd w A3 nc c) (h1 : na ≤ 50) (h2 : nb ≤ 50) (h3 : nc ≤ 50) (q1 : na ≤ ca ∧ ca ≤ 9223372036854775807) (q2 : nb ≤ cb ∧ cb ≤ 9223372036854775807) (q3 : nc ≤ cc ∧ cc ≤ 9223372036854775807) (h3e : divE a (limbs x) = 0) (h1e : (divE a b != 0) = true) :
    Calls Try.prog 7 #[.slice A na ca, .slice A2 nb cb, .slice A3 nc cc, .int .u64 (x : Int)] w fun e w' => e = .returned (.bool true) ∧ Below w.heap.size w w' := by
  have lq0 := quo_len (b := b) hra.words
  have lp0 := quo_len (a := quoL a b) (b := c) (quo_words a b)
  have lx0 := quo_len (b := limbs x) hra.words
  have ls0 := rem_len (b := limbs x) hra.words
  rw [hra.len] at lq0 lx0 ls0
  have hxl : (limbs x).length ≤ 1 := limbs_length_le (by rw [Nat.pow_one]; exact hx)
  have hvr := val_rem_lt (a := a) hx
  obtain ⟨R, hR⟩ : ∃ R, val (remL a (limbs x)) = R := ⟨_, rfl⟩
  have hrc2 := rem_canon a (limbs x)
  rw [hR] at hvr hrc2
  have HR := Lib.hid hR
  have HRC := Lib.hid hrc2
  have hRl : (limbs R).length ≤ 1 := limbs_length_le (by rw [Nat.pow_one]; exact hvr)
  clear hR hrc2
  have HE3 := Lib.hid h3e
  clear h3e
  go_enter Try.func7, Try.ntmps7
  go_wp2_with fail
  refine (dalive_any hD hL _).mono ?_
  rintro e w1 ⟨rfl, hb1⟩
  replace hra := hra.below hb1
  replace hrb := hrb.below hb1
  replace hrc := hrc.below hb1
  go_wp2_with fail
  refine (hD A A2 na ca nb cb a b _ hra hrb (by omega) (by omega) q1 q2).mono ?_
  rintro e w2 ⟨Aq, kq, cq, Ar, kr, cr, rfl, oq, or, hb2⟩
  have rq := oq.rd.1
  have lq : kq ≤ 50 := by have := oq.rd.2.1; omega
  have qq : kq ≤ cq ∧ cq ≤ 9223372036854775807 := ⟨oq.rd.2.2.1, oq.rd.2.2.2⟩
  clear oq
  clear or
  replace hra := hra.below hb2
  replace hrb := hrb.below hb2
  replace hrc := hrc.below hb2
  replace hb2 := below_then hb1 hb2
  clear hb1
  go_wp2_with fail
  refine (hD Aq A3 kq cq nc cc (quoL a b) c _ rq hrc (by omega) (by omega) qq q3).mono ?_
  rintro e w3 ⟨Ap, kp, cp, Ao, ko, co, rfl, op, oo, hb3⟩
  have rp := op.rd.1
  have lp : kp ≤ 50 := by have := op.rd.2.1; omega
  have qp : kp ≤ cp ∧ cp ≤ 9223372036854775807 := ⟨op.rd.2.2.1, op.rd.2.2.2⟩
  clear op
  clear oo
  replace hra := hra.below hb3
  replace hrb := hrb.below hb3
  replace hrc := hrc.below hb3
  replace rq := rq.below hb3
  replace hb3 := below_then hb2 hb3
  clear hb2
  go_wp2_with fail
  refine (hW A na ca a x _ hra hx (by omega) q1).mono ?_
  rw [HR.out, HE3.out]
  rintro e w4 ⟨Ax, kx, cx, rfl, ox, hb4⟩
  have rx := ox.rd.1
  have lx : kx ≤ 50 := by have := ox.rd.2.1; omega
  have qx : kx ≤ cx ∧ cx ≤ 9223372036854775807 := ⟨ox.rd.2.2.1, ox.rd.2.2.2⟩
  clear ox
  replace hra := hra.below hb4
  replace hrb := hrb.below hb4
  replace hrc := hrc.below hb4
  replace rq := rq.below hb4
  replace rp := rp.below hb4
  replace hb4 := below_then hb3 hb4
  clear hb3
  go_wp2_with fail
  refine (of_any x _ hx).mono ?_
  rintro e w5 ⟨Aj, kj, cj, rfl, oj, hb5⟩
  have rj := oj.rd.1
  have lj : kj ≤ 1 := by have := oj.rd.2.1; omega
  have qj : kj ≤ cj ∧ cj ≤ 9223372036854775807 := ⟨oj.rd.2.2.1, oj.rd.2.2.2⟩
  clear oj
  replace hra := hra.below hb5
  replace hrb := hrb.below hb5
  replace hrc := hrc.below hb5
  replace rq := rq.below hb5
  replace rp := rp.below hb5
  replace rx := rx.below hb5
  replace hb5 := below_then hb4 hb5
  clear hb4
  go_wp2_with fail
  refine (hD A Aj na ca kj cj a (limbs x) _ hra rj (by omega) (by omega) q1 qj).mono ?_
  rw [HE3.out]
  rintro e w6 ⟨Ay, ky, cy, As, ks, cs, rfl, oy, os, hb6⟩
  have ry := oy.rd.1
  have ly : ky ≤ 50 := by have := oy.rd.2.1; omega
  have qy : ky ≤ cy ∧ cy ≤ 9223372036854775807 := ⟨oy.rd.2.2.1, oy.rd.2.2.2⟩
  clear oy
  have rs := os.rd.1
  have ls : ks ≤ 50 := by have := os.rd.2.1; omega
  have qs : ks ≤ cs ∧ cs ≤ 9223372036854775807 := ⟨os.rd.2.2.1, os.rd.2.2.2⟩
  clear os
  replace hra := hra.below hb6
  replace hrb := hrb.below hb6
  replace hrc := hrc.below hb6
  replace rq := rq.below hb6
  replace rp := rp.below hb6
  replace rx := rx.below hb6
  replace rj := rj.below hb6
  replace hb6 := below_then hb5 hb6
  clear hb5
  go_wp2_with fail
  refine (same_l Ax Ay kx cx ky cy _ _ _ rx ry (by omega) (by omega) rfl).mono ?_
  rintro e w7 ⟨rfl, hb7⟩
  replace hra := hra.below hb7
  replace hrb := hrb.below hb7
  replace hrc := hrc.below hb7
  replace rq := rq.below hb7
  replace rp := rp.below hb7
  replace rx := rx.below hb7
  replace rj := rj.below hb7
  replace ry := ry.below hb7
  replace rs := rs.below hb7
  replace hb7 := below_then hb6 hb7
  clear hb6
  go_wp2_with fail
  refine (of_any R _ hvr).mono ?_
  rintro e w8 ⟨Ag, kg, cg, rfl, og, hb8⟩
  have rg := og.rd.1
  have lg : kg ≤ 1 := by have := og.rd.2.1; omega
  clear og
  replace hra := hra.below hb8
  replace hrb := hrb.below hb8
  replace hrc := hrc.below hb8
  replace rq := rq.below hb8
  replace rp := rp.below hb8
  replace rx := rx.below hb8
  replace rj := rj.below hb8
  replace ry := ry.below hb8
  replace rs := rs.below hb8
  replace hb8 := below_then hb7 hb8
  clear hb7
  go_wp2_with fail
  refine (same_l Ag As kg cg ks cs _ _ _ rg rs (by omega) (by omega) HRC.out).mono ?_
  rintro e w9 ⟨rfl, hb9⟩
  replace hra := hra.below hb9
  replace hrb := hrb.below hb9
  replace hrc := hrc.below hb9
  replace rq := rq.below hb9
  replace rp := rp.below hb9
  replace rx := rx.below hb9
  replace rj := rj.below hb9
  replace ry := ry.below hb9
  replace rs := rs.below hb9
  replace rg := rg.below hb9
  replace hb9 := below_then hb8 hb9
  clear hb8
  go_wp2_with fail
  go_ret
  exact ⟨rfl, hb9⟩

set_option maxRecDepth 100000 in
set_option maxHeartbeats 3000000 in
theorem divTwice_0b (hW : WordIs 9) (x : Nat) (hx : x < B64) (hra : Rd w A na a) (hrb : Rd w A2 nb b) (hrc : Rd w A3 nc c) (h1 : na ≤ 50) (h2 : nb ≤ 50) (h3 : nc ≤ 50) (q1 : na ≤ ca ∧ ca ≤ 9223372036854775807) (q2 : nb ≤ cb ∧ cb ≤ 9223372036854775807) (q3 : nc ≤ cc ∧ cc ≤ 9223372036854775807) (h3e : divE a (limbs x) = 0) (h1e : divE a b = 0) (h2e : (divE (quoL a b) c != 0) = true) :
    Calls Try.prog 7 #[.slice A na ca, .slice A2 nb cb, .slice A3 nc cc, .int .u64 (x : Int)] w fun e w' => e = .returned (.bool true) ∧ Below w.heap.size w w' := by
  have lq0 := quo_len (b := b) hra.words
  have lp0 := quo_len (a := quoL a b) (b := c) (quo_words a b)
  have lx0 := quo_len (b := limbs x) hra.words
  have ls0 := rem_len (b := limbs x) hra.words
  rw [hra.len] at lq0 lx0 ls0
  have hxl : (limbs x).length ≤ 1 := limbs_length_le (by rw [Nat.pow_one]; exact hx)
  have hvr := val_rem_lt (a := a) hx
  obtain ⟨R, hR⟩ : ∃ R, val (remL a (limbs x)) = R := ⟨_, rfl⟩
  have hrc2 := rem_canon a (limbs x)
  rw [hR] at hvr hrc2
  have HR := Lib.hid hR
  have HRC := Lib.hid hrc2
  have hRl : (limbs R).length ≤ 1 := limbs_length_le (by rw [Nat.pow_one]; exact hvr)
  clear hR hrc2
  have HE3 := Lib.hid h3e
  clear h3e
  have HE1 := Lib.hid h1e
  clear h1e
  go_enter Try.func7, Try.ntmps7
  go_wp2_with fail
  refine (dalive_any hD hL _).mono ?_
  rintro e w1 ⟨rfl, hb1⟩
  replace hra := hra.below hb1
  replace hrb := hrb.below hb1
  replace hrc := hrc.below hb1
  go_wp2_with fail
  refine (hD A A2 na ca nb cb a b _ hra hrb (by omega) (by omega) q1 q2).mono ?_
  rw [HE1.out]
  rintro e w2 ⟨Aq, kq, cq, Ar, kr, cr, rfl, oq, or, hb2⟩
  have rq := oq.rd.1
  have lq : kq ≤ 50 := by have := oq.rd.2.1; omega
  have qq : kq ≤ cq ∧ cq ≤ 9223372036854775807 := ⟨oq.rd.2.2.1, oq.rd.2.2.2⟩
  clear oq
  clear or
  replace hra := hra.below hb2
  replace hrb := hrb.below hb2
  replace hrc := hrc.below hb2
  replace hb2 := below_then hb1 hb2
  clear hb1
  go_wp2_with fail
  refine (hD Aq A3 kq cq nc cc (quoL a b) c _ rq hrc (by omega) (by omega) qq q3).mono ?_
  rintro e w3 ⟨Ap, kp, cp, Ao, ko, co, rfl, op, oo, hb3⟩
  have rp := op.rd.1
  have lp : kp ≤ 50 := by have := op.rd.2.1; omega
  have qp : kp ≤ cp ∧ cp ≤ 9223372036854775807 := ⟨op.rd.2.2.1, op.rd.2.2.2⟩
  clear op
  clear oo
  replace hra := hra.below hb3
  replace hrb := hrb.below hb3
  replace hrc := hrc.below hb3
  replace rq := rq.below hb3
  replace hb3 := below_then hb2 hb3
  clear hb2
  go_wp2_with fail
  refine (hW A na ca a x _ hra hx (by omega) q1).mono ?_
  rw [HR.out, HE3.out]
  rintro e w4 ⟨Ax, kx, cx, rfl, ox, hb4⟩
  have rx := ox.rd.1
  have lx : kx ≤ 50 := by have := ox.rd.2.1; omega
  have qx : kx ≤ cx ∧ cx ≤ 9223372036854775807 := ⟨ox.rd.2.2.1, ox.rd.2.2.2⟩
  clear ox
  replace hra := hra.below hb4
  replace hrb := hrb.below hb4
  replace hrc := hrc.below hb4
  replace rq := rq.below hb4
  replace rp := rp.below hb4
  replace hb4 := below_then hb3 hb4
  clear hb3
  go_wp2_with fail
  refine (of_any x _ hx).mono ?_
  rintro e w5 ⟨Aj, kj, cj, rfl, oj, hb5⟩
  have rj := oj.rd.1
  have lj : kj ≤ 1 := by have := oj.rd.2.1; omega
  have qj : kj ≤ cj ∧ cj ≤ 9223372036854775807 := ⟨oj.rd.2.2.1, oj.rd.2.2.2⟩
  clear oj
  replace hra := hra.below hb5
  replace hrb := hrb.below hb5
  replace hrc := hrc.below hb5
  replace rq := rq.below hb5
  replace rp := rp.below hb5
  replace rx := rx.below hb5
  replace hb5 := below_then hb4 hb5
  clear hb4
  go_wp2_with fail
  refine (hD A Aj na ca kj cj a (limbs x) _ hra rj (by omega) (by omega) q1 qj).mono ?_
  rw [HE3.out]
  rintro e w6 ⟨Ay, ky, cy, As, ks, cs, rfl, oy, os, hb6⟩
  have ry := oy.rd.1
  have ly : ky ≤ 50 := by have := oy.rd.2.1; omega
  have qy : ky ≤ cy ∧ cy ≤ 9223372036854775807 := ⟨oy.rd.2.2.1, oy.rd.2.2.2⟩
  clear oy
  have rs := os.rd.1
  have ls : ks ≤ 50 := by have := os.rd.2.1; omega
  have qs : ks ≤ cs ∧ cs ≤ 9223372036854775807 := ⟨os.rd.2.2.1, os.rd.2.2.2⟩
  clear os
  replace hra := hra.below hb6
  replace hrb := hrb.below hb6
  replace hrc := hrc.below hb6
  replace rq := rq.below hb6
  replace rp := rp.below hb6
  replace rx := rx.below hb6
  replace rj := rj.below hb6
  replace hb6 := below_then hb5 hb6
  clear hb5
  go_wp2_with fail
  refine (same_l Ax Ay kx cx ky cy _ _ _ rx ry (by omega) (by omega) rfl).mono ?_
  rintro e w7 ⟨rfl, hb7⟩
  replace hra := hra.below hb7
  replace hrb := hrb.below hb7
  replace hrc := hrc.below hb7
  replace rq := rq.below hb7
  replace rp := rp.below hb7
  replace rx := rx.below hb7
  replace rj := rj.below hb7
  replace ry := ry.below hb7
  replace rs := rs.below hb7
  replace hb7 := below_then hb6 hb7
  clear hb6
  go_wp2_with fail
  refine (of_any R _ hvr).mono ?_
  rintro e w8 ⟨Ag, kg, cg, rfl, og, hb8⟩
  have rg := og.rd.1
  have lg : kg ≤ 1 := by have := og.rd.2.1; omega
  clear og
  replace hra := hra.below hb8
  replace hrb := hrb.below hb8
  replace hrc := hrc.below hb8
  replace rq := rq.below hb8
  replace rp := rp.below hb8
  replace rx := rx.below hb8
  replace rj := rj.below hb8
  replace ry := ry.below hb8
  replace rs := rs.below hb8
  replace hb8 := below_then hb7 hb8
  clear hb7
  go_wp2_with fail
  refine (same_l Ag As kg cg ks cs _ _ _ rg rs (by omega) (by omega) HRC.out).mono ?_
  rintro e w9 ⟨rfl, hb9⟩
  replace hra := hra.below hb9
  replace hrb := hrb.below hb9
  replace hrc := hrc.below hb9
  replace rq := rq.below hb9
  replace rp := rp.below hb9
  replace rx := rx.below hb9
  replace rj := rj.below hb9
  replace ry := ry.below hb9
  replace rs := rs.below hb9
  replace rg := rg.below hb9
  replace hb9 := below_then hb8 hb9
  clear hb8
  go_wp2_with fail
  go_ret
  exact ⟨rfl, hb9⟩

set_option maxRecDepth 100000 in
set_option maxHeartbeats 3000000 in
theorem divTwice_0ok (hW : WordIs 9) (x : Nat) (hx : x < B64) (hra : Rd w A na a) (hrb : Rd w A2 nb b) (hrc : Rd w A3 nc c) (h1 : na ≤ 50) (h2 : nb ≤ 50) (h3 : nc ≤ 50) (q1 : na ≤ ca ∧ ca ≤ 9223372036854775807) (q2 : nb ≤ cb ∧ cb ≤ 9223372036854775807) (q3 : nc ≤ cc ∧ cc ≤ 9223372036854775807) (h3e : divE a (limbs x) = 0) (h1e : divE a b = 0) (h2e : divE (quoL a b) c = 0) :
    Calls Try.prog 7 #[.slice A na ca, .slice A2 nb cb, .slice A3 nc cc, .int .u64 (x : Int)] w fun e w' => e = .returned (.bool true) ∧ Below w.heap.size w w' := by
  have lq0 := quo_len (b := b) hra.words
  have lp0 := quo_len (a := quoL a b) (b := c) (quo_words a b)
  have lx0 := quo_len (b := limbs x) hra.words
  have ls0 := rem_len (b := limbs x) hra.words
  rw [hra.len] at lq0 lx0 ls0
  have hxl : (limbs x).length ≤ 1 := limbs_length_le (by rw [Nat.pow_one]; exact hx)
  have hvr := val_rem_lt (a := a) hx
  obtain ⟨R, hR⟩ : ∃ R, val (remL a (limbs x)) = R := ⟨_, rfl⟩
  have hrc2 := rem_canon a (limbs x)
  rw [hR] at hvr hrc2
  have HR := Lib.hid hR
  have HRC := Lib.hid hrc2
  have hRl : (limbs R).length ≤ 1 := limbs_length_le (by rw [Nat.pow_one]; exact hvr)
  clear hR hrc2
  obtain ⟨hz, hze⟩ := twice_is h1e h2e
  have HZ := Lib.hid hz
  have HZE := Lib.hid hze
  have lt0 := length_mul hrb.words hrc.words
  rw [hrb.len, hrc.len] at lt0
  have lz0 := quo_len (a := a) (b := limbs (val b * val c)) hra.words
  rw [hra.len] at lz0
  clear hz hze
  have HE3 := Lib.hid h3e
  clear h3e
  have HE1 := Lib.hid h1e
  clear h1e
  have HE2 := Lib.hid h2e
  clear h2e
  go_enter Try.func7, Try.ntmps7
  go_wp2_with fail
  refine (dalive_any hD hL _).mono ?_
  rintro e w1 ⟨rfl, hb1⟩
  replace hra := hra.below hb1
  replace hrb := hrb.below hb1
  replace hrc := hrc.below hb1
  go_wp2_with fail
  refine (hD A A2 na ca nb cb a b _ hra hrb (by omega) (by omega) q1 q2).mono ?_
  rw [HE1.out]
  rintro e w2 ⟨Aq, kq, cq, Ar, kr, cr, rfl, oq, or, hb2⟩
  have rq := oq.rd.1
  have lq : kq ≤ 50 := by have := oq.rd.2.1; omega
  have qq : kq ≤ cq ∧ cq ≤ 9223372036854775807 := ⟨oq.rd.2.2.1, oq.rd.2.2.2⟩
  clear oq
  clear or
  replace hra := hra.below hb2
  replace hrb := hrb.below hb2
  replace hrc := hrc.below hb2
  replace hb2 := below_then hb1 hb2
  clear hb1
  go_wp2_with fail
  refine (hD Aq A3 kq cq nc cc (quoL a b) c _ rq hrc (by omega) (by omega) qq q3).mono ?_
  rw [HE2.out]
  rintro e w3 ⟨Ap, kp, cp, Ao, ko, co, rfl, op, oo, hb3⟩
  have rp := op.rd.1
  have lp : kp ≤ 50 := by have := op.rd.2.1; omega
  have qp : kp ≤ cp ∧ cp ≤ 9223372036854775807 := ⟨op.rd.2.2.1, op.rd.2.2.2⟩
  clear op
  clear oo
  replace hra := hra.below hb3
  replace hrb := hrb.below hb3
  replace hrc := hrc.below hb3
  replace rq := rq.below hb3
  replace hb3 := below_then hb2 hb3
  clear hb2
  go_wp2_with fail
  refine (hW A na ca a x _ hra hx (by omega) q1).mono ?_
  rw [HR.out, HE3.out]
  rintro e w4 ⟨Ax, kx, cx, rfl, ox, hb4⟩
  have rx := ox.rd.1
  have lx : kx ≤ 50 := by have := ox.rd.2.1; omega
  have qx : kx ≤ cx ∧ cx ≤ 9223372036854775807 := ⟨ox.rd.2.2.1, ox.rd.2.2.2⟩
  clear ox
  replace hra := hra.below hb4
  replace hrb := hrb.below hb4
  replace hrc := hrc.below hb4
  replace rq := rq.below hb4
  replace rp := rp.below hb4
  replace hb4 := below_then hb3 hb4
  clear hb3
  go_wp2_with fail
  refine (of_any x _ hx).mono ?_
  rintro e w5 ⟨Aj, kj, cj, rfl, oj, hb5⟩
  have rj := oj.rd.1
  have lj : kj ≤ 1 := by have := oj.rd.2.1; omega
  have qj : kj ≤ cj ∧ cj ≤ 9223372036854775807 := ⟨oj.rd.2.2.1, oj.rd.2.2.2⟩
  clear oj
  replace hra := hra.below hb5
  replace hrb := hrb.below hb5
  replace hrc := hrc.below hb5
  replace rq := rq.below hb5
  replace rp := rp.below hb5
  replace rx := rx.below hb5
  replace hb5 := below_then hb4 hb5
  clear hb4
  go_wp2_with fail
  refine (hD A Aj na ca kj cj a (limbs x) _ hra rj (by omega) (by omega) q1 qj).mono ?_
  rw [HE3.out]
  rintro e w6 ⟨Ay, ky, cy, As, ks, cs, rfl, oy, os, hb6⟩
  have ry := oy.rd.1
  have ly : ky ≤ 50 := by have := oy.rd.2.1; omega
  have qy : ky ≤ cy ∧ cy ≤ 9223372036854775807 := ⟨oy.rd.2.2.1, oy.rd.2.2.2⟩
  clear oy
  have rs := os.rd.1
  have ls : ks ≤ 50 := by have := os.rd.2.1; omega
  have qs : ks ≤ cs ∧ cs ≤ 9223372036854775807 := ⟨os.rd.2.2.1, os.rd.2.2.2⟩
  clear os
  replace hra := hra.below hb6
  replace hrb := hrb.below hb6
  replace hrc := hrc.below hb6
  replace rq := rq.below hb6
  replace rp := rp.below hb6
  replace rx := rx.below hb6
  replace rj := rj.below hb6
  replace hb6 := below_then hb5 hb6
  clear hb5
  go_wp2_with fail
  refine (same_l Ax Ay kx cx ky cy _ _ _ rx ry (by omega) (by omega) rfl).mono ?_
  rintro e w7 ⟨rfl, hb7⟩
  replace hra := hra.below hb7
  replace hrb := hrb.below hb7
  replace hrc := hrc.below hb7
  replace rq := rq.below hb7
  replace rp := rp.below hb7
  replace rx := rx.below hb7
  replace rj := rj.below hb7
  replace ry := ry.below hb7
  replace rs := rs.below hb7
  replace hb7 := below_then hb6 hb7
  clear hb6
  go_wp2_with fail
  refine (of_any R _ hvr).mono ?_
  rintro e w8 ⟨Ag, kg, cg, rfl, og, hb8⟩
  have rg := og.rd.1
  have lg : kg ≤ 1 := by have := og.rd.2.1; omega
  clear og
  replace hra := hra.below hb8
  replace hrb := hrb.below hb8
  replace hrc := hrc.below hb8
  replace rq := rq.below hb8
  replace rp := rp.below hb8
  replace rx := rx.below hb8
  replace rj := rj.below hb8
  replace ry := ry.below hb8
  replace rs := rs.below hb8
  replace hb8 := below_then hb7 hb8
  clear hb7
  go_wp2_with fail
  refine (same_l Ag As kg cg ks cs _ _ _ rg rs (by omega) (by omega) HRC.out).mono ?_
  rintro e w9 ⟨rfl, hb9⟩
  replace hra := hra.below hb9
  replace hrb := hrb.below hb9
  replace hrc := hrc.below hb9
  replace rq := rq.below hb9
  replace rp := rp.below hb9
  replace rx := rx.below hb9
  replace rj := rj.below hb9
  replace ry := ry.below hb9
  replace rs := rs.below hb9
  replace rg := rg.below hb9
  replace hb9 := below_then hb8 hb9
  clear hb8
  go_wp2_with fail
  refine (times_any A2 A3 nb cb nc cc b c _ hrb hrc (by omega) (by omega)).mono ?_
  rintro e w10 ⟨At, kt, ct, rfl, ot, hb10⟩
  have rt := ot.rd.1
  have lt : kt ≤ 100 := by have := ot.rd.2.1; omega
  have qt : kt ≤ ct ∧ ct ≤ 9223372036854775807 := ⟨ot.rd.2.2.1, ot.rd.2.2.2⟩
  clear ot
  replace hra := hra.below hb10
  replace hrb := hrb.below hb10
  replace hrc := hrc.below hb10
  replace rq := rq.below hb10
  replace rp := rp.below hb10
  replace rx := rx.below hb10
  replace rj := rj.below hb10
  replace ry := ry.below hb10
  replace rs := rs.below hb10
  replace rg := rg.below hb10
  replace hb10 := below_then hb9 hb10
  clear hb9
  go_wp2_with fail
  refine (hD A At na ca kt ct a (limbs (val b * val c)) _ hra rt (by omega) (by omega) q1 qt).mono ?_
  rw [HZE.out]
  rintro e w11 ⟨Az, kz, cz, Au, ku, cu, rfl, oz, ou, hb11⟩
  have rz := oz.rd.1
  have lz : kz ≤ 50 := by have := oz.rd.2.1; omega
  have qz : kz ≤ cz ∧ cz ≤ 9223372036854775807 := ⟨oz.rd.2.2.1, oz.rd.2.2.2⟩
  clear oz
  clear ou
  replace hra := hra.below hb11
  replace hrb := hrb.below hb11
  replace hrc := hrc.below hb11
  replace rq := rq.below hb11
  replace rp := rp.below hb11
  replace rx := rx.below hb11
  replace rj := rj.below hb11
  replace ry := ry.below hb11
  replace rs := rs.below hb11
  replace rg := rg.below hb11
  replace rt := rt.below hb11
  replace hb11 := below_then hb10 hb11
  clear hb10
  go_wp2_with fail
  refine (same_l Az Ap kz cz kp cp _ _ _ rz rp (by omega) (by omega) HZ.out).mono ?_
  rintro e w12 ⟨rfl, hb12⟩
  replace hra := hra.below hb12
  replace hrb := hrb.below hb12
  replace hrc := hrc.below hb12
  replace rq := rq.below hb12
  replace rp := rp.below hb12
  replace rx := rx.below hb12
  replace rj := rj.below hb12
  replace ry := ry.below hb12
  replace rs := rs.below hb12
  replace rg := rg.below hb12
  replace rt := rt.below hb12
  replace rz := rz.below hb12
  replace hb12 := below_then hb11 hb12
  clear hb11
  go_wp2_with fail
  go_ret
  exact ⟨rfl, hb12⟩

set_option maxRecDepth 100000 in
set_option maxHeartbeats 3000000 in
theorem divTwice_1a (hW : WordIs 9) (x : Nat) (hx : x < B64) (hra : Rd w A na a) (hrb : Rd w A2 nb b) (hrc : Rd w A3 nc c) (h1 : na ≤ 50) (h2 : nb ≤ 50) (h3 : nc ≤ 50) (q1 : na ≤ ca ∧ ca ≤ 9223372036854775807) (q2 : nb ≤ cb ∧ cb ≤ 9223372036854775807) (q3 : nc ≤ cc ∧ cc ≤ 9223372036854775807) (h3e : (divE a (limbs x) == 0) = false) (h1e : (divE a b != 0) = true) :
    Calls Try.prog 7 #[.slice A na ca, .slice A2 nb cb, .slice A3 nc cc, .int .u64 (x : Int)] w fun e w' => e = .returned (.bool true) ∧ Below w.heap.size w w' := by
  have lq0 := quo_len (b := b) hra.words
  have lp0 := quo_len (a := quoL a b) (b := c) (quo_words a b)
  have lx0 := quo_len (b := limbs x) hra.words
  have ls0 := rem_len (b := limbs x) hra.words
  rw [hra.len] at lq0 lx0 ls0
  have hxl : (limbs x).length ≤ 1 := limbs_length_le (by rw [Nat.pow_one]; exact hx)
  have hvr := val_rem_lt (a := a) hx
  obtain ⟨R, hR⟩ : ∃ R, val (remL a (limbs x)) = R := ⟨_, rfl⟩
  have hrc2 := rem_canon a (limbs x)
  rw [hR] at hvr hrc2
  have HR := Lib.hid hR
  have HRC := Lib.hid hrc2
  have hRl : (limbs R).length ≤ 1 := limbs_length_le (by rw [Nat.pow_one]; exact hvr)
  clear hR hrc2
  go_enter Try.func7, Try.ntmps7
  go_wp2_with fail
  refine (dalive_any hD hL _).mono ?_
  rintro e w1 ⟨rfl, hb1⟩
  replace hra := hra.below hb1
  replace hrb := hrb.below hb1
  replace hrc := hrc.below hb1
  go_wp2_with fail
  refine (hD A A2 na ca nb cb a b _ hra hrb (by omega) (by omega) q1 q2).mono ?_
  rintro e w2 ⟨Aq, kq, cq, Ar, kr, cr, rfl, oq, or, hb2⟩
  have rq := oq.rd.1
  have lq : kq ≤ 50 := by have := oq.rd.2.1; omega
  have qq : kq ≤ cq ∧ cq ≤ 9223372036854775807 := ⟨oq.rd.2.2.1, oq.rd.2.2.2⟩
  clear oq
  clear or
  replace hra := hra.below hb2
  replace hrb := hrb.below hb2
  replace hrc := hrc.below hb2
  replace hb2 := below_then hb1 hb2
  clear hb1
  go_wp2_with fail
  refine (hD Aq A3 kq cq nc cc (quoL a b) c _ rq hrc (by omega) (by omega) qq q3).mono ?_
  rintro e w3 ⟨Ap, kp, cp, Ao, ko, co, rfl, op, oo, hb3⟩
  have rp := op.rd.1
  have lp : kp ≤ 50 := by have := op.rd.2.1; omega
  have qp : kp ≤ cp ∧ cp ≤ 9223372036854775807 := ⟨op.rd.2.2.1, op.rd.2.2.2⟩
  clear op
  clear oo
  replace hra := hra.below hb3
  replace hrb := hrb.below hb3
  replace hrc := hrc.below hb3
  replace rq := rq.below hb3
  replace hb3 := below_then hb2 hb3
  clear hb2
  go_wp2_with fail
  refine (hW A na ca a x _ hra hx (by omega) q1).mono ?_
  rw [HR.out]
  rintro e w4 ⟨Ax, kx, cx, rfl, ox, hb4⟩
  have rx := ox.rd.1
  have lx : kx ≤ 50 := by have := ox.rd.2.1; omega
  have qx : kx ≤ cx ∧ cx ≤ 9223372036854775807 := ⟨ox.rd.2.2.1, ox.rd.2.2.2⟩
  clear ox
  replace hra := hra.below hb4
  replace hrb := hrb.below hb4
  replace hrc := hrc.below hb4
  replace rq := rq.below hb4
  replace rp := rp.below hb4
  replace hb4 := below_then hb3 hb4
  clear hb3
  go_wp2_with fail
  refine (of_any x _ hx).mono ?_
  rintro e w5 ⟨Aj, kj, cj, rfl, oj, hb5⟩
  have rj := oj.rd.1
  have lj : kj ≤ 1 := by have := oj.rd.2.1; omega
  have qj : kj ≤ cj ∧ cj ≤ 9223372036854775807 := ⟨oj.rd.2.2.1, oj.rd.2.2.2⟩
  clear oj
  replace hra := hra.below hb5
  replace hrb := hrb.below hb5
  replace hrc := hrc.below hb5
  replace rq := rq.below hb5
  replace rp := rp.below hb5
  replace rx := rx.below hb5
  replace hb5 := below_then hb4 hb5
  clear hb4
  go_wp2_with fail
  refine (hD A Aj na ca kj cj a (limbs x) _ hra rj (by omega) (by omega) q1 qj).mono ?_
  rintro e w6 ⟨Ay, ky, cy, As, ks, cs, rfl, oy, os, hb6⟩
  have ry := oy.rd.1
  have ly : ky ≤ 50 := by have := oy.rd.2.1; omega
  have qy : ky ≤ cy ∧ cy ≤ 9223372036854775807 := ⟨oy.rd.2.2.1, oy.rd.2.2.2⟩
  clear oy
  have rs := os.rd.1
  have ls : ks ≤ 50 := by have := os.rd.2.1; omega
  have qs : ks ≤ cs ∧ cs ≤ 9223372036854775807 := ⟨os.rd.2.2.1, os.rd.2.2.2⟩
  clear os
  replace hra := hra.below hb6
  replace hrb := hrb.below hb6
  replace hrc := hrc.below hb6
  replace rq := rq.below hb6
  replace rp := rp.below hb6
  replace rx := rx.below hb6
  replace rj := rj.below hb6
  replace hb6 := below_then hb5 hb6
  clear hb5
  go_wp2_with fail
  go_ret
  exact ⟨rfl, hb6⟩

set_option maxRecDepth 100000 in
set_option maxHeartbeats 3000000 in
theorem divTwice_1b (hW : WordIs 9) (x : Nat) (hx : x < B64) (hra : Rd w A na a) (hrb : Rd w A2 nb b) (hrc : Rd w A3 nc c) (h1 : na ≤ 50) (h2 : nb ≤ 50) (h3 : nc ≤ 50) (q1 : na ≤ ca ∧ ca ≤ 9223372036854775807) (q2 : nb ≤ cb ∧ cb ≤ 9223372036854775807) (q3 : nc ≤ cc ∧ cc ≤ 9223372036854775807) (h3e : (divE a (limbs x) == 0) = false) (h1e : divE a b = 0) (h2e : (divE (quoL a b) c != 0) = true) :
    Calls Try.prog 7 #[.slice A na ca, .slice A2 nb cb, .slice A3 nc cc, .int .u64 (x : Int)] w fun e w' => e = .returned (.bool true) ∧ Below w.heap.size w w' := by
  have lq0 := quo_len (b := b) hra.words
  have lp0 := quo_len (a := quoL a b) (b := c) (quo_words a b)
  have lx0 := quo_len (b := limbs x) hra.words
  have ls0 := rem_len (b := limbs x) hra.words
  rw [hra.len] at lq0 lx0 ls0
  have hxl : (limbs x).length ≤ 1 := limbs_length_le (by rw [Nat.pow_one]; exact hx)
  have hvr := val_rem_lt (a := a) hx
  obtain ⟨R, hR⟩ : ∃ R, val (remL a (limbs x)) = R := ⟨_, rfl⟩
  have hrc2 := rem_canon a (limbs x)
  rw [hR] at hvr hrc2
  have HR := Lib.hid hR
  have HRC := Lib.hid hrc2
  have hRl : (limbs R).length ≤ 1 := limbs_length_le (by rw [Nat.pow_one]; exact hvr)
  clear hR hrc2
  have HE1 := Lib.hid h1e
  clear h1e
  go_enter Try.func7, Try.ntmps7
  go_wp2_with fail
  refine (dalive_any hD hL _).mono ?_
  rintro e w1 ⟨rfl, hb1⟩
  replace hra := hra.below hb1
  replace hrb := hrb.below hb1
  replace hrc := hrc.below hb1
  go_wp2_with fail
  refine (hD A A2 na ca nb cb a b _ hra hrb (by omega) (by omega) q1 q2).mono ?_
  rw [HE1.out]
  rintro e w2 ⟨Aq, kq, cq, Ar, kr, cr, rfl, oq, or, hb2⟩
  have rq := oq.rd.1
  have lq : kq ≤ 50 := by have := oq.rd.2.1; omega
  have qq : kq ≤ cq ∧ cq ≤ 9223372036854775807 := ⟨oq.rd.2.2.1, oq.rd.2.2.2⟩
  clear oq
  clear or
  replace hra := hra.below hb2
  replace hrb := hrb.below hb2
  replace hrc := hrc.below hb2
  replace hb2 := below_then hb1 hb2
  clear hb1
  go_wp2_with fail
  refine (hD Aq A3 kq cq nc cc (quoL a b) c _ rq hrc (by omega) (by omega) qq q3).mono ?_
  rintro e w3 ⟨Ap, kp, cp, Ao, ko, co, rfl, op, oo, hb3⟩
  have rp := op.rd.1
  have lp : kp ≤ 50 := by have := op.rd.2.1; omega
  have qp : kp ≤ cp ∧ cp ≤ 9223372036854775807 := ⟨op.rd.2.2.1, op.rd.2.2.2⟩
  clear op
  clear oo
  replace hra := hra.below hb3
  replace hrb := hrb.below hb3
  replace hrc := hrc.below hb3
  replace rq := rq.below hb3
  replace hb3 := below_then hb2 hb3
  clear hb2
  go_wp2_with fail
  refine (hW A na ca a x _ hra hx (by omega) q1).mono ?_
  rw [HR.out]
  rintro e w4 ⟨Ax, kx, cx, rfl, ox, hb4⟩
  have rx := ox.rd.1
  have lx : kx ≤ 50 := by have := ox.rd.2.1; omega
  have qx : kx ≤ cx ∧ cx ≤ 9223372036854775807 := ⟨ox.rd.2.2.1, ox.rd.2.2.2⟩
  clear ox
  replace hra := hra.below hb4
  replace hrb := hrb.below hb4
  replace hrc := hrc.below hb4
  replace rq := rq.below hb4
  replace rp := rp.below hb4
  replace hb4 := below_then hb3 hb4
  clear hb3
  go_wp2_with fail
  refine (of_any x _ hx).mono ?_
  rintro e w5 ⟨Aj, kj, cj, rfl, oj, hb5⟩
  have rj := oj.rd.1
  have lj : kj ≤ 1 := by have := oj.rd.2.1; omega
  have qj : kj ≤ cj ∧ cj ≤ 9223372036854775807 := ⟨oj.rd.2.2.1, oj.rd.2.2.2⟩
  clear oj
  replace hra := hra.below hb5
  replace hrb := hrb.below hb5
  replace hrc := hrc.below hb5
  replace rq := rq.below hb5
  replace rp := rp.below hb5
  replace rx := rx.below hb5
  replace hb5 := below_then hb4 hb5
  clear hb4
  go_wp2_with fail
  refine (hD A Aj na ca kj cj a (limbs x) _ hra rj (by omega) (by omega) q1 qj).mono ?_
  rintro e w6 ⟨Ay, ky, cy, As, ks, cs, rfl, oy, os, hb6⟩
  have ry := oy.rd.1
  have ly : ky ≤ 50 := by have := oy.rd.2.1; omega
  have qy : ky ≤ cy ∧ cy ≤ 9223372036854775807 := ⟨oy.rd.2.2.1, oy.rd.2.2.2⟩
  clear oy
  have rs := os.rd.1
  have ls : ks ≤ 50 := by have := os.rd.2.1; omega
  have qs : ks ≤ cs ∧ cs ≤ 9223372036854775807 := ⟨os.rd.2.2.1, os.rd.2.2.2⟩
  clear os
  replace hra := hra.below hb6
  replace hrb := hrb.below hb6
  replace hrc := hrc.below hb6
  replace rq := rq.below hb6
  replace rp := rp.below hb6
  replace rx := rx.below hb6
  replace rj := rj.below hb6
  replace hb6 := below_then hb5 hb6
  clear hb5
  go_wp2_with fail
  go_ret
  exact ⟨rfl, hb6⟩

set_option maxRecDepth 100000 in
set_option maxHeartbeats 3000000 in
theorem divTwice_1ok (hW : WordIs 9) (x : Nat) (hx : x < B64) (hra : Rd w A na a) (hrb : Rd w A2 nb b) (hrc : Rd w A3 nc c) (h1 : na ≤ 50) (h2 : nb ≤ 50) (h3 : nc ≤ 50) (q1 : na ≤ ca ∧ ca ≤ 9223372036854775807) (q2 : nb ≤ cb ∧ cb ≤ 9223372036854775807) (q3 : nc ≤ cc ∧ cc ≤ 9223372036854775807) (h3e : (divE a (limbs x) == 0) = false) (h1e : divE a b = 0) (h2e : divE (quoL a b) c = 0) :
    Calls Try.prog 7 #[.slice A na ca, .slice A2 nb cb, .slice A3 nc cc, .int .u64 (x : Int)] w fun e w' => e = .returned (.bool true) ∧ Below w.heap.size w w' := by
  have lq0 := quo_len (b := b) hra.words
  have lp0 := quo_len (a := quoL a b) (b := c) (quo_words a b)
  have lx0 := quo_len (b := limbs x) hra.words
  have ls0 := rem_len (b := limbs x) hra.words
  rw [hra.len] at lq0 lx0 ls0
  have hxl : (limbs x).length ≤ 1 := limbs_length_le (by rw [Nat.pow_one]; exact hx)
  have hvr := val_rem_lt (a := a) hx
  obtain ⟨R, hR⟩ : ∃ R, val (remL a (limbs x)) = R := ⟨_, rfl⟩
  have hrc2 := rem_canon a (limbs x)
  rw [hR] at hvr hrc2
  have HR := Lib.hid hR
  have HRC := Lib.hid hrc2
  have hRl : (limbs R).length ≤ 1 := limbs_length_le (by rw [Nat.pow_one]; exact hvr)
  clear hR hrc2
  obtain ⟨hz, hze⟩ := twice_is h1e h2e
  have HZ := Lib.hid hz
  have HZE := Lib.hid hze
  have lt0 := length_mul hrb.words hrc.words
  rw [hrb.len, hrc.len] at lt0
  have lz0 := quo_len (a := a) (b := limbs (val b * val c)) hra.words
  rw [hra.len] at lz0
  clear hz hze
  have HE1 := Lib.hid h1e
  clear h1e
  have HE2 := Lib.hid h2e
  clear h2e
  go_enter Try.func7, Try.ntmps7
  go_wp2_with fail
  refine (dalive_any hD hL _).mono ?_
  rintro e w1 ⟨rfl, hb1⟩
  replace hra := hra.below hb1
  replace hrb := hrb.below hb1
  replace hrc := hrc.below hb1
  go_wp2_with fail
  refine (hD A A2 na ca nb cb a b _ hra hrb (by omega) (by omega) q1 q2).mono ?_
  rw [HE1.out]
  rintro e w2 ⟨Aq, kq, cq, Ar, kr, cr, rfl, oq, or, hb2⟩
  have rq := oq.rd.1
  have lq : kq ≤ 50 := by have := oq.rd.2.1; omega
  have qq : kq ≤ cq ∧ cq ≤ 9223372036854775807 := ⟨oq.rd.2.2.1, oq.rd.2.2.2⟩
  clear oq
  clear or
  replace hra := hra.below hb2
  replace hrb := hrb.below hb2
  replace hrc := hrc.below hb2
  replace hb2 := below_then hb1 hb2
  clear hb1
  go_wp2_with fail
  refine (hD Aq A3 kq cq nc cc (quoL a b) c _ rq hrc (by omega) (by omega) qq q3).mono ?_
  rw [HE2.out]
  rintro e w3 ⟨Ap, kp, cp, Ao, ko, co, rfl, op, oo, hb3⟩
  have rp := op.rd.1
  have lp : kp ≤ 50 := by have := op.rd.2.1; omega
  have qp : kp ≤ cp ∧ cp ≤ 9223372036854775807 := ⟨op.rd.2.2.1, op.rd.2.2.2⟩
  clear op
  clear oo
  replace hra := hra.below hb3
  replace hrb := hrb.below hb3
  replace hrc := hrc.below hb3
  replace rq := rq.below hb3
  replace hb3 := below_then hb2 hb3
  clear hb2
  go_wp2_with fail
  refine (hW A na ca a x _ hra hx (by omega) q1).mono ?_
  rw [HR.out]
  rintro e w4 ⟨Ax, kx, cx, rfl, ox, hb4⟩
  have rx := ox.rd.1
  have lx : kx ≤ 50 := by have := ox.rd.2.1; omega
  have qx : kx ≤ cx ∧ cx ≤ 9223372036854775807 := ⟨ox.rd.2.2.1, ox.rd.2.2.2⟩
  clear ox
  replace hra := hra.below hb4
  replace hrb := hrb.below hb4
  replace hrc := hrc.below hb4
  replace rq := rq.below hb4
  replace rp := rp.below hb4
  replace hb4 := below_then hb3 hb4
  clear hb3
  go_wp2_with fail
  refine (of_any x _ hx).mono ?_
  rintro e w5 ⟨Aj, kj, cj, rfl, oj, hb5⟩
  have rj := oj.rd.1
  have lj : kj ≤ 1 := by have := oj.rd.2.1; omega
  have qj : kj ≤ cj ∧ cj ≤ 9223372036854775807 := ⟨oj.rd.2.2.1, oj.rd.2.2.2⟩
  clear oj
  replace hra := hra.below hb5
  replace hrb := hrb.below hb5
  replace hrc := hrc.below hb5
  replace rq := rq.below hb5
  replace rp := rp.below hb5
  replace rx := rx.below hb5
  replace hb5 := below_then hb4 hb5
  clear hb4
  go_wp2_with fail
  refine (hD A Aj na ca kj cj a (limbs x) _ hra rj (by omega) (by omega) q1 qj).mono ?_
  rintro e w6 ⟨Ay, ky, cy, As, ks, cs, rfl, oy, os, hb6⟩
  have ry := oy.rd.1
  have ly : ky ≤ 50 := by have := oy.rd.2.1; omega
  have qy : ky ≤ cy ∧ cy ≤ 9223372036854775807 := ⟨oy.rd.2.2.1, oy.rd.2.2.2⟩
  clear oy
  have rs := os.rd.1
  have ls : ks ≤ 50 := by have := os.rd.2.1; omega
  have qs : ks ≤ cs ∧ cs ≤ 9223372036854775807 := ⟨os.rd.2.2.1, os.rd.2.2.2⟩
  clear os
  replace hra := hra.below hb6
  replace hrb := hrb.below hb6
  replace hrc := hrc.below hb6
  replace rq := rq.below hb6
  replace rp := rp.below hb6
  replace rx := rx.below hb6
  replace rj := rj.below hb6
  replace hb6 := below_then hb5 hb6
  clear hb5
  go_wp2_with fail
  refine (times_any A2 A3 nb cb nc cc b c _ hrb hrc (by omega) (by omega)).mono ?_
  rintro e w7 ⟨At, kt, ct, rfl, ot, hb7⟩
  have rt := ot.rd.1
  have lt : kt ≤ 100 := by have := ot.rd.2.1; omega
  have qt : kt ≤ ct ∧ ct ≤ 9223372036854775807 := ⟨ot.rd.2.2.1, ot.rd.2.2.2⟩
  clear ot
  replace hra := hra.below hb7
  replace hrb := hrb.below hb7
  replace hrc := hrc.below hb7
  replace rq := rq.below hb7
  replace rp := rp.below hb7
  replace rx := rx.below hb7
  replace rj := rj.below hb7
  replace ry := ry.below hb7
  replace rs := rs.below hb7
  replace hb7 := below_then hb6 hb7
  clear hb6
  go_wp2_with fail
  refine (hD A At na ca kt ct a (limbs (val b * val c)) _ hra rt (by omega) (by omega) q1 qt).mono ?_
  rw [HZE.out]
  rintro e w8 ⟨Az, kz, cz, Au, ku, cu, rfl, oz, ou, hb8⟩
  have rz := oz.rd.1
  have lz : kz ≤ 50 := by have := oz.rd.2.1; omega
  have qz : kz ≤ cz ∧ cz ≤ 9223372036854775807 := ⟨oz.rd.2.2.1, oz.rd.2.2.2⟩
  clear oz
  clear ou
  replace hra := hra.below hb8
  replace hrb := hrb.below hb8
  replace hrc := hrc.below hb8
  replace rq := rq.below hb8
  replace rp := rp.below hb8
  replace rx := rx.below hb8
  replace rj := rj.below hb8
  replace ry := ry.below hb8
  replace rs := rs.below hb8
  replace rt := rt.below hb8
  replace hb8 := below_then hb7 hb8
  clear hb7
  go_wp2_with fail
  refine (same_l Az Ap kz cz kp cp _ _ _ rz rp (by omega) (by omega) HZ.out).mono ?_
  rintro e w9 ⟨rfl, hb9⟩
  replace hra := hra.below hb9
  replace hrb := hrb.below hb9
  replace hrc := hrc.below hb9
  replace rq := rq.below hb9
  replace rp := rp.below hb9
  replace rx := rx.below hb9
  replace rj := rj.below hb9
  replace ry := ry.below hb9
  replace rs := rs.below hb9
  replace rt := rt.below hb9
  replace rz := rz.below hb9
  replace hb9 := below_then hb8 hb9
  clear hb8
  go_wp2_with fail
  go_ret
  exact ⟨rfl, hb9⟩

theorem divTwice_any (hW : WordIs 9) (x : Nat) (hx : x < B64) (hra : Rd w A na a) (hrb : Rd w A2 nb b) (hrc : Rd w A3 nc c) (q1 : na ≤ ca ∧ ca ≤ 9223372036854775807) (q2 : nb ≤ cb ∧ cb ≤ 9223372036854775807) (q3 : nc ≤ cc ∧ cc ≤ 9223372036854775807) :
    Calls Try.prog 7 #[.slice A na ca, .slice A2 nb cb, .slice A3 nc cc, .int .u64 (x : Int)] w fun e w' => e = .returned (.bool true) ∧ Below w.heap.size w w' := by
  by_cases hl : 50 < na ∨ 50 < nb ∨ 50 < nc
  · exact divTwice_long hD hL A A2 A3 na ca nb cb nc cc w x hl (by omega) (by omega) (by omega)
  · by_cases h3e : divE a (limbs x) = 0
    · by_cases h1e : divE a b = 0
      · by_cases h2e : divE (quoL a b) c = 0
        · exact divTwice_0ok hD hL A A2 A3 na ca nb cb nc cc a b c w hW x hx hra hrb hrc (by omega) (by omega) (by omega) q1 q2 q3 h3e h1e h2e
        · exact divTwice_0b hD hL A A2 A3 na ca nb cb nc cc a b c w hW x hx hra hrb hrc (by omega) (by omega) (by omega) q1 q2 q3 h3e h1e (by simpa using h2e)
      · exact divTwice_0a hD hL A A2 A3 na ca nb cb nc cc a b c w hW x hx hra hrb hrc (by omega) (by omega) (by omega) q1 q2 q3 h3e (by simpa using h1e)
    · have h3f : (divE a (limbs x) == 0) = false := by simpa using h3e
      by_cases h1e : divE a b = 0
      · by_cases h2e : divE (quoL a b) c = 0
        · exact divTwice_1ok hD hL A A2 A3 na ca nb cb nc cc a b c w hW x hx hra hrb hrc (by omega) (by omega) (by omega) q1 q2 q3 h3f h1e h2e
        · exact divTwice_1b hD hL A A2 A3 na ca nb cb nc cc a b c w hW x hx hra hrb hrc (by omega) (by omega) (by omega) q1 q2 q3 h3f h1e (by simpa using h2e)
      · exact divTwice_1a hD hL A A2 A3 na ca nb cb nc cc a b c w hW x hx hra hrb hrc (by omega) (by omega) (by omega) q1 q2 q3 h3f (by simpa using h1e)
end

end Go.Proofs.Ythenngajebkboaa

/- The law DivTells: quotients, however they are made, are the document's. -/
namespace Go.Proofs.Ythenngajebkboaa
open Go.RowKit Go.Shelf
set_option linter.unusedVariables false
set_option linter.unusedSimpArgs false

section
variable (hD : DivIs 13) (hL : DivIs 15) (A A2 : Option Addr) (na ca nb cb : Nat) (a b : List Nat) (w : World)
theorem exact_len (hw : Words a) : (exactL a b).length ≤ a.length := by
  unfold exactL
  split
  · exact length_of_le hw (Nat.div_le_self _ _)
  · simp

set_option maxRecDepth 100000 in
set_option maxHeartbeats 2500000 in
theorem divTells_long (x : Nat) (hb : 8 < na ∨ 8 < nb) (h1 : na ≤ 9223372036854775807) (h2 : nb ≤ 9223372036854775807) :
    Calls Try.prog 4 #[.slice A na ca, .slice A2 nb cb, .int .u64 (x : Int)] w fun e w' => e = .returned (.bool true) ∧ Below w.heap.size w w' := by
  by_cases ha : 8 < na
  · clear hb
    go_enter Try.func4, Try.ntmps4
    go_wp2
    go_ret
    exact ⟨rfl, Below.refl _ _⟩
  · have hc : 8 < nb := by omega
    clear hb
    go_enter Try.func4, Try.ntmps4
    go_wp2
    go_ret
    exact ⟨rfl, Below.refl _ _⟩

include hD hL

set_option maxRecDepth 100000 in
set_option maxHeartbeats 4000000 in
theorem divTells_short (hW : WordIs 9) (hE : ExactIs 8) (x : Nat) (hx : x < B64) (hra : Rd w A na a) (hrb : Rd w A2 nb b) (h1 : na ≤ 8) (h2 : nb ≤ 8) (q2 : nb ≤ cb ∧ cb ≤ 9223372036854775807) (hca : A = none → na = 0 ∧ ca = 0) :
    Calls Try.prog 4 #[.slice A na ca, .slice A2 nb cb, .int .u64 (x : Int)] w fun e w' => e = .returned (.bool true) ∧ Below w.heap.size w w' := by
  obtain ⟨i0, hi0, hz0, hz1, hz2⟩ := info_parts u64_info
  have lq0 := quo_len (b := b) hra.words
  have lr0 := rem_len (b := b) hra.words
  have le0 := exact_len (a := a) (b := b) hra.words
  have lm0 := quo_len (b := limbs x) hra.words
  have ld0 := rem_len (b := limbs x) hra.words
  rw [hra.len] at lq0 lr0 le0 lm0 ld0
  have hxl : (limbs x).length ≤ 1 := limbs_length_le (by rw [Nat.pow_one]; exact hx)
  have hvr := val_rem_lt (a := a) hx
  obtain ⟨R, hR⟩ : ∃ R, val (remL a (limbs x)) = R := ⟨_, rfl⟩
  have hrc2 := rem_canon a (limbs x)
  rw [hR] at hvr hrc2
  have HR := Lib.hid hR
  have HRC := Lib.hid hrc2
  have hRl : (limbs R).length ≤ 1 := limbs_length_le (by rw [Nat.pow_one]; exact hvr)
  clear hR hrc2
  have HCA := Lib.hid hca
  clear hca
  go_enter Try.func4, Try.ntmps4
  go_wp2_with (at_builtin; go_loud (refine wpList_copy rfl _ _ 23 rfl i0 Try.underlying23 hi0 hz0 hz1 hz2 rfl A na ca a rfl HCA.out hra (by omega) ?_); intro Ao co w1 hown hb1)
  replace hra := hra.below hb1
  replace hrb := hrb.below hb1
  have hro := hown.rd.1
  have qo : na ≤ co ∧ co ≤ 9223372036854775807 := ⟨hown.rd.2.2.1, hown.rd.2.2.2⟩
  clear hown
  go_wp2_with fail
  have ltO := hro.lt
  have ltA := hra.lt
  have hGr : w.heap.size ≤ w1.heap.size := hb1.size
  refine (hD Ao A2 na co nb cb a b _ hro hrb (by omega) (by omega) qo q2).mono ?_
  rintro e w2 ⟨Aq, kq, cq, Ar, kr, cr, rfl, oq, or, hb2⟩
  generalize hBr : w1.heap.size = Br at or ltO ltA hGr
  have rq := oq.rd.1
  have lq : kq ≤ 8 := by have := oq.rd.2.1; omega
  clear oq
  have lr : kr ≤ 8 := by have := or.rd.2.1; omega
  replace hra := hra.below hb2
  replace hrb := hrb.below hb2
  replace hro := hro.below hb2
  replace hb2 := below_then hb1 hb2
  clear hb1
  go_wp2_with fail
  refine (rDiv_spec A A2 na ca nb cb a b _ hra hrb (by omega) (by omega)).mono ?_
  rintro e w3 ⟨Ax, kx, cx, Ay, ky, cy, rfl, ox, oy, hb3⟩
  have rx := ox.rd.1
  have lx : kx ≤ 8 := by have := ox.rd.2.1; omega
  clear ox
  have ry := oy.rd.1
  have ly : ky ≤ 8 := by have := oy.rd.2.1; omega
  clear oy
  replace hra := hra.below hb3
  replace hrb := hrb.below hb3
  replace hro := hro.below hb3
  replace rq := rq.below hb3
  replace or := or.below hb3
  replace hb3 := below_then hb2 hb3
  clear hb2
  go_wp2_with fail
  refine (hL Ao A2 na co nb cb a b _ hro hrb (by omega) (by omega) qo q2).mono ?_
  rintro e w4 ⟨Ap, kp, cp, As, ks, cs, rfl, op, os, hb4⟩
  have rp := op.rd.1
  have lp : kp ≤ 8 := by have := op.rd.2.1; omega
  clear op
  have rs := os.rd.1
  have ls : ks ≤ 8 := by have := os.rd.2.1; omega
  clear os
  replace hra := hra.below hb4
  replace hrb := hrb.below hb4
  replace hro := hro.below hb4
  replace rq := rq.below hb4
  replace or := or.below hb4
  replace rx := rx.below hb4
  replace ry := ry.below hb4
  replace hb4 := below_then hb3 hb4
  clear hb3
  go_wp2_with fail
  refine (hE Ao A2 na co nb cb a b _ hro hrb (by omega) (by omega) qo q2).mono ?_
  rintro e w5 ⟨Az, kz, cz, rfl, oz, hb5⟩
  have rz := oz.rd.1
  have lz : kz ≤ 8 := by have := oz.rd.2.1; omega
  clear oz
  replace hra := hra.below hb5
  replace hrb := hrb.below hb5
  replace hro := hro.below hb5
  replace rq := rq.below hb5
  replace or := or.below hb5
  replace rx := rx.below hb5
  replace ry := ry.below hb5
  replace rp := rp.below hb5
  replace rs := rs.below hb5
  replace hb5 := below_then hb4 hb5
  clear hb4
  go_wp2_with fail
  refine (rExact_spec A A2 na ca nb cb a b _ hra hrb (by omega) (by omega)).mono ?_
  rintro e w6 ⟨Av, kv, cv, rfl, ov, hb6⟩
  have rv := ov.rd.1
  have lv : kv ≤ 8 := by have := ov.rd.2.1; omega
  clear ov
  replace hra := hra.below hb6
  replace hrb := hrb.below hb6
  replace hro := hro.below hb6
  replace rq := rq.below hb6
  replace or := or.below hb6
  replace rx := rx.below hb6
  replace ry := ry.below hb6
  replace rp := rp.below hb6
  replace rs := rs.below hb6
  replace rz := rz.below hb6
  replace hb6 := below_then hb5 hb6
  clear hb5
  go_wp2_with fail
  refine (hW Ao na co a x _ hro hx (by omega) qo).mono ?_
  rw [HR.out]
  rintro e w7 ⟨Am, km, cm, rfl, om, hb7⟩
  have rm := om.rd.1
  have lm : km ≤ 8 := by have := om.rd.2.1; omega
  clear om
  replace hra := hra.below hb7
  replace hrb := hrb.below hb7
  replace hro := hro.below hb7
  replace rq := rq.below hb7
  replace or := or.below hb7
  replace rx := rx.below hb7
  replace ry := ry.below hb7
  replace rp := rp.below hb7
  replace rs := rs.below hb7
  replace rz := rz.below hb7
  replace rv := rv.below hb7
  replace hb7 := below_then hb6 hb7
  clear hb6
  go_wp2_with fail
  refine (rOf_any _ x hx).mono ?_
  rintro e w8 ⟨Aj, kj, cj, rfl, oj, hb8⟩
  have rj := oj.rd.1
  have lj : kj ≤ 1 := by have := oj.rd.2.1; omega
  clear oj
  replace hra := hra.below hb8
  replace hrb := hrb.below hb8
  replace hro := hro.below hb8
  replace rq := rq.below hb8
  replace or := or.below hb8
  replace rx := rx.below hb8
  replace ry := ry.below hb8
  replace rp := rp.below hb8
  replace rs := rs.below hb8
  replace rz := rz.below hb8
  replace rv := rv.below hb8
  replace rm := rm.below hb8
  replace hb8 := below_then hb7 hb8
  clear hb7
  go_wp2_with fail
  refine (rDiv_spec A Aj na ca kj cj a (limbs x) _ hra rj (by omega) (by omega)).mono ?_
  rintro e w9 ⟨Ac, kc, cc, Ad, kd, cd, rfl, oc, od, hb9⟩
  have rc := oc.rd.1
  have lc : kc ≤ 8 := by have := oc.rd.2.1; omega
  clear oc
  have rd := od.rd.1
  have ld : kd ≤ 8 := by have := od.rd.2.1; omega
  clear od
  replace hra := hra.below hb9
  replace hrb := hrb.below hb9
  replace hro := hro.below hb9
  replace rq := rq.below hb9
  replace or := or.below hb9
  replace rx := rx.below hb9
  replace ry := ry.below hb9
  replace rp := rp.below hb9
  replace rs := rs.below hb9
  replace rz := rz.below hb9
  replace rv := rv.below hb9
  replace rm := rm.below hb9
  replace hb9 := below_then hb8 hb9
  clear hb8
  go_wp2_with fail
  refine (same_l Aq Ax kq cq kx cx _ _ _ rq rx (by omega) (by omega) rfl).mono ?_
  rintro e w10 ⟨rfl, hb10⟩
  replace hra := hra.below hb10
  replace hrb := hrb.below hb10
  replace hro := hro.below hb10
  replace or := or.below hb10
  replace rx := rx.below hb10
  replace ry := ry.below hb10
  replace rp := rp.below hb10
  replace rs := rs.below hb10
  replace rz := rz.below hb10
  replace rv := rv.below hb10
  replace rm := rm.below hb10
  replace rc := rc.below hb10
  replace rd := rd.below hb10
  replace hb10 := below_then hb9 hb10
  clear hb9
  go_wp2_with fail
  refine (same_l Ar Ay kr cr ky cy _ _ _ or.rd.1 ry (by omega) (by omega) rfl).mono ?_
  rintro e w11 ⟨rfl, hb11⟩
  replace hra := hra.below hb11
  replace hrb := hrb.below hb11
  replace hro := hro.below hb11
  replace or := or.below hb11
  replace rx := rx.below hb11
  replace ry := ry.below hb11
  replace rp := rp.below hb11
  replace rs := rs.below hb11
  replace rz := rz.below hb11
  replace rv := rv.below hb11
  replace rm := rm.below hb11
  replace rc := rc.below hb11
  replace rd := rd.below hb11
  replace hb11 := below_then hb10 hb11
  clear hb10
  go_wp2_with fail
  refine (same_l Ap Ax kp cp kx cx _ _ _ rp rx (by omega) (by omega) rfl).mono ?_
  rintro e w12 ⟨rfl, hb12⟩
  replace hra := hra.below hb12
  replace hrb := hrb.below hb12
  replace hro := hro.below hb12
  replace or := or.below hb12
  replace ry := ry.below hb12
  replace rs := rs.below hb12
  replace rz := rz.below hb12
  replace rv := rv.below hb12
  replace rm := rm.below hb12
  replace rc := rc.below hb12
  replace rd := rd.below hb12
  replace hb12 := below_then hb11 hb12
  clear hb11
  go_wp2_with fail
  refine (same_l As Ay ks cs ky cy _ _ _ rs ry (by omega) (by omega) rfl).mono ?_
  rintro e w13 ⟨rfl, hb13⟩
  replace hra := hra.below hb13
  replace hrb := hrb.below hb13
  replace hro := hro.below hb13
  replace or := or.below hb13
  replace rz := rz.below hb13
  replace rv := rv.below hb13
  replace rm := rm.below hb13
  replace rc := rc.below hb13
  replace rd := rd.below hb13
  replace hb13 := below_then hb12 hb13
  clear hb12
  go_wp2_with fail
  refine (same_l Az Av kz cz kv cv _ _ _ rz rv (by omega) (by omega) rfl).mono ?_
  rintro e w14 ⟨rfl, hb14⟩
  replace hra := hra.below hb14
  replace hrb := hrb.below hb14
  replace hro := hro.below hb14
  replace or := or.below hb14
  replace rm := rm.below hb14
  replace rc := rc.below hb14
  replace rd := rd.below hb14
  replace hb14 := below_then hb13 hb14
  clear hb13
  go_wp2_with fail
  refine (same_l Am Ac km cm kc cc _ _ _ rm rc (by omega) (by omega) rfl).mono ?_
  rintro e w15 ⟨rfl, hb15⟩
  replace hra := hra.below hb15
  replace hrb := hrb.below hb15
  replace hro := hro.below hb15
  replace or := or.below hb15
  replace rd := rd.below hb15
  replace hb15 := below_then hb14 hb15
  clear hb14
  go_wp2_with fail
  refine (rOf_any _ R hvr).mono ?_
  rintro e w16 ⟨Ag, kg, cg, rfl, og, hb16⟩
  have rg := og.rd.1
  have lg : kg ≤ 1 := by have := og.rd.2.1; omega
  clear og
  replace hra := hra.below hb16
  replace hrb := hrb.below hb16
  replace hro := hro.below hb16
  replace or := or.below hb16
  replace rd := rd.below hb16
  replace hb16 := below_then hb15 hb16
  clear hb15
  go_wp2_with fail
  refine (same_l Ag Ad kg cg kd cd _ _ _ rg rd (by omega) (by omega) HRC.out).mono ?_
  rintro e w17 ⟨rfl, hb17⟩
  replace hra := hra.below hb17
  replace hrb := hrb.below hb17
  replace hro := hro.below hb17
  replace or := or.below hb17
  replace hb17 := below_then hb16 hb17
  clear hb16
  have hlr : kr ≤ 8 := lr
  go_wp2_with fail
  go_loopw [29] (fun i W => ∃ (k : Nat) (l : List Nat), k ≤ kr ∧ i = .int .i64 (k : Int) ∧ Own W Br (.slice Ar kr cr) l ∧ KeepsOf (But w17.heap.size (.slice Ar kr cr)) w17 W ∧ Below w.heap.size w W) (fun i _ => kr - (intOf i).toNat)
  case atStart => exact ⟨0, _, by omega, rfl, or, KeepsOf.refl _, hb17⟩
  case round =>
    obtain ⟨k, l, hk, rfl, ol, hkeep, hB⟩ := hrel
    by_cases hlt : k < kr
    · obtain ⟨g, rfl, hg, _⟩ := own_at ol (by omega)
      have hcell := (own_cell ol hlt).1
      have hfr := (own_cell ol hlt).2
      have OL := Lib.hid ol
      have HK := Lib.hid hkeep
      clear ol hkeep hra hrb hro or
      go_wp2
      go_roundw
      case rel =>
        rw [incr_word]
        exact ⟨k + 1, _, by omega, by go_num, own_set OL.out hlt (Nat.mod_lt _ B64_pos), set_keeps _ _ HK.out, hB.setCell (p := ⟨g, k, none⟩) (Nat.le_trans hGr hg) _⟩
      case measure => simp [intOf]; omega
    · have hkn : k = kr := by omega
      subst hkn
      replace hra := rd_but hra or ltA hkeep
      replace hro := rd_but hro or ltO hkeep
      clear ol hkeep hrb or ltO ltA hb17
      have hb50 := hB
      clear hB
      go_wp2_with fail
      refine (same_l Ao A na co na ca a a _ hro hra (by omega) (by omega) rfl).mono ?_
      rintro e w51 ⟨rfl, hb51⟩
      replace hra := hra.below hb51
      replace hro := hro.below hb51
      replace hb51 := below_then hb50 hb51
      clear hb50
      go_wp2_with fail
      go_ret
      exact ⟨rfl, hb51⟩

theorem divTells_any (hW : WordIs 9) (hE : ExactIs 8) (x : Nat) (hx : x < B64) (hra : Rd w A na a) (hrb : Rd w A2 nb b) (q1 : na ≤ ca ∧ ca ≤ 9223372036854775807) (q2 : nb ≤ cb ∧ cb ≤ 9223372036854775807) (hca : A = none → na = 0 ∧ ca = 0) :
    Calls Try.prog 4 #[.slice A na ca, .slice A2 nb cb, .int .u64 (x : Int)] w fun e w' => e = .returned (.bool true) ∧ Below w.heap.size w w' := by
  by_cases h : 8 < na ∨ 8 < nb
  · exact divTells_long A A2 na ca nb cb w x h (by omega) (by omega)
  · exact divTells_short hD hL A A2 na ca nb cb a b w hW hE x hx hra hrb (by omega) (by omega) q2 hca
end

end Go.Proofs.Ythenngajebkboaa
