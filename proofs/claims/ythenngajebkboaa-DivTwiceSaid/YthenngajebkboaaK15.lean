import Derived.Shelf.Bits.Mul64
import Derived.Test.YthenngajebkboaaK14
/- Texts of one proof, one behind another: MTrim AddRow School Nm. -/
/- mul's trim; bits.Mul64, laid at this program; two words' sum. -/
namespace Go.Proofs
open Go.Shelf
def Try.lays264_ren : Go.Shelf.Ren := ⟨fun | 264 => 67 | n => n, fun | 53 => 27 | 46 => 79 | n => n, fun | n => n⟩
theorem Try.lays264 : Go.Proofs.Lays.n264 Try.prog Try.lays264_ren := {
  mixed := by kernel_rfl
  f264 := Try.func67.trans (congrArg some (by kernel_rfl))
  t46 := Try.underlying79
  a46 := Try.isAgg79
  z46 := Try.sizeOf79
  v46 := Try.zeroValue79
  t53 := Try.underlying27
  a53 := Try.isAgg27
  z53 := Try.sizeOf27
  v53 := Try.zeroValue27 }
end Go.Proofs
namespace Go.Proofs.Ythenngajebkboaa
open Go.RowKit Go.Shelf
set_option linter.unusedVariables false

theorem mul64_any (x y : Nat) (hx : x < B64) (hy : y < B64) (w : World) :
    Calls Try.prog 67 #[u64 x, u64 y] w fun e w' => e = .returned (.tuple #[u64 (x * y / B64), u64 (x * y % B64)]) ∧ w' = w := Any.bits_Mul64 Try.lays264 x y hx hy w

theorem add64_two (x y : Nat) (hx : x < B64) (hy : y < B64) (w : World) :
    (callFunc 31 #[.int .u64 (x : Int), .int .u64 (y : Int), .int .u64 0]).run Try.prog w = .ok (.value (.tuple #[u64 ((x + y) % B64), u64 ((x + y) / B64)])) w :=
  joiner_add.run x y 0 hx hy (by omega) w

end Go.Proofs.Ythenngajebkboaa

/- mul.addRow: a number times one limb is added to the lowest limbs of a row, in place. -/
namespace Go.Proofs.Ythenngajebkboaa
open Go.RowKit Go.Shelf
set_option linter.unusedVariables false

theorem u64_add_fits {x y : Nat} (h : x + y < B64) : IntKind.u64.wrap ((x : Int) + (y : Int)) = (x : Int) + (y : Int) := by
  rw [IntKind.wrap_u64]; rw [B64_eq] at h; omega

end Go.Proofs.Ythenngajebkboaa

/- (mul.number).school: products by school. -/
namespace Go.Proofs.Ythenngajebkboaa
open Go.RowKit Go.Shelf
set_option linter.unusedVariables false

theorem own_nil (w : World) (B : Nat) : Own w B (.slice none 0 0) [] := ⟨World.ownsRow_nil _ _ _ _, words_nil⟩
theorem limbs_none {a b : List Nat} (h : a.length = 0 ∨ b.length = 0) : limbs (val a * val b) = [] := by
  rcases h with h | h
  · rw [List.eq_nil_of_length_eq_zero h, val_nil, Nat.zero_mul, limbs_zero]
  · rw [List.eq_nil_of_length_eq_zero h, val_nil, Nat.mul_zero, limbs_zero]

end Go.Proofs.Ythenngajebkboaa

/- Numbers that are handed on: a slice that has a number's own limbs; its parts below a place, and from it on. -/
namespace Go.Proofs.Ythenngajebkboaa
open Go.RowKit Go.Shelf
set_option linter.unusedVariables false

/-- The slice '.slice A n c' is the number v. -/
structure Nm (w : World) (A : Option Addr) (n c : Nat) (v : Nat) : Prop where
  rd : Rd w A n (limbs v)
  nc : n ≤ c
  cm : c ≤ 9223372036854775807

theorem Nm.below {w w' : World} {A : Option Addr} {n c v : Nat} (h : Nm w A n c v) (hb : Below w.heap.size w w') : Nm w' A n c v := ⟨h.rd.below hb, h.nc, h.cm⟩
theorem Own.nm {w : World} {B v : Nat} {A : Option Addr} {n c : Nat} (h : Own w B (.slice A n c) (limbs v)) : Nm w A n c v := ⟨h.rd.1, h.rd.2.2.1, h.rd.2.2.2⟩
theorem nm_of {w : World} {A : Option Addr} {n c : Nat} {l : List Nat} (h : Rd w A n l) (hm : may l = true) (hc : n ≤ c) (hc2 : c ≤ 9223372036854775807) : Nm w A n c (val l) :=
  ⟨by rw [limbs_val h.words hm]; exact h, hc, hc2⟩
theorem Nm.len {w : World} {A : Option Addr} {n c v : Nat} (h : Nm w A n c v) {N : Nat} (hv : v < B64 ^ N) : n ≤ N := by rw [← h.rd.len]; exact limbs_length_le hv
theorem Nm.lt {w : World} {A : Option Addr} {n c v : Nat} (h : Nm w A n c v) : v < B64 ^ n := by
  have := val_lt (words_limbs v)
  rwa [val_limbs, h.rd.len] at this
theorem Nm.zero {w : World} {A : Option Addr} {n c v : Nat} (h : Nm w A n c v) : n = 0 ↔ v = 0 := by
  have e1 := h.rd.len
  constructor
  · intro e; exact limbs_eq_nil.1 (List.eq_nil_of_length_eq_zero (by omega))
  · intro e; rw [← e1, limbs_eq_nil.2 e]; rfl

theorem below_new {w w2 : World} {o : Obj} (h : Below (w.alloc o).heap.size (w.alloc o) w2) : Below w.heap.size w w2 := below_then ((Below.refl _ w).alloc (Nat.le_refl _) o) h
/-! ### Low and high parts -/
theorem val_take_mod {l : List Nat} (h : Words l) (p : Nat) : val (l.take p) = val l % B64 ^ p := by
  have e := val_split' l p
  have h1 := val_lt (h.take p)
  have h2 : B64 ^ (l.take p).length ≤ B64 ^ p := Nat.pow_le_pow_right B64_pos (by rw [List.length_take]; omega)
  rw [e, Nat.add_mul_mod_self_left, Nat.mod_eq_of_lt (by omega)]
theorem val_drop_div {l : List Nat} (h : Words l) (p : Nat) : val (l.drop p) = val l / B64 ^ p := by
  have e := val_split' l p
  have h1 := val_lt (h.take p)
  have h2 : B64 ^ (l.take p).length ≤ B64 ^ p := Nat.pow_le_pow_right B64_pos (by rw [List.length_take]; omega)
  rw [e, Nat.add_mul_div_left _ _ (Nat.pow_pos B64_pos), Nat.div_eq_of_lt (by omega), Nat.zero_add]
theorem limbs_take (v p : Nat) : val ((limbs v).take p) = v % B64 ^ p := by rw [val_take_mod (words_limbs v), val_limbs]
theorem limbs_drop (v p : Nat) : (limbs v).drop p = limbs (v / B64 ^ p) := by
  have e := limbs_val ((words_limbs v).drop p) (may_drop (may_limbs v) p)
  rw [← e, val_drop_div (words_limbs v), val_limbs]
theorem parts_le (v p : Nat) : v % B64 ^ p + v / B64 ^ p ≤ v := by
  have h := split_le (limbs v) (p := p)
  rwa [limbs_take, limbs_drop, val_limbs, val_limbs] at h
theorem parts_lt {v p : Nat} (h0 : 0 < p) (hp : p < (limbs v).length) : v % B64 ^ p + v / B64 ^ p < v := by
  have h := split_lt (may_limbs v) h0 hp
  rwa [limbs_take, limbs_drop, val_limbs, val_limbs] at h
theorem rd_sliced {w : World} {A : Option Addr} {n c p : Nat} {l : List Nat} (h : Rd w A n l) (hp : p ≤ n) (hc : n ≤ c) : Rd w (if c = p then A else A.map (·.add p)) (n - p) (l.drop p) := by
  refine ⟨by rw [List.length_drop, h.len], h.words.drop p, fun hn => ?_⟩
  obtain ⟨b, off, rfl, hlt, hcell⟩ := h.cells (by omega)
  refine ⟨b, off + p, ?_, hlt, fun i hi => ?_⟩
  · rw [if_neg (by omega), Option.map_some, Addr.add_lit]
  · have e := hcell (p + i) (by omega)
    rw [Nat.add_assoc, e]
    simp [lim, List.getD_eq_getElem?_getD, List.getElem?_drop]
theorem nm_high {w : World} {A : Option Addr} {n c p v : Nat} (h : Nm w A n c v) (hp : p ≤ n) : Nm w (if c = p then A else A.map (·.add p)) (n - p) (c - p) (v / B64 ^ p) := by
  refine ⟨?_, by have := h.nc; omega, by have := h.cm; omega⟩
  rw [← limbs_drop]
  exact rd_sliced h.rd hp h.nc
theorem nm_zero (w : World) (A : Option Addr) {c : Nat} (hc : c ≤ 9223372036854775807) : Nm w A 0 c 0 := ⟨by rw [limbs_zero]; exact rd_nil w A, Nat.zero_le _, hc⟩
theorem div_zero_of_len {w : World} {A : Option Addr} {n c p v : Nat} (h : Nm w A n c v) (hp : n ≤ p) : v / B64 ^ p = 0 ∧ v % B64 ^ p = v := by
  have h1 := h.lt
  have h2 : B64 ^ n ≤ B64 ^ p := Nat.pow_le_pow_right B64_pos hp
  exact ⟨Nat.div_eq_of_lt (by omega), Nat.mod_eq_of_lt (by omega)⟩

theorem take_take_len {l : List Nat} {k : Nat} (hk : k ≤ l.length) (h : l.take k = limbs (val l)) : k = (limbs (val l)).length := by
  rw [← h, List.length_take]; omega
theorem take_own {l : List Nat} (h : Words l) : l.take (limbs (val l)).length = limbs (val l) := by
  induction l with
  | nil => rw [val_nil, limbs_zero]; rfl
  | cons x r ih =>
    have hx := h.head
    by_cases h0 : x + B64 * val r = 0
    · rw [val_cons, h0, limbs_zero]; rfl
    · have e1 : (x + B64 * val r) % B64 = x := by rw [Nat.add_mul_mod_self_left]; exact Nat.mod_eq_of_lt hx
      have e2 : (x + B64 * val r) / B64 = val r := by rw [Nat.add_mul_div_left _ _ B64_pos, Nat.div_eq_of_lt hx]; omega
      rw [val_cons, limbs_pos h0, e1, e2, List.length_cons, List.take_succ_cons, ih h.tail]
theorem nm_low {w : World} {A : Option Addr} {n c p v : Nat} (h : Nm w A n c v) (hp : p ≤ n) : Nm w A (limbs (v % B64 ^ p)).length c (v % B64 ^ p) := by
  have h1 : (limbs (v % B64 ^ p)).length ≤ p := limbs_length_le (Nat.mod_lt _ (Nat.pow_pos B64_pos))
  have h2 := h.nc
  refine ⟨?_, by omega, h.cm⟩
  have e := h.rd.take (k := (limbs (v % B64 ^ p)).length) (by omega)
  have e2 := take_own ((words_limbs v).take p)
  rw [limbs_take, List.take_take, Nat.min_eq_left h1] at e2
  rw [e2] at e
  exact e

end Go.Proofs.Ythenngajebkboaa
