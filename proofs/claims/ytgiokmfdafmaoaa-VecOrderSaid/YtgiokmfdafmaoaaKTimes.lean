import Derived.Test.YtgiokmfdafmaoaaKRefMul
/- Times. -/
/- The document's product of two numbers, and its answers to Mul and Pow. -/
namespace Go.Proofs.Ytgiokmfdafmaoaa
open Go.RowKit Go.Shelf
set_option linter.unusedVariables false
set_option linter.unusedSimpArgs false

/-- A word as a value. (Another name: the walk calls slot 64 'u64'.) -/
abbrev wd (x : Nat) : Value := .int .u64 (x : Int)
theorem digit_facts {x y m c n t d : Nat} (hx : x < H) (hy : y < H) (hm : m < H) (hc : c < H) (hn : x * y + m + c = n) (ht : n % H = t) (hd : n / H = d) :
    IntKind.u64.wrap ((x : Int) * (y : Int)) = (x : Int) * (y : Int) ∧ IntKind.u64.wrap ((x : Int) * (y : Int) + (m : Int)) = (x : Int) * (y : Int) + (m : Int) ∧ IntKind.u64.wrap ((x : Int) * (y : Int) + (m : Int) + (c : Int)) = (n : Int) ∧
    t < H ∧ d < H ∧ t + H * d = x * y + c + m ∧ n < B64 := by
  have h1 := two_digs hx hy hm hc
  rw [hn, H_sq] at h1
  have e : ((x * y : Nat) : Int) = (x : Int) * (y : Int) := by simp
  rw [← e]
  have h2 : d < H := by rw [← hd, Nat.div_lt_iff_lt_mul H_pos, H_sq]; exact h1
  have h3 : t < H := by rw [← ht]; exact Nat.mod_lt _ H_pos
  have h4 := Nat.mod_add_div n H
  rw [ht, hd] at h4
  refine ⟨u64_is (by omega), ?_, ?_, h3, h2, by omega, h1⟩
  · rw [← Int.natCast_add]; exact u64_is (by omega)
  · rw [← Int.natCast_add, ← Int.natCast_add, hn]; exact u64_is h1
theorem sum_idx {i k N : Nat} (h : i + k < N) (hN : N ≤ 1000000) : IntKind.i64.wrap ((i : Int) + (k : Int)) = (i : Int) + (k : Int) := by rw [IntKind.wrap_i64]; omega

section
variable (A A2 : Option Addr) (na ca nb cb : Nat) (a b : List Nat) (w : World)

end
end Go.Proofs.Ytgiokmfdafmaoaa
