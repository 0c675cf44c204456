import Derived.Test.YtoehkaagfokamaaDoorZHalf
import Derived.Test.YtoehkaagfokamaaDoorZRefMay
import Derived.Test.YtoehkaagfokamaaDoorZCopy
import Derived.Deep.RegionLaw
/- RefMul Times. -/
/- The document's product: digits to 2^32, by school. -/
namespace Go.Proofs.YtoehkaagfokamaaDoor
open Go.RowKit Go.Shelf
set_option linter.unusedVariables false
set_option linter.unusedSimpArgs false

theorem cell_two_new (w : World) (x y : Value) (T : TypeId) : ∀ j u, [x, y][j]? = some u → (w.alloc (.cells #[x, y] T)).cell? ((⟨w.heap.size, 0, none⟩ : Addr).add j) = some u := by
  intro j u hj
  rw [Addr.add_lit]
  match j, hj with
  | 0, hj => simp at hj; simp [hj]
  | 1, hj => simp at hj; simp [hj]
  | j + 2, hj => simp at hj
/-- append onto a row of the call's own, as one step of a region that draws. -/
theorem step_append_mine {P : Program} {ops : Array Oper} {o : Oper} {a : Act} {w : World} {K : Act → World → Prop} {Q : Exit → Act → World → Prop} {E : Prop}
    (hg : o.guard = none) (s x : Operand) (t : TypeId) (hop : o.op = Op.call { callee := Callee.builtin Builtin.append, args := #[s, x], argTypes := #[t, t] })
    (base : Nat) (e : TypeId) (i : TypeInfo) (z : Value) (size bytes : Nat) (h1 : P.underlying t = some (.slice e)) (h2 : P.info? e = some i) (h3 : i.zero = some z) (h4 : i.size = size) (h5 : i.bytes = bytes) (h6 : z.cells.size = size) (h7 : 0 < size)
    (v : Value) (n : Nat) (xs : List Value) (hs : a.eval s = v) (hown : w.ownsRow base e size v n xs)
    (ad : Addr) (m c : Nat) (news : List Value) (hx : a.eval x = .slice (some ad) m c) (hn : news.length = m * size) (hc : ∀ j u, news[j]? = some u → w.cell? (ad.add j) = some u) (h1c : ∀ u ∈ news, u.oneCell' = true)
    (b1 : n + m ≤ maxLen) (b2 : (n + m) * bytes ≤ 140737488355328) (b3 : base ≤ w.heap.size)
    (hK : ∀ v' w', w'.ownsRow base e size v' (n + m) (xs ++ news) → w.grownBy w' v.ownBlock → K (a.put o.dst v') w') :
    if Region.wanted o (yielded ops a.tmps) = true then Oper.wp P o a w K Q else E := by
  have hw : Region.wanted o (yielded ops a.tmps) = true := by simp [Region.wanted, hg]
  rw [if_pos hw]
  obtain ⟨v', w', hrun, r1, r2, _⟩ := run_append_own (P := P) w base t o.type e i z size bytes h1 h2 h3 h4 h5 h6 h7 v n xs hown ad m c news hn hc h1c b1 b2 b3
  unfold Oper.wp
  simp [execOp, hop, resolve, invoke, builtin, hs, hx, hrun, Result.andThen]
  exact hK v' w' r1 r2
theorem half_facts {x : Nat} {lo hi : Nat} (h1 : x % H = lo) (h2 : x / H = hi) : Int.tmod (x : Int) 4294967296 = (lo : Int) ∧ (x : Int) % 4294967296 = (lo : Int) ∧ Int.tdiv (x : Int) 4294967296 = (hi : Int) ∧ (x : Int) / 4294967296 = (hi : Int) := by
  rw [H_eq] at h1 h2
  refine ⟨?_, by omega, ?_, by omega⟩
  · rw [Int.tmod_eq_emod_of_nonneg (by omega)]; omega
  · rw [Int.tdiv_eq_ediv_of_nonneg (by omega)]; omega
theorem whole_facts {x y : Nat} (h : x + H * y < B64) : IntKind.u64.wrap (4294967296 * (y : Int)) = 4294967296 * (y : Int) ∧ IntKind.u64.wrap ((x : Int) + 4294967296 * (y : Int)) = ((x + H * y : Nat) : Int) := by
  rw [H_eq, B64_eq] at h
  rw [H_eq]
  constructor
  · rw [IntKind.wrap_u64]; omega
  · rw [IntKind.wrap_u64]; omega
theorem u64_is {x : Nat} (h : x < B64) : IntKind.u64.wrap (x : Int) = (x : Int) := by
  rw [IntKind.wrap_u64]; rw [B64_eq] at h; omega

section
variable (A A2 : Option Addr) (na ca nb cb : Nat) (a b : List Nat) (w : World)

end
end Go.Proofs.YtoehkaagfokamaaDoor

/- The document's product of two numbers, and its answers to Mul and Pow. -/
namespace Go.Proofs.YtoehkaagfokamaaDoor
open Go.RowKit Go.Shelf
set_option linter.unusedVariables false
set_option linter.unusedSimpArgs false

/-- A word as a value. (Another name: the walk calls slot 64 'u64'.) -/
abbrev wd (x : Nat) : Value := .int .u64 (x : Int)
theorem digit_facts {x y m c n t d : Nat} (hx : x < H) (hy : y < H) (hm : m < H) (hc : c < H) (hn : x * y + m + c = n) (ht : n % H = t) (hd : n / H = d) :
    IntKind.u64.wrap ((x : Int) * (y : Int)) = (x : Int) * (y : Int) ∧ IntKind.u64.wrap ((x : Int) * (y : Int) + (m : Int)) = (x : Int) * (y : Int) + (m : Int) ∧ IntKind.u64.wrap ((x : Int) * (y : Int) + (m : Int) + (c : Int)) = (n : Int) ∧
    t < H ∧ d < H ∧ t + H * d = x * y + c + m ∧ n < B64 := by
  have h1 := two_digs hx hy hm hc
  rw [hn, H_sq] at h1
  have e : ((x * y : Nat) : Int) = (x : Int) * (y : Int) := by simp
  rw [← e]
  have h2 : d < H := by rw [← hd, Nat.div_lt_iff_lt_mul H_pos, H_sq]; exact h1
  have h3 : t < H := by rw [← ht]; exact Nat.mod_lt _ H_pos
  have h4 := Nat.mod_add_div n H
  rw [ht, hd] at h4
  refine ⟨u64_is (by omega), ?_, ?_, h3, h2, by omega, h1⟩
  · rw [← Int.natCast_add]; exact u64_is (by omega)
  · rw [← Int.natCast_add, ← Int.natCast_add, hn]; exact u64_is h1
theorem sum_idx {i k N : Nat} (h : i + k < N) (hN : N ≤ 1000000) : IntKind.i64.wrap ((i : Int) + (k : Int)) = (i : Int) + (k : Int) := by rw [IntKind.wrap_i64]; omega

section
variable (A A2 : Option Addr) (na ca nb cb : Nat) (a b : List Nat) (w : World)

end
end Go.Proofs.YtoehkaagfokamaaDoor
