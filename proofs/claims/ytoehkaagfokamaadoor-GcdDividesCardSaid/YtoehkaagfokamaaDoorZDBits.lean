import Derived.Test.YtoehkaagfokamaaDoorZDLimbs
import Derived.Test.YtoehkaagfokamaaDoorZRefDiv
/- DBits. -/
/- div.bitByBit: a quotient bit by bit. -/
namespace Go.Proofs.YtoehkaagfokamaaDoor
open Go.RowKit Go.Shelf
set_option linter.unusedVariables false
set_option linter.unusedSimpArgs false

theorem wpList_copy_run {P : Program} (w : World) {ops : Array Oper} {rest : List Oper} {o : Oper} {a : Act} {Q : Exit → Act → World → Prop} (hgd : o.guard = none) (d s : Operand) (t1 t2 : TypeId)
    (ho : o.op = .call { callee := .builtin .copy, args := #[d, s], argTypes := #[t1, t2] }) (vd vs : Value) (hd : a.eval d = vd) (hs : a.eval s = vs)
    (v' : Value) (w' : World) (hr : (Builtin.copy_ #[t1, t2] o.type #[vd, vs]).run P w = .ok v' w') (h : wpList P ops Q rest (a.put o.dst v') w') : wpList P ops Q (o :: rest) a w :=
  wpList_plain hgd fun K hK => by
    unfold Oper.wp execOp
    simp only [ho, resolve, invoke, builtin, Sem.run_bind, Sem.run_pure, Result.andThen_ok, List.map_toArray, List.map_cons, List.map_nil, hd, hs, hr]
    exact hK _ _ h

/-- One row over another one, of the same length. -/
theorem copy_rows {w : World} {gt gr n : Nat} {T R : List Nat} (ty : TypeId) (hT : RowL w gt T) (hR : RowL w gr R) (hlt : T.length = n) (hlr : R.length = n) :
    ∃ w', (Builtin.copy_ #[23, 23] ty #[.slice (some ⟨gt, 0, none⟩) n n, .slice (some ⟨gr, 0, none⟩) n n]).run Tryd.prog w = .ok (goInt n) w' ∧ RowL w' gt R ∧ Only gt w w' := by
  have h := run_copy_row (P := Tryd.prog) w 23 23 ty 29 gt 0 n n ⟨gr, 0, none⟩ n n (T.map u64).toArray 29 (R.map u64) Tryd.underlying23 (by kernel_rfl) hT (by simp [hlr])
    (fun j v hv => by
      have hj : j < R.length := by have := (List.getElem?_eq_some_iff.1 hv).1; simpa using this
      rw [Addr.add_lit, Nat.zero_add, hR.cell hj]
      rw [List.getElem?_map, List.getElem?_eq_getElem hj] at hv
      simp at hv
      rw [← hv, lim_get hj]) (by simp; omega) (fun v hv => by obtain ⟨y, _, rfl⟩ := List.mem_map.1 hv; rfl)
  rw [List.length_map, hlr] at h
  refine ⟨_, h, ?_, ?_⟩
  · have e : ((T.map u64).toArray.toList.take 0 ++ R.map u64 ++ (T.map u64).toArray.toList.drop (0 + n)).toArray = (R.map u64).toArray := by
      refine congrArg List.toArray ?_
      show List.take 0 (T.map u64) ++ R.map u64 ++ List.drop (0 + n) (T.map u64) = _
      rw [List.take_zero, List.nil_append, List.drop_eq_nil_of_le (by simp; omega), List.append_nil]
    rw [e]
    exact setRow_heap w gt _ _ _ _ hT
  · refine ⟨⟨rfl, rfl, rfl, by simp [World.setRow], fun k hk => absurd hk (by omega)⟩, fun j hj hg => ?_⟩
    simp only [World.setRow, Array.getElem?_modify]
    rw [if_neg (by omega)]

theorem or_bit {x t : Nat} (hx : x % 2 ^ (t + 1) = 0) (ht : t < 64) (hxb : x < B64) : Go.bits BinOp.or IntKind.u64 (x : Int) (IntKind.u64.wrap (2 ^ t)) = ((x + 2 ^ t : Nat) : Int) ∧ x + 2 ^ t < B64 := by
  have h2 : (2 : Nat) ^ t < B64 := by rw [show B64 = 2 ^ 64 from rfl]; exact Nat.pow_lt_pow_right (by omega) ht
  have e0 : x = 2 ^ (t + 1) * (x / 2 ^ (t + 1)) := by have := Nat.div_add_mod x (2 ^ (t + 1)); omega
  have e1 : x ||| 2 ^ t = x + 2 ^ t := by
    have := Nat.two_pow_add_eq_or_of_lt (i := t + 1) (b := 2 ^ t) (Nat.pow_lt_pow_right (by omega) (by omega)) (x / 2 ^ (t + 1))
    rw [← e0] at this
    exact this.symm
  have e2 : IntKind.u64.wrap ((2 : Int) ^ t) = ((2 ^ t : Nat) : Int) := by
    rw [show ((2 : Int) ^ t) = ((2 ^ t : Nat) : Int) by simp, u64_wrap_nat, Nat.mod_eq_of_lt h2]
  refine ⟨by rw [e2, bits_or_u64_nat _ _ hxb h2, e1], ?_⟩
  rw [← e1]
  exact Nat.or_lt_two_pow (n := 64) hxb h2
/-- One bit more of the quotient. -/
theorem bit_more {L : List Nat} {Q i p t : Nat} (hw : Words L) (hv : val L = Q * 2 ^ (i + 1)) (hi : i = 64 * p + t) (ht : t < 64) (hp : p < L.length) :
    lim L p % 2 ^ (t + 1) = 0 ∧ val (L.set p (lim L p + 2 ^ t)) = (2 * Q + 1) * 2 ^ i := by
  have e1 : (2 : Nat) ^ (i + 1) = B64 ^ p * 2 ^ (t + 1) := by rw [B64_pow, ← Nat.pow_add, hi]; rfl
  have e2 : (2 : Nat) ^ i = B64 ^ p * 2 ^ t := by rw [B64_pow, ← Nat.pow_add, hi]
  constructor
  · rw [lim_val hw, hv, e1, Nat.mul_left_comm, Nat.mul_div_cancel_left _ (Nat.pow_pos B64_pos), show B64 = 2 ^ 64 from rfl, Nat.mod_mod_of_dvd _ (Nat.pow_dvd_pow 2 (by omega))]
    exact Nat.mul_mod_left _ _
  · have hs := val_set hp (lim L p + 2 ^ t)
    rw [Nat.mul_add] at hs
    have e3 : val L = 2 * Q * 2 ^ i := by rw [hv, Nat.pow_succ, Nat.mul_comm (2 ^ i) 2, ← Nat.mul_assoc, Nat.mul_comm Q 2]
    rw [Nat.add_mul, Nat.one_mul, ← e3, e2]
    omega
theorem bit_no {L : List Nat} {Q i : Nat} (hv : val L = Q * 2 ^ (i + 1)) : val L = 2 * Q * 2 ^ i := by rw [hv, Nat.pow_succ, Nat.mul_comm (2 ^ i) 2, ← Nat.mul_assoc, Nat.mul_comm Q 2]
/-- What the try tells. -/
theorem try_yes {r2 t2 D P over short V : Nat} (hd : r2 + P * over = V) (hl : t2 + D = r2 + P * short) (h : short ≤ over) (ho : over ≤ 1) (hV : V < 2 * D) (hDP : D < P) : D ≤ V ∧ t2 = V - D := by
  rcases (by omega : (short = 0 ∧ over = 0) ∨ (short = 0 ∧ over = 1) ∨ (short = 1 ∧ over = 1)) with ⟨rfl, rfl⟩ | ⟨rfl, rfl⟩ | ⟨rfl, rfl⟩
  · simp at hd hl; omega
  · simp at hd hl; omega
  · simp at hd hl; omega
theorem try_no {r2 t2 D P over short V : Nat} (hd : r2 + P * over = V) (hl : t2 + D = r2 + P * short) (h : over < short) (hs : short ≤ 1) (ht2 : t2 < P) : V < D ∧ r2 = V := by
  obtain ⟨rfl, rfl⟩ : over = 0 ∧ short = 1 := by omega
  simp at hd hl
  omega
theorem wp_cut {P : Program} {c : Code} {Q : Exit → Act → World → Prop} {a : Act} {w : World} (Φ : Act → Act → World → Prop) (h1 : c.wp P (fun e a' w' => e = .normal ∧ Φ a a' w') a w) (h2 : ∀ a' w', Φ a a' w' → Q .normal a' w') : c.wp P Q a w :=
  Code.wp_mono (fun e a' w' h => by rw [h.1]; exact h2 _ _ h.2) h1
/-- Behind the making of the quotient and of what is left over. -/
def Reg1 (na nb : Nat) (av bv : Value) (w : World) (a a' : Act) (W : World) : Prop :=
  ∃ gq gr, a' = ((((((((a.put (some 11) av).put (some 12) (.int .i64 (na : Int))).put (some 14) bv).put (some 15) (.int .i64 (nb : Int))).put (some 13) (.slice (some ⟨gq, 0, none⟩) na na)).put (some 16) (.slice (some ⟨gr, 0, none⟩) nb nb)).put (some 4) (.slice (some ⟨gq, 0, none⟩) na na)).put (some 5) (.slice (some ⟨gr, 0, none⟩) nb nb)) ∧
    RowL W gq (List.replicate na 0) ∧ RowL W gr (List.replicate nb 0) ∧ gq ≠ gr ∧ w.heap.size ≤ gq ∧ w.heap.size ≤ gr ∧ Below w.heap.size w W

end Go.Proofs.YtoehkaagfokamaaDoor
