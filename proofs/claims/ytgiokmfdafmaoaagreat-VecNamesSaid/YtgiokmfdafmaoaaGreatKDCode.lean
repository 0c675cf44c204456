import Derived.Test.YtgiokmfdafmaoaaGreatKDLimbs
import Derived.Test.YtgiokmfdafmaoaaGreatKRefDiv
import Derived.Test.YtgiokmfdafmaoaaGreatKDNames
import Derived.Test.YtgiokmfdafmaoaaGreatKBit
import Derived.Test.YtgiokmfdafmaoaaGreatKCopy
import Derived.Lib.SliceRun
/- DBits DBack DTwice DTells DProduct DCode. -/
/- div.bitByBit: a quotient bit by bit. -/
namespace Go.Proofs.YtgiokmfdafmaoaaGreat
open Go.RowKit Go.Shelf
set_option linter.unusedVariables false
set_option linter.unusedSimpArgs false

theorem wpList_copy_run {P : Program} (w : World) {ops : Array Oper} {rest : List Oper} {o : Oper} {a : Act} {Q : Exit → Act → World → Prop} (hgd : o.guard = none) (d s : Operand) (t1 t2 : TypeId)
    (ho : o.op = .call { callee := .builtin .copy, args := #[d, s], argTypes := #[t1, t2] }) (vd vs : Value) (hd : a.eval d = vd) (hs : a.eval s = vs)
    (v' : Value) (w' : World) (hr : (Builtin.copy_ #[t1, t2] o.type #[vd, vs]).run P w = .ok v' w') (h : wpList P ops Q rest (a.put o.dst v') w') : wpList P ops Q (o :: rest) a w :=
  wpList_plain hgd fun K hK => by
    unfold Oper.wp execOp
    simp only [ho, resolve, invoke, builtin, Sem.run_bind, Sem.run_pure, Result.andThen_ok, List.map_toArray, List.map_cons, List.map_nil, hd, hs, hr]
    exact hK _ _ h

/-- One row over another one, of the same length. -/
theorem copy_rows {w : World} {gt gr n : Nat} {T R : List Nat} (ty : TypeId) (hT : RowL w gt T) (hR : RowL w gr R) (hlt : T.length = n) (hlr : R.length = n) :
    ∃ w', (Builtin.copy_ #[23, 23] ty #[.slice (some ⟨gt, 0, none⟩) n n, .slice (some ⟨gr, 0, none⟩) n n]).run Tryz.prog w = .ok (goInt n) w' ∧ RowL w' gt R ∧ Only gt w w' := by
  have h := run_copy_row (P := Tryz.prog) w 23 23 ty 36 gt 0 n n ⟨gr, 0, none⟩ n n (T.map u64).toArray 36 (R.map u64) Tryz.underlying23 (by kernel_rfl) hT (by simp [hlr])
    (fun j v hv => by
      have hj : j < R.length := by have := (List.getElem?_eq_some_iff.1 hv).1; simpa using this
      rw [Addr.add_lit, Nat.zero_add, hR.cell hj]
      rw [List.getElem?_map, List.getElem?_eq_getElem hj] at hv
      simp at hv
      rw [← hv, lim_get hj]) (by simp; omega) (fun v hv => by obtain ⟨y, _, rfl⟩ := List.mem_map.1 hv; rfl)
  rw [List.length_map, hlr] at h
  refine ⟨_, h, ?_, ?_⟩
  · have e : ((T.map u64).toArray.toList.take 0 ++ R.map u64 ++ (T.map u64).toArray.toList.drop (0 + n)).toArray = (R.map u64).toArray := by
      refine congrArg List.toArray ?_
      show List.take 0 (T.map u64) ++ R.map u64 ++ List.drop (0 + n) (T.map u64) = _
      rw [List.take_zero, List.nil_append, List.drop_eq_nil_of_le (by simp; omega), List.append_nil]
    rw [e]
    exact setRow_heap w gt _ _ _ _ hT
  · refine ⟨⟨rfl, rfl, rfl, by simp [World.setRow], fun k hk => absurd hk (by omega)⟩, fun j hj hg => ?_⟩
    simp only [World.setRow, Array.getElem?_modify]
    rw [if_neg (by omega)]

theorem or_bit {x t : Nat} (hx : x % 2 ^ (t + 1) = 0) (ht : t < 64) (hxb : x < B64) : Go.bits BinOp.or IntKind.u64 (x : Int) (IntKind.u64.wrap (2 ^ t)) = ((x + 2 ^ t : Nat) : Int) ∧ x + 2 ^ t < B64 := by
  have h2 : (2 : Nat) ^ t < B64 := by rw [show B64 = 2 ^ 64 from rfl]; exact Nat.pow_lt_pow_right (by omega) ht
  have e0 : x = 2 ^ (t + 1) * (x / 2 ^ (t + 1)) := by have := Nat.div_add_mod x (2 ^ (t + 1)); omega
  have e1 : x ||| 2 ^ t = x + 2 ^ t := by
    have := Nat.two_pow_add_eq_or_of_lt (i := t + 1) (b := 2 ^ t) (Nat.pow_lt_pow_right (by omega) (by omega)) (x / 2 ^ (t + 1))
    rw [← e0] at this
    exact this.symm
  have e2 : IntKind.u64.wrap ((2 : Int) ^ t) = ((2 ^ t : Nat) : Int) := by
    rw [show ((2 : Int) ^ t) = ((2 ^ t : Nat) : Int) by simp, u64_wrap_nat, Nat.mod_eq_of_lt h2]
  refine ⟨by rw [e2, bits_or_u64_nat _ _ hxb h2, e1], ?_⟩
  rw [← e1]
  exact Nat.or_lt_two_pow (n := 64) hxb h2
/-- One bit more of the quotient. -/
theorem bit_more {L : List Nat} {Q i p t : Nat} (hw : Words L) (hv : val L = Q * 2 ^ (i + 1)) (hi : i = 64 * p + t) (ht : t < 64) (hp : p < L.length) :
    lim L p % 2 ^ (t + 1) = 0 ∧ val (L.set p (lim L p + 2 ^ t)) = (2 * Q + 1) * 2 ^ i := by
  have e1 : (2 : Nat) ^ (i + 1) = B64 ^ p * 2 ^ (t + 1) := by rw [B64_pow, ← Nat.pow_add, hi]; rfl
  have e2 : (2 : Nat) ^ i = B64 ^ p * 2 ^ t := by rw [B64_pow, ← Nat.pow_add, hi]
  constructor
  · rw [lim_val hw, hv, e1, Nat.mul_left_comm, Nat.mul_div_cancel_left _ (Nat.pow_pos B64_pos), show B64 = 2 ^ 64 from rfl, Nat.mod_mod_of_dvd _ (Nat.pow_dvd_pow 2 (by omega))]
    exact Nat.mul_mod_left _ _
  · have hs := val_set hp (lim L p + 2 ^ t)
    rw [Nat.mul_add] at hs
    have e3 : val L = 2 * Q * 2 ^ i := by rw [hv, Nat.pow_succ, Nat.mul_comm (2 ^ i) 2, ← Nat.mul_assoc, Nat.mul_comm Q 2]
    rw [Nat.add_mul, Nat.one_mul, ← e3, e2]
    omega
theorem bit_no {L : List Nat} {Q i : Nat} (hv : val L = Q * 2 ^ (i + 1)) : val L = 2 * Q * 2 ^ i := by rw [hv, Nat.pow_succ, Nat.mul_comm (2 ^ i) 2, ← Nat.mul_assoc, Nat.mul_comm Q 2]
/-- What the try tells. -/
theorem try_yes {r2 t2 D P over short V : Nat} (hd : r2 + P * over = V) (hl : t2 + D = r2 + P * short) (h : short ≤ over) (ho : over ≤ 1) (hV : V < 2 * D) (hDP : D < P) : D ≤ V ∧ t2 = V - D := by
  rcases (by omega : (short = 0 ∧ over = 0) ∨ (short = 0 ∧ over = 1) ∨ (short = 1 ∧ over = 1)) with ⟨rfl, rfl⟩ | ⟨rfl, rfl⟩ | ⟨rfl, rfl⟩
  · simp at hd hl; omega
  · simp at hd hl; omega
  · simp at hd hl; omega
theorem try_no {r2 t2 D P over short V : Nat} (hd : r2 + P * over = V) (hl : t2 + D = r2 + P * short) (h : over < short) (hs : short ≤ 1) (ht2 : t2 < P) : V < D ∧ r2 = V := by
  obtain ⟨rfl, rfl⟩ : over = 0 ∧ short = 1 := by omega
  simp at hd hl
  omega
theorem wp_cut {P : Program} {c : Code} {Q : Exit → Act → World → Prop} {a : Act} {w : World} (Φ : Act → Act → World → Prop) (h1 : c.wp P (fun e a' w' => e = .normal ∧ Φ a a' w') a w) (h2 : ∀ a' w', Φ a a' w' → Q .normal a' w') : c.wp P Q a w :=
  Code.wp_mono (fun e a' w' h => by rw [h.1]; exact h2 _ _ h.2) h1
/-- Behind the making of the quotient and of what is left over. -/
def Reg1 (na nb : Nat) (av bv : Value) (w : World) (a a' : Act) (W : World) : Prop :=
  ∃ gq gr, a' = ((((((((a.put (some 11) av).put (some 12) (.int .i64 (na : Int))).put (some 14) bv).put (some 15) (.int .i64 (nb : Int))).put (some 13) (.slice (some ⟨gq, 0, none⟩) na na)).put (some 16) (.slice (some ⟨gr, 0, none⟩) nb nb)).put (some 4) (.slice (some ⟨gq, 0, none⟩) na na)).put (some 5) (.slice (some ⟨gr, 0, none⟩) nb nb)) ∧
    RowL W gq (List.replicate na 0) ∧ RowL W gr (List.replicate nb 0) ∧ gq ≠ gr ∧ w.heap.size ≤ gq ∧ w.heap.size ≤ gr ∧ Below w.heap.size w W

end Go.Proofs.YtgiokmfdafmaoaaGreat

/- The law DivBack: the quotient, multiplied, and what is left over, lead home. -/
namespace Go.Proofs.YtgiokmfdafmaoaaGreat
open Go.RowKit Go.Shelf
set_option linter.unusedVariables false
set_option linter.unusedSimpArgs false

section
variable {F : Nat} (A A2 : Option Addr) (na ca nb cb : Nat) (a b : List Nat) (w : World)
theorem div_no (hD : DivIs F) (E : Int) (he : divE a b = E) (h0 : E ≠ 0) (hra : Rd w A na a) (hrb : Rd w A2 nb b) (hna : na ≤ 1000) (hnb : nb ≤ 1000) (q1 : na ≤ ca ∧ ca ≤ 9223372036854775807) (q2 : nb ≤ cb ∧ cb ≤ 9223372036854775807) :
    Calls Tryz.prog F #[.slice A na ca, .slice A2 nb cb] w fun e w' => ∃ A c A2 c2, e = .returned (.tuple #[.slice A 0 c, .slice A2 0 c2, .int .i64 E]) ∧ Below w.heap.size w w' := by
  have h := hD A A2 na ca nb cb a b w hra hrb hna hnb q1 q2
  rw [quoL_no (by rw [he]; exact h0), remL_no (by rw [he]; exact h0), he] at h
  refine h.mono ?_
  rintro e w' ⟨A3, k3, c3, A4, k4, c4, rfl, o3, o4, hb⟩
  obtain rfl : k3 = 0 := o3.rd.2.1
  obtain rfl : k4 = 0 := o4.rd.2.1
  exact ⟨_, _, _, _, rfl, hb⟩
theorem int_ne0 {n : Nat} (h : n ≠ 0) : ((n : Int) == 0) = false := by simp; omega
end
section
variable (hD : DivIs 107) (hL : DivIs 0) (A A2 : Option Addr) (na ca nb cb : Nat) (a b : List Nat) (w : World)
include hD hL

end

end Go.Proofs.YtgiokmfdafmaoaaGreat

/- The law DivTwice: divided twice; by a word. -/
namespace Go.Proofs.YtgiokmfdafmaoaaGreat
open Go.RowKit Go.Shelf
set_option linter.unusedVariables false
set_option linter.unusedSimpArgs false

theorem quo_words (a b : List Nat) : Words (quoL a b) := by
  unfold quoL
  split
  · exact words_limbs _
  · exact words_nil
theorem rem_canon (a b : List Nat) : limbs (val (remL a b)) = remL a b := by
  unfold remL
  split
  · rw [val_limbs]
  · rw [val_nil, limbs_zero]
theorem val_rem_lt {a : List Nat} {x : Nat} (hx : x < B64) : val (remL a (limbs x)) < B64 := by
  unfold remL
  split
  · rw [val_limbs, val_limbs]
    by_cases h : x = 0
    · subst h
      rename_i he
      rw [limbs_zero] at he
      unfold divE at he
      split at he <;> simp at he
    · exact Nat.lt_trans (Nat.mod_lt _ (by omega)) hx
  · rw [val_nil]; exact B64_pos
theorem twice_is {a b c : List Nat} (h1 : divE a b = 0) (h2 : divE (quoL a b) c = 0) : quoL a (limbs (val b * val c)) = quoL (quoL a b) c ∧ divE a (limbs (val b * val c)) = 0 := by
  have h1' := h1
  rcases divE_cases a b with ⟨_, hma, hmb, hb⟩ | ⟨he, _⟩ | ⟨he, _⟩
  · rcases divE_cases (quoL a b) c with ⟨_, hmq, hmc, hc⟩ | ⟨he, _⟩ | ⟨he, _⟩
    · have hb0 := val_pos hmb hb
      have hc0 := val_pos hmc hc
      have hp : val b * val c ≠ 0 := Nat.ne_of_gt (Nat.mul_pos hb0 hc0)
      have e : divE a (limbs (val b * val c)) = 0 := divE_ok hma (may_limbs _) (fun h => hp (limbs_eq_nil.1 h))
      refine ⟨?_, e⟩
      rw [quoL_ok e, quoL_ok h2, quoL_ok h1, val_limbs, val_limbs, Nat.div_div_eq_div_mul]
    · rw [he] at h2; omega
    · rw [he] at h2; omega
  · rw [he] at h1; omega
  · rw [he] at h1; omega
section
variable (hD : DivIs 107) (hL : DivIs 0) (A A2 A3 : Option Addr) (na ca nb cb nc cc : Nat) (a b c : List Nat) (w : World)
theorem same_l (hra : Rd w A na a) (hrb : Rd w A2 nb b) (hna : na ≤ 100000) (hnb : nb ≤ 100000) (h : a = b) :
    Calls Tryz.prog 11 #[.slice A na ca, .slice A2 nb cb] w fun e w' => e = .returned (.bool true) ∧ Below w.heap.size w w' := by
  subst h
  have h := same_any A A2 na ca nb cb a a w hra hrb (by omega) (by omega)
  rwa [decide_eq_true rfl] at h
include hD hL

end

end Go.Proofs.YtgiokmfdafmaoaaGreat

/- The law DivTells: quotients, however they are made, are the document's. -/
namespace Go.Proofs.YtgiokmfdafmaoaaGreat
open Go.RowKit Go.Shelf
set_option linter.unusedVariables false
set_option linter.unusedSimpArgs false

section
variable (hD : DivIs 107) (hL : DivIs 0) (A A2 : Option Addr) (na ca nb cb : Nat) (a b : List Nat) (w : World)
theorem exact_len (hw : Words a) : (exactL a b).length ≤ a.length := by
  unfold exactL
  split
  · exact length_of_le hw (Nat.div_le_self _ _)
  · simp

end

end Go.Proofs.YtgiokmfdafmaoaaGreat

/- The law DivProduct: a product divided by one of its numbers. -/
namespace Go.Proofs.YtgiokmfdafmaoaaGreat
open Go.RowKit Go.Shelf
set_option linter.unusedVariables false
set_option linter.unusedSimpArgs false

section
variable (hD : DivIs 107) (hL : DivIs 0) (A A2 A3 : Option Addr) (na ca nb cb nc cc : Nat) (a b c : List Nat) (w : World)
include hD hL

end

end Go.Proofs.YtgiokmfdafmaoaaGreat

/- div's calls, as they landed. -/
namespace Go.Proofs.YtgiokmfdafmaoaaGreat
open Go.RowKit Go.Shelf
set_option linter.unusedVariables false
set_option linter.unusedSimpArgs false

theorem wpList_copyB {P : Program} {w : World} {ops : Array Oper} {rest : List Oper} {o : Oper} {st : Act} {Q : Exit → Act → World → Prop} (hgd : o.guard = none) (s x : Operand) (t : TypeId)
    (ho : o.op = .call { callee := .builtin .append, args := #[s, x], argTypes := #[t, t] })
    (i : TypeInfo) (ht : P.underlying t = some (.slice 36)) (hi : P.info? 36 = some i) (hz : i.zero = some (.int .u64 0)) (hsize : i.size = 1) (hby : i.bytes = 8)
    (hs : st.eval s = .slice (some ⟨w.heap.size, 0, none⟩) 0 0) (A : Option Addr) (m c : Nat) (a : List Nat) (hx : st.eval x = .slice A m c) (hA : A = none → m = 0 ∧ c = 0) (hra : Rd w A m a) (hm : m ≤ 1000)
    (h : ∀ A' c' w', Own w' w.heap.size (.slice A' m c') a → Below w.heap.size w w' → wpList P ops Q rest (st.put o.dst (.slice A' m c')) w') :
    wpList P ops Q (o :: rest) st (w.alloc (.cells #[] 36)) := by
  have hown : (w.alloc (.cells #[] 36)).ownsRow w.heap.size 36 1 (.slice (some ⟨w.heap.size, 0, none⟩) 0 0) 0 [] := World.ownsRow_made w #[] 0 (Nat.le_refl _) (Nat.zero_le _) rfl
  have hal := hra.len
  have hB1 : Below w.heap.size w (w.alloc (.cells #[] 36)) := (Below.refl _ w).alloc (Nat.le_refl _) _
  cases A with
  | none =>
    obtain ⟨rfl, rfl⟩ := hA rfl
    have ha : a = [] := List.eq_nil_of_length_eq_zero hal
    subst ha
    exact wpList_append_own_none hgd s x t ho w.heap.size 36 i 1 ht hi _ 0 [] hs hown hx (h _ _ _ ⟨hown, words_nil⟩ hB1)
  | some ad =>
    refine wpList_append_own _ hgd s x t ho w.heap.size 36 i _ 1 8 ht hi hz hsize hby (by rfl) (by omega) _ _ _ hs hown ad m c (a.map u64) hx (by simp [hal]) ?_ ?_ (by simp only [maxLen]; omega) (by omega) (by simp) ?_
    · intro j u hj
      have hjl : j < a.length := by
        have := (List.getElem?_eq_some_iff.1 hj).1
        simpa using this
      obtain ⟨b0, off, e, hlt, hc⟩ := (hra.alloc (.cells #[] 36)).cells (by omega)
      cases e
      have h := hc j (by omega)
      have hu : u = u64 (lim a j) := by
        rw [List.getElem?_map, List.getElem?_eq_getElem hjl] at hj
        simp at hj
        rw [← hj, lim_get hjl]
      rw [hu, ← h]
      congr 1
      unfold Addr.add
      split
      · next h0 => subst h0; simp
      · rfl
    · intro u hu
      obtain ⟨x, _, rfl⟩ := List.mem_map.1 hu
      rfl
    · intro v1 w1 ho1 hg1 _
      have ho2 : Own w1 w.heap.size v1 a := ⟨by rw [hal]; simpa using ho1, hra.words⟩
      obtain ⟨A1, c1, rfl⟩ := own_shape ho2
      rw [hal] at ho2 ⊢
      refine h _ _ _ ho2 (hB1.grown hg1 (by simp) (fun k e => ?_))
      simp [Value.ownBlock] at e
      omega

set_option maxRecDepth 100000 in
set_option maxHeartbeats 1000000 in
theorem clone_any (A : Option Addr) (na ca : Nat) (a : List Nat) (w : World) (hra : Rd w A na a) (hna : na ≤ 1000) :
    Calls Tryz.prog 62 #[.slice A na ca] w fun e w' => ∃ A' k c, e = .returned (.slice A' k c) ∧ Own w' w.heap.size (.slice A' k c) a ∧ Below w.heap.size w w' := by
  obtain ⟨i0, hi0, hz0, hz1, hz2⟩ := info_parts u64_info
  have q := fun (w : World) (a : Option Addr) (n c n' c' : Nat) => Lib.run_eql_slice_nil (P := Tryz.prog) w 23 36 a n c n' c' Tryz.underlying23
  cases A with
  | none =>
    obtain rfl : na = 0 := by
      rcases Nat.eq_zero_or_pos na with h | h
      · exact h
      · obtain ⟨_, _, e, _⟩ := hra.cells h
        cases e
    have ha : a = [] := List.eq_nil_of_length_eq_zero hra.len
    subst ha
    clear hra
    go_enter Tryz.func62, Tryz.ntmps62
    go_wp2
    go_ret
    exact ⟨_, _, _, rfl, own_nil _ _, Below.refl _ _⟩
  | some ad =>
    go_enter Tryz.func62, Tryz.ntmps62
    go_wp2_with (at_builtin; go_loud (refine wpList_copyB rfl _ _ 23 rfl i0 Tryz.underlying23 hi0 hz0 hz1 hz2 rfl (some ad) na ca a rfl (fun h => by cases h) hra (by omega) ?_); intro Ao co w1 hown hb1)
    go_ret
    exact ⟨_, _, _, rfl, hown, hb1⟩

set_option maxRecDepth 100000 in
set_option maxHeartbeats 1000000 in
theorem byLimbs_any (A A2 : Option Addr) (na ca nb cb : Nat) (a b : List Nat) (w : World) (hra : Rd w A na a) (hrb : Rd w A2 nb b) (hna : na ≤ 1000) (hnb : nb ≤ 1000) (hma : may a = true) (hmb : may b = true) (hb : b ≠ []) :
    Calls Tryz.prog 128 #[.slice A na ca, .slice A2 nb cb] w fun e w' => ∃ A' k c A3 k3 c3, e = .returned (.tuple #[.slice A' k c, .slice A3 k3 c3]) ∧ Own w' w.heap.size (.slice A' k c) (limbs (val a / val b)) ∧ Own w' w.heap.size (.slice A3 k3 c3) (limbs (val a % val b)) ∧ Below w.heap.size w w' := by
  have hnb0 : nb ≠ 0 := fun h => hb (List.eq_nil_of_length_eq_zero (by rw [hrb.len]; exact h))
  by_cases hlt : na < nb
  · have hv : val a < val b := by
      obtain ⟨n1, rfl⟩ : ∃ n1, nb = n1 + 1 := ⟨nb - 1, by omega⟩
      have h1 := val_lt hra.words
      rw [hra.len] at h1
      have h2 := val_take_succ b n1
      rw [val_take_all (by rw [hrb.len]; omega)] at h2
      have h3 : lim b n1 ≠ 0 := by
        have := may_last hb
        rw [hrb.len, Nat.add_sub_cancel, hmb] at this
        simpa using this.symm
      have h4 := Nat.mul_le_mul_left (B64 ^ n1) (show 1 ≤ lim b n1 by omega)
      have h5 : B64 ^ na ≤ B64 ^ n1 := Nat.pow_le_pow_right B64_pos (by omega)
      omega
    rw [Nat.div_eq_of_lt hv, Nat.mod_eq_of_lt hv, limbs_zero, limbs_val hra.words hma]
    have hd : decide ((na : Int) < (nb : Int)) = true := by simp; omega
    have hc := clone_any A na ca a (w.alloc (.cells #[.slice none 0 0] 23)) (hra.alloc _) (by omega)
    have HC := Lib.hid hc
    clear hc hra hrb
    go_enter Tryz.func128, Tryz.ntmps128
    go_wp2_with fail
    refine HC.out.mono ?_
    rintro e w1 ⟨A', k, c, rfl, ho, hb1⟩
    have h0 := (hb1.block w.heap.size (by simp)).trans (World.alloc_heap_new w _)
    have c0 : w1.cell? ⟨w.heap.size, 0, none⟩ = some (.slice none 0 0) := cells_cell h0 rfl
    have f0 : w1.frozen? ⟨w.heap.size, 0, none⟩ = false := cells_frozen h0
    have HO := Lib.hid ho
    have H0 := Lib.hid h0
    have HB := Lib.hid hb1
    clear ho h0 hb1
    go_wp2
    have b1 : Boxed (w1.setCell ⟨w.heap.size, 0, none⟩ (.slice none 0 0)) w.heap.size 23 (.slice none 0 0) := Boxed.set _ H0.out
    have c1 := b1.cell
    refine bodyPost_ret (v := .tuple #[.slice none 0 0, .slice A' k c]) (by simp [results, Tryz.results128, go_sem, c1]) rfl ?_
    refine ⟨_, _, _, _, _, _, rfl, own_nil _ _, own_mono (own_far HO.out (p := ⟨w.heap.size, 0, none⟩) (by simp) _) (show w.heap.size ≤ (w.alloc (.cells #[.slice none 0 0] 23)).heap.size by simp), ?_⟩
    exact (below_new HB.out).setCell (p := ⟨w.heap.size, 0, none⟩) (Nat.le_refl _) _
  · by_cases h1 : nb = 1
    · subst h1
      obtain ⟨x, rfl⟩ := one_limb hrb.len
      have hx0 : x ≠ 0 := by simpa [may] using hmb
      have hx : x < B64 := hrb.words.head
      have hvx : val [x] = x := by simp [val]
      rw [hvx]
      have hd : decide ((na : Int) < ((1 : Nat) : Int)) = false := by simp; omega
      obtain ⟨b1, o1, rfl, hl1, hc1⟩ := (hrb.alloc (.cells #[.slice none 0 0] 23)).cells (by omega)
      have hc := hc1 0 (by omega)
      rw [show lim [x] 0 = x from rfl, Nat.add_zero] at hc
      have hw := byWord_any A na ca x a (w.alloc (.cells #[.slice none 0 0] 23)) (hra.alloc _) (by omega) hx (by omega)
      have HW := Lib.hid hw
      have hrl : val a % x < B64 := Nat.lt_trans (Nat.mod_lt _ (by omega)) hx
      obtain ⟨q, hq⟩ : ∃ q, val a / x = q := ⟨_, rfl⟩
      obtain ⟨r, hr⟩ : ∃ r, val a % x = r := ⟨_, rfl⟩
      rw [hr] at hrl
      rw [hq, hr] at hw ⊢
      have HW := Lib.hid hw
      clear hw hra hrb hc1 hq hr hmb hma hb hnb0 hnb hvx
      go_enter Tryz.func128, Tryz.ntmps128
      go_wp2_with fail
      refine HW.out.mono ?_
      rintro e w1 ⟨A', k, c, rfl, ho, hb1⟩
      go_wp2_with fail
      refine (of_any r w1 hrl).mono ?_
      rintro e w2 ⟨A3, k3, c3, rfl, ho3, hb2⟩
      have h0 := (hb2.block w.heap.size (by have := hb1.size; simp at this; omega)).trans ((hb1.block w.heap.size (by simp)).trans (World.alloc_heap_new w _))
      have c0 : w2.cell? ⟨w.heap.size, 0, none⟩ = some (.slice none 0 0) := cells_cell h0 rfl
      have f0 : w2.frozen? ⟨w.heap.size, 0, none⟩ = false := cells_frozen h0
      have HO := Lib.hid (ho.below hb2)
      have HO3 := Lib.hid ho3
      have H0 := Lib.hid h0
      have HB := Lib.hid (below_then (below_new hb1) (show Below w1.heap.size w1 w2 from hb2))
      have hs1 := hb1.size
      simp only [World.size_alloc] at hs1
      have HS1 := Lib.hid hs1
      clear ho h0 hb1 ho3 hb2 hs1
      go_wp2
      have bx : Boxed (w2.setCell ⟨w.heap.size, 0, none⟩ (.slice A' k c)) w.heap.size 23 (.slice A' k c) := Boxed.set _ H0.out
      have c1 := bx.cell
      have hs1 := HS1.out
      refine bodyPost_ret (v := .tuple #[.slice A' k c, .slice A3 k3 c3]) (by simp [results, Tryz.results128, go_sem, c1]) rfl ?_
      refine ⟨_, _, _, _, _, _, rfl, own_mono (own_far HO.out (p := ⟨w.heap.size, 0, none⟩) (by simp) _) (show w.heap.size ≤ (w.alloc (.cells #[.slice none 0 0] 23)).heap.size by simp), own_mono (own_far HO3.out (p := ⟨w.heap.size, 0, none⟩) (by show w.heap.size < w1.heap.size; omega) _) (by omega), ?_⟩
      exact HB.out.setCell (p := ⟨w.heap.size, 0, none⟩) (Nat.le_refl _) _
    · exact limbs_main A A2 na ca nb cb a b w hra hrb (by omega) (by omega) (by omega) hma hmb
/-- A way of making a quotient of two numbers that may be. -/
def WayIs (F : Nat) : Prop := ∀ (A A2 : Option Addr) (na ca nb cb : Nat) (a b : List Nat) (w : World), Rd w A na a → Rd w A2 nb b → na ≤ 1000 → nb ≤ 1000 → may a = true → may b = true → b ≠ [] →
    Calls Tryz.prog F #[.slice A na ca, .slice A2 nb cb] w fun e w' => ∃ A' k c A3 k3 c3, e = .returned (.tuple #[.slice A' k c, .slice A3 k3 c3]) ∧ Own w' w.heap.size (.slice A' k c) (limbs (val a / val b)) ∧ Own w' w.heap.size (.slice A3 k3 c3) (limbs (val a % val b)) ∧ Below w.heap.size w w'

theorem bad_one {a : List Nat} (h : may a = true) : bad [a] = 0 := by unfold bad; rw [if_pos (by simp [h])]
theorem bad_one' {a : List Nat} (h : may a = false) : bad [a] = 8 := by unfold bad; rw [if_neg (by simp [h])]

set_option maxRecDepth 100000 in
set_option maxHeartbeats 2000000 in
/-- div.divided, over a way. -/
theorem divided_any (F : Nat) (hF : WayIs F) (hE : ∀ args w, (callFunc F args).run Tryz.prog w = .ok (.enter F args) w) (A A2 : Option Addr) (na ca nb cb : Nat) (a b : List Nat) (w : World) (hra : Rd w A na a) (hrb : Rd w A2 nb b) (hna : na ≤ 1000) (hnb : nb ≤ 1000) :
    Calls Tryz.prog 127 #[.slice A na ca, .slice A2 nb cb, .func (.func F) #[] #[]] w (Answers2 w (quoL a b) (remL a b) (divE a b)) := by
  have hlb := hrb.len
  cases hma : may a with
  | false =>
    have hE8 : divE a b = 8 := by unfold divE; rw [if_neg (by simp [both, hma])]
    rw [quoL_no (by rw [hE8]; omega), remL_no (by rw [hE8]; omega), hE8]
    have HA := Lib.hid (bad_one' hma)
    clear hma hE8
    go_enter Tryz.func127, Tryz.ntmps127
    go_wp2_with fail
    refine (check_any A na ca a w hra (by omega)).mono ?_
    rw [HA.out]
    rintro e w1 ⟨rfl, hb1⟩
    go_wp2
    go_ret3
    exact answers2_nil hb1
  | true =>
    cases hmb : may b with
    | false =>
      have hE8 : divE a b = 8 := by unfold divE; rw [if_neg (by simp [both, hmb])]
      rw [quoL_no (by rw [hE8]; omega), remL_no (by rw [hE8]; omega), hE8]
      have HA := Lib.hid (bad_one hma)
      have HB := Lib.hid (bad_one' hmb)
      clear hma hmb hE8
      go_enter Tryz.func127, Tryz.ntmps127
      go_wp2_with fail
      refine (check_any A na ca a w hra (by omega)).mono ?_
      rw [HA.out]
      rintro e w1 ⟨rfl, hb1⟩
      go_wp2_with fail
      refine (check_any A2 nb cb b w1 (hrb.below hb1) (by omega)).mono ?_
      rw [HB.out]
      rintro e w2 ⟨rfl, hb2⟩
      have hb3 := below_then hb1 hb2
      go_wp2
      go_ret3
      exact answers2_nil hb3
    | true =>
      have HA := Lib.hid (bad_one hma)
      have HB := Lib.hid (bad_one hmb)
      by_cases hb : b = []
      · have hE3 : divE a b = 30 := by rw [hb]; exact divE_zero hma
        rw [quoL_no (by rw [hE3]; omega), remL_no (by rw [hE3]; omega), hE3]
        obtain rfl : nb = 0 := by rw [hb] at hlb; simpa using hlb.symm
        clear hma hmb hE3 hb hlb
        go_enter Tryz.func127, Tryz.ntmps127
        go_wp2_with fail
        refine (check_any A na ca a w hra (by omega)).mono ?_
        rw [HA.out]
        rintro e w1 ⟨rfl, hb1⟩
        go_wp2_with fail
        refine (check_any A2 0 cb b w1 (hrb.below hb1) (by omega)).mono ?_
        rw [HB.out]
        rintro e w2 ⟨rfl, hb2⟩
        have hb3 := below_then hb1 hb2
        go_wp2
        go_ret3
        exact answers2_nil hb3
      · have hE0 := divE_ok hma hmb hb
        rw [quoL_ok hE0, remL_ok hE0, hE0]
        have hn0 : ((nb : Int) == 0) = false := by
          have : nb ≠ 0 := fun h => hb (List.eq_nil_of_length_eq_zero (by omega))
          simp; omega
        have HMA := Lib.hid hma
        have HMB := Lib.hid hmb
        have HNB := Lib.hid hb
        clear hma hmb hE0 hb hlb
        go_enter Tryz.func127, Tryz.ntmps127
        go_wp2_with fail
        refine (check_any A na ca a w hra (by omega)).mono ?_
        rw [HA.out]
        rintro e w1 ⟨rfl, hb1⟩
        go_wp2_with fail
        refine (check_any A2 nb cb b w1 (hrb.below hb1) (by omega)).mono ?_
        rw [HB.out]
        rintro e w2 ⟨rfl, hb2⟩
        have hb3 := below_then hb1 hb2
        go_wp2_with fail
        refine (hF A A2 na ca nb cb a b w2 (hra.below hb3) (hrb.below hb3) hna hnb HMA.out HMB.out HNB.out).mono ?_
        rintro e w3 ⟨A3, k3, c3, A4, k4, c4, rfl, o3, o4, hb4⟩
        have hb5 := below_then hb3 hb4
        have s3 := hb3.size
        have o3' := own_mono o3 s3
        have o4' := own_mono o4 s3
        clear o3 o4
        go_wp2
        go_ret3
        exact ⟨_, _, _, _, _, _, rfl, o3', o4', hb5⟩

set_option maxRecDepth 100000 in
set_option maxHeartbeats 1000000 in
theorem div_is : DivIs 107 := fun A A2 na ca nb cb a b w hra hrb hna hnb _ _ => by
  have h := divided_any 128 byLimbs_any (enters_of Tryz.func128 (by kernel_rfl) rfl) A A2 na ca nb cb a b w hra hrb hna hnb
  have H := Lib.hid h
  clear h hra hrb
  go_enter Tryz.func107, Tryz.ntmps107
  go_wp2_with fail
  refine H.out.mono ?_
  rintro e w1 ⟨A3, k3, c3, A4, k4, c4, rfl, o3, o4, hb1⟩
  go_wp2
  go_ret3
  exact ⟨_, _, _, _, _, _, rfl, o3, o4, hb1⟩
set_option maxRecDepth 100000 in
set_option maxHeartbeats 2000000 in
theorem exact_is : ExactIs 87 := fun A A2 na ca nb cb a b w hra hrb hna hnb hca hcb => by
  have HD := Lib.hid (div_is A A2 na ca nb cb a b w hra hrb hna hnb hca hcb)
  clear hra hrb
  by_cases he : divE a b = 0
  · by_cases hz : val a % val b = 0
    · have e2 : exactE a b = 0 := by simp [exactE, he, hz]
      have e3 : exactL a b = quoL a b := by simp [exactL, e2, quoL_ok he]
      have e4 : (remL a b).length = 0 := by rw [remL_ok he, hz, limbs_zero]; rfl
      rw [e2, e3]
      have HE := Lib.hid he
      have H4 := Lib.hid e4
      clear he hz e2 e3 e4
      go_enter Tryz.func87, Tryz.ntmps87
      go_wp2_with fail
      refine HD.out.mono ?_
      rw [HE.out]
      rintro e w1 ⟨A3, k3, c3, A4, k4, c4, rfl, o3, o4, hb1⟩
      obtain rfl : k4 = 0 := by have h1 := o4.rd.2.1; have h2 := H4.out; omega
      clear o4
      go_wp2
      go_ret2
      exact ⟨_, _, _, rfl, o3, hb1⟩
    · have e2 : exactE a b = 6 := by simp [exactE, he, hz]
      have e3 : exactL a b = [] := by simp [exactL, e2]
      have e4 : 0 < (remL a b).length := by
        rw [remL_ok he]
        exact Nat.pos_of_ne_zero (fun h => hz (limbs_eq_nil.1 (List.eq_nil_of_length_eq_zero h)))
      rw [e2, e3]
      have HE := Lib.hid he
      have H4 := Lib.hid e4
      clear he hz e2 e3 e4
      go_enter Tryz.func87, Tryz.ntmps87
      go_wp2_with fail
      refine HD.out.mono ?_
      rw [HE.out]
      rintro e w1 ⟨A3, k3, c3, A4, k4, c4, rfl, o3, o4, hb1⟩
      have hk4 : (0 : Int) < (k4 : Int) := by have h1 := o4.rd.2.1; have h2 := H4.out; omega
      clear o4 o3
      go_wp2
      go_ret2
      exact answers_nil hb1
  · have e2 : exactE a b = divE a b := by simp [exactE, he]
    have e3 : exactL a b = [] := by simp [exactL, e2, he]
    have hne : (divE a b != 0) = true := by simpa using he
    rw [e2, e3]
    clear e2 e3 he
    generalize divE a b = E at *
    go_enter Tryz.func87, Tryz.ntmps87
    go_wp2_with fail
    refine HD.out.mono ?_
    rintro e w1 ⟨A3, k3, c3, A4, k4, c4, rfl, o3, o4, hb1⟩
    clear o4 o3
    go_wp2
    go_ret2
    exact answers_nil hb1
set_option maxRecDepth 100000 in
set_option maxHeartbeats 2000000 in
theorem word_is : WordIs 85 := fun A na ca a x w hra hx hna hca => by
  cases hma : may a with
  | false =>
    have hE8 : divE a (limbs x) = 8 := by unfold divE; rw [if_neg (by simp [both, hma])]
    rw [quoL_no (by rw [hE8]; omega), remL_no (by rw [hE8]; omega), hE8, val_nil]
    have HA := Lib.hid (bad_one' hma)
    clear hma hE8
    go_enter Tryz.func85, Tryz.ntmps85
    go_wp2_with fail
    refine (check_any A na ca a w hra (by omega)).mono ?_
    rw [HA.out]
    rintro e w1 ⟨rfl, hb1⟩
    go_wp2
    go_ret3
    exact ⟨_, _, _, rfl, own_nil _ _, hb1⟩
  | true =>
    have HA := Lib.hid (bad_one hma)
    by_cases h0 : x = 0
    · subst h0
      rw [limbs_zero]
      have hE3 : divE a [] = 30 := divE_zero hma
      rw [quoL_no (by rw [hE3]; omega), remL_no (by rw [hE3]; omega), hE3, val_nil]
      clear hma hE3
      go_enter Tryz.func85, Tryz.ntmps85
      go_wp2_with fail
      refine (check_any A na ca a w hra (by omega)).mono ?_
      rw [HA.out]
      rintro e w1 ⟨rfl, hb1⟩
      go_wp2
      go_ret3
      exact ⟨_, _, _, rfl, own_nil _ _, hb1⟩
    · have hne : limbs x ≠ [] := fun h => h0 (limbs_eq_nil.1 h)
      have hE0 := divE_ok hma (may_limbs x) hne
      rw [quoL_ok hE0, remL_ok hE0, hE0, val_limbs, val_limbs]
      have hx0 : ((x : Int) == 0) = false := by simp; omega
      clear hma hE0 hne
      go_enter Tryz.func85, Tryz.ntmps85
      go_wp2_with fail
      refine (check_any A na ca a w hra (by omega)).mono ?_
      rw [HA.out]
      rintro e w1 ⟨rfl, hb1⟩
      go_wp2_with fail
      refine (byWord_any A na ca x a w1 (hra.below hb1) (by omega) hx (by omega)).mono ?_
      rintro e w2 ⟨A', k, c, rfl, ho, hb2⟩
      have hb3 := below_then hb1 hb2
      have ho' := own_mono ho hb1.size
      clear ho
      go_wp2
      go_ret3
      exact ⟨_, _, _, rfl, ho', hb3⟩
end Go.Proofs.YtgiokmfdafmaoaaGreat
