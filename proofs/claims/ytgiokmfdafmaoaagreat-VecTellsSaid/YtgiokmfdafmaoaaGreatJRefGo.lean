import Derived.Test.YtgiokmfdafmaoaaGreatJBit
import Derived.Test.YtgiokmfdafmaoaaGreatJCmp
import Derived.Test.YtgiokmfdafmaoaaGreatJSame
import Derived.Test.YtgiokmfdafmaoaaGreatJBitLaw
import Derived.Test.YtgiokmfdafmaoaaGreatJRefMay
/- RefA RefFrom RefGo. -/
/- The document's own answers for numbers: the small ones. -/
namespace Go.Proofs.YtgiokmfdafmaoaaGreat
open Go.RowKit Go.Shelf
set_option linter.unusedVariables false
set_option linter.unusedSimpArgs false


section
variable (A A2 : Option Addr) (na ca nb cb : Nat) (a b : List Nat) (w : World)



set_option maxHeartbeats 1000000 in
theorem rOne_any (hra : Rd w A na a) (hna : na ≤ 4294967296) :
    Calls Tryz.prog 118 #[.slice A na ca] w fun e w' => e = .returned (u64 (lim a 0)) ∧ w = w' := by
  by_cases h0 : na = 0
  · subst h0
    have hz : lim a 0 = 0 := lim_past (by rw [hra.len]; omega)
    have HZ := Lib.hid hz
    clear hz hra
    go_enter Tryz.func118, Tryz.ntmps118
    go_wp2
    go_ret
    exact ⟨by rw [HZ.out]; rfl, rfl⟩
  · obtain ⟨n, rfl⟩ : ∃ n, na = n + 1 := ⟨na - 1, by omega⟩
    obtain ⟨b, off, rfl, hb, hc⟩ := hra.cells (by omega)
    have hci := hc 0 (by omega)
    rw [Nat.add_zero] at hci
    have hne : (((n : Nat) : Int) + 1 == 0) = false := by simp; omega
    clear hra hc
    go_enter Tryz.func118, Tryz.ntmps118
    go_wp2
    go_ret
    exact ⟨rfl, rfl⟩

set_option maxHeartbeats 1000000 in
theorem rShort_any (hna : na ≤ 4294967296) (hnb : nb ≤ 4294967296) :
    Calls Tryz.prog 117 #[.slice A na ca, .slice A2 nb cb] w fun e w' => e = .returned (.bool (decide (na ≤ 1 ∧ nb ≤ 1))) ∧ w = w' := by
  by_cases h1 : na ≤ 1 <;> by_cases h2 : nb ≤ 1
  all_goals
    go_enter Tryz.func117, Tryz.ntmps117
    go_wp2
    go_ret
    exact ⟨ret_bool (by (simp [h1, h2]) <;> omega), rfl⟩

set_option maxHeartbeats 1000000 in
theorem rMany_any (hna : na ≤ 4294967296) (hnb : nb ≤ 4294967296) :
    Calls Tryz.prog 119 #[.slice A na ca, .slice A2 nb cb] w fun e w' => e = .returned (.int .i64 ((64 * max na nb : Nat) : Int)) ∧ w = w' := by
  rcases Nat.lt_or_ge na nb with h | h
  · have hm : max na nb = nb := by omega
    have HM := Lib.hid hm
    clear hm
    go_enter Tryz.func119, Tryz.ntmps119
    go_wp2
    go_ret
    exact ⟨ret_int (by have := HM.out; omega), rfl⟩
  · have hm : max na nb = na := by omega
    have HM := Lib.hid hm
    clear hm
    go_enter Tryz.func119, Tryz.ntmps119
    go_wp2
    go_ret
    exact ⟨ret_int (by have := HM.out; omega), rfl⟩

set_option maxHeartbeats 1000000 in
theorem rOf_any (x : Nat) (hx : x < B64) :
    Calls Tryz.prog 76 #[u64 x] w fun e w' => ∃ A' k c, e = .returned (.slice A' k c) ∧ Own w' w.heap.size (.slice A' k c) (limbs x) ∧ Below w.heap.size w w' := by
  by_cases h0 : x = 0
  · subst h0
    go_enter Tryz.func76, Tryz.ntmps76
    go_wp2
    go_ret
    exact ⟨none, 0, 0, rfl, by rw [limbs_zero]; exact ⟨World.ownsRow_nil _ _ _ _, words_nil⟩, Below.refl _ _⟩
  · have hrow : RowL (w.alloc (.cells #[u64 x] 36)) w.heap.size [x] := World.alloc_heap_new w _
    have hown := hrow.own (B := w.heap.size) (Nat.le_refl _) (words_cons hx words_nil) (n := 1) rfl (by simp only [maxLen]; omega)
    have HO := Lib.hid hown
    have hne : (((x : Nat) : Int) == 0) = false := by simp; omega
    clear hown hrow
    go_enter Tryz.func76, Tryz.ntmps76
    go_wp2
    go_ret
    refine ⟨_, 1, 1, rfl, ?_, (Below.refl _ _).alloc (Nat.le_refl _) _⟩
    have e : limbs x = [x] := by
      have h := limbs_val (l := [x]) (words_cons hx words_nil) (by unfold may; simp [h0])
      simpa [val] using h
    rw [e]
    exact HO.out
end
end Go.Proofs.YtgiokmfdafmaoaaGreat

/- The document's From: the number of bits. -/
namespace Go.Proofs.YtgiokmfdafmaoaaGreat
open Go.RowKit Go.Shelf
set_option linter.unusedVariables false
set_option linter.unusedSimpArgs false

/-- What a list of bits is worth. -/
def bval : List Nat → Nat
  | [] => 0
  | x :: r => x + 2 * bval r
def Bits (l : List Nat) : Prop := ∀ x ∈ l, x ≤ 1
theorem Bits.get {l : List Nat} (h : Bits l) (i : Nat) : lim l i ≤ 1 := by
  unfold lim
  rw [List.getD_eq_getElem?_getD]
  cases e : l[i]? with
  | none => exact Nat.zero_le _
  | some x => exact h x (List.mem_of_getElem? e)
theorem bits_append {l m : List Nat} (h : Bits l) (k : Bits m) : Bits (l ++ m) := fun y hy => by
  rcases List.mem_append.1 hy with hy | hy
  · exact h y hy
  · exact k y hy
theorem bits_one {x : Nat} (h : x ≤ 1) : Bits [x] := fun y hy => by
  rw [List.mem_singleton] at hy; rw [hy]; exact h
theorem bval_append (l m : List Nat) : bval (l ++ m) = bval l + 2 ^ l.length * bval m := by
  induction l with
  | nil => simp [bval]
  | cons x r ih =>
    simp only [List.cons_append, bval, ih, List.length_cons, Nat.pow_succ, Nat.mul_add]
    rw [← Nat.mul_assoc, Nat.mul_comm 2 (2 ^ r.length)]
    omega
theorem bval_snoc (l : List Nat) (x : Nat) : bval (l ++ [x]) = bval l + 2 ^ l.length * x := by rw [bval_append]; simp [bval]
theorem bval_take_succ (l : List Nat) (k : Nat) : bval (l.take (k + 1)) = bval (l.take k) + 2 ^ k * lim l k := by
  by_cases h : k < l.length
  · rw [List.take_succ_eq_append_getElem h, bval_snoc, lim_get h, List.length_take, Nat.min_eq_left (Nat.le_of_lt h)]
  · rw [List.take_of_length_le (by omega), List.take_of_length_le (by omega), lim_past (by omega), Nat.mul_zero, Nat.add_zero]
theorem bval_lt {l : List Nat} (h : Bits l) : bval l < 2 ^ l.length := by
  induction l with
  | nil => simp [bval]
  | cons x r ih =>
    have h1 : x ≤ 1 := h x List.mem_cons_self
    have h2 := ih fun y hy => h y (List.mem_cons_of_mem _ hy)
    rw [bval, List.length_cons, Nat.pow_succ]
    omega
theorem bval_take_zeros {l : List Nat} {n : Nat} (h : ∀ i, n ≤ i → lim l i = 0) : bval (l.take n) = bval l := by
  simp only [lim] at h
  induction l generalizing n with
  | nil => simp
  | cons x r ih =>
    cases n with
    | zero =>
      have h0 := h 0 (by omega)
      have hr := ih (n := 0) (fun i _ => by have := h (i + 1) (by omega); simpa using this)
      simp at h0 hr
      rw [bval, ← hr]
      simp [h0, bval]
    | succ n =>
      simp only [List.take_succ_cons, bval]
      rw [ih (fun i hi => by have := h (i + 1) (by omega); simpa using this)]
/-- The bits of a number, from a place on. -/
theorem bval_bits (v : Nat) (k : Nat) : bval ((List.range k).map (nbit v)) = v % 2 ^ k := by
  induction k with
  | zero => simp [bval, Nat.mod_one]
  | succ k ih =>
    rw [List.range_succ, List.map_append, List.map_cons, List.map_nil, bval_snoc, ih, List.length_map, List.length_range, Nat.pow_succ, Nat.mod_mul]
    rfl

abbrev i64n (x : Nat) : Value := .int .i64 (x : Int)
theorem int_info : (Tryz.prog.info? 3).map (fun i => (i.zero, i.size, i.bytes)) = some (some (.int .i64 0), 1, 8) := by kernel_rfl

/-- A slice of ints that reads as a list of bits. -/
structure RdI (w : World) (A : Option Addr) (n : Nat) (l : List Nat) : Prop where
  len : l.length = n
  bits : Bits l
  cells : 0 < n → ∃ b off, A = some ⟨b, off, none⟩ ∧ b < w.heap.size ∧ ∀ i, i < n → w.cell? ⟨b, off + i, none⟩ = some (i64n (lim l i))
theorem RdI.below {w w' : World} {A : Option Addr} {n : Nat} {l : List Nat} (h : RdI w A n l) (hb : Below w.heap.size w w') : RdI w' A n l :=
  ⟨h.len, h.bits, fun hn => by
    obtain ⟨b, off, e, hlt, hc⟩ := h.cells hn
    exact ⟨b, off, e, Nat.lt_of_lt_of_le hlt hb.size, fun i hi => (hb.cell (p := ⟨b, off + i, none⟩) hlt).trans (hc i hi)⟩⟩
/-- A slice of ints of the call's own. -/
def OwnI (w : World) (B : Nat) (v : Value) (l : List Nat) : Prop := w.ownsRow B 3 1 v l.length (l.map i64n) ∧ Bits l
theorem OwnI.below {w w' : World} {B : Nat} {v : Value} {l : List Nat} (h : OwnI w B v l) (hb : Below w.heap.size w w') : OwnI w' B v l := by
  refine ⟨⟨h.1.1, ?_⟩, h.2⟩
  rcases h.1.2 with h2 | ⟨g, cap, cur, e, hg, hh, r⟩
  · exact .inl h2
  · exact .inr ⟨g, cap, cur, e, hg, (hb.block g (Array.getElem?_eq_some_iff.1 hh).1).trans hh, r⟩
theorem OwnI.form {w : World} {B : Nat} {v : Value} {l : List Nat} (h : OwnI w B v l) : ∃ A c, v = .slice A l.length c ∧ RdI w A l.length l ∧ l.length ≤ c ∧ c ≤ maxLen := by
  rcases h.1.2 with ⟨e, h0⟩ | ⟨g, cap, cur, e, hg, hh, hn, hc, hs, ht⟩
  · have hl : l = [] := List.eq_nil_of_length_eq_zero h0
    subst hl
    exact ⟨none, 0, e, ⟨rfl, h.2, fun h => absurd h (by simp)⟩, Nat.le_refl _, Nat.zero_le _⟩
  · refine ⟨_, cap, e, ⟨rfl, h.2, fun hn0 => ⟨g, 0, rfl, (Array.getElem?_eq_some_iff.1 hh).1, fun i hi => ?_⟩⟩, hn, hc⟩
    have hci := h.1.cells (g := g) (by rw [e]; rfl) i (i64n (lim l i)) (by rw [List.getElem?_map, List.getElem?_eq_getElem hi, lim_get hi]; rfl)
    simpa [Addr.add, Nat.zero_add] using (by
      by_cases h0 : i = 0
      · subst h0; simpa [Addr.add] using hci
      · simpa [Addr.add, h0] using hci : w.cell? ⟨g, 0 + i, none⟩ = some (i64n (lim l i)))


/-- A number's list grows by bits. -/
theorem from_step {o bl : List Nat} {i : Nat} (hw : Words o) (hb : Bits bl) (hi : i < bl.length) (ho : val o = bval (bl.take i)) (hl : i / 64 < o.length) (hx : lim bl i = 1) :
    lim o (i / 64) + 2 ^ (i % 64) < B64 ∧ val (o.set (i / 64) (lim o (i / 64) + 2 ^ (i % 64))) = bval (bl.take (i + 1)) := by
  have hlt : val o < 2 ^ i := by
    rw [ho]
    have := bval_lt (l := bl.take i) (fun y hy => hb y (List.mem_of_mem_take hy))
    rwa [List.length_take, Nat.min_eq_left (Nat.le_of_lt hi)] at this
  have hp : 2 ^ i = B64 ^ (i / 64) * 2 ^ (i % 64) := by
    have e : i = 64 * (i / 64) + i % 64 := by omega
    have h2 : 2 ^ (64 * (i / 64) + i % 64) = B64 ^ (i / 64) * 2 ^ (i % 64) := by rw [Nat.pow_add, Nat.pow_mul]; rfl
    rw [← h2, ← e]
  have h1 : lim o (i / 64) < 2 ^ (i % 64) := by
    rw [lim_val hw]
    refine Nat.lt_of_le_of_lt (Nat.mod_le _ _) ?_
    rw [Nat.div_lt_iff_lt_mul (Nat.pow_pos B64_pos), Nat.mul_comm, ← hp]
    exact hlt
  have h2 : 2 ^ (i % 64) * 2 ≤ B64 := by
    rw [← Nat.pow_succ]
    exact Nat.pow_le_pow_right (by omega) (show i % 64 + 1 ≤ 64 by omega)
  refine ⟨by omega, ?_⟩
  have e1 := val_set hl (lim o (i / 64) + 2 ^ (i % 64))
  rw [Nat.mul_add] at e1
  rw [bval_take_succ, hx, Nat.mul_one, ← ho, hp]
  omega
theorem val_snoc_zero (o : List Nat) : val (o ++ [0]) = val o := by rw [val_append]; simp [val]

end Go.Proofs.YtgiokmfdafmaoaaGreat

namespace Go.Proofs.YtgiokmfdafmaoaaGreat
open Go.RowKit Go.Shelf
set_option linter.unusedVariables false
set_option linter.unusedSimpArgs false

theorem add_word (y r : Nat) (h : y + 2 ^ r < B64) : IntKind.u64.wrap ((y : Int) + IntKind.u64.wrap (2 ^ r)) = ((y + 2 ^ r : Nat) : Int) := by
  have e : (2 : Int) ^ r = ((2 ^ r : Nat) : Int) := by simp
  rw [e, u64_wrap_nat, ← Int.natCast_add, u64_wrap_nat, Nat.mod_eq_of_lt (show 2 ^ r < B64 by omega), Nat.mod_eq_of_lt h]

set_option maxRecDepth 100000 in
set_option maxHeartbeats 4000000 in
theorem from_any (A : Option Addr) (n c : Nat) (bl : List Nat) (w : World) (hr : RdI w A n bl) (hn : n ≤ 1000000) :
    Calls Tryz.prog 102 #[.slice A n c] w fun e w' => ∃ A' k c', e = .returned (.slice A' k c') ∧ Own w' w.heap.size (.slice A' k c') (limbs (bval bl)) ∧ Below w.heap.size w w' := by
  obtain ⟨i0, hi0, hz0, hz1, hz2⟩ := info_parts u64_info
  go_enter Tryz.func102, Tryz.ntmps102
  go_wp2
  go_loop [3] (fun i => ∃ k : Nat, k ≤ n ∧ i = .int .i64 (k : Int) ∧ ∀ j, k ≤ j → lim bl j = 0) (fun i => (intOf i).toNat)
  case atStart => exact ⟨n, Nat.le_refl _, rfl, fun j hj => lim_past (by rw [hr.len]; omega)⟩
  case round =>
    obtain ⟨m, hm, rfl, hz⟩ := hrel
    by_cases hstep : m ≠ 0 ∧ lim bl (m - 1) = 0
    · obtain ⟨hm0, hx⟩ := hstep
      obtain ⟨b, off, rfl, hb, hc⟩ := hr.cells (by omega)
      obtain ⟨j, rfl⟩ : ∃ j, m = j + 1 := ⟨m - 1, by omega⟩
      rw [Nat.add_sub_cancel] at hx
      have hci := hc j (by omega)
      rw [hx] at hci
      have HX := Lib.hid hx
      have HZ := Lib.hid hz
      have HH := Lib.hid hr
      clear hx hz hr hc
      go_wp2
      go_round
      case rel => exact ⟨j, by omega, by go_num, fun i hi => by
        rcases Nat.eq_or_lt_of_le hi with rfl | hi
        · exact HX.out
        · exact HZ.out i hi⟩
      case measure => simp [intOf]
    · -- THE END OF THE FIRST LOOP: m is 0, or the bit m - 1 is 1
      have htop : m = 0 ∨ lim bl (m - 1) = 1 := by
        by_cases h0 : m = 0
        · exact .inl h0
        · have h1 := hr.bits.get (m - 1)
          have h2 : lim bl (m - 1) ≠ 0 := fun e => hstep ⟨h0, e⟩
          exact .inr (by omega)
      have hv : bval (bl.take m) = bval bl := bval_take_zeros hz
      have hfin : ∀ o, Words o → o.length = (m + 63) / 64 → val o = bval (bl.take m) → o = limbs (bval bl) := by
        intro o hw hl ho
        rw [← hv, ← ho]
        refine (limbs_val hw ?_).symm
        rcases htop with h0 | h1
        · subst h0
          have : o = [] := List.eq_nil_of_length_eq_zero (by omega)
          rw [this]; rfl
        · by_cases h0 : m = 0
          · subst h0
            have : o = [] := List.eq_nil_of_length_eq_zero (by omega)
            rw [this]; rfl
          · obtain ⟨j, rfl⟩ : ∃ j, m = j + 1 := ⟨m - 1, by omega⟩
            rw [Nat.add_sub_cancel] at h1
            rw [bval_take_succ, h1, Nat.mul_one] at ho
            have hne : o ≠ [] := fun e => by rw [e] at hl; simp at hl; omega
            rw [may_last hne]
            have hge : 2 ^ j ≤ val o := by omega
            simp only [bne_iff_ne]
            intro e0
            have e2 : val (o.take (o.length - 1)) = val o := val_take_zeros fun i hi => by
              rcases Nat.eq_or_lt_of_le hi with rfl | hi
              · exact e0
              · exact lim_past (by omega)
            have h3 := val_lt (hw.take (o.length - 1))
            rw [e2] at h3
            have h4 : B64 ^ (o.take (o.length - 1)).length ≤ 2 ^ j := by
              rw [B64_pow]
              refine Nat.pow_le_pow_right (by omega) ?_
              rw [List.length_take]; omega
            omega
      have hmt : ∀ hm0 : m ≠ 0, ∃ b off, A = some ⟨b, off, none⟩ ∧ b < w.heap.size ∧ (∀ i, i < n → w.cell? ⟨b, off + i, none⟩ = some (i64n (lim bl i))) ∧ lim bl (m - 1) = 1 := fun hm0 => by
        obtain ⟨b, off, e, hb, hc⟩ := hr.cells (by omega)
        exact ⟨b, off, e, hb, hc, htop.resolve_left hm0⟩
      have HF := Lib.hid hfin
      have HT := Lib.hid hmt
      have HR := Lib.hid hr
      clear hfin hmt htop hstep hz hv hr
      have hloop : ∀ (K : Act → World → Prop), True := fun _ => trivial
      by_cases hm0 : m = 0
      · subst hm0
        go_wp2
        go_loop [4, 5] (fun o i => o = .slice none 0 0 ∧ i = .int .i64 0) (fun _ _ => 0)
        case atStart => exact ⟨rfl, rfl⟩
        case round =>
          obtain ⟨rfl, rfl⟩ := hrel
          go_wp2
          go_ret
          refine ⟨none, 0, 0, rfl, ?_, Below.refl _ _⟩
          rw [← HF.out [] words_nil rfl (by simp [val, bval])]
          exact ⟨World.ownsRow_nil _ _ _ _, words_nil⟩
      · obtain ⟨b, off, rfl, hb, hc, hx⟩ := HT.out hm0
        obtain ⟨j, rfl⟩ : ∃ j, m = j + 1 := ⟨m - 1, by omega⟩
        rw [Nat.add_sub_cancel] at hx
        have hci := hc j (by omega)
        rw [hx] at hci
        have HC := Lib.hid hc
        clear hc hx hloop
        go_wp2
        go_loopw [4, 5] (fun v i wr => ∃ (k : Nat) (o : List Nat), k ≤ j + 1 ∧ i = .int .i64 (k : Int) ∧ o.length = (k + 63) / 64 ∧ val o = bval (bl.take k) ∧ Own wr w.heap.size v o ∧ Below w.heap.size w wr) (fun _ i _ => j + 1 - (intOf i).toNat)
        case atStart => exact ⟨0, [], by omega, rfl, rfl, by simp [val, bval], ⟨World.ownsRow_nil _ _ _ _, words_nil⟩, Below.refl _ _⟩
        case round =>
          obtain ⟨k, o, hk, rfl, hlen, hval, hown, hB⟩ := hrel
          by_cases hlt : k < j + 1
          · have hck : wr.cell? ⟨b, off + k, none⟩ = some (i64n (lim bl k)) := (hB.cell (p := ⟨b, off + k, none⟩) hb).trans (HC.out k (by omega))
            obtain ⟨q, hq⟩ : ∃ q, k / 64 = q := ⟨_, rfl⟩
            obtain ⟨r, hr⟩ : ∃ r, k % 64 = r := ⟨_, rfl⟩
            have e1 : ((k : Nat) : Int) / 64 = (q : Int) := by omega
            have e2 : ((k : Nat) : Int) % 64 = (r : Int) := by omega
            have hr1 : (r : Int) < 64 := by omega
            have hq1 : (q : Int) ≤ 1000000 := by omega
            have hbit : lim bl k = 1 ∨ lim bl k = 0 := by have := HR.out.bits.get k; omega
            rcases hbit with hxx | hxx
            · have hx1 := Lib.hid hxx
              clear hxx
              by_cases h64 : r = 0
              · skip
                have ht64 : (((r : Nat) : Int) == 0) = true := by simp; omega
                have hnew := Lib.hid (cell_one_new wr (u64 0) 36)
                have hown0 := hown.below ((Below.refl _ wr).alloc (Nat.le_refl _) (.cells #[u64 0] 36))
                have HO0 := Lib.hid hown0
                have hol : o.length ≤ 20000 := by omega
                have hlen2 : (o ++ [0]).length = q + 1 := by rw [List.length_append, hlen]; simp; omega
                have hval2 : val (o ++ [0]) = bval (bl.take k) := by rw [val_snoc_zero, hval]
                have HV := Lib.hid hval2
                have HLN := Lib.hid hlen2
                have hblk := own_block hown
                have HBK := Lib.hid hblk
                have HCK := Lib.hid hck
                have HQ := Lib.hid hq
                have HRR := Lib.hid hr
                clear hown0 hval hlen hown hlen2 hval2 hblk hck hq hr h64
                go_wp2_with (at_builtin; refine wpList_append_own _ rfl _ _ 23 rfl w.heap.size 36 i0 _ 1 8 Tryz.underlying23 hi0 hz0 hz1 hz2 rfl (by decide) _ _ _ rfl HO0.out.1 ⟨wr.heap.size, 0, none⟩ 1 1 [u64 0] rfl rfl hnew.out (by simp [Value.oneCell']) (by simp only [maxLen]; omega) (by omega) (by have := hB.size; simp; omega) ?_; intro v' w1 hown1 hgrow1 _; have hB1 : Below w.heap.size w w1 := (hB.alloc hB.size _).grown hgrow1 (by rw [World.size_alloc]; have := hB.size; omega) HBK.out; have hO1 : Own w1 w.heap.size v' (o ++ [0]) := ⟨by rw [List.length_append, List.map_append]; exact hown1, words_append HO0.out.2 (words_cons B64_pos words_nil)⟩; obtain ⟨g, c3, rfl, hg, hglt⟩ := own_form hO1 (by simp); rw [HLN.out] at hO1; have hcu := (own_cell hO1 (i := q) (by omega)).1; have hfu := (own_cell hO1 (i := q) (by omega)).2; have hckk : w1.cell? ⟨b, off + k, none⟩ = some (i64n (lim bl k)) := (hB1.cell (p := ⟨b, off + k, none⟩) hb).trans (HC.out k (by omega)); rw [hx1.out] at hckk; have HO1 := Lib.hid hO1; rw [HLN.out]; clear hO1 hown1)
                have hst := from_step HO1.out.2 HR.out.bits (by rw [HR.out.len]; omega) HV.out (by rw [HLN.out, HQ.out]; omega) hx1.out
                rw [HQ.out, HRR.out] at hst
                have HST := Lib.hid hst
                clear hst
                go_region
                rw [add_word _ _ HST.out.1]
                go_wp2
                go_roundw
                case rel =>
                  refine ⟨k + 1, _, by omega, by go_num, ?_, HST.out.2, ?_, (hB1.setCell (p := ⟨g, q, none⟩) hg _).drew⟩
                  · have := HQ.out
                    rw [List.length_set, HLN.out]; omega
                  · exact (own_set HO1.out (by omega) HST.out.1).below (below_drewN (Below.refl _ _) 1)
                case measure => simp [intOf]; omega
              · skip
                have ht64 : (((r : Nat) : Int) == 0) = false := by simp; omega
                have hlen2 : o.length = q + 1 := by rw [hlen]; omega
                obtain ⟨g, c3, rfl, hg, hglt⟩ := own_form hown (by intro e; rw [e] at hlen2; simp at hlen2)
                rw [hlen2] at hown
                have hcu := (own_cell hown (i := q) (by omega)).1
                have hfu := (own_cell hown (i := q) (by omega)).2
                have HV := Lib.hid hval
                have HLN := Lib.hid hlen2
                have HO1 := Lib.hid hown
                have hckk := hck
                rw [hx1.out] at hckk
                rw [hlen2]
                have HQ := Lib.hid hq
                have HRR := Lib.hid hr
                have hB1 := hB
                clear hval hlen hown hlen2 hck hq hr h64
                go_wp2
                have hst := from_step HO1.out.2 HR.out.bits (by rw [HR.out.len]; omega) HV.out (by rw [HLN.out, HQ.out]; omega) hx1.out
                rw [HQ.out, HRR.out] at hst
                have HST := Lib.hid hst
                clear hst
                go_region
                rw [add_word _ _ HST.out.1]
                go_wp2
                go_roundw
                case rel =>
                  refine ⟨k + 1, _, by omega, by go_num, ?_, HST.out.2, ?_, (hB1.setCell (p := ⟨g, q, none⟩) hg _).drew⟩
                  · have := HQ.out
                    rw [List.length_set, HLN.out]; omega
                  · exact (own_set HO1.out (by omega) HST.out.1).below (below_drewN (Below.refl _ _) 1)
                case measure => simp [intOf]; omega
            · have hx1 := Lib.hid hxx
              clear hxx
              by_cases h64 : r = 0
              · skip
                have ht64 : (((r : Nat) : Int) == 0) = true := by simp; omega
                have hnew := Lib.hid (cell_one_new wr (u64 0) 36)
                have hown0 := hown.below ((Below.refl _ wr).alloc (Nat.le_refl _) (.cells #[u64 0] 36))
                have HO0 := Lib.hid hown0
                have hol : o.length ≤ 20000 := by omega
                have hlen2 : (o ++ [0]).length = q + 1 := by rw [List.length_append, hlen]; simp; omega
                have hval2 : val (o ++ [0]) = bval (bl.take k) := by rw [val_snoc_zero, hval]
                have HV := Lib.hid hval2
                have HLN := Lib.hid hlen2
                have hblk := own_block hown
                have HBK := Lib.hid hblk
                have HCK := Lib.hid hck
                have HQ := Lib.hid hq
                have HRR := Lib.hid hr
                clear hown0 hval hlen hown hlen2 hval2 hblk hck hq hr h64
                go_wp2_with (at_builtin; refine wpList_append_own _ rfl _ _ 23 rfl w.heap.size 36 i0 _ 1 8 Tryz.underlying23 hi0 hz0 hz1 hz2 rfl (by decide) _ _ _ rfl HO0.out.1 ⟨wr.heap.size, 0, none⟩ 1 1 [u64 0] rfl rfl hnew.out (by simp [Value.oneCell']) (by simp only [maxLen]; omega) (by omega) (by have := hB.size; simp; omega) ?_; intro v' w1 hown1 hgrow1 _; have hB1 : Below w.heap.size w w1 := (hB.alloc hB.size _).grown hgrow1 (by rw [World.size_alloc]; have := hB.size; omega) HBK.out; have hO1 : Own w1 w.heap.size v' (o ++ [0]) := ⟨by rw [List.length_append, List.map_append]; exact hown1, words_append HO0.out.2 (words_cons B64_pos words_nil)⟩; obtain ⟨g, c3, rfl, hg, hglt⟩ := own_form hO1 (by simp); rw [HLN.out] at hO1; have hcu := (own_cell hO1 (i := q) (by omega)).1; have hfu := (own_cell hO1 (i := q) (by omega)).2; have hckk : w1.cell? ⟨b, off + k, none⟩ = some (i64n (lim bl k)) := (hB1.cell (p := ⟨b, off + k, none⟩) hb).trans (HC.out k (by omega)); rw [hx1.out] at hckk; have HO1 := Lib.hid hO1; rw [HLN.out]; clear hO1 hown1)
                go_roundw
                case rel =>
                  refine ⟨k + 1, _, by omega, by go_num, ?_, ?_, HO1.out, hB1⟩
                  · have := HQ.out
                    rw [HLN.out]; omega
                  · rw [bval_take_succ, hx1.out, Nat.mul_zero, Nat.add_zero]; exact HV.out
                case measure => simp [intOf]; omega
              · skip
                have ht64 : (((r : Nat) : Int) == 0) = false := by simp; omega
                have hlen2 : o.length = q + 1 := by rw [hlen]; omega
                obtain ⟨g, c3, rfl, hg, hglt⟩ := own_form hown (by intro e; rw [e] at hlen2; simp at hlen2)
                rw [hlen2] at hown
                have hcu := (own_cell hown (i := q) (by omega)).1
                have hfu := (own_cell hown (i := q) (by omega)).2
                have HV := Lib.hid hval
                have HLN := Lib.hid hlen2
                have HO1 := Lib.hid hown
                have hckk := hck
                rw [hx1.out] at hckk
                rw [hlen2]
                have HQ := Lib.hid hq
                have HRR := Lib.hid hr
                have hB1 := hB
                clear hval hlen hown hlen2 hck hq hr h64
                go_wp2
                go_roundw
                case rel =>
                  refine ⟨k + 1, _, by omega, by go_num, ?_, ?_, HO1.out, hB1⟩
                  · have := HQ.out
                    rw [HLN.out]; omega
                  · rw [bval_take_succ, hx1.out, Nat.mul_zero, Nat.add_zero]; exact HV.out
                case measure => simp [intOf]; omega
          · have hkj : k = j + 1 := by omega
            have ho2 : o = limbs (bval bl) := HF.out o hown.2 (by rw [hlen, hkj]) (by rw [hval, hkj])
            obtain ⟨A', c', rfl⟩ := own_shape hown
            have HO := Lib.hid hown
            have HE := Lib.hid ho2
            have hkj2 : ¬ (k : Int) < (j : Int) + 1 := by omega
            clear hown ho2 hlen hval hkj
            go_wp2
            go_ret
            refine ⟨A', o.length, c', rfl, ?_, hB⟩
            have := HO.out
            rw [← HE.out]
            exact this
end Go.Proofs.YtgiokmfdafmaoaaGreat
