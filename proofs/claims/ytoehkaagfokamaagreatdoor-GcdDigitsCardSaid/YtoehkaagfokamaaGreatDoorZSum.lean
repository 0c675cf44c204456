import Derived.Test.YtoehkaagfokamaaGreatDoorZJoin
import Derived.Shelf.Spec.BitsCarry
/- Sum. -/
namespace Go.Proofs.YtoehkaagfokamaaGreatDoor
open Go.RowKit Go.Shelf

/-- A slice of the call's own, which has the limbs l. -/
def Own (w : World) (B : Nat) (v : Value) (l : List Nat) : Prop := w.ownsRow B 31 1 v l.length (l.map u64) ∧ Words l
theorem Own.kept {w w' : World} {B : Nat} {v : Value} {l : List Nat} (h : Own w B v l) {row : Option Nat} (hg : w.grownBy w' row) (hne : v.ownBlock = none ∨ v.ownBlock ≠ row) : Own w' B v l := ⟨h.1.kept hg hne, h.2⟩
/-- It is kept wherever all that there is by then is kept. -/
theorem Own.below {w w' : World} {B : Nat} {v : Value} {l : List Nat} (h : Own w B v l) (hb : Below w.heap.size w w') : Own w' B v l := by
  refine ⟨⟨h.1.1, ?_⟩, h.2⟩
  rcases h.1.2 with h2 | ⟨g, cap, cur, e, hg, hh, r⟩
  · exact .inl h2
  · exact .inr ⟨g, cap, cur, e, hg, (hb.block g (Array.getElem?_eq_some_iff.1 hh).1).trans hh, r⟩
theorem own_mono {w : World} {B B' : Nat} {v : Value} {l : List Nat} (h : Own w B v l) (hB : B' ≤ B) : Own w B' v l := by
  refine ⟨⟨h.1.1, ?_⟩, h.2⟩
  rcases h.1.2 with h2 | ⟨g, cap, cur, e, hg, r⟩
  · exact .inl h2
  · exact .inr ⟨g, cap, cur, e, by omega, r⟩
/-- Its limbs are read. -/
theorem Own.rd {w : World} {B : Nat} {A : Option Addr} {n c : Nat} {l : List Nat} (h : Own w B (.slice A n c) l) : Rd w A n l ∧ n = l.length ∧ n ≤ c ∧ c ≤ maxLen := by
  rcases h.1.2 with ⟨e, h0⟩ | ⟨g, cap, cur, e, hg, hh, hn, hc, hs, ht⟩
  · cases e
    have hl : l = [] := List.eq_nil_of_length_eq_zero h0
    subst hl
    exact ⟨rd_nil w none, rfl, Nat.le_refl _, Nat.zero_le _⟩
  · cases e
    refine ⟨⟨rfl, h.2, fun hn0 => ⟨g, 0, rfl, (Array.getElem?_eq_some_iff.1 hh).1, fun i hi => ?_⟩⟩, rfl, hn, hc⟩
    have hci := h.1.cells (g := g) rfl i (u64 (lim l i)) (by rw [List.getElem?_map, List.getElem?_eq_getElem hi, lim_get hi]; rfl)
    simpa [Addr.add, Nat.zero_add] using (by
      by_cases h0 : i = 0
      · subst h0; simpa [Addr.add] using hci
      · simpa [Addr.add, h0] using hci : w.cell? ⟨g, 0 + i, none⟩ = some (u64 (lim l i)))
/-- A beginning of it is of the call's own, too. -/
theorem own_take {w : World} {B T : Nat} {A : Option Addr} {n k c : Nat} {xs : List Value} (h : w.ownsRow B T 1 (.slice A n c) n xs) (hk : k ≤ n) : w.ownsRow B T 1 (.slice A k c) k (xs.take k) := by
  obtain ⟨h1, h2⟩ := h
  refine ⟨by rw [List.length_take]; omega, ?_⟩
  rcases h2 with ⟨e, h0⟩ | ⟨g, cap, cur, e, hg, hh, hn, hc, hs, ht⟩
  · cases e
    exact .inl ⟨by rw [show k = 0 by omega], by omega⟩
  · cases e
    refine .inr ⟨g, _, cur, rfl, hg, hh, by omega, hc, hs, ?_⟩
    rw [← ht, List.take_take]
    congr 1
    omega

theorem own_trim {w : World} {B : Nat} {A : Option Addr} {n k c : Nat} {l : List Nat} (h : Own w B (.slice A n c) l) (hk : k ≤ n) : Own w B (.slice A k c) (l.take k) := by
  have hn := h.rd.2.1
  subst hn
  have h2 := own_take h.1 hk
  have e : (l.take k).length = k := by rw [List.length_take]; omega
  refine ⟨?_, h.2.take k⟩
  rw [e, List.map_take]
  exact h2

theorem rows2_one {A : Option Addr} {na ca : Nat} {a : List Nat} {w : World} (ha : Rd w A na a) (hna : na ≤ 9223372036854775807) (T : TypeId) : Rows2 (w.alloc (.cells #[.slice A na ca] T)) w.heap.size 0 [a] := by
  intro i l hl
  match i, hl with
  | 0, hl =>
    cases hl
    exact ⟨A, na, ca, by simp, ha.alloc _, hna⟩
  | i + 1, hl => simp at hl
theorem rows2_two {A A2 : Option Addr} {na ca nb cb : Nat} {a b : List Nat} {w : World} (ha : Rd w A na a) (hb : Rd w A2 nb b) (hna : na ≤ 9223372036854775807) (hnb : nb ≤ 9223372036854775807) (T : TypeId) :
    Rows2 (w.alloc (.cells #[.slice A na ca, .slice A2 nb cb] T)) w.heap.size 0 [a, b] := by
  intro i l hl
  match i, hl with
  | 0, hl =>
    cases hl
    exact ⟨A, na, ca, by simp, ha.alloc _, hna⟩
  | 1, hl =>
    cases hl
    exact ⟨A2, nb, cb, by simp, hb.alloc _, hnb⟩
  | i + 2, hl => simp at hl

/-! ### Sums and what is left, limb by limb -/
def howAdd (x y c : Nat) : Nat × Nat := ((x + y + c) % B64, (x + y + c) / B64)
def howSub (x y c : Nat) : Nat × Nat := ((x + B64 - y - c) % B64, if x < y + c then 1 else 0)

theorem joiner_add : Joiner 30 howAdd where
  run := fun x y c hx hy hc w => by
    rw [run_callFunc_extern (P := Tryz.prog) (f := 30) Tryz.func30 (by kernel_rfl) (by kernel_rfl) (by kernel_rfl) (e := add64Entry) (by kernel_rfl), run_add64 x y c (by omega) (by omega) (by omega) (by omega)]
    simp only [Result.andThen, howAdd, u64, B64_eq]
    congr 5
  limb := fun x y c _ _ _ => Nat.mod_lt _ B64_pos
  over := fun x y c hx hy hc => by
    have h : (x + y + c) / B64 < 2 := by rw [Nat.div_lt_iff_lt_mul B64_pos]; omega
    show (x + y + c) / B64 ≤ 1
    omega
theorem joiner_sub : Joiner 104 howSub where
  run := fun x y c hx hy hc w => by
    rw [run_callFunc_extern (P := Tryz.prog) (f := 104) Tryz.func104 (by kernel_rfl) (by kernel_rfl) (by kernel_rfl) (e := sub64Entry) (by kernel_rfl), run_sub64 x y c hc]
    rfl
  limb := fun x y c _ _ _ => Nat.mod_lt _ B64_pos
  over := fun x y c hx hy hc => by
    show (if x < y + c then 1 else 0) ≤ 1
    split <;> omega

theorem joined_add {a b : List Nat} (ha : Words a) (hb : Words b) (k : Nat) :
    val (joined howAdd (pairs2 ha hb k)).1 + B64 ^ k * (joined howAdd (pairs2 ha hb k)).2 = val (a.take k) + val (b.take k) := by
  induction k with
  | zero => simp [pairs2, joined_nil, val]
  | succ k ih =>
    have hl := (joined_ok joiner_add (pairs2 ha hb k)).1
    rw [pairs2_length] at hl
    rw [pairs2_succ, joined_snoc, val_append, hl, val_take_succ, val_take_succ, Nat.pow_succ]
    have h := add_step (z := (howAdd (lim a k) (lim b k) (joined howAdd (pairs2 ha hb k)).2).1) (d := (howAdd (lim a k) (lim b k) (joined howAdd (pairs2 ha hb k)).2).2) ih rfl rfl
    simpa [val] using h
theorem sub_digit (x y c : Nat) (hx : x < B64) (hy : y < B64) (hc : c ≤ 1) : x + B64 * (if x < y + c then 1 else 0) = (x + B64 - y - c) % B64 + y + c := by
  generalize hB : B64 = B at *
  have hB2 : 1 < B := by rw [← hB]; exact B64_gt
  clear hB
  by_cases h : x < y + c
  · rw [if_pos h, Nat.mod_eq_of_lt (by omega)]
    omega
  · rw [if_neg h]
    have e : x + B - y - c = (x - y - c) + B := by omega
    rw [e, Nat.add_mod_right, Nat.mod_eq_of_lt (by omega)]
    omega
theorem howSub_digit (x y c : Nat) (hx : x < B64) (hy : y < B64) (hc : c ≤ 1) : x + B64 * (howSub x y c).2 = (howSub x y c).1 + y + c := by
  unfold howSub
  exact sub_digit x y c hx hy hc
theorem joined_sub {a b : List Nat} (ha : Words a) (hb : Words b) (k : Nat) :
    val (joined howSub (pairs2 ha hb k)).1 + val (b.take k) = val (a.take k) + B64 ^ k * (joined howSub (pairs2 ha hb k)).2 := by
  induction k with
  | zero => simp [pairs2, joined_nil, val]
  | succ k ih =>
    have hl := joined_ok joiner_sub (pairs2 ha hb k)
    rw [pairs2_length] at hl
    rw [pairs2_succ, joined_snoc, val_append, hl.1, val_take_succ, val_take_succ, Nat.pow_succ]
    have hd := howSub_digit (lim a k) (lim b k) (joined howSub (pairs2 ha hb k)).2 (ha.get k) (hb.get k) hl.2.2
    generalize howSub (lim a k) (lim b k) (joined howSub (pairs2 ha hb k)).2 = zd at *
    have h := sub_step (p := B64 ^ k) ih hd
    rw [val_cons, val_nil, Nat.mul_zero, Nat.add_zero]
    exact h
theorem joined_add_all {a b : List Nat} (ha : Words a) (hb : Words b) {m : Nat} (h1 : a.length ≤ m) (h2 : b.length ≤ m) :
    val ((joined howAdd (pairs2 ha hb m)).1 ++ [(joined howAdd (pairs2 ha hb m)).2]) = val a + val b := by
  have h := joined_add ha hb m
  have hl := (joined_ok joiner_add (pairs2 ha hb m)).1
  rw [pairs2_length] at hl
  rw [val_take_all h1, val_take_all h2] at h
  rw [val_append, hl]
  simpa [val] using h
theorem joined_sub_all {a b : List Nat} (ha : Words a) (hb : Words b) {m : Nat} (h1 : a.length ≤ m) (h2 : b.length ≤ m) :
    (val b ≤ val a → (joined howSub (pairs2 ha hb m)).2 = 0 ∧ val (joined howSub (pairs2 ha hb m)).1 = val a - val b) ∧ (val a < val b → (joined howSub (pairs2 ha hb m)).2 = 1) := by
  have h := joined_sub ha hb m
  have hl := joined_ok joiner_sub (pairs2 ha hb m)
  rw [pairs2_length] at hl
  rw [val_take_all h1, val_take_all h2] at h
  have h3 := val_lt hl.2.1
  rw [hl.1] at h3
  have h4 := hl.2.2
  generalize (joined howSub (pairs2 ha hb m)).2 = c at *
  generalize val (joined howSub (pairs2 ha hb m)).1 = j at *
  rcases (by omega : c = 0 ∨ c = 1) with rfl | rfl
  · simp at h
    omega
  · simp at h
    omega
end Go.Proofs.YtoehkaagfokamaaGreatDoor
