import Derived.Test.YtgiokmfdafmaoaaGreatKRowL
import Derived.Test.YtgiokmfdafmaoaaGreatKPairs
import Derived.Test.YtgiokmfdafmaoaaGreatKDvA
import Derived.Test.YtgiokmfdafmaoaaGreatKProd
import Derived.Test.YtgiokmfdafmaoaaGreatKMTrim
import Derived.Test.YtgiokmfdafmaoaaGreatKAddRow
import Derived.Test.YtgiokmfdafmaoaaGreatKCopy
/- Back DLow. -/
/- slices.Backward: what it hands back goes through a slice from its end, whatever a round does that keeps the blocks of S, and what the cells may be. -/
namespace Go.Proofs.YtgiokmfdafmaoaaGreat
open Go.RowKit Go.Shelf
attribute [local go_sem] Oper.semAt_some
set_option linter.unusedVariables false
set_option linter.unusedSimpArgs false

/-- A place of a slice, and what lies there. -/
abbrev BkI (m : Nat) (V : Nat → Nat → Prop) := { p : Nat × Nat // p.1 < m ∧ V p.1 p.2 }
/-- The first k places from the end. -/
def downs (m k : Nat) : List Nat := (List.range k).map fun i => m - 1 - i
theorem downs_succ (m k : Nat) : downs m (k + 1) = downs m k ++ [m - 1 - k] := by simp [downs, List.range_succ]
theorem downs_length (m k : Nat) : (downs m k).length = k := by simp [downs]
def places {m : Nat} {V : Nat → Nat → Prop} (l : List (BkI m V)) : List Nat := l.map fun x => x.1.1
theorem places_snoc {m : Nat} {V : Nat → Nat → Prop} (l : List (BkI m V)) (x : BkI m V) : places (l ++ [x]) = places l ++ [x.1.1] := by simp [places]
theorem places_length {m : Nat} {V : Nat → Nat → Prop} (l : List (BkI m V)) : (places l).length = l.length := by simp [places]
/-- What the cells may be. -/
def Has (W : World) (A : Option Addr) (m : Nat) (V : Nat → Nat → Prop) : Prop := ∀ i, i < m → ∃ b off v, A = some ⟨b, off, none⟩ ∧ V i v ∧ W.cell? ⟨b, off + i, none⟩ = some (u64 v)
def BkK (S : Nat → Prop) (A : Option Addr) (m : Nat) (V : Nat → Nat → Prop) (W W' : World) : Prop := KeepsOf S W W' ∧ (Has W A m V → Has W' A m V)
theorem BkK.trans {S : Nat → Prop} {A : Option Addr} {m : Nat} {V : Nat → Nat → Prop} {X Y Z : World} (h : BkK S A m V X Y) (k : BkK S A m V Y Z) : BkK S A m V X Z := ⟨h.1.trans k.1, fun hh => k.2 (h.2 hh)⟩
theorem BkK.refl {S : Nat → Prop} {A : Option Addr} {m : Nat} {V : Nat → Nat → Prop} (X : World) : BkK S A m V X X := ⟨KeepsOf.refl _, id⟩
theorem has_rd {W : World} {A : Option Addr} {m : Nat} {l : List Nat} (h : Rd W A m l) : Has W A m (fun i v => v = lim l i) := fun i hi => by
  obtain ⟨b, off, e, _, hc⟩ := h.cells (by omega)
  exact ⟨b, off, _, e, rfl, hc i hi⟩
theorem has_keeps {S : Nat → Prop} {W W' : World} {A : Option Addr} {m : Nat} {V : Nat → Nat → Prop} (hk : KeepsOf S W W') (hA : 0 < m → ∀ b off, A = some ⟨b, off, none⟩ → S b) (h : Has W A m V) : Has W' A m V := fun i hi => by
  obtain ⟨b, off, v, e, hv, hc⟩ := h i hi
  exact ⟨b, off, v, e, hv, (hk.cell (p := ⟨b, off + i, none⟩) (hA (by omega) b off e)).trans hc⟩
/-- How a round has ended: it goes on (true), or not. -/
def WentK (K : World → World → Prop) (J Jx : World → Prop) (W : World) (v : Bool) (W' : World) : Prop := (v = true ∧ J W' ∧ K W W') ∨ (v = false ∧ Jx W')

set_option maxRecDepth 100000 in
set_option maxHeartbeats 2000000 in
theorem backN_in (S : Nat → Prop) (V : Nat → Nat → Prop) (n l Bs : Nat) (A : Option Addr) (m c : Nat) (hm : m ≤ 4294967296) (hSb : S Bs) (J Jx : List (BkI m V) → World → Prop)
    (hY : ∀ pre x W, J pre W → pre.length < m → YieldAt Fence.wide (n - 1) Tryz.prog l #[.int .i64 (x.1.1 : Int), u64 x.1.2] W fun e W' =>
      (e = .returned (.bool true) ∧ J (pre ++ [x]) W' ∧ BkK S A m V W W') ∨ (e = .returned (.bool false) ∧ Jx (pre ++ [x]) W'))
    (W : World) (hB : W.cell? ⟨Bs, 0, none⟩ = some (.slice A m c)) (hH : Has W A m V) (h0 : J [] W) :
    CallsIn Fence.wide n Tryz.prog 143 #[.func (.yield l) #[] #[], .pointer (some ⟨Bs, 0, none⟩)] W fun e W' => (∃ v, e = .returned v) ∧
      ((∃ ys, places ys = downs m m ∧ J ys W') ∨ (∃ pre, (∃ k, k ≤ m ∧ places pre = downs m k) ∧ Jx pre W')) := by
  refine callsIn_of_wp Tryz.func143 rfl trivial ?_ rfl
  simp only [Tryz.ntmps143, List.size_toArray, List.length_cons, List.length_nil, Nat.reduceAdd, Nat.reduceSub, Array.replicate_succ, Array.replicate_zero, List.push_toArray, List.append_toArray, List.nil_append, List.cons_append]
  gi_wp2
  gi_loopw [3] (fun i wr => ∃ (k : Nat) (pre : List (BkI m V)), k ≤ m ∧ i = .int .i64 ((m : Int) - 1 - (k : Int)) ∧ places pre = downs m k ∧ J pre wr ∧ BkK S A m V W wr) (fun i _ => (intOf i + 1).toNat)
  case atStart => exact ⟨0, [], Nat.zero_le _, by simp, rfl, h0, BkK.refl _⟩
  case round =>
    obtain ⟨k, pre, hk, rfl, hp, hJs, hkp⟩ := hrel
    by_cases hlt : k < m
    · obtain ⟨b, off, v, rfl, hv, hc⟩ := hkp.2 hH (m - 1 - k) (by omega)
      have hca : wr.cell? ⟨Bs, 0, none⟩ = some (.slice (some ⟨b, off, none⟩) m c) := (hkp.1.cell (p := ⟨Bs, 0, none⟩) hSb).trans hB
      obtain ⟨j, hj⟩ : ∃ j, m - 1 - k = j := ⟨_, rfl⟩
      rw [hj] at hc hv
      have hjm : j < m := by omega
      have ej : (m : Int) - 1 - (k : Int) = (j : Int) := by omega
      obtain ⟨fn, tmps, assign, body, hy, hR⟩ := hY pre ⟨(j, v), hjm, hv⟩ wr hJs (by rw [← places_length, hp, downs_length]; exact hlt)
      dsimp only at hy hR
      have hR' := Lib.hid (hR.mono (R' := fun e W' => ∃ v', e = .returned (.bool v') ∧ WentK (BkK S (some ⟨b, off, none⟩) m V) (J (pre ++ [⟨(j, v), hjm, hv⟩])) (Jx (pre ++ [⟨(j, v), hjm, hv⟩])) wr v' W') (by
        rintro e W' (⟨rfl, h⟩ | ⟨rfl, h⟩)
        · exact ⟨true, rfl, .inl ⟨rfl, h⟩⟩
        · exact ⟨false, rfl, .inr ⟨rfl, h⟩⟩))
      have HP := Lib.hid hp
      have HJ := Lib.hid hj
      have HK := Lib.hid hkp
      clear hR hY hj hp hkp
      rw [ej]
      gi_wp2_with fail
      refine ⟨fun h => (by cases h), ?_⟩
      (with_reducible refine hR'.out.mono ?_)
      rintro e W3 ⟨v', rfl, h3⟩
      rcases h3 with ⟨rfl, hJ3, hk3⟩ | ⟨rfl, hJx3⟩
      · gi_wp2
        go_roundw
        case rel => exact ⟨k + 1, pre ++ [⟨(j, v), hjm, hv⟩], by omega, by simp; omega, by rw [places_snoc, HP.out, downs_succ, HJ.out], hJ3, HK.out.trans hk3⟩
        case measure => simp [intOf]
      · gi_wp2
        refine bodyPost_ret (results_none rfl _ _ _) rfl ?_
        exact ⟨⟨_, rfl⟩, .inr ⟨_, ⟨k + 1, by omega, by rw [places_snoc, HP.out, downs_succ, HJ.out]⟩, hJx3⟩⟩
    · have hkm : k = m := by omega
      subst hkm
      have ek : (k : Int) - 1 - (k : Int) = -1 := by omega
      have HP := Lib.hid hp
      have HJ := Lib.hid hJs
      rw [ek]
      clear hJs hp hkp hY
      gi_wp2
      go_end0
      exact ⟨⟨_, rfl⟩, .inl ⟨_, HP.out, HJ.out⟩⟩

set_option maxHeartbeats 400000 in
theorem backN_any (A : Option Addr) (m c : Nat) (w : World) :
    Calls Tryz.prog 130 #[.slice A m c] w fun e w' =>
      e = .returned (.func (.func 143) #[] #[.pointer (some ⟨w.heap.size, 0, none⟩)]) ∧ w' = w.alloc (.cells #[.slice A m c] 23) := by
  go_enter Tryz.func130, Tryz.ntmps130
  go_wp2
  go_ret
  exact ⟨rfl, rfl⟩

/-- What slices.Backward hands back. -/
theorem backN_stops (S : Nat → Prop) (V : Nat → Nat → Prop) (n Bs : Nat) (A : Option Addr) (m c : Nat) (hm : m ≤ 4294967296) (hSb : S Bs) (w : World) (hS : Bs < w.heap.size)
    (hA : ∀ b off, 0 < m → A = some ⟨b, off, none⟩ → b < w.heap.size) (hB : w.cell? ⟨Bs, 0, none⟩ = some (.slice A m c)) (hH : Has w A m V) :
    SeqStopsK Fence.wide n Tryz.prog 143 #[.pointer (some ⟨Bs, 0, none⟩)] (fun x : BkI m V => #[.int .i64 (x.1.1 : Int), u64 x.1.2]) (BkK S A m V)
      (fun ys => places ys = downs m m) (fun pre => ∃ k, k ≤ m ∧ places pre = downs m k) m w := fun l J Jx W hW hJ _ hY h0 => by
  exact backN_in S V n l Bs A m c hm hSb J Jx hY W ((hW.cell (p := ⟨Bs, 0, none⟩) hS).trans hB)
    (fun i hi => by
      obtain ⟨b, off, v, e, hv, hc⟩ := hH i hi
      exact ⟨b, off, v, e, hv, (hW.cell (p := ⟨b, off + i, none⟩) (hA b off (by omega) e)).trans hc⟩) h0

set_option maxRecDepth 100000 in
set_option maxHeartbeats 2000000 in
theorem backU_in (S : Nat → Prop) (V : Nat → Nat → Prop) (n l Bs : Nat) (A : Option Addr) (m c : Nat) (hm : m ≤ 4294967296) (hSb : S Bs) (J Jx : List (BkI m V) → World → Prop)
    (hY : ∀ pre x W, J pre W → pre.length < m → YieldAt Fence.wide (n - 1) Tryz.prog l #[.int .i64 (x.1.1 : Int), u64 x.1.2] W fun e W' =>
      (e = .returned (.bool true) ∧ J (pre ++ [x]) W' ∧ BkK S A m V W W') ∨ (e = .returned (.bool false) ∧ Jx (pre ++ [x]) W'))
    (W : World) (hB : W.cell? ⟨Bs, 0, none⟩ = some (.slice A m c)) (hH : Has W A m V) (h0 : J [] W) :
    CallsIn Fence.wide n Tryz.prog 157 #[.func (.yield l) #[] #[], .pointer (some ⟨Bs, 0, none⟩)] W fun e W' => (∃ v, e = .returned v) ∧
      ((∃ ys, places ys = downs m m ∧ J ys W') ∨ (∃ pre, (∃ k, k ≤ m ∧ places pre = downs m k) ∧ Jx pre W')) := by
  refine callsIn_of_wp Tryz.func157 rfl trivial ?_ rfl
  simp only [Tryz.ntmps157, List.size_toArray, List.length_cons, List.length_nil, Nat.reduceAdd, Nat.reduceSub, Array.replicate_succ, Array.replicate_zero, List.push_toArray, List.append_toArray, List.nil_append, List.cons_append]
  gi_wp2
  gi_loopw [3] (fun i wr => ∃ (k : Nat) (pre : List (BkI m V)), k ≤ m ∧ i = .int .i64 ((m : Int) - 1 - (k : Int)) ∧ places pre = downs m k ∧ J pre wr ∧ BkK S A m V W wr) (fun i _ => (intOf i + 1).toNat)
  case atStart => exact ⟨0, [], Nat.zero_le _, by simp, rfl, h0, BkK.refl _⟩
  case round =>
    obtain ⟨k, pre, hk, rfl, hp, hJs, hkp⟩ := hrel
    by_cases hlt : k < m
    · obtain ⟨b, off, v, rfl, hv, hc⟩ := hkp.2 hH (m - 1 - k) (by omega)
      have hca : wr.cell? ⟨Bs, 0, none⟩ = some (.slice (some ⟨b, off, none⟩) m c) := (hkp.1.cell (p := ⟨Bs, 0, none⟩) hSb).trans hB
      obtain ⟨j, hj⟩ : ∃ j, m - 1 - k = j := ⟨_, rfl⟩
      rw [hj] at hc hv
      have hjm : j < m := by omega
      have ej : (m : Int) - 1 - (k : Int) = (j : Int) := by omega
      obtain ⟨fn, tmps, assign, body, hy, hR⟩ := hY pre ⟨(j, v), hjm, hv⟩ wr hJs (by rw [← places_length, hp, downs_length]; exact hlt)
      dsimp only at hy hR
      have hR' := Lib.hid (hR.mono (R' := fun e W' => ∃ v', e = .returned (.bool v') ∧ WentK (BkK S (some ⟨b, off, none⟩) m V) (J (pre ++ [⟨(j, v), hjm, hv⟩])) (Jx (pre ++ [⟨(j, v), hjm, hv⟩])) wr v' W') (by
        rintro e W' (⟨rfl, h⟩ | ⟨rfl, h⟩)
        · exact ⟨true, rfl, .inl ⟨rfl, h⟩⟩
        · exact ⟨false, rfl, .inr ⟨rfl, h⟩⟩))
      have HP := Lib.hid hp
      have HJ := Lib.hid hj
      have HK := Lib.hid hkp
      clear hR hY hj hp hkp
      rw [ej]
      gi_wp2_with fail
      refine ⟨fun h => (by cases h), ?_⟩
      (with_reducible refine hR'.out.mono ?_)
      rintro e W3 ⟨v', rfl, h3⟩
      rcases h3 with ⟨rfl, hJ3, hk3⟩ | ⟨rfl, hJx3⟩
      · gi_wp2
        go_roundw
        case rel => exact ⟨k + 1, pre ++ [⟨(j, v), hjm, hv⟩], by omega, by simp; omega, by rw [places_snoc, HP.out, downs_succ, HJ.out], hJ3, HK.out.trans hk3⟩
        case measure => simp [intOf]
      · gi_wp2
        refine bodyPost_ret (results_none rfl _ _ _) rfl ?_
        exact ⟨⟨_, rfl⟩, .inr ⟨_, ⟨k + 1, by omega, by rw [places_snoc, HP.out, downs_succ, HJ.out]⟩, hJx3⟩⟩
    · have hkm : k = m := by omega
      subst hkm
      have ek : (k : Int) - 1 - (k : Int) = -1 := by omega
      have HP := Lib.hid hp
      have HJ := Lib.hid hJs
      rw [ek]
      clear hJs hp hkp hY
      gi_wp2
      go_end0
      exact ⟨⟨_, rfl⟩, .inl ⟨_, HP.out, HJ.out⟩⟩

set_option maxHeartbeats 400000 in
theorem backU_any (A : Option Addr) (m c : Nat) (w : World) :
    Calls Tryz.prog 153 #[.slice A m c] w fun e w' =>
      e = .returned (.func (.func 157) #[] #[.pointer (some ⟨w.heap.size, 0, none⟩)]) ∧ w' = w.alloc (.cells #[.slice A m c] 22) := by
  go_enter Tryz.func153, Tryz.ntmps153
  go_wp2
  go_ret
  exact ⟨rfl, rfl⟩

/-- What slices.Backward hands back. -/
theorem backU_stops (S : Nat → Prop) (V : Nat → Nat → Prop) (n Bs : Nat) (A : Option Addr) (m c : Nat) (hm : m ≤ 4294967296) (hSb : S Bs) (w : World) (hS : Bs < w.heap.size)
    (hA : ∀ b off, 0 < m → A = some ⟨b, off, none⟩ → b < w.heap.size) (hB : w.cell? ⟨Bs, 0, none⟩ = some (.slice A m c)) (hH : Has w A m V) :
    SeqStopsK Fence.wide n Tryz.prog 157 #[.pointer (some ⟨Bs, 0, none⟩)] (fun x : BkI m V => #[.int .i64 (x.1.1 : Int), u64 x.1.2]) (BkK S A m V)
      (fun ys => places ys = downs m m) (fun pre => ∃ k, k ≤ m ∧ places pre = downs m k) m w := fun l J Jx W hW hJ _ hY h0 => by
  exact backU_in S V n l Bs A m c hm hSb J Jx hY W ((hW.cell (p := ⟨Bs, 0, none⟩) hS).trans hB)
    (fun i hi => by
      obtain ⟨b, off, v, e, hv, hc⟩ := hH i hi
      exact ⟨b, off, v, e, hv, (hW.cell (p := ⟨b, off + i, none⟩) (hA b off (by omega) e)).trans hc⟩) h0
end Go.Proofs.YtgiokmfdafmaoaaGreat

/- div's calls on rows: less, double, trim. -/
namespace Go.Proofs.YtgiokmfdafmaoaaGreat
open Go.RowKit Go.Shelf
set_option linter.unusedVariables false
set_option linter.unusedSimpArgs false

/-- Nothing of what there was has turned but one block. -/
structure Only (g : Nat) (w w' : World) : Prop where
  below : Below 0 w w'
  keep : ∀ k, k < w.heap.size → k ≠ g → w'.heap[k]? = w.heap[k]?
section
variable {g : Nat} {w w' w2 : World}
theorem Only.refl (g : Nat) (w : World) : Only g w w := ⟨Below.refl _ _, fun _ _ _ => rfl⟩
theorem Only.trans (h : Only g w w') (k : Only g w' w2) : Only g w w2 := ⟨h.below.trans k.below, fun i hi hg => (k.keep i (Nat.lt_of_lt_of_le hi h.below.size) hg).trans (h.keep i hi hg)⟩
theorem Only.setCell (h : Only g w w') {p : Addr} (hp : p.block = g) (u : Value) : Only g w (w'.setCell p u) := h.trans ⟨(Below.refl _ _).setCell (Nat.zero_le _) u, fun k hk hg => Below.heap_setCell _ _ _ _ (by rw [hp]; exact hg)⟩
theorem Only.alloc (h : Only g w w') (o : Obj) : Only g w (w'.alloc o) := h.trans ⟨(Below.refl _ _).alloc (Nat.zero_le _) o, fun k hk _ => Below.heap_alloc _ _ _ hk⟩
theorem Only.of_below (g : Nat) (h : Below w.heap.size w w') : Only g w w' := ⟨h.mono (Nat.zero_le _), fun k hk _ => h.block k hk⟩
theorem Only.drew (h : Only g w w') : Only g w w'.drew := h.trans (Only.of_below _ (Below.refl _ _).drew)
theorem Only.rd (h : Only g w w') {A : Option Addr} {n : Nat} {l : List Nat} (hr : Rd w A n l) (hA : 0 < n → ∀ b off, A = some ⟨b, off, none⟩ → b ≠ g) : Rd w' A n l :=
  ⟨hr.len, hr.words, fun hn => by
    obtain ⟨b, off, e, hlt, hc⟩ := hr.cells hn
    refine ⟨b, off, e, Nat.lt_of_lt_of_le hlt h.below.size, fun i hi => ?_⟩
    exact (World.cell?_of_block (w := w) (a := ⟨b, off + i, none⟩) (h.keep b hlt (hA hn b off e))).trans (hc i hi)⟩
theorem Only.row (h : Only g w w') {k : Nat} {l : List Nat} (hr : RowL w k l) (hk : k ≠ g) : RowL w' k l := (h.keep k hr.lt hk).trans hr
theorem Only.to (h : Only g w w') {B : Nat} (hB : B ≤ g) (hB2 : B ≤ w.heap.size) : Below B w w' := ⟨h.below.os, h.below.tape, h.below.output, h.below.size, fun k hk => h.keep k (by omega) (by omega)⟩
end

theorem cell_far {w : World} {g i g2 i2 : Nat} {v : Value} (h : w.cell? ⟨g2, i2, none⟩ = some v) (hne : g2 ≠ g) (u : Value) : (w.setCell ⟨g, i, none⟩ u).cell? ⟨g2, i2, none⟩ = some v :=
  (World.cell?_of_block (w := w) (a := ⟨g2, i2, none⟩) (Below.heap_setCell _ _ _ _ hne)).trans h
/-! ### A row in three parts -/
theorem lim_mid {P T R : List Nat} {i j : Nat} (hP : P.length = i) (hj : j < T.length) : lim (P ++ T ++ R) (i + j) = lim T j := by
  subst hP
  simp only [lim, List.getD_eq_getElem?_getD, List.append_assoc]
  rw [List.getElem?_append_right (by omega), Nat.add_sub_cancel_left, List.getElem?_append_left hj]
theorem set_mid {P T R : List Nat} {i j : Nat} (hP : P.length = i) (hj : j < T.length) (v : Nat) : (P ++ T ++ R).set (i + j) v = P ++ T.set j v ++ R := by
  subst hP
  rw [List.append_assoc, List.set_append_right _ _ (by omega), Nat.add_sub_cancel_left, List.set_append_left _ _ hj, List.append_assoc]

theorem val_set_take {T : List Nat} {j : Nat} (hj : j < T.length) (v : Nat) : val ((T.set j v).take (j + 1)) = val (T.take j) + B64 ^ j * v := by
  rw [val_take_succ, lim_set hj, if_pos rfl, List.take_set_of_le (Nat.le_refl _)]
theorem lim_set_far {T : List Nat} {j k : Nat} (h : k ≠ j) (v : Nat) : lim (T.set j v) k = lim T k := by
  simp only [lim, List.getD_eq_getElem?_getD, List.getElem?_set]
  rw [if_neg (by omega)]

set_option maxRecDepth 100000 in
set_option maxHeartbeats 2000000 in
/-- div.less. -/
theorem less_any (g i M C : Nat) (P T R : List Nat) (A : Option Addr) (nb cb : Nat) (b : List Nat) (w : World) (hrow : RowL w g (P ++ T ++ R)) (hP : P.length = i) (hT : T.length = nb) (hM : nb ≤ M) (hN : M ≤ 4294967296) (hw : Words T)
    (hrb : Rd w A nb b) (hA : 0 < nb → ∀ b0 off, A = some ⟨b0, off, none⟩ → b0 ≠ g) :
    Calls Tryz.prog 154 #[.slice (some ⟨g, i, none⟩) M C, .slice A nb cb] w fun e w' => ∃ T2 s, e = .returned (u64 s) ∧ s ≤ 1 ∧ RowL w' g (P ++ T2 ++ R) ∧ T2.length = nb ∧ Words T2 ∧ val T2 + val b = val T + B64 ^ nb * s ∧ Only g w w' := by
  go_enter Tryz.func154, Tryz.ntmps154
  go_wp2
  go_loopw [4, 9] (fun o i2 wr => ∃ (j s : Nat) (T2 : List Nat), j ≤ nb ∧ i2 = .int .i64 (j : Int) ∧ o = u64 s ∧ s ≤ 1 ∧ RowL wr g (P ++ T2 ++ R) ∧ T2.length = nb ∧ Words T2 ∧ val (T2.take j) + val (b.take j) = val (T.take j) + B64 ^ j * s ∧ (∀ k, j ≤ k → lim T2 k = lim T k) ∧ Only g w wr) (fun _ i2 _ => nb - (intOf i2).toNat)
  case atStart => exact ⟨0, 0, T, by omega, rfl, rfl, by omega, hrow, hT, hw, by simp [val], fun _ _ => rfl, Only.refl _ _⟩
  case round =>
    obtain ⟨j, s, T2, hj, rfl, rfl, hs, hrow2, hlen, hw2, hval, hsame, hkp⟩ := hrel
    by_cases hlt : j < nb
    · obtain ⟨b1, o1, rfl, _, hc1⟩ := (hkp.rd hrb hA).cells (by omega)
      have hcb := hc1 j hlt
      have hcu : wr.cell? ⟨g, i + j, none⟩ = some (u64 (lim T j)) := by
        rw [← hsame j (Nat.le_refl _), ← lim_mid (R := R) hP (by omega)]
        exact hrow2.cell (by simp; omega)
      have hfu : wr.frozen? ⟨g, i + j, none⟩ = false := hrow2.frozen _
      have hyb := hrb.words.get j
      have hxb := hw.get j
      obtain ⟨x, hx⟩ : ∃ x, lim T j = x := ⟨_, rfl⟩
      obtain ⟨y, hy⟩ : ∃ y, lim b j = y := ⟨_, rfl⟩
      have hst := fun t c2 => sub_step (x := x) (y := y) (z := t) (d := c2) hval
      have hvt := val_take_succ T j
      have hvb := val_take_succ b j
      rw [hx] at hcu hxb hvt
      rw [hy] at hcb hyb hvb
      have hd := howSub_digit x y s hxb hyb hs
      have r1 := fun W => joiner_sub.run x y s hxb hyb hs W
      have hlb := joiner_sub.limb x y s hxb hyb hs
      have hov := joiner_sub.over x y s hxb hyb hs
      obtain ⟨t, ht⟩ : ∃ t, (howSub x y s).1 = t := ⟨_, rfl⟩
      obtain ⟨c2, hc2⟩ : ∃ c2, (howSub x y s).2 = c2 := ⟨_, rfl⟩
      rw [ht] at hd hlb
      rw [hc2] at hd hov
      simp only [ht, hc2] at r1
      have HST := Lib.hid (hst t c2 hd)
      have HROW := Lib.hid hrow2
      have HSM := Lib.hid hsame
      have HKP := Lib.hid hkp
      have HVT := Lib.hid hvt
      have HVB := Lib.hid hvb
      have HW := Lib.hid hw2
      have hne : ¬ (M ≤ j) := by omega
      clear hst hrow2 hsame hkp hc1 hvt hvb hw2 hrow hval hx hy hd ht hc2 hw
      go_wp2
      go_roundw
      case rel =>
        refine ⟨j + 1, c2, T2.set j t, by omega, by go_num, rfl, hov, ?_, by simp [hlen], words_set HW.out hlb, ?_, fun k hk => ?_, HKP.out.setCell (p := ⟨g, i + j, none⟩) rfl _⟩
        · rw [← set_mid (R := R) hP (by omega)]
          exact HROW.out.set _ _
        · rw [val_set_take (by omega), HVB.out, HVT.out, Nat.pow_succ]
          exact HST.out
        · rw [lim_set_far (by omega)]
          exact HSM.out k (by omega)
      case measure => simp [intOf]; omega
    · have hjn : j = nb := by omega
      subst hjn
      rw [val_take_all (by omega), val_take_all (by rw [hrb.len]; omega), val_take_all (by omega)] at hval
      have HROW := Lib.hid hrow2
      have HV := Lib.hid hval
      have HKP := Lib.hid hkp
      clear hrow2 hval hsame hkp hrow
      go_wp2
      go_ret
      exact ⟨T2, s, rfl, hs, HROW.out, hlen, hw2, HV.out, HKP.out⟩

theorem dbl_step {T T2 : List Nat} {j x over bit t : Nat} (h : val (T2.take j) + B64 ^ j * over = 2 * val (T.take j) + bit) (hx : lim T j = x) (ht : t + B64 * (x / 2 ^ 63) = 2 * x + over) :
    val (T2.take j) + B64 ^ j * t + B64 ^ (j + 1) * (x / 2 ^ 63) = 2 * (val (T.take j) + B64 ^ j * x) + bit := by
  have e : B64 ^ j * (t + B64 * (x / 2 ^ 63)) = B64 ^ j * (2 * x + over) := by rw [ht]
  rw [Nat.mul_add, Nat.mul_add, ← Nat.mul_assoc, Nat.mul_left_comm (B64 ^ j) 2 x] at e
  rw [show B64 ^ (j + 1) = B64 ^ j * B64 from Nat.pow_succ ..]
  omega
theorem dbl_word {x over : Nat} (hx : x < B64) (ho : over ≤ 1) : bits .or .u64 (IntKind.u64.wrap ((x : Int) * 2)) (over : Int) = ((over + x * 2 % B64 : Nat) : Int) ∧ (over + x * 2 % B64) + B64 * (x / 2 ^ 63) = 2 * x + over ∧ over + x * 2 % B64 < B64 := by
  have e : IntKind.u64.wrap ((x : Int) * 2) = ((x * 2 % B64 : Nat) : Int) := by
    rw [show (x : Int) * 2 = ((x * 2 : Nat) : Int) by omega, u64_wrap_nat]
  have ho2 := or_shl (x := x) (y := over) (r := 1) (by omega) (by omega)
  rw [Nat.pow_one] at ho2
  have h3 : over + x * 2 % B64 < B64 := by rw [B64_eq] at *; omega
  have h4 : over < B64 := by rw [B64_eq]; omega
  have h5 := bits_or_u64_nat (x * 2 % B64) over (Nat.mod_lt _ B64_pos) h4
  refine ⟨?_, ?_, h3⟩
  · rw [e, h5, Nat.or_comm, ho2]
  · rw [B64_eq] at *
    omega

set_option maxHeartbeats 400000 in
/-- div.trim: a slice cut behind its last limb that is not 0. -/
theorem trimD_any (A : Option Addr) (n c : Nat) (l : List Nat) (w : World) (h : Rd w A n l) (hc0 : n ≤ c) (hc1 : c ≤ 9223372036854775807) :
    Calls Tryz.prog 132 #[.slice A n c] w fun e w' => (∃ k, k ≤ n ∧ e = .returned (.slice A k c) ∧ l.take k = limbs (val l)) ∧ w' = w := by
  go_enter Tryz.func132, Tryz.ntmps132
  go_wp2
  go_loop [3] (fun i => ∃ k : Nat, k ≤ n ∧ i = .int .i64 (k : Int) ∧ ∀ j, k ≤ j → lim l j = 0) (fun i => (intOf i).toNat)
  case atStart => exact ⟨n, Nat.le_refl _, rfl, fun j hj => lim_past (by rw [h.len]; omega)⟩
  case round =>
    obtain ⟨k, hk, rfl, hz⟩ := hrel
    by_cases h0 : k = 0
    · subst h0
      have ht : l.take 0 = limbs (val l) := take_limbs h.words (by omega) (fun h => absurd rfl h) hz
      have HT : Hid (l.take 0 = limbs (val l)) := ht
      clear ht hz h
      go_wp2
      go_ret
      exact ⟨⟨0, by omega, rfl, HT.out⟩, rfl⟩
    · obtain ⟨b, off, rfl, hb, hc⟩ := h.cells (by omega)
      have hci := hc (k - 1) (by omega)
      clear hc
      obtain ⟨j, rfl⟩ : ∃ j, k = j + 1 := ⟨k - 1, by omega⟩
      simp only [Nat.add_sub_cancel] at hci
      by_cases hx : lim l j = 0
      · rw [hx] at hci
        have HX : Hid (lim l j = 0) := hx
        have HZ := Lib.hid hz
        have HH := Lib.hid h
        clear hx hz h
        go_wp2
        go_round
        case rel => exact ⟨j, by omega, by go_num, fun i hi => by
          rcases Nat.eq_or_lt_of_le hi with rfl | hi
          · exact HX.out
          · exact HZ.out i hi⟩
        case measure => simp [intOf]
      · have ht : l.take (j + 1) = limbs (val l) := take_limbs h.words (by rw [h.len]; omega) (fun _ => hx) hz
        have HT : Hid (l.take (j + 1) = limbs (val l)) := ht
        have hne : ((lim l j : Int) == 0) = false := by simp; omega
        clear ht hz h hx
        go_wp2
        go_ret
        exact ⟨⟨j + 1, by omega, rfl, HT.out⟩, rfl⟩


/-! ### The divisor: a struct of two slices -/
/-- What is divided by, and the room for a product. -/
def dvs (AB : Option Addr) (nb cb : Nat) (gm cm : Nat) : Value := .agg #[.slice AB nb cb, .slice (some ⟨gm, 0, none⟩) nb cm]
theorem times_word {x y over h l s c1 : Nat} (hx : x < B64) (hy : y < B64) (ho : over < B64) (hh : x * y / B64 = h) (hl : x * y % B64 = l) (hs : (l + over) % B64 = s) (h1 : (l + over) / B64 = c1) :
    s + B64 * (h + c1) = x * y + over ∧ h + c1 < B64 ∧ l < B64 ∧ s < B64 := by
  have e1 := Nat.mod_add_div (x * y) B64
  have e2 := Nat.mod_add_div (l + over) B64
  have e3 := two_words (m := 0) hx hy B64_pos ho
  rw [hh, hl] at e1
  rw [hs, h1] at e2
  have e : s + B64 * (h + c1) = x * y + over := by rw [Nat.mul_add]; omega
  refine ⟨e, ?_, by rw [← hl]; exact Nat.mod_lt _ B64_pos, by rw [← hs]; exact Nat.mod_lt _ B64_pos⟩
  refine Nat.lt_of_mul_lt_mul_left (a := B64) ?_
  omega
theorem times_step {T2 b : List Nat} {j x y over s next : Nat} (h : val (T2.take j) + B64 ^ j * over = x * val (b.take j)) (hy : lim b j = y) (hs : s + B64 * next = y * x + over) :
    val (T2.take j) + B64 ^ j * s + B64 ^ (j + 1) * next = x * (val (b.take j) + B64 ^ j * y) := by
  have e : B64 ^ j * (s + B64 * next) = B64 ^ j * (y * x + over) := by rw [hs]
  rw [Nat.mul_add, Nat.mul_add, ← Nat.mul_assoc] at e
  rw [show B64 ^ (j + 1) = B64 ^ j * B64 from Nat.pow_succ .., Nat.mul_add, ← h, Nat.mul_left_comm x, Nat.mul_comm x y]
  omega

set_option maxRecDepth 100000 in
set_option maxHeartbeats 2000000 in
/-- (div.divisor).times. -/
theorem timesD_any (AB : Option Addr) (nb cb gm cm x : Nat) (b T : List Nat) (w : World) (hrow : RowL w gm T) (hT : T.length = nb) (hn : nb ≤ 4294967296) (hw : Words T) (hx : x < B64)
    (hrb : Rd w AB nb b) (hA : 0 < nb → ∀ b0 off, AB = some ⟨b0, off, none⟩ → b0 ≠ gm) :
    Calls Tryz.prog 152 #[dvs AB nb cb gm cm, u64 x] w fun e w' => ∃ v T2 over, e = .returned v ∧ RowL w' gm T2 ∧ T2.length = nb ∧ Words T2 ∧ val T2 + B64 ^ nb * over = x * val b ∧ Only gm w w' := by
  unfold dvs
  have hgl := hrow.lt
  have hc0 : (w.alloc (.cells #[.slice AB nb cb, .slice (some ⟨gm, 0, none⟩) nb cm] 150)).cell? ⟨w.heap.size, 1, none⟩ = some (.slice (some ⟨gm, 0, none⟩) nb cm) := by simp
  go_enter Tryz.func152, Tryz.ntmps152
  go_wp2
  have hO := (Only.refl gm w).alloc (.cells #[.slice AB nb cb, .slice (some ⟨gm, 0, none⟩) nb cm] 150)
  have hr1 := hrow.alloc (.cells #[.slice AB nb cb, .slice (some ⟨gm, 0, none⟩) nb cm] 150)
  generalize w.alloc (.cells #[.slice AB nb cb, .slice (some ⟨gm, 0, none⟩) nb cm] 150) = w1 at *
  go_loopw [4, 14] (fun o i2 wr => ∃ (j over : Nat) (T2 : List Nat), j ≤ nb ∧ i2 = .int .i64 (j : Int) ∧ o = u64 over ∧ over < B64 ∧ RowL wr gm T2 ∧ T2.length = nb ∧ Words T2 ∧ val (T2.take j) + B64 ^ j * over = x * val (b.take j) ∧ wr.cell? ⟨w.heap.size, 1, none⟩ = some (.slice (some ⟨gm, 0, none⟩) nb cm) ∧ Only gm w wr) (fun _ i2 _ => nb - (intOf i2).toNat)
  case atStart => exact ⟨0, 0, T, by omega, rfl, rfl, B64_pos, hr1, hT, hw, by simp [val], hc0, hO⟩
  case round =>
    obtain ⟨j, over, T2, hj, rfl, rfl, ho, hrow2, hlen, hw2, hval, hbox, hkp⟩ := hrel
    by_cases hlt : j < nb
    · obtain ⟨b1, o1, rfl, _, hc1⟩ := (hkp.rd hrb hA).cells (by omega)
      have hcb := hc1 j hlt
      have hfu : wr.frozen? ⟨gm, j, none⟩ = false := hrow2.frozen _
      have hcu : wr.cell? ⟨gm, j, none⟩ = some (u64 (lim T2 j)) := hrow2.cell (by omega)
      have hyb := hrb.words.get j
      obtain ⟨y, hy⟩ : ∃ y, lim b j = y := ⟨_, rfl⟩
      have hvb := val_take_succ b j
      rw [hy] at hcb hyb hvb
      obtain ⟨h, hh⟩ : ∃ h, y * x / B64 = h := ⟨_, rfl⟩
      obtain ⟨l, hl⟩ : ∃ l, y * x % B64 = l := ⟨_, rfl⟩
      obtain ⟨s, hs⟩ : ∃ s, (l + over) % B64 = s := ⟨_, rfl⟩
      obtain ⟨c1, h1⟩ : ∃ c1, (l + over) / B64 = c1 := ⟨_, rfl⟩
      obtain ⟨k1, k2, k3, k4⟩ := times_word hyb hx ho hh hl hs h1
      have hst := times_step hval hy k1
      have r1 := fun W => add64_two l over k3 ho W
      rw [hs, h1] at r1
      have f1 := u64_add_fits (x := h) (y := c1) k2
      have HST := Lib.hid hst
      have HROW := Lib.hid hrow2
      have HKP := Lib.hid hkp
      have HW := Lib.hid hw2
      have HBX := Lib.hid hbox
      have HVB := Lib.hid hvb
      have HH := Lib.hid hh
      have HL := Lib.hid hl
      have hgl1 : gm ≠ w.heap.size := by omega
      clear hst hrow2 hkp hc1 hvb hw2 hrow hval hy hs h1 k1 hw hc0 hr1 hh hl
      go_wp2_with (go_at_call 156; refine (mul64_any y x hyb hx _).mono ?_; rw [HH.out, HL.out]; rintro e w1 ⟨rfl, rfl⟩)
      go_roundw
      case rel =>
        refine ⟨j + 1, h + c1, T2.set j s, by omega, by go_num, by go_num, k2, HROW.out.set _ _, by simp [hlen], words_set HW.out k4, ?_, ?_, HKP.out.setCell (p := ⟨gm, j, none⟩) rfl _⟩
        · rw [val_set_take (by omega), HVB.out]
          exact HST.out
        · exact cell_far HBX.out (Ne.symm hgl1) _
      case measure => simp [intOf]; omega
    · have hjn : j = nb := by omega
      subst hjn
      rw [val_take_all (by omega), val_take_all (by rw [hrb.len]; omega)] at hval
      have HROW := Lib.hid hrow2
      have HV := Lib.hid hval
      have HKP := Lib.hid hkp
      clear hrow2 hval hkp hrow
      go_wp2
      go_end0
      exact ⟨_, T2, over, rfl, HROW.out, hlen, hw2, HV.out, HKP.out⟩

/-- The guess of a limb of the quotient. -/
def guessN (hi lo y : Nat) : Nat := if y ≤ hi then 18446744073709551615 else (hi * B64 + lo) / y

set_option maxRecDepth 100000 in
set_option maxHeartbeats 2000000 in
/-- (div.divisor).guess. -/
theorem guess_any (AB A : Option Addr) (nb cb gm cm c : Nat) (b l : List Nat) (w : World) (hrb : Rd w AB nb b) (hrl : Rd w A nb l) (h2 : 2 ≤ nb) (hn : nb ≤ 4294967296) :
    Calls Tryz.prog 151 #[dvs AB nb cb gm cm, .slice A nb c] w fun e w' => e = .returned (u64 (guessN (lim l (nb - 1)) (lim l (nb - 2)) (lim b (nb - 2)))) ∧ Below w.heap.size w w' := by
  unfold dvs
  have hb0 := hrb.alloc (.cells #[.slice AB nb cb, .slice (some ⟨gm, 0, none⟩) nb cm] 150)
  have hl0 := hrl.alloc (.cells #[.slice AB nb cb, .slice (some ⟨gm, 0, none⟩) nb cm] 150)
  obtain ⟨b1, o1, rfl, _, hc1⟩ := hb0.cells (by omega)
  obtain ⟨b2, o2, rfl, _, hc2⟩ := hl0.cells (by omega)
  have c1 := hc1 (nb - 2) (by omega)
  have c2 := hc2 (nb - 2) (by omega)
  have c3 := hc2 (nb - 1) (by omega)
  have hy := hrb.words.get (nb - 2)
  have hl := hrl.words.get (nb - 2)
  generalize lim b (nb - 2) = y at *
  generalize lim l (nb - 2) = lo at *
  generalize lim l (nb - 1) = hi at *
  obtain ⟨n, rfl⟩ : ∃ n, nb = n + 2 := ⟨nb - 2, by omega⟩
  have e1 : n + 2 - 1 = n + 1 := rfl
  rw [e1] at c3
  rw [Nat.add_sub_cancel] at c1 c2
  clear hc1 hc2 hb0 hl0 hrb hrl e1
  by_cases hle : y ≤ hi
  · have hg : guessN hi lo y = 18446744073709551615 := if_pos hle
    have HG := Lib.hid hg
    have hd : decide ((y : Int) ≤ (hi : Int)) = true := int_le_true hle
    clear hg hy hl
    go_enter Tryz.func151, Tryz.ntmps151
    go_wp2
    go_ret
    exact ⟨by rw [HG.out]; rfl, (Below.refl _ w).alloc (Nat.le_refl _) _⟩
  · have hg : guessN hi lo y = (hi * B64 + lo) / y := if_neg hle
    have HG := Lib.hid hg
    have hd : decide ((y : Int) ≤ (hi : Int)) = false := by simp; omega
    have HY := Lib.hid hy
    have HL := Lib.hid hl
    clear hg hy hl
    go_enter Tryz.func151, Tryz.ntmps151
    go_wp2
    go_quiet ((go_at_call 131; exact Calls.quiet_of (div64_any hi lo y HL.out HY.out (by omega) _)))
    go_wp2
    go_ret
    rw [HG.out]
    exact ⟨rfl, below_drewN ((Below.refl _ w).alloc (Nat.le_refl _) _) _⟩
end Go.Proofs.YtgiokmfdafmaoaaGreat
