import Derived.Test.YtoehkaagfokamaaGreatDoorZRowL
import Derived.Test.YtoehkaagfokamaaGreatDoorZPairs
/- Back. -/
/- slices.Backward: what it hands back goes through a slice from its end, whatever a round does that keeps the blocks of S, and what the cells may be. -/
namespace Go.Proofs.YtoehkaagfokamaaGreatDoor
open Go.RowKit Go.Shelf
attribute [local go_sem] Oper.semAt_some
set_option linter.unusedVariables false
set_option linter.unusedSimpArgs false

/-- A place of a slice, and what lies there. -/
abbrev BkI (m : Nat) (V : Nat → Nat → Prop) := { p : Nat × Nat // p.1 < m ∧ V p.1 p.2 }
/-- The first k places from the end. -/
def downs (m k : Nat) : List Nat := (List.range k).map fun i => m - 1 - i
theorem downs_succ (m k : Nat) : downs m (k + 1) = downs m k ++ [m - 1 - k] := by simp [downs, List.range_succ]
theorem downs_length (m k : Nat) : (downs m k).length = k := by simp [downs]
def places {m : Nat} {V : Nat → Nat → Prop} (l : List (BkI m V)) : List Nat := l.map fun x => x.1.1
theorem places_snoc {m : Nat} {V : Nat → Nat → Prop} (l : List (BkI m V)) (x : BkI m V) : places (l ++ [x]) = places l ++ [x.1.1] := by simp [places]
theorem places_length {m : Nat} {V : Nat → Nat → Prop} (l : List (BkI m V)) : (places l).length = l.length := by simp [places]
/-- What the cells may be. -/
def Has (W : World) (A : Option Addr) (m : Nat) (V : Nat → Nat → Prop) : Prop := ∀ i, i < m → ∃ b off v, A = some ⟨b, off, none⟩ ∧ V i v ∧ W.cell? ⟨b, off + i, none⟩ = some (u64 v)
def BkK (S : Nat → Prop) (A : Option Addr) (m : Nat) (V : Nat → Nat → Prop) (W W' : World) : Prop := KeepsOf S W W' ∧ (Has W A m V → Has W' A m V)
theorem BkK.trans {S : Nat → Prop} {A : Option Addr} {m : Nat} {V : Nat → Nat → Prop} {X Y Z : World} (h : BkK S A m V X Y) (k : BkK S A m V Y Z) : BkK S A m V X Z := ⟨h.1.trans k.1, fun hh => k.2 (h.2 hh)⟩
theorem BkK.refl {S : Nat → Prop} {A : Option Addr} {m : Nat} {V : Nat → Nat → Prop} (X : World) : BkK S A m V X X := ⟨KeepsOf.refl _, id⟩
theorem has_rd {W : World} {A : Option Addr} {m : Nat} {l : List Nat} (h : Rd W A m l) : Has W A m (fun i v => v = lim l i) := fun i hi => by
  obtain ⟨b, off, e, _, hc⟩ := h.cells (by omega)
  exact ⟨b, off, _, e, rfl, hc i hi⟩
theorem has_keeps {S : Nat → Prop} {W W' : World} {A : Option Addr} {m : Nat} {V : Nat → Nat → Prop} (hk : KeepsOf S W W') (hA : 0 < m → ∀ b off, A = some ⟨b, off, none⟩ → S b) (h : Has W A m V) : Has W' A m V := fun i hi => by
  obtain ⟨b, off, v, e, hv, hc⟩ := h i hi
  exact ⟨b, off, v, e, hv, (hk.cell (p := ⟨b, off + i, none⟩) (hA (by omega) b off e)).trans hc⟩
/-- How a round has ended: it goes on (true), or not. -/
def WentK (K : World → World → Prop) (J Jx : World → Prop) (W : World) (v : Bool) (W' : World) : Prop := (v = true ∧ J W' ∧ K W W') ∨ (v = false ∧ Jx W')

set_option maxRecDepth 100000 in
set_option maxHeartbeats 2000000 in
theorem backN_in (S : Nat → Prop) (V : Nat → Nat → Prop) (n l Bs : Nat) (A : Option Addr) (m c : Nat) (hm : m ≤ 4294967296) (hSb : S Bs) (J Jx : List (BkI m V) → World → Prop)
    (hY : ∀ pre x W, J pre W → pre.length < m → YieldAt Fence.wide (n - 1) Tryz.prog l #[.int .i64 (x.1.1 : Int), u64 x.1.2] W fun e W' =>
      (e = .returned (.bool true) ∧ J (pre ++ [x]) W' ∧ BkK S A m V W W') ∨ (e = .returned (.bool false) ∧ Jx (pre ++ [x]) W'))
    (W : World) (hB : W.cell? ⟨Bs, 0, none⟩ = some (.slice A m c)) (hH : Has W A m V) (h0 : J [] W) :
    CallsIn Fence.wide n Tryz.prog 91 #[.func (.yield l) #[] #[], .pointer (some ⟨Bs, 0, none⟩)] W fun e W' => (∃ v, e = .returned v) ∧
      ((∃ ys, places ys = downs m m ∧ J ys W') ∨ (∃ pre, (∃ k, k ≤ m ∧ places pre = downs m k) ∧ Jx pre W')) := by
  refine callsIn_of_wp Tryz.func91 rfl trivial ?_ rfl
  simp only [Tryz.ntmps91, List.size_toArray, List.length_cons, List.length_nil, Nat.reduceAdd, Nat.reduceSub, Array.replicate_succ, Array.replicate_zero, List.push_toArray, List.append_toArray, List.nil_append, List.cons_append]
  gi_wp2
  gi_loopw [3] (fun i wr => ∃ (k : Nat) (pre : List (BkI m V)), k ≤ m ∧ i = .int .i64 ((m : Int) - 1 - (k : Int)) ∧ places pre = downs m k ∧ J pre wr ∧ BkK S A m V W wr) (fun i _ => (intOf i + 1).toNat)
  case atStart => exact ⟨0, [], Nat.zero_le _, by simp, rfl, h0, BkK.refl _⟩
  case round =>
    obtain ⟨k, pre, hk, rfl, hp, hJs, hkp⟩ := hrel
    by_cases hlt : k < m
    · obtain ⟨b, off, v, rfl, hv, hc⟩ := hkp.2 hH (m - 1 - k) (by omega)
      have hca : wr.cell? ⟨Bs, 0, none⟩ = some (.slice (some ⟨b, off, none⟩) m c) := (hkp.1.cell (p := ⟨Bs, 0, none⟩) hSb).trans hB
      obtain ⟨j, hj⟩ : ∃ j, m - 1 - k = j := ⟨_, rfl⟩
      rw [hj] at hc hv
      have hjm : j < m := by omega
      have ej : (m : Int) - 1 - (k : Int) = (j : Int) := by omega
      obtain ⟨fn, tmps, assign, body, hy, hR⟩ := hY pre ⟨(j, v), hjm, hv⟩ wr hJs (by rw [← places_length, hp, downs_length]; exact hlt)
      dsimp only at hy hR
      have hR' := Lib.hid (hR.mono (R' := fun e W' => ∃ v', e = .returned (.bool v') ∧ WentK (BkK S (some ⟨b, off, none⟩) m V) (J (pre ++ [⟨(j, v), hjm, hv⟩])) (Jx (pre ++ [⟨(j, v), hjm, hv⟩])) wr v' W') (by
        rintro e W' (⟨rfl, h⟩ | ⟨rfl, h⟩)
        · exact ⟨true, rfl, .inl ⟨rfl, h⟩⟩
        · exact ⟨false, rfl, .inr ⟨rfl, h⟩⟩))
      have HP := Lib.hid hp
      have HJ := Lib.hid hj
      have HK := Lib.hid hkp
      clear hR hY hj hp hkp
      rw [ej]
      gi_wp2_with fail
      refine ⟨fun h => (by cases h), ?_⟩
      (with_reducible refine hR'.out.mono ?_)
      rintro e W3 ⟨v', rfl, h3⟩
      rcases h3 with ⟨rfl, hJ3, hk3⟩ | ⟨rfl, hJx3⟩
      · gi_wp2
        go_roundw
        case rel => exact ⟨k + 1, pre ++ [⟨(j, v), hjm, hv⟩], by omega, by simp; omega, by rw [places_snoc, HP.out, downs_succ, HJ.out], hJ3, HK.out.trans hk3⟩
        case measure => simp [intOf]
      · gi_wp2
        refine bodyPost_ret (results_none rfl _ _ _) rfl ?_
        exact ⟨⟨_, rfl⟩, .inr ⟨_, ⟨k + 1, by omega, by rw [places_snoc, HP.out, downs_succ, HJ.out]⟩, hJx3⟩⟩
    · have hkm : k = m := by omega
      subst hkm
      have ek : (k : Int) - 1 - (k : Int) = -1 := by omega
      have HP := Lib.hid hp
      have HJ := Lib.hid hJs
      rw [ek]
      clear hJs hp hkp hY
      gi_wp2
      go_end0
      exact ⟨⟨_, rfl⟩, .inl ⟨_, HP.out, HJ.out⟩⟩

set_option maxHeartbeats 400000 in
theorem backN_any (A : Option Addr) (m c : Nat) (w : World) :
    Calls Tryz.prog 72 #[.slice A m c] w fun e w' =>
      e = .returned (.func (.func 91) #[] #[.pointer (some ⟨w.heap.size, 0, none⟩)]) ∧ w' = w.alloc (.cells #[.slice A m c] 26) := by
  go_enter Tryz.func72, Tryz.ntmps72
  go_wp2
  go_ret
  exact ⟨rfl, rfl⟩

/-- What slices.Backward hands back. -/
theorem backN_stops (S : Nat → Prop) (V : Nat → Nat → Prop) (n Bs : Nat) (A : Option Addr) (m c : Nat) (hm : m ≤ 4294967296) (hSb : S Bs) (w : World) (hS : Bs < w.heap.size)
    (hA : ∀ b off, 0 < m → A = some ⟨b, off, none⟩ → b < w.heap.size) (hB : w.cell? ⟨Bs, 0, none⟩ = some (.slice A m c)) (hH : Has w A m V) :
    SeqStopsK Fence.wide n Tryz.prog 91 #[.pointer (some ⟨Bs, 0, none⟩)] (fun x : BkI m V => #[.int .i64 (x.1.1 : Int), u64 x.1.2]) (BkK S A m V)
      (fun ys => places ys = downs m m) (fun pre => ∃ k, k ≤ m ∧ places pre = downs m k) m w := fun l J Jx W hW hJ _ hY h0 => by
  exact backN_in S V n l Bs A m c hm hSb J Jx hY W ((hW.cell (p := ⟨Bs, 0, none⟩) hS).trans hB)
    (fun i hi => by
      obtain ⟨b, off, v, e, hv, hc⟩ := hH i hi
      exact ⟨b, off, v, e, hv, (hW.cell (p := ⟨b, off + i, none⟩) (hA b off (by omega) e)).trans hc⟩) h0

set_option maxRecDepth 100000 in
set_option maxHeartbeats 2000000 in
theorem backU_in (S : Nat → Prop) (V : Nat → Nat → Prop) (n l Bs : Nat) (A : Option Addr) (m c : Nat) (hm : m ≤ 4294967296) (hSb : S Bs) (J Jx : List (BkI m V) → World → Prop)
    (hY : ∀ pre x W, J pre W → pre.length < m → YieldAt Fence.wide (n - 1) Tryz.prog l #[.int .i64 (x.1.1 : Int), u64 x.1.2] W fun e W' =>
      (e = .returned (.bool true) ∧ J (pre ++ [x]) W' ∧ BkK S A m V W W') ∨ (e = .returned (.bool false) ∧ Jx (pre ++ [x]) W'))
    (W : World) (hB : W.cell? ⟨Bs, 0, none⟩ = some (.slice A m c)) (hH : Has W A m V) (h0 : J [] W) :
    CallsIn Fence.wide n Tryz.prog 131 #[.func (.yield l) #[] #[], .pointer (some ⟨Bs, 0, none⟩)] W fun e W' => (∃ v, e = .returned v) ∧
      ((∃ ys, places ys = downs m m ∧ J ys W') ∨ (∃ pre, (∃ k, k ≤ m ∧ places pre = downs m k) ∧ Jx pre W')) := by
  refine callsIn_of_wp Tryz.func131 rfl trivial ?_ rfl
  simp only [Tryz.ntmps131, List.size_toArray, List.length_cons, List.length_nil, Nat.reduceAdd, Nat.reduceSub, Array.replicate_succ, Array.replicate_zero, List.push_toArray, List.append_toArray, List.nil_append, List.cons_append]
  gi_wp2
  gi_loopw [3] (fun i wr => ∃ (k : Nat) (pre : List (BkI m V)), k ≤ m ∧ i = .int .i64 ((m : Int) - 1 - (k : Int)) ∧ places pre = downs m k ∧ J pre wr ∧ BkK S A m V W wr) (fun i _ => (intOf i + 1).toNat)
  case atStart => exact ⟨0, [], Nat.zero_le _, by simp, rfl, h0, BkK.refl _⟩
  case round =>
    obtain ⟨k, pre, hk, rfl, hp, hJs, hkp⟩ := hrel
    by_cases hlt : k < m
    · obtain ⟨b, off, v, rfl, hv, hc⟩ := hkp.2 hH (m - 1 - k) (by omega)
      have hca : wr.cell? ⟨Bs, 0, none⟩ = some (.slice (some ⟨b, off, none⟩) m c) := (hkp.1.cell (p := ⟨Bs, 0, none⟩) hSb).trans hB
      obtain ⟨j, hj⟩ : ∃ j, m - 1 - k = j := ⟨_, rfl⟩
      rw [hj] at hc hv
      have hjm : j < m := by omega
      have ej : (m : Int) - 1 - (k : Int) = (j : Int) := by omega
      obtain ⟨fn, tmps, assign, body, hy, hR⟩ := hY pre ⟨(j, v), hjm, hv⟩ wr hJs (by rw [← places_length, hp, downs_length]; exact hlt)
      dsimp only at hy hR
      have hR' := Lib.hid (hR.mono (R' := fun e W' => ∃ v', e = .returned (.bool v') ∧ WentK (BkK S (some ⟨b, off, none⟩) m V) (J (pre ++ [⟨(j, v), hjm, hv⟩])) (Jx (pre ++ [⟨(j, v), hjm, hv⟩])) wr v' W') (by
        rintro e W' (⟨rfl, h⟩ | ⟨rfl, h⟩)
        · exact ⟨true, rfl, .inl ⟨rfl, h⟩⟩
        · exact ⟨false, rfl, .inr ⟨rfl, h⟩⟩))
      have HP := Lib.hid hp
      have HJ := Lib.hid hj
      have HK := Lib.hid hkp
      clear hR hY hj hp hkp
      rw [ej]
      gi_wp2_with fail
      refine ⟨fun h => (by cases h), ?_⟩
      (with_reducible refine hR'.out.mono ?_)
      rintro e W3 ⟨v', rfl, h3⟩
      rcases h3 with ⟨rfl, hJ3, hk3⟩ | ⟨rfl, hJx3⟩
      · gi_wp2
        go_roundw
        case rel => exact ⟨k + 1, pre ++ [⟨(j, v), hjm, hv⟩], by omega, by simp; omega, by rw [places_snoc, HP.out, downs_succ, HJ.out], hJ3, HK.out.trans hk3⟩
        case measure => simp [intOf]
      · gi_wp2
        refine bodyPost_ret (results_none rfl _ _ _) rfl ?_
        exact ⟨⟨_, rfl⟩, .inr ⟨_, ⟨k + 1, by omega, by rw [places_snoc, HP.out, downs_succ, HJ.out]⟩, hJx3⟩⟩
    · have hkm : k = m := by omega
      subst hkm
      have ek : (k : Int) - 1 - (k : Int) = -1 := by omega
      have HP := Lib.hid hp
      have HJ := Lib.hid hJs
      rw [ek]
      clear hJs hp hkp hY
      gi_wp2
      go_end0
      exact ⟨⟨_, rfl⟩, .inl ⟨_, HP.out, HJ.out⟩⟩

set_option maxHeartbeats 400000 in
theorem backU_any (A : Option Addr) (m c : Nat) (w : World) :
    Calls Tryz.prog 123 #[.slice A m c] w fun e w' =>
      e = .returned (.func (.func 131) #[] #[.pointer (some ⟨w.heap.size, 0, none⟩)]) ∧ w' = w.alloc (.cells #[.slice A m c] 25) := by
  go_enter Tryz.func123, Tryz.ntmps123
  go_wp2
  go_ret
  exact ⟨rfl, rfl⟩

/-- What slices.Backward hands back. -/
theorem backU_stops (S : Nat → Prop) (V : Nat → Nat → Prop) (n Bs : Nat) (A : Option Addr) (m c : Nat) (hm : m ≤ 4294967296) (hSb : S Bs) (w : World) (hS : Bs < w.heap.size)
    (hA : ∀ b off, 0 < m → A = some ⟨b, off, none⟩ → b < w.heap.size) (hB : w.cell? ⟨Bs, 0, none⟩ = some (.slice A m c)) (hH : Has w A m V) :
    SeqStopsK Fence.wide n Tryz.prog 131 #[.pointer (some ⟨Bs, 0, none⟩)] (fun x : BkI m V => #[.int .i64 (x.1.1 : Int), u64 x.1.2]) (BkK S A m V)
      (fun ys => places ys = downs m m) (fun pre => ∃ k, k ≤ m ∧ places pre = downs m k) m w := fun l J Jx W hW hJ _ hY h0 => by
  exact backU_in S V n l Bs A m c hm hSb J Jx hY W ((hW.cell (p := ⟨Bs, 0, none⟩) hS).trans hB)
    (fun i hi => by
      obtain ⟨b, off, v, e, hv, hc⟩ := hH i hi
      exact ⟨b, off, v, e, hv, (hW.cell (p := ⟨b, off + i, none⟩) (hA b off (by omega) e)).trans hc⟩) h0
end Go.Proofs.YtoehkaagfokamaaGreatDoor
