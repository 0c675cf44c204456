import Derived.Test.YtgiokmfdafmaoaaGreatJLimb
import Derived.RangeFuncBox
import Derived.RangeFuncNested
import Derived.RangeFuncBound
import Derived.RangeFuncCalls
import Derived.RangeFuncLeaves
import Derived.Shelf.Abstract
import Derived.Shelf.RegionOpen
import Derived.OwnWalkIn
import Derived.TacticsInMore
import Derived.LoopNIn
import Derived.LoopIn
import Derived.Stop.RegionWithIn
import Derived.Sort.AtCallIn
/- May Pairs. -/
namespace Go.Proofs.YtgiokmfdafmaoaaGreat
open Go.RowKit

/-- The last limb's test, for the walk. -/
theorem may_last {l : List Nat} (h : l ≠ []) : may l = (lim l (l.length - 1) != 0) := by
  have h1 : l.length ≠ 0 := fun e => h (List.eq_nil_of_length_eq_zero e)
  unfold may lim
  rw [List.getLast?_eq_getElem?, List.getD_eq_getElem?_getD, List.getElem?_eq_getElem (by omega)]
  rfl

/-- The error's number: 0 where all lists may be, else 8. -/
def bad (ls : List (List Nat)) : Int := if ls.all may then 0 else 8

/-- A slice of slices of limbs: cell i is the slice of the i-th list. -/
def Rows2 (w : World) (b off : Nat) (ls : List (List Nat)) : Prop :=
  ∀ i l, ls[i]? = some l → ∃ A n c, w.cell? ⟨b, off + i, none⟩ = some (.slice A n c) ∧ Rd w A n l ∧ n ≤ 9223372036854775807

set_option maxHeartbeats 400000 in
/-- nat.mayBe: OK, if all of these numbers may be. -/
theorem mayBe_any (b off m c : Nat) (ls : List (List Nat)) (w : World) (h : Rows2 w b off ls) (hm : ls.length = m) (hm1 : m ≤ 9223372036854775807) :
    Calls Tryz.prog 89 #[.slice (some ⟨b, off, none⟩) m c] w fun e w' => e = .returned (.int .i64 (bad ls)) ∧ w' = w := by
  go_enter Tryz.func89, Tryz.ntmps89
  go_wp2
  go_loop [8] (fun i => ∃ k : Nat, k ≤ m ∧ i = .int .i64 (k : Int) ∧ (ls.take k).all may = true) (fun i => m - (intOf i).toNat)
  case atStart => exact ⟨0, by omega, rfl, by simp⟩
  case round =>
    obtain ⟨k, hk, rfl, hs⟩ := hrel
    by_cases hlt : k < m
    · obtain ⟨A, n, c', hcell, hr, hn⟩ := h k ls[k] (List.getElem?_eq_getElem (by omega))
      have hnext : (ls.take (k + 1)).all may = ((ls.take k).all may && may ls[k]) := by
        rw [List.take_succ_eq_append_getElem (by omega), List.all_append]; simp
      have hbad : may ls[k] = false → bad ls = 8 := by
        intro hf
        unfold bad
        rw [if_neg]
        intro ha
        have := List.all_eq_true.1 ha ls[k] (List.getElem_mem _)
        rw [hf] at this; cases this
      by_cases hn0 : n = 0
      · subst hn0
        have hm0 : may ls[k] = true := by
          have : ls[k] = [] := List.eq_nil_of_length_eq_zero hr.len
          rw [this]; rfl
        have HS : Hid ((ls.take (k + 1)).all may = true) := by rw [hnext, hs, hm0]; exact rfl
        clear hnext hbad hr h hs hm0
        go_wp2
        go_round
        case rel => exact ⟨k + 1, by omega, by go_num, HS.out⟩
        case measure => simp [intOf]; omega
      · obtain ⟨b1, o1, rfl, hb1, hc1⟩ := hr.cells (by omega)
        have hci := hc1 (n - 1) (by omega)
        have hl := may_last (l := ls[k]) (fun e => by have := hr.len; rw [e] at this; simp at this; omega)
        rw [hr.len] at hl
        obtain ⟨j, rfl⟩ : ∃ j, n = j + 1 := ⟨n - 1, by omega⟩
        simp only [Nat.add_sub_cancel] at hci hl
        clear hc1
        by_cases hx : lim ls[k] j = 0
        · rw [hx] at hci
          have hm0 : may ls[k] = false := by rw [hl, hx]; rfl
          have HB : Hid (bad ls = 8) := hbad hm0
          clear hbad hr h hs hm0 hl hx hnext
          go_wp2
          go_ret
          exact ⟨by rw [HB.out]; rfl, rfl⟩
        · have hm0 : may ls[k] = true := by rw [hl]; simpa using hx
          have HS : Hid ((ls.take (k + 1)).all may = true) := by rw [hnext, hs, hm0]; exact rfl
          have hne : ((lim ls[k] j : Int) == 0) = false := by simp; omega
          clear hbad hr h hs hm0 hl hx hnext
          go_wp2
          go_round
          case rel => exact ⟨k + 1, by omega, by go_num, HS.out⟩
          case measure => simp [intOf]; omega
    · have hk2 : k = m := by omega
      have HB : Hid (bad ls = 0) := by
        show bad ls = 0
        unfold bad
        rw [List.take_of_length_le (by omega)] at hs
        rw [if_pos hs]
      clear h hs hm
      go_wp2
      go_ret
      exact ⟨by rw [HB.out]; rfl, rfl⟩
end Go.Proofs.YtgiokmfdafmaoaaGreat

namespace Go.Proofs.YtgiokmfdafmaoaaGreat
open Go.RowKit Go.Shelf
attribute [local go_sem] Oper.semAt_some

/-- Two words. -/
abbrev WW := { p : Nat × Nat // p.1 < B64 ∧ p.2 < B64 }

/-- The first k pairs of limbs of two lists. -/
def pairs2 {a b : List Nat} (ha : Words a) (hb : Words b) (k : Nat) : List WW := (List.range k).map fun i => ⟨(lim a i, lim b i), ha.get i, hb.get i⟩
theorem pairs2_succ {a b : List Nat} (ha : Words a) (hb : Words b) (k : Nat) : pairs2 ha hb (k + 1) = pairs2 ha hb k ++ [⟨(lim a k, lim b k), ha.get k, hb.get k⟩] := by
  simp [pairs2, List.range_succ]
theorem pairs2_length {a b : List Nat} (ha : Words a) (hb : Words b) (k : Nat) : (pairs2 ha hb k).length = k := by simp [pairs2]

/-- What a round keeps: the blocks of S. -/
def KeepsOf (S : Nat → Prop) (W W' : World) : Prop := W.heap.size ≤ W'.heap.size ∧ ∀ k, S k → W'.heap[k]? = W.heap[k]?
theorem KeepsOf.trans {S : Nat → Prop} {X Y Z : World} (h : KeepsOf S X Y) (k : KeepsOf S Y Z) : KeepsOf S X Z := ⟨Nat.le_trans h.1 k.1, fun i hi => (k.2 i hi).trans (h.2 i hi)⟩
theorem KeepsOf.refl {S : Nat → Prop} (X : World) : KeepsOf S X X := ⟨Nat.le_refl _, fun _ _ => rfl⟩
theorem KeepsOf.cell {S : Nat → Prop} {X Y : World} (h : KeepsOf S X Y) {p : Addr} (hp : S p.block) : Y.cell? p = X.cell? p := World.cell?_of_block (w := X) (h.2 p.block hp)
theorem KeepsOf.of_below {S : Nat → Prop} {B : Nat} {X Y : World} (h : Below B X Y) (hS : ∀ k, S k → k < B) : KeepsOf S X Y := ⟨h.size, fun k hk => h.block k (hS k hk)⟩
theorem KeepsOf.rd {S : Nat → Prop} {X Y : World} (h : KeepsOf S X Y) {A : Option Addr} {n : Nat} {l : List Nat} (hr : Rd X A n l) (hA : 0 < n → ∀ b off, A = some ⟨b, off, none⟩ → S b) : Rd Y A n l :=
  ⟨hr.len, hr.words, fun hn => by
    obtain ⟨b, off, e, hlt, hc⟩ := hr.cells hn
    exact ⟨b, off, e, Nat.lt_of_lt_of_le hlt h.1, fun i hi => (h.cell (p := ⟨b, off + i, none⟩) (hA hn b off e)).trans (hc i hi)⟩⟩

/-- How a round has ended: it goes on (true), or not. -/
def Went (J Jx : World → Prop) (S : Nat → Prop) (W : World) (v : Bool) (W' : World) : Prop := (v = true ∧ J W' ∧ KeepsOf S W W') ∨ (v = false ∧ Jx W')

set_option maxRecDepth 100000 in
set_option maxHeartbeats 2000000 in
/-- nat.pairs's closure: all pairs of limbs, whatever the body does that keeps the blocks of S. -/
theorem pairs1_in (S : Nat → Prop) (n l Ba Bb : Nat) (A A2 : Option Addr) (na ca nb cb m : Nat) (a b : List Nat) (ha : Words a) (hb : Words b) (hna : na ≤ 4294967296) (hnb : nb ≤ 4294967296) (hm : m = max na nb)
    (hA : 0 < na → ∀ b off, A = some ⟨b, off, none⟩ → S b) (hA2 : 0 < nb → ∀ b off, A2 = some ⟨b, off, none⟩ → S b) (hSa : S Ba) (hSb : S Bb)
    (J Jx : List WW → World → Prop)
    (hY : ∀ pre x W, J pre W → pre.length < m → YieldAt Fence.wide (n - 1) Tryz.prog l #[u64 x.1.1, u64 x.1.2] W fun e W' =>
      (e = .returned (.bool true) ∧ J (pre ++ [x]) W' ∧ KeepsOf S W W') ∨ (e = .returned (.bool false) ∧ Jx (pre ++ [x]) W'))
    (W : World) (hJd : ∀ pre W, J pre W → J pre W.drew)
    (hBa : W.cell? ⟨Ba, 0, none⟩ = some (.slice A na ca)) (hBb : W.cell? ⟨Bb, 0, none⟩ = some (.slice A2 nb cb)) (hra : Rd W A na a) (hrb : Rd W A2 nb b) (h0 : J [] W) :
    CallsIn Fence.wide n Tryz.prog 110 #[.func (.yield l) #[] #[], .pointer (some ⟨Ba, 0, none⟩), .pointer (some ⟨Bb, 0, none⟩)] W fun e W' => (∃ v, e = .returned v) ∧
      ((∃ ys, ys = pairs2 ha hb m ∧ J ys W') ∨ (∃ pre, (∃ k, k ≤ m ∧ pre = pairs2 ha hb k) ∧ Jx pre W')) := by
  refine callsIn_of_wp Tryz.func110 rfl trivial ?_ rfl
  simp only [Tryz.ntmps110, List.size_toArray, List.length_cons, List.length_nil, Nat.reduceAdd, Nat.reduceSub, Array.replicate_succ, Array.replicate_zero, List.push_toArray, List.append_toArray, List.nil_append, List.cons_append]
  gi_wp2
  all_goals
    gi_loopw [10] (fun i wr => ∃ k : Nat, k ≤ m ∧ i = .int .i64 (k : Int) ∧ J (pairs2 ha hb k) wr ∧ KeepsOf S W wr)
      (fun i _ => m - (intOf i).toNat)
    case atStart => exact ⟨0, Nat.zero_le _, rfl, h0, KeepsOf.refl _⟩
    case round =>
      obtain ⟨k, hk, rfl, hJs, hkp⟩ := hrel
      by_cases hlt : k < m
      · obtain ⟨fn, tmps, assign, body, hy, hR⟩ := hY _ ⟨(lim a k, lim b k), ha.get k, hb.get k⟩ wr.drew (hJd _ _ hJs) (by rw [pairs2_length]; exact hlt)
        dsimp only at hy hR
        have hca : wr.cell? ⟨Ba, 0, none⟩ = some (.slice A na ca) := (hkp.cell (p := ⟨Ba, 0, none⟩) hSa).trans hBa
        have hcb : wr.cell? ⟨Bb, 0, none⟩ = some (.slice A2 nb cb) := (hkp.cell (p := ⟨Bb, 0, none⟩) hSb).trans hBb
        have hwa : Rd wr.drew A na a := (hkp.rd hra hA).drew
        have hwb : Rd wr.drew A2 nb b := (hkp.rd hrb hA2).drew
        have hlt' : (k : Int) < (m : Int) := by omega
        have hR' := Lib.hid (hR.mono (R' := fun e W' => ∃ v, e = .returned (.bool v) ∧ Went (J (pairs2 ha hb k ++ [⟨(lim a k, lim b k), ha.get k, hb.get k⟩])) (Jx (pairs2 ha hb k ++ [⟨(lim a k, lim b k), ha.get k, hb.get k⟩])) S wr.drew v W') (by
          rintro e W' (⟨rfl, h⟩ | ⟨rfl, h⟩)
          · exact ⟨true, rfl, .inl ⟨rfl, h⟩⟩
          · exact ⟨false, rfl, .inr ⟨rfl, h⟩⟩))
        clear hR hY
        gi_wp2
        gi_region_with (first
          | (refine ⟨trivial, fun h => (by cases h), ?_⟩; gi_at_call_has 111 (Value.slice A na ca); refine (callsIn_wide.2 (limb_any A na ca a k wr.drew hwa (by omega) (by omega))).mono ?_; rintro e w' ⟨rfl, rfl⟩)
          | (refine ⟨trivial, fun h => (by cases h), ?_⟩; gi_at_call_has 111 (Value.slice A2 nb cb); refine (callsIn_wide.2 (limb_any A2 nb cb b k wr.drew hwb (by omega) (by omega))).mono ?_; rintro e w' ⟨rfl, rfl⟩)
          | (refine ⟨fun h => (by cases h), ?_⟩; (with_reducible refine hR'.out.mono ?_); rintro e W3 ⟨v, rfl, h3⟩))
        all_goals
          rcases h3 with ⟨rfl, hJ3, hk3⟩ | ⟨rfl, hJx3⟩
          · gi_wp2
            go_roundw
            case rel => exact ⟨k + 1, by omega, by simp, by rw [pairs2_succ]; exact hJ3, hkp.trans hk3⟩
            case measure => simp [intOf]; omega
          · gi_wp2
            refine bodyPost_ret (results_none rfl _ _ _) rfl ?_
            exact ⟨⟨_, rfl⟩, .inr ⟨_, ⟨k + 1, by omega, (pairs2_succ _ _ _).symm⟩, hJx3⟩⟩
      · have hkm : k = m := by omega
        have hJs' : J (pairs2 ha hb m) wr := by rw [← hkm]; exact hJs
        have HJ := Lib.hid hJs'
        clear hJs hkm hJs' hY
        gi_wp2
        go_end0
        exact ⟨⟨_, rfl⟩, .inl ⟨_, rfl, HJ.out⟩⟩

set_option maxHeartbeats 400000 in
/-- nat.pairs: both numbers are boxed; the function value captures the boxes. -/
theorem pairs_any (A A2 : Option Addr) (na ca nb cb : Nat) (w : World) :
    Calls Tryz.prog 90 #[.slice A na ca, .slice A2 nb cb] w fun e w' =>
      e = .returned (.func (.func 110) #[] #[.pointer (some ⟨w.heap.size, 0, none⟩), .pointer (some ⟨w.heap.size + 1, 0, none⟩)]) ∧ w' = (w.alloc (.cells #[.slice A na ca] 23)).alloc (.cells #[.slice A2 nb cb] 23) := by
  go_enter Tryz.func90, Tryz.ntmps90
  go_wp2
  go_ret
  exact ⟨rfl, rfl⟩

theorem abides_drew {J : List WW → World → Prop} {B : Nat} (h : AbidesFrom B J) : ∀ pre W, J pre W → J pre W.drew :=
  fun pre W hj => h pre W W.drew none hj ⟨rfl, rfl, rfl, Nat.le_refl _, fun _ _ _ => rfl⟩ (fun r e => by cases e)

/-- What nat.pairs hands back goes through all pairs of limbs, whatever a round does that keeps the blocks of S. -/
theorem pairs_stops (S : Nat → Prop) (n Ba Bb : Nat) (A A2 : Option Addr) (na ca nb cb m : Nat) (a b : List Nat) (hna : na ≤ 4294967296) (hnb : nb ≤ 4294967296) (hm : m = max na nb)
    (hA : 0 < na → ∀ b off, A = some ⟨b, off, none⟩ → S b) (hA2 : 0 < nb → ∀ b off, A2 = some ⟨b, off, none⟩ → S b) (hSa : S Ba) (hSb : S Bb) (w : World) (hS : Ba < w.heap.size ∧ Bb < w.heap.size)
    (hBa : w.cell? ⟨Ba, 0, none⟩ = some (.slice A na ca)) (hBb : w.cell? ⟨Bb, 0, none⟩ = some (.slice A2 nb cb)) (hra : Rd w A na a) (hrb : Rd w A2 nb b) :
    SeqStopsK Fence.wide n Tryz.prog 110 #[.pointer (some ⟨Ba, 0, none⟩), .pointer (some ⟨Bb, 0, none⟩)] (fun x : WW => #[u64 x.1.1, u64 x.1.2]) (KeepsOf S)
      (fun ys => ys = pairs2 hra.words hrb.words m) (fun pre => ∃ k, k ≤ m ∧ pre = pairs2 hra.words hrb.words k) m w := fun l J Jx W hW hJ _ hY h0 => by
  exact pairs1_in S n l Ba Bb A A2 na ca nb cb m a b hra.words hrb.words hna hnb hm hA hA2 hSa hSb J Jx hY W (abides_drew hJ) ((hW.cell (p := ⟨Ba, 0, none⟩) hS.1).trans hBa) ((hW.cell (p := ⟨Bb, 0, none⟩) hS.2).trans hBb) (hra.below hW) (hrb.below hW) h0
end Go.Proofs.YtgiokmfdafmaoaaGreat
