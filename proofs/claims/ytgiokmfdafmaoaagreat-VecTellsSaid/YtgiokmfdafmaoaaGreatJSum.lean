import Derived.Test.YtgiokmfdafmaoaaGreatJPairs
import Derived.Maps.AppendAt
import Derived.RegionIn
import Derived.Shelf.Spec.BitsCarry
/- Join Sum. -/
namespace Go.Proofs.YtgiokmfdafmaoaaGreat
open Go.RowKit Go.Shelf
attribute [local go_sem] Oper.semAt_some

theorem u64_info : (Tryz.prog.info? 36).map (fun i => (i.zero, i.size, i.bytes)) = some (some (.int .u64 0), 1, 8) := by kernel_rfl

/-- Limbs joined so far, and what is carried. -/
def joined (how : Nat → Nat → Nat → Nat × Nat) (ps : List WW) : List Nat × Nat :=
  ps.foldl (fun s x => (s.1 ++ [(how x.1.1 x.1.2 s.2).1], (how x.1.1 x.1.2 s.2).2)) ([], 0)
theorem joined_nil (how : Nat → Nat → Nat → Nat × Nat) : joined how [] = ([], 0) := rfl
theorem joined_snoc (how : Nat → Nat → Nat → Nat × Nat) (ps : List WW) (x : WW) :
    joined how (ps ++ [x]) = ((joined how ps).1 ++ [(how x.1.1 x.1.2 (joined how ps).2).1], (how x.1.1 x.1.2 (joined how ps).2).2) := by
  simp [joined, List.foldl_append]

/-- What joins two words with what is carried. -/
structure Joiner (f : Nat) (how : Nat → Nat → Nat → Nat × Nat) : Prop where
  run : ∀ x y c, x < B64 → y < B64 → c ≤ 1 → ∀ w, (callFunc f #[u64 x, u64 y, u64 c]).run Tryz.prog w = .ok (.value (.tuple #[u64 (how x y c).1, u64 (how x y c).2])) w
  limb : ∀ x y c, x < B64 → y < B64 → c ≤ 1 → (how x y c).1 < B64
  over : ∀ x y c, x < B64 → y < B64 → c ≤ 1 → (how x y c).2 ≤ 1

theorem joined_ok {f : Nat} {how : Nat → Nat → Nat → Nat × Nat} (h : Joiner f how) (ps : List WW) : (joined how ps).1.length = ps.length ∧ Words (joined how ps).1 ∧ (joined how ps).2 ≤ 1 := by
  refine snoc_ind (P := fun ps => (joined how ps).1.length = ps.length ∧ Words (joined how ps).1 ∧ (joined how ps).2 ≤ 1) ⟨rfl, words_nil, Nat.zero_le _⟩ ?_ ps
  intro ps x ih
  rw [joined_snoc]
  refine ⟨by simp [ih.1], words_append ih.2.1 (words_cons (h.limb _ _ _ x.2.1 x.2.2 ih.2.2) words_nil), h.over _ _ _ x.2.1 x.2.2 ih.2.2⟩

theorem grown_drew' (w : World) : w.grownBy w.drew none := ⟨rfl, rfl, rfl, Nat.le_refl _, fun _ _ _ => rfl⟩

/-- What the rounds of nat.join hand on: the two boxed results, the function, the limbs joined so far. -/
def JoinI (w : World) (f : Nat) (how : Nat → Nat → Nat → Nat × Nat) (m q : Nat) (pre : List WW) (W : World) : Prop :=
  (∃ v, Boxed W (w.heap.size + 1) 23 v ∧ W.ownsRow w.heap.size 36 1 v pre.length ((joined how pre).1.map u64) ∧ v = .slice (some ⟨w.heap.size + 1 + 1 + 1, 0, none⟩) pre.length (m + 1)) ∧
  Boxed W w.heap.size 157 (.func (.func f) #[] #[]) ∧ Boxed W (w.heap.size + 1 + 1) 36 (u64 (joined how pre).2) ∧ Below w.heap.size w W ∧ q ≤ W.heap.size

theorem joinI_own (w : World) (f : Nat) (how : Nat → Nat → Nat → Nat × Nat) (m q B : Nat) (hB : w.heap.size ≤ B) : OwnFrom B (JoinI w f how m q) := by
  refine OwnFrom.and (Own.from (holdsRow_own w.heap.size (w.heap.size + 1) 23 36 1 (fun pre : List WW => pre.length) (fun pre => (joined how pre).1.map u64) (fun pre v => v = .slice (some ⟨w.heap.size + 1 + 1 + 1, 0, none⟩) pre.length (m + 1))) _) ?_
  refine OwnFrom.and (Own.from (boxed_own w.heap.size 157 (fun _ : List WW => .func (.func f) #[] #[])) _) ?_
  exact OwnFrom.and (Own.from (boxed_own (w.heap.size + 1 + 1) 36 (fun pre : List WW => u64 (joined how pre).2)) _) (OwnFrom.and (ownFrom_below (Nat.le_refl _) hB) fun s W W' row hs hg _ => Nat.le_trans hs hg.size)

/-- The blocks that a round of nat.join keeps. -/
def JoinS (n q : Nat) (k : Nat) : Prop := k < n ∨ k = q ∨ k = q + 1

set_option maxRecDepth 100000 in
set_option maxHeartbeats 4000000 in
/-- nat.join: two numbers joined place by place. -/
theorem join_any (f : Nat) (how : Nat → Nat → Nat → Nat × Nat) (hj : Joiner f how) (A A2 : Option Addr) (na ca nb cb m : Nat) (a b : List Nat) (w : World) (hna : na ≤ 4294967296) (hnb : nb ≤ 4294967296) (hm : m = max na nb) (hra : Rd w A na a) (hrb : Rd w A2 nb b) (ha : Words a) (hb : Words b) :
    Calls Tryz.prog 133 #[.slice A na ca, .slice A2 nb cb, .func (.func f) #[] #[]] w fun e w' =>
      e = .returned (.tuple #[.slice (some ⟨w.heap.size + 3, 0, none⟩) m (m + 1), u64 (joined how (pairs2 ha hb m)).2]) ∧
      w'.ownsRow w.heap.size 36 1 (.slice (some ⟨w.heap.size + 3, 0, none⟩) m (m + 1)) m ((joined how (pairs2 ha hb m)).1.map u64) ∧ Below w.heap.size w w' := by
  obtain ⟨i0, hi, hz0, hz1, hz2⟩ := info_parts u64_info
  refine (callsIn_wide (n := 8)).1 ?_
  refine callsIn_of_wp_marks Tryz.func133 rfl trivial ?_ rfl
  simp only [Tryz.ntmps133, List.size_toArray, List.length_cons, List.length_nil, Nat.reduceAdd, Nat.reduceSub, Array.replicate_succ, Array.replicate_zero, List.push_toArray, List.append_toArray, List.nil_append, List.cons_append]
  have hm1 : na ≤ m ∧ nb ≤ m ∧ m ≤ 4294967296 := by omega
  have hM := Lib.hid hm
  have HA := Lib.hid hra
  have HB := Lib.hid hrb
  have HJ := Lib.hid hj
  clear hm hra hrb hj
  rcases Nat.lt_or_ge na nb with hlt | hge
  all_goals
    gi_wp2_with (gi_at_make; refine wpListIn_make_own _ rfl _ _ 23 rfl w.heap.size 36 i0 _ 1 Tryz.underlying23 hi hz0 hz1 .i64 .i64 _ (m + 1) rfl rfl (by have := hM.out; omega) (by rw [hz2]; omega) (by simp only [maxLen]; omega) (by simp; omega) ?_; intro w1 hown hgrow; simp only [World.size_alloc] at hown; have b0 : Boxed w1 w.heap.size 157 (.func (.func f) #[] #[]) := ((((Boxed.new w _ _).alloc _).alloc _).kept hgrow (by simp)); have b1 : Boxed w1 (w.heap.size + 1) 23 (.slice none 0 0) := (((by have := Boxed.new (w.alloc (.cells #[.func (.func f) #[] #[]] 157)) 23 (.slice none 0 0); rwa [World.size_alloc] at this : Boxed ((w.alloc (.cells #[.func (.func f) #[] #[]] 157)).alloc (.cells #[.slice none 0 0] 23)) (w.heap.size + 1) _ _).alloc _).kept hgrow (by simp)); have b2 : Boxed w1 (w.heap.size + 1 + 1) 36 (u64 0) := ((by have := Boxed.new ((w.alloc (.cells #[.func (.func f) #[] #[]] 157)).alloc (.cells #[.slice none 0 0] 23)) 36 (u64 0); rwa [World.size_alloc, World.size_alloc] at this : Boxed (((w.alloc (.cells #[.func (.func f) #[] #[]] 157)).alloc (.cells #[.slice none 0 0] 23)).alloc (.cells #[u64 0] 36)) (w.heap.size + 1 + 1) _ _).kept hgrow (by simp)); have c1 := b1.cell; have f1 := b1.frozen)
    have hB1 : Below w.heap.size w (w1.setCell ⟨w.heap.size + 1, 0, none⟩ (.slice (some ⟨w.heap.size + 1 + 1 + 1, 0, none⟩) 0 (m + 1))) :=
      (((((Below.refl _ w).alloc (Nat.le_refl _) _).alloc (by simp) _).alloc (by simp; omega) _).grown hgrow (by simp; omega) (fun k e => by cases e)).setCell (p := ⟨w.heap.size + 1, 0, none⟩) (by simp) _
    have hq : w.heap.size + 1 + 1 + 1 < w1.heap.size := (hown.lt _ rfl).2
    have hown2 := hown.kept (grownBy_setCell' w1 (w.heap.size + 1) (.slice (some ⟨w.heap.size + 1 + 1 + 1, 0, none⟩) 0 (m + 1))) (.inr (by simp [Value.ownBlock]; try omega))
    have b02 := b0.other (B' := w.heap.size + 1) (by omega) (.slice (some ⟨w.heap.size + 1 + 1 + 1, 0, none⟩) 0 (m + 1))
    have b22 := b2.other (B' := w.heap.size + 1) (by omega) (.slice (some ⟨w.heap.size + 1 + 1 + 1, 0, none⟩) 0 (m + 1))
    have b12 := b1.set (.slice (some ⟨w.heap.size + 1 + 1 + 1, 0, none⟩) 0 (m + 1))
    have hsz : (w1.setCell ⟨w.heap.size + 1, 0, none⟩ (.slice (some ⟨w.heap.size + 1 + 1 + 1, 0, none⟩) 0 (m + 1))).heap.size = w1.heap.size := by simp [World.setCell]
    generalize (w1.setCell ⟨w.heap.size + 1, 0, none⟩ (.slice (some ⟨w.heap.size + 1 + 1 + 1, 0, none⟩) 0 (m + 1))) = w2 at *
    rw [← hsz] at hq
    clear hown hgrow b0 b1 b2 c1 f1 hsz
    refine ⟨trivial, (callsIn_wide.2 (pairs_any A A2 na ca nb cb _)).mono ?_⟩
    rintro e w' ⟨rfl, rfl⟩
    gi_wp2
    have bA := Boxed.new w2 23 (.slice A na ca)
    have bB := Boxed.new (w2.alloc (.cells #[.slice A na ca] 23)) 23 (.slice A2 nb cb)
    rw [World.size_alloc] at bB
    have hB2 : Below w.heap.size w ((w2.alloc (.cells #[.slice A na ca] 23)).alloc (.cells #[.slice A2 nb cb] 23)) := (hB1.alloc (by omega) _).alloc (by simp; omega) _
    refine wpIn_rangeFunc_ownG rfl (by omega) (gf := 110) (lb := #[.pointer (some ⟨w2.heap.size, 0, none⟩), .pointer (some ⟨w2.heap.size + 1, 0, none⟩)]) rfl trivial (enters_of Tryz.func110 (by kernel_rfl) rfl)
      (pairs_stops (JoinS w.heap.size w2.heap.size) _ w2.heap.size (w2.heap.size + 1) A A2 na ca nb cb m a b hna hnb hM.out (fun h b off e => .inl (HA.out.lt h b off e)) (fun h b off e => .inl (HB.out.lt h b off e)) (.inr (.inl rfl)) (.inr (.inr rfl)) _ (by simp; omega) (bA.alloc _).cell bB.cell (HA.out.below hB2) (HB.out.below hB2))
      KeepsOf.trans ?hkb (Below.refl _ _) (fun _ => rfl)
      (JoinI w f how m (w2.heap.size + 2)) (fun _ _ _ => False) (joinI_own w f how m _ _ (by simp; omega)) (fun _ _ _ _ _ hs _ _ => hs)
      ⟨⟨_, (b12.alloc _).alloc _, (hown2.alloc _).alloc _, rfl⟩, (b02.alloc _).alloc _, (b22.alloc _).alloc _, hB2, by simp⟩ ?_ ?assign ?body ?done ?stop
    case assign =>
      intro l x W K hK
      gi_wp2
      exact hK
    case hkb =>
      intro W l o o' hl ho _ _
      refine ⟨by simp, fun k hk => World.putObj_heap_other (fun e => ?_)⟩
      simp only [World.size_alloc] at hl
      have := hB1.size
      rcases hk with h | rfl | rfl <;> omega
    case body =>
      rintro l pre x W ⟨⟨v, hv, hrow, rfl⟩, bF, bO, hBW, hqW⟩ hlt2
      have c1 := hv.cell
      have c2 := bF.cell
      have c3 := bO.cell
      have f3 := bO.frozen
      have hjo := (joined_ok HJ.out pre).2.2
      have hrun := HJ.out.run x.1.1 x.1.2 (joined how pre).2 x.2.1 x.2.2 hjo
      have hF : Fence.wide.fn f := trivial
      have hov := HJ.out.over x.1.1 x.1.2 (joined how pre).2 x.2.1 x.2.2 hjo
      generalize hz : how x.1.1 x.1.2 (joined how pre).2 = zc at hrun hov
      have hZ := Lib.hid hz
      have hrow2 := (hrow.kept (grownBy_setCell' W (w.heap.size + 1 + 1) (u64 zc.2)) (.inr (by simp [Value.ownBlock]; try omega))).alloc (.cells #[u64 zc.1] 36)
      have hv2 := (hv.other (B' := w.heap.size + 1 + 1) (by omega) (u64 zc.2)).alloc (.cells #[u64 zc.1] 36)
      have bF2 := (bF.other (B' := w.heap.size + 1 + 1) (by omega) (u64 zc.2)).alloc (.cells #[u64 zc.1] 36)
      have bO2 := (bO.set (u64 zc.2)).alloc (.cells #[u64 zc.1] 36)
      have hBW2 := (hBW.setCell (p := ⟨w.heap.size + 1 + 1, 0, none⟩) (by simp; omega) (u64 zc.2)).alloc (by simp [World.setCell]; exact hBW.size) (.cells #[u64 zc.1] 36)
      have hnew := cell_one_new (W.setCell ⟨w.heap.size + 1 + 1, 0, none⟩ (u64 zc.2)) (u64 zc.1) 36
      rw [World.size_setCell] at hnew
      have hNW := Lib.hid hnew
      clear hz hrow hv bF bO hBW hnew
      gi_wp2_with (gi_at_builtin; go_loud (refine wpListIn_append_fits _ rfl _ _ 23 rfl w.heap.size 36 i0 1 Tryz.underlying23 hi hz1 _ _ _ _ rfl hrow2 ⟨W.heap.size, 0, none⟩ 1 1 [u64 zc.1] rfl rfl hNW.out (by simp [Value.oneCell']) (by omega) ?_); intro w3 hown3 hgrow3; have hv3 := hv2.kept hgrow3 (by simp); have hc3 := hv3.cell; have hf3 := hv3.frozen)
      refine ⟨?_, ?_, ⟨_, hv3.set _, ?_, ?_⟩, ?_, ?_, ?_, ?_⟩
      · exact ((((KeepsOthers.setCell W _ _).trans (KeepsOthers.alloc _ _)).from _).trans (KeepsFrom.of_grownBy hgrow3 (fun j e => by cases e; simp; omega))).trans ((KeepsOthers.setCell _ _ _).from _)
      · have hk1 : KeepsOf (JoinS w.heap.size w2.heap.size) W (W.setCell ⟨w.heap.size + 1 + 1, 0, none⟩ (u64 zc.2)) :=
          ⟨by simp [World.setCell], fun k hk => Below.heap_setCell _ _ _ k (by rcases hk with h | rfl | rfl <;> simp <;> omega)⟩
        have hk2 : KeepsOf (JoinS w.heap.size w2.heap.size) (W.setCell ⟨w.heap.size + 1 + 1, 0, none⟩ (u64 zc.2)) ((W.setCell ⟨w.heap.size + 1 + 1, 0, none⟩ (u64 zc.2)).alloc (.cells #[u64 zc.1] 36)) :=
          ⟨by simp, fun k hk => Below.heap_alloc _ _ k (by rw [World.size_setCell]; rcases hk with h | rfl | rfl <;> omega)⟩
        have hk3 : KeepsOf (JoinS w.heap.size w2.heap.size) ((W.setCell ⟨w.heap.size + 1 + 1, 0, none⟩ (u64 zc.2)).alloc (.cells #[u64 zc.1] 36)) w3 :=
          ⟨hgrow3.size, fun k hk => hgrow3.block k (by rw [World.size_alloc, World.size_setCell]; rcases hk with h | rfl | rfl <;> omega) (fun e => by cases e; rcases hk with h | h | h <;> omega)⟩
        exact ((hk1.trans hk2).trans hk3).trans ⟨by simp [World.setCell], fun k hk => Below.heap_setCell _ _ _ k (by rcases hk with h | rfl | rfl <;> simp <;> omega)⟩
      · have e : (joined how (pre ++ [x])).1.map u64 = (joined how pre).1.map u64 ++ [u64 zc.1] := by rw [joined_snoc, hZ.out]; simp
        rw [e, List.length_append]
        exact hown3.kept (grownBy_setCell' w3 (w.heap.size + 1) _) (.inr (by simp [Value.ownBlock]; try omega))
      · rw [List.length_append]; rfl
      · exact (bF2.kept hgrow3 (by simp; omega)).other (by omega) _
      · have e : (joined how (pre ++ [x])).2 = zc.2 := by rw [joined_snoc, hZ.out]
        rw [e]
        exact (bO2.kept hgrow3 (by simp)).other (by omega) _
      · exact (hBW2.grown hgrow3 (by rw [World.size_alloc, World.size_setCell]; have := hBW2.size; omega) (fun k e => by cases e; omega)).setCell (p := ⟨w.heap.size + 1, 0, none⟩) (by simp) _
      · have := hgrow3.size
        rw [World.size_alloc, World.size_setCell] at this
        simp only [World.size_setCell]
        omega
    case done =>
      rintro D ys W hD rfl ⟨⟨v, hv, hrow, rfl⟩, bF, bO, hBW, hqW⟩ hK
      rw [pairs2_length] at hv hrow
      have c1 := hv.cell
      have f1 := hv.frozen
      have c3 := bO.cell
      have f3 := bO.frozen
      have hR := Lib.hid hrow
      have hV := Lib.hid hv
      have hO := Lib.hid bO
      have hBe := Lib.hid hBW
      clear hBW hqW hrow hv bO bF
      gi_wp2
      gi_region
      gi_wp2
      have hV2 := (hV.out.set (.slice (some ⟨w.heap.size + 1 + 1 + 1, 0, none⟩) m (m + 1))).other (B' := w.heap.size + 1 + 1) (by omega) (u64 (joined how (pairs2 ha hb m)).2)
      have hO2 := (hO.out.other (B' := w.heap.size + 1) (by omega) (.slice (some ⟨w.heap.size + 1 + 1 + 1, 0, none⟩) m (m + 1))).set (u64 (joined how (pairs2 ha hb m)).2)
      have hR2 := (hR.out.kept (grownBy_setCell' W (w.heap.size + 1) (.slice (some ⟨w.heap.size + 1 + 1 + 1, 0, none⟩) m (m + 1))) (.inr (by simp [Value.ownBlock]; try omega))).kept (grownBy_setCell' _ (w.heap.size + 1 + 1) (u64 (joined how (pairs2 ha hb m)).2)) (.inr (by simp [Value.ownBlock]; try omega))
      have hBe2 := (hBe.out.setCell (p := ⟨w.heap.size + 1, 0, none⟩) (by simp) (.slice (some ⟨w.heap.size + 1 + 1 + 1, 0, none⟩) m (m + 1))).setCell (p := ⟨w.heap.size + 1 + 1, 0, none⟩) (by simp; omega) (u64 (joined how (pairs2 ha hb m)).2)
      have hK2 := ((KeepsOthers.setCell W ⟨w.heap.size + 1, 0, none⟩ (.slice (some ⟨w.heap.size + 1 + 1 + 1, 0, none⟩) m (m + 1))).trans (KeepsOthers.setCell _ ⟨w.heap.size + 1 + 1, 0, none⟩ (u64 (joined how (pairs2 ha hb m)).2))).same D _ hK rfl
      generalize ((W.setCell ⟨w.heap.size + 1, 0, none⟩ (.slice (some ⟨w.heap.size + 1 + 1 + 1, 0, none⟩) m (m + 1))).setCell ⟨w.heap.size + 1 + 1, 0, none⟩ (u64 (joined how (pairs2 ha hb m)).2)) = W2 at *
      have hD2 : w.heap.size ≤ D := by simp at hD; omega
      refine ⟨by simp, .inl ⟨_, _, rfl, run_takeDeferred (w := W2.drew) hK2, ?_⟩⟩
      have hDn : w2.heap.size + 1 + 1 ≤ D := by simpa using hD
      have hV3 : Boxed (W2.drew.putObj D (.deferred none)) (w.heap.size + 1) _ _ := (show Boxed W2.drew _ _ _ from hV2).kept (grownBy_putObj' W2.drew D _) (by simp; omega)
      have hO3 : Boxed (W2.drew.putObj D (.deferred none)) (w.heap.size + 1 + 1) _ _ := (show Boxed W2.drew _ _ _ from hO2).kept (grownBy_putObj' W2.drew D _) (by simp; omega)
      have hR3 : (W2.drew.putObj D (.deferred none)).ownsRow _ _ _ _ _ _ := (show W2.drew.ownsRow _ _ _ _ _ _ from hR2).kept (grownBy_putObj' W2.drew D _) (.inr (by simp [Value.ownBlock]; omega))
      have hBe3 : Below w.heap.size w (W2.drew.putObj D (.deferred none)) := (Below.drew hBe2).grown (grownBy_putObj' W2.drew D _) hBe2.size (fun k e => by cases e; omega)
      have c4 := hV3.cell
      have c5 := hO3.cell
      exact ⟨.tuple #[.slice (some ⟨w.heap.size + 1 + 1 + 1, 0, none⟩) m (m + 1), u64 (joined how (pairs2 ha hb m)).2], by simp [results, Tryz.results133, go_sem, c4, c5], rfl, hR3, hBe3⟩
    case stop =>
      rintro D c pre W _ _ h _
      exact h.elim
end Go.Proofs.YtgiokmfdafmaoaaGreat

namespace Go.Proofs.YtgiokmfdafmaoaaGreat
open Go.RowKit Go.Shelf

/-- A slice of the call's own, which has the limbs l. -/
def Own (w : World) (B : Nat) (v : Value) (l : List Nat) : Prop := w.ownsRow B 36 1 v l.length (l.map u64) ∧ Words l
theorem Own.kept {w w' : World} {B : Nat} {v : Value} {l : List Nat} (h : Own w B v l) {row : Option Nat} (hg : w.grownBy w' row) (hne : v.ownBlock = none ∨ v.ownBlock ≠ row) : Own w' B v l := ⟨h.1.kept hg hne, h.2⟩
/-- It is kept wherever all that there is by then is kept. -/
theorem Own.below {w w' : World} {B : Nat} {v : Value} {l : List Nat} (h : Own w B v l) (hb : Below w.heap.size w w') : Own w' B v l := by
  refine ⟨⟨h.1.1, ?_⟩, h.2⟩
  rcases h.1.2 with h2 | ⟨g, cap, cur, e, hg, hh, r⟩
  · exact .inl h2
  · exact .inr ⟨g, cap, cur, e, hg, (hb.block g (Array.getElem?_eq_some_iff.1 hh).1).trans hh, r⟩
theorem own_mono {w : World} {B B' : Nat} {v : Value} {l : List Nat} (h : Own w B v l) (hB : B' ≤ B) : Own w B' v l := by
  refine ⟨⟨h.1.1, ?_⟩, h.2⟩
  rcases h.1.2 with h2 | ⟨g, cap, cur, e, hg, r⟩
  · exact .inl h2
  · exact .inr ⟨g, cap, cur, e, by omega, r⟩
/-- Its limbs are read. -/
theorem Own.rd {w : World} {B : Nat} {A : Option Addr} {n c : Nat} {l : List Nat} (h : Own w B (.slice A n c) l) : Rd w A n l ∧ n = l.length ∧ n ≤ c ∧ c ≤ maxLen := by
  rcases h.1.2 with ⟨e, h0⟩ | ⟨g, cap, cur, e, hg, hh, hn, hc, hs, ht⟩
  · cases e
    have hl : l = [] := List.eq_nil_of_length_eq_zero h0
    subst hl
    exact ⟨rd_nil w none, rfl, Nat.le_refl _, Nat.zero_le _⟩
  · cases e
    refine ⟨⟨rfl, h.2, fun hn0 => ⟨g, 0, rfl, (Array.getElem?_eq_some_iff.1 hh).1, fun i hi => ?_⟩⟩, rfl, hn, hc⟩
    have hci := h.1.cells (g := g) rfl i (u64 (lim l i)) (by rw [List.getElem?_map, List.getElem?_eq_getElem hi, lim_get hi]; rfl)
    simpa [Addr.add, Nat.zero_add] using (by
      by_cases h0 : i = 0
      · subst h0; simpa [Addr.add] using hci
      · simpa [Addr.add, h0] using hci : w.cell? ⟨g, 0 + i, none⟩ = some (u64 (lim l i)))
/-- A beginning of it is of the call's own, too. -/
theorem own_take {w : World} {B T : Nat} {A : Option Addr} {n k c : Nat} {xs : List Value} (h : w.ownsRow B T 1 (.slice A n c) n xs) (hk : k ≤ n) : w.ownsRow B T 1 (.slice A k c) k (xs.take k) := by
  obtain ⟨h1, h2⟩ := h
  refine ⟨by rw [List.length_take]; omega, ?_⟩
  rcases h2 with ⟨e, h0⟩ | ⟨g, cap, cur, e, hg, hh, hn, hc, hs, ht⟩
  · cases e
    exact .inl ⟨by rw [show k = 0 by omega], by omega⟩
  · cases e
    refine .inr ⟨g, _, cur, rfl, hg, hh, by omega, hc, hs, ?_⟩
    rw [← ht, List.take_take]
    congr 1
    omega

theorem own_trim {w : World} {B : Nat} {A : Option Addr} {n k c : Nat} {l : List Nat} (h : Own w B (.slice A n c) l) (hk : k ≤ n) : Own w B (.slice A k c) (l.take k) := by
  have hn := h.rd.2.1
  subst hn
  have h2 := own_take h.1 hk
  have e : (l.take k).length = k := by rw [List.length_take]; omega
  refine ⟨?_, h.2.take k⟩
  rw [e, List.map_take]
  exact h2

theorem rows2_one {A : Option Addr} {na ca : Nat} {a : List Nat} {w : World} (ha : Rd w A na a) (hna : na ≤ 9223372036854775807) (T : TypeId) : Rows2 (w.alloc (.cells #[.slice A na ca] T)) w.heap.size 0 [a] := by
  intro i l hl
  match i, hl with
  | 0, hl =>
    cases hl
    exact ⟨A, na, ca, by simp, ha.alloc _, hna⟩
  | i + 1, hl => simp at hl
theorem rows2_two {A A2 : Option Addr} {na ca nb cb : Nat} {a b : List Nat} {w : World} (ha : Rd w A na a) (hb : Rd w A2 nb b) (hna : na ≤ 9223372036854775807) (hnb : nb ≤ 9223372036854775807) (T : TypeId) :
    Rows2 (w.alloc (.cells #[.slice A na ca, .slice A2 nb cb] T)) w.heap.size 0 [a, b] := by
  intro i l hl
  match i, hl with
  | 0, hl =>
    cases hl
    exact ⟨A, na, ca, by simp, ha.alloc _, hna⟩
  | 1, hl =>
    cases hl
    exact ⟨A2, nb, cb, by simp, hb.alloc _, hnb⟩
  | i + 2, hl => simp at hl

/-! ### Sums and what is left, limb by limb -/
def howAdd (x y c : Nat) : Nat × Nat := ((x + y + c) % B64, (x + y + c) / B64)
def howSub (x y c : Nat) : Nat × Nat := ((x + B64 - y - c) % B64, if x < y + c then 1 else 0)

theorem joiner_add : Joiner 134 howAdd where
  run := fun x y c hx hy hc w => by
    rw [run_callFunc_extern (P := Tryz.prog) (f := 134) Tryz.func134 (by kernel_rfl) (by kernel_rfl) (by kernel_rfl) (e := add64Entry) (by kernel_rfl), run_add64 x y c (by omega) (by omega) (by omega) (by omega)]
    simp only [Result.andThen, howAdd, u64, B64_eq]
    congr 5
  limb := fun x y c _ _ _ => Nat.mod_lt _ B64_pos
  over := fun x y c hx hy hc => by
    have h : (x + y + c) / B64 < 2 := by rw [Nat.div_lt_iff_lt_mul B64_pos]; omega
    show (x + y + c) / B64 ≤ 1
    omega
theorem joiner_sub : Joiner 142 howSub where
  run := fun x y c hx hy hc w => by
    rw [run_callFunc_extern (P := Tryz.prog) (f := 142) Tryz.func142 (by kernel_rfl) (by kernel_rfl) (by kernel_rfl) (e := sub64Entry) (by kernel_rfl), run_sub64 x y c hc]
    rfl
  limb := fun x y c _ _ _ => Nat.mod_lt _ B64_pos
  over := fun x y c hx hy hc => by
    show (if x < y + c then 1 else 0) ≤ 1
    split <;> omega

theorem joined_add {a b : List Nat} (ha : Words a) (hb : Words b) (k : Nat) :
    val (joined howAdd (pairs2 ha hb k)).1 + B64 ^ k * (joined howAdd (pairs2 ha hb k)).2 = val (a.take k) + val (b.take k) := by
  induction k with
  | zero => simp [pairs2, joined_nil, val]
  | succ k ih =>
    have hl := (joined_ok joiner_add (pairs2 ha hb k)).1
    rw [pairs2_length] at hl
    rw [pairs2_succ, joined_snoc, val_append, hl, val_take_succ, val_take_succ, Nat.pow_succ]
    have h := add_step (z := (howAdd (lim a k) (lim b k) (joined howAdd (pairs2 ha hb k)).2).1) (d := (howAdd (lim a k) (lim b k) (joined howAdd (pairs2 ha hb k)).2).2) ih rfl rfl
    simpa [val] using h
theorem sub_digit (x y c : Nat) (hx : x < B64) (hy : y < B64) (hc : c ≤ 1) : x + B64 * (if x < y + c then 1 else 0) = (x + B64 - y - c) % B64 + y + c := by
  generalize hB : B64 = B at *
  have hB2 : 1 < B := by rw [← hB]; exact B64_gt
  clear hB
  by_cases h : x < y + c
  · rw [if_pos h, Nat.mod_eq_of_lt (by omega)]
    omega
  · rw [if_neg h]
    have e : x + B - y - c = (x - y - c) + B := by omega
    rw [e, Nat.add_mod_right, Nat.mod_eq_of_lt (by omega)]
    omega
theorem howSub_digit (x y c : Nat) (hx : x < B64) (hy : y < B64) (hc : c ≤ 1) : x + B64 * (howSub x y c).2 = (howSub x y c).1 + y + c := by
  unfold howSub
  exact sub_digit x y c hx hy hc
theorem joined_sub {a b : List Nat} (ha : Words a) (hb : Words b) (k : Nat) :
    val (joined howSub (pairs2 ha hb k)).1 + val (b.take k) = val (a.take k) + B64 ^ k * (joined howSub (pairs2 ha hb k)).2 := by
  induction k with
  | zero => simp [pairs2, joined_nil, val]
  | succ k ih =>
    have hl := joined_ok joiner_sub (pairs2 ha hb k)
    rw [pairs2_length] at hl
    rw [pairs2_succ, joined_snoc, val_append, hl.1, val_take_succ, val_take_succ, Nat.pow_succ]
    have hd := howSub_digit (lim a k) (lim b k) (joined howSub (pairs2 ha hb k)).2 (ha.get k) (hb.get k) hl.2.2
    generalize howSub (lim a k) (lim b k) (joined howSub (pairs2 ha hb k)).2 = zd at *
    have h := sub_step (p := B64 ^ k) ih hd
    rw [val_cons, val_nil, Nat.mul_zero, Nat.add_zero]
    exact h
theorem joined_add_all {a b : List Nat} (ha : Words a) (hb : Words b) {m : Nat} (h1 : a.length ≤ m) (h2 : b.length ≤ m) :
    val ((joined howAdd (pairs2 ha hb m)).1 ++ [(joined howAdd (pairs2 ha hb m)).2]) = val a + val b := by
  have h := joined_add ha hb m
  have hl := (joined_ok joiner_add (pairs2 ha hb m)).1
  rw [pairs2_length] at hl
  rw [val_take_all h1, val_take_all h2] at h
  rw [val_append, hl]
  simpa [val] using h
theorem joined_sub_all {a b : List Nat} (ha : Words a) (hb : Words b) {m : Nat} (h1 : a.length ≤ m) (h2 : b.length ≤ m) :
    (val b ≤ val a → (joined howSub (pairs2 ha hb m)).2 = 0 ∧ val (joined howSub (pairs2 ha hb m)).1 = val a - val b) ∧ (val a < val b → (joined howSub (pairs2 ha hb m)).2 = 1) := by
  have h := joined_sub ha hb m
  have hl := joined_ok joiner_sub (pairs2 ha hb m)
  rw [pairs2_length] at hl
  rw [val_take_all h1, val_take_all h2] at h
  have h3 := val_lt hl.2.1
  rw [hl.1] at h3
  have h4 := hl.2.2
  generalize (joined howSub (pairs2 ha hb m)).2 = c at *
  generalize val (joined howSub (pairs2 ha hb m)).1 = j at *
  rcases (by omega : c = 0 ∨ c = 1) with rfl | rfl
  · simp at h
    omega
  · simp at h
    omega
end Go.Proofs.YtgiokmfdafmaoaaGreat
