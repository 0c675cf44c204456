import Derived.Test.YtoehkaagfokamaaGreatDoorZPairs
import Derived.Maps.AppendAt
import Derived.RegionIn
/- Join. -/
namespace Go.Proofs.YtoehkaagfokamaaGreatDoor
open Go.RowKit Go.Shelf
attribute [local go_sem] Oper.semAt_some

theorem u64_info : (Tryz.prog.info? 31).map (fun i => (i.zero, i.size, i.bytes)) = some (some (.int .u64 0), 1, 8) := by kernel_rfl

/-- Limbs joined so far, and what is carried. -/
def joined (how : Nat → Nat → Nat → Nat × Nat) (ps : List WW) : List Nat × Nat :=
  ps.foldl (fun s x => (s.1 ++ [(how x.1.1 x.1.2 s.2).1], (how x.1.1 x.1.2 s.2).2)) ([], 0)
theorem joined_nil (how : Nat → Nat → Nat → Nat × Nat) : joined how [] = ([], 0) := rfl
theorem joined_snoc (how : Nat → Nat → Nat → Nat × Nat) (ps : List WW) (x : WW) :
    joined how (ps ++ [x]) = ((joined how ps).1 ++ [(how x.1.1 x.1.2 (joined how ps).2).1], (how x.1.1 x.1.2 (joined how ps).2).2) := by
  simp [joined, List.foldl_append]

/-- What joins two words with what is carried. -/
structure Joiner (f : Nat) (how : Nat → Nat → Nat → Nat × Nat) : Prop where
  run : ∀ x y c, x < B64 → y < B64 → c ≤ 1 → ∀ w, (callFunc f #[u64 x, u64 y, u64 c]).run Tryz.prog w = .ok (.value (.tuple #[u64 (how x y c).1, u64 (how x y c).2])) w
  limb : ∀ x y c, x < B64 → y < B64 → c ≤ 1 → (how x y c).1 < B64
  over : ∀ x y c, x < B64 → y < B64 → c ≤ 1 → (how x y c).2 ≤ 1

theorem joined_ok {f : Nat} {how : Nat → Nat → Nat → Nat × Nat} (h : Joiner f how) (ps : List WW) : (joined how ps).1.length = ps.length ∧ Words (joined how ps).1 ∧ (joined how ps).2 ≤ 1 := by
  refine snoc_ind (P := fun ps => (joined how ps).1.length = ps.length ∧ Words (joined how ps).1 ∧ (joined how ps).2 ≤ 1) ⟨rfl, words_nil, Nat.zero_le _⟩ ?_ ps
  intro ps x ih
  rw [joined_snoc]
  refine ⟨by simp [ih.1], words_append ih.2.1 (words_cons (h.limb _ _ _ x.2.1 x.2.2 ih.2.2) words_nil), h.over _ _ _ x.2.1 x.2.2 ih.2.2⟩

theorem grown_drew' (w : World) : w.grownBy w.drew none := ⟨rfl, rfl, rfl, Nat.le_refl _, fun _ _ _ => rfl⟩

/-- What the rounds of nat.join hand on: the two boxed results, the function, the limbs joined so far. -/
def JoinI (w : World) (f : Nat) (how : Nat → Nat → Nat → Nat × Nat) (m q : Nat) (pre : List WW) (W : World) : Prop :=
  (∃ v, Boxed W (w.heap.size + 1) 26 v ∧ W.ownsRow w.heap.size 31 1 v pre.length ((joined how pre).1.map u64) ∧ v = .slice (some ⟨w.heap.size + 1 + 1 + 1, 0, none⟩) pre.length (m + 1)) ∧
  Boxed W w.heap.size 80 (.func (.func f) #[] #[]) ∧ Boxed W (w.heap.size + 1 + 1) 31 (u64 (joined how pre).2) ∧ Below w.heap.size w W ∧ q ≤ W.heap.size

theorem joinI_own (w : World) (f : Nat) (how : Nat → Nat → Nat → Nat × Nat) (m q B : Nat) (hB : w.heap.size ≤ B) : OwnFrom B (JoinI w f how m q) := by
  refine OwnFrom.and (Own.from (holdsRow_own w.heap.size (w.heap.size + 1) 26 31 1 (fun pre : List WW => pre.length) (fun pre => (joined how pre).1.map u64) (fun pre v => v = .slice (some ⟨w.heap.size + 1 + 1 + 1, 0, none⟩) pre.length (m + 1))) _) ?_
  refine OwnFrom.and (Own.from (boxed_own w.heap.size 80 (fun _ : List WW => .func (.func f) #[] #[])) _) ?_
  exact OwnFrom.and (Own.from (boxed_own (w.heap.size + 1 + 1) 31 (fun pre : List WW => u64 (joined how pre).2)) _) (OwnFrom.and (ownFrom_below (Nat.le_refl _) hB) fun s W W' row hs hg _ => Nat.le_trans hs hg.size)

/-- The blocks that a round of nat.join keeps. -/
def JoinS (n q : Nat) (k : Nat) : Prop := k < n ∨ k = q ∨ k = q + 1

set_option maxRecDepth 100000 in
set_option maxHeartbeats 4000000 in
/-- nat.join: two numbers joined place by place. -/
theorem join_any (f : Nat) (how : Nat → Nat → Nat → Nat × Nat) (hj : Joiner f how) (A A2 : Option Addr) (na ca nb cb m : Nat) (a b : List Nat) (w : World) (hna : na ≤ 4294967296) (hnb : nb ≤ 4294967296) (hm : m = max na nb) (hra : Rd w A na a) (hrb : Rd w A2 nb b) (ha : Words a) (hb : Words b) :
    Calls Tryz.prog 29 #[.slice A na ca, .slice A2 nb cb, .func (.func f) #[] #[]] w fun e w' =>
      e = .returned (.tuple #[.slice (some ⟨w.heap.size + 3, 0, none⟩) m (m + 1), u64 (joined how (pairs2 ha hb m)).2]) ∧
      w'.ownsRow w.heap.size 31 1 (.slice (some ⟨w.heap.size + 3, 0, none⟩) m (m + 1)) m ((joined how (pairs2 ha hb m)).1.map u64) ∧ Below w.heap.size w w' := by
  obtain ⟨i0, hi, hz0, hz1, hz2⟩ := info_parts u64_info
  refine (callsIn_wide (n := 8)).1 ?_
  refine callsIn_of_wp_marks Tryz.func29 rfl trivial ?_ rfl
  simp only [Tryz.ntmps29, List.size_toArray, List.length_cons, List.length_nil, Nat.reduceAdd, Nat.reduceSub, Array.replicate_succ, Array.replicate_zero, List.push_toArray, List.append_toArray, List.nil_append, List.cons_append]
  have hm1 : na ≤ m ∧ nb ≤ m ∧ m ≤ 4294967296 := by omega
  have hM := Lib.hid hm
  have HA := Lib.hid hra
  have HB := Lib.hid hrb
  have HJ := Lib.hid hj
  clear hm hra hrb hj
  rcases Nat.lt_or_ge na nb with hlt | hge
  all_goals
    gi_wp2_with (gi_at_make; refine wpListIn_make_own _ rfl _ _ 26 rfl w.heap.size 31 i0 _ 1 Tryz.underlying26 hi hz0 hz1 .i64 .i64 _ (m + 1) rfl rfl (by have := hM.out; omega) (by rw [hz2]; omega) (by simp only [maxLen]; omega) (by simp; omega) ?_; intro w1 hown hgrow; simp only [World.size_alloc] at hown; have b0 : Boxed w1 w.heap.size 80 (.func (.func f) #[] #[]) := ((((Boxed.new w _ _).alloc _).alloc _).kept hgrow (by simp)); have b1 : Boxed w1 (w.heap.size + 1) 26 (.slice none 0 0) := (((by have := Boxed.new (w.alloc (.cells #[.func (.func f) #[] #[]] 80)) 26 (.slice none 0 0); rwa [World.size_alloc] at this : Boxed ((w.alloc (.cells #[.func (.func f) #[] #[]] 80)).alloc (.cells #[.slice none 0 0] 26)) (w.heap.size + 1) _ _).alloc _).kept hgrow (by simp)); have b2 : Boxed w1 (w.heap.size + 1 + 1) 31 (u64 0) := ((by have := Boxed.new ((w.alloc (.cells #[.func (.func f) #[] #[]] 80)).alloc (.cells #[.slice none 0 0] 26)) 31 (u64 0); rwa [World.size_alloc, World.size_alloc] at this : Boxed (((w.alloc (.cells #[.func (.func f) #[] #[]] 80)).alloc (.cells #[.slice none 0 0] 26)).alloc (.cells #[u64 0] 31)) (w.heap.size + 1 + 1) _ _).kept hgrow (by simp)); have c1 := b1.cell; have f1 := b1.frozen)
    have hB1 : Below w.heap.size w (w1.setCell ⟨w.heap.size + 1, 0, none⟩ (.slice (some ⟨w.heap.size + 1 + 1 + 1, 0, none⟩) 0 (m + 1))) :=
      (((((Below.refl _ w).alloc (Nat.le_refl _) _).alloc (by simp) _).alloc (by simp; omega) _).grown hgrow (by simp; omega) (fun k e => by cases e)).setCell (p := ⟨w.heap.size + 1, 0, none⟩) (by simp) _
    have hq : w.heap.size + 1 + 1 + 1 < w1.heap.size := (hown.lt _ rfl).2
    have hown2 := hown.kept (grownBy_setCell' w1 (w.heap.size + 1) (.slice (some ⟨w.heap.size + 1 + 1 + 1, 0, none⟩) 0 (m + 1))) (.inr (by simp [Value.ownBlock]; try omega))
    have b02 := b0.other (B' := w.heap.size + 1) (by omega) (.slice (some ⟨w.heap.size + 1 + 1 + 1, 0, none⟩) 0 (m + 1))
    have b22 := b2.other (B' := w.heap.size + 1) (by omega) (.slice (some ⟨w.heap.size + 1 + 1 + 1, 0, none⟩) 0 (m + 1))
    have b12 := b1.set (.slice (some ⟨w.heap.size + 1 + 1 + 1, 0, none⟩) 0 (m + 1))
    have hsz : (w1.setCell ⟨w.heap.size + 1, 0, none⟩ (.slice (some ⟨w.heap.size + 1 + 1 + 1, 0, none⟩) 0 (m + 1))).heap.size = w1.heap.size := by simp [World.setCell]
    generalize (w1.setCell ⟨w.heap.size + 1, 0, none⟩ (.slice (some ⟨w.heap.size + 1 + 1 + 1, 0, none⟩) 0 (m + 1))) = w2 at *
    rw [← hsz] at hq
    clear hown hgrow b0 b1 b2 c1 f1 hsz
    refine ⟨trivial, (callsIn_wide.2 (pairs_any A A2 na ca nb cb _)).mono ?_⟩
    rintro e w' ⟨rfl, rfl⟩
    gi_wp2
    have bA := Boxed.new w2 26 (.slice A na ca)
    have bB := Boxed.new (w2.alloc (.cells #[.slice A na ca] 26)) 26 (.slice A2 nb cb)
    rw [World.size_alloc] at bB
    have hB2 : Below w.heap.size w ((w2.alloc (.cells #[.slice A na ca] 26)).alloc (.cells #[.slice A2 nb cb] 26)) := (hB1.alloc (by omega) _).alloc (by simp; omega) _
    refine wpIn_rangeFunc_ownG rfl (by omega) (gf := 70) (lb := #[.pointer (some ⟨w2.heap.size, 0, none⟩), .pointer (some ⟨w2.heap.size + 1, 0, none⟩)]) rfl trivial (enters_of Tryz.func70 (by kernel_rfl) rfl)
      (pairs_stops (JoinS w.heap.size w2.heap.size) _ w2.heap.size (w2.heap.size + 1) A A2 na ca nb cb m a b hna hnb hM.out (fun h b off e => .inl (HA.out.lt h b off e)) (fun h b off e => .inl (HB.out.lt h b off e)) (.inr (.inl rfl)) (.inr (.inr rfl)) _ (by simp; omega) (bA.alloc _).cell bB.cell (HA.out.below hB2) (HB.out.below hB2))
      KeepsOf.trans ?hkb (Below.refl _ _) (fun _ => rfl)
      (JoinI w f how m (w2.heap.size + 2)) (fun _ _ _ => False) (joinI_own w f how m _ _ (by simp; omega)) (fun _ _ _ _ _ hs _ _ => hs)
      ⟨⟨_, (b12.alloc _).alloc _, (hown2.alloc _).alloc _, rfl⟩, (b02.alloc _).alloc _, (b22.alloc _).alloc _, hB2, by simp⟩ ?_ ?assign ?body ?done ?stop
    case assign =>
      intro l x W K hK
      gi_wp2
      exact hK
    case hkb =>
      intro W l o o' hl ho _ _
      refine ⟨by simp, fun k hk => World.putObj_heap_other (fun e => ?_)⟩
      simp only [World.size_alloc] at hl
      have := hB1.size
      rcases hk with h | rfl | rfl <;> omega
    case body =>
      rintro l pre x W ⟨⟨v, hv, hrow, rfl⟩, bF, bO, hBW, hqW⟩ hlt2
      have c1 := hv.cell
      have c2 := bF.cell
      have c3 := bO.cell
      have f3 := bO.frozen
      have hjo := (joined_ok HJ.out pre).2.2
      have hrun := HJ.out.run x.1.1 x.1.2 (joined how pre).2 x.2.1 x.2.2 hjo
      have hF : Fence.wide.fn f := trivial
      have hov := HJ.out.over x.1.1 x.1.2 (joined how pre).2 x.2.1 x.2.2 hjo
      generalize hz : how x.1.1 x.1.2 (joined how pre).2 = zc at hrun hov
      have hZ := Lib.hid hz
      have hrow2 := (hrow.kept (grownBy_setCell' W (w.heap.size + 1 + 1) (u64 zc.2)) (.inr (by simp [Value.ownBlock]; try omega))).alloc (.cells #[u64 zc.1] 31)
      have hv2 := (hv.other (B' := w.heap.size + 1 + 1) (by omega) (u64 zc.2)).alloc (.cells #[u64 zc.1] 31)
      have bF2 := (bF.other (B' := w.heap.size + 1 + 1) (by omega) (u64 zc.2)).alloc (.cells #[u64 zc.1] 31)
      have bO2 := (bO.set (u64 zc.2)).alloc (.cells #[u64 zc.1] 31)
      have hBW2 := (hBW.setCell (p := ⟨w.heap.size + 1 + 1, 0, none⟩) (by simp; omega) (u64 zc.2)).alloc (by simp [World.setCell]; exact hBW.size) (.cells #[u64 zc.1] 31)
      have hnew := cell_one_new (W.setCell ⟨w.heap.size + 1 + 1, 0, none⟩ (u64 zc.2)) (u64 zc.1) 31
      rw [World.size_setCell] at hnew
      have hNW := Lib.hid hnew
      clear hz hrow hv bF bO hBW hnew
      gi_wp2_with (gi_at_builtin; go_loud (refine wpListIn_append_fits _ rfl _ _ 26 rfl w.heap.size 31 i0 1 Tryz.underlying26 hi hz1 _ _ _ _ rfl hrow2 ⟨W.heap.size, 0, none⟩ 1 1 [u64 zc.1] rfl rfl hNW.out (by simp [Value.oneCell']) (by omega) ?_); intro w3 hown3 hgrow3; have hv3 := hv2.kept hgrow3 (by simp); have hc3 := hv3.cell; have hf3 := hv3.frozen)
      refine ⟨?_, ?_, ⟨_, hv3.set _, ?_, ?_⟩, ?_, ?_, ?_, ?_⟩
      · exact ((((KeepsOthers.setCell W _ _).trans (KeepsOthers.alloc _ _)).from _).trans (KeepsFrom.of_grownBy hgrow3 (fun j e => by cases e; simp; omega))).trans ((KeepsOthers.setCell _ _ _).from _)
      · have hk1 : KeepsOf (JoinS w.heap.size w2.heap.size) W (W.setCell ⟨w.heap.size + 1 + 1, 0, none⟩ (u64 zc.2)) :=
          ⟨by simp [World.setCell], fun k hk => Below.heap_setCell _ _ _ k (by rcases hk with h | rfl | rfl <;> simp <;> omega)⟩
        have hk2 : KeepsOf (JoinS w.heap.size w2.heap.size) (W.setCell ⟨w.heap.size + 1 + 1, 0, none⟩ (u64 zc.2)) ((W.setCell ⟨w.heap.size + 1 + 1, 0, none⟩ (u64 zc.2)).alloc (.cells #[u64 zc.1] 31)) :=
          ⟨by simp, fun k hk => Below.heap_alloc _ _ k (by rw [World.size_setCell]; rcases hk with h | rfl | rfl <;> omega)⟩
        have hk3 : KeepsOf (JoinS w.heap.size w2.heap.size) ((W.setCell ⟨w.heap.size + 1 + 1, 0, none⟩ (u64 zc.2)).alloc (.cells #[u64 zc.1] 31)) w3 :=
          ⟨hgrow3.size, fun k hk => hgrow3.block k (by rw [World.size_alloc, World.size_setCell]; rcases hk with h | rfl | rfl <;> omega) (fun e => by cases e; rcases hk with h | h | h <;> omega)⟩
        exact ((hk1.trans hk2).trans hk3).trans ⟨by simp [World.setCell], fun k hk => Below.heap_setCell _ _ _ k (by rcases hk with h | rfl | rfl <;> simp <;> omega)⟩
      · have e : (joined how (pre ++ [x])).1.map u64 = (joined how pre).1.map u64 ++ [u64 zc.1] := by rw [joined_snoc, hZ.out]; simp
        rw [e, List.length_append]
        exact hown3.kept (grownBy_setCell' w3 (w.heap.size + 1) _) (.inr (by simp [Value.ownBlock]; try omega))
      · rw [List.length_append]; rfl
      · exact (bF2.kept hgrow3 (by simp; omega)).other (by omega) _
      · have e : (joined how (pre ++ [x])).2 = zc.2 := by rw [joined_snoc, hZ.out]
        rw [e]
        exact (bO2.kept hgrow3 (by simp)).other (by omega) _
      · exact (hBW2.grown hgrow3 (by rw [World.size_alloc, World.size_setCell]; have := hBW2.size; omega) (fun k e => by cases e; omega)).setCell (p := ⟨w.heap.size + 1, 0, none⟩) (by simp) _
      · have := hgrow3.size
        rw [World.size_alloc, World.size_setCell] at this
        simp only [World.size_setCell]
        omega
    case done =>
      rintro D ys W hD rfl ⟨⟨v, hv, hrow, rfl⟩, bF, bO, hBW, hqW⟩ hK
      rw [pairs2_length] at hv hrow
      have c1 := hv.cell
      have f1 := hv.frozen
      have c3 := bO.cell
      have f3 := bO.frozen
      have hR := Lib.hid hrow
      have hV := Lib.hid hv
      have hO := Lib.hid bO
      have hBe := Lib.hid hBW
      clear hBW hqW hrow hv bO bF
      gi_wp2
      gi_region
      gi_wp2
      have hV2 := (hV.out.set (.slice (some ⟨w.heap.size + 1 + 1 + 1, 0, none⟩) m (m + 1))).other (B' := w.heap.size + 1 + 1) (by omega) (u64 (joined how (pairs2 ha hb m)).2)
      have hO2 := (hO.out.other (B' := w.heap.size + 1) (by omega) (.slice (some ⟨w.heap.size + 1 + 1 + 1, 0, none⟩) m (m + 1))).set (u64 (joined how (pairs2 ha hb m)).2)
      have hR2 := (hR.out.kept (grownBy_setCell' W (w.heap.size + 1) (.slice (some ⟨w.heap.size + 1 + 1 + 1, 0, none⟩) m (m + 1))) (.inr (by simp [Value.ownBlock]; try omega))).kept (grownBy_setCell' _ (w.heap.size + 1 + 1) (u64 (joined how (pairs2 ha hb m)).2)) (.inr (by simp [Value.ownBlock]; try omega))
      have hBe2 := (hBe.out.setCell (p := ⟨w.heap.size + 1, 0, none⟩) (by simp) (.slice (some ⟨w.heap.size + 1 + 1 + 1, 0, none⟩) m (m + 1))).setCell (p := ⟨w.heap.size + 1 + 1, 0, none⟩) (by simp; omega) (u64 (joined how (pairs2 ha hb m)).2)
      have hK2 := ((KeepsOthers.setCell W ⟨w.heap.size + 1, 0, none⟩ (.slice (some ⟨w.heap.size + 1 + 1 + 1, 0, none⟩) m (m + 1))).trans (KeepsOthers.setCell _ ⟨w.heap.size + 1 + 1, 0, none⟩ (u64 (joined how (pairs2 ha hb m)).2))).same D _ hK rfl
      generalize ((W.setCell ⟨w.heap.size + 1, 0, none⟩ (.slice (some ⟨w.heap.size + 1 + 1 + 1, 0, none⟩) m (m + 1))).setCell ⟨w.heap.size + 1 + 1, 0, none⟩ (u64 (joined how (pairs2 ha hb m)).2)) = W2 at *
      have hD2 : w.heap.size ≤ D := by simp at hD; omega
      refine ⟨by simp, .inl ⟨_, _, rfl, run_takeDeferred (w := W2.drew) hK2, ?_⟩⟩
      have hDn : w2.heap.size + 1 + 1 ≤ D := by simpa using hD
      have hV3 : Boxed (W2.drew.putObj D (.deferred none)) (w.heap.size + 1) _ _ := (show Boxed W2.drew _ _ _ from hV2).kept (grownBy_putObj' W2.drew D _) (by simp; omega)
      have hO3 : Boxed (W2.drew.putObj D (.deferred none)) (w.heap.size + 1 + 1) _ _ := (show Boxed W2.drew _ _ _ from hO2).kept (grownBy_putObj' W2.drew D _) (by simp; omega)
      have hR3 : (W2.drew.putObj D (.deferred none)).ownsRow _ _ _ _ _ _ := (show W2.drew.ownsRow _ _ _ _ _ _ from hR2).kept (grownBy_putObj' W2.drew D _) (.inr (by simp [Value.ownBlock]; omega))
      have hBe3 : Below w.heap.size w (W2.drew.putObj D (.deferred none)) := (Below.drew hBe2).grown (grownBy_putObj' W2.drew D _) hBe2.size (fun k e => by cases e; omega)
      have c4 := hV3.cell
      have c5 := hO3.cell
      exact ⟨.tuple #[.slice (some ⟨w.heap.size + 1 + 1 + 1, 0, none⟩) m (m + 1), u64 (joined how (pairs2 ha hb m)).2], by simp [results, Tryz.results29, go_sem, c4, c5], rfl, hR3, hBe3⟩
    case stop =>
      rintro D c pre W _ _ h _
      exact h.elim
end Go.Proofs.YtoehkaagfokamaaGreatDoor
