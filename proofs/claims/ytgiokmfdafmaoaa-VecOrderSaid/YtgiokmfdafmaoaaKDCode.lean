import Derived.Test.YtgiokmfdafmaoaaKDLimb
import Derived.OrdersHeld
import Derived.Deep.RegionHeld
import Derived.Test.YtgiokmfdafmaoaaKNm
import Derived.Test.YtgiokmfdafmaoaaKUp
import Derived.Lib.AppendZeros
import Derived.Deep.RegionHeld3
import Derived.Test.YtgiokmfdafmaoaaKDown
import Derived.Test.YtgiokmfdafmaoaaKRefDiv
import Derived.Test.YtgiokmfdafmaoaaKDNames
import Derived.Test.YtgiokmfdafmaoaaKBit
import Derived.Test.YtgiokmfdafmaoaaKCopy
import Derived.Lib.SliceRun
/- Rounds DWord DUp DLimbs DBits DBack DTwice DTells DProduct DCode. -/
/- A region that draws its order, in a round of a loop over an iterator: from the calculus for functions' frames. -/
namespace Go.Proofs.Ytgiokmfdafmaoaa
open Go.RowKit Go.Shelf
set_option linter.unusedVariables false

theorem rowsIn_wide {n : Nat} {P : Program} {row : String} {args : Array Value} {w : World} {R : Value → World → Prop} (h : Rows P row args w R) : RowsIn Fence.wide n P row args w R :=
  fun c cs _ => let ⟨v, w', r, s⟩ := h c cs; ⟨v, w', r, stepsIn_wide.2 s⟩

section
variable {P : Program} {n r : Nat} {Q : Exit → Act → World → Prop} {ops : Array Oper}
theorem oper_round {o : Oper} {a : Act} {w : World} {K K' : Act → World → Prop} (hd : ∀ c, o.op ≠ .defer c) (hK : ∀ a w, K a w → K' a w) (h : o.wp P a w K Q) : o.wpIn (Fence.wide.inRound r) n P a w K' Q := by
  refine ⟨fun _ _ => trivial, ?_⟩
  unfold Oper.wp at h
  rw [Oper.semAt_eq _ _ _ hd]
  generalize (execOp a.eval o).run P w = x at *
  cases x with
  | ok y w' =>
    cases y <;> simp only [Oper.upon, Oper.uponIn] at h ⊢
    case value v => exact hK _ _ h
    case skip => exact hK _ _ h
    case defer d => exact hK _ _ h
    case enter f args =>
      refine ⟨fun hx => (by cases hx), CallsIn.inRound r (callsIn_wide.2 ?_)⟩
      refine h.mono fun e w'' he => ?_
      cases e <;> first | exact hK _ _ he | exact he
    case row row args =>
      refine ⟨fun hx => (by cases hx), ?_⟩
      exact RowsIn.mono (rowsIn_wide h) fun _ _ he => hK _ _ he
  | halt y w' => cases y <;> simp only [Oper.upon, Oper.uponIn] at h ⊢ <;> exact h
theorem ops_round (hd : ∀ o ∈ ops, ∀ c, o.op ≠ .defer c) (hQ : ¬ LetsOut Q) : ∀ (l : List Nat) (a : Act) (w : World), wpOps P ops Q l a w → wpOpsIn (Fence.wide.inRound r) n P ops Q l a w := by
  intro l
  induction l with
  | nil => intro a w h; exact h
  | cons i rest ih =>
    intro a w h
    unfold wpOps at h
    unfold wpOpsIn
    split at h
    · rename_i ho
      simp only [ho]
      exact ih _ _ h
    · rename_i o ho
      simp only [ho]
      by_cases hw : Region.wanted o (yielded ops a.tmps) = true
      · rw [if_pos hw] at h ⊢
        rcases h with h | h
        · exact oper_round (hd o (Array.mem_of_getElem? ho)) ih h
        · exact absurd h.2 hQ
      · rw [if_neg hw] at h ⊢
        exact ⟨fun _ _ => trivial, ih _ _ h⟩
end

def Oper.calm (o : Oper) : Bool := match o.op with | .defer _ => false | _ => true
theorem calm_all {l : List Oper} (h : l.all Oper.calm = true) : ∀ o ∈ l.toArray, ∀ c, o.op ≠ .defer c := fun o ho c e => by
  have := List.all_eq_true.1 h o (by simpa using ho)
  unfold Oper.calm at this
  rw [e] at this
  cases this

section
variable {P : Program} {n r : Nat} {Q : Exit → Act → World → Prop} {l : List Oper} {S : World → Prop} {md : Region.Mode}
theorem region_round (N : Nat) {id : Nat} {a : Act} {w : World} (hm : P.follows .mixedOrders = true) (hd : l.all Oper.calm = true) (hQ : ¬ LetsOut Q) (hN : l.length = N)
    (h : wpAnyH P .any l.toArray Q S N (Array.replicate N false) a w.drew) : (Code.region id l.toArray true).wpIn (Fence.wide.inRound r) n P Q a w := by
  refine wpIn_region_draw fun t => ops_round (calm_all hd) hQ _ _ _ ?_
  simp only [Region.schedule, hm, Bool.true_or, if_true]
  subst hN
  exact wpAny_sound l.length t (Array.replicate l.length false) a _ (wpAny_of_held _ _ _ _ h)
/-- Number i is taken first. -/
theorem takeL {i : Nat} {oi : Oper} {v : Value} {fuel : Nat} {listed : Array Bool} {a : Act} {w : World} (hi : l[i]? = some oi)
    (hs : Region.noSelect l.toArray = true) (hf : Region.free md l.toArray listed i = true) (hr : (Region.ready md l.toArray listed).contains i = true)
    (hQ : ∀ c a w, Q (.panic c) (a.put oi.dst v) w → Q (.panic c) a w) (hy : YieldsIf P l.toArray S oi v a) (hS : S w)
    (h : wpAnyH P md l.toArray Q S fuel (listed.setIfInBounds i true) (a.put oi.dst v) w) : wpAnyH P md l.toArray Q S (fuel + 1) listed a w :=
  wpAnyH_take (by simpa using hi) hs hf hr hQ hy hS h
/-- Number i alone may come up. -/
theorem carryL {i : Nat} {oi : Oper} {fuel : Nat} {listed : Array Bool} {a : Act} {w : World} (hi : l[i]? = some oi) (hr : Region.ready md l.toArray listed = [i]) (hw : Region.wanted oi (yielded l.toArray a.tmps) = true)
    (h : ∀ K : Act → World → Prop, (∀ a w, S w → (S w → wpAnyH P md l.toArray Q S fuel (listed.setIfInBounds i true) a w) → K a w) → Oper.wp P oi a w K Q) : wpAnyH P md l.toArray Q S (fuel + 1) listed a w := by
  refine wpAnyH_ready hr (by simp) (AllReadyH.cons (o := oi) (by simpa using hi) (fun K hK => ?_) AllReadyH.nil)
  rw [if_pos hw]
  exact h K hK
end
section
variable {P : Program} {Q : Exit → Act → World → Prop} {l : List Oper} {S : World → Prop} {md : Region.Mode}
theorem region_held (N : Nat) {id : Nat} {a : Act} {w : World} (hm : P.follows .mixedOrders = true) (hN : l.length = N)
    (h : wpAnyH P .any l.toArray Q S N (Array.replicate N false) a w.drew) : (Code.region id l.toArray true).wp P Q a w := by
  subst hN
  exact wp_region_held hm h
/-- Number i may come up first. -/
theorem carryC {i : Nat} {oi : Oper} {fuel : Nat} {listed : Array Bool} {a : Act} {w : World} {rs : List Nat} (hi : l[i]? = some oi) (hw : Region.wanted oi (yielded l.toArray a.tmps) = true)
    (h : ∀ K : Act → World → Prop, (∀ a w, S w → (S w → wpAnyH P md l.toArray Q S fuel (listed.setIfInBounds i true) a w) → K a w) → Oper.wp P oi a w K Q)
    (hs : AllReadyH P md l.toArray Q S fuel listed a w rs) : AllReadyH P md l.toArray Q S fuel listed a w (i :: rs) := by
  refine AllReadyH.cons (o := oi) (by simpa using hi) (fun K hK => ?_) hs
  rw [if_pos hw]
  exact h K hK
end
end Go.Proofs.Ytgiokmfdafmaoaa

/- div.byWord: a number by a word. -/
namespace Go.Proofs.Ytgiokmfdafmaoaa
open Go.RowKit Go.Shelf
attribute [local go_sem] Oper.semAt_some
set_option linter.unusedVariables false
set_option linter.unusedSimpArgs false

/-- What the rounds make: the limbs of the quotient, and what is left over. -/
def wfold (n x : Nat) {V : Nat → Nat → Prop} (pre : List (BkI n V)) : List Nat × Nat :=
  pre.foldl (fun s y => (s.1.set y.1.1 ((s.2 * B64 + y.1.2) / x), (s.2 * B64 + y.1.2) % x)) (List.replicate n 0, 0)
section
variable {n x : Nat} {V : Nat → Nat → Prop}
theorem wfold_snoc (pre : List (BkI n V)) (y : BkI n V) : wfold n x (pre ++ [y]) = ((wfold n x pre).1.set y.1.1 (((wfold n x pre).2 * B64 + y.1.2) / x), ((wfold n x pre).2 * B64 + y.1.2) % x) := by
  simp [wfold, List.foldl_append]
theorem wfold_ok (hx : 0 < x) (hV : ∀ j v, V j v → v < B64) (pre : List (BkI n V)) : (wfold n x pre).1.length = n ∧ Words (wfold n x pre).1 ∧ (wfold n x pre).2 < x := by
  refine snoc_ind (P := fun pre => (wfold n x pre).1.length = n ∧ Words (wfold n x pre).1 ∧ (wfold n x pre).2 < x) ⟨by simp [wfold], words_zeros _, hx⟩ ?_ pre
  intro pre y ⟨h1, h2, h3⟩
  rw [wfold_snoc]
  refine ⟨by simp [h1], words_set h2 ?_, Nat.mod_lt _ hx⟩
  rw [Nat.div_lt_iff_lt_mul hx]
  have h4 := hV _ _ y.2.2
  have := Nat.mul_le_mul_right B64 (show (wfold n x pre).2 + 1 ≤ x from h3)
  rw [Nat.add_mul, Nat.mul_comm x] at this
  omega
theorem wfold_val {a : List Nat} (ha : Words a) (hl : a.length = n) (hx : 0 < x) (pre : List (BkI n (fun j v => v = lim a j))) : ∀ k, k ≤ n → places pre = downs n k →
    (∀ j, j < n - k → lim (wfold n x pre).1 j = 0) ∧ val (wfold n x pre).1 * x + (wfold n x pre).2 * B64 ^ (n - k) + val (a.take (n - k)) = val a := by
  have hok := wfold_ok (n := n) (V := fun j v => v = lim a j) hx (fun j v e => by rw [e]; exact ha.get j)
  refine snoc_ind (P := fun pre => ∀ k, k ≤ n → places pre = downs n k → (∀ j, j < n - k → lim (wfold n x pre).1 j = 0) ∧ val (wfold n x pre).1 * x + (wfold n x pre).2 * B64 ^ (n - k) + val (a.take (n - k)) = val a) ?_ ?_ pre
  · intro k hk h
    have hk0 : k = 0 := by have := congrArg List.length h; rw [downs_length] at this; simpa [places] using this.symm
    subst hk0
    refine ⟨fun j hj => ?_, ?_⟩
    · simp only [wfold, List.foldl_nil]
      exact lim_zero_of_lt (words_zeros n) (by rw [val_zeros]; exact Nat.pow_pos B64_pos)
    · simp [wfold, val_zeros, val_take_all (show a.length ≤ n by omega)]
  · intro pre y ih k hk h
    have hk1 : k = pre.length + 1 := by have := congrArg List.length h; rw [places_length, downs_length] at this; simpa using this.symm
    subst hk1
    rw [places_snoc, downs_succ] at h
    obtain ⟨e1, e2⟩ := List.append_inj h (by rw [places_length, downs_length])
    have e3 : y.1.1 = n - 1 - pre.length := by simpa using e2
    obtain ⟨h1, h2⟩ := ih pre.length (by omega) e1
    obtain ⟨o1, o2, o3⟩ := hok pre
    obtain ⟨⟨j, v⟩, hj, hv⟩ := y
    simp only at e3 hv hj
    rw [wfold_snoc]
    simp only
    have ej : n - (pre.length + 1) = j := by omega
    have ej1 : n - pre.length = j + 1 := by omega
    rw [ej]
    rw [ej1] at h1 h2
    generalize (wfold n x pre).1 = L at *
    generalize (wfold n x pre).2 = r at *
    subst hv
    refine ⟨fun i hi => ?_, ?_⟩
    · rw [lim_set (by omega), if_neg (by omega)]
      exact h1 i (by omega)
    · have hs := val_set (l := L) (i := j) (by omega) ((r * B64 + lim a j) / x)
      rw [h1 j (by omega), Nat.mul_zero, Nat.add_zero] at hs
      have hd := Nat.div_add_mod (r * B64 + lim a j) x
      rw [val_take_succ] at h2
      rw [hs, ← h2, Nat.add_mul]
      generalize (r * B64 + lim a j) / x = d at *
      generalize (r * B64 + lim a j) % x = m at *
      have e5 : B64 ^ j * (x * d + m) = B64 ^ j * (r * B64 + lim a j) := by rw [hd]
      rw [Nat.mul_add, Nat.mul_add] at e5
      have e6 : B64 ^ j * d * x = B64 ^ j * (x * d) := by rw [Nat.mul_assoc, Nat.mul_comm d x]
      have e7 : m * B64 ^ j = B64 ^ j * m := Nat.mul_comm _ _
      have e8 : r * B64 ^ (j + 1) = B64 ^ j * (r * B64) := by rw [show B64 ^ (j + 1) = B64 ^ j * B64 from Nat.pow_succ ..]; simp only [Nat.mul_comm, Nat.mul_left_comm, Nat.mul_assoc]
      omega
theorem wfold_all {a : List Nat} (ha : Words a) (hl : a.length = n) (hx : 0 < x) {pre : List (BkI n (fun j v => v = lim a j))} (h : places pre = downs n n) : val (wfold n x pre).1 = val a / x ∧ (wfold n x pre).2 = val a % x := by
  obtain ⟨_, h2⟩ := wfold_val ha hl hx pre n (Nat.le_refl _) h
  have h3 := (wfold_ok (V := fun j v => v = lim a j) hx (fun j v e => by rw [e]; exact ha.get j) pre).2.2
  rw [Nat.sub_self, Nat.pow_zero, Nat.mul_one] at h2
  simp only [List.take_zero, val_nil, Nat.add_zero] at h2
  generalize (wfold n x pre).2 = r at *
  generalize val (wfold n x pre).1 = q at *
  rw [← h2, Nat.mul_comm, Nat.mul_add_div hx, Nat.mul_add_mod, Nat.div_eq_of_lt h3, Nat.mod_eq_of_lt h3]
  exact ⟨rfl, rfl⟩
end

theorem alloc4 (w : World) (o1 o2 o3 o4 : Obj) : ((((w.alloc o1).alloc o2).alloc o3).alloc o4).heap.size = w.heap.size + 4 ∧ ((((w.alloc o1).alloc o2).alloc o3).alloc o4).heap[w.heap.size]? = some o1 ∧ ((((w.alloc o1).alloc o2).alloc o3).alloc o4).heap[w.heap.size + 1]? = some o2 ∧
    ((((w.alloc o1).alloc o2).alloc o3).alloc o4).heap[w.heap.size + 2]? = some o3 ∧ ((((w.alloc o1).alloc o2).alloc o3).alloc o4).heap[w.heap.size + 3]? = some o4 ∧ Below w.heap.size w ((((w.alloc o1).alloc o2).alloc o3).alloc o4) := by
  have h2 := World.alloc_heap_new (w.alloc o1) o2
  have h3 := World.alloc_heap_new ((w.alloc o1).alloc o2) o3
  have h4 := World.alloc_heap_new (((w.alloc o1).alloc o2).alloc o3) o4
  rw [World.size_alloc] at h2
  rw [World.size_alloc, World.size_alloc] at h3
  rw [World.size_alloc, World.size_alloc, World.size_alloc] at h4
  refine ⟨by simp, ?_, ?_, ?_, h4, (((((Below.refl _ w).alloc (Nat.le_refl _) _).alloc (by simp) _).alloc (by simp; omega) _).alloc (by simp; omega) _)⟩
  · exact (Below.heap_alloc _ _ _ (by simp only [World.size_alloc]; omega)).trans ((Below.heap_alloc _ _ _ (by simp only [World.size_alloc]; omega)).trans ((Below.heap_alloc _ _ _ (by simp)).trans (World.alloc_heap_new w o1)))
  · exact (Below.heap_alloc _ _ _ (by simp only [World.size_alloc]; omega)).trans ((Below.heap_alloc _ _ _ (by simp)).trans h2)
  · exact (Below.heap_alloc _ _ _ (by simp)).trans h3
theorem boxed_far {W : World} {B g : Nat} {t : TypeId} {v : Value} (h : Boxed W B t v) (hne : B ≠ g) (i : Nat) (u : Value) : Boxed (W.setCell ⟨g, i, none⟩ u) B t v := (Below.heap_setCell W ⟨g, i, none⟩ u B hne).trans h
/-- What the rounds of byWord hand on. -/
def WdI (w : World) (n x : Nat) (V : Nat → Nat → Prop) (pre : List (BkI n V)) (W : World) : Prop :=
  Boxed W w.heap.size 64 (u64 x) ∧ Boxed W (w.heap.size + 1) 30 (.slice (some ⟨w.heap.size + 3, 0, none⟩) n n) ∧ Boxed W (w.heap.size + 2) 64 (u64 (wfold n x pre).2) ∧ RowL W (w.heap.size + 3) (wfold n x pre).1 ∧ Below w.heap.size w W ∧ w.heap.size + 5 ≤ W.heap.size
theorem wdI_own (w : World) (n x : Nat) (V : Nat → Nat → Prop) {B : Nat} (hB : w.heap.size + 5 ≤ B) : OwnFrom B (WdI w n x V) :=
  ownFrom_low hB (fun s W h => h.2.2.2.2.2) fun s W W' h hb =>
    ⟨(hb.block _ (by omega)).trans h.1, (hb.block _ (by omega)).trans h.2.1, (hb.block _ (by omega)).trans h.2.2.1, h.2.2.2.1.below hb (by omega), h.2.2.2.2.1.trans (hb.mono (by omega)), Nat.le_trans h.2.2.2.2.2 hb.size⟩

end Go.Proofs.Ytgiokmfdafmaoaa

/- div.up: a number shifted up, noughts behind it. -/
namespace Go.Proofs.Ytgiokmfdafmaoaa
open Go.RowKit Go.Shelf
set_option linter.unusedVariables false
set_option linter.unusedSimpArgs false

theorem zeros_cells (k : Nat) : (Builtin.zeroCells #[.int .u64 0] k).toList = List.replicate k (.int .u64 0) := by
  apply List.ext_getElem
  · simp [Builtin.zeroCells]
  · intro i h1 h2
    simp [Builtin.zeroCells, Nat.mod_one]
/-- Noughts laid where there is room, and noughts. -/
theorem append_zeros {w : World} {g m k : Nat} {l : List Nat} (t tn ty : TypeId) (kn : IntKind) (ht : Try.prog.underlying t = some (.slice 64)) (htn : Try.prog.underlying tn = some (.int kn)) (i : TypeInfo) (hi : Try.prog.info? 64 = some i) (hz : i.zero = some (.int .u64 0)) (hsize : i.size = 1) (hby : i.bytes = 8)
    (hrow : RowL w g l) (hl : l.length = m + k) (hk : k ≤ 4294967296) (h0 : ∀ j, m ≤ j → lim l j = 0) :
    ∃ w', (Builtin.append_ #[t, tn] ty #[.slice (some ⟨g, 0, none⟩) m (m + k), .int .i64 (k : Int)]).run Try.prog w = .ok (.slice (some ⟨g, 0, none⟩) (m + k) (m + k)) w' ∧ RowL w' g l ∧ Only g w w' := by
  have hst := run_storeCells_at Try.prog g m 64 (List.replicate k (.int .u64 0)) 0 (l.map u64).toArray w hrow (by simp; omega) (fun v hv => by rw [(List.mem_replicate.1 hv).2]; rfl)
  have hw : IntKind.i64.wrap (k : Int) = k := by rw [IntKind.wrap_i64]; omega
  have hneg : ¬ ((k : Int) < 0) := by omega
  have h48 : ¬ (281474976710656 < (k : Int) * 8) := by omega
  refine ⟨w.setRow g (((l.map u64).toArray.toList.take (m + 0)) ++ List.replicate k (Value.int .u64 0) ++ ((l.map u64).toArray.toList.drop (m + 0 + (List.replicate k (Value.int .u64 0)).length))).toArray, ?_, ?_, ?_⟩
  · by_cases hk0 : k = 0
    · subst hk0
      have hw0 : IntKind.i64.wrap (0 : Int) = 0 := by rw [IntKind.wrap_i64]; rfl
      simp [hw0, Builtin.append_, run_underlying ht, run_underlying htn, sizeOf, typeInfo, zeroValue, hi, hz, hsize, hby, asInt, asIntOf, hw, Addr.add_lit] at hst ⊢
      rw [hst]
      rfl
    · have hns : ¬ (k * 1 = 0) := by omega
      have hzc : (Builtin.zeroCells (Value.int .u64 0).cells k).toList = List.replicate k (.int .u64 0) := zeros_cells k
      simp [Builtin.append_, run_underlying ht, run_underlying htn, sizeOf, typeInfo, zeroValue, hi, hz, hsize, hby, asInt, asIntOf, hw, hneg, h48, hns, hk0, hzc, Addr.add_lit] at hst ⊢
      rw [hst]
      rfl
  · have e : (((l.map u64).toArray.toList.take (m + 0)) ++ List.replicate k (Value.int .u64 0) ++ ((l.map u64).toArray.toList.drop (m + 0 + (List.replicate k (Value.int .u64 0)).length))).toArray = (l.map u64).toArray := by
      refine congrArg List.toArray ?_
      rw [List.length_replicate, Nat.add_zero]
      have e1 : (l.map u64).drop (m + k) = [] := List.drop_eq_nil_of_le (by simp; omega)
      have e2 : (l.map u64).drop m = List.replicate k (u64 0) := by
        rw [List.eq_replicate_iff]
        refine ⟨by simp; omega, fun v hv => ?_⟩
        rw [← List.map_drop] at hv
        obtain ⟨y, hy, rfl⟩ := List.mem_map.1 hv
        obtain ⟨j, hj, e⟩ := List.mem_iff_getElem.1 hy
        have := h0 (m + j) (by omega)
        simp at hj
        rw [lim_get (by omega)] at this
        rw [List.getElem_drop] at e
        rw [← e, this]
      show (l.map u64).take m ++ List.replicate k (u64 0) ++ (l.map u64).drop (m + k) = l.map u64
      rw [e1, List.append_nil, ← e2, List.take_append_drop]
    rw [e]
    exact setRow_heap w g _ _ _ _ hrow
  · refine ⟨⟨rfl, rfl, rfl, by simp [World.setRow], fun k hk => absurd hk (by omega)⟩, fun j hj hg => ?_⟩
    simp only [World.setRow, Array.getElem?_modify]
    rw [if_neg (by omega)]

theorem lim_rest {l : List Nat} {k : Nat} (hw : Words l) (ht : l.take k = limbs (val l)) : ∀ j, k ≤ j → lim l j = 0 := by
  intro j hj
  refine lim_zero_of_lt hw ?_
  have h := val_lt (words_limbs (val l))
  rw [val_limbs, ← ht] at h
  exact Nat.lt_of_lt_of_le h (Nat.pow_le_pow_right B64_pos (by rw [List.length_take]; omega))

end Go.Proofs.Ytgiokmfdafmaoaa

/- div.byLimbs: a quotient by limbs. -/
namespace Go.Proofs.Ytgiokmfdafmaoaa
open Go.RowKit Go.Shelf
attribute [local go_sem] Oper.semAt_some
set_option linter.unusedVariables false
set_option linter.unusedSimpArgs false

/-- What the rounds have made by then: the quotient's limbs and what is left. -/
def LbG (m n N D A0 : Nat) {V : Nat → Nat → Prop} (pre : List (BkI m V)) (Lq Lf : List Nat) : Prop :=
  Lq.length = m ∧ Words Lq ∧ Lf.length = N ∧ Words Lf ∧ ∀ k, k ≤ m → places pre = downs m k → (∀ j, j < m - k → lim Lq j = 0) ∧ val Lq * D + val Lf = A0 ∧ val (Lf.drop (m - k)) < D
section
variable {m n N D A0 : Nat} {V : Nat → Nat → Prop}
theorem val_drop_one (l : List Nat) (i : Nat) : val (l.drop i) = lim l i + B64 * val (l.drop (i + 1)) := by
  by_cases h : i < l.length
  · rw [List.drop_eq_getElem_cons h, val_cons, lim_get h]
  · rw [List.drop_eq_nil_of_le (by omega), List.drop_eq_nil_of_le (by omega), lim_past (by omega)]
    rfl
theorem drop_zero_val {l : List Nat} (h : Words l) {c p : Nat} (hv : val (l.drop c) < B64 ^ p) : val (l.drop (c + p)) = 0 := by
  rw [← List.drop_drop, val_drop_div (h.drop c)]
  exact Nat.div_eq_of_lt hv
theorem lbG_step {pre : List (BkI m V)} {Lq Lf T2 : List Nat} {x : BkI m V} {q i : Nat} (hG : LbG m n N D A0 pre Lq Lf) (hi : x.1.1 = i) (hN : m + n = N + 1) (hn : 1 ≤ n) (hD0 : 0 < D) (hD : D < B64 ^ (n - 1)) (hq : q < B64) (hT2 : T2.length = n) (hw2 : Words T2)
    (hv : val T2 + q * D = val ((Lf.drop i).take n)) (hex : val ((Lf.drop i).take n) < D * B64 → q = val ((Lf.drop i).take n) / D) : LbG m n N D A0 (pre ++ [x]) (Lq.set i q) (Lf.take i ++ T2 ++ Lf.drop (i + n)) := by
  obtain ⟨h1, h2, h3, h4, h5⟩ := hG
  have him : i < m := by rw [← hi]; exact x.2.1
  refine ⟨by simp [h1], words_set h2 hq, ?_, words_append (words_append (h4.take i) hw2) (h4.drop _), fun k hk hp => ?_⟩
  · simp only [List.length_append, List.length_take, List.length_drop, h3, hT2]; omega
  · have hk1 : k = pre.length + 1 := by have := congrArg List.length hp; rw [places_length, downs_length] at this; simpa using this.symm
    subst hk1
    rw [places_snoc, downs_succ] at hp
    obtain ⟨e1, e2⟩ := List.append_inj hp (by rw [places_length, downs_length])
    have e3 : i = m - 1 - pre.length := by rw [← hi]; simpa using e2
    obtain ⟨g1, g2, g3⟩ := h5 pre.length (by omega) e1
    have ec : m - pre.length = i + 1 := by omega
    have ec2 : m - (pre.length + 1) = i := by omega
    rw [ec] at g1 g3
    rw [ec2]
    have hz : val (Lf.drop (i + n)) = 0 := by
      have := drop_zero_val h4 (Nat.lt_trans g3 hD)
      rwa [show i + 1 + (n - 1) = i + n by omega] at this
    have hs := val_split' (Lf.drop i) n
    rw [List.drop_drop, hz, Nat.mul_zero, Nat.add_zero] at hs
    have hd1 := val_drop_one Lf i
    have hli := h4.get i
    have hlt : val ((Lf.drop i).take n) < D * B64 := by
      rw [← hs, hd1, Nat.mul_comm D]
      have := Nat.mul_le_mul_left B64 (show val (Lf.drop (i + 1)) + 1 ≤ D from g3)
      rw [Nat.mul_add] at this
      omega
    have hqe := hex hlt
    have hT2v : val T2 < D := by
      have h6 := Nat.div_add_mod (val ((Lf.drop i).take n)) D
      have h7 := Nat.mod_lt (val ((Lf.drop i).take n)) hD0
      rw [← hqe, Nat.mul_comm] at h6
      omega
    have hlt2 : (Lf.take i).length = i := by rw [List.length_take]; omega
    refine ⟨fun j hj => ?_, ?_, ?_⟩
    · rw [lim_set (by omega), if_neg (by omega)]
      exact g1 j (by omega)
    · have hs2 := val_set (l := Lq) (i := i) (by omega) q
      rw [g1 i (by omega), Nat.mul_zero, Nat.add_zero] at hs2
      have hs3 := val_split' Lf i
      rw [hs] at hs3
      rw [hs2, val_append, val_append, hz, Nat.mul_zero, Nat.add_zero, hlt2, ← g2, hs3, Nat.add_mul, ← hv, Nat.mul_add, Nat.mul_assoc]
      omega
    · have e : (Lf.take i ++ T2 ++ Lf.drop (i + n)).drop i = T2 ++ Lf.drop (i + n) := by
        rw [List.append_assoc, List.drop_append_of_le_length (by omega), List.drop_eq_nil_of_le (by omega), List.nil_append]
      rw [e, val_append, hz, Nat.mul_zero, Nat.add_zero]
      exact hT2v
theorem lbG_start {L0 : List Nat} (hl : L0.length = N) (hw : Words L0) (hv : val L0 = A0) (hlt : A0 < B64 ^ m * D) : LbG m n N D A0 ([] : List (BkI m V)) (List.replicate m 0) L0 := by
  refine ⟨by simp, words_zeros m, hl, hw, fun k hk hp => ?_⟩
  have hk0 : k = 0 := by have := congrArg List.length hp; rw [downs_length] at this; simpa [places] using this.symm
  subst hk0
  refine ⟨fun j hj => lim_zero_of_lt (words_zeros m) (by rw [val_zeros]; exact Nat.pow_pos B64_pos), by rw [val_zeros, hv]; omega, ?_⟩
  rw [Nat.sub_zero, val_drop_div hw, hv, Nat.div_lt_iff_lt_mul (Nat.pow_pos B64_pos), Nat.mul_comm]
  exact hlt
theorem lbG_end {pre : List (BkI m V)} {Lq Lf : List Nat} (h : LbG m n N D A0 pre Lq Lf) (hp : places pre = downs m m) (hD : 0 < D) : val Lq = A0 / D ∧ val Lf = A0 % D := by
  obtain ⟨_, _, _, _, h5⟩ := h
  obtain ⟨_, g2, g3⟩ := h5 m (Nat.le_refl _) hp
  rw [Nat.sub_self, List.drop_zero] at g3
  rw [← g2, Nat.mul_comm, Nat.mul_add_div hD, Nat.mul_add_mod, Nat.div_eq_of_lt g3, Nat.mod_eq_of_lt g3]
  exact ⟨rfl, rfl⟩
end

theorem lead_facts {a b : List Nat} {n1 na y : Nat} (hwa : Words a) (hla : a.length = na) (hwb : Words b) (hlb : b.length = n1 + 1) (hm : may b = true) (hy : lim b n1 = y) (hna : n1 + 1 ≤ na) :
    64 - Lib.bitLen y ≤ 63 ∧ 0 < val b * 2 ^ (64 - Lib.bitLen y) ∧ val b * 2 ^ (64 - Lib.bitLen y) < B64 ^ (n1 + 1) ∧ val a * 2 ^ (64 - Lib.bitLen y) < B64 ^ (na - n1) * (val b * 2 ^ (64 - Lib.bitLen y)) := by
  have hyb : y < B64 := by rw [← hy]; exact hwb.get _
  have hne : b ≠ [] := fun e => by rw [e] at hlb; simp at hlb
  have hy0 : y ≠ 0 := by
    have := may_last hne
    rw [hlb, Nat.add_sub_cancel, hy, hm] at this
    simpa using this.symm
  obtain ⟨k1, k2, k3⟩ := Lib.bitLenAux_bounds 64 y hyb hy0
  have hb : Lib.bitLen y ≤ 64 := Lib.bitLen_le _ 64 (Nat.le_refl _) hyb
  obtain ⟨s, hs⟩ : ∃ s, 64 - Lib.bitLen y = s := ⟨_, rfl⟩
  have e1 : Lib.bitLenAux 64 y = 64 - s := by show Lib.bitLen y = _; omega
  rw [e1] at k1 k2 k3
  rw [hs]
  have hp := Nat.two_pow_pos s
  have hbs := B64_split (r := s) (by omega)
  have hv := val_take_succ b n1
  rw [val_take_all (by omega), hy] at hv
  have ht : val (b.take n1) < B64 ^ n1 := Nat.lt_of_lt_of_le (val_lt (hwb.take n1)) (Nat.pow_le_pow_right B64_pos (by rw [List.length_take]; omega))
  have hge : B64 ^ n1 ≤ val b := by
    have := Nat.mul_le_mul_left (B64 ^ n1) (show 1 ≤ y by omega)
    omega
  have hlt : val b < B64 ^ n1 * 2 ^ (64 - s) := by
    have := Nat.mul_le_mul_left (B64 ^ n1) (show y + 1 ≤ 2 ^ (64 - s) from k3)
    rw [Nat.mul_add] at this
    omega
  refine ⟨by omega, Nat.mul_pos (Nat.lt_of_lt_of_le (Nat.pow_pos B64_pos) hge) hp, ?_, ?_⟩
  · rw [show B64 ^ (n1 + 1) = B64 ^ n1 * (2 ^ (64 - s) * 2 ^ s) by rw [← hbs]; exact Nat.pow_succ .., ← Nat.mul_assoc]
    exact Nat.mul_lt_mul_of_pos_right hlt hp
  · have ha := val_lt hwa
    rw [hla, show na = (na - n1) + n1 by omega, Nat.pow_add] at ha
    rw [← Nat.mul_assoc]
    refine Nat.mul_lt_mul_of_pos_right (Nat.lt_of_lt_of_le ha ?_) hp
    exact Nat.mul_le_mul_left _ hge

/-- What a store of two cells has left. -/
theorem store2 {W : World} {g : Nat} {x y u v : Value} {t : TypeId} (h : W.heap[g]? = some (.cells #[x, y] t)) : ((W.setCell ⟨g, 0, none⟩ u).setCell ⟨g, 1, none⟩ v).heap[g]? = some (.cells #[u, v] t) ∧ Only g W ((W.setCell ⟨g, 0, none⟩ u).setCell ⟨g, 1, none⟩ v) := by
  refine ⟨?_, ((Only.refl g W).setCell rfl u).setCell rfl v⟩
  simp [World.setCell, Array.getElem?_modify, h]
theorem alloc_facts (W : World) (o : Obj) : ∃ W', W.alloc o = W' ∧ W'.heap[W.heap.size]? = some o ∧ Below W.heap.size W W' ∧ W.heap.size < W'.heap.size :=
  ⟨_, rfl, World.alloc_heap_new W o, (Below.refl _ W).alloc (Nat.le_refl _) o, by simp⟩
theorem wpIn_cut {F : Fence} {n : Nat} {P : Program} {c : Code} {Q : Exit → Act → World → Prop} {a : Act} {w : World} (Φ : Act → Act → World → Prop) (h1 : c.wpIn F n P (fun e a' w' => e = .normal ∧ Φ a a' w') a w) (h2 : ∀ a' w', Φ a a' w' → Q .normal a' w') : c.wpIn F n P Q a w :=
  wpIn_mono h1 fun e a' w' h => by rw [h.1]; exact h2 _ _ h.2

theorem has_row {W : World} {g m : Nat} (h : ∃ L, RowL W g L ∧ L.length = m) : Has W (some ⟨g, 0, none⟩) m (fun _ _ => True) := fun i hi => by
  obtain ⟨L, hr, hl⟩ := h
  exact ⟨g, 0, lim L i, rfl, trivial, by rw [Nat.zero_add]; exact hr.cell (by omega)⟩
end Go.Proofs.Ytgiokmfdafmaoaa

/- div.bitByBit: a quotient bit by bit. -/
namespace Go.Proofs.Ytgiokmfdafmaoaa
open Go.RowKit Go.Shelf
set_option linter.unusedVariables false
set_option linter.unusedSimpArgs false

theorem wpList_copy_run {P : Program} (w : World) {ops : Array Oper} {rest : List Oper} {o : Oper} {a : Act} {Q : Exit → Act → World → Prop} (hgd : o.guard = none) (d s : Operand) (t1 t2 : TypeId)
    (ho : o.op = .call { callee := .builtin .copy, args := #[d, s], argTypes := #[t1, t2] }) (vd vs : Value) (hd : a.eval d = vd) (hs : a.eval s = vs)
    (v' : Value) (w' : World) (hr : (Builtin.copy_ #[t1, t2] o.type #[vd, vs]).run P w = .ok v' w') (h : wpList P ops Q rest (a.put o.dst v') w') : wpList P ops Q (o :: rest) a w :=
  wpList_plain hgd fun K hK => by
    unfold Oper.wp execOp
    simp only [ho, resolve, invoke, builtin, Sem.run_bind, Sem.run_pure, Result.andThen_ok, List.map_toArray, List.map_cons, List.map_nil, hd, hs, hr]
    exact hK _ _ h

/-- One row over another one, of the same length. -/
theorem copy_rows {w : World} {gt gr n : Nat} {T R : List Nat} (ty : TypeId) (hT : RowL w gt T) (hR : RowL w gr R) (hlt : T.length = n) (hlr : R.length = n) :
    ∃ w', (Builtin.copy_ #[30, 30] ty #[.slice (some ⟨gt, 0, none⟩) n n, .slice (some ⟨gr, 0, none⟩) n n]).run Try.prog w = .ok (goInt n) w' ∧ RowL w' gt R ∧ Only gt w w' := by
  have h := run_copy_row (P := Try.prog) w 30 30 ty 64 gt 0 n n ⟨gr, 0, none⟩ n n (T.map u64).toArray 64 (R.map u64) Try.underlying30 (by kernel_rfl) hT (by simp [hlr])
    (fun j v hv => by
      have hj : j < R.length := by have := (List.getElem?_eq_some_iff.1 hv).1; simpa using this
      rw [Addr.add_lit, Nat.zero_add, hR.cell hj]
      rw [List.getElem?_map, List.getElem?_eq_getElem hj] at hv
      simp at hv
      rw [← hv, lim_get hj]) (by simp; omega) (fun v hv => by obtain ⟨y, _, rfl⟩ := List.mem_map.1 hv; rfl)
  rw [List.length_map, hlr] at h
  refine ⟨_, h, ?_, ?_⟩
  · have e : ((T.map u64).toArray.toList.take 0 ++ R.map u64 ++ (T.map u64).toArray.toList.drop (0 + n)).toArray = (R.map u64).toArray := by
      refine congrArg List.toArray ?_
      show List.take 0 (T.map u64) ++ R.map u64 ++ List.drop (0 + n) (T.map u64) = _
      rw [List.take_zero, List.nil_append, List.drop_eq_nil_of_le (by simp; omega), List.append_nil]
    rw [e]
    exact setRow_heap w gt _ _ _ _ hT
  · refine ⟨⟨rfl, rfl, rfl, by simp [World.setRow], fun k hk => absurd hk (by omega)⟩, fun j hj hg => ?_⟩
    simp only [World.setRow, Array.getElem?_modify]
    rw [if_neg (by omega)]

theorem or_bit {x t : Nat} (hx : x % 2 ^ (t + 1) = 0) (ht : t < 64) (hxb : x < B64) : Go.bits BinOp.or IntKind.u64 (x : Int) (IntKind.u64.wrap (2 ^ t)) = ((x + 2 ^ t : Nat) : Int) ∧ x + 2 ^ t < B64 := by
  have h2 : (2 : Nat) ^ t < B64 := by rw [show B64 = 2 ^ 64 from rfl]; exact Nat.pow_lt_pow_right (by omega) ht
  have e0 : x = 2 ^ (t + 1) * (x / 2 ^ (t + 1)) := by have := Nat.div_add_mod x (2 ^ (t + 1)); omega
  have e1 : x ||| 2 ^ t = x + 2 ^ t := by
    have := Nat.two_pow_add_eq_or_of_lt (i := t + 1) (b := 2 ^ t) (Nat.pow_lt_pow_right (by omega) (by omega)) (x / 2 ^ (t + 1))
    rw [← e0] at this
    exact this.symm
  have e2 : IntKind.u64.wrap ((2 : Int) ^ t) = ((2 ^ t : Nat) : Int) := by
    rw [show ((2 : Int) ^ t) = ((2 ^ t : Nat) : Int) by simp, u64_wrap_nat, Nat.mod_eq_of_lt h2]
  refine ⟨by rw [e2, bits_or_u64_nat _ _ hxb h2, e1], ?_⟩
  rw [← e1]
  exact Nat.or_lt_two_pow (n := 64) hxb h2
/-- One bit more of the quotient. -/
theorem bit_more {L : List Nat} {Q i p t : Nat} (hw : Words L) (hv : val L = Q * 2 ^ (i + 1)) (hi : i = 64 * p + t) (ht : t < 64) (hp : p < L.length) :
    lim L p % 2 ^ (t + 1) = 0 ∧ val (L.set p (lim L p + 2 ^ t)) = (2 * Q + 1) * 2 ^ i := by
  have e1 : (2 : Nat) ^ (i + 1) = B64 ^ p * 2 ^ (t + 1) := by rw [B64_pow, ← Nat.pow_add, hi]; rfl
  have e2 : (2 : Nat) ^ i = B64 ^ p * 2 ^ t := by rw [B64_pow, ← Nat.pow_add, hi]
  constructor
  · rw [lim_val hw, hv, e1, Nat.mul_left_comm, Nat.mul_div_cancel_left _ (Nat.pow_pos B64_pos), show B64 = 2 ^ 64 from rfl, Nat.mod_mod_of_dvd _ (Nat.pow_dvd_pow 2 (by omega))]
    exact Nat.mul_mod_left _ _
  · have hs := val_set hp (lim L p + 2 ^ t)
    rw [Nat.mul_add] at hs
    have e3 : val L = 2 * Q * 2 ^ i := by rw [hv, Nat.pow_succ, Nat.mul_comm (2 ^ i) 2, ← Nat.mul_assoc, Nat.mul_comm Q 2]
    rw [Nat.add_mul, Nat.one_mul, ← e3, e2]
    omega
theorem bit_no {L : List Nat} {Q i : Nat} (hv : val L = Q * 2 ^ (i + 1)) : val L = 2 * Q * 2 ^ i := by rw [hv, Nat.pow_succ, Nat.mul_comm (2 ^ i) 2, ← Nat.mul_assoc, Nat.mul_comm Q 2]
/-- What the try tells. -/
theorem try_yes {r2 t2 D P over short V : Nat} (hd : r2 + P * over = V) (hl : t2 + D = r2 + P * short) (h : short ≤ over) (ho : over ≤ 1) (hV : V < 2 * D) (hDP : D < P) : D ≤ V ∧ t2 = V - D := by
  rcases (by omega : (short = 0 ∧ over = 0) ∨ (short = 0 ∧ over = 1) ∨ (short = 1 ∧ over = 1)) with ⟨rfl, rfl⟩ | ⟨rfl, rfl⟩ | ⟨rfl, rfl⟩
  · simp at hd hl; omega
  · simp at hd hl; omega
  · simp at hd hl; omega
theorem try_no {r2 t2 D P over short V : Nat} (hd : r2 + P * over = V) (hl : t2 + D = r2 + P * short) (h : over < short) (hs : short ≤ 1) (ht2 : t2 < P) : V < D ∧ r2 = V := by
  obtain ⟨rfl, rfl⟩ : over = 0 ∧ short = 1 := by omega
  simp at hd hl
  omega
theorem wp_cut {P : Program} {c : Code} {Q : Exit → Act → World → Prop} {a : Act} {w : World} (Φ : Act → Act → World → Prop) (h1 : c.wp P (fun e a' w' => e = .normal ∧ Φ a a' w') a w) (h2 : ∀ a' w', Φ a a' w' → Q .normal a' w') : c.wp P Q a w :=
  Code.wp_mono (fun e a' w' h => by rw [h.1]; exact h2 _ _ h.2) h1
/-- Behind the making of the quotient and of what is left over. -/
def Reg1 (na nb : Nat) (av bv : Value) (w : World) (a a' : Act) (W : World) : Prop :=
  ∃ gq gr, a' = ((((((((a.put (some 11) av).put (some 12) (.int .i64 (na : Int))).put (some 14) bv).put (some 15) (.int .i64 (nb : Int))).put (some 13) (.slice (some ⟨gq, 0, none⟩) na na)).put (some 16) (.slice (some ⟨gr, 0, none⟩) nb nb)).put (some 4) (.slice (some ⟨gq, 0, none⟩) na na)).put (some 5) (.slice (some ⟨gr, 0, none⟩) nb nb)) ∧
    RowL W gq (List.replicate na 0) ∧ RowL W gr (List.replicate nb 0) ∧ gq ≠ gr ∧ w.heap.size ≤ gq ∧ w.heap.size ≤ gr ∧ Below w.heap.size w W

end Go.Proofs.Ytgiokmfdafmaoaa

/- The law DivBack: the quotient, multiplied, and what is left over, lead home. -/
namespace Go.Proofs.Ytgiokmfdafmaoaa
open Go.RowKit Go.Shelf
set_option linter.unusedVariables false
set_option linter.unusedSimpArgs false

section
variable {F : Nat} (A A2 : Option Addr) (na ca nb cb : Nat) (a b : List Nat) (w : World)
theorem div_no (hD : DivIs F) (E : Int) (he : divE a b = E) (h0 : E ≠ 0) (hra : Rd w A na a) (hrb : Rd w A2 nb b) (hna : na ≤ 1000) (hnb : nb ≤ 1000) (q1 : na ≤ ca ∧ ca ≤ 9223372036854775807) (q2 : nb ≤ cb ∧ cb ≤ 9223372036854775807) :
    Calls Try.prog F #[.slice A na ca, .slice A2 nb cb] w fun e w' => ∃ A c A2 c2, e = .returned (.tuple #[.slice A 0 c, .slice A2 0 c2, .int .i64 E]) ∧ Below w.heap.size w w' := by
  have h := hD A A2 na ca nb cb a b w hra hrb hna hnb q1 q2
  rw [quoL_no (by rw [he]; exact h0), remL_no (by rw [he]; exact h0), he] at h
  refine h.mono ?_
  rintro e w' ⟨A3, k3, c3, A4, k4, c4, rfl, o3, o4, hb⟩
  obtain rfl : k3 = 0 := o3.rd.2.1
  obtain rfl : k4 = 0 := o4.rd.2.1
  exact ⟨_, _, _, _, rfl, hb⟩
theorem int_ne0 {n : Nat} (h : n ≠ 0) : ((n : Int) == 0) = false := by simp; omega
end
section
variable (hD : DivIs 0) (hL : DivIs 0) (A A2 : Option Addr) (na ca nb cb : Nat) (a b : List Nat) (w : World)
include hD hL

end

end Go.Proofs.Ytgiokmfdafmaoaa

/- The law DivTwice: divided twice; by a word. -/
namespace Go.Proofs.Ytgiokmfdafmaoaa
open Go.RowKit Go.Shelf
set_option linter.unusedVariables false
set_option linter.unusedSimpArgs false

theorem quo_words (a b : List Nat) : Words (quoL a b) := by
  unfold quoL
  split
  · exact words_limbs _
  · exact words_nil
theorem rem_canon (a b : List Nat) : limbs (val (remL a b)) = remL a b := by
  unfold remL
  split
  · rw [val_limbs]
  · rw [val_nil, limbs_zero]
theorem val_rem_lt {a : List Nat} {x : Nat} (hx : x < B64) : val (remL a (limbs x)) < B64 := by
  unfold remL
  split
  · rw [val_limbs, val_limbs]
    by_cases h : x = 0
    · subst h
      rename_i he
      rw [limbs_zero] at he
      unfold divE at he
      split at he <;> simp at he
    · exact Nat.lt_trans (Nat.mod_lt _ (by omega)) hx
  · rw [val_nil]; exact B64_pos
theorem twice_is {a b c : List Nat} (h1 : divE a b = 0) (h2 : divE (quoL a b) c = 0) : quoL a (limbs (val b * val c)) = quoL (quoL a b) c ∧ divE a (limbs (val b * val c)) = 0 := by
  have h1' := h1
  rcases divE_cases a b with ⟨_, hma, hmb, hb⟩ | ⟨he, _⟩ | ⟨he, _⟩
  · rcases divE_cases (quoL a b) c with ⟨_, hmq, hmc, hc⟩ | ⟨he, _⟩ | ⟨he, _⟩
    · have hb0 := val_pos hmb hb
      have hc0 := val_pos hmc hc
      have hp : val b * val c ≠ 0 := Nat.ne_of_gt (Nat.mul_pos hb0 hc0)
      have e : divE a (limbs (val b * val c)) = 0 := divE_ok hma (may_limbs _) (fun h => hp (limbs_eq_nil.1 h))
      refine ⟨?_, e⟩
      rw [quoL_ok e, quoL_ok h2, quoL_ok h1, val_limbs, val_limbs, Nat.div_div_eq_div_mul]
    · rw [he] at h2; omega
    · rw [he] at h2; omega
  · rw [he] at h1; omega
  · rw [he] at h1; omega
section
variable (hD : DivIs 0) (hL : DivIs 0) (A A2 A3 : Option Addr) (na ca nb cb nc cc : Nat) (a b c : List Nat) (w : World)
theorem same_l (hra : Rd w A na a) (hrb : Rd w A2 nb b) (hna : na ≤ 100000) (hnb : nb ≤ 100000) (h : a = b) :
    Calls Try.prog 39 #[.slice A na ca, .slice A2 nb cb] w fun e w' => e = .returned (.bool true) ∧ Below w.heap.size w w' := by
  subst h
  have h := same_any A A2 na ca nb cb a a w hra hrb (by omega) (by omega)
  rwa [decide_eq_true rfl] at h
include hD hL

end

end Go.Proofs.Ytgiokmfdafmaoaa

/- The law DivTells: quotients, however they are made, are the document's. -/
namespace Go.Proofs.Ytgiokmfdafmaoaa
open Go.RowKit Go.Shelf
set_option linter.unusedVariables false
set_option linter.unusedSimpArgs false

section
variable (hD : DivIs 0) (hL : DivIs 0) (A A2 : Option Addr) (na ca nb cb : Nat) (a b : List Nat) (w : World)
theorem exact_len (hw : Words a) : (exactL a b).length ≤ a.length := by
  unfold exactL
  split
  · exact length_of_le hw (Nat.div_le_self _ _)
  · simp

end

end Go.Proofs.Ytgiokmfdafmaoaa

/- The law DivProduct: a product divided by one of its numbers. -/
namespace Go.Proofs.Ytgiokmfdafmaoaa
open Go.RowKit Go.Shelf
set_option linter.unusedVariables false
set_option linter.unusedSimpArgs false

section
variable (hD : DivIs 0) (hL : DivIs 0) (A A2 A3 : Option Addr) (na ca nb cb nc cc : Nat) (a b c : List Nat) (w : World)
include hD hL

end

end Go.Proofs.Ytgiokmfdafmaoaa

/- div's calls, as they landed. -/
namespace Go.Proofs.Ytgiokmfdafmaoaa
open Go.RowKit Go.Shelf
set_option linter.unusedVariables false
set_option linter.unusedSimpArgs false

theorem wpList_copyB {P : Program} {w : World} {ops : Array Oper} {rest : List Oper} {o : Oper} {st : Act} {Q : Exit → Act → World → Prop} (hgd : o.guard = none) (s x : Operand) (t : TypeId)
    (ho : o.op = .call { callee := .builtin .append, args := #[s, x], argTypes := #[t, t] })
    (i : TypeInfo) (ht : P.underlying t = some (.slice 64)) (hi : P.info? 64 = some i) (hz : i.zero = some (.int .u64 0)) (hsize : i.size = 1) (hby : i.bytes = 8)
    (hs : st.eval s = .slice (some ⟨w.heap.size, 0, none⟩) 0 0) (A : Option Addr) (m c : Nat) (a : List Nat) (hx : st.eval x = .slice A m c) (hA : A = none → m = 0 ∧ c = 0) (hra : Rd w A m a) (hm : m ≤ 1000)
    (h : ∀ A' c' w', Own w' w.heap.size (.slice A' m c') a → Below w.heap.size w w' → wpList P ops Q rest (st.put o.dst (.slice A' m c')) w') :
    wpList P ops Q (o :: rest) st (w.alloc (.cells #[] 64)) := by
  have hown : (w.alloc (.cells #[] 64)).ownsRow w.heap.size 64 1 (.slice (some ⟨w.heap.size, 0, none⟩) 0 0) 0 [] := World.ownsRow_made w #[] 0 (Nat.le_refl _) (Nat.zero_le _) rfl
  have hal := hra.len
  have hB1 : Below w.heap.size w (w.alloc (.cells #[] 64)) := (Below.refl _ w).alloc (Nat.le_refl _) _
  cases A with
  | none =>
    obtain ⟨rfl, rfl⟩ := hA rfl
    have ha : a = [] := List.eq_nil_of_length_eq_zero hal
    subst ha
    exact wpList_append_own_none hgd s x t ho w.heap.size 64 i 1 ht hi _ 0 [] hs hown hx (h _ _ _ ⟨hown, words_nil⟩ hB1)
  | some ad =>
    refine wpList_append_own _ hgd s x t ho w.heap.size 64 i _ 1 8 ht hi hz hsize hby (by rfl) (by omega) _ _ _ hs hown ad m c (a.map u64) hx (by simp [hal]) ?_ ?_ (by simp only [maxLen]; omega) (by omega) (by simp) ?_
    · intro j u hj
      have hjl : j < a.length := by
        have := (List.getElem?_eq_some_iff.1 hj).1
        simpa using this
      obtain ⟨b0, off, e, hlt, hc⟩ := (hra.alloc (.cells #[] 64)).cells (by omega)
      cases e
      have h := hc j (by omega)
      have hu : u = u64 (lim a j) := by
        rw [List.getElem?_map, List.getElem?_eq_getElem hjl] at hj
        simp at hj
        rw [← hj, lim_get hjl]
      rw [hu, ← h]
      congr 1
      unfold Addr.add
      split
      · next h0 => subst h0; simp
      · rfl
    · intro u hu
      obtain ⟨x, _, rfl⟩ := List.mem_map.1 hu
      rfl
    · intro v1 w1 ho1 hg1 _
      have ho2 : Own w1 w.heap.size v1 a := ⟨by rw [hal]; simpa using ho1, hra.words⟩
      obtain ⟨A1, c1, rfl⟩ := own_shape ho2
      rw [hal] at ho2 ⊢
      refine h _ _ _ ho2 (hB1.grown hg1 (by simp) (fun k e => ?_))
      simp [Value.ownBlock] at e
      omega

/-- A way of making a quotient of two numbers that may be. -/
def WayIs (F : Nat) : Prop := ∀ (A A2 : Option Addr) (na ca nb cb : Nat) (a b : List Nat) (w : World), Rd w A na a → Rd w A2 nb b → na ≤ 1000 → nb ≤ 1000 → may a = true → may b = true → b ≠ [] →
    Calls Try.prog F #[.slice A na ca, .slice A2 nb cb] w fun e w' => ∃ A' k c A3 k3 c3, e = .returned (.tuple #[.slice A' k c, .slice A3 k3 c3]) ∧ Own w' w.heap.size (.slice A' k c) (limbs (val a / val b)) ∧ Own w' w.heap.size (.slice A3 k3 c3) (limbs (val a % val b)) ∧ Below w.heap.size w w'

theorem bad_one {a : List Nat} (h : may a = true) : bad [a] = 0 := by unfold bad; rw [if_pos (by simp [h])]
theorem bad_one' {a : List Nat} (h : may a = false) : bad [a] = 8 := by unfold bad; rw [if_neg (by simp [h])]

end Go.Proofs.Ytgiokmfdafmaoaa
