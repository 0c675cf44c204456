import Derived.Test.YtgiokmfdafmaoaaGreatJDLimb
import Derived.OrdersHeld
import Derived.Deep.RegionHeld
import Derived.Test.YtgiokmfdafmaoaaGreatJNm
import Derived.Test.YtgiokmfdafmaoaaGreatJUp
import Derived.Lib.AppendZeros
import Derived.Deep.RegionHeld3
import Derived.Test.YtgiokmfdafmaoaaGreatJDown
import Derived.Test.YtgiokmfdafmaoaaGreatJRefDiv
import Derived.Test.YtgiokmfdafmaoaaGreatJDNames
import Derived.Test.YtgiokmfdafmaoaaGreatJBit
import Derived.Test.YtgiokmfdafmaoaaGreatJCopy
import Derived.Lib.SliceRun
/- Rounds DWord DUp DLimbs DBits DBack DTwice DTells DProduct DCode. -/
/- A region that draws its order, in a round of a loop over an iterator: from the calculus for functions' frames. -/
namespace Go.Proofs.YtgiokmfdafmaoaaGreat
open Go.RowKit Go.Shelf
set_option linter.unusedVariables false

theorem rowsIn_wide {n : Nat} {P : Program} {row : String} {args : Array Value} {w : World} {R : Value → World → Prop} (h : Rows P row args w R) : RowsIn Fence.wide n P row args w R :=
  fun c cs _ => let ⟨v, w', r, s⟩ := h c cs; ⟨v, w', r, stepsIn_wide.2 s⟩

section
variable {P : Program} {n r : Nat} {Q : Exit → Act → World → Prop} {ops : Array Oper}
theorem oper_round {o : Oper} {a : Act} {w : World} {K K' : Act → World → Prop} (hd : ∀ c, o.op ≠ .defer c) (hK : ∀ a w, K a w → K' a w) (h : o.wp P a w K Q) : o.wpIn (Fence.wide.inRound r) n P a w K' Q := by
  refine ⟨fun _ _ => trivial, ?_⟩
  unfold Oper.wp at h
  rw [Oper.semAt_eq _ _ _ hd]
  generalize (execOp a.eval o).run P w = x at *
  cases x with
  | ok y w' =>
    cases y <;> simp only [Oper.upon, Oper.uponIn] at h ⊢
    case value v => exact hK _ _ h
    case skip => exact hK _ _ h
    case defer d => exact hK _ _ h
    case enter f args =>
      refine ⟨fun hx => (by cases hx), CallsIn.inRound r (callsIn_wide.2 ?_)⟩
      refine h.mono fun e w'' he => ?_
      cases e <;> first | exact hK _ _ he | exact he
    case row row args =>
      refine ⟨fun hx => (by cases hx), ?_⟩
      exact RowsIn.mono (rowsIn_wide h) fun _ _ he => hK _ _ he
  | halt y w' => cases y <;> simp only [Oper.upon, Oper.uponIn] at h ⊢ <;> exact h
theorem ops_round (hd : ∀ o ∈ ops, ∀ c, o.op ≠ .defer c) (hQ : ¬ LetsOut Q) : ∀ (l : List Nat) (a : Act) (w : World), wpOps P ops Q l a w → wpOpsIn (Fence.wide.inRound r) n P ops Q l a w := by
  intro l
  induction l with
  | nil => intro a w h; exact h
  | cons i rest ih =>
    intro a w h
    unfold wpOps at h
    unfold wpOpsIn
    split at h
    · rename_i ho
      simp only [ho]
      exact ih _ _ h
    · rename_i o ho
      simp only [ho]
      by_cases hw : Region.wanted o (yielded ops a.tmps) = true
      · rw [if_pos hw] at h ⊢
        rcases h with h | h
        · exact oper_round (hd o (Array.mem_of_getElem? ho)) ih h
        · exact absurd h.2 hQ
      · rw [if_neg hw] at h ⊢
        exact ⟨fun _ _ => trivial, ih _ _ h⟩
end

def Oper.calm (o : Oper) : Bool := match o.op with | .defer _ => false | _ => true
theorem calm_all {l : List Oper} (h : l.all Oper.calm = true) : ∀ o ∈ l.toArray, ∀ c, o.op ≠ .defer c := fun o ho c e => by
  have := List.all_eq_true.1 h o (by simpa using ho)
  unfold Oper.calm at this
  rw [e] at this
  cases this

section
variable {P : Program} {n r : Nat} {Q : Exit → Act → World → Prop} {l : List Oper} {S : World → Prop} {md : Region.Mode}
theorem region_round (N : Nat) {id : Nat} {a : Act} {w : World} (hm : P.follows .mixedOrders = true) (hd : l.all Oper.calm = true) (hQ : ¬ LetsOut Q) (hN : l.length = N)
    (h : wpAnyH P .any l.toArray Q S N (Array.replicate N false) a w.drew) : (Code.region id l.toArray true).wpIn (Fence.wide.inRound r) n P Q a w := by
  refine wpIn_region_draw fun t => ops_round (calm_all hd) hQ _ _ _ ?_
  simp only [Region.schedule, hm, Bool.true_or, if_true]
  subst hN
  exact wpAny_sound l.length t (Array.replicate l.length false) a _ (wpAny_of_held _ _ _ _ h)
/-- Number i is taken first. -/
theorem takeL {i : Nat} {oi : Oper} {v : Value} {fuel : Nat} {listed : Array Bool} {a : Act} {w : World} (hi : l[i]? = some oi)
    (hs : Region.noSelect l.toArray = true) (hf : Region.free md l.toArray listed i = true) (hr : (Region.ready md l.toArray listed).contains i = true)
    (hQ : ∀ c a w, Q (.panic c) (a.put oi.dst v) w → Q (.panic c) a w) (hy : YieldsIf P l.toArray S oi v a) (hS : S w)
    (h : wpAnyH P md l.toArray Q S fuel (listed.setIfInBounds i true) (a.put oi.dst v) w) : wpAnyH P md l.toArray Q S (fuel + 1) listed a w :=
  wpAnyH_take (by simpa using hi) hs hf hr hQ hy hS h
/-- Number i alone may come up. -/
theorem carryL {i : Nat} {oi : Oper} {fuel : Nat} {listed : Array Bool} {a : Act} {w : World} (hi : l[i]? = some oi) (hr : Region.ready md l.toArray listed = [i]) (hw : Region.wanted oi (yielded l.toArray a.tmps) = true)
    (h : ∀ K : Act → World → Prop, (∀ a w, S w → (S w → wpAnyH P md l.toArray Q S fuel (listed.setIfInBounds i true) a w) → K a w) → Oper.wp P oi a w K Q) : wpAnyH P md l.toArray Q S (fuel + 1) listed a w := by
  refine wpAnyH_ready hr (by simp) (AllReadyH.cons (o := oi) (by simpa using hi) (fun K hK => ?_) AllReadyH.nil)
  rw [if_pos hw]
  exact h K hK
end
section
variable {P : Program} {Q : Exit → Act → World → Prop} {l : List Oper} {S : World → Prop} {md : Region.Mode}
theorem region_held (N : Nat) {id : Nat} {a : Act} {w : World} (hm : P.follows .mixedOrders = true) (hN : l.length = N)
    (h : wpAnyH P .any l.toArray Q S N (Array.replicate N false) a w.drew) : (Code.region id l.toArray true).wp P Q a w := by
  subst hN
  exact wp_region_held hm h
/-- Number i may come up first. -/
theorem carryC {i : Nat} {oi : Oper} {fuel : Nat} {listed : Array Bool} {a : Act} {w : World} {rs : List Nat} (hi : l[i]? = some oi) (hw : Region.wanted oi (yielded l.toArray a.tmps) = true)
    (h : ∀ K : Act → World → Prop, (∀ a w, S w → (S w → wpAnyH P md l.toArray Q S fuel (listed.setIfInBounds i true) a w) → K a w) → Oper.wp P oi a w K Q)
    (hs : AllReadyH P md l.toArray Q S fuel listed a w rs) : AllReadyH P md l.toArray Q S fuel listed a w (i :: rs) := by
  refine AllReadyH.cons (o := oi) (by simpa using hi) (fun K hK => ?_) hs
  rw [if_pos hw]
  exact h K hK
end
end Go.Proofs.YtgiokmfdafmaoaaGreat

/- div.byWord: a number by a word. -/
namespace Go.Proofs.YtgiokmfdafmaoaaGreat
open Go.RowKit Go.Shelf
attribute [local go_sem] Oper.semAt_some
set_option linter.unusedVariables false
set_option linter.unusedSimpArgs false

/-- What the rounds make: the limbs of the quotient, and what is left over. -/
def wfold (n x : Nat) {V : Nat → Nat → Prop} (pre : List (BkI n V)) : List Nat × Nat :=
  pre.foldl (fun s y => (s.1.set y.1.1 ((s.2 * B64 + y.1.2) / x), (s.2 * B64 + y.1.2) % x)) (List.replicate n 0, 0)
section
variable {n x : Nat} {V : Nat → Nat → Prop}
theorem wfold_snoc (pre : List (BkI n V)) (y : BkI n V) : wfold n x (pre ++ [y]) = ((wfold n x pre).1.set y.1.1 (((wfold n x pre).2 * B64 + y.1.2) / x), ((wfold n x pre).2 * B64 + y.1.2) % x) := by
  simp [wfold, List.foldl_append]
theorem wfold_ok (hx : 0 < x) (hV : ∀ j v, V j v → v < B64) (pre : List (BkI n V)) : (wfold n x pre).1.length = n ∧ Words (wfold n x pre).1 ∧ (wfold n x pre).2 < x := by
  refine snoc_ind (P := fun pre => (wfold n x pre).1.length = n ∧ Words (wfold n x pre).1 ∧ (wfold n x pre).2 < x) ⟨by simp [wfold], words_zeros _, hx⟩ ?_ pre
  intro pre y ⟨h1, h2, h3⟩
  rw [wfold_snoc]
  refine ⟨by simp [h1], words_set h2 ?_, Nat.mod_lt _ hx⟩
  rw [Nat.div_lt_iff_lt_mul hx]
  have h4 := hV _ _ y.2.2
  have := Nat.mul_le_mul_right B64 (show (wfold n x pre).2 + 1 ≤ x from h3)
  rw [Nat.add_mul, Nat.mul_comm x] at this
  omega
theorem wfold_val {a : List Nat} (ha : Words a) (hl : a.length = n) (hx : 0 < x) (pre : List (BkI n (fun j v => v = lim a j))) : ∀ k, k ≤ n → places pre = downs n k →
    (∀ j, j < n - k → lim (wfold n x pre).1 j = 0) ∧ val (wfold n x pre).1 * x + (wfold n x pre).2 * B64 ^ (n - k) + val (a.take (n - k)) = val a := by
  have hok := wfold_ok (n := n) (V := fun j v => v = lim a j) hx (fun j v e => by rw [e]; exact ha.get j)
  refine snoc_ind (P := fun pre => ∀ k, k ≤ n → places pre = downs n k → (∀ j, j < n - k → lim (wfold n x pre).1 j = 0) ∧ val (wfold n x pre).1 * x + (wfold n x pre).2 * B64 ^ (n - k) + val (a.take (n - k)) = val a) ?_ ?_ pre
  · intro k hk h
    have hk0 : k = 0 := by have := congrArg List.length h; rw [downs_length] at this; simpa [places] using this.symm
    subst hk0
    refine ⟨fun j hj => ?_, ?_⟩
    · simp only [wfold, List.foldl_nil]
      exact lim_zero_of_lt (words_zeros n) (by rw [val_zeros]; exact Nat.pow_pos B64_pos)
    · simp [wfold, val_zeros, val_take_all (show a.length ≤ n by omega)]
  · intro pre y ih k hk h
    have hk1 : k = pre.length + 1 := by have := congrArg List.length h; rw [places_length, downs_length] at this; simpa using this.symm
    subst hk1
    rw [places_snoc, downs_succ] at h
    obtain ⟨e1, e2⟩ := List.append_inj h (by rw [places_length, downs_length])
    have e3 : y.1.1 = n - 1 - pre.length := by simpa using e2
    obtain ⟨h1, h2⟩ := ih pre.length (by omega) e1
    obtain ⟨o1, o2, o3⟩ := hok pre
    obtain ⟨⟨j, v⟩, hj, hv⟩ := y
    simp only at e3 hv hj
    rw [wfold_snoc]
    simp only
    have ej : n - (pre.length + 1) = j := by omega
    have ej1 : n - pre.length = j + 1 := by omega
    rw [ej]
    rw [ej1] at h1 h2
    generalize (wfold n x pre).1 = L at *
    generalize (wfold n x pre).2 = r at *
    subst hv
    refine ⟨fun i hi => ?_, ?_⟩
    · rw [lim_set (by omega), if_neg (by omega)]
      exact h1 i (by omega)
    · have hs := val_set (l := L) (i := j) (by omega) ((r * B64 + lim a j) / x)
      rw [h1 j (by omega), Nat.mul_zero, Nat.add_zero] at hs
      have hd := Nat.div_add_mod (r * B64 + lim a j) x
      rw [val_take_succ] at h2
      rw [hs, ← h2, Nat.add_mul]
      generalize (r * B64 + lim a j) / x = d at *
      generalize (r * B64 + lim a j) % x = m at *
      have e5 : B64 ^ j * (x * d + m) = B64 ^ j * (r * B64 + lim a j) := by rw [hd]
      rw [Nat.mul_add, Nat.mul_add] at e5
      have e6 : B64 ^ j * d * x = B64 ^ j * (x * d) := by rw [Nat.mul_assoc, Nat.mul_comm d x]
      have e7 : m * B64 ^ j = B64 ^ j * m := Nat.mul_comm _ _
      have e8 : r * B64 ^ (j + 1) = B64 ^ j * (r * B64) := by rw [show B64 ^ (j + 1) = B64 ^ j * B64 from Nat.pow_succ ..]; simp only [Nat.mul_comm, Nat.mul_left_comm, Nat.mul_assoc]
      omega
theorem wfold_all {a : List Nat} (ha : Words a) (hl : a.length = n) (hx : 0 < x) {pre : List (BkI n (fun j v => v = lim a j))} (h : places pre = downs n n) : val (wfold n x pre).1 = val a / x ∧ (wfold n x pre).2 = val a % x := by
  obtain ⟨_, h2⟩ := wfold_val ha hl hx pre n (Nat.le_refl _) h
  have h3 := (wfold_ok (V := fun j v => v = lim a j) hx (fun j v e => by rw [e]; exact ha.get j) pre).2.2
  rw [Nat.sub_self, Nat.pow_zero, Nat.mul_one] at h2
  simp only [List.take_zero, val_nil, Nat.add_zero] at h2
  generalize (wfold n x pre).2 = r at *
  generalize val (wfold n x pre).1 = q at *
  rw [← h2, Nat.mul_comm, Nat.mul_add_div hx, Nat.mul_add_mod, Nat.div_eq_of_lt h3, Nat.mod_eq_of_lt h3]
  exact ⟨rfl, rfl⟩
end

theorem alloc4 (w : World) (o1 o2 o3 o4 : Obj) : ((((w.alloc o1).alloc o2).alloc o3).alloc o4).heap.size = w.heap.size + 4 ∧ ((((w.alloc o1).alloc o2).alloc o3).alloc o4).heap[w.heap.size]? = some o1 ∧ ((((w.alloc o1).alloc o2).alloc o3).alloc o4).heap[w.heap.size + 1]? = some o2 ∧
    ((((w.alloc o1).alloc o2).alloc o3).alloc o4).heap[w.heap.size + 2]? = some o3 ∧ ((((w.alloc o1).alloc o2).alloc o3).alloc o4).heap[w.heap.size + 3]? = some o4 ∧ Below w.heap.size w ((((w.alloc o1).alloc o2).alloc o3).alloc o4) := by
  have h2 := World.alloc_heap_new (w.alloc o1) o2
  have h3 := World.alloc_heap_new ((w.alloc o1).alloc o2) o3
  have h4 := World.alloc_heap_new (((w.alloc o1).alloc o2).alloc o3) o4
  rw [World.size_alloc] at h2
  rw [World.size_alloc, World.size_alloc] at h3
  rw [World.size_alloc, World.size_alloc, World.size_alloc] at h4
  refine ⟨by simp, ?_, ?_, ?_, h4, (((((Below.refl _ w).alloc (Nat.le_refl _) _).alloc (by simp) _).alloc (by simp; omega) _).alloc (by simp; omega) _)⟩
  · exact (Below.heap_alloc _ _ _ (by simp only [World.size_alloc]; omega)).trans ((Below.heap_alloc _ _ _ (by simp only [World.size_alloc]; omega)).trans ((Below.heap_alloc _ _ _ (by simp)).trans (World.alloc_heap_new w o1)))
  · exact (Below.heap_alloc _ _ _ (by simp only [World.size_alloc]; omega)).trans ((Below.heap_alloc _ _ _ (by simp)).trans h2)
  · exact (Below.heap_alloc _ _ _ (by simp)).trans h3
theorem boxed_far {W : World} {B g : Nat} {t : TypeId} {v : Value} (h : Boxed W B t v) (hne : B ≠ g) (i : Nat) (u : Value) : Boxed (W.setCell ⟨g, i, none⟩ u) B t v := (Below.heap_setCell W ⟨g, i, none⟩ u B hne).trans h
/-- trim's answer, as one value. -/
theorem trimD_val (A : Option Addr) (n c : Nat) (l : List Nat) (w : World) (h : Rd w A n l) (hc0 : n ≤ c) (hc1 : c ≤ 9223372036854775807) :
    Calls Tryz.prog 132 #[.slice A n c] w fun e w' => e = .returned (.slice A (limbs (val l)).length c) ∧ w' = w :=
  (trimD_any A n c l w h hc0 hc1).mono fun e w' ⟨⟨k, hk, he, ht⟩, hw⟩ => ⟨by rw [he, ← take_take_len (by rw [h.len]; exact hk) ht], hw⟩
/-- What the rounds of byWord hand on. -/
def WdI (w : World) (n x : Nat) (V : Nat → Nat → Prop) (pre : List (BkI n V)) (W : World) : Prop :=
  Boxed W w.heap.size 36 (u64 x) ∧ Boxed W (w.heap.size + 1) 23 (.slice (some ⟨w.heap.size + 3, 0, none⟩) n n) ∧ Boxed W (w.heap.size + 2) 36 (u64 (wfold n x pre).2) ∧ RowL W (w.heap.size + 3) (wfold n x pre).1 ∧ Below w.heap.size w W ∧ w.heap.size + 5 ≤ W.heap.size
theorem wdI_own (w : World) (n x : Nat) (V : Nat → Nat → Prop) {B : Nat} (hB : w.heap.size + 5 ≤ B) : OwnFrom B (WdI w n x V) :=
  ownFrom_low hB (fun s W h => h.2.2.2.2.2) fun s W W' h hb =>
    ⟨(hb.block _ (by omega)).trans h.1, (hb.block _ (by omega)).trans h.2.1, (hb.block _ (by omega)).trans h.2.2.1, h.2.2.2.1.below hb (by omega), h.2.2.2.2.1.trans (hb.mono (by omega)), Nat.le_trans h.2.2.2.2.2 hb.size⟩

set_option maxRecDepth 100000 in
set_option maxHeartbeats 4000000 in
theorem byWord_any (A : Option Addr) (na ca x : Nat) (a : List Nat) (w : World) (hra : Rd w A na a) (hna : na ≤ 1000000) (hx : x < B64) (hx0 : 0 < x) :
    Calls Tryz.prog 109 #[.slice A na ca, u64 x] w fun e w' => ∃ A' k c, e = .returned (.tuple #[.slice A' k c, u64 (val a % x)]) ∧ Own w' w.heap.size (.slice A' k c) (limbs (val a / x)) ∧ Below w.heap.size w w' := by
  have hmk := fun W => run_make_row' (P := Tryz.prog) 23 36 (.int .u64 0) 8 Tryz.underlying23 u64_info rfl .i64 .i64 na (by omega) (by omega) W
  refine (callsIn_wide (n := 8)).1 ?_
  refine callsIn_of_wp_marks Tryz.func109 rfl trivial ?_ rfl
  simp only [Tryz.ntmps109, List.size_toArray, List.length_cons, List.length_nil, Nat.reduceAdd, Nat.reduceSub, Array.replicate_succ, Array.replicate_zero, List.push_toArray, List.append_toArray, List.nil_append, List.cons_append]
  have HRA := Lib.hid hra
  clear hra
  gi_wp2_with fail
  obtain ⟨s2, y0, y1, y2, y3, b2⟩ := alloc4 w (.cells #[u64 x] 36) (.cells #[.slice (some ⟨w.heap.size + 1 + 1 + 1, 0, none⟩) na na] 23) (.cells #[.int .u64 0] 36) (.cells (madeCells #[.int .u64 0] na) 36)
  have y4 : RowL ((((w.alloc (.cells #[u64 x] 36)).alloc (.cells #[.slice (some ⟨w.heap.size + 1 + 1 + 1, 0, none⟩) na na] 23)).alloc (.cells #[.int .u64 0] 36)).alloc (.cells (madeCells #[.int .u64 0] na) 36)) (w.heap.size + 3) (List.replicate na 0) := by
    have := RowL.zeros (((w.alloc (.cells #[u64 x] 36)).alloc (.cells #[.slice (some ⟨w.heap.size + 1 + 1 + 1, 0, none⟩) na na] 23)).alloc (.cells #[.int .u64 0] 36)) na
    rwa [World.size_alloc, World.size_alloc, World.size_alloc] at this
  generalize ((((w.alloc (.cells #[u64 x] 36)).alloc (.cells #[.slice (some ⟨w.heap.size + 1 + 1 + 1, 0, none⟩) na na] 23)).alloc (.cells #[.int .u64 0] 36)).alloc (.cells (madeCells #[.int .u64 0] na) 36)) = w2 at *
  clear y3 hmk
  refine ⟨trivial, (callsIn_wide.2 (backN_any A na ca w2)).mono ?_⟩
  rintro e w6 ⟨rfl, rfl⟩
  gi_wp2_with fail
  obtain ⟨WE, hWE⟩ : ∃ WE, WE = w2.alloc (.cells #[.slice A na ca] 23) := ⟨_, rfl⟩
  have hbE : Below w2.heap.size w2 WE := by rw [hWE]; exact (Below.refl _ w2).alloc (Nat.le_refl _) _
  have hsE : WE.heap.size = w.heap.size + 5 := by rw [hWE]; simp; omega
  have hxE : WE.heap[w2.heap.size]? = some (.cells #[.slice A na ca] 23) := by rw [hWE]; exact World.alloc_heap_new w2 _
  have hbE2 : Below w.heap.size w WE := b2.trans (hbE.mono (by omega))
  have hI0 : WdI w na x (fun j v => v = lim a j) [] WE := by
    refine ⟨(hbE.block _ (by omega)).trans y0, (hbE.block _ (by omega)).trans y1, (hbE.block _ (by omega)).trans y2, ?_, hbE2, by omega⟩
    simp only [wfold, List.foldl_nil]
    exact y4.below hbE (by omega)
  rw [s2] at hxE
  rw [← hWE]
  have HH := Lib.hid (has_rd (HRA.out.below hbE2))
  have HI0 := Lib.hid hI0
  have HSE := Lib.hid hsE
  have hlt4 : w.heap.size + 4 < WE.heap.size := by omega
  have hw5 : w.heap.size + 5 ≤ WE.heap.size := by omega
  have hlt := HRA.out.lt
  have HLT := Lib.hid hlt
  have HVB : Hid (∀ j v, v = lim a j → v < B64) := fun j v e => by rw [e]; exact HRA.out.words.get j
  clear y0 y1 y2 y4 hWE hbE hbE2 hI0 hsE b2 hlt
  clear s2
  have hkb : ∀ (Wx : World) (l : Nat) (o' : Obj), WE.heap.size ≤ l → KeepsOf (fun k => k < w.heap.size ∨ k = w.heap.size + 4) Wx (Wx.putObj l o') := fun Wx l o' hl => ⟨by simp, fun k hk => World.putObj_heap_other (by omega)⟩
  refine wpIn_rangeFunc_ownG rfl (by omega) (gf := 143) (lb := #[.pointer (some ⟨w.heap.size + 4, 0, none⟩)]) rfl trivial (enters_of Tryz.func143 (by kernel_rfl) rfl)
      (backN_stops (fun k => k < w.heap.size ∨ k = w.heap.size + 4) (fun j v => v = lim a j) _ (w.heap.size + 4) A na ca (by omega) (.inr rfl) WE hlt4 (fun b0 off h e => by have := HLT.out h b0 off e; omega) (cells_cell hxE rfl) HH.out)
      BkK.trans ?hkb (Below.refl _ _) (fun _ => rfl)
      (WdI w na x (fun j v => v = lim a j)) (fun _ _ _ => False) (wdI_own w na x _ hw5) (fun _ _ _ _ _ hs _ _ => hs) HI0.out ?_ ?assign ?body ?done ?stop
  case hkb =>
    intro Wx l o o' hl ho _ _
    exact ⟨hkb Wx l o' hl, has_keeps (hkb Wx l o' hl) (fun h b0 off e => .inl (HLT.out h b0 off e))⟩
  case assign =>
    intro l x W K hK
    gi_wp2
    exact hK
  case stop =>
    rintro D c pre W _ _ h _
    exact h.elim
  case body =>
    rintro l pre y W ⟨hx0', hq, hr, hrow, hB, hsz⟩ hlen
    obtain ⟨⟨j, v⟩, hj, hv⟩ := y
    have hok := wfold_ok hx0 HVB.out pre
    have hsn := wfold_snoc (x := x) pre ⟨(j, v), hj, hv⟩
    have hvb := HVB.out j v hv
    have hj' : j < na := hj
    have hjn : ¬ (na ≤ j) := by omega
    obtain ⟨L, hL⟩ : ∃ L, (wfold na x pre).1 = L := ⟨_, rfl⟩
    obtain ⟨r, hR⟩ : ∃ r, (wfold na x pre).2 = r := ⟨_, rfl⟩
    rw [hL, hR] at hok hsn
    rw [hL] at hrow
    rw [hR] at hr
    obtain ⟨o1, o2, o3⟩ := hok
    have c0 := hx0'.cell
    have c1 := hq.cell
    have c2 := hr.cell
    have f2 := hr.frozen
    have hcu : W.cell? ⟨w.heap.size + 3, j, none⟩ = some (u64 (lim L j)) := hrow.cell (by omega)
    have hfu : W.frozen? ⟨w.heap.size + 3, j, none⟩ = false := hrow.frozen _
    have H1 := Lib.hid hx0'; have H2 := Lib.hid hq; have H3 := Lib.hid hr; have H4 := Lib.hid hrow; have H5 := Lib.hid hB
    have HSN := Lib.hid hsn; have HO1 := Lib.hid o1; have HO2 := Lib.hid o2; have HO3 := Lib.hid o3
    clear hx0' hq hr hrow hB hsn o1 o2 o3 hL hR hlen
    obtain ⟨d, hd⟩ : ∃ d, (r * B64 + v) / x = d := ⟨_, rfl⟩
    obtain ⟨m, hm⟩ : ∃ m, (r * B64 + v) % x = m := ⟨_, rfl⟩
    have hdv := fun W => div64_any r v x hvb hx HO3.out W
    rw [hd, hm] at hdv HSN
    have HDV := Lib.hid hdv
    have HD := Lib.hid hd
    have HM := Lib.hid hm
    clear hdv hd hm
    gi_wp2
    refine region_round (S := fun W' => W'.cell? ⟨w.heap.size, 0, none⟩ = some (u64 x) ∧ W'.cell? ⟨w.heap.size + 1, 0, none⟩ = some (.slice (some ⟨w.heap.size + 3, 0, none⟩) na na)) 12 (by kernel_rfl) (by rfl) (fun h => h.elim fun _ h => h.elim fun _ h => h) rfl ?_
    have hS0 : (fun W' : World => W'.cell? ⟨w.heap.size, 0, none⟩ = some (u64 x) ∧ W'.cell? ⟨w.heap.size + 1, 0, none⟩ = some (.slice (some ⟨w.heap.size + 3, 0, none⟩) na na)) W.drew := ⟨c0, c1⟩
    refine takeL (i := 0) (v := ?_) (List.getElem?_cons_zero) (by kernel_rfl) (by kernel_rfl) (by kernel_rfl) (fun _ _ _ h => h) (Or.inl ⟨by rfl, ?_⟩) (by assumption) ?_
    rotate_left
    · (intro w hSw; (try dsimp only at hSw); go_simp; try with_reducible rfl)
    try simp only [Act.put, List.setIfInBounds_toArray, List.set_cons_zero, List.set_cons_succ]
    refine takeL (i := 1) (v := ?_) (List.getElem?_cons_succ.trans (List.getElem?_cons_zero)) (by kernel_rfl) (by kernel_rfl) (by kernel_rfl) (fun _ _ _ h => h) (Or.inl ⟨by rfl, ?_⟩) (by assumption) ?_
    rotate_left
    · (intro w hSw; (try dsimp only at hSw); go_simp; try with_reducible rfl)
    try simp only [Act.put, List.setIfInBounds_toArray, List.set_cons_zero, List.set_cons_succ]
    refine takeL (i := 3) (v := ?_) (List.getElem?_cons_succ.trans (List.getElem?_cons_succ.trans (List.getElem?_cons_succ.trans (List.getElem?_cons_zero)))) (by kernel_rfl) (by kernel_rfl) (by kernel_rfl) (fun _ _ _ h => h) (Or.inl ⟨by rfl, ?_⟩) (by assumption) ?_
    rotate_left
    · (intro w hSw; (try dsimp only at hSw); go_simp; try with_reducible rfl)
    try simp only [Act.put, List.setIfInBounds_toArray, List.set_cons_zero, List.set_cons_succ]
    refine takeL (i := 4) (v := ?_) (List.getElem?_cons_succ.trans (List.getElem?_cons_succ.trans (List.getElem?_cons_succ.trans (List.getElem?_cons_succ.trans (List.getElem?_cons_zero))))) (by kernel_rfl) (by kernel_rfl) (by kernel_rfl) (fun _ _ _ h => h) (Or.inl ⟨by rfl, ?_⟩) (by assumption) ?_
    rotate_left
    · (intro w hSw; (try dsimp only at hSw); go_simp; try with_reducible rfl)
    try simp only [Act.put, List.setIfInBounds_toArray, List.set_cons_zero, List.set_cons_succ]
    refine carryL (i := 2) (List.getElem?_cons_succ.trans (List.getElem?_cons_succ.trans (List.getElem?_cons_zero))) (by kernel_rfl) (by rfl) (fun K hK => ?_)
    go_simp
    refine hK _ _ hS0 (fun _ => ?_)
    clear hK K
    try simp only [Act.put, List.setIfInBounds_toArray, List.set_cons_zero, List.set_cons_succ]
    refine carryL (i := 5) (List.getElem?_cons_succ.trans (List.getElem?_cons_succ.trans (List.getElem?_cons_succ.trans (List.getElem?_cons_succ.trans (List.getElem?_cons_succ.trans (List.getElem?_cons_zero)))))) (by kernel_rfl) (by rfl) (fun K hK => ?_)
    go_simp
    refine (HDV.out _).mono ?_
    rintro e w' ⟨rfl, kd, rfl⟩
    have hS1 : (fun W' : World => W'.cell? ⟨w.heap.size, 0, none⟩ = some (u64 x) ∧ W'.cell? ⟨w.heap.size + 1, 0, none⟩ = some (.slice (some ⟨w.heap.size + 3, 0, none⟩) na na)) (W.drew.drewN kd) := ⟨c0, c1⟩
    refine hK _ _ hS1 (fun _ => ?_)
    clear hK K hS0
    try simp only [Act.put, List.setIfInBounds_toArray, List.set_cons_zero, List.set_cons_succ]
    refine takeL (i := 6) (v := ?_) (List.getElem?_cons_succ.trans (List.getElem?_cons_succ.trans (List.getElem?_cons_succ.trans (List.getElem?_cons_succ.trans (List.getElem?_cons_succ.trans (List.getElem?_cons_succ.trans (List.getElem?_cons_zero))))))) (by kernel_rfl) (by kernel_rfl) (by kernel_rfl) (fun _ _ _ h => h) (Or.inl ⟨by rfl, ?_⟩) (by assumption) ?_
    rotate_left
    · (intro w hSw; (try dsimp only at hSw); go_simp; try with_reducible rfl)
    try simp only [Act.put, List.setIfInBounds_toArray, List.set_cons_zero, List.set_cons_succ]
    refine takeL (i := 7) (v := ?_) (List.getElem?_cons_succ.trans (List.getElem?_cons_succ.trans (List.getElem?_cons_succ.trans (List.getElem?_cons_succ.trans (List.getElem?_cons_succ.trans (List.getElem?_cons_succ.trans (List.getElem?_cons_succ.trans (List.getElem?_cons_zero)))))))) (by kernel_rfl) (by kernel_rfl) (by kernel_rfl) (fun _ _ _ h => h) (Or.inl ⟨by rfl, ?_⟩) (by assumption) ?_
    rotate_left
    · (intro w hSw; (try dsimp only at hSw); go_simp; try with_reducible rfl)
    try simp only [Act.put, List.setIfInBounds_toArray, List.set_cons_zero, List.set_cons_succ]
    refine takeL (i := 8) (v := ?_) (List.getElem?_cons_succ.trans (List.getElem?_cons_succ.trans (List.getElem?_cons_succ.trans (List.getElem?_cons_succ.trans (List.getElem?_cons_succ.trans (List.getElem?_cons_succ.trans (List.getElem?_cons_succ.trans (List.getElem?_cons_succ.trans (List.getElem?_cons_zero))))))))) (by kernel_rfl) (by kernel_rfl) (by kernel_rfl) (fun _ _ _ h => h) (Or.inl ⟨by rfl, ?_⟩) (by assumption) ?_
    rotate_left
    · (intro w hSw; (try dsimp only at hSw); go_simp; try with_reducible rfl)
    try simp only [Act.put, List.setIfInBounds_toArray, List.set_cons_zero, List.set_cons_succ]
    refine takeL (i := 9) (v := ?_) (List.getElem?_cons_succ.trans (List.getElem?_cons_succ.trans (List.getElem?_cons_succ.trans (List.getElem?_cons_succ.trans (List.getElem?_cons_succ.trans (List.getElem?_cons_succ.trans (List.getElem?_cons_succ.trans (List.getElem?_cons_succ.trans (List.getElem?_cons_succ.trans (List.getElem?_cons_zero)))))))))) (by kernel_rfl) (by kernel_rfl) (by kernel_rfl) (fun _ _ _ h => h) (Or.inl ⟨by rfl, ?_⟩) (by assumption) ?_
    rotate_left
    · (intro w hSw; (try dsimp only at hSw); go_simp; try with_reducible rfl)
    try simp only [Act.put, List.setIfInBounds_toArray, List.set_cons_zero, List.set_cons_succ]
    refine carryL (i := 10) (List.getElem?_cons_succ.trans (List.getElem?_cons_succ.trans (List.getElem?_cons_succ.trans (List.getElem?_cons_succ.trans (List.getElem?_cons_succ.trans (List.getElem?_cons_succ.trans (List.getElem?_cons_succ.trans (List.getElem?_cons_succ.trans (List.getElem?_cons_succ.trans (List.getElem?_cons_succ.trans (List.getElem?_cons_zero))))))))))) (by kernel_rfl) (by rfl) (fun K hK => ?_)
    go_simp
    refine hK _ _ ?_ (fun hS2 => ?_)
    · exact ⟨cell_far (w := W.drew.drewN kd) c0 (by omega) _, cell_far (w := W.drew.drewN kd) c1 (by omega) _⟩
    clear hK K hS1
    try simp only [Act.put, List.setIfInBounds_toArray, List.set_cons_zero, List.set_cons_succ]
    refine carryL (i := 11) (List.getElem?_cons_succ.trans (List.getElem?_cons_succ.trans (List.getElem?_cons_succ.trans (List.getElem?_cons_succ.trans (List.getElem?_cons_succ.trans (List.getElem?_cons_succ.trans (List.getElem?_cons_succ.trans (List.getElem?_cons_succ.trans (List.getElem?_cons_succ.trans (List.getElem?_cons_succ.trans (List.getElem?_cons_succ.trans (List.getElem?_cons_zero)))))))))))) (by kernel_rfl) (by rfl) (fun K hK => ?_)
    go_simp
    obtain ⟨Wy, hWy⟩ : ∃ Wy, Wy = W.drewN (1 + kd) := ⟨_, rfl⟩
    have k1 : KeepsOthers W Wy := by rw [hWy]; exact ⟨Nat.le_refl _, fun _ _ h _ => h⟩
    have k2 : Below w.heap.size w Wy := by rw [hWy]; exact below_drewN H5.out _
    have k3 : Boxed Wy w.heap.size 36 (u64 x) := by rw [hWy]; exact H1.out
    have k4 : Boxed Wy (w.heap.size + 1) 23 (.slice (some ⟨w.heap.size + 3, 0, none⟩) na na) := by rw [hWy]; exact H2.out
    have k5 : Boxed Wy (w.heap.size + 2) 36 (u64 r) := by rw [hWy]; exact H3.out
    have k6 : RowL Wy (w.heap.size + 3) L := by rw [hWy]; exact H4.out
    have k7 : Wy.heap = W.heap := by rw [hWy]; rfl
    rw [← hWy] at hS2 ⊢
    clear hWy
    refine hK _ _ ⟨cell_far hS2.1 (by omega) _, cell_far hS2.2 (by omega) _⟩ (fun _ => wpAnyH_done (by kernel_rfl) ?_ _)
    clear hK K hS2
    have hz : KeepsOf (fun k => k < w.heap.size ∨ k = w.heap.size + 4) W ((Wy.setCell ⟨w.heap.size + 3, j, none⟩ (u64 d)).setCell ⟨w.heap.size + 1 + 1, 0, none⟩ (u64 m)) := by
      refine ⟨by simp [World.setCell, k7], fun k hk => ?_⟩
      rw [Below.heap_setCell _ _ _ _ (by show k ≠ w.heap.size + 1 + 1; omega), Below.heap_setCell _ _ _ _ (by show k ≠ w.heap.size + 3; omega), k7]
    refine ⟨((k1.trans (KeepsOthers.setCell _ _ _)).trans (KeepsOthers.setCell _ _ _)).from _, ⟨hz, has_keeps hz (fun h b0 off e => .inl (HLT.out h b0 off e))⟩, ?_⟩
    unfold WdI
    rw [HSN.out]
    refine ⟨(boxed_far k3 (by omega) _ _).other (by omega) _, (boxed_far k4 (by omega) _ _).other (by omega) _, (boxed_far k5 (by omega) _ _).set _, ?_, ?_, ?_⟩
    · exact (k6.set j d).far (p := ⟨w.heap.size + 1 + 1, 0, none⟩) (by show w.heap.size + 3 ≠ w.heap.size + 1 + 1; omega) _
    · exact (k2.setCell (p := ⟨w.heap.size + 3, j, none⟩) (by show w.heap.size ≤ w.heap.size + 3; omega) _).setCell (p := ⟨w.heap.size + 1 + 1, 0, none⟩) (by show w.heap.size ≤ w.heap.size + 1 + 1; omega) _
    · simp only [World.size_setCell, k7]
      exact hsz
  case done =>
    rintro D ys W hD hys ⟨hx0', hq, hr, hrow, hB, hsz⟩ hK
    obtain ⟨f1, f2⟩ := wfold_all HRA.out.words HRA.out.len hx0 hys
    obtain ⟨o1, o2, o3⟩ := wfold_ok hx0 HVB.out ys
    generalize (wfold na x ys).1 = L at *
    generalize (wfold na x ys).2 = r at *
    have c1 := hq.cell
    have f1' := hq.frozen
    have c2 := hr.cell
    have f2' := hr.frozen
    have hown := hrow.own (B := w.heap.size) (n := na) (by omega) o2 o1 (by simp only [maxLen]; omega)
    have hrd := hown.rd.1
    have HRD := Lib.hid hrd
    have HOWN := Lib.hid hown
    have H1 := Lib.hid hq; have H2 := Lib.hid hr; have H5 := Lib.hid hB
    have HF1 := Lib.hid f1; have HF2 := Lib.hid f2
    have HKK := Lib.hid hK
    clear hq hr hrow hB hown hrd f1 f2 o1 o2 o3 hK hys hx0'
    gi_wp2
    gi_region_with (refine ⟨trivial, ?_⟩; gi_at_call 132; refine (callsIn_wide.2 (trimD_val (some ⟨w.heap.size + 3, 0, none⟩) na na L _ (HRD.out.below (Below.refl _ _).drew) (Nat.le_refl _) (by omega))).mono ?_; rintro e w' ⟨rfl, rfl⟩)
    all_goals
      gi_wp2
      have hD5 : w.heap.size + 5 ≤ D := by have := HSE.out; omega
      have hV2 := (H1.out.set (.slice (some ⟨w.heap.size + 3, 0, none⟩) (limbs (val L)).length na)).other (B' := w.heap.size + 1 + 1) (by omega) (u64 r)
      have hO2 := (H2.out.other (B' := w.heap.size + 1) (by omega) (.slice (some ⟨w.heap.size + 3, 0, none⟩) (limbs (val L)).length na)).set (u64 r)
      have hR2 : Own ((W.setCell ⟨w.heap.size + 1, 0, none⟩ (.slice (some ⟨w.heap.size + 3, 0, none⟩) (limbs (val L)).length na)).setCell ⟨w.heap.size + 1 + 1, 0, none⟩ (u64 r)) w.heap.size (.slice (some ⟨w.heap.size + 3, 0, none⟩) na na) L :=
        own_keepsOf (S := fun k => k = w.heap.size + 3) HOWN.out ⟨by simp [World.setCell], fun k hk => by
          rw [Below.heap_setCell _ _ _ _ (by show k ≠ w.heap.size + 1 + 1; omega), Below.heap_setCell _ _ _ _ (by show k ≠ w.heap.size + 1; omega)]⟩ (fun k e => by cases e; rfl)
      have hBe2 := (H5.out.setCell (p := ⟨w.heap.size + 1, 0, none⟩) (by simp) (.slice (some ⟨w.heap.size + 3, 0, none⟩) (limbs (val L)).length na)).setCell (p := ⟨w.heap.size + 1 + 1, 0, none⟩) (by simp; omega) (u64 r)
      have hK2 := ((KeepsOthers.setCell W ⟨w.heap.size + 1, 0, none⟩ (.slice (some ⟨w.heap.size + 3, 0, none⟩) (limbs (val L)).length na)).trans (KeepsOthers.setCell _ ⟨w.heap.size + 1 + 1, 0, none⟩ (u64 r))).same D _ HKK.out rfl
      have hsz2 : w.heap.size + 5 ≤ ((W.setCell ⟨w.heap.size + 1, 0, none⟩ (.slice (some ⟨w.heap.size + 3, 0, none⟩) (limbs (val L)).length na)).setCell ⟨w.heap.size + 1 + 1, 0, none⟩ (u64 r)).heap.size := by simpa [World.setCell] using hsz
      generalize ((W.setCell ⟨w.heap.size + 1, 0, none⟩ (.slice (some ⟨w.heap.size + 3, 0, none⟩) (limbs (val L)).length na)).setCell ⟨w.heap.size + 1 + 1, 0, none⟩ (u64 r)) = W2 at *
      refine marks_leave (n0 := w.heap.size + 5) (hi := D + 1) ⟨D, rfl, hD5, by omega, hK2, trivial⟩ fun W' hb => ?_
      have hV3 : Boxed W' (w.heap.size + 1) _ _ := (hb.block _ (by omega)).trans hV2
      have hO3 : Boxed W' (w.heap.size + 1 + 1) _ _ := (hb.block _ (by omega)).trans hO2
      have hR3 : Own W' w.heap.size (.slice (some ⟨w.heap.size + 3, 0, none⟩) na na) L := own_keepsOf (S := fun k => k = w.heap.size + 3) hR2 ⟨hb.size, fun k hk => hb.block k (by omega)⟩ (fun k e => by cases e; rfl)
      have hln : (limbs (val L)).length ≤ na := by have := length_of_le hR3.2 (Nat.le_refl (val L)); have := hR3.rd.2.1; omega
      have hR4 := own_trim hR3 hln
      rw [take_own hR3.2, HF1.out] at hR4
      have c4 := hV3.cell
      have c5 := hO3.cell
      rw [HF1.out] at c4
      refine ⟨.tuple #[.slice (some ⟨w.heap.size + 3, 0, none⟩) (limbs (val a / x)).length na, u64 r], by simp [results, Tryz.results109, go_sem, c4, c5], _, _, _, by rw [← HF2.out], hR4, hBe2.trans ((show Below w.heap.size W2 W2.drew from (Below.refl _ _).drew).trans (hb.mono (by omega)))⟩
end Go.Proofs.YtgiokmfdafmaoaaGreat

/- div.up: a number shifted up, noughts behind it. -/
namespace Go.Proofs.YtgiokmfdafmaoaaGreat
open Go.RowKit Go.Shelf
set_option linter.unusedVariables false
set_option linter.unusedSimpArgs false

set_option maxRecDepth 100000 in
set_option maxHeartbeats 2000000 in
/-- nat.Up: the whole row that it makes. -/
theorem up_row (A : Option Addr) (na ca : Nat) (a : List Nat) (bits q r : Nat) (w : World) (hra : Rd w A na a) (hna : na ≤ 4294967296) (hm : may a = true) (hb : bits ≤ 65536) (hq : bits / 64 = q) (hr : bits % 64 = r) :
    Calls Tryz.prog 150 #[.slice A na ca, .int .i64 (bits : Int)] w fun e w' => ∃ g k l, e = .returned (.tuple #[.slice (some ⟨g, 0, none⟩) k (q + na + 1), .int .i64 0]) ∧ RowL w' g l ∧ l.length = q + na + 1 ∧ Words l ∧ k ≤ q + na + 1 ∧ l.take k = limbs (val l) ∧ val l = val a * 2 ^ bits ∧ w.heap.size ≤ g ∧ Below w.heap.size w w' := by
  have e1 : ((bits : Nat) : Int) / 64 = (q : Int) := by omega
  have e2 : ((bits : Nat) : Int) % 64 = (r : Int) := by omega
  have hq1 : q ≤ 1024 := by omega
  have hr1 : r < 64 := by omega
  have HQ := Lib.hid hq
  have HR := Lib.hid hr
  clear hq hr
  have hmk := fun W => run_make_row' (P := Tryz.prog) 23 36 (.int .u64 0) 8 Tryz.underlying23 u64_info rfl .i64 .i64 (q + na + 1) (by omega) (by omega) W
  rw [show ((q + na + 1 : Nat) : Int) = (q : Int) + (na : Int) + 1 by omega] at hmk
  go_enter Tryz.func150, Tryz.ntmps150
  go_wp2_with (first
    | (go_at_call 155; refine (mayShift_ok A na ca a bits _ hra hna hm (by omega) (by omega)).mono ?_; rintro e w1 ⟨rfl, hb1⟩))
  rw [e2]
  have hz := RowL.zeros w1 (q + na + 1)
  have hB2 := hb1.alloc hb1.size (.cells (madeCells #[.int .u64 0] (q + na + 1)) 36)
  have hG : w.heap.size ≤ w1.heap.size := hb1.size
  have hgl : w1.heap.size < (w1.alloc (.cells (madeCells #[.int .u64 0] (q + na + 1)) 36)).heap.size := by simp
  generalize hW2 : w1.alloc (.cells (madeCells #[.int .u64 0] (q + na + 1)) 36) = w2 at *
  clear hW2 hmk
  go_loopw [30] (fun i wr => ∃ (k : Nat) (l : List Nat), k ≤ na ∧ i = .int .i64 (k : Int) ∧ RowL wr w1.heap.size l ∧ l.length = q + na + 1 ∧ Words l ∧ val l = val (a.take k) * 2 ^ bits ∧ Below w.heap.size w wr) (fun i _ => na - (intOf i).toNat)
  case atStart => exact ⟨0, _, by omega, rfl, hz, by simp, words_zeros _, by rw [val_zeros]; simp [val], hB2⟩
  case round =>
    obtain ⟨k, l, hk, rfl, hrow, hlen, hwl, hval, hB⟩ := hrel
    by_cases hlt : k < na
    · obtain ⟨b1, o1, rfl, _, hc1⟩ := (hra.below hB).cells (by omega)
      have hca := hc1 k hlt
      have hcu : wr.cell? ⟨w1.heap.size, q + k, none⟩ = some (u64 (lim l (q + k))) := hrow.cell (by omega)
      have hfu : wr.frozen? ⟨w1.heap.size, q + k, none⟩ = false := hrow.frozen _
      have hrlt : (r : Int) < 64 := by omega
      have HV := Lib.hid hval
      have HROW := Lib.hid hrow
      have hx := hra.words.get k
      have hy := hwl.get (q + k)
      clear hc1 hval hrow
      have hor : Go.bits BinOp.or IntKind.u64 ((lim l (q + k) : Nat) : Int) (IntKind.u64.wrap (((lim a k : Nat) : Int) * 2 ^ r)) = ((lim l (q + k) ||| (lim a k * 2 ^ r % B64) : Nat) : Int) := or_word _ _ _ hy
      have HOR := Lib.hid hor
      clear hor
      go_wp2
      go_region
      rw [HOR.out]
      have hr2 := HROW.out.set (q + k) (lim l (q + k) ||| (lim a k * 2 ^ r % B64))
      have hb2 := hB.setCell (p := ⟨w1.heap.size, q + k, none⟩) hG (u64 (lim l (q + k) ||| (lim a k * 2 ^ r % B64)))
      generalize (wr.setCell ⟨w1.heap.size, q + k, none⟩ (.int .u64 ((lim l (q + k) ||| (lim a k * 2 ^ r % B64) : Nat) : Int))) = w4 at *
      have hcv : w4.cell? ⟨w1.heap.size, q + k + 1, none⟩ = some (u64 (lim (l.set (q + k) (lim l (q + k) ||| (lim a k * 2 ^ r % B64))) (q + k + 1))) := hr2.cell (by rw [List.length_set]; omega)
      have hfv : w4.frozen? ⟨w1.heap.size, q + k + 1, none⟩ = false := hr2.frozen _
      have HR2 := Lib.hid hr2
      clear hr2
      go_wp2
      go_roundw
      case rel =>
        have e3 : (((lim a k : Nat) : Int) / 2 ^ (64 - r)) = ((lim a k / 2 ^ (64 - r) : Nat) : Int) := by simp
        rw [e3]
        refine ⟨k + 1, _, by omega, by go_num, (HR2.out.set (q + k + 1) (lim a k / 2 ^ (64 - r))).drew, by simp [hlen], ?_, ?_, (hb2.setCell (p := ⟨w1.heap.size, q + k + 1, none⟩) hG _).drew⟩
        · exact (up_step hwl hra.words hlen (by rw [hra.len]; omega) hr1 (by have := HQ.out; have := HR.out; omega) HV.out).1
        · exact (up_step hwl hra.words hlen (by rw [hra.len]; omega) hr1 (by have := HQ.out; have := HR.out; omega) HV.out).2
      case measure => simp [intOf]; omega
    · have hkn : k = na := by omega
      have hv2 : val l = val a * 2 ^ bits := by rw [hval, hkn, val_take_all (by rw [hra.len]; omega)]
      have HV := Lib.hid hv2
      have HROW := Lib.hid hrow
      clear hval hv2 hrow hkn
      go_wp2_with (go_at_call 82; refine (trim_any _ _ _ l wr (HROW.out.own (B := w1.heap.size) (Nat.le_refl _) hwl hlen (by simp only [maxLen]; omega)).rd.1 (by omega) (by omega)).mono ?_; rintro e w' ⟨⟨k2, hk2, rfl, ht⟩, rfl⟩; have HT := Lib.hid ht; clear ht)
      go_ret2
      exact ⟨_, k2, l, rfl, HROW.out, hlen, hwl, hk2, HT.out, HV.out, hG, hB⟩

theorem zeros_cells (k : Nat) : (Builtin.zeroCells #[.int .u64 0] k).toList = List.replicate k (.int .u64 0) := by
  apply List.ext_getElem
  · simp [Builtin.zeroCells]
  · intro i h1 h2
    simp [Builtin.zeroCells, Nat.mod_one]
/-- Noughts laid where there is room, and noughts. -/
theorem append_zeros {w : World} {g m k : Nat} {l : List Nat} (t tn ty : TypeId) (kn : IntKind) (ht : Tryz.prog.underlying t = some (.slice 36)) (htn : Tryz.prog.underlying tn = some (.int kn)) (i : TypeInfo) (hi : Tryz.prog.info? 36 = some i) (hz : i.zero = some (.int .u64 0)) (hsize : i.size = 1) (hby : i.bytes = 8)
    (hrow : RowL w g l) (hl : l.length = m + k) (hk : k ≤ 4294967296) (h0 : ∀ j, m ≤ j → lim l j = 0) :
    ∃ w', (Builtin.append_ #[t, tn] ty #[.slice (some ⟨g, 0, none⟩) m (m + k), .int .i64 (k : Int)]).run Tryz.prog w = .ok (.slice (some ⟨g, 0, none⟩) (m + k) (m + k)) w' ∧ RowL w' g l ∧ Only g w w' := by
  have hst := run_storeCells_at Tryz.prog g m 36 (List.replicate k (.int .u64 0)) 0 (l.map u64).toArray w hrow (by simp; omega) (fun v hv => by rw [(List.mem_replicate.1 hv).2]; rfl)
  have hw : IntKind.i64.wrap (k : Int) = k := by rw [IntKind.wrap_i64]; omega
  have hneg : ¬ ((k : Int) < 0) := by omega
  have h48 : ¬ (281474976710656 < (k : Int) * 8) := by omega
  refine ⟨w.setRow g (((l.map u64).toArray.toList.take (m + 0)) ++ List.replicate k (Value.int .u64 0) ++ ((l.map u64).toArray.toList.drop (m + 0 + (List.replicate k (Value.int .u64 0)).length))).toArray, ?_, ?_, ?_⟩
  · by_cases hk0 : k = 0
    · subst hk0
      have hw0 : IntKind.i64.wrap (0 : Int) = 0 := by rw [IntKind.wrap_i64]; rfl
      simp [hw0, Builtin.append_, run_underlying ht, run_underlying htn, sizeOf, typeInfo, zeroValue, hi, hz, hsize, hby, asInt, asIntOf, hw, Addr.add_lit] at hst ⊢
      rw [hst]
      rfl
    · have hns : ¬ (k * 1 = 0) := by omega
      have hzc : (Builtin.zeroCells (Value.int .u64 0).cells k).toList = List.replicate k (.int .u64 0) := zeros_cells k
      simp [Builtin.append_, run_underlying ht, run_underlying htn, sizeOf, typeInfo, zeroValue, hi, hz, hsize, hby, asInt, asIntOf, hw, hneg, h48, hns, hk0, hzc, Addr.add_lit] at hst ⊢
      rw [hst]
      rfl
  · have e : (((l.map u64).toArray.toList.take (m + 0)) ++ List.replicate k (Value.int .u64 0) ++ ((l.map u64).toArray.toList.drop (m + 0 + (List.replicate k (Value.int .u64 0)).length))).toArray = (l.map u64).toArray := by
      refine congrArg List.toArray ?_
      rw [List.length_replicate, Nat.add_zero]
      have e1 : (l.map u64).drop (m + k) = [] := List.drop_eq_nil_of_le (by simp; omega)
      have e2 : (l.map u64).drop m = List.replicate k (u64 0) := by
        rw [List.eq_replicate_iff]
        refine ⟨by simp; omega, fun v hv => ?_⟩
        rw [← List.map_drop] at hv
        obtain ⟨y, hy, rfl⟩ := List.mem_map.1 hv
        obtain ⟨j, hj, e⟩ := List.mem_iff_getElem.1 hy
        have := h0 (m + j) (by omega)
        simp at hj
        rw [lim_get (by omega)] at this
        rw [List.getElem_drop] at e
        rw [← e, this]
      show (l.map u64).take m ++ List.replicate k (u64 0) ++ (l.map u64).drop (m + k) = l.map u64
      rw [e1, List.append_nil, ← e2, List.take_append_drop]
    rw [e]
    exact setRow_heap w g _ _ _ _ hrow
  · refine ⟨⟨rfl, rfl, rfl, by simp [World.setRow], fun k hk => absurd hk (by omega)⟩, fun j hj hg => ?_⟩
    simp only [World.setRow, Array.getElem?_modify]
    rw [if_neg (by omega)]

theorem lim_rest {l : List Nat} {k : Nat} (hw : Words l) (ht : l.take k = limbs (val l)) : ∀ j, k ≤ j → lim l j = 0 := by
  intro j hj
  refine lim_zero_of_lt hw ?_
  have h := val_lt (words_limbs (val l))
  rw [val_limbs, ← ht] at h
  exact Nat.lt_of_lt_of_le h (Nat.pow_le_pow_right B64_pos (by rw [List.length_take]; omega))

set_option maxRecDepth 100000 in
set_option maxHeartbeats 2000000 in
/-- div.up. -/
theorem upD_any (A : Option Addr) (na ca bits : Nat) (a : List Nat) (w : World) (hra : Rd w A na a) (hna : na ≤ 1000000) (hm : may a = true) (hb : bits < 64) :
    Calls Tryz.prog 139 #[.slice A na ca, .int .i64 (bits : Int), .int .i64 ((na + 1 : Nat) : Int)] w fun e w' => ∃ g l, e = .returned (.slice (some ⟨g, 0, none⟩) (na + 1) (na + 1)) ∧ RowL w' g l ∧ l.length = na + 1 ∧ Words l ∧ val l = val a * 2 ^ bits ∧ w.heap.size ≤ g ∧ Below w.heap.size w w' := by
  obtain ⟨i0, hi, hz0, hz1, hz2⟩ := info_parts u64_info
  have HU := Lib.hid (up_row A na ca a bits 0 bits w hra (by omega) hm (by omega) (by omega) (by omega))
  clear hra hm
  go_enter Tryz.func139, Tryz.ntmps139
  go_wp2_with fail
  refine HU.out.mono ?_
  rintro e w1 ⟨g, k, l, rfl, hrow, hlen, hwl, hk, ht, hv, hg, hB⟩
  rw [Nat.zero_add] at hlen hk
  have hl0 := lim_rest hwl ht
  obtain ⟨w2, hr2, hrow2, hO⟩ := append_zeros (m := k) (k := na + 1 - k) 23 3 23 .i64 Tryz.underlying23 Tryz.underlying3 i0 hi hz0 hz1 hz2 hrow (by omega) (by omega) hl0
  rw [show k + (na + 1 - k) = na + 1 by omega, show ((na + 1 - k : Nat) : Int) = (na : Int) + 1 - (k : Int) by omega] at hr2
  have HR := Lib.hid hr2
  clear hr2
  go_wp2_with (at_builtin; go_loud (refine Lib.wpList_append_run _ rfl _ _ _ _ rfl _ _ rfl rfl _ _ HR.out ?_))
  go_ret
  exact ⟨g, l, rfl, hrow2, hlen, hwl, hv, hg, hB.trans (hO.to hg (by have := hB.size; omega))⟩
end Go.Proofs.YtgiokmfdafmaoaaGreat

/- div.byLimbs: a quotient by limbs. -/
namespace Go.Proofs.YtgiokmfdafmaoaaGreat
open Go.RowKit Go.Shelf
attribute [local go_sem] Oper.semAt_some
set_option linter.unusedVariables false
set_option linter.unusedSimpArgs false

/-- What the rounds have made by then: the quotient's limbs and what is left. -/
def LbG (m n N D A0 : Nat) {V : Nat → Nat → Prop} (pre : List (BkI m V)) (Lq Lf : List Nat) : Prop :=
  Lq.length = m ∧ Words Lq ∧ Lf.length = N ∧ Words Lf ∧ ∀ k, k ≤ m → places pre = downs m k → (∀ j, j < m - k → lim Lq j = 0) ∧ val Lq * D + val Lf = A0 ∧ val (Lf.drop (m - k)) < D
section
variable {m n N D A0 : Nat} {V : Nat → Nat → Prop}
theorem val_drop_one (l : List Nat) (i : Nat) : val (l.drop i) = lim l i + B64 * val (l.drop (i + 1)) := by
  by_cases h : i < l.length
  · rw [List.drop_eq_getElem_cons h, val_cons, lim_get h]
  · rw [List.drop_eq_nil_of_le (by omega), List.drop_eq_nil_of_le (by omega), lim_past (by omega)]
    rfl
theorem drop_zero_val {l : List Nat} (h : Words l) {c p : Nat} (hv : val (l.drop c) < B64 ^ p) : val (l.drop (c + p)) = 0 := by
  rw [← List.drop_drop, val_drop_div (h.drop c)]
  exact Nat.div_eq_of_lt hv
theorem lbG_step {pre : List (BkI m V)} {Lq Lf T2 : List Nat} {x : BkI m V} {q i : Nat} (hG : LbG m n N D A0 pre Lq Lf) (hi : x.1.1 = i) (hN : m + n = N + 1) (hn : 1 ≤ n) (hD0 : 0 < D) (hD : D < B64 ^ (n - 1)) (hq : q < B64) (hT2 : T2.length = n) (hw2 : Words T2)
    (hv : val T2 + q * D = val ((Lf.drop i).take n)) (hex : val ((Lf.drop i).take n) < D * B64 → q = val ((Lf.drop i).take n) / D) : LbG m n N D A0 (pre ++ [x]) (Lq.set i q) (Lf.take i ++ T2 ++ Lf.drop (i + n)) := by
  obtain ⟨h1, h2, h3, h4, h5⟩ := hG
  have him : i < m := by rw [← hi]; exact x.2.1
  refine ⟨by simp [h1], words_set h2 hq, ?_, words_append (words_append (h4.take i) hw2) (h4.drop _), fun k hk hp => ?_⟩
  · simp only [List.length_append, List.length_take, List.length_drop, h3, hT2]; omega
  · have hk1 : k = pre.length + 1 := by have := congrArg List.length hp; rw [places_length, downs_length] at this; simpa using this.symm
    subst hk1
    rw [places_snoc, downs_succ] at hp
    obtain ⟨e1, e2⟩ := List.append_inj hp (by rw [places_length, downs_length])
    have e3 : i = m - 1 - pre.length := by rw [← hi]; simpa using e2
    obtain ⟨g1, g2, g3⟩ := h5 pre.length (by omega) e1
    have ec : m - pre.length = i + 1 := by omega
    have ec2 : m - (pre.length + 1) = i := by omega
    rw [ec] at g1 g3
    rw [ec2]
    have hz : val (Lf.drop (i + n)) = 0 := by
      have := drop_zero_val h4 (Nat.lt_trans g3 hD)
      rwa [show i + 1 + (n - 1) = i + n by omega] at this
    have hs := val_split' (Lf.drop i) n
    rw [List.drop_drop, hz, Nat.mul_zero, Nat.add_zero] at hs
    have hd1 := val_drop_one Lf i
    have hli := h4.get i
    have hlt : val ((Lf.drop i).take n) < D * B64 := by
      rw [← hs, hd1, Nat.mul_comm D]
      have := Nat.mul_le_mul_left B64 (show val (Lf.drop (i + 1)) + 1 ≤ D from g3)
      rw [Nat.mul_add] at this
      omega
    have hqe := hex hlt
    have hT2v : val T2 < D := by
      have h6 := Nat.div_add_mod (val ((Lf.drop i).take n)) D
      have h7 := Nat.mod_lt (val ((Lf.drop i).take n)) hD0
      rw [← hqe, Nat.mul_comm] at h6
      omega
    have hlt2 : (Lf.take i).length = i := by rw [List.length_take]; omega
    refine ⟨fun j hj => ?_, ?_, ?_⟩
    · rw [lim_set (by omega), if_neg (by omega)]
      exact g1 j (by omega)
    · have hs2 := val_set (l := Lq) (i := i) (by omega) q
      rw [g1 i (by omega), Nat.mul_zero, Nat.add_zero] at hs2
      have hs3 := val_split' Lf i
      rw [hs] at hs3
      rw [hs2, val_append, val_append, hz, Nat.mul_zero, Nat.add_zero, hlt2, ← g2, hs3, Nat.add_mul, ← hv, Nat.mul_add, Nat.mul_assoc]
      omega
    · have e : (Lf.take i ++ T2 ++ Lf.drop (i + n)).drop i = T2 ++ Lf.drop (i + n) := by
        rw [List.append_assoc, List.drop_append_of_le_length (by omega), List.drop_eq_nil_of_le (by omega), List.nil_append]
      rw [e, val_append, hz, Nat.mul_zero, Nat.add_zero]
      exact hT2v
theorem lbG_start {L0 : List Nat} (hl : L0.length = N) (hw : Words L0) (hv : val L0 = A0) (hlt : A0 < B64 ^ m * D) : LbG m n N D A0 ([] : List (BkI m V)) (List.replicate m 0) L0 := by
  refine ⟨by simp, words_zeros m, hl, hw, fun k hk hp => ?_⟩
  have hk0 : k = 0 := by have := congrArg List.length hp; rw [downs_length] at this; simpa [places] using this.symm
  subst hk0
  refine ⟨fun j hj => lim_zero_of_lt (words_zeros m) (by rw [val_zeros]; exact Nat.pow_pos B64_pos), by rw [val_zeros, hv]; omega, ?_⟩
  rw [Nat.sub_zero, val_drop_div hw, hv, Nat.div_lt_iff_lt_mul (Nat.pow_pos B64_pos), Nat.mul_comm]
  exact hlt
theorem lbG_end {pre : List (BkI m V)} {Lq Lf : List Nat} (h : LbG m n N D A0 pre Lq Lf) (hp : places pre = downs m m) (hD : 0 < D) : val Lq = A0 / D ∧ val Lf = A0 % D := by
  obtain ⟨_, _, _, _, h5⟩ := h
  obtain ⟨_, g2, g3⟩ := h5 m (Nat.le_refl _) hp
  rw [Nat.sub_self, List.drop_zero] at g3
  rw [← g2, Nat.mul_comm, Nat.mul_add_div hD, Nat.mul_add_mod, Nat.div_eq_of_lt g3, Nat.mod_eq_of_lt g3]
  exact ⟨rfl, rfl⟩
end

theorem lead_facts {a b : List Nat} {n1 na y : Nat} (hwa : Words a) (hla : a.length = na) (hwb : Words b) (hlb : b.length = n1 + 1) (hm : may b = true) (hy : lim b n1 = y) (hna : n1 + 1 ≤ na) :
    64 - Lib.bitLen y ≤ 63 ∧ 0 < val b * 2 ^ (64 - Lib.bitLen y) ∧ val b * 2 ^ (64 - Lib.bitLen y) < B64 ^ (n1 + 1) ∧ val a * 2 ^ (64 - Lib.bitLen y) < B64 ^ (na - n1) * (val b * 2 ^ (64 - Lib.bitLen y)) := by
  have hyb : y < B64 := by rw [← hy]; exact hwb.get _
  have hne : b ≠ [] := fun e => by rw [e] at hlb; simp at hlb
  have hy0 : y ≠ 0 := by
    have := may_last hne
    rw [hlb, Nat.add_sub_cancel, hy, hm] at this
    simpa using this.symm
  obtain ⟨k1, k2, k3⟩ := Lib.bitLenAux_bounds 64 y hyb hy0
  have hb : Lib.bitLen y ≤ 64 := Lib.bitLen_le _ 64 (Nat.le_refl _) hyb
  obtain ⟨s, hs⟩ : ∃ s, 64 - Lib.bitLen y = s := ⟨_, rfl⟩
  have e1 : Lib.bitLenAux 64 y = 64 - s := by show Lib.bitLen y = _; omega
  rw [e1] at k1 k2 k3
  rw [hs]
  have hp := Nat.two_pow_pos s
  have hbs := B64_split (r := s) (by omega)
  have hv := val_take_succ b n1
  rw [val_take_all (by omega), hy] at hv
  have ht : val (b.take n1) < B64 ^ n1 := Nat.lt_of_lt_of_le (val_lt (hwb.take n1)) (Nat.pow_le_pow_right B64_pos (by rw [List.length_take]; omega))
  have hge : B64 ^ n1 ≤ val b := by
    have := Nat.mul_le_mul_left (B64 ^ n1) (show 1 ≤ y by omega)
    omega
  have hlt : val b < B64 ^ n1 * 2 ^ (64 - s) := by
    have := Nat.mul_le_mul_left (B64 ^ n1) (show y + 1 ≤ 2 ^ (64 - s) from k3)
    rw [Nat.mul_add] at this
    omega
  refine ⟨by omega, Nat.mul_pos (Nat.lt_of_lt_of_le (Nat.pow_pos B64_pos) hge) hp, ?_, ?_⟩
  · rw [show B64 ^ (n1 + 1) = B64 ^ n1 * (2 ^ (64 - s) * 2 ^ s) by rw [← hbs]; exact Nat.pow_succ .., ← Nat.mul_assoc]
    exact Nat.mul_lt_mul_of_pos_right hlt hp
  · have ha := val_lt hwa
    rw [hla, show na = (na - n1) + n1 by omega, Nat.pow_add] at ha
    rw [← Nat.mul_assoc]
    refine Nat.mul_lt_mul_of_pos_right (Nat.lt_of_lt_of_le ha ?_) hp
    exact Nat.mul_le_mul_left _ hge

/-- What a store of two cells has left. -/
theorem store2 {W : World} {g : Nat} {x y u v : Value} {t : TypeId} (h : W.heap[g]? = some (.cells #[x, y] t)) : ((W.setCell ⟨g, 0, none⟩ u).setCell ⟨g, 1, none⟩ v).heap[g]? = some (.cells #[u, v] t) ∧ Only g W ((W.setCell ⟨g, 0, none⟩ u).setCell ⟨g, 1, none⟩ v) := by
  refine ⟨?_, ((Only.refl g W).setCell rfl u).setCell rfl v⟩
  simp [World.setCell, Array.getElem?_modify, h]
theorem alloc_facts (W : World) (o : Obj) : ∃ W', W.alloc o = W' ∧ W'.heap[W.heap.size]? = some o ∧ Below W.heap.size W W' ∧ W.heap.size < W'.heap.size :=
  ⟨_, rfl, World.alloc_heap_new W o, (Below.refl _ W).alloc (Nat.le_refl _) o, by simp⟩
/-- Behind the divisor's making: its three blocks. -/
def Reg7 (w : World) (n1 D : Nat) (bs sv : Value) (a a' : Act) (W : World) : Prop :=
  ∃ gb gm gd lb, a' = ((((((((((((a.put (some 40) bs).put (some 41) sv).put (some 42) bs).put (some 43) (.int .i64 ((n1 : Int) + 1))).put (some 44) (.int .i64 ((n1 : Int) + 1 + 1))).put (some 46) bs).put (some 47) (.int .i64 ((n1 : Int) + 1))).put (some 48) (.int .i64 ((n1 : Int) + 1 + 1))).put (some 45) (.slice (some ⟨gb, 0, none⟩) (n1 + 1 + 1) (n1 + 1 + 1))).put (some 49) (.slice (some ⟨gm, 0, none⟩) (n1 + 1 + 1) (n1 + 1 + 1))).put (some 50) (.agg #[.slice (some ⟨gb, 0, none⟩) (n1 + 1 + 1) (n1 + 1 + 1), .slice (some ⟨gm, 0, none⟩) (n1 + 1 + 1) (n1 + 1 + 1)])).put (some 9) (.pointer (some ⟨gd, 0, none⟩))) ∧
    RowL W gb lb ∧ lb.length = n1 + 1 + 1 ∧ Words lb ∧ val lb = D ∧ RowL W gm (List.replicate (n1 + 1 + 1) 0) ∧ W.heap[gd]? = some (.cells #[.slice (some ⟨gb, 0, none⟩) (n1 + 1 + 1) (n1 + 1 + 1), .slice (some ⟨gm, 0, none⟩) (n1 + 1 + 1) (n1 + 1 + 1)] 150) ∧
    (w.heap.size < gb ∧ w.heap.size < gm ∧ w.heap.size < gd ∧ gb ≠ gm ∧ gb ≠ gd ∧ gm ≠ gd) ∧ W.heap[w.heap.size]? = some (.cells #[.slice none 0 0] 23) ∧ Below w.heap.size w W
theorem wpIn_cut {F : Fence} {n : Nat} {P : Program} {c : Code} {Q : Exit → Act → World → Prop} {a : Act} {w : World} (Φ : Act → Act → World → Prop) (h1 : c.wpIn F n P (fun e a' w' => e = .normal ∧ Φ a a' w') a w) (h2 : ∀ a' w', Φ a a' w' → Q .normal a' w') : c.wpIn F n P Q a w :=
  wpIn_mono h1 fun e a' w' h => by rw [h.1]; exact h2 _ _ h.2

/-- What the rounds of byLimbs hand on. -/
def LbI (w : World) (m n N D A0 : Nat) (lb : List Nat) (gb gm gd gl gt gq n0 : Nat) (V : Nat → Nat → Prop) (pre : List (BkI m V)) (W : World) : Prop :=
  ∃ Lq Lf M, LbG m n N D A0 pre Lq Lf ∧ Boxed W w.heap.size 23 (.slice (some ⟨gq, 0, none⟩) m m) ∧ W.heap[gd]? = some (.cells #[.slice (some ⟨gb, 0, none⟩) n n, .slice (some ⟨gm, 0, none⟩) n n] 150) ∧ Boxed W gt 22 (.slice (some ⟨gl, 0, none⟩) N N) ∧
    RowL W gq Lq ∧ RowL W gl Lf ∧ RowL W gm M ∧ M.length = n ∧ Words M ∧ RowL W gb lb ∧ Below w.heap.size w W ∧ n0 ≤ W.heap.size
theorem LbI.row0 {w : World} {m n N D A0 : Nat} {lb : List Nat} {gb gm gd gl gt gq n0 : Nat} {V : Nat → Nat → Prop} {pre : List (BkI m V)} {W : World} (h : LbI w m n N D A0 lb gb gm gd gl gt gq n0 V pre W) : ∃ Lq, RowL W gq Lq ∧ Lq.length = m := by
  obtain ⟨Lq, _, _, hG, _, _, _, hq, _⟩ := h
  exact ⟨Lq, hq, hG.1⟩
theorem has_row {W : World} {g m : Nat} (h : ∃ L, RowL W g L ∧ L.length = m) : Has W (some ⟨g, 0, none⟩) m (fun _ _ => True) := fun i hi => by
  obtain ⟨L, hr, hl⟩ := h
  exact ⟨g, 0, lim L i, rfl, trivial, by rw [Nat.zero_add]; exact hr.cell (by omega)⟩
theorem lbI_own {w : World} {m n N D A0 : Nat} {lb : List Nat} {gb gm gd gl gt gq n0 Bs B : Nat} {V : Nat → Nat → Prop} (ho : w.heap.size < gb ∧ w.heap.size < gm ∧ w.heap.size < gd ∧ gb ≠ gm ∧ gb ≠ gd ∧ gm ≠ gd ∧ gb < gl ∧ gm < gl ∧ gd < gl ∧ gl < gt ∧ gt < gq ∧ gq < Bs ∧ Bs < n0) (hB : n0 ≤ B) : OwnFrom B (LbI w m n N D A0 lb gb gm gd gl gt gq n0 V) := by
  refine ownFrom_low hB (fun s W h => ?_) (fun s W W' h hb => ?_)
  · obtain ⟨_, _, _, _, _, _, _, _, _, _, _, _, _, _, h⟩ := h
    exact h
  · obtain ⟨Lq, Lf, M, hG, k0, kD, kT, kQ, kL, kM, hM, hwM, kB, hBe, hsz⟩ := h
    exact ⟨Lq, Lf, M, hG, (hb.block _ (by omega)).trans k0, (hb.block _ (by omega)).trans kD, (hb.block _ (by omega)).trans kT, kQ.below hb (by omega), kL.below hb (by omega), kM.below hb (by omega), hM, hwM, kB.below hb (by omega), hBe.trans (hb.mono (by omega)), Nat.le_trans hsz hb.size⟩

set_option maxRecDepth 100000 in
set_option maxHeartbeats 4000000 in
theorem limbs_main (A A2 : Option Addr) (na ca nb cb : Nat) (a b : List Nat) (w : World) (hra : Rd w A na a) (hrb : Rd w A2 nb b) (hna : na ≤ 900000) (hab : nb ≤ na) (hnb : 2 ≤ nb) (hma : may a = true) (hmb : may b = true) :
    Calls Tryz.prog 128 #[.slice A na ca, .slice A2 nb cb] w fun e w' => ∃ A' k c A3 k3 c3, e = .returned (.tuple #[.slice A' k c, .slice A3 k3 c3]) ∧ Own w' w.heap.size (.slice A' k c) (limbs (val a / val b)) ∧ Own w' w.heap.size (.slice A3 k3 c3) (limbs (val a % val b)) ∧ Below w.heap.size w w' := by
  have hmk := fun W => run_make_row' (P := Tryz.prog) 22 36 (.int .u64 0) 8 Tryz.underlying22 u64_info rfl .i64 .i64 (nb + 1) (by omega) (by omega) W
  have hmk2 := fun W => run_make_row' (P := Tryz.prog) 23 36 (.int .u64 0) 8 Tryz.underlying23 u64_info rfl .i64 .i64 (na + 1 - nb) (by omega) (by omega) W
  refine (callsIn_wide (n := 8)).1 ?_
  refine callsIn_of_wp_marks Tryz.func128 rfl trivial ?_ rfl
  simp only [Tryz.ntmps128, List.size_toArray, List.length_cons, List.length_nil, Nat.reduceAdd, Nat.reduceSub, Array.replicate_succ, Array.replicate_zero, List.push_toArray, List.append_toArray, List.nil_append, List.cons_append]
  obtain ⟨b1, o1, rfl, hlt1, hc1⟩ := (hrb.alloc (.cells #[.slice none 0 0] 23)).cells (by omega)
  have hcl := hc1 (nb - 1) (by omega)
  obtain ⟨n1, rfl⟩ : ∃ n1, nb = n1 + 1 := ⟨nb - 1, by omega⟩
  rw [Nat.add_sub_cancel] at hcl
  rw [show ((n1 + 1 + 1 : Nat) : Int) = (n1 : Int) + 1 + 1 by omega] at hmk
  rw [show na + 1 - (n1 + 1) = na - n1 by omega, show ((na - n1 : Nat) : Int) = (na : Int) - ((n1 : Int) + 1) + 1 by omega] at hmk2
  have HMK2 := Lib.hid hmk2
  clear hmk2
  obtain ⟨y, hy⟩ : ∃ y, lim b n1 = y := ⟨_, rfl⟩
  rw [hy] at hcl
  have hyb : y < B64 := by rw [← hy]; exact hrb.words.get _
  have hd1 : decide ((na : Int) < ((n1 + 1 : Nat) : Int)) = false := by simp; omega
  have hd2 : (((n1 + 1 : Nat) : Int) == 1) = false := by simp; omega
  obtain ⟨q1, q2, q3, q4⟩ := lead_facts hra.words hra.len hrb.words hrb.len hmb hy hab
  have hlead := lead_any y hyb (w.alloc (.cells #[.slice none 0 0] 23))
  generalize 64 - Lib.bitLen y = s at *
  have HLEAD := Lib.hid hlead
  have Q2 := Lib.hid q2
  have Q3 := Lib.hid q3
  have Q4 := Lib.hid q4
  clear hlead q2 q3 q4
  have HRA := Lib.hid hra
  have HRB := Lib.hid hrb
  have HMA := Lib.hid hma
  have HMB := Lib.hid hmb
  have HY := Lib.hid hy
  clear hra hrb hma hmb hy hc1
  gi_wp2_with fail
  refine ⟨trivial, (callsIn_wide.2 HLEAD.out).mono ?_⟩
  rintro e w1 ⟨rfl, rfl⟩
  gi_wp2_with fail
  have hUP : Hid (∀ W, Below w.heap.size w W → Calls Tryz.prog 139 #[.slice (some ⟨b1, o1, none⟩) (n1 + 1) cb, .int .i64 (s : Int), .int .i64 ((n1 : Int) + 1 + 1)] W fun e w' => ∃ g l, e = .returned (.slice (some ⟨g, 0, none⟩) (n1 + 1 + 1) (n1 + 1 + 1)) ∧ RowL w' g l ∧ l.length = n1 + 1 + 1 ∧ Words l ∧ val l = val b * 2 ^ s ∧ W.heap.size ≤ g ∧ Below W.heap.size W w') :=
    fun W hB => upD_any (some ⟨b1, o1, none⟩) (n1 + 1) cb s b W (HRB.out.below hB) (by omega) HMB.out (by omega)
  have hwr : IntKind.i64.wrap ((n1 : Int) + 1 + 1) = (n1 : Int) + 1 + 1 := by rw [IntKind.wrap_i64]; omega
  refine wpIn_cut (Reg7 w n1 (val b * 2 ^ s) (.slice (some ⟨b1, o1, none⟩) (n1 + 1) cb) (.int .i64 (s : Int))) ?_ ?_
  · refine wpIn_wide.2 ?_
    have h0 := World.alloc_heap_new w (.cells #[.slice none 0 0] 23)
    have hB0 : Below w.heap.size w (w.alloc (.cells #[.slice none 0 0] 23)).drew := ((Below.refl _ w).alloc (Nat.le_refl _) _).drew
    have hs0 : (w.alloc (.cells #[.slice none 0 0] 23)).drew.heap.size > w.heap.size := by simp
    replace h0 : (w.alloc (.cells #[.slice none 0 0] 23)).drew.heap[w.heap.size]? = some (.cells #[.slice none 0 0] 23) := h0
    refine region_held (S := fun _ => True) 13 (by kernel_rfl) rfl ?_
    clear hcl hlt1
    unfold Reg7
    refine takeL (i := 0) (v := ?_) (List.getElem?_cons_zero) (by kernel_rfl) (by kernel_rfl) (by kernel_rfl) (fun _ _ _ h => by cases h.1) (Or.inl ⟨by rfl, ?_⟩) trivial ?_
    rotate_left
    · (intro w hSw; clear hSw; go_simp; try with_reducible rfl)
    try simp only [Act.put, List.setIfInBounds_toArray, List.set_cons_zero, List.set_cons_succ]
    refine takeL (i := 1) (v := ?_) (List.getElem?_cons_succ.trans (List.getElem?_cons_zero)) (by kernel_rfl) (by kernel_rfl) (by kernel_rfl) (fun _ _ _ h => by cases h.1) (Or.inl ⟨by rfl, ?_⟩) trivial ?_
    rotate_left
    · (intro w hSw; clear hSw; go_simp; try with_reducible rfl)
    try simp only [Act.put, List.setIfInBounds_toArray, List.set_cons_zero, List.set_cons_succ]
    refine takeL (i := 2) (v := ?_) (List.getElem?_cons_succ.trans (List.getElem?_cons_succ.trans (List.getElem?_cons_zero))) (by kernel_rfl) (by kernel_rfl) (by kernel_rfl) (fun _ _ _ h => by cases h.1) (Or.inl ⟨by rfl, ?_⟩) trivial ?_
    rotate_left
    · (intro w hSw; clear hSw; go_simp; try with_reducible rfl)
    try simp only [Act.put, List.setIfInBounds_toArray, List.set_cons_zero, List.set_cons_succ]
    refine takeL (i := 3) (v := ?_) (List.getElem?_cons_succ.trans (List.getElem?_cons_succ.trans (List.getElem?_cons_succ.trans (List.getElem?_cons_zero)))) (by kernel_rfl) (by kernel_rfl) (by kernel_rfl) (fun _ _ _ h => by cases h.1) (Or.inl ⟨by rfl, ?_⟩) trivial ?_
    rotate_left
    · (intro w hSw; clear hSw; go_simp; try with_reducible rfl)
    try simp only [Act.put, List.setIfInBounds_toArray, List.set_cons_zero, List.set_cons_succ]
    refine takeL (i := 4) (v := ?_) (List.getElem?_cons_succ.trans (List.getElem?_cons_succ.trans (List.getElem?_cons_succ.trans (List.getElem?_cons_succ.trans (List.getElem?_cons_zero))))) (by kernel_rfl) (by kernel_rfl) (by kernel_rfl) (fun _ _ _ h => by cases h.1) (Or.inl ⟨by rfl, ?_⟩) trivial ?_
    rotate_left
    · (intro w hSw; clear hSw; go_simp; try with_reducible rfl)
    try simp only [Act.put, List.setIfInBounds_toArray, List.set_cons_zero, List.set_cons_succ]
    refine takeL (i := 6) (v := ?_) (List.getElem?_cons_succ.trans (List.getElem?_cons_succ.trans (List.getElem?_cons_succ.trans (List.getElem?_cons_succ.trans (List.getElem?_cons_succ.trans (List.getElem?_cons_succ.trans (List.getElem?_cons_zero))))))) (by kernel_rfl) (by kernel_rfl) (by kernel_rfl) (fun _ _ _ h => by cases h.1) (Or.inl ⟨by rfl, ?_⟩) trivial ?_
    rotate_left
    · (intro w hSw; clear hSw; go_simp; try with_reducible rfl)
    try simp only [Act.put, List.setIfInBounds_toArray, List.set_cons_zero, List.set_cons_succ]
    refine takeL (i := 7) (v := ?_) (List.getElem?_cons_succ.trans (List.getElem?_cons_succ.trans (List.getElem?_cons_succ.trans (List.getElem?_cons_succ.trans (List.getElem?_cons_succ.trans (List.getElem?_cons_succ.trans (List.getElem?_cons_succ.trans (List.getElem?_cons_zero)))))))) (by kernel_rfl) (by kernel_rfl) (by kernel_rfl) (fun _ _ _ h => by cases h.1) (Or.inl ⟨by rfl, ?_⟩) trivial ?_
    rotate_left
    · (intro w hSw; clear hSw; go_simp; try with_reducible rfl)
    try simp only [Act.put, List.setIfInBounds_toArray, List.set_cons_zero, List.set_cons_succ]
    refine takeL (i := 8) (v := ?_) (List.getElem?_cons_succ.trans (List.getElem?_cons_succ.trans (List.getElem?_cons_succ.trans (List.getElem?_cons_succ.trans (List.getElem?_cons_succ.trans (List.getElem?_cons_succ.trans (List.getElem?_cons_succ.trans (List.getElem?_cons_succ.trans (List.getElem?_cons_zero))))))))) (by kernel_rfl) (by kernel_rfl) (by kernel_rfl) (fun _ _ _ h => by cases h.1) (Or.inl ⟨by rfl, ?_⟩) trivial ?_
    rotate_left
    · (intro w hSw; clear hSw; go_simp; try with_reducible rfl)
    try simp only [Act.put, List.setIfInBounds_toArray, List.set_cons_zero, List.set_cons_succ]
    generalize (w.alloc (.cells #[.slice none 0 0] 23)).drew = W0 at *
    refine wpAnyH_ready (rs := [5, 9, 11]) (by kernel_rfl) (by simp) ?_
    refine carryC (i := 5) (List.getElem?_cons_succ.trans (List.getElem?_cons_succ.trans (List.getElem?_cons_succ.trans (List.getElem?_cons_succ.trans (List.getElem?_cons_succ.trans (List.getElem?_cons_zero)))))) (by rfl) (fun K hK => ?_) ?_
    · -- 5
      go_simp
      refine (hUP.out W0 hB0).mono ?_
      rintro e W1 ⟨gb, lb, rfl, rb0, rb1, rb2, rb3, rb4, hbel⟩
      refine hK _ _ trivial (fun _ => ?_)
      clear hK K
      have hsz := hbel.size
      have hblt := rb0.lt
      have rb : RowL W1 gb lb ∧ lb.length = n1 + 1 + 1 ∧ Words lb ∧ val lb = val b * 2 ^ s := ⟨rb0, rb1, rb2, rb3⟩
      clear rb0 rb1 rb2 rb3
      try simp only [Act.put, List.setIfInBounds_toArray, List.set_cons_zero, List.set_cons_succ]
      have hB1 := hB0.trans (hbel.mono hB0.size)
      have h1 := (hbel.block w.heap.size (by omega)).trans h0
      have hz1 := hbel.size
      clear hbel
      refine wpAnyH_ready (rs := [9, 11]) (by kernel_rfl) (by simp) ?_
      refine carryC (i := 9) (List.getElem?_cons_succ.trans (List.getElem?_cons_succ.trans (List.getElem?_cons_succ.trans (List.getElem?_cons_succ.trans (List.getElem?_cons_succ.trans (List.getElem?_cons_succ.trans (List.getElem?_cons_succ.trans (List.getElem?_cons_succ.trans (List.getElem?_cons_succ.trans (List.getElem?_cons_zero)))))))))) (by rfl) (fun K hK => ?_) ?_
      · -- 9
        go_simp
        refine hK _ _ trivial (fun _ => ?_)
        clear hK K
        have rm := RowL.zeros W1 (n1 + 1 + 1)
        obtain ⟨W2, hw, _, hbel, hsz⟩ := alloc_facts W1 (.cells (madeCells #[.int .u64 0] (n1 + 1 + 1)) 36)
        rw [hw] at rm ⊢
        clear hw
        obtain ⟨gm, hgm⟩ : ∃ gm, W1.heap.size = gm := ⟨_, rfl⟩
        rw [hgm] at rm ⊢
        try simp only [Act.put, List.setIfInBounds_toArray, List.set_cons_zero, List.set_cons_succ]
        have hB2 := hB1.trans (hbel.mono hB1.size)
        have h2 := (hbel.block w.heap.size (by omega)).trans h1
        replace rb : RowL W2 gb lb ∧ _ := ⟨rb.1.below hbel (by omega), rb.2⟩
        have hz2 := hbel.size
        clear hbel
        refine takeL (i := 10) (v := ?_) (List.getElem?_cons_succ.trans (List.getElem?_cons_succ.trans (List.getElem?_cons_succ.trans (List.getElem?_cons_succ.trans (List.getElem?_cons_succ.trans (List.getElem?_cons_succ.trans (List.getElem?_cons_succ.trans (List.getElem?_cons_succ.trans (List.getElem?_cons_succ.trans (List.getElem?_cons_succ.trans (List.getElem?_cons_zero))))))))))) (by kernel_rfl) (by kernel_rfl) (by kernel_rfl) (fun _ _ _ h => by cases h.1) (Or.inl ⟨by rfl, ?_⟩) trivial ?_
        rotate_left
        · (intro w hSw; clear hSw; go_simp; try with_reducible rfl)
        try simp only [Act.put, List.setIfInBounds_toArray, List.set_cons_zero, List.set_cons_succ]
        refine carryL (i := 11) (List.getElem?_cons_succ.trans (List.getElem?_cons_succ.trans (List.getElem?_cons_succ.trans (List.getElem?_cons_succ.trans (List.getElem?_cons_succ.trans (List.getElem?_cons_succ.trans (List.getElem?_cons_succ.trans (List.getElem?_cons_succ.trans (List.getElem?_cons_succ.trans (List.getElem?_cons_succ.trans (List.getElem?_cons_succ.trans (List.getElem?_cons_zero)))))))))))) (by kernel_rfl) (by rfl) (fun K hK => ?_)
        go_simp
        refine hK _ _ trivial (fun _ => ?_)
        clear hK K
        obtain ⟨W3, hw, rd, hbel, hsz⟩ := alloc_facts W2 (.cells #[.slice none 0 0, .slice none 0 0] 150)
        rw [hw]
        clear hw
        obtain ⟨gd, hgd⟩ : ∃ gd, W2.heap.size = gd := ⟨_, rfl⟩
        rw [hgd] at rd ⊢
        try simp only [Act.put, List.setIfInBounds_toArray, List.set_cons_zero, List.set_cons_succ]
        have hB3 := hB2.trans (hbel.mono hB2.size)
        have h3 := (hbel.block w.heap.size (by omega)).trans h2
        replace rb : RowL W3 gb lb ∧ _ := ⟨rb.1.below hbel (by omega), rb.2⟩
        replace rm := rm.below hbel (by omega)
        have hz3 := hbel.size
        clear hbel
        refine carryL (i := 12) (List.getElem?_cons_succ.trans (List.getElem?_cons_succ.trans (List.getElem?_cons_succ.trans (List.getElem?_cons_succ.trans (List.getElem?_cons_succ.trans (List.getElem?_cons_succ.trans (List.getElem?_cons_succ.trans (List.getElem?_cons_succ.trans (List.getElem?_cons_succ.trans (List.getElem?_cons_succ.trans (List.getElem?_cons_succ.trans (List.getElem?_cons_succ.trans (List.getElem?_cons_zero))))))))))))) (by kernel_rfl) (by rfl) (fun K hK => ?_)
        have cd := cells_cell (j := 0) rd rfl
        have cd1 := cells_cell (j := 1) rd rfl
        have fd : W3.frozen? ⟨gd, 0, none⟩ = false := cells_frozen rd
        have fd1 : W3.frozen? ⟨gd, 1, none⟩ = false := cells_frozen rd
        go_simp
        refine hK _ _ trivial (fun _ => wpAnyH_done (by kernel_rfl) ?_ _)
        clear hK K
        try simp only [Act.put, List.setIfInBounds_toArray, List.set_cons_zero, List.set_cons_succ]
        obtain ⟨z1, z2⟩ := store2 (u := .slice (some ⟨gb, 0, none⟩) (n1 + 1 + 1) (n1 + 1 + 1)) (v := .slice (some ⟨gm, 0, none⟩) (n1 + 1 + 1) (n1 + 1 + 1)) rd
        refine ⟨trivial, gb, gm, gd, lb, ?_, z2.row rb.1 (by omega), rb.2.1, rb.2.2.1, rb.2.2.2, z2.row rm (by omega), z1, ⟨by omega, by omega, by omega, by omega, by omega, by omega⟩, ?_, hB3.trans (z2.to (by omega) (by omega))⟩
        · try simp only [Act.put, List.setIfInBounds_toArray, List.set_cons_zero, List.set_cons_succ]
        · exact (z2.keep _ (by omega) (by omega)).trans h3
      refine carryC (i := 11) (List.getElem?_cons_succ.trans (List.getElem?_cons_succ.trans (List.getElem?_cons_succ.trans (List.getElem?_cons_succ.trans (List.getElem?_cons_succ.trans (List.getElem?_cons_succ.trans (List.getElem?_cons_succ.trans (List.getElem?_cons_succ.trans (List.getElem?_cons_succ.trans (List.getElem?_cons_succ.trans (List.getElem?_cons_succ.trans (List.getElem?_cons_zero)))))))))))) (by rfl) (fun K hK => ?_) ?_
      · -- 11
        go_simp
        refine hK _ _ trivial (fun _ => ?_)
        clear hK K
        obtain ⟨W2, hw, rd, hbel, hsz⟩ := alloc_facts W1 (.cells #[.slice none 0 0, .slice none 0 0] 150)
        rw [hw]
        clear hw
        obtain ⟨gd, hgd⟩ : ∃ gd, W1.heap.size = gd := ⟨_, rfl⟩
        rw [hgd] at rd ⊢
        try simp only [Act.put, List.setIfInBounds_toArray, List.set_cons_zero, List.set_cons_succ]
        have hB2 := hB1.trans (hbel.mono hB1.size)
        have h2 := (hbel.block w.heap.size (by omega)).trans h1
        replace rb : RowL W2 gb lb ∧ _ := ⟨rb.1.below hbel (by omega), rb.2⟩
        have hz2 := hbel.size
        clear hbel
        refine carryL (i := 9) (List.getElem?_cons_succ.trans (List.getElem?_cons_succ.trans (List.getElem?_cons_succ.trans (List.getElem?_cons_succ.trans (List.getElem?_cons_succ.trans (List.getElem?_cons_succ.trans (List.getElem?_cons_succ.trans (List.getElem?_cons_succ.trans (List.getElem?_cons_succ.trans (List.getElem?_cons_zero)))))))))) (by kernel_rfl) (by rfl) (fun K hK => ?_)
        go_simp
        refine hK _ _ trivial (fun _ => ?_)
        clear hK K
        have rm := RowL.zeros W2 (n1 + 1 + 1)
        obtain ⟨W3, hw, _, hbel, hsz⟩ := alloc_facts W2 (.cells (madeCells #[.int .u64 0] (n1 + 1 + 1)) 36)
        rw [hw] at rm ⊢
        clear hw
        obtain ⟨gm, hgm⟩ : ∃ gm, W2.heap.size = gm := ⟨_, rfl⟩
        rw [hgm] at rm ⊢
        try simp only [Act.put, List.setIfInBounds_toArray, List.set_cons_zero, List.set_cons_succ]
        have hB3 := hB2.trans (hbel.mono hB2.size)
        have h3 := (hbel.block w.heap.size (by omega)).trans h2
        replace rb : RowL W3 gb lb ∧ _ := ⟨rb.1.below hbel (by omega), rb.2⟩
        replace rd := (hbel.block gd (by omega)).trans rd
        have hz3 := hbel.size
        clear hbel
        refine takeL (i := 10) (v := ?_) (List.getElem?_cons_succ.trans (List.getElem?_cons_succ.trans (List.getElem?_cons_succ.trans (List.getElem?_cons_succ.trans (List.getElem?_cons_succ.trans (List.getElem?_cons_succ.trans (List.getElem?_cons_succ.trans (List.getElem?_cons_succ.trans (List.getElem?_cons_succ.trans (List.getElem?_cons_succ.trans (List.getElem?_cons_zero))))))))))) (by kernel_rfl) (by kernel_rfl) (by kernel_rfl) (fun _ _ _ h => by cases h.1) (Or.inl ⟨by rfl, ?_⟩) trivial ?_
        rotate_left
        · (intro w hSw; clear hSw; go_simp; try with_reducible rfl)
        try simp only [Act.put, List.setIfInBounds_toArray, List.set_cons_zero, List.set_cons_succ]
        refine carryL (i := 12) (List.getElem?_cons_succ.trans (List.getElem?_cons_succ.trans (List.getElem?_cons_succ.trans (List.getElem?_cons_succ.trans (List.getElem?_cons_succ.trans (List.getElem?_cons_succ.trans (List.getElem?_cons_succ.trans (List.getElem?_cons_succ.trans (List.getElem?_cons_succ.trans (List.getElem?_cons_succ.trans (List.getElem?_cons_succ.trans (List.getElem?_cons_succ.trans (List.getElem?_cons_zero))))))))))))) (by kernel_rfl) (by rfl) (fun K hK => ?_)
        have cd := cells_cell (j := 0) rd rfl
        have cd1 := cells_cell (j := 1) rd rfl
        have fd : W3.frozen? ⟨gd, 0, none⟩ = false := cells_frozen rd
        have fd1 : W3.frozen? ⟨gd, 1, none⟩ = false := cells_frozen rd
        go_simp
        refine hK _ _ trivial (fun _ => wpAnyH_done (by kernel_rfl) ?_ _)
        clear hK K
        try simp only [Act.put, List.setIfInBounds_toArray, List.set_cons_zero, List.set_cons_succ]
        obtain ⟨z1, z2⟩ := store2 (u := .slice (some ⟨gb, 0, none⟩) (n1 + 1 + 1) (n1 + 1 + 1)) (v := .slice (some ⟨gm, 0, none⟩) (n1 + 1 + 1) (n1 + 1 + 1)) rd
        refine ⟨trivial, gb, gm, gd, lb, ?_, z2.row rb.1 (by omega), rb.2.1, rb.2.2.1, rb.2.2.2, z2.row rm (by omega), z1, ⟨by omega, by omega, by omega, by omega, by omega, by omega⟩, ?_, hB3.trans (z2.to (by omega) (by omega))⟩
        · try simp only [Act.put, List.setIfInBounds_toArray, List.set_cons_zero, List.set_cons_succ]
        · exact (z2.keep _ (by omega) (by omega)).trans h3
      exact AllReadyH.nil
    refine carryC (i := 9) (List.getElem?_cons_succ.trans (List.getElem?_cons_succ.trans (List.getElem?_cons_succ.trans (List.getElem?_cons_succ.trans (List.getElem?_cons_succ.trans (List.getElem?_cons_succ.trans (List.getElem?_cons_succ.trans (List.getElem?_cons_succ.trans (List.getElem?_cons_succ.trans (List.getElem?_cons_zero)))))))))) (by rfl) (fun K hK => ?_) ?_
    · -- 9
      go_simp
      refine hK _ _ trivial (fun _ => ?_)
      clear hK K
      have rm := RowL.zeros W0 (n1 + 1 + 1)
      obtain ⟨W1, hw, _, hbel, hsz⟩ := alloc_facts W0 (.cells (madeCells #[.int .u64 0] (n1 + 1 + 1)) 36)
      rw [hw] at rm ⊢
      clear hw
      obtain ⟨gm, hgm⟩ : ∃ gm, W0.heap.size = gm := ⟨_, rfl⟩
      rw [hgm] at rm ⊢
      try simp only [Act.put, List.setIfInBounds_toArray, List.set_cons_zero, List.set_cons_succ]
      have hB1 := hB0.trans (hbel.mono hB0.size)
      have h1 := (hbel.block w.heap.size (by omega)).trans h0
      have hz1 := hbel.size
      clear hbel
      refine wpAnyH_ready (rs := [5, 11]) (by kernel_rfl) (by simp) ?_
      refine carryC (i := 5) (List.getElem?_cons_succ.trans (List.getElem?_cons_succ.trans (List.getElem?_cons_succ.trans (List.getElem?_cons_succ.trans (List.getElem?_cons_succ.trans (List.getElem?_cons_zero)))))) (by rfl) (fun K hK => ?_) ?_
      · -- 5
        go_simp
        refine (hUP.out W1 hB1).mono ?_
        rintro e W2 ⟨gb, lb, rfl, rb0, rb1, rb2, rb3, rb4, hbel⟩
        refine hK _ _ trivial (fun _ => ?_)
        clear hK K
        have hsz := hbel.size
        have hblt := rb0.lt
        have rb : RowL W2 gb lb ∧ lb.length = n1 + 1 + 1 ∧ Words lb ∧ val lb = val b * 2 ^ s := ⟨rb0, rb1, rb2, rb3⟩
        clear rb0 rb1 rb2 rb3
        try simp only [Act.put, List.setIfInBounds_toArray, List.set_cons_zero, List.set_cons_succ]
        have hB2 := hB1.trans (hbel.mono hB1.size)
        have h2 := (hbel.block w.heap.size (by omega)).trans h1
        replace rm := rm.below hbel (by omega)
        have hz2 := hbel.size
        clear hbel
        refine takeL (i := 10) (v := ?_) (List.getElem?_cons_succ.trans (List.getElem?_cons_succ.trans (List.getElem?_cons_succ.trans (List.getElem?_cons_succ.trans (List.getElem?_cons_succ.trans (List.getElem?_cons_succ.trans (List.getElem?_cons_succ.trans (List.getElem?_cons_succ.trans (List.getElem?_cons_succ.trans (List.getElem?_cons_succ.trans (List.getElem?_cons_zero))))))))))) (by kernel_rfl) (by kernel_rfl) (by kernel_rfl) (fun _ _ _ h => by cases h.1) (Or.inl ⟨by rfl, ?_⟩) trivial ?_
        rotate_left
        · (intro w hSw; clear hSw; go_simp; try with_reducible rfl)
        try simp only [Act.put, List.setIfInBounds_toArray, List.set_cons_zero, List.set_cons_succ]
        refine carryL (i := 11) (List.getElem?_cons_succ.trans (List.getElem?_cons_succ.trans (List.getElem?_cons_succ.trans (List.getElem?_cons_succ.trans (List.getElem?_cons_succ.trans (List.getElem?_cons_succ.trans (List.getElem?_cons_succ.trans (List.getElem?_cons_succ.trans (List.getElem?_cons_succ.trans (List.getElem?_cons_succ.trans (List.getElem?_cons_succ.trans (List.getElem?_cons_zero)))))))))))) (by kernel_rfl) (by rfl) (fun K hK => ?_)
        go_simp
        refine hK _ _ trivial (fun _ => ?_)
        clear hK K
        obtain ⟨W3, hw, rd, hbel, hsz⟩ := alloc_facts W2 (.cells #[.slice none 0 0, .slice none 0 0] 150)
        rw [hw]
        clear hw
        obtain ⟨gd, hgd⟩ : ∃ gd, W2.heap.size = gd := ⟨_, rfl⟩
        rw [hgd] at rd ⊢
        try simp only [Act.put, List.setIfInBounds_toArray, List.set_cons_zero, List.set_cons_succ]
        have hB3 := hB2.trans (hbel.mono hB2.size)
        have h3 := (hbel.block w.heap.size (by omega)).trans h2
        replace rb : RowL W3 gb lb ∧ _ := ⟨rb.1.below hbel (by omega), rb.2⟩
        replace rm := rm.below hbel (by omega)
        have hz3 := hbel.size
        clear hbel
        refine carryL (i := 12) (List.getElem?_cons_succ.trans (List.getElem?_cons_succ.trans (List.getElem?_cons_succ.trans (List.getElem?_cons_succ.trans (List.getElem?_cons_succ.trans (List.getElem?_cons_succ.trans (List.getElem?_cons_succ.trans (List.getElem?_cons_succ.trans (List.getElem?_cons_succ.trans (List.getElem?_cons_succ.trans (List.getElem?_cons_succ.trans (List.getElem?_cons_succ.trans (List.getElem?_cons_zero))))))))))))) (by kernel_rfl) (by rfl) (fun K hK => ?_)
        have cd := cells_cell (j := 0) rd rfl
        have cd1 := cells_cell (j := 1) rd rfl
        have fd : W3.frozen? ⟨gd, 0, none⟩ = false := cells_frozen rd
        have fd1 : W3.frozen? ⟨gd, 1, none⟩ = false := cells_frozen rd
        go_simp
        refine hK _ _ trivial (fun _ => wpAnyH_done (by kernel_rfl) ?_ _)
        clear hK K
        try simp only [Act.put, List.setIfInBounds_toArray, List.set_cons_zero, List.set_cons_succ]
        obtain ⟨z1, z2⟩ := store2 (u := .slice (some ⟨gb, 0, none⟩) (n1 + 1 + 1) (n1 + 1 + 1)) (v := .slice (some ⟨gm, 0, none⟩) (n1 + 1 + 1) (n1 + 1 + 1)) rd
        refine ⟨trivial, gb, gm, gd, lb, ?_, z2.row rb.1 (by omega), rb.2.1, rb.2.2.1, rb.2.2.2, z2.row rm (by omega), z1, ⟨by omega, by omega, by omega, by omega, by omega, by omega⟩, ?_, hB3.trans (z2.to (by omega) (by omega))⟩
        · try simp only [Act.put, List.setIfInBounds_toArray, List.set_cons_zero, List.set_cons_succ]
        · exact (z2.keep _ (by omega) (by omega)).trans h3
      refine carryC (i := 11) (List.getElem?_cons_succ.trans (List.getElem?_cons_succ.trans (List.getElem?_cons_succ.trans (List.getElem?_cons_succ.trans (List.getElem?_cons_succ.trans (List.getElem?_cons_succ.trans (List.getElem?_cons_succ.trans (List.getElem?_cons_succ.trans (List.getElem?_cons_succ.trans (List.getElem?_cons_succ.trans (List.getElem?_cons_succ.trans (List.getElem?_cons_zero)))))))))))) (by rfl) (fun K hK => ?_) ?_
      · -- 11
        go_simp
        refine hK _ _ trivial (fun _ => ?_)
        clear hK K
        obtain ⟨W2, hw, rd, hbel, hsz⟩ := alloc_facts W1 (.cells #[.slice none 0 0, .slice none 0 0] 150)
        rw [hw]
        clear hw
        obtain ⟨gd, hgd⟩ : ∃ gd, W1.heap.size = gd := ⟨_, rfl⟩
        rw [hgd] at rd ⊢
        try simp only [Act.put, List.setIfInBounds_toArray, List.set_cons_zero, List.set_cons_succ]
        have hB2 := hB1.trans (hbel.mono hB1.size)
        have h2 := (hbel.block w.heap.size (by omega)).trans h1
        replace rm := rm.below hbel (by omega)
        have hz2 := hbel.size
        clear hbel
        refine carryL (i := 5) (List.getElem?_cons_succ.trans (List.getElem?_cons_succ.trans (List.getElem?_cons_succ.trans (List.getElem?_cons_succ.trans (List.getElem?_cons_succ.trans (List.getElem?_cons_zero)))))) (by kernel_rfl) (by rfl) (fun K hK => ?_)
        go_simp
        refine (hUP.out W2 hB2).mono ?_
        rintro e W3 ⟨gb, lb, rfl, rb0, rb1, rb2, rb3, rb4, hbel⟩
        refine hK _ _ trivial (fun _ => ?_)
        clear hK K
        have hsz := hbel.size
        have hblt := rb0.lt
        have rb : RowL W3 gb lb ∧ lb.length = n1 + 1 + 1 ∧ Words lb ∧ val lb = val b * 2 ^ s := ⟨rb0, rb1, rb2, rb3⟩
        clear rb0 rb1 rb2 rb3
        try simp only [Act.put, List.setIfInBounds_toArray, List.set_cons_zero, List.set_cons_succ]
        have hB3 := hB2.trans (hbel.mono hB2.size)
        have h3 := (hbel.block w.heap.size (by omega)).trans h2
        replace rm := rm.below hbel (by omega)
        replace rd := (hbel.block gd (by omega)).trans rd
        have hz3 := hbel.size
        clear hbel
        refine takeL (i := 10) (v := ?_) (List.getElem?_cons_succ.trans (List.getElem?_cons_succ.trans (List.getElem?_cons_succ.trans (List.getElem?_cons_succ.trans (List.getElem?_cons_succ.trans (List.getElem?_cons_succ.trans (List.getElem?_cons_succ.trans (List.getElem?_cons_succ.trans (List.getElem?_cons_succ.trans (List.getElem?_cons_succ.trans (List.getElem?_cons_zero))))))))))) (by kernel_rfl) (by kernel_rfl) (by kernel_rfl) (fun _ _ _ h => by cases h.1) (Or.inl ⟨by rfl, ?_⟩) trivial ?_
        rotate_left
        · (intro w hSw; clear hSw; go_simp; try with_reducible rfl)
        try simp only [Act.put, List.setIfInBounds_toArray, List.set_cons_zero, List.set_cons_succ]
        refine carryL (i := 12) (List.getElem?_cons_succ.trans (List.getElem?_cons_succ.trans (List.getElem?_cons_succ.trans (List.getElem?_cons_succ.trans (List.getElem?_cons_succ.trans (List.getElem?_cons_succ.trans (List.getElem?_cons_succ.trans (List.getElem?_cons_succ.trans (List.getElem?_cons_succ.trans (List.getElem?_cons_succ.trans (List.getElem?_cons_succ.trans (List.getElem?_cons_succ.trans (List.getElem?_cons_zero))))))))))))) (by kernel_rfl) (by rfl) (fun K hK => ?_)
        have cd := cells_cell (j := 0) rd rfl
        have cd1 := cells_cell (j := 1) rd rfl
        have fd : W3.frozen? ⟨gd, 0, none⟩ = false := cells_frozen rd
        have fd1 : W3.frozen? ⟨gd, 1, none⟩ = false := cells_frozen rd
        go_simp
        refine hK _ _ trivial (fun _ => wpAnyH_done (by kernel_rfl) ?_ _)
        clear hK K
        try simp only [Act.put, List.setIfInBounds_toArray, List.set_cons_zero, List.set_cons_succ]
        obtain ⟨z1, z2⟩ := store2 (u := .slice (some ⟨gb, 0, none⟩) (n1 + 1 + 1) (n1 + 1 + 1)) (v := .slice (some ⟨gm, 0, none⟩) (n1 + 1 + 1) (n1 + 1 + 1)) rd
        refine ⟨trivial, gb, gm, gd, lb, ?_, z2.row rb.1 (by omega), rb.2.1, rb.2.2.1, rb.2.2.2, z2.row rm (by omega), z1, ⟨by omega, by omega, by omega, by omega, by omega, by omega⟩, ?_, hB3.trans (z2.to (by omega) (by omega))⟩
        · try simp only [Act.put, List.setIfInBounds_toArray, List.set_cons_zero, List.set_cons_succ]
        · exact (z2.keep _ (by omega) (by omega)).trans h3
      exact AllReadyH.nil
    refine carryC (i := 11) (List.getElem?_cons_succ.trans (List.getElem?_cons_succ.trans (List.getElem?_cons_succ.trans (List.getElem?_cons_succ.trans (List.getElem?_cons_succ.trans (List.getElem?_cons_succ.trans (List.getElem?_cons_succ.trans (List.getElem?_cons_succ.trans (List.getElem?_cons_succ.trans (List.getElem?_cons_succ.trans (List.getElem?_cons_succ.trans (List.getElem?_cons_zero)))))))))))) (by rfl) (fun K hK => ?_) ?_
    · -- 11
      go_simp
      refine hK _ _ trivial (fun _ => ?_)
      clear hK K
      obtain ⟨W1, hw, rd, hbel, hsz⟩ := alloc_facts W0 (.cells #[.slice none 0 0, .slice none 0 0] 150)
      rw [hw]
      clear hw
      obtain ⟨gd, hgd⟩ : ∃ gd, W0.heap.size = gd := ⟨_, rfl⟩
      rw [hgd] at rd ⊢
      try simp only [Act.put, List.setIfInBounds_toArray, List.set_cons_zero, List.set_cons_succ]
      have hB1 := hB0.trans (hbel.mono hB0.size)
      have h1 := (hbel.block w.heap.size (by omega)).trans h0
      have hz1 := hbel.size
      clear hbel
      refine wpAnyH_ready (rs := [5, 9]) (by kernel_rfl) (by simp) ?_
      refine carryC (i := 5) (List.getElem?_cons_succ.trans (List.getElem?_cons_succ.trans (List.getElem?_cons_succ.trans (List.getElem?_cons_succ.trans (List.getElem?_cons_succ.trans (List.getElem?_cons_zero)))))) (by rfl) (fun K hK => ?_) ?_
      · -- 5
        go_simp
        refine (hUP.out W1 hB1).mono ?_
        rintro e W2 ⟨gb, lb, rfl, rb0, rb1, rb2, rb3, rb4, hbel⟩
        refine hK _ _ trivial (fun _ => ?_)
        clear hK K
        have hsz := hbel.size
        have hblt := rb0.lt
        have rb : RowL W2 gb lb ∧ lb.length = n1 + 1 + 1 ∧ Words lb ∧ val lb = val b * 2 ^ s := ⟨rb0, rb1, rb2, rb3⟩
        clear rb0 rb1 rb2 rb3
        try simp only [Act.put, List.setIfInBounds_toArray, List.set_cons_zero, List.set_cons_succ]
        have hB2 := hB1.trans (hbel.mono hB1.size)
        have h2 := (hbel.block w.heap.size (by omega)).trans h1
        replace rd := (hbel.block gd (by omega)).trans rd
        have hz2 := hbel.size
        clear hbel
        refine carryL (i := 9) (List.getElem?_cons_succ.trans (List.getElem?_cons_succ.trans (List.getElem?_cons_succ.trans (List.getElem?_cons_succ.trans (List.getElem?_cons_succ.trans (List.getElem?_cons_succ.trans (List.getElem?_cons_succ.trans (List.getElem?_cons_succ.trans (List.getElem?_cons_succ.trans (List.getElem?_cons_zero)))))))))) (by kernel_rfl) (by rfl) (fun K hK => ?_)
        go_simp
        refine hK _ _ trivial (fun _ => ?_)
        clear hK K
        have rm := RowL.zeros W2 (n1 + 1 + 1)
        obtain ⟨W3, hw, _, hbel, hsz⟩ := alloc_facts W2 (.cells (madeCells #[.int .u64 0] (n1 + 1 + 1)) 36)
        rw [hw] at rm ⊢
        clear hw
        obtain ⟨gm, hgm⟩ : ∃ gm, W2.heap.size = gm := ⟨_, rfl⟩
        rw [hgm] at rm ⊢
        try simp only [Act.put, List.setIfInBounds_toArray, List.set_cons_zero, List.set_cons_succ]
        have hB3 := hB2.trans (hbel.mono hB2.size)
        have h3 := (hbel.block w.heap.size (by omega)).trans h2
        replace rb : RowL W3 gb lb ∧ _ := ⟨rb.1.below hbel (by omega), rb.2⟩
        replace rd := (hbel.block gd (by omega)).trans rd
        have hz3 := hbel.size
        clear hbel
        refine takeL (i := 10) (v := ?_) (List.getElem?_cons_succ.trans (List.getElem?_cons_succ.trans (List.getElem?_cons_succ.trans (List.getElem?_cons_succ.trans (List.getElem?_cons_succ.trans (List.getElem?_cons_succ.trans (List.getElem?_cons_succ.trans (List.getElem?_cons_succ.trans (List.getElem?_cons_succ.trans (List.getElem?_cons_succ.trans (List.getElem?_cons_zero))))))))))) (by kernel_rfl) (by kernel_rfl) (by kernel_rfl) (fun _ _ _ h => by cases h.1) (Or.inl ⟨by rfl, ?_⟩) trivial ?_
        rotate_left
        · (intro w hSw; clear hSw; go_simp; try with_reducible rfl)
        try simp only [Act.put, List.setIfInBounds_toArray, List.set_cons_zero, List.set_cons_succ]
        refine carryL (i := 12) (List.getElem?_cons_succ.trans (List.getElem?_cons_succ.trans (List.getElem?_cons_succ.trans (List.getElem?_cons_succ.trans (List.getElem?_cons_succ.trans (List.getElem?_cons_succ.trans (List.getElem?_cons_succ.trans (List.getElem?_cons_succ.trans (List.getElem?_cons_succ.trans (List.getElem?_cons_succ.trans (List.getElem?_cons_succ.trans (List.getElem?_cons_succ.trans (List.getElem?_cons_zero))))))))))))) (by kernel_rfl) (by rfl) (fun K hK => ?_)
        have cd := cells_cell (j := 0) rd rfl
        have cd1 := cells_cell (j := 1) rd rfl
        have fd : W3.frozen? ⟨gd, 0, none⟩ = false := cells_frozen rd
        have fd1 : W3.frozen? ⟨gd, 1, none⟩ = false := cells_frozen rd
        go_simp
        refine hK _ _ trivial (fun _ => wpAnyH_done (by kernel_rfl) ?_ _)
        clear hK K
        try simp only [Act.put, List.setIfInBounds_toArray, List.set_cons_zero, List.set_cons_succ]
        obtain ⟨z1, z2⟩ := store2 (u := .slice (some ⟨gb, 0, none⟩) (n1 + 1 + 1) (n1 + 1 + 1)) (v := .slice (some ⟨gm, 0, none⟩) (n1 + 1 + 1) (n1 + 1 + 1)) rd
        refine ⟨trivial, gb, gm, gd, lb, ?_, z2.row rb.1 (by omega), rb.2.1, rb.2.2.1, rb.2.2.2, z2.row rm (by omega), z1, ⟨by omega, by omega, by omega, by omega, by omega, by omega⟩, ?_, hB3.trans (z2.to (by omega) (by omega))⟩
        · try simp only [Act.put, List.setIfInBounds_toArray, List.set_cons_zero, List.set_cons_succ]
        · exact (z2.keep _ (by omega) (by omega)).trans h3
      refine carryC (i := 9) (List.getElem?_cons_succ.trans (List.getElem?_cons_succ.trans (List.getElem?_cons_succ.trans (List.getElem?_cons_succ.trans (List.getElem?_cons_succ.trans (List.getElem?_cons_succ.trans (List.getElem?_cons_succ.trans (List.getElem?_cons_succ.trans (List.getElem?_cons_succ.trans (List.getElem?_cons_zero)))))))))) (by rfl) (fun K hK => ?_) ?_
      · -- 9
        go_simp
        refine hK _ _ trivial (fun _ => ?_)
        clear hK K
        have rm := RowL.zeros W1 (n1 + 1 + 1)
        obtain ⟨W2, hw, _, hbel, hsz⟩ := alloc_facts W1 (.cells (madeCells #[.int .u64 0] (n1 + 1 + 1)) 36)
        rw [hw] at rm ⊢
        clear hw
        obtain ⟨gm, hgm⟩ : ∃ gm, W1.heap.size = gm := ⟨_, rfl⟩
        rw [hgm] at rm ⊢
        try simp only [Act.put, List.setIfInBounds_toArray, List.set_cons_zero, List.set_cons_succ]
        have hB2 := hB1.trans (hbel.mono hB1.size)
        have h2 := (hbel.block w.heap.size (by omega)).trans h1
        replace rd := (hbel.block gd (by omega)).trans rd
        have hz2 := hbel.size
        clear hbel
        refine carryL (i := 5) (List.getElem?_cons_succ.trans (List.getElem?_cons_succ.trans (List.getElem?_cons_succ.trans (List.getElem?_cons_succ.trans (List.getElem?_cons_succ.trans (List.getElem?_cons_zero)))))) (by kernel_rfl) (by rfl) (fun K hK => ?_)
        go_simp
        refine (hUP.out W2 hB2).mono ?_
        rintro e W3 ⟨gb, lb, rfl, rb0, rb1, rb2, rb3, rb4, hbel⟩
        refine hK _ _ trivial (fun _ => ?_)
        clear hK K
        have hsz := hbel.size
        have hblt := rb0.lt
        have rb : RowL W3 gb lb ∧ lb.length = n1 + 1 + 1 ∧ Words lb ∧ val lb = val b * 2 ^ s := ⟨rb0, rb1, rb2, rb3⟩
        clear rb0 rb1 rb2 rb3
        try simp only [Act.put, List.setIfInBounds_toArray, List.set_cons_zero, List.set_cons_succ]
        have hB3 := hB2.trans (hbel.mono hB2.size)
        have h3 := (hbel.block w.heap.size (by omega)).trans h2
        replace rm := rm.below hbel (by omega)
        replace rd := (hbel.block gd (by omega)).trans rd
        have hz3 := hbel.size
        clear hbel
        refine takeL (i := 10) (v := ?_) (List.getElem?_cons_succ.trans (List.getElem?_cons_succ.trans (List.getElem?_cons_succ.trans (List.getElem?_cons_succ.trans (List.getElem?_cons_succ.trans (List.getElem?_cons_succ.trans (List.getElem?_cons_succ.trans (List.getElem?_cons_succ.trans (List.getElem?_cons_succ.trans (List.getElem?_cons_succ.trans (List.getElem?_cons_zero))))))))))) (by kernel_rfl) (by kernel_rfl) (by kernel_rfl) (fun _ _ _ h => by cases h.1) (Or.inl ⟨by rfl, ?_⟩) trivial ?_
        rotate_left
        · (intro w hSw; clear hSw; go_simp; try with_reducible rfl)
        try simp only [Act.put, List.setIfInBounds_toArray, List.set_cons_zero, List.set_cons_succ]
        refine carryL (i := 12) (List.getElem?_cons_succ.trans (List.getElem?_cons_succ.trans (List.getElem?_cons_succ.trans (List.getElem?_cons_succ.trans (List.getElem?_cons_succ.trans (List.getElem?_cons_succ.trans (List.getElem?_cons_succ.trans (List.getElem?_cons_succ.trans (List.getElem?_cons_succ.trans (List.getElem?_cons_succ.trans (List.getElem?_cons_succ.trans (List.getElem?_cons_succ.trans (List.getElem?_cons_zero))))))))))))) (by kernel_rfl) (by rfl) (fun K hK => ?_)
        have cd := cells_cell (j := 0) rd rfl
        have cd1 := cells_cell (j := 1) rd rfl
        have fd : W3.frozen? ⟨gd, 0, none⟩ = false := cells_frozen rd
        have fd1 : W3.frozen? ⟨gd, 1, none⟩ = false := cells_frozen rd
        go_simp
        refine hK _ _ trivial (fun _ => wpAnyH_done (by kernel_rfl) ?_ _)
        clear hK K
        try simp only [Act.put, List.setIfInBounds_toArray, List.set_cons_zero, List.set_cons_succ]
        obtain ⟨z1, z2⟩ := store2 (u := .slice (some ⟨gb, 0, none⟩) (n1 + 1 + 1) (n1 + 1 + 1)) (v := .slice (some ⟨gm, 0, none⟩) (n1 + 1 + 1) (n1 + 1 + 1)) rd
        refine ⟨trivial, gb, gm, gd, lb, ?_, z2.row rb.1 (by omega), rb.2.1, rb.2.2.1, rb.2.2.2, z2.row rm (by omega), z1, ⟨by omega, by omega, by omega, by omega, by omega, by omega⟩, ?_, hB3.trans (z2.to (by omega) (by omega))⟩
        · try simp only [Act.put, List.setIfInBounds_toArray, List.set_cons_zero, List.set_cons_succ]
        · exact (z2.keep _ (by omega) (by omega)).trans h3
      exact AllReadyH.nil
    exact AllReadyH.nil
  rintro a7 w7 ⟨gb, gm, gd, lb, rfl, hrb, hlb, hwb, hvb, hrm, hd, ⟨e1, e2, e3, e4, e5, e6⟩, h0, hb7⟩
  clear hmk hcl hlt1
  try simp only [Act.put, List.setIfInBounds_toArray, List.set_cons_zero, List.set_cons_succ]
  have HRB7 := Lib.hid hrb; have HLB := Lib.hid hlb; have HWB := Lib.hid hwb; have HVB := Lib.hid hvb; have HRM7 := Lib.hid hrm; have HD7 := Lib.hid hd; have H07 := Lib.hid h0
  have lt1 := hrb.lt; have lt2 := hrm.lt; have lt3 := (Array.getElem?_eq_some_iff.1 hd).1
  clear hrb hlb hwb hvb hrm hd h0
  have hUPA : Hid (Calls Tryz.prog 139 #[.slice A na ca, .int .i64 (s : Int), .int .i64 ((na : Int) + 1)] w7 fun e w' => ∃ g l, e = .returned (.slice (some ⟨g, 0, none⟩) (na + 1) (na + 1)) ∧ RowL w' g l ∧ l.length = na + 1 ∧ Words l ∧ val l = val a * 2 ^ s ∧ w7.heap.size ≤ g ∧ Below w7.heap.size w7 w') :=
    upD_any A na ca s a w7 (HRA.out.below hb7) (by omega) HMA.out (by omega)
  gi_wp2_with fail
  refine ⟨trivial, (callsIn_wide.2 hUPA.out).mono ?_⟩
  rintro e w8 ⟨gl, la, rfl, hrl, hll, hwl, hvl, hgl, hb8⟩
  have HRL := Lib.hid hrl; have HLL := Lib.hid hll; have HWL := Lib.hid hwl; have HVL := Lib.hid hvl
  have lt4 := hrl.lt
  have sz8 := hb8.size
  have g0 := Lib.hid ((hb8.block w.heap.size (by omega)).trans H07.out)
  have gD := Lib.hid ((hb8.block gd lt3).trans HD7.out)
  have gB := Lib.hid (HRB7.out.below hb8 lt1)
  have gM := Lib.hid (HRM7.out.below hb8 lt2)
  have hb8' := hb7.trans (hb8.mono hb7.size)
  clear hrl hll hwl hvl hUPA hUP H07 HD7 HRB7 HRM7
  have hmk2 := HMK2.out
  obtain ⟨w8a, hw8a, gT, hb8a, sz8a⟩ := alloc_facts w8 (.cells #[.slice (some ⟨gl, 0, none⟩) (na + 1) (na + 1)] 22)
  obtain ⟨gt, hgt⟩ : ∃ gt, w8.heap.size = gt := ⟨_, rfl⟩
  have rq := RowL.zeros w8a (na - n1)
  obtain ⟨w8b, hw8b, _, hb8b, sz8b⟩ := alloc_facts w8a (.cells (madeCells #[.int .u64 0] (na - n1)) 36)
  obtain ⟨gq, hgq⟩ : ∃ gq, w8a.heap.size = gq := ⟨_, rfl⟩
  have x0 : w8b.heap[w.heap.size]? = some (.cells #[.slice none 0 0] 23) := (hb8b.block _ (by omega)).trans ((hb8a.block _ (by omega)).trans g0.out)
  have c0 : w8b.frozen? ⟨w.heap.size, 0, none⟩ = false := cells_frozen x0
  have c0' := cells_cell (j := 0) x0 rfl
  gi_wp2_with fail
  have wb : Below w.heap.size w w8b := hb8'.trans ((hb8a.mono (by omega)).trans (hb8b.mono (by omega)))
  obtain ⟨m, hm⟩ : ∃ m, na - n1 = m := ⟨_, rfl⟩
  rw [hw8b, hgq, hm] at rq
  rw [hm]
  obtain ⟨W9, hW9⟩ : ∃ W9, W9 = w8b.setCell ⟨w.heap.size, 0, none⟩ (.slice (some ⟨gq, 0, none⟩) m m) := ⟨_, rfl⟩
  have o9 : Only w.heap.size w8b W9 := by rw [hW9]; exact (Only.refl w.heap.size w8b).setCell (p := ⟨w.heap.size, 0, none⟩) rfl _
  have k0 : Boxed W9 w.heap.size 23 (.slice (some ⟨gq, 0, none⟩) m m) := by rw [hW9]; exact Boxed.set _ x0
  rw [← hW9]
  clear hW9
  have kD := (o9.keep gd (by omega) (by omega)).trans ((hb8b.block gd (by omega)).trans ((hb8a.block gd (by omega)).trans gD.out))
  have kT : Boxed W9 gt 22 (.slice (some ⟨gl, 0, none⟩) (na + 1) (na + 1)) := by rw [hgt] at gT; exact (o9.keep gt (by omega) (by omega)).trans ((hb8b.block gt (by omega)).trans gT)
  have kB := o9.row ((gB.out.below hb8a (by omega)).below hb8b (by omega)) (by omega)
  have kM := o9.row ((gM.out.below hb8a (by omega)).below hb8b (by omega)) (by omega)
  have kL := o9.row ((HRL.out.below hb8a (by omega)).below hb8b (by omega)) (by omega)
  have kQ : RowL W9 gq (List.replicate m 0) := o9.row rq (by omega)
  have s9 := o9.below.size
  have wb9 : Below w.heap.size w W9 := wb.trans (o9.to (Nat.le_refl _) (by omega))
  have hmn : m + (n1 + 1 + 1) = (na + 1) + 1 := by omega
  have q4 := Q4.out
  rw [hm] at q4
  have hG0 := lbG_start (V := fun _ _ => True) (m := m) (n := n1 + 1 + 1) HLL.out HWL.out HVL.out q4
  clear hmk2 hw8a hw8b HMK2 q4 hm
  have hord : w.heap.size < gb ∧ w.heap.size < gm ∧ w.heap.size < gd ∧ gb ≠ gm ∧ gb ≠ gd ∧ gm ≠ gd ∧ gb < gl ∧ gm < gl ∧ gd < gl ∧ gl < gt ∧ gt < gq ∧ gq < W9.heap.size := by
    have := (Array.getElem?_eq_some_iff.1 gT).1
    have := kQ.lt
    omega
  have HORD := Lib.hid hord
  clear hord e1 e2 e3 e4 e5 e6 lt1 lt2 lt3 lt4 sz8 hgl hb8 hb8' hb8a hb8b sz8a sz8b hgt hgq gT rq x0 c0 c0' wb o9 s9 g0 gD gB gM hb7 HRL
  refine ⟨trivial, (callsIn_wide.2 (backN_any (some ⟨gq, 0, none⟩) m m W9)).mono ?_⟩
  rintro e w10 ⟨rfl, rfl⟩
  gi_wp2_with fail
  obtain ⟨WE, hWE⟩ : ∃ WE, WE = W9.alloc (.cells #[.slice (some ⟨gq, 0, none⟩) m m] 23) := ⟨_, rfl⟩
  have hbE : Below W9.heap.size W9 WE := by rw [hWE]; exact (Below.refl _ W9).alloc (Nat.le_refl _) _
  have hsE : W9.heap.size < WE.heap.size := by rw [hWE]; simp
  have hxE : WE.heap[W9.heap.size]? = some (.cells #[.slice (some ⟨gq, 0, none⟩) m m] 23) := by rw [hWE]; exact World.alloc_heap_new W9 _
  obtain ⟨Bs, hBs⟩ : ∃ Bs, W9.heap.size = Bs := ⟨_, rfl⟩
  rw [← hWE, hBs]
  rw [hBs] at hxE hsE
  have HORD2 : Hid (w.heap.size < gb ∧ w.heap.size < gm ∧ w.heap.size < gd ∧ gb ≠ gm ∧ gb ≠ gd ∧ gm ≠ gd ∧ gb < gl ∧ gm < gl ∧ gd < gl ∧ gl < gt ∧ gt < gq ∧ gq < Bs ∧ Bs < WE.heap.size) := by
    have := HORD.out
    show _ ∧ _
    omega
  have hI0 : LbI w m (n1 + 1 + 1) (na + 1) (val b * 2 ^ s) (val a * 2 ^ s) lb gb gm gd gl gt gq WE.heap.size (fun _ _ => True) [] WE := by
    have h9 := HORD.out
    exact ⟨_, _, _, hG0, (hbE.block _ (by omega)).trans k0, (hbE.block _ (by omega)).trans kD, (hbE.block _ (by omega)).trans kT, kQ.below hbE (by omega), kL.below hbE (by omega), kM.below hbE (by omega), by simp, words_zeros _, kB.below hbE (by omega), wb9.trans (hbE.mono (by omega)), Nat.le_refl _⟩
  have hHas : Has WE (some ⟨gq, 0, none⟩) m (fun _ _ => True) := has_row hI0.row0
  have HI0 := Lib.hid hI0
  have HH := Lib.hid hHas
  have hgqE : gq < WE.heap.size := by have := HORD2.out; omega
  clear hI0 hHas k0 kD kT kB kM kL kQ wb9 hG0 hbE hWE HORD hBs
  have hkb : ∀ (Wx : World) (l : Nat) (o' : Obj), WE.heap.size ≤ l → BkK (fun k => k = Bs) (some ⟨gq, 0, none⟩) m (fun _ _ => True) Wx (Wx.putObj l o') := fun Wx l o' hl => by
    have hk : KeepsOf (fun k => k = Bs ∨ k = gq) Wx (Wx.putObj l o') := ⟨by simp, fun k hk => World.putObj_heap_other (by omega)⟩
    exact ⟨⟨hk.1, fun k e => hk.2 k (.inl e)⟩, has_keeps hk (fun _ b0 off e => by cases e; exact .inr rfl)⟩
  refine wpIn_rangeFunc_ownG rfl (by omega) (gf := 143) (lb := #[.pointer (some ⟨Bs, 0, none⟩)]) rfl trivial (enters_of Tryz.func143 (by kernel_rfl) rfl)
      (backN_stops (fun k => k = Bs) (fun _ _ => True) _ Bs (some ⟨gq, 0, none⟩) m m (by omega) rfl WE hsE (fun b0 off h e => by cases e; exact hgqE) (cells_cell hxE rfl) HH.out)
      BkK.trans ?hkb (Below.refl _ _) (fun _ => rfl)
      (LbI w m (n1 + 1 + 1) (na + 1) (val b * 2 ^ s) (val a * 2 ^ s) lb gb gm gd gl gt gq WE.heap.size (fun _ _ => True)) (fun _ _ _ => False) ?hI (fun _ _ _ _ _ hs _ _ => hs) HI0.out ?_ ?assign ?body ?done ?stop
  case hkb =>
    intro Wx l o o' hl ho _ _
    exact hkb Wx l o' hl
  case hI => exact lbI_own HORD2.out (Nat.le_refl _)
  case assign =>
    intro l x W K hK
    gi_wp2
    exact hK
  case stop =>
    rintro D c pre W _ _ h _
    exact h.elim
  case body =>
    rintro l pre x W ⟨Lq, Lf, M, hG, k0, kD, kT, kQ, kL, kM, hM, hwM, kB, hB, hsz⟩ hlen
    obtain ⟨⟨j, v⟩, hj, hv⟩ := x
    have hj' : j < m := hj
    have ho := HORD2.out
    have hlq := hG.1
    have hlf := hG.2.2.1
    have hwf := hG.2.2.2.1
    obtain ⟨P, hP⟩ : ∃ P, Lf.take j = P := ⟨_, rfl⟩
    obtain ⟨T, hT⟩ : ∃ T, (Lf.drop j).take (n1 + 1 + 1) = T := ⟨_, rfl⟩
    obtain ⟨R, hR⟩ : ∃ R, Lf.drop (j + (n1 + 1 + 1)) = R := ⟨_, rfl⟩
    have hsplit : Lf = P ++ T ++ R := by rw [← hP, ← hT, ← hR, List.append_assoc, ← List.drop_drop, List.take_append_drop, List.take_append_drop]
    have hPl : P.length = j := by rw [← hP, List.length_take]; omega
    have hTl : T.length = n1 + 1 + 1 := by rw [← hT, List.length_take, List.length_drop]; omega
    have hTw : Words T := by rw [← hT]; exact (hwf.drop j).take _
    have kL2 := kL
    rw [hsplit] at kL2
    have hrdB : Rd W (some ⟨gb, 0, none⟩) (n1 + 1 + 1) lb := RowL.mid (P := []) (T := lb) (R := []) (i := 0) (by simpa using kB) rfl HLB.out HWB.out
    have hz : lim lb (n1 + 1 + 1 - 1) = 0 := lim_zero_of_lt HWB.out (by rw [HVB.out]; exact Q3.out)
    have h0' : 0 < val lb := by rw [HVB.out]; exact Q2.out
    have hc := limbD_any (some ⟨gb, 0, none⟩) (n1 + 1 + 1) (n1 + 1 + 1) gm (n1 + 1 + 1) gl j (na + 1 - j) lb M P T R W.drew hrdB.drew (fun b0 off e => by cases e; omega) kM hM hwM (by omega) kL2 hPl hTl hTw (by omega) (by omega) hz h0'
    have HC := Lib.hid hc
    have c0 := k0.cell
    have cD0 := cells_cell (j := 0) kD rfl
    have cD1 := cells_cell (j := 1) kD rfl
    have cT := kT.cell
    have hw1 : IntKind.i64.wrap ((j : Int) + ((n1 : Int) + 1 + 1)) = (j : Int) + ((n1 : Int) + 1 + 1) := by rw [IntKind.wrap_i64]; omega
    have hn1 : ¬ ((na : Int) + 1 < (j : Int) + ((n1 : Int) + 1 + 1)) := by omega
    have hn2 : ¬ ((j : Int) + ((n1 : Int) + 1 + 1) < (j : Int)) := by omega
    have hn3 : ¬ (na + 1 = j) := by omega
    have HG := Lib.hid hG
    have K0 := Lib.hid k0; have KD := Lib.hid kD; have KT := Lib.hid kT; have KQ := Lib.hid kQ; have KB := Lib.hid kB; have HB := Lib.hid hB; have HT := Lib.hid hT; have HPP := Lib.hid hP; have HRR := Lib.hid hR
    have HO := Lib.hid ho
    clear hG k0 kD kT kQ kL kM hM hwM kB hB hT hP hR hsplit hPl hTl hTw kL2 hrdB hz h0' hc ho hlq hlf hwf hlen
    gi_wp2
    refine region_round (S := fun W' => W'.cell? ⟨w.heap.size, 0, none⟩ = some (.slice (some ⟨gq, 0, none⟩) m m) ∧ W'.cell? ⟨gd, 0, none⟩ = some (.slice (some ⟨gb, 0, none⟩) (n1 + 1 + 1) (n1 + 1 + 1)) ∧ W'.cell? ⟨gd, 1, none⟩ = some (.slice (some ⟨gm, 0, none⟩) (n1 + 1 + 1) (n1 + 1 + 1)) ∧ W'.cell? ⟨gt, 0, none⟩ = some (.slice (some ⟨gl, 0, none⟩) (na + 1) (na + 1))) 14 (by kernel_rfl) (by rfl) (fun h => h.elim fun _ h => h.elim fun _ h => h) rfl ?_
    have hS0 : (fun W' : World => W'.cell? ⟨w.heap.size, 0, none⟩ = some (.slice (some ⟨gq, 0, none⟩) m m) ∧ W'.cell? ⟨gd, 0, none⟩ = some (.slice (some ⟨gb, 0, none⟩) (n1 + 1 + 1) (n1 + 1 + 1)) ∧ W'.cell? ⟨gd, 1, none⟩ = some (.slice (some ⟨gm, 0, none⟩) (n1 + 1 + 1) (n1 + 1 + 1)) ∧ W'.cell? ⟨gt, 0, none⟩ = some (.slice (some ⟨gl, 0, none⟩) (na + 1) (na + 1))) W.drew := ⟨c0, cD0, cD1, cT⟩
    refine takeL (i := 0) (v := ?_) (List.getElem?_cons_zero) (by kernel_rfl) (by kernel_rfl) (by kernel_rfl) (fun _ _ _ h => h) (Or.inl ⟨by rfl, ?_⟩) (by assumption) ?_
    rotate_left
    · (intro w hSw; (try dsimp only at hSw); go_simp; try with_reducible rfl)
    try simp only [Act.put, List.setIfInBounds_toArray, List.set_cons_zero, List.set_cons_succ]
    refine takeL (i := 1) (v := ?_) (List.getElem?_cons_succ.trans (List.getElem?_cons_zero)) (by kernel_rfl) (by kernel_rfl) (by kernel_rfl) (fun _ _ _ h => h) (Or.inl ⟨by rfl, ?_⟩) (by assumption) ?_
    rotate_left
    · (intro w hSw; (try dsimp only at hSw); go_simp; try with_reducible rfl)
    try simp only [Act.put, List.setIfInBounds_toArray, List.set_cons_zero, List.set_cons_succ]
    refine takeL (i := 2) (v := ?_) (List.getElem?_cons_succ.trans (List.getElem?_cons_succ.trans (List.getElem?_cons_zero))) (by kernel_rfl) (by kernel_rfl) (by kernel_rfl) (fun _ _ _ h => h) (Or.inl ⟨by rfl, ?_⟩) (by assumption) ?_
    rotate_left
    · (intro w hSw; (try dsimp only at hSw); go_simp; try with_reducible rfl)
    try simp only [Act.put, List.setIfInBounds_toArray, List.set_cons_zero, List.set_cons_succ]
    refine takeL (i := 3) (v := ?_) (List.getElem?_cons_succ.trans (List.getElem?_cons_succ.trans (List.getElem?_cons_succ.trans (List.getElem?_cons_zero)))) (by kernel_rfl) (by kernel_rfl) (by kernel_rfl) (fun _ _ _ h => h) (Or.inl ⟨by rfl, ?_⟩) (by assumption) ?_
    rotate_left
    · (intro w hSw; (try dsimp only at hSw); go_simp; try with_reducible rfl)
    try simp only [Act.put, List.setIfInBounds_toArray, List.set_cons_zero, List.set_cons_succ]
    refine takeL (i := 4) (v := ?_) (List.getElem?_cons_succ.trans (List.getElem?_cons_succ.trans (List.getElem?_cons_succ.trans (List.getElem?_cons_succ.trans (List.getElem?_cons_zero))))) (by kernel_rfl) (by kernel_rfl) (by kernel_rfl) (fun _ _ _ h => h) (Or.inl ⟨by rfl, ?_⟩) (by assumption) ?_
    rotate_left
    · (intro w hSw; (try dsimp only at hSw); go_simp; try with_reducible rfl)
    try simp only [Act.put, List.setIfInBounds_toArray, List.set_cons_zero, List.set_cons_succ]
    refine takeL (i := 5) (v := ?_) (List.getElem?_cons_succ.trans (List.getElem?_cons_succ.trans (List.getElem?_cons_succ.trans (List.getElem?_cons_succ.trans (List.getElem?_cons_succ.trans (List.getElem?_cons_zero)))))) (by kernel_rfl) (by kernel_rfl) (by kernel_rfl) (fun _ _ _ h => h) (Or.inl ⟨by rfl, ?_⟩) (by assumption) ?_
    rotate_left
    · (intro w hSw; (try dsimp only at hSw); go_simp; try with_reducible rfl)
    try simp only [Act.put, List.setIfInBounds_toArray, List.set_cons_zero, List.set_cons_succ]
    refine takeL (i := 6) (v := ?_) (List.getElem?_cons_succ.trans (List.getElem?_cons_succ.trans (List.getElem?_cons_succ.trans (List.getElem?_cons_succ.trans (List.getElem?_cons_succ.trans (List.getElem?_cons_succ.trans (List.getElem?_cons_zero))))))) (by kernel_rfl) (by kernel_rfl) (by kernel_rfl) (fun _ _ _ h => h) (Or.inl ⟨by rfl, ?_⟩) (by assumption) ?_
    rotate_left
    · (intro w hSw; (try dsimp only at hSw); go_simp; try with_reducible rfl)
    try simp only [Act.put, List.setIfInBounds_toArray, List.set_cons_zero, List.set_cons_succ]
    refine takeL (i := 7) (v := ?_) (List.getElem?_cons_succ.trans (List.getElem?_cons_succ.trans (List.getElem?_cons_succ.trans (List.getElem?_cons_succ.trans (List.getElem?_cons_succ.trans (List.getElem?_cons_succ.trans (List.getElem?_cons_succ.trans (List.getElem?_cons_zero)))))))) (by kernel_rfl) (by kernel_rfl) (by kernel_rfl) (fun _ _ _ h => h) (Or.inl ⟨by rfl, ?_⟩) (by assumption) ?_
    rotate_left
    · (intro w hSw; (try dsimp only at hSw); go_simp; try with_reducible rfl)
    try simp only [Act.put, List.setIfInBounds_toArray, List.set_cons_zero, List.set_cons_succ]
    refine takeL (i := 8) (v := ?_) (List.getElem?_cons_succ.trans (List.getElem?_cons_succ.trans (List.getElem?_cons_succ.trans (List.getElem?_cons_succ.trans (List.getElem?_cons_succ.trans (List.getElem?_cons_succ.trans (List.getElem?_cons_succ.trans (List.getElem?_cons_succ.trans (List.getElem?_cons_zero))))))))) (by kernel_rfl) (by kernel_rfl) (by kernel_rfl) (fun _ _ _ h => h) (Or.inl ⟨by rfl, ?_⟩) (by assumption) ?_
    rotate_left
    · (intro w hSw; (try dsimp only at hSw); go_simp; try with_reducible rfl)
    try simp only [Act.put, List.setIfInBounds_toArray, List.set_cons_zero, List.set_cons_succ]
    refine takeL (i := 9) (v := ?_) (List.getElem?_cons_succ.trans (List.getElem?_cons_succ.trans (List.getElem?_cons_succ.trans (List.getElem?_cons_succ.trans (List.getElem?_cons_succ.trans (List.getElem?_cons_succ.trans (List.getElem?_cons_succ.trans (List.getElem?_cons_succ.trans (List.getElem?_cons_succ.trans (List.getElem?_cons_zero)))))))))) (by kernel_rfl) (by kernel_rfl) (by kernel_rfl) (fun _ _ _ h => h) (Or.inl ⟨by rfl, ?_⟩) (by assumption) ?_
    rotate_left
    · (intro w hSw; (try dsimp only at hSw); go_simp; try with_reducible rfl)
    try simp only [Act.put, List.setIfInBounds_toArray, List.set_cons_zero, List.set_cons_succ]
    refine takeL (i := 10) (v := ?_) (List.getElem?_cons_succ.trans (List.getElem?_cons_succ.trans (List.getElem?_cons_succ.trans (List.getElem?_cons_succ.trans (List.getElem?_cons_succ.trans (List.getElem?_cons_succ.trans (List.getElem?_cons_succ.trans (List.getElem?_cons_succ.trans (List.getElem?_cons_succ.trans (List.getElem?_cons_succ.trans (List.getElem?_cons_zero))))))))))) (by kernel_rfl) (by kernel_rfl) (by kernel_rfl) (fun _ _ _ h => h) (Or.inl ⟨by rfl, ?_⟩) (by assumption) ?_
    rotate_left
    · (intro w hSw; (try dsimp only at hSw); go_simp; try with_reducible rfl)
    try simp only [Act.put, List.setIfInBounds_toArray, List.set_cons_zero, List.set_cons_succ]
    refine carryL (i := 11) (List.getElem?_cons_succ.trans (List.getElem?_cons_succ.trans (List.getElem?_cons_succ.trans (List.getElem?_cons_succ.trans (List.getElem?_cons_succ.trans (List.getElem?_cons_succ.trans (List.getElem?_cons_succ.trans (List.getElem?_cons_succ.trans (List.getElem?_cons_succ.trans (List.getElem?_cons_succ.trans (List.getElem?_cons_succ.trans (List.getElem?_cons_zero)))))))))))) (by kernel_rfl) (by rfl) (fun K hK => ?_)
    go_simp
    have hLn : ((j : Int) + ((n1 : Int) + 1 + 1)).toNat - j = n1 + 1 + 1 := by omega
    rw [hLn]
    refine HC.out.mono ?_
    rintro e w8 ⟨T2, M2, q, rfl, hq, hrow8, hT2, hw2, hv2, hex, hrm8, hM2, hwM2, hO8⟩
    have ho := HO.out
    have hds : W.drew.heap.size = W.heap.size := rfl
    have x0 := (hO8.keep _ (by omega) (by omega) (by omega)).trans K0.out
    have xD := (hO8.keep _ (by omega) (by omega) (by omega)).trans KD.out
    have xT := (hO8.keep _ (by omega) (by omega) (by omega)).trans KT.out
    have xQ : RowL w8 gq Lq := hO8.row KQ.out (by omega) (by omega)
    have xB : RowL w8 gb lb := hO8.row KB.out (by omega) (by omega)
    have hS1 : (fun W' : World => W'.cell? ⟨w.heap.size, 0, none⟩ = some (.slice (some ⟨gq, 0, none⟩) m m) ∧ W'.cell? ⟨gd, 0, none⟩ = some (.slice (some ⟨gb, 0, none⟩) (n1 + 1 + 1) (n1 + 1 + 1)) ∧ W'.cell? ⟨gd, 1, none⟩ = some (.slice (some ⟨gm, 0, none⟩) (n1 + 1 + 1) (n1 + 1 + 1)) ∧ W'.cell? ⟨gt, 0, none⟩ = some (.slice (some ⟨gl, 0, none⟩) (na + 1) (na + 1))) w8 := ⟨cells_cell x0 rfl, cells_cell xD rfl, cells_cell xD rfl, cells_cell xT rfl⟩
    have hlq := HG.out.1
    have cq8 : w8.cell? ⟨gq, j, none⟩ = some (u64 (lim Lq j)) := xQ.cell (by omega)
    have fq8 : w8.frozen? ⟨gq, j, none⟩ = false := xQ.frozen _
    have hjm : ¬ (m ≤ j) := by omega
    have X0 := Lib.hid x0; have XD := Lib.hid xD; have XT := Lib.hid xT; have XQ := Lib.hid xQ; have XB := Lib.hid xB
    have HROW8 := Lib.hid hrow8; have HRM8 := Lib.hid hrm8; have HO8 := Lib.hid hO8; have HV2 := Lib.hid hv2; have HEX := Lib.hid hex; have HW2 := Lib.hid hw2; have HWM2 := Lib.hid hwM2; have HT2 := Lib.hid hT2; have HM2 := Lib.hid hM2; have HLQ := Lib.hid hlq
    have HSZ := Lib.hid hsz
    clear c0 cD0 cD1 cT hw1 hn1 hn2 hn3 hLn hds x0 xD xT xQ xB hlq hrow8 hrm8 hO8 hv2 hex hw2 hwM2 hT2 hM2 ho hsz
    refine hK _ _ hS1 (fun _ => ?_)
    clear hK K hS0
    try simp only [Act.put, List.setIfInBounds_toArray, List.set_cons_zero, List.set_cons_succ]
    refine takeL (i := 12) (v := ?_) (List.getElem?_cons_succ.trans (List.getElem?_cons_succ.trans (List.getElem?_cons_succ.trans (List.getElem?_cons_succ.trans (List.getElem?_cons_succ.trans (List.getElem?_cons_succ.trans (List.getElem?_cons_succ.trans (List.getElem?_cons_succ.trans (List.getElem?_cons_succ.trans (List.getElem?_cons_succ.trans (List.getElem?_cons_succ.trans (List.getElem?_cons_succ.trans (List.getElem?_cons_zero))))))))))))) (by kernel_rfl) (by kernel_rfl) (by kernel_rfl) (fun _ _ _ h => h) (Or.inl ⟨by rfl, ?_⟩) (by assumption) ?_
    rotate_left
    · (intro w hSw; (try dsimp only at hSw); go_simp; try with_reducible rfl)
    try simp only [Act.put, List.setIfInBounds_toArray, List.set_cons_zero, List.set_cons_succ]
    refine carryL (i := 13) (List.getElem?_cons_succ.trans (List.getElem?_cons_succ.trans (List.getElem?_cons_succ.trans (List.getElem?_cons_succ.trans (List.getElem?_cons_succ.trans (List.getElem?_cons_succ.trans (List.getElem?_cons_succ.trans (List.getElem?_cons_succ.trans (List.getElem?_cons_succ.trans (List.getElem?_cons_succ.trans (List.getElem?_cons_succ.trans (List.getElem?_cons_succ.trans (List.getElem?_cons_succ.trans (List.getElem?_cons_zero)))))))))))))) (by kernel_rfl) (by rfl) (fun K hK => ?_)
    go_simp
    have ho := HO.out
    refine hK _ _ ⟨cell_far hS1.1 (by omega) _, cell_far hS1.2.1 (by omega) _, cell_far hS1.2.2.1 (by omega) _, cell_far hS1.2.2.2 (by omega) _⟩ (fun _ => wpAnyH_done (by kernel_rfl) ?_ _)
    clear hK K hS1
    have hds : W.drew.heap.size = W.heap.size := rfl
    have hsz := HSZ.out
    have hs8 := HO8.out.below.size
    have hs8' : (w8.setCell ⟨gq, j, none⟩ (.int .u64 (q : Int))).heap.size = w8.heap.size := by simp
    have hk : ∀ k, k < W.heap.size → k ≠ gm → k ≠ gl → k ≠ gq → (w8.setCell ⟨gq, j, none⟩ (.int .u64 (q : Int))).heap[k]? = W.heap[k]? := fun k h1 h2 h3 h4 => (Below.heap_setCell w8 _ _ _ h4).trans (HO8.out.keep k h1 h2 h3)
    have hQ := XQ.out.set j q
    have hst := lbG_step (x := ⟨(j, v), hj, hv⟩) HG.out rfl hmn (by omega) Q2.out Q3.out hq HT2.out HW2.out (by rw [HT.out, ← HVB.out]; exact HV2.out) (by rw [HT.out, ← HVB.out]; exact HEX.out)
    rw [HPP.out, HRR.out] at hst
    refine ⟨⟨by omega, fun k o h1 h2 _ => (hk k (Array.getElem?_eq_some_iff.1 h2).1 (by omega) (by omega) (by omega)).trans h2⟩, ⟨⟨by omega, fun k h1 => hk k (by omega) (by omega) (by omega) (by omega)⟩, fun _ => has_row ⟨_, hQ, by simp [HLQ.out]⟩⟩, ?_⟩
    exact ⟨_, _, _, hst, boxed_far X0.out (by omega) _ _, (Below.heap_setCell w8 _ _ _ (by show gd ≠ gq; omega)).trans XD.out, boxed_far XT.out (by omega) _ _, hQ, HROW8.out.far (by show gl ≠ gq; omega) _, HRM8.out.far (by show gm ≠ gq; omega) _, HM2.out, HWM2.out, XB.out.far (by show gb ≠ gq; omega) _,
      (HB.out.drew.trans (HO8.out.to (by omega) (by omega) (by have := HB.out.size; omega))).setCell (p := ⟨gq, j, none⟩) (by show w.heap.size ≤ gq; omega) _, by omega⟩
  case done =>
    rintro D ys W hD hys ⟨Lq, Lf, M, hG, k0, kD, kT, kQ, kL, kM, hM, hwM, kB, hB, hsz⟩ hK
    obtain ⟨f1, f2⟩ := lbG_end hG hys Q2.out
    obtain ⟨r1, r2⟩ := raised (n := val a) (y := val b) (Nat.two_pow_pos s)
    rw [r1] at f1
    have f3 : val Lf / 2 ^ s = val a % val b := by rw [f2]; exact r2
    obtain ⟨hlq, hwq, hlf, hwf, _⟩ := hG
    have ho := HORD2.out
    have c0 := k0.cell
    have f0 := k0.frozen
    have cT := kT.cell
    have hoL := kL.own (B := w.heap.size) (n := na + 1) (by omega) hwf hlf (by simp only [maxLen]; omega)
    have hoQ := kQ.own (B := w.heap.size) (n := m) (by omega) hwq hlq (by simp only [maxLen]; omega)
    have hkl : (limbs (val Lf)).length ≤ na + 1 := by have := length_of_le hwf (Nat.le_refl (val Lf)); omega
    have hkq : (limbs (val Lq)).length ≤ m := by have := length_of_le hwq (Nat.le_refl (val Lq)); omega
    have hoT := own_trim hoL hkl
    rw [take_own hwf] at hoT
    have HOL := Lib.hid hoL; have HOQ := Lib.hid hoQ; have HOT := Lib.hid hoT; have F1 := Lib.hid f1; have F3 := Lib.hid f3
    have K0 := Lib.hid k0; have HBW := Lib.hid hB; have HKK := Lib.hid hK; have HWQ := Lib.hid hwq; have HSZ := Lib.hid hsz
    have HO := Lib.hid ho
    clear hoL hoQ hoT f1 f2 f3 r1 r2 k0 kD kT kQ kL kM hM hwM kB hB hsz hK hys hwq hwf hlf hlq ho
    gi_wp2_with fail
    refine ⟨trivial, (callsIn_wide.2 (trimD_val (some ⟨gl, 0, none⟩) (na + 1) (na + 1) Lf W HOL.out.rd.1 (Nat.le_refl _) (by omega))).mono ?_⟩
    rintro e W' ⟨rfl, hw'⟩
    subst W'
    gi_wp2_with fail
    refine ⟨trivial, (callsIn_wide.2 (down_ok (some ⟨gl, 0, none⟩) (limbs (val Lf)).length (na + 1) (limbs (val Lf)) s 0 s W HOT.out.rd.1 (by omega) (may_limbs _) (by omega) (by omega) (by omega))).mono ?_⟩
    rintro e w11 ⟨Ar, kr, cr, rfl, hor, hb11⟩
    rw [val_limbs, F3.out] at hor
    have sz := HSZ.out
    have ho := HO.out
    have k11 := (hb11.block _ (by omega)).trans K0.out
    have c11 : w11.cell? ⟨w.heap.size, 0, none⟩ = some (.slice (some ⟨gq, 0, none⟩) m m) := cells_cell k11 rfl
    have f11 : w11.frozen? ⟨w.heap.size, 0, none⟩ = false := cells_frozen k11
    have K11 := Lib.hid k11; have HOR := Lib.hid hor; have HB11 := Lib.hid hb11
    clear c0 f0 cT k11 hor hb11 sz ho
    gi_wp2_with fail
    refine ⟨trivial, (callsIn_wide.2 (trimD_val (some ⟨gq, 0, none⟩) m m Lq w11 (HOQ.out.below HB11.out).rd.1 (Nat.le_refl _) (by omega))).mono ?_⟩
    rintro e W' ⟨rfl, hw'⟩
    subst W'
    gi_wp2
    have sz := HSZ.out
    have ho := HO.out
    have hs11 := HB11.out.size
    have hK11 := (HB11.out.block D (Array.getElem?_eq_some_iff.1 HKK.out).1).trans HKK.out
    have hk12 : (w11.setCell ⟨w.heap.size, 0, none⟩ (.slice (some ⟨gq, 0, none⟩) (limbs (val Lq)).length m)).heap[D]? = some (.deferred (some [])) := (Below.heap_setCell w11 _ _ _ (by show D ≠ w.heap.size; omega)).trans hK11
    have o12 : Only w.heap.size w11 (w11.setCell ⟨w.heap.size, 0, none⟩ (.slice (some ⟨gq, 0, none⟩) (limbs (val Lq)).length m)) := (Only.refl w.heap.size w11).setCell (p := ⟨w.heap.size, 0, none⟩) rfl _
    have b12 : Boxed (w11.setCell ⟨w.heap.size, 0, none⟩ (.slice (some ⟨gq, 0, none⟩) (limbs (val Lq)).length m)) w.heap.size 23 (.slice (some ⟨gq, 0, none⟩) (limbs (val Lq)).length m) := Boxed.set _ K11.out
    have q12 : Own (w11.setCell ⟨w.heap.size, 0, none⟩ (.slice (some ⟨gq, 0, none⟩) (limbs (val Lq)).length m)) w.heap.size (.slice (some ⟨gq, 0, none⟩) m m) Lq :=
      own_keepsOf (S := fun k => k = gq) (HOQ.out.below HB11.out) ⟨o12.below.size, fun k hk => o12.keep k (by omega) (by omega)⟩ (fun k e => by cases e; rfl)
    have r12 : Own (w11.setCell ⟨w.heap.size, 0, none⟩ (.slice (some ⟨gq, 0, none⟩) (limbs (val Lq)).length m)) W.heap.size (.slice Ar kr cr) (limbs (val a % val b)) :=
      own_keepsOf (S := fun k => W.heap.size ≤ k ∧ k < w11.heap.size) HOR.out ⟨o12.below.size, fun k hk => o12.keep k (by omega) (by omega)⟩ (fun k e => HOR.out.1.lt k e)
    have w12 : Below w.heap.size w (w11.setCell ⟨w.heap.size, 0, none⟩ (.slice (some ⟨gq, 0, none⟩) (limbs (val Lq)).length m)) := (HBW.out.trans (HB11.out.mono HBW.out.size)).setCell (p := ⟨w.heap.size, 0, none⟩) (Nat.le_refl _) _
    have s12 := o12.below.size
    generalize (w11.setCell ⟨w.heap.size, 0, none⟩ (.slice (some ⟨gq, 0, none⟩) (limbs (val Lq)).length m)) = W12 at *
    have hDl := (Array.getElem?_eq_some_iff.1 HKK.out).1
    refine ⟨by simp, .inl ⟨_, _, rfl, run_takeDeferred hk12, ?_⟩⟩
    have hg : W12.grownBy (W12.putObj D (.deferred none)) (some D) := grownBy_putObj' W12 D _
    have hb13 : Boxed (W12.putObj D (.deferred none)) w.heap.size 23 (.slice (some ⟨gq, 0, none⟩) (limbs (val Lq)).length m) := b12.kept hg (by simp; omega)
    have c13 := hb13.cell
    have hq13 := own_trim (q12.kept hg (.inr (by simp [Value.ownBlock]; omega))) hkq
    rw [take_own HWQ.out, F1.out] at hq13
    have hr13 := r12.kept hg (by
      rcases hv : (Value.slice Ar kr cr).ownBlock with _ | k
      · exact .inl rfl
      · right
        have := (HOR.out.1.lt k hv).1
        intro e
        cases e
        omega)
    rw [F1.out] at c13
    exact ⟨.tuple #[.slice (some ⟨gq, 0, none⟩) (limbs (val a / val b)).length m, .slice Ar kr cr], by simp [results, Tryz.results128, go_sem, c13], _, _, _, _, _, _, rfl, hq13, own_mono hr13 (show w.heap.size ≤ W.heap.size by omega), w12.grown hg w12.size (fun k e => by cases e; omega)⟩
end Go.Proofs.YtgiokmfdafmaoaaGreat

/- div.bitByBit: a quotient bit by bit. -/
namespace Go.Proofs.YtgiokmfdafmaoaaGreat
open Go.RowKit Go.Shelf
set_option linter.unusedVariables false
set_option linter.unusedSimpArgs false

theorem wpList_copy_run {P : Program} (w : World) {ops : Array Oper} {rest : List Oper} {o : Oper} {a : Act} {Q : Exit → Act → World → Prop} (hgd : o.guard = none) (d s : Operand) (t1 t2 : TypeId)
    (ho : o.op = .call { callee := .builtin .copy, args := #[d, s], argTypes := #[t1, t2] }) (vd vs : Value) (hd : a.eval d = vd) (hs : a.eval s = vs)
    (v' : Value) (w' : World) (hr : (Builtin.copy_ #[t1, t2] o.type #[vd, vs]).run P w = .ok v' w') (h : wpList P ops Q rest (a.put o.dst v') w') : wpList P ops Q (o :: rest) a w :=
  wpList_plain hgd fun K hK => by
    unfold Oper.wp execOp
    simp only [ho, resolve, invoke, builtin, Sem.run_bind, Sem.run_pure, Result.andThen_ok, List.map_toArray, List.map_cons, List.map_nil, hd, hs, hr]
    exact hK _ _ h

/-- One row over another one, of the same length. -/
theorem copy_rows {w : World} {gt gr n : Nat} {T R : List Nat} (ty : TypeId) (hT : RowL w gt T) (hR : RowL w gr R) (hlt : T.length = n) (hlr : R.length = n) :
    ∃ w', (Builtin.copy_ #[23, 23] ty #[.slice (some ⟨gt, 0, none⟩) n n, .slice (some ⟨gr, 0, none⟩) n n]).run Tryz.prog w = .ok (goInt n) w' ∧ RowL w' gt R ∧ Only gt w w' := by
  have h := run_copy_row (P := Tryz.prog) w 23 23 ty 36 gt 0 n n ⟨gr, 0, none⟩ n n (T.map u64).toArray 36 (R.map u64) Tryz.underlying23 (by kernel_rfl) hT (by simp [hlr])
    (fun j v hv => by
      have hj : j < R.length := by have := (List.getElem?_eq_some_iff.1 hv).1; simpa using this
      rw [Addr.add_lit, Nat.zero_add, hR.cell hj]
      rw [List.getElem?_map, List.getElem?_eq_getElem hj] at hv
      simp at hv
      rw [← hv, lim_get hj]) (by simp; omega) (fun v hv => by obtain ⟨y, _, rfl⟩ := List.mem_map.1 hv; rfl)
  rw [List.length_map, hlr] at h
  refine ⟨_, h, ?_, ?_⟩
  · have e : ((T.map u64).toArray.toList.take 0 ++ R.map u64 ++ (T.map u64).toArray.toList.drop (0 + n)).toArray = (R.map u64).toArray := by
      refine congrArg List.toArray ?_
      show List.take 0 (T.map u64) ++ R.map u64 ++ List.drop (0 + n) (T.map u64) = _
      rw [List.take_zero, List.nil_append, List.drop_eq_nil_of_le (by simp; omega), List.append_nil]
    rw [e]
    exact setRow_heap w gt _ _ _ _ hT
  · refine ⟨⟨rfl, rfl, rfl, by simp [World.setRow], fun k hk => absurd hk (by omega)⟩, fun j hj hg => ?_⟩
    simp only [World.setRow, Array.getElem?_modify]
    rw [if_neg (by omega)]

theorem or_bit {x t : Nat} (hx : x % 2 ^ (t + 1) = 0) (ht : t < 64) (hxb : x < B64) : Go.bits BinOp.or IntKind.u64 (x : Int) (IntKind.u64.wrap (2 ^ t)) = ((x + 2 ^ t : Nat) : Int) ∧ x + 2 ^ t < B64 := by
  have h2 : (2 : Nat) ^ t < B64 := by rw [show B64 = 2 ^ 64 from rfl]; exact Nat.pow_lt_pow_right (by omega) ht
  have e0 : x = 2 ^ (t + 1) * (x / 2 ^ (t + 1)) := by have := Nat.div_add_mod x (2 ^ (t + 1)); omega
  have e1 : x ||| 2 ^ t = x + 2 ^ t := by
    have := Nat.two_pow_add_eq_or_of_lt (i := t + 1) (b := 2 ^ t) (Nat.pow_lt_pow_right (by omega) (by omega)) (x / 2 ^ (t + 1))
    rw [← e0] at this
    exact this.symm
  have e2 : IntKind.u64.wrap ((2 : Int) ^ t) = ((2 ^ t : Nat) : Int) := by
    rw [show ((2 : Int) ^ t) = ((2 ^ t : Nat) : Int) by simp, u64_wrap_nat, Nat.mod_eq_of_lt h2]
  refine ⟨by rw [e2, bits_or_u64_nat _ _ hxb h2, e1], ?_⟩
  rw [← e1]
  exact Nat.or_lt_two_pow (n := 64) hxb h2
/-- One bit more of the quotient. -/
theorem bit_more {L : List Nat} {Q i p t : Nat} (hw : Words L) (hv : val L = Q * 2 ^ (i + 1)) (hi : i = 64 * p + t) (ht : t < 64) (hp : p < L.length) :
    lim L p % 2 ^ (t + 1) = 0 ∧ val (L.set p (lim L p + 2 ^ t)) = (2 * Q + 1) * 2 ^ i := by
  have e1 : (2 : Nat) ^ (i + 1) = B64 ^ p * 2 ^ (t + 1) := by rw [B64_pow, ← Nat.pow_add, hi]; rfl
  have e2 : (2 : Nat) ^ i = B64 ^ p * 2 ^ t := by rw [B64_pow, ← Nat.pow_add, hi]
  constructor
  · rw [lim_val hw, hv, e1, Nat.mul_left_comm, Nat.mul_div_cancel_left _ (Nat.pow_pos B64_pos), show B64 = 2 ^ 64 from rfl, Nat.mod_mod_of_dvd _ (Nat.pow_dvd_pow 2 (by omega))]
    exact Nat.mul_mod_left _ _
  · have hs := val_set hp (lim L p + 2 ^ t)
    rw [Nat.mul_add] at hs
    have e3 : val L = 2 * Q * 2 ^ i := by rw [hv, Nat.pow_succ, Nat.mul_comm (2 ^ i) 2, ← Nat.mul_assoc, Nat.mul_comm Q 2]
    rw [Nat.add_mul, Nat.one_mul, ← e3, e2]
    omega
theorem bit_no {L : List Nat} {Q i : Nat} (hv : val L = Q * 2 ^ (i + 1)) : val L = 2 * Q * 2 ^ i := by rw [hv, Nat.pow_succ, Nat.mul_comm (2 ^ i) 2, ← Nat.mul_assoc, Nat.mul_comm Q 2]
/-- What the try tells. -/
theorem try_yes {r2 t2 D P over short V : Nat} (hd : r2 + P * over = V) (hl : t2 + D = r2 + P * short) (h : short ≤ over) (ho : over ≤ 1) (hV : V < 2 * D) (hDP : D < P) : D ≤ V ∧ t2 = V - D := by
  rcases (by omega : (short = 0 ∧ over = 0) ∨ (short = 0 ∧ over = 1) ∨ (short = 1 ∧ over = 1)) with ⟨rfl, rfl⟩ | ⟨rfl, rfl⟩ | ⟨rfl, rfl⟩
  · simp at hd hl; omega
  · simp at hd hl; omega
  · simp at hd hl; omega
theorem try_no {r2 t2 D P over short V : Nat} (hd : r2 + P * over = V) (hl : t2 + D = r2 + P * short) (h : over < short) (hs : short ≤ 1) (ht2 : t2 < P) : V < D ∧ r2 = V := by
  obtain ⟨rfl, rfl⟩ : over = 0 ∧ short = 1 := by omega
  simp at hd hl
  omega
theorem wp_cut {P : Program} {c : Code} {Q : Exit → Act → World → Prop} {a : Act} {w : World} (Φ : Act → Act → World → Prop) (h1 : c.wp P (fun e a' w' => e = .normal ∧ Φ a a' w') a w) (h2 : ∀ a' w', Φ a a' w' → Q .normal a' w') : c.wp P Q a w :=
  Code.wp_mono (fun e a' w' h => by rw [h.1]; exact h2 _ _ h.2) h1
/-- Behind the making of the quotient and of what is left over. -/
def Reg1 (na nb : Nat) (av bv : Value) (w : World) (a a' : Act) (W : World) : Prop :=
  ∃ gq gr, a' = ((((((((a.put (some 11) av).put (some 12) (.int .i64 (na : Int))).put (some 14) bv).put (some 15) (.int .i64 (nb : Int))).put (some 13) (.slice (some ⟨gq, 0, none⟩) na na)).put (some 16) (.slice (some ⟨gr, 0, none⟩) nb nb)).put (some 4) (.slice (some ⟨gq, 0, none⟩) na na)).put (some 5) (.slice (some ⟨gr, 0, none⟩) nb nb)) ∧
    RowL W gq (List.replicate na 0) ∧ RowL W gr (List.replicate nb 0) ∧ gq ≠ gr ∧ w.heap.size ≤ gq ∧ w.heap.size ≤ gr ∧ Below w.heap.size w W

end Go.Proofs.YtgiokmfdafmaoaaGreat

/- The law DivBack: the quotient, multiplied, and what is left over, lead home. -/
namespace Go.Proofs.YtgiokmfdafmaoaaGreat
open Go.RowKit Go.Shelf
set_option linter.unusedVariables false
set_option linter.unusedSimpArgs false

section
variable {F : Nat} (A A2 : Option Addr) (na ca nb cb : Nat) (a b : List Nat) (w : World)
theorem div_no (hD : DivIs F) (E : Int) (he : divE a b = E) (h0 : E ≠ 0) (hra : Rd w A na a) (hrb : Rd w A2 nb b) (hna : na ≤ 1000) (hnb : nb ≤ 1000) (q1 : na ≤ ca ∧ ca ≤ 9223372036854775807) (q2 : nb ≤ cb ∧ cb ≤ 9223372036854775807) :
    Calls Tryz.prog F #[.slice A na ca, .slice A2 nb cb] w fun e w' => ∃ A c A2 c2, e = .returned (.tuple #[.slice A 0 c, .slice A2 0 c2, .int .i64 E]) ∧ Below w.heap.size w w' := by
  have h := hD A A2 na ca nb cb a b w hra hrb hna hnb q1 q2
  rw [quoL_no (by rw [he]; exact h0), remL_no (by rw [he]; exact h0), he] at h
  refine h.mono ?_
  rintro e w' ⟨A3, k3, c3, A4, k4, c4, rfl, o3, o4, hb⟩
  obtain rfl : k3 = 0 := o3.rd.2.1
  obtain rfl : k4 = 0 := o4.rd.2.1
  exact ⟨_, _, _, _, rfl, hb⟩
theorem int_ne0 {n : Nat} (h : n ≠ 0) : ((n : Int) == 0) = false := by simp; omega
end
section
variable (hD : DivIs 107) (hL : DivIs 0) (A A2 : Option Addr) (na ca nb cb : Nat) (a b : List Nat) (w : World)
include hD hL

end

end Go.Proofs.YtgiokmfdafmaoaaGreat

/- The law DivTwice: divided twice; by a word. -/
namespace Go.Proofs.YtgiokmfdafmaoaaGreat
open Go.RowKit Go.Shelf
set_option linter.unusedVariables false
set_option linter.unusedSimpArgs false

theorem quo_words (a b : List Nat) : Words (quoL a b) := by
  unfold quoL
  split
  · exact words_limbs _
  · exact words_nil
theorem rem_canon (a b : List Nat) : limbs (val (remL a b)) = remL a b := by
  unfold remL
  split
  · rw [val_limbs]
  · rw [val_nil, limbs_zero]
theorem val_rem_lt {a : List Nat} {x : Nat} (hx : x < B64) : val (remL a (limbs x)) < B64 := by
  unfold remL
  split
  · rw [val_limbs, val_limbs]
    by_cases h : x = 0
    · subst h
      rename_i he
      rw [limbs_zero] at he
      unfold divE at he
      split at he <;> simp at he
    · exact Nat.lt_trans (Nat.mod_lt _ (by omega)) hx
  · rw [val_nil]; exact B64_pos
theorem twice_is {a b c : List Nat} (h1 : divE a b = 0) (h2 : divE (quoL a b) c = 0) : quoL a (limbs (val b * val c)) = quoL (quoL a b) c ∧ divE a (limbs (val b * val c)) = 0 := by
  have h1' := h1
  rcases divE_cases a b with ⟨_, hma, hmb, hb⟩ | ⟨he, _⟩ | ⟨he, _⟩
  · rcases divE_cases (quoL a b) c with ⟨_, hmq, hmc, hc⟩ | ⟨he, _⟩ | ⟨he, _⟩
    · have hb0 := val_pos hmb hb
      have hc0 := val_pos hmc hc
      have hp : val b * val c ≠ 0 := Nat.ne_of_gt (Nat.mul_pos hb0 hc0)
      have e : divE a (limbs (val b * val c)) = 0 := divE_ok hma (may_limbs _) (fun h => hp (limbs_eq_nil.1 h))
      refine ⟨?_, e⟩
      rw [quoL_ok e, quoL_ok h2, quoL_ok h1, val_limbs, val_limbs, Nat.div_div_eq_div_mul]
    · rw [he] at h2; omega
    · rw [he] at h2; omega
  · rw [he] at h1; omega
  · rw [he] at h1; omega
section
variable (hD : DivIs 107) (hL : DivIs 0) (A A2 A3 : Option Addr) (na ca nb cb nc cc : Nat) (a b c : List Nat) (w : World)
theorem same_l (hra : Rd w A na a) (hrb : Rd w A2 nb b) (hna : na ≤ 100000) (hnb : nb ≤ 100000) (h : a = b) :
    Calls Tryz.prog 11 #[.slice A na ca, .slice A2 nb cb] w fun e w' => e = .returned (.bool true) ∧ Below w.heap.size w w' := by
  subst h
  have h := same_any A A2 na ca nb cb a a w hra hrb (by omega) (by omega)
  rwa [decide_eq_true rfl] at h
include hD hL

end

end Go.Proofs.YtgiokmfdafmaoaaGreat

/- The law DivTells: quotients, however they are made, are the document's. -/
namespace Go.Proofs.YtgiokmfdafmaoaaGreat
open Go.RowKit Go.Shelf
set_option linter.unusedVariables false
set_option linter.unusedSimpArgs false

section
variable (hD : DivIs 107) (hL : DivIs 0) (A A2 : Option Addr) (na ca nb cb : Nat) (a b : List Nat) (w : World)
theorem exact_len (hw : Words a) : (exactL a b).length ≤ a.length := by
  unfold exactL
  split
  · exact length_of_le hw (Nat.div_le_self _ _)
  · simp

end

end Go.Proofs.YtgiokmfdafmaoaaGreat

/- The law DivProduct: a product divided by one of its numbers. -/
namespace Go.Proofs.YtgiokmfdafmaoaaGreat
open Go.RowKit Go.Shelf
set_option linter.unusedVariables false
set_option linter.unusedSimpArgs false

section
variable (hD : DivIs 107) (hL : DivIs 0) (A A2 A3 : Option Addr) (na ca nb cb nc cc : Nat) (a b c : List Nat) (w : World)
include hD hL

end

end Go.Proofs.YtgiokmfdafmaoaaGreat

/- div's calls, as they landed. -/
namespace Go.Proofs.YtgiokmfdafmaoaaGreat
open Go.RowKit Go.Shelf
set_option linter.unusedVariables false
set_option linter.unusedSimpArgs false

theorem wpList_copyB {P : Program} {w : World} {ops : Array Oper} {rest : List Oper} {o : Oper} {st : Act} {Q : Exit → Act → World → Prop} (hgd : o.guard = none) (s x : Operand) (t : TypeId)
    (ho : o.op = .call { callee := .builtin .append, args := #[s, x], argTypes := #[t, t] })
    (i : TypeInfo) (ht : P.underlying t = some (.slice 36)) (hi : P.info? 36 = some i) (hz : i.zero = some (.int .u64 0)) (hsize : i.size = 1) (hby : i.bytes = 8)
    (hs : st.eval s = .slice (some ⟨w.heap.size, 0, none⟩) 0 0) (A : Option Addr) (m c : Nat) (a : List Nat) (hx : st.eval x = .slice A m c) (hA : A = none → m = 0 ∧ c = 0) (hra : Rd w A m a) (hm : m ≤ 1000)
    (h : ∀ A' c' w', Own w' w.heap.size (.slice A' m c') a → Below w.heap.size w w' → wpList P ops Q rest (st.put o.dst (.slice A' m c')) w') :
    wpList P ops Q (o :: rest) st (w.alloc (.cells #[] 36)) := by
  have hown : (w.alloc (.cells #[] 36)).ownsRow w.heap.size 36 1 (.slice (some ⟨w.heap.size, 0, none⟩) 0 0) 0 [] := World.ownsRow_made w #[] 0 (Nat.le_refl _) (Nat.zero_le _) rfl
  have hal := hra.len
  have hB1 : Below w.heap.size w (w.alloc (.cells #[] 36)) := (Below.refl _ w).alloc (Nat.le_refl _) _
  cases A with
  | none =>
    obtain ⟨rfl, rfl⟩ := hA rfl
    have ha : a = [] := List.eq_nil_of_length_eq_zero hal
    subst ha
    exact wpList_append_own_none hgd s x t ho w.heap.size 36 i 1 ht hi _ 0 [] hs hown hx (h _ _ _ ⟨hown, words_nil⟩ hB1)
  | some ad =>
    refine wpList_append_own _ hgd s x t ho w.heap.size 36 i _ 1 8 ht hi hz hsize hby (by rfl) (by omega) _ _ _ hs hown ad m c (a.map u64) hx (by simp [hal]) ?_ ?_ (by simp only [maxLen]; omega) (by omega) (by simp) ?_
    · intro j u hj
      have hjl : j < a.length := by
        have := (List.getElem?_eq_some_iff.1 hj).1
        simpa using this
      obtain ⟨b0, off, e, hlt, hc⟩ := (hra.alloc (.cells #[] 36)).cells (by omega)
      cases e
      have h := hc j (by omega)
      have hu : u = u64 (lim a j) := by
        rw [List.getElem?_map, List.getElem?_eq_getElem hjl] at hj
        simp at hj
        rw [← hj, lim_get hjl]
      rw [hu, ← h]
      congr 1
      unfold Addr.add
      split
      · next h0 => subst h0; simp
      · rfl
    · intro u hu
      obtain ⟨x, _, rfl⟩ := List.mem_map.1 hu
      rfl
    · intro v1 w1 ho1 hg1 _
      have ho2 : Own w1 w.heap.size v1 a := ⟨by rw [hal]; simpa using ho1, hra.words⟩
      obtain ⟨A1, c1, rfl⟩ := own_shape ho2
      rw [hal] at ho2 ⊢
      refine h _ _ _ ho2 (hB1.grown hg1 (by simp) (fun k e => ?_))
      simp [Value.ownBlock] at e
      omega

set_option maxRecDepth 100000 in
set_option maxHeartbeats 1000000 in
theorem clone_any (A : Option Addr) (na ca : Nat) (a : List Nat) (w : World) (hra : Rd w A na a) (hna : na ≤ 1000) :
    Calls Tryz.prog 62 #[.slice A na ca] w fun e w' => ∃ A' k c, e = .returned (.slice A' k c) ∧ Own w' w.heap.size (.slice A' k c) a ∧ Below w.heap.size w w' := by
  obtain ⟨i0, hi0, hz0, hz1, hz2⟩ := info_parts u64_info
  have q := fun (w : World) (a : Option Addr) (n c n' c' : Nat) => Lib.run_eql_slice_nil (P := Tryz.prog) w 23 36 a n c n' c' Tryz.underlying23
  cases A with
  | none =>
    obtain rfl : na = 0 := by
      rcases Nat.eq_zero_or_pos na with h | h
      · exact h
      · obtain ⟨_, _, e, _⟩ := hra.cells h
        cases e
    have ha : a = [] := List.eq_nil_of_length_eq_zero hra.len
    subst ha
    clear hra
    go_enter Tryz.func62, Tryz.ntmps62
    go_wp2
    go_ret
    exact ⟨_, _, _, rfl, own_nil _ _, Below.refl _ _⟩
  | some ad =>
    go_enter Tryz.func62, Tryz.ntmps62
    go_wp2_with (at_builtin; go_loud (refine wpList_copyB rfl _ _ 23 rfl i0 Tryz.underlying23 hi0 hz0 hz1 hz2 rfl (some ad) na ca a rfl (fun h => by cases h) hra (by omega) ?_); intro Ao co w1 hown hb1)
    go_ret
    exact ⟨_, _, _, rfl, hown, hb1⟩

set_option maxRecDepth 100000 in
set_option maxHeartbeats 1000000 in
theorem byLimbs_any (A A2 : Option Addr) (na ca nb cb : Nat) (a b : List Nat) (w : World) (hra : Rd w A na a) (hrb : Rd w A2 nb b) (hna : na ≤ 1000) (hnb : nb ≤ 1000) (hma : may a = true) (hmb : may b = true) (hb : b ≠ []) :
    Calls Tryz.prog 128 #[.slice A na ca, .slice A2 nb cb] w fun e w' => ∃ A' k c A3 k3 c3, e = .returned (.tuple #[.slice A' k c, .slice A3 k3 c3]) ∧ Own w' w.heap.size (.slice A' k c) (limbs (val a / val b)) ∧ Own w' w.heap.size (.slice A3 k3 c3) (limbs (val a % val b)) ∧ Below w.heap.size w w' := by
  have hnb0 : nb ≠ 0 := fun h => hb (List.eq_nil_of_length_eq_zero (by rw [hrb.len]; exact h))
  by_cases hlt : na < nb
  · have hv : val a < val b := by
      obtain ⟨n1, rfl⟩ : ∃ n1, nb = n1 + 1 := ⟨nb - 1, by omega⟩
      have h1 := val_lt hra.words
      rw [hra.len] at h1
      have h2 := val_take_succ b n1
      rw [val_take_all (by rw [hrb.len]; omega)] at h2
      have h3 : lim b n1 ≠ 0 := by
        have := may_last hb
        rw [hrb.len, Nat.add_sub_cancel, hmb] at this
        simpa using this.symm
      have h4 := Nat.mul_le_mul_left (B64 ^ n1) (show 1 ≤ lim b n1 by omega)
      have h5 : B64 ^ na ≤ B64 ^ n1 := Nat.pow_le_pow_right B64_pos (by omega)
      omega
    rw [Nat.div_eq_of_lt hv, Nat.mod_eq_of_lt hv, limbs_zero, limbs_val hra.words hma]
    have hd : decide ((na : Int) < (nb : Int)) = true := by simp; omega
    have hc := clone_any A na ca a (w.alloc (.cells #[.slice none 0 0] 23)) (hra.alloc _) (by omega)
    have HC := Lib.hid hc
    clear hc hra hrb
    go_enter Tryz.func128, Tryz.ntmps128
    go_wp2_with fail
    refine HC.out.mono ?_
    rintro e w1 ⟨A', k, c, rfl, ho, hb1⟩
    have h0 := (hb1.block w.heap.size (by simp)).trans (World.alloc_heap_new w _)
    have c0 : w1.cell? ⟨w.heap.size, 0, none⟩ = some (.slice none 0 0) := cells_cell h0 rfl
    have f0 : w1.frozen? ⟨w.heap.size, 0, none⟩ = false := cells_frozen h0
    have HO := Lib.hid ho
    have H0 := Lib.hid h0
    have HB := Lib.hid hb1
    clear ho h0 hb1
    go_wp2
    have b1 : Boxed (w1.setCell ⟨w.heap.size, 0, none⟩ (.slice none 0 0)) w.heap.size 23 (.slice none 0 0) := Boxed.set _ H0.out
    have c1 := b1.cell
    refine bodyPost_ret (v := .tuple #[.slice none 0 0, .slice A' k c]) (by simp [results, Tryz.results128, go_sem, c1]) rfl ?_
    refine ⟨_, _, _, _, _, _, rfl, own_nil _ _, own_mono (own_far HO.out (p := ⟨w.heap.size, 0, none⟩) (by simp) _) (show w.heap.size ≤ (w.alloc (.cells #[.slice none 0 0] 23)).heap.size by simp), ?_⟩
    exact (below_new HB.out).setCell (p := ⟨w.heap.size, 0, none⟩) (Nat.le_refl _) _
  · by_cases h1 : nb = 1
    · subst h1
      obtain ⟨x, rfl⟩ := one_limb hrb.len
      have hx0 : x ≠ 0 := by simpa [may] using hmb
      have hx : x < B64 := hrb.words.head
      have hvx : val [x] = x := by simp [val]
      rw [hvx]
      have hd : decide ((na : Int) < ((1 : Nat) : Int)) = false := by simp; omega
      obtain ⟨b1, o1, rfl, hl1, hc1⟩ := (hrb.alloc (.cells #[.slice none 0 0] 23)).cells (by omega)
      have hc := hc1 0 (by omega)
      rw [show lim [x] 0 = x from rfl, Nat.add_zero] at hc
      have hw := byWord_any A na ca x a (w.alloc (.cells #[.slice none 0 0] 23)) (hra.alloc _) (by omega) hx (by omega)
      have HW := Lib.hid hw
      have hrl : val a % x < B64 := Nat.lt_trans (Nat.mod_lt _ (by omega)) hx
      obtain ⟨q, hq⟩ : ∃ q, val a / x = q := ⟨_, rfl⟩
      obtain ⟨r, hr⟩ : ∃ r, val a % x = r := ⟨_, rfl⟩
      rw [hr] at hrl
      rw [hq, hr] at hw ⊢
      have HW := Lib.hid hw
      clear hw hra hrb hc1 hq hr hmb hma hb hnb0 hnb hvx
      go_enter Tryz.func128, Tryz.ntmps128
      go_wp2_with fail
      refine HW.out.mono ?_
      rintro e w1 ⟨A', k, c, rfl, ho, hb1⟩
      go_wp2_with fail
      refine (of_any r w1 hrl).mono ?_
      rintro e w2 ⟨A3, k3, c3, rfl, ho3, hb2⟩
      have h0 := (hb2.block w.heap.size (by have := hb1.size; simp at this; omega)).trans ((hb1.block w.heap.size (by simp)).trans (World.alloc_heap_new w _))
      have c0 : w2.cell? ⟨w.heap.size, 0, none⟩ = some (.slice none 0 0) := cells_cell h0 rfl
      have f0 : w2.frozen? ⟨w.heap.size, 0, none⟩ = false := cells_frozen h0
      have HO := Lib.hid (ho.below hb2)
      have HO3 := Lib.hid ho3
      have H0 := Lib.hid h0
      have HB := Lib.hid (below_then (below_new hb1) (show Below w1.heap.size w1 w2 from hb2))
      have hs1 := hb1.size
      simp only [World.size_alloc] at hs1
      have HS1 := Lib.hid hs1
      clear ho h0 hb1 ho3 hb2 hs1
      go_wp2
      have bx : Boxed (w2.setCell ⟨w.heap.size, 0, none⟩ (.slice A' k c)) w.heap.size 23 (.slice A' k c) := Boxed.set _ H0.out
      have c1 := bx.cell
      have hs1 := HS1.out
      refine bodyPost_ret (v := .tuple #[.slice A' k c, .slice A3 k3 c3]) (by simp [results, Tryz.results128, go_sem, c1]) rfl ?_
      refine ⟨_, _, _, _, _, _, rfl, own_mono (own_far HO.out (p := ⟨w.heap.size, 0, none⟩) (by simp) _) (show w.heap.size ≤ (w.alloc (.cells #[.slice none 0 0] 23)).heap.size by simp), own_mono (own_far HO3.out (p := ⟨w.heap.size, 0, none⟩) (by show w.heap.size < w1.heap.size; omega) _) (by omega), ?_⟩
      exact HB.out.setCell (p := ⟨w.heap.size, 0, none⟩) (Nat.le_refl _) _
    · exact limbs_main A A2 na ca nb cb a b w hra hrb (by omega) (by omega) (by omega) hma hmb
/-- A way of making a quotient of two numbers that may be. -/
def WayIs (F : Nat) : Prop := ∀ (A A2 : Option Addr) (na ca nb cb : Nat) (a b : List Nat) (w : World), Rd w A na a → Rd w A2 nb b → na ≤ 1000 → nb ≤ 1000 → may a = true → may b = true → b ≠ [] →
    Calls Tryz.prog F #[.slice A na ca, .slice A2 nb cb] w fun e w' => ∃ A' k c A3 k3 c3, e = .returned (.tuple #[.slice A' k c, .slice A3 k3 c3]) ∧ Own w' w.heap.size (.slice A' k c) (limbs (val a / val b)) ∧ Own w' w.heap.size (.slice A3 k3 c3) (limbs (val a % val b)) ∧ Below w.heap.size w w'

theorem bad_one {a : List Nat} (h : may a = true) : bad [a] = 0 := by unfold bad; rw [if_pos (by simp [h])]
theorem bad_one' {a : List Nat} (h : may a = false) : bad [a] = 8 := by unfold bad; rw [if_neg (by simp [h])]

set_option maxRecDepth 100000 in
set_option maxHeartbeats 2000000 in
/-- div.divided, over a way. -/
theorem divided_any (F : Nat) (hF : WayIs F) (hE : ∀ args w, (callFunc F args).run Tryz.prog w = .ok (.enter F args) w) (A A2 : Option Addr) (na ca nb cb : Nat) (a b : List Nat) (w : World) (hra : Rd w A na a) (hrb : Rd w A2 nb b) (hna : na ≤ 1000) (hnb : nb ≤ 1000) :
    Calls Tryz.prog 127 #[.slice A na ca, .slice A2 nb cb, .func (.func F) #[] #[]] w (Answers2 w (quoL a b) (remL a b) (divE a b)) := by
  have hlb := hrb.len
  cases hma : may a with
  | false =>
    have hE8 : divE a b = 8 := by unfold divE; rw [if_neg (by simp [both, hma])]
    rw [quoL_no (by rw [hE8]; omega), remL_no (by rw [hE8]; omega), hE8]
    have HA := Lib.hid (bad_one' hma)
    clear hma hE8
    go_enter Tryz.func127, Tryz.ntmps127
    go_wp2_with fail
    refine (check_any A na ca a w hra (by omega)).mono ?_
    rw [HA.out]
    rintro e w1 ⟨rfl, hb1⟩
    go_wp2
    go_ret3
    exact answers2_nil hb1
  | true =>
    cases hmb : may b with
    | false =>
      have hE8 : divE a b = 8 := by unfold divE; rw [if_neg (by simp [both, hmb])]
      rw [quoL_no (by rw [hE8]; omega), remL_no (by rw [hE8]; omega), hE8]
      have HA := Lib.hid (bad_one hma)
      have HB := Lib.hid (bad_one' hmb)
      clear hma hmb hE8
      go_enter Tryz.func127, Tryz.ntmps127
      go_wp2_with fail
      refine (check_any A na ca a w hra (by omega)).mono ?_
      rw [HA.out]
      rintro e w1 ⟨rfl, hb1⟩
      go_wp2_with fail
      refine (check_any A2 nb cb b w1 (hrb.below hb1) (by omega)).mono ?_
      rw [HB.out]
      rintro e w2 ⟨rfl, hb2⟩
      have hb3 := below_then hb1 hb2
      go_wp2
      go_ret3
      exact answers2_nil hb3
    | true =>
      have HA := Lib.hid (bad_one hma)
      have HB := Lib.hid (bad_one hmb)
      by_cases hb : b = []
      · have hE3 : divE a b = 30 := by rw [hb]; exact divE_zero hma
        rw [quoL_no (by rw [hE3]; omega), remL_no (by rw [hE3]; omega), hE3]
        obtain rfl : nb = 0 := by rw [hb] at hlb; simpa using hlb.symm
        clear hma hmb hE3 hb hlb
        go_enter Tryz.func127, Tryz.ntmps127
        go_wp2_with fail
        refine (check_any A na ca a w hra (by omega)).mono ?_
        rw [HA.out]
        rintro e w1 ⟨rfl, hb1⟩
        go_wp2_with fail
        refine (check_any A2 0 cb b w1 (hrb.below hb1) (by omega)).mono ?_
        rw [HB.out]
        rintro e w2 ⟨rfl, hb2⟩
        have hb3 := below_then hb1 hb2
        go_wp2
        go_ret3
        exact answers2_nil hb3
      · have hE0 := divE_ok hma hmb hb
        rw [quoL_ok hE0, remL_ok hE0, hE0]
        have hn0 : ((nb : Int) == 0) = false := by
          have : nb ≠ 0 := fun h => hb (List.eq_nil_of_length_eq_zero (by omega))
          simp; omega
        have HMA := Lib.hid hma
        have HMB := Lib.hid hmb
        have HNB := Lib.hid hb
        clear hma hmb hE0 hb hlb
        go_enter Tryz.func127, Tryz.ntmps127
        go_wp2_with fail
        refine (check_any A na ca a w hra (by omega)).mono ?_
        rw [HA.out]
        rintro e w1 ⟨rfl, hb1⟩
        go_wp2_with fail
        refine (check_any A2 nb cb b w1 (hrb.below hb1) (by omega)).mono ?_
        rw [HB.out]
        rintro e w2 ⟨rfl, hb2⟩
        have hb3 := below_then hb1 hb2
        go_wp2_with fail
        refine (hF A A2 na ca nb cb a b w2 (hra.below hb3) (hrb.below hb3) hna hnb HMA.out HMB.out HNB.out).mono ?_
        rintro e w3 ⟨A3, k3, c3, A4, k4, c4, rfl, o3, o4, hb4⟩
        have hb5 := below_then hb3 hb4
        have s3 := hb3.size
        have o3' := own_mono o3 s3
        have o4' := own_mono o4 s3
        clear o3 o4
        go_wp2
        go_ret3
        exact ⟨_, _, _, _, _, _, rfl, o3', o4', hb5⟩

set_option maxRecDepth 100000 in
set_option maxHeartbeats 1000000 in
theorem div_is : DivIs 107 := fun A A2 na ca nb cb a b w hra hrb hna hnb _ _ => by
  have h := divided_any 128 byLimbs_any (enters_of Tryz.func128 (by kernel_rfl) rfl) A A2 na ca nb cb a b w hra hrb hna hnb
  have H := Lib.hid h
  clear h hra hrb
  go_enter Tryz.func107, Tryz.ntmps107
  go_wp2_with fail
  refine H.out.mono ?_
  rintro e w1 ⟨A3, k3, c3, A4, k4, c4, rfl, o3, o4, hb1⟩
  go_wp2
  go_ret3
  exact ⟨_, _, _, _, _, _, rfl, o3, o4, hb1⟩
set_option maxRecDepth 100000 in
set_option maxHeartbeats 2000000 in
theorem exact_is : ExactIs 87 := fun A A2 na ca nb cb a b w hra hrb hna hnb hca hcb => by
  have HD := Lib.hid (div_is A A2 na ca nb cb a b w hra hrb hna hnb hca hcb)
  clear hra hrb
  by_cases he : divE a b = 0
  · by_cases hz : val a % val b = 0
    · have e2 : exactE a b = 0 := by simp [exactE, he, hz]
      have e3 : exactL a b = quoL a b := by simp [exactL, e2, quoL_ok he]
      have e4 : (remL a b).length = 0 := by rw [remL_ok he, hz, limbs_zero]; rfl
      rw [e2, e3]
      have HE := Lib.hid he
      have H4 := Lib.hid e4
      clear he hz e2 e3 e4
      go_enter Tryz.func87, Tryz.ntmps87
      go_wp2_with fail
      refine HD.out.mono ?_
      rw [HE.out]
      rintro e w1 ⟨A3, k3, c3, A4, k4, c4, rfl, o3, o4, hb1⟩
      obtain rfl : k4 = 0 := by have h1 := o4.rd.2.1; have h2 := H4.out; omega
      clear o4
      go_wp2
      go_ret2
      exact ⟨_, _, _, rfl, o3, hb1⟩
    · have e2 : exactE a b = 6 := by simp [exactE, he, hz]
      have e3 : exactL a b = [] := by simp [exactL, e2]
      have e4 : 0 < (remL a b).length := by
        rw [remL_ok he]
        exact Nat.pos_of_ne_zero (fun h => hz (limbs_eq_nil.1 (List.eq_nil_of_length_eq_zero h)))
      rw [e2, e3]
      have HE := Lib.hid he
      have H4 := Lib.hid e4
      clear he hz e2 e3 e4
      go_enter Tryz.func87, Tryz.ntmps87
      go_wp2_with fail
      refine HD.out.mono ?_
      rw [HE.out]
      rintro e w1 ⟨A3, k3, c3, A4, k4, c4, rfl, o3, o4, hb1⟩
      have hk4 : (0 : Int) < (k4 : Int) := by have h1 := o4.rd.2.1; have h2 := H4.out; omega
      clear o4 o3
      go_wp2
      go_ret2
      exact answers_nil hb1
  · have e2 : exactE a b = divE a b := by simp [exactE, he]
    have e3 : exactL a b = [] := by simp [exactL, e2, he]
    have hne : (divE a b != 0) = true := by simpa using he
    rw [e2, e3]
    clear e2 e3 he
    generalize divE a b = E at *
    go_enter Tryz.func87, Tryz.ntmps87
    go_wp2_with fail
    refine HD.out.mono ?_
    rintro e w1 ⟨A3, k3, c3, A4, k4, c4, rfl, o3, o4, hb1⟩
    clear o4 o3
    go_wp2
    go_ret2
    exact answers_nil hb1
set_option maxRecDepth 100000 in
set_option maxHeartbeats 2000000 in
theorem word_is : WordIs 85 := fun A na ca a x w hra hx hna hca => by
  cases hma : may a with
  | false =>
    have hE8 : divE a (limbs x) = 8 := by unfold divE; rw [if_neg (by simp [both, hma])]
    rw [quoL_no (by rw [hE8]; omega), remL_no (by rw [hE8]; omega), hE8, val_nil]
    have HA := Lib.hid (bad_one' hma)
    clear hma hE8
    go_enter Tryz.func85, Tryz.ntmps85
    go_wp2_with fail
    refine (check_any A na ca a w hra (by omega)).mono ?_
    rw [HA.out]
    rintro e w1 ⟨rfl, hb1⟩
    go_wp2
    go_ret3
    exact ⟨_, _, _, rfl, own_nil _ _, hb1⟩
  | true =>
    have HA := Lib.hid (bad_one hma)
    by_cases h0 : x = 0
    · subst h0
      rw [limbs_zero]
      have hE3 : divE a [] = 30 := divE_zero hma
      rw [quoL_no (by rw [hE3]; omega), remL_no (by rw [hE3]; omega), hE3, val_nil]
      clear hma hE3
      go_enter Tryz.func85, Tryz.ntmps85
      go_wp2_with fail
      refine (check_any A na ca a w hra (by omega)).mono ?_
      rw [HA.out]
      rintro e w1 ⟨rfl, hb1⟩
      go_wp2
      go_ret3
      exact ⟨_, _, _, rfl, own_nil _ _, hb1⟩
    · have hne : limbs x ≠ [] := fun h => h0 (limbs_eq_nil.1 h)
      have hE0 := divE_ok hma (may_limbs x) hne
      rw [quoL_ok hE0, remL_ok hE0, hE0, val_limbs, val_limbs]
      have hx0 : ((x : Int) == 0) = false := by simp; omega
      clear hma hE0 hne
      go_enter Tryz.func85, Tryz.ntmps85
      go_wp2_with fail
      refine (check_any A na ca a w hra (by omega)).mono ?_
      rw [HA.out]
      rintro e w1 ⟨rfl, hb1⟩
      go_wp2_with fail
      refine (byWord_any A na ca x a w1 (hra.below hb1) (by omega) hx (by omega)).mono ?_
      rintro e w2 ⟨A', k, c, rfl, ho, hb2⟩
      have hb3 := below_then hb1 hb2
      have ho' := own_mono ho hb1.size
      clear ho
      go_wp2
      go_ret3
      exact ⟨_, _, _, rfl, ho', hb3⟩
end Go.Proofs.YtgiokmfdafmaoaaGreat
