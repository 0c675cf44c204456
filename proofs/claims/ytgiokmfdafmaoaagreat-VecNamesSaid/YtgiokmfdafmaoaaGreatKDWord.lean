import Derived.Test.YtgiokmfdafmaoaaGreatKDLimb
import Derived.OrdersHeld
import Derived.Deep.RegionHeld
import Derived.Test.YtgiokmfdafmaoaaGreatKNm
/- Rounds DWord. -/
/- A region that draws its order, in a round of a loop over an iterator: from the calculus for functions' frames. -/
namespace Go.Proofs.YtgiokmfdafmaoaaGreat
open Go.RowKit Go.Shelf
set_option linter.unusedVariables false

theorem rowsIn_wide {n : Nat} {P : Program} {row : String} {args : Array Value} {w : World} {R : Value → World → Prop} (h : Rows P row args w R) : RowsIn Fence.wide n P row args w R :=
  fun c cs _ => let ⟨v, w', r, s⟩ := h c cs; ⟨v, w', r, stepsIn_wide.2 s⟩

section
variable {P : Program} {n r : Nat} {Q : Exit → Act → World → Prop} {ops : Array Oper}
theorem oper_round {o : Oper} {a : Act} {w : World} {K K' : Act → World → Prop} (hd : ∀ c, o.op ≠ .defer c) (hK : ∀ a w, K a w → K' a w) (h : o.wp P a w K Q) : o.wpIn (Fence.wide.inRound r) n P a w K' Q := by
  refine ⟨fun _ _ => trivial, ?_⟩
  unfold Oper.wp at h
  rw [Oper.semAt_eq _ _ _ hd]
  generalize (execOp a.eval o).run P w = x at *
  cases x with
  | ok y w' =>
    cases y <;> simp only [Oper.upon, Oper.uponIn] at h ⊢
    case value v => exact hK _ _ h
    case skip => exact hK _ _ h
    case defer d => exact hK _ _ h
    case enter f args =>
      refine ⟨fun hx => (by cases hx), CallsIn.inRound r (callsIn_wide.2 ?_)⟩
      refine h.mono fun e w'' he => ?_
      cases e <;> first | exact hK _ _ he | exact he
    case row row args =>
      refine ⟨fun hx => (by cases hx), ?_⟩
      exact RowsIn.mono (rowsIn_wide h) fun _ _ he => hK _ _ he
  | halt y w' => cases y <;> simp only [Oper.upon, Oper.uponIn] at h ⊢ <;> exact h
theorem ops_round (hd : ∀ o ∈ ops, ∀ c, o.op ≠ .defer c) (hQ : ¬ LetsOut Q) : ∀ (l : List Nat) (a : Act) (w : World), wpOps P ops Q l a w → wpOpsIn (Fence.wide.inRound r) n P ops Q l a w := by
  intro l
  induction l with
  | nil => intro a w h; exact h
  | cons i rest ih =>
    intro a w h
    unfold wpOps at h
    unfold wpOpsIn
    split at h
    · rename_i ho
      simp only [ho]
      exact ih _ _ h
    · rename_i o ho
      simp only [ho]
      by_cases hw : Region.wanted o (yielded ops a.tmps) = true
      · rw [if_pos hw] at h ⊢
        rcases h with h | h
        · exact oper_round (hd o (Array.mem_of_getElem? ho)) ih h
        · exact absurd h.2 hQ
      · rw [if_neg hw] at h ⊢
        exact ⟨fun _ _ => trivial, ih _ _ h⟩
end

def Oper.calm (o : Oper) : Bool := match o.op with | .defer _ => false | _ => true
theorem calm_all {l : List Oper} (h : l.all Oper.calm = true) : ∀ o ∈ l.toArray, ∀ c, o.op ≠ .defer c := fun o ho c e => by
  have := List.all_eq_true.1 h o (by simpa using ho)
  unfold Oper.calm at this
  rw [e] at this
  cases this

section
variable {P : Program} {n r : Nat} {Q : Exit → Act → World → Prop} {l : List Oper} {S : World → Prop} {md : Region.Mode}
theorem region_round (N : Nat) {id : Nat} {a : Act} {w : World} (hm : P.follows .mixedOrders = true) (hd : l.all Oper.calm = true) (hQ : ¬ LetsOut Q) (hN : l.length = N)
    (h : wpAnyH P .any l.toArray Q S N (Array.replicate N false) a w.drew) : (Code.region id l.toArray true).wpIn (Fence.wide.inRound r) n P Q a w := by
  refine wpIn_region_draw fun t => ops_round (calm_all hd) hQ _ _ _ ?_
  simp only [Region.schedule, hm, Bool.true_or, if_true]
  subst hN
  exact wpAny_sound l.length t (Array.replicate l.length false) a _ (wpAny_of_held _ _ _ _ h)
/-- Number i is taken first. -/
theorem takeL {i : Nat} {oi : Oper} {v : Value} {fuel : Nat} {listed : Array Bool} {a : Act} {w : World} (hi : l[i]? = some oi)
    (hs : Region.noSelect l.toArray = true) (hf : Region.free md l.toArray listed i = true) (hr : (Region.ready md l.toArray listed).contains i = true)
    (hQ : ∀ c a w, Q (.panic c) (a.put oi.dst v) w → Q (.panic c) a w) (hy : YieldsIf P l.toArray S oi v a) (hS : S w)
    (h : wpAnyH P md l.toArray Q S fuel (listed.setIfInBounds i true) (a.put oi.dst v) w) : wpAnyH P md l.toArray Q S (fuel + 1) listed a w :=
  wpAnyH_take (by simpa using hi) hs hf hr hQ hy hS h
/-- Number i alone may come up. -/
theorem carryL {i : Nat} {oi : Oper} {fuel : Nat} {listed : Array Bool} {a : Act} {w : World} (hi : l[i]? = some oi) (hr : Region.ready md l.toArray listed = [i]) (hw : Region.wanted oi (yielded l.toArray a.tmps) = true)
    (h : ∀ K : Act → World → Prop, (∀ a w, S w → (S w → wpAnyH P md l.toArray Q S fuel (listed.setIfInBounds i true) a w) → K a w) → Oper.wp P oi a w K Q) : wpAnyH P md l.toArray Q S (fuel + 1) listed a w := by
  refine wpAnyH_ready hr (by simp) (AllReadyH.cons (o := oi) (by simpa using hi) (fun K hK => ?_) AllReadyH.nil)
  rw [if_pos hw]
  exact h K hK
end
section
variable {P : Program} {Q : Exit → Act → World → Prop} {l : List Oper} {S : World → Prop} {md : Region.Mode}
theorem region_held (N : Nat) {id : Nat} {a : Act} {w : World} (hm : P.follows .mixedOrders = true) (hN : l.length = N)
    (h : wpAnyH P .any l.toArray Q S N (Array.replicate N false) a w.drew) : (Code.region id l.toArray true).wp P Q a w := by
  subst hN
  exact wp_region_held hm h
/-- Number i may come up first. -/
theorem carryC {i : Nat} {oi : Oper} {fuel : Nat} {listed : Array Bool} {a : Act} {w : World} {rs : List Nat} (hi : l[i]? = some oi) (hw : Region.wanted oi (yielded l.toArray a.tmps) = true)
    (h : ∀ K : Act → World → Prop, (∀ a w, S w → (S w → wpAnyH P md l.toArray Q S fuel (listed.setIfInBounds i true) a w) → K a w) → Oper.wp P oi a w K Q)
    (hs : AllReadyH P md l.toArray Q S fuel listed a w rs) : AllReadyH P md l.toArray Q S fuel listed a w (i :: rs) := by
  refine AllReadyH.cons (o := oi) (by simpa using hi) (fun K hK => ?_) hs
  rw [if_pos hw]
  exact h K hK
end
end Go.Proofs.YtgiokmfdafmaoaaGreat

/- div.byWord: a number by a word. -/
namespace Go.Proofs.YtgiokmfdafmaoaaGreat
open Go.RowKit Go.Shelf
attribute [local go_sem] Oper.semAt_some
set_option linter.unusedVariables false
set_option linter.unusedSimpArgs false

/-- What the rounds make: the limbs of the quotient, and what is left over. -/
def wfold (n x : Nat) {V : Nat → Nat → Prop} (pre : List (BkI n V)) : List Nat × Nat :=
  pre.foldl (fun s y => (s.1.set y.1.1 ((s.2 * B64 + y.1.2) / x), (s.2 * B64 + y.1.2) % x)) (List.replicate n 0, 0)
section
variable {n x : Nat} {V : Nat → Nat → Prop}
theorem wfold_snoc (pre : List (BkI n V)) (y : BkI n V) : wfold n x (pre ++ [y]) = ((wfold n x pre).1.set y.1.1 (((wfold n x pre).2 * B64 + y.1.2) / x), ((wfold n x pre).2 * B64 + y.1.2) % x) := by
  simp [wfold, List.foldl_append]
theorem wfold_ok (hx : 0 < x) (hV : ∀ j v, V j v → v < B64) (pre : List (BkI n V)) : (wfold n x pre).1.length = n ∧ Words (wfold n x pre).1 ∧ (wfold n x pre).2 < x := by
  refine snoc_ind (P := fun pre => (wfold n x pre).1.length = n ∧ Words (wfold n x pre).1 ∧ (wfold n x pre).2 < x) ⟨by simp [wfold], words_zeros _, hx⟩ ?_ pre
  intro pre y ⟨h1, h2, h3⟩
  rw [wfold_snoc]
  refine ⟨by simp [h1], words_set h2 ?_, Nat.mod_lt _ hx⟩
  rw [Nat.div_lt_iff_lt_mul hx]
  have h4 := hV _ _ y.2.2
  have := Nat.mul_le_mul_right B64 (show (wfold n x pre).2 + 1 ≤ x from h3)
  rw [Nat.add_mul, Nat.mul_comm x] at this
  omega
theorem wfold_val {a : List Nat} (ha : Words a) (hl : a.length = n) (hx : 0 < x) (pre : List (BkI n (fun j v => v = lim a j))) : ∀ k, k ≤ n → places pre = downs n k →
    (∀ j, j < n - k → lim (wfold n x pre).1 j = 0) ∧ val (wfold n x pre).1 * x + (wfold n x pre).2 * B64 ^ (n - k) + val (a.take (n - k)) = val a := by
  have hok := wfold_ok (n := n) (V := fun j v => v = lim a j) hx (fun j v e => by rw [e]; exact ha.get j)
  refine snoc_ind (P := fun pre => ∀ k, k ≤ n → places pre = downs n k → (∀ j, j < n - k → lim (wfold n x pre).1 j = 0) ∧ val (wfold n x pre).1 * x + (wfold n x pre).2 * B64 ^ (n - k) + val (a.take (n - k)) = val a) ?_ ?_ pre
  · intro k hk h
    have hk0 : k = 0 := by have := congrArg List.length h; rw [downs_length] at this; simpa [places] using this.symm
    subst hk0
    refine ⟨fun j hj => ?_, ?_⟩
    · simp only [wfold, List.foldl_nil]
      exact lim_zero_of_lt (words_zeros n) (by rw [val_zeros]; exact Nat.pow_pos B64_pos)
    · simp [wfold, val_zeros, val_take_all (show a.length ≤ n by omega)]
  · intro pre y ih k hk h
    have hk1 : k = pre.length + 1 := by have := congrArg List.length h; rw [places_length, downs_length] at this; simpa using this.symm
    subst hk1
    rw [places_snoc, downs_succ] at h
    obtain ⟨e1, e2⟩ := List.append_inj h (by rw [places_length, downs_length])
    have e3 : y.1.1 = n - 1 - pre.length := by simpa using e2
    obtain ⟨h1, h2⟩ := ih pre.length (by omega) e1
    obtain ⟨o1, o2, o3⟩ := hok pre
    obtain ⟨⟨j, v⟩, hj, hv⟩ := y
    simp only at e3 hv hj
    rw [wfold_snoc]
    simp only
    have ej : n - (pre.length + 1) = j := by omega
    have ej1 : n - pre.length = j + 1 := by omega
    rw [ej]
    rw [ej1] at h1 h2
    generalize (wfold n x pre).1 = L at *
    generalize (wfold n x pre).2 = r at *
    subst hv
    refine ⟨fun i hi => ?_, ?_⟩
    · rw [lim_set (by omega), if_neg (by omega)]
      exact h1 i (by omega)
    · have hs := val_set (l := L) (i := j) (by omega) ((r * B64 + lim a j) / x)
      rw [h1 j (by omega), Nat.mul_zero, Nat.add_zero] at hs
      have hd := Nat.div_add_mod (r * B64 + lim a j) x
      rw [val_take_succ] at h2
      rw [hs, ← h2, Nat.add_mul]
      generalize (r * B64 + lim a j) / x = d at *
      generalize (r * B64 + lim a j) % x = m at *
      have e5 : B64 ^ j * (x * d + m) = B64 ^ j * (r * B64 + lim a j) := by rw [hd]
      rw [Nat.mul_add, Nat.mul_add] at e5
      have e6 : B64 ^ j * d * x = B64 ^ j * (x * d) := by rw [Nat.mul_assoc, Nat.mul_comm d x]
      have e7 : m * B64 ^ j = B64 ^ j * m := Nat.mul_comm _ _
      have e8 : r * B64 ^ (j + 1) = B64 ^ j * (r * B64) := by rw [show B64 ^ (j + 1) = B64 ^ j * B64 from Nat.pow_succ ..]; simp only [Nat.mul_comm, Nat.mul_left_comm, Nat.mul_assoc]
      omega
theorem wfold_all {a : List Nat} (ha : Words a) (hl : a.length = n) (hx : 0 < x) {pre : List (BkI n (fun j v => v = lim a j))} (h : places pre = downs n n) : val (wfold n x pre).1 = val a / x ∧ (wfold n x pre).2 = val a % x := by
  obtain ⟨_, h2⟩ := wfold_val ha hl hx pre n (Nat.le_refl _) h
  have h3 := (wfold_ok (V := fun j v => v = lim a j) hx (fun j v e => by rw [e]; exact ha.get j) pre).2.2
  rw [Nat.sub_self, Nat.pow_zero, Nat.mul_one] at h2
  simp only [List.take_zero, val_nil, Nat.add_zero] at h2
  generalize (wfold n x pre).2 = r at *
  generalize val (wfold n x pre).1 = q at *
  rw [← h2, Nat.mul_comm, Nat.mul_add_div hx, Nat.mul_add_mod, Nat.div_eq_of_lt h3, Nat.mod_eq_of_lt h3]
  exact ⟨rfl, rfl⟩
end

theorem alloc4 (w : World) (o1 o2 o3 o4 : Obj) : ((((w.alloc o1).alloc o2).alloc o3).alloc o4).heap.size = w.heap.size + 4 ∧ ((((w.alloc o1).alloc o2).alloc o3).alloc o4).heap[w.heap.size]? = some o1 ∧ ((((w.alloc o1).alloc o2).alloc o3).alloc o4).heap[w.heap.size + 1]? = some o2 ∧
    ((((w.alloc o1).alloc o2).alloc o3).alloc o4).heap[w.heap.size + 2]? = some o3 ∧ ((((w.alloc o1).alloc o2).alloc o3).alloc o4).heap[w.heap.size + 3]? = some o4 ∧ Below w.heap.size w ((((w.alloc o1).alloc o2).alloc o3).alloc o4) := by
  have h2 := World.alloc_heap_new (w.alloc o1) o2
  have h3 := World.alloc_heap_new ((w.alloc o1).alloc o2) o3
  have h4 := World.alloc_heap_new (((w.alloc o1).alloc o2).alloc o3) o4
  rw [World.size_alloc] at h2
  rw [World.size_alloc, World.size_alloc] at h3
  rw [World.size_alloc, World.size_alloc, World.size_alloc] at h4
  refine ⟨by simp, ?_, ?_, ?_, h4, (((((Below.refl _ w).alloc (Nat.le_refl _) _).alloc (by simp) _).alloc (by simp; omega) _).alloc (by simp; omega) _)⟩
  · exact (Below.heap_alloc _ _ _ (by simp only [World.size_alloc]; omega)).trans ((Below.heap_alloc _ _ _ (by simp only [World.size_alloc]; omega)).trans ((Below.heap_alloc _ _ _ (by simp)).trans (World.alloc_heap_new w o1)))
  · exact (Below.heap_alloc _ _ _ (by simp only [World.size_alloc]; omega)).trans ((Below.heap_alloc _ _ _ (by simp)).trans h2)
  · exact (Below.heap_alloc _ _ _ (by simp)).trans h3
theorem boxed_far {W : World} {B g : Nat} {t : TypeId} {v : Value} (h : Boxed W B t v) (hne : B ≠ g) (i : Nat) (u : Value) : Boxed (W.setCell ⟨g, i, none⟩ u) B t v := (Below.heap_setCell W ⟨g, i, none⟩ u B hne).trans h
/-- trim's answer, as one value. -/
theorem trimD_val (A : Option Addr) (n c : Nat) (l : List Nat) (w : World) (h : Rd w A n l) (hc0 : n ≤ c) (hc1 : c ≤ 9223372036854775807) :
    Calls Tryz.prog 132 #[.slice A n c] w fun e w' => e = .returned (.slice A (limbs (val l)).length c) ∧ w' = w :=
  (trimD_any A n c l w h hc0 hc1).mono fun e w' ⟨⟨k, hk, he, ht⟩, hw⟩ => ⟨by rw [he, ← take_take_len (by rw [h.len]; exact hk) ht], hw⟩
/-- What the rounds of byWord hand on. -/
def WdI (w : World) (n x : Nat) (V : Nat → Nat → Prop) (pre : List (BkI n V)) (W : World) : Prop :=
  Boxed W w.heap.size 36 (u64 x) ∧ Boxed W (w.heap.size + 1) 23 (.slice (some ⟨w.heap.size + 3, 0, none⟩) n n) ∧ Boxed W (w.heap.size + 2) 36 (u64 (wfold n x pre).2) ∧ RowL W (w.heap.size + 3) (wfold n x pre).1 ∧ Below w.heap.size w W ∧ w.heap.size + 5 ≤ W.heap.size
theorem wdI_own (w : World) (n x : Nat) (V : Nat → Nat → Prop) {B : Nat} (hB : w.heap.size + 5 ≤ B) : OwnFrom B (WdI w n x V) :=
  ownFrom_low hB (fun s W h => h.2.2.2.2.2) fun s W W' h hb =>
    ⟨(hb.block _ (by omega)).trans h.1, (hb.block _ (by omega)).trans h.2.1, (hb.block _ (by omega)).trans h.2.2.1, h.2.2.2.1.below hb (by omega), h.2.2.2.2.1.trans (hb.mono (by omega)), Nat.le_trans h.2.2.2.2.2 hb.size⟩

set_option maxRecDepth 100000 in
set_option maxHeartbeats 4000000 in
theorem byWord_any (A : Option Addr) (na ca x : Nat) (a : List Nat) (w : World) (hra : Rd w A na a) (hna : na ≤ 1000000) (hx : x < B64) (hx0 : 0 < x) :
    Calls Tryz.prog 109 #[.slice A na ca, u64 x] w fun e w' => ∃ A' k c, e = .returned (.tuple #[.slice A' k c, u64 (val a % x)]) ∧ Own w' w.heap.size (.slice A' k c) (limbs (val a / x)) ∧ Below w.heap.size w w' := by
  have hmk := fun W => run_make_row' (P := Tryz.prog) 23 36 (.int .u64 0) 8 Tryz.underlying23 u64_info rfl .i64 .i64 na (by omega) (by omega) W
  refine (callsIn_wide (n := 8)).1 ?_
  refine callsIn_of_wp_marks Tryz.func109 rfl trivial ?_ rfl
  simp only [Tryz.ntmps109, List.size_toArray, List.length_cons, List.length_nil, Nat.reduceAdd, Nat.reduceSub, Array.replicate_succ, Array.replicate_zero, List.push_toArray, List.append_toArray, List.nil_append, List.cons_append]
  have HRA := Lib.hid hra
  clear hra
  gi_wp2_with fail
  obtain ⟨s2, y0, y1, y2, y3, b2⟩ := alloc4 w (.cells #[u64 x] 36) (.cells #[.slice (some ⟨w.heap.size + 1 + 1 + 1, 0, none⟩) na na] 23) (.cells #[.int .u64 0] 36) (.cells (madeCells #[.int .u64 0] na) 36)
  have y4 : RowL ((((w.alloc (.cells #[u64 x] 36)).alloc (.cells #[.slice (some ⟨w.heap.size + 1 + 1 + 1, 0, none⟩) na na] 23)).alloc (.cells #[.int .u64 0] 36)).alloc (.cells (madeCells #[.int .u64 0] na) 36)) (w.heap.size + 3) (List.replicate na 0) := by
    have := RowL.zeros (((w.alloc (.cells #[u64 x] 36)).alloc (.cells #[.slice (some ⟨w.heap.size + 1 + 1 + 1, 0, none⟩) na na] 23)).alloc (.cells #[.int .u64 0] 36)) na
    rwa [World.size_alloc, World.size_alloc, World.size_alloc] at this
  generalize ((((w.alloc (.cells #[u64 x] 36)).alloc (.cells #[.slice (some ⟨w.heap.size + 1 + 1 + 1, 0, none⟩) na na] 23)).alloc (.cells #[.int .u64 0] 36)).alloc (.cells (madeCells #[.int .u64 0] na) 36)) = w2 at *
  clear y3 hmk
  refine ⟨trivial, (callsIn_wide.2 (backN_any A na ca w2)).mono ?_⟩
  rintro e w6 ⟨rfl, rfl⟩
  gi_wp2_with fail
  obtain ⟨WE, hWE⟩ : ∃ WE, WE = w2.alloc (.cells #[.slice A na ca] 23) := ⟨_, rfl⟩
  have hbE : Below w2.heap.size w2 WE := by rw [hWE]; exact (Below.refl _ w2).alloc (Nat.le_refl _) _
  have hsE : WE.heap.size = w.heap.size + 5 := by rw [hWE]; simp; omega
  have hxE : WE.heap[w2.heap.size]? = some (.cells #[.slice A na ca] 23) := by rw [hWE]; exact World.alloc_heap_new w2 _
  have hbE2 : Below w.heap.size w WE := b2.trans (hbE.mono (by omega))
  have hI0 : WdI w na x (fun j v => v = lim a j) [] WE := by
    refine ⟨(hbE.block _ (by omega)).trans y0, (hbE.block _ (by omega)).trans y1, (hbE.block _ (by omega)).trans y2, ?_, hbE2, by omega⟩
    simp only [wfold, List.foldl_nil]
    exact y4.below hbE (by omega)
  rw [s2] at hxE
  rw [← hWE]
  have HH := Lib.hid (has_rd (HRA.out.below hbE2))
  have HI0 := Lib.hid hI0
  have HSE := Lib.hid hsE
  have hlt4 : w.heap.size + 4 < WE.heap.size := by omega
  have hw5 : w.heap.size + 5 ≤ WE.heap.size := by omega
  have hlt := HRA.out.lt
  have HLT := Lib.hid hlt
  have HVB : Hid (∀ j v, v = lim a j → v < B64) := fun j v e => by rw [e]; exact HRA.out.words.get j
  clear y0 y1 y2 y4 hWE hbE hbE2 hI0 hsE b2 hlt
  clear s2
  have hkb : ∀ (Wx : World) (l : Nat) (o' : Obj), WE.heap.size ≤ l → KeepsOf (fun k => k < w.heap.size ∨ k = w.heap.size + 4) Wx (Wx.putObj l o') := fun Wx l o' hl => ⟨by simp, fun k hk => World.putObj_heap_other (by omega)⟩
  refine wpIn_rangeFunc_ownG rfl (by omega) (gf := 143) (lb := #[.pointer (some ⟨w.heap.size + 4, 0, none⟩)]) rfl trivial (enters_of Tryz.func143 (by kernel_rfl) rfl)
      (backN_stops (fun k => k < w.heap.size ∨ k = w.heap.size + 4) (fun j v => v = lim a j) _ (w.heap.size + 4) A na ca (by omega) (.inr rfl) WE hlt4 (fun b0 off h e => by have := HLT.out h b0 off e; omega) (cells_cell hxE rfl) HH.out)
      BkK.trans ?hkb (Below.refl _ _) (fun _ => rfl)
      (WdI w na x (fun j v => v = lim a j)) (fun _ _ _ => False) (wdI_own w na x _ hw5) (fun _ _ _ _ _ hs _ _ => hs) HI0.out ?_ ?assign ?body ?done ?stop
  case hkb =>
    intro Wx l o o' hl ho _ _
    exact ⟨hkb Wx l o' hl, has_keeps (hkb Wx l o' hl) (fun h b0 off e => .inl (HLT.out h b0 off e))⟩
  case assign =>
    intro l x W K hK
    gi_wp2
    exact hK
  case stop =>
    rintro D c pre W _ _ h _
    exact h.elim
  case body =>
    rintro l pre y W ⟨hx0', hq, hr, hrow, hB, hsz⟩ hlen
    obtain ⟨⟨j, v⟩, hj, hv⟩ := y
    have hok := wfold_ok hx0 HVB.out pre
    have hsn := wfold_snoc (x := x) pre ⟨(j, v), hj, hv⟩
    have hvb := HVB.out j v hv
    have hj' : j < na := hj
    have hjn : ¬ (na ≤ j) := by omega
    obtain ⟨L, hL⟩ : ∃ L, (wfold na x pre).1 = L := ⟨_, rfl⟩
    obtain ⟨r, hR⟩ : ∃ r, (wfold na x pre).2 = r := ⟨_, rfl⟩
    rw [hL, hR] at hok hsn
    rw [hL] at hrow
    rw [hR] at hr
    obtain ⟨o1, o2, o3⟩ := hok
    have c0 := hx0'.cell
    have c1 := hq.cell
    have c2 := hr.cell
    have f2 := hr.frozen
    have hcu : W.cell? ⟨w.heap.size + 3, j, none⟩ = some (u64 (lim L j)) := hrow.cell (by omega)
    have hfu : W.frozen? ⟨w.heap.size + 3, j, none⟩ = false := hrow.frozen _
    have H1 := Lib.hid hx0'; have H2 := Lib.hid hq; have H3 := Lib.hid hr; have H4 := Lib.hid hrow; have H5 := Lib.hid hB
    have HSN := Lib.hid hsn; have HO1 := Lib.hid o1; have HO2 := Lib.hid o2; have HO3 := Lib.hid o3
    clear hx0' hq hr hrow hB hsn o1 o2 o3 hL hR hlen
    obtain ⟨d, hd⟩ : ∃ d, (r * B64 + v) / x = d := ⟨_, rfl⟩
    obtain ⟨m, hm⟩ : ∃ m, (r * B64 + v) % x = m := ⟨_, rfl⟩
    have hdv := fun W => div64_any r v x hvb hx HO3.out W
    rw [hd, hm] at hdv HSN
    have HDV := Lib.hid hdv
    have HD := Lib.hid hd
    have HM := Lib.hid hm
    clear hdv hd hm
    gi_wp2
    refine region_round (S := fun W' => W'.cell? ⟨w.heap.size, 0, none⟩ = some (u64 x) ∧ W'.cell? ⟨w.heap.size + 1, 0, none⟩ = some (.slice (some ⟨w.heap.size + 3, 0, none⟩) na na)) 12 (by kernel_rfl) (by rfl) (fun h => h.elim fun _ h => h.elim fun _ h => h) rfl ?_
    have hS0 : (fun W' : World => W'.cell? ⟨w.heap.size, 0, none⟩ = some (u64 x) ∧ W'.cell? ⟨w.heap.size + 1, 0, none⟩ = some (.slice (some ⟨w.heap.size + 3, 0, none⟩) na na)) W.drew := ⟨c0, c1⟩
    refine takeL (i := 0) (v := ?_) (List.getElem?_cons_zero) (by kernel_rfl) (by kernel_rfl) (by kernel_rfl) (fun _ _ _ h => h) (Or.inl ⟨by rfl, ?_⟩) (by assumption) ?_
    rotate_left
    · (intro w hSw; (try dsimp only at hSw); go_simp; try with_reducible rfl)
    try simp only [Act.put, List.setIfInBounds_toArray, List.set_cons_zero, List.set_cons_succ]
    refine takeL (i := 1) (v := ?_) (List.getElem?_cons_succ.trans (List.getElem?_cons_zero)) (by kernel_rfl) (by kernel_rfl) (by kernel_rfl) (fun _ _ _ h => h) (Or.inl ⟨by rfl, ?_⟩) (by assumption) ?_
    rotate_left
    · (intro w hSw; (try dsimp only at hSw); go_simp; try with_reducible rfl)
    try simp only [Act.put, List.setIfInBounds_toArray, List.set_cons_zero, List.set_cons_succ]
    refine takeL (i := 3) (v := ?_) (List.getElem?_cons_succ.trans (List.getElem?_cons_succ.trans (List.getElem?_cons_succ.trans (List.getElem?_cons_zero)))) (by kernel_rfl) (by kernel_rfl) (by kernel_rfl) (fun _ _ _ h => h) (Or.inl ⟨by rfl, ?_⟩) (by assumption) ?_
    rotate_left
    · (intro w hSw; (try dsimp only at hSw); go_simp; try with_reducible rfl)
    try simp only [Act.put, List.setIfInBounds_toArray, List.set_cons_zero, List.set_cons_succ]
    refine takeL (i := 4) (v := ?_) (List.getElem?_cons_succ.trans (List.getElem?_cons_succ.trans (List.getElem?_cons_succ.trans (List.getElem?_cons_succ.trans (List.getElem?_cons_zero))))) (by kernel_rfl) (by kernel_rfl) (by kernel_rfl) (fun _ _ _ h => h) (Or.inl ⟨by rfl, ?_⟩) (by assumption) ?_
    rotate_left
    · (intro w hSw; (try dsimp only at hSw); go_simp; try with_reducible rfl)
    try simp only [Act.put, List.setIfInBounds_toArray, List.set_cons_zero, List.set_cons_succ]
    refine carryL (i := 2) (List.getElem?_cons_succ.trans (List.getElem?_cons_succ.trans (List.getElem?_cons_zero))) (by kernel_rfl) (by rfl) (fun K hK => ?_)
    go_simp
    refine hK _ _ hS0 (fun _ => ?_)
    clear hK K
    try simp only [Act.put, List.setIfInBounds_toArray, List.set_cons_zero, List.set_cons_succ]
    refine carryL (i := 5) (List.getElem?_cons_succ.trans (List.getElem?_cons_succ.trans (List.getElem?_cons_succ.trans (List.getElem?_cons_succ.trans (List.getElem?_cons_succ.trans (List.getElem?_cons_zero)))))) (by kernel_rfl) (by rfl) (fun K hK => ?_)
    go_simp
    refine (HDV.out _).mono ?_
    rintro e w' ⟨rfl, kd, rfl⟩
    have hS1 : (fun W' : World => W'.cell? ⟨w.heap.size, 0, none⟩ = some (u64 x) ∧ W'.cell? ⟨w.heap.size + 1, 0, none⟩ = some (.slice (some ⟨w.heap.size + 3, 0, none⟩) na na)) (W.drew.drewN kd) := ⟨c0, c1⟩
    refine hK _ _ hS1 (fun _ => ?_)
    clear hK K hS0
    try simp only [Act.put, List.setIfInBounds_toArray, List.set_cons_zero, List.set_cons_succ]
    refine takeL (i := 6) (v := ?_) (List.getElem?_cons_succ.trans (List.getElem?_cons_succ.trans (List.getElem?_cons_succ.trans (List.getElem?_cons_succ.trans (List.getElem?_cons_succ.trans (List.getElem?_cons_succ.trans (List.getElem?_cons_zero))))))) (by kernel_rfl) (by kernel_rfl) (by kernel_rfl) (fun _ _ _ h => h) (Or.inl ⟨by rfl, ?_⟩) (by assumption) ?_
    rotate_left
    · (intro w hSw; (try dsimp only at hSw); go_simp; try with_reducible rfl)
    try simp only [Act.put, List.setIfInBounds_toArray, List.set_cons_zero, List.set_cons_succ]
    refine takeL (i := 7) (v := ?_) (List.getElem?_cons_succ.trans (List.getElem?_cons_succ.trans (List.getElem?_cons_succ.trans (List.getElem?_cons_succ.trans (List.getElem?_cons_succ.trans (List.getElem?_cons_succ.trans (List.getElem?_cons_succ.trans (List.getElem?_cons_zero)))))))) (by kernel_rfl) (by kernel_rfl) (by kernel_rfl) (fun _ _ _ h => h) (Or.inl ⟨by rfl, ?_⟩) (by assumption) ?_
    rotate_left
    · (intro w hSw; (try dsimp only at hSw); go_simp; try with_reducible rfl)
    try simp only [Act.put, List.setIfInBounds_toArray, List.set_cons_zero, List.set_cons_succ]
    refine takeL (i := 8) (v := ?_) (List.getElem?_cons_succ.trans (List.getElem?_cons_succ.trans (List.getElem?_cons_succ.trans (List.getElem?_cons_succ.trans (List.getElem?_cons_succ.trans (List.getElem?_cons_succ.trans (List.getElem?_cons_succ.trans (List.getElem?_cons_succ.trans (List.getElem?_cons_zero))))))))) (by kernel_rfl) (by kernel_rfl) (by kernel_rfl) (fun _ _ _ h => h) (Or.inl ⟨by rfl, ?_⟩) (by assumption) ?_
    rotate_left
    · (intro w hSw; (try dsimp only at hSw); go_simp; try with_reducible rfl)
    try simp only [Act.put, List.setIfInBounds_toArray, List.set_cons_zero, List.set_cons_succ]
    refine takeL (i := 9) (v := ?_) (List.getElem?_cons_succ.trans (List.getElem?_cons_succ.trans (List.getElem?_cons_succ.trans (List.getElem?_cons_succ.trans (List.getElem?_cons_succ.trans (List.getElem?_cons_succ.trans (List.getElem?_cons_succ.trans (List.getElem?_cons_succ.trans (List.getElem?_cons_succ.trans (List.getElem?_cons_zero)))))))))) (by kernel_rfl) (by kernel_rfl) (by kernel_rfl) (fun _ _ _ h => h) (Or.inl ⟨by rfl, ?_⟩) (by assumption) ?_
    rotate_left
    · (intro w hSw; (try dsimp only at hSw); go_simp; try with_reducible rfl)
    try simp only [Act.put, List.setIfInBounds_toArray, List.set_cons_zero, List.set_cons_succ]
    refine carryL (i := 10) (List.getElem?_cons_succ.trans (List.getElem?_cons_succ.trans (List.getElem?_cons_succ.trans (List.getElem?_cons_succ.trans (List.getElem?_cons_succ.trans (List.getElem?_cons_succ.trans (List.getElem?_cons_succ.trans (List.getElem?_cons_succ.trans (List.getElem?_cons_succ.trans (List.getElem?_cons_succ.trans (List.getElem?_cons_zero))))))))))) (by kernel_rfl) (by rfl) (fun K hK => ?_)
    go_simp
    refine hK _ _ ?_ (fun hS2 => ?_)
    · exact ⟨cell_far (w := W.drew.drewN kd) c0 (by omega) _, cell_far (w := W.drew.drewN kd) c1 (by omega) _⟩
    clear hK K hS1
    try simp only [Act.put, List.setIfInBounds_toArray, List.set_cons_zero, List.set_cons_succ]
    refine carryL (i := 11) (List.getElem?_cons_succ.trans (List.getElem?_cons_succ.trans (List.getElem?_cons_succ.trans (List.getElem?_cons_succ.trans (List.getElem?_cons_succ.trans (List.getElem?_cons_succ.trans (List.getElem?_cons_succ.trans (List.getElem?_cons_succ.trans (List.getElem?_cons_succ.trans (List.getElem?_cons_succ.trans (List.getElem?_cons_succ.trans (List.getElem?_cons_zero)))))))))))) (by kernel_rfl) (by rfl) (fun K hK => ?_)
    go_simp
    obtain ⟨Wy, hWy⟩ : ∃ Wy, Wy = W.drewN (1 + kd) := ⟨_, rfl⟩
    have k1 : KeepsOthers W Wy := by rw [hWy]; exact ⟨Nat.le_refl _, fun _ _ h _ => h⟩
    have k2 : Below w.heap.size w Wy := by rw [hWy]; exact below_drewN H5.out _
    have k3 : Boxed Wy w.heap.size 36 (u64 x) := by rw [hWy]; exact H1.out
    have k4 : Boxed Wy (w.heap.size + 1) 23 (.slice (some ⟨w.heap.size + 3, 0, none⟩) na na) := by rw [hWy]; exact H2.out
    have k5 : Boxed Wy (w.heap.size + 2) 36 (u64 r) := by rw [hWy]; exact H3.out
    have k6 : RowL Wy (w.heap.size + 3) L := by rw [hWy]; exact H4.out
    have k7 : Wy.heap = W.heap := by rw [hWy]; rfl
    rw [← hWy] at hS2 ⊢
    clear hWy
    refine hK _ _ ⟨cell_far hS2.1 (by omega) _, cell_far hS2.2 (by omega) _⟩ (fun _ => wpAnyH_done (by kernel_rfl) ?_ _)
    clear hK K hS2
    have hz : KeepsOf (fun k => k < w.heap.size ∨ k = w.heap.size + 4) W ((Wy.setCell ⟨w.heap.size + 3, j, none⟩ (u64 d)).setCell ⟨w.heap.size + 1 + 1, 0, none⟩ (u64 m)) := by
      refine ⟨by simp [World.setCell, k7], fun k hk => ?_⟩
      rw [Below.heap_setCell _ _ _ _ (by show k ≠ w.heap.size + 1 + 1; omega), Below.heap_setCell _ _ _ _ (by show k ≠ w.heap.size + 3; omega), k7]
    refine ⟨((k1.trans (KeepsOthers.setCell _ _ _)).trans (KeepsOthers.setCell _ _ _)).from _, ⟨hz, has_keeps hz (fun h b0 off e => .inl (HLT.out h b0 off e))⟩, ?_⟩
    unfold WdI
    rw [HSN.out]
    refine ⟨(boxed_far k3 (by omega) _ _).other (by omega) _, (boxed_far k4 (by omega) _ _).other (by omega) _, (boxed_far k5 (by omega) _ _).set _, ?_, ?_, ?_⟩
    · exact (k6.set j d).far (p := ⟨w.heap.size + 1 + 1, 0, none⟩) (by show w.heap.size + 3 ≠ w.heap.size + 1 + 1; omega) _
    · exact (k2.setCell (p := ⟨w.heap.size + 3, j, none⟩) (by show w.heap.size ≤ w.heap.size + 3; omega) _).setCell (p := ⟨w.heap.size + 1 + 1, 0, none⟩) (by show w.heap.size ≤ w.heap.size + 1 + 1; omega) _
    · simp only [World.size_setCell, k7]
      exact hsz
  case done =>
    rintro D ys W hD hys ⟨hx0', hq, hr, hrow, hB, hsz⟩ hK
    obtain ⟨f1, f2⟩ := wfold_all HRA.out.words HRA.out.len hx0 hys
    obtain ⟨o1, o2, o3⟩ := wfold_ok hx0 HVB.out ys
    generalize (wfold na x ys).1 = L at *
    generalize (wfold na x ys).2 = r at *
    have c1 := hq.cell
    have f1' := hq.frozen
    have c2 := hr.cell
    have f2' := hr.frozen
    have hown := hrow.own (B := w.heap.size) (n := na) (by omega) o2 o1 (by simp only [maxLen]; omega)
    have hrd := hown.rd.1
    have HRD := Lib.hid hrd
    have HOWN := Lib.hid hown
    have H1 := Lib.hid hq; have H2 := Lib.hid hr; have H5 := Lib.hid hB
    have HF1 := Lib.hid f1; have HF2 := Lib.hid f2
    have HKK := Lib.hid hK
    clear hq hr hrow hB hown hrd f1 f2 o1 o2 o3 hK hys hx0'
    gi_wp2
    gi_region_with (refine ⟨trivial, ?_⟩; gi_at_call 132; refine (callsIn_wide.2 (trimD_val (some ⟨w.heap.size + 3, 0, none⟩) na na L _ (HRD.out.below (Below.refl _ _).drew) (Nat.le_refl _) (by omega))).mono ?_; rintro e w' ⟨rfl, rfl⟩)
    all_goals
      gi_wp2
      have hD5 : w.heap.size + 5 ≤ D := by have := HSE.out; omega
      have hV2 := (H1.out.set (.slice (some ⟨w.heap.size + 3, 0, none⟩) (limbs (val L)).length na)).other (B' := w.heap.size + 1 + 1) (by omega) (u64 r)
      have hO2 := (H2.out.other (B' := w.heap.size + 1) (by omega) (.slice (some ⟨w.heap.size + 3, 0, none⟩) (limbs (val L)).length na)).set (u64 r)
      have hR2 : Own ((W.setCell ⟨w.heap.size + 1, 0, none⟩ (.slice (some ⟨w.heap.size + 3, 0, none⟩) (limbs (val L)).length na)).setCell ⟨w.heap.size + 1 + 1, 0, none⟩ (u64 r)) w.heap.size (.slice (some ⟨w.heap.size + 3, 0, none⟩) na na) L :=
        own_keepsOf (S := fun k => k = w.heap.size + 3) HOWN.out ⟨by simp [World.setCell], fun k hk => by
          rw [Below.heap_setCell _ _ _ _ (by show k ≠ w.heap.size + 1 + 1; omega), Below.heap_setCell _ _ _ _ (by show k ≠ w.heap.size + 1; omega)]⟩ (fun k e => by cases e; rfl)
      have hBe2 := (H5.out.setCell (p := ⟨w.heap.size + 1, 0, none⟩) (by simp) (.slice (some ⟨w.heap.size + 3, 0, none⟩) (limbs (val L)).length na)).setCell (p := ⟨w.heap.size + 1 + 1, 0, none⟩) (by simp; omega) (u64 r)
      have hK2 := ((KeepsOthers.setCell W ⟨w.heap.size + 1, 0, none⟩ (.slice (some ⟨w.heap.size + 3, 0, none⟩) (limbs (val L)).length na)).trans (KeepsOthers.setCell _ ⟨w.heap.size + 1 + 1, 0, none⟩ (u64 r))).same D _ HKK.out rfl
      have hsz2 : w.heap.size + 5 ≤ ((W.setCell ⟨w.heap.size + 1, 0, none⟩ (.slice (some ⟨w.heap.size + 3, 0, none⟩) (limbs (val L)).length na)).setCell ⟨w.heap.size + 1 + 1, 0, none⟩ (u64 r)).heap.size := by simpa [World.setCell] using hsz
      generalize ((W.setCell ⟨w.heap.size + 1, 0, none⟩ (.slice (some ⟨w.heap.size + 3, 0, none⟩) (limbs (val L)).length na)).setCell ⟨w.heap.size + 1 + 1, 0, none⟩ (u64 r)) = W2 at *
      refine marks_leave (n0 := w.heap.size + 5) (hi := D + 1) ⟨D, rfl, hD5, by omega, hK2, trivial⟩ fun W' hb => ?_
      have hV3 : Boxed W' (w.heap.size + 1) _ _ := (hb.block _ (by omega)).trans hV2
      have hO3 : Boxed W' (w.heap.size + 1 + 1) _ _ := (hb.block _ (by omega)).trans hO2
      have hR3 : Own W' w.heap.size (.slice (some ⟨w.heap.size + 3, 0, none⟩) na na) L := own_keepsOf (S := fun k => k = w.heap.size + 3) hR2 ⟨hb.size, fun k hk => hb.block k (by omega)⟩ (fun k e => by cases e; rfl)
      have hln : (limbs (val L)).length ≤ na := by have := length_of_le hR3.2 (Nat.le_refl (val L)); have := hR3.rd.2.1; omega
      have hR4 := own_trim hR3 hln
      rw [take_own hR3.2, HF1.out] at hR4
      have c4 := hV3.cell
      have c5 := hO3.cell
      rw [HF1.out] at c4
      refine ⟨.tuple #[.slice (some ⟨w.heap.size + 3, 0, none⟩) (limbs (val a / x)).length na, u64 r], by simp [results, Tryz.results109, go_sem, c4, c5], _, _, _, by rw [← HF2.out], hR4, hBe2.trans ((show Below w.heap.size W2 W2.drew from (Below.refl _ _).drew).trans (hb.mono (by omega)))⟩
end Go.Proofs.YtgiokmfdafmaoaaGreat
