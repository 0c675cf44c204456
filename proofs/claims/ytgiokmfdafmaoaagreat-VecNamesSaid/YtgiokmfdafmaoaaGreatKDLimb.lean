import Derived.Test.YtgiokmfdafmaoaaGreatKDLow
import Derived.Scope
import Derived.Test.YtgiokmfdafmaoaaGreatKSame
/- DLimb. -/
/- (div.divisor).limb: a limb of the quotient, corrected; what it makes is taken away. -/
namespace Go.Proofs.YtgiokmfdafmaoaaGreat
open Go.RowKit Go.Shelf
attribute [local go_sem] Oper.semAt_some
set_option linter.unusedVariables false
set_option linter.unusedSimpArgs false

section
variable {F : Fence} {n : Nat} {P : Program} {Q : Exit → Act → World → Prop} {b : Frame} {a : Act} {k : List Item} {cs : List Frame} {w : World}
theorem stepR_scope {c : Code} : step P (lone (b.atR a (.code (.scope c) :: k)) cs w) = .next (lone (b.atR a (.code c :: .inScope c :: k)) cs w) :=
  step_lone_go (by simp [stepG, stepG.exec, Frame.atR])
theorem stepR_inScope {c : Code} : step P (lone (b.atR a (.inScope c :: k)) cs w) = .next (lone (b.atR a k) cs w) :=
  step_lone_go (by simp [stepG, stepG.exec, Frame.atR])
/-- A scope through which the run goes without a goto, in a fence. -/
theorem wpIn_scope {c : Code} (h : c.wpIn F n P (Exit.noGoto Q) a w) : (Code.scope c).wpIn F n P Q a w := by
  intro b k cs hro hb hr
  have h0 : (lone (b.atR a (.code (.scope c) :: k)) cs w).fenced P F := fenced_calm hb hr rfl
  obtain ⟨e, a₁, w₁, hq, harr⟩ := h b (.inScope c :: k) cs hro hb hr
  cases e with
  | normal => exact ⟨.normal, a₁, w₁, hq, .head h0 stepR_scope (StepsIn.trans harr (.one (fenced_calm hb hr rfl) stepR_inScope))⟩
  | exit id =>
    have hx : exitTo id (.inScope c :: k) = exitTo id k := by simp [exitTo]
    exact ⟨_, a₁, w₁, hq, fun k' hk => .head h0 stepR_scope (harr.1 k' (by rw [hx]; exact hk)),
      fun hr' hk => let ⟨k₁, h1, h2⟩ := harr.2 hr' (by rw [hx]; exact hk); ⟨k₁, h1, .head h0 stepR_scope h2⟩⟩
  | goto l => exact hq.elim
  | ret => exact ⟨_, a₁, w₁, hq, .of_steps (.one h0 stepR_scope) harr⟩
  | panic ch => exact ⟨_, a₁, w₁, hq, .of_steps (.one h0 stepR_scope) harr⟩
  | outgrown => exact ⟨_, a₁, w₁, hq, .of_steps (.one h0 stepR_scope) harr⟩
end

/-! ### Marks of loops that have been gone through -/
def Marks (n0 : Nat) : Nat → List Deferred → World → Prop
  | _, [], _ => True
  | hi, d :: ds, W => ∃ D, d = { target := .collected D, args := #[] } ∧ n0 ≤ D ∧ D < hi ∧ W.heap[D]? = some (.deferred (some [])) ∧ Marks n0 D ds W
theorem Marks.keep {n0 : Nat} {ds : List Deferred} : ∀ {hi hi' : Nat} {W W' : World}, Marks n0 hi ds W → hi ≤ hi' → (∀ k, n0 ≤ k → k < hi → W'.heap[k]? = W.heap[k]?) → Marks n0 hi' ds W' := by
  induction ds with
  | nil => intros; trivial
  | cons d ds ih =>
    rintro hi hi' W W' ⟨D, rfl, h0, h1, hD, hr⟩ hle hk
    exact ⟨D, rfl, h0, by omega, (hk D h0 h1).trans hD, ih hr (Nat.le_refl _) fun k h2 h3 => hk k h2 (by omega)⟩
theorem marks_leave {P : Program} {F : Fence} {n : Nat} {fn : Func} {tmps : Array Value} {R : Ending → World → Prop} {n0 : Nat} {ds : List Deferred} : ∀ {hi : Nat} {W : World}, Marks n0 hi ds W →
    (∀ W', Below n0 W W' → ∃ v, (results fn tmps).run P W' = .ok v W' ∧ R (.returned v) W') → LeavesInM F n P fn tmps R ds .returning W := by
  induction ds with
  | nil =>
    intro hi W _ h
    exact h W (Below.refl _ _)
  | cons d ds ih =>
    rintro hi W ⟨D, rfl, h0, h1, hD, hr⟩ h
    refine ⟨by simp, .inl ⟨_, _, rfl, run_takeDeferred hD, ?_⟩⟩
    have hb : Below n0 W (W.putObj D (.deferred none)) := (Below.refl 0 W |>.mono (Nat.le_refl _)) |> fun _ => ⟨rfl, rfl, rfl, by simp, fun k hk => World.putObj_heap_other (by omega)⟩
    refine ih (hi := D) (hr.keep (Nat.le_refl _) fun k h2 h3 => World.putObj_heap_other (by omega)) fun W' hW => ?_
    exact h W' (hb.trans hW)

/-! ### Predicates that look below a block alone -/
theorem ownFrom_low {β : Type} {n0 B : Nat} {I : β → World → Prop} (hB : n0 ≤ B) (h1 : ∀ s W, I s W → n0 ≤ W.heap.size) (h2 : ∀ s W W', I s W → Below n0 W W' → I s W') : OwnFrom B I :=
  fun s W W' row hs hg hr => h2 s W W' hs ((Below.refl n0 W).grown hg (h1 s W hs) (fun k e => Nat.le_trans hB (hr k e).1))

/-- Nothing of what there was has turned but two blocks. -/
structure Only2 (g h : Nat) (w w' : World) : Prop where
  below : Below 0 w w'
  keep : ∀ k, k < w.heap.size → k ≠ g → k ≠ h → w'.heap[k]? = w.heap[k]?
section
variable {g h : Nat} {w w' w2 : World}
theorem Only2.refl (g h : Nat) (w : World) : Only2 g h w w := ⟨Below.refl _ _, fun _ _ _ _ => rfl⟩
theorem Only2.trans (a : Only2 g h w w') (k : Only2 g h w' w2) : Only2 g h w w2 := ⟨a.below.trans k.below, fun i hi hg hh => (k.keep i (Nat.lt_of_lt_of_le hi a.below.size) hg hh).trans (a.keep i hi hg hh)⟩
theorem Only.left (a : Only g w w') (h : Nat) : Only2 g h w w' := ⟨a.below, fun k hk hg _ => a.keep k hk hg⟩
theorem Only.right (a : Only h w w') (g : Nat) : Only2 g h w w' := ⟨a.below, fun k hk _ hh => a.keep k hk hh⟩
theorem Only2.of_below (hb : Below w.heap.size w w') : Only2 g h w w' := ⟨hb.mono (Nat.zero_le _), fun k hk _ _ => hb.block k hk⟩
theorem Only2.cell (a : Only2 g h w w') {p : Addr} (hp : p.block < w.heap.size) (h1 : p.block ≠ g) (h2 : p.block ≠ h) : w'.cell? p = w.cell? p := World.cell?_of_block (w := w) (a.keep p.block hp h1 h2)
theorem Only2.row (a : Only2 g h w w') {k : Nat} {l : List Nat} (hr : RowL w k l) (h1 : k ≠ g) (h2 : k ≠ h) : RowL w' k l := (a.keep k hr.lt h1 h2).trans hr
theorem Only2.rd (a : Only2 g h w w') {A : Option Addr} {n : Nat} {l : List Nat} (hr : Rd w A n l) (hA : 0 < n → ∀ b off, A = some ⟨b, off, none⟩ → b ≠ g ∧ b ≠ h) : Rd w' A n l :=
  ⟨hr.len, hr.words, fun hn => by
    obtain ⟨b, off, e, hlt, hc⟩ := hr.cells hn
    refine ⟨b, off, e, Nat.lt_of_lt_of_le hlt a.below.size, fun i hi => ?_⟩
    exact (a.cell (p := ⟨b, off + i, none⟩) hlt (hA hn b off e).1 (hA hn b off e).2).trans (hc i hi)⟩
theorem Only2.box (a : Only2 g h w w') {k : Nat} {o : Obj} (hk : w.heap[k]? = some o) (h1 : k ≠ g) (h2 : k ≠ h) : w'.heap[k]? = some o := (a.keep k (Array.getElem?_eq_some_iff.1 hk).1 h1 h2).trans hk
theorem Only2.to (a : Only2 g h w w') {B : Nat} (h1 : B ≤ g) (h2 : B ≤ h) (hB : B ≤ w.heap.size) : Below B w w' := ⟨a.below.os, a.below.tape, a.below.output, a.below.size, fun k hk => a.keep k (by omega) (by omega) (by omega)⟩
end

/-! ### Which of two lists is greater -/
theorem val_gt {M T : List Nat} (hM : Words M) (hT : Words T) (hl : M.length = T.length) {j : Nat} (hj : j < T.length) (he : ∀ k, j < k → k < T.length → lim M k = lim T k) (h : lim T j < lim M j) : val T < val M := by
  have e : M.drop (j + 1) = T.drop (j + 1) := by
    refine eq_of_lim (by simp [hl]) fun i hi => ?_
    have := he (j + 1 + i) (by omega) (by simp at hi; omega)
    simpa [lim, List.getD_eq_getElem?_getD, List.getElem?_drop] using this
  rw [val_split' M (j + 1), val_split' T (j + 1), e, val_take_succ, val_take_succ]
  have h1 : val (T.take j) < B64 ^ j := Nat.lt_of_lt_of_le (val_lt (hT.take j)) (Nat.pow_le_pow_right B64_pos (by rw [List.length_take]; omega))
  have h2 : B64 ^ j * (lim T j + 1) ≤ B64 ^ j * lim M j := Nat.mul_le_mul_left _ h
  rw [Nat.mul_add] at h2
  omega
theorem val_ne_zero {M : List Nat} (hM : Words M) {j : Nat} (h : lim M j ≠ 0) : val M ≠ 0 := fun e => h (by rw [lim_val hM, e]; simp)

theorem RowL.mid {w : World} {g i n : Nat} {P T R : List Nat} (h : RowL w g (P ++ T ++ R)) (hP : P.length = i) (hT : T.length = n) (hw : Words T) : Rd w (some ⟨g, i, none⟩) n T :=
  ⟨hT, hw, fun _ => ⟨g, i, rfl, h.lt, fun j hj => by
    rw [← lim_mid (R := R) hP (by omega)]
    exact h.cell (by simp; omega)⟩⟩
/-- A block of cells. -/
theorem cells_cell {w : World} {k j : Nat} {xs : Array Value} {t : TypeId} {v : Value} (h : w.heap[k]? = some (.cells xs t)) (hv : xs[j]? = some v) : w.cell? ⟨k, j, none⟩ = some v := by
  simp [World.cell?, h, hv]
theorem cells_frozen {w : World} {k j : Nat} {xs : Array Value} {t : TypeId} (h : w.heap[k]? = some (.cells xs t)) : w.frozen? ⟨k, j, none⟩ = false := by
  simp [World.frozen?, h]

/-! ### The guess -/
theorem val_top {b : List Nat} {n : Nat} (hw : Words b) (hl : b.length = n + 1) (hz : lim b n = 0) : val b = val (b.take n) ∧ val b < B64 ^ n := by
  have e := val_take_succ b n
  rw [val_take_all (by omega), hz, Nat.mul_zero, Nat.add_zero] at e
  refine ⟨e, ?_⟩
  rw [e]
  exact Nat.lt_of_lt_of_le (val_lt (hw.take n)) (Nat.pow_le_pow_right B64_pos (by rw [List.length_take]; omega))
theorem guess_ok {b T : List Nat} {n : Nat} (hwb : Words b) (hwT : Words T) (hlb : b.length = n + 2) (hlT : T.length = n + 2) (hz : lim b (n + 1) = 0) (h0 : 0 < val b) :
    (val T < val b * B64 → val T / val b ≤ guessN (lim T (n + 1)) (lim T n) (lim b n)) ∧ guessN (lim T (n + 1)) (lim T n) (lim b n) < B64 := by
  have hq : val T < val b * B64 → val T / val b < B64 := fun hlt => by rw [Nat.div_lt_iff_lt_mul h0, Nat.mul_comm]; exact hlt
  have hlo := hwT.get n
  unfold guessN
  split
  · rw [B64_eq] at *
    exact ⟨fun h => by have := hq h; omega, by omega⟩
  · rename_i hy
    have hb1 := (val_top (n := n + 1) hwb (by omega) hz).1
    rw [val_take_succ] at hb1
    have hT1 := val_take_succ T (n + 1)
    rw [val_take_all (by omega), val_take_succ] at hT1
    have hT2 : val (T.take n) < B64 ^ n := Nat.lt_of_lt_of_le (val_lt (hwT.take n)) (Nat.pow_le_pow_right B64_pos (by rw [List.length_take]; omega))
    have hp : 0 < B64 ^ n := Nat.pow_pos B64_pos
    generalize lim T (n + 1) = hi at *
    generalize lim T n = lo at *
    generalize lim b n = y at *
    constructor
    · intro _
      rw [Nat.le_div_iff_mul_le (by omega)]
      have e1 := Nat.div_mul_le_self (val T) (val b)
      generalize val T / val b = q at *
      have e2 : q * (B64 ^ n * y) ≤ q * val b := Nat.mul_le_mul_left _ (by rw [hb1]; omega)
      have e3 : B64 ^ n * (q * y) < B64 ^ n * (hi * B64 + lo + 1) := by
        rw [Nat.mul_left_comm, Nat.mul_add, Nat.mul_add]
        rw [show B64 ^ (n + 1) = B64 ^ n * B64 from Nat.pow_succ .., Nat.mul_assoc, Nat.mul_comm B64 hi] at hT1
        omega
      have := Nat.lt_of_mul_lt_mul_left e3
      omega
    · rw [Nat.div_lt_iff_lt_mul (by omega)]
      have := Nat.mul_le_mul_right B64 (show hi + 1 ≤ y by omega)
      rw [Nat.add_mul, Nat.mul_comm y] at this
      omega
theorem times_fits {b M : List Nat} {n g over : Nat} (hwb : Words b) (hlb : b.length = n + 2) (hz : lim b (n + 1) = 0) (hg : g < B64) (h : val M + B64 ^ (n + 2) * over = g * val b) : over = 0 := by
  have hb := (val_top (n := n + 1) hwb (by omega) hz).2
  have e : g * val b < B64 ^ (n + 2) := by
    rw [show B64 ^ (n + 2) = B64 * B64 ^ (n + 1) from by rw [Nat.mul_comm]; rfl]
    exact Nat.mul_lt_mul_of_lt_of_lt hg hb
  rcases Nat.eq_zero_or_pos over with h0 | h0
  · exact h0
  · have := Nat.mul_le_mul_left (B64 ^ (n + 2)) h0
    omega
/-! ### What the rounds have seen -/
theorem mem_downs {m k j : Nat} (h : j < m) (hk : m - 1 - j < k) : j ∈ downs m k := by
  unfold downs
  rw [List.mem_map]
  exact ⟨m - 1 - j, by simpa using hk, by omega⟩
theorem seen_above {nb k : Nat} {M T : List Nat} {pre : List (BkI nb (fun j v => v = lim M j))} {x : BkI nb (fun j v => v = lim M j)} (hp : places (pre ++ [x]) = downs nb k) (h : ∀ y ∈ pre, y.1.2 = lim T y.1.1) :
    ∀ j, x.1.1 < j → j < nb → lim M j = lim T j := by
  intro j h1 h2
  have hk : k = pre.length + 1 := by have := congrArg List.length hp; rw [places_length, downs_length] at this; simpa using this.symm
  subst hk
  rw [places_snoc, downs_succ] at hp
  obtain ⟨e1, e2⟩ := List.append_inj hp (by rw [places_length, downs_length])
  have e3 : x.1.1 = nb - 1 - pre.length := by simpa using e2
  have hm : j ∈ places pre := by rw [e1]; exact mem_downs h2 (by omega)
  unfold places at hm
  obtain ⟨y, hy, e⟩ := List.mem_map.1 hm
  have := h y hy
  rw [← e, ← this]
  exact y.2.2.symm
theorem seen_all {nb : Nat} {M T : List Nat} {pre : List (BkI nb (fun j v => v = lim M j))} (hp : places pre = downs nb nb) (h : ∀ y ∈ pre, y.1.2 = lim T y.1.1) (hM : M.length = nb) (hT : T.length = nb) : M = T := by
  refine eq_of_lim (by omega) fun j hj => ?_
  have hm : j ∈ places pre := by rw [hp]; exact mem_downs (by omega) (by omega)
  unfold places at hm
  obtain ⟨y, hy, e⟩ := List.mem_map.1 hm
  have := h y hy
  rw [← e, ← this]
  exact y.2.2.symm

theorem limb_end {T T2 b M : List Nat} {nb q s : Nat} (hv : val T2 + val M = val T + B64 ^ nb * s) (hs : s ≤ 1) (hm : val M = q * val b) (hle : val M ≤ val T) (hq : val T < val b * B64 → val T / val b ≤ q) (h0 : 0 < val b) (hT : T.length = nb) (hw : Words T2) (hT2 : T2.length = nb) :
    val T2 + q * val b = val T ∧ (val T < val b * B64 → q = val T / val b) := by
  have h1 := val_lt hw
  rw [hT2] at h1
  have hs0 : s = 0 := by
    rcases Nat.le_one_iff_eq_zero_or_eq_one.1 hs with h | h
    · exact h
    · subst h; omega
  subst hs0
  rw [Nat.mul_zero, Nat.add_zero, hm] at hv
  exact ⟨hv, fun h => Nat.le_antisymm (by rw [Nat.le_div_iff_mul_le h0, ← hm]; exact hle) (hq h)⟩
/-- How it stands ahead of a round of the correction: the guess q, and q times what is divided by. -/
structure LSt (w : World) (AB : Option Addr) (nb cb gm cm gb : Nat) (L : Value) (b : List Nat) (q : Nat) (M : List Nat) (W : World) : Prop where
  x0 : W.heap[w.heap.size]? = some (.cells #[.slice AB nb cb, .slice (some ⟨gm, 0, none⟩) nb cm] 150)
  x1 : W.heap[w.heap.size + 1]? = some (.cells #[L] 22)
  bx : W.heap[gb]? = some (.cells #[u64 q] 36)
  rm : RowL W gm M
  len : M.length = nb
  wm : Words M
  qlt : q < B64
  vm : val M = q * val b
  only : Only gm w W
theorem LSt.low {w : World} {AB : Option Addr} {nb cb gm cm gb q : Nat} {L : Value} {b M : List Nat} {W : World} (h : LSt w AB nb cb gm cm gb L b q M W) : gb < W.heap.size := (Array.getElem?_eq_some_iff.1 h.bx).1
theorem LSt.below {w : World} {AB : Option Addr} {nb cb gm cm gb q : Nat} {L : Value} {b M : List Nat} {W W' : World} (h : LSt w AB nb cb gm cm gb L b q M W) (hw : w.heap.size + 1 < gb) (hg : gm < w.heap.size) {n0 : Nat} (hn : gb < n0) (hb : Below n0 W W') : LSt w AB nb cb gm cm gb L b q M W' :=
  ⟨(hb.block _ (by omega)).trans h.x0, (hb.block _ (by omega)).trans h.x1, (hb.block _ hn).trans h.bx, h.rm.below hb (by omega), h.len, h.wm, h.qlt, h.vm, h.only.below.trans (hb.mono (Nat.zero_le _)), fun k hk hg => (hb.block k (by omega)).trans (h.only.keep k hk hg)⟩

theorem limb_less {M M4 b : List Nat} {nb q s : Nat} (hv : val M4 + val b = val M + B64 ^ nb * s) (hs : s ≤ 1) (hm : val M = q * val b) (hq : 0 < q) (hw : Words M) (hl : M.length = nb) (hw4 : Words M4) (hl4 : M4.length = nb) :
    s = 0 ∧ val M4 = (q - 1) * val b := by
  obtain ⟨k, rfl⟩ : ∃ k, q = k + 1 := ⟨q - 1, by omega⟩
  have h1 := val_lt hw4
  rw [hl4] at h1
  rw [Nat.add_mul, Nat.one_mul] at hm
  rw [Nat.add_sub_cancel]
  rcases Nat.le_one_iff_eq_zero_or_eq_one.1 hs with h | h
  · subst h; exact ⟨rfl, by omega⟩
  · subst h; omega
/-- What the rounds of the comparison hand on: so far all are the same. -/
def LmI (nb : Nat) (M T : List Nat) (WE : World) (pre : List (BkI nb (fun j v => v = lim M j))) (Wx : World) : Prop := (∀ x ∈ pre, x.1.2 = lim T x.1.1) ∧ Below WE.heap.size WE Wx
/-- A round has parted the two: the guess is less by 1, or it is right. -/
def LmX (nb : Nat) (M T : List Nat) (WE : World) (gb : Nat) (ds : List Deferred) (Ls : Nat → List Nat → World → Prop) (q : Nat) (c : Code) (pre : List (BkI nb (fun j v => v = lim M j))) (Wx : World) : Prop :=
  WE.heap.size ≤ Wx.heap.size ∧ ∃ (pre' : List (BkI nb (fun j v => v = lim M j))) (x : BkI nb (fun j v => v = lim M j)), pre = pre' ++ [x] ∧ (∀ y ∈ pre', y.1.2 = lim T y.1.1) ∧
        ((c = .exit 1 ∧ lim T x.1.1 < x.1.2 ∧ Marks (gb + 1) WE.heap.size ds Wx ∧ ∃ M4, Ls (q - 1) M4 Wx) ∨
         (c = .exit 0 ∧ x.1.2 < lim T x.1.1 ∧ Below WE.heap.size WE Wx))

set_option maxRecDepth 100000 in
set_option maxHeartbeats 4000000 in
theorem limbD_any (AB : Option Addr) (nb cb gm cm gl i C : Nat) (b M P T R : List Nat) (w : World) (hrb : Rd w AB nb b) (hAB : ∀ b0 off, AB = some ⟨b0, off, none⟩ → b0 ≠ gm) (hrm : RowL w gm M) (hM : M.length = nb) (hwM : Words M) (hgl : gm ≠ gl)
    (hrow : RowL w gl (P ++ T ++ R)) (hP : P.length = i) (hT : T.length = nb) (hwT : Words T) (h2 : 2 ≤ nb) (hn : nb ≤ 1000000) (hz : lim b (nb - 1) = 0) (h0 : 0 < val b) :
    Calls Tryz.prog 140 #[dvs AB nb cb gm cm, .slice (some ⟨gl, i, none⟩) nb C] w fun e w' => ∃ T2 M2 q, e = .returned (u64 q) ∧ q < B64 ∧ RowL w' gl (P ++ T2 ++ R) ∧ T2.length = nb ∧ Words T2 ∧ val T2 + q * val b = val T ∧ (val T < val b * B64 → q = val T / val b) ∧ RowL w' gm M2 ∧ M2.length = nb ∧ Words M2 ∧ Only2 gm gl w w' := by
  refine (callsIn_wide (n := 8)).1 ?_
  refine callsIn_of_wp_marks Tryz.func140 rfl trivial ?_ rfl
  simp only [Tryz.ntmps140, List.size_toArray, List.length_cons, List.length_nil, Nat.reduceAdd, Nat.reduceSub, Array.replicate_succ, Array.replicate_zero, List.push_toArray, List.append_toArray, List.nil_append, List.cons_append]
  unfold dvs
  have HRB := Lib.hid hrb
  have HAB := Lib.hid hAB
  have HRM := Lib.hid hrm
  have HM := Lib.hid hM
  have HROW := Lib.hid hrow
  have HP := Lib.hid hP
  have HT := Lib.hid hT
  have HZ := Lib.hid hz
  have HWM := Lib.hid hwM
  have HWT := Lib.hid hwT
  have hRT := hrow.mid hP hT hwT
  have HRT := Lib.hid hRT
  have hglt := hrow.lt
  have HGL := Lib.hid hglt
  clear hrb hAB hrm hM hrow hP hT hz hwM hwT hRT hglt
  gi_wp2
  refine wpIn_scope ?_
  gi_wp2_with fail
  obtain ⟨w2, hw2⟩ : ∃ w2, w2 = ((w.alloc (.cells #[.slice AB nb cb, .slice (some ⟨gm, 0, none⟩) nb cm] 150)).alloc (.cells #[.slice (some ⟨gl, i, none⟩) nb C] 22)) := ⟨_, rfl⟩
  have b2 : Below w.heap.size w w2 := by rw [hw2]; exact ((Below.refl _ w).alloc (Nat.le_refl _) _).alloc (by simp) _
  have s2 : w2.heap.size = w.heap.size + 1 + 1 := by rw [hw2]; simp
  have x0 : w2.heap[w.heap.size]? = some (.cells #[.slice AB nb cb, .slice (some ⟨gm, 0, none⟩) nb cm] 150) := by
    rw [hw2]; exact (Below.heap_alloc _ _ _ (by simp)).trans (World.alloc_heap_new w _)
  have x1 : w2.heap[w.heap.size + 1]? = some (.cells #[.slice (some ⟨gl, i, none⟩) nb C] 22) := by
    rw [hw2]; have := World.alloc_heap_new (w.alloc (.cells #[.slice AB nb cb, .slice (some ⟨gm, 0, none⟩) nb cm] 150)) (.cells #[.slice (some ⟨gl, i, none⟩) nb C] 22); rwa [World.size_alloc] at this
  rw [← hw2]
  clear hw2
  refine ⟨trivial, (callsIn_wide.2 (guess_any AB (some ⟨gl, i, none⟩) nb cb gm cm C b T w2 (HRB.out.below b2) (HRT.out.below b2) h2 (by omega))).mono ?_⟩
  rintro e w3 ⟨rfl, b3⟩
  obtain ⟨n2, hn2⟩ : ∃ n2, nb = n2 + 2 := ⟨nb - 2, by omega⟩
  obtain ⟨hg1, hg2⟩ : (val T < val b * B64 → val T / val b ≤ guessN (lim T (nb - 1)) (lim T (nb - 2)) (lim b (nb - 2))) ∧ guessN (lim T (nb - 1)) (lim T (nb - 2)) (lim b (nb - 2)) < B64 := by
    have := guess_ok (n := n2) HRB.out.words HWT.out (by rw [HRB.out.len]; exact hn2) (by rw [HT.out]; exact hn2) (by have := HZ.out; rw [hn2] at this; exact this) h0
    rw [hn2]
    exact this
  have HN2 := Lib.hid hn2
  clear hn2
  generalize guessN (lim T (nb - 1)) (lim T (nb - 2)) (lim b (nb - 2)) = g at *
  have s3 := b3.size
  have y0 := (b3.block w.heap.size (by omega)).trans x0
  have y1 := (b3.block (w.heap.size + 1) (by omega)).trans x1
  have z0 := (Below.heap_alloc w3 (.cells #[.int .u64 (g : Int)] 36) w.heap.size (by omega)).trans y0
  have z1 := (Below.heap_alloc w3 (.cells #[.int .u64 (g : Int)] 36) (w.heap.size + 1) (by omega)).trans y1
  have z2 := World.alloc_heap_new w3 (.cells #[.int .u64 (g : Int)] 36)
  have c00 : (w3.alloc (.cells #[.int .u64 (g : Int)] 36)).cell? ⟨w.heap.size, 0, none⟩ = some (.slice AB nb cb) := cells_cell z0 rfl
  have c01 : (w3.alloc (.cells #[.int .u64 (g : Int)] 36)).cell? ⟨w.heap.size, 1, none⟩ = some (.slice (some ⟨gm, 0, none⟩) nb cm) := cells_cell z0 rfl
  have s4 : (w3.alloc (.cells #[.int .u64 (g : Int)] 36)).heap.size = w3.heap.size + 1 := by simp
  have b4 : Below w.heap.size w (w3.alloc (.cells #[.int .u64 (g : Int)] 36)) := (b2.trans (b3.mono (by omega))).alloc (by omega) _
  have HG1 := Lib.hid hg1
  have HG2 := Lib.hid hg2
  clear hg1 hg2 x0 x1 y0 y1
  gi_wp2_with fail
  clear c00 c01
  generalize w3.alloc (.cells #[.int .u64 (g : Int)] 36) = w4 at *
  obtain ⟨gb, hgb⟩ : ∃ gb, w3.heap.size = gb := ⟨_, rfl⟩
  rw [hgb] at z2 s4 s3 ⊢
  clear b2 b3 hgb
  refine ⟨trivial, (callsIn_wide.2 (timesD_any AB nb cb gm cm g b M w4 (HRM.out.below b4 HRM.out.lt) HM.out (by omega) HWM.out HG2.out (HRB.out.below b4) (fun _ b0 off e => by have := HAB.out b0 off e; omega))).mono ?_⟩
  rintro e w5 ⟨v, M2, over, rfl, hrm5, hM5, hwM5, hval5, hO5⟩
  have hov : over = 0 := times_fits (n := n2) HRB.out.words (by rw [HRB.out.len]; exact HN2.out) (by have := HZ.out; rw [HN2.out] at this; exact this) HG2.out (by have := hval5; rw [HN2.out] at this; exact this)
  subst hov
  rw [Nat.mul_zero, Nat.add_zero] at hval5
  have hgmw : gm < w.heap.size := HRM.out.lt
  have hgm0 : gm ≠ w.heap.size := by omega
  have l0 := (Array.getElem?_eq_some_iff.1 z0).1
  have l1 := (Array.getElem?_eq_some_iff.1 z1).1
  have l2 := (Array.getElem?_eq_some_iff.1 z2).1
  have hw : w.heap.size + 1 < gb := by omega
  have hLS : LSt w AB nb cb gm cm gb (.slice (some ⟨gl, i, none⟩) nb C) b g M2 w5 :=
    ⟨(hO5.keep _ (by omega) (by omega)).trans z0, (hO5.keep _ (by omega) (by omega)).trans z1, (hO5.keep _ (by omega) (by omega)).trans z2, hrm5, hM5, hwM5, HG2.out, hval5, (Only.of_below gm b4).trans hO5⟩
  have HLS := Lib.hid hLS
  clear hLS hrm5 hM5 hwM5 hval5 hO5 z0 z1 z2 s4 s3 s2 b4 l0 l1 l2
  gi_wp2_with fail
  refine wpIn_label ?_
  gi_wp2_with fail
  refine wpIn_loop (fun a' W => ∃ q M3 u14 u15 u16 ds, LSt w AB nb cb gm cm gb (.slice (some ⟨gl, i, none⟩) nb C) b q M3 W ∧ (val T < val b * B64 → val T / val b ≤ q) ∧ Marks (gb + 1) W.heap.size ds W ∧
    a' = { tmps := #[.agg #[.slice AB nb cb, .slice (some ⟨gm, 0, none⟩) nb cm], .slice (some ⟨gl, i, none⟩) nb C, .pointer (some ⟨w.heap.size, 0, none⟩), .pointer (some ⟨w.heap.size + 1, 0, none⟩), .int .u64 0, .pointer (some ⟨gb, 0, none⟩), undef, undef, .agg #[.slice AB nb cb, .slice (some ⟨gm, 0, none⟩) nb cm], .slice (some ⟨gl, i, none⟩) nb C, u64 g, .agg #[.slice AB nb cb, .slice (some ⟨gm, 0, none⟩) nb cm], .int .u64 g, v, u14, u15, u16, undef, undef, undef, undef, undef, undef, undef, undef, undef, undef, undef, undef, undef, undef, undef, undef, undef, undef, undef, undef, undef, undef, undef, undef, undef, undef, undef, undef], defers := ds }) (fun _ W => (intOf ((W.cell? ⟨gb, 0, none⟩).getD undef)).toNat) ?_ ?_
  · exact ⟨g, M2, undef, undef, undef, [], HLS.out, HG1.out, trivial, rfl⟩
  · rintro a' W ⟨q, M3, u14, u15, u16, ds, hL, hq, hmk, rfl⟩
    have c01 : W.cell? ⟨w.heap.size, 1, none⟩ = some (.slice (some ⟨gm, 0, none⟩) nb cm) := cells_cell hL.x0 rfl
    have HL := Lib.hid hL
    have HMK := Lib.hid hmk
    have HQ := Lib.hid hq
    clear hL hmk hq HLS
    gi_wp2_with fail
    refine ⟨trivial, (callsIn_wide.2 (backU_any (some ⟨gm, 0, none⟩) nb cm W)).mono ?_⟩
    rintro e w6 ⟨rfl, rfl⟩
    gi_wp2_with fail
    obtain ⟨WE, hWE⟩ : ∃ WE, WE = W.alloc (.cells #[.slice (some ⟨gm, 0, none⟩) nb cm] 22) := ⟨_, rfl⟩
    have hbE : Below W.heap.size W WE := by rw [hWE]; exact (Below.refl _ W).alloc (Nat.le_refl _) _
    have hsE : WE.heap.size = W.heap.size + 1 := by rw [hWE]; simp
    have hxE : WE.heap[W.heap.size]? = some (.cells #[.slice (some ⟨gm, 0, none⟩) nb cm] 22) := by rw [hWE]; exact World.alloc_heap_new W _
    rw [← hWE]
    clear hWE c01
    have hlow := HL.out.low
    have hLE := HL.out.below hw hgmw hlow hbE
    have hmE := HMK.out.keep (hi' := WE.heap.size) (by omega) (fun k _ hk => hbE.block k hk)
    have HLE := Lib.hid hLE
    have HME := Lib.hid hmE
    have hrdM : Rd WE (some ⟨gm, 0, none⟩) nb M3 := by
      have := RowL.mid (P := []) (T := M3) (R := []) (i := 0) (by simpa using hLE.rm) rfl hLE.len hLE.wm
      exact this
    have hkb : ∀ (Wx : World) (l : Nat) (o' : Obj), WE.heap.size ≤ l → KeepsOf (fun k => k < WE.heap.size) Wx (Wx.putObj l o') := fun Wx l o' hl => ⟨by simp, fun k hk => World.putObj_heap_other (by omega)⟩
    have HH := Lib.hid (has_rd hrdM)
    have HSE := Lib.hid hsE
    have hWlt : W.heap.size < WE.heap.size := by omega
    clear hLE hmE hrdM hsE
    refine wpIn_rangeFunc_ownG rfl (by omega) (gf := 157) (lb := #[.pointer (some ⟨W.heap.size, 0, none⟩)]) rfl trivial (enters_of Tryz.func157 (by kernel_rfl) rfl)
      (backU_stops (fun k => k < WE.heap.size) (fun j v => v = lim M3 j) _ W.heap.size (some ⟨gm, 0, none⟩) nb cm (by omega) hWlt WE (by omega) (fun b0 off _ e => by cases e; omega) (cells_cell hxE rfl) HH.out)
      BkK.trans ?hkb (Below.refl _ _) (fun _ => rfl)
      (LmI nb M3 T WE) (LmX nb M3 T WE gb ds (fun q M W => LSt w AB nb cb gm cm gb (.slice (some ⟨gl, i, none⟩) nb C) b q M W) q)
      ?hI ?hIx ⟨fun x hx => absurd hx (by simp), Below.refl _ _⟩ ?_ ?assign ?body ?done ?stop
    case hkb =>
      intro Wx l o o' hl ho _ _
      exact ⟨hkb Wx l o' hl, has_keeps (hkb Wx l o' hl) (fun _ b0 off e => by cases e; show gm < WE.heap.size; omega)⟩
    case hI =>
      exact ownFrom_low (Nat.le_refl _) (fun s W1 h => h.2.size) (fun s W1 W2 h hb => ⟨h.1, h.2.trans hb⟩)
    case hIx =>
      intro c
      refine ownFrom_low (Nat.le_refl _) (fun s W1 h => h.1) ?_
      rintro s W1 W2 ⟨hs, pre', x, e, h1, h2⟩ hb
      refine ⟨Nat.le_trans hs hb.size, pre', x, e, h1, ?_⟩
      rcases h2 with ⟨e, h3, h4, M4, h5⟩ | ⟨e, h3, h4⟩
      · exact .inl ⟨e, h3, h4.keep (Nat.le_refl _) (fun k _ hk => hb.block k hk), M4, h5.below hw hgmw (n0 := WE.heap.size) (by omega) hb⟩
      · exact .inr ⟨e, h3, h4.trans hb⟩
    case assign =>
      intro l x W K hK
      gi_wp2
      exact hK
    case body =>
      rintro l pre x Wx ⟨hpre, hbx⟩ hlen
      have hLx := HLE.out.below hw hgmw (n0 := WE.heap.size) (by omega) hbx
      have hlow2 := hLx.low
      have hglw := HGL.out
      have c1 : Wx.cell? ⟨w.heap.size + 1, 0, none⟩ = some (.slice (some ⟨gl, i, none⟩) nb C) := cells_cell hLx.x1 rfl
      have hrowx := hLx.only.row HROW.out (by omega)
      have hrdT := RowL.mid hrowx HP.out HT.out HWT.out
      obtain ⟨⟨j, m⟩, hj, hm⟩ := x
      obtain ⟨b0, off, e, _, hc⟩ := hrdT.cells (by omega)
      cases e
      have hct := hc j hj
      obtain ⟨t, ht⟩ : ∃ t, lim T j = t := ⟨_, rfl⟩
      rw [ht] at hct
      have hjn : ¬ (nb ≤ j) := by have : j < nb := hj; omega
      have hj' : j < nb := hj
      have HPRE := Lib.hid hpre
      have HBX := Lib.hid hbx
      have HLX := Lib.hid hLx
      have HM3 := Lib.hid hm
      have HTT := Lib.hid ht
      have HRT2 := Lib.hid hrdT
      clear hpre hbx hLx hrowx hrdT hc ht hlen
      rcases Nat.lt_trichotomy t m with h | h | h
      · have d1 := dv_less h
        have cgb : Wx.cell? ⟨gb, 0, none⟩ = some (u64 q) := cells_cell HLX.out.bx rfl
        have fgb : Wx.frozen? ⟨gb, 0, none⟩ = false := cells_frozen HLX.out.bx
        have hmM : lim M3 j ≠ 0 := by have : m = lim M3 j := HM3.out; omega
        have hv0 := val_ne_zero HLX.out.wm hmM
        rw [HLX.out.vm] at hv0
        have hq0 : 0 < q := Nat.pos_of_ne_zero fun e => hv0 (by rw [e, Nat.zero_mul])
        have t2 := dv_dec1 (q := q) HLX.out.qlt hq0
        have n0 : ¬ (w.heap.size = gb) := by omega
        have y0 := (Below.heap_setCell Wx ⟨gb, 0, none⟩ (u64 (q - 1)) w.heap.size (by show w.heap.size ≠ gb; omega)).trans HLX.out.x0
        have e00 : (Wx.setCell ⟨gb, 0, none⟩ (u64 (q - 1))).cell? ⟨w.heap.size, 0, none⟩ = some (.slice AB nb cb) := cells_cell y0 rfl
        have e01 : (Wx.setCell ⟨gb, 0, none⟩ (u64 (q - 1))).cell? ⟨w.heap.size, 1, none⟩ = some (.slice (some ⟨gm, 0, none⟩) nb cm) := cells_cell y0 rfl
        have HV0 := Lib.hid hv0
        have HQ0 := Lib.hid hq0
        have hr0 : RowL (Wx.setCell ⟨gb, 0, none⟩ (u64 (q - 1))) gm ([] ++ M3 ++ []) := by
          have := HLX.out.rm.far (p := ⟨gb, 0, none⟩) (by show gm ≠ gb; omega) (u64 (q - 1))
          simpa using this
        have hO1 := (Only.refl gb Wx).setCell (p := ⟨gb, 0, none⟩) rfl (u64 (q - 1))
        have hbx1 : (Wx.setCell ⟨gb, 0, none⟩ (u64 (q - 1))).heap[gb]? = some (.cells #[u64 (q - 1)] 36) := Boxed.set (u64 (q - 1)) HLX.out.bx
        have HR0 := Lib.hid hr0
        have HO1 := Lib.hid hO1
        have HBX1 := Lib.hid hbx1
        clear hmM hv0 y0 hr0 hO1 hbx1
        gi_wp2_with fail
        generalize (Wx.setCell ⟨gb, 0, none⟩ (.int .u64 ((q - 1 : Nat) : Int))) = Wy at *
        have hrby := HO1.out.rd (HLX.out.only.rd HRB.out (fun _ b1 off1 e => by have := HAB.out b1 off1 e; omega)) (fun h9 b1 off1 e => by have := HRB.out.cells h9; obtain ⟨b2, o2, e2, hl2, _⟩ := this; rw [e] at e2; cases e2; omega)
        refine ⟨trivial, (CallsIn.inRound l (callsIn_wide.2 (less_any gm 0 nb cm [] M3 [] AB nb cb b Wy HR0.out rfl HLX.out.len (Nat.le_refl _) (by omega) HLX.out.wm hrby (fun _ b1 off1 e => by have := HAB.out b1 off1 e; omega)))).mono ?_⟩
        rintro e w8 ⟨M4, s, rfl, hs1, hrow8, hM4, hwM4, hval8, hO8⟩
        clear hrby e00 e01 cgb fgb
        gi_wp2
        have sy := HO1.out.below.size
        have s8 := hO8.below.size
        have sE := HSE.out
        have sX := HBX.out.size
        obtain ⟨f1, f2⟩ := limb_less hval8 hs1 HLX.out.vm HQ0.out HLX.out.wm HLX.out.len hwM4 hM4
        have st := HLX.out.only.below.size
        refine ⟨⟨by omega, fun k o h9 hk _ => ?_⟩, by omega, pre, ⟨(j, m), hj, HM3.out⟩, rfl, HPRE.out, .inl ⟨rfl, by show lim T j < m; rw [HTT.out]; exact h, ?_, M4, ?_⟩⟩
        · have hkl := (Array.getElem?_eq_some_iff.1 hk).1
          exact (hO8.keep k (by omega) (by omega)).trans ((HO1.out.keep k hkl (by omega)).trans hk)
        · exact HME.out.keep (Nat.le_refl _) fun k h7 h9 => (hO8.keep k (by omega) (by omega)).trans ((HO1.out.keep k (by omega) (by omega)).trans (HBX.out.block k h9))
        · refine ⟨(hO8.keep _ (by omega) (by omega)).trans ((HO1.out.keep _ (by omega) (by omega)).trans HLX.out.x0), (hO8.keep _ (by omega) (by omega)).trans ((HO1.out.keep _ (by omega) (by omega)).trans HLX.out.x1), (hO8.keep _ (by omega) (by omega)).trans HBX1.out, by simpa using hrow8, hM4, hwM4, by have := HLX.out.qlt; omega, f2, ?_⟩
          exact ⟨HLX.out.only.below.trans (HO1.out.below.trans hO8.below), fun k hk hg => (hO8.keep k (by omega) hg).trans ((HO1.out.keep k (by omega) (by omega)).trans (HLX.out.only.keep k hk hg))⟩
      · subst h
        have d1 := dv_lessn (Nat.le_refl t)
        gi_wp2
        refine ⟨KeepsFrom.refl _ _, BkK.refl _, fun y hy => ?_, HBX.out⟩
        rcases List.mem_append.1 hy with h | h
        · exact HPRE.out y h
        · rw [List.mem_singleton.1 h]; exact HTT.out.symm
      · have d1 := dv_less h
        have d2 := dv_lessn (Nat.le_of_lt h)
        gi_wp2
        exact ⟨KeepsFrom.refl _ _, HBX.out.size, pre, ⟨(j, m), hj, HM3.out⟩, rfl, HPRE.out, .inr ⟨rfl, by show m < lim T j; rw [HTT.out]; exact h, HBX.out⟩⟩
    case done =>
      rintro D ys Wx hD hys ⟨hpre, hbx⟩ hK
      have hMT := seen_all hys hpre HLE.out.len HT.out
      have hle : val M3 ≤ val T := by rw [hMT]; exact Nat.le_refl _
      clear hMT hys hpre
      have hLx := HLE.out.below hw hgmw (n0 := WE.heap.size) (by omega) hbx
      have hlow2 := hLx.low
      have hmx : Marks (gb + 1) Wx.heap.size ({ target := .collected D, args := #[] } :: ds) Wx := ⟨D, rfl, by omega, (Array.getElem?_eq_some_iff.1 hK).1, hK, HME.out.keep (hi' := D) hD (fun k _ hk => hbx.block k hk)⟩
      have c1 : Wx.cell? ⟨w.heap.size + 1, 0, none⟩ = some (.slice (some ⟨gl, i, none⟩) nb C) := cells_cell hLx.x1 rfl
      have c01 : Wx.cell? ⟨w.heap.size, 1, none⟩ = some (.slice (some ⟨gm, 0, none⟩) nb cm) := cells_cell hLx.x0 rfl
      have hrowx := hLx.only.row HROW.out (by omega)
      have hrdMx : Rd Wx (some ⟨gm, 0, none⟩) nb M3 := RowL.mid (P := []) (T := M3) (R := []) (i := 0) (by simpa using hLx.rm) rfl hLx.len hLx.wm
      have HLE2 := Lib.hid hle
      have HLX := Lib.hid hLx
      have HMX := Lib.hid hmx
      have HRX := Lib.hid hrowx
      have HDX := Lib.hid hrdMx
      have HBW := Lib.hid hbx
      clear hLx hmx hrowx hrdMx hK
      gi_wp2_with fail
      refine ⟨trivial, (callsIn_wide.2 (less_any gl i nb C P T R (some ⟨gm, 0, none⟩) nb cm M3 Wx HRX.out HP.out HT.out (Nat.le_refl _) (by omega) HWT.out HDX.out (fun _ b0 off e => by cases e; omega))).mono ?_⟩
      rintro e w8 ⟨T2, s, rfl, hs1, hrow8, hT2, hwT2, hval8, hO8⟩
      have hglw := HGL.out
      have cgb : w8.cell? ⟨gb, 0, none⟩ = some (u64 q) := cells_cell ((hO8.keep gb hlow2 (by omega)).trans HLX.out.bx) rfl
      have HROW8 := Lib.hid hrow8
      have HV8 := Lib.hid hval8
      have HO8 := Lib.hid hO8
      have HW8 := Lib.hid hwT2
      clear hrow8 hval8 hO8 hwT2 c1 c01
      gi_wp2
      refine marks_leave (n0 := gb + 1) (hi := Wx.heap.size) (HMX.out.keep (Nat.le_refl _) (fun k h3 h4 => HO8.out.keep k h4 (by omega))) (fun W' hb => ?_)
      obtain ⟨f1, f2⟩ := limb_end HV8.out hs1 HLX.out.vm HLE2.out HQ.out h0 HT.out HW8.out hT2
      refine ⟨_, results_tmp rfl _ _ _, T2, M3, q, rfl, HLX.out.qlt, HROW8.out.below hb (by omega), hT2, HW8.out, f1, f2, (HO8.out.row HLX.out.rm (by omega)).below hb (by omega), HLX.out.len, HLX.out.wm, ?_⟩
      exact ⟨HLX.out.only.below.trans (HO8.out.below.trans (hb.mono (Nat.zero_le _))), fun k hk h3 h4 => (hb.block k (by omega)).trans ((HO8.out.keep k (Nat.lt_of_lt_of_le hk HLX.out.only.below.size) h4).trans (HLX.out.only.keep k hk h3))⟩
    case stop =>
      rintro D c pre Wx hD ⟨k, hk, hpl⟩ ⟨hs, pre', x, rfl, h1, h2⟩ hK
      rcases h2 with ⟨rfl, h3, h4, M4, h5⟩ | ⟨rfl, h3, h4⟩
      · have hgt := val_gt HLE.out.wm HWT.out (by rw [HLE.out.len, HT.out]) (j := x.1.1) (by rw [HT.out]; exact x.2.1) (by rw [HT.out]; exact seen_above hpl h1) (by rw [← x.2.2]; exact h3)
        rw [HLE.out.vm] at hgt
        have hq1 : val T / val b < q := by rw [Nat.div_lt_iff_lt_mul h0]; exact hgt
        have hq0 : 0 < q := Nat.lt_of_le_of_lt (Nat.zero_le _) hq1
        have cW := cells_cell (j := 0) HL.out.bx rfl
        have cX := cells_cell (j := 0) h5.bx rfl
        have H5 := Lib.hid h5
        have H4 := Lib.hid h4
        have HKK := Lib.hid hK
        clear h5 h4 hK hpl h1 h3 hgt
        gi_wp2
        refine ⟨⟨q - 1, M4, _, _, _, { target := .collected D, args := #[] } :: ds, H5.out, fun _ => by omega, ⟨D, rfl, by omega, (Array.getElem?_eq_some_iff.1 HKK.out).1, HKK.out, H4.out.keep (hi' := D) hD (fun k _ hk => rfl)⟩, rfl⟩, ?_⟩
        simp [cW, cX, intOf]
        omega
      · have hgt := val_gt HWT.out HLE.out.wm (by rw [HLE.out.len, HT.out]) (j := x.1.1) (by rw [HLE.out.len]; exact x.2.1) (by rw [HLE.out.len]; exact fun j h5 h6 => (seen_above hpl h1 j h5 h6).symm) (by rw [← x.2.2]; exact h3)
        have hle : val M3 ≤ val T := Nat.le_of_lt hgt
        clear hgt hpl h1 h3
        have hLx := HLE.out.below hw hgmw (n0 := WE.heap.size) (by omega) h4
        have hlow2 := hLx.low
        have hmx : Marks (gb + 1) Wx.heap.size ({ target := .collected D, args := #[] } :: ds) Wx := ⟨D, rfl, by omega, (Array.getElem?_eq_some_iff.1 hK).1, hK, HME.out.keep (hi' := D) hD (fun k _ hk => h4.block k hk)⟩
        have c1 : Wx.cell? ⟨w.heap.size + 1, 0, none⟩ = some (.slice (some ⟨gl, i, none⟩) nb C) := cells_cell hLx.x1 rfl
        have c01 : Wx.cell? ⟨w.heap.size, 1, none⟩ = some (.slice (some ⟨gm, 0, none⟩) nb cm) := cells_cell hLx.x0 rfl
        have hrowx := hLx.only.row HROW.out (by omega)
        have hrdMx : Rd Wx (some ⟨gm, 0, none⟩) nb M3 := RowL.mid (P := []) (T := M3) (R := []) (i := 0) (by simpa using hLx.rm) rfl hLx.len hLx.wm
        have HLE2 := Lib.hid hle
        have HLX := Lib.hid hLx
        have HMX := Lib.hid hmx
        have HRX := Lib.hid hrowx
        have HDX := Lib.hid hrdMx
        have HBW := Lib.hid h4
        clear hLx hmx hrowx hrdMx hK
        gi_wp2_with fail
        refine ⟨trivial, (callsIn_wide.2 (less_any gl i nb C P T R (some ⟨gm, 0, none⟩) nb cm M3 Wx HRX.out HP.out HT.out (Nat.le_refl _) (by omega) HWT.out HDX.out (fun _ b0 off e => by cases e; omega))).mono ?_⟩
        rintro e w8 ⟨T2, s, rfl, hs1, hrow8, hT2, hwT2, hval8, hO8⟩
        have hglw := HGL.out
        have cgb : w8.cell? ⟨gb, 0, none⟩ = some (u64 q) := cells_cell ((hO8.keep gb hlow2 (by omega)).trans HLX.out.bx) rfl
        have HROW8 := Lib.hid hrow8
        have HV8 := Lib.hid hval8
        have HO8 := Lib.hid hO8
        have HW8 := Lib.hid hwT2
        clear hrow8 hval8 hO8 hwT2 c1 c01
        gi_wp2
        refine marks_leave (n0 := gb + 1) (hi := Wx.heap.size) (HMX.out.keep (Nat.le_refl _) (fun k h3 h4 => HO8.out.keep k h4 (by omega))) (fun W' hb => ?_)
        obtain ⟨f1, f2⟩ := limb_end HV8.out hs1 HLX.out.vm HLE2.out HQ.out h0 HT.out HW8.out hT2
        refine ⟨_, results_tmp rfl _ _ _, T2, M3, q, rfl, HLX.out.qlt, HROW8.out.below hb (by omega), hT2, HW8.out, f1, f2, (HO8.out.row HLX.out.rm (by omega)).below hb (by omega), HLX.out.len, HLX.out.wm, ?_⟩
        exact ⟨HLX.out.only.below.trans (HO8.out.below.trans (hb.mono (Nat.zero_le _))), fun k hk h3 h4 => (hb.block k (by omega)).trans ((HO8.out.keep k (Nat.lt_of_lt_of_le hk HLX.out.only.below.size) h4).trans (HLX.out.only.keep k hk h3))⟩
end Go.Proofs.YtgiokmfdafmaoaaGreat
