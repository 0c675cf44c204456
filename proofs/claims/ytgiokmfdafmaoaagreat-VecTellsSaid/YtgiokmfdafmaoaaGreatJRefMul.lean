import Derived.Test.YtgiokmfdafmaoaaGreatJProd
import Derived.Test.YtgiokmfdafmaoaaGreatJRefMay
import Derived.Test.YtgiokmfdafmaoaaGreatJCopy
import Derived.Deep.RegionLaw
/- Half RefMul. -/
/- Numbers to any base: digits, and products of them. No program in sight. -/
namespace Go.Proofs.YtgiokmfdafmaoaaGreat
set_option linter.unusedVariables false

/-- What digits to the base B are worth, the lowest first. -/
def vb (B : Nat) : List Nat → Nat
  | [] => 0
  | x :: r => x + B * vb B r
/-- All are digits. -/
def Digs (B : Nat) (l : List Nat) : Prop := ∀ x ∈ l, x < B
section
variable {B : Nat} {l m : List Nat}
theorem vb_nil : vb B [] = 0 := rfl
theorem vb_cons (x : Nat) (r : List Nat) : vb B (x :: r) = x + B * vb B r := rfl
theorem digs_nil : Digs B [] := fun _ h => by cases h
theorem Digs.tail {x : Nat} {r : List Nat} (h : Digs B (x :: r)) : Digs B r := fun y hy => h y (List.mem_cons_of_mem _ hy)
theorem Digs.head {x : Nat} {r : List Nat} (h : Digs B (x :: r)) : x < B := h x List.mem_cons_self
theorem Digs.take (h : Digs B l) (n : Nat) : Digs B (l.take n) := fun y hy => h y (List.mem_of_mem_take hy)
theorem digs_append (h : Digs B l) (k : Digs B m) : Digs B (l ++ m) := fun y hy => by
  rcases List.mem_append.1 hy with hy | hy
  · exact h y hy
  · exact k y hy
theorem digs_two {x y : Nat} (h : x < B) (k : y < B) : Digs B [x, y] := fun z hz => by
  rcases List.mem_cons.1 hz with rfl | hz
  · exact h
  · rcases List.mem_cons.1 hz with rfl | hz
    · exact k
    · cases hz
theorem Digs.get (h : Digs B l) (hB : 0 < B) (i : Nat) : lim l i < B := by
  unfold lim
  rw [List.getD_eq_getElem?_getD]
  cases e : l[i]? with
  | none => exact hB
  | some x => exact h x (List.mem_of_getElem? e)
theorem digs_set (h : Digs B l) {i v : Nat} (hv : v < B) : Digs B (l.set i v) := fun y hy => by
  rcases List.mem_or_eq_of_mem_set hy with hy | rfl
  · exact h y hy
  · exact hv
theorem digs_zeros (hB : 0 < B) (n : Nat) : Digs B (List.replicate n 0) := fun y hy => by
  rw [List.mem_replicate] at hy
  rw [hy.2]; exact hB
theorem vb_append : vb B (l ++ m) = vb B l + B ^ l.length * vb B m := by
  induction l with
  | nil => simp [vb]
  | cons x r ih =>
    simp only [List.cons_append, vb_cons, ih, List.length_cons, Nat.pow_succ, Nat.mul_add]
    rw [← Nat.mul_assoc, Nat.mul_comm B (B ^ r.length)]
    omega
theorem vb_lt (h : Digs B l) : vb B l < B ^ l.length := by
  induction l with
  | nil => simp [vb]
  | cons x r ih =>
    have h1 := h.head
    have h2 := ih h.tail
    have h3 : B * (vb B r + 1) ≤ B * B ^ r.length := Nat.mul_le_mul_left _ h2
    rw [vb_cons, List.length_cons, Nat.pow_succ, Nat.mul_comm (B ^ r.length)]
    rw [Nat.mul_add] at h3
    omega
theorem vb_take_succ (l : List Nat) (k : Nat) : vb B (l.take (k + 1)) = vb B (l.take k) + B ^ k * lim l k := by
  unfold lim
  by_cases h : k < l.length
  · rw [List.take_succ_eq_append_getElem h, vb_append]
    simp [vb, List.length_take, Nat.min_eq_left (Nat.le_of_lt h), h]
  · rw [List.take_of_length_le (by omega), List.take_of_length_le (by omega)]
    simp [List.getD_eq_getElem?_getD, List.getElem?_eq_none (by omega : l.length ≤ k)]
theorem vb_take_all {k : Nat} (h : l.length ≤ k) : vb B (l.take k) = vb B l := by rw [List.take_of_length_le h]
theorem vb_zeros (n : Nat) : vb B (List.replicate n 0) = 0 := by
  induction n with
  | zero => rfl
  | succ n ih => rw [List.replicate_succ, vb_cons, ih]; simp
theorem vb_set {i : Nat} (hi : i < l.length) (v : Nat) : vb B (l.set i v) + B ^ i * lim l i = vb B l + B ^ i * v := by
  induction l generalizing i with
  | nil => simp at hi
  | cons x r ih =>
    cases i with
    | zero => simp [vb, lim]; omega
    | succ i =>
      have h := ih (i := i) (by simpa using hi)
      have e : lim (x :: r) (i + 1) = lim r i := by simp [lim]
      rw [e, List.set_cons_succ, vb_cons, vb_cons, Nat.pow_succ, Nat.mul_comm (B ^ i) B, Nat.mul_assoc, Nat.mul_assoc]
      have h2 : B * (vb B (r.set i v) + B ^ i * lim r i) = B * (vb B r + B ^ i * v) := by rw [h]
      rw [Nat.mul_add, Nat.mul_add] at h2
      omega
theorem lim_vb (hB : 0 < B) (h : Digs B l) (i : Nat) : lim l i = vb B l / B ^ i % B := by
  induction l generalizing i with
  | nil => simp [lim, vb]
  | cons x r ih =>
    have hx := h.head
    cases i with
    | zero =>
      have e : lim (x :: r) 0 = x := by simp [lim]
      rw [e, vb_cons, Nat.pow_zero, Nat.div_one, Nat.add_mul_mod_self_left, Nat.mod_eq_of_lt hx]
    | succ i =>
      have e : lim (x :: r) (i + 1) = lim r i := by simp [lim]
      rw [e, ih h.tail i, vb_cons, Nat.pow_succ, Nat.mul_comm (B ^ i) B, ← Nat.div_div_eq_div_mul, Nat.add_mul_div_left _ _ hB, Nat.div_eq_of_lt hx, Nat.zero_add]
theorem lim_zero_vb (hB : 0 < B) (h : Digs B l) {i : Nat} (hv : vb B l < B ^ i) : lim l i = 0 := by
  rw [lim_vb hB h, Nat.div_eq_of_lt hv, Nat.zero_mod]
theorem vrow_step {L L0 b : List Nat} {i j x over limb next : Nat} (hij : i + j < L.length) (hs : limb + B * next = x * lim b j + over + lim L (i + j))
    (hv : vb B L + B ^ (i + j) * over = vb B L0 + B ^ i * (x * vb B (b.take j))) :
    vb B (L.set (i + j) limb) + B ^ (i + (j + 1)) * next = vb B L0 + B ^ i * (x * vb B (b.take (j + 1))) := by
  have h1 := vb_set (B := B) hij limb
  rw [vb_take_succ]
  have e : B ^ (i + (j + 1)) * next = B ^ (i + j) * (B * next) := by rw [← Nat.add_assoc, Nat.pow_succ, Nat.mul_assoc]
  have e2 : B ^ i * (x * (vb B (b.take j) + B ^ j * lim b j)) = B ^ i * (x * vb B (b.take j)) + B ^ (i + j) * (x * lim b j) := by
    rw [Nat.mul_add, Nat.mul_add, Nat.pow_add, Nat.mul_left_comm x, Nat.mul_assoc]
  rw [e, e2]
  have h2 : B ^ (i + j) * (limb + B * next) = B ^ (i + j) * (x * lim b j + over + lim L (i + j)) := by rw [hs]
  simp only [Nat.mul_add] at h2
  omega
theorem vschool_step (hB : 0 < B) {L L2 a b : List Nat} {i x over : Nat} (hL : Digs B L) (hb : Digs B b) (ha : Digs B a) (hil : i < a.length) (hx : lim a i = x) (hlen : i + b.length < L2.length)
    (hv : vb B L = vb B (a.take i) * vb B b) (h2 : vb B L2 + B ^ (i + b.length) * over = vb B L + B ^ i * (x * vb B b)) (hs : lim L2 (i + b.length) = lim L (i + b.length)) :
    vb B (L2.set (i + b.length) over) = vb B (a.take (i + 1)) * vb B b := by
  have h0 : lim L (i + b.length) = 0 := by
    apply lim_zero_vb hB hL
    rw [hv, Nat.pow_add]
    have h1 := vb_lt (ha.take i)
    have h2 := vb_lt hb
    rw [List.length_take, Nat.min_eq_left (by omega)] at h1
    have hp : 0 < B ^ b.length := Nat.pow_pos hB
    exact Nat.lt_of_le_of_lt (Nat.mul_le_mul_left _ (Nat.le_of_lt h2)) (Nat.mul_lt_mul_of_pos_right h1 hp)
  have h1 := vb_set (B := B) hlen over
  rw [hs, h0, Nat.mul_zero, Nat.add_zero] at h1
  rw [h1, h2, hv, vb_take_succ, hx, Nat.add_mul, Nat.mul_assoc]
theorem two_digs {x y m c : Nat} (hx : x < B) (hy : y < B) (hm : m < B) (hc : c < B) : x * y + m + c < B * B := by
  obtain ⟨D, hD⟩ : ∃ D, B = D + 1 := ⟨B - 1, by omega⟩
  rw [hD] at hx hy hm hc ⊢
  have h : x * y ≤ D * D := Nat.mul_le_mul (by omega) (by omega)
  have e : (D + 1) * (D + 1) = D * D + D + D + 1 := by rw [Nat.add_mul, Nat.mul_add]; omega
  omega
end

/-! ### Halves of words -/
/-- 2^32. -/
def H : Nat := 4294967296
theorem H_eq : H = 4294967296 := rfl
theorem H_pos : 0 < H := by rw [H_eq]; omega
theorem H_sq : H * H = B64 := rfl
/-- A number's digits to 2^32. -/
def halvesL (a : List Nat) : List Nat := a.flatMap fun x => [x % H, x / H]
theorem halves_nil : halvesL [] = [] := rfl
theorem halves_cons (x : Nat) (r : List Nat) : halvesL (x :: r) = x % H :: x / H :: halvesL r := rfl
theorem halves_append (l m : List Nat) : halvesL (l ++ m) = halvesL l ++ halvesL m := by simp [halvesL]
theorem halves_length (a : List Nat) : (halvesL a).length = 2 * a.length := by
  induction a with
  | nil => rfl
  | cons x r ih => rw [halves_cons, List.length_cons, List.length_cons, ih, List.length_cons]; omega
theorem div_H {x : Nat} (h : x < B64) : x / H < H := by rw [Nat.div_lt_iff_lt_mul H_pos, H_sq]; exact h
theorem halves_digs {a : List Nat} (h : Words a) : Digs H (halvesL a) := by
  induction a with
  | nil => exact digs_nil
  | cons x r ih =>
    have e : halvesL (x :: r) = [x % H, x / H] ++ halvesL r := rfl
    rw [e]
    exact digs_append (digs_two (Nat.mod_lt _ H_pos) (div_H h.head)) (ih h.tail)
theorem halves_val (a : List Nat) : vb H (halvesL a) = val a := by
  induction a with
  | nil => rfl
  | cons x r ih =>
    rw [halves_cons, vb_cons, vb_cons, ih, val_cons, ← H_sq, Nat.mul_add, Nat.mul_assoc, ← Nat.add_assoc, Nat.mod_add_div]
theorem halves_take (a : List Nat) (k : Nat) (h : k < a.length) : halvesL (a.take (k + 1)) = halvesL (a.take k) ++ [lim a k % H, lim a k / H] := by
  rw [List.take_succ_eq_append_getElem h, halves_append, lim_get h]; rfl
theorem digs_words {l : List Nat} (h : Digs H l) : Words l := fun x hx => Nat.lt_of_lt_of_le (h x hx) (by rw [H_eq, B64_eq]; omega)
/-- A word out of two digits. -/
theorem whole_step {o h : List Nat} {k : Nat} (hd : Digs H h) (ho : val o = vb H (h.take (2 * k))) (hl : o.length = k) :
    val (o ++ [lim h (2 * k) + H * lim h (2 * k + 1)]) = vb H (h.take (2 * (k + 1))) ∧ lim h (2 * k) + H * lim h (2 * k + 1) < B64 := by
  have h1 := hd.get H_pos (2 * k)
  have h2 := hd.get H_pos (2 * k + 1)
  constructor
  · rw [val_append, ho, hl, show 2 * (k + 1) = 2 * k + 1 + 1 by omega, vb_take_succ, vb_take_succ, val_cons, val_nil, Nat.mul_zero, Nat.add_zero]
    have e : B64 ^ k = H ^ (2 * k) := by rw [← H_sq, Nat.pow_mul, Nat.pow_two]
    rw [e, Nat.mul_add, Nat.pow_succ, Nat.mul_assoc]
    omega
  · rw [← H_sq]
    have : H * lim h (2 * k + 1) ≤ H * (H - 1) := Nat.mul_le_mul_left _ (by omega)
    rw [Nat.mul_sub] at this
    have e : H ≤ H * H := Nat.le_mul_of_pos_left _ H_pos
    omega
end Go.Proofs.YtgiokmfdafmaoaaGreat

/- The document's product: digits to 2^32, by school. -/
namespace Go.Proofs.YtgiokmfdafmaoaaGreat
open Go.RowKit Go.Shelf
set_option linter.unusedVariables false
set_option linter.unusedSimpArgs false

theorem cell_two_new (w : World) (x y : Value) (T : TypeId) : ∀ j u, [x, y][j]? = some u → (w.alloc (.cells #[x, y] T)).cell? ((⟨w.heap.size, 0, none⟩ : Addr).add j) = some u := by
  intro j u hj
  rw [Addr.add_lit]
  match j, hj with
  | 0, hj => simp at hj; simp [hj]
  | 1, hj => simp at hj; simp [hj]
  | j + 2, hj => simp at hj
/-- append onto a row of the call's own, as one step of a region that draws. -/
theorem step_append_mine {P : Program} {ops : Array Oper} {o : Oper} {a : Act} {w : World} {K : Act → World → Prop} {Q : Exit → Act → World → Prop} {E : Prop}
    (hg : o.guard = none) (s x : Operand) (t : TypeId) (hop : o.op = Op.call { callee := Callee.builtin Builtin.append, args := #[s, x], argTypes := #[t, t] })
    (base : Nat) (e : TypeId) (i : TypeInfo) (z : Value) (size bytes : Nat) (h1 : P.underlying t = some (.slice e)) (h2 : P.info? e = some i) (h3 : i.zero = some z) (h4 : i.size = size) (h5 : i.bytes = bytes) (h6 : z.cells.size = size) (h7 : 0 < size)
    (v : Value) (n : Nat) (xs : List Value) (hs : a.eval s = v) (hown : w.ownsRow base e size v n xs)
    (ad : Addr) (m c : Nat) (news : List Value) (hx : a.eval x = .slice (some ad) m c) (hn : news.length = m * size) (hc : ∀ j u, news[j]? = some u → w.cell? (ad.add j) = some u) (h1c : ∀ u ∈ news, u.oneCell' = true)
    (b1 : n + m ≤ maxLen) (b2 : (n + m) * bytes ≤ 140737488355328) (b3 : base ≤ w.heap.size)
    (hK : ∀ v' w', w'.ownsRow base e size v' (n + m) (xs ++ news) → w.grownBy w' v.ownBlock → K (a.put o.dst v') w') :
    if Region.wanted o (yielded ops a.tmps) = true then Oper.wp P o a w K Q else E := by
  have hw : Region.wanted o (yielded ops a.tmps) = true := by simp [Region.wanted, hg]
  rw [if_pos hw]
  obtain ⟨v', w', hrun, r1, r2, _⟩ := run_append_own (P := P) w base t o.type e i z size bytes h1 h2 h3 h4 h5 h6 h7 v n xs hown ad m c news hn hc h1c b1 b2 b3
  unfold Oper.wp
  simp [execOp, hop, resolve, invoke, builtin, hs, hx, hrun, Result.andThen]
  exact hK v' w' r1 r2
theorem half_facts {x : Nat} {lo hi : Nat} (h1 : x % H = lo) (h2 : x / H = hi) : Int.tmod (x : Int) 4294967296 = (lo : Int) ∧ (x : Int) % 4294967296 = (lo : Int) ∧ Int.tdiv (x : Int) 4294967296 = (hi : Int) ∧ (x : Int) / 4294967296 = (hi : Int) := by
  rw [H_eq] at h1 h2
  refine ⟨?_, by omega, ?_, by omega⟩
  · rw [Int.tmod_eq_emod_of_nonneg (by omega)]; omega
  · rw [Int.tdiv_eq_ediv_of_nonneg (by omega)]; omega
theorem whole_facts {x y : Nat} (h : x + H * y < B64) : IntKind.u64.wrap (4294967296 * (y : Int)) = 4294967296 * (y : Int) ∧ IntKind.u64.wrap ((x : Int) + 4294967296 * (y : Int)) = ((x + H * y : Nat) : Int) := by
  rw [H_eq, B64_eq] at h
  rw [H_eq]
  constructor
  · rw [IntKind.wrap_u64]; omega
  · rw [IntKind.wrap_u64]; omega
theorem u64_is {x : Nat} (h : x < B64) : IntKind.u64.wrap (x : Int) = (x : Int) := by
  rw [IntKind.wrap_u64]; rw [B64_eq] at h; omega

section
variable (A A2 : Option Addr) (na ca nb cb : Nat) (a b : List Nat) (w : World)

set_option maxRecDepth 100000 in
set_option maxHeartbeats 2000000 in
/-- The document's halves. -/
theorem halves_any (hra : Rd w A na a) (hna : na ≤ 100000) :
    Calls Tryz.prog 120 #[.slice A na ca] w fun e w' => ∃ A' k c, e = .returned (.slice A' k c) ∧ Own w' w.heap.size (.slice A' k c) (halvesL a) ∧ Below w.heap.size w w' := by
  obtain ⟨i0, hi0, hz0, hz1, hz2⟩ := info_parts u64_info
  go_enter Tryz.func120, Tryz.ntmps120
  go_wp2
  go_loopw [3, 4] (fun v i wr => ∃ k : Nat, k ≤ na ∧ i = .int .i64 (k : Int) ∧ Own wr w.heap.size v (halvesL (a.take k)) ∧ Below w.heap.size w wr) (fun _ i _ => na - (intOf i).toNat)
  case atStart => exact ⟨0, by omega, rfl, ⟨World.ownsRow_nil _ _ _ _, words_nil⟩, Below.refl _ _⟩
  case round =>
    obtain ⟨k, hk, rfl, hown, hB⟩ := hrel
    by_cases hlt : k < na
    · obtain ⟨b1, o1, rfl, _, hc1⟩ := (hra.below hB).cells (by omega)
      have hca := hc1 k hlt
      have hx := hra.words.get k
      have htk := halves_take a k (by rw [hra.len]; exact hlt)
      obtain ⟨x, hxe⟩ : ∃ x, lim a k = x := ⟨_, rfl⟩
      rw [hxe] at hca hx htk
      obtain ⟨lo, hlo⟩ : ∃ lo, x % H = lo := ⟨_, rfl⟩
      obtain ⟨hi, hhi⟩ : ∃ hi, x / H = hi := ⟨_, rfl⟩
      obtain ⟨f1, f2, f3, f4⟩ := half_facts hlo hhi
      have b1' : lo < B64 := by rw [← hlo]; exact Nat.lt_trans (Nat.mod_lt _ H_pos) (by rw [H_eq, B64_eq]; omega)
      have b2' : hi < B64 := by rw [← hhi]; exact Nat.lt_of_le_of_lt (Nat.div_le_self _ _) hx
      have f5 := u64_is b1'
      have f6 := u64_is b2'
      rw [hlo, hhi] at htk
      have hlen : (halvesL (a.take k)).length = 2 * k := by rw [halves_length, List.length_take, hra.len]; omega
      have hol : (halvesL (a.take k)).length ≤ 200000 := by omega
      have hblk := own_block hown
      have HBK := Lib.hid hblk
      have hown0 := (own_drew hown).below ((Below.refl _ wr.drew).alloc (Nat.le_refl _) (.cells #[u64 lo, u64 hi] 36))
      have HO0 := Lib.hid hown0
      have hnew := Lib.hid (cell_two_new wr.drew (u64 lo) (u64 hi) 36)
      have HTK := Lib.hid htk
      have HW : Hid (lo < B64 ∧ hi < B64) := ⟨b1', b2'⟩
      have hBs := hB.size
      clear hc1 hxe hlo hhi hown hown0 hblk hx htk b1' b2' hlen
      go_wp2
      go_region_law (refine step_append_mine rfl _ _ 22 rfl w.heap.size 36 i0 _ 1 8 Tryz.underlying22 hi0 hz0 hz1 hz2 rfl (by decide) _ _ _ rfl HO0.out.1 ⟨wr.heap.size, 0, none⟩ 2 2 [u64 lo, u64 hi] rfl rfl hnew.out (by simp [Value.oneCell']) (by simp only [maxLen]; omega) (by omega) (by simp; omega) ?_; intro v' w3 hown1 hgrow1)
      all_goals
        go_wp2
        go_roundw
        case rel =>
          refine ⟨k + 1, by omega, by go_num, ⟨?_, ?_⟩, ((hB.drew).alloc hBs _).grown hgrow1 (by simp; omega) HBK.out⟩
          · rw [HTK.out, List.length_append, List.map_append]; exact hown1
          · rw [HTK.out]; exact words_append HO0.out.2 (words_cons HW.out.1 (words_cons HW.out.2 words_nil))
        case measure => simp [intOf]; omega
    · have hkn : k = na := by omega
      rw [hkn, List.take_of_length_le (by rw [hra.len]; omega)] at hown
      obtain ⟨A', c', rfl⟩ := own_shape hown
      have HO := Lib.hid hown
      clear hown hkn hra
      go_wp2
      go_ret
      exact ⟨_, _, _, rfl, HO.out, hB⟩

set_option maxRecDepth 100000 in
set_option maxHeartbeats 2000000 in
/-- The document's whole. -/
theorem whole_any (h : List Nat) (M : Nat) (hrh : Rd w A na h) (hd : Digs H h) (hM : na = 2 * M) (hM2 : M ≤ 200000) :
    Calls Tryz.prog 121 #[.slice A na ca] w fun e w' => ∃ A' k c, e = .returned (.slice A' k c) ∧ Own w' w.heap.size (.slice A' k c) (limbs (vb H h)) ∧ Below w.heap.size w w' := by
  obtain ⟨i0, hi0, hz0, hz1, hz2⟩ := info_parts u64_info
  have HM := Lib.hid hM
  have hMn : 2 * M ≤ na ∧ na ≤ 2 * M := by omega
  clear hM
  go_enter Tryz.func121, Tryz.ntmps121
  go_wp2
  go_loopw [3, 4] (fun v i wr => ∃ (k : Nat) (o : List Nat), k ≤ M ∧ i = .int .i64 (2 * (k : Int)) ∧ o.length = k ∧ val o = vb H (h.take (2 * k)) ∧ Own wr w.heap.size v o ∧ Below w.heap.size w wr) (fun _ i _ => na - (intOf i).toNat)
  case atStart => exact ⟨0, [], by omega, rfl, rfl, by simp [val, vb], ⟨World.ownsRow_nil _ _ _ _, words_nil⟩, Below.refl _ _⟩
  case round =>
    obtain ⟨k, o, hk, rfl, hlen, hval, hown, hB⟩ := hrel
    by_cases hlt : k < M
    · obtain ⟨b1, o1, rfl, _, hc1⟩ := (hrh.below hB).cells (by omega)
      have hca := hc1 (2 * k) (by omega)
      have hcb := hc1 (2 * k + 1) (by omega)
      obtain ⟨hst, hsl⟩ := whole_step hd hval hlen
      obtain ⟨x, hxe⟩ : ∃ x, lim h (2 * k) = x := ⟨_, rfl⟩
      obtain ⟨y, hye⟩ : ∃ y, lim h (2 * k + 1) = y := ⟨_, rfl⟩
      rw [hxe, hye] at hst hsl
      rw [hxe] at hca
      rw [hye] at hcb
      obtain ⟨f1, f2⟩ := whole_facts hsl
      have hcond : (2 * (k : Int) + 1 < (na : Int)) := by omega
      have hx1 : 0 ≤ 2 * (k : Int) ∧ 2 * (k : Int) < (na : Int) := by omega
      have hx2 : 0 ≤ 2 * (k : Int) + 1 ∧ 2 * (k : Int) + 1 < (na : Int) := by omega
      have hx3 : IntKind.i64.wrap (2 * (k : Int) + 1) = 2 * (k : Int) + 1 := by rw [IntKind.wrap_i64]; omega
      have hx4 : (2 * (k : Int)).toNat = 2 * k := by omega
      have hx5 : (2 * (k : Int) + 1).toNat = 2 * k + 1 := by omega
      have hblk := own_block hown
      have HBK := Lib.hid hblk
      obtain ⟨z, hz⟩ : ∃ z, x + H * y = z := ⟨_, rfl⟩
      rw [hz] at f2 hst hsl
      have hown0 := (own_drew hown).below ((Below.refl _ wr.drew).alloc (Nat.le_refl _) (.cells #[u64 z] 36))
      have HO0 := Lib.hid hown0
      have hnew := Lib.hid (cell_one_new wr.drew (u64 z) 36)
      have HST := Lib.hid hst
      have HLN := Lib.hid hlen
      have hol : o.length ≤ 200000 := by omega
      have hBs := hB.size
      clear hc1 hxe hye hown hown0 hblk hst hlen hval hz hd hrh
      go_wp2
      go_region_law (refine step_append_mine rfl _ _ 23 rfl w.heap.size 36 i0 _ 1 8 Tryz.underlying23 hi0 hz0 hz1 hz2 rfl (by decide) _ _ _ rfl HO0.out.1 ⟨wr.heap.size, 0, none⟩ 1 1 [u64 z] rfl rfl hnew.out (by simp [Value.oneCell']) (by simp only [maxLen]; omega) (by omega) (by simp; omega) ?_; intro v' w3 hown1 hgrow1)
      all_goals
        go_wp2
        go_roundw
        case rel =>
          refine ⟨k + 1, o ++ [z], by omega, by go_num, by rw [List.length_append, HLN.out]; rfl, HST.out, ⟨?_, words_append HO0.out.2 (words_cons hsl words_nil)⟩, ((hB.drew).alloc hBs _).grown hgrow1 (by simp; omega) HBK.out⟩
          rw [List.length_append, List.map_append]; exact hown1
        case measure => simp [intOf]; omega
    · have hkn : k = M := by omega
      have hcond : ¬ (2 * (k : Int) + 1 < (na : Int)) := by omega
      have hv2 : val o = vb H h := by rw [hval, List.take_of_length_le (by rw [hrh.len]; omega)]
      have HV := Lib.hid hv2
      obtain ⟨A', c', rfl⟩ := own_shape hown
      have HLN := Lib.hid hlen
      obtain ⟨_, _, hnc, hcm⟩ := hown.rd
      have hcm2 : c' ≤ 9223372036854775807 := hcm
      have HO := Lib.hid hown
      have hol : o.length ≤ 200000 := by omega
      clear hcm hown hlen hval hv2 hkn hrh hd
      generalize hN : o.length = n at *
      have HN := Lib.hid hN
      clear hN
      go_wp2
      go_loop [3] (fun v => ∃ j : Nat, j ≤ n ∧ v = .slice A' j c' ∧ ∀ i, j ≤ i → lim o i = 0) (fun v => match v with | .slice _ j _ => j | _ => 0)
      case atStart => exact ⟨n, Nat.le_refl _, rfl, fun i hi => lim_past (by rw [HN.out]; exact hi)⟩
      case round =>
        obtain ⟨j, hj, rfl, hzr⟩ := hrel
        by_cases h0 : j = 0
        · subst h0
          have ht : o.take 0 = limbs (val o) := take_limbs HO.out.2 (by omega) (fun h => absurd rfl h) hzr
          have HT := Lib.hid ht
          clear ht hzr
          go_wp2
          go_ret
          refine ⟨_, _, _, rfl, ?_, hB⟩
          rw [← HV.out, ← HT.out]
          exact own_trim HO.out (by omega)
        · obtain ⟨i, rfl⟩ : ∃ i, j = i + 1 := ⟨j - 1, by omega⟩
          obtain ⟨g, rfl, _, _⟩ := own_at HO.out (by omega)
          have hci := (own_cell HO.out (i := i) (by omega)).1
          by_cases hx : lim o i = 0
          · rw [hx] at hci
            have HX := Lib.hid hx
            have HZ := Lib.hid hzr
            have hic : ¬ ((c' : Int) < (i : Int)) := by omega
            clear hx hzr
            go_wp2
            go_round
            case rel => exact ⟨i, by omega, by go_num, fun t ht => by
              rcases Nat.eq_or_lt_of_le ht with rfl | ht
              · exact HX.out
              · exact HZ.out t ht⟩
            case measure => first | omega | (show i < i + 1; omega) | (simp; done)
          · have ht : o.take (i + 1) = limbs (val o) := take_limbs HO.out.2 (by rw [HN.out]; omega) (fun _ => hx) hzr
            have HT := Lib.hid ht
            have hne : ((lim o i : Int) == 0) = false := by simp; omega
            clear ht hzr hx
            go_wp2
            go_ret
            refine ⟨_, _, _, rfl, ?_, hB⟩
            rw [← HV.out, ← HT.out]
            exact own_trim HO.out (by omega)
end
end Go.Proofs.YtgiokmfdafmaoaaGreat
