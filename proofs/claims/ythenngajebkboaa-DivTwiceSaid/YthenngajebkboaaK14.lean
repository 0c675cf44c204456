import Derived.Laws.AppendOwnNone
import Derived.Test.YthenngajebkboaaK13
/- Texts of one proof, one behind another: Copy Prod. -/
/- Copies of what is handed in, and rows whose cells are turned in place. -/
namespace Go.Proofs.Ythenngajebkboaa
open Go.RowKit Go.Shelf
set_option linter.unusedVariables false
set_option linter.unusedSimpArgs false

theorem own_keepsOf {w w' : World} {B : Nat} {v : Value} {l : List Nat} {S : Nat → Prop} (h : Own w B v l) (hk : KeepsOf S w w') (hS : ∀ k, v.ownBlock = some k → S k) : Own w' B v l := by
  refine ⟨⟨h.1.1, ?_⟩, h.2⟩
  rcases h.1.2 with h2 | ⟨g, cap, cur, e, hg, hh, r⟩
  · exact .inl h2
  · exact .inr ⟨g, cap, cur, e, hg, (hk.2 g (hS g (by rw [e]; rfl))).trans hh, r⟩
theorem incr_word (x : Nat) : IntKind.u64.wrap ((x : Int) + 1) = (((x + 1) % B64 : Nat) : Int) := by
  rw [show ((x : Int) + 1) = ((x + 1 : Nat) : Int) by omega, u64_wrap_nat]
/-- The blocks below a world's end, but for a row's own one. -/
def But (n : Nat) (v : Value) (k : Nat) : Prop := k < n ∧ v.ownBlock ≠ some k
theorem set_keeps {w wl : World} {n g m c : Nat} (i : Nat) (u : Value) (hk : KeepsOf (But n (.slice (some ⟨g, 0, none⟩) m c)) wl w) : KeepsOf (But n (.slice (some ⟨g, 0, none⟩) m c)) wl (w.setCell ⟨g, i, none⟩ u) := by
  refine hk.trans ⟨by simp [World.setCell], fun k hS => ?_⟩
  have h : some g ≠ some k := hS.2
  simp [World.setCell, Array.getElem?_modify]
  intro e
  exact absurd (by rw [e]) h
theorem drew_keeps {w wl : World} {S : Nat → Prop} (hk : KeepsOf S wl w) : KeepsOf S wl w.drew := hk.trans ⟨Nat.le_refl _, fun _ _ => rfl⟩
theorem own_drew {w : World} {B : Nat} {v : Value} {l : List Nat} (h : Own w B v l) : Own w.drew B v l := h.below (Below.refl _ w).drew
theorem rd_but {w wl : World} {A A2 : Option Addr} {n m c : Nat} {l l2 : List Nat} {B : Nat} (h : Rd wl A n l) (ho : Own wl B (.slice A2 m c) l2) (hlt : 0 < n → ∀ b off, A = some ⟨b, off, none⟩ → b < B)
    (hk : KeepsOf (But wl.heap.size (.slice A2 m c)) wl w) : Rd w A n l :=
  hk.rd h fun hn b off e => ⟨h.lt hn b off e, fun e2 => by have h1 := (ho.1.lt b e2).1; have h2 := hlt hn b off e; omega⟩
theorem own_but {w wl : World} {v : Value} {A2 : Option Addr} {m c : Nat} {l l2 : List Nat} {B D : Nat} (h : Own wl D v l) (ho : Own wl B (.slice A2 m c) l2) (hlt : ∀ k, (Value.slice A2 m c).ownBlock = some k → k < D)
    (hk : KeepsOf (But wl.heap.size (.slice A2 m c)) wl w) : Own w D v l :=
  own_keepsOf h hk fun k e => ⟨(h.1.lt k e).2, fun e2 => by have h1 := (h.1.lt k e).1; have h2 := hlt k e2; omega⟩
theorem own_at {w : World} {B n c : Nat} {A : Option Addr} {l : List Nat} (h : Own w B (.slice A n c) l) (hn : 0 < n) : ∃ g, A = some ⟨g, 0, none⟩ ∧ B ≤ g ∧ g < w.heap.size := by
  rcases h.1.2 with ⟨e, h0⟩ | ⟨g, cap, cur, e, hg, hh, r⟩
  · cases e; omega
  · cases e
    exact ⟨g, rfl, hg, (Array.getElem?_eq_some_iff.1 hh).1⟩

theorem wpList_copy {P : Program} {w : World} {ops : Array Oper} {rest : List Oper} {o : Oper} {st : Act} {Q : Exit → Act → World → Prop} (hgd : o.guard = none) (s x : Operand) (t : TypeId)
    (ho : o.op = .call { callee := .builtin .append, args := #[s, x], argTypes := #[t, t] })
    (i : TypeInfo) (ht : P.underlying t = some (.slice 27)) (hi : P.info? 27 = some i) (hz : i.zero = some (.int .u64 0)) (hsize : i.size = 1) (hby : i.bytes = 8)
    (hs : st.eval s = .slice (some ⟨w.heap.size, 0, none⟩) 0 0) (A : Option Addr) (m c : Nat) (a : List Nat) (hx : st.eval x = .slice A m c) (hA : A = none → m = 0 ∧ c = 0) (hra : Rd w A m a) (hm : m ≤ 100)
    (h : ∀ A' c' w', Own w' w.heap.size (.slice A' m c') a → Below w.heap.size w w' → wpList P ops Q rest (st.put o.dst (.slice A' m c')) w') :
    wpList P ops Q (o :: rest) st (w.alloc (.cells #[] 27)) := by
  have hown : (w.alloc (.cells #[] 27)).ownsRow w.heap.size 27 1 (.slice (some ⟨w.heap.size, 0, none⟩) 0 0) 0 [] := World.ownsRow_made w #[] 0 (Nat.le_refl _) (Nat.zero_le _) rfl
  have hal := hra.len
  have hB1 : Below w.heap.size w (w.alloc (.cells #[] 27)) := (Below.refl _ w).alloc (Nat.le_refl _) _
  cases A with
  | none =>
    obtain ⟨rfl, rfl⟩ := hA rfl
    have ha : a = [] := List.eq_nil_of_length_eq_zero hal
    subst ha
    exact wpList_append_own_none hgd s x t ho w.heap.size 27 i 1 ht hi _ 0 [] hs hown hx (h _ _ _ ⟨hown, words_nil⟩ hB1)
  | some ad =>
    refine wpList_append_own _ hgd s x t ho w.heap.size 27 i _ 1 8 ht hi hz hsize hby (by rfl) (by omega) _ _ _ hs hown ad m c (a.map u64) hx (by simp [hal]) ?_ ?_ (by simp only [maxLen]; omega) (by omega) (by simp) ?_
    · intro j u hj
      have hjl : j < a.length := by
        have := (List.getElem?_eq_some_iff.1 hj).1
        simpa using this
      obtain ⟨b0, off, e, hlt, hc⟩ := (hra.alloc (.cells #[] 27)).cells (by omega)
      cases e
      have h := hc j (by omega)
      have hu : u = u64 (lim a j) := by
        rw [List.getElem?_map, List.getElem?_eq_getElem hjl] at hj
        simp at hj
        rw [← hj, lim_get hjl]
      rw [hu, ← h]
      congr 1
      unfold Addr.add
      split
      · next h0 => subst h0; simp
      · rfl
    · intro u hu
      obtain ⟨x, _, rfl⟩ := List.mem_map.1 hu
      rfl
    · intro v1 w1 ho1 hg1 _
      have ho2 : Own w1 w.heap.size v1 a := ⟨by rw [hal]; simpa using ho1, hra.words⟩
      obtain ⟨A1, c1, rfl⟩ := own_shape ho2
      rw [hal] at ho2 ⊢
      refine h _ _ _ ho2 (hB1.grown hg1 (by simp) (fun k e => ?_))
      simp [Value.ownBlock] at e
      omega
end Go.Proofs.Ythenngajebkboaa

/- Products of plain numbers: limb by limb, and by splitting. No program in sight. -/
namespace Go.Proofs.Ythenngajebkboaa
set_option linter.unusedVariables false

theorem lim_set {l : List Nat} {i : Nat} (hi : i < l.length) (v k : Nat) : lim (l.set i v) k = if k = i then v else lim l k := by
  unfold lim
  rw [List.getD_eq_getElem?_getD, List.getD_eq_getElem?_getD, List.getElem?_set]
  by_cases h : i = k
  · subst h; simp [hi]
  · rw [if_neg h, if_neg (fun e => h e.symm)]
theorem carry_key {P h l s c1 m t c2 B c : Nat} (e1 : l + B * h = P) (e2 : s + B * c1 = l + c) (e3 : t + B * c2 = m + s) : t + B * (h + c1 + c2) = P + c + m := by
  rw [Nat.mul_add, Nat.mul_add]; omega
theorem two_words {x y m c : Nat} (hx : x < B64) (hy : y < B64) (hm : m < B64) (hc : c < B64) : x * y + c + m < B64 * B64 := by
  obtain ⟨D, hD⟩ : ∃ D, B64 = D + 1 := ⟨B64 - 1, by have := B64_pos; omega⟩
  rw [hD] at hx hy hm hc ⊢
  have h : x * y ≤ D * D := Nat.mul_le_mul (by omega) (by omega)
  have e : (D + 1) * (D + 1) = D * D + D + D + 1 := by rw [Nat.add_mul, Nat.mul_add]; omega
  omega
/-- What one limb of a row comes to, and what is carried. -/
theorem row_carry {x y m c h l s c1 t c2 : Nat} (hx : x < B64) (hy : y < B64) (hm : m < B64) (hc : c < B64) (hh : x * y / B64 = h) (hl : x * y % B64 = l) (hs : (l + c) % B64 = s) (h1 : (l + c) / B64 = c1) (ht : (m + s) % B64 = t) (h2 : (m + s) / B64 = c2) :
    t + B64 * (h + c1 + c2) = x * y + c + m ∧ h + c1 + c2 < B64 ∧ h < B64 ∧ l < B64 ∧ s < B64 ∧ t < B64 := by
  have e1 := Nat.mod_add_div (x * y) B64
  have e2 := Nat.mod_add_div (l + c) B64
  have e3 := Nat.mod_add_div (m + s) B64
  rw [hh, hl] at e1
  rw [hs, h1] at e2
  rw [ht, h2] at e3
  have key := carry_key e1 e2 e3
  have hlt : h + c1 + c2 < B64 := by
    have h3 := two_words hx hy hm hc
    rw [← key] at h3
    exact Nat.lt_of_mul_lt_mul_left (a := B64) (by omega)
  exact ⟨key, hlt, by omega, by rw [← hl]; exact Nat.mod_lt _ B64_pos, by rw [← hs]; exact Nat.mod_lt _ B64_pos, by rw [← ht]; exact Nat.mod_lt _ B64_pos⟩
/-- One limb more of a row. -/
theorem row_step {L L0 b : List Nat} {i j x over limb next : Nat} (hij : i + j < L.length) (hs : limb + B64 * next = x * lim b j + over + lim L (i + j))
    (hv : val L + B64 ^ (i + j) * over = val L0 + B64 ^ i * (x * val (b.take j))) :
    val (L.set (i + j) limb) + B64 ^ (i + (j + 1)) * next = val L0 + B64 ^ i * (x * val (b.take (j + 1))) := by
  have h1 := val_set hij limb
  rw [val_take_succ]
  have e : B64 ^ (i + (j + 1)) * next = B64 ^ (i + j) * (B64 * next) := by rw [← Nat.add_assoc, Nat.pow_succ, Nat.mul_assoc]
  have e2 : B64 ^ i * (x * (val (b.take j) + B64 ^ j * lim b j)) = B64 ^ i * (x * val (b.take j)) + B64 ^ (i + j) * (x * lim b j) := by
    rw [Nat.mul_add, Nat.mul_add, Nat.pow_add, Nat.mul_left_comm x, Nat.mul_assoc]
  rw [e, e2]
  have h2 : B64 ^ (i + j) * (limb + B64 * next) = B64 ^ (i + j) * (x * lim b j + over + lim L (i + j)) := by rw [hs]
  simp only [Nat.mul_add] at h2
  omega
/-- One row more of a product by school. -/
theorem school_step {L L2 a b : List Nat} {i x over : Nat} (hL : Words L) (hb : Words b) (ha : Words a) (hil : i < a.length) (hx : lim a i = x) (hlen : i + b.length < L2.length)
    (hv : val L = val (a.take i) * val b) (h2 : val L2 + B64 ^ (i + b.length) * over = val L + B64 ^ i * (x * val b)) (hs : lim L2 (i + b.length) = lim L (i + b.length)) :
    val (L2.set (i + b.length) over) = val (a.take (i + 1)) * val b := by
  have h0 : lim L (i + b.length) = 0 := by
    apply lim_zero_of_lt hL
    rw [hv, Nat.pow_add]
    have h1 := val_lt (ha.take i)
    have h2 := val_lt hb
    rw [List.length_take, Nat.min_eq_left (by omega)] at h1
    have hp : 0 < B64 ^ b.length := Nat.pow_pos B64_pos
    exact Nat.lt_of_le_of_lt (Nat.mul_le_mul_left _ (Nat.le_of_lt h2)) (Nat.mul_lt_mul_of_pos_right h1 hp)
  have h1 := val_set hlen over
  rw [hs, h0, Nat.mul_zero, Nat.add_zero] at h1
  rw [h1, h2, hv, val_take_succ, hx, Nat.add_mul, Nat.mul_assoc]
/-- Three products of halves make the whole one. -/
theorem kara (a0 a1 b0 b1 p : Nat) : a0 * b0 + ((a0 + a1) * (b0 + b1) - a0 * b0 - a1 * b1) * p + a1 * b1 * (p * p) = (a0 + p * a1) * (b0 + p * b1) := by
  have e : (a0 + a1) * (b0 + b1) - a0 * b0 - a1 * b1 = a0 * b1 + a1 * b0 := by
    rw [Nat.add_mul, Nat.mul_add, Nat.mul_add]; omega
  rw [e]
  simp only [Nat.add_mul, Nat.mul_add]
  have e1 : a0 * (p * b1) = a0 * b1 * p := by rw [Nat.mul_left_comm, Nat.mul_comm]
  have e2 : p * a1 * b0 = a1 * b0 * p := by rw [Nat.mul_assoc, Nat.mul_comm]
  have e3 : p * a1 * (p * b1) = a1 * b1 * (p * p) := by rw [Nat.mul_mul_mul_comm, Nat.mul_comm]
  rw [e1, e2, e3]
  omega
theorem kara_le (a0 a1 b0 b1 : Nat) : a0 * b0 ≤ (a0 + a1) * (b0 + b1) ∧ a1 * b1 ≤ (a0 + a1) * (b0 + b1) - a0 * b0 := by
  rw [Nat.add_mul, Nat.mul_add, Nat.mul_add]; omega
theorem val_split (l : List Nat) {p : Nat} (h : p ≤ l.length) : val l = val (l.take p) + B64 ^ p * val (l.drop p) := by
  conv => lhs; rw [← List.take_append_drop p l]
  rw [val_append, List.length_take, Nat.min_eq_left h]
theorem val_split' (l : List Nat) (p : Nat) : val l = val (l.take p) + B64 ^ p * val (l.drop p) := by
  by_cases h : p ≤ l.length
  · exact val_split l h
  · rw [List.drop_eq_nil_of_le (by omega), List.take_of_length_le (by omega)]; rfl
theorem may_drop {l : List Nat} (h : may l = true) (p : Nat) : may (l.drop p) = true := by
  unfold may at h ⊢
  rw [List.getLast?_drop]
  split
  · rfl
  · exact h
/-- What is split is together less than it was, where there is a high part, and never more. -/
theorem split_le (l : List Nat) {p : Nat} : val (l.take p) + val (l.drop p) ≤ val l := by
  have h := val_split' l p
  have hp : 1 ≤ B64 ^ p := Nat.pow_pos B64_pos
  have := Nat.mul_le_mul_right (val (l.drop p)) hp
  omega
theorem split_lt {l : List Nat} {p : Nat} (hm : may l = true) (h0 : 0 < p) (hp : p < l.length) : val (l.take p) + val (l.drop p) < val l := by
  have h := val_split' l p
  have h1 : 0 < val (l.drop p) := val_pos (may_drop hm p) (by simp; omega)
  have hp : 2 ≤ B64 ^ p := by
    obtain ⟨q, rfl⟩ : ∃ q, p = q + 1 := ⟨p - 1, by omega⟩
    rw [Nat.pow_succ]
    have h2 : 1 ≤ B64 ^ q := Nat.pow_pos B64_pos
    have h3 : 2 ≤ B64 := B64_gt
    have := Nat.mul_le_mul h2 h3
    omega
  have := Nat.mul_le_mul_right (val (l.drop p)) hp
  omega
theorem length_mul {l m : List Nat} (hl : Words l) (hm : Words m) : (limbs (val l * val m)).length ≤ l.length + m.length := by
  apply limbs_length_le
  rw [Nat.pow_add]
  have h1 := val_lt hl
  have h2 := val_lt hm
  have hp : 0 < B64 ^ m.length := Nat.pow_pos B64_pos
  exact Nat.lt_of_le_of_lt (Nat.mul_le_mul_left _ (Nat.le_of_lt h2)) (Nat.mul_lt_mul_of_pos_right h1 hp)
theorem length_of_le {l : List Nat} {n : Nat} (hl : Words l) (h : n ≤ val l) : (limbs n).length ≤ l.length := limbs_length_le (Nat.lt_of_le_of_lt h (val_lt hl))
theorem limbs_up {l : List Nat} (hw : Words l) (hm : may l = true) (h : l ≠ []) (p : Nat) : List.replicate p 0 ++ l = limbs (val l * B64 ^ p) := by
  have e : val (List.replicate p 0 ++ l) = val l * B64 ^ p := by rw [val_append, val_zeros, List.length_replicate, Nat.zero_add, Nat.mul_comm]
  rw [← e, limbs_val (words_append (words_zeros p) hw)]
  unfold may at hm ⊢
  rw [List.getLast?_append]
  cases e2 : l.getLast? with
  | none => exact absurd (List.getLast?_eq_none_iff.1 e2) h
  | some x => rw [e2] at hm; exact hm
end Go.Proofs.Ythenngajebkboaa
