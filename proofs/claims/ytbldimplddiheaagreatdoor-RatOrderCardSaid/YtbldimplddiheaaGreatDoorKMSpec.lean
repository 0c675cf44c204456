import Derived.Test.YtbldimplddiheaaGreatDoorKUp
import Derived.Laws.AppendOwnNone
import Derived.Test.YtbldimplddiheaaGreatDoorKPower
/- Copy PowCall MAlive MSpec. -/
/- Copies of what is handed in, and rows whose cells are turned in place. -/
namespace Go.Proofs.YtbldimplddiheaaGreatDoor
open Go.RowKit Go.Shelf
set_option linter.unusedVariables false
set_option linter.unusedSimpArgs false

theorem own_keepsOf {w w' : World} {B : Nat} {v : Value} {l : List Nat} {S : Nat → Prop} (h : Own w B v l) (hk : KeepsOf S w w') (hS : ∀ k, v.ownBlock = some k → S k) : Own w' B v l := by
  refine ⟨⟨h.1.1, ?_⟩, h.2⟩
  rcases h.1.2 with h2 | ⟨g, cap, cur, e, hg, hh, r⟩
  · exact .inl h2
  · exact .inr ⟨g, cap, cur, e, hg, (hk.2 g (hS g (by rw [e]; rfl))).trans hh, r⟩
theorem incr_word (x : Nat) : IntKind.u64.wrap ((x : Int) + 1) = (((x + 1) % B64 : Nat) : Int) := by
  rw [show ((x : Int) + 1) = ((x + 1 : Nat) : Int) by omega, u64_wrap_nat]
/-- The blocks below a world's end, but for a row's own one. -/
def But (n : Nat) (v : Value) (k : Nat) : Prop := k < n ∧ v.ownBlock ≠ some k
theorem set_keeps {w wl : World} {n g m c : Nat} (i : Nat) (u : Value) (hk : KeepsOf (But n (.slice (some ⟨g, 0, none⟩) m c)) wl w) : KeepsOf (But n (.slice (some ⟨g, 0, none⟩) m c)) wl (w.setCell ⟨g, i, none⟩ u) := by
  refine hk.trans ⟨by simp [World.setCell], fun k hS => ?_⟩
  have h : some g ≠ some k := hS.2
  simp [World.setCell, Array.getElem?_modify]
  intro e
  exact absurd (by rw [e]) h
theorem drew_keeps {w wl : World} {S : Nat → Prop} (hk : KeepsOf S wl w) : KeepsOf S wl w.drew := hk.trans ⟨Nat.le_refl _, fun _ _ => rfl⟩
theorem own_drew {w : World} {B : Nat} {v : Value} {l : List Nat} (h : Own w B v l) : Own w.drew B v l := h.below (Below.refl _ w).drew
theorem rd_but {w wl : World} {A A2 : Option Addr} {n m c : Nat} {l l2 : List Nat} {B : Nat} (h : Rd wl A n l) (ho : Own wl B (.slice A2 m c) l2) (hlt : 0 < n → ∀ b off, A = some ⟨b, off, none⟩ → b < B)
    (hk : KeepsOf (But wl.heap.size (.slice A2 m c)) wl w) : Rd w A n l :=
  hk.rd h fun hn b off e => ⟨h.lt hn b off e, fun e2 => by have h1 := (ho.1.lt b e2).1; have h2 := hlt hn b off e; omega⟩
theorem own_but {w wl : World} {v : Value} {A2 : Option Addr} {m c : Nat} {l l2 : List Nat} {B D : Nat} (h : Own wl D v l) (ho : Own wl B (.slice A2 m c) l2) (hlt : ∀ k, (Value.slice A2 m c).ownBlock = some k → k < D)
    (hk : KeepsOf (But wl.heap.size (.slice A2 m c)) wl w) : Own w D v l :=
  own_keepsOf h hk fun k e => ⟨(h.1.lt k e).2, fun e2 => by have h1 := (h.1.lt k e).1; have h2 := hlt k e2; omega⟩
theorem own_at {w : World} {B n c : Nat} {A : Option Addr} {l : List Nat} (h : Own w B (.slice A n c) l) (hn : 0 < n) : ∃ g, A = some ⟨g, 0, none⟩ ∧ B ≤ g ∧ g < w.heap.size := by
  rcases h.1.2 with ⟨e, h0⟩ | ⟨g, cap, cur, e, hg, hh, r⟩
  · cases e; omega
  · cases e
    exact ⟨g, rfl, hg, (Array.getElem?_eq_some_iff.1 hh).1⟩

theorem wpList_copy {P : Program} {w : World} {ops : Array Oper} {rest : List Oper} {o : Oper} {st : Act} {Q : Exit → Act → World → Prop} (hgd : o.guard = none) (s x : Operand) (t : TypeId)
    (ho : o.op = .call { callee := .builtin .append, args := #[s, x], argTypes := #[t, t] })
    (i : TypeInfo) (ht : P.underlying t = some (.slice 63)) (hi : P.info? 63 = some i) (hz : i.zero = some (.int .u64 0)) (hsize : i.size = 1) (hby : i.bytes = 8)
    (hs : st.eval s = .slice (some ⟨w.heap.size, 0, none⟩) 0 0) (A : Option Addr) (m c : Nat) (a : List Nat) (hx : st.eval x = .slice A m c) (hA : A = none → m = 0 ∧ c = 0) (hra : Rd w A m a) (hm : m ≤ 100)
    (h : ∀ A' c' w', Own w' w.heap.size (.slice A' m c') a → Below w.heap.size w w' → wpList P ops Q rest (st.put o.dst (.slice A' m c')) w') :
    wpList P ops Q (o :: rest) st (w.alloc (.cells #[] 63)) := by
  have hown : (w.alloc (.cells #[] 63)).ownsRow w.heap.size 63 1 (.slice (some ⟨w.heap.size, 0, none⟩) 0 0) 0 [] := World.ownsRow_made w #[] 0 (Nat.le_refl _) (Nat.zero_le _) rfl
  have hal := hra.len
  have hB1 : Below w.heap.size w (w.alloc (.cells #[] 63)) := (Below.refl _ w).alloc (Nat.le_refl _) _
  cases A with
  | none =>
    obtain ⟨rfl, rfl⟩ := hA rfl
    have ha : a = [] := List.eq_nil_of_length_eq_zero hal
    subst ha
    exact wpList_append_own_none hgd s x t ho w.heap.size 63 i 1 ht hi _ 0 [] hs hown hx (h _ _ _ ⟨hown, words_nil⟩ hB1)
  | some ad =>
    refine wpList_append_own _ hgd s x t ho w.heap.size 63 i _ 1 8 ht hi hz hsize hby (by rfl) (by omega) _ _ _ hs hown ad m c (a.map u64) hx (by simp [hal]) ?_ ?_ (by simp only [maxLen]; omega) (by omega) (by simp) ?_
    · intro j u hj
      have hjl : j < a.length := by
        have := (List.getElem?_eq_some_iff.1 hj).1
        simpa using this
      obtain ⟨b0, off, e, hlt, hc⟩ := (hra.alloc (.cells #[] 63)).cells (by omega)
      cases e
      have h := hc j (by omega)
      have hu : u = u64 (lim a j) := by
        rw [List.getElem?_map, List.getElem?_eq_getElem hjl] at hj
        simp at hj
        rw [← hj, lim_get hjl]
      rw [hu, ← h]
      congr 1
      unfold Addr.add
      split
      · next h0 => subst h0; simp
      · rfl
    · intro u hu
      obtain ⟨x, _, rfl⟩ := List.mem_map.1 hu
      rfl
    · intro v1 w1 ho1 hg1 _
      have ho2 : Own w1 w.heap.size v1 a := ⟨by rw [hal]; simpa using ho1, hra.words⟩
      obtain ⟨A1, c1, rfl⟩ := own_shape ho2
      rw [hal] at ho2 ⊢
      refine h _ _ _ ho2 (hB1.grown hg1 (by simp) (fun k e => ?_))
      simp [Value.ownBlock] at e
      omega
end Go.Proofs.YtbldimplddiheaaGreatDoor

/- mul.Pow: powers, and what is refused. -/
namespace Go.Proofs.YtbldimplddiheaaGreatDoor
open Go.RowKit Go.Shelf
set_option linter.unusedVariables false

theorem pow_fits {v n k N : Nat} (hb : n * blen v ≤ 65536) (hk : k ≤ n) (hN : 1025 ≤ N) : v ^ k < B64 ^ N := by
  have h1 : v ^ k ≤ (2 ^ blen v) ^ k := Nat.pow_le_pow_left (Nat.le_of_lt (blen_lt v)) k
  rw [← Nat.pow_mul] at h1
  have h2 : blen v * k ≤ 65536 := Nat.le_trans (by rw [Nat.mul_comm]; exact Nat.mul_le_mul_right _ hk) hb
  obtain ⟨M, hM⟩ : ∃ M, M = 1024 := ⟨_, rfl⟩
  have h3 : 2 ^ (blen v * k) ≤ B64 ^ M := pow_le_B64 (by omega)
  have h4 : B64 ^ M < B64 ^ N := Nat.pow_lt_pow_right B64_gt (by omega)
  exact Nat.lt_of_le_of_lt (Nat.le_trans h1 h3) h4
theorem nm_lt {w : World} {A : Option Addr} {n c v N : Nat} (h : Nm w A n c v) (hn : n ≤ N) : v < B64 ^ N := Nat.lt_of_lt_of_le h.lt (Nat.pow_le_pow_right B64_pos hn)

section
variable (A : Option Addr) (na ca : Nat) (w : World)

theorem quo_nat {n q : Nat} (h : 65536 / n = q) : Int.tdiv 65536 (n : Int) = (q : Int) := by
  rw [Int.tdiv_eq_ediv_of_nonneg (by omega), ← h]; rfl
theorem quo_wrap {n q : Nat} (h : 65536 / n = q) : wrap64 (q : Int) = (q : Int) := by
  have h1 : q ≤ 65536 := by rw [← h]; exact Nat.div_le_self _ _
  exact IntWalk.wrap64_in _ ⟨by omega, by omega⟩

end
end Go.Proofs.YtbldimplddiheaaGreatDoor

/- The law MulNames, and the chapter's first examples. -/
namespace Go.Proofs.YtbldimplddiheaaGreatDoor
open Go.RowKit Go.Shelf
set_option linter.unusedVariables false

section
variable (A A2 : Option Addr) (na ca nb cb v u : Nat) (w : World)
theorem mul_nm (hva : Nm w A na ca v) (hub : Nm w A2 nb cb u) (hna : na ≤ 100000) (hnb : nb ≤ 100000) :
    Calls Tryz.prog 76 #[.slice A na ca, .slice A2 nb cb] w fun e w' => ∃ A' k c, e = .returned (.tuple #[.slice A' k c, .int .i64 0]) ∧ Own w' w.heap.size (.slice A' k c) (limbs (v * u)) ∧ Below w.heap.size w w' := by
  obtain ⟨N, hN⟩ : ∃ N, N = 100000 := ⟨_, rfl⟩
  exact Mul_ok A A2 na ca nb cb v u N w hva hub (by omega) (nm_lt hva (by omega)) (nm_lt hub (by omega))
end

theorem nm_new1 (w : World) (x : Nat) (T : TypeId) (hx : x < B64) (h0 : (x != 0) = true) : Nm (w.alloc (.cells #[u64 x] T)) (some ⟨w.heap.size, 0, none⟩) 1 1 x := by
  have h := nm_of (c := 1) (rd_new1 w x T hx) (by simpa [may] using h0) (by omega) (by omega)
  simpa [val] using h
theorem nm_new2 (w : World) (x y : Nat) (T : TypeId) (hx : x < B64) (hy : y < B64) (h0 : (y != 0) = true) : Nm (w.alloc (.cells #[u64 x, u64 y] T)) (some ⟨w.heap.size, 0, none⟩) 2 2 (x + B64 * y) := by
  have h := nm_of (c := 2) (rd_new2 w x y T hx hy) (by simpa [may] using h0) (by omega) (by omega)
  simpa [val] using h
/-- 2^64 - 2. -/
def top2 : Nat := 18446744073709551614
theorem top2_lt : top2 < B64 := by unfold top2; rw [B64_eq]; omega
theorem top2_cast : ((top2 : Nat) : Int) = 18446744073709551614 := rfl
theorem top_ne : (top != 0) = true := rfl
theorem top_sq : limbs (top * top) = [1, top2] := by
  have e : top * top = val [1, top2] := by simp [val, B64_eq, top, top2]
  rw [e]
  exact limbs_val (words_cons B64_gt (words_cons top2_lt words_nil)) rfl
/-- 10^20's lower limb. -/
def ten20 : Nat := 7766279631452241920
theorem ten20_lt : ten20 < B64 := by unfold ten20; rw [B64_eq]; omega
theorem ten20_cast : ((ten20 : Nat) : Int) = 7766279631452241920 := rfl
theorem ten_pow : limbs (10 ^ 20) = [ten20, 5] := by
  have e : 10 ^ 20 = val [ten20, 5] := by simp [val, B64_eq, ten20]
  rw [e]
  exact limbs_val (words_cons ten20_lt (words_cons (small_lt (by omega)) words_nil)) rfl
theorem ten_len : 20 * blen 10 ≤ 65536 := by
  have := blen_le (v := 10) (k := 4) (by omega)
  omega
theorem five_zero : limbs (0 * 5) = [] := by rw [Nat.zero_mul, limbs_zero]

theorem two64_many : 65536 < 1024 * blen (0 + B64 * 1) := by
  have : blen (0 + B64 * 1) = 65 := by
    apply blen_eq <;> rw [B64_eq] <;> simp
  omega

end Go.Proofs.YtbldimplddiheaaGreatDoor

/- The calls of mul and nat by numbers, for laws. -/
namespace Go.Proofs.YtbldimplddiheaaGreatDoor
open Go.RowKit Go.Shelf
set_option linter.unusedVariables false

section
variable (A A2 : Option Addr) (na ca nb cb v u : Nat) (w : World)
theorem add_nm (hva : Nm w A na ca v) (hub : Nm w A2 nb cb u) (hna : na ≤ 100000) (hnb : nb ≤ 100000) :
    Calls Tryz.prog 110 #[.slice A na ca, .slice A2 nb cb] w fun e w' => ∃ A' k c, e = .returned (.tuple #[.slice A' k c, .int .i64 0]) ∧ Own w' w.heap.size (.slice A' k c) (limbs (v + u)) ∧ Below w.heap.size w w' := by
  have h := add_ok A A2 na ca nb cb (limbs v) (limbs u) w hva.rd hub.rd (by omega) (by omega) (by simp [may_limbs])
  rwa [val_limbs, val_limbs] at h
theorem same_eq (hva : Nm w A na ca v) (hub : Nm w A2 nb cb u) (hna : na ≤ 100000) (hnb : nb ≤ 100000) (h : v = u) :
    Calls Tryz.prog 52 #[.slice A na ca, .slice A2 nb cb] w fun e w' => e = .returned (.bool true) ∧ Below w.heap.size w w' := by
  subst h
  have h := same_any A A2 na ca nb cb (limbs v) (limbs v) w hva.rd hub.rd (by omega) (by omega)
  rwa [decide_eq_true rfl] at h
theorem up_nm (b : Nat) (hva : Nm w A na ca v) (hna : na ≤ 100000) (hb : b ≤ 65536) :
    Calls Tryz.prog 173 #[.slice A na ca, .int .i64 (b : Int)] w fun e w' => ∃ A' k c, e = .returned (.tuple #[.slice A' k c, .int .i64 0]) ∧ Own w' w.heap.size (.slice A' k c) (limbs (v * 2 ^ b)) ∧ Below w.heap.size w w' := by
  have h := up_ok A na ca (limbs v) b _ _ w hva.rd (by omega) (may_limbs v) hb rfl rfl
  rwa [val_limbs] at h
variable {A A2 : Option Addr} {na ca nb cb v u : Nat} {w w2 : World}
theorem mul_len (hva : Nm w A na ca v) (hub : Nm w2 A2 nb cb u) : (limbs (v * u)).length ≤ na + nb := by
  apply limbs_length_le
  rw [Nat.pow_add]
  exact Nat.lt_of_le_of_lt (Nat.mul_le_mul_left _ (Nat.le_of_lt hub.lt)) (Nat.mul_lt_mul_of_pos_right hva.lt (Nat.pow_pos B64_pos))
theorem add_len (hva : Nm w A na ca v) (hub : Nm w2 A2 nb cb u) {n : Nat} (h1 : na ≤ n) (h2 : nb ≤ n) : (limbs (v + u)).length ≤ n + 1 := by
  have h := length_le_of_val (words_limbs v) (words_limbs u) (n := n) (by rw [hva.rd.len]; exact h1) (by rw [hub.rd.len]; exact h2)
  rwa [val_limbs, val_limbs] at h
theorem pow_len (hva : Nm w A na ca v) {n N : Nat} (h : na * n ≤ N) : (limbs (v ^ n)).length ≤ N + 1 := by
  apply limbs_length_le
  have h1 := Nat.pow_le_pow_left (Nat.le_of_lt hva.lt) n
  rw [← Nat.pow_mul] at h1
  exact Nat.lt_of_le_of_lt h1 (Nat.pow_lt_pow_right B64_gt (by omega))
theorem up_len (hva : Nm w A na ca v) {b : Nat} (hb : b ≤ 2000) : (limbs (v * 2 ^ b)).length ≤ na + 32 := by
  have h := length_shift (words_limbs v) (n := na) (b := b) (by rw [hva.rd.len]; exact Nat.le_refl _) hb
  rwa [val_limbs] at h
theorem nm_blen (hva : Nm w A na ca v) {n : Nat} (h : na ≤ n) : blen v ≤ 64 * n := by
  apply blen_le
  rw [← B64_pow]
  exact Nat.lt_of_lt_of_le hva.lt (Nat.pow_le_pow_right B64_pos h)
end
section
variable (A A2 : Option Addr) (na ca nb cb : Nat) (a b : List Nat) (w : World)
/-- mul's Mul, whatever the numbers are. -/
def mulL (a b : List Nat) : List Nat := if both a b = true then limbs (val a * val b) else []
theorem mul_spec (hra : Rd w A na a) (hrb : Rd w A2 nb b) (hna : na ≤ 100000) (hnb : nb ≤ 100000) (h1 : na ≤ ca ∧ ca ≤ 9223372036854775807) (h2 : nb ≤ cb ∧ cb ≤ 9223372036854775807) :
    Calls Tryz.prog 76 #[.slice A na ca, .slice A2 nb cb] w (Answers w (mulL a b) (err2 a b)) := by
  cases h : both a b with
  | true =>
    have e1 : mulL a b = limbs (val a * val b) := by simp [mulL, h]
    have e2 : err2 a b = 0 := by simp [err2, h]
    rw [e1, e2]
    have hm : may a = true ∧ may b = true := by simpa [both] using h
    exact mul_nm A A2 na ca nb cb (val a) (val b) w (nm_of hra hm.1 h1.1 h1.2) (nm_of hrb hm.2 h2.1 h2.2) hna hnb
  | false =>
    have e1 : mulL a b = [] := by simp [mulL, h]
    have e2 : err2 a b = 8 := by simp [err2, h]
    rw [e1, e2]
    refine (Mul_bad A A2 na ca nb cb a b w hra hrb (by omega) (by omega) (by rw [both_all]; exact h)).mono ?_
    rintro e w' ⟨rfl, hb⟩
    exact answers_nil hb
end
end Go.Proofs.YtbldimplddiheaaGreatDoor
