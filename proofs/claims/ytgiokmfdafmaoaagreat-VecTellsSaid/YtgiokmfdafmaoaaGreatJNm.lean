import Derived.Test.YtgiokmfdafmaoaaGreatJAddRow
import Derived.Test.YtgiokmfdafmaoaaGreatJSame
/- School Nm. -/
/- (mul.number).school: products by school. -/
namespace Go.Proofs.YtgiokmfdafmaoaaGreat
open Go.RowKit Go.Shelf
set_option linter.unusedVariables false

theorem own_nil (w : World) (B : Nat) : Own w B (.slice none 0 0) [] := ⟨World.ownsRow_nil _ _ _ _, words_nil⟩
theorem limbs_none {a b : List Nat} (h : a.length = 0 ∨ b.length = 0) : limbs (val a * val b) = [] := by
  rcases h with h | h
  · rw [List.eq_nil_of_length_eq_zero h, val_nil, Nat.zero_mul, limbs_zero]
  · rw [List.eq_nil_of_length_eq_zero h, val_nil, Nat.mul_zero, limbs_zero]

set_option maxRecDepth 100000 in
set_option maxHeartbeats 2000000 in
theorem school_any (A A2 : Option Addr) (na ca nb cb : Nat) (a b : List Nat) (w : World) (hra : Rd w A na a) (hrb : Rd w A2 nb b) (hna : na ≤ 1073741824) (hnb : nb ≤ 1073741824) :
    Calls Tryz.prog 136 #[.slice A na ca, .slice A2 nb cb] w fun e w' => ∃ A' k c, e = .returned (.slice A' k c) ∧ Own w' w.heap.size (.slice A' k c) (limbs (val a * val b)) ∧ Below w.heap.size w w' := by
  by_cases h0 : na = 0 ∨ nb = 0
  · have hl := limbs_none (a := a) (b := b) (by rw [hra.len, hrb.len]; exact h0)
    have HL := Lib.hid hl
    clear hl hra hrb
    by_cases ha : na = 0
    · subst ha
      go_enter Tryz.func136, Tryz.ntmps136
      go_wp2
      go_ret
      exact ⟨_, _, _, rfl, by rw [HL.out]; exact own_nil _ _, Below.refl _ _⟩
    · obtain rfl : nb = 0 := by omega
      have ha2 : ((na : Int) == 0) = false := by simp; omega
      go_enter Tryz.func136, Tryz.ntmps136
      go_wp2
      go_ret
      exact ⟨_, _, _, rfl, by rw [HL.out]; exact own_nil _ _, Below.refl _ _⟩
  · have ha2 : ((na : Int) == 0) = false := by simp; omega
    have hb2 : ((nb : Int) == 0) = false := by simp; omega
    have hmk := fun W => run_make_row' (P := Tryz.prog) 131 36 (.int .u64 0) 8 Tryz.underlying131 u64_info rfl .i64 .i64 (na + nb) (by omega) (by omega) W
    rw [show ((na + nb : Nat) : Int) = (na : Int) + (nb : Int) by omega] at hmk
    have hblt := hrb.lt
    have hz := RowL.zeros w (na + nb)
    have hB2 := (Below.refl w.heap.size w).alloc (Nat.le_refl _) (.cells (madeCells #[.int .u64 0] (na + nb)) 36)
    have hnz : 0 < na ∧ 0 < nb := by omega
    have HL := Lib.hid h0
    clear h0
    go_enter Tryz.func136, Tryz.ntmps136
    go_wp2
    clear hmk ha2 hb2
    generalize hW2 : w.alloc (.cells (madeCells #[.int .u64 0] (na + nb)) 36) = w2 at *
    clear hW2
    go_loopw [24] (fun i wr => ∃ (k : Nat) (l : List Nat), k ≤ na ∧ i = .int .i64 (k : Int) ∧ RowL wr w.heap.size l ∧ l.length = na + nb ∧ Words l ∧ val l = val (a.take k) * val b ∧ Below w.heap.size w wr) (fun i _ => na - (intOf i).toNat)
    case atStart => exact ⟨0, _, by omega, rfl, hz, by simp, words_zeros _, by rw [val_zeros]; simp [val], hB2⟩
    case round =>
      obtain ⟨k, l, hk, rfl, hrow, hlen, hwl, hval, hB⟩ := hrel
      clear hz hB2
      by_cases hlt : k < na
      · obtain ⟨b1, o1, rfl, _, hc1⟩ := (hra.below hB).cells (by omega)
        have hca := hc1 k hlt
        have hx := hra.words.get k
        obtain ⟨x, hxe⟩ : ∃ x, lim a k = x := ⟨_, rfl⟩
        rw [hxe] at hca hx
        have hne : ¬ (na + nb = k) := by omega
        have hrb2 := hrb.below hB
        have HV := Lib.hid hval
        have HX := Lib.hid hxe
        have HA := Lib.hid hra
        have HR := Lib.hid hrow
        have HB := Lib.hid hrb2
        have hbl : b.length = nb := hrb.len
        have HBL := Lib.hid hbl
        have HBW := Lib.hid hrb.words
        clear hc1 hval hxe hra hrow hrb2 hbl hrb
        go_wp2_with (go_at_call 144; refine (addRow_any w.heap.size k _ _ (na + nb) l x A2 nb cb b _ HR.out hlen hwl hx HB.out hblt (by omega) (by omega) (by omega)).mono ?_; rintro e w3 ⟨L2, over, rfl, hov, hrow2, hlen2, hw2, hv2, hs2, hB3⟩; have hc2 : w3.cell? ⟨w.heap.size, k + nb, none⟩ = some (u64 (lim L2 (k + nb))) := hrow2.cell (by omega); have hf2 := hrow2.frozen (k + nb); have HR2 := Lib.hid hrow2; have HV2 := Lib.hid hv2; have HS2 := Lib.hid hs2; clear hrow2 hv2 hs2)
        go_roundw
        case rel =>
          refine ⟨k + 1, _, by omega, by go_num, HR2.out.set (k + nb) over, by simp [hlen2], words_set hw2 hov, ?_, (hB.trans hB3).setCell (p := ⟨w.heap.size, k + nb, none⟩) (Nat.le_refl _) _⟩
          have e := school_step (L2 := L2) (over := over) hwl HBW.out HA.out.words (by rw [HA.out.len]; exact hlt) HX.out (by rw [HBL.out]; omega) HV.out (by rw [HBL.out]; exact HV2.out) (by rw [HBL.out]; exact HS2.out _ (Nat.le_refl _))
          rwa [HBL.out] at e
        case measure => simp [intOf]; omega
      · have hkn : k = na := by omega
        have hv2 : val l = val a * val b := by rw [hval, hkn, val_take_all (by rw [hra.len]; omega)]
        have HV := Lib.hid hv2
        have HROW := Lib.hid hrow
        clear hval hv2 hrow hkn hra hrb
        go_wp2_with (go_at_call 145; refine (trimM_any _ _ _ l wr (HROW.out.own (B := w.heap.size) (Nat.le_refl _) hwl hlen (by simp only [maxLen]; omega)).rd.1 (by omega) (by omega)).mono ?_; rintro e w' ⟨⟨k2, hk2, rfl, ht⟩, rfl⟩; have HT := Lib.hid ht; clear ht)
        go_ret
        refine ⟨_, k2, _, rfl, ?_, hB⟩
        rw [← HV.out, ← HT.out]
        exact own_trim (HROW.out.own (B := w.heap.size) (Nat.le_refl _) hwl hlen (by simp only [maxLen]; omega)) (by omega)
end Go.Proofs.YtgiokmfdafmaoaaGreat

/- Numbers that are handed on: a slice that has a number's own limbs; its parts below a place, and from it on. -/
namespace Go.Proofs.YtgiokmfdafmaoaaGreat
open Go.RowKit Go.Shelf
set_option linter.unusedVariables false

/-- The slice '.slice A n c' is the number v. -/
structure Nm (w : World) (A : Option Addr) (n c : Nat) (v : Nat) : Prop where
  rd : Rd w A n (limbs v)
  nc : n ≤ c
  cm : c ≤ 9223372036854775807

theorem Nm.below {w w' : World} {A : Option Addr} {n c v : Nat} (h : Nm w A n c v) (hb : Below w.heap.size w w') : Nm w' A n c v := ⟨h.rd.below hb, h.nc, h.cm⟩
theorem Own.nm {w : World} {B v : Nat} {A : Option Addr} {n c : Nat} (h : Own w B (.slice A n c) (limbs v)) : Nm w A n c v := ⟨h.rd.1, h.rd.2.2.1, h.rd.2.2.2⟩
theorem nm_of {w : World} {A : Option Addr} {n c : Nat} {l : List Nat} (h : Rd w A n l) (hm : may l = true) (hc : n ≤ c) (hc2 : c ≤ 9223372036854775807) : Nm w A n c (val l) :=
  ⟨by rw [limbs_val h.words hm]; exact h, hc, hc2⟩
theorem Nm.len {w : World} {A : Option Addr} {n c v : Nat} (h : Nm w A n c v) {N : Nat} (hv : v < B64 ^ N) : n ≤ N := by rw [← h.rd.len]; exact limbs_length_le hv
theorem Nm.lt {w : World} {A : Option Addr} {n c v : Nat} (h : Nm w A n c v) : v < B64 ^ n := by
  have := val_lt (words_limbs v)
  rwa [val_limbs, h.rd.len] at this
theorem Nm.zero {w : World} {A : Option Addr} {n c v : Nat} (h : Nm w A n c v) : n = 0 ↔ v = 0 := by
  have e1 := h.rd.len
  constructor
  · intro e; exact limbs_eq_nil.1 (List.eq_nil_of_length_eq_zero (by omega))
  · intro e; rw [← e1, limbs_eq_nil.2 e]; rfl

theorem below_new {w w2 : World} {o : Obj} (h : Below (w.alloc o).heap.size (w.alloc o) w2) : Below w.heap.size w w2 := below_then ((Below.refl _ w).alloc (Nat.le_refl _) o) h
/-! ### Low and high parts -/
theorem val_take_mod {l : List Nat} (h : Words l) (p : Nat) : val (l.take p) = val l % B64 ^ p := by
  have e := val_split' l p
  have h1 := val_lt (h.take p)
  have h2 : B64 ^ (l.take p).length ≤ B64 ^ p := Nat.pow_le_pow_right B64_pos (by rw [List.length_take]; omega)
  rw [e, Nat.add_mul_mod_self_left, Nat.mod_eq_of_lt (by omega)]
theorem val_drop_div {l : List Nat} (h : Words l) (p : Nat) : val (l.drop p) = val l / B64 ^ p := by
  have e := val_split' l p
  have h1 := val_lt (h.take p)
  have h2 : B64 ^ (l.take p).length ≤ B64 ^ p := Nat.pow_le_pow_right B64_pos (by rw [List.length_take]; omega)
  rw [e, Nat.add_mul_div_left _ _ (Nat.pow_pos B64_pos), Nat.div_eq_of_lt (by omega), Nat.zero_add]
theorem limbs_take (v p : Nat) : val ((limbs v).take p) = v % B64 ^ p := by rw [val_take_mod (words_limbs v), val_limbs]
theorem limbs_drop (v p : Nat) : (limbs v).drop p = limbs (v / B64 ^ p) := by
  have e := limbs_val ((words_limbs v).drop p) (may_drop (may_limbs v) p)
  rw [← e, val_drop_div (words_limbs v), val_limbs]
theorem parts_le (v p : Nat) : v % B64 ^ p + v / B64 ^ p ≤ v := by
  have h := split_le (limbs v) (p := p)
  rwa [limbs_take, limbs_drop, val_limbs, val_limbs] at h
theorem parts_lt {v p : Nat} (h0 : 0 < p) (hp : p < (limbs v).length) : v % B64 ^ p + v / B64 ^ p < v := by
  have h := split_lt (may_limbs v) h0 hp
  rwa [limbs_take, limbs_drop, val_limbs, val_limbs] at h
theorem rd_sliced {w : World} {A : Option Addr} {n c p : Nat} {l : List Nat} (h : Rd w A n l) (hp : p ≤ n) (hc : n ≤ c) : Rd w (if c = p then A else A.map (·.add p)) (n - p) (l.drop p) := by
  refine ⟨by rw [List.length_drop, h.len], h.words.drop p, fun hn => ?_⟩
  obtain ⟨b, off, rfl, hlt, hcell⟩ := h.cells (by omega)
  refine ⟨b, off + p, ?_, hlt, fun i hi => ?_⟩
  · rw [if_neg (by omega), Option.map_some, Addr.add_lit]
  · have e := hcell (p + i) (by omega)
    rw [Nat.add_assoc, e]
    simp [lim, List.getD_eq_getElem?_getD, List.getElem?_drop]
theorem nm_high {w : World} {A : Option Addr} {n c p v : Nat} (h : Nm w A n c v) (hp : p ≤ n) : Nm w (if c = p then A else A.map (·.add p)) (n - p) (c - p) (v / B64 ^ p) := by
  refine ⟨?_, by have := h.nc; omega, by have := h.cm; omega⟩
  rw [← limbs_drop]
  exact rd_sliced h.rd hp h.nc
theorem nm_zero (w : World) (A : Option Addr) {c : Nat} (hc : c ≤ 9223372036854775807) : Nm w A 0 c 0 := ⟨by rw [limbs_zero]; exact rd_nil w A, Nat.zero_le _, hc⟩
theorem div_zero_of_len {w : World} {A : Option Addr} {n c p v : Nat} (h : Nm w A n c v) (hp : n ≤ p) : v / B64 ^ p = 0 ∧ v % B64 ^ p = v := by
  have h1 := h.lt
  have h2 : B64 ^ n ≤ B64 ^ p := Nat.pow_le_pow_right B64_pos hp
  exact ⟨Nat.div_eq_of_lt (by omega), Nat.mod_eq_of_lt (by omega)⟩

theorem take_take_len {l : List Nat} {k : Nat} (hk : k ≤ l.length) (h : l.take k = limbs (val l)) : k = (limbs (val l)).length := by
  rw [← h, List.length_take]; omega
/-- trim's answer, as one value. -/
theorem trimM_val (A : Option Addr) (n c : Nat) (l : List Nat) (w : World) (h : Rd w A n l) (hc0 : n ≤ c) (hc1 : c ≤ 9223372036854775807) :
    Calls Tryz.prog 145 #[.slice A n c] w fun e w' => e = .returned (.slice A (limbs (val l)).length c) ∧ w' = w :=
  (trimM_any A n c l w h hc0 hc1).mono fun e w' ⟨⟨k, hk, he, ht⟩, hw⟩ => ⟨by rw [he, ← take_take_len (by rw [h.len]; exact hk) ht], hw⟩
theorem take_own {l : List Nat} (h : Words l) : l.take (limbs (val l)).length = limbs (val l) := by
  induction l with
  | nil => rw [val_nil, limbs_zero]; rfl
  | cons x r ih =>
    have hx := h.head
    by_cases h0 : x + B64 * val r = 0
    · rw [val_cons, h0, limbs_zero]; rfl
    · have e1 : (x + B64 * val r) % B64 = x := by rw [Nat.add_mul_mod_self_left]; exact Nat.mod_eq_of_lt hx
      have e2 : (x + B64 * val r) / B64 = val r := by rw [Nat.add_mul_div_left _ _ B64_pos, Nat.div_eq_of_lt hx]; omega
      rw [val_cons, limbs_pos h0, e1, e2, List.length_cons, List.take_succ_cons, ih h.tail]
theorem nm_low {w : World} {A : Option Addr} {n c p v : Nat} (h : Nm w A n c v) (hp : p ≤ n) : Nm w A (limbs (v % B64 ^ p)).length c (v % B64 ^ p) := by
  have h1 : (limbs (v % B64 ^ p)).length ≤ p := limbs_length_le (Nat.mod_lt _ (Nat.pow_pos B64_pos))
  have h2 := h.nc
  refine ⟨?_, by omega, h.cm⟩
  have e := h.rd.take (k := (limbs (v % B64 ^ p)).length) (by omega)
  have e2 := take_own ((words_limbs v).take p)
  rw [limbs_take, List.take_take, Nat.min_eq_left h1] at e2
  rw [e2] at e
  exact e

set_option maxRecDepth 100000 in
set_option maxHeartbeats 2000000 in
/-- (mul.number).at: what stands below a place, and from it on. -/
theorem at_any (A : Option Addr) (n c v p : Nat) (w : World) (h : Nm w A n c v) (hp : p ≤ 4611686018427387904) :
    Calls Tryz.prog 146 #[.slice A n c, .int .i64 (p : Int)] w fun e w' => ∃ k ck A2 n2 c2, e = .returned (.tuple #[.slice A k ck, .slice A2 n2 c2]) ∧ Nm w' A k ck (v % B64 ^ p) ∧ Nm w' A2 n2 c2 (v / B64 ^ p) ∧ Below w.heap.size w w' := by
  have hnc := h.nc
  have hcm := h.cm
  rcases Nat.lt_or_ge p n with hlt | hge
  · have ht := h.rd.take (k := p) (by omega)
    have hne : ¬ (c = p) := by omega
    have hi := nm_high h (p := p) (by omega)
    rw [if_neg hne] at hi
    have HI := Lib.hid hi
    clear hi
    have HL := Lib.hid (nm_low h (p := p) (by omega))
    have HT := Lib.hid ht
    have hcp : ¬ ((c : Int) < (p : Int)) := by omega
    have hnp : ¬ ((n : Int) < (p : Int)) := by omega
    have hpn : ¬ ((p : Int) < 0) := by omega
    have HV := Lib.hid (limbs_take v p)
    clear ht h
    go_enter Tryz.func146, Tryz.ntmps146
    go_wp2
    go_quiet ((go_at_call 145; refine Calls.quiet_of_same (trimM_val A p c ((limbs v).take p) _ (HT.out.below (below_drewN (Below.refl _ _) _)) (by omega) (by omega))))
    rw [HV.out]
    go_wp2
    go_ret2
    have hb := below_drewN (Below.refl w.heap.size w) nq
    exact ⟨_, _, _, _, _, rfl, HL.out.below hb, HI.out.below hb, hb⟩
  · have ht := h.rd
    have hi := nm_high h (p := n) (by omega)
    have HZ := Lib.hid (div_zero_of_len h hge)
    have HN := Lib.hid (div_zero_of_len h (Nat.le_refl n))
    have HT := Lib.hid ht
    have HH := Lib.hid h
    have HV := Lib.hid (val_limbs v)
    have HLen := Lib.hid h.rd.len
    have hnp : ¬ ((p : Int) < (n : Int)) := by omega
    clear ht h
    by_cases hcn : c = n
    · subst hcn
      rw [if_pos rfl, Nat.sub_self, HN.out.1] at hi
      have HI := Lib.hid hi
      clear hi
      rcases Nat.lt_or_eq_of_le hge with hlt | rfl
      · go_enter Tryz.func146, Tryz.ntmps146
        go_wp2
        go_quiet ((go_at_call 145; refine Calls.quiet_of_same (trimM_val A c c (limbs v) _ (HT.out.below (below_drewN (Below.refl _ _) _)) (by omega) (by omega))))
        rw [HV.out, HLen.out]
        go_wp2
        go_ret2
        have hb := below_drewN (Below.refl w.heap.size w) nq
        rw [HZ.out.1, HZ.out.2]
        exact ⟨_, _, _, _, _, rfl, HH.out.below hb, HI.out.below hb, hb⟩
      · go_enter Tryz.func146, Tryz.ntmps146
        go_wp2
        go_quiet ((go_at_call 145; refine Calls.quiet_of_same (trimM_val A c c (limbs v) _ (HT.out.below (below_drewN (Below.refl _ _) _)) (by omega) (by omega))))
        rw [HV.out, HLen.out]
        go_wp2
        go_ret2
        have hb := below_drewN (Below.refl w.heap.size w) nq
        rw [HZ.out.1, HZ.out.2]
        exact ⟨_, _, _, _, _, rfl, HH.out.below hb, HI.out.below hb, hb⟩
    · have hcp : ¬ ((c : Int) < (n : Int)) := by omega
      rw [if_neg hcn, Nat.sub_self, HN.out.1] at hi
      have HI := Lib.hid hi
      clear hi
      rcases Nat.lt_or_eq_of_le hge with hlt | rfl
      · go_enter Tryz.func146, Tryz.ntmps146
        go_wp2
        go_quiet ((go_at_call 145; refine Calls.quiet_of_same (trimM_val A n c (limbs v) _ (HT.out.below (below_drewN (Below.refl _ _) _)) (by omega) (by omega))))
        rw [HV.out, HLen.out]
        go_wp2
        go_ret2
        have hb := below_drewN (Below.refl w.heap.size w) nq
        rw [HZ.out.1, HZ.out.2]
        exact ⟨_, _, _, _, _, rfl, HH.out.below hb, HI.out.below hb, hb⟩
      · go_enter Tryz.func146, Tryz.ntmps146
        go_wp2
        go_quiet ((go_at_call 145; refine Calls.quiet_of_same (trimM_val A n c (limbs v) _ (HT.out.below (below_drewN (Below.refl _ _) _)) (by omega) (by omega))))
        rw [HV.out, HLen.out]
        go_wp2
        go_ret2
        have hb := below_drewN (Below.refl w.heap.size w) nq
        rw [HZ.out.1, HZ.out.2]
        exact ⟨_, _, _, _, _, rfl, HH.out.below hb, HI.out.below hb, hb⟩
end Go.Proofs.YtgiokmfdafmaoaaGreat
