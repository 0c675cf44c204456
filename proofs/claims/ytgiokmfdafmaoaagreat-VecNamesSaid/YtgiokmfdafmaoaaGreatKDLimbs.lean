import Derived.Test.YtgiokmfdafmaoaaGreatKUp
import Derived.Test.YtgiokmfdafmaoaaGreatKDWord
import Derived.Lib.AppendZeros
import Derived.Deep.RegionHeld3
import Derived.Test.YtgiokmfdafmaoaaGreatKDown
/- DUp DLimbs. -/
/- div.up: a number shifted up, noughts behind it. -/
namespace Go.Proofs.YtgiokmfdafmaoaaGreat
open Go.RowKit Go.Shelf
set_option linter.unusedVariables false
set_option linter.unusedSimpArgs false

set_option maxRecDepth 100000 in
set_option maxHeartbeats 2000000 in
/-- nat.Up: the whole row that it makes. -/
theorem up_row (A : Option Addr) (na ca : Nat) (a : List Nat) (bits q r : Nat) (w : World) (hra : Rd w A na a) (hna : na ≤ 4294967296) (hm : may a = true) (hb : bits ≤ 65536) (hq : bits / 64 = q) (hr : bits % 64 = r) :
    Calls Tryz.prog 150 #[.slice A na ca, .int .i64 (bits : Int)] w fun e w' => ∃ g k l, e = .returned (.tuple #[.slice (some ⟨g, 0, none⟩) k (q + na + 1), .int .i64 0]) ∧ RowL w' g l ∧ l.length = q + na + 1 ∧ Words l ∧ k ≤ q + na + 1 ∧ l.take k = limbs (val l) ∧ val l = val a * 2 ^ bits ∧ w.heap.size ≤ g ∧ Below w.heap.size w w' := by
  have e1 : ((bits : Nat) : Int) / 64 = (q : Int) := by omega
  have e2 : ((bits : Nat) : Int) % 64 = (r : Int) := by omega
  have hq1 : q ≤ 1024 := by omega
  have hr1 : r < 64 := by omega
  have HQ := Lib.hid hq
  have HR := Lib.hid hr
  clear hq hr
  have hmk := fun W => run_make_row' (P := Tryz.prog) 23 36 (.int .u64 0) 8 Tryz.underlying23 u64_info rfl .i64 .i64 (q + na + 1) (by omega) (by omega) W
  rw [show ((q + na + 1 : Nat) : Int) = (q : Int) + (na : Int) + 1 by omega] at hmk
  go_enter Tryz.func150, Tryz.ntmps150
  go_wp2_with (first
    | (go_at_call 155; refine (mayShift_ok A na ca a bits _ hra hna hm (by omega) (by omega)).mono ?_; rintro e w1 ⟨rfl, hb1⟩))
  rw [e2]
  have hz := RowL.zeros w1 (q + na + 1)
  have hB2 := hb1.alloc hb1.size (.cells (madeCells #[.int .u64 0] (q + na + 1)) 36)
  have hG : w.heap.size ≤ w1.heap.size := hb1.size
  have hgl : w1.heap.size < (w1.alloc (.cells (madeCells #[.int .u64 0] (q + na + 1)) 36)).heap.size := by simp
  generalize hW2 : w1.alloc (.cells (madeCells #[.int .u64 0] (q + na + 1)) 36) = w2 at *
  clear hW2 hmk
  go_loopw [30] (fun i wr => ∃ (k : Nat) (l : List Nat), k ≤ na ∧ i = .int .i64 (k : Int) ∧ RowL wr w1.heap.size l ∧ l.length = q + na + 1 ∧ Words l ∧ val l = val (a.take k) * 2 ^ bits ∧ Below w.heap.size w wr) (fun i _ => na - (intOf i).toNat)
  case atStart => exact ⟨0, _, by omega, rfl, hz, by simp, words_zeros _, by rw [val_zeros]; simp [val], hB2⟩
  case round =>
    obtain ⟨k, l, hk, rfl, hrow, hlen, hwl, hval, hB⟩ := hrel
    by_cases hlt : k < na
    · obtain ⟨b1, o1, rfl, _, hc1⟩ := (hra.below hB).cells (by omega)
      have hca := hc1 k hlt
      have hcu : wr.cell? ⟨w1.heap.size, q + k, none⟩ = some (u64 (lim l (q + k))) := hrow.cell (by omega)
      have hfu : wr.frozen? ⟨w1.heap.size, q + k, none⟩ = false := hrow.frozen _
      have hrlt : (r : Int) < 64 := by omega
      have HV := Lib.hid hval
      have HROW := Lib.hid hrow
      have hx := hra.words.get k
      have hy := hwl.get (q + k)
      clear hc1 hval hrow
      have hor : Go.bits BinOp.or IntKind.u64 ((lim l (q + k) : Nat) : Int) (IntKind.u64.wrap (((lim a k : Nat) : Int) * 2 ^ r)) = ((lim l (q + k) ||| (lim a k * 2 ^ r % B64) : Nat) : Int) := or_word _ _ _ hy
      have HOR := Lib.hid hor
      clear hor
      go_wp2
      go_region
      rw [HOR.out]
      have hr2 := HROW.out.set (q + k) (lim l (q + k) ||| (lim a k * 2 ^ r % B64))
      have hb2 := hB.setCell (p := ⟨w1.heap.size, q + k, none⟩) hG (u64 (lim l (q + k) ||| (lim a k * 2 ^ r % B64)))
      generalize (wr.setCell ⟨w1.heap.size, q + k, none⟩ (.int .u64 ((lim l (q + k) ||| (lim a k * 2 ^ r % B64) : Nat) : Int))) = w4 at *
      have hcv : w4.cell? ⟨w1.heap.size, q + k + 1, none⟩ = some (u64 (lim (l.set (q + k) (lim l (q + k) ||| (lim a k * 2 ^ r % B64))) (q + k + 1))) := hr2.cell (by rw [List.length_set]; omega)
      have hfv : w4.frozen? ⟨w1.heap.size, q + k + 1, none⟩ = false := hr2.frozen _
      have HR2 := Lib.hid hr2
      clear hr2
      go_wp2
      go_roundw
      case rel =>
        have e3 : (((lim a k : Nat) : Int) / 2 ^ (64 - r)) = ((lim a k / 2 ^ (64 - r) : Nat) : Int) := by simp
        rw [e3]
        refine ⟨k + 1, _, by omega, by go_num, (HR2.out.set (q + k + 1) (lim a k / 2 ^ (64 - r))).drew, by simp [hlen], ?_, ?_, (hb2.setCell (p := ⟨w1.heap.size, q + k + 1, none⟩) hG _).drew⟩
        · exact (up_step hwl hra.words hlen (by rw [hra.len]; omega) hr1 (by have := HQ.out; have := HR.out; omega) HV.out).1
        · exact (up_step hwl hra.words hlen (by rw [hra.len]; omega) hr1 (by have := HQ.out; have := HR.out; omega) HV.out).2
      case measure => simp [intOf]; omega
    · have hkn : k = na := by omega
      have hv2 : val l = val a * 2 ^ bits := by rw [hval, hkn, val_take_all (by rw [hra.len]; omega)]
      have HV := Lib.hid hv2
      have HROW := Lib.hid hrow
      clear hval hv2 hrow hkn
      go_wp2_with (go_at_call 82; refine (trim_any _ _ _ l wr (HROW.out.own (B := w1.heap.size) (Nat.le_refl _) hwl hlen (by simp only [maxLen]; omega)).rd.1 (by omega) (by omega)).mono ?_; rintro e w' ⟨⟨k2, hk2, rfl, ht⟩, rfl⟩; have HT := Lib.hid ht; clear ht)
      go_ret2
      exact ⟨_, k2, l, rfl, HROW.out, hlen, hwl, hk2, HT.out, HV.out, hG, hB⟩

theorem zeros_cells (k : Nat) : (Builtin.zeroCells #[.int .u64 0] k).toList = List.replicate k (.int .u64 0) := by
  apply List.ext_getElem
  · simp [Builtin.zeroCells]
  · intro i h1 h2
    simp [Builtin.zeroCells, Nat.mod_one]
/-- Noughts laid where there is room, and noughts. -/
theorem append_zeros {w : World} {g m k : Nat} {l : List Nat} (t tn ty : TypeId) (kn : IntKind) (ht : Tryz.prog.underlying t = some (.slice 36)) (htn : Tryz.prog.underlying tn = some (.int kn)) (i : TypeInfo) (hi : Tryz.prog.info? 36 = some i) (hz : i.zero = some (.int .u64 0)) (hsize : i.size = 1) (hby : i.bytes = 8)
    (hrow : RowL w g l) (hl : l.length = m + k) (hk : k ≤ 4294967296) (h0 : ∀ j, m ≤ j → lim l j = 0) :
    ∃ w', (Builtin.append_ #[t, tn] ty #[.slice (some ⟨g, 0, none⟩) m (m + k), .int .i64 (k : Int)]).run Tryz.prog w = .ok (.slice (some ⟨g, 0, none⟩) (m + k) (m + k)) w' ∧ RowL w' g l ∧ Only g w w' := by
  have hst := run_storeCells_at Tryz.prog g m 36 (List.replicate k (.int .u64 0)) 0 (l.map u64).toArray w hrow (by simp; omega) (fun v hv => by rw [(List.mem_replicate.1 hv).2]; rfl)
  have hw : IntKind.i64.wrap (k : Int) = k := by rw [IntKind.wrap_i64]; omega
  have hneg : ¬ ((k : Int) < 0) := by omega
  have h48 : ¬ (281474976710656 < (k : Int) * 8) := by omega
  refine ⟨w.setRow g (((l.map u64).toArray.toList.take (m + 0)) ++ List.replicate k (Value.int .u64 0) ++ ((l.map u64).toArray.toList.drop (m + 0 + (List.replicate k (Value.int .u64 0)).length))).toArray, ?_, ?_, ?_⟩
  · by_cases hk0 : k = 0
    · subst hk0
      have hw0 : IntKind.i64.wrap (0 : Int) = 0 := by rw [IntKind.wrap_i64]; rfl
      simp [hw0, Builtin.append_, run_underlying ht, run_underlying htn, sizeOf, typeInfo, zeroValue, hi, hz, hsize, hby, asInt, asIntOf, hw, Addr.add_lit] at hst ⊢
      rw [hst]
      rfl
    · have hns : ¬ (k * 1 = 0) := by omega
      have hzc : (Builtin.zeroCells (Value.int .u64 0).cells k).toList = List.replicate k (.int .u64 0) := zeros_cells k
      simp [Builtin.append_, run_underlying ht, run_underlying htn, sizeOf, typeInfo, zeroValue, hi, hz, hsize, hby, asInt, asIntOf, hw, hneg, h48, hns, hk0, hzc, Addr.add_lit] at hst ⊢
      rw [hst]
      rfl
  · have e : (((l.map u64).toArray.toList.take (m + 0)) ++ List.replicate k (Value.int .u64 0) ++ ((l.map u64).toArray.toList.drop (m + 0 + (List.replicate k (Value.int .u64 0)).length))).toArray = (l.map u64).toArray := by
      refine congrArg List.toArray ?_
      rw [List.length_replicate, Nat.add_zero]
      have e1 : (l.map u64).drop (m + k) = [] := List.drop_eq_nil_of_le (by simp; omega)
      have e2 : (l.map u64).drop m = List.replicate k (u64 0) := by
        rw [List.eq_replicate_iff]
        refine ⟨by simp; omega, fun v hv => ?_⟩
        rw [← List.map_drop] at hv
        obtain ⟨y, hy, rfl⟩ := List.mem_map.1 hv
        obtain ⟨j, hj, e⟩ := List.mem_iff_getElem.1 hy
        have := h0 (m + j) (by omega)
        simp at hj
        rw [lim_get (by omega)] at this
        rw [List.getElem_drop] at e
        rw [← e, this]
      show (l.map u64).take m ++ List.replicate k (u64 0) ++ (l.map u64).drop (m + k) = l.map u64
      rw [e1, List.append_nil, ← e2, List.take_append_drop]
    rw [e]
    exact setRow_heap w g _ _ _ _ hrow
  · refine ⟨⟨rfl, rfl, rfl, by simp [World.setRow], fun k hk => absurd hk (by omega)⟩, fun j hj hg => ?_⟩
    simp only [World.setRow, Array.getElem?_modify]
    rw [if_neg (by omega)]

theorem lim_rest {l : List Nat} {k : Nat} (hw : Words l) (ht : l.take k = limbs (val l)) : ∀ j, k ≤ j → lim l j = 0 := by
  intro j hj
  refine lim_zero_of_lt hw ?_
  have h := val_lt (words_limbs (val l))
  rw [val_limbs, ← ht] at h
  exact Nat.lt_of_lt_of_le h (Nat.pow_le_pow_right B64_pos (by rw [List.length_take]; omega))

set_option maxRecDepth 100000 in
set_option maxHeartbeats 2000000 in
/-- div.up. -/
theorem upD_any (A : Option Addr) (na ca bits : Nat) (a : List Nat) (w : World) (hra : Rd w A na a) (hna : na ≤ 1000000) (hm : may a = true) (hb : bits < 64) :
    Calls Tryz.prog 139 #[.slice A na ca, .int .i64 (bits : Int), .int .i64 ((na + 1 : Nat) : Int)] w fun e w' => ∃ g l, e = .returned (.slice (some ⟨g, 0, none⟩) (na + 1) (na + 1)) ∧ RowL w' g l ∧ l.length = na + 1 ∧ Words l ∧ val l = val a * 2 ^ bits ∧ w.heap.size ≤ g ∧ Below w.heap.size w w' := by
  obtain ⟨i0, hi, hz0, hz1, hz2⟩ := info_parts u64_info
  have HU := Lib.hid (up_row A na ca a bits 0 bits w hra (by omega) hm (by omega) (by omega) (by omega))
  clear hra hm
  go_enter Tryz.func139, Tryz.ntmps139
  go_wp2_with fail
  refine HU.out.mono ?_
  rintro e w1 ⟨g, k, l, rfl, hrow, hlen, hwl, hk, ht, hv, hg, hB⟩
  rw [Nat.zero_add] at hlen hk
  have hl0 := lim_rest hwl ht
  obtain ⟨w2, hr2, hrow2, hO⟩ := append_zeros (m := k) (k := na + 1 - k) 23 3 23 .i64 Tryz.underlying23 Tryz.underlying3 i0 hi hz0 hz1 hz2 hrow (by omega) (by omega) hl0
  rw [show k + (na + 1 - k) = na + 1 by omega, show ((na + 1 - k : Nat) : Int) = (na : Int) + 1 - (k : Int) by omega] at hr2
  have HR := Lib.hid hr2
  clear hr2
  go_wp2_with (at_builtin; go_loud (refine Lib.wpList_append_run _ rfl _ _ _ _ rfl _ _ rfl rfl _ _ HR.out ?_))
  go_ret
  exact ⟨g, l, rfl, hrow2, hlen, hwl, hv, hg, hB.trans (hO.to hg (by have := hB.size; omega))⟩
end Go.Proofs.YtgiokmfdafmaoaaGreat

/- div.byLimbs: a quotient by limbs. -/
namespace Go.Proofs.YtgiokmfdafmaoaaGreat
open Go.RowKit Go.Shelf
attribute [local go_sem] Oper.semAt_some
set_option linter.unusedVariables false
set_option linter.unusedSimpArgs false

/-- What the rounds have made by then: the quotient's limbs and what is left. -/
def LbG (m n N D A0 : Nat) {V : Nat → Nat → Prop} (pre : List (BkI m V)) (Lq Lf : List Nat) : Prop :=
  Lq.length = m ∧ Words Lq ∧ Lf.length = N ∧ Words Lf ∧ ∀ k, k ≤ m → places pre = downs m k → (∀ j, j < m - k → lim Lq j = 0) ∧ val Lq * D + val Lf = A0 ∧ val (Lf.drop (m - k)) < D
section
variable {m n N D A0 : Nat} {V : Nat → Nat → Prop}
theorem val_drop_one (l : List Nat) (i : Nat) : val (l.drop i) = lim l i + B64 * val (l.drop (i + 1)) := by
  by_cases h : i < l.length
  · rw [List.drop_eq_getElem_cons h, val_cons, lim_get h]
  · rw [List.drop_eq_nil_of_le (by omega), List.drop_eq_nil_of_le (by omega), lim_past (by omega)]
    rfl
theorem drop_zero_val {l : List Nat} (h : Words l) {c p : Nat} (hv : val (l.drop c) < B64 ^ p) : val (l.drop (c + p)) = 0 := by
  rw [← List.drop_drop, val_drop_div (h.drop c)]
  exact Nat.div_eq_of_lt hv
theorem lbG_step {pre : List (BkI m V)} {Lq Lf T2 : List Nat} {x : BkI m V} {q i : Nat} (hG : LbG m n N D A0 pre Lq Lf) (hi : x.1.1 = i) (hN : m + n = N + 1) (hn : 1 ≤ n) (hD0 : 0 < D) (hD : D < B64 ^ (n - 1)) (hq : q < B64) (hT2 : T2.length = n) (hw2 : Words T2)
    (hv : val T2 + q * D = val ((Lf.drop i).take n)) (hex : val ((Lf.drop i).take n) < D * B64 → q = val ((Lf.drop i).take n) / D) : LbG m n N D A0 (pre ++ [x]) (Lq.set i q) (Lf.take i ++ T2 ++ Lf.drop (i + n)) := by
  obtain ⟨h1, h2, h3, h4, h5⟩ := hG
  have him : i < m := by rw [← hi]; exact x.2.1
  refine ⟨by simp [h1], words_set h2 hq, ?_, words_append (words_append (h4.take i) hw2) (h4.drop _), fun k hk hp => ?_⟩
  · simp only [List.length_append, List.length_take, List.length_drop, h3, hT2]; omega
  · have hk1 : k = pre.length + 1 := by have := congrArg List.length hp; rw [places_length, downs_length] at this; simpa using this.symm
    subst hk1
    rw [places_snoc, downs_succ] at hp
    obtain ⟨e1, e2⟩ := List.append_inj hp (by rw [places_length, downs_length])
    have e3 : i = m - 1 - pre.length := by rw [← hi]; simpa using e2
    obtain ⟨g1, g2, g3⟩ := h5 pre.length (by omega) e1
    have ec : m - pre.length = i + 1 := by omega
    have ec2 : m - (pre.length + 1) = i := by omega
    rw [ec] at g1 g3
    rw [ec2]
    have hz : val (Lf.drop (i + n)) = 0 := by
      have := drop_zero_val h4 (Nat.lt_trans g3 hD)
      rwa [show i + 1 + (n - 1) = i + n by omega] at this
    have hs := val_split' (Lf.drop i) n
    rw [List.drop_drop, hz, Nat.mul_zero, Nat.add_zero] at hs
    have hd1 := val_drop_one Lf i
    have hli := h4.get i
    have hlt : val ((Lf.drop i).take n) < D * B64 := by
      rw [← hs, hd1, Nat.mul_comm D]
      have := Nat.mul_le_mul_left B64 (show val (Lf.drop (i + 1)) + 1 ≤ D from g3)
      rw [Nat.mul_add] at this
      omega
    have hqe := hex hlt
    have hT2v : val T2 < D := by
      have h6 := Nat.div_add_mod (val ((Lf.drop i).take n)) D
      have h7 := Nat.mod_lt (val ((Lf.drop i).take n)) hD0
      rw [← hqe, Nat.mul_comm] at h6
      omega
    have hlt2 : (Lf.take i).length = i := by rw [List.length_take]; omega
    refine ⟨fun j hj => ?_, ?_, ?_⟩
    · rw [lim_set (by omega), if_neg (by omega)]
      exact g1 j (by omega)
    · have hs2 := val_set (l := Lq) (i := i) (by omega) q
      rw [g1 i (by omega), Nat.mul_zero, Nat.add_zero] at hs2
      have hs3 := val_split' Lf i
      rw [hs] at hs3
      rw [hs2, val_append, val_append, hz, Nat.mul_zero, Nat.add_zero, hlt2, ← g2, hs3, Nat.add_mul, ← hv, Nat.mul_add, Nat.mul_assoc]
      omega
    · have e : (Lf.take i ++ T2 ++ Lf.drop (i + n)).drop i = T2 ++ Lf.drop (i + n) := by
        rw [List.append_assoc, List.drop_append_of_le_length (by omega), List.drop_eq_nil_of_le (by omega), List.nil_append]
      rw [e, val_append, hz, Nat.mul_zero, Nat.add_zero]
      exact hT2v
theorem lbG_start {L0 : List Nat} (hl : L0.length = N) (hw : Words L0) (hv : val L0 = A0) (hlt : A0 < B64 ^ m * D) : LbG m n N D A0 ([] : List (BkI m V)) (List.replicate m 0) L0 := by
  refine ⟨by simp, words_zeros m, hl, hw, fun k hk hp => ?_⟩
  have hk0 : k = 0 := by have := congrArg List.length hp; rw [downs_length] at this; simpa [places] using this.symm
  subst hk0
  refine ⟨fun j hj => lim_zero_of_lt (words_zeros m) (by rw [val_zeros]; exact Nat.pow_pos B64_pos), by rw [val_zeros, hv]; omega, ?_⟩
  rw [Nat.sub_zero, val_drop_div hw, hv, Nat.div_lt_iff_lt_mul (Nat.pow_pos B64_pos), Nat.mul_comm]
  exact hlt
theorem lbG_end {pre : List (BkI m V)} {Lq Lf : List Nat} (h : LbG m n N D A0 pre Lq Lf) (hp : places pre = downs m m) (hD : 0 < D) : val Lq = A0 / D ∧ val Lf = A0 % D := by
  obtain ⟨_, _, _, _, h5⟩ := h
  obtain ⟨_, g2, g3⟩ := h5 m (Nat.le_refl _) hp
  rw [Nat.sub_self, List.drop_zero] at g3
  rw [← g2, Nat.mul_comm, Nat.mul_add_div hD, Nat.mul_add_mod, Nat.div_eq_of_lt g3, Nat.mod_eq_of_lt g3]
  exact ⟨rfl, rfl⟩
end

theorem lead_facts {a b : List Nat} {n1 na y : Nat} (hwa : Words a) (hla : a.length = na) (hwb : Words b) (hlb : b.length = n1 + 1) (hm : may b = true) (hy : lim b n1 = y) (hna : n1 + 1 ≤ na) :
    64 - Lib.bitLen y ≤ 63 ∧ 0 < val b * 2 ^ (64 - Lib.bitLen y) ∧ val b * 2 ^ (64 - Lib.bitLen y) < B64 ^ (n1 + 1) ∧ val a * 2 ^ (64 - Lib.bitLen y) < B64 ^ (na - n1) * (val b * 2 ^ (64 - Lib.bitLen y)) := by
  have hyb : y < B64 := by rw [← hy]; exact hwb.get _
  have hne : b ≠ [] := fun e => by rw [e] at hlb; simp at hlb
  have hy0 : y ≠ 0 := by
    have := may_last hne
    rw [hlb, Nat.add_sub_cancel, hy, hm] at this
    simpa using this.symm
  obtain ⟨k1, k2, k3⟩ := Lib.bitLenAux_bounds 64 y hyb hy0
  have hb : Lib.bitLen y ≤ 64 := Lib.bitLen_le _ 64 (Nat.le_refl _) hyb
  obtain ⟨s, hs⟩ : ∃ s, 64 - Lib.bitLen y = s := ⟨_, rfl⟩
  have e1 : Lib.bitLenAux 64 y = 64 - s := by show Lib.bitLen y = _; omega
  rw [e1] at k1 k2 k3
  rw [hs]
  have hp := Nat.two_pow_pos s
  have hbs := B64_split (r := s) (by omega)
  have hv := val_take_succ b n1
  rw [val_take_all (by omega), hy] at hv
  have ht : val (b.take n1) < B64 ^ n1 := Nat.lt_of_lt_of_le (val_lt (hwb.take n1)) (Nat.pow_le_pow_right B64_pos (by rw [List.length_take]; omega))
  have hge : B64 ^ n1 ≤ val b := by
    have := Nat.mul_le_mul_left (B64 ^ n1) (show 1 ≤ y by omega)
    omega
  have hlt : val b < B64 ^ n1 * 2 ^ (64 - s) := by
    have := Nat.mul_le_mul_left (B64 ^ n1) (show y + 1 ≤ 2 ^ (64 - s) from k3)
    rw [Nat.mul_add] at this
    omega
  refine ⟨by omega, Nat.mul_pos (Nat.lt_of_lt_of_le (Nat.pow_pos B64_pos) hge) hp, ?_, ?_⟩
  · rw [show B64 ^ (n1 + 1) = B64 ^ n1 * (2 ^ (64 - s) * 2 ^ s) by rw [← hbs]; exact Nat.pow_succ .., ← Nat.mul_assoc]
    exact Nat.mul_lt_mul_of_pos_right hlt hp
  · have ha := val_lt hwa
    rw [hla, show na = (na - n1) + n1 by omega, Nat.pow_add] at ha
    rw [← Nat.mul_assoc]
    refine Nat.mul_lt_mul_of_pos_right (Nat.lt_of_lt_of_le ha ?_) hp
    exact Nat.mul_le_mul_left _ hge

/-- What a store of two cells has left. -/
theorem store2 {W : World} {g : Nat} {x y u v : Value} {t : TypeId} (h : W.heap[g]? = some (.cells #[x, y] t)) : ((W.setCell ⟨g, 0, none⟩ u).setCell ⟨g, 1, none⟩ v).heap[g]? = some (.cells #[u, v] t) ∧ Only g W ((W.setCell ⟨g, 0, none⟩ u).setCell ⟨g, 1, none⟩ v) := by
  refine ⟨?_, ((Only.refl g W).setCell rfl u).setCell rfl v⟩
  simp [World.setCell, Array.getElem?_modify, h]
theorem alloc_facts (W : World) (o : Obj) : ∃ W', W.alloc o = W' ∧ W'.heap[W.heap.size]? = some o ∧ Below W.heap.size W W' ∧ W.heap.size < W'.heap.size :=
  ⟨_, rfl, World.alloc_heap_new W o, (Below.refl _ W).alloc (Nat.le_refl _) o, by simp⟩
/-- Behind the divisor's making: its three blocks. -/
def Reg7 (w : World) (n1 D : Nat) (bs sv : Value) (a a' : Act) (W : World) : Prop :=
  ∃ gb gm gd lb, a' = ((((((((((((a.put (some 40) bs).put (some 41) sv).put (some 42) bs).put (some 43) (.int .i64 ((n1 : Int) + 1))).put (some 44) (.int .i64 ((n1 : Int) + 1 + 1))).put (some 46) bs).put (some 47) (.int .i64 ((n1 : Int) + 1))).put (some 48) (.int .i64 ((n1 : Int) + 1 + 1))).put (some 45) (.slice (some ⟨gb, 0, none⟩) (n1 + 1 + 1) (n1 + 1 + 1))).put (some 49) (.slice (some ⟨gm, 0, none⟩) (n1 + 1 + 1) (n1 + 1 + 1))).put (some 50) (.agg #[.slice (some ⟨gb, 0, none⟩) (n1 + 1 + 1) (n1 + 1 + 1), .slice (some ⟨gm, 0, none⟩) (n1 + 1 + 1) (n1 + 1 + 1)])).put (some 9) (.pointer (some ⟨gd, 0, none⟩))) ∧
    RowL W gb lb ∧ lb.length = n1 + 1 + 1 ∧ Words lb ∧ val lb = D ∧ RowL W gm (List.replicate (n1 + 1 + 1) 0) ∧ W.heap[gd]? = some (.cells #[.slice (some ⟨gb, 0, none⟩) (n1 + 1 + 1) (n1 + 1 + 1), .slice (some ⟨gm, 0, none⟩) (n1 + 1 + 1) (n1 + 1 + 1)] 150) ∧
    (w.heap.size < gb ∧ w.heap.size < gm ∧ w.heap.size < gd ∧ gb ≠ gm ∧ gb ≠ gd ∧ gm ≠ gd) ∧ W.heap[w.heap.size]? = some (.cells #[.slice none 0 0] 23) ∧ Below w.heap.size w W
theorem wpIn_cut {F : Fence} {n : Nat} {P : Program} {c : Code} {Q : Exit → Act → World → Prop} {a : Act} {w : World} (Φ : Act → Act → World → Prop) (h1 : c.wpIn F n P (fun e a' w' => e = .normal ∧ Φ a a' w') a w) (h2 : ∀ a' w', Φ a a' w' → Q .normal a' w') : c.wpIn F n P Q a w :=
  wpIn_mono h1 fun e a' w' h => by rw [h.1]; exact h2 _ _ h.2

/-- What the rounds of byLimbs hand on. -/
def LbI (w : World) (m n N D A0 : Nat) (lb : List Nat) (gb gm gd gl gt gq n0 : Nat) (V : Nat → Nat → Prop) (pre : List (BkI m V)) (W : World) : Prop :=
  ∃ Lq Lf M, LbG m n N D A0 pre Lq Lf ∧ Boxed W w.heap.size 23 (.slice (some ⟨gq, 0, none⟩) m m) ∧ W.heap[gd]? = some (.cells #[.slice (some ⟨gb, 0, none⟩) n n, .slice (some ⟨gm, 0, none⟩) n n] 150) ∧ Boxed W gt 22 (.slice (some ⟨gl, 0, none⟩) N N) ∧
    RowL W gq Lq ∧ RowL W gl Lf ∧ RowL W gm M ∧ M.length = n ∧ Words M ∧ RowL W gb lb ∧ Below w.heap.size w W ∧ n0 ≤ W.heap.size
theorem LbI.row0 {w : World} {m n N D A0 : Nat} {lb : List Nat} {gb gm gd gl gt gq n0 : Nat} {V : Nat → Nat → Prop} {pre : List (BkI m V)} {W : World} (h : LbI w m n N D A0 lb gb gm gd gl gt gq n0 V pre W) : ∃ Lq, RowL W gq Lq ∧ Lq.length = m := by
  obtain ⟨Lq, _, _, hG, _, _, _, hq, _⟩ := h
  exact ⟨Lq, hq, hG.1⟩
theorem has_row {W : World} {g m : Nat} (h : ∃ L, RowL W g L ∧ L.length = m) : Has W (some ⟨g, 0, none⟩) m (fun _ _ => True) := fun i hi => by
  obtain ⟨L, hr, hl⟩ := h
  exact ⟨g, 0, lim L i, rfl, trivial, by rw [Nat.zero_add]; exact hr.cell (by omega)⟩
theorem lbI_own {w : World} {m n N D A0 : Nat} {lb : List Nat} {gb gm gd gl gt gq n0 Bs B : Nat} {V : Nat → Nat → Prop} (ho : w.heap.size < gb ∧ w.heap.size < gm ∧ w.heap.size < gd ∧ gb ≠ gm ∧ gb ≠ gd ∧ gm ≠ gd ∧ gb < gl ∧ gm < gl ∧ gd < gl ∧ gl < gt ∧ gt < gq ∧ gq < Bs ∧ Bs < n0) (hB : n0 ≤ B) : OwnFrom B (LbI w m n N D A0 lb gb gm gd gl gt gq n0 V) := by
  refine ownFrom_low hB (fun s W h => ?_) (fun s W W' h hb => ?_)
  · obtain ⟨_, _, _, _, _, _, _, _, _, _, _, _, _, _, h⟩ := h
    exact h
  · obtain ⟨Lq, Lf, M, hG, k0, kD, kT, kQ, kL, kM, hM, hwM, kB, hBe, hsz⟩ := h
    exact ⟨Lq, Lf, M, hG, (hb.block _ (by omega)).trans k0, (hb.block _ (by omega)).trans kD, (hb.block _ (by omega)).trans kT, kQ.below hb (by omega), kL.below hb (by omega), kM.below hb (by omega), hM, hwM, kB.below hb (by omega), hBe.trans (hb.mono (by omega)), Nat.le_trans hsz hb.size⟩

set_option maxRecDepth 100000 in
set_option maxHeartbeats 4000000 in
theorem limbs_main (A A2 : Option Addr) (na ca nb cb : Nat) (a b : List Nat) (w : World) (hra : Rd w A na a) (hrb : Rd w A2 nb b) (hna : na ≤ 900000) (hab : nb ≤ na) (hnb : 2 ≤ nb) (hma : may a = true) (hmb : may b = true) :
    Calls Tryz.prog 128 #[.slice A na ca, .slice A2 nb cb] w fun e w' => ∃ A' k c A3 k3 c3, e = .returned (.tuple #[.slice A' k c, .slice A3 k3 c3]) ∧ Own w' w.heap.size (.slice A' k c) (limbs (val a / val b)) ∧ Own w' w.heap.size (.slice A3 k3 c3) (limbs (val a % val b)) ∧ Below w.heap.size w w' := by
  have hmk := fun W => run_make_row' (P := Tryz.prog) 22 36 (.int .u64 0) 8 Tryz.underlying22 u64_info rfl .i64 .i64 (nb + 1) (by omega) (by omega) W
  have hmk2 := fun W => run_make_row' (P := Tryz.prog) 23 36 (.int .u64 0) 8 Tryz.underlying23 u64_info rfl .i64 .i64 (na + 1 - nb) (by omega) (by omega) W
  refine (callsIn_wide (n := 8)).1 ?_
  refine callsIn_of_wp_marks Tryz.func128 rfl trivial ?_ rfl
  simp only [Tryz.ntmps128, List.size_toArray, List.length_cons, List.length_nil, Nat.reduceAdd, Nat.reduceSub, Array.replicate_succ, Array.replicate_zero, List.push_toArray, List.append_toArray, List.nil_append, List.cons_append]
  obtain ⟨b1, o1, rfl, hlt1, hc1⟩ := (hrb.alloc (.cells #[.slice none 0 0] 23)).cells (by omega)
  have hcl := hc1 (nb - 1) (by omega)
  obtain ⟨n1, rfl⟩ : ∃ n1, nb = n1 + 1 := ⟨nb - 1, by omega⟩
  rw [Nat.add_sub_cancel] at hcl
  rw [show ((n1 + 1 + 1 : Nat) : Int) = (n1 : Int) + 1 + 1 by omega] at hmk
  rw [show na + 1 - (n1 + 1) = na - n1 by omega, show ((na - n1 : Nat) : Int) = (na : Int) - ((n1 : Int) + 1) + 1 by omega] at hmk2
  have HMK2 := Lib.hid hmk2
  clear hmk2
  obtain ⟨y, hy⟩ : ∃ y, lim b n1 = y := ⟨_, rfl⟩
  rw [hy] at hcl
  have hyb : y < B64 := by rw [← hy]; exact hrb.words.get _
  have hd1 : decide ((na : Int) < ((n1 + 1 : Nat) : Int)) = false := by simp; omega
  have hd2 : (((n1 + 1 : Nat) : Int) == 1) = false := by simp; omega
  obtain ⟨q1, q2, q3, q4⟩ := lead_facts hra.words hra.len hrb.words hrb.len hmb hy hab
  have hlead := lead_any y hyb (w.alloc (.cells #[.slice none 0 0] 23))
  generalize 64 - Lib.bitLen y = s at *
  have HLEAD := Lib.hid hlead
  have Q2 := Lib.hid q2
  have Q3 := Lib.hid q3
  have Q4 := Lib.hid q4
  clear hlead q2 q3 q4
  have HRA := Lib.hid hra
  have HRB := Lib.hid hrb
  have HMA := Lib.hid hma
  have HMB := Lib.hid hmb
  have HY := Lib.hid hy
  clear hra hrb hma hmb hy hc1
  gi_wp2_with fail
  refine ⟨trivial, (callsIn_wide.2 HLEAD.out).mono ?_⟩
  rintro e w1 ⟨rfl, rfl⟩
  gi_wp2_with fail
  have hUP : Hid (∀ W, Below w.heap.size w W → Calls Tryz.prog 139 #[.slice (some ⟨b1, o1, none⟩) (n1 + 1) cb, .int .i64 (s : Int), .int .i64 ((n1 : Int) + 1 + 1)] W fun e w' => ∃ g l, e = .returned (.slice (some ⟨g, 0, none⟩) (n1 + 1 + 1) (n1 + 1 + 1)) ∧ RowL w' g l ∧ l.length = n1 + 1 + 1 ∧ Words l ∧ val l = val b * 2 ^ s ∧ W.heap.size ≤ g ∧ Below W.heap.size W w') :=
    fun W hB => upD_any (some ⟨b1, o1, none⟩) (n1 + 1) cb s b W (HRB.out.below hB) (by omega) HMB.out (by omega)
  have hwr : IntKind.i64.wrap ((n1 : Int) + 1 + 1) = (n1 : Int) + 1 + 1 := by rw [IntKind.wrap_i64]; omega
  refine wpIn_cut (Reg7 w n1 (val b * 2 ^ s) (.slice (some ⟨b1, o1, none⟩) (n1 + 1) cb) (.int .i64 (s : Int))) ?_ ?_
  · refine wpIn_wide.2 ?_
    have h0 := World.alloc_heap_new w (.cells #[.slice none 0 0] 23)
    have hB0 : Below w.heap.size w (w.alloc (.cells #[.slice none 0 0] 23)).drew := ((Below.refl _ w).alloc (Nat.le_refl _) _).drew
    have hs0 : (w.alloc (.cells #[.slice none 0 0] 23)).drew.heap.size > w.heap.size := by simp
    replace h0 : (w.alloc (.cells #[.slice none 0 0] 23)).drew.heap[w.heap.size]? = some (.cells #[.slice none 0 0] 23) := h0
    refine region_held (S := fun _ => True) 13 (by kernel_rfl) rfl ?_
    clear hcl hlt1
    unfold Reg7
    refine takeL (i := 0) (v := ?_) (List.getElem?_cons_zero) (by kernel_rfl) (by kernel_rfl) (by kernel_rfl) (fun _ _ _ h => by cases h.1) (Or.inl ⟨by rfl, ?_⟩) trivial ?_
    rotate_left
    · (intro w hSw; clear hSw; go_simp; try with_reducible rfl)
    try simp only [Act.put, List.setIfInBounds_toArray, List.set_cons_zero, List.set_cons_succ]
    refine takeL (i := 1) (v := ?_) (List.getElem?_cons_succ.trans (List.getElem?_cons_zero)) (by kernel_rfl) (by kernel_rfl) (by kernel_rfl) (fun _ _ _ h => by cases h.1) (Or.inl ⟨by rfl, ?_⟩) trivial ?_
    rotate_left
    · (intro w hSw; clear hSw; go_simp; try with_reducible rfl)
    try simp only [Act.put, List.setIfInBounds_toArray, List.set_cons_zero, List.set_cons_succ]
    refine takeL (i := 2) (v := ?_) (List.getElem?_cons_succ.trans (List.getElem?_cons_succ.trans (List.getElem?_cons_zero))) (by kernel_rfl) (by kernel_rfl) (by kernel_rfl) (fun _ _ _ h => by cases h.1) (Or.inl ⟨by rfl, ?_⟩) trivial ?_
    rotate_left
    · (intro w hSw; clear hSw; go_simp; try with_reducible rfl)
    try simp only [Act.put, List.setIfInBounds_toArray, List.set_cons_zero, List.set_cons_succ]
    refine takeL (i := 3) (v := ?_) (List.getElem?_cons_succ.trans (List.getElem?_cons_succ.trans (List.getElem?_cons_succ.trans (List.getElem?_cons_zero)))) (by kernel_rfl) (by kernel_rfl) (by kernel_rfl) (fun _ _ _ h => by cases h.1) (Or.inl ⟨by rfl, ?_⟩) trivial ?_
    rotate_left
    · (intro w hSw; clear hSw; go_simp; try with_reducible rfl)
    try simp only [Act.put, List.setIfInBounds_toArray, List.set_cons_zero, List.set_cons_succ]
    refine takeL (i := 4) (v := ?_) (List.getElem?_cons_succ.trans (List.getElem?_cons_succ.trans (List.getElem?_cons_succ.trans (List.getElem?_cons_succ.trans (List.getElem?_cons_zero))))) (by kernel_rfl) (by kernel_rfl) (by kernel_rfl) (fun _ _ _ h => by cases h.1) (Or.inl ⟨by rfl, ?_⟩) trivial ?_
    rotate_left
    · (intro w hSw; clear hSw; go_simp; try with_reducible rfl)
    try simp only [Act.put, List.setIfInBounds_toArray, List.set_cons_zero, List.set_cons_succ]
    refine takeL (i := 6) (v := ?_) (List.getElem?_cons_succ.trans (List.getElem?_cons_succ.trans (List.getElem?_cons_succ.trans (List.getElem?_cons_succ.trans (List.getElem?_cons_succ.trans (List.getElem?_cons_succ.trans (List.getElem?_cons_zero))))))) (by kernel_rfl) (by kernel_rfl) (by kernel_rfl) (fun _ _ _ h => by cases h.1) (Or.inl ⟨by rfl, ?_⟩) trivial ?_
    rotate_left
    · (intro w hSw; clear hSw; go_simp; try with_reducible rfl)
    try simp only [Act.put, List.setIfInBounds_toArray, List.set_cons_zero, List.set_cons_succ]
    refine takeL (i := 7) (v := ?_) (List.getElem?_cons_succ.trans (List.getElem?_cons_succ.trans (List.getElem?_cons_succ.trans (List.getElem?_cons_succ.trans (List.getElem?_cons_succ.trans (List.getElem?_cons_succ.trans (List.getElem?_cons_succ.trans (List.getElem?_cons_zero)))))))) (by kernel_rfl) (by kernel_rfl) (by kernel_rfl) (fun _ _ _ h => by cases h.1) (Or.inl ⟨by rfl, ?_⟩) trivial ?_
    rotate_left
    · (intro w hSw; clear hSw; go_simp; try with_reducible rfl)
    try simp only [Act.put, List.setIfInBounds_toArray, List.set_cons_zero, List.set_cons_succ]
    refine takeL (i := 8) (v := ?_) (List.getElem?_cons_succ.trans (List.getElem?_cons_succ.trans (List.getElem?_cons_succ.trans (List.getElem?_cons_succ.trans (List.getElem?_cons_succ.trans (List.getElem?_cons_succ.trans (List.getElem?_cons_succ.trans (List.getElem?_cons_succ.trans (List.getElem?_cons_zero))))))))) (by kernel_rfl) (by kernel_rfl) (by kernel_rfl) (fun _ _ _ h => by cases h.1) (Or.inl ⟨by rfl, ?_⟩) trivial ?_
    rotate_left
    · (intro w hSw; clear hSw; go_simp; try with_reducible rfl)
    try simp only [Act.put, List.setIfInBounds_toArray, List.set_cons_zero, List.set_cons_succ]
    generalize (w.alloc (.cells #[.slice none 0 0] 23)).drew = W0 at *
    refine wpAnyH_ready (rs := [5, 9, 11]) (by kernel_rfl) (by simp) ?_
    refine carryC (i := 5) (List.getElem?_cons_succ.trans (List.getElem?_cons_succ.trans (List.getElem?_cons_succ.trans (List.getElem?_cons_succ.trans (List.getElem?_cons_succ.trans (List.getElem?_cons_zero)))))) (by rfl) (fun K hK => ?_) ?_
    · -- 5
      go_simp
      refine (hUP.out W0 hB0).mono ?_
      rintro e W1 ⟨gb, lb, rfl, rb0, rb1, rb2, rb3, rb4, hbel⟩
      refine hK _ _ trivial (fun _ => ?_)
      clear hK K
      have hsz := hbel.size
      have hblt := rb0.lt
      have rb : RowL W1 gb lb ∧ lb.length = n1 + 1 + 1 ∧ Words lb ∧ val lb = val b * 2 ^ s := ⟨rb0, rb1, rb2, rb3⟩
      clear rb0 rb1 rb2 rb3
      try simp only [Act.put, List.setIfInBounds_toArray, List.set_cons_zero, List.set_cons_succ]
      have hB1 := hB0.trans (hbel.mono hB0.size)
      have h1 := (hbel.block w.heap.size (by omega)).trans h0
      have hz1 := hbel.size
      clear hbel
      refine wpAnyH_ready (rs := [9, 11]) (by kernel_rfl) (by simp) ?_
      refine carryC (i := 9) (List.getElem?_cons_succ.trans (List.getElem?_cons_succ.trans (List.getElem?_cons_succ.trans (List.getElem?_cons_succ.trans (List.getElem?_cons_succ.trans (List.getElem?_cons_succ.trans (List.getElem?_cons_succ.trans (List.getElem?_cons_succ.trans (List.getElem?_cons_succ.trans (List.getElem?_cons_zero)))))))))) (by rfl) (fun K hK => ?_) ?_
      · -- 9
        go_simp
        refine hK _ _ trivial (fun _ => ?_)
        clear hK K
        have rm := RowL.zeros W1 (n1 + 1 + 1)
        obtain ⟨W2, hw, _, hbel, hsz⟩ := alloc_facts W1 (.cells (madeCells #[.int .u64 0] (n1 + 1 + 1)) 36)
        rw [hw] at rm ⊢
        clear hw
        obtain ⟨gm, hgm⟩ : ∃ gm, W1.heap.size = gm := ⟨_, rfl⟩
        rw [hgm] at rm ⊢
        try simp only [Act.put, List.setIfInBounds_toArray, List.set_cons_zero, List.set_cons_succ]
        have hB2 := hB1.trans (hbel.mono hB1.size)
        have h2 := (hbel.block w.heap.size (by omega)).trans h1
        replace rb : RowL W2 gb lb ∧ _ := ⟨rb.1.below hbel (by omega), rb.2⟩
        have hz2 := hbel.size
        clear hbel
        refine takeL (i := 10) (v := ?_) (List.getElem?_cons_succ.trans (List.getElem?_cons_succ.trans (List.getElem?_cons_succ.trans (List.getElem?_cons_succ.trans (List.getElem?_cons_succ.trans (List.getElem?_cons_succ.trans (List.getElem?_cons_succ.trans (List.getElem?_cons_succ.trans (List.getElem?_cons_succ.trans (List.getElem?_cons_succ.trans (List.getElem?_cons_zero))))))))))) (by kernel_rfl) (by kernel_rfl) (by kernel_rfl) (fun _ _ _ h => by cases h.1) (Or.inl ⟨by rfl, ?_⟩) trivial ?_
        rotate_left
        · (intro w hSw; clear hSw; go_simp; try with_reducible rfl)
        try simp only [Act.put, List.setIfInBounds_toArray, List.set_cons_zero, List.set_cons_succ]
        refine carryL (i := 11) (List.getElem?_cons_succ.trans (List.getElem?_cons_succ.trans (List.getElem?_cons_succ.trans (List.getElem?_cons_succ.trans (List.getElem?_cons_succ.trans (List.getElem?_cons_succ.trans (List.getElem?_cons_succ.trans (List.getElem?_cons_succ.trans (List.getElem?_cons_succ.trans (List.getElem?_cons_succ.trans (List.getElem?_cons_succ.trans (List.getElem?_cons_zero)))))))))))) (by kernel_rfl) (by rfl) (fun K hK => ?_)
        go_simp
        refine hK _ _ trivial (fun _ => ?_)
        clear hK K
        obtain ⟨W3, hw, rd, hbel, hsz⟩ := alloc_facts W2 (.cells #[.slice none 0 0, .slice none 0 0] 150)
        rw [hw]
        clear hw
        obtain ⟨gd, hgd⟩ : ∃ gd, W2.heap.size = gd := ⟨_, rfl⟩
        rw [hgd] at rd ⊢
        try simp only [Act.put, List.setIfInBounds_toArray, List.set_cons_zero, List.set_cons_succ]
        have hB3 := hB2.trans (hbel.mono hB2.size)
        have h3 := (hbel.block w.heap.size (by omega)).trans h2
        replace rb : RowL W3 gb lb ∧ _ := ⟨rb.1.below hbel (by omega), rb.2⟩
        replace rm := rm.below hbel (by omega)
        have hz3 := hbel.size
        clear hbel
        refine carryL (i := 12) (List.getElem?_cons_succ.trans (List.getElem?_cons_succ.trans (List.getElem?_cons_succ.trans (List.getElem?_cons_succ.trans (List.getElem?_cons_succ.trans (List.getElem?_cons_succ.trans (List.getElem?_cons_succ.trans (List.getElem?_cons_succ.trans (List.getElem?_cons_succ.trans (List.getElem?_cons_succ.trans (List.getElem?_cons_succ.trans (List.getElem?_cons_succ.trans (List.getElem?_cons_zero))))))))))))) (by kernel_rfl) (by rfl) (fun K hK => ?_)
        have cd := cells_cell (j := 0) rd rfl
        have cd1 := cells_cell (j := 1) rd rfl
        have fd : W3.frozen? ⟨gd, 0, none⟩ = false := cells_frozen rd
        have fd1 : W3.frozen? ⟨gd, 1, none⟩ = false := cells_frozen rd
        go_simp
        refine hK _ _ trivial (fun _ => wpAnyH_done (by kernel_rfl) ?_ _)
        clear hK K
        try simp only [Act.put, List.setIfInBounds_toArray, List.set_cons_zero, List.set_cons_succ]
        obtain ⟨z1, z2⟩ := store2 (u := .slice (some ⟨gb, 0, none⟩) (n1 + 1 + 1) (n1 + 1 + 1)) (v := .slice (some ⟨gm, 0, none⟩) (n1 + 1 + 1) (n1 + 1 + 1)) rd
        refine ⟨trivial, gb, gm, gd, lb, ?_, z2.row rb.1 (by omega), rb.2.1, rb.2.2.1, rb.2.2.2, z2.row rm (by omega), z1, ⟨by omega, by omega, by omega, by omega, by omega, by omega⟩, ?_, hB3.trans (z2.to (by omega) (by omega))⟩
        · try simp only [Act.put, List.setIfInBounds_toArray, List.set_cons_zero, List.set_cons_succ]
        · exact (z2.keep _ (by omega) (by omega)).trans h3
      refine carryC (i := 11) (List.getElem?_cons_succ.trans (List.getElem?_cons_succ.trans (List.getElem?_cons_succ.trans (List.getElem?_cons_succ.trans (List.getElem?_cons_succ.trans (List.getElem?_cons_succ.trans (List.getElem?_cons_succ.trans (List.getElem?_cons_succ.trans (List.getElem?_cons_succ.trans (List.getElem?_cons_succ.trans (List.getElem?_cons_succ.trans (List.getElem?_cons_zero)))))))))))) (by rfl) (fun K hK => ?_) ?_
      · -- 11
        go_simp
        refine hK _ _ trivial (fun _ => ?_)
        clear hK K
        obtain ⟨W2, hw, rd, hbel, hsz⟩ := alloc_facts W1 (.cells #[.slice none 0 0, .slice none 0 0] 150)
        rw [hw]
        clear hw
        obtain ⟨gd, hgd⟩ : ∃ gd, W1.heap.size = gd := ⟨_, rfl⟩
        rw [hgd] at rd ⊢
        try simp only [Act.put, List.setIfInBounds_toArray, List.set_cons_zero, List.set_cons_succ]
        have hB2 := hB1.trans (hbel.mono hB1.size)
        have h2 := (hbel.block w.heap.size (by omega)).trans h1
        replace rb : RowL W2 gb lb ∧ _ := ⟨rb.1.below hbel (by omega), rb.2⟩
        have hz2 := hbel.size
        clear hbel
        refine carryL (i := 9) (List.getElem?_cons_succ.trans (List.getElem?_cons_succ.trans (List.getElem?_cons_succ.trans (List.getElem?_cons_succ.trans (List.getElem?_cons_succ.trans (List.getElem?_cons_succ.trans (List.getElem?_cons_succ.trans (List.getElem?_cons_succ.trans (List.getElem?_cons_succ.trans (List.getElem?_cons_zero)))))))))) (by kernel_rfl) (by rfl) (fun K hK => ?_)
        go_simp
        refine hK _ _ trivial (fun _ => ?_)
        clear hK K
        have rm := RowL.zeros W2 (n1 + 1 + 1)
        obtain ⟨W3, hw, _, hbel, hsz⟩ := alloc_facts W2 (.cells (madeCells #[.int .u64 0] (n1 + 1 + 1)) 36)
        rw [hw] at rm ⊢
        clear hw
        obtain ⟨gm, hgm⟩ : ∃ gm, W2.heap.size = gm := ⟨_, rfl⟩
        rw [hgm] at rm ⊢
        try simp only [Act.put, List.setIfInBounds_toArray, List.set_cons_zero, List.set_cons_succ]
        have hB3 := hB2.trans (hbel.mono hB2.size)
        have h3 := (hbel.block w.heap.size (by omega)).trans h2
        replace rb : RowL W3 gb lb ∧ _ := ⟨rb.1.below hbel (by omega), rb.2⟩
        replace rd := (hbel.block gd (by omega)).trans rd
        have hz3 := hbel.size
        clear hbel
        refine takeL (i := 10) (v := ?_) (List.getElem?_cons_succ.trans (List.getElem?_cons_succ.trans (List.getElem?_cons_succ.trans (List.getElem?_cons_succ.trans (List.getElem?_cons_succ.trans (List.getElem?_cons_succ.trans (List.getElem?_cons_succ.trans (List.getElem?_cons_succ.trans (List.getElem?_cons_succ.trans (List.getElem?_cons_succ.trans (List.getElem?_cons_zero))))))))))) (by kernel_rfl) (by kernel_rfl) (by kernel_rfl) (fun _ _ _ h => by cases h.1) (Or.inl ⟨by rfl, ?_⟩) trivial ?_
        rotate_left
        · (intro w hSw; clear hSw; go_simp; try with_reducible rfl)
        try simp only [Act.put, List.setIfInBounds_toArray, List.set_cons_zero, List.set_cons_succ]
        refine carryL (i := 12) (List.getElem?_cons_succ.trans (List.getElem?_cons_succ.trans (List.getElem?_cons_succ.trans (List.getElem?_cons_succ.trans (List.getElem?_cons_succ.trans (List.getElem?_cons_succ.trans (List.getElem?_cons_succ.trans (List.getElem?_cons_succ.trans (List.getElem?_cons_succ.trans (List.getElem?_cons_succ.trans (List.getElem?_cons_succ.trans (List.getElem?_cons_succ.trans (List.getElem?_cons_zero))))))))))))) (by kernel_rfl) (by rfl) (fun K hK => ?_)
        have cd := cells_cell (j := 0) rd rfl
        have cd1 := cells_cell (j := 1) rd rfl
        have fd : W3.frozen? ⟨gd, 0, none⟩ = false := cells_frozen rd
        have fd1 : W3.frozen? ⟨gd, 1, none⟩ = false := cells_frozen rd
        go_simp
        refine hK _ _ trivial (fun _ => wpAnyH_done (by kernel_rfl) ?_ _)
        clear hK K
        try simp only [Act.put, List.setIfInBounds_toArray, List.set_cons_zero, List.set_cons_succ]
        obtain ⟨z1, z2⟩ := store2 (u := .slice (some ⟨gb, 0, none⟩) (n1 + 1 + 1) (n1 + 1 + 1)) (v := .slice (some ⟨gm, 0, none⟩) (n1 + 1 + 1) (n1 + 1 + 1)) rd
        refine ⟨trivial, gb, gm, gd, lb, ?_, z2.row rb.1 (by omega), rb.2.1, rb.2.2.1, rb.2.2.2, z2.row rm (by omega), z1, ⟨by omega, by omega, by omega, by omega, by omega, by omega⟩, ?_, hB3.trans (z2.to (by omega) (by omega))⟩
        · try simp only [Act.put, List.setIfInBounds_toArray, List.set_cons_zero, List.set_cons_succ]
        · exact (z2.keep _ (by omega) (by omega)).trans h3
      exact AllReadyH.nil
    refine carryC (i := 9) (List.getElem?_cons_succ.trans (List.getElem?_cons_succ.trans (List.getElem?_cons_succ.trans (List.getElem?_cons_succ.trans (List.getElem?_cons_succ.trans (List.getElem?_cons_succ.trans (List.getElem?_cons_succ.trans (List.getElem?_cons_succ.trans (List.getElem?_cons_succ.trans (List.getElem?_cons_zero)))))))))) (by rfl) (fun K hK => ?_) ?_
    · -- 9
      go_simp
      refine hK _ _ trivial (fun _ => ?_)
      clear hK K
      have rm := RowL.zeros W0 (n1 + 1 + 1)
      obtain ⟨W1, hw, _, hbel, hsz⟩ := alloc_facts W0 (.cells (madeCells #[.int .u64 0] (n1 + 1 + 1)) 36)
      rw [hw] at rm ⊢
      clear hw
      obtain ⟨gm, hgm⟩ : ∃ gm, W0.heap.size = gm := ⟨_, rfl⟩
      rw [hgm] at rm ⊢
      try simp only [Act.put, List.setIfInBounds_toArray, List.set_cons_zero, List.set_cons_succ]
      have hB1 := hB0.trans (hbel.mono hB0.size)
      have h1 := (hbel.block w.heap.size (by omega)).trans h0
      have hz1 := hbel.size
      clear hbel
      refine wpAnyH_ready (rs := [5, 11]) (by kernel_rfl) (by simp) ?_
      refine carryC (i := 5) (List.getElem?_cons_succ.trans (List.getElem?_cons_succ.trans (List.getElem?_cons_succ.trans (List.getElem?_cons_succ.trans (List.getElem?_cons_succ.trans (List.getElem?_cons_zero)))))) (by rfl) (fun K hK => ?_) ?_
      · -- 5
        go_simp
        refine (hUP.out W1 hB1).mono ?_
        rintro e W2 ⟨gb, lb, rfl, rb0, rb1, rb2, rb3, rb4, hbel⟩
        refine hK _ _ trivial (fun _ => ?_)
        clear hK K
        have hsz := hbel.size
        have hblt := rb0.lt
        have rb : RowL W2 gb lb ∧ lb.length = n1 + 1 + 1 ∧ Words lb ∧ val lb = val b * 2 ^ s := ⟨rb0, rb1, rb2, rb3⟩
        clear rb0 rb1 rb2 rb3
        try simp only [Act.put, List.setIfInBounds_toArray, List.set_cons_zero, List.set_cons_succ]
        have hB2 := hB1.trans (hbel.mono hB1.size)
        have h2 := (hbel.block w.heap.size (by omega)).trans h1
        replace rm := rm.below hbel (by omega)
        have hz2 := hbel.size
        clear hbel
        refine takeL (i := 10) (v := ?_) (List.getElem?_cons_succ.trans (List.getElem?_cons_succ.trans (List.getElem?_cons_succ.trans (List.getElem?_cons_succ.trans (List.getElem?_cons_succ.trans (List.getElem?_cons_succ.trans (List.getElem?_cons_succ.trans (List.getElem?_cons_succ.trans (List.getElem?_cons_succ.trans (List.getElem?_cons_succ.trans (List.getElem?_cons_zero))))))))))) (by kernel_rfl) (by kernel_rfl) (by kernel_rfl) (fun _ _ _ h => by cases h.1) (Or.inl ⟨by rfl, ?_⟩) trivial ?_
        rotate_left
        · (intro w hSw; clear hSw; go_simp; try with_reducible rfl)
        try simp only [Act.put, List.setIfInBounds_toArray, List.set_cons_zero, List.set_cons_succ]
        refine carryL (i := 11) (List.getElem?_cons_succ.trans (List.getElem?_cons_succ.trans (List.getElem?_cons_succ.trans (List.getElem?_cons_succ.trans (List.getElem?_cons_succ.trans (List.getElem?_cons_succ.trans (List.getElem?_cons_succ.trans (List.getElem?_cons_succ.trans (List.getElem?_cons_succ.trans (List.getElem?_cons_succ.trans (List.getElem?_cons_succ.trans (List.getElem?_cons_zero)))))))))))) (by kernel_rfl) (by rfl) (fun K hK => ?_)
        go_simp
        refine hK _ _ trivial (fun _ => ?_)
        clear hK K
        obtain ⟨W3, hw, rd, hbel, hsz⟩ := alloc_facts W2 (.cells #[.slice none 0 0, .slice none 0 0] 150)
        rw [hw]
        clear hw
        obtain ⟨gd, hgd⟩ : ∃ gd, W2.heap.size = gd := ⟨_, rfl⟩
        rw [hgd] at rd ⊢
        try simp only [Act.put, List.setIfInBounds_toArray, List.set_cons_zero, List.set_cons_succ]
        have hB3 := hB2.trans (hbel.mono hB2.size)
        have h3 := (hbel.block w.heap.size (by omega)).trans h2
        replace rb : RowL W3 gb lb ∧ _ := ⟨rb.1.below hbel (by omega), rb.2⟩
        replace rm := rm.below hbel (by omega)
        have hz3 := hbel.size
        clear hbel
        refine carryL (i := 12) (List.getElem?_cons_succ.trans (List.getElem?_cons_succ.trans (List.getElem?_cons_succ.trans (List.getElem?_cons_succ.trans (List.getElem?_cons_succ.trans (List.getElem?_cons_succ.trans (List.getElem?_cons_succ.trans (List.getElem?_cons_succ.trans (List.getElem?_cons_succ.trans (List.getElem?_cons_succ.trans (List.getElem?_cons_succ.trans (List.getElem?_cons_succ.trans (List.getElem?_cons_zero))))))))))))) (by kernel_rfl) (by rfl) (fun K hK => ?_)
        have cd := cells_cell (j := 0) rd rfl
        have cd1 := cells_cell (j := 1) rd rfl
        have fd : W3.frozen? ⟨gd, 0, none⟩ = false := cells_frozen rd
        have fd1 : W3.frozen? ⟨gd, 1, none⟩ = false := cells_frozen rd
        go_simp
        refine hK _ _ trivial (fun _ => wpAnyH_done (by kernel_rfl) ?_ _)
        clear hK K
        try simp only [Act.put, List.setIfInBounds_toArray, List.set_cons_zero, List.set_cons_succ]
        obtain ⟨z1, z2⟩ := store2 (u := .slice (some ⟨gb, 0, none⟩) (n1 + 1 + 1) (n1 + 1 + 1)) (v := .slice (some ⟨gm, 0, none⟩) (n1 + 1 + 1) (n1 + 1 + 1)) rd
        refine ⟨trivial, gb, gm, gd, lb, ?_, z2.row rb.1 (by omega), rb.2.1, rb.2.2.1, rb.2.2.2, z2.row rm (by omega), z1, ⟨by omega, by omega, by omega, by omega, by omega, by omega⟩, ?_, hB3.trans (z2.to (by omega) (by omega))⟩
        · try simp only [Act.put, List.setIfInBounds_toArray, List.set_cons_zero, List.set_cons_succ]
        · exact (z2.keep _ (by omega) (by omega)).trans h3
      refine carryC (i := 11) (List.getElem?_cons_succ.trans (List.getElem?_cons_succ.trans (List.getElem?_cons_succ.trans (List.getElem?_cons_succ.trans (List.getElem?_cons_succ.trans (List.getElem?_cons_succ.trans (List.getElem?_cons_succ.trans (List.getElem?_cons_succ.trans (List.getElem?_cons_succ.trans (List.getElem?_cons_succ.trans (List.getElem?_cons_succ.trans (List.getElem?_cons_zero)))))))))))) (by rfl) (fun K hK => ?_) ?_
      · -- 11
        go_simp
        refine hK _ _ trivial (fun _ => ?_)
        clear hK K
        obtain ⟨W2, hw, rd, hbel, hsz⟩ := alloc_facts W1 (.cells #[.slice none 0 0, .slice none 0 0] 150)
        rw [hw]
        clear hw
        obtain ⟨gd, hgd⟩ : ∃ gd, W1.heap.size = gd := ⟨_, rfl⟩
        rw [hgd] at rd ⊢
        try simp only [Act.put, List.setIfInBounds_toArray, List.set_cons_zero, List.set_cons_succ]
        have hB2 := hB1.trans (hbel.mono hB1.size)
        have h2 := (hbel.block w.heap.size (by omega)).trans h1
        replace rm := rm.below hbel (by omega)
        have hz2 := hbel.size
        clear hbel
        refine carryL (i := 5) (List.getElem?_cons_succ.trans (List.getElem?_cons_succ.trans (List.getElem?_cons_succ.trans (List.getElem?_cons_succ.trans (List.getElem?_cons_succ.trans (List.getElem?_cons_zero)))))) (by kernel_rfl) (by rfl) (fun K hK => ?_)
        go_simp
        refine (hUP.out W2 hB2).mono ?_
        rintro e W3 ⟨gb, lb, rfl, rb0, rb1, rb2, rb3, rb4, hbel⟩
        refine hK _ _ trivial (fun _ => ?_)
        clear hK K
        have hsz := hbel.size
        have hblt := rb0.lt
        have rb : RowL W3 gb lb ∧ lb.length = n1 + 1 + 1 ∧ Words lb ∧ val lb = val b * 2 ^ s := ⟨rb0, rb1, rb2, rb3⟩
        clear rb0 rb1 rb2 rb3
        try simp only [Act.put, List.setIfInBounds_toArray, List.set_cons_zero, List.set_cons_succ]
        have hB3 := hB2.trans (hbel.mono hB2.size)
        have h3 := (hbel.block w.heap.size (by omega)).trans h2
        replace rm := rm.below hbel (by omega)
        replace rd := (hbel.block gd (by omega)).trans rd
        have hz3 := hbel.size
        clear hbel
        refine takeL (i := 10) (v := ?_) (List.getElem?_cons_succ.trans (List.getElem?_cons_succ.trans (List.getElem?_cons_succ.trans (List.getElem?_cons_succ.trans (List.getElem?_cons_succ.trans (List.getElem?_cons_succ.trans (List.getElem?_cons_succ.trans (List.getElem?_cons_succ.trans (List.getElem?_cons_succ.trans (List.getElem?_cons_succ.trans (List.getElem?_cons_zero))))))))))) (by kernel_rfl) (by kernel_rfl) (by kernel_rfl) (fun _ _ _ h => by cases h.1) (Or.inl ⟨by rfl, ?_⟩) trivial ?_
        rotate_left
        · (intro w hSw; clear hSw; go_simp; try with_reducible rfl)
        try simp only [Act.put, List.setIfInBounds_toArray, List.set_cons_zero, List.set_cons_succ]
        refine carryL (i := 12) (List.getElem?_cons_succ.trans (List.getElem?_cons_succ.trans (List.getElem?_cons_succ.trans (List.getElem?_cons_succ.trans (List.getElem?_cons_succ.trans (List.getElem?_cons_succ.trans (List.getElem?_cons_succ.trans (List.getElem?_cons_succ.trans (List.getElem?_cons_succ.trans (List.getElem?_cons_succ.trans (List.getElem?_cons_succ.trans (List.getElem?_cons_succ.trans (List.getElem?_cons_zero))))))))))))) (by kernel_rfl) (by rfl) (fun K hK => ?_)
        have cd := cells_cell (j := 0) rd rfl
        have cd1 := cells_cell (j := 1) rd rfl
        have fd : W3.frozen? ⟨gd, 0, none⟩ = false := cells_frozen rd
        have fd1 : W3.frozen? ⟨gd, 1, none⟩ = false := cells_frozen rd
        go_simp
        refine hK _ _ trivial (fun _ => wpAnyH_done (by kernel_rfl) ?_ _)
        clear hK K
        try simp only [Act.put, List.setIfInBounds_toArray, List.set_cons_zero, List.set_cons_succ]
        obtain ⟨z1, z2⟩ := store2 (u := .slice (some ⟨gb, 0, none⟩) (n1 + 1 + 1) (n1 + 1 + 1)) (v := .slice (some ⟨gm, 0, none⟩) (n1 + 1 + 1) (n1 + 1 + 1)) rd
        refine ⟨trivial, gb, gm, gd, lb, ?_, z2.row rb.1 (by omega), rb.2.1, rb.2.2.1, rb.2.2.2, z2.row rm (by omega), z1, ⟨by omega, by omega, by omega, by omega, by omega, by omega⟩, ?_, hB3.trans (z2.to (by omega) (by omega))⟩
        · try simp only [Act.put, List.setIfInBounds_toArray, List.set_cons_zero, List.set_cons_succ]
        · exact (z2.keep _ (by omega) (by omega)).trans h3
      exact AllReadyH.nil
    refine carryC (i := 11) (List.getElem?_cons_succ.trans (List.getElem?_cons_succ.trans (List.getElem?_cons_succ.trans (List.getElem?_cons_succ.trans (List.getElem?_cons_succ.trans (List.getElem?_cons_succ.trans (List.getElem?_cons_succ.trans (List.getElem?_cons_succ.trans (List.getElem?_cons_succ.trans (List.getElem?_cons_succ.trans (List.getElem?_cons_succ.trans (List.getElem?_cons_zero)))))))))))) (by rfl) (fun K hK => ?_) ?_
    · -- 11
      go_simp
      refine hK _ _ trivial (fun _ => ?_)
      clear hK K
      obtain ⟨W1, hw, rd, hbel, hsz⟩ := alloc_facts W0 (.cells #[.slice none 0 0, .slice none 0 0] 150)
      rw [hw]
      clear hw
      obtain ⟨gd, hgd⟩ : ∃ gd, W0.heap.size = gd := ⟨_, rfl⟩
      rw [hgd] at rd ⊢
      try simp only [Act.put, List.setIfInBounds_toArray, List.set_cons_zero, List.set_cons_succ]
      have hB1 := hB0.trans (hbel.mono hB0.size)
      have h1 := (hbel.block w.heap.size (by omega)).trans h0
      have hz1 := hbel.size
      clear hbel
      refine wpAnyH_ready (rs := [5, 9]) (by kernel_rfl) (by simp) ?_
      refine carryC (i := 5) (List.getElem?_cons_succ.trans (List.getElem?_cons_succ.trans (List.getElem?_cons_succ.trans (List.getElem?_cons_succ.trans (List.getElem?_cons_succ.trans (List.getElem?_cons_zero)))))) (by rfl) (fun K hK => ?_) ?_
      · -- 5
        go_simp
        refine (hUP.out W1 hB1).mono ?_
        rintro e W2 ⟨gb, lb, rfl, rb0, rb1, rb2, rb3, rb4, hbel⟩
        refine hK _ _ trivial (fun _ => ?_)
        clear hK K
        have hsz := hbel.size
        have hblt := rb0.lt
        have rb : RowL W2 gb lb ∧ lb.length = n1 + 1 + 1 ∧ Words lb ∧ val lb = val b * 2 ^ s := ⟨rb0, rb1, rb2, rb3⟩
        clear rb0 rb1 rb2 rb3
        try simp only [Act.put, List.setIfInBounds_toArray, List.set_cons_zero, List.set_cons_succ]
        have hB2 := hB1.trans (hbel.mono hB1.size)
        have h2 := (hbel.block w.heap.size (by omega)).trans h1
        replace rd := (hbel.block gd (by omega)).trans rd
        have hz2 := hbel.size
        clear hbel
        refine carryL (i := 9) (List.getElem?_cons_succ.trans (List.getElem?_cons_succ.trans (List.getElem?_cons_succ.trans (List.getElem?_cons_succ.trans (List.getElem?_cons_succ.trans (List.getElem?_cons_succ.trans (List.getElem?_cons_succ.trans (List.getElem?_cons_succ.trans (List.getElem?_cons_succ.trans (List.getElem?_cons_zero)))))))))) (by kernel_rfl) (by rfl) (fun K hK => ?_)
        go_simp
        refine hK _ _ trivial (fun _ => ?_)
        clear hK K
        have rm := RowL.zeros W2 (n1 + 1 + 1)
        obtain ⟨W3, hw, _, hbel, hsz⟩ := alloc_facts W2 (.cells (madeCells #[.int .u64 0] (n1 + 1 + 1)) 36)
        rw [hw] at rm ⊢
        clear hw
        obtain ⟨gm, hgm⟩ : ∃ gm, W2.heap.size = gm := ⟨_, rfl⟩
        rw [hgm] at rm ⊢
        try simp only [Act.put, List.setIfInBounds_toArray, List.set_cons_zero, List.set_cons_succ]
        have hB3 := hB2.trans (hbel.mono hB2.size)
        have h3 := (hbel.block w.heap.size (by omega)).trans h2
        replace rb : RowL W3 gb lb ∧ _ := ⟨rb.1.below hbel (by omega), rb.2⟩
        replace rd := (hbel.block gd (by omega)).trans rd
        have hz3 := hbel.size
        clear hbel
        refine takeL (i := 10) (v := ?_) (List.getElem?_cons_succ.trans (List.getElem?_cons_succ.trans (List.getElem?_cons_succ.trans (List.getElem?_cons_succ.trans (List.getElem?_cons_succ.trans (List.getElem?_cons_succ.trans (List.getElem?_cons_succ.trans (List.getElem?_cons_succ.trans (List.getElem?_cons_succ.trans (List.getElem?_cons_succ.trans (List.getElem?_cons_zero))))))))))) (by kernel_rfl) (by kernel_rfl) (by kernel_rfl) (fun _ _ _ h => by cases h.1) (Or.inl ⟨by rfl, ?_⟩) trivial ?_
        rotate_left
        · (intro w hSw; clear hSw; go_simp; try with_reducible rfl)
        try simp only [Act.put, List.setIfInBounds_toArray, List.set_cons_zero, List.set_cons_succ]
        refine carryL (i := 12) (List.getElem?_cons_succ.trans (List.getElem?_cons_succ.trans (List.getElem?_cons_succ.trans (List.getElem?_cons_succ.trans (List.getElem?_cons_succ.trans (List.getElem?_cons_succ.trans (List.getElem?_cons_succ.trans (List.getElem?_cons_succ.trans (List.getElem?_cons_succ.trans (List.getElem?_cons_succ.trans (List.getElem?_cons_succ.trans (List.getElem?_cons_succ.trans (List.getElem?_cons_zero))))))))))))) (by kernel_rfl) (by rfl) (fun K hK => ?_)
        have cd := cells_cell (j := 0) rd rfl
        have cd1 := cells_cell (j := 1) rd rfl
        have fd : W3.frozen? ⟨gd, 0, none⟩ = false := cells_frozen rd
        have fd1 : W3.frozen? ⟨gd, 1, none⟩ = false := cells_frozen rd
        go_simp
        refine hK _ _ trivial (fun _ => wpAnyH_done (by kernel_rfl) ?_ _)
        clear hK K
        try simp only [Act.put, List.setIfInBounds_toArray, List.set_cons_zero, List.set_cons_succ]
        obtain ⟨z1, z2⟩ := store2 (u := .slice (some ⟨gb, 0, none⟩) (n1 + 1 + 1) (n1 + 1 + 1)) (v := .slice (some ⟨gm, 0, none⟩) (n1 + 1 + 1) (n1 + 1 + 1)) rd
        refine ⟨trivial, gb, gm, gd, lb, ?_, z2.row rb.1 (by omega), rb.2.1, rb.2.2.1, rb.2.2.2, z2.row rm (by omega), z1, ⟨by omega, by omega, by omega, by omega, by omega, by omega⟩, ?_, hB3.trans (z2.to (by omega) (by omega))⟩
        · try simp only [Act.put, List.setIfInBounds_toArray, List.set_cons_zero, List.set_cons_succ]
        · exact (z2.keep _ (by omega) (by omega)).trans h3
      refine carryC (i := 9) (List.getElem?_cons_succ.trans (List.getElem?_cons_succ.trans (List.getElem?_cons_succ.trans (List.getElem?_cons_succ.trans (List.getElem?_cons_succ.trans (List.getElem?_cons_succ.trans (List.getElem?_cons_succ.trans (List.getElem?_cons_succ.trans (List.getElem?_cons_succ.trans (List.getElem?_cons_zero)))))))))) (by rfl) (fun K hK => ?_) ?_
      · -- 9
        go_simp
        refine hK _ _ trivial (fun _ => ?_)
        clear hK K
        have rm := RowL.zeros W1 (n1 + 1 + 1)
        obtain ⟨W2, hw, _, hbel, hsz⟩ := alloc_facts W1 (.cells (madeCells #[.int .u64 0] (n1 + 1 + 1)) 36)
        rw [hw] at rm ⊢
        clear hw
        obtain ⟨gm, hgm⟩ : ∃ gm, W1.heap.size = gm := ⟨_, rfl⟩
        rw [hgm] at rm ⊢
        try simp only [Act.put, List.setIfInBounds_toArray, List.set_cons_zero, List.set_cons_succ]
        have hB2 := hB1.trans (hbel.mono hB1.size)
        have h2 := (hbel.block w.heap.size (by omega)).trans h1
        replace rd := (hbel.block gd (by omega)).trans rd
        have hz2 := hbel.size
        clear hbel
        refine carryL (i := 5) (List.getElem?_cons_succ.trans (List.getElem?_cons_succ.trans (List.getElem?_cons_succ.trans (List.getElem?_cons_succ.trans (List.getElem?_cons_succ.trans (List.getElem?_cons_zero)))))) (by kernel_rfl) (by rfl) (fun K hK => ?_)
        go_simp
        refine (hUP.out W2 hB2).mono ?_
        rintro e W3 ⟨gb, lb, rfl, rb0, rb1, rb2, rb3, rb4, hbel⟩
        refine hK _ _ trivial (fun _ => ?_)
        clear hK K
        have hsz := hbel.size
        have hblt := rb0.lt
        have rb : RowL W3 gb lb ∧ lb.length = n1 + 1 + 1 ∧ Words lb ∧ val lb = val b * 2 ^ s := ⟨rb0, rb1, rb2, rb3⟩
        clear rb0 rb1 rb2 rb3
        try simp only [Act.put, List.setIfInBounds_toArray, List.set_cons_zero, List.set_cons_succ]
        have hB3 := hB2.trans (hbel.mono hB2.size)
        have h3 := (hbel.block w.heap.size (by omega)).trans h2
        replace rm := rm.below hbel (by omega)
        replace rd := (hbel.block gd (by omega)).trans rd
        have hz3 := hbel.size
        clear hbel
        refine takeL (i := 10) (v := ?_) (List.getElem?_cons_succ.trans (List.getElem?_cons_succ.trans (List.getElem?_cons_succ.trans (List.getElem?_cons_succ.trans (List.getElem?_cons_succ.trans (List.getElem?_cons_succ.trans (List.getElem?_cons_succ.trans (List.getElem?_cons_succ.trans (List.getElem?_cons_succ.trans (List.getElem?_cons_succ.trans (List.getElem?_cons_zero))))))))))) (by kernel_rfl) (by kernel_rfl) (by kernel_rfl) (fun _ _ _ h => by cases h.1) (Or.inl ⟨by rfl, ?_⟩) trivial ?_
        rotate_left
        · (intro w hSw; clear hSw; go_simp; try with_reducible rfl)
        try simp only [Act.put, List.setIfInBounds_toArray, List.set_cons_zero, List.set_cons_succ]
        refine carryL (i := 12) (List.getElem?_cons_succ.trans (List.getElem?_cons_succ.trans (List.getElem?_cons_succ.trans (List.getElem?_cons_succ.trans (List.getElem?_cons_succ.trans (List.getElem?_cons_succ.trans (List.getElem?_cons_succ.trans (List.getElem?_cons_succ.trans (List.getElem?_cons_succ.trans (List.getElem?_cons_succ.trans (List.getElem?_cons_succ.trans (List.getElem?_cons_succ.trans (List.getElem?_cons_zero))))))))))))) (by kernel_rfl) (by rfl) (fun K hK => ?_)
        have cd := cells_cell (j := 0) rd rfl
        have cd1 := cells_cell (j := 1) rd rfl
        have fd : W3.frozen? ⟨gd, 0, none⟩ = false := cells_frozen rd
        have fd1 : W3.frozen? ⟨gd, 1, none⟩ = false := cells_frozen rd
        go_simp
        refine hK _ _ trivial (fun _ => wpAnyH_done (by kernel_rfl) ?_ _)
        clear hK K
        try simp only [Act.put, List.setIfInBounds_toArray, List.set_cons_zero, List.set_cons_succ]
        obtain ⟨z1, z2⟩ := store2 (u := .slice (some ⟨gb, 0, none⟩) (n1 + 1 + 1) (n1 + 1 + 1)) (v := .slice (some ⟨gm, 0, none⟩) (n1 + 1 + 1) (n1 + 1 + 1)) rd
        refine ⟨trivial, gb, gm, gd, lb, ?_, z2.row rb.1 (by omega), rb.2.1, rb.2.2.1, rb.2.2.2, z2.row rm (by omega), z1, ⟨by omega, by omega, by omega, by omega, by omega, by omega⟩, ?_, hB3.trans (z2.to (by omega) (by omega))⟩
        · try simp only [Act.put, List.setIfInBounds_toArray, List.set_cons_zero, List.set_cons_succ]
        · exact (z2.keep _ (by omega) (by omega)).trans h3
      exact AllReadyH.nil
    exact AllReadyH.nil
  rintro a7 w7 ⟨gb, gm, gd, lb, rfl, hrb, hlb, hwb, hvb, hrm, hd, ⟨e1, e2, e3, e4, e5, e6⟩, h0, hb7⟩
  clear hmk hcl hlt1
  try simp only [Act.put, List.setIfInBounds_toArray, List.set_cons_zero, List.set_cons_succ]
  have HRB7 := Lib.hid hrb; have HLB := Lib.hid hlb; have HWB := Lib.hid hwb; have HVB := Lib.hid hvb; have HRM7 := Lib.hid hrm; have HD7 := Lib.hid hd; have H07 := Lib.hid h0
  have lt1 := hrb.lt; have lt2 := hrm.lt; have lt3 := (Array.getElem?_eq_some_iff.1 hd).1
  clear hrb hlb hwb hvb hrm hd h0
  have hUPA : Hid (Calls Tryz.prog 139 #[.slice A na ca, .int .i64 (s : Int), .int .i64 ((na : Int) + 1)] w7 fun e w' => ∃ g l, e = .returned (.slice (some ⟨g, 0, none⟩) (na + 1) (na + 1)) ∧ RowL w' g l ∧ l.length = na + 1 ∧ Words l ∧ val l = val a * 2 ^ s ∧ w7.heap.size ≤ g ∧ Below w7.heap.size w7 w') :=
    upD_any A na ca s a w7 (HRA.out.below hb7) (by omega) HMA.out (by omega)
  gi_wp2_with fail
  refine ⟨trivial, (callsIn_wide.2 hUPA.out).mono ?_⟩
  rintro e w8 ⟨gl, la, rfl, hrl, hll, hwl, hvl, hgl, hb8⟩
  have HRL := Lib.hid hrl; have HLL := Lib.hid hll; have HWL := Lib.hid hwl; have HVL := Lib.hid hvl
  have lt4 := hrl.lt
  have sz8 := hb8.size
  have g0 := Lib.hid ((hb8.block w.heap.size (by omega)).trans H07.out)
  have gD := Lib.hid ((hb8.block gd lt3).trans HD7.out)
  have gB := Lib.hid (HRB7.out.below hb8 lt1)
  have gM := Lib.hid (HRM7.out.below hb8 lt2)
  have hb8' := hb7.trans (hb8.mono hb7.size)
  clear hrl hll hwl hvl hUPA hUP H07 HD7 HRB7 HRM7
  have hmk2 := HMK2.out
  obtain ⟨w8a, hw8a, gT, hb8a, sz8a⟩ := alloc_facts w8 (.cells #[.slice (some ⟨gl, 0, none⟩) (na + 1) (na + 1)] 22)
  obtain ⟨gt, hgt⟩ : ∃ gt, w8.heap.size = gt := ⟨_, rfl⟩
  have rq := RowL.zeros w8a (na - n1)
  obtain ⟨w8b, hw8b, _, hb8b, sz8b⟩ := alloc_facts w8a (.cells (madeCells #[.int .u64 0] (na - n1)) 36)
  obtain ⟨gq, hgq⟩ : ∃ gq, w8a.heap.size = gq := ⟨_, rfl⟩
  have x0 : w8b.heap[w.heap.size]? = some (.cells #[.slice none 0 0] 23) := (hb8b.block _ (by omega)).trans ((hb8a.block _ (by omega)).trans g0.out)
  have c0 : w8b.frozen? ⟨w.heap.size, 0, none⟩ = false := cells_frozen x0
  have c0' := cells_cell (j := 0) x0 rfl
  gi_wp2_with fail
  have wb : Below w.heap.size w w8b := hb8'.trans ((hb8a.mono (by omega)).trans (hb8b.mono (by omega)))
  obtain ⟨m, hm⟩ : ∃ m, na - n1 = m := ⟨_, rfl⟩
  rw [hw8b, hgq, hm] at rq
  rw [hm]
  obtain ⟨W9, hW9⟩ : ∃ W9, W9 = w8b.setCell ⟨w.heap.size, 0, none⟩ (.slice (some ⟨gq, 0, none⟩) m m) := ⟨_, rfl⟩
  have o9 : Only w.heap.size w8b W9 := by rw [hW9]; exact (Only.refl w.heap.size w8b).setCell (p := ⟨w.heap.size, 0, none⟩) rfl _
  have k0 : Boxed W9 w.heap.size 23 (.slice (some ⟨gq, 0, none⟩) m m) := by rw [hW9]; exact Boxed.set _ x0
  rw [← hW9]
  clear hW9
  have kD := (o9.keep gd (by omega) (by omega)).trans ((hb8b.block gd (by omega)).trans ((hb8a.block gd (by omega)).trans gD.out))
  have kT : Boxed W9 gt 22 (.slice (some ⟨gl, 0, none⟩) (na + 1) (na + 1)) := by rw [hgt] at gT; exact (o9.keep gt (by omega) (by omega)).trans ((hb8b.block gt (by omega)).trans gT)
  have kB := o9.row ((gB.out.below hb8a (by omega)).below hb8b (by omega)) (by omega)
  have kM := o9.row ((gM.out.below hb8a (by omega)).below hb8b (by omega)) (by omega)
  have kL := o9.row ((HRL.out.below hb8a (by omega)).below hb8b (by omega)) (by omega)
  have kQ : RowL W9 gq (List.replicate m 0) := o9.row rq (by omega)
  have s9 := o9.below.size
  have wb9 : Below w.heap.size w W9 := wb.trans (o9.to (Nat.le_refl _) (by omega))
  have hmn : m + (n1 + 1 + 1) = (na + 1) + 1 := by omega
  have q4 := Q4.out
  rw [hm] at q4
  have hG0 := lbG_start (V := fun _ _ => True) (m := m) (n := n1 + 1 + 1) HLL.out HWL.out HVL.out q4
  clear hmk2 hw8a hw8b HMK2 q4 hm
  have hord : w.heap.size < gb ∧ w.heap.size < gm ∧ w.heap.size < gd ∧ gb ≠ gm ∧ gb ≠ gd ∧ gm ≠ gd ∧ gb < gl ∧ gm < gl ∧ gd < gl ∧ gl < gt ∧ gt < gq ∧ gq < W9.heap.size := by
    have := (Array.getElem?_eq_some_iff.1 gT).1
    have := kQ.lt
    omega
  have HORD := Lib.hid hord
  clear hord e1 e2 e3 e4 e5 e6 lt1 lt2 lt3 lt4 sz8 hgl hb8 hb8' hb8a hb8b sz8a sz8b hgt hgq gT rq x0 c0 c0' wb o9 s9 g0 gD gB gM hb7 HRL
  refine ⟨trivial, (callsIn_wide.2 (backN_any (some ⟨gq, 0, none⟩) m m W9)).mono ?_⟩
  rintro e w10 ⟨rfl, rfl⟩
  gi_wp2_with fail
  obtain ⟨WE, hWE⟩ : ∃ WE, WE = W9.alloc (.cells #[.slice (some ⟨gq, 0, none⟩) m m] 23) := ⟨_, rfl⟩
  have hbE : Below W9.heap.size W9 WE := by rw [hWE]; exact (Below.refl _ W9).alloc (Nat.le_refl _) _
  have hsE : W9.heap.size < WE.heap.size := by rw [hWE]; simp
  have hxE : WE.heap[W9.heap.size]? = some (.cells #[.slice (some ⟨gq, 0, none⟩) m m] 23) := by rw [hWE]; exact World.alloc_heap_new W9 _
  obtain ⟨Bs, hBs⟩ : ∃ Bs, W9.heap.size = Bs := ⟨_, rfl⟩
  rw [← hWE, hBs]
  rw [hBs] at hxE hsE
  have HORD2 : Hid (w.heap.size < gb ∧ w.heap.size < gm ∧ w.heap.size < gd ∧ gb ≠ gm ∧ gb ≠ gd ∧ gm ≠ gd ∧ gb < gl ∧ gm < gl ∧ gd < gl ∧ gl < gt ∧ gt < gq ∧ gq < Bs ∧ Bs < WE.heap.size) := by
    have := HORD.out
    show _ ∧ _
    omega
  have hI0 : LbI w m (n1 + 1 + 1) (na + 1) (val b * 2 ^ s) (val a * 2 ^ s) lb gb gm gd gl gt gq WE.heap.size (fun _ _ => True) [] WE := by
    have h9 := HORD.out
    exact ⟨_, _, _, hG0, (hbE.block _ (by omega)).trans k0, (hbE.block _ (by omega)).trans kD, (hbE.block _ (by omega)).trans kT, kQ.below hbE (by omega), kL.below hbE (by omega), kM.below hbE (by omega), by simp, words_zeros _, kB.below hbE (by omega), wb9.trans (hbE.mono (by omega)), Nat.le_refl _⟩
  have hHas : Has WE (some ⟨gq, 0, none⟩) m (fun _ _ => True) := has_row hI0.row0
  have HI0 := Lib.hid hI0
  have HH := Lib.hid hHas
  have hgqE : gq < WE.heap.size := by have := HORD2.out; omega
  clear hI0 hHas k0 kD kT kB kM kL kQ wb9 hG0 hbE hWE HORD hBs
  have hkb : ∀ (Wx : World) (l : Nat) (o' : Obj), WE.heap.size ≤ l → BkK (fun k => k = Bs) (some ⟨gq, 0, none⟩) m (fun _ _ => True) Wx (Wx.putObj l o') := fun Wx l o' hl => by
    have hk : KeepsOf (fun k => k = Bs ∨ k = gq) Wx (Wx.putObj l o') := ⟨by simp, fun k hk => World.putObj_heap_other (by omega)⟩
    exact ⟨⟨hk.1, fun k e => hk.2 k (.inl e)⟩, has_keeps hk (fun _ b0 off e => by cases e; exact .inr rfl)⟩
  refine wpIn_rangeFunc_ownG rfl (by omega) (gf := 143) (lb := #[.pointer (some ⟨Bs, 0, none⟩)]) rfl trivial (enters_of Tryz.func143 (by kernel_rfl) rfl)
      (backN_stops (fun k => k = Bs) (fun _ _ => True) _ Bs (some ⟨gq, 0, none⟩) m m (by omega) rfl WE hsE (fun b0 off h e => by cases e; exact hgqE) (cells_cell hxE rfl) HH.out)
      BkK.trans ?hkb (Below.refl _ _) (fun _ => rfl)
      (LbI w m (n1 + 1 + 1) (na + 1) (val b * 2 ^ s) (val a * 2 ^ s) lb gb gm gd gl gt gq WE.heap.size (fun _ _ => True)) (fun _ _ _ => False) ?hI (fun _ _ _ _ _ hs _ _ => hs) HI0.out ?_ ?assign ?body ?done ?stop
  case hkb =>
    intro Wx l o o' hl ho _ _
    exact hkb Wx l o' hl
  case hI => exact lbI_own HORD2.out (Nat.le_refl _)
  case assign =>
    intro l x W K hK
    gi_wp2
    exact hK
  case stop =>
    rintro D c pre W _ _ h _
    exact h.elim
  case body =>
    rintro l pre x W ⟨Lq, Lf, M, hG, k0, kD, kT, kQ, kL, kM, hM, hwM, kB, hB, hsz⟩ hlen
    obtain ⟨⟨j, v⟩, hj, hv⟩ := x
    have hj' : j < m := hj
    have ho := HORD2.out
    have hlq := hG.1
    have hlf := hG.2.2.1
    have hwf := hG.2.2.2.1
    obtain ⟨P, hP⟩ : ∃ P, Lf.take j = P := ⟨_, rfl⟩
    obtain ⟨T, hT⟩ : ∃ T, (Lf.drop j).take (n1 + 1 + 1) = T := ⟨_, rfl⟩
    obtain ⟨R, hR⟩ : ∃ R, Lf.drop (j + (n1 + 1 + 1)) = R := ⟨_, rfl⟩
    have hsplit : Lf = P ++ T ++ R := by rw [← hP, ← hT, ← hR, List.append_assoc, ← List.drop_drop, List.take_append_drop, List.take_append_drop]
    have hPl : P.length = j := by rw [← hP, List.length_take]; omega
    have hTl : T.length = n1 + 1 + 1 := by rw [← hT, List.length_take, List.length_drop]; omega
    have hTw : Words T := by rw [← hT]; exact (hwf.drop j).take _
    have kL2 := kL
    rw [hsplit] at kL2
    have hrdB : Rd W (some ⟨gb, 0, none⟩) (n1 + 1 + 1) lb := RowL.mid (P := []) (T := lb) (R := []) (i := 0) (by simpa using kB) rfl HLB.out HWB.out
    have hz : lim lb (n1 + 1 + 1 - 1) = 0 := lim_zero_of_lt HWB.out (by rw [HVB.out]; exact Q3.out)
    have h0' : 0 < val lb := by rw [HVB.out]; exact Q2.out
    have hc := limbD_any (some ⟨gb, 0, none⟩) (n1 + 1 + 1) (n1 + 1 + 1) gm (n1 + 1 + 1) gl j (na + 1 - j) lb M P T R W.drew hrdB.drew (fun b0 off e => by cases e; omega) kM hM hwM (by omega) kL2 hPl hTl hTw (by omega) (by omega) hz h0'
    have HC := Lib.hid hc
    have c0 := k0.cell
    have cD0 := cells_cell (j := 0) kD rfl
    have cD1 := cells_cell (j := 1) kD rfl
    have cT := kT.cell
    have hw1 : IntKind.i64.wrap ((j : Int) + ((n1 : Int) + 1 + 1)) = (j : Int) + ((n1 : Int) + 1 + 1) := by rw [IntKind.wrap_i64]; omega
    have hn1 : ¬ ((na : Int) + 1 < (j : Int) + ((n1 : Int) + 1 + 1)) := by omega
    have hn2 : ¬ ((j : Int) + ((n1 : Int) + 1 + 1) < (j : Int)) := by omega
    have hn3 : ¬ (na + 1 = j) := by omega
    have HG := Lib.hid hG
    have K0 := Lib.hid k0; have KD := Lib.hid kD; have KT := Lib.hid kT; have KQ := Lib.hid kQ; have KB := Lib.hid kB; have HB := Lib.hid hB; have HT := Lib.hid hT; have HPP := Lib.hid hP; have HRR := Lib.hid hR
    have HO := Lib.hid ho
    clear hG k0 kD kT kQ kL kM hM hwM kB hB hT hP hR hsplit hPl hTl hTw kL2 hrdB hz h0' hc ho hlq hlf hwf hlen
    gi_wp2
    refine region_round (S := fun W' => W'.cell? ⟨w.heap.size, 0, none⟩ = some (.slice (some ⟨gq, 0, none⟩) m m) ∧ W'.cell? ⟨gd, 0, none⟩ = some (.slice (some ⟨gb, 0, none⟩) (n1 + 1 + 1) (n1 + 1 + 1)) ∧ W'.cell? ⟨gd, 1, none⟩ = some (.slice (some ⟨gm, 0, none⟩) (n1 + 1 + 1) (n1 + 1 + 1)) ∧ W'.cell? ⟨gt, 0, none⟩ = some (.slice (some ⟨gl, 0, none⟩) (na + 1) (na + 1))) 14 (by kernel_rfl) (by rfl) (fun h => h.elim fun _ h => h.elim fun _ h => h) rfl ?_
    have hS0 : (fun W' : World => W'.cell? ⟨w.heap.size, 0, none⟩ = some (.slice (some ⟨gq, 0, none⟩) m m) ∧ W'.cell? ⟨gd, 0, none⟩ = some (.slice (some ⟨gb, 0, none⟩) (n1 + 1 + 1) (n1 + 1 + 1)) ∧ W'.cell? ⟨gd, 1, none⟩ = some (.slice (some ⟨gm, 0, none⟩) (n1 + 1 + 1) (n1 + 1 + 1)) ∧ W'.cell? ⟨gt, 0, none⟩ = some (.slice (some ⟨gl, 0, none⟩) (na + 1) (na + 1))) W.drew := ⟨c0, cD0, cD1, cT⟩
    refine takeL (i := 0) (v := ?_) (List.getElem?_cons_zero) (by kernel_rfl) (by kernel_rfl) (by kernel_rfl) (fun _ _ _ h => h) (Or.inl ⟨by rfl, ?_⟩) (by assumption) ?_
    rotate_left
    · (intro w hSw; (try dsimp only at hSw); go_simp; try with_reducible rfl)
    try simp only [Act.put, List.setIfInBounds_toArray, List.set_cons_zero, List.set_cons_succ]
    refine takeL (i := 1) (v := ?_) (List.getElem?_cons_succ.trans (List.getElem?_cons_zero)) (by kernel_rfl) (by kernel_rfl) (by kernel_rfl) (fun _ _ _ h => h) (Or.inl ⟨by rfl, ?_⟩) (by assumption) ?_
    rotate_left
    · (intro w hSw; (try dsimp only at hSw); go_simp; try with_reducible rfl)
    try simp only [Act.put, List.setIfInBounds_toArray, List.set_cons_zero, List.set_cons_succ]
    refine takeL (i := 2) (v := ?_) (List.getElem?_cons_succ.trans (List.getElem?_cons_succ.trans (List.getElem?_cons_zero))) (by kernel_rfl) (by kernel_rfl) (by kernel_rfl) (fun _ _ _ h => h) (Or.inl ⟨by rfl, ?_⟩) (by assumption) ?_
    rotate_left
    · (intro w hSw; (try dsimp only at hSw); go_simp; try with_reducible rfl)
    try simp only [Act.put, List.setIfInBounds_toArray, List.set_cons_zero, List.set_cons_succ]
    refine takeL (i := 3) (v := ?_) (List.getElem?_cons_succ.trans (List.getElem?_cons_succ.trans (List.getElem?_cons_succ.trans (List.getElem?_cons_zero)))) (by kernel_rfl) (by kernel_rfl) (by kernel_rfl) (fun _ _ _ h => h) (Or.inl ⟨by rfl, ?_⟩) (by assumption) ?_
    rotate_left
    · (intro w hSw; (try dsimp only at hSw); go_simp; try with_reducible rfl)
    try simp only [Act.put, List.setIfInBounds_toArray, List.set_cons_zero, List.set_cons_succ]
    refine takeL (i := 4) (v := ?_) (List.getElem?_cons_succ.trans (List.getElem?_cons_succ.trans (List.getElem?_cons_succ.trans (List.getElem?_cons_succ.trans (List.getElem?_cons_zero))))) (by kernel_rfl) (by kernel_rfl) (by kernel_rfl) (fun _ _ _ h => h) (Or.inl ⟨by rfl, ?_⟩) (by assumption) ?_
    rotate_left
    · (intro w hSw; (try dsimp only at hSw); go_simp; try with_reducible rfl)
    try simp only [Act.put, List.setIfInBounds_toArray, List.set_cons_zero, List.set_cons_succ]
    refine takeL (i := 5) (v := ?_) (List.getElem?_cons_succ.trans (List.getElem?_cons_succ.trans (List.getElem?_cons_succ.trans (List.getElem?_cons_succ.trans (List.getElem?_cons_succ.trans (List.getElem?_cons_zero)))))) (by kernel_rfl) (by kernel_rfl) (by kernel_rfl) (fun _ _ _ h => h) (Or.inl ⟨by rfl, ?_⟩) (by assumption) ?_
    rotate_left
    · (intro w hSw; (try dsimp only at hSw); go_simp; try with_reducible rfl)
    try simp only [Act.put, List.setIfInBounds_toArray, List.set_cons_zero, List.set_cons_succ]
    refine takeL (i := 6) (v := ?_) (List.getElem?_cons_succ.trans (List.getElem?_cons_succ.trans (List.getElem?_cons_succ.trans (List.getElem?_cons_succ.trans (List.getElem?_cons_succ.trans (List.getElem?_cons_succ.trans (List.getElem?_cons_zero))))))) (by kernel_rfl) (by kernel_rfl) (by kernel_rfl) (fun _ _ _ h => h) (Or.inl ⟨by rfl, ?_⟩) (by assumption) ?_
    rotate_left
    · (intro w hSw; (try dsimp only at hSw); go_simp; try with_reducible rfl)
    try simp only [Act.put, List.setIfInBounds_toArray, List.set_cons_zero, List.set_cons_succ]
    refine takeL (i := 7) (v := ?_) (List.getElem?_cons_succ.trans (List.getElem?_cons_succ.trans (List.getElem?_cons_succ.trans (List.getElem?_cons_succ.trans (List.getElem?_cons_succ.trans (List.getElem?_cons_succ.trans (List.getElem?_cons_succ.trans (List.getElem?_cons_zero)))))))) (by kernel_rfl) (by kernel_rfl) (by kernel_rfl) (fun _ _ _ h => h) (Or.inl ⟨by rfl, ?_⟩) (by assumption) ?_
    rotate_left
    · (intro w hSw; (try dsimp only at hSw); go_simp; try with_reducible rfl)
    try simp only [Act.put, List.setIfInBounds_toArray, List.set_cons_zero, List.set_cons_succ]
    refine takeL (i := 8) (v := ?_) (List.getElem?_cons_succ.trans (List.getElem?_cons_succ.trans (List.getElem?_cons_succ.trans (List.getElem?_cons_succ.trans (List.getElem?_cons_succ.trans (List.getElem?_cons_succ.trans (List.getElem?_cons_succ.trans (List.getElem?_cons_succ.trans (List.getElem?_cons_zero))))))))) (by kernel_rfl) (by kernel_rfl) (by kernel_rfl) (fun _ _ _ h => h) (Or.inl ⟨by rfl, ?_⟩) (by assumption) ?_
    rotate_left
    · (intro w hSw; (try dsimp only at hSw); go_simp; try with_reducible rfl)
    try simp only [Act.put, List.setIfInBounds_toArray, List.set_cons_zero, List.set_cons_succ]
    refine takeL (i := 9) (v := ?_) (List.getElem?_cons_succ.trans (List.getElem?_cons_succ.trans (List.getElem?_cons_succ.trans (List.getElem?_cons_succ.trans (List.getElem?_cons_succ.trans (List.getElem?_cons_succ.trans (List.getElem?_cons_succ.trans (List.getElem?_cons_succ.trans (List.getElem?_cons_succ.trans (List.getElem?_cons_zero)))))))))) (by kernel_rfl) (by kernel_rfl) (by kernel_rfl) (fun _ _ _ h => h) (Or.inl ⟨by rfl, ?_⟩) (by assumption) ?_
    rotate_left
    · (intro w hSw; (try dsimp only at hSw); go_simp; try with_reducible rfl)
    try simp only [Act.put, List.setIfInBounds_toArray, List.set_cons_zero, List.set_cons_succ]
    refine takeL (i := 10) (v := ?_) (List.getElem?_cons_succ.trans (List.getElem?_cons_succ.trans (List.getElem?_cons_succ.trans (List.getElem?_cons_succ.trans (List.getElem?_cons_succ.trans (List.getElem?_cons_succ.trans (List.getElem?_cons_succ.trans (List.getElem?_cons_succ.trans (List.getElem?_cons_succ.trans (List.getElem?_cons_succ.trans (List.getElem?_cons_zero))))))))))) (by kernel_rfl) (by kernel_rfl) (by kernel_rfl) (fun _ _ _ h => h) (Or.inl ⟨by rfl, ?_⟩) (by assumption) ?_
    rotate_left
    · (intro w hSw; (try dsimp only at hSw); go_simp; try with_reducible rfl)
    try simp only [Act.put, List.setIfInBounds_toArray, List.set_cons_zero, List.set_cons_succ]
    refine carryL (i := 11) (List.getElem?_cons_succ.trans (List.getElem?_cons_succ.trans (List.getElem?_cons_succ.trans (List.getElem?_cons_succ.trans (List.getElem?_cons_succ.trans (List.getElem?_cons_succ.trans (List.getElem?_cons_succ.trans (List.getElem?_cons_succ.trans (List.getElem?_cons_succ.trans (List.getElem?_cons_succ.trans (List.getElem?_cons_succ.trans (List.getElem?_cons_zero)))))))))))) (by kernel_rfl) (by rfl) (fun K hK => ?_)
    go_simp
    have hLn : ((j : Int) + ((n1 : Int) + 1 + 1)).toNat - j = n1 + 1 + 1 := by omega
    rw [hLn]
    refine HC.out.mono ?_
    rintro e w8 ⟨T2, M2, q, rfl, hq, hrow8, hT2, hw2, hv2, hex, hrm8, hM2, hwM2, hO8⟩
    have ho := HO.out
    have hds : W.drew.heap.size = W.heap.size := rfl
    have x0 := (hO8.keep _ (by omega) (by omega) (by omega)).trans K0.out
    have xD := (hO8.keep _ (by omega) (by omega) (by omega)).trans KD.out
    have xT := (hO8.keep _ (by omega) (by omega) (by omega)).trans KT.out
    have xQ : RowL w8 gq Lq := hO8.row KQ.out (by omega) (by omega)
    have xB : RowL w8 gb lb := hO8.row KB.out (by omega) (by omega)
    have hS1 : (fun W' : World => W'.cell? ⟨w.heap.size, 0, none⟩ = some (.slice (some ⟨gq, 0, none⟩) m m) ∧ W'.cell? ⟨gd, 0, none⟩ = some (.slice (some ⟨gb, 0, none⟩) (n1 + 1 + 1) (n1 + 1 + 1)) ∧ W'.cell? ⟨gd, 1, none⟩ = some (.slice (some ⟨gm, 0, none⟩) (n1 + 1 + 1) (n1 + 1 + 1)) ∧ W'.cell? ⟨gt, 0, none⟩ = some (.slice (some ⟨gl, 0, none⟩) (na + 1) (na + 1))) w8 := ⟨cells_cell x0 rfl, cells_cell xD rfl, cells_cell xD rfl, cells_cell xT rfl⟩
    have hlq := HG.out.1
    have cq8 : w8.cell? ⟨gq, j, none⟩ = some (u64 (lim Lq j)) := xQ.cell (by omega)
    have fq8 : w8.frozen? ⟨gq, j, none⟩ = false := xQ.frozen _
    have hjm : ¬ (m ≤ j) := by omega
    have X0 := Lib.hid x0; have XD := Lib.hid xD; have XT := Lib.hid xT; have XQ := Lib.hid xQ; have XB := Lib.hid xB
    have HROW8 := Lib.hid hrow8; have HRM8 := Lib.hid hrm8; have HO8 := Lib.hid hO8; have HV2 := Lib.hid hv2; have HEX := Lib.hid hex; have HW2 := Lib.hid hw2; have HWM2 := Lib.hid hwM2; have HT2 := Lib.hid hT2; have HM2 := Lib.hid hM2; have HLQ := Lib.hid hlq
    have HSZ := Lib.hid hsz
    clear c0 cD0 cD1 cT hw1 hn1 hn2 hn3 hLn hds x0 xD xT xQ xB hlq hrow8 hrm8 hO8 hv2 hex hw2 hwM2 hT2 hM2 ho hsz
    refine hK _ _ hS1 (fun _ => ?_)
    clear hK K hS0
    try simp only [Act.put, List.setIfInBounds_toArray, List.set_cons_zero, List.set_cons_succ]
    refine takeL (i := 12) (v := ?_) (List.getElem?_cons_succ.trans (List.getElem?_cons_succ.trans (List.getElem?_cons_succ.trans (List.getElem?_cons_succ.trans (List.getElem?_cons_succ.trans (List.getElem?_cons_succ.trans (List.getElem?_cons_succ.trans (List.getElem?_cons_succ.trans (List.getElem?_cons_succ.trans (List.getElem?_cons_succ.trans (List.getElem?_cons_succ.trans (List.getElem?_cons_succ.trans (List.getElem?_cons_zero))))))))))))) (by kernel_rfl) (by kernel_rfl) (by kernel_rfl) (fun _ _ _ h => h) (Or.inl ⟨by rfl, ?_⟩) (by assumption) ?_
    rotate_left
    · (intro w hSw; (try dsimp only at hSw); go_simp; try with_reducible rfl)
    try simp only [Act.put, List.setIfInBounds_toArray, List.set_cons_zero, List.set_cons_succ]
    refine carryL (i := 13) (List.getElem?_cons_succ.trans (List.getElem?_cons_succ.trans (List.getElem?_cons_succ.trans (List.getElem?_cons_succ.trans (List.getElem?_cons_succ.trans (List.getElem?_cons_succ.trans (List.getElem?_cons_succ.trans (List.getElem?_cons_succ.trans (List.getElem?_cons_succ.trans (List.getElem?_cons_succ.trans (List.getElem?_cons_succ.trans (List.getElem?_cons_succ.trans (List.getElem?_cons_succ.trans (List.getElem?_cons_zero)))))))))))))) (by kernel_rfl) (by rfl) (fun K hK => ?_)
    go_simp
    have ho := HO.out
    refine hK _ _ ⟨cell_far hS1.1 (by omega) _, cell_far hS1.2.1 (by omega) _, cell_far hS1.2.2.1 (by omega) _, cell_far hS1.2.2.2 (by omega) _⟩ (fun _ => wpAnyH_done (by kernel_rfl) ?_ _)
    clear hK K hS1
    have hds : W.drew.heap.size = W.heap.size := rfl
    have hsz := HSZ.out
    have hs8 := HO8.out.below.size
    have hs8' : (w8.setCell ⟨gq, j, none⟩ (.int .u64 (q : Int))).heap.size = w8.heap.size := by simp
    have hk : ∀ k, k < W.heap.size → k ≠ gm → k ≠ gl → k ≠ gq → (w8.setCell ⟨gq, j, none⟩ (.int .u64 (q : Int))).heap[k]? = W.heap[k]? := fun k h1 h2 h3 h4 => (Below.heap_setCell w8 _ _ _ h4).trans (HO8.out.keep k h1 h2 h3)
    have hQ := XQ.out.set j q
    have hst := lbG_step (x := ⟨(j, v), hj, hv⟩) HG.out rfl hmn (by omega) Q2.out Q3.out hq HT2.out HW2.out (by rw [HT.out, ← HVB.out]; exact HV2.out) (by rw [HT.out, ← HVB.out]; exact HEX.out)
    rw [HPP.out, HRR.out] at hst
    refine ⟨⟨by omega, fun k o h1 h2 _ => (hk k (Array.getElem?_eq_some_iff.1 h2).1 (by omega) (by omega) (by omega)).trans h2⟩, ⟨⟨by omega, fun k h1 => hk k (by omega) (by omega) (by omega) (by omega)⟩, fun _ => has_row ⟨_, hQ, by simp [HLQ.out]⟩⟩, ?_⟩
    exact ⟨_, _, _, hst, boxed_far X0.out (by omega) _ _, (Below.heap_setCell w8 _ _ _ (by show gd ≠ gq; omega)).trans XD.out, boxed_far XT.out (by omega) _ _, hQ, HROW8.out.far (by show gl ≠ gq; omega) _, HRM8.out.far (by show gm ≠ gq; omega) _, HM2.out, HWM2.out, XB.out.far (by show gb ≠ gq; omega) _,
      (HB.out.drew.trans (HO8.out.to (by omega) (by omega) (by have := HB.out.size; omega))).setCell (p := ⟨gq, j, none⟩) (by show w.heap.size ≤ gq; omega) _, by omega⟩
  case done =>
    rintro D ys W hD hys ⟨Lq, Lf, M, hG, k0, kD, kT, kQ, kL, kM, hM, hwM, kB, hB, hsz⟩ hK
    obtain ⟨f1, f2⟩ := lbG_end hG hys Q2.out
    obtain ⟨r1, r2⟩ := raised (n := val a) (y := val b) (Nat.two_pow_pos s)
    rw [r1] at f1
    have f3 : val Lf / 2 ^ s = val a % val b := by rw [f2]; exact r2
    obtain ⟨hlq, hwq, hlf, hwf, _⟩ := hG
    have ho := HORD2.out
    have c0 := k0.cell
    have f0 := k0.frozen
    have cT := kT.cell
    have hoL := kL.own (B := w.heap.size) (n := na + 1) (by omega) hwf hlf (by simp only [maxLen]; omega)
    have hoQ := kQ.own (B := w.heap.size) (n := m) (by omega) hwq hlq (by simp only [maxLen]; omega)
    have hkl : (limbs (val Lf)).length ≤ na + 1 := by have := length_of_le hwf (Nat.le_refl (val Lf)); omega
    have hkq : (limbs (val Lq)).length ≤ m := by have := length_of_le hwq (Nat.le_refl (val Lq)); omega
    have hoT := own_trim hoL hkl
    rw [take_own hwf] at hoT
    have HOL := Lib.hid hoL; have HOQ := Lib.hid hoQ; have HOT := Lib.hid hoT; have F1 := Lib.hid f1; have F3 := Lib.hid f3
    have K0 := Lib.hid k0; have HBW := Lib.hid hB; have HKK := Lib.hid hK; have HWQ := Lib.hid hwq; have HSZ := Lib.hid hsz
    have HO := Lib.hid ho
    clear hoL hoQ hoT f1 f2 f3 r1 r2 k0 kD kT kQ kL kM hM hwM kB hB hsz hK hys hwq hwf hlf hlq ho
    gi_wp2_with fail
    refine ⟨trivial, (callsIn_wide.2 (trimD_val (some ⟨gl, 0, none⟩) (na + 1) (na + 1) Lf W HOL.out.rd.1 (Nat.le_refl _) (by omega))).mono ?_⟩
    rintro e W' ⟨rfl, hw'⟩
    subst W'
    gi_wp2_with fail
    refine ⟨trivial, (callsIn_wide.2 (down_ok (some ⟨gl, 0, none⟩) (limbs (val Lf)).length (na + 1) (limbs (val Lf)) s 0 s W HOT.out.rd.1 (by omega) (may_limbs _) (by omega) (by omega) (by omega))).mono ?_⟩
    rintro e w11 ⟨Ar, kr, cr, rfl, hor, hb11⟩
    rw [val_limbs, F3.out] at hor
    have sz := HSZ.out
    have ho := HO.out
    have k11 := (hb11.block _ (by omega)).trans K0.out
    have c11 : w11.cell? ⟨w.heap.size, 0, none⟩ = some (.slice (some ⟨gq, 0, none⟩) m m) := cells_cell k11 rfl
    have f11 : w11.frozen? ⟨w.heap.size, 0, none⟩ = false := cells_frozen k11
    have K11 := Lib.hid k11; have HOR := Lib.hid hor; have HB11 := Lib.hid hb11
    clear c0 f0 cT k11 hor hb11 sz ho
    gi_wp2_with fail
    refine ⟨trivial, (callsIn_wide.2 (trimD_val (some ⟨gq, 0, none⟩) m m Lq w11 (HOQ.out.below HB11.out).rd.1 (Nat.le_refl _) (by omega))).mono ?_⟩
    rintro e W' ⟨rfl, hw'⟩
    subst W'
    gi_wp2
    have sz := HSZ.out
    have ho := HO.out
    have hs11 := HB11.out.size
    have hK11 := (HB11.out.block D (Array.getElem?_eq_some_iff.1 HKK.out).1).trans HKK.out
    have hk12 : (w11.setCell ⟨w.heap.size, 0, none⟩ (.slice (some ⟨gq, 0, none⟩) (limbs (val Lq)).length m)).heap[D]? = some (.deferred (some [])) := (Below.heap_setCell w11 _ _ _ (by show D ≠ w.heap.size; omega)).trans hK11
    have o12 : Only w.heap.size w11 (w11.setCell ⟨w.heap.size, 0, none⟩ (.slice (some ⟨gq, 0, none⟩) (limbs (val Lq)).length m)) := (Only.refl w.heap.size w11).setCell (p := ⟨w.heap.size, 0, none⟩) rfl _
    have b12 : Boxed (w11.setCell ⟨w.heap.size, 0, none⟩ (.slice (some ⟨gq, 0, none⟩) (limbs (val Lq)).length m)) w.heap.size 23 (.slice (some ⟨gq, 0, none⟩) (limbs (val Lq)).length m) := Boxed.set _ K11.out
    have q12 : Own (w11.setCell ⟨w.heap.size, 0, none⟩ (.slice (some ⟨gq, 0, none⟩) (limbs (val Lq)).length m)) w.heap.size (.slice (some ⟨gq, 0, none⟩) m m) Lq :=
      own_keepsOf (S := fun k => k = gq) (HOQ.out.below HB11.out) ⟨o12.below.size, fun k hk => o12.keep k (by omega) (by omega)⟩ (fun k e => by cases e; rfl)
    have r12 : Own (w11.setCell ⟨w.heap.size, 0, none⟩ (.slice (some ⟨gq, 0, none⟩) (limbs (val Lq)).length m)) W.heap.size (.slice Ar kr cr) (limbs (val a % val b)) :=
      own_keepsOf (S := fun k => W.heap.size ≤ k ∧ k < w11.heap.size) HOR.out ⟨o12.below.size, fun k hk => o12.keep k (by omega) (by omega)⟩ (fun k e => HOR.out.1.lt k e)
    have w12 : Below w.heap.size w (w11.setCell ⟨w.heap.size, 0, none⟩ (.slice (some ⟨gq, 0, none⟩) (limbs (val Lq)).length m)) := (HBW.out.trans (HB11.out.mono HBW.out.size)).setCell (p := ⟨w.heap.size, 0, none⟩) (Nat.le_refl _) _
    have s12 := o12.below.size
    generalize (w11.setCell ⟨w.heap.size, 0, none⟩ (.slice (some ⟨gq, 0, none⟩) (limbs (val Lq)).length m)) = W12 at *
    have hDl := (Array.getElem?_eq_some_iff.1 HKK.out).1
    refine ⟨by simp, .inl ⟨_, _, rfl, run_takeDeferred hk12, ?_⟩⟩
    have hg : W12.grownBy (W12.putObj D (.deferred none)) (some D) := grownBy_putObj' W12 D _
    have hb13 : Boxed (W12.putObj D (.deferred none)) w.heap.size 23 (.slice (some ⟨gq, 0, none⟩) (limbs (val Lq)).length m) := b12.kept hg (by simp; omega)
    have c13 := hb13.cell
    have hq13 := own_trim (q12.kept hg (.inr (by simp [Value.ownBlock]; omega))) hkq
    rw [take_own HWQ.out, F1.out] at hq13
    have hr13 := r12.kept hg (by
      rcases hv : (Value.slice Ar kr cr).ownBlock with _ | k
      · exact .inl rfl
      · right
        have := (HOR.out.1.lt k hv).1
        intro e
        cases e
        omega)
    rw [F1.out] at c13
    exact ⟨.tuple #[.slice (some ⟨gq, 0, none⟩) (limbs (val a / val b)).length m, .slice Ar kr cr], by simp [results, Tryz.results128, go_sem, c13], _, _, _, _, _, _, rfl, hq13, own_mono hr13 (show w.heap.size ≤ W.heap.size by omega), w12.grown hg w12.size (fun k e => by cases e; omega)⟩
end Go.Proofs.YtgiokmfdafmaoaaGreat
