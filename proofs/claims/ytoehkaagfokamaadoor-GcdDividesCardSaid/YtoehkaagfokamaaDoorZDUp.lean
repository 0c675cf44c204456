import Derived.Test.YtoehkaagfokamaaDoorZUp
import Derived.Test.YtoehkaagfokamaaDoorZDWord
import Derived.Lib.AppendZeros
/- DUp. -/
/- div.up: a number shifted up, noughts behind it. -/
namespace Go.Proofs.YtoehkaagfokamaaDoor
open Go.RowKit Go.Shelf
set_option linter.unusedVariables false
set_option linter.unusedSimpArgs false

set_option maxRecDepth 100000 in
set_option maxHeartbeats 2000000 in
/-- nat.Up: the whole row that it makes. -/
theorem up_row (A : Option Addr) (na ca : Nat) (a : List Nat) (bits q r : Nat) (w : World) (hra : Rd w A na a) (hna : na ≤ 4294967296) (hm : may a = true) (hb : bits ≤ 65536) (hq : bits / 64 = q) (hr : bits % 64 = r) :
    Calls Tryd.prog 66 #[.slice A na ca, .int .i64 (bits : Int)] w fun e w' => ∃ g k l, e = .returned (.tuple #[.slice (some ⟨g, 0, none⟩) k (q + na + 1), .int .i64 0]) ∧ RowL w' g l ∧ l.length = q + na + 1 ∧ Words l ∧ k ≤ q + na + 1 ∧ l.take k = limbs (val l) ∧ val l = val a * 2 ^ bits ∧ w.heap.size ≤ g ∧ Below w.heap.size w w' := by
  have e1 : ((bits : Nat) : Int) / 64 = (q : Int) := by omega
  have e2 : ((bits : Nat) : Int) % 64 = (r : Int) := by omega
  have hq1 : q ≤ 1024 := by omega
  have hr1 : r < 64 := by omega
  have HQ := Lib.hid hq
  have HR := Lib.hid hr
  clear hq hr
  have hmk := fun W => run_make_row' (P := Tryd.prog) 23 29 (.int .u64 0) 8 Tryd.underlying23 u64_info rfl .i64 .i64 (q + na + 1) (by omega) (by omega) W
  rw [show ((q + na + 1 : Nat) : Int) = (q : Int) + (na : Int) + 1 by omega] at hmk
  go_enter Tryd.func66, Tryd.ntmps66
  go_wp2_with (first
    | (go_at_call 72; refine (mayShift_ok A na ca a bits _ hra hna hm (by omega) (by omega)).mono ?_; rintro e w1 ⟨rfl, hb1⟩))
  rw [e2]
  have hz := RowL.zeros w1 (q + na + 1)
  have hB2 := hb1.alloc hb1.size (.cells (madeCells #[.int .u64 0] (q + na + 1)) 29)
  have hG : w.heap.size ≤ w1.heap.size := hb1.size
  have hgl : w1.heap.size < (w1.alloc (.cells (madeCells #[.int .u64 0] (q + na + 1)) 29)).heap.size := by simp
  generalize hW2 : w1.alloc (.cells (madeCells #[.int .u64 0] (q + na + 1)) 29) = w2 at *
  clear hW2 hmk
  go_loopw [30] (fun i wr => ∃ (k : Nat) (l : List Nat), k ≤ na ∧ i = .int .i64 (k : Int) ∧ RowL wr w1.heap.size l ∧ l.length = q + na + 1 ∧ Words l ∧ val l = val (a.take k) * 2 ^ bits ∧ Below w.heap.size w wr) (fun i _ => na - (intOf i).toNat)
  case atStart => exact ⟨0, _, by omega, rfl, hz, by simp, words_zeros _, by rw [val_zeros]; simp [val], hB2⟩
  case round =>
    obtain ⟨k, l, hk, rfl, hrow, hlen, hwl, hval, hB⟩ := hrel
    by_cases hlt : k < na
    · obtain ⟨b1, o1, rfl, _, hc1⟩ := (hra.below hB).cells (by omega)
      have hca := hc1 k hlt
      have hcu : wr.cell? ⟨w1.heap.size, q + k, none⟩ = some (u64 (lim l (q + k))) := hrow.cell (by omega)
      have hfu : wr.frozen? ⟨w1.heap.size, q + k, none⟩ = false := hrow.frozen _
      have hrlt : (r : Int) < 64 := by omega
      have HV := Lib.hid hval
      have HROW := Lib.hid hrow
      have hx := hra.words.get k
      have hy := hwl.get (q + k)
      clear hc1 hval hrow
      have hor : Go.bits BinOp.or IntKind.u64 ((lim l (q + k) : Nat) : Int) (IntKind.u64.wrap (((lim a k : Nat) : Int) * 2 ^ r)) = ((lim l (q + k) ||| (lim a k * 2 ^ r % B64) : Nat) : Int) := or_word _ _ _ hy
      have HOR := Lib.hid hor
      clear hor
      go_wp2
      go_region
      rw [HOR.out]
      have hr2 := HROW.out.set (q + k) (lim l (q + k) ||| (lim a k * 2 ^ r % B64))
      have hb2 := hB.setCell (p := ⟨w1.heap.size, q + k, none⟩) hG (u64 (lim l (q + k) ||| (lim a k * 2 ^ r % B64)))
      generalize (wr.setCell ⟨w1.heap.size, q + k, none⟩ (.int .u64 ((lim l (q + k) ||| (lim a k * 2 ^ r % B64) : Nat) : Int))) = w4 at *
      have hcv : w4.cell? ⟨w1.heap.size, q + k + 1, none⟩ = some (u64 (lim (l.set (q + k) (lim l (q + k) ||| (lim a k * 2 ^ r % B64))) (q + k + 1))) := hr2.cell (by rw [List.length_set]; omega)
      have hfv : w4.frozen? ⟨w1.heap.size, q + k + 1, none⟩ = false := hr2.frozen _
      have HR2 := Lib.hid hr2
      clear hr2
      go_wp2
      go_roundw
      case rel =>
        have e3 : (((lim a k : Nat) : Int) / 2 ^ (64 - r)) = ((lim a k / 2 ^ (64 - r) : Nat) : Int) := by simp
        rw [e3]
        refine ⟨k + 1, _, by omega, by go_num, (HR2.out.set (q + k + 1) (lim a k / 2 ^ (64 - r))).drew, by simp [hlen], ?_, ?_, (hb2.setCell (p := ⟨w1.heap.size, q + k + 1, none⟩) hG _).drew⟩
        · exact (up_step hwl hra.words hlen (by rw [hra.len]; omega) hr1 (by have := HQ.out; have := HR.out; omega) HV.out).1
        · exact (up_step hwl hra.words hlen (by rw [hra.len]; omega) hr1 (by have := HQ.out; have := HR.out; omega) HV.out).2
      case measure => simp [intOf]; omega
    · have hkn : k = na := by omega
      have hv2 : val l = val a * 2 ^ bits := by rw [hval, hkn, val_take_all (by rw [hra.len]; omega)]
      have HV := Lib.hid hv2
      have HROW := Lib.hid hrow
      clear hval hv2 hrow hkn
      go_wp2_with (go_at_call 34; refine (trim_any _ _ _ l wr (HROW.out.own (B := w1.heap.size) (Nat.le_refl _) hwl hlen (by simp only [maxLen]; omega)).rd.1 (by omega) (by omega)).mono ?_; rintro e w' ⟨⟨k2, hk2, rfl, ht⟩, rfl⟩; have HT := Lib.hid ht; clear ht)
      go_ret2
      exact ⟨_, k2, l, rfl, HROW.out, hlen, hwl, hk2, HT.out, HV.out, hG, hB⟩

theorem zeros_cells (k : Nat) : (Builtin.zeroCells #[.int .u64 0] k).toList = List.replicate k (.int .u64 0) := by
  apply List.ext_getElem
  · simp [Builtin.zeroCells]
  · intro i h1 h2
    simp [Builtin.zeroCells, Nat.mod_one]
/-- Noughts laid where there is room, and noughts. -/
theorem append_zeros {w : World} {g m k : Nat} {l : List Nat} (t tn ty : TypeId) (kn : IntKind) (ht : Tryd.prog.underlying t = some (.slice 29)) (htn : Tryd.prog.underlying tn = some (.int kn)) (i : TypeInfo) (hi : Tryd.prog.info? 29 = some i) (hz : i.zero = some (.int .u64 0)) (hsize : i.size = 1) (hby : i.bytes = 8)
    (hrow : RowL w g l) (hl : l.length = m + k) (hk : k ≤ 4294967296) (h0 : ∀ j, m ≤ j → lim l j = 0) :
    ∃ w', (Builtin.append_ #[t, tn] ty #[.slice (some ⟨g, 0, none⟩) m (m + k), .int .i64 (k : Int)]).run Tryd.prog w = .ok (.slice (some ⟨g, 0, none⟩) (m + k) (m + k)) w' ∧ RowL w' g l ∧ Only g w w' := by
  have hst := run_storeCells_at Tryd.prog g m 29 (List.replicate k (.int .u64 0)) 0 (l.map u64).toArray w hrow (by simp; omega) (fun v hv => by rw [(List.mem_replicate.1 hv).2]; rfl)
  have hw : IntKind.i64.wrap (k : Int) = k := by rw [IntKind.wrap_i64]; omega
  have hneg : ¬ ((k : Int) < 0) := by omega
  have h48 : ¬ (281474976710656 < (k : Int) * 8) := by omega
  refine ⟨w.setRow g (((l.map u64).toArray.toList.take (m + 0)) ++ List.replicate k (Value.int .u64 0) ++ ((l.map u64).toArray.toList.drop (m + 0 + (List.replicate k (Value.int .u64 0)).length))).toArray, ?_, ?_, ?_⟩
  · by_cases hk0 : k = 0
    · subst hk0
      have hw0 : IntKind.i64.wrap (0 : Int) = 0 := by rw [IntKind.wrap_i64]; rfl
      simp [hw0, Builtin.append_, run_underlying ht, run_underlying htn, sizeOf, typeInfo, zeroValue, hi, hz, hsize, hby, asInt, asIntOf, hw, Addr.add_lit] at hst ⊢
      rw [hst]
      rfl
    · have hns : ¬ (k * 1 = 0) := by omega
      have hzc : (Builtin.zeroCells (Value.int .u64 0).cells k).toList = List.replicate k (.int .u64 0) := zeros_cells k
      simp [Builtin.append_, run_underlying ht, run_underlying htn, sizeOf, typeInfo, zeroValue, hi, hz, hsize, hby, asInt, asIntOf, hw, hneg, h48, hns, hk0, hzc, Addr.add_lit] at hst ⊢
      rw [hst]
      rfl
  · have e : (((l.map u64).toArray.toList.take (m + 0)) ++ List.replicate k (Value.int .u64 0) ++ ((l.map u64).toArray.toList.drop (m + 0 + (List.replicate k (Value.int .u64 0)).length))).toArray = (l.map u64).toArray := by
      refine congrArg List.toArray ?_
      rw [List.length_replicate, Nat.add_zero]
      have e1 : (l.map u64).drop (m + k) = [] := List.drop_eq_nil_of_le (by simp; omega)
      have e2 : (l.map u64).drop m = List.replicate k (u64 0) := by
        rw [List.eq_replicate_iff]
        refine ⟨by simp; omega, fun v hv => ?_⟩
        rw [← List.map_drop] at hv
        obtain ⟨y, hy, rfl⟩ := List.mem_map.1 hv
        obtain ⟨j, hj, e⟩ := List.mem_iff_getElem.1 hy
        have := h0 (m + j) (by omega)
        simp at hj
        rw [lim_get (by omega)] at this
        rw [List.getElem_drop] at e
        rw [← e, this]
      show (l.map u64).take m ++ List.replicate k (u64 0) ++ (l.map u64).drop (m + k) = l.map u64
      rw [e1, List.append_nil, ← e2, List.take_append_drop]
    rw [e]
    exact setRow_heap w g _ _ _ _ hrow
  · refine ⟨⟨rfl, rfl, rfl, by simp [World.setRow], fun k hk => absurd hk (by omega)⟩, fun j hj hg => ?_⟩
    simp only [World.setRow, Array.getElem?_modify]
    rw [if_neg (by omega)]

theorem lim_rest {l : List Nat} {k : Nat} (hw : Words l) (ht : l.take k = limbs (val l)) : ∀ j, k ≤ j → lim l j = 0 := by
  intro j hj
  refine lim_zero_of_lt hw ?_
  have h := val_lt (words_limbs (val l))
  rw [val_limbs, ← ht] at h
  exact Nat.lt_of_lt_of_le h (Nat.pow_le_pow_right B64_pos (by rw [List.length_take]; omega))

set_option maxRecDepth 100000 in
set_option maxHeartbeats 2000000 in
/-- div.up. -/
theorem upD_any (A : Option Addr) (na ca bits : Nat) (a : List Nat) (w : World) (hra : Rd w A na a) (hna : na ≤ 1000000) (hm : may a = true) (hb : bits < 64) :
    Calls Tryd.prog 42 #[.slice A na ca, .int .i64 (bits : Int), .int .i64 ((na + 1 : Nat) : Int)] w fun e w' => ∃ g l, e = .returned (.slice (some ⟨g, 0, none⟩) (na + 1) (na + 1)) ∧ RowL w' g l ∧ l.length = na + 1 ∧ Words l ∧ val l = val a * 2 ^ bits ∧ w.heap.size ≤ g ∧ Below w.heap.size w w' := by
  obtain ⟨i0, hi, hz0, hz1, hz2⟩ := info_parts u64_info
  have HU := Lib.hid (up_row A na ca a bits 0 bits w hra (by omega) hm (by omega) (by omega) (by omega))
  clear hra hm
  go_enter Tryd.func42, Tryd.ntmps42
  go_wp2_with fail
  refine HU.out.mono ?_
  rintro e w1 ⟨g, k, l, rfl, hrow, hlen, hwl, hk, ht, hv, hg, hB⟩
  rw [Nat.zero_add] at hlen hk
  have hl0 := lim_rest hwl ht
  obtain ⟨w2, hr2, hrow2, hO⟩ := append_zeros (m := k) (k := na + 1 - k) 23 3 23 .i64 Tryd.underlying23 Tryd.underlying3 i0 hi hz0 hz1 hz2 hrow (by omega) (by omega) hl0
  rw [show k + (na + 1 - k) = na + 1 by omega, show ((na + 1 - k : Nat) : Int) = (na : Int) + 1 - (k : Int) by omega] at hr2
  have HR := Lib.hid hr2
  clear hr2
  go_wp2_with (at_builtin; go_loud (refine Lib.wpList_append_run _ rfl _ _ _ _ rfl _ _ rfl rfl _ _ HR.out ?_))
  go_ret
  exact ⟨g, l, rfl, hrow2, hlen, hwl, hv, hg, hB.trans (hO.to hg (by have := hB.size; omega))⟩
end Go.Proofs.YtoehkaagfokamaaDoor
