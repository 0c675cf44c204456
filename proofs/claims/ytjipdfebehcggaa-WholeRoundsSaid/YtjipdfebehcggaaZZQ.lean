import Derived.Test.YtjipdfebehcggaaZZP
import Derived.Test.YtjipdfebehcggaaZDNames
import Derived.Test.YtjipdfebehcggaaZBit
/- ZQ. -/
/- whole: which is less, ints, the same. -/
namespace Go.Proofs.Ytjipdfebehcggaa
open Go.RowKit Go.Shelf
set_option linter.unusedVariables false
set_option linter.unusedSimpArgs false

theorem sgn_cmp (v u : Nat) : sgn ((v : Int) - u) = cmp3 v u := by unfold sgn cmp3; split <;> split <;> (try split) <;> (try split) <;> omega
theorem big_val {a : List Nat} (hw : Words a) (hm : may a = true) (hl : 1 < a.length) : B64 ≤ val a := by
  refine Nat.le_of_not_lt fun h => ?_
  have h1 := limbs_length_le (k := 1) (show val a < B64 ^ 1 by rw [Nat.pow_one]; exact h)
  rw [limbs_val hw hm] at h1
  omega
theorem val_one {a : List Nat} (hl : a.length ≤ 1) : val a = lim a 0 := by
  cases a with
  | nil => rfl
  | cons x r =>
    have : r = [] := List.eq_nil_of_length_eq_zero (by rw [List.length_cons] at hl; omega)
    subst this
    simp [val, lim]
theorem words_lim {a : List Nat} (hw : Words a) (i : Nat) : lim a i < B64 := by
  by_cases h : i < a.length
  · rw [lim_get h]
    exact hw _ (List.getElem_mem h)
  · rw [lim_past (by omega)]
    exact B64_pos
theorem zof_sgn (p : Bool) (a : List Nat) : zof p a = if p then -(val a : Int) else (val a : Int) := rfl
theorem zof_nil (p : Bool) : zof p [] = 0 := by cases p <;> rfl
section
variable {A A2 : Option Addr} {na ca nb cb v u : Nat} {p q : Bool} {a b : List Nat} {w : World} {z y : Int}
set_option maxRecDepth 100000 in
set_option maxHeartbeats 4000000 in
theorem cmpZ_any (h : Z2 w A A2 na ca nb cb a b) : Calls Try.prog 13 #[zv p A na ca, zv q A2 nb cb] w (IAns w (twoZ p a q b (sgn (zof p a - zof q b))) (twoE p a q b)) := by
  have H1 := Lib.hid (mayTwo_at2 (p := p) (q := q) h)
  cases hm : twoM p a q b with
  | false =>
    rw [twoZ_no hm, twoE_no hm]
    rw [twoE_no hm] at H1
    clear h hm
    unfold zv at *
    go_enter Try.func13, Try.ntmps13
    go_wp2_with fail
    refine H1.out.mono ?_
    rintro e w1 ⟨rfl, T1⟩
    have xa0 := T1.x.c0
    have xa1 := T1.x.c1
    have xb0 := T1.y.c0
    have xb1 := T1.y.c1
    go_wp2
    go_ret2
    exact ⟨rfl, T1.b⟩
  | true =>
    have hz := h.num hm
    rw [twoZ_ok hm, twoE_ok hm]
    rw [twoE_ok hm] at H1
    have hp := mayZ_sgn (twoM_iff.1 hm).1
    have hq := mayZ_sgn (twoM_iff.1 hm).2
    have hla := h.la
    have hlb := h.lb
    have n1 := hz.1
    have n2 := hz.2.1
    have HSg := Lib.hid (fun W => signsOf_any (A := A) (A2 := A2) (na := na) (ca := ca) (nb := nb) (cb := cb) (p := p) (q := q) (w := W))
    unfold zv at *
    clear h hm hz
    generalize zof p a = z at n1 hp ⊢
    generalize zof q b = y at n2 hq ⊢
    have E1 := eq_signs p q true false
    have E2 := eq_signs p q false true
    have E3 := eq_signs p q true true
    cases p with
    | true =>
      cases q with
      | true =>
        have HR : Hid (sgn (z - y) = cmp3 y.natAbs z.natAbs) := by
          show _ = _
          rw [← sgn_cmp]
          have h1 := of_decide_eq_true hp.symm
          have h2 := of_decide_eq_true hq.symm
          congr 1
          omega
        have HC := Lib.hid (fun W (hW : Below w.heap.size w W) => cmp_nm A2 A nb cb na ca y.natAbs z.natAbs W (n2.below hW) (n1.below hW) (by omega) (by omega))
        rw [← HR.out] at HC
        clear hp hq n1 n2 hla hlb HR
        generalize sgn (z - y) = n at HC ⊢
        go_enter Try.func13, Try.ntmps13
        go_wp2_with fail
        refine H1.out.mono ?_
        rintro e w1 ⟨rfl, T1⟩
        have xa0 := T1.x.c0
        have xa1 := T1.x.c1
        have xb0 := T1.y.c0
        have xb1 := T1.y.c1
        go_wp2_with fail
        refine (HSg.out _).mono ?_
        rintro e w2 ⟨rfl, hb2⟩
        have T2 := T1.next (below_then hb2 (bxb _ (.cells #[.bool true, .bool true] 54)))
        have hs1 : (w2.alloc (.cells #[.bool true, .bool true] 54)).heap[w2.heap.size]? = some (.cells #[.bool true, .bool true] 54) := World.alloc_heap_new _ _
        have s0 := cells_cell hs1 (j := 0) rfl
        have s1 := cells_cell hs1 (j := 1) rfl
        clear hb2 hs1
        clear xa0 xa1 xb0 xb1
        have xa0 := T2.x.c0
        have xa1 := T2.x.c1
        have xb0 := T2.y.c0
        have xb1 := T2.y.c1
        go_wp2_with fail
        refine (HC.out _ T2.b).mono ?_
        rintro e w3 ⟨rfl, hb3⟩
        have T3 := T2.next hb3
        clear hb3
        go_wp2
        go_ret2
        exact ⟨rfl, T3.b⟩
      | false =>
        have HR : Hid (sgn (z - y) = -1) := by
          show _ = _
          have h1 := of_decide_eq_true hp.symm
          have h2 := of_decide_eq_false hq.symm
          unfold sgn
          split <;> (try split) <;> omega
        clear hp hq n1 n2 hla hlb
        go_enter Try.func13, Try.ntmps13
        go_wp2_with fail
        refine H1.out.mono ?_
        rintro e w1 ⟨rfl, T1⟩
        have xa0 := T1.x.c0
        have xa1 := T1.x.c1
        have xb0 := T1.y.c0
        have xb1 := T1.y.c1
        go_wp2_with fail
        refine (HSg.out _).mono ?_
        rintro e w2 ⟨rfl, hb2⟩
        have T2 := T1.next (below_then hb2 (bxb _ (.cells #[.bool true, .bool false] 54)))
        have hs1 : (w2.alloc (.cells #[.bool true, .bool false] 54)).heap[w2.heap.size]? = some (.cells #[.bool true, .bool false] 54) := World.alloc_heap_new _ _
        have s0 := cells_cell hs1 (j := 0) rfl
        have s1 := cells_cell hs1 (j := 1) rfl
        clear hb2 hs1
        clear xa0 xa1 xb0 xb1
        have xa0 := T2.x.c0
        have xa1 := T2.x.c1
        have xb0 := T2.y.c0
        have xb1 := T2.y.c1
        go_wp2
        go_ret2
        exact ⟨by rw [HR.out]; rfl, T2.b⟩
    | false =>
      cases q with
      | true =>
        have HR : Hid (sgn (z - y) = 1) := by
          show _ = _
          have h1 := of_decide_eq_false hp.symm
          have h2 := of_decide_eq_true hq.symm
          unfold sgn
          split <;> (try split) <;> omega
        clear hp hq n1 n2 hla hlb
        go_enter Try.func13, Try.ntmps13
        go_wp2_with fail
        refine H1.out.mono ?_
        rintro e w1 ⟨rfl, T1⟩
        have xa0 := T1.x.c0
        have xa1 := T1.x.c1
        have xb0 := T1.y.c0
        have xb1 := T1.y.c1
        go_wp2_with fail
        refine (HSg.out _).mono ?_
        rintro e w2 ⟨rfl, hb2⟩
        have T2 := T1.next (below_then hb2 (bxb _ (.cells #[.bool false, .bool true] 54)))
        have hs1 : (w2.alloc (.cells #[.bool false, .bool true] 54)).heap[w2.heap.size]? = some (.cells #[.bool false, .bool true] 54) := World.alloc_heap_new _ _
        have s0 := cells_cell hs1 (j := 0) rfl
        have s1 := cells_cell hs1 (j := 1) rfl
        clear hb2 hs1
        clear xa0 xa1 xb0 xb1
        have xa0 := T2.x.c0
        have xa1 := T2.x.c1
        have xb0 := T2.y.c0
        have xb1 := T2.y.c1
        go_wp2
        go_ret2
        exact ⟨by rw [HR.out]; rfl, T2.b⟩
      | false =>
        have HR : Hid (sgn (z - y) = cmp3 z.natAbs y.natAbs) := by
          show _ = _
          rw [← sgn_cmp]
          have h1 := of_decide_eq_false hp.symm
          have h2 := of_decide_eq_false hq.symm
          congr 1
          omega
        have HC := Lib.hid (fun W (hW : Below w.heap.size w W) => cmp_nm A A2 na ca nb cb z.natAbs y.natAbs W (n1.below hW) (n2.below hW) (by omega) (by omega))
        rw [← HR.out] at HC
        clear hp hq n1 n2 hla hlb HR
        generalize sgn (z - y) = n at HC ⊢
        go_enter Try.func13, Try.ntmps13
        go_wp2_with fail
        refine H1.out.mono ?_
        rintro e w1 ⟨rfl, T1⟩
        have xa0 := T1.x.c0
        have xa1 := T1.x.c1
        have xb0 := T1.y.c0
        have xb1 := T1.y.c1
        go_wp2_with fail
        refine (HSg.out _).mono ?_
        rintro e w2 ⟨rfl, hb2⟩
        have T2 := T1.next (below_then hb2 (bxb _ (.cells #[.bool false, .bool false] 54)))
        have hs1 : (w2.alloc (.cells #[.bool false, .bool false] 54)).heap[w2.heap.size]? = some (.cells #[.bool false, .bool false] 54) := World.alloc_heap_new _ _
        have s0 := cells_cell hs1 (j := 0) rfl
        have s1 := cells_cell hs1 (j := 1) rfl
        clear hb2 hs1
        clear xa0 xa1 xb0 xb1
        have xa0 := T2.x.c0
        have xa1 := T2.x.c1
        have xb0 := T2.y.c0
        have xb1 := T2.y.c1
        go_wp2_with fail
        refine (HC.out _ T2.b).mono ?_
        rintro e w3 ⟨rfl, hb3⟩
        have T3 := T2.next hb3
        clear hb3
        go_wp2
        go_ret2
        exact ⟨rfl, T3.b⟩
set_option maxRecDepth 100000 in
set_option maxHeartbeats 2000000 in
theorem signZ_any (h : Z1 w A na ca a) : Calls Try.prog 15 #[zv p A na ca] w (IAns w (oneZ p a (sgn (zof p a))) (oneE p a)) := by
  have T0 := uno_box w p A na ca
  have HC := Lib.hid (fun W (hW : Below w.heap.size w W) => cmpZ_any (p := p) (q := false) (A2 := none) (nb := 0) (cb := 0) (b := []) (w := W) ⟨h.ra.below hW, rd_nil W none, h.la, by omega, h.ca1, h.ca2, by omega, by omega⟩)
  have e1 : twoE p a false [] = oneE p a := by simp [twoE, oneE, twoM, mayZ, show may [] = true from rfl]
  have e2 : ∀ x, twoZ p a false [] x = oneZ p a x := fun x => by simp [twoZ, oneZ, twoM, mayZ, show may [] = true from rfl]
  rw [e1, e2, zof_nil, Int.sub_zero] at HC
  clear h e1 e2
  generalize oneZ p a (sgn (zof p a)) = n at HC ⊢
  generalize oneE p a = E at HC ⊢
  unfold zv IAns at *
  go_enter Try.func15, Try.ntmps15
  go_wp2_with fail
  refine (HC.out _ T0.b).mono ?_
  rintro e w1 ⟨rfl, hb⟩
  have T1 := T0.next hb
  go_wp2
  go_ret2
  exact ⟨rfl, T1.b⟩
set_option maxRecDepth 100000 in
set_option maxHeartbeats 2000000 in
theorem checkZ_any (h : Z1 w A na ca a) : Calls Try.prog 24 #[zv p A na ca] w fun e w' => e = .returned (.int .i64 (oneE p a)) ∧ Below w.heap.size w w' := by
  have H1 := Lib.hid (mayOne_at1 (p := p) h)
  clear h
  generalize oneE p a = E at H1 ⊢
  unfold zv at *
  go_enter Try.func24, Try.ntmps24
  go_wp2_with fail
  refine H1.out.mono ?_
  rintro e w1 ⟨rfl, T1⟩
  go_wp2
  go_ret
  exact ⟨rfl, T1.b⟩
set_option maxRecDepth 100000 in
set_option maxHeartbeats 2000000 in
theorem ofZ_any (n : Int) (h1 : -9223372036854775808 ≤ n) (h2 : n ≤ 9223372036854775807) : Calls Try.prog 22 #[.int .i64 n] w (ZOne w n) := by
  have hx : BoxZ (w.alloc (zo false none 0 0)) w.heap.size false none 0 0 := World.alloc_heap_new _ _
  have hs : w.heap.size < (w.alloc (zo false none 0 0)).heap.size := by simp
  have HB := Lib.hid (And.intro (bxb w (zo false none 0 0)) hx)
  have HS := Lib.hid hs
  clear hx hs
  have HT := Lib.hid (fun W => of_any n.natAbs W (by rw [B64_eq]; omega))
  by_cases hn : n < 0
  · have hc : IntKind.u64.wrap n = 18446744073709551616 + n := by rw [IntKind.wrap_u64]; omega
    have hc2 : IntKind.u64.wrap (-(18446744073709551616 + n)) = (n.natAbs : Int) := by rw [IntKind.wrap_u64]; omega
    have HD : Hid (n ≠ 0 → decide (n < 0) = true) := fun _ => decide_eq_true hn
    have HQ : Hid (decide (n < 0) = true) := decide_eq_true hn
    go_enter Try.func22, Try.ntmps22
    go_wp2_with fail
    refine (HT.out _).mono ?_
    rintro e w4 ⟨A3, k3, c3, rfl, o3, hb3⟩
    have x4 := HB.out.2.below hb3 HS.out
    have B4 := below_then HB.out.1 hb3
    clear hb3
    go_wp2_with fail
    refine (signed_own (z := n) (d := true) o3 HD.out).mono ?_
    rintro e w5 ⟨A9, k9, c9, rfl, o9, hb5⟩
    have HV : Hid (zV n A9 k9 c9 = zv true A9 k9 c9) := by show _ = _; unfold zV; rw [HQ.out]
    rw [HV.out]
    have x5 := x4.below hb5 (Array.getElem?_eq_some_iff.1 x4).1
    have B5 := below_then B4 hb5
    have r0 := x5.c0
    have r1 := x5.c1
    have f0 := x5.f 0
    have f1 := x5.f 1
    clear x4 B4 hb5
    unfold zv
    go_wp2
    refine bodyPost_ret (v := zv true A9 k9 c9) (by simp [results, Try.results22, go_sem, r0, r1, zV, zv]) rfl ?_
    exact ⟨A9, k9, c9, by rw [HV.out], own_box HS.out (Nat.le_refl _) o9 _ _, box_below (Nat.le_refl _) B5 _ _⟩
  · have hc : IntKind.u64.wrap n = (n.natAbs : Int) := by rw [IntKind.wrap_u64]; omega
    have HD : Hid (n ≠ 0 → decide (n < 0) = false) := fun _ => decide_eq_false hn
    have HQ : Hid (decide (n < 0) = false) := decide_eq_false hn
    go_enter Try.func22, Try.ntmps22
    go_wp2_with fail
    refine (HT.out _).mono ?_
    rintro e w4 ⟨A3, k3, c3, rfl, o3, hb3⟩
    have x4 := HB.out.2.below hb3 HS.out
    have B4 := below_then HB.out.1 hb3
    clear hb3
    go_wp2_with fail
    refine (signed_own (z := n) (d := false) o3 HD.out).mono ?_
    rintro e w5 ⟨A9, k9, c9, rfl, o9, hb5⟩
    have HV : Hid (zV n A9 k9 c9 = zv false A9 k9 c9) := by show _ = _; unfold zV; rw [HQ.out]
    rw [HV.out]
    have x5 := x4.below hb5 (Array.getElem?_eq_some_iff.1 x4).1
    have B5 := below_then B4 hb5
    have r0 := x5.c0
    have r1 := x5.c1
    have f0 := x5.f 0
    have f1 := x5.f 1
    clear x4 B4 hb5
    unfold zv
    go_wp2
    refine bodyPost_ret (v := zv false A9 k9 c9) (by simp [results, Try.results22, go_sem, r0, r1, zV, zv]) rfl ?_
    exact ⟨A9, k9, c9, by rw [HV.out], own_box HS.out (Nat.le_refl _) o9 _ _, box_below (Nat.le_refl _) B5 _ _⟩
set_option maxRecDepth 100000 in
set_option maxHeartbeats 4000000 in
theorem intZ_any (h : Z1 w A na ca a) : Calls Try.prog 19 #[zv p A na ca] w (IAns w (intZ p a) (intE p a)) := by
  have H1 := Lib.hid (mayOne_at1 (p := p) h)
  cases hm : mayZ p a with
  | false =>
    have HE : Hid (intE p a = 8) := by show _ = _; simp [intE, hm]
    have HV : Hid (intZ p a = 0) := by show _ = _; simp [intZ, HE.out]
    rw [oneE_no hm] at H1
    clear h hm
    unfold zv at *
    go_enter Try.func19, Try.ntmps19
    go_wp2_with fail
    refine H1.out.mono ?_
    rintro e w1 ⟨rfl, T2⟩
    go_wp2
    go_ret2
    exact ⟨by rw [HV.out, HE.out]; rfl, T2.b⟩
  | true =>
    have hma := mayZ_may hm
    have hla := h.la
    have hval := h.ra.len
    rw [oneE_ok hm] at H1
    by_cases hl : 1 < na
    · have HW := Lib.hid (fun W (hW : Below w.heap.size w W) => word_many A na ca a W (h.ra.below hW) (by omega) hma hl)
      have hbig : B64 ≤ val a := big_val h.ra.words hma (by omega)
      rw [B64_eq] at hbig
      have habs := zof_abs p a
      have HE : Hid (intE p a = 4) := by show _ = _; unfold intE; rw [if_pos hm, if_neg (by omega)]
      have HV : Hid (intZ p a = 0) := by show _ = _; simp [intZ, HE.out]
      clear h hm hma hla hval hl hbig habs
      unfold zv at *
      go_enter Try.func19, Try.ntmps19
      go_wp2_with fail
      refine H1.out.mono ?_
      rintro e w1 ⟨rfl, T1⟩
      have xa0 := T1.x.c0
      have xa1 := T1.x.c1
      go_wp2_with fail
      refine (HW.out _ T1.b).mono ?_
      rintro e w2 ⟨rfl, hb2⟩
      have T2 := T1.next hb2
      clear xa0 xa1 T1 hb2
      have xa0 := T2.x.c0
      have xa1 := T2.x.c1
      go_wp2
      go_ret2
      exact ⟨by rw [HV.out, HE.out]; rfl, T2.b⟩
    · have HW := Lib.hid (fun W (hW : Below w.heap.size w W) => word_ok A na ca a W (h.ra.below hW) hma (by omega))
      have hv1 := val_one (a := a) (by omega)
      have hx := words_lim h.ra.words 0
      rw [B64_eq] at hx
      have hz := zof_sgn p a
      rw [hv1] at hz
      have hneg : p = true → lim a 0 ≠ 0 := fun hp => by
        subst hp
        have := val_pos hma (by simpa [mayZ, hma] using hm)
        rw [hv1] at this
        omega
      generalize lim a 0 = x at HW hv1 hx hz hneg
      clear hval hl hla hv1 hma
      have HE : Hid (intE p a = if -9223372036854775808 ≤ zof p a ∧ zof p a ≤ 9223372036854775807 then 0 else 4) := by show _ = _; unfold intE; rw [if_pos hm]
      have HV : Hid (intZ p a = if -9223372036854775808 ≤ zof p a ∧ zof p a ≤ 9223372036854775807 then zof p a else 0) := by
        show _ = _
        unfold intZ
        rw [HE.out]
        by_cases hr : -9223372036854775808 ≤ zof p a ∧ zof p a ≤ 9223372036854775807
        · rw [if_pos hr, if_pos hr]; rfl
        · rw [if_neg hr, if_neg hr]; rfl
      rw [hz] at HE HV
      clear h hm hz
      unfold zv at *
      cases p with
      | true =>
        by_cases hb : x ≤ 9223372036854775808
        · obtain ⟨y, hy⟩ : ∃ y : Int, y = -(x : Int) := ⟨_, rfl⟩
          have hx0 := hneg rfl
          obtain ⟨u, hu0⟩ : ∃ u : Int, u = 18446744073709551616 - (x : Int) := ⟨_, rfl⟩
          have hu : IntKind.u64.wrap (-(x : Int)) = u := by rw [IntKind.wrap_u64]; omega
          have hw : IntKind.i64.wrap u = y := by rw [IntKind.wrap_i64]; omega
          simp only [if_true] at HE HV
          have hs : decide (y < 0) = true := decide_eq_true (by omega)
          have hs2 : (y < 0) = True := by simp only [eq_iff_iff, iff_true, iff_false]; omega
          rw [if_pos (by omega)] at HE HV
          rw [← hy] at HV
          clear hu0 hx0
          clear hneg hx hb hy
          go_enter Try.func19, Try.ntmps19
          go_wp2_with fail
          refine H1.out.mono ?_
          rintro e w1 ⟨rfl, T1⟩
          have xa0 := T1.x.c0
          have xa1 := T1.x.c1
          go_wp2_with fail
          refine (HW.out _ T1.b).mono ?_
          rintro e w2 ⟨rfl, hb2⟩
          have T2 := T1.next hb2
          clear xa0 xa1 T1 hb2
          have xa0 := T2.x.c0
          have xa1 := T2.x.c1
          go_wp2
          go_ret2
          exact ⟨by rw [HV.out, HE.out]; rfl, T2.b⟩
        · obtain ⟨y, hy⟩ : ∃ y : Int, y = 18446744073709551616 - (x : Int) := ⟨_, rfl⟩
          have hx0 := hneg rfl
          obtain ⟨u, hu0⟩ : ∃ u : Int, u = 18446744073709551616 - (x : Int) := ⟨_, rfl⟩
          have hu : IntKind.u64.wrap (-(x : Int)) = u := by rw [IntKind.wrap_u64]; omega
          have hw : IntKind.i64.wrap u = y := by rw [IntKind.wrap_i64]; omega
          simp only [if_true] at HE HV
          have hs : decide (y < 0) = false := decide_eq_false (by omega)
          have hs2 : (y < 0) = False := by simp only [eq_iff_iff, iff_true, iff_false]; omega
          rw [if_neg (by omega)] at HE HV
          clear hu0 hx0
          clear hneg hx hb hy
          go_enter Try.func19, Try.ntmps19
          go_wp2_with fail
          refine H1.out.mono ?_
          rintro e w1 ⟨rfl, T1⟩
          have xa0 := T1.x.c0
          have xa1 := T1.x.c1
          go_wp2_with fail
          refine (HW.out _ T1.b).mono ?_
          rintro e w2 ⟨rfl, hb2⟩
          have T2 := T1.next hb2
          clear xa0 xa1 T1 hb2
          have xa0 := T2.x.c0
          have xa1 := T2.x.c1
          go_wp2
          go_ret2
          exact ⟨by rw [HV.out, HE.out]; rfl, T2.b⟩
      | false =>
        by_cases hb : x ≤ 9223372036854775807
        · obtain ⟨y, hy⟩ : ∃ y : Int, y = (x : Int) := ⟨_, rfl⟩
          have hw : IntKind.i64.wrap (x : Int) = y := by rw [IntKind.wrap_i64]; omega
          simp only [Bool.false_eq_true, if_false] at HE HV
          have hs : decide (y < 0) = false := decide_eq_false (by omega)
          have hs2 : (y < 0) = False := by simp only [eq_iff_iff, iff_true, iff_false]; omega
          rw [if_pos (by omega)] at HE HV
          rw [← hy] at HV
          clear hneg hx hb hy
          go_enter Try.func19, Try.ntmps19
          go_wp2_with fail
          refine H1.out.mono ?_
          rintro e w1 ⟨rfl, T1⟩
          have xa0 := T1.x.c0
          have xa1 := T1.x.c1
          go_wp2_with fail
          refine (HW.out _ T1.b).mono ?_
          rintro e w2 ⟨rfl, hb2⟩
          have T2 := T1.next hb2
          clear xa0 xa1 T1 hb2
          have xa0 := T2.x.c0
          have xa1 := T2.x.c1
          go_wp2
          go_ret2
          exact ⟨by rw [HV.out, HE.out]; rfl, T2.b⟩
        · obtain ⟨y, hy⟩ : ∃ y : Int, y = (x : Int) - 18446744073709551616 := ⟨_, rfl⟩
          have hw : IntKind.i64.wrap (x : Int) = y := by rw [IntKind.wrap_i64]; omega
          simp only [Bool.false_eq_true, if_false] at HE HV
          have hs : decide (y < 0) = true := decide_eq_true (by omega)
          have hs2 : (y < 0) = True := by simp only [eq_iff_iff, iff_true, iff_false]; omega
          rw [if_neg (by omega)] at HE HV
          clear hneg hx hb hy
          go_enter Try.func19, Try.ntmps19
          go_wp2_with fail
          refine H1.out.mono ?_
          rintro e w1 ⟨rfl, T1⟩
          have xa0 := T1.x.c0
          have xa1 := T1.x.c1
          go_wp2_with fail
          refine (HW.out _ T1.b).mono ?_
          rintro e w2 ⟨rfl, hb2⟩
          have T2 := T1.next hb2
          clear xa0 xa1 T1 hb2
          have xa0 := T2.x.c0
          have xa1 := T2.x.c1
          go_wp2
          go_ret2
          exact ⟨by rw [HV.out, HE.out]; rfl, T2.b⟩
end
set_option maxHeartbeats 2000000 in
/-- slices.Equal. -/
theorem equal_any (A A2 : Option Addr) (na ca nb cb : Nat) (a b : List Nat) (w : World) (hra : Rd w A na a) (hrb : Rd w A2 nb b) (hna : na ≤ 4294967296) (hnb : nb ≤ 4294967296) :
    Calls Try.prog 52 #[.slice A na ca, .slice A2 nb cb] w fun e w' => e = .returned (.bool (decide (a = b))) ∧ Below w.heap.size w w' := by
  by_cases hl : na = nb
  · subst hl
    go_enter Try.func52, Try.ntmps52
    go_wp2
    go_loopw [13] (fun i wr => ∃ k : Nat, k ≤ na ∧ i = .int .i64 (k : Int) ∧ (∀ j, j < k → lim a j = lim b j) ∧ Below w.heap.size w wr) (fun i _ => na - (intOf i).toNat)
    case atStart => exact ⟨0, by omega, rfl, fun j hj => by omega, Below.refl _ _⟩
    case round =>
      obtain ⟨k, hk, rfl, hs, hb⟩ := hrel
      by_cases hlt : k < na
      · obtain ⟨b1, o1, rfl, _, hc1⟩ := (hra.below hb).cells (by omega)
        obtain ⟨b2, o2, rfl, _, hc2⟩ := (hrb.below hb).cells (by omega)
        have hca := hc1 k hlt
        have hcb := hc2 k hlt
        have HS := Lib.hid hs
        clear hc1 hc2 hs
        by_cases he : lim a k = lim b k
        · have HE := Lib.hid he
          have hne : (((lim a k : Nat) : Int) != ((lim b k : Nat) : Int)) = false := by simp [he]
          clear he
          go_wp2
          go_quiet (fail)
          go_wp2
          go_roundw
          case rel => exact ⟨k + 1, by omega, by go_num, fun j hj => (by
            rcases Nat.lt_or_ge j k with h | h
            · exact HS.out j h
            · obtain rfl : j = k := by omega
              exact HE.out), below_drewN hb _⟩
          case measure => simp [intOf]; omega
        · have hne : (((lim a k : Nat) : Int) != ((lim b k : Nat) : Int)) = true := by simp; omega
          have hab : decide (a = b) = false := by simp; exact lim_ne he
          have HB := Lib.hid hab
          clear hab he
          go_wp2
          go_quiet (fail)
          go_wp2
          go_ret
          exact ⟨by rw [HB.out]; rfl, below_drewN hb _⟩
      · have hab : decide (a = b) = true := by
          have e := hra.len
          have e2 := hrb.len
          simp
          exact eq_of_lim (by omega) fun i hi => hs i (by omega)
        have HB := Lib.hid hab
        clear hab hs hra hrb
        go_wp2
        go_ret
        exact ⟨by rw [HB.out]; rfl, hb⟩
  · have hab : decide (a = b) = false := by
      have e := hra.len
      have e2 := hrb.len
      simp
      rintro rfl
      omega
    have HB := Lib.hid hab
    have hne : (((na : Nat) : Int) != ((nb : Nat) : Int)) = true := by simp; omega
    clear hab hra hrb
    go_enter Try.func52, Try.ntmps52
    go_wp2
    go_ret
    exact ⟨by rw [HB.out]; rfl, Below.refl _ _⟩

section
variable {A A2 : Option Addr} {na ca nb cb v u : Nat} {p q : Bool} {a b : List Nat} {w : World} {z y : Int}
set_option maxRecDepth 100000 in
set_option maxHeartbeats 2000000 in
theorem sameZ_any (h : Z2 w A A2 na ca nb cb a b) : Calls Try.prog 26 #[zv p A na ca, zv q A2 nb cb] w fun e w' => e = .returned (.bool (decide (p = q ∧ a = b))) ∧ Below w.heap.size w w' := by
  have T0 := two_box w p A na ca q A2 nb cb
  have HQ := Lib.hid (fun W (hW : Below w.heap.size w W) => equal_any A A2 na ca nb cb a b W (h.ra.below hW) (h.rb.below hW) (by have := h.la; omega) (by have := h.lb; omega))
  by_cases hpq : p = q
  · subst hpq
    have HR : Hid (decide (p = p ∧ a = b) = decide (a = b)) := by show _ = _; simp
    clear h
    unfold zv at *
    go_enter Try.func26, Try.ntmps26
    go_wp2_with fail
    refine (HQ.out _ T0.b).mono ?_
    rintro e w1 ⟨rfl, hb⟩
    have T1 := T0.next hb
    clear hb
    go_wp2
    go_ret
    exact ⟨by rw [HR.out]; rfl, T1.b⟩
  · have HR : Hid (decide (p = q ∧ a = b) = false) := by show _ = _; simp [hpq]
    have hpq2 : (p == q) = false := by simp [hpq]
    clear h hpq
    unfold zv at *
    go_enter Try.func26, Try.ntmps26
    go_wp2_with fail
    go_ret
    exact ⟨by rw [HR.out]; rfl, T0.b⟩
end
end Go.Proofs.Ytjipdfebehcggaa
