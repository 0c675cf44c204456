import Derived.Test.YtjipdfebehcggaaZZM
/- ZO ZI ZTells. -/
/- The document's whole numbers: of an int. -/
namespace Go.Proofs.Ytjipdfebehcggaa
open Go.RowKit Go.Shelf
set_option linter.unusedVariables false
set_option linter.unusedSimpArgs false

set_option maxRecDepth 100000 in
set_option maxHeartbeats 2000000 in
theorem rOfZ_any : OfZIs 23 := by
  intro n w h1 h2
  unfold ZOne zV zv
  have hx : BoxZ (w.alloc (zo false none 0 0)) w.heap.size false none 0 0 := World.alloc_heap_new _ _
  have hs : w.heap.size < (w.alloc (zo false none 0 0)).heap.size := by simp
  have HB := Lib.hid (And.intro (bxb w (zo false none 0 0)) hx)
  have HS := Lib.hid hs
  clear hx hs
  by_cases hn : n < 0
  · rw [decide_eq_true hn]
    have hc : IntKind.u64.wrap n = 18446744073709551616 + n := by rw [IntKind.wrap_u64]; omega
    have hc2 : IntKind.u64.wrap (-(18446744073709551616 + n)) = (n.natAbs : Int) := by rw [IntKind.wrap_u64]; omega
    have HT := Lib.hid (fun W => rOf_any W n.natAbs (by rw [B64_eq]; omega))
    go_enter Try.func23, Try.ntmps23
    go_wp2_with fail
    refine (HT.out _).mono ?_
    rintro e w4 ⟨A3, k3, c3, rfl, o3, hb3⟩
    have x4 := HB.out.2.below hb3 HS.out
    have r0 := x4.c0
    have r1 := x4.c1
    have f0 := x4.f 0
    have f1 := x4.f 1
    have B4 := below_then HB.out.1 hb3
    clear hb3
    go_wp2
    refine bodyPost_ret (v := zv true A3 k3 c3) (by simp [results, Try.results23, go_sem, r0, r1, zv]) rfl ?_
    exact ⟨_, _, _, rfl, own_box HS.out (Nat.le_refl _) o3 _ _, box_below (Nat.le_refl _) B4 _ _⟩
  · rw [decide_eq_false hn]
    have hc : IntKind.u64.wrap n = (n.natAbs : Int) := by rw [IntKind.wrap_u64]; omega
    have HT := Lib.hid (fun W => rOf_any W n.natAbs (by rw [B64_eq]; omega))
    go_enter Try.func23, Try.ntmps23
    go_wp2_with fail
    refine (HT.out _).mono ?_
    rintro e w4 ⟨A3, k3, c3, rfl, o3, hb3⟩
    have x4 := HB.out.2.below hb3 HS.out
    have r0 := x4.c0
    have r1 := x4.c1
    have f0 := x4.f 0
    have f1 := x4.f 1
    have B4 := below_then HB.out.1 hb3
    clear hb3
    go_wp2
    refine bodyPost_ret (v := zv false A3 k3 c3) (by simp [results, Try.results23, go_sem, r0, r1, zv]) rfl ?_
    exact ⟨_, _, _, rfl, own_box HS.out (Nat.le_refl _) o3 _ _, box_below (Nat.le_refl _) B4 _ _⟩
end Go.Proofs.Ytjipdfebehcggaa

/- The document's whole numbers: as an int. -/
namespace Go.Proofs.Ytjipdfebehcggaa
open Go.RowKit Go.Shelf
set_option linter.unusedVariables false
set_option linter.unusedSimpArgs false

theorem rd_first {w : World} {A : Option Addr} {na : Nat} {a : List Nat} (h : Rd w A na a) (h0 : val a ≠ 0) (hv : val a < B64) (hm : may a = true) : na = 1 ∧ ∃ g off, A = some ⟨g, off, none⟩ ∧ w.cell? ⟨g, off, none⟩ = some (u64 (val a)) := by
  have hl : limbs (val a) = a := limbs_val h.words hm
  have h1 : a.length ≤ 1 := by rw [← hl]; exact limbs_length_le (by simpa using hv)
  have h2 : a ≠ [] := fun e => h0 (by rw [e]; rfl)
  have h3 : 0 < a.length := List.length_pos_iff.2 h2
  obtain ⟨x, rfl⟩ := one_limb (a := a) (by omega)
  have hn := h.len
  simp at hn
  refine ⟨hn.symm, ?_⟩
  obtain ⟨g, off, rfl, hlt, hc⟩ := h.cells (by omega)
  refine ⟨g, off, rfl, ?_⟩
  have := hc 0 (by omega)
  simpa [lim, val] using this
theorem blen_cases (v : Nat) : (64 < blen v ∧ 18446744073709551616 ≤ v) ∨ (blen v = 64 ∧ 9223372036854775808 ≤ v ∧ v < 18446744073709551616) ∨ (blen v = 0 ∧ v = 0) ∨ (0 < blen v ∧ blen v < 64 ∧ 0 < v ∧ v < 9223372036854775808) := by
  by_cases h0 : v = 0
  · subst h0; exact .inr (.inr (.inl ⟨rfl, rfl⟩))
  have h1 := (blen_pos h0).1
  have h2 := blen_lt v
  have h3 := (blen_pos h0).2.2
  generalize blen v = L at *
  rcases Nat.lt_trichotomy L 64 with h | h | h
  · have := Nat.pow_le_pow_right (n := 2) (by omega) (show L ≤ 63 by omega)
    refine .inr (.inr (.inr ⟨h3, h, by omega, Nat.lt_of_lt_of_le h2 (by simpa using this)⟩))
  · subst h
    exact .inr (.inl ⟨rfl, by simpa using h1, by simpa using h2⟩)
  · have := Nat.pow_le_pow_right (n := 2) (by omega) (show 64 ≤ L - 1 by omega)
    exact .inl ⟨h, Nat.le_trans (by simpa using this) h1⟩
set_option maxRecDepth 100000 in
set_option maxHeartbeats 2000000 in
theorem rIntZ_any : IntIs 20 := by
  intro A na ca p a w h
  unfold IAns
  have hb0 := bxb w (zo p A na ca)
  have hx : BoxZ (w.alloc (zo p A na ca)) w.heap.size p A na ca := World.alloc_heap_new _ _
  have H1 := Lib.hid (rMayZ_any (p := p) (h.below hb0))
  have HB := Lib.hid (And.intro hb0 hx)
  have hs : w.heap.size < (w.alloc (zo p A na ca)).heap.size := by simp
  have HZ := Lib.hid (fun W (hb : Below w.heap.size w W) => rSize_any A na ca a W (h.ra.below hb) (by have := h.la; omega))
  cases hm : mayZ p a with
  | false =>
    rw [show intZ p a = 0 by simp [intZ, intE, hm], show intE p a = 8 by simp [intE, hm]]
    rw [hm] at H1
    clear h hm hb0 hx hs HZ
    unfold zv at *
    go_enter Try.func20, Try.ntmps20
    go_wp2_with fail
    refine H1.out.mono ?_
    rintro e w1 ⟨rfl, hb1⟩
    have B1 := below_then HB.out.1 hb1
    clear hb1
    go_wp2
    refine bodyPost_ret (v := .tuple #[.int .i64 0, .int .i64 8]) (by simp [results, Try.results20, go_sem]) rfl ?_
    exact ⟨rfl, B1⟩
  | true =>
    rw [hm] at H1
    have hmz := mayZ_may hm
    have hE : intE p a = if -9223372036854775808 ≤ zof p a ∧ zof p a ≤ 9223372036854775807 then 0 else 4 := by simp [intE, hm]
    have hZ : intZ p a = if intE p a = 0 then zof p a else 0 := rfl
    have hza : zof p a = if p then -(val a : Int) else (val a : Int) := rfl
    have hfirst : val a ≠ 0 → val a < B64 → na = 1 ∧ ∃ g off, A = some ⟨g, off, none⟩ ∧ w.cell? ⟨g, off, none⟩ = some (u64 (val a)) := fun h0 hv => rd_first h.ra h0 hv hmz
    have hbl := blen_cases (val a)
    clear hm hmz h hb0
    rw [hZ, hE, hza]
    rw [B64_eq] at hfirst
    clear hZ hE hza
    generalize val a = v at *
    generalize blen v = L at *
    rcases hbl with ⟨hA, hv⟩ | ⟨rfl, hv, hv2⟩ | ⟨rfl, rfl⟩ | ⟨hA, hA2, hv, hv2⟩
    · have hc : ¬ (-9223372036854775808 ≤ (if p then -(v : Int) else (v : Int)) ∧ (if p then -(v : Int) else (v : Int)) ≤ 9223372036854775807) := by cases p <;> simp <;> omega
      rw [if_neg hc]
      simp only [show ¬ (4 : Int) = 0 by omega, if_false]
      have h64 : (64 : Int) < (L : Int) := by omega
      clear hfirst hc hv
      unfold zv at *
      go_enter Try.func20, Try.ntmps20
      go_wp2_with fail
      refine H1.out.mono ?_
      rintro e w1 ⟨rfl, hb1⟩
      have B1 := below_then HB.out.1 hb1
      have xa0 := (hx.below hb1 hs).c0
      have xa1 := (hx.below hb1 hs).c1
      have HSZ := HZ.out _ B1
      clear hb1 hx hs
      go_wp2_with fail
      refine HSZ.mono ?_
      rintro e w2 ⟨rfl, rfl⟩
      go_wp2
      refine bodyPost_ret (v := .tuple #[.int .i64 0, .int .i64 4]) (by simp [results, Try.results20, go_sem]) rfl ?_
      exact ⟨by rfl, B1⟩
    · obtain ⟨rfl, g, off, rfl, hcell⟩ := hfirst (by omega) hv2
      clear hfirst
      cases p with
      | false =>
        simp only [Bool.false_eq_true, if_false]
        rw [if_neg (show ¬ (-9223372036854775808 ≤ (v : Int) ∧ (v : Int) ≤ 9223372036854775807) by omega)]
        try simp only [show ¬ (4 : Int) = 0 by omega, if_false]
        clear hv hv2
        unfold zv at *
        go_enter Try.func20, Try.ntmps20
        go_wp2_with fail
        refine H1.out.mono ?_
        rintro e w1 ⟨rfl, hb1⟩
        have B1 := below_then HB.out.1 hb1
        have xa0 := (hx.below hb1 hs).c0
        have xa1 := (hx.below hb1 hs).c1
        have HSZ := HZ.out _ B1
        have cw := (B1.cell (cell_lt hcell)).trans hcell
        clear hcell
        clear hb1 hx hs
        go_wp2_with fail
        refine HSZ.mono ?_
        rintro e w2 ⟨rfl, rfl⟩
        go_wp2
        refine bodyPost_ret (v := .tuple #[.int .i64 0, .int .i64 4]) (by simp [results, Try.results20, go_sem]) rfl ?_
        exact ⟨by rfl, B1⟩
      | true =>
        by_cases h63 : v = 9223372036854775808
        · subst h63
          simp only [if_true]
          rw [if_pos (by simp)]
          try simp only [if_true]
          clear hv hv2
          have w1 : IntKind.u64.wrap (-9223372036854775808) = 9223372036854775808 := by rw [IntKind.wrap_u64]; omega
          have w2 : IntKind.i64.wrap 9223372036854775808 = -9223372036854775808 := by rw [IntKind.wrap_i64]; omega
          unfold zv at *
          go_enter Try.func20, Try.ntmps20
          go_wp2_with fail
          refine H1.out.mono ?_
          rintro e w1 ⟨rfl, hb1⟩
          have B1 := below_then HB.out.1 hb1
          have xa0 := (hx.below hb1 hs).c0
          have xa1 := (hx.below hb1 hs).c1
          have HSZ := HZ.out _ B1
          have cw := (B1.cell (cell_lt hcell)).trans hcell
          clear hcell
          clear hb1 hx hs
          go_wp2_with fail
          refine HSZ.mono ?_
          rintro e w2 ⟨rfl, rfl⟩
          go_wp2
          refine bodyPost_ret (v := .tuple #[.int .i64 (-9223372036854775808), .int .i64 0]) (by simp [results, Try.results20, go_sem]) rfl ?_
          exact ⟨by rfl, B1⟩
        · simp only [if_true]
          rw [if_neg (show ¬ (-9223372036854775808 ≤ -(v : Int) ∧ -(v : Int) ≤ 9223372036854775807) by omega)]
          try simp only [show ¬ (4 : Int) = 0 by omega, if_false]
          have h63b : ((v : Int) == 9223372036854775808) = false := by simp; omega
          have h63 : ¬ ((v : Int) = 9223372036854775808) := by omega
          clear hv hv2
          unfold zv at *
          go_enter Try.func20, Try.ntmps20
          go_wp2_with fail
          refine H1.out.mono ?_
          rintro e w1 ⟨rfl, hb1⟩
          have B1 := below_then HB.out.1 hb1
          have xa0 := (hx.below hb1 hs).c0
          have xa1 := (hx.below hb1 hs).c1
          have HSZ := HZ.out _ B1
          have cw := (B1.cell (cell_lt hcell)).trans hcell
          clear hcell
          clear hb1 hx hs
          go_wp2_with fail
          refine HSZ.mono ?_
          rintro e w2 ⟨rfl, rfl⟩
          go_wp2
          refine bodyPost_ret (v := .tuple #[.int .i64 0, .int .i64 4]) (by simp [results, Try.results20, go_sem]) rfl ?_
          exact ⟨by rfl, B1⟩
    · have hc : (-9223372036854775808 ≤ (if p then -((0 : Nat) : Int) else ((0 : Nat) : Int)) ∧ (if p then -((0 : Nat) : Int) else ((0 : Nat) : Int)) ≤ 9223372036854775807) := by cases p <;> simp
      rw [if_pos hc]
      rw [show (if p then -((0 : Nat) : Int) else ((0 : Nat) : Int)) = 0 by cases p <;> rfl]
      simp only [if_true]
      clear hfirst hc
      unfold zv at *
      go_enter Try.func20, Try.ntmps20
      go_wp2_with fail
      refine H1.out.mono ?_
      rintro e w1 ⟨rfl, hb1⟩
      have B1 := below_then HB.out.1 hb1
      have xa0 := (hx.below hb1 hs).c0
      have xa1 := (hx.below hb1 hs).c1
      have HSZ := HZ.out _ B1
      clear hb1 hx hs
      go_wp2_with fail
      refine HSZ.mono ?_
      rintro e w2 ⟨rfl, rfl⟩
      go_wp2
      refine bodyPost_ret (v := .tuple #[.int .i64 0, .int .i64 0]) (by simp [results, Try.results20, go_sem]) rfl ?_
      exact ⟨by rfl, B1⟩
    · obtain ⟨rfl, g, off, rfl, hcell⟩ := hfirst (by omega) (by omega)
      clear hfirst
      have hc : (-9223372036854775808 ≤ (if p then -(v : Int) else (v : Int)) ∧ (if p then -(v : Int) else (v : Int)) ≤ 9223372036854775807) := by cases p <;> simp <;> omega
      rw [if_pos hc]
      simp only [if_true]
      clear hc
      have l1 : ¬ ((64 : Int) < (L : Int)) := by omega
      have l2 : ¬ ((L : Int) = 64) := by omega
      have l3 : ¬ ((L : Int) = 0) := by omega
      have l4 : ¬ (64 < L) := by omega
      have l5 : ¬ (L = 64) := by omega
      have l6 : ¬ (L = 0) := by omega
      clear hA hA2
      cases p with
      | false =>
        try simp only [Bool.false_eq_true, if_false]
        have w1 : IntKind.i64.wrap (v : Int) = (v : Int) := by rw [IntKind.wrap_i64]; omega
        clear hv hv2
        unfold zv at *
        go_enter Try.func20, Try.ntmps20
        go_wp2_with fail
        refine H1.out.mono ?_
        rintro e w1 ⟨rfl, hb1⟩
        have B1 := below_then HB.out.1 hb1
        have xa0 := (hx.below hb1 hs).c0
        have xa1 := (hx.below hb1 hs).c1
        have HSZ := HZ.out _ B1
        have cw := (B1.cell (cell_lt hcell)).trans hcell
        clear hcell
        clear hb1 hx hs
        go_wp2_with fail
        refine HSZ.mono ?_
        rintro e w2 ⟨rfl, rfl⟩
        go_wp2
        refine bodyPost_ret (v := .tuple #[.int .i64 (v : Int), .int .i64 0]) (by simp [results, Try.results20, go_sem]) rfl ?_
        exact ⟨by rfl, B1⟩
      | true =>
        try simp only [if_true]
        have w1 : IntKind.u64.wrap (-(v : Int)) = 18446744073709551616 - (v : Int) := by rw [IntKind.wrap_u64]; omega
        have w2 : IntKind.i64.wrap (18446744073709551616 - (v : Int)) = -(v : Int) := by rw [IntKind.wrap_i64]; omega
        clear hv hv2
        unfold zv at *
        go_enter Try.func20, Try.ntmps20
        go_wp2_with fail
        refine H1.out.mono ?_
        rintro e w1 ⟨rfl, hb1⟩
        have B1 := below_then HB.out.1 hb1
        have xa0 := (hx.below hb1 hs).c0
        have xa1 := (hx.below hb1 hs).c1
        have HSZ := HZ.out _ B1
        have cw := (B1.cell (cell_lt hcell)).trans hcell
        clear hcell
        clear hb1 hx hs
        go_wp2_with fail
        refine HSZ.mono ?_
        rintro e w2 ⟨rfl, rfl⟩
        go_wp2
        refine bodyPost_ret (v := .tuple #[.int .i64 (-(v : Int)), .int .i64 0]) (by simp [results, Try.results20, go_sem]) rfl ?_
        exact ⟨by rfl, B1⟩
end Go.Proofs.Ytjipdfebehcggaa

/- The law WholeTells, from what the calls of whole are. -/
namespace Go.Proofs.Ytjipdfebehcggaa
open Go.RowKit Go.Shelf
set_option linter.unusedVariables false
set_option linter.unusedSimpArgs false

theorem zlen {z : Int} {k : Nat} (h : z.natAbs < B64 ^ k) : (limbs z.natAbs).length ≤ k := limbs_length_le h
theorem zval_lt {w : World} {A : Option Addr} {na k : Nat} {a : List Nat} (h : Rd w A na a) (hk : na ≤ k) : val a < B64 ^ k :=
  Nat.lt_of_lt_of_le (val_lt h.words) (Nat.pow_le_pow_right (by rw [B64_eq]; omega) (by rw [h.len]; exact hk))
theorem same_zV {F : Nat} (hS : SameZIs F) {A A2 : Option Addr} {na ca nb cb : Nat} {z : Int} {w : World} (h1 : ZNm w A na ca z) (h2 : ZNm w A2 nb cb z) (l1 : na ≤ 400) (l2 : nb ≤ 400) :
    Calls Try.prog F #[zV z A na ca, zV z A2 nb cb] w fun e w' => e = .returned (.bool true) ∧ Below w.heap.size w w' := by
  have h := hS A A2 na ca nb cb (decide (z < 0)) (decide (z < 0)) (limbs z.natAbs) (limbs z.natAbs) w ⟨h1.rd, h2.rd, l1, l2, h1.nc, h1.cm, h2.nc, h2.cm⟩
  simpa using h
set_option maxRecDepth 100000 in
set_option maxHeartbeats 20000000 in
theorem tellsZ_short (A A2 : Option Addr) (na ca nb cb : Nat) (p q : Bool) (a b : List Nat) (n : Int) (w : World) (h : Z2 w A A2 na ca nb cb a b) (hna : na ≤ 8) (hnb : nb ≤ 8) (hn1 : -9223372036854775808 ≤ n) (hn2 : n ≤ 9223372036854775807)
    (hAdd : Op2Is (fun x y => x + y) 7) (hSub : Op2Is (fun x y => x - y) 9) (hMul : Op2Is (fun x y => x * y) 11) (hCmp : CmpZIs 13) (hSign : SignIs 15) (hNeg : NegIs 17) (hInt : IntIs 19) (hOf : OfZIs 22) (hCheck : CheckZIs 24) (hSame : SameZIs 26) :
    Calls Try.prog 3 #[zv p A na ca, zv q A2 nb cb, .int .i64 n] w fun e w' => e = .returned (.bool true) ∧ Below w.heap.size w w' := by
  have va := zval_lt h.ra hna
  have vb := zval_lt h.rb hnb
  have vp := zof_abs p a
  have vq := zof_abs q b
  rw [B64_eq] at va vb
  have HAdd0 : ∀ W, Below w.heap.size w W → Calls Try.prog 7 #[zv p A na ca, zv q A2 nb cb] W (ZAns W (twoZ p a q b (zof p a + zof q b)) (twoE p a q b)) := fun W hb => hAdd A A2 na ca nb cb p q a b W (h.below hb)
  have HAdd1 : ∀ W, Below w.heap.size w W → Calls Try.prog 8 #[zv p A na ca, zv q A2 nb cb] W (ZAns W (twoZ p a q b (zof p a + zof q b)) (twoE p a q b)) := fun W hb => rAddZ_any (w := W) (h.below hb)
  have HSub0 : ∀ W, Below w.heap.size w W → Calls Try.prog 9 #[zv p A na ca, zv q A2 nb cb] W (ZAns W (twoZ p a q b (zof p a - zof q b)) (twoE p a q b)) := fun W hb => hSub A A2 na ca nb cb p q a b W (h.below hb)
  have HSub1 : ∀ W, Below w.heap.size w W → Calls Try.prog 10 #[zv p A na ca, zv q A2 nb cb] W (ZAns W (twoZ p a q b (zof p a - zof q b)) (twoE p a q b)) := fun W hb => rSubZ_any (w := W) (h.below hb)
  have HMul0 : ∀ W, Below w.heap.size w W → Calls Try.prog 11 #[zv p A na ca, zv q A2 nb cb] W (ZAns W (twoZ p a q b (zof p a * zof q b)) (twoE p a q b)) := fun W hb => hMul A A2 na ca nb cb p q a b W (h.below hb)
  have HMul1 : ∀ W, Below w.heap.size w W → Calls Try.prog 12 #[zv p A na ca, zv q A2 nb cb] W (ZAns W (twoZ p a q b (zof p a * zof q b)) (twoE p a q b)) := fun W hb => rMulZ_any (w := W) (h.below hb)
  have HCmp0 : ∀ W, Below w.heap.size w W → Calls Try.prog 13 #[zv p A na ca, zv q A2 nb cb] W (IAns W (twoZ p a q b (sgn (zof p a - zof q b))) (twoE p a q b)) := fun W hb => hCmp A A2 na ca nb cb p q a b W (h.below hb)
  have HCmp1 : ∀ W, Below w.heap.size w W → Calls Try.prog 14 #[zv p A na ca, zv q A2 nb cb] W (IAns W (twoZ p a q b (sgn (zof p a - zof q b))) (twoE p a q b)) := fun W hb => rCmpZ_any A A2 na ca nb cb p q a b W (h.below hb)
  have HSign0 : ∀ W, Below w.heap.size w W → Calls Try.prog 15 #[zv p A na ca] W (IAns W (oneZ p a (sgn (zof p a))) (oneE p a)) := fun W hb => hSign A na ca p a W (h.one.below hb)
  have HSign1 : ∀ W, Below w.heap.size w W → Calls Try.prog 16 #[zv p A na ca] W (IAns W (oneZ p a (sgn (zof p a))) (oneE p a)) := fun W hb => rSignZ_any A na ca p a W (h.one.below hb)
  have HNeg0 : ∀ W, Below w.heap.size w W → Calls Try.prog 17 #[zv p A na ca] W (ZAns W (oneZ p a (-(zof p a))) (oneE p a)) := fun W hb => hNeg A na ca p a W (h.one.below hb)
  have HNeg1 : ∀ W, Below w.heap.size w W → Calls Try.prog 18 #[zv p A na ca] W (ZAns W (oneZ p a (-(zof p a))) (oneE p a)) := fun W hb => rNeg_any (w := W) (h.one.below hb)
  have HInt0 : ∀ W, Below w.heap.size w W → Calls Try.prog 19 #[zv p A na ca] W (IAns W (intZ p a) (intE p a)) := fun W hb => hInt A na ca p a W (h.one.below hb)
  have HInt1 : ∀ W, Below w.heap.size w W → Calls Try.prog 20 #[zv p A na ca] W (IAns W (intZ p a) (intE p a)) := fun W hb => rIntZ_any A na ca p a W (h.one.below hb)
  have LAdd : Hid ((limbs (twoZ p a q b (zof p a + zof q b)).natAbs).length ≤ 400) := by
    show _ ≤ _
    refine Nat.le_trans (zlen (k := 16) ?_) (by omega)
    unfold twoZ
    split
    · rw [B64_eq]; omega
    · rw [B64_eq]; decide
  have LSub : Hid ((limbs (twoZ p a q b (zof p a - zof q b)).natAbs).length ≤ 400) := by
    show _ ≤ _
    refine Nat.le_trans (zlen (k := 16) ?_) (by omega)
    unfold twoZ
    split
    · rw [B64_eq]; omega
    · rw [B64_eq]; decide
  have LMul : Hid ((limbs (twoZ p a q b (zof p a * zof q b)).natAbs).length ≤ 400) := by
    show _ ≤ _
    refine Nat.le_trans (zlen (k := 16) ?_) (by omega)
    unfold twoZ
    split
    · rw [B64_eq, Int.natAbs_mul, vp, vq]; exact Nat.lt_of_lt_of_le (Nat.mul_lt_mul_of_lt_of_le va (Nat.le_of_lt vb) (by omega)) (by decide)
    · rw [B64_eq]; decide
  have LNeg : Hid ((limbs (oneZ p a (-(zof p a))).natAbs).length ≤ 400) := by
    show _ ≤ _
    refine Nat.le_trans (zlen (k := 16) ?_) (by omega)
    unfold oneZ
    split
    · rw [B64_eq]; omega
    · rw [B64_eq]; decide
  have w2 : Hid (IntKind.i64.wrap (twoE p a q b) = twoE p a q b) := by show _ = _; unfold twoE; split <;> rfl
  have w1 : Hid (IntKind.i64.wrap (oneE p a) = oneE p a) := by show _ = _; unfold oneE; split <;> rfl
  have w3 : Hid (IntKind.i64.wrap (intE p a) = intE p a) := by show _ = _; unfold intE; split <;> (try split) <;> rfl
  generalize (twoZ p a q b (zof p a + zof q b)) = zAdd at HAdd0 HAdd1 LAdd
  generalize (twoZ p a q b (zof p a - zof q b)) = zSub at HSub0 HSub1 LSub
  generalize (twoZ p a q b (zof p a * zof q b)) = zMul at HMul0 HMul1 LMul
  generalize (twoZ p a q b (sgn (zof p a - zof q b))) = zCmp at HCmp0 HCmp1
  generalize (oneZ p a (sgn (zof p a))) = zSign at HSign0 HSign1
  generalize (oneZ p a (-(zof p a))) = zNeg at HNeg0 HNeg1 LNeg
  generalize (intZ p a) = zInt at HInt0 HInt1
  have HOf0 := fun W => hOf n W hn1 hn2
  have HOf1 := fun W => rOfZ_any n W hn1 hn2
  have LOf : Hid ((limbs n.natAbs).length ≤ 400) := by
    show _ ≤ _
    refine Nat.le_trans (zlen (k := 16) ?_) (by omega)
    rw [B64_eq]; omega
  have HCheck0 : ∀ W, Below w.heap.size w W → Calls Try.prog 24 #[zv p A na ca] W fun e w' => e = .returned (.int .i64 (oneE p a)) ∧ Below W.heap.size W w' := fun W hb => hCheck A na ca p a W (h.one.below hb)
  have HCheck1 : ∀ W, Below w.heap.size w W → Calls Try.prog 25 #[zv p A na ca] W fun e w' => e = .returned (.int .i64 (oneE p a)) ∧ Below W.heap.size W w' := fun W hb => rCheckZ_any A na ca p a W (h.one.below hb)
  have HSame0 := fun W (hb : Below w.heap.size w W) => hSame A A2 na ca nb cb p q a b W (h.below hb)
  have HSame1 := fun W (hb : Below w.heap.size w W) => rSameZ_any A A2 na ca nb cb p q a b W (h.below hb)
  generalize decide (p = q ∧ a = b) = sm at HSame0 HSame1
  generalize twoE p a q b = E2 at *
  generalize oneE p a = E1 at *
  generalize intE p a = E3 at *
  have HH := Lib.hid (And.intro HAdd0 (And.intro HAdd1 (And.intro HSub0 (And.intro HSub1 (And.intro HMul0 (And.intro HMul1 (And.intro HCmp0 HCmp1)))))))
  have T0 := two_box w p A na ca q A2 nb cb
  have HSm : Hid (∀ {A A2 : Option Addr} {na ca nb cb : Nat} {z : Int} {w : World}, ZNm w A na ca z → ZNm w A2 nb cb z → na ≤ 400 → nb ≤ 400 → Calls Try.prog 21 #[zV z A na ca, zV z A2 nb cb] w fun e w' => e = .returned (.bool true) ∧ Below w.heap.size w w') := same_zV rSameZ_any
  have w1 := w1.out
  have w2 := w2.out
  have w3 := w3.out
  clear va vb vp vq h
  have HAdd0 := Lib.hid HAdd0
  have HAdd1 := Lib.hid HAdd1
  have HSub0 := Lib.hid HSub0
  have HSub1 := Lib.hid HSub1
  have HMul0 := Lib.hid HMul0
  have HMul1 := Lib.hid HMul1
  have HCmp0 := Lib.hid HCmp0
  have HCmp1 := Lib.hid HCmp1
  have HSign0 := Lib.hid HSign0
  have HSign1 := Lib.hid HSign1
  have HNeg0 := Lib.hid HNeg0
  have HNeg1 := Lib.hid HNeg1
  have HInt0 := Lib.hid HInt0
  have HInt1 := Lib.hid HInt1
  have HOf0 := Lib.hid HOf0
  have HOf1 := Lib.hid HOf1
  have HCheck0 := Lib.hid HCheck0
  have HCheck1 := Lib.hid HCheck1
  have HSame0 := Lib.hid HSame0
  have HSame1 := Lib.hid HSame1
  clear hAdd hSub hMul hCmp hSign hNeg hInt hOf hCheck hSame HH
  unfold zv at *
  go_enter Try.func3, Try.ntmps3
  go_wp2_with fail
  refine (HAdd0.out _ T0.b).mono ?_
  rintro e w1_ ⟨Ad1, k1, c1, rfl, o1, hb1⟩
  replace hb1 := below_then hb1 (bxb _ (zo (decide (zAdd < 0)) Ad1 k1 c1))
  have T1 := T0.next hb1
  clear hb1 T0
  have xa0 := T1.x.c0
  have xa1 := T1.x.c1
  have xb0 := T1.y.c0
  have xb1 := T1.y.c1
  have bAdd0 : BoxZ (w1_.alloc (zo (decide (zAdd < 0)) Ad1 k1 c1)) w1_.heap.size (decide (zAdd < 0)) Ad1 k1 c1 := World.alloc_heap_new _ _
  have rAdd0 := (o1.nm).below (bxb _ (zo (decide (zAdd < 0)) Ad1 k1 c1))
  have lrAdd0 : k1 ≤ 400 := by have := o1.rd.2.1; have := LAdd.out; omega
  clear o1
  unfold zV zv
  go_wp2_with fail
  refine (HAdd1.out _ T1.b).mono ?_
  rintro e w2_ ⟨Ad2, k2, c2, rfl, o2, hb2⟩
  replace hb2 := below_then hb2 (bxb _ (zo (decide (zAdd < 0)) Ad2 k2 c2))
  have T2 := T1.next hb2
  replace bAdd0 := bAdd0.below hb2 (Array.getElem?_eq_some_iff.1 bAdd0).1
  replace rAdd0 := rAdd0.below hb2
  clear hb2 T1 xa0 xa1 xb0 xb1
  have xa0 := T2.x.c0
  have xa1 := T2.x.c1
  have xb0 := T2.y.c0
  have xb1 := T2.y.c1
  have bAdd1 : BoxZ (w2_.alloc (zo (decide (zAdd < 0)) Ad2 k2 c2)) w2_.heap.size (decide (zAdd < 0)) Ad2 k2 c2 := World.alloc_heap_new _ _
  have rAdd1 := (o2.nm).below (bxb _ (zo (decide (zAdd < 0)) Ad2 k2 c2))
  have lrAdd1 : k2 ≤ 400 := by have := o2.rd.2.1; have := LAdd.out; omega
  clear o2
  unfold zV zv
  go_wp2_with fail
  refine (HSub0.out _ T2.b).mono ?_
  rintro e w3_ ⟨Ad3, k3, c3, rfl, o3, hb3⟩
  replace hb3 := below_then hb3 (bxb _ (zo (decide (zSub < 0)) Ad3 k3 c3))
  have T3 := T2.next hb3
  replace bAdd0 := bAdd0.below hb3 (Array.getElem?_eq_some_iff.1 bAdd0).1
  replace bAdd1 := bAdd1.below hb3 (Array.getElem?_eq_some_iff.1 bAdd1).1
  replace rAdd0 := rAdd0.below hb3
  replace rAdd1 := rAdd1.below hb3
  clear hb3 T2 xa0 xa1 xb0 xb1
  have xa0 := T3.x.c0
  have xa1 := T3.x.c1
  have xb0 := T3.y.c0
  have xb1 := T3.y.c1
  have bSub0 : BoxZ (w3_.alloc (zo (decide (zSub < 0)) Ad3 k3 c3)) w3_.heap.size (decide (zSub < 0)) Ad3 k3 c3 := World.alloc_heap_new _ _
  have rSub0 := (o3.nm).below (bxb _ (zo (decide (zSub < 0)) Ad3 k3 c3))
  have lrSub0 : k3 ≤ 400 := by have := o3.rd.2.1; have := LSub.out; omega
  clear o3
  unfold zV zv
  go_wp2_with fail
  refine (HSub1.out _ T3.b).mono ?_
  rintro e w4_ ⟨Ad4, k4, c4, rfl, o4, hb4⟩
  replace hb4 := below_then hb4 (bxb _ (zo (decide (zSub < 0)) Ad4 k4 c4))
  have T4 := T3.next hb4
  replace bAdd0 := bAdd0.below hb4 (Array.getElem?_eq_some_iff.1 bAdd0).1
  replace bAdd1 := bAdd1.below hb4 (Array.getElem?_eq_some_iff.1 bAdd1).1
  replace bSub0 := bSub0.below hb4 (Array.getElem?_eq_some_iff.1 bSub0).1
  replace rAdd0 := rAdd0.below hb4
  replace rAdd1 := rAdd1.below hb4
  replace rSub0 := rSub0.below hb4
  clear hb4 T3 xa0 xa1 xb0 xb1
  have xa0 := T4.x.c0
  have xa1 := T4.x.c1
  have xb0 := T4.y.c0
  have xb1 := T4.y.c1
  have bSub1 : BoxZ (w4_.alloc (zo (decide (zSub < 0)) Ad4 k4 c4)) w4_.heap.size (decide (zSub < 0)) Ad4 k4 c4 := World.alloc_heap_new _ _
  have rSub1 := (o4.nm).below (bxb _ (zo (decide (zSub < 0)) Ad4 k4 c4))
  have lrSub1 : k4 ≤ 400 := by have := o4.rd.2.1; have := LSub.out; omega
  clear o4
  unfold zV zv
  go_wp2_with fail
  refine (HMul0.out _ T4.b).mono ?_
  rintro e w5_ ⟨Ad5, k5, c5, rfl, o5, hb5⟩
  replace hb5 := below_then hb5 (bxb _ (zo (decide (zMul < 0)) Ad5 k5 c5))
  have T5 := T4.next hb5
  replace bAdd0 := bAdd0.below hb5 (Array.getElem?_eq_some_iff.1 bAdd0).1
  replace bAdd1 := bAdd1.below hb5 (Array.getElem?_eq_some_iff.1 bAdd1).1
  replace bSub0 := bSub0.below hb5 (Array.getElem?_eq_some_iff.1 bSub0).1
  replace bSub1 := bSub1.below hb5 (Array.getElem?_eq_some_iff.1 bSub1).1
  replace rAdd0 := rAdd0.below hb5
  replace rAdd1 := rAdd1.below hb5
  replace rSub0 := rSub0.below hb5
  replace rSub1 := rSub1.below hb5
  clear hb5 T4 xa0 xa1 xb0 xb1
  have xa0 := T5.x.c0
  have xa1 := T5.x.c1
  have xb0 := T5.y.c0
  have xb1 := T5.y.c1
  have bMul0 : BoxZ (w5_.alloc (zo (decide (zMul < 0)) Ad5 k5 c5)) w5_.heap.size (decide (zMul < 0)) Ad5 k5 c5 := World.alloc_heap_new _ _
  have rMul0 := (o5.nm).below (bxb _ (zo (decide (zMul < 0)) Ad5 k5 c5))
  have lrMul0 : k5 ≤ 400 := by have := o5.rd.2.1; have := LMul.out; omega
  clear o5
  unfold zV zv
  go_wp2_with fail
  refine (HMul1.out _ T5.b).mono ?_
  rintro e w6_ ⟨Ad6, k6, c6, rfl, o6, hb6⟩
  replace hb6 := below_then hb6 (bxb _ (zo (decide (zMul < 0)) Ad6 k6 c6))
  have T6 := T5.next hb6
  replace bAdd0 := bAdd0.below hb6 (Array.getElem?_eq_some_iff.1 bAdd0).1
  replace bAdd1 := bAdd1.below hb6 (Array.getElem?_eq_some_iff.1 bAdd1).1
  replace bSub0 := bSub0.below hb6 (Array.getElem?_eq_some_iff.1 bSub0).1
  replace bSub1 := bSub1.below hb6 (Array.getElem?_eq_some_iff.1 bSub1).1
  replace bMul0 := bMul0.below hb6 (Array.getElem?_eq_some_iff.1 bMul0).1
  replace rAdd0 := rAdd0.below hb6
  replace rAdd1 := rAdd1.below hb6
  replace rSub0 := rSub0.below hb6
  replace rSub1 := rSub1.below hb6
  replace rMul0 := rMul0.below hb6
  clear hb6 T5 xa0 xa1 xb0 xb1
  have xa0 := T6.x.c0
  have xa1 := T6.x.c1
  have xb0 := T6.y.c0
  have xb1 := T6.y.c1
  have bMul1 : BoxZ (w6_.alloc (zo (decide (zMul < 0)) Ad6 k6 c6)) w6_.heap.size (decide (zMul < 0)) Ad6 k6 c6 := World.alloc_heap_new _ _
  have rMul1 := (o6.nm).below (bxb _ (zo (decide (zMul < 0)) Ad6 k6 c6))
  have lrMul1 : k6 ≤ 400 := by have := o6.rd.2.1; have := LMul.out; omega
  clear o6
  unfold zV zv
  go_wp2_with fail
  refine (HCmp0.out _ T6.b).mono ?_
  rintro e w7_ ⟨rfl, hb7⟩
  have T7 := T6.next hb7
  replace bAdd0 := bAdd0.below hb7 (Array.getElem?_eq_some_iff.1 bAdd0).1
  replace bAdd1 := bAdd1.below hb7 (Array.getElem?_eq_some_iff.1 bAdd1).1
  replace bSub0 := bSub0.below hb7 (Array.getElem?_eq_some_iff.1 bSub0).1
  replace bSub1 := bSub1.below hb7 (Array.getElem?_eq_some_iff.1 bSub1).1
  replace bMul0 := bMul0.below hb7 (Array.getElem?_eq_some_iff.1 bMul0).1
  replace bMul1 := bMul1.below hb7 (Array.getElem?_eq_some_iff.1 bMul1).1
  replace rAdd0 := rAdd0.below hb7
  replace rAdd1 := rAdd1.below hb7
  replace rSub0 := rSub0.below hb7
  replace rSub1 := rSub1.below hb7
  replace rMul0 := rMul0.below hb7
  replace rMul1 := rMul1.below hb7
  clear hb7 T6 xa0 xa1 xb0 xb1
  have xa0 := T7.x.c0
  have xa1 := T7.x.c1
  have xb0 := T7.y.c0
  have xb1 := T7.y.c1
  go_wp2_with fail
  refine (HCmp1.out _ T7.b).mono ?_
  rintro e w8_ ⟨rfl, hb8⟩
  have T8 := T7.next hb8
  replace bAdd0 := bAdd0.below hb8 (Array.getElem?_eq_some_iff.1 bAdd0).1
  replace bAdd1 := bAdd1.below hb8 (Array.getElem?_eq_some_iff.1 bAdd1).1
  replace bSub0 := bSub0.below hb8 (Array.getElem?_eq_some_iff.1 bSub0).1
  replace bSub1 := bSub1.below hb8 (Array.getElem?_eq_some_iff.1 bSub1).1
  replace bMul0 := bMul0.below hb8 (Array.getElem?_eq_some_iff.1 bMul0).1
  replace bMul1 := bMul1.below hb8 (Array.getElem?_eq_some_iff.1 bMul1).1
  replace rAdd0 := rAdd0.below hb8
  replace rAdd1 := rAdd1.below hb8
  replace rSub0 := rSub0.below hb8
  replace rSub1 := rSub1.below hb8
  replace rMul0 := rMul0.below hb8
  replace rMul1 := rMul1.below hb8
  clear hb8 T7 xa0 xa1 xb0 xb1
  have xa0 := T8.x.c0
  have xa1 := T8.x.c1
  have xb0 := T8.y.c0
  have xb1 := T8.y.c1
  go_wp2_with fail
  refine (HSign0.out _ T8.b).mono ?_
  rintro e w9_ ⟨rfl, hb9⟩
  have T9 := T8.next hb9
  replace bAdd0 := bAdd0.below hb9 (Array.getElem?_eq_some_iff.1 bAdd0).1
  replace bAdd1 := bAdd1.below hb9 (Array.getElem?_eq_some_iff.1 bAdd1).1
  replace bSub0 := bSub0.below hb9 (Array.getElem?_eq_some_iff.1 bSub0).1
  replace bSub1 := bSub1.below hb9 (Array.getElem?_eq_some_iff.1 bSub1).1
  replace bMul0 := bMul0.below hb9 (Array.getElem?_eq_some_iff.1 bMul0).1
  replace bMul1 := bMul1.below hb9 (Array.getElem?_eq_some_iff.1 bMul1).1
  replace rAdd0 := rAdd0.below hb9
  replace rAdd1 := rAdd1.below hb9
  replace rSub0 := rSub0.below hb9
  replace rSub1 := rSub1.below hb9
  replace rMul0 := rMul0.below hb9
  replace rMul1 := rMul1.below hb9
  clear hb9 T8 xa0 xa1 xb0 xb1
  have xa0 := T9.x.c0
  have xa1 := T9.x.c1
  have xb0 := T9.y.c0
  have xb1 := T9.y.c1
  go_wp2_with fail
  refine (HSign1.out _ T9.b).mono ?_
  rintro e w10_ ⟨rfl, hb10⟩
  have T10 := T9.next hb10
  replace bAdd0 := bAdd0.below hb10 (Array.getElem?_eq_some_iff.1 bAdd0).1
  replace bAdd1 := bAdd1.below hb10 (Array.getElem?_eq_some_iff.1 bAdd1).1
  replace bSub0 := bSub0.below hb10 (Array.getElem?_eq_some_iff.1 bSub0).1
  replace bSub1 := bSub1.below hb10 (Array.getElem?_eq_some_iff.1 bSub1).1
  replace bMul0 := bMul0.below hb10 (Array.getElem?_eq_some_iff.1 bMul0).1
  replace bMul1 := bMul1.below hb10 (Array.getElem?_eq_some_iff.1 bMul1).1
  replace rAdd0 := rAdd0.below hb10
  replace rAdd1 := rAdd1.below hb10
  replace rSub0 := rSub0.below hb10
  replace rSub1 := rSub1.below hb10
  replace rMul0 := rMul0.below hb10
  replace rMul1 := rMul1.below hb10
  clear hb10 T9 xa0 xa1 xb0 xb1
  have xa0 := T10.x.c0
  have xa1 := T10.x.c1
  have xb0 := T10.y.c0
  have xb1 := T10.y.c1
  go_wp2_with fail
  refine (HNeg0.out _ T10.b).mono ?_
  rintro e w11_ ⟨Ad11, k11, c11, rfl, o11, hb11⟩
  replace hb11 := below_then hb11 (bxb _ (zo (decide (zNeg < 0)) Ad11 k11 c11))
  have T11 := T10.next hb11
  replace bAdd0 := bAdd0.below hb11 (Array.getElem?_eq_some_iff.1 bAdd0).1
  replace bAdd1 := bAdd1.below hb11 (Array.getElem?_eq_some_iff.1 bAdd1).1
  replace bSub0 := bSub0.below hb11 (Array.getElem?_eq_some_iff.1 bSub0).1
  replace bSub1 := bSub1.below hb11 (Array.getElem?_eq_some_iff.1 bSub1).1
  replace bMul0 := bMul0.below hb11 (Array.getElem?_eq_some_iff.1 bMul0).1
  replace bMul1 := bMul1.below hb11 (Array.getElem?_eq_some_iff.1 bMul1).1
  replace rAdd0 := rAdd0.below hb11
  replace rAdd1 := rAdd1.below hb11
  replace rSub0 := rSub0.below hb11
  replace rSub1 := rSub1.below hb11
  replace rMul0 := rMul0.below hb11
  replace rMul1 := rMul1.below hb11
  clear hb11 T10 xa0 xa1 xb0 xb1
  have xa0 := T11.x.c0
  have xa1 := T11.x.c1
  have xb0 := T11.y.c0
  have xb1 := T11.y.c1
  have bNeg0 : BoxZ (w11_.alloc (zo (decide (zNeg < 0)) Ad11 k11 c11)) w11_.heap.size (decide (zNeg < 0)) Ad11 k11 c11 := World.alloc_heap_new _ _
  have rNeg0 := (o11.nm).below (bxb _ (zo (decide (zNeg < 0)) Ad11 k11 c11))
  have lrNeg0 : k11 ≤ 400 := by have := o11.rd.2.1; have := LNeg.out; omega
  clear o11
  unfold zV zv
  go_wp2_with fail
  refine (HNeg1.out _ T11.b).mono ?_
  rintro e w12_ ⟨Ad12, k12, c12, rfl, o12, hb12⟩
  replace hb12 := below_then hb12 (bxb _ (zo (decide (zNeg < 0)) Ad12 k12 c12))
  have T12 := T11.next hb12
  replace bAdd0 := bAdd0.below hb12 (Array.getElem?_eq_some_iff.1 bAdd0).1
  replace bAdd1 := bAdd1.below hb12 (Array.getElem?_eq_some_iff.1 bAdd1).1
  replace bSub0 := bSub0.below hb12 (Array.getElem?_eq_some_iff.1 bSub0).1
  replace bSub1 := bSub1.below hb12 (Array.getElem?_eq_some_iff.1 bSub1).1
  replace bMul0 := bMul0.below hb12 (Array.getElem?_eq_some_iff.1 bMul0).1
  replace bMul1 := bMul1.below hb12 (Array.getElem?_eq_some_iff.1 bMul1).1
  replace bNeg0 := bNeg0.below hb12 (Array.getElem?_eq_some_iff.1 bNeg0).1
  replace rAdd0 := rAdd0.below hb12
  replace rAdd1 := rAdd1.below hb12
  replace rSub0 := rSub0.below hb12
  replace rSub1 := rSub1.below hb12
  replace rMul0 := rMul0.below hb12
  replace rMul1 := rMul1.below hb12
  replace rNeg0 := rNeg0.below hb12
  clear hb12 T11 xa0 xa1 xb0 xb1
  have xa0 := T12.x.c0
  have xa1 := T12.x.c1
  have xb0 := T12.y.c0
  have xb1 := T12.y.c1
  have bNeg1 : BoxZ (w12_.alloc (zo (decide (zNeg < 0)) Ad12 k12 c12)) w12_.heap.size (decide (zNeg < 0)) Ad12 k12 c12 := World.alloc_heap_new _ _
  have rNeg1 := (o12.nm).below (bxb _ (zo (decide (zNeg < 0)) Ad12 k12 c12))
  have lrNeg1 : k12 ≤ 400 := by have := o12.rd.2.1; have := LNeg.out; omega
  clear o12
  unfold zV zv
  go_wp2_with fail
  refine (HInt0.out _ T12.b).mono ?_
  rintro e w13_ ⟨rfl, hb13⟩
  have T13 := T12.next hb13
  replace bAdd0 := bAdd0.below hb13 (Array.getElem?_eq_some_iff.1 bAdd0).1
  replace bAdd1 := bAdd1.below hb13 (Array.getElem?_eq_some_iff.1 bAdd1).1
  replace bSub0 := bSub0.below hb13 (Array.getElem?_eq_some_iff.1 bSub0).1
  replace bSub1 := bSub1.below hb13 (Array.getElem?_eq_some_iff.1 bSub1).1
  replace bMul0 := bMul0.below hb13 (Array.getElem?_eq_some_iff.1 bMul0).1
  replace bMul1 := bMul1.below hb13 (Array.getElem?_eq_some_iff.1 bMul1).1
  replace bNeg0 := bNeg0.below hb13 (Array.getElem?_eq_some_iff.1 bNeg0).1
  replace bNeg1 := bNeg1.below hb13 (Array.getElem?_eq_some_iff.1 bNeg1).1
  replace rAdd0 := rAdd0.below hb13
  replace rAdd1 := rAdd1.below hb13
  replace rSub0 := rSub0.below hb13
  replace rSub1 := rSub1.below hb13
  replace rMul0 := rMul0.below hb13
  replace rMul1 := rMul1.below hb13
  replace rNeg0 := rNeg0.below hb13
  replace rNeg1 := rNeg1.below hb13
  clear hb13 T12 xa0 xa1 xb0 xb1
  have xa0 := T13.x.c0
  have xa1 := T13.x.c1
  have xb0 := T13.y.c0
  have xb1 := T13.y.c1
  go_wp2_with fail
  refine (HInt1.out _ T13.b).mono ?_
  rintro e w14_ ⟨rfl, hb14⟩
  have T14 := T13.next hb14
  replace bAdd0 := bAdd0.below hb14 (Array.getElem?_eq_some_iff.1 bAdd0).1
  replace bAdd1 := bAdd1.below hb14 (Array.getElem?_eq_some_iff.1 bAdd1).1
  replace bSub0 := bSub0.below hb14 (Array.getElem?_eq_some_iff.1 bSub0).1
  replace bSub1 := bSub1.below hb14 (Array.getElem?_eq_some_iff.1 bSub1).1
  replace bMul0 := bMul0.below hb14 (Array.getElem?_eq_some_iff.1 bMul0).1
  replace bMul1 := bMul1.below hb14 (Array.getElem?_eq_some_iff.1 bMul1).1
  replace bNeg0 := bNeg0.below hb14 (Array.getElem?_eq_some_iff.1 bNeg0).1
  replace bNeg1 := bNeg1.below hb14 (Array.getElem?_eq_some_iff.1 bNeg1).1
  replace rAdd0 := rAdd0.below hb14
  replace rAdd1 := rAdd1.below hb14
  replace rSub0 := rSub0.below hb14
  replace rSub1 := rSub1.below hb14
  replace rMul0 := rMul0.below hb14
  replace rMul1 := rMul1.below hb14
  replace rNeg0 := rNeg0.below hb14
  replace rNeg1 := rNeg1.below hb14
  clear hb14 T13 xa0 xa1 xb0 xb1
  have xa0 := T14.x.c0
  have xa1 := T14.x.c1
  have xb0 := T14.y.c0
  have xb1 := T14.y.c1
  have y0 := bAdd0.c0
  have y1 := bAdd0.c1
  have y2 := bAdd1.c0
  have y3 := bAdd1.c1
  go_wp2_with fail
  clear y0 y1 y2 y3
  refine (HSm.out rAdd0 rAdd1 lrAdd0 lrAdd1).mono ?_
  rintro e w15_ ⟨rfl, hb15⟩
  have T15 := T14.next hb15
  replace bAdd0 := bAdd0.below hb15 (Array.getElem?_eq_some_iff.1 bAdd0).1
  replace bAdd1 := bAdd1.below hb15 (Array.getElem?_eq_some_iff.1 bAdd1).1
  replace bSub0 := bSub0.below hb15 (Array.getElem?_eq_some_iff.1 bSub0).1
  replace bSub1 := bSub1.below hb15 (Array.getElem?_eq_some_iff.1 bSub1).1
  replace bMul0 := bMul0.below hb15 (Array.getElem?_eq_some_iff.1 bMul0).1
  replace bMul1 := bMul1.below hb15 (Array.getElem?_eq_some_iff.1 bMul1).1
  replace bNeg0 := bNeg0.below hb15 (Array.getElem?_eq_some_iff.1 bNeg0).1
  replace bNeg1 := bNeg1.below hb15 (Array.getElem?_eq_some_iff.1 bNeg1).1
  replace rAdd0 := rAdd0.below hb15
  replace rAdd1 := rAdd1.below hb15
  replace rSub0 := rSub0.below hb15
  replace rSub1 := rSub1.below hb15
  replace rMul0 := rMul0.below hb15
  replace rMul1 := rMul1.below hb15
  replace rNeg0 := rNeg0.below hb15
  replace rNeg1 := rNeg1.below hb15
  clear hb15 T14 xa0 xa1 xb0 xb1
  have xa0 := T15.x.c0
  have xa1 := T15.x.c1
  have xb0 := T15.y.c0
  have xb1 := T15.y.c1
  have y0 := bSub0.c0
  have y1 := bSub0.c1
  have y2 := bSub1.c0
  have y3 := bSub1.c1
  go_wp2_with fail
  clear y0 y1 y2 y3
  refine (HSm.out rSub0 rSub1 lrSub0 lrSub1).mono ?_
  rintro e w16_ ⟨rfl, hb16⟩
  have T16 := T15.next hb16
  replace bAdd0 := bAdd0.below hb16 (Array.getElem?_eq_some_iff.1 bAdd0).1
  replace bAdd1 := bAdd1.below hb16 (Array.getElem?_eq_some_iff.1 bAdd1).1
  replace bSub0 := bSub0.below hb16 (Array.getElem?_eq_some_iff.1 bSub0).1
  replace bSub1 := bSub1.below hb16 (Array.getElem?_eq_some_iff.1 bSub1).1
  replace bMul0 := bMul0.below hb16 (Array.getElem?_eq_some_iff.1 bMul0).1
  replace bMul1 := bMul1.below hb16 (Array.getElem?_eq_some_iff.1 bMul1).1
  replace bNeg0 := bNeg0.below hb16 (Array.getElem?_eq_some_iff.1 bNeg0).1
  replace bNeg1 := bNeg1.below hb16 (Array.getElem?_eq_some_iff.1 bNeg1).1
  replace rAdd0 := rAdd0.below hb16
  replace rAdd1 := rAdd1.below hb16
  replace rSub0 := rSub0.below hb16
  replace rSub1 := rSub1.below hb16
  replace rMul0 := rMul0.below hb16
  replace rMul1 := rMul1.below hb16
  replace rNeg0 := rNeg0.below hb16
  replace rNeg1 := rNeg1.below hb16
  clear hb16 T15 xa0 xa1 xb0 xb1
  have xa0 := T16.x.c0
  have xa1 := T16.x.c1
  have xb0 := T16.y.c0
  have xb1 := T16.y.c1
  have y0 := bMul0.c0
  have y1 := bMul0.c1
  have y2 := bMul1.c0
  have y3 := bMul1.c1
  go_wp2_with fail
  clear y0 y1 y2 y3
  refine (HSm.out rMul0 rMul1 lrMul0 lrMul1).mono ?_
  rintro e w17_ ⟨rfl, hb17⟩
  have T17 := T16.next hb17
  replace bAdd0 := bAdd0.below hb17 (Array.getElem?_eq_some_iff.1 bAdd0).1
  replace bAdd1 := bAdd1.below hb17 (Array.getElem?_eq_some_iff.1 bAdd1).1
  replace bSub0 := bSub0.below hb17 (Array.getElem?_eq_some_iff.1 bSub0).1
  replace bSub1 := bSub1.below hb17 (Array.getElem?_eq_some_iff.1 bSub1).1
  replace bMul0 := bMul0.below hb17 (Array.getElem?_eq_some_iff.1 bMul0).1
  replace bMul1 := bMul1.below hb17 (Array.getElem?_eq_some_iff.1 bMul1).1
  replace bNeg0 := bNeg0.below hb17 (Array.getElem?_eq_some_iff.1 bNeg0).1
  replace bNeg1 := bNeg1.below hb17 (Array.getElem?_eq_some_iff.1 bNeg1).1
  replace rAdd0 := rAdd0.below hb17
  replace rAdd1 := rAdd1.below hb17
  replace rSub0 := rSub0.below hb17
  replace rSub1 := rSub1.below hb17
  replace rMul0 := rMul0.below hb17
  replace rMul1 := rMul1.below hb17
  replace rNeg0 := rNeg0.below hb17
  replace rNeg1 := rNeg1.below hb17
  clear hb17 T16 xa0 xa1 xb0 xb1
  have xa0 := T17.x.c0
  have xa1 := T17.x.c1
  have xb0 := T17.y.c0
  have xb1 := T17.y.c1
  have y0 := bNeg0.c0
  have y1 := bNeg0.c1
  have y2 := bNeg1.c0
  have y3 := bNeg1.c1
  go_wp2_with fail
  clear y0 y1 y2 y3
  refine (HSm.out rNeg0 rNeg1 lrNeg0 lrNeg1).mono ?_
  rintro e w18_ ⟨rfl, hb18⟩
  have T18 := T17.next hb18
  replace bAdd0 := bAdd0.below hb18 (Array.getElem?_eq_some_iff.1 bAdd0).1
  replace bAdd1 := bAdd1.below hb18 (Array.getElem?_eq_some_iff.1 bAdd1).1
  replace bSub0 := bSub0.below hb18 (Array.getElem?_eq_some_iff.1 bSub0).1
  replace bSub1 := bSub1.below hb18 (Array.getElem?_eq_some_iff.1 bSub1).1
  replace bMul0 := bMul0.below hb18 (Array.getElem?_eq_some_iff.1 bMul0).1
  replace bMul1 := bMul1.below hb18 (Array.getElem?_eq_some_iff.1 bMul1).1
  replace bNeg0 := bNeg0.below hb18 (Array.getElem?_eq_some_iff.1 bNeg0).1
  replace bNeg1 := bNeg1.below hb18 (Array.getElem?_eq_some_iff.1 bNeg1).1
  replace rAdd0 := rAdd0.below hb18
  replace rAdd1 := rAdd1.below hb18
  replace rSub0 := rSub0.below hb18
  replace rSub1 := rSub1.below hb18
  replace rMul0 := rMul0.below hb18
  replace rMul1 := rMul1.below hb18
  replace rNeg0 := rNeg0.below hb18
  replace rNeg1 := rNeg1.below hb18
  clear hb18 T17 xa0 xa1 xb0 xb1
  have xa0 := T18.x.c0
  have xa1 := T18.x.c1
  have xb0 := T18.y.c0
  have xb1 := T18.y.c1
  have HTd := Lib.hid (T18.next (Below.refl _ _).drew)
  go_wp2_with fail
  clear T18 rAdd0 rAdd1 rSub0 rSub1 rMul0 rMul1 rNeg0 rNeg1 bAdd0 bAdd1 bSub0 bSub1 bMul0 bMul1 bNeg0 bNeg1 lrAdd0 lrAdd1 lrSub0 lrSub1 lrMul0 lrMul1 lrNeg0 lrNeg1 HAdd0 HAdd1 HSub0 HSub1 HMul0 HMul1 HCmp0 HCmp1 HSign0 HSign1 HNeg0 HNeg1 HInt0 HInt1 w2 w3 LAdd LSub LMul LNeg
  go_region_held3 (fun W' => W'.cell? ⟨w.heap.size, 0, none⟩ = some (.bool p) ∧ W'.cell? ⟨w.heap.size, 1, none⟩ = some (.slice A na ca) ∧ W'.cell? ⟨w.heap.size + 1, 0, none⟩ = some (.bool q) ∧ W'.cell? ⟨w.heap.size + 1, 1, none⟩ = some (.slice A2 nb cb)) (first | (refine ⟨?_, ?_, ?_, ?_⟩ <;> exact cell_far (cell_far (by assumption) (by omega) _) (by omega) _) | go_keep)
    (first
      | (go_at_call 22; refine (HOf0.out _).mono ?_; rintro e u1 ⟨A31, k31, c31, rfl, o31, hb31⟩; have U1 := HTd.out.next hb31; clear xa0 xa1 xb0 xb1; have xa0 := U1.x.c0; have xa1 := U1.x.c1; have xb0 := U1.y.c0; have xb1 := U1.y.c1; have r31 := o31.nm; have l31 : k31 ≤ 400 := (by have := o31.rd.2.1; have := LOf.out; omega); unfold zV zv)
      | (go_at_call 23; refine (HOf1.out _).mono ?_; rintro e u2 ⟨A32, k32, c32, rfl, o32, hb32⟩; have U2 := U1.next hb32; clear xa0 xa1 xb0 xb1; have xa0 := U2.x.c0; have xa1 := U2.x.c1; have xb0 := U2.y.c0; have xb1 := U2.y.c1; have r32 := o32.nm; have r33 := r31.below hb32; have l32 : k32 ≤ 400 := (by have := o32.rd.2.1; have := LOf.out; omega); unfold zV zv)
      | (go_at_call 21; refine (HSame1.out _ U6.b).mono ?_; rintro e u7 ⟨rfl, hb37⟩; have U7 := U6.next hb37; clear xa0 xa1 xb0 xb1; have xa0 := U7.x.c0; have xa1 := U7.x.c1; have xb0 := U7.y.c0; have xb1 := U7.y.c1)
      | (go_at_call 21; refine (HSm.out r33 r32 l31 l32).mono ?_; rintro e u3 ⟨rfl, hb33⟩; have U3 := U2.next hb33; clear xa0 xa1 xb0 xb1; have xa0 := U3.x.c0; have xa1 := U3.x.c1; have xb0 := U3.y.c0; have xb1 := U3.y.c1)
      | (go_at_call 24; refine (HCheck0.out _ U3.b).mono ?_; rintro e u4 ⟨rfl, hb34⟩; have U4 := U3.next hb34; clear xa0 xa1 xb0 xb1; have xa0 := U4.x.c0; have xa1 := U4.x.c1; have xb0 := U4.y.c0; have xb1 := U4.y.c1)
      | (go_at_call 25; refine (HCheck1.out _ U4.b).mono ?_; rintro e u5 ⟨rfl, hb35⟩; have U5 := U4.next hb35; clear xa0 xa1 xb0 xb1; have xa0 := U5.x.c0; have xa1 := U5.x.c1; have xb0 := U5.y.c0; have xb1 := U5.y.c1)
      | (go_at_call 26; refine (HSame0.out _ U5.b).mono ?_; rintro e u6 ⟨rfl, hb36⟩; have U6 := U5.next hb36; clear xa0 xa1 xb0 xb1; have xa0 := U6.x.c0; have xa1 := U6.x.c1; have xb0 := U6.y.c0; have xb1 := U6.y.c1))
  all_goals
    go_wp2
    go_ret
    exact ⟨by simp, U7.b⟩
end Go.Proofs.Ytjipdfebehcggaa
