import Derived.Test.YtgiokmfdafmaoaaGreatKSpec
import Derived.Test.YtgiokmfdafmaoaaGreatKNm
import Derived.Deep.RegionHeld3
/- RefDiv. -/
/- The document's quotient: of words, or bit by bit. -/
namespace Go.Proofs.YtgiokmfdafmaoaaGreat
open Go.RowKit Go.Shelf
set_option linter.unusedVariables false
set_option linter.unusedSimpArgs false

/-! ### Rows of bits of the call's own, set in place -/
theorem owni_at {w : World} {B n c : Nat} {A : Option Addr} {l : List Nat} (h : OwnI w B (.slice A n c) l) (hn : 0 < n) : ∃ g, A = some ⟨g, 0, none⟩ ∧ B ≤ g ∧ g < w.heap.size := by
  rcases h.1.2 with ⟨e, h0⟩ | ⟨g, cap, cur, e, hg, hh, r⟩
  · cases e; omega
  · cases e
    exact ⟨g, rfl, hg, (Array.getElem?_eq_some_iff.1 hh).1⟩
theorem owni_cell {w : World} {B g n c : Nat} {l : List Nat} (h : OwnI w B (.slice (some ⟨g, 0, none⟩) n c) l) {i : Nat} (hi : i < n) : w.cell? ⟨g, i, none⟩ = some (i64n (lim l i)) ∧ w.frozen? ⟨g, i, none⟩ = false := by
  obtain ⟨A, c', e, hr, _, _⟩ := h.form
  cases e
  obtain ⟨b, off, e, hlt, hc⟩ := hr.cells (by omega)
  cases e
  refine ⟨by simpa using hc i hi, ?_⟩
  rcases h.1.2 with ⟨e, _⟩ | ⟨g', cap, cur, e, hg, hh, _⟩
  · cases e
  · cases e
    simp [World.frozen?, hh]
theorem bits_set {l : List Nat} (h : Bits l) {i v : Nat} (hv : v ≤ 1) : Bits (l.set i v) := fun y hy => by
  rcases List.mem_or_eq_of_mem_set hy with hy | rfl
  · exact h y hy
  · exact hv
theorem owni_set {w : World} {B g n c : Nat} {l : List Nat} (h : OwnI w B (.slice (some ⟨g, 0, none⟩) n c) l) {i v : Nat} (hv : v ≤ 1) : OwnI (w.setCell ⟨g, i, none⟩ (i64n v)) B (.slice (some ⟨g, 0, none⟩) n c) (l.set i v) := by
  refine ⟨⟨by simp, ?_⟩, bits_set h.2 hv⟩
  rcases h.1.2 with ⟨e, _⟩ | ⟨g', cap, cur, e, hg, hh, hnc, hc, hs, ht⟩
  · cases e
  · cases e
    refine .inr ⟨g, c, cur.setIfInBounds i (i64n v), by simp, hg, ?_, by simpa using hnc, hc, by simpa using hs, ?_⟩
    · simp [World.setCell, Array.getElem?_modify, hh]
    · rw [List.map_set, ← ht]
      simp [List.take_set]
theorem cell_lt {w : World} {p : Addr} {u : Value} (h : w.cell? p = some u) : p.block < w.heap.size := by
  unfold World.cell? at h
  cases ho : w.heap[p.block]? with
  | none => simp [ho] at h
  | some o => exact (Array.getElem?_eq_some_iff.1 ho).1
/-- What is owned from a block on is kept by stores below. -/
theorem own_far {w : World} {B : Nat} {v : Value} {l : List Nat} (h : Own w B v l) {p : Addr} (hp : p.block < B) (u : Value) : Own (w.setCell p u) B v l := by
  refine ⟨⟨h.1.1, ?_⟩, h.2⟩
  rcases h.1.2 with h2 | ⟨g, cap, cur, e, hg, hh, r⟩
  · exact .inl h2
  · exact .inr ⟨g, cap, cur, e, hg, (Below.heap_setCell w p u g (by omega)).trans hh, r⟩
theorem bval_set {l : List Nat} {i : Nat} (hi : i < l.length) (h0 : lim l i = 0) : bval (l.set i 1) = bval l + 2 ^ i := by
  induction l generalizing i with
  | nil => simp at hi
  | cons x r ih =>
    cases i with
    | zero =>
      have e : x = 0 := by simpa [lim] using h0
      subst e
      simp [bval]; omega
    | succ i =>
      have h := ih (i := i) (by simpa using hi) (by simpa [lim] using h0)
      rw [List.set_cons_succ, bval, bval, h, Nat.pow_succ]
      omega

/-! ### Quotients bit by bit -/
theorem div_of {n b k r : Nat} (hb : r < b) (h : n = r + b * k) : n / b = k ∧ n % b = r := by
  subst h
  have h0 : 0 < b := by omega
  exact ⟨by rw [Nat.add_mul_div_left _ _ h0, Nat.div_eq_of_lt hb, Nat.zero_add], by rw [Nat.add_mul_mod_self_left, Nat.mod_eq_of_lt hb]⟩
theorem over_step {V b j q r t : Nat} (hb : 0 < b) (hq : V / 2 ^ (j + 1) / b = q) (hr : V / 2 ^ (j + 1) % b = r) (ht : nbit V j = t) :
    (r * 2 + t < b → V / 2 ^ j / b = 2 * q ∧ V / 2 ^ j % b = r * 2 + t) ∧ (b ≤ r * 2 + t → V / 2 ^ j / b = 2 * q + 1 ∧ V / 2 ^ j % b = r * 2 + t - b) := by
  have e := div_bit V j
  have h1 := Nat.mod_add_div (V / 2 ^ (j + 1)) b
  rw [hq, hr] at h1
  rw [ht, ← h1] at e
  have hrb : r < b := by rw [← hr]; exact Nat.mod_lt _ hb
  have ht1 : t ≤ 1 := by have := nbit_two V j; omega
  have e2 : b * (2 * q) = 2 * (b * q) := Nat.mul_left_comm _ _ _
  have e3 : b * (2 * q + 1) = 2 * (b * q) + b := by rw [Nat.mul_add, e2, Nat.mul_one]
  constructor
  · intro h
    exact div_of h (by rw [e, e2]; omega)
  · intro h
    exact div_of (by omega) (by rw [e, e3]; omega)
-- WALKS
/-- Nothing of a number stands from its length on. -/
structure V_zero (v M b : Nat) : Prop where
  out : v / 2 ^ M = 0
theorem double_lt {r b n t : Nat} (h : r < b) (hb : b < B64 ^ n) (ht : t ≤ 1) : r * 2 ^ 1 + t < B64 ^ (n + 1) := by
  rw [Nat.pow_one, Nat.pow_succ]
  have h2 : B64 ^ n * 2 ≤ B64 ^ n * B64 := Nat.mul_le_mul_left _ B64_gt
  omega

theorem one_val : val [1] = 1 := by simp [val]
theorem cmp3_ge {x y : Nat} (h : y ≤ x) : cmp3 x y = 0 ∨ cmp3 x y = 1 := by
  rcases Nat.eq_or_lt_of_le h with rfl | h
  · exact .inl (cmp3_self _)
  · exact .inr (cmp3_gt h)

section
variable (A A2 : Option Addr) (na ca nb cb : Nat) (a : List Nat) (b : Nat) (w : World)

set_option maxRecDepth 100000 in
set_option maxHeartbeats 4000000 in
theorem over_bits (hra : Rd w A na a) (hrb : Rd w A2 nb (limbs b)) (hna : na ≤ 900) (hnb : nb ≤ 900) (hb0 : 0 < b) (hs : ((na : Int) == 1) = false ∨ (((na : Int) == 1) = true ∧ ((nb : Int) == 1) = false)) :
    Calls Tryz.prog 79 #[.slice A na ca, .slice A2 nb cb] w fun e w' => ∃ A' k c A3 k3 c3, e = .returned (.tuple #[.slice A' k c, .slice A3 k3 c3]) ∧ Own w' w.heap.size (.slice A' k c) (limbs (val a / b)) ∧ Own w' w.heap.size (.slice A3 k3 c3) (limbs (val a % b)) ∧ Below w.heap.size w w' := by
  have hva : val a < 2 ^ (64 * na) := val_lt_bits hra.words (by rw [hra.len]; omega)
  have hblt : b < B64 ^ nb := by have := val_lt (words_limbs b); rwa [val_limbs, hrb.len] at this
  obtain ⟨M, hM⟩ : ∃ M, 64 * na = M := ⟨_, rfl⟩
  rw [hM] at hva
  have hM1 : M ≤ 57600 := by omega
  have w1 : 64 * (na : Int) = (M : Int) := by omega
  have w2 : IntKind.i64.wrap (64 * (na : Int)) = (M : Int) := by rw [IntKind.wrap_i64]; omega
  have w3 : wrap64 (64 * (na : Int)) = (M : Int) := by rw [w1]; exact IntWalk.wrap64_in _ ⟨by omega, by omega⟩
  have hmk := fun W => run_make_row' (P := Tryz.prog) 67 3 (.int .i64 0) 8 Tryz.underlying67 int_info rfl .i64 .i64 M (by omega) (by omega) W
  have hz := owni_zeros w M (by simp only [maxLen]; omega)
  have hB2 := (Below.refl w.heap.size w).alloc (Nat.le_refl _) (.cells (madeCells #[.int .i64 0] M) 3)
  have HVA := Lib.hid hva
  have HBL := Lib.hid hblt
  have HW := Lib.hid hM
  clear hva hblt hM
  have hgz : w.heap.size + 1 ≤ (w.alloc (.cells (madeCells #[.int .i64 0] M) 3)).heap.size := by simp
  have hzr : V_zero (val a) M b := ⟨Nat.div_eq_of_lt HVA.out⟩
  rcases hs with hs1 | ⟨hs1, hs2⟩
  all_goals
    go_enter Tryz.func79, Tryz.ntmps79
    go_wp2
    clear hmk w1 w2 w3 hs1
    try clear hs2
    generalize hW2 : w.alloc (.cells (madeCells #[.int .i64 0] M) 3) = w2 at *
    clear hW2
    go_loopw [6, 9] (fun s i wr => ∃ (k : Nat) (L : List Nat) (A1 : Option Addr) (n1 c1 : Nat), k ≤ M ∧ s = .slice A1 n1 c1 ∧ i = .int .i64 ((k : Int) - 1) ∧ OwnI wr w.heap.size (.slice (some ⟨w.heap.size, 0, none⟩) M M) L ∧ L.length = M ∧ bval L = 2 ^ k * (val a / 2 ^ k / b) ∧ (∀ s, s < k → lim L s = 0) ∧ Own wr (w.heap.size + 1) (.slice A1 n1 c1) (limbs (val a / 2 ^ k % b)) ∧ Below w.heap.size w wr ∧ w.heap.size + 1 ≤ wr.heap.size) (fun _ i _ => (intOf i + 1).toNat)
    case atStart => exact ⟨M, List.replicate M 0, none, 0, 0, Nat.le_refl _, rfl, by go_num, hz, by simp, by rw [bval_zeros, hzr.out]; simp, fun s _ => by simp [lim, List.getD_eq_getElem?_getD, List.getElem?_replicate]; split <;> rfl, by rw [hzr.out, Nat.zero_mod, limbs_zero]; exact own_nil _ _, hB2, hgz⟩
    case round =>
      obtain ⟨k, L, A1, n1, c1, hk, rfl, rfl, hI, hLn, hbv, hzz, ho, hB, hgw⟩ := hrel
      clear hz hB2 hgz hzr
      obtain rfl | ⟨j, rfl⟩ : k = 0 ∨ ∃ j, k = j + 1 := by
        cases k with
        | zero => exact .inl rfl
        | succ j => exact .inr ⟨j, rfl⟩
      · rw [Nat.pow_zero, Nat.div_one, Nat.one_mul] at hbv
        rw [Nat.pow_zero, Nat.div_one] at ho
        obtain ⟨A6, c6, e6, hrI, _, _⟩ := hI.form
        rw [hLn] at e6 hrI
        cases e6
        have HO := Lib.hid ho
        have HBV := Lib.hid hbv
        have hsz := hB.size
        clear ho hbv hzz hI hLn
        go_wp2_with fail
        refine (from_any _ M M L _ hrI (by omega)).mono ?_
        rw [HBV.out]
        rintro e w5 ⟨A5, n5, c5, rfl, o5, hb5⟩
        have HO5 := Lib.hid (own_mono o5 hsz)
        have HO6 := Lib.hid (own_mono (HO.out.below hb5) (Nat.le_succ _))
        have hB5 := below_then hB hb5
        clear o5
        go_wp2_with fail
        go_ret2
        exact ⟨_, _, _, _, _, _, rfl, HO5.out, HO6.out, hB5⟩
      · rw [show (((j + 1 : Nat) : Int) - 1) = (j : Int) by omega]
        obtain ⟨q, hq⟩ : ∃ q, val a / 2 ^ (j + 1) / b = q := ⟨_, rfl⟩
        obtain ⟨r, hr⟩ : ∃ r, val a / 2 ^ (j + 1) % b = r := ⟨_, rfl⟩
        obtain ⟨t, ht⟩ : ∃ t, nbit (val a) j = t := ⟨_, rfl⟩
        have hst := over_step hb0 hq hr ht
        have hrb0 : r < b := by rw [← hr]; exact Nat.mod_lt _ hb0
        have ht2 : t = 0 ∨ t = 1 := by have := nbit_two (val a) j; omega
        rw [hq] at hbv
        rw [hr] at ho
        have hr1 := ho.rd.1
        have hn1 : n1 ≤ nb := by have h1 := ho.rd.2.1; have h2 := limbs_length_le (Nat.lt_trans hrb0 HBL.out); omega
        have hl2 : (limbs (r * 2 ^ 1)).length ≤ nb + 1 := limbs_length_le (double_lt hrb0 HBL.out (Nat.zero_le _))
        have hl3 : (limbs (r * 2 ^ 1 + 1)).length ≤ nb + 1 := limbs_length_le (double_lt hrb0 HBL.out (Nat.le_refl _))
        have hra2 := hra.below hB
        have hrb2 := hrb.below hB
        have HI := Lib.hid hI
        have HLN := Lib.hid hLn
        have HZ := Lib.hid hzz
        have HT := Lib.hid ht
        have HL2 := Lib.hid hl2
        have HL3 := Lib.hid hl3
        have hj : j < M := by omega
        have hz0 := hzz j (by omega)
        have hgw2 : w.heap.size + 1 ≤ wr.heap.size := hgw
        clear hq hr ht hI hLn hzz ho hl2 hl3
        rcases ht2 with rfl | rfl

        · rcases Nat.lt_or_ge (r * 2 + 0) b with hlt | hge
          · obtain ⟨hnv, hnr⟩ := hst.1 hlt
            rw [Nat.add_zero] at hnr hlt
            have hbn : bval L = 2 ^ j * (val a / 2 ^ j / b) := by rw [hbv, hnv, Nat.pow_succ, Nat.mul_assoc]
            have hnr2 : val a / 2 ^ j % b = r * 2 ^ 1 := by rw [Nat.pow_one]; exact hnr
            have HNV := Lib.hid hbn
            have HNR := Lib.hid hnr2
            have HC : Hid (cmp3 (r * 2 ^ 1) b = -1) := cmp3_lt (by rw [Nat.pow_one]; exact hlt)
            clear hst hnv hnr hbn hnr2 hbv hz0 hlt hrb0
            go_wp2_with fail
            refine (rTimes_any A1 n1 c1 (limbs r) _ 1 hr1 (by omega) (by omega)).mono ?_
            rw [val_limbs]
            rintro e w3 ⟨A3, n3, c3, rfl, o3, hb3⟩
            have l3 : n3 ≤ 902 := by have h1 := o3.rd.2.1; have h2 := HL2.out; omega
            have hra3 := hra2.below hb3
            have hrb3 := hrb2.below hb3
            have hI3 := HI.out.below hb3
            replace o3 := own_mono o3 hgw
            have hB3 := below_then hB hb3
            have hg3 := Nat.le_trans hgw hb3.size
            clear hb3 hr1
            go_wp2_with fail
            refine (rAt_any A na ca a _ j hra3 (by omega) (by omega)).mono ?_
            rw [HT.out]
            rintro e wq ⟨rfl, rfl⟩
            go_wp2_with fail
            refine (rCompared_any A3 A2 n3 c3 nb cb (limbs (r * 2 ^ 1)) (limbs b) _ o3.rd.1 hrb3 (by omega) (by omega)).mono ?_
            rw [val_limbs, val_limbs, HC.out]
            rintro e wq ⟨rfl, rfl⟩
            have HO := Lib.hid o3
            have HI3 := Lib.hid hI3
            clear o3 hI3 hra3 hrb3
            go_wp2_with fail
            go_roundw
            case rel => exact ⟨j, L, A3, n3, c3, by omega, rfl, by go_num, HI3.out, HLN.out, HNV.out, fun s hs => HZ.out s (by omega), by rw [HNR.out]; exact HO.out, hB3, hg3⟩
            case measure => first | (simp [intOf]; done) | (simp [intOf]; omega)
          · obtain ⟨hnv, hnr⟩ := hst.2 hge
            rw [Nat.add_zero] at hnr hge
            have hbn : bval (L.set j 1) = 2 ^ j * (val a / 2 ^ j / b) := by rw [bval_set (by rw [HLN.out]; exact hj) hz0, hbv, hnv, Nat.pow_succ, Nat.mul_add, Nat.mul_one, Nat.mul_assoc]
            have HGE : Hid (b ≤ r * 2 ^ 1) := by show b ≤ r * 2 ^ 1; rw [Nat.pow_one]; exact hge
            have hnr2 : val a / 2 ^ j % b = r * 2 ^ 1 - b := by rw [Nat.pow_one]; exact hnr
            have HNV := Lib.hid hbn
            have HNR := Lib.hid hnr2
            rcases cmp3_ge HGE.out with hcm | hcm
            all_goals
              have HC := Lib.hid hcm
              clear hcm hst hnv hnr hbn hnr2 hbv hz0 hge hrb0
              go_wp2_with fail
              refine (rTimes_any A1 n1 c1 (limbs r) _ 1 hr1 (by omega) (by omega)).mono ?_
              rw [val_limbs]
              rintro e w3 ⟨A3, n3, c3, rfl, o3, hb3⟩
              have l3 : n3 ≤ 902 := by have h1 := o3.rd.2.1; have h2 := HL2.out; omega
              have hra3 := hra2.below hb3
              have hrb3 := hrb2.below hb3
              have hI3 := HI.out.below hb3
              replace o3 := own_mono o3 hgw
              have hB3 := below_then hB hb3
              have hg3 := Nat.le_trans hgw hb3.size
              clear hb3 hr1
              go_wp2_with fail
              refine (rAt_any A na ca a _ j hra3 (by omega) (by omega)).mono ?_
              rw [HT.out]
              rintro e wq ⟨rfl, rfl⟩
              go_wp2_with fail
              refine (rCompared_any A3 A2 n3 c3 nb cb (limbs (r * 2 ^ 1)) (limbs b) _ o3.rd.1 hrb3 (by omega) (by omega)).mono ?_
              rw [val_limbs, val_limbs, HC.out]
              rintro e wq ⟨rfl, rfl⟩
              go_wp2_with fail
              refine (rRest_any A3 A2 n3 c3 nb cb (limbs (r * 2 ^ 1)) (limbs b) _ o3.rd.1 hrb3 (by omega) (by omega) (by rw [val_limbs, val_limbs]; exact HGE.out)).mono ?_
              rw [val_limbs, val_limbs]
              rintro e w5 ⟨A5, n5, c5, rfl, o5, hb5⟩
              replace hI3 := hI3.below hb5
              have hB5 := below_then hB3 hb5
              have hg5 := Nat.le_trans hg3 hb5.size
              replace o5 := own_mono o5 hg3
              have hc := (owni_cell hI3 (i := j) (by omega)).1
              have hf := (owni_cell hI3 (i := j) (by omega)).2
              have HO5 := Lib.hid o5
              have HI3 := Lib.hid hI3
              clear o5 hI3 hb5 o3 hra3 hrb3 hB3 hg3
              go_wp2_with fail
              go_roundw
              case rel => exact ⟨j, L.set j 1, A5, n5, c5, by omega, rfl, by go_num, owni_set (v := 1) HI3.out (Nat.le_refl _), by rw [List.length_set]; exact HLN.out, HNV.out, fun s hs => by rw [lim_set (by rw [HLN.out]; omega), if_neg (by omega)]; exact HZ.out s (by omega), by rw [HNR.out]; exact own_far HO5.out (Nat.lt_succ_self _) _, hB5.setCell (p := ⟨w.heap.size, j, none⟩) (Nat.le_refl _) _, by rw [World.size_setCell]; exact hg5⟩
              case measure => first | (simp [intOf]; done) | (simp [intOf]; omega)
        · rcases Nat.lt_or_ge (r * 2 + 1) b with hlt | hge
          · obtain ⟨hnv, hnr⟩ := hst.1 hlt
            have hbn : bval L = 2 ^ j * (val a / 2 ^ j / b) := by rw [hbv, hnv, Nat.pow_succ, Nat.mul_assoc]
            have hnr2 : val a / 2 ^ j % b = r * 2 ^ 1 + 1 := by rw [Nat.pow_one]; exact hnr
            have HNV := Lib.hid hbn
            have HNR := Lib.hid hnr2
            have HC : Hid (cmp3 (r * 2 ^ 1 + 1) b = -1) := cmp3_lt (by rw [Nat.pow_one]; exact hlt)
            clear hst hnv hnr hbn hnr2 hbv hz0 hlt hrb0
            go_wp2_with fail
            refine (rTimes_any A1 n1 c1 (limbs r) _ 1 hr1 (by omega) (by omega)).mono ?_
            rw [val_limbs]
            rintro e w3 ⟨A3, n3, c3, rfl, o3, hb3⟩
            have l3 : n3 ≤ 902 := by have h1 := o3.rd.2.1; have h2 := HL2.out; omega
            have hra3 := hra2.below hb3
            have hrb3 := hrb2.below hb3
            have hI3 := HI.out.below hb3
            replace o3 := own_mono o3 hgw
            have hB3 := below_then hB hb3
            have hg3 := Nat.le_trans hgw hb3.size
            clear hb3 hr1
            go_wp2_with fail
            refine (rAt_any A na ca a _ j hra3 (by omega) (by omega)).mono ?_
            rw [HT.out]
            rintro e wq ⟨rfl, rfl⟩
            go_wp2_with fail
            refine (rSum_any A3 _ n3 c3 1 1 (limbs (r * 2 ^ 1)) [1] _ (o3.rd.1.alloc _) (rd_new1 _ 1 _ B64_gt) (by omega) (by omega)).mono ?_
            rw [val_limbs, one_val]
            rintro e w4 ⟨A4, n4, c4, rfl, o4, hb4⟩
            have l4 : n4 ≤ 902 := by have h1 := o4.rd.2.1; have h2 := HL3.out; omega
            replace hb4 := below_new hb4
            replace hra3 := hra3.below hb4
            replace hrb3 := hrb3.below hb4
            replace hI3 := hI3.below hb4
            have hB4 := below_then hB3 hb4
            have hg4 := Nat.le_trans hg3 hb4.size
            replace o4 := own_mono o4 (show w.heap.size + 1 ≤ _ by rw [World.size_alloc]; omega)
            clear hb4 o3 l3 hB3 hg3
            go_wp2_with fail
            refine (rCompared_any A4 A2 n4 c4 nb cb (limbs (r * 2 ^ 1 + 1)) (limbs b) _ o4.rd.1 hrb3 (by omega) (by omega)).mono ?_
            rw [val_limbs, val_limbs, HC.out]
            rintro e wq ⟨rfl, rfl⟩
            have HO := Lib.hid o4
            have HI3 := Lib.hid hI3
            clear o4 hI3 hra3 hrb3
            go_wp2_with fail
            go_roundw
            case rel => exact ⟨j, L, A4, n4, c4, by omega, rfl, by go_num, HI3.out, HLN.out, HNV.out, fun s hs => HZ.out s (by omega), by rw [HNR.out]; exact HO.out, hB4, hg4⟩
            case measure => first | (simp [intOf]; done) | (simp [intOf]; omega)
          · obtain ⟨hnv, hnr⟩ := hst.2 hge
            have hbn : bval (L.set j 1) = 2 ^ j * (val a / 2 ^ j / b) := by rw [bval_set (by rw [HLN.out]; exact hj) hz0, hbv, hnv, Nat.pow_succ, Nat.mul_add, Nat.mul_one, Nat.mul_assoc]
            have HGE : Hid (b ≤ r * 2 ^ 1 + 1) := by show b ≤ r * 2 ^ 1 + 1; rw [Nat.pow_one]; exact hge
            have hnr2 : val a / 2 ^ j % b = r * 2 ^ 1 + 1 - b := by rw [Nat.pow_one]; exact hnr
            have HNV := Lib.hid hbn
            have HNR := Lib.hid hnr2
            rcases cmp3_ge HGE.out with hcm | hcm
            all_goals
              have HC := Lib.hid hcm
              clear hcm hst hnv hnr hbn hnr2 hbv hz0 hge hrb0
              go_wp2_with fail
              refine (rTimes_any A1 n1 c1 (limbs r) _ 1 hr1 (by omega) (by omega)).mono ?_
              rw [val_limbs]
              rintro e w3 ⟨A3, n3, c3, rfl, o3, hb3⟩
              have l3 : n3 ≤ 902 := by have h1 := o3.rd.2.1; have h2 := HL2.out; omega
              have hra3 := hra2.below hb3
              have hrb3 := hrb2.below hb3
              have hI3 := HI.out.below hb3
              replace o3 := own_mono o3 hgw
              have hB3 := below_then hB hb3
              have hg3 := Nat.le_trans hgw hb3.size
              clear hb3 hr1
              go_wp2_with fail
              refine (rAt_any A na ca a _ j hra3 (by omega) (by omega)).mono ?_
              rw [HT.out]
              rintro e wq ⟨rfl, rfl⟩
              go_wp2_with fail
              refine (rSum_any A3 _ n3 c3 1 1 (limbs (r * 2 ^ 1)) [1] _ (o3.rd.1.alloc _) (rd_new1 _ 1 _ B64_gt) (by omega) (by omega)).mono ?_
              rw [val_limbs, one_val]
              rintro e w4 ⟨A4, n4, c4, rfl, o4, hb4⟩
              have l4 : n4 ≤ 902 := by have h1 := o4.rd.2.1; have h2 := HL3.out; omega
              replace hb4 := below_new hb4
              replace hra3 := hra3.below hb4
              replace hrb3 := hrb3.below hb4
              replace hI3 := hI3.below hb4
              have hB4 := below_then hB3 hb4
              have hg4 := Nat.le_trans hg3 hb4.size
              replace o4 := own_mono o4 (show w.heap.size + 1 ≤ _ by rw [World.size_alloc]; omega)
              clear hb4 o3 l3 hB3 hg3
              go_wp2_with fail
              refine (rCompared_any A4 A2 n4 c4 nb cb (limbs (r * 2 ^ 1 + 1)) (limbs b) _ o4.rd.1 hrb3 (by omega) (by omega)).mono ?_
              rw [val_limbs, val_limbs, HC.out]
              rintro e wq ⟨rfl, rfl⟩
              go_wp2_with fail
              refine (rRest_any A4 A2 n4 c4 nb cb (limbs (r * 2 ^ 1 + 1)) (limbs b) _ o4.rd.1 hrb3 (by omega) (by omega) (by rw [val_limbs, val_limbs]; exact HGE.out)).mono ?_
              rw [val_limbs, val_limbs]
              rintro e w5 ⟨A5, n5, c5, rfl, o5, hb5⟩
              replace hI3 := hI3.below hb5
              have hB5 := below_then hB4 hb5
              have hg5 := Nat.le_trans hg4 hb5.size
              replace o5 := own_mono o5 hg4
              have hc := (owni_cell hI3 (i := j) (by omega)).1
              have hf := (owni_cell hI3 (i := j) (by omega)).2
              have HO5 := Lib.hid o5
              have HI3 := Lib.hid hI3
              clear o5 hI3 hb5 o4 hra3 hrb3 hB4 hg4
              go_wp2_with fail
              go_roundw
              case rel => exact ⟨j, L.set j 1, A5, n5, c5, by omega, rfl, by go_num, owni_set (v := 1) HI3.out (Nat.le_refl _), by rw [List.length_set]; exact HLN.out, HNV.out, fun s hs => by rw [lim_set (by rw [HLN.out]; omega), if_neg (by omega)]; exact HZ.out s (by omega), by rw [HNR.out]; exact own_far HO5.out (Nat.lt_succ_self _) _, hB5.setCell (p := ⟨w.heap.size, j, none⟩) (Nat.le_refl _) _, by rw [World.size_setCell]; exact hg5⟩
              case measure => first | (simp [intOf]; done) | (simp [intOf]; omega)

theorem quo_word {x y q r : Nat} (hx : x < B64) (hq : x / y = q) (hr : x % y = r) : Int.tdiv (x : Int) (y : Int) = (q : Int) ∧ (x : Int) / (y : Int) = (q : Int) ∧ Int.tmod (x : Int) (y : Int) = (r : Int) ∧ (x : Int) % (y : Int) = (r : Int) ∧ IntKind.u64.wrap (q : Int) = (q : Int) ∧ IntKind.u64.wrap (r : Int) = (r : Int) ∧ q < B64 ∧ r < B64 := by
  have h1 : q < B64 := by rw [← hq]; exact Nat.lt_of_le_of_lt (Nat.div_le_self _ _) hx
  have h2 : r < B64 := by rw [← hr]; exact Nat.lt_of_le_of_lt (Nat.mod_le _ _) hx
  have e1 : (x : Int) / (y : Int) = (q : Int) := by rw [← hq]; simp
  have e2 : (x : Int) % (y : Int) = (r : Int) := by rw [← hr]; simp
  refine ⟨?_, e1, ?_, e2, ?_, ?_, h1, h2⟩
  · rw [Int.tdiv_eq_ediv_of_nonneg (by omega)]; exact e1
  · rw [Int.tmod_eq_emod_of_nonneg (by omega)]; exact e2
  · rw [IntKind.wrap_u64]; rw [B64_eq] at h1; omega
  · rw [IntKind.wrap_u64]; rw [B64_eq] at h2; omega

theorem rOf_keep (x : Nat) (hx : x < B64) (p p2 : Addr) (u u2 : Value) (h1 : w.cell? p = some u) (h2 : w.cell? p2 = some u2) :
    Calls Tryz.prog 76 #[.int .u64 (x : Int)] w fun e w' => ∃ A' k c, e = .returned (.slice A' k c) ∧ Own w' w.heap.size (.slice A' k c) (limbs x) ∧ Below w.heap.size w w' ∧ w'.cell? p = some u ∧ w'.cell? p2 = some u2 :=
  (rOf_any w x hx).mono fun e w' ⟨A', k, c, he, ho, hb⟩ => ⟨A', k, c, he, ho, hb, (hb.cell (cell_lt h1)).trans h1, (hb.cell (cell_lt h2)).trans h2⟩

set_option maxRecDepth 100000 in
set_option maxHeartbeats 4000000 in
theorem over_word (x y : Nat) (hra : Rd w A 1 [x]) (hrb : Rd w A2 1 [y]) (hy : y ≠ 0) :
    Calls Tryz.prog 79 #[.slice A 1 ca, .slice A2 1 cb] w fun e w' => ∃ A' k c A3 k3 c3, e = .returned (.tuple #[.slice A' k c, .slice A3 k3 c3]) ∧ Own w' w.heap.size (.slice A' k c) (limbs (x / y)) ∧ Own w' w.heap.size (.slice A3 k3 c3) (limbs (x % y)) ∧ Below w.heap.size w w' := by
  obtain ⟨b1, o1, rfl, hl1, hc1⟩ := hra.cells (by omega)
  obtain ⟨b2, o2, rfl, hl2, hc2⟩ := hrb.cells (by omega)
  have hcx : w.cell? ⟨b1, o1, none⟩ = some (u64 x) := hc1 0 (by omega)
  have hcy : w.cell? ⟨b2, o2, none⟩ = some (u64 y) := hc2 0 (by omega)
  obtain ⟨q, hq⟩ : ∃ q, x / y = q := ⟨_, rfl⟩
  obtain ⟨r, hr⟩ : ∃ r, x % y = r := ⟨_, rfl⟩
  obtain ⟨f1, f2, f3, f4, f5, f6, hq1, hr1⟩ := quo_word (hra.words.head) hq hr
  have hy1 : ¬ ((y : Int) = 0) := by omega
  have hy2 : ((y : Int) == 0) = false := by simp; omega
  rw [hq, hr]
  clear hc1 hc2 hra hrb hq hr
  go_enter Tryz.func79, Tryz.ntmps79
  go_wp2
  go_region_held3 (fun w' => w'.cell? ⟨b1, o1, none⟩ = some (u64 x) ∧ w'.cell? ⟨b2, o2, none⟩ = some (u64 y)) (go_keep)
    (first
      | (go_at_call_of 76 (Value.int IntKind.u64 (q : Int)); refine (rOf_keep _ q hq1 ⟨b1, o1, none⟩ ⟨b2, o2, none⟩ (u64 x) (u64 y) ?_ ?_).mono ?_; (simp [*]); (simp [*]); rintro e w3 ⟨A3, k3, c3, rfl, o3, hb3, s1, s2⟩)
      | (go_at_call_of 76 (Value.int IntKind.u64 (r : Int)); refine (rOf_keep _ r hr1 ⟨b1, o1, none⟩ ⟨b2, o2, none⟩ (u64 x) (u64 y) ?_ ?_).mono ?_; (simp [*]); (simp [*]); rintro e w4 ⟨A4, k4, c4, rfl, o4, hb4, s3, s4⟩))
  all_goals
    go_wp2
    go_ret2
    exact ⟨_, _, _, _, _, _, rfl, o3.below hb4, own_mono o4 hb3.size, (Below.refl w.heap.size w).drew.trans (below_then hb3 hb4)⟩
end
end Go.Proofs.YtgiokmfdafmaoaaGreat
