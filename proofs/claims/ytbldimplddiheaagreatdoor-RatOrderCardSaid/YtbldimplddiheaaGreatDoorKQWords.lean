import Derived.Test.YtbldimplddiheaaGreatDoorKGTexts
import Derived.Test.YtbldimplddiheaaGreatDoorKQFr
import Derived.Test.YtbldimplddiheaaGreatDoorKQN
/- GAlive GDigits ZTexts QWords. -/
/- The chapter's first examples of layer 4. -/
namespace Go.Proofs.YtbldimplddiheaaGreatDoor
open Go.RowKit Go.Shelf
set_option linter.unusedVariables false
set_option linter.unusedSimpArgs false

theorem limbs_word {x : Nat} (h : x < B64) : (limbs x).length ≤ 1 := limbs_length_le (by rwa [Nat.pow_one])
/-- 2^64's digits. -/
def two64 : List UInt8 := [49, 56, 52, 52, 54, 55, 52, 52, 48, 55, 51, 55, 48, 57, 53, 53, 49, 54, 49, 54]
theorem two64_ok : okL two64 = true := by decide
theorem two64_num : numV two64 = B64 := by decide
theorem two64_val : val [0, 1] = B64 := by simp [val]
theorem two64_may : may [0, 1] = true := rfl
theorem two64_text : textL B64 = two64 := by rw [← two64_num, text_num two64_ok]
theorem two64_E : textE [0, 1] = 0 := textE_ok two64_may (by rw [two64_val, two64_text]; decide)
theorem two64_S : textS [0, 1] = ⟨#[49, 56, 52, 52, 54, 55, 52, 52, 48, 55, 51, 55, 48, 57, 53, 53, 49, 54, 49, 54]⟩ := by
  rw [textS_ok two64_E, two64_val]
  unfold textB
  rw [two64_text]
  rfl
theorem gcd_no0 : Nat.gcd 0 0 = 0 ∧ Nat.lcm 0 0 = 0 := ⟨rfl, rfl⟩
section
variable (w : World)
end
end Go.Proofs.YtbldimplddiheaaGreatDoor

/- The law GcdDigits: a number as a text is parsed as it was. -/
namespace Go.Proofs.YtbldimplddiheaaGreatDoor
open Go.RowKit Go.Shelf
set_option linter.unusedVariables false
set_option linter.unusedSimpArgs false

theorem byte_of_wf {n : Int} (h : (Lit.int .u8 n).wf = true) : ∃ x : Nat, n = (x : Int) ∧ x < 256 := by
  simp [Lit.wf, IntKind.min, IntKind.max, IntKind.signed, IntKind.bits] at h
  exact ⟨n.toNat, by omega, by omega⟩
theorem pow_fit {n j : Nat} (h : n < 2 ^ (25 * j)) : n < 10 ^ (8 * j) := by
  rw [Nat.pow_mul] at h ⊢
  exact Nat.lt_of_lt_of_le h (Nat.pow_le_pow_left (by decide) j)
theorem nm_text {w : World} {A : Option Addr} {n c v j : Nat} (h : Nm w A n c v) (hj : 64 * n ≤ 25 * j) (h0 : 0 < j) : (textL v).length ≤ 8 * j := by
  have h1 := h.lt
  rw [B64_pow] at h1
  exact text_len (pow_fit (Nat.lt_of_lt_of_le h1 (Nat.pow_le_pow_right (by omega) hj))) (by omega)
theorem parse_text {v : Nat} (h : (textL v).length ≤ 4096) : parseE (textB v) = 0 ∧ parseL (textB v) = limbs v ∧ (textB v).size ≤ 4096 := by
  have h1 : (textB v).size ≤ 4096 := by rw [textB_size]; exact h
  have h2 : parseE (textB v) = 0 := parseE_ok h1 (by rw [textB_list]; exact ok_text v)
  exact ⟨h2, by rw [parseL_ok h2, textB_list, numV_text], h1⟩
theorem text_parse {s : ByteArray} (h : s.size ≤ 4096) (hk : okL s.data.toList = true) : textE (limbs (numV s.data.toList)) = 0 ∧ textS (limbs (numV s.data.toList)) = s := by
  have h1 : textE (limbs (numV s.data.toList)) = 0 := textE_ok (may_limbs _) (by rw [val_limbs, text_num hk, size_list]; exact h)
  exact ⟨h1, by rw [textS_ok h1, val_limbs, textB_num hk]⟩
theorem ext_dig {d : Nat} (h : d < 10) : (⟨#[48, 49, 50, 51, 52, 53, 54, 55, 56, 57]⟩ : ByteArray).extract d (d + 1) = ⟨[dig d].toArray⟩ := by
  have h1 := digits_at ⟨d, h⟩
  rw [Lib.extract_eq, show d + 1 - d = 1 by omega]
  have h2 : ((⟨#[48, 49, 50, 51, 52, 53, 54, 55, 56, 57]⟩ : ByteArray).data.toList.drop d).take 1 = [dig d] := h1
  rw [h2]
theorem snoc_bytes (s : ByteArray) (c : UInt8) : (s ++ ⟨[c].toArray⟩).data.toList = s.data.toList ++ [c] := by simp
theorem ok_snoc {l : List UInt8} (h : okL l = true) (h0 : numV l ≠ 0) {m : Nat} (hm : m < 10) : okL (l ++ [dig m]) = true := by
  have e : l ++ [dig m] = textL (numV l * 10 + m) := by
    have e1 := text_num h
    unfold textL at e1 ⊢
    rw [if_neg h0] at e1
    rw [if_neg (by omega), tenL_pos (by omega), show (numV l * 10 + m) / 10 = numV l by omega, show (numV l * 10 + m) % 10 = m by omega, e1]
  rw [e]
  exact ok_text _
theorem parse_snoc {s : ByteArray} (h : s.size ≤ 3000) (hk : okL s.data.toList = true) (h0 : numV s.data.toList ≠ 0) {m : Nat} (hm : m < 10) :
    parseE (s ++ (⟨#[48, 49, 50, 51, 52, 53, 54, 55, 56, 57]⟩ : ByteArray).extract m (m + 1)) = 0 ∧ parseL (s ++ (⟨#[48, 49, 50, 51, 52, 53, 54, 55, 56, 57]⟩ : ByteArray).extract m (m + 1)) = limbs (numV s.data.toList * 10 + m) ∧ (s ++ (⟨#[48, 49, 50, 51, 52, 53, 54, 55, 56, 57]⟩ : ByteArray).extract m (m + 1)).size ≤ 3001 := by
  rw [ext_dig hm]
  have h1 : (s ++ ⟨[dig m].toArray⟩ : ByteArray).size ≤ 3001 := by
    rw [← size_list, snoc_bytes, List.length_append, size_list, List.length_singleton]; omega
  have h2 : parseE (s ++ ⟨[dig m].toArray⟩) = 0 := parseE_ok (by omega) (by rw [snoc_bytes]; exact ok_snoc hk h0 hm)
  refine ⟨h2, ?_, h1⟩
  rw [parseL_ok h2, snoc_bytes, numV_snoc, dig_nat hm, Nat.add_sub_cancel_left]
theorem num_len {s : ByteArray} (h : s.size ≤ 3000) (hk : okL s.data.toList = true) : (limbs (numV s.data.toList)).length ≤ 300 := by
  have h3 : s.data.toList.all isD = true := by
    unfold okL at hk
    simp only [Bool.and_eq_true] at hk
    exact hk.2
  have h4 := limbs_length_le (num_lt_bits h3 (n := 4096) (by rw [size_list]; omega))
  omega

section
variable (A : Option Addr) (na ca : Nat) (a : List Nat) (s : ByteArray) (d : Nat) (w : World)
end
end Go.Proofs.YtbldimplddiheaaGreatDoor


/- The law WholeTexts. -/
namespace Go.Proofs.YtbldimplddiheaaGreatDoor
open Go.RowKit Go.Shelf
set_option linter.unusedVariables false
set_option linter.unusedSimpArgs false

theorem textN {A : Option Addr} {na ca : Nat} {w : World} {z : Int} (h1 : ZNm w A na ca z) (l1 : na ≤ 400) : Calls Tryz.prog 69 #[.agg #[.bool (decide (z < 0)), .slice A na ca]] w fun e w' => e = .returned (.tuple #[.string (textZS (decide (z < 0)) (limbs z.natAbs)), .int .i64 (textZE (decide (z < 0)) (limbs z.natAbs))]) ∧ Below w.heap.size w w' :=
  textZ_any (w := w) ⟨h1.rd, l1, h1.nc, h1.cm⟩
theorem textZ_form {z : Int} (h : textZE (decide (z < 0)) (limbs z.natAbs) = 0) : (textL z.natAbs).length ≤ 4096 ∧ textZS (decide (z < 0)) (limbs z.natAbs) = if decide (z < 0) = true then ⟨#[45]⟩ ++ textB z.natAbs else textB z.natAbs := by
  have hS : textZS (decide (z < 0)) (limbs z.natAbs) = if decide (z < 0) = true then ⟨#[45]⟩ ++ textS (limbs z.natAbs) else textS (limbs z.natAbs) := by unfold textZS; rw [if_pos h]
  unfold textZE at h
  rw [if_pos (mayZ_num z)] at h
  have h2 : textS (limbs z.natAbs) = textB z.natAbs := by unfold textS; rw [if_pos h, val_limbs]
  rw [hS, h2]
  refine ⟨?_, rfl⟩
  unfold textE at h
  rw [if_pos (may_limbs _), val_limbs] at h
  split at h
  · assumption
  · cases h
theorem head_text (n : Nat) : ∃ c r, textL n = c :: r ∧ c ≠ 45 ∧ (n ≠ 0 → c ≠ 48) := by
  have h := ok_text n
  cases hl : textL n with
  | nil => rw [hl] at h; cases h
  | cons c r =>
    refine ⟨c, r, rfl, ?_, ?_⟩
    · rintro rfl
      rw [hl] at h
      unfold okL at h
      simp only [List.all_cons, Bool.and_eq_true] at h
      have h2 := h.2.1
      exact absurd h2 (by decide)
    · intro hn
      rintro rfl
      unfold textL at hl
      rw [if_neg hn] at hl
      have h2 := head_ten hn
      rw [hl] at h2
      exact h2 rfl
theorem cut_one (t : ByteArray) : ((⟨#[45]⟩ ++ t : ByteArray).extract 1 (⟨#[45]⟩ ++ t : ByteArray).size) = t := by
  apply Go.WideShapes.bytes_inj
  rw [drop_list]
  rw [ByteArray.data_append, Array.toList_append]
  rfl
theorem minus_cons (t : ByteArray) : minus (⟨#[45]⟩ ++ t) = true := by
  unfold minus
  rw [ByteArray.data_append, Array.toList_append]
  rfl
/-- A number as a text is parsed as it was. -/
theorem text_back {z : Int} (h : textZE (decide (z < 0)) (limbs z.natAbs) = 0) : parseZE (textZS (decide (z < 0)) (limbs z.natAbs)) = 0 ∧ parseZ (textZS (decide (z < 0)) (limbs z.natAbs)) = z ∧ (textZS (decide (z < 0)) (limbs z.natAbs)).size ≤ 70000 := by
  obtain ⟨h1, h2⟩ := textZ_form h
  rw [h2]
  have hp := parse_text h1
  obtain ⟨c, r, hl, hc, hc2⟩ := head_text z.natAbs
  have hb := textB_list z.natAbs
  rw [hl] at hb
  by_cases hz : z < 0
  · rw [if_pos (decide_eq_true hz)]
    have hm := minus_cons (textB z.natAbs)
    have hd : (⟨#[45]⟩ ++ textB z.natAbs : ByteArray).data.toList.drop 1 = textL z.natAbs := by
      rw [← drop_list, cut_one, textB_list]
    have hE : parseZE (⟨#[45]⟩ ++ textB z.natAbs) = 0 := by
      unfold parseZE
      rw [if_pos hm, hd, if_neg (by rw [hl]; simpa using hc2 (by omega)), cut_one]
      exact hp.1
    refine ⟨hE, ?_, ?_⟩
    · unfold parseZ
      rw [if_pos hE, if_pos hm, hd, numV_text]
      omega
    · have h3 := hp.2.2
      rw [ByteArray.size_append]
      have : (⟨#[45]⟩ : ByteArray).size = 1 := rfl
      omega
  · rw [if_neg (by rw [decide_eq_false hz]; decide)]
    have hm : minus (textB z.natAbs) = false := by
      unfold minus
      rw [hb]
      simpa using hc
    have hE : parseZE (textB z.natAbs) = 0 := by
      unfold parseZE
      rw [if_neg (by rw [hm]; decide)]
      exact hp.1
    refine ⟨hE, ?_, by have := hp.2.2; omega⟩
    unfold parseZ
    rw [if_pos hE, if_neg (by rw [hm]; decide), textB_list, numV_text]
    omega
theorem parseE_okL {t : ByteArray} (h : parseE t = 0) : okL t.data.toList = true := by
  cases hk : okL t.data.toList with
  | true => rfl
  | false =>
    unfold parseE at h
    rw [hk] at h
    split at h <;> simp at h
/-- What is parsed is that text. -/
theorem parse_back {s : ByteArray} (h : parseZE s = 0) (hs : s.size ≤ 1000) : textZE (decide (parseZ s < 0)) (limbs (parseZ s).natAbs) = 0 ∧ textZS (decide (parseZ s < 0)) (limbs (parseZ s).natAbs) = s := by
  obtain ⟨h1, h2⟩ := parseZ_ok h
  obtain ⟨h3, h4⟩ := parseL_z h
  have hk := parseE_okL h3
  have hl : (if minus s then s.extract 1 s.size else s).data.toList = (if minus s then s.data.toList.drop 1 else s.data.toList) := by
    split
    · exact drop_list s
    · rfl
  have ht := textB_num hk
  rw [hl, ← h1] at ht
  have hlen : (textL (parseZ s).natAbs).length ≤ 4096 := by
    rw [← textB_list, ht, size_list]
    split
    · rw [drop_size]; omega
    · omega
  have hE : textE (limbs (parseZ s).natAbs) = 0 := textE_ok (may_limbs _) (by rw [val_limbs]; exact hlen)
  have hZ : textZE (decide (parseZ s < 0)) (limbs (parseZ s).natAbs) = 0 := by unfold textZE; rw [if_pos (mayZ_num _)]; exact hE
  refine ⟨hZ, ?_⟩
  rw [(textZ_form hZ).2, h2, ht]
  cases hm : minus s with
  | false => simp
  | true =>
    simp only [if_true]
    apply Go.WideShapes.bytes_inj
    rw [ByteArray.data_append, Array.toList_append, drop_list]
    unfold minus at hm
    cases hd : s.data.toList with
    | nil => rw [hd] at hm; cases hm
    | cons x r =>
      rw [hd] at hm
      simp only [List.head?_cons, beq_iff_eq, Option.some.injEq] at hm
      rw [hm]
      rfl
end Go.Proofs.YtbldimplddiheaaGreatDoor

/- The laws' own helpers: of, tells, alive. -/
namespace Go.Proofs.YtbldimplddiheaaGreatDoor
open Go.RowKit Go.Shelf
set_option linter.unusedVariables false
set_option linter.unusedSimpArgs false

section
variable {A A2 : Option Addr} {na ca nb cb : Nat} {w : World} {z y : Int} {x : Rat} {v : QV} {F : Nat}
theorem empty_limbs (n : Nat) : (!(limbs n).isEmpty) = decide (n ≠ 0) := by
  by_cases h : n = 0
  · subst h; rw [limbs_zero]; rfl
  · have h2 : limbs n ≠ [] := fun e => h (limbs_eq_nil.1 e)
    simp [h, h2]
theorem ofQ (hF : OfQIs F) (ha : ZNm w A na ca z) (hb : ZNm w A2 nb cb y) (l1 : na ≤ 400) (l2 : nb ≤ 400) : Calls Tryz.prog F #[.agg #[.bool (decide (z < 0)), .slice A na ca], .agg #[.bool (decide (y < 0)), .slice A2 nb cb]] w (QAns w (decide (y ≠ 0)) (Rat.divInt z y) 30) := by
  have h := hF A A2 na ca nb cb (decide (z < 0)) (decide (y < 0)) (limbs z.natAbs) (limbs y.natAbs) w ⟨ha.rd, hb.rd, l1, l2, ha.nc, ha.cm, hb.nc, hb.cm⟩
  rw [twoM_num, zof_num, zof_num, empty_limbs, if_pos rfl, Bool.true_and, show decide (y.natAbs ≠ 0) = decide (y ≠ 0) by rw [decide_eq_decide]; omega] at h
  exact h
theorem ofQN (hF : OfQIs F) (ha : ZNm w A na ca z) (hb : ZNm w A2 nb cb y) (l1 : na ≤ 400) (l2 : nb ≤ 400) (hy : y ≠ 0) (hx : Rat.divInt z y = x) : Calls Tryz.prog F #[.agg #[.bool (decide (z < 0)), .slice A na ca], .agg #[.bool (decide (y < 0)), .slice A2 nb cb]] w fun e w' => ∃ vr : QV, e = .returned (.tuple #[vr.v, .int .i64 0]) ∧ QOwn w' w.heap.size vr x ∧ Below w.heap.size w w' := by
  have h := ofQ hF ha hb l1 l2
  unfold QAns at h
  rw [decide_eq_true hy, hx] at h
  simp only [if_true] at h
  exact h
theorem ofQ0 (hF : OfQIs F) (ha : ZNm w A na ca z) (hb : ZNm w A2 nb cb y) (l1 : na ≤ 400) (l2 : nb ≤ 400) (hy : y = 0) : Calls Tryz.prog F #[.agg #[.bool (decide (z < 0)), .slice A na ca], .agg #[.bool (decide (y < 0)), .slice A2 nb cb]] w fun e w' => e = .returned (.tuple #[.agg #[.bool false, .slice none 0 0, .slice none 0 0], .int .i64 30]) ∧ Below w.heap.size w w' := by
  have h := ofQ hF ha hb l1 l2
  unfold QAns at h
  have e : decide (y ≠ 0) = false := decide_eq_false (by simpa using hy)
  rw [e] at h
  simp only [Bool.false_eq_true, if_false] at h
  exact h
theorem opM {w : World} {v v2 : QV} {x y t : Rat} {F : Nat} {f : Rat → Rat → Rat} (hF : OpQIs f F) (h1 : QNm w v x) (h2 : QNm w v2 y) (l1 : v.n ≤ 60) (l2 : v.m ≤ 60) (l3 : v2.n ≤ 60) (l4 : v2.m ≤ 60) (e : t = f x y) :
    Calls Tryz.prog F #[v.v, v2.v] w fun e w' => ∃ vr : QV, e = .returned (.tuple #[vr.v, .int .i64 0]) ∧ QOwn w' w.heap.size vr t ∧ Below w.heap.size w w' := by
  subst e
  exact opN hF h1 h2 l1 l2 l3 l4
theorem divM {w : World} {v v2 : QV} {x y t : Rat} {F : Nat} (hF : DivQIs F) (h1 : QNm w v x) (h2 : QNm w v2 y) (l1 : v.n ≤ 60) (l2 : v.m ≤ 60) (l3 : v2.n ≤ 60) (l4 : v2.m ≤ 60) (hy : y ≠ 0) (e : t = x / y) :
    Calls Tryz.prog F #[v.v, v2.v] w fun e w' => ∃ vr : QV, e = .returned (.tuple #[vr.v, .int .i64 0]) ∧ QOwn w' w.heap.size vr t ∧ Below w.heap.size w w' := by
  subst e
  exact divN hF h1 h2 l1 l2 l3 l4 hy
theorem wofM {m k : Int} (W : World) (hm : m = k) (h1 : -1000 ≤ k) (h2 : k ≤ 1000) : Calls Tryz.prog 9 #[.int .i64 k] W (ZOne W m) := by
  subst hm
  exact wOf_any m (by omega) (by omega)
set_option maxRecDepth 100000 in
set_option maxHeartbeats 4000000 in
theorem ofS_any (hF : OfQIs 8) (n m : Int) (hn1 : -1000 ≤ n) (hn2 : n ≤ 1000) (hm1 : -1000 ≤ m) (hm2 : m ≤ 1000) (hm : m ≠ 0) (hx : Rat.divInt n m = x) : Calls Tryz.prog 11 #[.int .i64 n, .int .i64 m] w (QOne w x) := by
  have T0 := uno_q w QV.zero
  obtain ⟨n2, hn⟩ : ∃ t : Int, t = n := ⟨_, rfl⟩
  obtain ⟨m2, hmm⟩ : ∃ t : Int, t = m := ⟨_, rfl⟩
  have P1 := Lib.hid (fun W => wofM W hn hn1 hn2)
  have P2 := Lib.hid (fun W => wofM W hmm hm1 hm2)
  have B1 : Hid (-1000 ≤ n2 ∧ n2 ≤ 1000) := by show _ ∧ _; omega
  have B2 : Hid (-1000 ≤ m2 ∧ m2 ≤ 1000) := by show _ ∧ _; omega
  have hx2 : Rat.divInt n2 m2 = x := by rw [hn, hmm]; exact hx
  have hm0 : m2 ≠ 0 := by omega
  have P3 := Lib.hid (fun W {A A2 : Option Addr} {na ca nb cb : Nat} (h1 : ZNm W A na ca n2) (h2 : ZNm W A2 nb cb m2) (l1 : na ≤ 400) (l2 : nb ≤ 400) => ofQN (w := W) hF h1 h2 l1 l2 hm0 hx2)
  clear hF hn hmm hn1 hn2 hm1 hm2 hm hx hx2 hm0
  unfold QV.zero QV.o ZOne zV zv QOne at *
  go_enter Tryz.func11, Tryz.ntmps11
  go_wp2_with fail
  refine (P1.out _).mono ?_
  rintro e w1 ⟨A1, k1, c1, rfl, o1, hb⟩
  have l1 := Lib.hid (small_len o1 B1.out.1 B1.out.2)
  have T1 := T0.next hb
  clear hb T0
  go_wp2_with fail
  refine (P2.out _).mono ?_
  rintro e w2 ⟨A2, k2, c2, rfl, o2, hb⟩
  have l2 := Lib.hid (small_len o2 B2.out.1 B2.out.2)
  have T2 := T1.next hb
  have n1 := Lib.hid (o1.nm.below hb)
  clear hb T1 o1
  go_wp2_with fail
  refine (P3.out _ n1.out o2.nm (by have := l1.out; omega) (by have := l2.out; omega)).mono ?_
  rintro e w3 ⟨vr, rfl, o9, hb⟩
  have T3 := T2.next (below_then hb (bxb _ vr.o))
  have o8 := o9.below (bxb _ vr.o)
  have hG := Lib.hid T2.x.lt
  clear hb T2 o2 n1 o9
  unfold QV.o at T3 o8
  have qx0 := T3.x.c0
  have qx1 := T3.x.c1
  have qx2 := T3.x.c2
  have f0 := T3.x.f 0
  have f1 := T3.x.f 1
  have f2 := T3.x.f 2
  have hg1 := T3.x.lt
  unfold QV.v
  go_wp2
  refine bodyPost_ret (v := vr.v) (by simp [results, Tryz.results11, go_sem, qx0, qx1, qx2, QV.v]) rfl ?_
  exact ⟨vr, rfl, o8.box3 hG.out (Nat.le_refl _) _ _ _, box_below3 (Nat.le_refl _) T3.b _ _ _⟩
/-- A fraction as a text, of its two numbers' texts. -/
theorem qText_num {x : Rat} {k : Int} {m : Nat} {s t u : ByteArray} (h1 : x.num = k) (h2 : x.den = m) (h3 : textB k.natAbs = s) (h4 : textB m = t) (h5 : s.size ≤ 4096) (h6 : t.size ≤ 4096) (h7 : (if m = 1 then (if k < 0 then ⟨#[45]⟩ ++ s else s) else (if k < 0 then ⟨#[45]⟩ ++ s else s) ++ ⟨#[47]⟩ ++ t) = u) :
    qTextE (decide (x.num < 0)) (limbs x.num.natAbs) (limbs x.den) = 0 ∧ qTextS (decide (x.num < 0)) (limbs x.num.natAbs) (limbs x.den) = u := by
  have hm := mayQ_num x
  have e1 : textZE (decide (x.num < 0)) (limbs x.num.natAbs) = 0 := by
    unfold textZE
    rw [if_pos (mayZ_num _)]
    refine textE_ok (may_limbs _) ?_
    rw [val_limbs, ← textB_size, h1, h3]
    exact h5
  have e2 : textZS (decide (x.num < 0)) (limbs x.num.natAbs) = if k < 0 then ⟨#[45]⟩ ++ s else s := by
    rw [(textZ_form e1).2, h1, h3]
    simp only [decide_eq_true_eq]
  have e3 : textE (limbs x.den) = 0 := by
    refine textE_ok (may_limbs _) ?_
    rw [val_limbs, ← textB_size, h2, h4]
    exact h6
  have e4 : textS (limbs x.den) = t := by
    unfold textS
    rw [if_pos e3, val_limbs, h2, h4]
  have e5 : limbs x.den = [1] ↔ m = 1 := by
    rw [h2]
    constructor
    · intro h
      have h8 := congrArg val h
      rw [val_limbs] at h8
      exact h8
    · rintro rfl
      exact limbs_one
  unfold qTextE qTextS
  rw [if_pos hm, if_pos hm, if_pos e1, if_pos e1, if_pos e3, e2, e3, e4, ← h7]
  by_cases h8 : m = 1
  · rw [if_pos (e5.2 h8), if_pos (e5.2 h8), if_pos h8]
    exact ⟨rfl, rfl⟩
  · rw [if_neg (fun e => h8 (e5.1 e)), if_neg (fun e => h8 (e5.1 e)), if_neg h8]
    exact ⟨rfl, rfl⟩
set_option maxRecDepth 100000 in
set_option maxHeartbeats 2000000 in
theorem tells_any (hF : TextQIs 31) (h : QNm w v x) (l1 : v.n ≤ 60) (l2 : v.m ≤ 60) (s : ByteArray) (hs : qTextE (decide (x.num < 0)) (limbs x.num.natAbs) (limbs x.den) = 0 ∧ qTextS (decide (x.num < 0)) (limbs x.num.natAbs) (limbs x.den) = s) : Calls Tryz.prog 16 #[v.v, .int .i64 0, .string s] w fun e w' => e = .returned (.bool true) ∧ Below w.heap.size w w' := by
  have T0 := uno_q w v
  have P := Lib.hid (fun W (hW : Below w.heap.size w W) => hF v _ _ W ((q1_num h l1 l2).below hW))
  rw [h.s, hs.1, hs.2] at P
  clear hF h l1 l2 hs
  unfold QV.v at *
  have qx0 := T0.x.c0
  have qx1 := T0.x.c1
  have qx2 := T0.x.c2
  go_enter Tryz.func16, Tryz.ntmps16
  go_wp2_with fail
  refine (P.out _ T0.b).mono ?_
  rintro e w1 ⟨rfl, hb⟩
  have T1 := T0.next hb
  clear hb T0
  go_wp2
  go_ret
  exact ⟨by simp, T1.b⟩
end
theorem qt_a : (Rat.divInt 6 (-4)).num = -3 ∧ (Rat.divInt 6 (-4)).den = 2 := by decide +kernel
theorem qt_b : (Rat.divInt 1 2 + Rat.divInt 1 3).num = 5 ∧ (Rat.divInt 1 2 + Rat.divInt 1 3).den = 6 := by decide +kernel
theorem qt_c : (Rat.divInt 1 2 / Rat.divInt (-1) 4).num = -2 ∧ (Rat.divInt 1 2 / Rat.divInt (-1) 4).den = 1 := by decide +kernel
theorem qt_n : Rat.divInt (-1) 4 ≠ 0 := by decide +kernel
theorem digit_text (n : Nat) (c : UInt8) (h : okL [c] = true) (hn : numV [c] = n) : textB n = ⟨#[c]⟩ := by
  subst hn
  exact textB_num (s := ⟨#[c]⟩) h
theorem bd_small {x : Rat} (h1 : x.num.natAbs ≤ 1000) (h2 : x.den ≤ 1000) : BdQ 1 1 x := ⟨by rw [Nat.pow_one, B64_eq]; omega, by rw [Nat.pow_one, B64_eq]; omega⟩
set_option maxRecDepth 100000 in
set_option maxHeartbeats 8000000 in
theorem qalive_any (hOf : OfQIs 8) (hAdd : OpQIs (fun x y => x + y) 21) (hDiv : DivQIs 15) (hText : TextQIs 31) (w : World) : Calls Tryz.prog 17 #[] w fun e w' => e = .returned (.bool true) ∧ Below w.heap.size w w' := by
  have HOf := Lib.hid hOf
  have HAdd := Lib.hid hAdd
  have HDiv := Lib.hid hDiv
  have HText := Lib.hid hText
  clear hOf hAdd hDiv hText
  obtain ⟨m6, h6⟩ : ∃ t : Int, t = 6 := ⟨_, rfl⟩
  obtain ⟨m4, h4⟩ : ∃ t : Int, t = -4 := ⟨_, rfl⟩
  have H6 := Lib.hid h6
  have H4 := Lib.hid h4
  clear h6 h4
  obtain ⟨xa, exa⟩ : ∃ s : Rat, s = Rat.divInt 6 (-4) := ⟨_, rfl⟩
  have Lxa : Hid (BdQ 1 1 xa) := by show BdQ _ _ _; rw [exa]; exact bd_small (by decide +kernel) (by decide +kernel)
  have Exa := Lib.hid exa
  clear exa
  obtain ⟨xh, exh⟩ : ∃ s : Rat, s = Rat.divInt 1 2 := ⟨_, rfl⟩
  have Lxh : Hid (BdQ 1 1 xh) := by show BdQ _ _ _; rw [exh]; exact bd_small (by decide +kernel) (by decide +kernel)
  have Exh := Lib.hid exh
  clear exh
  obtain ⟨xt, ext⟩ : ∃ s : Rat, s = Rat.divInt 1 3 := ⟨_, rfl⟩
  have Lxt : Hid (BdQ 1 1 xt) := by show BdQ _ _ _; rw [ext]; exact bd_small (by decide +kernel) (by decide +kernel)
  have Ext := Lib.hid ext
  clear ext
  obtain ⟨xn, exn⟩ : ∃ s : Rat, s = Rat.divInt (-1) 4 := ⟨_, rfl⟩
  have Lxn : Hid (BdQ 1 1 xn) := by show BdQ _ _ _; rw [exn]; exact bd_small (by decide +kernel) (by decide +kernel)
  have Exn := Lib.hid exn
  clear exn
  obtain ⟨xb, exb⟩ : ∃ s : Rat, s = Rat.divInt 1 2 + Rat.divInt 1 3 := ⟨_, rfl⟩
  have Lxb : Hid (BdQ 1 1 xb) := by show BdQ _ _ _; rw [exb]; exact bd_small (by decide +kernel) (by decide +kernel)
  have Exb := Lib.hid exb
  clear exb
  obtain ⟨xc, exc⟩ : ∃ s : Rat, s = Rat.divInt 1 2 / Rat.divInt (-1) 4 := ⟨_, rfl⟩
  have Lxc : Hid (BdQ 1 1 xc) := by show BdQ _ _ _; rw [exc]; exact bd_small (by decide +kernel) (by decide +kernel)
  have Exc := Lib.hid exc
  clear exc
  have TA : Hid (qTextE (decide (xa.num < 0)) (limbs xa.num.natAbs) (limbs xa.den) = 0 ∧ qTextS (decide (xa.num < 0)) (limbs xa.num.natAbs) (limbs xa.den) = ⟨#[45, 51, 47, 50]⟩) := by show _ ∧ _; exact qText_num (k := -3) (m := 2) (s := ⟨#[51]⟩) (t := ⟨#[50]⟩) (Exa.out ▸ qt_a.1) (Exa.out ▸ qt_a.2) (digit_text 3 51 (by decide) (by decide)) (digit_text 2 50 (by decide) (by decide)) (by decide) (by decide) (by decide)
  have TB : Hid (qTextE (decide (xb.num < 0)) (limbs xb.num.natAbs) (limbs xb.den) = 0 ∧ qTextS (decide (xb.num < 0)) (limbs xb.num.natAbs) (limbs xb.den) = ⟨#[53, 47, 54]⟩) := by show _ ∧ _; exact qText_num (k := 5) (m := 6) (s := ⟨#[53]⟩) (t := ⟨#[54]⟩) (Exb.out ▸ qt_b.1) (Exb.out ▸ qt_b.2) (digit_text 5 53 (by decide) (by decide)) (digit_text 6 54 (by decide) (by decide)) (by decide) (by decide) (by decide)
  have TC : Hid (qTextE (decide (xc.num < 0)) (limbs xc.num.natAbs) (limbs xc.den) = 0 ∧ qTextS (decide (xc.num < 0)) (limbs xc.num.natAbs) (limbs xc.den) = ⟨#[45, 50]⟩) := by show _ ∧ _; exact qText_num (k := -2) (m := 1) (s := ⟨#[50]⟩) (t := ⟨#[49]⟩) (Exc.out ▸ qt_c.1) (Exc.out ▸ qt_c.2) (digit_text 2 50 (by decide) (by decide)) (digit_text 1 49 (by decide) (by decide)) (by decide) (by decide) (by decide)
  have NN : Hid (xn ≠ 0) := by show _ ≠ _; rw [Exn.out]; exact qt_n
  have K0 := heldq_nil w
  have J0 := held_nil w
  have D0 := Below.refl w.heap.size w
  try simp only [World.size_alloc] at K0
  try simp only [World.size_alloc] at J0
  have HH0 := Lib.hid K0
  have HZ0 := Lib.hid J0
  have HB0 := Lib.hid D0
  clear K0 J0 D0
  try dsimp only [QV.v, zv, zV]
  go_enter Tryz.func17, Tryz.ntmps17
  go_wp2_with fail
  refine (wofM _ H6.out (by omega) (by omega)).mono ?_
  rintro e ua_ ⟨Pa, pa, qa, rfl, ooa, hb⟩
  have la : pa ≤ 1 := small_len ooa (by have := H6.out; omega) (by have := H6.out; omega)
  have Ha := Lib.hid ooa.nm
  have hbb := hb
  clear hb ooa
  unfold zV zv
  have hA := hbb
  have HH1 := Lib.hid (HH0.out.next hA)
  have HZ1 := Lib.hid (HZ0.out.next hA)
  have HB1 := Lib.hid (below_then HB0.out hA)
  clear HH0 HZ0 HB0
  clear hA
  clear hbb
  go_wp2_with fail
  refine (wofM _ H4.out (by omega) (by omega)).mono ?_
  rintro e ub_ ⟨Pb, pb, qb, rfl, oob, hb⟩
  have lb : pb ≤ 1 := small_len oob (by have := H4.out; omega) (by have := H4.out; omega)
  have Hb := Lib.hid oob.nm
  have hbb := hb
  clear hb oob
  unfold zV zv
  have hA := hbb
  have HH2 := Lib.hid (HH1.out.next hA)
  have HZ2 := Lib.hid (HZ1.out.next hA)
  have HB2 := Lib.hid (below_then HB1.out hA)
  clear HH1 HZ1 HB1
  clear hA
  have Ha := Lib.hid (Ha.out.below hbb)
  clear hbb
  go_wp2_with fail
  refine (ofQN (x := xa) HOf.out Ha.out Hb.out (by omega) (by omega) (by have := H4.out; omega) (by rw [H6.out, H4.out, Exa.out])).mono ?_
  rintro e v3_ ⟨q3, rfl, o3, hb⟩
  have HL := Lib.hid (Lxa.out.len o3)
  have HH3 : Hid (HeldQ (v3_.alloc (.cells #[.bool q3.p, .slice q3.A q3.n q3.c, .slice q3.D q3.m q3.d] qT)) [⟨v3_.heap.size, q3, xa⟩]) := Lib.hid ((HH2.out.next (below_then hb (bxb _ q3.o))).cons (IQ.fresh o3 (by have := HL.out; omega) (by have := HL.out; omega)))
  have HZ3 : Hid (Held (v3_.alloc (.cells #[.bool q3.p, .slice q3.A q3.n q3.c, .slice q3.D q3.m q3.d] qT)) []) := Lib.hid (HZ2.out.next (below_then hb (bxb _ q3.o)))
  have HB3 : Hid (Below w.heap.size w (v3_.alloc (.cells #[.bool q3.p, .slice q3.A q3.n q3.c, .slice q3.D q3.m q3.d] qT))) := Lib.hid (below_then HB2.out (below_then hb (bxb _ q3.o)))
  clear hb o3 HL HH2 HZ2 HB2
  unfold QV.v
  clear Ha Hb
  go_wp2_with fail
  refine (ofS_any HOf.out 1 2 (by omega) (by omega) (by omega) (by omega) (by omega) Exh.out.symm).mono ?_
  rintro e v4_ ⟨qxh, rfl, oxh, hb⟩
  have HL := Lib.hid (Lxh.out.len oxh)
  have jxh := Lib.hid (And.intro oxh.nm HL.out)
  have hbb := hb
  clear hb oxh HL
  have hA := hbb
  have HH4 := Lib.hid (HH3.out.next hA)
  have HZ4 := Lib.hid (HZ3.out.next hA)
  have HB4 := Lib.hid (below_then HB3.out hA)
  clear HH3 HZ3 HB3
  clear hA
  clear hbb
  unfold QV.v
  go_wp2_with fail
  refine (ofS_any HOf.out 1 3 (by omega) (by omega) (by omega) (by omega) (by omega) Ext.out.symm).mono ?_
  rintro e v5_ ⟨qxt, rfl, oxt, hb⟩
  have HL := Lib.hid (Lxt.out.len oxt)
  have jxt := Lib.hid (And.intro oxt.nm HL.out)
  have hbb := hb
  clear hb oxt HL
  have hA := hbb
  have HH5 := Lib.hid (HH4.out.next hA)
  have HZ5 := Lib.hid (HZ4.out.next hA)
  have HB5 := Lib.hid (below_then HB4.out hA)
  clear HH4 HZ4 HB4
  clear hA
  have jxh := Lib.hid (And.intro (jxh.out.1.below hbb) jxh.out.2)
  clear hbb
  unfold QV.v
  go_wp2_with fail
  refine (opM (t := xb) HAdd.out jxh.out.1 jxt.out.1 (by have := jxh.out.2; omega) (by have := jxh.out.2; omega) (by have := jxt.out.2; omega) (by have := jxt.out.2; omega) (by rw [Exb.out, Exh.out, Ext.out])).mono ?_
  rintro e v6_ ⟨q6, rfl, o6, hb⟩
  have HL := Lib.hid (Lxb.out.len o6)
  have HH6 : Hid (HeldQ (v6_.alloc (.cells #[.bool q6.p, .slice q6.A q6.n q6.c, .slice q6.D q6.m q6.d] qT)) [⟨v6_.heap.size, q6, xb⟩, ⟨v3_.heap.size, q3, xa⟩]) := Lib.hid ((HH5.out.next (below_then hb (bxb _ q6.o))).cons (IQ.fresh o6 (by have := HL.out; omega) (by have := HL.out; omega)))
  have HZ6 : Hid (Held (v6_.alloc (.cells #[.bool q6.p, .slice q6.A q6.n q6.c, .slice q6.D q6.m q6.d] qT)) []) := Lib.hid (HZ5.out.next (below_then hb (bxb _ q6.o)))
  have HB6 : Hid (Below w.heap.size w (v6_.alloc (.cells #[.bool q6.p, .slice q6.A q6.n q6.c, .slice q6.D q6.m q6.d] qT))) := Lib.hid (below_then HB5.out (below_then hb (bxb _ q6.o)))
  clear hb o6 HL HH5 HZ5 HB5
  unfold QV.v
  clear jxh jxt
  go_wp2_with fail
  refine (ofS_any HOf.out 1 2 (by omega) (by omega) (by omega) (by omega) (by omega) Exh.out.symm).mono ?_
  rintro e v7_ ⟨qxh, rfl, oxh, hb⟩
  have HL := Lib.hid (Lxh.out.len oxh)
  have jxh := Lib.hid (And.intro oxh.nm HL.out)
  have hbb := hb
  clear hb oxh HL
  have hA := hbb
  have HH7 := Lib.hid (HH6.out.next hA)
  have HZ7 := Lib.hid (HZ6.out.next hA)
  have HB7 := Lib.hid (below_then HB6.out hA)
  clear HH6 HZ6 HB6
  clear hA
  clear hbb
  unfold QV.v
  go_wp2_with fail
  refine (ofS_any HOf.out (-1) 4 (by omega) (by omega) (by omega) (by omega) (by omega) Exn.out.symm).mono ?_
  rintro e v8_ ⟨qxn, rfl, oxn, hb⟩
  have HL := Lib.hid (Lxn.out.len oxn)
  have jxn := Lib.hid (And.intro oxn.nm HL.out)
  have hbb := hb
  clear hb oxn HL
  have hA := hbb
  have HH8 := Lib.hid (HH7.out.next hA)
  have HZ8 := Lib.hid (HZ7.out.next hA)
  have HB8 := Lib.hid (below_then HB7.out hA)
  clear HH7 HZ7 HB7
  clear hA
  have jxh := Lib.hid (And.intro (jxh.out.1.below hbb) jxh.out.2)
  clear hbb
  unfold QV.v
  go_wp2_with fail
  refine (divM (t := xc) HDiv.out jxh.out.1 jxn.out.1 (by have := jxh.out.2; omega) (by have := jxh.out.2; omega) (by have := jxn.out.2; omega) (by have := jxn.out.2; omega) NN.out (by rw [Exc.out, Exh.out, Exn.out])).mono ?_
  rintro e v9_ ⟨q9, rfl, o9, hb⟩
  have HL := Lib.hid (Lxc.out.len o9)
  have HH9 : Hid (HeldQ (v9_.alloc (.cells #[.bool q9.p, .slice q9.A q9.n q9.c, .slice q9.D q9.m q9.d] qT)) [⟨v9_.heap.size, q9, xc⟩, ⟨v6_.heap.size, q6, xb⟩, ⟨v3_.heap.size, q3, xa⟩]) := Lib.hid ((HH8.out.next (below_then hb (bxb _ q9.o))).cons (IQ.fresh o9 (by have := HL.out; omega) (by have := HL.out; omega)))
  have HZ9 : Hid (Held (v9_.alloc (.cells #[.bool q9.p, .slice q9.A q9.n q9.c, .slice q9.D q9.m q9.d] qT)) []) := Lib.hid (HZ8.out.next (below_then hb (bxb _ q9.o)))
  have HB9 : Hid (Below w.heap.size w (v9_.alloc (.cells #[.bool q9.p, .slice q9.A q9.n q9.c, .slice q9.D q9.m q9.d] qT))) := Lib.hid (below_then HB8.out (below_then hb (bxb _ q9.o)))
  clear hb o9 HL HH8 HZ8 HB8
  unfold QV.v
  clear jxh jxn
  have cxa0 := (HH9.out _ (.tail _ (.tail _ (.head _)))).b.c0
  have cxa1 := (HH9.out _ (.tail _ (.tail _ (.head _)))).b.c1
  have cxa2 := (HH9.out _ (.tail _ (.tail _ (.head _)))).b.c2
  go_wp2_with fail
  refine (tells_any HText.out (HH9.out _ (.tail _ (.tail _ (.head _)))).m (HH9.out _ (.tail _ (.tail _ (.head _)))).ln (HH9.out _ (.tail _ (.tail _ (.head _)))).ld _ TA.out).mono ?_
  rintro e v10_ ⟨rfl, hb⟩
  have HH10 := Lib.hid (HH9.out.next hb)
  have HZ10 := Lib.hid (HZ9.out.next hb)
  have HB10 := Lib.hid (below_then HB9.out hb)
  clear HH9 HZ9 HB9
  clear hb
  clear cxa0 cxa1 cxa2
  have cxb0 := (HH10.out _ (.tail _ (.head _))).b.c0
  have cxb1 := (HH10.out _ (.tail _ (.head _))).b.c1
  have cxb2 := (HH10.out _ (.tail _ (.head _))).b.c2
  go_wp2_with fail
  refine (tells_any HText.out (HH10.out _ (.tail _ (.head _))).m (HH10.out _ (.tail _ (.head _))).ln (HH10.out _ (.tail _ (.head _))).ld _ TB.out).mono ?_
  rintro e v11_ ⟨rfl, hb⟩
  have HH11 := Lib.hid (HH10.out.next hb)
  have HZ11 := Lib.hid (HZ10.out.next hb)
  have HB11 := Lib.hid (below_then HB10.out hb)
  clear HH10 HZ10 HB10
  clear hb
  clear cxb0 cxb1 cxb2
  have cxc0 := (HH11.out _ (.head _)).b.c0
  have cxc1 := (HH11.out _ (.head _)).b.c1
  have cxc2 := (HH11.out _ (.head _)).b.c2
  go_wp2_with fail
  refine (tells_any HText.out (HH11.out _ (.head _)).m (HH11.out _ (.head _)).ln (HH11.out _ (.head _)).ld _ TC.out).mono ?_
  rintro e v12_ ⟨rfl, hb⟩
  have HH12 := Lib.hid (HH11.out.next hb)
  have HZ12 := Lib.hid (HZ11.out.next hb)
  have HB12 := Lib.hid (below_then HB11.out hb)
  clear HH11 HZ11 HB11
  clear hb
  clear cxc0 cxc1 cxc2
  go_wp2
  go_ret
  exact ⟨by simp, HB12.out⟩
end Go.Proofs.YtbldimplddiheaaGreatDoor
