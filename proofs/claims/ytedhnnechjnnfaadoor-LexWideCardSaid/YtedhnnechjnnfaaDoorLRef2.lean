/- The document's tokens: numbers, one token. -/
import Derived.Test.YtedhnnechjnnfaaDoorLRef
import Derived.Laws.Cover1
namespace Go.Proofs.YtedhnnechjnnfaaDoor
open Go.RowKit Go.Shelf
set_option linter.unusedVariables false
set_option linter.unusedSimpArgs false
theorem lexN_inj : ∀ (x y : List UInt8), x.length = y.length → (∀ c, c ∈ x → lexD c = true) → (∀ c, c ∈ y → lexD c = true) → lexN x = lexN y → x = y := by
  intro x
  induction x with
  | nil =>
    intro y hl _ _ _
    cases y with
    | nil => rfl
    | cons b y => simp at hl
  | cons a x ih =>
    intro y hl hx hy he
    cases y with
    | nil => simp at hl
    | cons b y =>
      simp at hl
      have ha := lexD_iff.1 (hx a (by simp))
      have hb := lexD_iff.1 (hy b (by simp))
      have hx2 := lexN_lt fun c hc => hx c (List.mem_cons_of_mem _ hc)
      have hy2 := lexN_lt fun c hc => hy c (List.mem_cons_of_mem _ hc)
      rw [lexN_cons, lexN_cons, hl] at he
      rw [hl] at hx2
      have h1 : a.toNat = b.toNat := by
        rcases Nat.lt_trichotomy a.toNat b.toNat with h | h | h
        · have h1 : (a.toNat - 48 + 1) * 10 ^ y.length ≤ (b.toNat - 48) * 10 ^ y.length := Nat.mul_le_mul_right _ (by omega)
          rw [Nat.add_mul, Nat.one_mul] at h1
          omega
        · exact h
        · have h1 : (b.toNat - 48 + 1) * 10 ^ y.length ≤ (a.toNat - 48) * 10 ^ y.length := Nat.mul_le_mul_right _ (by omega)
          rw [Nat.add_mul, Nat.one_mul] at h1
          omega
      have h2 : a = b := UInt8.toNat_inj.1 h1
      subst h2
      rw [ih y hl (fun c hc => hx c (List.mem_cons_of_mem _ hc)) (fun c hc => hy c (List.mem_cons_of_mem _ hc)) (by omega)]
def mostL : List UInt8 := [57, 50, 50, 51, 51, 55, 50, 48, 51, 54, 56, 53, 52, 55, 55, 53, 56, 48, 55]
theorem most_le {l : List UInt8} (hl : l.length = 19) (hd : ∀ c, c ∈ l → lexD c = true) : (Go.Op.bytesLess l mostL || l == mostL) = decide (lexN l ≤ 9223372036854775807) := by
  have hm : ∀ c, c ∈ mostL → lexD c = true := by decide
  have hn : lexN mostL = 9223372036854775807 := by decide
  rw [less_digits l mostL hl hd hm, hn]
  rcases Nat.lt_trichotomy (lexN l) 9223372036854775807 with h | h | h
  · rw [decide_eq_true h, decide_eq_true (by omega), Bool.true_or]
  · have h2 : l = mostL := lexN_inj l mostL hl hd hm (by rw [hn]; exact h)
    rw [decide_eq_true (show lexN l ≤ 9223372036854775807 by omega), h2]
    simp
  · have h2 : l ≠ mostL := by
      intro e
      rw [e, hn] at h
      exact Nat.lt_irrefl _ h
    rw [decide_eq_false (by omega), decide_eq_false (by omega), beq_eq_false_iff_ne.2 h2]
    rfl
set_option maxRecDepth 100000 in
set_option maxHeartbeats 1000000 in
theorem rnumber_any (s : ByteArray) (h0 : 0 < s.size) (hd : s.data.toList.all lexD = true) (hs : s.size ≤ 1000000) (w : World) :
    Calls Tryd.prog 29 #[.string s] w fun e w' => e = .returned (.bool (lexOk s.data.toList)) ∧ w' = w := by
  have hh : s.data.toList.headD 0 = s[0]'h0 := by
    rw [List.headD_eq_head?_getD, List.head?_eq_getElem?, lx_at h0]; rfl
  have h0i : (0 : Int) < (s.size : Int) := by omega
  have hok : lexOk s.data.toList = (!(decide (1 < s.size) && decide (s[0]'h0 = 48)) && decide (s.size ≤ 19) && decide (lexN s.data.toList ≤ 9223372036854775807)) := by
    unfold lexOk
    rw [lx_size, hh]
  have hc48 : (s[0]'h0 = 48) ↔ ((s[0]'h0).toNat : Int) = 48 := by
    constructor
    · intro h; rw [h]; rfl
    · intro h; exact UInt8.toNat_inj.1 (by show _ = 48; omega)
  by_cases h1 : 1 < s.size ∧ s[0]'h0 = 48
  · have hB : lexOk s.data.toList = false := by rw [hok, decide_eq_true h1.1, decide_eq_true h1.2]; rfl
    rw [hB]
    have q1 : (1 : Int) < (s.size : Int) := by omega
    have q2 := hc48.1 h1.2
    clear hok hB hh hd hc48 h1
    go_enter Tryd.func29, Tryd.ntmps29
    go_wp2
    go_ret
    exact ⟨rfl, rfl⟩
  · have hfi : ¬ ((1 : Int) < (s.size : Int)) ∨ ((1 : Int) < (s.size : Int) ∧ ¬ ((s[0]'h0).toNat : Int) = 48) := by
      by_cases q : 1 < s.size
      · exact .inr ⟨by omega, fun h => h1 ⟨q, hc48.2 h⟩⟩
      · exact .inl (by omega)
    have hno : (decide (1 < s.size) && decide (s[0]'h0 = 48)) = false := by rw [← Bool.decide_and, decide_eq_false h1]
    rw [hno, Bool.not_false, Bool.true_and] at hok
    have hdd : ∀ c, c ∈ s.data.toList → lexD c = true := List.all_eq_true.1 hd
    clear hno hh hc48 h1 hd
    by_cases h2 : 19 < s.size
    · have hB : lexOk s.data.toList = false := by rw [hok, decide_eq_false (by omega)]; rfl
      rw [hB]
      have q1 : (19 : Int) < (s.size : Int) := by omega
      clear hok hB hdd h2
      rcases hfi with q | ⟨q, q2⟩
      · omega
      · go_enter Tryd.func29, Tryd.ntmps29
        go_wp2
        go_ret
        exact ⟨rfl, rfl⟩
    · have q1 : ¬ (19 : Int) < (s.size : Int) := by omega
      rw [decide_eq_true (show s.size ≤ 19 by omega), Bool.true_and] at hok
      by_cases h3 : s.size < 19
      · have hB : lexOk s.data.toList = true := by
          rw [hok, decide_eq_true_iff]
          have h4 := lexN_lt hdd
          have h5 : (10 : Nat) ^ s.data.toList.length ≤ 10 ^ 18 := Nat.pow_le_pow_right (by omega) (by rw [lx_size]; omega)
          omega
        rw [hB]
        have q3 : (s.size : Int) < 19 := by omega
        clear hok hB hdd h2 h3
        rcases hfi with q | ⟨q, q2⟩
        all_goals
          go_enter Tryd.func29, Tryd.ntmps29
          go_wp2
          go_ret
          exact ⟨rfl, rfl⟩
      · have h4 := most_le (by rw [lx_size]; omega) hdd
        rw [← hok, ← Lib.toList_data] at h4
        have q3 : ¬ (s.size : Int) < 19 := by omega
        have q4 : (1 : Int) < (s.size : Int) := by omega
        rw [← Lib.toList_data]
        generalize hB : lexOk s.toList = B at h4 ⊢
        have HB := Lib.hid h4
        clear hok hdd h2 h3 h4 hB
        rcases hfi with q | ⟨q, q2⟩
        · omega
        · go_enter Tryd.func29, Tryd.ntmps29
          go_wp2
          go_ret
          refine ⟨?_, rfl⟩
          rw [← HB.out]
          rfl
end Go.Proofs.YtedhnnechjnnfaaDoor
