import Derived.Test.YtoehkaagfokamaaZDBack
/- DTwice DTells. -/
/- The law DivTwice: divided twice; by a word. -/
namespace Go.Proofs.Ytoehkaagfokamaa
open Go.RowKit Go.Shelf
set_option linter.unusedVariables false
set_option linter.unusedSimpArgs false

theorem quo_words (a b : List Nat) : Words (quoL a b) := by
  unfold quoL
  split
  · exact words_limbs _
  · exact words_nil
theorem rem_canon (a b : List Nat) : limbs (val (remL a b)) = remL a b := by
  unfold remL
  split
  · rw [val_limbs]
  · rw [val_nil, limbs_zero]
theorem val_rem_lt {a : List Nat} {x : Nat} (hx : x < B64) : val (remL a (limbs x)) < B64 := by
  unfold remL
  split
  · rw [val_limbs, val_limbs]
    by_cases h : x = 0
    · subst h
      rename_i he
      rw [limbs_zero] at he
      unfold divE at he
      split at he <;> simp at he
    · exact Nat.lt_trans (Nat.mod_lt _ (by omega)) hx
  · rw [val_nil]; exact B64_pos
theorem twice_is {a b c : List Nat} (h1 : divE a b = 0) (h2 : divE (quoL a b) c = 0) : quoL a (limbs (val b * val c)) = quoL (quoL a b) c ∧ divE a (limbs (val b * val c)) = 0 := by
  have h1' := h1
  rcases divE_cases a b with ⟨_, hma, hmb, hb⟩ | ⟨he, _⟩ | ⟨he, _⟩
  · rcases divE_cases (quoL a b) c with ⟨_, hmq, hmc, hc⟩ | ⟨he, _⟩ | ⟨he, _⟩
    · have hb0 := val_pos hmb hb
      have hc0 := val_pos hmc hc
      have hp : val b * val c ≠ 0 := Nat.ne_of_gt (Nat.mul_pos hb0 hc0)
      have e : divE a (limbs (val b * val c)) = 0 := divE_ok hma (may_limbs _) (fun h => hp (limbs_eq_nil.1 h))
      refine ⟨?_, e⟩
      rw [quoL_ok e, quoL_ok h2, quoL_ok h1, val_limbs, val_limbs, Nat.div_div_eq_div_mul]
    · rw [he] at h2; omega
    · rw [he] at h2; omega
  · rw [he] at h1; omega
  · rw [he] at h1; omega
section
variable (hD : DivIs 32) (hL : DivIs 0) (A A2 A3 : Option Addr) (na ca nb cb nc cc : Nat) (a b c : List Nat) (w : World)
theorem same_l (hra : Rd w A na a) (hrb : Rd w A2 nb b) (hna : na ≤ 100000) (hnb : nb ≤ 100000) (h : a = b) :
    Calls Try.prog 8 #[.slice A na ca, .slice A2 nb cb] w fun e w' => e = .returned (.bool true) ∧ Below w.heap.size w w' := by
  subst h
  have h := same_any A A2 na ca nb cb a a w hra hrb (by omega) (by omega)
  rwa [decide_eq_true rfl] at h
include hD hL

end

end Go.Proofs.Ytoehkaagfokamaa

/- The law DivTells: quotients, however they are made, are the document's. -/
namespace Go.Proofs.Ytoehkaagfokamaa
open Go.RowKit Go.Shelf
set_option linter.unusedVariables false
set_option linter.unusedSimpArgs false

section
variable (hD : DivIs 32) (hL : DivIs 0) (A A2 : Option Addr) (na ca nb cb : Nat) (a b : List Nat) (w : World)
theorem exact_len (hw : Words a) : (exactL a b).length ≤ a.length := by
  unfold exactL
  split
  · exact length_of_le hw (Nat.div_le_self _ _)
  · simp

end

end Go.Proofs.Ytoehkaagfokamaa
