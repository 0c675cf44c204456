import Derived.Test.YtgiokmfdafmaoaaGreatJDivSpec
/- DNames. -/
/- Div by numbers; the law DivNames. -/
namespace Go.Proofs.YtgiokmfdafmaoaaGreat
open Go.RowKit Go.Shelf
set_option linter.unusedVariables false
set_option linter.unusedSimpArgs false

section
variable {F : Nat} (A A2 : Option Addr) (na ca nb cb v u : Nat) (w : World)
theorem div_nm (hD : DivIs F) (hva : Nm w A na ca v) (hub : Nm w A2 nb cb u) (hu : u ≠ 0) (hna : na ≤ 1000) (hnb : nb ≤ 1000) :
    Calls Tryz.prog F #[.slice A na ca, .slice A2 nb cb] w fun e w' => ∃ A k c A2 k2 c2, e = .returned (.tuple #[.slice A k c, .slice A2 k2 c2, .int .i64 0]) ∧ Own w' w.heap.size (.slice A k c) (limbs (v / u)) ∧ Own w' w.heap.size (.slice A2 k2 c2) (limbs (v % u)) ∧ Below w.heap.size w w' := by
  have e : divE (limbs v) (limbs u) = 0 := divE_ok (may_limbs v) (may_limbs u) (fun h => hu (limbs_eq_nil.1 h))
  have h := hD A A2 na ca nb cb (limbs v) (limbs u) w hva.rd hub.rd hna hnb ⟨hva.nc, hva.cm⟩ ⟨hub.nc, hub.cm⟩
  rw [quoL_ok e, remL_ok e, e, val_limbs, val_limbs] at h
  exact h
theorem div_none (hD : DivIs F) (hva : Nm w A na ca v) (hna : na ≤ 1000) :
    Calls Tryz.prog F #[.slice A na ca, .slice none 0 0] w fun e w' => ∃ A k c A2 k2 c2, e = .returned (.tuple #[.slice A k c, .slice A2 k2 c2, .int .i64 30]) ∧ Own w' w.heap.size (.slice A k c) [] ∧ Own w' w.heap.size (.slice A2 k2 c2) [] ∧ Below w.heap.size w w' := by
  have e : divE (limbs v) [] = 30 := divE_zero (may_limbs v)
  have h := hD A none na ca 0 0 (limbs v) [] w hva.rd (rd_nil w none) hna (by omega) ⟨hva.nc, hva.cm⟩ ⟨by omega, by omega⟩
  rw [quoL_no (by rw [e]; omega), remL_no (by rw [e]; omega), e] at h
  exact h
theorem exact_nm (hE : ExactIs F) (hva : Nm w A na ca v) (hub : Nm w A2 nb cb u) (hu : u ≠ 0) (hm : v % u = 0) (hna : na ≤ 1000) (hnb : nb ≤ 1000) :
    Calls Tryz.prog F #[.slice A na ca, .slice A2 nb cb] w fun e w' => ∃ A k c, e = .returned (.tuple #[.slice A k c, .int .i64 0]) ∧ Own w' w.heap.size (.slice A k c) (limbs (v / u)) ∧ Below w.heap.size w w' := by
  have e : divE (limbs v) (limbs u) = 0 := divE_ok (may_limbs v) (may_limbs u) (fun h => hu (limbs_eq_nil.1 h))
  have e2 : exactE (limbs v) (limbs u) = 0 := by simp [exactE, e, val_limbs, hm]
  have e3 : exactL (limbs v) (limbs u) = limbs (v / u) := by simp [exactL, e2, val_limbs]
  have h := hE A A2 na ca nb cb (limbs v) (limbs u) w hva.rd hub.rd hna hnb ⟨hva.nc, hva.cm⟩ ⟨hub.nc, hub.cm⟩
  rw [e2, e3] at h
  exact h
theorem exact_none (hE : ExactIs F) (hva : Nm w A na ca v) (hub : Nm w A2 nb cb u) (hu : u ≠ 0) (hm : v % u ≠ 0) (hna : na ≤ 1000) (hnb : nb ≤ 1000) :
    Calls Tryz.prog F #[.slice A na ca, .slice A2 nb cb] w fun e w' => ∃ A k c, e = .returned (.tuple #[.slice A k c, .int .i64 6]) ∧ Own w' w.heap.size (.slice A k c) [] ∧ Below w.heap.size w w' := by
  have e : divE (limbs v) (limbs u) = 0 := divE_ok (may_limbs v) (may_limbs u) (fun h => hu (limbs_eq_nil.1 h))
  have e2 : exactE (limbs v) (limbs u) = 6 := by simp [exactE, e, val_limbs, hm]
  have e3 : exactL (limbs v) (limbs u) = [] := by simp [exactL, e2]
  have h := hE A A2 na ca nb cb (limbs v) (limbs u) w hva.rd hub.rd hna hnb ⟨hva.nc, hva.cm⟩ ⟨hub.nc, hub.cm⟩
  rw [e2, e3] at h
  exact h
theorem cmp_nm (hva : Nm w A na ca v) (hub : Nm w A2 nb cb u) (hna : na ≤ 1000) (hnb : nb ≤ 1000) :
    Calls Tryz.prog 70 #[.slice A na ca, .slice A2 nb cb] w fun e w' => e = .returned (.tuple #[.int .i64 (cmp3 v u), .int .i64 0]) ∧ Below w.heap.size w w' := by
  have h := cmp_ok A A2 na ca nb cb (limbs v) (limbs u) w hva.rd hub.rd (by omega) (by omega) (by simp [may_limbs])
  rwa [val_limbs, val_limbs] at h
theorem check_nm (hva : Nm w A na ca v) (hna : na ≤ 1000) :
    Calls Tryz.prog 83 #[.slice A na ca] w fun e w' => e = .returned (.int .i64 0) ∧ Below w.heap.size w w' := by
  have h := check_any A na ca (limbs v) w hva.rd (by omega)
  rwa [bad_zero (by simp [may_limbs])] at h
theorem times_nm (hva : Nm w A na ca v) (hub : Nm w A2 nb cb u) (hna : na ≤ 1000) (hnb : nb ≤ 1000) :
    Calls Tryz.prog 97 #[.slice A na ca, .slice A2 nb cb] w fun e w' => ∃ A k c, e = .returned (.slice A k c) ∧ Own w' w.heap.size (.slice A k c) (limbs (v * u)) ∧ Below w.heap.size w w' := by
  have h := times_any A A2 na ca nb cb (limbs v) (limbs u) w hva.rd hub.rd (by omega) (by omega)
  rwa [val_limbs, val_limbs] at h
variable {A A2 : Option Addr} {na ca nb cb v u : Nat} {w w2 : World}
theorem div_len (hva : Nm w A na ca v) (u : Nat) : (limbs (v / u)).length ≤ na := by
  have := length_of_le (words_limbs v) (n := v / u) (by rw [val_limbs]; exact Nat.div_le_self _ _)
  rwa [hva.rd.len] at this
theorem mod_len (hva : Nm w A na ca v) (u : Nat) : (limbs (v % u)).length ≤ na := by
  have := length_of_le (words_limbs v) (n := v % u) (by rw [val_limbs]; exact Nat.mod_le _ _)
  rwa [hva.rd.len] at this
end
theorem nm_at1 (w : World) (g : Nat) (hg : w.heap.size = g) (x : Nat) (T : TypeId) (hx : x < B64) (h0 : (x != 0) = true) : Nm (w.alloc (.cells #[u64 x] T)) (some ⟨g, 0, none⟩) 1 1 x := by
  subst hg; exact nm_new1 w x T hx h0
theorem nm_at2 (w : World) (g : Nat) (hg : w.heap.size = g) (x y : Nat) (T : TypeId) (hx : x < B64) (hy : y < B64) (h0 : (y != 0) = true) : Nm (w.alloc (.cells #[u64 x, u64 y] T)) (some ⟨g, 0, none⟩) 2 2 (x + B64 * y) := by
  subst hg; exact nm_new2 w x y T hx hy h0
theorem nm_at3 (w : World) (g : Nat) (hg : w.heap.size = g) (T : TypeId) : Nm (w.alloc (.cells #[u64 0, u64 0, u64 1] T)) (some ⟨g, 0, none⟩) 3 3 (B64 * B64) := by
  subst hg
  have h : Rd (w.alloc (.cells #[u64 0, u64 0, u64 1] T)) (some ⟨w.heap.size, 0, none⟩) 3 [0, 0, 1] :=
    ⟨rfl, words_cons B64_pos (words_cons B64_pos (words_cons B64_gt words_nil)), fun _ => ⟨w.heap.size, 0, rfl, by simp, fun i hi => by
      rcases (by omega : i = 0 ∨ i = 1 ∨ i = 2) with rfl | rfl | rfl <;> simp [lim]⟩⟩
  have h2 := nm_of (c := 3) h rfl (by omega) (by omega)
  simpa [val] using h2
theorem Nm.al {w : World} {A : Option Addr} {n c v : Nat} (h : Nm w A n c v) (o : Obj) : Nm (w.alloc o) A n c v := h.below ((Below.refl _ w).alloc (Nat.le_refl _) o)

section
variable {F : Nat} (A : Option Addr) (na ca v x : Nat) (w : World)
theorem wordD_nm (hW : WordIs F) (hva : Nm w A na ca v) (hx : x < B64) (h0 : x ≠ 0) (hna : na ≤ 1000) :
    Calls Tryz.prog F #[.slice A na ca, .int .u64 (x : Int)] w fun e w' => ∃ A k c, e = .returned (.tuple #[.slice A k c, .int .u64 ((v % x : Nat) : Int), .int .i64 0]) ∧ Own w' w.heap.size (.slice A k c) (limbs (v / x)) ∧ Below w.heap.size w w' := by
  have e : divE (limbs v) (limbs x) = 0 := divE_ok (may_limbs v) (may_limbs x) (fun h => h0 (limbs_eq_nil.1 h))
  have h := hW A na ca (limbs v) x w hva.rd hx hna ⟨hva.nc, hva.cm⟩
  rw [quoL_ok e, remL_ok e, e, val_limbs, val_limbs, val_limbs] at h
  exact h
theorem wordD_none (hW : WordIs F) (hva : Nm w A na ca v) (hna : na ≤ 1000) :
    Calls Tryz.prog F #[.slice A na ca, .int .u64 0] w fun e w' => ∃ A k c, e = .returned (.tuple #[.slice A k c, .int .u64 0, .int .i64 30]) ∧ Below w.heap.size w w' := by
  have e : divE (limbs v) [] = 30 := divE_zero (may_limbs v)
  have h := hW A na ca (limbs v) 0 w hva.rd B64_pos hna ⟨hva.nc, hva.cm⟩
  rw [limbs_zero, quoL_no (by rw [e]; omega), remL_no (by rw [e]; omega), e, val_nil] at h
  exact h.mono fun e w' ⟨A, k, c, he, ho, hb⟩ => ⟨A, k, c, he, hb⟩
theorem wordD_bad (a : List Nat) (hW : WordIs F) (hra : Rd w A na a) (hm : may a = false) (hx : x < B64) (hna : na ≤ 1000) (q : na ≤ ca ∧ ca ≤ 9223372036854775807) :
    Calls Tryz.prog F #[.slice A na ca, .int .u64 (x : Int)] w fun e w' => ∃ A k c, e = .returned (.tuple #[.slice A k c, .int .u64 0, .int .i64 8]) ∧ Below w.heap.size w w' := by
  have e : divE a (limbs x) = 8 := divE_bad (by simp [both, hm])
  have h := hW A na ca a x w hra hx hna q
  rw [quoL_no (by rw [e]; omega), remL_no (by rw [e]; omega), e, val_nil] at h
  exact h.mono fun e w' ⟨A, k, c, he, ho, hb⟩ => ⟨A, k, c, he, hb⟩
end

theorem five_by : 5 / (0 + B64 * 1) = 0 ∧ 5 % (0 + B64 * 1) = 5 := by
  have h : 5 < 0 + B64 * 1 := by rw [B64_eq]; omega
  exact ⟨Nat.div_eq_of_lt h, Nat.mod_eq_of_lt h⟩
theorem big_by : B64 * B64 / (1 + B64 * 1) = top ∧ B64 * B64 % (1 + B64 * 1) = 1 := div_of (by rw [B64_eq]; omega) (by rw [B64_eq]; rfl)
theorem b64_ne (x : Nat) : x + B64 * 1 ≠ 0 := by rw [B64_eq]; omega

end Go.Proofs.YtgiokmfdafmaoaaGreat
