import Derived.Test.YtgiokmfdafmaoaaGreatJLimb
import Derived.Below
/- Same. -/
namespace Go.Proofs.YtgiokmfdafmaoaaGreat
open Go.RowKit

theorem below_then {w w1 w2 : World} (h : Below w.heap.size w w1) (k : Below w1.heap.size w1 w2) : Below w.heap.size w w2 := h.trans (k.mono h.size)

/-- Lists that part at a place are not the same. -/
theorem lim_ne {l m : List Nat} {i : Nat} (h : lim l i ≠ lim m i) : l ≠ m := fun e => h (by rw [e])
theorem eq_of_lim {l m : List Nat} (hl : l.length = m.length) (h : ∀ i, i < l.length → lim l i = lim m i) : l = m := by
  apply List.ext_getElem hl
  intro i h1 h2
  have := h i h1
  rwa [lim_get h1, lim_get h2] at this

set_option maxHeartbeats 1000000 in
/-- The document's Same. -/
theorem same_any (A A2 : Option Addr) (na ca nb cb : Nat) (a b : List Nat) (w : World) (hra : Rd w A na a) (hrb : Rd w A2 nb b) (hna : na ≤ 4294967296) (hnb : nb ≤ 4294967296) :
    Calls Tryz.prog 11 #[.slice A na ca, .slice A2 nb cb] w fun e w' => e = .returned (.bool (decide (a = b))) ∧ Below w.heap.size w w' := by
  by_cases hl : na = nb
  · subst hl
    go_enter Tryz.func11, Tryz.ntmps11
    go_wp2
    go_loopw [5] (fun i wr => ∃ k : Nat, k ≤ na ∧ i = .int .i64 (k : Int) ∧ (∀ j, j < k → lim a j = lim b j) ∧ Below w.heap.size w wr) (fun i _ => na - (intOf i).toNat)
    case atStart => exact ⟨0, by omega, rfl, fun j hj => by omega, Below.refl _ _⟩
    case round =>
      obtain ⟨k, hk, rfl, hs, hb⟩ := hrel
      by_cases hlt : k < na
      · obtain ⟨b1, o1, rfl, _, hc1⟩ := (hra.below hb).cells (by omega)
        obtain ⟨b2, o2, rfl, _, hc2⟩ := (hrb.below hb).cells (by omega)
        have hca := hc1 k hlt
        have hcb := hc2 k hlt
        have HS := Lib.hid hs
        clear hc1 hc2 hs
        by_cases he : lim a k = lim b k
        · have HE := Lib.hid he
          have hne : (((lim a k : Nat) : Int) != ((lim b k : Nat) : Int)) = false := by simp [he]
          clear he
          go_wp2
          go_quiet (fail)
          go_wp2
          go_roundw
          case rel => exact ⟨k + 1, by omega, by go_num, fun j hj => (by
            rcases Nat.lt_or_ge j k with h | h
            · exact HS.out j h
            · obtain rfl : j = k := by omega
              exact HE.out), below_drewN hb _⟩
          case measure => simp [intOf]; omega
        · have hne : (((lim a k : Nat) : Int) != ((lim b k : Nat) : Int)) = true := by simp; omega
          have hab : decide (a = b) = false := by simp; exact lim_ne he
          have HB := Lib.hid hab
          clear hab he
          go_wp2
          go_quiet (fail)
          go_wp2
          go_ret
          exact ⟨by rw [HB.out]; rfl, below_drewN hb _⟩
      · have hab : decide (a = b) = true := by
          have e := hra.len
          have e2 := hrb.len
          simp
          exact eq_of_lim (by omega) fun i hi => hs i (by omega)
        have HB := Lib.hid hab
        clear hab hs hra hrb
        go_wp2
        go_ret
        exact ⟨by rw [HB.out]; rfl, hb⟩
  · have hab : decide (a = b) = false := by
      have e := hra.len
      have e2 := hrb.len
      simp
      rintro rfl
      omega
    have HB := Lib.hid hab
    have hne : (((na : Nat) : Int) != ((nb : Nat) : Int)) = true := by simp; omega
    clear hab hra hrb
    go_enter Tryz.func11, Tryz.ntmps11
    go_wp2
    go_ret
    exact ⟨by rw [HB.out]; rfl, Below.refl _ _⟩
end Go.Proofs.YtgiokmfdafmaoaaGreat
