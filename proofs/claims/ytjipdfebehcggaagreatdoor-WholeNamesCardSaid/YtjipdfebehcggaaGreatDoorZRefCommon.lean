import Derived.Test.YtjipdfebehcggaaGreatDoorZRefGcd
/- RefCommon. -/
/- The document's Common: walks. -/
namespace Go.Proofs.YtjipdfebehcggaaGreatDoor
open Go.RowKit Go.Shelf
set_option linter.unusedVariables false
set_option linter.unusedSimpArgs false

/-- A word as a value. (Another name: the walk calls slot 64 'u64'.) -/
abbrev wv (x : Nat) : Value := .int .u64 (x : Int)

section
variable (A A2 : Option Addr) (na ca nb cb v u : Nat) (w : World)

theorem rAt_nm (j : Nat) (hva : Nm w A na ca v) (hna : na ≤ 1000) (hj : j ≤ 100000) :
    Calls Tryz.prog 83 #[.slice A na ca, .int .i64 (j : Int)] w fun e w' => e = .returned (.int .i64 (nbit v j : Nat)) ∧ w = w' := by
  have h := rAt_any A na ca (limbs v) w j hva.rd (by omega) (by omega)
  rwa [val_limbs] at h
theorem rCmp_nm (hva : Nm w A na ca v) (hub : Nm w A2 nb cb u) (hna : na ≤ 1000) (hnb : nb ≤ 1000) :
    Calls Tryz.prog 84 #[.slice A na ca, .slice A2 nb cb] w fun e w' => e = .returned (.int .i64 (cmp3 v u)) ∧ w = w' := by
  have h := rCompared_any A A2 na ca nb cb (limbs v) (limbs u) w hva.rd hub.rd hna hnb
  rwa [val_limbs, val_limbs] at h
theorem rRest_nm (hva : Nm w A na ca v) (hub : Nm w A2 nb cb u) (hna : na ≤ 1000) (hnb : nb ≤ 1000) (hle : u ≤ v) :
    Calls Tryz.prog 85 #[.slice A na ca, .slice A2 nb cb] w fun e w' => ∃ A' k c, e = .returned (.slice A' k c) ∧ Own w' w.heap.size (.slice A' k c) (limbs (v - u)) ∧ Below w.heap.size w w' := by
  have h := rRest_any A A2 na ca nb cb (limbs v) (limbs u) w hva.rd hub.rd hna hnb (by rw [val_limbs, val_limbs]; exact hle)
  rwa [val_limbs, val_limbs] at h
theorem rSum_nm (hva : Nm w A na ca v) (hub : Nm w A2 nb cb u) (hna : na ≤ 1000) (hnb : nb ≤ 1000) :
    Calls Tryz.prog 63 #[.slice A na ca, .slice A2 nb cb] w fun e w' => ∃ A' k c, e = .returned (.slice A' k c) ∧ Own w' w.heap.size (.slice A' k c) (limbs (v + u)) ∧ Below w.heap.size w w' := by
  have h := rSum_any A A2 na ca nb cb (limbs v) (limbs u) w hva.rd hub.rd hna hnb
  rwa [val_limbs, val_limbs] at h
theorem rTimes_nm (b : Nat) (hva : Nm w A na ca v) (hna : na ≤ 1000) (hb : b ≤ 65536) :
    Calls Tryz.prog 82 #[.slice A na ca, .int .i64 (b : Int)] w fun e w' => ∃ A' k c, e = .returned (.slice A' k c) ∧ Own w' w.heap.size (.slice A' k c) (limbs (v * 2 ^ b)) ∧ Below w.heap.size w w' := by
  have h := rTimes_any A na ca (limbs v) w b hva.rd hna hb
  rwa [val_limbs] at h
end
end Go.Proofs.YtjipdfebehcggaaGreatDoor
