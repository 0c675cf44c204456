import Derived.Test.YtjipdfebehcggaaZZTells
import Derived.Test.YtjipdfebehcggaaZZQ
import Derived.Test.YtjipdfebehcggaaZZR
import Derived.Test.YtjipdfebehcggaaZZFr
/- ZTellsL. -/
/- The law WholeTells, for any numbers. -/
namespace Go.Proofs.Ytjipdfebehcggaa
open Go.RowKit Go.Shelf
set_option linter.unusedVariables false
set_option linter.unusedSimpArgs false

theorem addZ_is : Op2Is (fun x y => x + y) 7 := fun _ _ _ _ _ _ _ _ _ _ _ h => addZ h
theorem subZ_is : Op2Is (fun x y => x - y) 9 := fun _ _ _ _ _ _ _ _ _ _ _ h => subZ h
theorem mulZ_is : Op2Is (fun x y => x * y) 11 := fun _ _ _ _ _ _ _ _ _ _ _ h => mulZ h
theorem cmpZ_is : CmpZIs 13 := fun _ _ _ _ _ _ _ _ _ _ _ h => cmpZ_any h
theorem signZ_is : SignIs 15 := fun _ _ _ _ _ _ h => signZ_any h
theorem negZ_is : NegIs 17 := fun _ _ _ _ _ _ h => negZ h
theorem intZ_is : IntIs 19 := fun _ _ _ _ _ _ h => intZ_any h
theorem ofZ_is : OfZIs 22 := fun n w h1 h2 => ofZ_any n h1 h2
theorem checkZ_is : CheckZIs 24 := fun _ _ _ _ _ _ h => checkZ_any h
theorem sameZ_is : SameZIs 26 := fun _ _ _ _ _ _ _ _ _ _ _ h => sameZ_any h
theorem floorZ_is : Quo2Is Int.fdiv 28 := fun _ _ _ _ _ _ _ _ _ _ _ h => floorZ_any h
theorem ceilZ_is : Quo2Is cdiv 29 := fun _ _ _ _ _ _ _ _ _ _ _ h => ceilZ_any h
theorem exactZ_is : ExactZIs 30 := fun _ _ _ _ _ _ _ _ _ _ _ h => exactZ_any h
set_option maxRecDepth 100000 in
set_option maxHeartbeats 2000000 in
theorem tellsZ_long (A A2 : Option Addr) (na ca nb cb : Nat) (p q : Bool) (n : Int) (w : World) (hl : 8 < na ∨ 8 < nb) (m1 : na ≤ 9223372036854775807) (m2 : nb ≤ 9223372036854775807) :
    Calls Try.prog 3 #[zv p A na ca, zv q A2 nb cb, .int .i64 n] w fun e w' => e = .returned (.bool true) ∧ Below w.heap.size w w' := by
  have T0 := two_box w p A na ca q A2 nb cb
  unfold zv at *
  by_cases ha : 8 < na
  · clear hl
    go_enter Try.func3, Try.ntmps3
    go_wp2
    go_ret
    exact ⟨rfl, T0.b⟩
  · have hc : 8 < nb := by omega
    clear hl
    go_enter Try.func3, Try.ntmps3
    go_wp2
    go_ret
    exact ⟨rfl, T0.b⟩
theorem tellsZ_any (A A2 : Option Addr) (na ca nb cb : Nat) (p q : Bool) (a b : List Nat) (n : Int) (w : World) (ra : Rd w A na a) (rb : Rd w A2 nb b) (q1 : na ≤ ca ∧ ca ≤ 9223372036854775807) (q2 : nb ≤ cb ∧ cb ≤ 9223372036854775807) (hn1 : -9223372036854775808 ≤ n) (hn2 : n ≤ 9223372036854775807) :
    Calls Try.prog 3 #[.agg #[.bool p, .slice A na ca], .agg #[.bool q, .slice A2 nb cb], .int .i64 n] w fun e w' => e = .returned (.bool true) ∧ Below w.heap.size w w' := by
  by_cases h8 : na ≤ 8 ∧ nb ≤ 8
  · exact tellsZ_short A A2 na ca nb cb p q a b n w ⟨ra, rb, by omega, by omega, q1.1, q1.2, q2.1, q2.2⟩ h8.1 h8.2 hn1 hn2 addZ_is subZ_is mulZ_is cmpZ_is signZ_is negZ_is intZ_is ofZ_is checkZ_is sameZ_is
  · exact tellsZ_long A A2 na ca nb cb p q n w (by omega) (by omega) (by omega)
end Go.Proofs.Ytjipdfebehcggaa
