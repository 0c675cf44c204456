import Derived.Test.YtgiokmfdafmaoaaGreatKAdd
import Derived.Test.YtgiokmfdafmaoaaGreatKSame
import Derived.Test.YtgiokmfdafmaoaaGreatKRowL
/- Alive Sums. -/
namespace Go.Proofs.YtgiokmfdafmaoaaGreat
open Go.RowKit Go.Shelf


theorem sum_top : limbs (val [top] + val [1]) = [0, 1] := by
  have e : val [top] + val [1] = val [0, 1] := by simp [val, B64_eq, top]
  rw [e]
  exact limbs_val (words_cons B64_pos (words_cons B64_gt words_nil)) rfl
theorem rest_top : limbs (val [0, 1] - val [1]) = [top] := by
  have e : val [0, 1] - val [1] = val [top] := by simp [val, B64_eq, top]
  rw [e]
  exact limbs_val (words_cons top_lt words_nil) rfl
theorem may_top : [[top], [1]].all may = true := rfl
theorem val_01 : val [1] ≤ val [0, 1] := by simp [val, B64_eq]

end Go.Proofs.YtgiokmfdafmaoaaGreat

namespace Go.Proofs.YtgiokmfdafmaoaaGreat
open Go.RowKit Go.Shelf



section
variable (A A2 A3 : Option Addr) (na ca nb cb nc cc : Nat) (a b c : List Nat) (w : World)

end
end Go.Proofs.YtgiokmfdafmaoaaGreat
