import Derived.Test.YtgiokmfdafmaoaaGreatJAdd
import Derived.Test.YtgiokmfdafmaoaaGreatJSame
import Derived.Test.YtgiokmfdafmaoaaGreatJRowL
import Derived.Test.YtgiokmfdafmaoaaGreatJCmp
import Derived.Test.YtgiokmfdafmaoaaGreatJBit
/- Alive Sums Order Bits. -/
namespace Go.Proofs.YtgiokmfdafmaoaaGreat
open Go.RowKit Go.Shelf


theorem sum_top : limbs (val [top] + val [1]) = [0, 1] := by
  have e : val [top] + val [1] = val [0, 1] := by simp [val, B64_eq, top]
  rw [e]
  exact limbs_val (words_cons B64_pos (words_cons B64_gt words_nil)) rfl
theorem rest_top : limbs (val [0, 1] - val [1]) = [top] := by
  have e : val [0, 1] - val [1] = val [top] := by simp [val, B64_eq, top]
  rw [e]
  exact limbs_val (words_cons top_lt words_nil) rfl
theorem may_top : [[top], [1]].all may = true := rfl
theorem val_01 : val [1] ≤ val [0, 1] := by simp [val, B64_eq]

end Go.Proofs.YtgiokmfdafmaoaaGreat

namespace Go.Proofs.YtgiokmfdafmaoaaGreat
open Go.RowKit Go.Shelf



section
variable (A A2 A3 : Option Addr) (na ca nb cb nc cc : Nat) (a b c : List Nat) (w : World)

end
end Go.Proofs.YtgiokmfdafmaoaaGreat

namespace Go.Proofs.YtgiokmfdafmaoaaGreat
open Go.RowKit Go.Shelf
set_option linter.unusedVariables false
set_option linter.unusedSimpArgs false
section
variable (A A2 A3 : Option Addr) (na ca nb cb nc cc : Nat) (a b c : List Nat) (w : World)

theorem length_sub_le {l : List Nat} (hl : Words l) (m : Nat) {n : Nat} (h : l.length ≤ n) : (limbs (val l - m)).length ≤ n :=
  limbs_length_le (Nat.lt_of_le_of_lt (Nat.sub_le _ _) (Nat.lt_of_lt_of_le (val_lt hl) (Nat.pow_le_pow_right B64_pos h)))

theorem cmp3_add (x y z : Nat) : cmp3 (x + z) (y + z) = cmp3 x y := by
  have := @cmp3_low 1 x y z
  simpa using this

end
end Go.Proofs.YtgiokmfdafmaoaaGreat

namespace Go.Proofs.YtgiokmfdafmaoaaGreat
open Go.RowKit Go.Shelf
set_option linter.unusedVariables false
set_option linter.unusedSimpArgs false
section
variable (A : Option Addr) (na ca : Nat) (a : List Nat) (w : World)


end
end Go.Proofs.YtgiokmfdafmaoaaGreat
