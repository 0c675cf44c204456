import Derived.Test.YtgiokmfdafmaoaaKRefGcd
/- RefCommon. -/
/- The document's Common: walks. -/
namespace Go.Proofs.Ytgiokmfdafmaoaa
open Go.RowKit Go.Shelf
set_option linter.unusedVariables false
set_option linter.unusedSimpArgs false

/-- A word as a value. (Another name: the walk calls slot 64 'u64'.) -/
abbrev wv (x : Nat) : Value := .int .u64 (x : Int)

section
variable (A A2 : Option Addr) (na ca nb cb v u : Nat) (w : World)

end
end Go.Proofs.Ytgiokmfdafmaoaa
