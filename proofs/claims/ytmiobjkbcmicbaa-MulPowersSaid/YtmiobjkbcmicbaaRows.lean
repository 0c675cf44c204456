/-
  No cell of these rows narrows 'for every input' (looked for: loops, veiled, ifaces, maps, wideKeys, modest, calm, conditions, laid).
  DERIVED. THE GIVEN ROWS OF THIS SEAT. 6 by the template 'for every input the law returns true; each argument reads behind the call as it read before'; 0 by the template 'total and deterministic' (their statements: YtmiobjkbcmicbaaTotals.lean).
  GIVEN WITH THE SEED: the statements are not yours to turn. If you find one false, say at which input.
  Laid BY PROGRAM, IN A SANDBOX (cutbox-rows.mjs): the forced cells as the released guide's own fill.sh prints them over the translation 6207e651ae648421… (all of the seat's roots in one cut). By AI agents, Wed Nov 11 2026. No macro, syntax, notation, axiom, sorry.
-/
import Derived.Test.YtmiobjkbcmicbaaChecked
import GoSem.Claim
import GoSem.ClaimJoined
import GoSem.ClaimMapViews
import Derived.JoinedTies
import Derived.KernelRfl
namespace Go.Proofs.Ytmiobjkbcmicbaa
/- THE CELL 'sum', in the pinned program and in every row, IS THE sha256 OF THE DUMP (.gsa) THAT YtmiobjkbcmicbaaProg.lean LOADS. Nothing in Lean hashes anything: it is a label: what it is worth is what the hold of that sum in a sandbox is worth. -/
noncomputable def Try.pinned : Pinned := { name := "ytmiobjkbcmicbaa", sum := "6207e651ae648421a3b90b2a97eb31a413ea630857f31fb84f115ccc11ef45ab", checked := Try.checked }
namespace Rows
def none {H : Type} : Left H := { results := [], args := [] }

/-- 'facetroomlaw02.MulNames': WHATEVER THE INPUT: true; the input reads as it did. -/
def mulNamesSpec : ChangeSpec := { name := "mulNames", fn := fun _ => fun
  | [] => { results := [.lit (.bool true)], args := [] }
  | _ => none }
def mulNamesRow : OpenClaim := { program := "ytmiobjkbcmicbaa", sum := "6207e651ae648421a3b90b2a97eb31a413ea630857f31fb84f115ccc11ef45ab", func := "facetroom/facetroomlaw02.MulNames", spec := "mulNames", inPlace := ["math/bits.Add64", "math/bits.Sub64"], unfollowed := true, recurses := true, apart := false }
def MulNamesSaid : Prop := mulNamesRow.holds Try.pinned (OpenSpec.ofChange mulNamesSpec)

/-- ITS FALSE NEIGHBOUR: 'it returns false'. Refute it at one input. -/
def mulNamesWrong : ChangeSpec := { name := "mulNames", fn := fun _ => fun
  | [] => { results := [.lit (.bool false)], args := [] }
  | _ => none }
def MulNamesWrongFalsely : Prop := mulNamesRow.holds Try.pinned (OpenSpec.ofChange mulNamesWrong)

/-- 'facetroomlaw02.MulTells': WHATEVER THE INPUT: true; the input reads as it did. -/
def mulTellsSpec : ChangeSpec := { name := "mulTells", fn := fun _ => fun
  | [d1, d2] => { results := [.lit (.bool true)], args := [d1, d2] }
  | _ => none }
def mulTellsRow : OpenClaim := { program := "ytmiobjkbcmicbaa", sum := "6207e651ae648421a3b90b2a97eb31a413ea630857f31fb84f115ccc11ef45ab", func := "facetroom/facetroomlaw02.MulTells", spec := "mulTells", inPlace := ["math/bits.Add64", "math/bits.Sub64"], unfollowed := true, recurses := true, apart := false }
def MulTellsSaid : Prop := mulTellsRow.holds Try.pinned (OpenSpec.ofChange mulTellsSpec)

/-- ITS FALSE NEIGHBOUR: 'it returns false'. Refute it at one input. -/
def mulTellsWrong : ChangeSpec := { name := "mulTells", fn := fun _ => fun
  | [d1, d2] => { results := [.lit (.bool false)], args := [d1, d2] }
  | _ => none }
def MulTellsWrongFalsely : Prop := mulTellsRow.holds Try.pinned (OpenSpec.ofChange mulTellsWrong)

/-- 'facetroomlaw02.MulPowers': WHATEVER THE INPUT: true; the input reads as it did. -/
def mulPowersSpec : ChangeSpec := { name := "mulPowers", fn := fun _ => fun
  | [d1, d2] => { results := [.lit (.bool true)], args := [d1, d2] }
  | _ => none }
def mulPowersRow : OpenClaim := { program := "ytmiobjkbcmicbaa", sum := "6207e651ae648421a3b90b2a97eb31a413ea630857f31fb84f115ccc11ef45ab", func := "facetroom/facetroomlaw02.MulPowers", spec := "mulPowers", inPlace := ["math/bits.Add64", "math/bits.Sub64"], unfollowed := true, recurses := true, apart := false }
def MulPowersSaid : Prop := mulPowersRow.holds Try.pinned (OpenSpec.ofChange mulPowersSpec)

/-- ITS FALSE NEIGHBOUR: 'it returns false'. Refute it at one input. -/
def mulPowersWrong : ChangeSpec := { name := "mulPowers", fn := fun _ => fun
  | [d1, d2] => { results := [.lit (.bool false)], args := [d1, d2] }
  | _ => none }
def MulPowersWrongFalsely : Prop := mulPowersRow.holds Try.pinned (OpenSpec.ofChange mulPowersWrong)

/-- 'facetroomlaw02.MulSums': WHATEVER THE INPUT: true; the input reads as it did. -/
def mulSumsSpec : ChangeSpec := { name := "mulSums", fn := fun _ => fun
  | [d1, d2, d3] => { results := [.lit (.bool true)], args := [d1, d2, d3] }
  | _ => none }
def mulSumsRow : OpenClaim := { program := "ytmiobjkbcmicbaa", sum := "6207e651ae648421a3b90b2a97eb31a413ea630857f31fb84f115ccc11ef45ab", func := "facetroom/facetroomlaw02.MulSums", spec := "mulSums", inPlace := ["math/bits.Add64", "math/bits.Sub64"], unfollowed := true, recurses := true, apart := false }
def MulSumsSaid : Prop := mulSumsRow.holds Try.pinned (OpenSpec.ofChange mulSumsSpec)

/-- ITS FALSE NEIGHBOUR: 'it returns false'. Refute it at one input. -/
def mulSumsWrong : ChangeSpec := { name := "mulSums", fn := fun _ => fun
  | [d1, d2, d3] => { results := [.lit (.bool false)], args := [d1, d2, d3] }
  | _ => none }
def MulSumsWrongFalsely : Prop := mulSumsRow.holds Try.pinned (OpenSpec.ofChange mulSumsWrong)

/-- 'facetroomlaw02.MulLong': WHATEVER THE INPUT: true; the input reads as it did. -/
def mulLongSpec : ChangeSpec := { name := "mulLong", fn := fun _ => fun
  | [d1, d2, d3] => { results := [.lit (.bool true)], args := [d1, d2, d3] }
  | _ => none }
def mulLongRow : OpenClaim := { program := "ytmiobjkbcmicbaa", sum := "6207e651ae648421a3b90b2a97eb31a413ea630857f31fb84f115ccc11ef45ab", func := "facetroom/facetroomlaw02.MulLong", spec := "mulLong", inPlace := ["math/bits.Add64", "math/bits.Sub64"], unfollowed := true, recurses := true, apart := false }
def MulLongSaid : Prop := mulLongRow.holds Try.pinned (OpenSpec.ofChange mulLongSpec)

/-- ITS FALSE NEIGHBOUR: 'it returns false'. Refute it at one input. -/
def mulLongWrong : ChangeSpec := { name := "mulLong", fn := fun _ => fun
  | [d1, d2, d3] => { results := [.lit (.bool false)], args := [d1, d2, d3] }
  | _ => none }
def MulLongWrongFalsely : Prop := mulLongRow.holds Try.pinned (OpenSpec.ofChange mulLongWrong)

/-- 'facetroomlaw02.MulPow': WHATEVER THE INPUT: true; the input reads as it did. -/
def mulPowSpec : ChangeSpec := { name := "mulPow", fn := fun _ => fun
  | [d1, d2, d3, d4] => { results := [.lit (.bool true)], args := [d1, d2, d3, d4] }
  | _ => none }
def mulPowRow : OpenClaim := { program := "ytmiobjkbcmicbaa", sum := "6207e651ae648421a3b90b2a97eb31a413ea630857f31fb84f115ccc11ef45ab", func := "facetroom/facetroomlaw02.MulPow", spec := "mulPow", inPlace := ["math/bits.Add64", "math/bits.Sub64"], unfollowed := true, recurses := true, apart := false }
def MulPowSaid : Prop := mulPowRow.holds Try.pinned (OpenSpec.ofChange mulPowSpec)

/-- ITS FALSE NEIGHBOUR: 'it returns false'. Refute it at one input. -/
def mulPowWrong : ChangeSpec := { name := "mulPow", fn := fun _ => fun
  | [d1, d2, d3, d4] => { results := [.lit (.bool false)], args := [d1, d2, d3, d4] }
  | _ => none }
def MulPowWrongFalsely : Prop := mulPowRow.holds Try.pinned (OpenSpec.ofChange mulPowWrong)

/- THE SECOND FORM. 'bulk': how many values and letters a reading holds, each counted each time it is reached (what is shared counts as often as it is met; a slice's spare places count too). A statement '..UptoSaid' is the law's where the arguments, and the package variables that the reading takes, are together of bulk at most 1048576: NARROWER than '..Said'. Prove '..Said' where nothing that the law and all that it calls make is longer than what came in: it says more and counts as full. Else prove '..UptoSaid'. A law counts once. -/
mutual
def uptoBulk {H : Type} : DataW H → Nat
  | .lit (.string bytes) => bytes.length + 1
  | .lit _ => 1
  | .nil => 1
  | .ptr d => uptoBulk d + 1
  | .slice elems spare => uptoBulkAll elems + uptoBulkAll spare + 1
  | .agg parts => uptoBulkAll parts + 1
  | .iface _ d => uptoBulk d + 1
  | .map entries => uptoBulkEntries entries + 1
  | .held _ => 1
def uptoBulkAll {H : Type} : List (DataW H) → Nat
  | [] => 0
  | d :: r => uptoBulk d + uptoBulkAll r
def uptoBulkEntries {H : Type} : List (Lit × DataW H) → Nat
  | [] => 0
  | x :: r => uptoBulkEntry x + uptoBulkEntries r
def uptoBulkEntry {H : Type} : Lit × DataW H → Nat
  | (.string bytes, d) => bytes.length + uptoBulk d + 1
  | (_, d) => uptoBulk d + 1
 end
def uptoSmall : (H : Type) → List (DataW H) → Bool := fun _ ds => decide (uptoBulkAll ds ≤ 1048576)
def OpenSpec.upto (s : _root_.Go.ChangeSpec) : _root_.Go.OpenSpec := { _root_.Go.OpenSpec.ofChange s with cond := some uptoSmall }

/-- 'facetroomlaw02.MulNames', WHERE WHAT IT READS IS OF BULK AT MOST 1048576: true; the input reads as it did. -/
def mulNamesUptoRow : OpenClaim := { program := "ytmiobjkbcmicbaa", sum := "6207e651ae648421a3b90b2a97eb31a413ea630857f31fb84f115ccc11ef45ab", func := "facetroom/facetroomlaw02.MulNames", spec := "mulNames", inPlace := ["math/bits.Add64", "math/bits.Sub64"], unfollowed := true, recurses := true, apart := false, narrowed := true }
def MulNamesUptoSaid : Prop := mulNamesUptoRow.holds Try.pinned (OpenSpec.upto mulNamesSpec)

/-- 'facetroomlaw02.MulTells', WHERE WHAT IT READS IS OF BULK AT MOST 1048576: true; the input reads as it did. -/
def mulTellsUptoRow : OpenClaim := { program := "ytmiobjkbcmicbaa", sum := "6207e651ae648421a3b90b2a97eb31a413ea630857f31fb84f115ccc11ef45ab", func := "facetroom/facetroomlaw02.MulTells", spec := "mulTells", inPlace := ["math/bits.Add64", "math/bits.Sub64"], unfollowed := true, recurses := true, apart := false, narrowed := true }
def MulTellsUptoSaid : Prop := mulTellsUptoRow.holds Try.pinned (OpenSpec.upto mulTellsSpec)

/-- 'facetroomlaw02.MulPowers', WHERE WHAT IT READS IS OF BULK AT MOST 1048576: true; the input reads as it did. -/
def mulPowersUptoRow : OpenClaim := { program := "ytmiobjkbcmicbaa", sum := "6207e651ae648421a3b90b2a97eb31a413ea630857f31fb84f115ccc11ef45ab", func := "facetroom/facetroomlaw02.MulPowers", spec := "mulPowers", inPlace := ["math/bits.Add64", "math/bits.Sub64"], unfollowed := true, recurses := true, apart := false, narrowed := true }
def MulPowersUptoSaid : Prop := mulPowersUptoRow.holds Try.pinned (OpenSpec.upto mulPowersSpec)

/-- 'facetroomlaw02.MulSums', WHERE WHAT IT READS IS OF BULK AT MOST 1048576: true; the input reads as it did. -/
def mulSumsUptoRow : OpenClaim := { program := "ytmiobjkbcmicbaa", sum := "6207e651ae648421a3b90b2a97eb31a413ea630857f31fb84f115ccc11ef45ab", func := "facetroom/facetroomlaw02.MulSums", spec := "mulSums", inPlace := ["math/bits.Add64", "math/bits.Sub64"], unfollowed := true, recurses := true, apart := false, narrowed := true }
def MulSumsUptoSaid : Prop := mulSumsUptoRow.holds Try.pinned (OpenSpec.upto mulSumsSpec)

/-- 'facetroomlaw02.MulLong', WHERE WHAT IT READS IS OF BULK AT MOST 1048576: true; the input reads as it did. -/
def mulLongUptoRow : OpenClaim := { program := "ytmiobjkbcmicbaa", sum := "6207e651ae648421a3b90b2a97eb31a413ea630857f31fb84f115ccc11ef45ab", func := "facetroom/facetroomlaw02.MulLong", spec := "mulLong", inPlace := ["math/bits.Add64", "math/bits.Sub64"], unfollowed := true, recurses := true, apart := false, narrowed := true }
def MulLongUptoSaid : Prop := mulLongUptoRow.holds Try.pinned (OpenSpec.upto mulLongSpec)

/-- 'facetroomlaw02.MulPow', WHERE WHAT IT READS IS OF BULK AT MOST 1048576: true; the input reads as it did. -/
def mulPowUptoRow : OpenClaim := { program := "ytmiobjkbcmicbaa", sum := "6207e651ae648421a3b90b2a97eb31a413ea630857f31fb84f115ccc11ef45ab", func := "facetroom/facetroomlaw02.MulPow", spec := "mulPow", inPlace := ["math/bits.Add64", "math/bits.Sub64"], unfollowed := true, recurses := true, apart := false, narrowed := true }
def MulPowUptoSaid : Prop := mulPowUptoRow.holds Try.pinned (OpenSpec.upto mulPowSpec)

end Rows
end Go.Proofs.Ytmiobjkbcmicbaa
