/-
  DERIVED. GIVEN WITH THE SEED: THE CARDS: each row of YtbldimplddiheaaGreatDoorRows.lean that lists a variable, with what it lists TIED to the program's text (the seventh form; the later family's looks); each row that meets fmt, with fmt's text TOLD by the authors' own Lean function (tested against real Go, not proved from fmt's source: count such statements apart). THE CARD IS WHAT COUNTS. Prove the row's statement (the work); the ties are given (YtbldimplddiheaaGreatDoorTie.lean); close each card by the builder's one call (the guide's Derived/Test/ToyasCard.lean, 'card_holds'). Laid BY PROGRAM, IN A SANDBOX (cutbox-door.mjs). By AI agents, Wed Nov 11 2026. No macro, syntax, notation, axiom, sorry.
-/
import Derived.Test.YtbldimplddiheaaGreatDoorRows
import GoSem.ClaimSeven
namespace Go.Proofs.YtbldimplddiheaaGreatDoor
namespace Rows

/-- THE TIED CARD OF 'facetroomlaw06.RatNames'. -/
def ratNamesCard : Claim7 := { stood := { row := ratNamesRow, standIns := [], harness := (true, "e10c9d043638b750dfbf8299a34076704d23f1da9ec3083177643814b73a5325"), looks := false }, kinds := [], alts := [], laidByText := true, laidKinds := [.data, .pinned], laidTests := true, laidLooks := .later }
def RatNamesCardSaid : Prop := Claim7.holds Tryz.pinned (.plain (OpenSpec.ofChange ratNamesSpec)) ratNamesCard

/-- THE TIED CARD OF 'facetroomlaw06.RatTells'. -/
def ratTellsCard : Claim7 := { stood := { row := ratTellsRow, standIns := [], harness := (true, "e10c9d043638b750dfbf8299a34076704d23f1da9ec3083177643814b73a5325"), looks := false }, kinds := [], alts := [], laidByText := true, laidKinds := [.data, .pinned], laidTests := true, laidLooks := .later }
def RatTellsCardSaid : Prop := Claim7.holds Tryz.pinned (.plain (OpenSpec.ofChange ratTellsSpec)) ratTellsCard

/-- THE TIED CARD OF 'facetroomlaw06.RatField'. -/
def ratFieldCard : Claim7 := { stood := { row := ratFieldRow, standIns := [], harness := (true, "e10c9d043638b750dfbf8299a34076704d23f1da9ec3083177643814b73a5325"), looks := false }, kinds := [], alts := [], laidByText := true, laidKinds := [.data, .pinned], laidTests := true, laidLooks := .later }
def RatFieldCardSaid : Prop := Claim7.holds Tryz.pinned (.plain (OpenSpec.ofChange ratFieldSpec)) ratFieldCard

/-- THE TIED CARD OF 'facetroomlaw06.RatTold'. -/
def ratToldCard : Claim7 := { stood := { row := ratToldRow, standIns := [], harness := (true, "e10c9d043638b750dfbf8299a34076704d23f1da9ec3083177643814b73a5325"), looks := false }, kinds := [], alts := [], laidByText := true, laidKinds := [.data, .pinned], laidTests := true, laidLooks := .later }
def RatToldCardSaid : Prop := Claim7.holds Tryz.pinned (.plain (OpenSpec.ofChange ratToldSpec)) ratToldCard

/-- THE TIED CARD OF 'facetroomlaw06.RatOrder'. -/
def ratOrderCard : Claim7 := { stood := { row := ratOrderRow, standIns := [], harness := (true, "e10c9d043638b750dfbf8299a34076704d23f1da9ec3083177643814b73a5325"), looks := false }, kinds := [], alts := [], laidByText := true, laidKinds := [.data, .pinned], laidTests := true, laidLooks := .later }
def RatOrderCardSaid : Prop := Claim7.holds Tryz.pinned (.plain (OpenSpec.ofChange ratOrderSpec)) ratOrderCard

/-- THE SECOND FORM's CARD OF 'facetroomlaw06.RatNames'. -/
def ratNamesUptoCard : Claim7 := { stood := { row := ratNamesUptoRow, standIns := [], harness := (true, "e10c9d043638b750dfbf8299a34076704d23f1da9ec3083177643814b73a5325"), looks := false }, kinds := [], alts := [], laidByText := true, laidKinds := [.data, .pinned], laidTests := true, laidLooks := .later }
def RatNamesUptoCardSaid : Prop := Claim7.holds Tryz.pinned (.plain (OpenSpec.upto ratNamesSpec)) ratNamesUptoCard

/-- THE SECOND FORM's CARD OF 'facetroomlaw06.RatTells'. -/
def ratTellsUptoCard : Claim7 := { stood := { row := ratTellsUptoRow, standIns := [], harness := (true, "e10c9d043638b750dfbf8299a34076704d23f1da9ec3083177643814b73a5325"), looks := false }, kinds := [], alts := [], laidByText := true, laidKinds := [.data, .pinned], laidTests := true, laidLooks := .later }
def RatTellsUptoCardSaid : Prop := Claim7.holds Tryz.pinned (.plain (OpenSpec.upto ratTellsSpec)) ratTellsUptoCard

/-- THE SECOND FORM's CARD OF 'facetroomlaw06.RatField'. -/
def ratFieldUptoCard : Claim7 := { stood := { row := ratFieldUptoRow, standIns := [], harness := (true, "e10c9d043638b750dfbf8299a34076704d23f1da9ec3083177643814b73a5325"), looks := false }, kinds := [], alts := [], laidByText := true, laidKinds := [.data, .pinned], laidTests := true, laidLooks := .later }
def RatFieldUptoCardSaid : Prop := Claim7.holds Tryz.pinned (.plain (OpenSpec.upto ratFieldSpec)) ratFieldUptoCard

/-- THE SECOND FORM's CARD OF 'facetroomlaw06.RatTold'. -/
def ratToldUptoCard : Claim7 := { stood := { row := ratToldUptoRow, standIns := [], harness := (true, "e10c9d043638b750dfbf8299a34076704d23f1da9ec3083177643814b73a5325"), looks := false }, kinds := [], alts := [], laidByText := true, laidKinds := [.data, .pinned], laidTests := true, laidLooks := .later }
def RatToldUptoCardSaid : Prop := Claim7.holds Tryz.pinned (.plain (OpenSpec.upto ratToldSpec)) ratToldUptoCard

/-- THE SECOND FORM's CARD OF 'facetroomlaw06.RatOrder'. -/
def ratOrderUptoCard : Claim7 := { stood := { row := ratOrderUptoRow, standIns := [], harness := (true, "e10c9d043638b750dfbf8299a34076704d23f1da9ec3083177643814b73a5325"), looks := false }, kinds := [], alts := [], laidByText := true, laidKinds := [.data, .pinned], laidTests := true, laidLooks := .later }
def RatOrderUptoCardSaid : Prop := Claim7.holds Tryz.pinned (.plain (OpenSpec.upto ratOrderSpec)) ratOrderUptoCard
end Rows
end Go.Proofs.YtbldimplddiheaaGreatDoor
