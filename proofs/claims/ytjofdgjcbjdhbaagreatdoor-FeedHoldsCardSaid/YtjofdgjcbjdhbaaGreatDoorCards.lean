/-
  DERIVED. GIVEN WITH THE SEED: THE CARDS: each row of YtjofdgjcbjdhbaaGreatDoorRows.lean that lists a variable, with what it lists TIED to the program's text (the seventh form; the later family's looks); each row that meets fmt, with fmt's text TOLD by the authors' own Lean function (tested against real Go, not proved from fmt's source: count such statements apart). THE CARD IS WHAT COUNTS. Prove the row's statement (the work); the ties are given (YtjofdgjcbjdhbaaGreatDoorTie.lean); close each card by the builder's one call (the guide's Derived/Test/ToyasCard.lean, 'card_holds'). Laid BY PROGRAM, IN A SANDBOX (cutbox-door.mjs). By AI agents, Wed Nov 11 2026. No macro, syntax, notation, axiom, sorry.
-/
import Derived.Test.YtjofdgjcbjdhbaaGreatDoorRows
import GoSem.ClaimSeven
namespace Go.Proofs.YtjofdgjcbjdhbaaGreatDoor
namespace Rows

/-- THE TIED CARD OF 'thwartlaw09.ArchLays'. -/
def archLaysCard : Claim7 := { stood := { row := archLaysRow, standIns := [], harness := (true, "dc9fdd90114fb9f85ce3d025c3b5f71a8b8eb9bf36b549bbea1b89f36fe653cb"), looks := false }, kinds := [], alts := [], laidByText := true, laidKinds := [.data, .data, .data, .data, .pinned], laidTests := true, laidLooks := .later }
def ArchLaysCardSaid : Prop := Claim7.holds Tryz.pinned (.plain (OpenSpec.ofChange archLaysSpec)) archLaysCard

/-- THE TIED CARD OF 'thwartlaw09.ArchBack'. -/
def archBackCard : Claim7 := { stood := { row := archBackRow, standIns := [], harness := (true, "dc9fdd90114fb9f85ce3d025c3b5f71a8b8eb9bf36b549bbea1b89f36fe653cb"), looks := false }, kinds := [], alts := [], laidByText := true, laidKinds := [.data, .data, .data, .data, .pinned], laidTests := true, laidLooks := .later }
def ArchBackCardSaid : Prop := Claim7.holds Tryz.pinned (.plain (OpenSpec.ofChange archBackSpec)) archBackCard

/-- THE TIED CARD OF 'thwartlaw09.ArchAnew'. -/
def archAnewCard : Claim7 := { stood := { row := archAnewRow, standIns := [], harness := (true, "dc9fdd90114fb9f85ce3d025c3b5f71a8b8eb9bf36b549bbea1b89f36fe653cb"), looks := false }, kinds := [], alts := [], laidByText := true, laidKinds := [.data, .data, .data, .data, .pinned], laidTests := true, laidLooks := .later }
def ArchAnewCardSaid : Prop := Claim7.holds Tryz.pinned (.plain (OpenSpec.ofChange archAnewSpec)) archAnewCard

/-- THE TIED CARD OF 'thwartlaw10.FeedHolds'. -/
def feedHoldsCard : Claim7 := { stood := { row := feedHoldsRow, standIns := [], harness := (true, "dc9fdd90114fb9f85ce3d025c3b5f71a8b8eb9bf36b549bbea1b89f36fe653cb"), looks := false }, kinds := [], alts := [], laidByText := true, laidKinds := [.data, .data, .data, .data, .pinned], laidTests := true, laidLooks := .later }
def FeedHoldsCardSaid : Prop := Claim7.holds Tryz.pinned (.plain (OpenSpec.ofChange feedHoldsSpec)) feedHoldsCard

/-- THE SECOND FORM's CARD OF 'thwartlaw09.ArchLays'. -/
def archLaysUptoCard : Claim7 := { stood := { row := archLaysUptoRow, standIns := [], harness := (true, "dc9fdd90114fb9f85ce3d025c3b5f71a8b8eb9bf36b549bbea1b89f36fe653cb"), looks := false }, kinds := [], alts := [], laidByText := true, laidKinds := [.data, .data, .data, .data, .pinned], laidTests := true, laidLooks := .later }
def ArchLaysUptoCardSaid : Prop := Claim7.holds Tryz.pinned (.plain (OpenSpec.upto archLaysSpec)) archLaysUptoCard

/-- THE SECOND FORM's CARD OF 'thwartlaw09.ArchBack'. -/
def archBackUptoCard : Claim7 := { stood := { row := archBackUptoRow, standIns := [], harness := (true, "dc9fdd90114fb9f85ce3d025c3b5f71a8b8eb9bf36b549bbea1b89f36fe653cb"), looks := false }, kinds := [], alts := [], laidByText := true, laidKinds := [.data, .data, .data, .data, .pinned], laidTests := true, laidLooks := .later }
def ArchBackUptoCardSaid : Prop := Claim7.holds Tryz.pinned (.plain (OpenSpec.upto archBackSpec)) archBackUptoCard

/-- THE SECOND FORM's CARD OF 'thwartlaw09.ArchAnew'. -/
def archAnewUptoCard : Claim7 := { stood := { row := archAnewUptoRow, standIns := [], harness := (true, "dc9fdd90114fb9f85ce3d025c3b5f71a8b8eb9bf36b549bbea1b89f36fe653cb"), looks := false }, kinds := [], alts := [], laidByText := true, laidKinds := [.data, .data, .data, .data, .pinned], laidTests := true, laidLooks := .later }
def ArchAnewUptoCardSaid : Prop := Claim7.holds Tryz.pinned (.plain (OpenSpec.upto archAnewSpec)) archAnewUptoCard

/-- THE SECOND FORM's CARD OF 'thwartlaw10.FeedHolds'. -/
def feedHoldsUptoCard : Claim7 := { stood := { row := feedHoldsUptoRow, standIns := [], harness := (true, "dc9fdd90114fb9f85ce3d025c3b5f71a8b8eb9bf36b549bbea1b89f36fe653cb"), looks := false }, kinds := [], alts := [], laidByText := true, laidKinds := [.data, .data, .data, .data, .pinned], laidTests := true, laidLooks := .later }
def FeedHoldsUptoCardSaid : Prop := Claim7.holds Tryz.pinned (.plain (OpenSpec.upto feedHoldsSpec)) feedHoldsUptoCard
end Rows
end Go.Proofs.YtjofdgjcbjdhbaaGreatDoor
