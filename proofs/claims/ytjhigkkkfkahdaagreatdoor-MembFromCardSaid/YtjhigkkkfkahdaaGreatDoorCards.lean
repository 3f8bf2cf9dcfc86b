/-
  DERIVED. GIVEN WITH THE SEED: THE CARDS: each row of YtjhigkkkfkahdaaGreatDoorRows.lean that lists a variable, with what it lists TIED to the program's text (the seventh form; the later family's looks); each row that meets fmt, with fmt's text TOLD by the authors' own Lean function (tested against real Go, not proved from fmt's source: count such statements apart). THE CARD IS WHAT COUNTS. Prove the row's statement (the work); the ties are given (YtjhigkkkfkahdaaGreatDoorTie.lean); close each card by the builder's one call (the guide's Derived/Test/ToyasCard.lean, 'card_holds'). Laid BY PROGRAM, IN A SANDBOX (cutbox-door.mjs). By AI agents, Wed Nov 11 2026. No macro, syntax, notation, axiom, sorry.
-/
import Derived.Test.YtjhigkkkfkahdaaGreatDoorRows
import GoSem.ClaimSeven
namespace Go.Proofs.YtjhigkkkfkahdaaGreatDoor
namespace Rows

/-- THE TIED CARD OF 'thwartlaw08.MembFrom'. -/
def membFromCard : Claim7 := { stood := { row := membFromRow, standIns := [], harness := (true, "b6fcc5b22021fe6d4344d9c38f11fd882da1bc6ab2c9c56652ab1ecdcfd2c5e1"), looks := false }, kinds := [], alts := [], laidByText := true, laidKinds := [.data, .data, .data, .data, .pinned], laidTests := true, laidLooks := .later }
def MembFromCardSaid : Prop := Claim7.holds Tryz.pinned (.plain (OpenSpec.ofChange membFromSpec)) membFromCard

/-- THE TIED CARD OF 'thwartlaw08.MembWhole'. -/
def membWholeCard : Claim7 := { stood := { row := membWholeRow, standIns := [], harness := (true, "b6fcc5b22021fe6d4344d9c38f11fd882da1bc6ab2c9c56652ab1ecdcfd2c5e1"), looks := false }, kinds := [], alts := [], laidByText := true, laidKinds := [.data, .data, .data, .data, .pinned], laidTests := true, laidLooks := .later }
def MembWholeCardSaid : Prop := Claim7.holds Tryz.pinned (.plain (OpenSpec.ofChange membWholeSpec)) membWholeCard

/-- THE TIED CARD OF 'thwartlaw09.ArchLays'. -/
def archLaysCard : Claim7 := { stood := { row := archLaysRow, standIns := [], harness := (true, "b6fcc5b22021fe6d4344d9c38f11fd882da1bc6ab2c9c56652ab1ecdcfd2c5e1"), looks := false }, kinds := [], alts := [], laidByText := true, laidKinds := [.data, .data, .data, .data, .pinned], laidTests := true, laidLooks := .later }
def ArchLaysCardSaid : Prop := Claim7.holds Tryz.pinned (.plain (OpenSpec.ofChange archLaysSpec)) archLaysCard

/-- THE TIED CARD OF 'thwartlaw09.ArchBack'. -/
def archBackCard : Claim7 := { stood := { row := archBackRow, standIns := [], harness := (true, "b6fcc5b22021fe6d4344d9c38f11fd882da1bc6ab2c9c56652ab1ecdcfd2c5e1"), looks := false }, kinds := [], alts := [], laidByText := true, laidKinds := [.data, .data, .data, .data, .pinned], laidTests := true, laidLooks := .later }
def ArchBackCardSaid : Prop := Claim7.holds Tryz.pinned (.plain (OpenSpec.ofChange archBackSpec)) archBackCard

/-- THE TIED CARD OF 'thwartlaw09.ArchAnew'. -/
def archAnewCard : Claim7 := { stood := { row := archAnewRow, standIns := [], harness := (true, "b6fcc5b22021fe6d4344d9c38f11fd882da1bc6ab2c9c56652ab1ecdcfd2c5e1"), looks := false }, kinds := [], alts := [], laidByText := true, laidKinds := [.data, .data, .data, .data, .pinned], laidTests := true, laidLooks := .later }
def ArchAnewCardSaid : Prop := Claim7.holds Tryz.pinned (.plain (OpenSpec.ofChange archAnewSpec)) archAnewCard

/-- THE SECOND FORM's CARD OF 'thwartlaw08.MembFrom'. -/
def membFromUptoCard : Claim7 := { stood := { row := membFromUptoRow, standIns := [], harness := (true, "b6fcc5b22021fe6d4344d9c38f11fd882da1bc6ab2c9c56652ab1ecdcfd2c5e1"), looks := false }, kinds := [], alts := [], laidByText := true, laidKinds := [.data, .data, .data, .data, .pinned], laidTests := true, laidLooks := .later }
def MembFromUptoCardSaid : Prop := Claim7.holds Tryz.pinned (.plain (OpenSpec.upto membFromSpec)) membFromUptoCard

/-- THE SECOND FORM's CARD OF 'thwartlaw08.MembWhole'. -/
def membWholeUptoCard : Claim7 := { stood := { row := membWholeUptoRow, standIns := [], harness := (true, "b6fcc5b22021fe6d4344d9c38f11fd882da1bc6ab2c9c56652ab1ecdcfd2c5e1"), looks := false }, kinds := [], alts := [], laidByText := true, laidKinds := [.data, .data, .data, .data, .pinned], laidTests := true, laidLooks := .later }
def MembWholeUptoCardSaid : Prop := Claim7.holds Tryz.pinned (.plain (OpenSpec.upto membWholeSpec)) membWholeUptoCard

/-- THE SECOND FORM's CARD OF 'thwartlaw09.ArchLays'. -/
def archLaysUptoCard : Claim7 := { stood := { row := archLaysUptoRow, standIns := [], harness := (true, "b6fcc5b22021fe6d4344d9c38f11fd882da1bc6ab2c9c56652ab1ecdcfd2c5e1"), looks := false }, kinds := [], alts := [], laidByText := true, laidKinds := [.data, .data, .data, .data, .pinned], laidTests := true, laidLooks := .later }
def ArchLaysUptoCardSaid : Prop := Claim7.holds Tryz.pinned (.plain (OpenSpec.upto archLaysSpec)) archLaysUptoCard

/-- THE SECOND FORM's CARD OF 'thwartlaw09.ArchBack'. -/
def archBackUptoCard : Claim7 := { stood := { row := archBackUptoRow, standIns := [], harness := (true, "b6fcc5b22021fe6d4344d9c38f11fd882da1bc6ab2c9c56652ab1ecdcfd2c5e1"), looks := false }, kinds := [], alts := [], laidByText := true, laidKinds := [.data, .data, .data, .data, .pinned], laidTests := true, laidLooks := .later }
def ArchBackUptoCardSaid : Prop := Claim7.holds Tryz.pinned (.plain (OpenSpec.upto archBackSpec)) archBackUptoCard

/-- THE SECOND FORM's CARD OF 'thwartlaw09.ArchAnew'. -/
def archAnewUptoCard : Claim7 := { stood := { row := archAnewUptoRow, standIns := [], harness := (true, "b6fcc5b22021fe6d4344d9c38f11fd882da1bc6ab2c9c56652ab1ecdcfd2c5e1"), looks := false }, kinds := [], alts := [], laidByText := true, laidKinds := [.data, .data, .data, .data, .pinned], laidTests := true, laidLooks := .later }
def ArchAnewUptoCardSaid : Prop := Claim7.holds Tryz.pinned (.plain (OpenSpec.upto archAnewSpec)) archAnewUptoCard
end Rows
end Go.Proofs.YtjhigkkkfkahdaaGreatDoor
