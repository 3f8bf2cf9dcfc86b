/-
  DERIVED. GIVEN WITH THE SEED: THE CARDS: each row of YtgidcakmaabcnaaGreatDoorRows.lean that lists a variable, with what it lists TIED to the program's text (the seventh form; the later family's looks); each row that meets fmt, with fmt's text TOLD by the authors' own Lean function (tested against real Go, not proved from fmt's source: count such statements apart). THE CARD IS WHAT COUNTS. Prove the row's statement (the work); the ties are given (YtgidcakmaabcnaaGreatDoorTie.lean); close each card by the builder's one call (the guide's Derived/Test/ToyasCard.lean, 'card_holds'). Laid BY PROGRAM, IN A SANDBOX (cutbox-door.mjs). By AI agents, Wed Nov 11 2026. No macro, syntax, notation, axiom, sorry.
-/
import Derived.Test.YtgidcakmaabcnaaGreatDoorRows
import GoSem.ClaimSeven
namespace Go.Proofs.YtgidcakmaabcnaaGreatDoor
namespace Rows

/-- THE TIED CARD OF 'thwartlaw08.MembLays'. -/
def membLaysCard : Claim7 := { stood := { row := membLaysRow, standIns := [], harness := (true, "cd0640bf7132b540ed87ee37fd2ded010e23b29c68c3771080ef761a3e17a498"), looks := false }, kinds := [], alts := [], laidByText := true, laidKinds := [.data, .data, .data, .data, .pinned], laidTests := true, laidLooks := .later }
def MembLaysCardSaid : Prop := Claim7.holds Tryz.pinned (.plain (OpenSpec.ofChange membLaysSpec)) membLaysCard

/-- THE TIED CARD OF 'thwartlaw08.MembTypes'. -/
def membTypesCard : Claim7 := { stood := { row := membTypesRow, standIns := [], harness := (true, "cd0640bf7132b540ed87ee37fd2ded010e23b29c68c3771080ef761a3e17a498"), looks := false }, kinds := [], alts := [], laidByText := true, laidKinds := [.data, .data, .data, .data, .pinned], laidTests := true, laidLooks := .later }
def MembTypesCardSaid : Prop := Claim7.holds Tryz.pinned (.plain (OpenSpec.ofChange membTypesSpec)) membTypesCard

/-- THE TIED CARD OF 'thwartlaw08.MembFrom'. -/
def membFromCard : Claim7 := { stood := { row := membFromRow, standIns := [], harness := (true, "cd0640bf7132b540ed87ee37fd2ded010e23b29c68c3771080ef761a3e17a498"), looks := false }, kinds := [], alts := [], laidByText := true, laidKinds := [.data, .data, .data, .data, .pinned], laidTests := true, laidLooks := .later }
def MembFromCardSaid : Prop := Claim7.holds Tryz.pinned (.plain (OpenSpec.ofChange membFromSpec)) membFromCard

/-- THE TIED CARD OF 'thwartlaw08.MembWhole'. -/
def membWholeCard : Claim7 := { stood := { row := membWholeRow, standIns := [], harness := (true, "cd0640bf7132b540ed87ee37fd2ded010e23b29c68c3771080ef761a3e17a498"), looks := false }, kinds := [], alts := [], laidByText := true, laidKinds := [.data, .data, .data, .data, .pinned], laidTests := true, laidLooks := .later }
def MembWholeCardSaid : Prop := Claim7.holds Tryz.pinned (.plain (OpenSpec.ofChange membWholeSpec)) membWholeCard

/-- THE SECOND FORM's CARD OF 'thwartlaw08.MembLays'. -/
def membLaysUptoCard : Claim7 := { stood := { row := membLaysUptoRow, standIns := [], harness := (true, "cd0640bf7132b540ed87ee37fd2ded010e23b29c68c3771080ef761a3e17a498"), looks := false }, kinds := [], alts := [], laidByText := true, laidKinds := [.data, .data, .data, .data, .pinned], laidTests := true, laidLooks := .later }
def MembLaysUptoCardSaid : Prop := Claim7.holds Tryz.pinned (.plain (OpenSpec.upto membLaysSpec)) membLaysUptoCard

/-- THE SECOND FORM's CARD OF 'thwartlaw08.MembTypes'. -/
def membTypesUptoCard : Claim7 := { stood := { row := membTypesUptoRow, standIns := [], harness := (true, "cd0640bf7132b540ed87ee37fd2ded010e23b29c68c3771080ef761a3e17a498"), looks := false }, kinds := [], alts := [], laidByText := true, laidKinds := [.data, .data, .data, .data, .pinned], laidTests := true, laidLooks := .later }
def MembTypesUptoCardSaid : Prop := Claim7.holds Tryz.pinned (.plain (OpenSpec.upto membTypesSpec)) membTypesUptoCard

/-- THE SECOND FORM's CARD OF 'thwartlaw08.MembFrom'. -/
def membFromUptoCard : Claim7 := { stood := { row := membFromUptoRow, standIns := [], harness := (true, "cd0640bf7132b540ed87ee37fd2ded010e23b29c68c3771080ef761a3e17a498"), looks := false }, kinds := [], alts := [], laidByText := true, laidKinds := [.data, .data, .data, .data, .pinned], laidTests := true, laidLooks := .later }
def MembFromUptoCardSaid : Prop := Claim7.holds Tryz.pinned (.plain (OpenSpec.upto membFromSpec)) membFromUptoCard

/-- THE SECOND FORM's CARD OF 'thwartlaw08.MembWhole'. -/
def membWholeUptoCard : Claim7 := { stood := { row := membWholeUptoRow, standIns := [], harness := (true, "cd0640bf7132b540ed87ee37fd2ded010e23b29c68c3771080ef761a3e17a498"), looks := false }, kinds := [], alts := [], laidByText := true, laidKinds := [.data, .data, .data, .data, .pinned], laidTests := true, laidLooks := .later }
def MembWholeUptoCardSaid : Prop := Claim7.holds Tryz.pinned (.plain (OpenSpec.upto membWholeSpec)) membWholeUptoCard
end Rows
end Go.Proofs.YtgidcakmaabcnaaGreatDoor
