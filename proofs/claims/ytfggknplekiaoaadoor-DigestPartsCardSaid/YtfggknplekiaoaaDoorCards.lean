/-
  DERIVED. GIVEN WITH THE SEED: THE CARDS: each row of YtfggknplekiaoaaDoorRows.lean that lists a variable, with what it lists TIED to the program's text (the seventh form; the later family's looks); each row that meets fmt, with fmt's text TOLD by the authors' own Lean function (tested against real Go, not proved from fmt's source: count such statements apart). THE CARD IS WHAT COUNTS. Prove the row's statement (the work); the ties are given (YtfggknplekiaoaaDoorTie.lean); close each card by the builder's one call (the guide's Derived/Test/ToyasCard.lean, 'card_holds'). Laid BY PROGRAM, IN A SANDBOX (cutbox-door.mjs). By AI agents, Wed Nov 11 2026. No macro, syntax, notation, axiom, sorry.
-/
import Derived.Test.YtfggknplekiaoaaDoorRows
import GoSem.ClaimSeven
namespace Go.Proofs.YtfggknplekiaoaaDoor
namespace Rows

/-- THE TIED CARD OF 'thwartlaw12.DigestIs'. -/
def digestIsCard : Claim7 := { stood := { row := digestIsRow, standIns := [], harness := (true, "be1b8f42e0a82918ba59935927148aeee2bcfb692bdd34e9d050b7777e7db6c8"), looks := false }, kinds := [], alts := [], laidByText := true, laidKinds := [.data, .data], laidTests := true, laidLooks := .later }
def DigestIsCardSaid : Prop := Claim7.holds Tryd.pinned (.plain (OpenSpec.ofChange digestIsSpec)) digestIsCard

/-- THE TIED CARD OF 'thwartlaw12.DigestParts'. -/
def digestPartsCard : Claim7 := { stood := { row := digestPartsRow, standIns := [], harness := (true, "be1b8f42e0a82918ba59935927148aeee2bcfb692bdd34e9d050b7777e7db6c8"), looks := false }, kinds := [], alts := [], laidByText := true, laidKinds := [.data, .data], laidTests := true, laidLooks := .later }
def DigestPartsCardSaid : Prop := Claim7.holds Tryd.pinned (.plain (OpenSpec.ofChange digestPartsSpec)) digestPartsCard

/-- THE TIED CARD OF 'thwartlaw12.DigestNobody'. -/
def digestNobodyCard : Claim7 := { stood := { row := digestNobodyRow, standIns := [], harness := (true, "be1b8f42e0a82918ba59935927148aeee2bcfb692bdd34e9d050b7777e7db6c8"), looks := false }, kinds := [], alts := [], laidByText := true, laidKinds := [.data, .data], laidTests := true, laidLooks := .later }
def DigestNobodyCardSaid : Prop := Claim7.holds Tryd.pinned (.plain (OpenSpec.ofChange digestNobodySpec)) digestNobodyCard

/-- THE SECOND FORM's CARD OF 'thwartlaw12.DigestIs'. -/
def digestIsUptoCard : Claim7 := { stood := { row := digestIsUptoRow, standIns := [], harness := (true, "be1b8f42e0a82918ba59935927148aeee2bcfb692bdd34e9d050b7777e7db6c8"), looks := false }, kinds := [], alts := [], laidByText := true, laidKinds := [.data, .data], laidTests := true, laidLooks := .later }
def DigestIsUptoCardSaid : Prop := Claim7.holds Tryd.pinned (.plain (OpenSpec.upto digestIsSpec)) digestIsUptoCard

/-- THE SECOND FORM's CARD OF 'thwartlaw12.DigestParts'. -/
def digestPartsUptoCard : Claim7 := { stood := { row := digestPartsUptoRow, standIns := [], harness := (true, "be1b8f42e0a82918ba59935927148aeee2bcfb692bdd34e9d050b7777e7db6c8"), looks := false }, kinds := [], alts := [], laidByText := true, laidKinds := [.data, .data], laidTests := true, laidLooks := .later }
def DigestPartsUptoCardSaid : Prop := Claim7.holds Tryd.pinned (.plain (OpenSpec.upto digestPartsSpec)) digestPartsUptoCard

/-- THE SECOND FORM's CARD OF 'thwartlaw12.DigestNobody'. -/
def digestNobodyUptoCard : Claim7 := { stood := { row := digestNobodyUptoRow, standIns := [], harness := (true, "be1b8f42e0a82918ba59935927148aeee2bcfb692bdd34e9d050b7777e7db6c8"), looks := false }, kinds := [], alts := [], laidByText := true, laidKinds := [.data, .data], laidTests := true, laidLooks := .later }
def DigestNobodyUptoCardSaid : Prop := Claim7.holds Tryd.pinned (.plain (OpenSpec.upto digestNobodySpec)) digestNobodyUptoCard
end Rows
end Go.Proofs.YtfggknplekiaoaaDoor
