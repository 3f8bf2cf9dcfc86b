/-
  DERIVED. GIVEN WITH THE SEED: THE CARDS: each row of YthnkjmckdcmjpaaDoorRows.lean that lists a variable, with what it lists TIED to the program's text (the seventh form; the later family's looks); each row that meets fmt, with fmt's text TOLD by the authors' own Lean function (tested against real Go, not proved from fmt's source: count such statements apart). THE CARD IS WHAT COUNTS. Prove the row's statement (the work); the ties are given (YthnkjmckdcmjpaaDoorTie.lean); close each card by the builder's one call (the guide's Derived/Test/ToyasCard.lean, 'card_holds'). Laid BY PROGRAM, IN A SANDBOX (cutbox-door.mjs). By AI agents, Wed Nov 11 2026. No macro, syntax, notation, axiom, sorry.
-/
import Derived.Test.YthnkjmckdcmjpaaDoorRows
import GoSem.ClaimSeven
namespace Go.Proofs.YthnkjmckdcmjpaaDoor
namespace Rows

/-- THE TIED CARD OF 'thwartlaw03.HsumSums'. -/
def hsumSumsCard : Claim7 := { stood := { row := hsumSumsRow, standIns := [], harness := (true, "70bf39c768478c2d91d950f6a73d534a052748b39a905c0b2b749ca3c77146b0"), looks := false }, kinds := [], alts := [], laidByText := true, laidKinds := [.data, .pinned], laidTests := true, laidLooks := .later }
def HsumSumsCardSaid : Prop := Claim7.holds Tryd.pinned (.plain (OpenSpec.ofChange hsumSumsSpec)) hsumSumsCard

/-- THE TIED CARD OF 'thwartlaw03.HsumFinds'. -/
def hsumFindsCard : Claim7 := { stood := { row := hsumFindsRow, standIns := [], harness := (true, "70bf39c768478c2d91d950f6a73d534a052748b39a905c0b2b749ca3c77146b0"), looks := false }, kinds := [], alts := [], laidByText := true, laidKinds := [.data, .pinned], laidTests := true, laidLooks := .later }
def HsumFindsCardSaid : Prop := Claim7.holds Tryd.pinned (.plain (OpenSpec.ofChange hsumFindsSpec)) hsumFindsCard

/-- THE TIED CARD OF 'thwartlaw03.HsumAlone'. -/
def hsumAloneCard : Claim7 := { stood := { row := hsumAloneRow, standIns := [], harness := (true, "70bf39c768478c2d91d950f6a73d534a052748b39a905c0b2b749ca3c77146b0"), looks := false }, kinds := [], alts := [], laidByText := true, laidKinds := [.data, .pinned], laidTests := true, laidLooks := .later }
def HsumAloneCardSaid : Prop := Claim7.holds Tryd.pinned (.plain (OpenSpec.ofChange hsumAloneSpec)) hsumAloneCard

/-- THE SECOND FORM's CARD OF 'thwartlaw03.HsumSums'. -/
def hsumSumsUptoCard : Claim7 := { stood := { row := hsumSumsUptoRow, standIns := [], harness := (true, "70bf39c768478c2d91d950f6a73d534a052748b39a905c0b2b749ca3c77146b0"), looks := false }, kinds := [], alts := [], laidByText := true, laidKinds := [.data, .pinned], laidTests := true, laidLooks := .later }
def HsumSumsUptoCardSaid : Prop := Claim7.holds Tryd.pinned (.plain (OpenSpec.upto hsumSumsSpec)) hsumSumsUptoCard

/-- THE SECOND FORM's CARD OF 'thwartlaw03.HsumFinds'. -/
def hsumFindsUptoCard : Claim7 := { stood := { row := hsumFindsUptoRow, standIns := [], harness := (true, "70bf39c768478c2d91d950f6a73d534a052748b39a905c0b2b749ca3c77146b0"), looks := false }, kinds := [], alts := [], laidByText := true, laidKinds := [.data, .pinned], laidTests := true, laidLooks := .later }
def HsumFindsUptoCardSaid : Prop := Claim7.holds Tryd.pinned (.plain (OpenSpec.upto hsumFindsSpec)) hsumFindsUptoCard

/-- THE SECOND FORM's CARD OF 'thwartlaw03.HsumAlone'. -/
def hsumAloneUptoCard : Claim7 := { stood := { row := hsumAloneUptoRow, standIns := [], harness := (true, "70bf39c768478c2d91d950f6a73d534a052748b39a905c0b2b749ca3c77146b0"), looks := false }, kinds := [], alts := [], laidByText := true, laidKinds := [.data, .pinned], laidTests := true, laidLooks := .later }
def HsumAloneUptoCardSaid : Prop := Claim7.holds Tryd.pinned (.plain (OpenSpec.upto hsumAloneSpec)) hsumAloneUptoCard
end Rows
end Go.Proofs.YthnkjmckdcmjpaaDoor
