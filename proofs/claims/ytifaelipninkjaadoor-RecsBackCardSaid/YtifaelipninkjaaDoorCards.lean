/-
  DERIVED. GIVEN WITH THE SEED: THE CARDS: each row of YtifaelipninkjaaDoorRows.lean that lists a variable, with what it lists TIED to the program's text (the seventh form; the later family's looks); each row that meets fmt, with fmt's text TOLD by the authors' own Lean function (tested against real Go, not proved from fmt's source: count such statements apart). THE CARD IS WHAT COUNTS. Prove the row's statement (the work); the ties are given (YtifaelipninkjaaDoorTie.lean); close each card by the builder's one call (the guide's Derived/Test/ToyasCard.lean, 'card_holds'). Laid BY PROGRAM, IN A SANDBOX (cutbox-door.mjs). By AI agents, Wed Nov 11 2026. No macro, syntax, notation, axiom, sorry.
-/
import Derived.Test.YtifaelipninkjaaDoorRows
import GoSem.ClaimSeven
namespace Go.Proofs.YtifaelipninkjaaDoor
namespace Rows

/-- THE TIED CARD OF 'thwartlaw06.RecsLays'. -/
def recsLaysCard : Claim7 := { stood := { row := recsLaysRow, standIns := [], harness := (true, "7f41a12604d2bf5b15b171d81388c5c76d5f497578f8f076cd430bf37f71f5bd"), looks := false }, kinds := [], alts := [], laidByText := true, laidKinds := [.data, .data, .data], laidTests := true, laidLooks := .later }
def RecsLaysCardSaid : Prop := Claim7.holds Tryd.pinned (.plain (OpenSpec.ofChange recsLaysSpec)) recsLaysCard

/-- THE TIED CARD OF 'thwartlaw06.RecsParses'. -/
def recsParsesCard : Claim7 := { stood := { row := recsParsesRow, standIns := [], harness := (true, "7f41a12604d2bf5b15b171d81388c5c76d5f497578f8f076cd430bf37f71f5bd"), looks := false }, kinds := [], alts := [], laidByText := true, laidKinds := [.data, .data, .data], laidTests := true, laidLooks := .later }
def RecsParsesCardSaid : Prop := Claim7.holds Tryd.pinned (.plain (OpenSpec.ofChange recsParsesSpec)) recsParsesCard

/-- THE TIED CARD OF 'thwartlaw06.RecsBack'. -/
def recsBackCard : Claim7 := { stood := { row := recsBackRow, standIns := [], harness := (true, "7f41a12604d2bf5b15b171d81388c5c76d5f497578f8f076cd430bf37f71f5bd"), looks := false }, kinds := [], alts := [], laidByText := true, laidKinds := [.data, .data, .data], laidTests := true, laidLooks := .later }
def RecsBackCardSaid : Prop := Claim7.holds Tryd.pinned (.plain (OpenSpec.ofChange recsBackSpec)) recsBackCard

/-- THE SECOND FORM's CARD OF 'thwartlaw06.RecsLays'. -/
def recsLaysUptoCard : Claim7 := { stood := { row := recsLaysUptoRow, standIns := [], harness := (true, "7f41a12604d2bf5b15b171d81388c5c76d5f497578f8f076cd430bf37f71f5bd"), looks := false }, kinds := [], alts := [], laidByText := true, laidKinds := [.data, .data, .data], laidTests := true, laidLooks := .later }
def RecsLaysUptoCardSaid : Prop := Claim7.holds Tryd.pinned (.plain (OpenSpec.upto recsLaysSpec)) recsLaysUptoCard

/-- THE SECOND FORM's CARD OF 'thwartlaw06.RecsParses'. -/
def recsParsesUptoCard : Claim7 := { stood := { row := recsParsesUptoRow, standIns := [], harness := (true, "7f41a12604d2bf5b15b171d81388c5c76d5f497578f8f076cd430bf37f71f5bd"), looks := false }, kinds := [], alts := [], laidByText := true, laidKinds := [.data, .data, .data], laidTests := true, laidLooks := .later }
def RecsParsesUptoCardSaid : Prop := Claim7.holds Tryd.pinned (.plain (OpenSpec.upto recsParsesSpec)) recsParsesUptoCard

/-- THE SECOND FORM's CARD OF 'thwartlaw06.RecsBack'. -/
def recsBackUptoCard : Claim7 := { stood := { row := recsBackUptoRow, standIns := [], harness := (true, "7f41a12604d2bf5b15b171d81388c5c76d5f497578f8f076cd430bf37f71f5bd"), looks := false }, kinds := [], alts := [], laidByText := true, laidKinds := [.data, .data, .data], laidTests := true, laidLooks := .later }
def RecsBackUptoCardSaid : Prop := Claim7.holds Tryd.pinned (.plain (OpenSpec.upto recsBackSpec)) recsBackUptoCard
end Rows
end Go.Proofs.YtifaelipninkjaaDoor
