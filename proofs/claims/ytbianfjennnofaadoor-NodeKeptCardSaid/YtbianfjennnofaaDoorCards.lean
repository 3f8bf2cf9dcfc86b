/-
  DERIVED. GIVEN WITH THE SEED: THE CARDS: each row of YtbianfjennnofaaDoorRows.lean that lists a variable, with what it lists TIED to the program's text (the seventh form; the later family's looks); each row that meets fmt, with fmt's text TOLD by the authors' own Lean function (tested against real Go, not proved from fmt's source: count such statements apart). THE CARD IS WHAT COUNTS. Prove the row's statement (the work); the ties are given (YtbianfjennnofaaDoorTie.lean); close each card by the builder's one call (the guide's Derived/Test/ToyasCard.lean, 'card_holds'). Laid BY PROGRAM, IN A SANDBOX (cutbox-door.mjs). By AI agents, Wed Nov 11 2026. No macro, syntax, notation, axiom, sorry.
-/
import Derived.Test.YtbianfjennnofaaDoorRows
import GoSem.ClaimSeven
namespace Go.Proofs.YtbianfjennnofaaDoor
namespace Rows

/-- THE TIED CARD OF 'thwartlaw13.NodeKept'. -/
def nodeKeptCard : Claim7 := { stood := { row := nodeKeptRow, standIns := [], harness := (true, "8b6939b949d9e09cca4c2f39898e0c34fe86d457c8fcde0acb47674a0b56a519"), looks := false }, kinds := [], alts := [], laidByText := true, laidKinds := [.data, .pinned], laidTests := true, laidLooks := .later }
def NodeKeptCardSaid : Prop := Claim7.holds Tryd.pinned (.plain (OpenSpec.ofChange nodeKeptSpec)) nodeKeptCard

/-- THE TIED CARD OF 'thwartlaw13.NodeUsed'. -/
def nodeUsedCard : Claim7 := { stood := { row := nodeUsedRow, standIns := [], harness := (true, "8b6939b949d9e09cca4c2f39898e0c34fe86d457c8fcde0acb47674a0b56a519"), looks := false }, kinds := [], alts := [], laidByText := true, laidKinds := [.data, .pinned], laidTests := true, laidLooks := .later }
def NodeUsedCardSaid : Prop := Claim7.holds Tryd.pinned (.plain (OpenSpec.ofChange nodeUsedSpec)) nodeUsedCard

/-- THE TIED CARD OF 'thwartlaw13.NodeNobody'. -/
def nodeNobodyCard : Claim7 := { stood := { row := nodeNobodyRow, standIns := [], harness := (true, "8b6939b949d9e09cca4c2f39898e0c34fe86d457c8fcde0acb47674a0b56a519"), looks := false }, kinds := [], alts := [], laidByText := true, laidKinds := [.data, .pinned], laidTests := true, laidLooks := .later }
def NodeNobodyCardSaid : Prop := Claim7.holds Tryd.pinned (.plain (OpenSpec.ofChange nodeNobodySpec)) nodeNobodyCard

/-- THE SECOND FORM's CARD OF 'thwartlaw13.NodeKept'. -/
def nodeKeptUptoCard : Claim7 := { stood := { row := nodeKeptUptoRow, standIns := [], harness := (true, "8b6939b949d9e09cca4c2f39898e0c34fe86d457c8fcde0acb47674a0b56a519"), looks := false }, kinds := [], alts := [], laidByText := true, laidKinds := [.data, .pinned], laidTests := true, laidLooks := .later }
def NodeKeptUptoCardSaid : Prop := Claim7.holds Tryd.pinned (.plain (OpenSpec.upto nodeKeptSpec)) nodeKeptUptoCard

/-- THE SECOND FORM's CARD OF 'thwartlaw13.NodeUsed'. -/
def nodeUsedUptoCard : Claim7 := { stood := { row := nodeUsedUptoRow, standIns := [], harness := (true, "8b6939b949d9e09cca4c2f39898e0c34fe86d457c8fcde0acb47674a0b56a519"), looks := false }, kinds := [], alts := [], laidByText := true, laidKinds := [.data, .pinned], laidTests := true, laidLooks := .later }
def NodeUsedUptoCardSaid : Prop := Claim7.holds Tryd.pinned (.plain (OpenSpec.upto nodeUsedSpec)) nodeUsedUptoCard

/-- THE SECOND FORM's CARD OF 'thwartlaw13.NodeNobody'. -/
def nodeNobodyUptoCard : Claim7 := { stood := { row := nodeNobodyUptoRow, standIns := [], harness := (true, "8b6939b949d9e09cca4c2f39898e0c34fe86d457c8fcde0acb47674a0b56a519"), looks := false }, kinds := [], alts := [], laidByText := true, laidKinds := [.data, .pinned], laidTests := true, laidLooks := .later }
def NodeNobodyUptoCardSaid : Prop := Claim7.holds Tryd.pinned (.plain (OpenSpec.upto nodeNobodySpec)) nodeNobodyUptoCard
end Rows
end Go.Proofs.YtbianfjennnofaaDoor
