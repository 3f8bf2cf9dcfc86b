/-
  DERIVED. GIVEN WITH THE SEED: THE CARDS: each row of YtnopbgfogiielaaDoorRows.lean that lists a variable, with what it lists TIED to the program's text (the seventh form; the later family's looks); each row that meets fmt, with fmt's text TOLD by the authors' own Lean function (tested against real Go, not proved from fmt's source: count such statements apart). THE CARD IS WHAT COUNTS. Prove the row's statement (the work); the ties are given (YtnopbgfogiielaaDoorTie.lean); close each card by the builder's one call (the guide's Derived/Test/ToyasCard.lean, 'card_holds'). Laid BY PROGRAM, IN A SANDBOX (cutbox-door.mjs). By AI agents, Wed Nov 11 2026. No macro, syntax, notation, axiom, sorry.
-/
import Derived.Test.YtnopbgfogiielaaDoorRows
import GoSem.ClaimSeven
namespace Go.Proofs.YtnopbgfogiielaaDoor
namespace Rows

/-- THE TIED CARD OF 'thwartlaw04.PpathParts'. -/
def ppathPartsCard : Claim7 := { stood := { row := ppathPartsRow, standIns := [], harness := (true, "91600dea5eed3555f81aa8f12facfd64b2e78bb5b7d4df21cc6c7617f23d48c5"), looks := false }, kinds := [], alts := [], laidByText := true, laidKinds := [.data, .pinned], laidTests := true, laidLooks := .later }
def PpathPartsCardSaid : Prop := Claim7.holds Tryd.pinned (.plain (OpenSpec.ofChange ppathPartsSpec)) ppathPartsCard

/-- THE TIED CARD OF 'thwartlaw04.PpathJoins'. -/
def ppathJoinsCard : Claim7 := { stood := { row := ppathJoinsRow, standIns := [], harness := (true, "91600dea5eed3555f81aa8f12facfd64b2e78bb5b7d4df21cc6c7617f23d48c5"), looks := false }, kinds := [], alts := [], laidByText := true, laidKinds := [.data, .pinned], laidTests := true, laidLooks := .later }
def PpathJoinsCardSaid : Prop := Claim7.holds Tryd.pinned (.plain (OpenSpec.ofChange ppathJoinsSpec)) ppathJoinsCard

/-- THE TIED CARD OF 'thwartlaw04.PpathLess'. -/
def ppathLessCard : Claim7 := { stood := { row := ppathLessRow, standIns := [], harness := (true, "91600dea5eed3555f81aa8f12facfd64b2e78bb5b7d4df21cc6c7617f23d48c5"), looks := false }, kinds := [], alts := [], laidByText := true, laidKinds := [.data, .pinned], laidTests := true, laidLooks := .later }
def PpathLessCardSaid : Prop := Claim7.holds Tryd.pinned (.plain (OpenSpec.ofChange ppathLessSpec)) ppathLessCard

/-- THE TIED CARD OF 'thwartlaw04.PpathWhole'. -/
def ppathWholeCard : Claim7 := { stood := { row := ppathWholeRow, standIns := [], harness := (true, "91600dea5eed3555f81aa8f12facfd64b2e78bb5b7d4df21cc6c7617f23d48c5"), looks := false }, kinds := [], alts := [], laidByText := true, laidKinds := [.data, .pinned], laidTests := true, laidLooks := .later }
def PpathWholeCardSaid : Prop := Claim7.holds Tryd.pinned (.plain (OpenSpec.ofChange ppathWholeSpec)) ppathWholeCard

/-- THE SECOND FORM's CARD OF 'thwartlaw04.PpathParts'. -/
def ppathPartsUptoCard : Claim7 := { stood := { row := ppathPartsUptoRow, standIns := [], harness := (true, "91600dea5eed3555f81aa8f12facfd64b2e78bb5b7d4df21cc6c7617f23d48c5"), looks := false }, kinds := [], alts := [], laidByText := true, laidKinds := [.data, .pinned], laidTests := true, laidLooks := .later }
def PpathPartsUptoCardSaid : Prop := Claim7.holds Tryd.pinned (.plain (OpenSpec.upto ppathPartsSpec)) ppathPartsUptoCard

/-- THE SECOND FORM's CARD OF 'thwartlaw04.PpathJoins'. -/
def ppathJoinsUptoCard : Claim7 := { stood := { row := ppathJoinsUptoRow, standIns := [], harness := (true, "91600dea5eed3555f81aa8f12facfd64b2e78bb5b7d4df21cc6c7617f23d48c5"), looks := false }, kinds := [], alts := [], laidByText := true, laidKinds := [.data, .pinned], laidTests := true, laidLooks := .later }
def PpathJoinsUptoCardSaid : Prop := Claim7.holds Tryd.pinned (.plain (OpenSpec.upto ppathJoinsSpec)) ppathJoinsUptoCard

/-- THE SECOND FORM's CARD OF 'thwartlaw04.PpathLess'. -/
def ppathLessUptoCard : Claim7 := { stood := { row := ppathLessUptoRow, standIns := [], harness := (true, "91600dea5eed3555f81aa8f12facfd64b2e78bb5b7d4df21cc6c7617f23d48c5"), looks := false }, kinds := [], alts := [], laidByText := true, laidKinds := [.data, .pinned], laidTests := true, laidLooks := .later }
def PpathLessUptoCardSaid : Prop := Claim7.holds Tryd.pinned (.plain (OpenSpec.upto ppathLessSpec)) ppathLessUptoCard

/-- THE SECOND FORM's CARD OF 'thwartlaw04.PpathWhole'. -/
def ppathWholeUptoCard : Claim7 := { stood := { row := ppathWholeUptoRow, standIns := [], harness := (true, "91600dea5eed3555f81aa8f12facfd64b2e78bb5b7d4df21cc6c7617f23d48c5"), looks := false }, kinds := [], alts := [], laidByText := true, laidKinds := [.data, .pinned], laidTests := true, laidLooks := .later }
def PpathWholeUptoCardSaid : Prop := Claim7.holds Tryd.pinned (.plain (OpenSpec.upto ppathWholeSpec)) ppathWholeUptoCard
end Rows
end Go.Proofs.YtnopbgfogiielaaDoor
