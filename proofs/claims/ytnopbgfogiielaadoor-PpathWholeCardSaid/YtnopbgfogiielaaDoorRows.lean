/-
  NARROWER THAN 'FOR EVERY INPUT', by the rows' own cells (each row's printed sentence says how): PpathParts: laid · PpathJoins: laid · PpathLess: laid · PpathWhole: laid.
  DERIVED. THE GIVEN ROWS OF THIS SEAT. 4 by the template 'for every input the law returns true; each argument reads behind the call as it read before'; 0 by the template 'total and deterministic' (their statements: YtnopbgfogiielaaDoorTotals.lean).
  GIVEN WITH THE SEED: the statements are not yours to turn. If you find one false, say at which input.
  Laid BY PROGRAM, IN A SANDBOX (cutbox-rows.mjs): the forced cells as the released guide's own fill.sh prints them over the translation 8c0665fd32e54f75… (all of the seat's roots in one cut). By AI agents, Wed Nov 11 2026. No macro, syntax, notation, axiom, sorry.
-/
import Derived.Test.YtnopbgfogiielaaDoorChecked
import GoSem.PinnedTables
import GoSem.Claim
import GoSem.ClaimJoined
import GoSem.ClaimMapViews
import Derived.JoinedTies
import Derived.KernelRfl
namespace Go.Proofs.YtnopbgfogiielaaDoor
/- THE CELL 'sum', in the pinned program and in every row, IS THE sha256 OF THE DUMP (.gsa) THAT YtnopbgfogiielaaDoorProg.lean LOADS. Nothing in Lean hashes anything: it is a label: what it is worth is what the hold of that sum in a sandbox is worth. -/
noncomputable def Tryd.pinned : Pinned := { name := "ytnopbgfogiielaadoor", sum := "8c0665fd32e54f758ccee126c894bbff9c63288559e61799100e176f559d45e5", checked := Tryd.checked }
namespace Rows
def none {H : Type} : Left H := { results := [], args := [] }

/- WHAT THE LISTED PACKAGE-LEVEL VARIABLES READ AS WHEN THE CALL BEGINS. Each datum BY PROGRAM (the guide's laid-datum.mjs) off the statement by which the dump's own 'gosem.cut.vars' lays the variable. In a bare row this is a premise. The card (YtnopbgfogiielaaDoorCards.lean) ties it to the program's text. -/
def laid_unicode_utf8_acceptRanges {H : Type} : DataW H := .agg [.agg [.lit (.int .u8 128), .lit (.int .u8 191)], .agg [.lit (.int .u8 160), .lit (.int .u8 191)], .agg [.lit (.int .u8 128), .lit (.int .u8 159)], .agg [.lit (.int .u8 144), .lit (.int .u8 191)], .agg [.lit (.int .u8 128), .lit (.int .u8 143)], .agg [.lit (.int .u8 0), .lit (.int .u8 0)], .agg [.lit (.int .u8 0), .lit (.int .u8 0)], .agg [.lit (.int .u8 0), .lit (.int .u8 0)], .agg [.lit (.int .u8 0), .lit (.int .u8 0)], .agg [.lit (.int .u8 0), .lit (.int .u8 0)], .agg [.lit (.int .u8 0), .lit (.int .u8 0)], .agg [.lit (.int .u8 0), .lit (.int .u8 0)], .agg [.lit (.int .u8 0), .lit (.int .u8 0)], .agg [.lit (.int .u8 0), .lit (.int .u8 0)], .agg [.lit (.int .u8 0), .lit (.int .u8 0)], .agg [.lit (.int .u8 0), .lit (.int .u8 0)]]
/-- One of Go's own tables, pinned by name: the form's constant. -/
def laid_unicode_utf8_first : DataW Unit := Go.Pinned.utf8First

/-- 'thwartlaw04.PpathParts': WHATEVER THE INPUT: true; the input reads as it did. -/
def ppathPartsSpec : ChangeSpec := { name := "ppathParts", fn := fun _ => fun
  | [d] => { results := [.lit (.bool true)], args := [d] }
  | _ => none }
def ppathPartsRow : OpenClaim := { program := "ytnopbgfogiielaadoor", sum := "8c0665fd32e54f758ccee126c894bbff9c63288559e61799100e176f559d45e5", func := "thwart/thwartlaw04.PpathParts", spec := "ppathParts", inPlace := ["internal/bytealg.IndexByteString", "internal/bytealg.IndexString"], unfollowed := true, recurses := true, named := ["unicode/utf8.first", "unicode/utf8.acceptRanges", "internal/bytealg.MaxLen"], apart := false, laid := [("unicode/utf8.acceptRanges", laid_unicode_utf8_acceptRanges), ("unicode/utf8.first", laid_unicode_utf8_first)] }
def PpathPartsSaid : Prop := ppathPartsRow.holds Tryd.pinned (OpenSpec.ofChange ppathPartsSpec)

/-- ITS FALSE NEIGHBOUR: 'it returns false'. Refute it at one input. -/
def ppathPartsWrong : ChangeSpec := { name := "ppathParts", fn := fun _ => fun
  | [d] => { results := [.lit (.bool false)], args := [d] }
  | _ => none }
def PpathPartsWrongFalsely : Prop := ppathPartsRow.holds Tryd.pinned (OpenSpec.ofChange ppathPartsWrong)

/-- 'thwartlaw04.PpathJoins': WHATEVER THE INPUT: true; the input reads as it did. -/
def ppathJoinsSpec : ChangeSpec := { name := "ppathJoins", fn := fun _ => fun
  | [d1, d2] => { results := [.lit (.bool true)], args := [d1, d2] }
  | _ => none }
def ppathJoinsRow : OpenClaim := { program := "ytnopbgfogiielaadoor", sum := "8c0665fd32e54f758ccee126c894bbff9c63288559e61799100e176f559d45e5", func := "thwart/thwartlaw04.PpathJoins", spec := "ppathJoins", inPlace := ["internal/bytealg.IndexByteString", "internal/bytealg.IndexString"], unfollowed := true, recurses := true, named := ["unicode/utf8.first", "unicode/utf8.acceptRanges", "internal/bytealg.MaxLen"], apart := false, laid := [("unicode/utf8.acceptRanges", laid_unicode_utf8_acceptRanges), ("unicode/utf8.first", laid_unicode_utf8_first)] }
def PpathJoinsSaid : Prop := ppathJoinsRow.holds Tryd.pinned (OpenSpec.ofChange ppathJoinsSpec)

/-- ITS FALSE NEIGHBOUR: 'it returns false'. Refute it at one input. -/
def ppathJoinsWrong : ChangeSpec := { name := "ppathJoins", fn := fun _ => fun
  | [d1, d2] => { results := [.lit (.bool false)], args := [d1, d2] }
  | _ => none }
def PpathJoinsWrongFalsely : Prop := ppathJoinsRow.holds Tryd.pinned (OpenSpec.ofChange ppathJoinsWrong)

/-- 'thwartlaw04.PpathLess': WHATEVER THE INPUT: true; the input reads as it did. -/
def ppathLessSpec : ChangeSpec := { name := "ppathLess", fn := fun _ => fun
  | [d1, d2, d3] => { results := [.lit (.bool true)], args := [d1, d2, d3] }
  | _ => none }
def ppathLessRow : OpenClaim := { program := "ytnopbgfogiielaadoor", sum := "8c0665fd32e54f758ccee126c894bbff9c63288559e61799100e176f559d45e5", func := "thwart/thwartlaw04.PpathLess", spec := "ppathLess", inPlace := ["internal/bytealg.IndexByteString", "internal/bytealg.IndexString"], unfollowed := true, recurses := true, named := ["unicode/utf8.first", "unicode/utf8.acceptRanges", "internal/bytealg.MaxLen"], apart := false, laid := [("unicode/utf8.acceptRanges", laid_unicode_utf8_acceptRanges), ("unicode/utf8.first", laid_unicode_utf8_first)] }
def PpathLessSaid : Prop := ppathLessRow.holds Tryd.pinned (OpenSpec.ofChange ppathLessSpec)

/-- ITS FALSE NEIGHBOUR: 'it returns false'. Refute it at one input. -/
def ppathLessWrong : ChangeSpec := { name := "ppathLess", fn := fun _ => fun
  | [d1, d2, d3] => { results := [.lit (.bool false)], args := [d1, d2, d3] }
  | _ => none }
def PpathLessWrongFalsely : Prop := ppathLessRow.holds Tryd.pinned (OpenSpec.ofChange ppathLessWrong)

/-- 'thwartlaw04.PpathWhole': WHATEVER THE INPUT: true; the input reads as it did. -/
def ppathWholeSpec : ChangeSpec := { name := "ppathWhole", fn := fun _ => fun
  | [d1, d2] => { results := [.lit (.bool true)], args := [d1, d2] }
  | _ => none }
def ppathWholeRow : OpenClaim := { program := "ytnopbgfogiielaadoor", sum := "8c0665fd32e54f758ccee126c894bbff9c63288559e61799100e176f559d45e5", func := "thwart/thwartlaw04.PpathWhole", spec := "ppathWhole", inPlace := ["internal/bytealg.IndexByteString", "internal/bytealg.IndexString"], unfollowed := true, recurses := true, named := ["unicode/utf8.first", "unicode/utf8.acceptRanges", "internal/bytealg.MaxLen"], apart := false, laid := [("unicode/utf8.acceptRanges", laid_unicode_utf8_acceptRanges), ("unicode/utf8.first", laid_unicode_utf8_first)] }
def PpathWholeSaid : Prop := ppathWholeRow.holds Tryd.pinned (OpenSpec.ofChange ppathWholeSpec)

/-- ITS FALSE NEIGHBOUR: 'it returns false'. Refute it at one input. -/
def ppathWholeWrong : ChangeSpec := { name := "ppathWhole", fn := fun _ => fun
  | [d1, d2] => { results := [.lit (.bool false)], args := [d1, d2] }
  | _ => none }
def PpathWholeWrongFalsely : Prop := ppathWholeRow.holds Tryd.pinned (OpenSpec.ofChange ppathWholeWrong)

/- THE SECOND FORM. 'bulk': how many values and letters a reading holds, each counted each time it is reached (what is shared counts as often as it is met; a slice's spare places count too). A statement '..UptoSaid' is the law's where the arguments, and the package variables that the reading takes, are together of bulk at most 1048576: NARROWER than '..Said'. Prove '..Said' where nothing that the law and all that it calls make is longer than what came in: it says more and counts as full. Else prove '..UptoSaid'. A law counts once. -/
mutual
def uptoBulk {H : Type} : DataW H → Nat
  | .lit (.string bytes) => bytes.length + 1
  | .lit _ => 1
  | .nil => 1
  | .ptr d => uptoBulk d + 1
  | .slice elems spare => uptoBulkAll elems + uptoBulkAll spare + 1
  | .agg parts => uptoBulkAll parts + 1
  | .iface _ d => uptoBulk d + 1
  | .map entries => uptoBulkEntries entries + 1
  | .held _ => 1
def uptoBulkAll {H : Type} : List (DataW H) → Nat
  | [] => 0
  | d :: r => uptoBulk d + uptoBulkAll r
def uptoBulkEntries {H : Type} : List (Lit × DataW H) → Nat
  | [] => 0
  | x :: r => uptoBulkEntry x + uptoBulkEntries r
def uptoBulkEntry {H : Type} : Lit × DataW H → Nat
  | (.string bytes, d) => bytes.length + uptoBulk d + 1
  | (_, d) => uptoBulk d + 1
 end
def uptoSmall : (H : Type) → List (DataW H) → Bool := fun _ ds => decide (uptoBulkAll ds ≤ 1048576)
def OpenSpec.upto (s : _root_.Go.ChangeSpec) : _root_.Go.OpenSpec := { _root_.Go.OpenSpec.ofChange s with cond := some uptoSmall }

/-- 'thwartlaw04.PpathParts', WHERE WHAT IT READS IS OF BULK AT MOST 1048576: true; the input reads as it did. -/
def ppathPartsUptoRow : OpenClaim := { program := "ytnopbgfogiielaadoor", sum := "8c0665fd32e54f758ccee126c894bbff9c63288559e61799100e176f559d45e5", func := "thwart/thwartlaw04.PpathParts", spec := "ppathParts", inPlace := ["internal/bytealg.IndexByteString", "internal/bytealg.IndexString"], unfollowed := true, recurses := true, named := ["unicode/utf8.first", "unicode/utf8.acceptRanges", "internal/bytealg.MaxLen"], apart := false, laid := [("unicode/utf8.acceptRanges", laid_unicode_utf8_acceptRanges), ("unicode/utf8.first", laid_unicode_utf8_first)], narrowed := true }
def PpathPartsUptoSaid : Prop := ppathPartsUptoRow.holds Tryd.pinned (OpenSpec.upto ppathPartsSpec)

/-- 'thwartlaw04.PpathJoins', WHERE WHAT IT READS IS OF BULK AT MOST 1048576: true; the input reads as it did. -/
def ppathJoinsUptoRow : OpenClaim := { program := "ytnopbgfogiielaadoor", sum := "8c0665fd32e54f758ccee126c894bbff9c63288559e61799100e176f559d45e5", func := "thwart/thwartlaw04.PpathJoins", spec := "ppathJoins", inPlace := ["internal/bytealg.IndexByteString", "internal/bytealg.IndexString"], unfollowed := true, recurses := true, named := ["unicode/utf8.first", "unicode/utf8.acceptRanges", "internal/bytealg.MaxLen"], apart := false, laid := [("unicode/utf8.acceptRanges", laid_unicode_utf8_acceptRanges), ("unicode/utf8.first", laid_unicode_utf8_first)], narrowed := true }
def PpathJoinsUptoSaid : Prop := ppathJoinsUptoRow.holds Tryd.pinned (OpenSpec.upto ppathJoinsSpec)

/-- 'thwartlaw04.PpathLess', WHERE WHAT IT READS IS OF BULK AT MOST 1048576: true; the input reads as it did. -/
def ppathLessUptoRow : OpenClaim := { program := "ytnopbgfogiielaadoor", sum := "8c0665fd32e54f758ccee126c894bbff9c63288559e61799100e176f559d45e5", func := "thwart/thwartlaw04.PpathLess", spec := "ppathLess", inPlace := ["internal/bytealg.IndexByteString", "internal/bytealg.IndexString"], unfollowed := true, recurses := true, named := ["unicode/utf8.first", "unicode/utf8.acceptRanges", "internal/bytealg.MaxLen"], apart := false, laid := [("unicode/utf8.acceptRanges", laid_unicode_utf8_acceptRanges), ("unicode/utf8.first", laid_unicode_utf8_first)], narrowed := true }
def PpathLessUptoSaid : Prop := ppathLessUptoRow.holds Tryd.pinned (OpenSpec.upto ppathLessSpec)

/-- 'thwartlaw04.PpathWhole', WHERE WHAT IT READS IS OF BULK AT MOST 1048576: true; the input reads as it did. -/
def ppathWholeUptoRow : OpenClaim := { program := "ytnopbgfogiielaadoor", sum := "8c0665fd32e54f758ccee126c894bbff9c63288559e61799100e176f559d45e5", func := "thwart/thwartlaw04.PpathWhole", spec := "ppathWhole", inPlace := ["internal/bytealg.IndexByteString", "internal/bytealg.IndexString"], unfollowed := true, recurses := true, named := ["unicode/utf8.first", "unicode/utf8.acceptRanges", "internal/bytealg.MaxLen"], apart := false, laid := [("unicode/utf8.acceptRanges", laid_unicode_utf8_acceptRanges), ("unicode/utf8.first", laid_unicode_utf8_first)], narrowed := true }
def PpathWholeUptoSaid : Prop := ppathWholeUptoRow.holds Tryd.pinned (OpenSpec.upto ppathWholeSpec)

end Rows
end Go.Proofs.YtnopbgfogiielaaDoor
