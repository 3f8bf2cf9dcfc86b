/-
  NARROWER THAN 'FOR EVERY INPUT', by the rows' own cells (each row's printed sentence says how): HsumSums: laid · HsumFinds: laid · HsumAlone: laid.
  DERIVED. THE GIVEN ROWS OF THIS SEAT. 3 by the template 'for every input the law returns true; each argument reads behind the call as it read before'; 0 by the template 'total and deterministic' (their statements: YthnkjmckdcmjpaaDoorTotals.lean).
  GIVEN WITH THE SEED: the statements are not yours to turn. If you find one false, say at which input.
  Laid BY PROGRAM, IN A SANDBOX (cutbox-rows.mjs): the forced cells as the released guide's own fill.sh prints them over the translation 263c971b2dd5a626… (all of the seat's roots in one cut). By AI agents, Wed Nov 11 2026. No macro, syntax, notation, axiom, sorry.
-/
import Derived.Test.YthnkjmckdcmjpaaDoorChecked
import GoSem.PinnedTables
import GoSem.Claim
import GoSem.ClaimJoined
import GoSem.ClaimMapViews
import Derived.JoinedTies
import Derived.KernelRfl
namespace Go.Proofs.YthnkjmckdcmjpaaDoor
/- THE CELL 'sum', in the pinned program and in every row, IS THE sha256 OF THE DUMP (.gsa) THAT YthnkjmckdcmjpaaDoorProg.lean LOADS. Nothing in Lean hashes anything: it is a label: what it is worth is what the hold of that sum in a sandbox is worth. -/
noncomputable def Tryd.pinned : Pinned := { name := "ythnkjmckdcmjpaadoor", sum := "263c971b2dd5a62609ee0408046cd1260f0fd9a3b8c6355f69e36ee069286256", checked := Tryd.checked }
namespace Rows
def none {H : Type} : Left H := { results := [], args := [] }

/- WHAT THE LISTED PACKAGE-LEVEL VARIABLES READ AS WHEN THE CALL BEGINS. Each datum BY PROGRAM (the guide's laid-datum.mjs) off the statement by which the dump's own 'gosem.cut.vars' lays the variable. In a bare row this is a premise. The card (YthnkjmckdcmjpaaDoorCards.lean) ties it to the program's text. -/
def laid_unicode_utf8_acceptRanges {H : Type} : DataW H := .agg [.agg [.lit (.int .u8 128), .lit (.int .u8 191)], .agg [.lit (.int .u8 160), .lit (.int .u8 191)], .agg [.lit (.int .u8 128), .lit (.int .u8 159)], .agg [.lit (.int .u8 144), .lit (.int .u8 191)], .agg [.lit (.int .u8 128), .lit (.int .u8 143)], .agg [.lit (.int .u8 0), .lit (.int .u8 0)], .agg [.lit (.int .u8 0), .lit (.int .u8 0)], .agg [.lit (.int .u8 0), .lit (.int .u8 0)], .agg [.lit (.int .u8 0), .lit (.int .u8 0)], .agg [.lit (.int .u8 0), .lit (.int .u8 0)], .agg [.lit (.int .u8 0), .lit (.int .u8 0)], .agg [.lit (.int .u8 0), .lit (.int .u8 0)], .agg [.lit (.int .u8 0), .lit (.int .u8 0)], .agg [.lit (.int .u8 0), .lit (.int .u8 0)], .agg [.lit (.int .u8 0), .lit (.int .u8 0)], .agg [.lit (.int .u8 0), .lit (.int .u8 0)]]
/-- One of Go's own tables, pinned by name: the form's constant. -/
def laid_unicode_utf8_first : DataW Unit := Go.Pinned.utf8First

/-- 'thwartlaw03.HsumSums': WHATEVER THE INPUT: true; the input reads as it did. -/
def hsumSumsSpec : ChangeSpec := { name := "hsumSums", fn := fun _ => fun
  | [d1, d2] => { results := [.lit (.bool true)], args := [d1, d2] }
  | _ => none }
def hsumSumsRow : OpenClaim := { program := "ythnkjmckdcmjpaadoor", sum := "263c971b2dd5a62609ee0408046cd1260f0fd9a3b8c6355f69e36ee069286256", func := "thwart/thwartlaw03.HsumSums", spec := "hsumSums", named := ["unicode/utf8.first", "unicode/utf8.acceptRanges"], apart := false, laid := [("unicode/utf8.acceptRanges", laid_unicode_utf8_acceptRanges), ("unicode/utf8.first", laid_unicode_utf8_first)] }
def HsumSumsSaid : Prop := hsumSumsRow.holds Tryd.pinned (OpenSpec.ofChange hsumSumsSpec)

/-- ITS FALSE NEIGHBOUR: 'it returns false'. Refute it at one input. -/
def hsumSumsWrong : ChangeSpec := { name := "hsumSums", fn := fun _ => fun
  | [d1, d2] => { results := [.lit (.bool false)], args := [d1, d2] }
  | _ => none }
def HsumSumsWrongFalsely : Prop := hsumSumsRow.holds Tryd.pinned (OpenSpec.ofChange hsumSumsWrong)

/-- 'thwartlaw03.HsumFinds': WHATEVER THE INPUT: true; the input reads as it did. -/
def hsumFindsSpec : ChangeSpec := { name := "hsumFinds", fn := fun _ => fun
  | [d1, d2, d3] => { results := [.lit (.bool true)], args := [d1, d2, d3] }
  | _ => none }
def hsumFindsRow : OpenClaim := { program := "ythnkjmckdcmjpaadoor", sum := "263c971b2dd5a62609ee0408046cd1260f0fd9a3b8c6355f69e36ee069286256", func := "thwart/thwartlaw03.HsumFinds", spec := "hsumFinds", named := ["unicode/utf8.first", "unicode/utf8.acceptRanges"], apart := false, laid := [("unicode/utf8.acceptRanges", laid_unicode_utf8_acceptRanges), ("unicode/utf8.first", laid_unicode_utf8_first)] }
def HsumFindsSaid : Prop := hsumFindsRow.holds Tryd.pinned (OpenSpec.ofChange hsumFindsSpec)

/-- ITS FALSE NEIGHBOUR: 'it returns false'. Refute it at one input. -/
def hsumFindsWrong : ChangeSpec := { name := "hsumFinds", fn := fun _ => fun
  | [d1, d2, d3] => { results := [.lit (.bool false)], args := [d1, d2, d3] }
  | _ => none }
def HsumFindsWrongFalsely : Prop := hsumFindsRow.holds Tryd.pinned (OpenSpec.ofChange hsumFindsWrong)

/-- 'thwartlaw03.HsumAlone': WHATEVER THE INPUT: true; the input reads as it did. -/
def hsumAloneSpec : ChangeSpec := { name := "hsumAlone", fn := fun _ => fun
  | [d1, d2, d3] => { results := [.lit (.bool true)], args := [d1, d2, d3] }
  | _ => none }
def hsumAloneRow : OpenClaim := { program := "ythnkjmckdcmjpaadoor", sum := "263c971b2dd5a62609ee0408046cd1260f0fd9a3b8c6355f69e36ee069286256", func := "thwart/thwartlaw03.HsumAlone", spec := "hsumAlone", named := ["unicode/utf8.first", "unicode/utf8.acceptRanges"], apart := false, laid := [("unicode/utf8.acceptRanges", laid_unicode_utf8_acceptRanges), ("unicode/utf8.first", laid_unicode_utf8_first)] }
def HsumAloneSaid : Prop := hsumAloneRow.holds Tryd.pinned (OpenSpec.ofChange hsumAloneSpec)

/-- ITS FALSE NEIGHBOUR: 'it returns false'. Refute it at one input. -/
def hsumAloneWrong : ChangeSpec := { name := "hsumAlone", fn := fun _ => fun
  | [d1, d2, d3] => { results := [.lit (.bool false)], args := [d1, d2, d3] }
  | _ => none }
def HsumAloneWrongFalsely : Prop := hsumAloneRow.holds Tryd.pinned (OpenSpec.ofChange hsumAloneWrong)

/- THE SECOND FORM. 'bulk': how many values and letters a reading holds, each counted each time it is reached (what is shared counts as often as it is met; a slice's spare places count too). A statement '..UptoSaid' is the law's where the arguments, and the package variables that the reading takes, are together of bulk at most 1048576: NARROWER than '..Said'. Prove '..Said' where nothing that the law and all that it calls make is longer than what came in: it says more and counts as full. Else prove '..UptoSaid'. A law counts once. -/
mutual
def uptoBulk {H : Type} : DataW H → Nat
  | .lit (.string bytes) => bytes.length + 1
  | .lit _ => 1
  | .nil => 1
  | .ptr d => uptoBulk d + 1
  | .slice elems spare => uptoBulkAll elems + uptoBulkAll spare + 1
  | .agg parts => uptoBulkAll parts + 1
  | .iface _ d => uptoBulk d + 1
  | .map entries => uptoBulkEntries entries + 1
  | .held _ => 1
def uptoBulkAll {H : Type} : List (DataW H) → Nat
  | [] => 0
  | d :: r => uptoBulk d + uptoBulkAll r
def uptoBulkEntries {H : Type} : List (Lit × DataW H) → Nat
  | [] => 0
  | x :: r => uptoBulkEntry x + uptoBulkEntries r
def uptoBulkEntry {H : Type} : Lit × DataW H → Nat
  | (.string bytes, d) => bytes.length + uptoBulk d + 1
  | (_, d) => uptoBulk d + 1
 end
def uptoSmall : (H : Type) → List (DataW H) → Bool := fun _ ds => decide (uptoBulkAll ds ≤ 1048576)
def OpenSpec.upto (s : _root_.Go.ChangeSpec) : _root_.Go.OpenSpec := { _root_.Go.OpenSpec.ofChange s with cond := some uptoSmall }

/-- 'thwartlaw03.HsumSums', WHERE WHAT IT READS IS OF BULK AT MOST 1048576: true; the input reads as it did. -/
def hsumSumsUptoRow : OpenClaim := { program := "ythnkjmckdcmjpaadoor", sum := "263c971b2dd5a62609ee0408046cd1260f0fd9a3b8c6355f69e36ee069286256", func := "thwart/thwartlaw03.HsumSums", spec := "hsumSums", named := ["unicode/utf8.first", "unicode/utf8.acceptRanges"], apart := false, laid := [("unicode/utf8.acceptRanges", laid_unicode_utf8_acceptRanges), ("unicode/utf8.first", laid_unicode_utf8_first)], narrowed := true }
def HsumSumsUptoSaid : Prop := hsumSumsUptoRow.holds Tryd.pinned (OpenSpec.upto hsumSumsSpec)

/-- 'thwartlaw03.HsumFinds', WHERE WHAT IT READS IS OF BULK AT MOST 1048576: true; the input reads as it did. -/
def hsumFindsUptoRow : OpenClaim := { program := "ythnkjmckdcmjpaadoor", sum := "263c971b2dd5a62609ee0408046cd1260f0fd9a3b8c6355f69e36ee069286256", func := "thwart/thwartlaw03.HsumFinds", spec := "hsumFinds", named := ["unicode/utf8.first", "unicode/utf8.acceptRanges"], apart := false, laid := [("unicode/utf8.acceptRanges", laid_unicode_utf8_acceptRanges), ("unicode/utf8.first", laid_unicode_utf8_first)], narrowed := true }
def HsumFindsUptoSaid : Prop := hsumFindsUptoRow.holds Tryd.pinned (OpenSpec.upto hsumFindsSpec)

/-- 'thwartlaw03.HsumAlone', WHERE WHAT IT READS IS OF BULK AT MOST 1048576: true; the input reads as it did. -/
def hsumAloneUptoRow : OpenClaim := { program := "ythnkjmckdcmjpaadoor", sum := "263c971b2dd5a62609ee0408046cd1260f0fd9a3b8c6355f69e36ee069286256", func := "thwart/thwartlaw03.HsumAlone", spec := "hsumAlone", named := ["unicode/utf8.first", "unicode/utf8.acceptRanges"], apart := false, laid := [("unicode/utf8.acceptRanges", laid_unicode_utf8_acceptRanges), ("unicode/utf8.first", laid_unicode_utf8_first)], narrowed := true }
def HsumAloneUptoSaid : Prop := hsumAloneUptoRow.holds Tryd.pinned (OpenSpec.upto hsumAloneSpec)

end Rows
end Go.Proofs.YthnkjmckdcmjpaaDoor
