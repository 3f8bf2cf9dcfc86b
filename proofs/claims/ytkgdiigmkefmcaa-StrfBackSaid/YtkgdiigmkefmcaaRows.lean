/-
  No cell of these rows narrows 'for every input' (looked for: loops, veiled, ifaces, maps, wideKeys, modest, calm, conditions, laid).
  DERIVED. THE GIVEN ROWS OF THIS SEAT. 3 by the template 'for every input the law returns true; each argument reads behind the call as it read before'; 0 by the template 'total and deterministic' (their statements: YtkgdiigmkefmcaaTotals.lean).
  GIVEN WITH THE SEED: the statements are not yours to turn. If you find one false, say at which input.
  Laid BY PROGRAM, IN A SANDBOX (cutbox-rows.mjs): the forced cells as the released guide's own fill.sh prints them over the translation 9d2184acd38fd9b3… (all of the seat's roots in one cut). By AI agents, Wed Nov 11 2026. No macro, syntax, notation, axiom, sorry.
-/
import Derived.Test.YtkgdiigmkefmcaaChecked
import GoSem.Claim
import GoSem.ClaimJoined
import GoSem.ClaimMapViews
import Derived.JoinedTies
import Derived.KernelRfl
namespace Go.Proofs.Ytkgdiigmkefmcaa
/- THE CELL 'sum', in the pinned program and in every row, IS THE sha256 OF THE DUMP (.gsa) THAT YtkgdiigmkefmcaaProg.lean LOADS. Nothing in Lean hashes anything: it is a label: what it is worth is what the hold of that sum in a sandbox is worth. -/
noncomputable def Try.pinned : Pinned := { name := "ytkgdiigmkefmcaa", sum := "9d2184acd38fd9b390529dc707590eb38986ee8c611b21ea2bf0bf97889c7797", checked := Try.checked }
namespace Rows
def none {H : Type} : Left H := { results := [], args := [] }

/-- 'thwartlaw02.StrfLays': WHATEVER THE INPUT: true; the input reads as it did. -/
def strfLaysSpec : ChangeSpec := { name := "strfLays", fn := fun _ => fun
  | [d1, d2, d3] => { results := [.lit (.bool true)], args := [d1, d2, d3] }
  | _ => none }
def strfLaysRow : OpenClaim := { program := "ytkgdiigmkefmcaa", sum := "9d2184acd38fd9b390529dc707590eb38986ee8c611b21ea2bf0bf97889c7797", func := "thwart/thwartlaw02.StrfLays", spec := "strfLays", inPlace := ["internal/bytealg.IndexByteString", "internal/bytealg.IndexByte", "internal/bytealg.Index"], named := ["internal/bytealg.MaxLen"], apart := false }
def StrfLaysSaid : Prop := strfLaysRow.holds Try.pinned (OpenSpec.ofChange strfLaysSpec)

/-- ITS FALSE NEIGHBOUR: 'it returns false'. Refute it at one input. -/
def strfLaysWrong : ChangeSpec := { name := "strfLays", fn := fun _ => fun
  | [d1, d2, d3] => { results := [.lit (.bool false)], args := [d1, d2, d3] }
  | _ => none }
def StrfLaysWrongFalsely : Prop := strfLaysRow.holds Try.pinned (OpenSpec.ofChange strfLaysWrong)

/-- 'thwartlaw02.StrfSplits': WHATEVER THE INPUT: true; the input reads as it did. -/
def strfSplitsSpec : ChangeSpec := { name := "strfSplits", fn := fun _ => fun
  | [d1, d2] => { results := [.lit (.bool true)], args := [d1, d2] }
  | _ => none }
def strfSplitsRow : OpenClaim := { program := "ytkgdiigmkefmcaa", sum := "9d2184acd38fd9b390529dc707590eb38986ee8c611b21ea2bf0bf97889c7797", func := "thwart/thwartlaw02.StrfSplits", spec := "strfSplits", inPlace := ["internal/bytealg.IndexByteString", "internal/bytealg.IndexByte", "internal/bytealg.Index"], named := ["internal/bytealg.MaxLen"], apart := false }
def StrfSplitsSaid : Prop := strfSplitsRow.holds Try.pinned (OpenSpec.ofChange strfSplitsSpec)

/-- ITS FALSE NEIGHBOUR: 'it returns false'. Refute it at one input. -/
def strfSplitsWrong : ChangeSpec := { name := "strfSplits", fn := fun _ => fun
  | [d1, d2] => { results := [.lit (.bool false)], args := [d1, d2] }
  | _ => none }
def StrfSplitsWrongFalsely : Prop := strfSplitsRow.holds Try.pinned (OpenSpec.ofChange strfSplitsWrong)

/-- 'thwartlaw02.StrfBack': WHATEVER THE INPUT: true; the input reads as it did. -/
def strfBackSpec : ChangeSpec := { name := "strfBack", fn := fun _ => fun
  | [d1, d2] => { results := [.lit (.bool true)], args := [d1, d2] }
  | _ => none }
def strfBackRow : OpenClaim := { program := "ytkgdiigmkefmcaa", sum := "9d2184acd38fd9b390529dc707590eb38986ee8c611b21ea2bf0bf97889c7797", func := "thwart/thwartlaw02.StrfBack", spec := "strfBack", inPlace := ["internal/bytealg.IndexByteString", "internal/bytealg.IndexByte", "internal/bytealg.Index"], named := ["internal/bytealg.MaxLen"], apart := false }
def StrfBackSaid : Prop := strfBackRow.holds Try.pinned (OpenSpec.ofChange strfBackSpec)

/-- ITS FALSE NEIGHBOUR: 'it returns false'. Refute it at one input. -/
def strfBackWrong : ChangeSpec := { name := "strfBack", fn := fun _ => fun
  | [d1, d2] => { results := [.lit (.bool false)], args := [d1, d2] }
  | _ => none }
def StrfBackWrongFalsely : Prop := strfBackRow.holds Try.pinned (OpenSpec.ofChange strfBackWrong)

/- THE SECOND FORM. 'bulk': how many values and letters a reading holds, each counted each time it is reached (what is shared counts as often as it is met; a slice's spare places count too). A statement '..UptoSaid' is the law's where the arguments, and the package variables that the reading takes, are together of bulk at most 1048576: NARROWER than '..Said'. Prove '..Said' where nothing that the law and all that it calls make is longer than what came in: it says more and counts as full. Else prove '..UptoSaid'. A law counts once. -/
mutual
def uptoBulk {H : Type} : DataW H → Nat
  | .lit (.string bytes) => bytes.length + 1
  | .lit _ => 1
  | .nil => 1
  | .ptr d => uptoBulk d + 1
  | .slice elems spare => uptoBulkAll elems + uptoBulkAll spare + 1
  | .agg parts => uptoBulkAll parts + 1
  | .iface _ d => uptoBulk d + 1
  | .map entries => uptoBulkEntries entries + 1
  | .held _ => 1
def uptoBulkAll {H : Type} : List (DataW H) → Nat
  | [] => 0
  | d :: r => uptoBulk d + uptoBulkAll r
def uptoBulkEntries {H : Type} : List (Lit × DataW H) → Nat
  | [] => 0
  | x :: r => uptoBulkEntry x + uptoBulkEntries r
def uptoBulkEntry {H : Type} : Lit × DataW H → Nat
  | (.string bytes, d) => bytes.length + uptoBulk d + 1
  | (_, d) => uptoBulk d + 1
 end
def uptoSmall : (H : Type) → List (DataW H) → Bool := fun _ ds => decide (uptoBulkAll ds ≤ 1048576)
def OpenSpec.upto (s : _root_.Go.ChangeSpec) : _root_.Go.OpenSpec := { _root_.Go.OpenSpec.ofChange s with cond := some uptoSmall }

/-- 'thwartlaw02.StrfLays', WHERE WHAT IT READS IS OF BULK AT MOST 1048576: true; the input reads as it did. -/
def strfLaysUptoRow : OpenClaim := { program := "ytkgdiigmkefmcaa", sum := "9d2184acd38fd9b390529dc707590eb38986ee8c611b21ea2bf0bf97889c7797", func := "thwart/thwartlaw02.StrfLays", spec := "strfLays", inPlace := ["internal/bytealg.IndexByteString", "internal/bytealg.IndexByte", "internal/bytealg.Index"], named := ["internal/bytealg.MaxLen"], apart := false, narrowed := true }
def StrfLaysUptoSaid : Prop := strfLaysUptoRow.holds Try.pinned (OpenSpec.upto strfLaysSpec)

/-- 'thwartlaw02.StrfSplits', WHERE WHAT IT READS IS OF BULK AT MOST 1048576: true; the input reads as it did. -/
def strfSplitsUptoRow : OpenClaim := { program := "ytkgdiigmkefmcaa", sum := "9d2184acd38fd9b390529dc707590eb38986ee8c611b21ea2bf0bf97889c7797", func := "thwart/thwartlaw02.StrfSplits", spec := "strfSplits", inPlace := ["internal/bytealg.IndexByteString", "internal/bytealg.IndexByte", "internal/bytealg.Index"], named := ["internal/bytealg.MaxLen"], apart := false, narrowed := true }
def StrfSplitsUptoSaid : Prop := strfSplitsUptoRow.holds Try.pinned (OpenSpec.upto strfSplitsSpec)

/-- 'thwartlaw02.StrfBack', WHERE WHAT IT READS IS OF BULK AT MOST 1048576: true; the input reads as it did. -/
def strfBackUptoRow : OpenClaim := { program := "ytkgdiigmkefmcaa", sum := "9d2184acd38fd9b390529dc707590eb38986ee8c611b21ea2bf0bf97889c7797", func := "thwart/thwartlaw02.StrfBack", spec := "strfBack", inPlace := ["internal/bytealg.IndexByteString", "internal/bytealg.IndexByte", "internal/bytealg.Index"], named := ["internal/bytealg.MaxLen"], apart := false, narrowed := true }
def StrfBackUptoSaid : Prop := strfBackUptoRow.holds Try.pinned (OpenSpec.upto strfBackSpec)

end Rows
end Go.Proofs.Ytkgdiigmkefmcaa
