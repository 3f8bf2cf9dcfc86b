/-
  No cell of these rows narrows 'for every input' (looked for: loops, veiled, ifaces, maps, wideKeys, modest, calm, conditions, laid).
  DERIVED. THE GIVEN ROWS OF THIS SEAT. 3 by the template 'for every input the law returns true; each argument reads behind the call as it read before'; 0 by the template 'total and deterministic' (their statements: YtemkieakcnodjaaTotals.lean).
  GIVEN WITH THE SEED: the statements are not yours to turn. If you find one false, say at which input.
  Laid BY PROGRAM, IN A SANDBOX (cutbox-rows.mjs): the forced cells as the released guide's own fill.sh prints them over the translation a3a087671e004e9c… (all of the seat's roots in one cut). By AI agents, Wed Nov 11 2026. No macro, syntax, notation, axiom, sorry.
-/
import Derived.Test.YtemkieakcnodjaaChecked
import GoSem.Claim
import GoSem.ClaimJoined
import GoSem.ClaimMapViews
import Derived.JoinedTies
import Derived.KernelRfl
namespace Go.Proofs.Ytemkieakcnodjaa
/- THE CELL 'sum', in the pinned program and in every row, IS THE sha256 OF THE DUMP (.gsa) THAT YtemkieakcnodjaaProg.lean LOADS. Nothing in Lean hashes anything: it is a label: what it is worth is what the hold of that sum in a sandbox is worth. -/
noncomputable def Try.pinned : Pinned := { name := "ytemkieakcnodjaa", sum := "a3a087671e004e9c25f25f8018f373e598b451f965d73428eff3b5bf0a75c63e", checked := Try.checked }
namespace Rows
def none {H : Type} : Left H := { results := [], args := [] }

/-- 'thwartlaw18.DialTurns': WHATEVER THE INPUT: true; the input reads as it did. -/
def dialTurnsSpec : ChangeSpec := { name := "dialTurns", fn := fun _ => fun
  | [d1, d2, d3] => { results := [.lit (.bool true)], args := [d1, d2, d3] }
  | _ => none }
def dialTurnsRow : OpenClaim := { program := "ytemkieakcnodjaa", sum := "a3a087671e004e9c25f25f8018f373e598b451f965d73428eff3b5bf0a75c63e", func := "thwart/thwartlaw18.DialTurns", spec := "dialTurns", apart := false }
def DialTurnsSaid : Prop := dialTurnsRow.holds Try.pinned (OpenSpec.ofChange dialTurnsSpec)

/-- ITS FALSE NEIGHBOUR: 'it returns false'. Refute it at one input. -/
def dialTurnsWrong : ChangeSpec := { name := "dialTurns", fn := fun _ => fun
  | [d1, d2, d3] => { results := [.lit (.bool false)], args := [d1, d2, d3] }
  | _ => none }
def DialTurnsWrongFalsely : Prop := dialTurnsRow.holds Try.pinned (OpenSpec.ofChange dialTurnsWrong)

/-- 'thwartlaw18.DialEpochs': WHATEVER THE INPUT: true; the input reads as it did. -/
def dialEpochsSpec : ChangeSpec := { name := "dialEpochs", fn := fun _ => fun
  | [d1, d2, d3] => { results := [.lit (.bool true)], args := [d1, d2, d3] }
  | _ => none }
def dialEpochsRow : OpenClaim := { program := "ytemkieakcnodjaa", sum := "a3a087671e004e9c25f25f8018f373e598b451f965d73428eff3b5bf0a75c63e", func := "thwart/thwartlaw18.DialEpochs", spec := "dialEpochs", apart := false }
def DialEpochsSaid : Prop := dialEpochsRow.holds Try.pinned (OpenSpec.ofChange dialEpochsSpec)

/-- ITS FALSE NEIGHBOUR: 'it returns false'. Refute it at one input. -/
def dialEpochsWrong : ChangeSpec := { name := "dialEpochs", fn := fun _ => fun
  | [d1, d2, d3] => { results := [.lit (.bool false)], args := [d1, d2, d3] }
  | _ => none }
def DialEpochsWrongFalsely : Prop := dialEpochsRow.holds Try.pinned (OpenSpec.ofChange dialEpochsWrong)

/-- 'thwartlaw18.DialNext': WHATEVER THE INPUT: true; the input reads as it did. -/
def dialNextSpec : ChangeSpec := { name := "dialNext", fn := fun _ => fun
  | [d1, d2] => { results := [.lit (.bool true)], args := [d1, d2] }
  | _ => none }
def dialNextRow : OpenClaim := { program := "ytemkieakcnodjaa", sum := "a3a087671e004e9c25f25f8018f373e598b451f965d73428eff3b5bf0a75c63e", func := "thwart/thwartlaw18.DialNext", spec := "dialNext", apart := false }
def DialNextSaid : Prop := dialNextRow.holds Try.pinned (OpenSpec.ofChange dialNextSpec)

/-- ITS FALSE NEIGHBOUR: 'it returns false'. Refute it at one input. -/
def dialNextWrong : ChangeSpec := { name := "dialNext", fn := fun _ => fun
  | [d1, d2] => { results := [.lit (.bool false)], args := [d1, d2] }
  | _ => none }
def DialNextWrongFalsely : Prop := dialNextRow.holds Try.pinned (OpenSpec.ofChange dialNextWrong)

/- THE SECOND FORM. 'bulk': how many values and letters a reading holds, each counted each time it is reached (what is shared counts as often as it is met; a slice's spare places count too). A statement '..UptoSaid' is the law's where the arguments, and the package variables that the reading takes, are together of bulk at most 1048576: NARROWER than '..Said'. Prove '..Said' where nothing that the law and all that it calls make is longer than what came in: it says more and counts as full. Else prove '..UptoSaid'. A law counts once. -/
mutual
def uptoBulk {H : Type} : DataW H → Nat
  | .lit (.string bytes) => bytes.length + 1
  | .lit _ => 1
  | .nil => 1
  | .ptr d => uptoBulk d + 1
  | .slice elems spare => uptoBulkAll elems + uptoBulkAll spare + 1
  | .agg parts => uptoBulkAll parts + 1
  | .iface _ d => uptoBulk d + 1
  | .map entries => uptoBulkEntries entries + 1
  | .held _ => 1
def uptoBulkAll {H : Type} : List (DataW H) → Nat
  | [] => 0
  | d :: r => uptoBulk d + uptoBulkAll r
def uptoBulkEntries {H : Type} : List (Lit × DataW H) → Nat
  | [] => 0
  | x :: r => uptoBulkEntry x + uptoBulkEntries r
def uptoBulkEntry {H : Type} : Lit × DataW H → Nat
  | (.string bytes, d) => bytes.length + uptoBulk d + 1
  | (_, d) => uptoBulk d + 1
 end
def uptoSmall : (H : Type) → List (DataW H) → Bool := fun _ ds => decide (uptoBulkAll ds ≤ 1048576)
def OpenSpec.upto (s : _root_.Go.ChangeSpec) : _root_.Go.OpenSpec := { _root_.Go.OpenSpec.ofChange s with cond := some uptoSmall }

/-- 'thwartlaw18.DialTurns', WHERE WHAT IT READS IS OF BULK AT MOST 1048576: true; the input reads as it did. -/
def dialTurnsUptoRow : OpenClaim := { program := "ytemkieakcnodjaa", sum := "a3a087671e004e9c25f25f8018f373e598b451f965d73428eff3b5bf0a75c63e", func := "thwart/thwartlaw18.DialTurns", spec := "dialTurns", apart := false, narrowed := true }
def DialTurnsUptoSaid : Prop := dialTurnsUptoRow.holds Try.pinned (OpenSpec.upto dialTurnsSpec)

/-- 'thwartlaw18.DialEpochs', WHERE WHAT IT READS IS OF BULK AT MOST 1048576: true; the input reads as it did. -/
def dialEpochsUptoRow : OpenClaim := { program := "ytemkieakcnodjaa", sum := "a3a087671e004e9c25f25f8018f373e598b451f965d73428eff3b5bf0a75c63e", func := "thwart/thwartlaw18.DialEpochs", spec := "dialEpochs", apart := false, narrowed := true }
def DialEpochsUptoSaid : Prop := dialEpochsUptoRow.holds Try.pinned (OpenSpec.upto dialEpochsSpec)

/-- 'thwartlaw18.DialNext', WHERE WHAT IT READS IS OF BULK AT MOST 1048576: true; the input reads as it did. -/
def dialNextUptoRow : OpenClaim := { program := "ytemkieakcnodjaa", sum := "a3a087671e004e9c25f25f8018f373e598b451f965d73428eff3b5bf0a75c63e", func := "thwart/thwartlaw18.DialNext", spec := "dialNext", apart := false, narrowed := true }
def DialNextUptoSaid : Prop := dialNextUptoRow.holds Try.pinned (OpenSpec.upto dialNextSpec)

end Rows
end Go.Proofs.Ytemkieakcnodjaa
