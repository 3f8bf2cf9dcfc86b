/-
  No cell of these rows narrows 'for every input' (looked for: loops, veiled, ifaces, maps, wideKeys, modest, calm, conditions, laid).
  DERIVED. THE GIVEN ROWS OF THIS SEAT. 4 by the template 'for every input the law returns true; each argument reads behind the call as it read before'; 0 by the template 'total and deterministic' (their statements: YtkbmeikdgbdogaaTotals.lean).
  GIVEN WITH THE SEED: the statements are not yours to turn. If you find one false, say at which input.
  Laid BY PROGRAM, IN A SANDBOX (cutbox-rows.mjs): the forced cells as the released guide's own fill.sh prints them over the translation ce4dce2b0bab891f… (all of the seat's roots in one cut). By AI agents, Wed Nov 11 2026. No macro, syntax, notation, axiom, sorry.
-/
import Derived.Test.YtkbmeikdgbdogaaChecked
import GoSem.Claim
import GoSem.ClaimJoined
import GoSem.ClaimMapViews
import Derived.JoinedTies
import Derived.KernelRfl
namespace Go.Proofs.Ytkbmeikdgbdogaa
/- THE CELL 'sum', in the pinned program and in every row, IS THE sha256 OF THE DUMP (.gsa) THAT YtkbmeikdgbdogaaProg.lean LOADS. Nothing in Lean hashes anything: it is a label: what it is worth is what the hold of that sum in a sandbox is worth. -/
noncomputable def Try.pinned : Pinned := { name := "ytkbmeikdgbdogaa", sum := "ce4dce2b0bab891f3adcf5ceff304e19b41780fe79399afd1fc6761d9adfe0ca", checked := Try.checked }
namespace Rows
def none {H : Type} : Left H := { results := [], args := [] }

/-- 'thwartlaw20.TimerTicks': WHATEVER THE INPUT: true; the input reads as it did. -/
def timerTicksSpec : ChangeSpec := { name := "timerTicks", fn := fun _ => fun
  | [d1, d2] => { results := [.lit (.bool true)], args := [d1, d2] }
  | _ => none }
def timerTicksRow : OpenClaim := { program := "ytkbmeikdgbdogaa", sum := "ce4dce2b0bab891f3adcf5ceff304e19b41780fe79399afd1fc6761d9adfe0ca", func := "thwart/thwartlaw20.TimerTicks", spec := "timerTicks", apart := false }
def TimerTicksSaid : Prop := timerTicksRow.holds Try.pinned (OpenSpec.ofChange timerTicksSpec)

/-- ITS FALSE NEIGHBOUR: 'it returns false'. Refute it at one input. -/
def timerTicksWrong : ChangeSpec := { name := "timerTicks", fn := fun _ => fun
  | [d1, d2] => { results := [.lit (.bool false)], args := [d1, d2] }
  | _ => none }
def TimerTicksWrongFalsely : Prop := timerTicksRow.holds Try.pinned (OpenSpec.ofChange timerTicksWrong)

/-- 'thwartlaw20.TimerStarts': WHATEVER THE INPUT: true; the input reads as it did. -/
def timerStartsSpec : ChangeSpec := { name := "timerStarts", fn := fun _ => fun
  | [d1, d2, d3] => { results := [.lit (.bool true)], args := [d1, d2, d3] }
  | _ => none }
def timerStartsRow : OpenClaim := { program := "ytkbmeikdgbdogaa", sum := "ce4dce2b0bab891f3adcf5ceff304e19b41780fe79399afd1fc6761d9adfe0ca", func := "thwart/thwartlaw20.TimerStarts", spec := "timerStarts", apart := false }
def TimerStartsSaid : Prop := timerStartsRow.holds Try.pinned (OpenSpec.ofChange timerStartsSpec)

/-- ITS FALSE NEIGHBOUR: 'it returns false'. Refute it at one input. -/
def timerStartsWrong : ChangeSpec := { name := "timerStarts", fn := fun _ => fun
  | [d1, d2, d3] => { results := [.lit (.bool false)], args := [d1, d2, d3] }
  | _ => none }
def TimerStartsWrongFalsely : Prop := timerStartsRow.holds Try.pinned (OpenSpec.ofChange timerStartsWrong)

/-- 'thwartlaw20.TimerFires': WHATEVER THE INPUT: true; the input reads as it did. -/
def timerFiresSpec : ChangeSpec := { name := "timerFires", fn := fun _ => fun
  | [d1, d2] => { results := [.lit (.bool true)], args := [d1, d2] }
  | _ => none }
def timerFiresRow : OpenClaim := { program := "ytkbmeikdgbdogaa", sum := "ce4dce2b0bab891f3adcf5ceff304e19b41780fe79399afd1fc6761d9adfe0ca", func := "thwart/thwartlaw20.TimerFires", spec := "timerFires", apart := false }
def TimerFiresSaid : Prop := timerFiresRow.holds Try.pinned (OpenSpec.ofChange timerFiresSpec)

/-- ITS FALSE NEIGHBOUR: 'it returns false'. Refute it at one input. -/
def timerFiresWrong : ChangeSpec := { name := "timerFires", fn := fun _ => fun
  | [d1, d2] => { results := [.lit (.bool false)], args := [d1, d2] }
  | _ => none }
def TimerFiresWrongFalsely : Prop := timerFiresRow.holds Try.pinned (OpenSpec.ofChange timerFiresWrong)

/-- 'thwartlaw20.TimerLongest': WHATEVER THE INPUT: true; the input reads as it did. -/
def timerLongestSpec : ChangeSpec := { name := "timerLongest", fn := fun _ => fun
  | [d] => { results := [.lit (.bool true)], args := [d] }
  | _ => none }
def timerLongestRow : OpenClaim := { program := "ytkbmeikdgbdogaa", sum := "ce4dce2b0bab891f3adcf5ceff304e19b41780fe79399afd1fc6761d9adfe0ca", func := "thwart/thwartlaw20.TimerLongest", spec := "timerLongest", apart := false }
def TimerLongestSaid : Prop := timerLongestRow.holds Try.pinned (OpenSpec.ofChange timerLongestSpec)

/-- ITS FALSE NEIGHBOUR: 'it returns false'. Refute it at one input. -/
def timerLongestWrong : ChangeSpec := { name := "timerLongest", fn := fun _ => fun
  | [d] => { results := [.lit (.bool false)], args := [d] }
  | _ => none }
def TimerLongestWrongFalsely : Prop := timerLongestRow.holds Try.pinned (OpenSpec.ofChange timerLongestWrong)

/- THE SECOND FORM. 'bulk': how many values and letters a reading holds, each counted each time it is reached (what is shared counts as often as it is met; a slice's spare places count too). A statement '..UptoSaid' is the law's where the arguments, and the package variables that the reading takes, are together of bulk at most 1048576: NARROWER than '..Said'. Prove '..Said' where nothing that the law and all that it calls make is longer than what came in: it says more and counts as full. Else prove '..UptoSaid'. A law counts once. -/
mutual
def uptoBulk {H : Type} : DataW H → Nat
  | .lit (.string bytes) => bytes.length + 1
  | .lit _ => 1
  | .nil => 1
  | .ptr d => uptoBulk d + 1
  | .slice elems spare => uptoBulkAll elems + uptoBulkAll spare + 1
  | .agg parts => uptoBulkAll parts + 1
  | .iface _ d => uptoBulk d + 1
  | .map entries => uptoBulkEntries entries + 1
  | .held _ => 1
def uptoBulkAll {H : Type} : List (DataW H) → Nat
  | [] => 0
  | d :: r => uptoBulk d + uptoBulkAll r
def uptoBulkEntries {H : Type} : List (Lit × DataW H) → Nat
  | [] => 0
  | x :: r => uptoBulkEntry x + uptoBulkEntries r
def uptoBulkEntry {H : Type} : Lit × DataW H → Nat
  | (.string bytes, d) => bytes.length + uptoBulk d + 1
  | (_, d) => uptoBulk d + 1
 end
def uptoSmall : (H : Type) → List (DataW H) → Bool := fun _ ds => decide (uptoBulkAll ds ≤ 1048576)
def OpenSpec.upto (s : _root_.Go.ChangeSpec) : _root_.Go.OpenSpec := { _root_.Go.OpenSpec.ofChange s with cond := some uptoSmall }

/-- 'thwartlaw20.TimerTicks', WHERE WHAT IT READS IS OF BULK AT MOST 1048576: true; the input reads as it did. -/
def timerTicksUptoRow : OpenClaim := { program := "ytkbmeikdgbdogaa", sum := "ce4dce2b0bab891f3adcf5ceff304e19b41780fe79399afd1fc6761d9adfe0ca", func := "thwart/thwartlaw20.TimerTicks", spec := "timerTicks", apart := false, narrowed := true }
def TimerTicksUptoSaid : Prop := timerTicksUptoRow.holds Try.pinned (OpenSpec.upto timerTicksSpec)

/-- 'thwartlaw20.TimerStarts', WHERE WHAT IT READS IS OF BULK AT MOST 1048576: true; the input reads as it did. -/
def timerStartsUptoRow : OpenClaim := { program := "ytkbmeikdgbdogaa", sum := "ce4dce2b0bab891f3adcf5ceff304e19b41780fe79399afd1fc6761d9adfe0ca", func := "thwart/thwartlaw20.TimerStarts", spec := "timerStarts", apart := false, narrowed := true }
def TimerStartsUptoSaid : Prop := timerStartsUptoRow.holds Try.pinned (OpenSpec.upto timerStartsSpec)

/-- 'thwartlaw20.TimerFires', WHERE WHAT IT READS IS OF BULK AT MOST 1048576: true; the input reads as it did. -/
def timerFiresUptoRow : OpenClaim := { program := "ytkbmeikdgbdogaa", sum := "ce4dce2b0bab891f3adcf5ceff304e19b41780fe79399afd1fc6761d9adfe0ca", func := "thwart/thwartlaw20.TimerFires", spec := "timerFires", apart := false, narrowed := true }
def TimerFiresUptoSaid : Prop := timerFiresUptoRow.holds Try.pinned (OpenSpec.upto timerFiresSpec)

/-- 'thwartlaw20.TimerLongest', WHERE WHAT IT READS IS OF BULK AT MOST 1048576: true; the input reads as it did. -/
def timerLongestUptoRow : OpenClaim := { program := "ytkbmeikdgbdogaa", sum := "ce4dce2b0bab891f3adcf5ceff304e19b41780fe79399afd1fc6761d9adfe0ca", func := "thwart/thwartlaw20.TimerLongest", spec := "timerLongest", apart := false, narrowed := true }
def TimerLongestUptoSaid : Prop := timerLongestUptoRow.holds Try.pinned (OpenSpec.upto timerLongestSpec)

end Rows
end Go.Proofs.Ytkbmeikdgbdogaa
