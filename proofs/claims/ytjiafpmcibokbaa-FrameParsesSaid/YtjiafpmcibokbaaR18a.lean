/- LAYER 18, the document's answers. -/
import Derived.Test.YtjiafpmcibokbaaD18b
namespace Go.Proofs.Ytjiafpmcibokbaa
open Go.RowKit
set_option maxHeartbeats 1600000
set_option maxRecDepth 100000
set_option linter.unusedVariables false
namespace Dl
/-- The parts of i to the power of k, as numbers. -/
def xp (k : Nat) : Int := if k = 0 then 1 else if k = 2 then -1 else 0
def yp (k : Nat) : Int := if k = 1 then 1 else if k = 3 then -1 else 0
end Dl
theorem refmark_any (s r : Nat) (w : World) :
    Calls Try.prog 28 #[Dl.EV s r] w fun e w' => e = .returned (.int .u8 (Dl.mark s r : Nat)) ∧ Below w.heap.size w w' := by
  have e : Hid (((s % 4 + r % 4) % 4 : Nat) = Dl.mark s r) := rfl
  go_enter Try.func28, Try.ntmps28
  go_wp2
  go_ret
  refine ⟨?_, (Below.refl _ w).alloc (Nat.le_refl _) _⟩
  rw [← e.out]
  simp
end Go.Proofs.Ytjiafpmcibokbaa
