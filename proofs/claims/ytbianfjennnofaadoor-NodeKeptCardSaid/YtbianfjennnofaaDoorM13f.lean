/- PLAIN MATHEMATICS OF LAYER 13, SIXTH PART: what a copy has copied. No Go text is named. -/
import Derived.Test.YtbianfjennnofaaDoorGm13
namespace Go.Proofs.YtbianfjennnofaaDoor
set_option linter.unusedVariables false
namespace Nt
variable {T : Tr} {K : Nat}
/-- All that is there is copied, if the root is, and with each Dir its names. -/
theorem all_copied (hW : WF T K) {C : Nat → Prop} (h0 : C 0) (hs : ∀ d n s j, (d, n) ∈ T.paths → (T.nd n).kind = 4 → C n → (d ++ [s], j) ∈ T.paths → C j) : ∀ p n, (p, n) ∈ T.paths → C n := by
  refine rev_ind ?_ ?_
  · intro n hn
    rw [nodup_one hW.nodup hn hW.root]
    exact h0
  · intro p x ih n hn
    obtain ⟨_, _, m, h1, h2⟩ := hW.up p x n hn
    exact hs p m x n h1 h2 (ih m h1) hn
end Nt
end Go.Proofs.YtbianfjennnofaaDoor
