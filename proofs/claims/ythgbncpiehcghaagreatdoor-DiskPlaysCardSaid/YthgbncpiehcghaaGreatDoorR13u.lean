/- A TREE AND THE DOCUMENT's, SIDE BY SIDE: what a store into another box, a call beside, leaves. -/
import Derived.Test.YthgbncpiehcghaaGreatDoorGu1
import Derived.Test.YthgbncpiehcghaaGreatDoorGr2
namespace Go.Proofs.YthgbncpiehcghaaGreatDoor
set_option linter.unusedVariables false
open Go Go.RowKit Go.Maps
set_option maxRecDepth 100000
set_option maxHeartbeats 8000000
open Nt (Tr Nd WF Ps Path at_ cnt used txt)
theorem tree13_not {cs : Array Value} {fz : Nat × Nat} : ¬ TreeObj (.cells cs 29 fz) := by
  rintro (⟨_, _, h⟩ | ⟨_, _, _, h, h1 | h1⟩)
  · cases h
  · cases h; cases h1
  · cases h; cases h1
theorem node13_not {cs : Array Value} {fz : Nat × Nat} : ¬ TreeObj (.cells cs 114 fz) := by
  rintro (⟨_, _, h⟩ | ⟨_, _, _, h, h1 | h1⟩)
  · cases h
  · cases h; cases h1
  · cases h; cases h1
theorem at13_not {cs : Array Value} {fz : Nat × Nat} : ¬ TreeObj (.cells cs 45 fz) := by
  rintro (⟨_, _, h⟩ | ⟨_, _, _, h, h1 | h1⟩)
  · cases h
  · cases h; cases h1
  · cases h; cases h1
section
variable {w0 w w' : World} {tb K r : Nat} {T : Tr} {U : TypeId} {cs : Array Value}
theorem At.oth (h : At w0 w tb T K) (ho : Oth r w w') (hb : BX w r U cs) (hU : ¬ TreeObj (.cells cs U (0, 0))) (hr : w0.heap.size ≤ r) : At w0 w' tb T K := by
  obtain ⟨F, ad, mb, hF, hR⟩ := h.rep
  refine ⟨h.wf, h.low.trans (ho.below hr h.low.size), _, ad, mb, fun k hk => ⟨(hF k (hR.fm hk)).1, Nat.lt_of_lt_of_le (hF k (hR.fm hk)).2 ho.2.2.2.1⟩, hR.min.kept fun k hk hl => ho.2.2.2.2 k hl ?_⟩
  rintro rfl
  obtain ⟨o, h1, h2⟩ := hR.min.sort hk
  rw [hb] at h1
  cases h1
  exact hU h2
theorem At.drew (h : At w0 w tb T K) : At w0 w.drew tb T K := h.later (Below.refl _ _).drew
theorem At.rebase {v : World} (h : At w0 w tb T K) (hb : Below v.heap.size v w0) : At v w tb T K :=
  let ⟨F, ad, mb, hF, hR⟩ := h.rep
  ⟨h.wf, hb.trans (h.low.mono hb.size), F, ad, mb, fun k hk => ⟨Nat.le_trans hb.size (hF k hk).1, (hF k hk).2⟩, hR⟩
theorem set4b {a : Nat} {c0 c1 c2 c3 : Value} (hx : BX w a U #[c0, c1, c2, c3]) (v0 v1 v2 v3 : Value) :
    ∃ V, (((w.setCell ⟨a, 0, none⟩ v0).setCell ⟨a, 1, none⟩ v1).setCell ⟨a, 2, none⟩ v2).setCell ⟨a, 3, none⟩ v3 = V ∧ BX V a U #[v0, v1, v2, v3] ∧ Oth a w V :=
  ⟨_, rfl, by have h9 := (((hx.set 0 v0).set 1 v1).set 2 v2).set 3 v3; simpa using h9, ((((Oth.refl a w).setCell 0 v0).setCell 1 v1).setCell 2 v2).setCell 3 v3⟩
end
end Go.Proofs.YthgbncpiehcghaaGreatDoor
