/- PLAIN MATHEMATICS OF LAYER 15, FOURTH PART: what a deed keeps. No Go text is named. -/
import Derived.Test.YthgbncpiehcghaaGreatDoorM15c
import Derived.Test.YthgbncpiehcghaaGreatDoorGy3
namespace Go.Proofs.YthgbncpiehcghaaGreatDoor
set_option linter.unusedVariables false
open Go.RowKit
namespace Nt
variable {T : Tr} {K : Nat}
theorem Mok.ap (hW : WF T K) (h : Mok T) (y : Dd) : Mok (ap T y).1 := by
  unfold Nt.ap
  split
  · exact h.mk' _ _
  · split
    · exact h.mk' _ _
    · split
      · exact h.mk' _ _
      · split
        · exact h.lnk _ _
        · split
          · exact h.wr hW _ _ _ _ _
          · split
            · exact h.st _ _ _ _ _
            · split
              · exact h.rm _
              · split
                · exact h.clr _
                · split
                  · exact h.rn _ _
                  · exact h
theorem Bok.ap (hW : WF T K) (h : Bok T) (y : Dd) (hx : Byt y.xs) : Bok (ap T y).1 := by
  unfold Nt.ap
  split
  · exact h.mk' _ _ Byt.nil
  · split
    · exact h.mk' _ _ hx
    · split
      · exact h.mk' _ _ Byt.nil
      · split
        · exact h.lnk _ _
        · split
          · exact h.wr _ _ _ _ _ hx
          · split
            · exact h.st hW _ _ _ _ _
            · split
              · exact h.rm _
              · split
                · exact h.clr _
                · split
                  · exact h.rn _ _
                  · exact h
end Nt
end Go.Proofs.YthgbncpiehcghaaGreatDoor
