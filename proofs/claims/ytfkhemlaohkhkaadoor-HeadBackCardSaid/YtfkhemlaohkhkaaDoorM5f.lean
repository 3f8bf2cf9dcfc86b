/- PLAIN MATHEMATICS OF LAYER 5, SIXTH PART: what is not laid is empty. No Go text is named. -/
import Derived.Test.YtfkhemlaohkhkaaDoorM5
namespace Go.Proofs.YtfkhemlaohkhkaaDoor
open Go.RowKit
namespace Hh
theorem putS_zero (W : List Int) (h : (Hs.putS W).2 ≠ 0) : Hs.putS W = ([], (Hs.putS W).2) := by
  unfold Hs.putS at *
  split
  · rename_i h1
    rw [if_pos h1] at h
    exact absurd rfl h
  · rfl
theorem layS_bad (p nm l : ByteArray) (m u g t z k : Int) (h : (layS p nm l m u g t z k).2 ≠ 0) : (layS p nm l m u g t z k).1 = [] := by
  unfold layS at *
  by_cases c0 : isT k = true
  · rw [if_pos c0] at h ⊢
    by_cases c1 : (Sf.putS p 155).2 = 0
    · rw [if_pos c1] at h ⊢
      by_cases c2 : (Sf.putS nm 100).2 = 0
      · rw [if_pos c2] at h ⊢
        by_cases c3 : (Sf.putS l 100).2 = 0
        · rw [if_pos c3] at h ⊢
          by_cases c4 : (Nf.putS m 8).2 = 0
          · rw [if_pos c4] at h ⊢
            by_cases c5 : (Nf.putS u 8).2 = 0
            · rw [if_pos c5] at h ⊢
              by_cases c6 : (Nf.putS g 8).2 = 0
              · rw [if_pos c6] at h ⊢
                by_cases c7 : (Nf.putS z 12).2 = 0
                · rw [if_pos c7] at h ⊢
                  by_cases c8 : (Nf.putS t 12).2 = 0
                  · rw [if_pos c8] at h ⊢
                    by_cases c9 : bel m u g z = true
                    · rw [if_pos c9]
                    · rw [if_neg c9] at h ⊢
                      rw [putS_zero _ h]
                  · rw [if_neg c8]
                · rw [if_neg c7]
              · rw [if_neg c6]
            · rw [if_neg c5]
          · rw [if_neg c4]
        · rw [if_neg c3]
      · rw [if_neg c2]
    · rw [if_neg c1]
  · rw [if_neg c0]
end Hh
end Go.Proofs.YtfkhemlaohkhkaaDoor
