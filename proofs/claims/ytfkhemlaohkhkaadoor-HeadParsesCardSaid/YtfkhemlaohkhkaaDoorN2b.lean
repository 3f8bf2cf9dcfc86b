/- MORE PLAIN MATHEMATICS OF LAYER 2: a text's numbers; what is laid is read. No Go text is named. -/
import Derived.Test.YtfkhemlaohkhkaaDoorN2
namespace Go.Proofs.YtfkhemlaohkhkaaDoor
open Go.RowKit
namespace Sf
theorem str_nums (s : ByteArray) : strOfNums (Sf.nums s) = s := by
  apply ByteArray.ext
  apply Array.toList_inj.1
  rw [Sf.data_strOfNums]
  unfold Sf.nums
  rw [List.map_map]
  conv => rhs; rw [← List.map_id s.data.toList]
  apply List.map_congr_left
  intro x _
  simp
theorem byt_nums (s : ByteArray) : Byt (Sf.nums s) := fun j => by
  by_cases h : j < (Sf.nums s).length
  · have h' : j < s.data.toList.length := by simpa [Sf.nums] using h
    have e : (Sf.nums s).getD j 0 = ((s.data.toList[j]).toNat : Int) := by
      unfold Sf.nums
      simp [List.getD, List.getElem?_map, List.getElem?_eq_getElem h']
    have := (s.data.toList[j]).toNat_lt
    rw [e]; omega
  · simp [List.getD, show ¬ j < (Sf.nums s).length from h]
theorem byt_rep (k : Nat) : Byt (List.replicate k 0) := fun j => by
  by_cases h : j < k <;> simp [List.getD, h]
theorem put_back (s : ByteArray) (k : Int) (h : (Sf.putS s k).2 = 0) : ((Sf.putS s k).1.length : Int) = k ∧ Byt (Sf.putS s k).1 ∧ Sf.getS (Sf.putS s k).1 = (Sf.nums s, 0) := by
  unfold Sf.putS at *
  by_cases h1 : k < 1 ∨ 512 < k
  · rw [if_pos h1] at h; cases h
  · rw [if_neg h1] at h ⊢
    by_cases h2 : Sf.zb s.data.toList < s.size
    · rw [if_pos h2] at h; cases h
    · rw [if_neg h2] at h ⊢
      by_cases h3 : k < s.size
      · rw [if_pos h3] at h; cases h
      · rw [if_neg h3]
        have hl : (Sf.nums s).length = s.size := by simp [Sf.nums]
        have hz : Sf.zi (Sf.nums s) = s.size := by
          have := Sf.zb_strOfNums (Sf.nums s) (byt_nums s)
          rw [str_nums] at this
          have := Sf.zb_size s
          omega
        have hzz : Sf.zi (Sf.nums s ++ List.replicate (k.toNat - s.size) 0) = s.size := by
          apply Sf.zi_eq
          · simp; omega
          · intro j hj
            have := Sf.zi_lt (xs := Sf.nums s) (j := j) (by omega)
            rw [← this]
            simp [List.getD, List.getElem?_append, hl, hj]
          · intro h4
            simp only [List.getD, List.getElem?_append, hl, List.getElem?_replicate]
            simp
            split <;> rfl
        refine ⟨by simp [hl]; omega, Byt.append (byt_nums s) (byt_rep _), ?_⟩
        have hok : Sf.okG (Sf.nums s ++ List.replicate (k.toNat - s.size) 0) = true := by
          unfold Sf.okG
          rw [hzz, List.drop_append_of_le_length (by omega), List.drop_of_length_le (by omega)]
          simp
        unfold Sf.getS Sf.looseS
        rw [hok, hzz, List.take_append_of_le_length (by omega), List.take_of_length_le (by omega)]
        rfl
theorem byt_putS (s : ByteArray) (k : Int) : Byt (putS s k).1 := by
  unfold putS
  split
  · exact Byt.nil
  · split
    · exact Byt.nil
    · split
      · exact Byt.nil
      · exact Byt.append (byt_nums s) (byt_rep _)
theorem put_bad (s : ByteArray) (k : Int) (h : (putS s k).2 ≠ 0) : (putS s k).1 = [] := by
  unfold putS at *
  split
  · rfl
  · split
    · rfl
    · split
      · rfl
      · rename_i h1 h2 h3
        rw [if_neg h1, if_neg h2, if_neg h3] at h
        exact absurd rfl h
end Sf
end Go.Proofs.YtfkhemlaohkhkaaDoor
