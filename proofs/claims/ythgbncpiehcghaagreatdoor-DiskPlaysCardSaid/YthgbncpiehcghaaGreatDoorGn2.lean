/- PLAIN MATHEMATICS OF LAYER 2 (texts in a header's fields): what the contracts of the walks speak of; no Go text is named. -/
import Derived.Test.YthgbncpiehcghaaGreatDoorBase
import Derived.Lib.Strings
import Derived.Lib.IndexLaws
import Derived.Laws.Concat
import Derived.Lib.BufferWrite
import Derived.Lib.BytesEntry
namespace Go.Proofs.YthgbncpiehcghaaGreatDoor
open Go.RowKit
namespace Sf
/-- The place of the first byte 0; the length, if there is none. -/
def zb (l : List UInt8) : Nat := l.findIdx (· == 0)
def zi (l : List Int) : Nat := l.findIdx (· == 0)
/-- The numbers of a text's bytes. -/
def nums (s : ByteArray) : List Int := s.data.toList.map fun c => (c.toNat : Int)
/-- A text laid in a width, and the error's number. -/
def putS (s : ByteArray) (k : Int) : List Int × Int :=
  if k < 1 ∨ 512 < k then ([], 1) else if zb s.data.toList < s.size then ([], 3) else if k < s.size then ([], 10) else (nums s ++ List.replicate (k.toNat - s.size) 0, 0)
/-- The text of a field, and the error's number. -/
def looseS (xs : List Int) : List Int := xs.take (zi xs)
def okG (xs : List Int) : Bool := (xs.drop (zi xs)).all (· == 0)
def getS (xs : List Int) : List Int × Int := if okG xs then (looseS xs, 0) else ([], 3)
theorem zb_le (l : List UInt8) : zb l ≤ l.length := List.findIdx_le_length
theorem zi_le (l : List Int) : zi l ≤ l.length := List.findIdx_le_length
theorem size_eq (s : ByteArray) : s.size = s.data.toList.length := rfl
theorem zb_size (s : ByteArray) : zb s.data.toList ≤ s.size := by rw [size_eq]; exact zb_le _
theorem zb_lt (s : ByteArray) (j : Nat) (h : j < s.size) (hz : j < zb s.data.toList) : ((s[j].toNat : Int) == 0) = false := by
  have := List.not_of_lt_findIdx (p := (· == 0)) (xs := s.data.toList) hz
  simp at this
  have h2 : s[j] ≠ 0 := this
  simp only [beq_eq_false_iff_ne, ne_eq]
  intro h3
  apply h2
  apply UInt8.toNat_inj.1
  simpa using h3
theorem zb_at (s : ByteArray) (h : zb s.data.toList < s.size) : ((s[zb s.data.toList].toNat : Int) == 0) = true := by
  have := List.findIdx_getElem (p := (· == 0)) (xs := s.data.toList) (w := by rw [← size_eq]; exact h)
  simp at this
  have h2 : s[zb s.data.toList] = 0 := this
  rw [h2]; rfl
theorem zi_lt {xs : List Int} {j : Nat} (hz : j < zi xs) : (xs.getD j 0 == 0) = false := by
  have := List.not_of_lt_findIdx (p := (· == 0)) (xs := xs) hz
  have hl := zi_le xs
  simp [List.getD, show j < xs.length from by omega] at this ⊢
  exact this
theorem zi_at {xs : List Int} (h : zi xs < xs.length) : xs.getD (zi xs) 0 = 0 := by
  have := List.findIdx_getElem (p := (· == 0)) (xs := xs) (w := h)
  simp only [List.getD, List.getElem?_eq_getElem h, Option.getD_some]
  exact beq_iff_eq.1 this
theorem zi_eq {xs : List Int} {k : Nat} (hk : k ≤ xs.length) (h1 : ∀ j, j < k → (xs.getD j 0 == 0) = false) (h2 : k < xs.length → xs.getD k 0 = 0) : zi xs = k := by
  have hl := zi_le xs
  apply Nat.le_antisymm
  · apply Nat.le_of_not_lt
    intro h
    have := zi_lt h
    rw [h2 (by omega)] at this
    simp at this
  · apply Nat.le_of_not_lt
    intro h
    have h3 := h1 _ h
    rw [zi_at (by omega)] at h3
    simp at h3
theorem data_strOfNums (xs : List Int) : (strOfNums xs).data.toList = xs.map fun n => UInt8.ofNat n.toNat := by simp [strOfNums]
theorem size_strOfNums (xs : List Int) : (strOfNums xs).size = xs.length := by rw [size_eq, data_strOfNums, List.length_map]
theorem byt_mem {xs : List Int} (h : Byt xs) : ∀ x ∈ xs, 0 ≤ x ∧ x ≤ 255 := by
  intro x hx
  obtain ⟨i, hi, rfl⟩ := List.getElem_of_mem hx
  have := h i
  simpa [List.getD, hi] using this
theorem findIdx_map_nums : ∀ xs : List Int, (∀ x ∈ xs, 0 ≤ x ∧ x ≤ 255) → (xs.map fun n => UInt8.ofNat n.toNat).findIdx (· == 0) = xs.findIdx (· == 0)
  | [], _ => rfl
  | x :: xs, h => by
    have ih := findIdx_map_nums xs fun y hy => h y (List.mem_cons_of_mem _ hy)
    have hx := h x (List.mem_cons_self ..)
    rw [List.map_cons, List.findIdx_cons, List.findIdx_cons, ih]
    have e : (UInt8.ofNat x.toNat == 0) = (x == 0) := by
      rw [Bool.eq_iff_iff, beq_iff_eq, beq_iff_eq, ← UInt8.toNat_inj]
      simp
      omega
    rw [e]
theorem zb_strOfNums (xs : List Int) (hx : Byt xs) : zb (strOfNums xs).data.toList = zi xs := by
  rw [data_strOfNums]
  exact findIdx_map_nums xs (byt_mem hx)
/-- The place of the first 0, in the words of the library's own IndexByte. -/
theorem indexByte_zb (l : List UInt8) : Lib.indexByte l 0 = if zb l < l.length then (zb l : Int) else -1 := by
  have hge := Lib.indexByte_ge l 0
  by_cases h : Lib.indexByte l 0 = -1
  · have h1 := Lib.indexByte_none h
    rw [h, if_neg]
    intro hz
    have := List.findIdx_getElem (p := (· == 0)) (xs := l) (w := hz)
    apply h1 (zb l)
    rw [List.getElem?_eq_getElem hz]
    exact congrArg some (beq_iff_eq.1 this)
  · obtain ⟨o, ho⟩ : ∃ o : Nat, Lib.indexByte l 0 = o := ⟨(Lib.indexByte l 0).toNat, by omega⟩
    obtain ⟨h1, h2⟩ := Lib.indexByte_some ho
    have hol : o < l.length := (List.getElem?_eq_some_iff.1 h1).1
    have e : zb l = o := by
      unfold zb
      rw [List.findIdx_eq hol]
      refine ⟨by have := (List.getElem?_eq_some_iff.1 h1).2; simp [this], fun j hj => ?_⟩
      have := h2 j hj
      rw [List.getElem?_eq_getElem (by omega)] at this
      simpa using this
    rw [ho, e, if_pos hol]
theorem indexByte_zi (xs : List Int) (hx : Byt xs) : Lib.indexByte (Lib.bytesOf xs) 0 = if zi xs < xs.length then (zi xs : Int) else -1 := by
  have e : zb (Lib.bytesOf xs) = zi xs := findIdx_map_nums xs (byt_mem hx)
  rw [indexByte_zb, e]
  simp [Lib.bytesOf]
/- A PATH PARTED: the place of the byte that parts it. -/
def Ok (s : ByteArray) (k : Nat) : Prop := ∃ h : k < s.size, 1 ≤ k ∧ k + 1 < s.size ∧ k ≤ 155 ∧ s[k] = 47 ∧ s.size ≤ k + 101
def IsCut (s : ByteArray) (k : Nat) : Prop := (k = 0 ∧ ∀ j, ¬ Ok s j) ∨ (Ok s k ∧ ∀ j, j < k → ¬ Ok s j)
theorem least (p : Nat → Prop) : ∀ n, p n → ∃ k, p k ∧ ∀ j, j < k → ¬ p j := by
  intro n
  induction n using Nat.strongRecOn with
  | ind n ih =>
    intro h
    by_cases hx : ∃ j, j < n ∧ p j
    · obtain ⟨j, hj, hp⟩ := hx
      exact ih j hj hp
    · exact ⟨n, h, fun j hj hp => hx ⟨j, hj, hp⟩⟩
theorem cut_ex (s : ByteArray) : ∃ k, IsCut s k := by
  by_cases h : ∃ k, Ok s k
  · obtain ⟨n, hn⟩ := h
    obtain ⟨k, h1, h2⟩ := least _ n hn
    exact ⟨k, .inr ⟨h1, h2⟩⟩
  · exact ⟨0, .inl ⟨rfl, fun j hj => h ⟨j, hj⟩⟩⟩
theorem cut_none {s : ByteArray} {k j : Nat} (hk : IsCut s k) (h : ∀ i, i < j → ¬ Ok s i) (hj : s.size ≤ j + 1 ∨ 155 < j) : k = 0 := by
  rcases hk with ⟨rfl, _⟩ | ⟨h1, _⟩
  · rfl
  · exfalso
    refine h k ?_ h1
    obtain ⟨_, h2, h3, h4, _⟩ := h1
    omega
theorem cut_here {s : ByteArray} {k j : Nat} (hk : IsCut s k) (h : ∀ i, i < j → ¬ Ok s i) (hj : Ok s j) : k = j := by
  rcases hk with ⟨rfl, h0⟩ | ⟨h1, h0⟩
  · exact absurd hj (h0 j)
  · have a : ¬ k < j := fun hl => h k hl h1
    have b : ¬ j < k := fun hl => h0 j hl hj
    omega
theorem not_next {s : ByteArray} {j : Nat} (h : ∀ i, i < j → ¬ Ok s i) (hj : ¬ Ok s j) : ∀ i, i < j + 1 → ¬ Ok s i := by
  intro i hi
  by_cases e : i = j
  · subst e; exact hj
  · exact h i (by omega)
theorem cut_bd {s : ByteArray} {k : Nat} (hk : IsCut s k) (h0 : k ≠ 0) : 1 ≤ k ∧ k + 1 < s.size ∧ k ≤ 155 ∧ s.size ≤ k + 101 := by
  rcases hk with ⟨rfl, _⟩ | ⟨⟨_, a, b, c, _, d⟩, _⟩
  · exact absurd rfl h0
  · exact ⟨a, b, c, d⟩
theorem set_nums (s : ByteArray) (d k : Nat) (hk : k < s.size) (hd : s.size ≤ d) :
    ((nums s).take k ++ List.replicate (d - k) 0).set k (s[k].toNat : Int) = (nums s).take (k + 1) ++ List.replicate (d - (k + 1)) 0 := by
  have hl : (nums s).length = s.size := by simp [nums]
  have e : (nums s)[k]'(by omega) = (s[k].toNat : Int) := by simp [nums]; rfl
  rw [List.set_append_right _ _ (by rw [List.length_take]; omega), List.take_succ_eq_append_getElem (by omega), e, List.length_take, show k - min k (nums s).length = 0 from by omega,
    show d - k = (d - (k + 1)) + 1 from by omega, List.replicate_succ, List.set_cons_zero, List.append_assoc]
  rfl
end Sf
end Go.Proofs.YthgbncpiehcghaaGreatDoor
/- MORE PLAIN MATHEMATICS OF LAYER 2: a text's numbers; what is laid is read. No Go text is named. -/
namespace Go.Proofs.YthgbncpiehcghaaGreatDoor
open Go.RowKit
namespace Sf
theorem str_nums (s : ByteArray) : strOfNums (Sf.nums s) = s := by
  apply ByteArray.ext
  apply Array.toList_inj.1
  rw [Sf.data_strOfNums]
  unfold Sf.nums
  rw [List.map_map]
  conv => rhs; rw [← List.map_id s.data.toList]
  apply List.map_congr_left
  intro x _
  simp
theorem byt_nums (s : ByteArray) : Byt (Sf.nums s) := fun j => by
  by_cases h : j < (Sf.nums s).length
  · have h' : j < s.data.toList.length := by simpa [Sf.nums] using h
    have e : (Sf.nums s).getD j 0 = ((s.data.toList[j]).toNat : Int) := by
      unfold Sf.nums
      simp [List.getD, List.getElem?_map, List.getElem?_eq_getElem h']
    have := (s.data.toList[j]).toNat_lt
    rw [e]; omega
  · simp [List.getD, show ¬ j < (Sf.nums s).length from h]
theorem byt_rep (k : Nat) : Byt (List.replicate k 0) := fun j => by
  by_cases h : j < k <;> simp [List.getD, h]
theorem put_back (s : ByteArray) (k : Int) (h : (Sf.putS s k).2 = 0) : ((Sf.putS s k).1.length : Int) = k ∧ Byt (Sf.putS s k).1 ∧ Sf.getS (Sf.putS s k).1 = (Sf.nums s, 0) := by
  unfold Sf.putS at *
  by_cases h1 : k < 1 ∨ 512 < k
  · rw [if_pos h1] at h; cases h
  · rw [if_neg h1] at h ⊢
    by_cases h2 : Sf.zb s.data.toList < s.size
    · rw [if_pos h2] at h; cases h
    · rw [if_neg h2] at h ⊢
      by_cases h3 : k < s.size
      · rw [if_pos h3] at h; cases h
      · rw [if_neg h3]
        have hl : (Sf.nums s).length = s.size := by simp [Sf.nums]
        have hz : Sf.zi (Sf.nums s) = s.size := by
          have := Sf.zb_strOfNums (Sf.nums s) (byt_nums s)
          rw [str_nums] at this
          have := Sf.zb_size s
          omega
        have hzz : Sf.zi (Sf.nums s ++ List.replicate (k.toNat - s.size) 0) = s.size := by
          apply Sf.zi_eq
          · simp; omega
          · intro j hj
            have := Sf.zi_lt (xs := Sf.nums s) (j := j) (by omega)
            rw [← this]
            simp [List.getD, List.getElem?_append, hl, hj]
          · intro h4
            simp only [List.getD, List.getElem?_append, hl, List.getElem?_replicate]
            simp
            split <;> rfl
        refine ⟨by simp [hl]; omega, Byt.append (byt_nums s) (byt_rep _), ?_⟩
        have hok : Sf.okG (Sf.nums s ++ List.replicate (k.toNat - s.size) 0) = true := by
          unfold Sf.okG
          rw [hzz, List.drop_append_of_le_length (by omega), List.drop_of_length_le (by omega)]
          simp
        unfold Sf.getS Sf.looseS
        rw [hok, hzz, List.take_append_of_le_length (by omega), List.take_of_length_le (by omega)]
        rfl
theorem byt_putS (s : ByteArray) (k : Int) : Byt (putS s k).1 := by
  unfold putS
  split
  · exact Byt.nil
  · split
    · exact Byt.nil
    · split
      · exact Byt.nil
      · exact Byt.append (byt_nums s) (byt_rep _)
theorem put_bad (s : ByteArray) (k : Int) (h : (putS s k).2 ≠ 0) : (putS s k).1 = [] := by
  unfold putS at *
  split
  · rfl
  · split
    · rfl
    · split
      · rfl
      · rename_i h1 h2 h3
        rw [if_neg h1, if_neg h2, if_neg h3] at h
        exact absurd rfl h
end Sf
end Go.Proofs.YthgbncpiehcghaaGreatDoor
