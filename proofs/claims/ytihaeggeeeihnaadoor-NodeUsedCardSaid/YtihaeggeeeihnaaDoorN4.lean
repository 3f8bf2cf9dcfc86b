/- PLAIN MATHEMATICS OF LAYER 4 (paths of trees): where a text is cut, its pieces, their order; no Go text is named. -/
import Derived.Test.YtihaeggeeeihnaaDoorBase
import Derived.Lib.Strings
import Derived.Lib.IndexLaws
import Derived.Laws.Concat
import Derived.Lib.BytesEntry
namespace Go.Proofs.YtihaeggeeeihnaaDoor
set_option linter.unusedVariables false
open Go.RowKit
namespace Pp
/-- The place of the first slash; the length, if there is none. -/
def fi (s : ByteArray) : Nat := s.data.toList.findIdx (· == 47)
def ix (s : ByteArray) : Int := if fi s < s.size then (fi s : Int) else -1
def slash : ByteArray := ⟨#[47]⟩
def hd (s : ByteArray) : ByteArray := s.extract 0 (fi s)
def tl (s : ByteArray) : ByteArray := s.extract (fi s + 1) s.size
theorem size_eq (s : ByteArray) : s.size = s.data.toList.length := rfl
theorem fi_le (s : ByteArray) : fi s ≤ s.size := by rw [size_eq]; exact List.findIdx_le_length
theorem fi_lt (s : ByteArray) (j : Nat) (h : j < s.size) (hz : j < fi s) : s[j] ≠ 47 := by
  have := List.not_of_lt_findIdx (p := (· == 47)) (xs := s.data.toList) hz
  simp at this
  exact this
theorem fi_at (s : ByteArray) (h : fi s < s.size) : s[fi s] = 47 := by
  have := List.findIdx_getElem (p := (· == 47)) (xs := s.data.toList) (w := by rw [← size_eq]; exact h)
  simp at this
  exact this
theorem indexByte_fi (s : ByteArray) : Lib.indexByte s.data.toList 47 = ix s := by
  have hge := Lib.indexByte_ge s.data.toList 47
  unfold ix
  by_cases h : Lib.indexByte s.data.toList 47 = -1
  · have h1 := Lib.indexByte_none h
    rw [h, if_neg]
    intro hz
    have := List.findIdx_getElem (p := (· == 47)) (xs := s.data.toList) (w := hz)
    apply h1 (fi s)
    rw [List.getElem?_eq_getElem hz]
    exact congrArg some (beq_iff_eq.1 this)
  · obtain ⟨o, ho⟩ : ∃ o : Nat, Lib.indexByte s.data.toList 47 = o := ⟨(Lib.indexByte s.data.toList 47).toNat, by omega⟩
    obtain ⟨h1, h2⟩ := Lib.indexByte_some ho
    have hol : o < s.data.toList.length := (List.getElem?_eq_some_iff.1 h1).1
    have e : fi s = o := by
      unfold fi
      rw [List.findIdx_eq hol]
      refine ⟨by have := (List.getElem?_eq_some_iff.1 h1).2; simp [this], fun j hj => ?_⟩
      have := h2 j hj
      rw [List.getElem?_eq_getElem (by omega)] at this
      simpa using this
    rw [ho, e, if_pos (show o < s.size by rw [size_eq]; exact hol)]
theorem extract_size (s : ByteArray) (i j : Nat) : (s.extract i j).size = min j s.size - i := by simp
theorem tl_lt (s : ByteArray) (h : fi s < s.size) : (tl s).size < s.size := by unfold tl; rw [extract_size]; omega
/-- A text's pieces: it cut at each slash. -/
def pieces (s : ByteArray) : List ByteArray := if h : fi s < s.size then hd s :: pieces (tl s) else [s]
termination_by s.size
decreasing_by exact tl_lt s h
theorem pieces_more (s : ByteArray) (h : fi s < s.size) : pieces s = hd s :: pieces (tl s) := by rw [pieces, dif_pos h]
theorem pieces_last (s : ByteArray) (h : ¬ fi s < s.size) : pieces s = [s] := by rw [pieces, dif_neg h]
theorem pieces_ne (s : ByteArray) : pieces s ≠ [] := by
  by_cases h : fi s < s.size
  · rw [pieces_more s h]; simp
  · rw [pieces_last s h]; simp
theorem pieces_len (s : ByteArray) : (pieces s).length ≤ s.size + 1 := by
  by_cases h : fi s < s.size
  · have := tl_lt s h
    have ih := pieces_len (tl s)
    rw [pieces_more s h, List.length_cons]
    omega
  · rw [pieces_last s h]; simp
termination_by s.size
/-- What is left behind k cuts. -/
def rest : Nat → ByteArray → ByteArray
  | 0, s => s
  | k + 1, s => tl (rest k s)
theorem rest_le : ∀ (k : Nat) (s : ByteArray), (rest k s).size ≤ s.size
  | 0, _ => Nat.le_refl _
  | k + 1, s => by
    have := rest_le k s
    unfold rest tl
    rw [extract_size]
    omega
theorem hd_size (s : ByteArray) : (hd s).size ≤ s.size := by unfold hd; rw [extract_size]; omega
theorem pieces_size (s : ByteArray) : ∀ x ∈ pieces s, x.size ≤ s.size := by
  intro x hx
  by_cases h : fi s < s.size
  · have := tl_lt s h
    rw [pieces_more s h] at hx
    rcases List.mem_cons.1 hx with rfl | hx
    · exact hd_size s
    · have := pieces_size (tl s) x hx
      omega
  · rw [pieces_last s h] at hx
    simp at hx
    subst hx
    exact Nat.le_refl _
termination_by s.size
theorem toList_ne {s t : ByteArray} (h : s ≠ t) : (s.toList == t.toList) = false := by
  rw [beq_eq_false_iff_ne, Lib.toList_data, Lib.toList_data]
  exact fun e => h (by rw [← Lib.mk_data s, ← Lib.mk_data t, e])
theorem toList_eq (s t : ByteArray) : (s.toList == t.toList) = decide (s = t) := by
  by_cases h : s = t
  · subst h; simp
  · rw [toList_ne h]; simp [h]
theorem ne_byte {x c : UInt8} (h : x ≠ c) : ((x.toNat : Int) == (c.toNat : Int)) = false := by
  simp only [beq_eq_false_iff_ne, ne_eq]
  intro e
  apply h
  apply UInt8.toNat_inj.1
  omega
/-- r is the place of the last slash ahead of k; -1, if there is none. -/
def IsLast (s : ByteArray) (k : Nat) (r : Int) : Prop := (r = -1 ∧ ∀ j (h : j < s.size), j < k → s[j] ≠ 47) ∨ (∃ (i : Nat) (h : i < s.size), i < k ∧ r = i ∧ s[i] = 47 ∧ ∀ j (h : j < s.size), i < j → j < k → s[j] ≠ 47)
theorem last_zero {s : ByteArray} {r : Int} (h : IsLast s 0 r) : r = -1 := by
  rcases h with ⟨h, _⟩ | ⟨i, _, h, _⟩
  · exact h
  · omega
theorem last_here {s : ByteArray} {r : Int} {j : Nat} (h : IsLast s (j + 1) r) (hj : j < s.size) (e : s[j] = 47) : r = j := by
  rcases h with ⟨_, h⟩ | ⟨i, hi, h1, h2, h3, h4⟩
  · exact absurd e (h j hj (by omega))
  · by_cases hij : i = j
    · subst hij; exact h2
    · exact absurd e (h4 j hj (by omega) (by omega))
theorem last_next {s : ByteArray} {r : Int} {j : Nat} (h : IsLast s (j + 1) r) (hj : j < s.size) (e : s[j] ≠ 47) : IsLast s j r := by
  rcases h with ⟨h0, h⟩ | ⟨i, hi, h1, h2, h3, h4⟩
  · exact .inl ⟨h0, fun a b c => h a b (by omega)⟩
  · have hij : i ≠ j := fun hx => by subst hx; exact e h3
    exact .inr ⟨i, hi, by omega, h2, h3, fun a b c d => h4 a b c (by omega)⟩
theorem last_step {s : ByteArray} {r : Int} {j : Nat} (h : IsLast s j r) (hj : j < s.size) (e : s[j] ≠ 47) : IsLast s (j + 1) r := by
  rcases h with ⟨h0, h⟩ | ⟨i, hi, h1, h2, h3, h4⟩
  · exact .inl ⟨h0, fun a b c => by
      by_cases x : a = j
      · subst x; exact e
      · exact h a b (by omega)⟩
  · exact .inr ⟨i, hi, by omega, h2, h3, fun a b c d => by
      by_cases x : a = j
      · subst x; exact e
      · exact h4 a b c (by omega)⟩
theorem last_one {s : ByteArray} {k : Nat} {r t : Int} (h : IsLast s k r) (h' : IsLast s k t) : r = t := by
  rcases h with ⟨h0, h⟩ | ⟨i, hi, h1, h2, h3, h4⟩
  · rcases h' with ⟨h0', _⟩ | ⟨i', hi', h1', h2', h3', h4'⟩
    · omega
    · exact absurd h3' (h i' hi' h1')
  · rcases h' with ⟨h0', h'⟩ | ⟨i', hi', h1', h2', h3', h4'⟩
    · exact absurd h3 (h' i hi h1)
    · have a : ¬ i < i' := fun x => h4 i' hi' x h1' h3'
      have b : ¬ i' < i := fun x => h4' i hi x h1 h3
      omega
theorem last_ex (s : ByteArray) : ∀ k, k ≤ s.size → ∃ r, IsLast s k r := by
  intro k
  induction k with
  | zero => exact fun _ => ⟨-1, .inl ⟨rfl, fun j _ h => absurd h (by omega)⟩⟩
  | succ j ih =>
    intro hk
    by_cases h : s[j]'(by omega) = 47
    · exact ⟨j, .inr ⟨j, by omega, by omega, rfl, h, fun a _ b c => by omega⟩⟩
    · obtain ⟨r, hr⟩ := ih (by omega)
      refine ⟨r, ?_⟩
      rcases hr with ⟨h0, hr⟩ | ⟨i, hi, h1, h2, h3, h4⟩
      · exact .inl ⟨h0, fun a b c => by
          by_cases e : a = j
          · subst e; exact h
          · exact hr a b (by omega)⟩
      · exact .inr ⟨i, hi, by omega, h2, h3, fun a b c d => by
          by_cases e : a = j
          · subst e; exact h
          · exact h4 a b c (by omega)⟩
/-- t stands ahead in s. -/
def Pre (t s : ByteArray) : Prop := t.size ≤ s.size ∧ s.extract 0 t.size = t
instance (t s : ByteArray) : Decidable (Pre t s) := by unfold Pre; exact inferInstance
theorem app_size (t u : ByteArray) : (t ++ u).size = t.size + u.size := by simp
theorem pre_slash (t s : ByteArray) : Pre (t ++ ⟨#[47]⟩) s ↔ ∃ h : t.size < s.size, s.extract 0 t.size = t ∧ s[t.size] = 47 := by
  have hsz : (t ++ (⟨#[47]⟩ : ByteArray)).size = t.size + 1 := app_size t ⟨#[47]⟩
  unfold Pre
  rw [hsz]
  have hd : ∀ (h : t.size < s.size), s.extract 0 (t.size + 1) = s.extract 0 t.size ++ ⟨#[s[t.size]]⟩ := by
    intro h
    apply ByteArray.ext
    apply Array.toList_inj.1
    rw [ByteArray.data_append, Array.toList_append, Lib.extract_data, Lib.extract_data]
    have hl : t.size < s.data.toList.length := h
    simp only [List.drop_zero, Nat.sub_zero]
    rw [List.take_succ_eq_append_getElem hl]
    rfl
  constructor
  · rintro ⟨h1, h2⟩
    have h : t.size < s.size := by omega
    rw [hd h] at h2
    have h3 := congrArg (fun b : ByteArray => b.data.toList) h2
    simp only [ByteArray.data_append, Array.toList_append] at h3
    have h4 := List.append_inj' h3 (by simp)
    refine ⟨h, ?_, ?_⟩
    · apply ByteArray.ext
      apply Array.toList_inj.1
      exact h4.1
    · have := h4.2
      simpa using this
  · rintro ⟨h, h2, h3⟩
    refine ⟨by omega, ?_⟩
    rw [hd h, h2, h3]
/-- It is a name. -/
def Nm (s : ByteArray) : Prop := (1 ≤ s.size ∧ s.size ≤ 60 ∧ s ≠ ⟨#[46]⟩ ∧ s ≠ ⟨#[46, 46]⟩) ∧ (0 : UInt8) ∉ s.data.toList ∧ (47 : UInt8) ∉ s.data.toList
instance (s : ByteArray) : Decidable (Nm s) := by unfold Nm; exact inferInstance
theorem fi_mem (s : ByteArray) : fi s < s.size ↔ (47 : UInt8) ∈ s.data.toList := by
  unfold fi
  rw [size_eq, List.findIdx_lt_length]
  simp
/-- A path's names, and the error's number. -/
def partsS (s : ByteArray) : List ByteArray × Int := if s.size ≤ 300 ∧ ∀ x ∈ pieces s, Nm x then (pieces s, 0) else ([], 8)
theorem parts_yes {s : ByteArray} (h : s.size ≤ 300) (h2 : ∀ x ∈ pieces s, Nm x) : partsS s = (pieces s, 0) := by unfold partsS; rw [if_pos ⟨h, h2⟩]
theorem parts_long {s : ByteArray} (h : 300 < s.size) : partsS s = ([], 8) := by unfold partsS; rw [if_neg (by omega)]
theorem parts_no {s x : ByteArray} (h : x ∈ pieces s) (h2 : ¬ Nm x) : partsS s = ([], 8) := by unfold partsS; rw [if_neg (fun k => h2 (k.2 x h))]
theorem ext_at (s : ByteArray) (f i : Nat) (h : i < (s.extract f s.size).size) (h2 : f + i < s.size) : (s.extract f s.size)[i] = s[f + i] := by
  have e1 : (s.extract f s.size)[i] = (s.extract f s.size).data.toList[i]'h := rfl
  have e2 : s[f + i] = s.data.toList[f + i]'h2 := rfl
  have e3 := Lib.extract_data s f s.size
  rw [e1, e2, List.getElem_of_eq e3]
  simp
theorem ext_ext (s : ByteArray) (f i : Nat) (hi : f + i ≤ s.size) : (s.extract f s.size).extract 0 i = s.extract f (f + i) := by
  apply ByteArray.ext
  apply Array.toList_inj.1
  rw [Lib.extract_data, Lib.extract_data, Lib.extract_data, List.drop_zero, Nat.sub_zero, List.take_take]
  congr 1
  omega
theorem ext_tail (s : ByteArray) (f i : Nat) (hf : f ≤ s.size) : (s.extract f s.size).extract i (s.extract f s.size).size = s.extract (f + i) s.size := by
  apply ByteArray.ext
  apply Array.toList_inj.1
  rw [extract_size, Lib.extract_data, Lib.extract_data, Lib.extract_data]
  rw [List.drop_take, List.drop_drop, List.take_take]
  congr 1
  omega
theorem cut_hit {s : ByteArray} {f k : Nat} (hf : f ≤ k) (hk : k < s.size) (h : k ≤ f + fi (s.extract f s.size)) (e : s[k] = 47) :
    pieces (s.extract f s.size) = s.extract f k :: pieces (s.extract (k + 1) s.size) := by
  have hsz : (s.extract f s.size).size = s.size - f := by rw [extract_size]; omega
  have hfi : fi (s.extract f s.size) = k - f := by
    apply Nat.le_antisymm _ (by omega)
    apply Nat.le_of_not_lt
    intro hlt
    have := fi_lt (s.extract f s.size) (k - f) (by omega) hlt
    rw [ext_at s f (k - f) (by omega) (by omega)] at this
    apply this
    have e2 : f + (k - f) = k := by omega
    simp only [e2]
    exact e
  rw [pieces_more _ (by omega)]
  unfold hd tl
  rw [hfi, ext_ext s f (k - f) (by omega), ext_tail s f _ (by omega), show f + (k - f) = k from by omega, show f + (k - f + 1) = k + 1 from by omega]
theorem cut_miss {s : ByteArray} {f k : Nat} (hf : f ≤ k) (hk : k < s.size) (h : k ≤ f + fi (s.extract f s.size)) (e : s[k] ≠ 47) : k + 1 ≤ f + fi (s.extract f s.size) := by
  have hsz : (s.extract f s.size).size = s.size - f := by rw [extract_size]; omega
  apply Nat.le_of_not_lt
  intro hlt
  have hfi : fi (s.extract f s.size) = k - f := by omega
  have := fi_at (s.extract f s.size) (by omega)
  rw [ext_at s f _ (by omega) (by omega)] at this
  apply e
  have e2 : f + fi (s.extract f s.size) = k := by omega
  simp only [e2] at this
  exact this
theorem cut_end {s : ByteArray} {f : Nat} (hf : f ≤ s.size) (h : s.size ≤ f + fi (s.extract f s.size)) : pieces (s.extract f s.size) = [s.extract f s.size] := by
  have hsz : (s.extract f s.size).size = s.size - f := by rw [extract_size]; omega
  exact pieces_last _ (by omega)
theorem ext_all (s : ByteArray) : s.extract 0 s.size = s := by
  apply ByteArray.ext
  simp
/-- The order of names, of paths. -/
def lt (x y : ByteArray) : Bool := Op.bytesLess x.toList y.toList
def lessL : List ByteArray → List ByteArray → Bool
  | [], [] => false
  | [], _ :: _ => true
  | _ :: _, [] => false
  | x :: xs, y :: ys => if x = y then lessL xs ys else lt x y
theorem lessL_app : ∀ (p xs ys : List ByteArray), lessL (p ++ xs) (p ++ ys) = lessL xs ys
  | [], _, _ => rfl
  | x :: p, xs, ys => by
    show (if x = x then lessL (p ++ xs) (p ++ ys) else lt x x) = _
    rw [if_pos rfl, lessL_app p xs ys]
theorem lessL_ne {x y : ByteArray} (p xs ys : List ByteArray) (h : x ≠ y) : lessL (p ++ x :: xs) (p ++ y :: ys) = lt x y := by
  rw [lessL_app]
  show (if x = y then lessL xs ys else lt x y) = _
  rw [if_neg h]
theorem lessL_nil (p xs : List ByteArray) : lessL (p ++ xs) p = false := by
  have := lessL_app p xs []
  rw [List.append_nil] at this
  rw [this]
  cases xs <;> rfl
theorem lessL_more (p : List ByteArray) (y : ByteArray) (ys : List ByteArray) : lessL p (p ++ y :: ys) = true := by
  have := lessL_app p [] (y :: ys)
  rw [List.append_nil] at this
  rw [this]
  rfl
theorem slash_toList : (⟨#[47]⟩ : ByteArray).toList = [47] := by decide +kernel
end Pp
end Go.Proofs.YtihaeggeeeihnaaDoor
