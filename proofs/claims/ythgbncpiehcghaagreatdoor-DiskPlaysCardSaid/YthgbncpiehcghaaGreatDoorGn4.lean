/- PLAIN MATHEMATICS OF LAYER 4 (paths of trees): where a text is cut, its pieces, their order; no Go text is named. -/
import Derived.Test.YthgbncpiehcghaaGreatDoorBase
import Derived.Lib.Strings
import Derived.Lib.IndexLaws
import Derived.Laws.Concat
import Derived.Lib.BytesEntry
namespace Go.Proofs.YthgbncpiehcghaaGreatDoor
set_option linter.unusedVariables false
open Go.RowKit
namespace Pp
/-- The place of the first slash; the length, if there is none. -/
def fi (s : ByteArray) : Nat := s.data.toList.findIdx (· == 47)
def ix (s : ByteArray) : Int := if fi s < s.size then (fi s : Int) else -1
def slash : ByteArray := ⟨#[47]⟩
def hd (s : ByteArray) : ByteArray := s.extract 0 (fi s)
def tl (s : ByteArray) : ByteArray := s.extract (fi s + 1) s.size
theorem size_eq (s : ByteArray) : s.size = s.data.toList.length := rfl
theorem fi_le (s : ByteArray) : fi s ≤ s.size := by rw [size_eq]; exact List.findIdx_le_length
theorem fi_lt (s : ByteArray) (j : Nat) (h : j < s.size) (hz : j < fi s) : s[j] ≠ 47 := by
  have := List.not_of_lt_findIdx (p := (· == 47)) (xs := s.data.toList) hz
  simp at this
  exact this
theorem fi_at (s : ByteArray) (h : fi s < s.size) : s[fi s] = 47 := by
  have := List.findIdx_getElem (p := (· == 47)) (xs := s.data.toList) (w := by rw [← size_eq]; exact h)
  simp at this
  exact this
theorem indexByte_fi (s : ByteArray) : Lib.indexByte s.data.toList 47 = ix s := by
  have hge := Lib.indexByte_ge s.data.toList 47
  unfold ix
  by_cases h : Lib.indexByte s.data.toList 47 = -1
  · have h1 := Lib.indexByte_none h
    rw [h, if_neg]
    intro hz
    have := List.findIdx_getElem (p := (· == 47)) (xs := s.data.toList) (w := hz)
    apply h1 (fi s)
    rw [List.getElem?_eq_getElem hz]
    exact congrArg some (beq_iff_eq.1 this)
  · obtain ⟨o, ho⟩ : ∃ o : Nat, Lib.indexByte s.data.toList 47 = o := ⟨(Lib.indexByte s.data.toList 47).toNat, by omega⟩
    obtain ⟨h1, h2⟩ := Lib.indexByte_some ho
    have hol : o < s.data.toList.length := (List.getElem?_eq_some_iff.1 h1).1
    have e : fi s = o := by
      unfold fi
      rw [List.findIdx_eq hol]
      refine ⟨by have := (List.getElem?_eq_some_iff.1 h1).2; simp [this], fun j hj => ?_⟩
      have := h2 j hj
      rw [List.getElem?_eq_getElem (by omega)] at this
      simpa using this
    rw [ho, e, if_pos (show o < s.size by rw [size_eq]; exact hol)]
theorem extract_size (s : ByteArray) (i j : Nat) : (s.extract i j).size = min j s.size - i := by simp
theorem tl_lt (s : ByteArray) (h : fi s < s.size) : (tl s).size < s.size := by unfold tl; rw [extract_size]; omega
/-- A text's pieces: it cut at each slash. -/
def pieces (s : ByteArray) : List ByteArray := if h : fi s < s.size then hd s :: pieces (tl s) else [s]
termination_by s.size
decreasing_by exact tl_lt s h
theorem pieces_more (s : ByteArray) (h : fi s < s.size) : pieces s = hd s :: pieces (tl s) := by rw [pieces, dif_pos h]
theorem pieces_last (s : ByteArray) (h : ¬ fi s < s.size) : pieces s = [s] := by rw [pieces, dif_neg h]
theorem pieces_ne (s : ByteArray) : pieces s ≠ [] := by
  by_cases h : fi s < s.size
  · rw [pieces_more s h]; simp
  · rw [pieces_last s h]; simp
theorem pieces_len (s : ByteArray) : (pieces s).length ≤ s.size + 1 := by
  by_cases h : fi s < s.size
  · have := tl_lt s h
    have ih := pieces_len (tl s)
    rw [pieces_more s h, List.length_cons]
    omega
  · rw [pieces_last s h]; simp
termination_by s.size
/-- What is left behind k cuts. -/
def rest : Nat → ByteArray → ByteArray
  | 0, s => s
  | k + 1, s => tl (rest k s)
theorem rest_le : ∀ (k : Nat) (s : ByteArray), (rest k s).size ≤ s.size
  | 0, _ => Nat.le_refl _
  | k + 1, s => by
    have := rest_le k s
    unfold rest tl
    rw [extract_size]
    omega
theorem hd_size (s : ByteArray) : (hd s).size ≤ s.size := by unfold hd; rw [extract_size]; omega
theorem pieces_size (s : ByteArray) : ∀ x ∈ pieces s, x.size ≤ s.size := by
  intro x hx
  by_cases h : fi s < s.size
  · have := tl_lt s h
    rw [pieces_more s h] at hx
    rcases List.mem_cons.1 hx with rfl | hx
    · exact hd_size s
    · have := pieces_size (tl s) x hx
      omega
  · rw [pieces_last s h] at hx
    simp at hx
    subst hx
    exact Nat.le_refl _
termination_by s.size
theorem toList_ne {s t : ByteArray} (h : s ≠ t) : (s.toList == t.toList) = false := by
  rw [beq_eq_false_iff_ne, Lib.toList_data, Lib.toList_data]
  exact fun e => h (by rw [← Lib.mk_data s, ← Lib.mk_data t, e])
theorem toList_eq (s t : ByteArray) : (s.toList == t.toList) = decide (s = t) := by
  by_cases h : s = t
  · subst h; simp
  · rw [toList_ne h]; simp [h]
theorem ne_byte {x c : UInt8} (h : x ≠ c) : ((x.toNat : Int) == (c.toNat : Int)) = false := by
  simp only [beq_eq_false_iff_ne, ne_eq]
  intro e
  apply h
  apply UInt8.toNat_inj.1
  omega
/-- r is the place of the last slash ahead of k; -1, if there is none. -/
def IsLast (s : ByteArray) (k : Nat) (r : Int) : Prop := (r = -1 ∧ ∀ j (h : j < s.size), j < k → s[j] ≠ 47) ∨ (∃ (i : Nat) (h : i < s.size), i < k ∧ r = i ∧ s[i] = 47 ∧ ∀ j (h : j < s.size), i < j → j < k → s[j] ≠ 47)
theorem last_zero {s : ByteArray} {r : Int} (h : IsLast s 0 r) : r = -1 := by
  rcases h with ⟨h, _⟩ | ⟨i, _, h, _⟩
  · exact h
  · omega
theorem last_here {s : ByteArray} {r : Int} {j : Nat} (h : IsLast s (j + 1) r) (hj : j < s.size) (e : s[j] = 47) : r = j := by
  rcases h with ⟨_, h⟩ | ⟨i, hi, h1, h2, h3, h4⟩
  · exact absurd e (h j hj (by omega))
  · by_cases hij : i = j
    · subst hij; exact h2
    · exact absurd e (h4 j hj (by omega) (by omega))
theorem last_next {s : ByteArray} {r : Int} {j : Nat} (h : IsLast s (j + 1) r) (hj : j < s.size) (e : s[j] ≠ 47) : IsLast s j r := by
  rcases h with ⟨h0, h⟩ | ⟨i, hi, h1, h2, h3, h4⟩
  · exact .inl ⟨h0, fun a b c => h a b (by omega)⟩
  · have hij : i ≠ j := fun hx => by subst hx; exact e h3
    exact .inr ⟨i, hi, by omega, h2, h3, fun a b c d => h4 a b c (by omega)⟩
theorem last_step {s : ByteArray} {r : Int} {j : Nat} (h : IsLast s j r) (hj : j < s.size) (e : s[j] ≠ 47) : IsLast s (j + 1) r := by
  rcases h with ⟨h0, h⟩ | ⟨i, hi, h1, h2, h3, h4⟩
  · exact .inl ⟨h0, fun a b c => by
      by_cases x : a = j
      · subst x; exact e
      · exact h a b (by omega)⟩
  · exact .inr ⟨i, hi, by omega, h2, h3, fun a b c d => by
      by_cases x : a = j
      · subst x; exact e
      · exact h4 a b c (by omega)⟩
theorem last_one {s : ByteArray} {k : Nat} {r t : Int} (h : IsLast s k r) (h' : IsLast s k t) : r = t := by
  rcases h with ⟨h0, h⟩ | ⟨i, hi, h1, h2, h3, h4⟩
  · rcases h' with ⟨h0', _⟩ | ⟨i', hi', h1', h2', h3', h4'⟩
    · omega
    · exact absurd h3' (h i' hi' h1')
  · rcases h' with ⟨h0', h'⟩ | ⟨i', hi', h1', h2', h3', h4'⟩
    · exact absurd h3 (h' i hi h1)
    · have a : ¬ i < i' := fun x => h4 i' hi' x h1' h3'
      have b : ¬ i' < i := fun x => h4' i hi x h1 h3
      omega
theorem last_ex (s : ByteArray) : ∀ k, k ≤ s.size → ∃ r, IsLast s k r := by
  intro k
  induction k with
  | zero => exact fun _ => ⟨-1, .inl ⟨rfl, fun j _ h => absurd h (by omega)⟩⟩
  | succ j ih =>
    intro hk
    by_cases h : s[j]'(by omega) = 47
    · exact ⟨j, .inr ⟨j, by omega, by omega, rfl, h, fun a _ b c => by omega⟩⟩
    · obtain ⟨r, hr⟩ := ih (by omega)
      refine ⟨r, ?_⟩
      rcases hr with ⟨h0, hr⟩ | ⟨i, hi, h1, h2, h3, h4⟩
      · exact .inl ⟨h0, fun a b c => by
          by_cases e : a = j
          · subst e; exact h
          · exact hr a b (by omega)⟩
      · exact .inr ⟨i, hi, by omega, h2, h3, fun a b c d => by
          by_cases e : a = j
          · subst e; exact h
          · exact h4 a b c (by omega)⟩
/-- t stands ahead in s. -/
def Pre (t s : ByteArray) : Prop := t.size ≤ s.size ∧ s.extract 0 t.size = t
instance (t s : ByteArray) : Decidable (Pre t s) := by unfold Pre; exact inferInstance
theorem app_size (t u : ByteArray) : (t ++ u).size = t.size + u.size := by simp
theorem pre_slash (t s : ByteArray) : Pre (t ++ ⟨#[47]⟩) s ↔ ∃ h : t.size < s.size, s.extract 0 t.size = t ∧ s[t.size] = 47 := by
  have hsz : (t ++ (⟨#[47]⟩ : ByteArray)).size = t.size + 1 := app_size t ⟨#[47]⟩
  unfold Pre
  rw [hsz]
  have hd : ∀ (h : t.size < s.size), s.extract 0 (t.size + 1) = s.extract 0 t.size ++ ⟨#[s[t.size]]⟩ := by
    intro h
    apply ByteArray.ext
    apply Array.toList_inj.1
    rw [ByteArray.data_append, Array.toList_append, Lib.extract_data, Lib.extract_data]
    have hl : t.size < s.data.toList.length := h
    simp only [List.drop_zero, Nat.sub_zero]
    rw [List.take_succ_eq_append_getElem hl]
    rfl
  constructor
  · rintro ⟨h1, h2⟩
    have h : t.size < s.size := by omega
    rw [hd h] at h2
    have h3 := congrArg (fun b : ByteArray => b.data.toList) h2
    simp only [ByteArray.data_append, Array.toList_append] at h3
    have h4 := List.append_inj' h3 (by simp)
    refine ⟨h, ?_, ?_⟩
    · apply ByteArray.ext
      apply Array.toList_inj.1
      exact h4.1
    · have := h4.2
      simpa using this
  · rintro ⟨h, h2, h3⟩
    refine ⟨by omega, ?_⟩
    rw [hd h, h2, h3]
/-- It is a name. -/
def Nm (s : ByteArray) : Prop := (1 ≤ s.size ∧ s.size ≤ 60 ∧ s ≠ ⟨#[46]⟩ ∧ s ≠ ⟨#[46, 46]⟩) ∧ (0 : UInt8) ∉ s.data.toList ∧ (47 : UInt8) ∉ s.data.toList
instance (s : ByteArray) : Decidable (Nm s) := by unfold Nm; exact inferInstance
theorem fi_mem (s : ByteArray) : fi s < s.size ↔ (47 : UInt8) ∈ s.data.toList := by
  unfold fi
  rw [size_eq, List.findIdx_lt_length]
  simp
/-- A path's names, and the error's number. -/
def partsS (s : ByteArray) : List ByteArray × Int := if s.size ≤ 300 ∧ ∀ x ∈ pieces s, Nm x then (pieces s, 0) else ([], 8)
theorem parts_yes {s : ByteArray} (h : s.size ≤ 300) (h2 : ∀ x ∈ pieces s, Nm x) : partsS s = (pieces s, 0) := by unfold partsS; rw [if_pos ⟨h, h2⟩]
theorem parts_long {s : ByteArray} (h : 300 < s.size) : partsS s = ([], 8) := by unfold partsS; rw [if_neg (by omega)]
theorem parts_no {s x : ByteArray} (h : x ∈ pieces s) (h2 : ¬ Nm x) : partsS s = ([], 8) := by unfold partsS; rw [if_neg (fun k => h2 (k.2 x h))]
theorem ext_at (s : ByteArray) (f i : Nat) (h : i < (s.extract f s.size).size) (h2 : f + i < s.size) : (s.extract f s.size)[i] = s[f + i] := by
  have e1 : (s.extract f s.size)[i] = (s.extract f s.size).data.toList[i]'h := rfl
  have e2 : s[f + i] = s.data.toList[f + i]'h2 := rfl
  have e3 := Lib.extract_data s f s.size
  rw [e1, e2, List.getElem_of_eq e3]
  simp
theorem ext_ext (s : ByteArray) (f i : Nat) (hi : f + i ≤ s.size) : (s.extract f s.size).extract 0 i = s.extract f (f + i) := by
  apply ByteArray.ext
  apply Array.toList_inj.1
  rw [Lib.extract_data, Lib.extract_data, Lib.extract_data, List.drop_zero, Nat.sub_zero, List.take_take]
  congr 1
  omega
theorem ext_tail (s : ByteArray) (f i : Nat) (hf : f ≤ s.size) : (s.extract f s.size).extract i (s.extract f s.size).size = s.extract (f + i) s.size := by
  apply ByteArray.ext
  apply Array.toList_inj.1
  rw [extract_size, Lib.extract_data, Lib.extract_data, Lib.extract_data]
  rw [List.drop_take, List.drop_drop, List.take_take]
  congr 1
  omega
theorem cut_hit {s : ByteArray} {f k : Nat} (hf : f ≤ k) (hk : k < s.size) (h : k ≤ f + fi (s.extract f s.size)) (e : s[k] = 47) :
    pieces (s.extract f s.size) = s.extract f k :: pieces (s.extract (k + 1) s.size) := by
  have hsz : (s.extract f s.size).size = s.size - f := by rw [extract_size]; omega
  have hfi : fi (s.extract f s.size) = k - f := by
    apply Nat.le_antisymm _ (by omega)
    apply Nat.le_of_not_lt
    intro hlt
    have := fi_lt (s.extract f s.size) (k - f) (by omega) hlt
    rw [ext_at s f (k - f) (by omega) (by omega)] at this
    apply this
    have e2 : f + (k - f) = k := by omega
    simp only [e2]
    exact e
  rw [pieces_more _ (by omega)]
  unfold hd tl
  rw [hfi, ext_ext s f (k - f) (by omega), ext_tail s f _ (by omega), show f + (k - f) = k from by omega, show f + (k - f + 1) = k + 1 from by omega]
theorem cut_miss {s : ByteArray} {f k : Nat} (hf : f ≤ k) (hk : k < s.size) (h : k ≤ f + fi (s.extract f s.size)) (e : s[k] ≠ 47) : k + 1 ≤ f + fi (s.extract f s.size) := by
  have hsz : (s.extract f s.size).size = s.size - f := by rw [extract_size]; omega
  apply Nat.le_of_not_lt
  intro hlt
  have hfi : fi (s.extract f s.size) = k - f := by omega
  have := fi_at (s.extract f s.size) (by omega)
  rw [ext_at s f _ (by omega) (by omega)] at this
  apply e
  have e2 : f + fi (s.extract f s.size) = k := by omega
  simp only [e2] at this
  exact this
theorem cut_end {s : ByteArray} {f : Nat} (hf : f ≤ s.size) (h : s.size ≤ f + fi (s.extract f s.size)) : pieces (s.extract f s.size) = [s.extract f s.size] := by
  have hsz : (s.extract f s.size).size = s.size - f := by rw [extract_size]; omega
  exact pieces_last _ (by omega)
theorem ext_all (s : ByteArray) : s.extract 0 s.size = s := by
  apply ByteArray.ext
  simp
/-- The order of names, of paths. -/
def lt (x y : ByteArray) : Bool := Op.bytesLess x.toList y.toList
def lessL : List ByteArray → List ByteArray → Bool
  | [], [] => false
  | [], _ :: _ => true
  | _ :: _, [] => false
  | x :: xs, y :: ys => if x = y then lessL xs ys else lt x y
theorem lessL_app : ∀ (p xs ys : List ByteArray), lessL (p ++ xs) (p ++ ys) = lessL xs ys
  | [], _, _ => rfl
  | x :: p, xs, ys => by
    show (if x = x then lessL (p ++ xs) (p ++ ys) else lt x x) = _
    rw [if_pos rfl, lessL_app p xs ys]
theorem lessL_ne {x y : ByteArray} (p xs ys : List ByteArray) (h : x ≠ y) : lessL (p ++ x :: xs) (p ++ y :: ys) = lt x y := by
  rw [lessL_app]
  show (if x = y then lessL xs ys else lt x y) = _
  rw [if_neg h]
theorem lessL_nil (p xs : List ByteArray) : lessL (p ++ xs) p = false := by
  have := lessL_app p xs []
  rw [List.append_nil] at this
  rw [this]
  cases xs <;> rfl
theorem lessL_more (p : List ByteArray) (y : ByteArray) (ys : List ByteArray) : lessL p (p ++ y :: ys) = true := by
  have := lessL_app p [] (y :: ys)
  rw [List.append_nil] at this
  rw [this]
  rfl
theorem slash_toList : (⟨#[47]⟩ : ByteArray).toList = [47] := by decide +kernel
end Pp
end Go.Proofs.YthgbncpiehcghaaGreatDoor
/- PLAIN MATHEMATICS OF LAYER 4, SECOND PART: the order of paths is one; a path's pieces, parent and base. No Go text is named. -/
namespace Go.Proofs.YthgbncpiehcghaaGreatDoor
set_option linter.unusedVariables false
open Go.RowKit
namespace Pp
theorem bl_irrefl : ∀ x : List UInt8, Op.bytesLess x x = false
  | [] => rfl
  | a :: x => by simp [Op.bytesLess, bl_irrefl x]
theorem bl_trans : ∀ x y z : List UInt8, Op.bytesLess x y = true → Op.bytesLess y z = true → Op.bytesLess x z = true
  | [], y, [], _, h => by cases y <;> simp [Op.bytesLess] at h
  | [], _, _ :: _, _, _ => rfl
  | _ :: _, [], _, h, _ => by simp [Op.bytesLess] at h
  | _ :: _, _ :: _, [], _, h => by simp [Op.bytesLess] at h
  | a :: x, b :: y, c :: z, h, k => by
    simp only [Op.bytesLess, Bool.or_eq_true, decide_eq_true_eq, Bool.and_eq_true, beq_iff_eq] at h k ⊢
    rcases h with h | ⟨rfl, h⟩
    · rcases k with k | ⟨rfl, _⟩
      · exact .inl (UInt8.lt_trans h k)
      · exact .inl h
    · rcases k with k | ⟨rfl, k⟩
      · exact .inl k
      · exact .inr ⟨rfl, bl_trans x y z h k⟩
theorem bl_total : ∀ x y : List UInt8, x ≠ y → Op.bytesLess x y = true ∨ Op.bytesLess y x = true
  | [], [], h => absurd rfl h
  | [], _ :: _, _ => .inl rfl
  | _ :: _, [], _ => .inr rfl
  | a :: x, b :: y, h => by
    simp only [Op.bytesLess, Bool.or_eq_true, decide_eq_true_eq, Bool.and_eq_true, beq_iff_eq]
    by_cases e : a = b
    · subst e
      have h2 : x ≠ y := fun e => h (by rw [e])
      rcases bl_total x y h2 with k | k
      · exact .inl (.inr ⟨rfl, k⟩)
      · exact .inr (.inr ⟨rfl, k⟩)
    · rcases UInt8.lt_or_lt_of_ne e with k | k
      · exact .inl (.inl k)
      · exact .inr (.inl k)
theorem bl_asymm {x y : List UInt8} (h : Op.bytesLess x y = true) : Op.bytesLess y x = false := by
  cases k : Op.bytesLess y x with
  | false => rfl
  | true => have := bl_trans _ _ _ h k; rw [bl_irrefl] at this; cases this
theorem lt_irrefl (x : ByteArray) : lt x x = false := bl_irrefl _
theorem lt_trans {x y z : ByteArray} (h : lt x y = true) (k : lt y z = true) : lt x z = true := bl_trans _ _ _ h k
theorem lt_total {x y : ByteArray} (h : x ≠ y) : lt x y = true ∨ lt y x = true := bl_total _ _ fun e => by
  have := toList_ne h
  rw [e] at this
  simp at this
theorem less_irrefl (xs : List ByteArray) : lessL xs xs = false := by
  have := lessL_nil xs []
  rwa [List.append_nil] at this
theorem less_trans : ∀ xs ys zs : List ByteArray, lessL xs ys = true → lessL ys zs = true → lessL xs zs = true
  | [], ys, [], _, h => by cases ys <;> simp [lessL] at h
  | [], _, _ :: _, _, _ => rfl
  | _ :: _, [], _, h, _ => by simp [lessL] at h
  | _ :: _, _ :: _, [], _, h => by simp [lessL] at h
  | a :: x, b :: y, c :: z, h, k => by
    simp only [lessL] at h k ⊢
    by_cases e1 : a = b
    · subst e1
      rw [if_pos rfl] at h
      by_cases e2 : a = c
      · subst e2
        rw [if_pos rfl] at k ⊢
        exact less_trans x y z h k
      · rw [if_neg e2] at k ⊢
        exact k
    · rw [if_neg e1] at h
      by_cases e2 : b = c
      · subst e2
        rw [if_neg e1]
        exact h
      · rw [if_neg e2] at k
        have hk := lt_trans h k
        by_cases e3 : a = c
        · subst e3
          rw [lt_irrefl] at hk
          cases hk
        · rw [if_neg e3]
          exact hk
theorem less_total : ∀ xs ys : List ByteArray, xs ≠ ys → lessL xs ys = true ∨ lessL ys xs = true
  | [], [], h => absurd rfl h
  | [], _ :: _, _ => .inl rfl
  | _ :: _, [], _ => .inr rfl
  | a :: x, b :: y, h => by
    simp only [lessL]
    by_cases e : a = b
    · subst e
      have h2 : x ≠ y := fun e => h (by rw [e])
      rw [if_pos rfl, if_pos rfl]
      exact less_total x y h2
    · rw [if_neg e, if_neg (Ne.symm e)]
      exact lt_total e
theorem less_asymm {xs ys : List ByteArray} (h : lessL xs ys = true) : lessL ys xs = false := by
  cases k : lessL ys xs with
  | false => rfl
  | true => have := less_trans _ _ _ h k; rw [less_irrefl] at this; cases this
/- PIECES AS LISTS OF BYTES. -/
def piecesL : List UInt8 → List (List UInt8)
  | [] => [[]]
  | c :: l => if c = 47 then [] :: piecesL l else match piecesL l with
    | [] => [[c]]
    | p :: ps => (c :: p) :: ps
def joinL : List (List UInt8) → List UInt8
  | [] => []
  | [p] => p
  | p :: q :: ps => p ++ 47 :: joinL (q :: ps)
theorem piecesL_hit (l : List UInt8) : piecesL (47 :: l) = [] :: piecesL l := by simp [piecesL]
theorem piecesL_miss {c : UInt8} (h : ¬ c = 47) {l p : List UInt8} {ps : List (List UInt8)} (hp : piecesL l = p :: ps) : piecesL (c :: l) = (c :: p) :: ps := by
  rw [piecesL, if_neg h, hp]
theorem piecesL_ne (l : List UInt8) : piecesL l ≠ [] := by
  cases l with
  | nil => simp [piecesL]
  | cons c l =>
    unfold piecesL
    by_cases h : c = 47
    · rw [if_pos h]; simp
    · rw [if_neg h]
      cases piecesL l <;> simp
theorem piecesL_app : ∀ (a b : List UInt8), piecesL (a ++ 47 :: b) = piecesL a ++ piecesL b
  | [], b => piecesL_hit b
  | c :: a, b => by
    have ih := piecesL_app a b
    show piecesL (c :: (a ++ 47 :: b)) = _
    by_cases h : c = 47
    · subst h
      rw [piecesL_hit, piecesL_hit, ih]; rfl
    · cases hp : piecesL a with
      | nil => exact absurd hp (piecesL_ne a)
      | cons p ps =>
        rw [hp] at ih
        rw [piecesL_miss h hp, piecesL_miss h ih]
        rfl
theorem piecesL_one : ∀ (a : List UInt8), (47 : UInt8) ∉ a → piecesL a = [a]
  | [], _ => rfl
  | c :: a, h => by
    have h1 : ¬ c = 47 := fun e => h (by simp [e])
    have h2 : (47 : UInt8) ∉ a := fun e => h (List.mem_cons_of_mem _ e)
    unfold piecesL
    rw [if_neg h1, piecesL_one a h2]
theorem joinL_pieces : ∀ (a : List UInt8), joinL (piecesL a) = a
  | [] => rfl
  | c :: a => by
    have ih := joinL_pieces a
    unfold piecesL
    cases hp : piecesL a with
    | nil => exact absurd hp (piecesL_ne a)
    | cons p ps =>
      rw [hp] at ih
      by_cases h : c = 47
      · rw [if_pos h]
        show [] ++ 47 :: joinL (p :: ps) = _
        rw [ih, h]; rfl
      · rw [if_neg h]
        cases ps with
        | nil => show c :: p = _; rw [show p = a from ih]
        | cons q qs =>
          show (c :: p) ++ 47 :: joinL (q :: qs) = _
          rw [← ih]; rfl
theorem ext_split (s : ByteArray) (i : Nat) (h : i < s.size) (e : s[i] = 47) : s.data.toList = (s.extract 0 i).data.toList ++ 47 :: (s.extract (i + 1) s.size).data.toList := by
  rw [Lib.extract_data, Lib.extract_data, List.drop_zero, Nat.sub_zero, List.take_of_length_le (l := s.data.toList.drop (i + 1)) (by rw [List.length_drop, ← size_eq]; exact Nat.le_refl _)]
  have hl : i < s.data.toList.length := by rw [← size_eq]; exact h
  have e2 : s.data.toList[i] = 47 := e
  have e3 : s.data.toList.drop i = 47 :: s.data.toList.drop (i + 1) := by rw [List.drop_eq_getElem_cons hl, e2]
  rw [← e3, List.take_append_drop]
theorem pieces_map (s : ByteArray) : (pieces s).map (fun b => b.data.toList) = piecesL s.data.toList := by
  by_cases h : fi s < s.size
  · have hlt := tl_lt s h
    have ih := pieces_map (tl s)
    have h1 : piecesL (hd s).data.toList = [(hd s).data.toList] := by
      apply piecesL_one
      intro hm
      unfold hd at hm
      obtain ⟨j, hj, e⟩ := List.mem_iff_getElem.1 hm
      have e2 := Lib.extract_data s 0 (fi s)
      rw [List.getElem_of_eq e2] at e
      simp at e
      rw [e2] at hj
      simp at hj
      exact fi_lt s j (by rw [size_eq] at h ⊢; omega) (by omega) e
    rw [pieces_more s h, List.map_cons, ih, ext_split s (fi s) h (fi_at s h), piecesL_app]
    show _ = piecesL (hd s).data.toList ++ piecesL (tl s).data.toList
    rw [h1]
    rfl
  · rw [pieces_last s h, piecesL_one _ (fun hm => h ((fi_mem s).2 hm))]
    rfl
termination_by s.size
theorem map_inj {xs ys : List ByteArray} (h : xs.map (fun b => b.data.toList) = ys.map (fun b => b.data.toList)) : xs = ys := by
  refine List.map_inj_right (f := fun b : ByteArray => b.data.toList) (fun a b e => ?_) |>.1 h
  exact ByteArray.ext (Array.toList_inj.1 e)
theorem pieces_inj {s t : ByteArray} (h : pieces s = pieces t) : s = t := by
  have e := pieces_map s
  rw [h, pieces_map t] at e
  have e2 := congrArg joinL e
  rw [joinL_pieces, joinL_pieces] at e2
  exact (ByteArray.ext (Array.toList_inj.1 e2)).symm
theorem pieces_parent {s : ByteArray} {i : Nat} (h : IsLast s s.size (i : Int)) : ∃ hi : i < s.size, s[i] = 47 ∧ pieces s = pieces (s.extract 0 i) ++ [s.extract (i + 1) s.size] := by
  rcases h with ⟨h, _⟩ | ⟨j, hj, _, h2, h3, h4⟩
  · omega
  · obtain rfl : i = j := by omega
    refine ⟨hj, h3, map_inj ?_⟩
    have h1 : piecesL (s.extract (i + 1) s.size).data.toList = [(s.extract (i + 1) s.size).data.toList] := by
      apply piecesL_one
      intro hm
      obtain ⟨k, hk, e⟩ := List.mem_iff_getElem.1 hm
      have e2 := Lib.extract_data s (i + 1) s.size
      rw [List.getElem_of_eq e2] at e
      rw [e2] at hk
      simp at hk
      simp at e
      have hks : i + 1 + k < s.size := by have := size_eq s; simp at this; omega
      exact h4 (i + 1 + k) hks (by omega) hks e
    rw [List.map_append, pieces_map, pieces_map, ext_split s i hj h3, piecesL_app, h1]
    rfl
theorem pieces_none {s : ByteArray} (h : IsLast s s.size (-1)) : pieces s = [s] := by
  apply pieces_last
  intro hf
  rcases h with ⟨_, h⟩ | ⟨j, _, _, h2, _⟩
  · exact h _ hf hf (fi_at s hf)
  · omega
theorem may_iff (s : ByteArray) : ((partsS s).2 == 0) = true ↔ s.size ≤ 300 ∧ ∀ x ∈ pieces s, Nm x := by
  unfold partsS
  by_cases h : s.size ≤ 300 ∧ ∀ x ∈ pieces s, Nm x
  · rw [if_pos h]; exact ⟨fun _ => h, fun _ => rfl⟩
  · rw [if_neg h]; exact ⟨fun e => (by cases e), fun k => absurd k h⟩
instance (s : ByteArray) (k : Nat) (r : Int) : Decidable (IsLast s k r) := by unfold IsLast; exact inferInstance
theorem ab_pieces : pieces ⟨#[97, 47, 98]⟩ = [⟨#[97]⟩, ⟨#[98]⟩] := map_inj (by rw [pieces_map]; decide +kernel)
theorem axb_pieces : pieces ⟨#[97, 47, 46, 46, 47, 98]⟩ = [⟨#[97]⟩, ⟨#[46, 46]⟩, ⟨#[98]⟩] := map_inj (by rw [pieces_map]; decide +kernel)
theorem dab_pieces : pieces ⟨#[97, 46, 98]⟩ = [⟨#[97, 46, 98]⟩] := map_inj (by rw [pieces_map]; decide +kernel)
theorem ab_parts : partsS ⟨#[97, 47, 98]⟩ = ([⟨#[97]⟩, ⟨#[98]⟩], 0) := by
  rw [← ab_pieces]
  refine parts_yes (by decide +kernel) ?_
  rw [ab_pieces]
  decide +kernel
theorem axb_parts : partsS ⟨#[97, 47, 46, 46, 47, 98]⟩ = ([], 8) := parts_no (x := ⟨#[46, 46]⟩) (by rw [axb_pieces]; simp) (by decide +kernel)
theorem ab_less : lessL (pieces ⟨#[97, 47, 98]⟩) (pieces ⟨#[97, 46, 98]⟩) = true := by
  rw [ab_pieces, dab_pieces]
  decide +kernel
end Pp
end Go.Proofs.YthgbncpiehcghaaGreatDoor
/- PLAIN MATHEMATICS OF LAYER 13 (trees of files): a tree as a list of paths, each of a node of a list; its operations. No Go text is named. -/
namespace Go.Proofs.YthgbncpiehcghaaGreatDoor
set_option linter.unusedVariables false
open Go.RowKit
namespace Nt
abbrev Path := List ByteArray
/-- A node; (A, n, c): the slice that its bytes xs came in. -/
structure Nd where
  kind : Int
  mode : Int
  uid : Int
  gid : Int
  mtime : Int
  link : ByteArray
  A : Option Addr
  n : Nat
  c : Nat
  xs : List Int
def Nd.zero : Nd := ⟨0, 0, 0, 0, 0, ⟨#[]⟩, none, 0, 0, []⟩
abbrev Ps := List (Path × Nat)
structure Tr where
  nodes : List Nd
  paths : Ps
  room : Int
  vol : Int
def Tr.nd (T : Tr) (n : Nat) : Nd := T.nodes.getD n Nd.zero
def at_ : Ps → Path → Option Nat
  | [], _ => none
  | x :: r, p => if x.1 = p then some x.2 else at_ r p
def cnt (R : Ps) (n : Nat) : Nat := (R.filter (fun x => x.2 == n)).length
def sum (g : Nat → Nat) : Nat → Nat
  | 0 => 0
  | k + 1 => sum g k + g k
/-- What the nodes beside the root that R reaches have together. -/
def used (R : Ps) (f : Nd → Nat) (l : List Nd) : Nat := sum (fun i => if i = 0 then 0 else if cnt R i = 0 then 0 else f (l.getD i Nd.zero)) l.length
def Tr.usedN (T : Tr) : Nat := used T.paths (fun _ => 1) T.nodes
def Tr.usedB (T : Tr) : Nat := used T.paths (fun x => x.xs.length) T.nodes
def nms (p : ByteArray) : Path := if p.size = 0 then [] else Pp.pieces p
def isP (p : ByteArray) : Bool := (Pp.partsS p).2 == 0
def Tr.fnd (T : Tr) : Path → Nat → Path → Nat × Int
  | _, n, [] => (n, 0)
  | pre, n, x :: r => if (T.nd n).kind ≠ 4 then (0, 12) else match at_ T.paths (pre ++ [x]) with
    | none => (0, 6)
    | some k => T.fnd (pre ++ [x]) k r
def Tr.find (T : Tr) (p : ByteArray) : Nat × Int := if p.size = 0 then (0, 0) else if isP p then T.fnd [] 0 (Pp.pieces p) else (0, 8)
def Tr.parE (T : Tr) (p : ByteArray) : Int :=
  if isP p then (let x := T.fnd [] 0 (Pp.pieces p).dropLast; if x.2 ≠ 0 then x.2 else if (T.nd x.1).kind ≠ 4 then 12 else 0) else 8
def Tr.fresh (T : Tr) (p : ByteArray) : Int := if T.parE p ≠ 0 then T.parE p else if (at_ T.paths (Pp.pieces p)).isSome then 7 else 0
def metaOk (a b c d : Int) : Bool :=
  decide (0 ≤ a) && decide (a ≤ 4095) && decide (0 ≤ b) && decide (b ≤ 1099511627775) && decide (0 ≤ c) && decide (c ≤ 1099511627775) && decide (-1125899906842624 ≤ d) && decide (d ≤ 1125899906842624)
def linkE (l : ByteArray) : Int := if l.size = 0 then 3 else if (0 : UInt8) ∈ l.data.toList then 3 else if 300 < l.size then 10 else 0
def Tr.roomy (T : Tr) (a b : Int) : Bool := decide (T.usedN + a ≤ T.room) && decide (T.usedB + b ≤ T.vol)
def Tr.mk1 (T : Tr) (p : ByteArray) (x : Nd) : Tr := { T with nodes := T.nodes ++ [x], paths := T.paths ++ [(Pp.pieces p, T.nodes.length)] }
def Tr.mkE (T : Tr) (p : ByteArray) (x : Nd) : Int :=
  if T.fresh p ≠ 0 then T.fresh p else if metaOk x.mode x.uid x.gid x.mtime = false then 10 else if x.kind = 1 ∧ 4096 < x.n then 10
  else if x.kind = 3 ∧ linkE x.link ≠ 0 then linkE x.link else if T.roomy 1 x.n = false then 14 else 0
def Tr.mk' (T : Tr) (p : ByteArray) (x : Nd) : Tr × Int := if T.mkE p x = 0 then (T.mk1 p x, 0) else (T, T.mkE p x)
def Tr.lnkE (T : Tr) (p old : ByteArray) : Int := if T.fresh p ≠ 0 then T.fresh p else if (T.find old).2 ≠ 0 then (T.find old).2 else if (T.nd (T.find old).1).kind ≠ 1 then 11 else 0
def Tr.lnk1 (T : Tr) (p : ByteArray) (n : Nat) : Tr := { T with paths := T.paths ++ [(Pp.pieces p, n)] }
def Tr.lnk (T : Tr) (p old : ByteArray) : Tr × Int := if T.lnkE p old = 0 then (T.lnk1 p (T.find old).1, 0) else (T, T.lnkE p old)
def Tr.with_ (T : Tr) (n : Nat) (x : Nd) : Tr := { T with nodes := T.nodes.set n x }
def Tr.wrE (T : Tr) (p : ByteArray) (n : Nat) : Int :=
  if (T.find p).2 ≠ 0 then (T.find p).2 else if (T.nd (T.find p).1).kind = 4 then 13 else if (T.nd (T.find p).1).kind = 3 then 11 else if 4096 < n then 10
  else if T.roomy 0 ((n : Int) - (T.nd (T.find p).1).n) = false then 14 else 0
def Tr.wr1 (T : Tr) (m : Nat) (A : Option Addr) (n c : Nat) (xs : List Int) : Tr := T.with_ m { T.nd m with A := A, n := n, c := c, xs := xs }
def Tr.wr (T : Tr) (p : ByteArray) (A : Option Addr) (n c : Nat) (xs : List Int) : Tr × Int := if T.wrE p n = 0 then (T.wr1 (T.find p).1 A n c xs, 0) else (T, T.wrE p n)
def Tr.stE (T : Tr) (p : ByteArray) (a b c d : Int) : Int := if (T.find p).2 ≠ 0 then (T.find p).2 else if metaOk a b c d = false then 10 else 0
def Tr.st1 (T : Tr) (m : Nat) (a b c d : Int) : Tr := T.with_ m { T.nd m with mode := a, uid := b, gid := c, mtime := d }
def Tr.st (T : Tr) (p : ByteArray) (a b c d : Int) : Tr × Int := if T.stE p a b c d = 0 then (T.st1 (T.find p).1 a b c d, 0) else (T, T.stE p a b c d)
def cut (R : Ps) (p : Path) : Ps := R.filter (fun x => decide (¬ p <+: x.1))
def Tr.clr1 (T : Tr) (p : Path) : Tr := { T with paths := cut T.paths p }
def Tr.clrE (T : Tr) (p : ByteArray) : Int := if (T.find p).2 ≠ 0 then (T.find p).2 else if p.size = 0 then 1 else 0
def Tr.clr (T : Tr) (p : ByteArray) : Tr × Int := if T.clrE p = 0 then (T.clr1 (Pp.pieces p), 0) else (T, T.clrE p)
def isKid (R : Ps) (p : Path) (s : ByteArray) : Bool := (at_ R (p ++ [s])).isSome
def noKids (R : Ps) (p : Path) : Bool := R.all (fun x => decide (¬ (x.1 ≠ [] ∧ x.1.dropLast = p)))
def Tr.rmE (T : Tr) (p : ByteArray) : Int := if T.clrE p ≠ 0 then T.clrE p else if noKids T.paths (nms p) = false then 18 else 0
def Tr.rm (T : Tr) (p : ByteArray) : Tr × Int := if T.rmE p = 0 then (T.clr1 (Pp.pieces p), 0) else (T, T.rmE p)
def mv (f t : Path) (x : Path × Nat) : Path × Nat := if f <+: x.1 then (t ++ x.1.drop f.length, x.2) else x
def Tr.rn1 (T : Tr) (f t : Path) : Tr := { T with paths := (cut T.paths t).map (mv f t) }
/-- 0: it is done; -1: nothing is to be done. -/
def Tr.rnE (T : Tr) (f t : ByteArray) : Int :=
  if (T.find f).2 ≠ 0 then (T.find f).2 else if (T.find f).1 = 0 then 1 else if T.parE t ≠ 0 then T.parE t
  else match at_ T.paths (Pp.pieces t) with
    | some k => if k = (T.find f).1 then -1 else if (T.nd (T.find f).1).kind = 4 then 7 else if (T.nd k).kind = 4 then 13 else 0
    | none => if (T.nd (T.find f).1).kind = 4 then (if Pp.pieces f <+: Pp.pieces t then 1 else 0) else 0
def Tr.rn (T : Tr) (f t : ByteArray) : Tr × Int := if T.rnE f t = 0 then (T.rn1 (Pp.pieces f) (Pp.pieces t), 0) else if T.rnE f t = -1 then (T, 0) else (T, T.rnE f t)
def new (a b : Int) : Tr := ⟨[{ Nd.zero with kind := 4 }], [([], 0)], max a 0, max b 0⟩
/-- A path as a text. -/
def txt : Path → ByteArray
  | [] => ⟨#[]⟩
  | [x] => x
  | x :: y :: r => x ++ ⟨#[47]⟩ ++ txt (y :: r)

def Nd.ok (x : Nd) : Prop := (x.kind = 1 ∨ x.kind = 3 ∨ x.kind = 4) ∧ x.xs.length = x.n ∧ x.n ≤ 4096 ∧ (x.kind ≠ 1 → x.n = 0) ∧ (x.kind ≠ 3 → x.link = ⟨#[]⟩)
/-- What all trees keep; K: how long a path's text may be. -/
structure WF (T : Tr) (K : Nat) : Prop where
  root : ([], 0) ∈ T.paths
  rootk : (T.nd 0).kind = 4
  nodup : (T.paths.map (·.1)).Nodup
  lt : ∀ p n, (p, n) ∈ T.paths → n < T.nodes.length
  up : ∀ p x n, (p ++ [x], n) ∈ T.paths → n ≠ 0 ∧ Pp.Nm x ∧ ∃ m, (p, m) ∈ T.paths ∧ (T.nd m).kind = 4
  one : ∀ p q n, (p, n) ∈ T.paths → (q, n) ∈ T.paths → (T.nd n).kind ≠ 1 → p = q
  kinds : ∀ x ∈ T.nodes, x.ok
  long : ∀ p n, (p, n) ∈ T.paths → (txt p).size ≤ K
  few : T.nodes.length ≤ K
  many : T.paths.length ≤ K
  rms : (0 ≤ T.room ∧ T.room ≤ 9223372036854775807) ∧ 0 ≤ T.vol ∧ T.vol ≤ 9223372036854775807

/-! ### look-ups -/
theorem at_mem : ∀ {R : Ps} {p : Path} {n : Nat}, at_ R p = some n → (p, n) ∈ R
  | x :: r, p, n, h => by
    unfold at_ at h
    split at h
    · rename_i e
      cases h
      subst e
      simp
    · exact List.mem_cons_of_mem _ (at_mem h)
theorem at_none : ∀ {R : Ps} {p : Path}, at_ R p = none → ∀ n, (p, n) ∉ R
  | [], p, _, n => by simp
  | x :: r, p, h, n => by
    unfold at_ at h
    split at h
    · cases h
    · rename_i e
      intro hm
      rcases List.mem_cons.1 hm with h1 | h1
      · exact e (by rw [← h1])
      · exact at_none h n h1
theorem nodup_one {R : Ps} (hd : (R.map (·.1)).Nodup) {p : Path} {n m : Nat} (h : (p, n) ∈ R) (h' : (p, m) ∈ R) : n = m := by
  induction R with
  | nil => cases h
  | cons x r ih =>
    rw [List.map_cons, List.nodup_cons] at hd
    rcases List.mem_cons.1 h with h1 | h1 <;> rcases List.mem_cons.1 h' with h2 | h2
    · rw [← h1] at h2; cases h2; rfl
    · exact absurd (List.mem_map.2 ⟨_, h2, by rw [← h1]⟩) hd.1
    · exact absurd (List.mem_map.2 ⟨_, h1, by rw [← h2]⟩) hd.1
    · exact ih hd.2 h1 h2
theorem at_iff {R : Ps} (hd : (R.map (·.1)).Nodup) {p : Path} {n : Nat} : at_ R p = some n ↔ (p, n) ∈ R := by
  constructor
  · exact at_mem
  · intro h
    cases e : at_ R p with
    | none => exact absurd h (at_none e n)
    | some m => rw [nodup_one hd h (at_mem e)]
theorem at_app (R S : Ps) (p : Path) : at_ (R ++ S) p = (at_ R p).or (at_ S p) := by
  induction R with
  | nil => simp [at_]
  | cons x r ih =>
    rw [List.cons_append, at_, at_]
    split
    · rfl
    · exact ih
theorem at_filter {R : Ps} {f : Path × Nat → Bool} {p : Path} (h : ∀ n, f (p, n) = true) : at_ (R.filter f) p = at_ R p := by
  induction R with
  | nil => rfl
  | cons x r ih =>
    rw [List.filter_cons]
    by_cases e : x.1 = p
    · have hx : f x = true := by have := h x.2; rw [← e] at this; exact this
      rw [if_pos hx]
      unfold at_
      rw [if_pos e, if_pos e]
    · by_cases hx : f x = true
      · rw [if_pos hx]
        conv => lhs; unfold at_
        conv => rhs; unfold at_
        rw [if_neg e, if_neg e, ih]
      · rw [if_neg hx]
        conv => rhs; unfold at_
        rw [if_neg e, ih]
theorem at_filter_none {R : Ps} {f : Path × Nat → Bool} {p : Path} (h : ∀ n, f (p, n) = false) : at_ (R.filter f) p = none := by
  cases e : at_ (R.filter f) p with
  | none => rfl
  | some n =>
    have := (List.mem_filter.1 (at_mem e)).2
    rw [h n] at this
    cases this

/-! ### how many paths a node has -/
theorem cnt_pos {R : Ps} {n : Nat} : 0 < cnt R n ↔ ∃ p, (p, n) ∈ R := by
  unfold cnt
  rw [List.length_pos_iff_exists_mem]
  constructor
  · rintro ⟨⟨p, m⟩, h⟩
    obtain ⟨h1, h2⟩ := List.mem_filter.1 h
    obtain rfl : m = n := by simpa using h2
    exact ⟨p, h1⟩
  · rintro ⟨p, h⟩
    exact ⟨(p, n), List.mem_filter.2 ⟨h, by simp⟩⟩
theorem cnt_app (R S : Ps) (n : Nat) : cnt (R ++ S) n = cnt R n + cnt S n := by unfold cnt; rw [List.filter_append, List.length_append]
theorem cnt_one (p : Path) (m n : Nat) : cnt [(p, m)] n = if m = n then 1 else 0 := by
  unfold cnt
  by_cases h : m = n <;> simp [h]
theorem cnt_le (R : Ps) (n : Nat) : cnt R n ≤ R.length := List.length_filter_le _ _
theorem cnt_map {R : Ps} {f : Path × Nat → Path × Nat} (h : ∀ x, (f x).2 = x.2) (n : Nat) : cnt (R.map f) n = cnt R n := by
  unfold cnt
  rw [List.filter_map, List.length_map]
  congr 2
  funext x
  simp [h]
/-- One path less. -/
theorem cnt_drop {R : Ps} (hd : (R.map (·.1)).Nodup) {p : Path} {m : Nat} (h : (p, m) ∈ R) (n : Nat) : cnt R n = cnt (R.filter (fun x => decide (x.1 ≠ p))) n + (if m = n then 1 else 0) := by
  induction R with
  | nil => cases h
  | cons x r ih =>
    rw [List.map_cons, List.nodup_cons] at hd
    have ec : ∀ (y : Path × Nat) (l : Ps), cnt (y :: l) n = (if y.2 = n then 1 else 0) + cnt l n := fun y l => by
      have := cnt_app [y] l n
      rw [cnt_one] at this
      exact this
    rcases List.mem_cons.1 h with h1 | h1
    · subst h1
      have e : r.filter (fun x => decide (x.1 ≠ p)) = r := List.filter_eq_self.2 fun y hy => by
        have : y.1 ≠ p := fun e => hd.1 (List.mem_map.2 ⟨y, hy, e⟩)
        simpa using this
      rw [List.filter_cons]
      simp only [ne_eq, not_true_eq_false, decide_false, Bool.false_eq_true, if_false]
      rw [ec]
      simp only [ne_eq] at e
      rw [e]
      exact Nat.add_comm _ _
    · have hne : x.1 ≠ p := fun e => hd.1 (List.mem_map.2 ⟨_, h1, e.symm⟩)
      have := ih hd.2 h1
      rw [List.filter_cons, if_pos (by simpa using hne), ec, ec, this]
      omega

/-! ### sums -/
theorem sum_same {g g' : Nat → Nat} : ∀ {k : Nat}, (∀ i, i < k → g i = g' i) → sum g k = sum g' k
  | 0, _ => rfl
  | k + 1, h => by
    unfold sum
    rw [sum_same fun i hi => h i (by omega), h k (by omega)]
theorem sum_one {g g' : Nat → Nat} {m : Nat} : ∀ {k : Nat}, m < k → (∀ i, i < k → i ≠ m → g i = g' i) → sum g k + g' m = sum g' k + g m
  | 0, h, _ => by omega
  | k + 1, h, hs => by
    unfold sum
    by_cases e : m = k
    · subst e
      rw [sum_same fun i hi => hs i (by omega) (by omega)]
      omega
    · have := sum_one (m := m) (k := k) (by omega) fun i hi hn => hs i (by omega) hn
      rw [hs k (by omega) (by omega)]
      omega
theorem sum_le {g : Nat → Nat} {b : Nat} : ∀ {k : Nat}, (∀ i, i < k → g i ≤ b) → sum g k ≤ k * b
  | 0, _ => by simp [sum]
  | k + 1, h => by
    unfold sum
    have := sum_le (b := b) (k := k) fun i hi => h i (by omega)
    have := h k (by omega)
    rw [Nat.succ_mul]
    omega
theorem getD_snoc {l : List Nd} {x : Nd} {i : Nat} : (l ++ [x]).getD i Nd.zero = if i = l.length then x else l.getD i Nd.zero := by
  simp only [List.getD, List.getElem?_append]
  by_cases h : i < l.length
  · rw [if_pos h, if_neg (by omega)]
  · rw [if_neg h]
    by_cases e : i = l.length
    · subst e; simp
    · rw [if_neg e]
      have h1 : ([x] : List Nd)[i - l.length]? = none := by simp; omega
      have h2 : l[i]? = none := by simp; omega
      rw [h1, h2]
theorem getD_set {l : List Nd} {x : Nd} {i m : Nat} (hm : m < l.length) : (l.set m x).getD i Nd.zero = if i = m then x else l.getD i Nd.zero := by
  simp only [List.getD, List.getElem?_set]
  by_cases h : m = i
  · subst h; simp [hm]
  · rw [if_neg h, if_neg (fun e => h e.symm)]
/-- The same nodes are reached. -/
theorem used_same {R R' : Ps} (f : Nd → Nat) (l : List Nd) (h : ∀ i, i < l.length → i ≠ 0 → (cnt R i = 0 ↔ cnt R' i = 0)) : used R f l = used R' f l := by
  unfold used
  refine sum_same fun i hi => ?_
  by_cases h0 : i = 0
  · simp [h0]
  · rw [if_neg h0, if_neg h0]
    by_cases h1 : cnt R i = 0
    · rw [if_pos h1, if_pos ((h i hi h0).1 h1)]
    · rw [if_neg h1, if_neg fun e => h1 ((h i hi h0).2 e)]
/-- A new node. -/
theorem used_new {R : Ps} (f : Nd → Nat) (l : List Nd) (x : Nd) (p : Path) (hl : 0 < l.length) (hR : ∀ q n, (q, n) ∈ R → n < l.length) : used (R ++ [(p, l.length)]) f (l ++ [x]) = used R f l + f x := by
  unfold used
  rw [List.length_append, List.length_singleton]
  show sum _ l.length + _ = _
  congr 1
  · refine sum_same fun i hi => ?_
    rw [cnt_app, cnt_one, if_neg (by omega : ¬ l.length = i), Nat.add_zero, getD_snoc, if_neg (by omega : ¬ i = l.length)]
  · simp only
    rw [if_neg (by omega : ¬ l.length = 0), cnt_app, cnt_one, if_pos rfl, if_neg (by omega), getD_snoc, if_pos rfl]
/-- Another node in a node's place. -/
theorem used_set {R : Ps} (f : Nd → Nat) (l : List Nd) (x : Nd) {m : Nat} (hm : m < l.length) (h0 : m ≠ 0) (hc : 0 < cnt R m) : used R f (l.set m x) + f (l.getD m Nd.zero) = used R f l + f x := by
  unfold used
  rw [List.length_set]
  have := sum_one (g := fun i => if i = 0 then 0 else if cnt R i = 0 then 0 else f ((l.set m x).getD i Nd.zero)) (g' := fun i => if i = 0 then 0 else if cnt R i = 0 then 0 else f (l.getD i Nd.zero)) hm (fun i hi hn => by
    rw [getD_set hm, if_neg hn])
  rw [if_neg h0, if_neg (by omega), if_neg h0, if_neg (by omega), getD_set hm, if_pos rfl] at this
  exact this
theorem used_set0 {R : Ps} (f : Nd → Nat) (l : List Nd) (x : Nd) {m : Nat} (hm : m < l.length) (hx : f x = f (l.getD m Nd.zero)) : used R f (l.set m x) = used R f l := by
  unfold used
  rw [List.length_set]
  refine sum_same fun i hi => ?_
  rw [getD_set hm]
  by_cases e : i = m
  · subst e; rw [if_pos rfl, hx]
  · rw [if_neg e]
/-- One path less. -/
theorem used_drop {R : Ps} (hd : (R.map (·.1)).Nodup) (f : Nd → Nat) (l : List Nd) {p : Path} {m : Nat} (h : (p, m) ∈ R) (hm : m < l.length) (h0 : m ≠ 0) :
    used R f l = used (R.filter (fun x => decide (x.1 ≠ p))) f l + (if cnt R m = 1 then f (l.getD m Nd.zero) else 0) := by
  have hc := cnt_drop hd h
  have := sum_one (g := fun i => if i = 0 then 0 else if cnt R i = 0 then 0 else f (l.getD i Nd.zero)) (g' := fun i => if i = 0 then 0 else if cnt (R.filter (fun x => decide (x.1 ≠ p))) i = 0 then 0 else f (l.getD i Nd.zero)) hm (fun i hi hn => by
    have := hc i
    rw [if_neg (fun e => hn e.symm), Nat.add_zero] at this
    simp only [this])
  have hm' := hc m
  rw [if_pos rfl] at hm'
  rw [if_neg h0, if_neg h0, if_neg (by omega : ¬ cnt R m = 0)] at this
  unfold used
  by_cases h1 : cnt R m = 1
  · rw [if_pos h1]
    rw [if_pos (by omega)] at this
    omega
  · rw [if_neg h1]
    rw [if_neg (by omega)] at this
    omega
theorem used_le {R : Ps} (f : Nd → Nat) (l : List Nd) (b : Nat) (h : ∀ x ∈ l, f x ≤ b) : used R f l ≤ l.length * b := by
  unfold used
  refine sum_le fun i hi => ?_
  split
  · omega
  · split
    · omega
    · have : l.getD i Nd.zero ∈ l := by simp [List.getD, hi]
      exact h _ this
end Nt
end Go.Proofs.YthgbncpiehcghaaGreatDoor
/- PLAIN MATHEMATICS OF LAYER 13, SECOND PART: paths as texts; finding; what the operations keep. No Go text is named. -/
namespace Go.Proofs.YthgbncpiehcghaaGreatDoor
set_option linter.unusedVariables false
open Go.RowKit
namespace Nt
theorem rev_ind {P : Path → Prop} (h0 : P []) (h1 : ∀ p x, P p → P (p ++ [x])) : ∀ p, P p := fun p => by
  have : ∀ l : Path, P l.reverse := fun l => by
    induction l with
    | nil => exact h0
    | cons x l ih => rw [List.reverse_cons]; exact h1 _ _ ih
  have h := this p.reverse
  rwa [List.reverse_reverse] at h
theorem one_slash : (⟨#[47]⟩ : ByteArray).size = 1 := rfl
/-! ### paths as texts -/
theorem nm_slash {x : ByteArray} (h : Pp.Nm x) : (47 : UInt8) ∉ x.data.toList := h.2.2
theorem nm_pos {x : ByteArray} (h : Pp.Nm x) : 1 ≤ x.size := h.1.1
theorem nm_le {x : ByteArray} (h : Pp.Nm x) : x.size ≤ 60 := h.1.2.1
theorem data_app (s t : ByteArray) : (s ++ t).data.toList = s.data.toList ++ t.data.toList := by simp
theorem txt_data : ∀ p : Path, (txt p).data.toList = Pp.joinL (p.map fun b => b.data.toList)
  | [] => rfl
  | [x] => rfl
  | x :: y :: r => by
    have ih := txt_data (y :: r)
    show (x ++ ⟨#[47]⟩ ++ txt (y :: r)).data.toList = x.data.toList ++ 47 :: Pp.joinL ((y :: r).map fun b => b.data.toList)
    rw [data_app, data_app, ih]
    simp
theorem piecesL_join : ∀ l : List (List UInt8), l ≠ [] → (∀ x ∈ l, (47 : UInt8) ∉ x) → Pp.piecesL (Pp.joinL l) = l
  | [], h, _ => absurd rfl h
  | [x], _, h => Pp.piecesL_one x (h x (by simp))
  | x :: y :: r, _, h => by
    show Pp.piecesL (x ++ 47 :: Pp.joinL (y :: r)) = _
    rw [Pp.piecesL_app, Pp.piecesL_one x (h x (by simp)), piecesL_join (y :: r) (by simp) fun z hz => h z (List.mem_cons_of_mem _ hz)]
    rfl
theorem pieces_txt {p : Path} (h0 : p ≠ []) (h : ∀ x ∈ p, Pp.Nm x) : Pp.pieces (txt p) = p := by
  refine Pp.map_inj ?_
  rw [Pp.pieces_map, txt_data, piecesL_join _ (by simpa using h0)]
  intro x hx
  obtain ⟨y, hy, rfl⟩ := List.mem_map.1 hx
  exact nm_slash (h y hy)
theorem txt_pieces (s : ByteArray) : txt (Pp.pieces s) = s := by
  have h := txt_data (Pp.pieces s)
  rw [Pp.pieces_map, Pp.joinL_pieces] at h
  exact ByteArray.ext (Array.toList_inj.1 h)
theorem txt_pos {p : Path} (h0 : p ≠ []) (h : ∀ x ∈ p, Pp.Nm x) : 0 < (txt p).size := by
  match p, h0 with
  | [x], _ => exact nm_pos (h x (by simp))
  | x :: y :: r, _ =>
    show 0 < (x ++ ⟨#[47]⟩ ++ txt (y :: r)).size
    have := nm_pos (h x (by simp))
    simp
    omega
theorem txt_inj {p q : Path} (hp : ∀ x ∈ p, Pp.Nm x) (hq : ∀ x ∈ q, Pp.Nm x) (h : txt p = txt q) : p = q := by
  by_cases h1 : p = []
  · subst h1
    by_cases h2 : q = []
    · exact h2.symm
    · have := txt_pos h2 hq
      rw [← h] at this
      exact absurd this (by decide)
  · by_cases h2 : q = []
    · subst h2
      have := txt_pos h1 hp
      rw [h] at this
      exact absurd this (by decide)
    · rw [← pieces_txt h1 hp, ← pieces_txt h2 hq, h]
theorem txt_snoc : ∀ (p : Path) (x : ByteArray), p ≠ [] → txt (p ++ [x]) = txt p ++ ⟨#[47]⟩ ++ x
  | [], x, h => absurd rfl h
  | [y], x, _ => rfl
  | y :: z :: r, x, _ => by
    have ih := txt_snoc (z :: r) x (by simp)
    show y ++ ⟨#[47]⟩ ++ txt ((z :: r) ++ [x]) = y ++ ⟨#[47]⟩ ++ txt (z :: r) ++ ⟨#[47]⟩ ++ x
    rw [ih]
    simp only [ByteArray.append_assoc]
theorem txt_app : ∀ (p q : Path), p ≠ [] → q ≠ [] → txt (p ++ q) = txt p ++ ⟨#[47]⟩ ++ txt q
  | [], q, h, _ => absurd rfl h
  | [y], z :: q, _, _ => rfl
  | [y], [], _, h => absurd rfl h
  | y :: z :: r, q, _, h => by
    have ih := txt_app (z :: r) q (by simp) h
    show y ++ ⟨#[47]⟩ ++ txt ((z :: r) ++ q) = y ++ ⟨#[47]⟩ ++ txt (z :: r) ++ ⟨#[47]⟩ ++ txt q
    rw [ih]
    simp only [ByteArray.append_assoc]
theorem txt_cat_size (p q : Path) : (txt (p ++ q)).size ≤ (txt p).size + 1 + (txt q).size := by
  by_cases h : p = []
  · subst h; simp
  · by_cases h2 : q = []
    · subst h2; simp; omega
    · rw [txt_app p q h h2]; simp [one_slash]
theorem txt_drop_size (p q : Path) : (txt q).size ≤ (txt (p ++ q)).size := by
  by_cases h : p = []
  · subst h; simp
  · by_cases h2 : q = []
    · subst h2
      show 0 ≤ _
      omega
    · rw [txt_app p q h h2]; simp
theorem isP_iff {s : ByteArray} : isP s = true ↔ s.size ≤ 300 ∧ ∀ x ∈ Pp.pieces s, Pp.Nm x := Pp.may_iff s
theorem isP_pos {s : ByteArray} (h : isP s = true) : 0 < s.size := by
  have h2 := (isP_iff.1 h).2
  have := txt_pos (Pp.pieces_ne s) h2
  rwa [txt_pieces] at this
theorem nms_isP {s : ByteArray} (h : isP s = true) : nms s = Pp.pieces s := by
  unfold nms
  rw [if_neg (by have := isP_pos h; omega)]
theorem nms_zero {s : ByteArray} (h : s.size = 0) : nms s = [] := by unfold nms; rw [if_pos h]
theorem txt_nms (s : ByteArray) : txt (nms s) = s := by
  unfold nms
  split
  · rename_i h
    exact (ByteArray.ext (Array.eq_empty_of_size_eq_zero h)).symm
  · exact txt_pieces s
theorem nms_ok {s : ByteArray} (h : isP s = true ∨ s.size = 0) : ∀ x ∈ nms s, Pp.Nm x := by
  rcases h with h | h
  · rw [nms_isP h]; exact (isP_iff.1 h).2
  · rw [nms_zero h]; simp

/-! ### finding -/
variable {T : Tr} {K : Nat}
theorem WF.atI (h : WF T K) {p : Path} {n : Nat} : at_ T.paths p = some n ↔ (p, n) ∈ T.paths := at_iff h.nodup
theorem WF.names (h : WF T K) : ∀ (p : Path) (n : Nat), (p, n) ∈ T.paths → ∀ x ∈ p, Pp.Nm x := by
  refine rev_ind ?_ ?_
  · intro n _ x hx; cases hx
  · intro p y ih n hm x hx
    obtain ⟨_, h2, m, h3, _⟩ := h.up p y n hm
    rcases List.mem_append.1 hx with h4 | h4
    · exact ih m h3 x h4
    · obtain rfl : x = y := by simpa using h4
      exact h2
theorem WF.zero (h : WF T K) {p : Path} (hm : (p, 0) ∈ T.paths) : p = [] := by
  rcases List.eq_nil_or_concat p with rfl | ⟨q, x, rfl⟩
  · rfl
  · rw [List.concat_eq_append] at hm
    exact absurd rfl (h.up q x 0 hm).1
/-- What lies ahead of a path is there too, and a Dir. -/
theorem WF.pre (h : WF T K) : ∀ (q p : Path) (n : Nat), q ≠ [] → (p ++ q, n) ∈ T.paths → ∃ m, (p, m) ∈ T.paths ∧ (T.nd m).kind = 4 := by
  refine rev_ind ?_ ?_
  · intro p n h0 _; exact absurd rfl h0
  · intro q y ih p n _ hm
    rw [← List.append_assoc] at hm
    obtain ⟨_, _, m, h3, h4⟩ := h.up (p ++ q) y n hm
    by_cases hq : q = []
    · subst hq
      rw [List.append_nil] at h3
      exact ⟨m, h3, h4⟩
    · exact ih p m hq h3
theorem fnd_zero : ∀ (r : Path) (pre : Path) (n : Nat), (T.fnd pre n r).2 ≠ 0 → (T.fnd pre n r).1 = 0
  | [], pre, n, h => absurd rfl h
  | x :: r, pre, n, h => by
    unfold Tr.fnd at h ⊢
    by_cases hk : (T.nd n).kind ≠ 4
    · rw [if_pos hk]
    · rw [if_neg hk] at h ⊢
      cases e : at_ T.paths (pre ++ [x]) with
      | none => rfl
      | some k => rw [e] at h; exact fnd_zero r _ _ h
theorem fnd_err : ∀ (r : Path) (pre : Path) (n : Nat), (T.fnd pre n r).2 = 0 ∨ (T.fnd pre n r).2 = 6 ∨ (T.fnd pre n r).2 = 12
  | [], pre, n => .inl rfl
  | x :: r, pre, n => by
    unfold Tr.fnd
    by_cases hk : (T.nd n).kind ≠ 4
    · rw [if_pos hk]; exact .inr (.inr rfl)
    · rw [if_neg hk]
      cases e : at_ T.paths (pre ++ [x]) with
      | none => exact .inr (.inl rfl)
      | some k => exact fnd_err r _ _
theorem WF.fnd_some (h : WF T K) : ∀ (r : Path) (pre : Path) (n m : Nat), (pre, n) ∈ T.paths → ((T.fnd pre n r = (m, 0)) ↔ (pre ++ r, m) ∈ T.paths)
  | [], pre, n, m, hn => by
    rw [List.append_nil]
    unfold Tr.fnd
    constructor
    · intro e
      obtain rfl : n = m := congrArg Prod.fst e
      exact hn
    · intro hm
      rw [nodup_one h.nodup hn hm]
  | x :: r, pre, n, m, hn => by
    unfold Tr.fnd
    by_cases hk : (T.nd n).kind ≠ 4
    · rw [if_pos hk]
      constructor
      · intro e
        have := congrArg Prod.snd e
        simp at this
      · intro hm
        obtain ⟨m', h1, h2⟩ := h.pre (x :: r) pre m (by simp) hm
        rw [nodup_one h.nodup hn h1] at hk
        exact absurd h2 hk
    · rw [if_neg hk]
      cases e : at_ T.paths (pre ++ [x]) with
      | none =>
        constructor
        · intro e
          have := congrArg Prod.snd e
          simp at this
        · intro hm
          by_cases hr : r = []
          · subst hr
            exact absurd hm (at_none e m)
          · obtain ⟨m', h1, _⟩ := h.pre r (pre ++ [x]) m hr (by simpa using hm)
            exact absurd h1 (at_none e m')
      | some k =>
        have := WF.fnd_some h r (pre ++ [x]) k m (at_mem e)
        rw [this]
        simp
theorem WF.find_some (h : WF T K) {p : ByteArray} {m : Nat} : T.find p = (m, 0) ↔ (p.size = 0 ∨ isP p = true) ∧ (nms p, m) ∈ T.paths := by
  unfold Tr.find
  by_cases h0 : p.size = 0
  · rw [if_pos h0, nms_zero h0]
    constructor
    · intro e
      obtain rfl : 0 = m := congrArg Prod.fst e
      exact ⟨.inl h0, h.root⟩
    · rintro ⟨_, hm⟩
      rw [nodup_one h.nodup hm h.root]
  · rw [if_neg h0]
    by_cases h1 : isP p = true
    · rw [if_pos h1, nms_isP h1, h.fnd_some _ _ _ _ h.root]
      simp [h1]
    · rw [if_neg h1]
      constructor
      · intro e
        have := congrArg Prod.snd e
        simp at this
      · rintro ⟨h2 | h2, _⟩
        · exact absurd h2 h0
        · exact absurd h2 h1
theorem find_zero {p : ByteArray} (h : (T.find p).2 ≠ 0) : (T.find p).1 = 0 := by
  unfold Tr.find at h ⊢
  split
  · rfl
  · rename_i h0
    rw [if_neg h0] at h
    split
    · rename_i h1
      rw [if_pos h1] at h
      exact fnd_zero _ _ _ h
    · rfl
theorem WF.find_ok (h : WF T K) {p : ByteArray} (he : (T.find p).2 = 0) : (p.size = 0 ∨ isP p = true) ∧ (nms p, (T.find p).1) ∈ T.paths :=
  h.find_some.1 (by rw [← he])
theorem WF.find_root (h : WF T K) {p : ByteArray} (he : (T.find p).2 = 0) : (T.find p).1 = 0 ↔ p.size = 0 := by
  obtain ⟨h1, h2⟩ := h.find_ok he
  constructor
  · intro e
    rw [e] at h2
    have := h.zero h2
    rcases h1 with h1 | h1
    · exact h1
    · rw [nms_isP h1] at this
      exact absurd this (Pp.pieces_ne p)
  · intro e
    rw [nms_zero e] at h2
    exact nodup_one h.nodup h2 h.root
/-- What a place is: the parent is a Dir that is there. -/
theorem WF.par_ok (h : WF T K) {p : ByteArray} (he : T.parE p = 0) : isP p = true ∧ ∃ q x m, Pp.pieces p = q ++ [x] ∧ Pp.Nm x ∧ (q, m) ∈ T.paths ∧ (T.nd m).kind = 4 ∧ T.fnd [] 0 q = (m, 0) := by
  unfold Tr.parE at he
  by_cases h1 : isP p = true
  · rw [if_pos h1] at he
    simp only at he
    refine ⟨h1, (Pp.pieces p).dropLast, (Pp.pieces p).getLast (Pp.pieces_ne p), (T.fnd [] 0 (Pp.pieces p).dropLast).1, (List.dropLast_concat_getLast (Pp.pieces_ne p)).symm, (isP_iff.1 h1).2 _ (List.getLast_mem _), ?_⟩
    by_cases h2 : (T.fnd [] 0 (Pp.pieces p).dropLast).2 ≠ 0
    · rw [if_pos h2] at he
      exact absurd he h2
    · rw [if_neg h2] at he
      have h2' : (T.fnd [] 0 (Pp.pieces p).dropLast).2 = 0 := by omega
      by_cases h3 : (T.nd (T.fnd [] 0 (Pp.pieces p).dropLast).1).kind ≠ 4
      · rw [if_pos h3] at he
        omega
      · have e : T.fnd [] 0 (Pp.pieces p).dropLast = ((T.fnd [] 0 (Pp.pieces p).dropLast).1, 0) := by rw [← h2']
        exact ⟨by simpa using (h.fnd_some _ _ _ _ h.root).1 e, by omega, e⟩
  · rw [if_neg h1] at he
    omega
theorem WF.fresh_ok (h : WF T K) {p : ByteArray} (he : T.fresh p = 0) : T.parE p = 0 ∧ at_ T.paths (Pp.pieces p) = none := by
  unfold Tr.fresh at he
  by_cases h1 : T.parE p ≠ 0
  · rw [if_pos h1] at he
    exact absurd he h1
  · rw [if_neg h1] at he
    refine ⟨by omega, ?_⟩
    cases e : at_ T.paths (Pp.pieces p) with
    | none => rfl
    | some k => rw [e] at he; simp at he
end Nt
end Go.Proofs.YthgbncpiehcghaaGreatDoor
/- PLAIN MATHEMATICS OF LAYER 13, THIRD PART: what each operation keeps. No Go text is named. -/
namespace Go.Proofs.YthgbncpiehcghaaGreatDoor
set_option linter.unusedVariables false
open Go.RowKit
namespace Nt
variable {T : Tr} {K : Nat}
theorem WF.pos (h : WF T K) : 0 < T.nodes.length := by have := h.lt _ _ h.root; omega
theorem WF.ndok (h : WF T K) {n : Nat} (hn : n < T.nodes.length) : (T.nd n).ok := h.kinds _ (by unfold Tr.nd; simp [List.getD, hn])
theorem nd_mk1 {p : ByteArray} {x : Nd} {n : Nat} : (T.mk1 p x).nd n = if n = T.nodes.length then x else T.nd n := getD_snoc
theorem nd_with {x : Nd} {n m : Nat} (hm : m < T.nodes.length) : (T.with_ m x).nd n = if n = m then x else T.nd n := getD_set hm
theorem at_snoc {R : Ps} {P r : Path} {n : Nat} (h : at_ R P = none) : at_ (R ++ [(P, n)]) r = if r = P then some n else at_ R r := by
  rw [at_app]
  by_cases e : r = P
  · subst e
    rw [h, if_pos rfl]
    simp [at_]
  · rw [if_neg e]
    have : at_ [(P, n)] r = none := by unfold at_; rw [if_neg (fun e2 => e e2.symm)]; rfl
    rw [this]
    cases at_ R r <;> rfl
theorem WF.made (h : WF T K) {p : ByteArray} {x : Nd} (hf : T.fresh p = 0) (hx : x.ok) : WF (T.mk1 p x) (K + 301) := by
  obtain ⟨hpar, hat⟩ := h.fresh_ok hf
  obtain ⟨h1, q, y, m, e1, hy, hm, hk, _⟩ := h.par_ok hpar
  have hL := h.pos
  have hps := (isP_iff.1 h1).1
  have old : ∀ {n : Nat}, n < T.nodes.length → (T.mk1 p x).nd n = T.nd n := fun {n} hn => by rw [nd_mk1, if_neg (by omega)]
  have mem : ∀ {r : Path} {n : Nat}, (r, n) ∈ (T.mk1 p x).paths ↔ (r, n) ∈ T.paths ∨ (r = q ++ [y] ∧ n = T.nodes.length) := fun {r n} => by
    show (r, n) ∈ T.paths ++ [(Pp.pieces p, T.nodes.length)] ↔ _
    rw [List.mem_append, e1]
    simp
  refine ⟨mem.2 (.inl h.root), by rw [old hL]; exact h.rootk, ?_, ?_, ?_, ?_, ?_, ?_, ?_, ?_, h.rms⟩
  · show ((T.paths ++ [(Pp.pieces p, T.nodes.length)]).map (·.1)).Nodup
    rw [List.map_append, List.nodup_append]
    refine ⟨h.nodup, by simp, ?_⟩
    intro a ha b hb
    obtain ⟨⟨a', n⟩, ha', rfl⟩ := List.mem_map.1 ha
    obtain rfl : b = Pp.pieces p := by simpa using hb
    rintro rfl
    exact at_none hat n ha'
  · intro r n hr
    show n < (T.nodes ++ [x]).length
    rw [List.length_append, List.length_singleton]
    rcases mem.1 hr with h2 | ⟨_, rfl⟩
    · have := h.lt _ _ h2; omega
    · omega
  · intro r z n hr
    rcases mem.1 hr with h2 | ⟨h2, rfl⟩
    · obtain ⟨a, b, m', c, d⟩ := h.up r z n h2
      exact ⟨a, b, m', mem.2 (.inl c), by rw [old (h.lt _ _ c)]; exact d⟩
    · obtain ⟨rfl, h3⟩ := List.append_inj' h2 rfl
      obtain rfl : z = y := by simpa using h3
      exact ⟨by omega, hy, m, mem.2 (.inl hm), by rw [old (h.lt _ _ hm)]; exact hk⟩
  · intro a b n ha hb hn
    rcases mem.1 ha with h2 | ⟨rfl, rfl⟩ <;> rcases mem.1 hb with h3 | ⟨rfl, h3⟩
    · rw [old (h.lt _ _ h2)] at hn; exact h.one _ _ _ h2 h3 hn
    · have := h.lt _ _ h2; omega
    · have := h.lt _ _ h3; omega
    · rfl
  · intro z hz
    rcases List.mem_append.1 (show z ∈ T.nodes ++ [x] from hz) with h2 | h2
    · exact h.kinds z h2
    · obtain rfl : z = x := by simpa using h2
      exact hx
  · intro r n hr
    rcases mem.1 hr with h2 | ⟨rfl, rfl⟩
    · have := h.long _ _ h2; omega
    · rw [← e1, txt_pieces]; omega
  · show (T.nodes ++ [x]).length ≤ _
    have := h.few
    simp; omega
  · show (T.paths ++ [_]).length ≤ _
    have := h.many
    simp; omega
theorem WF.lnk (h : WF T K) {p : ByteArray} {r0 : Path} {n : Nat} (hf : T.fresh p = 0) (hn : (r0, n) ∈ T.paths) (hk1 : (T.nd n).kind = 1) : WF (T.lnk1 p n) (K + 301) := by
  obtain ⟨hpar, hat⟩ := h.fresh_ok hf
  obtain ⟨h1, q, y, m, e1, hy, hm, hk, _⟩ := h.par_ok hpar
  have hps := (isP_iff.1 h1).1
  have mem : ∀ {r : Path} {j : Nat}, (r, j) ∈ (T.lnk1 p n).paths ↔ (r, j) ∈ T.paths ∨ (r = q ++ [y] ∧ j = n) := fun {r j} => by
    show (r, j) ∈ T.paths ++ [(Pp.pieces p, n)] ↔ _
    rw [List.mem_append, e1]
    simp
  have hn0 : n ≠ 0 := by
    rintro rfl
    rw [h.rootk] at hk1
    omega
  refine ⟨mem.2 (.inl h.root), h.rootk, ?_, ?_, ?_, ?_, h.kinds, ?_, ?_, ?_, h.rms⟩
  · show ((T.paths ++ [(Pp.pieces p, n)]).map (·.1)).Nodup
    rw [List.map_append, List.nodup_append]
    refine ⟨h.nodup, by simp, ?_⟩
    intro a ha b hb
    obtain ⟨⟨a', j⟩, ha', rfl⟩ := List.mem_map.1 ha
    obtain rfl : b = Pp.pieces p := by simpa using hb
    rintro rfl
    exact at_none hat j ha'
  · intro r j hr
    rcases mem.1 hr with h2 | ⟨_, rfl⟩
    · exact h.lt _ _ h2
    · exact h.lt _ _ hn
  · intro r z j hr
    rcases mem.1 hr with h2 | ⟨h2, rfl⟩
    · obtain ⟨a, b, m', c, d⟩ := h.up r z j h2
      exact ⟨a, b, m', mem.2 (.inl c), d⟩
    · obtain ⟨rfl, h3⟩ := List.append_inj' h2 rfl
      obtain rfl : z = y := by simpa using h3
      exact ⟨hn0, hy, m, mem.2 (.inl hm), hk⟩
  · intro a b j ha hb hj
    rcases mem.1 ha with h2 | ⟨rfl, rfl⟩
    · rcases mem.1 hb with h3 | ⟨rfl, rfl⟩
      · exact h.one _ _ _ h2 h3 hj
      · exact absurd hk1 hj
    · exact absurd hk1 hj
  · intro r j hr
    rcases mem.1 hr with h2 | ⟨rfl, rfl⟩
    · have := h.long _ _ h2; omega
    · rw [← e1, txt_pieces]; omega
  · have := h.few
    show T.nodes.length ≤ _
    omega
  · show (T.paths ++ [_]).length ≤ _
    have := h.many
    simp; omega
theorem WF.more (h : WF T K) {K' : Nat} (hK : K ≤ K') : WF T K' :=
  ⟨h.root, h.rootk, h.nodup, h.lt, h.up, h.one, h.kinds, fun p n hm => Nat.le_trans (h.long p n hm) hK, Nat.le_trans h.few hK, Nat.le_trans h.many hK, h.rms⟩
theorem WF.with_ (h : WF T K) {n : Nat} {x : Nd} (hn : n < T.nodes.length) (hk : x.kind = (T.nd n).kind) (hx : x.ok) : WF (T.with_ n x) K := by
  have hkk : ∀ j, ((T.with_ n x).nd j).kind = (T.nd j).kind := fun j => by
    rw [nd_with hn]
    by_cases e : j = n
    · subst e; rw [if_pos rfl, hk]
    · rw [if_neg e]
  refine ⟨h.root, by rw [hkk]; exact h.rootk, h.nodup, ?_, ?_, ?_, ?_, h.long, ?_, h.many, h.rms⟩
  · intro p j hj
    show j < (T.nodes.set n x).length
    rw [List.length_set]
    exact h.lt _ _ hj
  · intro p y j hj
    obtain ⟨a, b, m, c, d⟩ := h.up p y j hj
    exact ⟨a, b, m, c, by rw [hkk]; exact d⟩
  · intro p q j hp hq hj
    rw [hkk] at hj
    exact h.one p q j hp hq hj
  · intro z hz
    rcases List.mem_or_eq_of_mem_set (show z ∈ T.nodes.set n x from hz) with h2 | rfl
    · exact h.kinds z h2
    · exact hx
  · show (T.nodes.set n x).length ≤ K
    rw [List.length_set]
    exact h.few
theorem mem_cut {R : Ps} {p r : Path} {n : Nat} : (r, n) ∈ cut R p ↔ (r, n) ∈ R ∧ ¬ p <+: r := by
  unfold cut
  rw [List.mem_filter]
  simp
theorem at_cut {R : Ps} (p r : Path) : at_ (cut R p) r = if p <+: r then none else at_ R r := by
  unfold cut
  by_cases h : p <+: r
  · rw [if_pos h]
    exact at_filter_none fun n => by simp [h]
  · rw [if_neg h]
    exact at_filter fun n => by simp [h]
theorem nodup_filter {R : Ps} (f : Path × Nat → Bool) (h : (R.map (·.1)).Nodup) : ((R.filter f).map (·.1)).Nodup := h.sublist (List.filter_sublist.map _)
theorem WF.cut (h : WF T K) {p : Path} (hp : p ≠ []) : WF (T.clr1 p) K := by
  refine ⟨mem_cut.2 ⟨h.root, fun e => hp (List.prefix_nil.1 e)⟩, h.rootk, nodup_filter _ h.nodup, ?_, ?_, ?_, h.kinds, ?_, h.few, ?_, h.rms⟩
  · exact fun r n hr => h.lt _ _ (mem_cut.1 hr).1
  · intro r x n hr
    obtain ⟨h1, h2⟩ := mem_cut.1 hr
    obtain ⟨a, b, m, c, d⟩ := h.up _ _ _ h1
    exact ⟨a, b, m, mem_cut.2 ⟨c, fun e => h2 (e.trans (List.prefix_append _ _))⟩, d⟩
  · exact fun a b n ha hb hn => h.one _ _ _ (mem_cut.1 ha).1 (mem_cut.1 hb).1 hn
  · exact fun r n hr => h.long _ _ (mem_cut.1 hr).1
  · exact Nat.le_trans (List.length_filter_le _ _) h.many
theorem WF.new (a b : Int) (ha : a ≤ 9223372036854775807) (hb : b ≤ 9223372036854775807) : WF (Nt.new a b) 1 := by
  have mem : ∀ {r : Path} {n : Nat}, (r, n) ∈ (Nt.new a b).paths ↔ r = [] ∧ n = 0 := fun {r n} => by
    show (r, n) ∈ [(([] : Path), 0)] ↔ _
    simp
  refine ⟨mem.2 ⟨rfl, rfl⟩, rfl, by simp [Nt.new], ?_, ?_, ?_, ?_, ?_, by simp [Nt.new], by simp [Nt.new], ?_⟩
  · intro p n hm
    obtain ⟨_, rfl⟩ := mem.1 hm
    simp [Nt.new]
  · intro p x n hm
    exact absurd (mem.1 hm).1 (by simp)
  · intro p q n hp hq _
    rw [(mem.1 hp).1, (mem.1 hq).1]
  · intro x hx
    obtain rfl : x = { Nd.zero with kind := 4 } := by simpa [Nt.new] using hx
    exact ⟨.inr (.inr rfl), rfl, by decide, fun _ => rfl, fun _ => rfl⟩
  · intro p n hm
    obtain ⟨rfl, _⟩ := mem.1 hm
    decide
  · show (0 ≤ max a 0 ∧ max a 0 ≤ _) ∧ 0 ≤ max b 0 ∧ max b 0 ≤ _
    omega

/-! ### a path another one -/
theorem drop_app (f s : Path) : (f ++ s).drop f.length = s := by simp
/-- What a renaming asks. -/
structure Mv (T : Tr) (f t : Path) (n : Nat) : Prop where
  here : (f, n) ∈ T.paths
  f0 : f ≠ []
  t0 : t ≠ []
  par : ∃ q x m, t = q ++ [x] ∧ Pp.Nm x ∧ (q, m) ∈ T.paths ∧ (T.nd m).kind = 4 ∧ ¬ f <+: q
  ft : ¬ f <+: t
  tf : ¬ t <+: f
  leaf : ∀ r k, (r, k) ∈ T.paths → t <+: r → r = t ∧ k ≠ n ∧ (T.nd k).kind ≠ 4
theorem rn_mem {f t : Path} {n : Nat} (hM : Mv T f t n) {r : Path} {k : Nat} :
    (r, k) ∈ (T.rn1 f t).paths ↔ (∃ s, r = t ++ s ∧ (f ++ s, k) ∈ T.paths) ∨ ((r, k) ∈ T.paths ∧ ¬ f <+: r ∧ ¬ t <+: r) := by
  show (r, k) ∈ (Nt.cut T.paths t).map (mv f t) ↔ _
  rw [List.mem_map]
  constructor
  · rintro ⟨⟨r', k'⟩, hr, e⟩
    obtain ⟨h1, h2⟩ := mem_cut.1 hr
    unfold mv at e
    by_cases hf : f <+: r'
    · rw [if_pos hf] at e
      obtain ⟨s, rfl⟩ := hf
      simp only [List.drop_left, Prod.mk.injEq] at e
      obtain ⟨rfl, rfl⟩ := e
      exact .inl ⟨s, rfl, h1⟩
    · rw [if_neg hf] at e
      cases e
      exact .inr ⟨h1, hf, h2⟩
  · rintro (⟨s, rfl, h1⟩ | ⟨h1, h2, h3⟩)
    · refine ⟨(f ++ s, k), mem_cut.2 ⟨h1, fun e => ?_⟩, ?_⟩
      · rcases List.prefix_or_prefix_of_prefix e (List.prefix_append f s) with h4 | h4
        · exact hM.tf h4
        · exact hM.ft h4
      · unfold mv
        rw [if_pos (List.prefix_append _ _)]
        simp
    · refine ⟨(r, k), mem_cut.2 ⟨h1, h3⟩, ?_⟩
      unfold mv
      rw [if_neg h2]
theorem WF.rn_at (h : WF T K) {f t : Path} {n : Nat} (hM : Mv T f t n) (hd : (((T.rn1 f t).paths).map (·.1)).Nodup) (r : Path) :
    at_ (T.rn1 f t).paths r = if t <+: r then at_ T.paths (f ++ r.drop t.length) else if f <+: r then none else at_ T.paths r := by
  by_cases h1 : t <+: r
  · rw [if_pos h1]
    obtain ⟨s, rfl⟩ := h1
    rw [List.drop_left]
    cases e : at_ T.paths (f ++ s) with
    | some k => exact (at_iff hd).2 ((rn_mem hM).2 (.inl ⟨s, rfl, at_mem e⟩))
    | none =>
      cases e2 : at_ (T.rn1 f t).paths (t ++ s) with
      | none => rfl
      | some k =>
        rcases (rn_mem hM).1 (at_mem e2) with ⟨s', e3, h3⟩ | ⟨_, _, h3⟩
        · rw [← List.append_cancel_left e3] at h3
          exact absurd h3 (at_none e k)
        · exact absurd (List.prefix_append _ _) h3
  · rw [if_neg h1]
    by_cases h2 : f <+: r
    · rw [if_pos h2]
      cases e2 : at_ (T.rn1 f t).paths r with
      | none => rfl
      | some k =>
        rcases (rn_mem hM).1 (at_mem e2) with ⟨s', rfl, h3⟩ | ⟨_, h3, _⟩
        · exact absurd (List.prefix_append _ _) h1
        · exact absurd h2 h3
    · rw [if_neg h2]
      cases e : at_ T.paths r with
      | some k => exact (at_iff hd).2 ((rn_mem hM).2 (.inr ⟨at_mem e, h2, h1⟩))
      | none =>
        cases e2 : at_ (T.rn1 f t).paths r with
        | none => rfl
        | some k =>
          rcases (rn_mem hM).1 (at_mem e2) with ⟨s', rfl, h3⟩ | ⟨h3, _, _⟩
          · exact absurd (List.prefix_append _ _) h1
          · exact absurd h3 (at_none e k)
theorem rn_nodup (h : WF T K) {f t : Path} {n : Nat} (hM : Mv T f t n) : (((T.rn1 f t).paths).map (·.1)).Nodup := by
  show (((Nt.cut T.paths t).map (mv f t)).map (·.1)).Nodup
  have hn : ((Nt.cut T.paths t).map (·.1)).Nodup := nodup_filter _ h.nodup
  unfold List.Nodup at hn ⊢
  rw [List.map_map, List.pairwise_map]
  rw [List.pairwise_map] at hn
  refine hn.imp_of_mem ?_
  rintro ⟨a, j⟩ ⟨b, k⟩ ha hb hne e
  obtain ⟨ha1, ha2⟩ := mem_cut.1 ha
  obtain ⟨hb1, hb2⟩ := mem_cut.1 hb
  simp only [Function.comp_apply, mv] at e hne
  by_cases h1 : f <+: a <;> by_cases h2 : f <+: b
  · rw [if_pos h1, if_pos h2] at e
    obtain ⟨s, rfl⟩ := h1
    obtain ⟨u, rfl⟩ := h2
    simp only [List.drop_left] at e
    exact hne (by rw [List.append_cancel_left e])
  · rw [if_pos h1, if_neg h2] at e
    exact hb2 (by have e' : t ++ List.drop f.length a = b := e; rw [← e']; exact List.prefix_append _ _)
  · rw [if_neg h1, if_pos h2] at e
    exact ha2 (by have e' : a = t ++ List.drop f.length b := e; rw [e']; exact List.prefix_append _ _)
  · rw [if_neg h1, if_neg h2] at e
    exact hne e
theorem WF.rn (h : WF T K) {f t : Path} {n : Nat} (hM : Mv T f t n) (ht : (txt t).size ≤ 300) : WF (T.rn1 f t) (K + 301) := by
  have hn0 : n ≠ 0 := by
    rintro rfl
    exact hM.f0 (h.zero hM.here)
  refine ⟨(rn_mem hM).2 (.inr ⟨h.root, fun e => hM.f0 (List.prefix_nil.1 e), fun e => hM.t0 (List.prefix_nil.1 e)⟩), h.rootk, rn_nodup h hM, ?_, ?_, ?_, h.kinds, ?_, ?_, ?_, h.rms⟩
  · intro r k hr
    rcases (rn_mem hM).1 hr with ⟨s, _, h1⟩ | ⟨h1, _, _⟩ <;> exact h.lt _ _ h1
  · intro r x k hr
    rcases (rn_mem hM).1 hr with ⟨s, e, h1⟩ | ⟨h1, h2, h3⟩
    · rcases List.eq_nil_or_concat s with rfl | ⟨s', y, rfl⟩
      · rw [List.append_nil] at e h1
        obtain ⟨q, z, m, e2, h2, h3, h4, h5⟩ := hM.par
        rw [e2] at e
        obtain ⟨rfl, h6⟩ := List.append_inj' e rfl
        obtain rfl : x = z := by simpa using h6
        have hk : k = n := nodup_one h.nodup h1 hM.here
        refine ⟨by omega, h2, m, (rn_mem hM).2 (.inr ⟨h3, h5, fun e3 => ?_⟩), h4⟩
        obtain ⟨_, _, h7⟩ := hM.leaf r m h3 e3
        exact h7 h4
      · rw [List.concat_eq_append, ← List.append_assoc] at e h1
        obtain ⟨rfl, h6⟩ := List.append_inj' e rfl
        obtain rfl : x = y := by simpa using h6
        obtain ⟨a, b, m, c, d⟩ := h.up _ _ _ h1
        exact ⟨a, b, m, (rn_mem hM).2 (.inl ⟨s', rfl, c⟩), d⟩
    · obtain ⟨a, b, m, c, d⟩ := h.up _ _ _ h1
      exact ⟨a, b, m, (rn_mem hM).2 (.inr ⟨c, fun e => h2 (e.trans (List.prefix_append _ _)), fun e => h3 (e.trans (List.prefix_append _ _))⟩), d⟩
  · intro a b k ha hb hk
    rcases (rn_mem hM).1 ha with ⟨s, rfl, h1⟩ | ⟨h1, h2, h3⟩ <;> rcases (rn_mem hM).1 hb with ⟨u, rfl, h4⟩ | ⟨h4, h5, h6⟩
    · rw [List.append_cancel_left (h.one _ _ _ h1 h4 hk)]
    · exact absurd (h.one _ _ _ h1 h4 hk ▸ List.prefix_append _ _) h5
    · exact absurd (h.one _ _ _ h4 h1 hk ▸ List.prefix_append _ _) h2
    · exact h.one _ _ _ h1 h4 hk
  · intro r k hr
    rcases (rn_mem hM).1 hr with ⟨s, rfl, h1⟩ | ⟨h1, _, _⟩
    · have a := h.long _ _ h1
      have b := txt_drop_size f s
      have c := txt_cat_size t s
      omega
    · have := h.long _ _ h1; omega
  · have := h.few
    show T.nodes.length ≤ _
    omega
  · show ((Nt.cut T.paths t).map (mv f t)).length ≤ _
    rw [List.length_map]
    have := h.many
    have := List.length_filter_le (fun x : Path × Nat => decide (¬ t <+: x.1)) T.paths
    unfold Nt.cut
    omega
end Nt
end Go.Proofs.YthgbncpiehcghaaGreatDoor
/- PLAIN MATHEMATICS OF LAYER 13, FOURTH PART: what is left while paths are counted away. No Go text is named. -/
namespace Go.Proofs.YthgbncpiehcghaaGreatDoor
set_option linter.unusedVariables false
open Go.RowKit
namespace Nt
variable {T : Tr} {K : Nat}
/-- What is left: all that does not lie under P0, and what lies under a path of S. -/
def rem (R : Ps) (P0 : Path) (S : List Path) : Ps := R.filter (fun x => decide (¬ P0 <+: x.1) || S.any (fun s => decide (s <+: x.1)))
/-- None lies under another one. -/
def AC (S : List Path) : Prop := S.Pairwise (fun a b => ¬ a <+: b ∧ ¬ b <+: a)
theorem mem_rem {R : Ps} {P0 : Path} {S : List Path} {x : Path × Nat} : x ∈ rem R P0 S ↔ x ∈ R ∧ (¬ P0 <+: x.1 ∨ ∃ s ∈ S, s <+: x.1) := by
  unfold rem
  rw [List.mem_filter, Bool.or_eq_true, decide_eq_true_eq, List.any_eq_true]
  simp only [decide_eq_true_eq]
theorem rem_start (R : Ps) (P0 : Path) : rem R P0 [P0] = R := by
  unfold rem
  refine List.filter_eq_self.2 fun x _ => ?_
  simp only [List.any_cons, List.any_nil, Bool.or_false]
  by_cases h : P0 <+: x.1 <;> simp [h]
theorem rem_end (R : Ps) (P0 : Path) : rem R P0 [] = cut R P0 := by
  unfold rem cut
  congr 1
  funext x
  simp
theorem rem_nodup {R : Ps} (h : (R.map (·.1)).Nodup) (P0 : Path) (S : List Path) : ((rem R P0 S).map (·.1)).Nodup := nodup_filter _ h
theorem rem_pop (hW : WF T K) {P0 q : Path} {S1 : List Path} {n : Nat} (hq : (q, n) ∈ T.paths) (hu : P0 <+: q) (hA : AC (S1 ++ [q])) {L : List ByteArray} (hL : ∀ s, s ∈ L ↔ (at_ T.paths (q ++ [s])).isSome = true) :
    rem T.paths P0 (S1 ++ L.map fun s => q ++ [s]) = (rem T.paths P0 (S1 ++ [q])).filter (fun x => decide (x.1 ≠ q)) := by
  unfold rem
  rw [List.filter_filter]
  refine List.filter_congr fun x hx => ?_
  rw [Bool.eq_iff_iff]
  simp only [Bool.or_eq_true, Bool.and_eq_true, decide_eq_true_eq, List.any_append, List.any_cons, List.any_nil, Bool.or_false, List.any_eq_true, List.mem_map]
  unfold AC at hA
  rw [List.pairwise_append] at hA
  constructor
  · rintro (h | ⟨s, hs, h⟩ | ⟨s', ⟨s, hs, rfl⟩, h⟩)
    · refine ⟨fun e => h (e ▸ hu), .inl h⟩
    · refine ⟨fun e => ?_, .inr (.inl ⟨s, hs, h⟩)⟩
      rw [e] at h
      exact (hA.2.2 s hs q (by simp)).1 h
    · refine ⟨fun e => ?_, .inr (.inr ((List.prefix_append _ _).trans h))⟩
      have := h.length_le
      rw [e] at this
      simp at this
      omega
  · rintro ⟨hne, h | ⟨s, hs, h⟩ | h⟩
    · exact .inl h
    · exact .inr (.inl ⟨s, hs, h⟩)
    · obtain ⟨u, hu'⟩ := h
      cases u with
      | nil => rw [List.append_nil] at hu'; exact absurd hu'.symm hne
      | cons s u =>
        refine .inr (.inr ⟨q ++ [s], ⟨s, (hL s).2 ?_, rfl⟩, ⟨u, by rw [← hu']; simp⟩⟩)
        by_cases h0 : u = []
        · subst h0
          have : (x.1, x.2) ∈ T.paths := hx
          rw [← hu'] at this
          rw [hW.atI.2 this]
          rfl
        · have : (x.1, x.2) ∈ T.paths := hx
          rw [← hu', show q ++ s :: u = (q ++ [s]) ++ u by simp] at this
          obtain ⟨m, hm, _⟩ := hW.pre u (q ++ [s]) _ h0 this
          rw [hW.atI.2 hm]
          rfl
theorem AC.pop {q : Path} {S1 : List Path} (hA : AC (S1 ++ [q])) {L : List ByteArray} (hL : L.Nodup) : AC (S1 ++ L.map fun s => q ++ [s]) := by
  unfold AC at hA ⊢
  rw [List.pairwise_append] at hA ⊢
  refine ⟨hA.1, ?_, ?_⟩
  · rw [List.pairwise_map]
    refine List.Pairwise.imp ?_ hL
    intro a b hne
    constructor
    · intro h
      have := List.IsPrefix.eq_of_length h (by simp)
      simp at this
      exact hne this
    · intro h
      have := List.IsPrefix.eq_of_length h (by simp)
      simp at this
      exact hne this.symm
  · intro s hs b hb
    obtain ⟨x, _, rfl⟩ := List.mem_map.1 hb
    obtain ⟨h1, h2⟩ := hA.2.2 s hs q (by simp)
    constructor
    · intro h
      rcases List.prefix_concat_iff.1 h with h3 | h3
      · exact h2 (h3 ▸ List.prefix_append _ _)
      · exact h1 h3
    · intro h
      exact h2 ((List.prefix_append _ _).trans h)
theorem len_drop {R : Ps} (hd : (R.map (·.1)).Nodup) {p : Path} {m : Nat} (h : (p, m) ∈ R) : R.length = (R.filter (fun x => decide (x.1 ≠ p))).length + 1 := by
  induction R with
  | nil => cases h
  | cons x r ih =>
    rw [List.map_cons, List.nodup_cons] at hd
    rcases List.mem_cons.1 h with h1 | h1
    · subst h1
      have e : r.filter (fun x => decide (x.1 ≠ p)) = r := List.filter_eq_self.2 fun y hy => by
        have : y.1 ≠ p := fun e => hd.1 (List.mem_map.2 ⟨y, hy, e⟩)
        simpa using this
      rw [List.filter_cons]
      simp only [ne_eq, not_true_eq_false, decide_false, Bool.false_eq_true, if_false]
      simp only [ne_eq] at e
      rw [e]
      simp
    · have hne : x.1 ≠ p := fun e => hd.1 (List.mem_map.2 ⟨_, h1, e.symm⟩)
      have := ih hd.2 h1
      rw [List.filter_cons, if_pos (by simpa using hne)]
      simp only [List.length_cons]
      omega
theorem cut_cnt_le (R : Ps) (p : Path) (n : Nat) : cnt (cut R p) n ≤ cnt R n := by
  unfold cut cnt
  rw [List.filter_filter]
  refine List.Sublist.length_le ?_
  rw [show (fun x : Path × Nat => x.2 == n && decide (¬ p <+: x.1)) = fun x => (decide (¬ p <+: x.1) && (x.2 == n)) from funext fun x => Bool.and_comm _ _, ← List.filter_filter]
  rw [List.filter_filter]
  simp only [Bool.and_comm]
  rw [← List.filter_filter]
  exact List.filter_sublist.filter _
end Nt
end Go.Proofs.YthgbncpiehcghaaGreatDoor
/- PLAIN MATHEMATICS OF LAYER 13, SIXTH PART: what a copy has copied. No Go text is named. -/
namespace Go.Proofs.YthgbncpiehcghaaGreatDoor
set_option linter.unusedVariables false
namespace Nt
variable {T : Tr} {K : Nat}
/-- All that is there is copied, if the root is, and with each Dir its names. -/
theorem all_copied (hW : WF T K) {C : Nat → Prop} (h0 : C 0) (hs : ∀ d n s j, (d, n) ∈ T.paths → (T.nd n).kind = 4 → C n → (d ++ [s], j) ∈ T.paths → C j) : ∀ p n, (p, n) ∈ T.paths → C n := by
  refine rev_ind ?_ ?_
  · intro n hn
    rw [nodup_one hW.nodup hn hW.root]
    exact h0
  · intro p x ih n hn
    obtain ⟨_, _, m, h1, h2⟩ := hW.up p x n hn
    exact hs p m x n h1 h2 (ih m h1) hn
end Nt
end Go.Proofs.YthgbncpiehcghaaGreatDoor
/- PLAIN MATHEMATICS OF LAYER 15 (trees as lists): rows that rise; what lies under a path; a list's members. No Go text is named. -/
namespace Go.Proofs.YthgbncpiehcghaaGreatDoor
set_option linter.unusedVariables false
open Go.RowKit
namespace Nt
section
variable {α : Type} {lt : α → α → Bool}
/-- Laid into a row that rises. -/
def ins (lt : α → α → Bool) (x : α) : List α → List α
  | [] => [x]
  | a :: l => if lt a x = true then a :: ins lt x l else x :: a :: l
def insAll (lt : α → α → Bool) (l : List α) : List α := l.foldl (fun o x => ins lt x o) []
theorem mem_ins {x y : α} : ∀ {l : List α}, y ∈ ins lt x l ↔ y = x ∨ y ∈ l
  | [] => by simp [ins]
  | a :: l => by
    unfold ins
    split
    · rw [List.mem_cons, mem_ins (l := l), List.mem_cons]
      constructor
      · rintro (h | h | h)
        · exact .inr (.inl h)
        · exact .inl h
        · exact .inr (.inr h)
      · rintro (h | h | h)
        · exact .inr (.inl h)
        · exact .inl h
        · exact .inr (.inr h)
    · simp
theorem ins_rise (ht : ∀ x y z, lt x y = true → lt y z = true → lt x z = true) {x : α} : ∀ {l : List α}, l.Pairwise (fun a b => lt a b = true) → (∀ a ∈ l, lt a x = true ∨ lt x a = true) → (ins lt x l).Pairwise (fun a b => lt a b = true)
  | [], _, _ => by simp [ins]
  | a :: l, h, hx => by
    rw [List.pairwise_cons] at h
    unfold ins
    split
    · rename_i e
      rw [List.pairwise_cons]
      refine ⟨fun y hy => ?_, ins_rise ht h.2 fun b hb => hx b (List.mem_cons_of_mem _ hb)⟩
      rcases mem_ins.1 hy with rfl | hy
      · exact e
      · exact h.1 y hy
    · rename_i e
      have e2 : lt x a = true := (hx a (by simp)).resolve_left e
      rw [List.pairwise_cons, List.pairwise_cons]
      refine ⟨fun y hy => ?_, h⟩
      rcases List.mem_cons.1 hy with rfl | hy
      · exact e2
      · exact ht _ _ _ e2 (h.1 y hy)
/-- Where a loop that goes on as long as what stands there is less has ended. -/
theorem ins_eq {x : α} : ∀ {l : List α} {k : Nat}, k ≤ l.length → (∀ j y, j < k → l[j]? = some y → lt y x = true) → (∀ y, l[k]? = some y → lt y x = false) → ins lt x l = l.take k ++ x :: l.drop k
  | [], k, hk, _, _ => by simp [ins]
  | a :: l, 0, _, _, h => by
    have := h a rfl
    unfold ins
    rw [if_neg (by rw [this]; simp)]
    rfl
  | a :: l, k + 1, hk, h1, h2 => by
    have := h1 0 a (by omega) rfl
    unfold ins
    rw [if_pos this, ins_eq (l := l) (k := k) (by simp at hk; omega) (fun j y hj hy => h1 (j + 1) y (by omega) (by simpa using hy)) (fun y hy => h2 y (by simpa using hy))]
    rfl
theorem ins_len {x : α} : ∀ {l : List α}, (ins lt x l).length = l.length + 1
  | [] => rfl
  | a :: l => by
    unfold ins
    split
    · rw [List.length_cons, ins_len, List.length_cons]
    · rfl
theorem insAll_snoc (l : List α) (x : α) : insAll lt (l ++ [x]) = ins lt x (insAll lt l) := by unfold insAll; rw [List.foldl_append]; rfl
theorem mem_fold {y : α} : ∀ {l acc : List α}, y ∈ l.foldl (fun o x => ins lt x o) acc ↔ y ∈ acc ∨ y ∈ l
  | [], acc => by simp
  | x :: l, acc => by
    rw [List.foldl_cons, mem_fold, mem_ins, List.mem_cons]
    constructor
    · rintro ((h | h) | h)
      · exact .inr (.inl h)
      · exact .inl h
      · exact .inr (.inr h)
    · rintro (h | h | h)
      · exact .inl (.inr h)
      · exact .inl (.inl h)
      · exact .inr h
theorem mem_insAll {y : α} {l : List α} : y ∈ insAll lt l ↔ y ∈ l := by unfold insAll; rw [mem_fold]; simp
theorem insAll_len (l : List α) : (insAll lt l).length = l.length := by
  have : ∀ (l acc : List α), (l.foldl (fun o x => ins lt x o) acc).length = acc.length + l.length := fun l => by
    induction l with
    | nil => intro acc; rfl
    | cons x l ih => intro acc; rw [List.foldl_cons, ih, ins_len, List.length_cons]; omega
  unfold insAll
  rw [this]
  simp
theorem fold_rise (ht : ∀ x y z, lt x y = true → lt y z = true → lt x z = true) : ∀ {l acc : List α}, acc.Pairwise (fun a b => lt a b = true) → (∀ a ∈ acc, ∀ b ∈ l, lt a b = true ∨ lt b a = true) → l.Pairwise (fun a b => lt a b = true ∨ lt b a = true) → (l.foldl (fun o x => ins lt x o) acc).Pairwise (fun a b => lt a b = true)
  | [], acc, h, _, _ => h
  | x :: l, acc, h, h1, h2 => by
    rw [List.pairwise_cons] at h2
    rw [List.foldl_cons]
    refine fold_rise ht (ins_rise ht h fun a ha => h1 a ha x (by simp)) (fun a ha b hb => ?_) h2.2
    rcases mem_ins.1 ha with rfl | ha
    · exact h2.1 b hb
    · exact h1 a ha b (List.mem_cons_of_mem _ hb)
theorem insAll_rise (ht : ∀ x y z, lt x y = true → lt y z = true → lt x z = true) {l : List α} (h : l.Pairwise (fun a b => lt a b = true ∨ lt b a = true)) : (insAll lt l).Pairwise (fun a b => lt a b = true) :=
  fold_rise ht .nil (fun a ha => by cases ha) h
/-- Two rows that rise and have the same are the same. -/
theorem rise_eq (hi : ∀ x, lt x x = false) (ht : ∀ x y z, lt x y = true → lt y z = true → lt x z = true) : ∀ {L M : List α}, L.Pairwise (fun a b => lt a b = true) → M.Pairwise (fun a b => lt a b = true) → (∀ x, x ∈ L ↔ x ∈ M) → L = M
  | [], [], _, _, _ => rfl
  | [], b :: M, _, _, h => absurd ((h b).2 (by simp)) (by simp)
  | a :: L, [], _, _, h => absurd ((h a).1 (by simp)) (by simp)
  | a :: L, b :: M, h1, h2, h => by
    rw [List.pairwise_cons] at h1 h2
    have no : ∀ {x y : α}, lt x y = true → lt y x = true → False := fun h k => by have := ht _ _ _ h k; rw [hi] at this; cases this
    have e : a = b := by
      rcases List.mem_cons.1 ((h a).1 (by simp)) with e | ha
      · exact e
      · rcases List.mem_cons.1 ((h b).2 (by simp)) with e | hb
        · exact e.symm
        · exact (no (h1.1 b hb) (h2.1 a ha)).elim
    subst e
    rw [rise_eq hi ht h1.2 h2.2 fun x => ?_]
    constructor
    · intro hx
      rcases List.mem_cons.1 ((h x).1 (List.mem_cons_of_mem _ hx)) with rfl | hm
      · have := h1.1 x hx; rw [hi] at this; cases this
      · exact hm
    · intro hx
      rcases List.mem_cons.1 ((h x).2 (List.mem_cons_of_mem _ hx)) with rfl | hm
      · have := h2.1 x hx; rw [hi] at this; cases this
      · exact hm
end
/-! ### what lies under a path -/
def lessN (x y : Path × Nat) : Bool := Pp.lessL x.1 y.1
/-- A path, as seen from one above it. -/
def und1 (P : Path) (y : Path × Nat) : Option (Path × Nat) := if P <+: y.1 ∧ y.1 ≠ P then some (y.1.drop P.length, y.2) else none
/-- All that lies under a path, as seen from it, rising. -/
def srt (R : Ps) (P : Path) : Ps := insAll lessN (R.filterMap (und1 P))
def kid1 (P : Path) (y : Path × Nat) : Option ByteArray := match und1 P y with
  | some ([s], _) => some s
  | _ => none
/-- A Dir's names, rising. -/
def kids (R : Ps) (P : Path) : List ByteArray := insAll Pp.lt (R.filterMap (kid1 P))
theorem und1_some {P : Path} {y : Path × Nat} {q : Path} {n : Nat} : und1 P y = some (q, n) ↔ q ≠ [] ∧ y = (P ++ q, n) := by
  unfold und1
  obtain ⟨r, k⟩ := y
  constructor
  · intro h
    split at h
    · rename_i hc
      obtain ⟨⟨t, ht⟩, hne⟩ := hc
      simp only at ht hne h
      subst ht
      rw [List.drop_left] at h
      cases h
      exact ⟨fun e => hne (by rw [e, List.append_nil]), rfl⟩
    · cases h
  · rintro ⟨h0, h⟩
    cases h
    rw [if_pos ⟨⟨q, rfl⟩, fun e => h0 (by simpa using e)⟩, List.drop_left]
theorem kid1_some {P : Path} {y : Path × Nat} {s : ByteArray} : kid1 P y = some s ↔ y.1 = P ++ [s] := by
  unfold kid1
  cases h : und1 P y with
  | none =>
    simp only
    constructor
    · intro e; cases e
    · intro e
      have := (und1_some (P := P) (y := y) (q := [s]) (n := y.2)).2 ⟨by simp, by rw [← e]⟩
      rw [h] at this
      cases this
  | some x =>
    obtain ⟨q, n⟩ := x
    obtain ⟨h0, rfl⟩ := und1_some.1 h
    match q, h0 with
    | [t], _ => simp [eq_comm]
    | t :: u :: r, _ => simp
theorem mem_srt {R : Ps} {P q : Path} {n : Nat} : (q, n) ∈ srt R P ↔ q ≠ [] ∧ (P ++ q, n) ∈ R := by
  unfold srt
  rw [mem_insAll, List.mem_filterMap]
  constructor
  · rintro ⟨y, hy, h⟩
    obtain ⟨h0, rfl⟩ := und1_some.1 h
    exact ⟨h0, hy⟩
  · rintro ⟨h0, h⟩
    exact ⟨_, h, und1_some.2 ⟨h0, rfl⟩⟩
theorem less3 (x y z : Path × Nat) (h : lessN x y = true) (k : lessN y z = true) : lessN x z = true := Pp.less_trans _ _ _ h k
theorem lt3 (x y z : ByteArray) (h : Pp.lt x y = true) (k : Pp.lt y z = true) : Pp.lt x z = true := Pp.lt_trans h k
theorem srt_rise {R : Ps} (hd : (R.map (·.1)).Nodup) (P : Path) : (srt R P).Pairwise (fun x y => lessN x y = true) := by
  refine insAll_rise less3 ?_
  rw [List.pairwise_filterMap]
  have h0 : R.Pairwise (fun a b => a.1 ≠ b.1) := by
    have := hd
    unfold List.Nodup at this
    rwa [List.pairwise_map] at this
  refine h0.imp ?_
  rintro a b hab x hx y hy
  obtain ⟨q, n⟩ := x
  obtain ⟨r, m⟩ := y
  obtain ⟨_, rfl⟩ := und1_some.1 hx
  obtain ⟨_, rfl⟩ := und1_some.1 hy
  exact Pp.less_total _ _ fun e => hab (by have e2 : q = r := e; rw [e2])
theorem mem_kids {R : Ps} {P : Path} {s : ByteArray} : s ∈ kids R P ↔ ∃ n, (P ++ [s], n) ∈ R := by
  unfold kids
  rw [mem_insAll, List.mem_filterMap]
  constructor
  · rintro ⟨y, hy, h⟩
    have := kid1_some.1 h
    exact ⟨y.2, by rw [← this]; exact hy⟩
  · rintro ⟨n, h⟩
    exact ⟨_, h, kid1_some.2 rfl⟩
theorem kids_rise {R : Ps} (hd : (R.map (·.1)).Nodup) (P : Path) : (kids R P).Pairwise (fun x y => Pp.lt x y = true) := by
  refine insAll_rise lt3 ?_
  rw [List.pairwise_filterMap]
  have h0 : R.Pairwise (fun a b => a.1 ≠ b.1) := by
    have := hd
    unfold List.Nodup at this
    rwa [List.pairwise_map] at this
  refine h0.imp ?_
  rintro a b hab x hx y hy
  have h1 := kid1_some.1 hx
  have h2 := kid1_some.1 hy
  exact Pp.lt_total fun e => hab (by rw [h1, h2, e])
theorem mem_kids_at {R : Ps} (hd : (R.map (·.1)).Nodup) {P : Path} {s : ByteArray} : s ∈ kids R P ↔ (at_ R (P ++ [s])).isSome = true := by
  rw [mem_kids]
  constructor
  · rintro ⟨n, h⟩
    rw [(at_iff hd).2 h]
    rfl
  · intro h
    cases e : at_ R (P ++ [s]) with
    | none => rw [e] at h; cases h
    | some n => exact ⟨n, at_mem e⟩
theorem pre_size {P : Path} : ∀ (q : Path), (txt P).size ≤ (txt (P ++ q)).size := by
  intro q
  by_cases h : P = []
  · subst h; show 0 ≤ _; omega
  · by_cases h2 : q = []
    · subst h2; rw [List.append_nil]; exact Nat.le_refl _
    · rw [txt_app P q h h2]; simp; omega
theorem kid_size {P : Path} {s : ByteArray} (hs : Pp.Nm s) : (txt P).size + 1 ≤ (txt (P ++ [s])).size := by
  have h1 := nm_pos hs
  by_cases h : P = []
  · subst h; show 0 + 1 ≤ s.size; omega
  · rw [txt_snoc P s h, Pp.app_size, Pp.app_size, one_slash]; omega
/-- All paths under one, as a walk goes that does not go beyond what is too long. -/
def und (R : Ps) : Nat → Path → List Path
  | 0, _ => []
  | m + 1, P => if 300 < (txt P).size then [] else (kids R P).flatMap fun s => (P ++ [s]) :: und R m (P ++ [s])
theorem und_pre {R : Ps} : ∀ {m : Nat} {P q : Path}, q ∈ und R m P → P <+: q ∧ q ≠ P
  | 0, P, q, h => by cases h
  | m + 1, P, q, h => by
    unfold und at h
    split at h
    · cases h
    · obtain ⟨s, _, hs⟩ := List.mem_flatMap.1 h
      rcases List.mem_cons.1 hs with rfl | h2
      · exact ⟨⟨[s], rfl⟩, fun e => by have := congrArg List.length e; simp at this⟩
      · obtain ⟨⟨t, ht⟩, _⟩ := und_pre h2
        subst ht
        exact ⟨⟨s :: t, by simp⟩, fun e => by have := congrArg List.length e; simp at this⟩
theorem und_rise {R : Ps} (hd : (R.map (·.1)).Nodup) : ∀ (m : Nat) (P : Path), (und R m P).Pairwise (fun x y => Pp.lessL x y = true)
  | 0, P => .nil
  | m + 1, P => by
    unfold und
    split
    · exact .nil
    · rw [List.pairwise_flatMap]
      refine ⟨fun s _ => ?_, ?_⟩
      · rw [List.pairwise_cons]
        refine ⟨fun q hq => ?_, und_rise hd m _⟩
        obtain ⟨⟨t, ht⟩, hne⟩ := und_pre hq
        subst ht
        match t, hne with
        | [], h => exact absurd (List.append_nil _) h
        | y :: r, _ => exact Pp.lessL_more _ _ _
      · refine (kids_rise hd P).imp ?_
        intro a b hab x hx y hy
        have hne : a ≠ b := fun e => by rw [e, Pp.lt_irrefl] at hab; cases hab
        have pf : ∀ {s : ByteArray} {z : Path}, z ∈ (P ++ [s]) :: und R m (P ++ [s]) → ∃ t, z = P ++ s :: t := fun {s z} hz => by
          rcases List.mem_cons.1 hz with rfl | h2
          · exact ⟨[], rfl⟩
          · obtain ⟨⟨t, ht⟩, _⟩ := und_pre h2
            exact ⟨t, by rw [← ht]; simp⟩
        obtain ⟨t, rfl⟩ := pf hx
        obtain ⟨u, rfl⟩ := pf hy
        rw [Pp.lessL_ne P t u hne]
        exact hab
section
variable {T : Tr} {K : Nat}
theorem mem_und (hW : WF T K) : ∀ (m : Nat) (P : Path), (∃ n, (P, n) ∈ T.paths) → 302 ≤ m + (txt P).size → ∀ q, q ∈ und T.paths m P ↔ (∃ k, (q, k) ∈ T.paths) ∧ P <+: q ∧ q ≠ P ∧ (txt q.dropLast).size ≤ 300 := by
  have far : ∀ {P q : Path}, 300 < (txt P).size → P <+: q → q ≠ P → ¬ (txt q.dropLast).size ≤ 300 := by
    rintro P q hl ⟨t, rfl⟩ hne
    have ht : t ≠ [] := fun e => hne (by rw [e, List.append_nil])
    rw [List.dropLast_append_of_ne_nil ht]
    have := pre_size (P := P) t.dropLast
    omega
  intro m
  induction m with
  | zero =>
    intro P _ hs q
    constructor
    · intro h; cases h
    · rintro ⟨_, h1, h2, h3⟩
      exact absurd h3 (far (by omega) h1 h2)
  | succ m ih =>
    intro P hP hs q
    unfold und
    by_cases hl : 300 < (txt P).size
    · rw [if_pos hl]
      constructor
      · intro h; cases h
      · rintro ⟨_, h1, h2, h3⟩
        exact absurd h3 (far hl h1 h2)
    · rw [if_neg hl, List.mem_flatMap]
      have sub : ∀ {s : ByteArray}, s ∈ kids T.paths P → (∃ n, (P ++ [s], n) ∈ T.paths) ∧ 302 ≤ m + (txt (P ++ [s])).size := fun {s} h => by
        obtain ⟨n, hn⟩ := mem_kids.1 h
        have := kid_size (P := P) (hW.up P s n hn).2.1
        exact ⟨⟨n, hn⟩, by omega⟩
      constructor
      · rintro ⟨s, hsk, h⟩
        obtain ⟨⟨n, hn⟩, h2⟩ := sub hsk
        rcases List.mem_cons.1 h with rfl | h3
        · refine ⟨⟨n, hn⟩, ⟨[s], rfl⟩, fun e => by have := congrArg List.length e; simp at this, ?_⟩
          rw [List.dropLast_concat]
          omega
        · obtain ⟨h4, ⟨t, ht⟩, h6, h7⟩ := (ih _ ⟨n, hn⟩ h2 q).1 h3
          subst ht
          exact ⟨h4, ⟨s :: t, by simp⟩, fun e => by have := congrArg List.length e; simp at this, h7⟩
      · rintro ⟨⟨k, hk⟩, ⟨t, ht⟩, h6, h7⟩
        subst ht
        match t, h6 with
        | [], h6 => exact absurd (List.append_nil _) h6
        | s :: r, _ =>
          by_cases hr : r = []
          · subst hr
            exact ⟨s, mem_kids.2 ⟨k, hk⟩, by simp⟩
          · obtain ⟨n, hn, _⟩ := hW.pre r (P ++ [s]) k hr (by simpa using hk)
            have hsk := mem_kids.2 ⟨n, hn⟩
            refine ⟨s, hsk, List.mem_cons_of_mem _ ((ih _ ⟨n, hn⟩ (sub hsk).2 _).2 ⟨⟨k, hk⟩, ⟨r, by simp⟩, fun e => ?_, h7⟩)⟩
            have := congrArg List.length e
            have h9 := List.length_pos_iff.2 hr
            simp only [List.length_append, List.length_cons, List.length_nil] at this
            omega
/-- Is some path under P too long? -/
def longB (R : Ps) (P : Path) : Bool := (srt R P).any (fun y => decide (300 < (txt (P ++ y.1)).size))
theorem long_und (hW : WF T K) {P : Path} {n m : Nat} (hP : (P, n) ∈ T.paths) (hl : (txt P).size ≤ 300) (hm : 302 ≤ m + (txt P).size) : longB T.paths P = true ↔ ∃ q ∈ und T.paths m P, 300 < (txt q).size := by
  unfold longB
  rw [List.any_eq_true]
  constructor
  · rintro ⟨⟨q, k⟩, hq, h⟩
    obtain ⟨h0, hk⟩ := mem_srt.1 hq
    have h3 : 300 < (txt (P ++ q)).size := by simpa using h
    clear h hq
    revert k
    revert h0 h3
    refine rev_ind (P := fun q => q ≠ [] → 300 < (txt (P ++ q)).size → ∀ k, (P ++ q, k) ∈ T.paths → ∃ q ∈ und T.paths m P, 300 < (txt q).size) ?_ ?_ q
    · intro h; exact absurd rfl h
    · intro r s ih _ h3 k hk
      rw [← List.append_assoc] at hk h3
      by_cases h4 : 300 < (txt (P ++ r)).size
      · have hr : r ≠ [] := fun e => by rw [e, List.append_nil] at h4; omega
        obtain ⟨_, _, j, hj, _⟩ := hW.up (P ++ r) s k hk
        exact ih hr h4 j hj
      · refine ⟨P ++ r ++ [s], (mem_und hW m P ⟨n, hP⟩ hm _).2 ⟨⟨k, hk⟩, ⟨r ++ [s], by simp⟩, fun e => ?_, ?_⟩, h3⟩
        · have := congrArg List.length e
          simp at this
        · rw [List.dropLast_concat]
          omega
  · rintro ⟨q, hq, h⟩
    obtain ⟨⟨k, hk⟩, ⟨t, ht⟩, hne, _⟩ := (mem_und hW m P ⟨n, hP⟩ hm q).1 hq
    subst ht
    exact ⟨(t, k), mem_srt.2 ⟨fun e => hne (by rw [e, List.append_nil]), hk⟩, by simpa using h⟩
/-- If nothing is too long, the walk goes to all, in their order. -/
theorem und_srt (hW : WF T K) {P : Path} {n m : Nat} (hP : (P, n) ∈ T.paths) (hm : 302 ≤ m + (txt P).size) (hno : longB T.paths P = false) : und T.paths m P = (srt T.paths P).map (fun y => P ++ y.1) := by
  refine rise_eq (lt := Pp.lessL) Pp.less_irrefl (fun x y z => Pp.less_trans x y z) (und_rise hW.nodup m P) ?_ fun q => ?_
  · rw [List.pairwise_map]
    refine (srt_rise hW.nodup P).imp ?_
    intro a b h
    show Pp.lessL (P ++ a.1) (P ++ b.1) = true
    rw [Pp.lessL_app]
    exact h
  · rw [mem_und hW m P ⟨n, hP⟩ hm q, List.mem_map]
    constructor
    · rintro ⟨⟨k, hk⟩, ⟨t, ht⟩, hne, _⟩
      subst ht
      exact ⟨(t, k), mem_srt.2 ⟨fun e => hne (by rw [e, List.append_nil]), hk⟩, rfl⟩
    · rintro ⟨⟨t, k⟩, hy, rfl⟩
      obtain ⟨h0, hk⟩ := mem_srt.1 hy
      refine ⟨⟨k, hk⟩, ⟨t, rfl⟩, fun e => h0 (by simpa using e), ?_⟩
      unfold longB at hno
      rw [List.any_eq_false] at hno
      have h1 := hno _ hy
      have h2 := pre_size (P := (P ++ t).dropLast) [(P ++ t).getLast (by simp [h0])]
      rw [List.dropLast_concat_getLast] at h2
      replace h1 : ¬ 300 < (txt (P ++ t)).size := fun e => h1 (by simpa using e)
      show (txt (P ++ t).dropLast).size ≤ 300
      omega
end
/-! ### members -/
abbrev Mm := ByteArray × Nd
/-- Where a node comes first in a row. -/
def fst (S : Ps) (n : Nat) : Nat := S.findIdx (fun y => y.2 == n)
/-- What is told of the place i: a File whose node came ahead is a Hard of its first path. -/
def mm (T : Tr) (S : Ps) (i : Nat) (y : Path × Nat) : Mm :=
  if (T.nd y.2).kind = 1 ∧ fst S y.2 < i then (txt y.1, { T.nd y.2 with kind := 2, link := txt (S.getD (fst S y.2) ([], 0)).1, A := none, n := 0, c := 0, xs := [] }) else (txt y.1, T.nd y.2)
def mms (T : Tr) (S : Ps) : List Mm := S.mapIdx (mm T S)
theorem mms_len (T : Tr) (S : Ps) : (mms T S).length = S.length := by unfold mms; rw [List.length_mapIdx]
theorem mms_at {T : Tr} {S : Ps} {i : Nat} {y : Path × Nat} (h : S[i]? = some y) : (mms T S)[i]? = some (mm T S i y) := by
  unfold mms
  rw [List.getElem?_mapIdx, h]
  rfl
def lisE (T : Tr) (p : ByteArray) : Int := if (T.find p).2 ≠ 0 then (T.find p).2 else if (T.nd (T.find p).1).kind ≠ 4 then 12 else 0
/-- A tree's list under a root; the error. -/
def ofE (T : Tr) (p : ByteArray) : Int := if lisE T p ≠ 0 then lisE T p else if longB T.paths (nms p) = true then 8 else 0
def ofL (T : Tr) (p : ByteArray) : List Mm := if ofE T p = 0 then mms T (srt T.paths (nms p)) else []
end Nt
end Go.Proofs.YthgbncpiehcghaaGreatDoor
/- PLAIN MATHEMATICS OF LAYER 15, SECOND PART: members as they come; a tree of which files that came are marked. No Go text is named. -/
namespace Go.Proofs.YthgbncpiehcghaaGreatDoor
set_option linter.unusedVariables false
open Go.RowKit
namespace Nt
variable {T M : Tr} {K : Nat} {R S : Ps}
theorem fst_lt {n : Nat} : fst S n < S.length ↔ ∃ q, (q, n) ∈ S := by
  unfold fst
  rw [List.findIdx_lt_length]
  constructor
  · rintro ⟨⟨q, m⟩, hx, h⟩
    obtain rfl : m = n := by simpa using h
    exact ⟨q, hx⟩
  · rintro ⟨q, h⟩
    exact ⟨_, h, by simp⟩
theorem fst_app {n : Nat} (h : ∃ q, (q, n) ∈ S) (Q : Ps) : fst (S ++ Q) n = fst S n := by
  have := fst_lt.2 h
  unfold fst at this ⊢
  rw [List.findIdx_append, if_pos this]
theorem fst_new {n : Nat} (h : ¬ ∃ q, (q, n) ∈ S) (q : Path) : fst (S ++ [(q, n)]) n = S.length := by
  have h1 : ¬ fst S n < S.length := fun e => h (fst_lt.1 e)
  unfold fst at h1 ⊢
  rw [List.findIdx_append, if_neg h1]
  simp [List.findIdx_cons]
theorem fst_getD {n : Nat} (h : ∃ q, (q, n) ∈ S) (Q : Ps) : (S ++ Q).getD (fst S n) ([], 0) = S.getD (fst S n) ([], 0) := by
  have := fst_lt.2 h
  simp only [List.getD]
  rw [List.getElem?_append_left this]
theorem mm_app {i : Nat} {y : Path × Nat} (h : y ∈ S) (Q : Ps) : mm T (S ++ Q) i y = mm T S i y := by
  obtain ⟨q, n⟩ := y
  unfold mm
  rw [fst_app ⟨q, h⟩, fst_getD ⟨q, h⟩]
theorem mms_snoc (y : Path × Nat) : mms T (S ++ [y]) = mms T S ++ [mm T (S ++ [y]) S.length y] := by
  refine List.ext_getElem? fun i => ?_
  by_cases h : i < S.length
  · rw [List.getElem?_append_left (by rw [mms_len]; exact h), mms_at (y := S[i]) (by rw [List.getElem?_append_left h, List.getElem?_eq_getElem h]), mms_at (List.getElem?_eq_getElem h), mm_app (List.getElem_mem h)]
  · by_cases e : i = S.length
    · subst e
      rw [mms_at (y := y) (by simp), List.getElem?_append_right (by rw [mms_len]; exact Nat.le_refl _), mms_len]
      simp
    · rw [List.getElem?_eq_none (by rw [mms_len]; simp; omega), List.getElem?_eq_none (by rw [List.length_append, mms_len]; simp; omega)]
theorem two_cnt (hd : (R.map (·.1)).Nodup) {p q : Path} {n : Nat} (hp : (p, n) ∈ R) (hq : (q, n) ∈ R) (hne : p ≠ q) : 2 ≤ cnt R n := by
  rw [cnt_drop hd hp n, if_pos rfl]
  have : 0 < cnt (R.filter (fun x => decide (x.1 ≠ p))) n := cnt_pos.2 ⟨q, List.mem_filter.2 ⟨hq, by simpa using fun e => hne e.symm⟩⟩
  omega
theorem cnt_le_one (hd : (R.map (·.1)).Nodup) {n : Nat} (h : ∀ p q, (p, n) ∈ R → (q, n) ∈ R → p = q) : cnt R n ≤ 1 := by
  by_cases h0 : cnt R n = 0
  · omega
  · obtain ⟨p, hp⟩ := cnt_pos.1 (Nat.pos_of_ne_zero h0)
    rw [cnt_drop hd hp n, if_pos rfl]
    have : ¬ 0 < cnt (R.filter (fun x => decide (x.1 ≠ p))) n := fun e => by
      obtain ⟨q, hq⟩ := cnt_pos.1 e
      obtain ⟨h1, h2⟩ := List.mem_filter.1 hq
      have := h p q hp h1
      subst this
      simp at h2
    omega
/-- A file that came is one of several paths. -/
theorem mm_cnt (hW : WF T K) {P q : Path} {n : Nat} (hS : ∀ r m, (r, m) ∈ S → (P ++ r, m) ∈ T.paths ∧ r ≠ q) (hq : (P ++ q, n) ∈ T.paths) :
    mm T (S ++ [(q, n)]) S.length (q, n) = if 1 < cnt T.paths n ∧ fst (S ++ [(q, n)]) n < S.length then (txt q, { T.nd n with kind := 2, link := txt ((S ++ [(q, n)]).getD (fst (S ++ [(q, n)]) n) ([], 0)).1, A := none, n := 0, c := 0, xs := [] }) else (txt q, T.nd n) := by
  unfold mm
  by_cases h : fst (S ++ [(q, n)]) n < S.length
  · have hm : ∃ r, (r, n) ∈ S := by
      by_cases e : ∃ r, (r, n) ∈ S
      · exact e
      · rw [fst_new e] at h; omega
    obtain ⟨r, hr⟩ := hm
    obtain ⟨h1, h2⟩ := hS r n hr
    have h3 := two_cnt hW.nodup h1 hq fun e => h2 (List.append_cancel_left e)
    have hk : (T.nd n).kind = 1 := by
      by_cases hk : (T.nd n).kind = 1
      · exact hk
      · exact absurd (List.append_cancel_left (hW.one _ _ n h1 hq hk)) h2
    rw [if_pos ⟨hk, h⟩, if_pos ⟨by omega, h⟩]
  · rw [if_neg (fun e => h e.2), if_neg (fun e => h e.2)]
/-- The numbers of all nodes may be. -/
def Mok (T : Tr) : Prop := ∀ x ∈ T.nodes, metaOk x.mode x.uid x.gid x.mtime = true
/-- M is T, but for the numbers of the files of several paths of which one came: another mode, and the first place. -/
structure Marks (T M : Tr) (S : Ps) (fl : Int → Int) : Prop where
  paths : M.paths = T.paths
  room : M.room = T.room
  vol : M.vol = T.vol
  len : M.nodes.length = T.nodes.length
  node : ∀ n, ∃ a b c d, M.nd n = { T.nd n with mode := a, uid := b, gid := c, mtime := d } ∧ (if 1 < cnt T.paths n ∧ fst S n < S.length then a = fl (T.nd n).mode ∧ d = fst S n else a = (T.nd n).mode)
theorem Marks.refl (T : Tr) (fl : Int → Int) : Marks T T [] fl :=
  ⟨rfl, rfl, rfl, rfl, fun n => ⟨(T.nd n).mode, (T.nd n).uid, (T.nd n).gid, (T.nd n).mtime, rfl, by rw [if_neg (by rintro ⟨_, h⟩; exact absurd h (by simp))]⟩⟩
variable {fl : Int → Int}
theorem Marks.kind (h : Marks T M S fl) (n : Nat) : (M.nd n).kind = (T.nd n).kind := by
  obtain ⟨a, b, c, d, e, _⟩ := h.node n
  rw [e]
theorem Marks.wf (h : Marks T M S fl) (hW : WF T K) : WF M K where
  root := by rw [h.paths]; exact hW.root
  rootk := by rw [h.kind]; exact hW.rootk
  nodup := by rw [h.paths]; exact hW.nodup
  lt := by rw [h.paths, h.len]; exact hW.lt
  up := by
    rw [h.paths]
    intro p x n hm
    obtain ⟨h1, h2, m, h3, h4⟩ := hW.up p x n hm
    exact ⟨h1, h2, m, h3, by rw [h.kind]; exact h4⟩
  one := by
    rw [h.paths]
    intro p q n h1 h2 h3
    rw [h.kind] at h3
    exact hW.one p q n h1 h2 h3
  kinds := by
    intro x hx
    obtain ⟨i, hi, he⟩ := List.getElem_of_mem hx
    obtain ⟨a, b, c, d, e, _⟩ := h.node i
    have h1 : M.nd i = x := by unfold Tr.nd; simp [List.getD, List.getElem?_eq_getElem hi, he]
    have h2 : T.nd i ∈ T.nodes := by
      have hi2 : i < T.nodes.length := by rw [← h.len]; exact hi
      unfold Tr.nd
      simp [List.getD, List.getElem?_eq_getElem hi2]
    have h3 := hW.kinds _ h2
    rw [← h1, e]
    unfold Nd.ok at h3 ⊢
    exact h3
  long := by rw [h.paths]; exact hW.long
  few := by rw [h.len]; exact hW.few
  many := by rw [h.paths]; exact hW.many
  rms := by rw [h.room, h.vol]; exact hW.rms
theorem Marks.fnd (h : Marks T M S fl) : ∀ (r pre : Path) (n : Nat), M.fnd pre n r = T.fnd pre n r
  | [], pre, n => rfl
  | x :: r, pre, n => by
    unfold Tr.fnd
    rw [h.kind, h.paths]
    cases at_ T.paths (pre ++ [x]) with
    | none => rfl
    | some k => simp only [h.fnd r]
theorem Marks.find (h : Marks T M S fl) (p : ByteArray) : M.find p = T.find p := by
  unfold Tr.find
  rw [h.fnd]
/-- A path more has come, and nothing is to be marked. -/
theorem Marks.skip (h : Marks T M S fl) {q : Path} {n : Nat} (hc : 1 < cnt T.paths n → ∃ r, (r, n) ∈ S) : Marks T M (S ++ [(q, n)]) fl :=
  ⟨h.paths, h.room, h.vol, h.len, fun m => by
    obtain ⟨a, b, c, d, e, h2⟩ := h.node m
    refine ⟨a, b, c, d, e, ?_⟩
    by_cases hx : 1 < cnt T.paths m ∧ fst S m < S.length
    · rw [if_pos hx] at h2
      obtain ⟨r, hr⟩ := fst_lt.1 hx.2
      rw [if_pos ⟨hx.1, fst_lt.2 ⟨r, List.mem_append_left _ hr⟩⟩, fst_app ⟨r, hr⟩]
      exact h2
    · rw [if_neg hx] at h2
      rw [if_neg]
      · exact h2
      · rintro ⟨h3, hr⟩
        obtain ⟨r, hr⟩ := fst_lt.1 hr
        rcases List.mem_append.1 hr with h4 | h4
        · exact hx ⟨h3, fst_lt.2 ⟨r, h4⟩⟩
        · have : m = n := by simpa using congrArg Prod.snd (List.mem_singleton.1 h4)
          subst this
          exact hx ⟨h3, fst_lt.2 (hc h3)⟩⟩
/-- A path more has come, the first one of a file of several. -/
theorem Marks.mark (h : Marks T M S fl) {q : Path} {n : Nat} (hn : n < T.nodes.length) (hc : 1 < cnt T.paths n) (hno : ¬ ∃ r, (r, n) ∈ S) (b c : Int) : Marks T (M.st1 n (fl (T.nd n).mode) b c S.length) (S ++ [(q, n)]) fl := by
  refine ⟨h.paths, h.room, h.vol, ?_, fun m => ?_⟩
  · show (M.nodes.set n _).length = _
    rw [List.length_set]
    exact h.len
  · have hnd : (M.st1 n (fl (T.nd n).mode) b c S.length).nd m = if m = n then { M.nd n with mode := fl (T.nd n).mode, uid := b, gid := c, mtime := S.length } else M.nd m := by
      show (M.nodes.set n _).getD m Nd.zero = _
      rw [getD_set (by rw [h.len]; exact hn)]
      rfl
    by_cases e : m = n
    · subst e
      rw [if_pos rfl] at hnd
      obtain ⟨a', b', c', d', e', _⟩ := h.node m
      refine ⟨_, _, _, _, by rw [hnd, e'], ?_⟩
      rw [if_pos ⟨hc, fst_lt.2 ⟨q, by simp⟩⟩, fst_new hno]
      exact ⟨rfl, rfl⟩
    · rw [if_neg e] at hnd
      rw [hnd]
      obtain ⟨a, b', c', d, e', h2⟩ := h.node m
      refine ⟨a, b', c', d, e', ?_⟩
      by_cases hx : 1 < cnt T.paths m ∧ fst S m < S.length
      · rw [if_pos hx] at h2
        obtain ⟨r, hr⟩ := fst_lt.1 hx.2
        rw [if_pos ⟨hx.1, fst_lt.2 ⟨r, List.mem_append_left _ hr⟩⟩, fst_app ⟨r, hr⟩]
        exact h2
      · rw [if_neg hx] at h2
        rw [if_neg]
        · exact h2
        · rintro ⟨h3, hr⟩
          obtain ⟨r, hr⟩ := fst_lt.1 hr
          rcases List.mem_append.1 hr with h4 | h4
          · exact hx ⟨h3, fst_lt.2 ⟨r, h4⟩⟩
          · exact e (by simpa using congrArg Prod.snd (List.mem_singleton.1 h4))
/-! ### the numbers of all nodes may be -/
theorem Mok.nd (h : Mok T) {n : Nat} (hn : n < T.nodes.length) : metaOk (T.nd n).mode (T.nd n).uid (T.nd n).gid (T.nd n).mtime = true :=
  h _ (by unfold Tr.nd; simp [List.getD, List.getElem?_eq_getElem hn])
theorem Mok.mk' (h : Mok T) (p : ByteArray) (x : Nd) : Mok (T.mk' p x).1 := by
  unfold Tr.mk'
  split
  · rename_i e
    intro y hy
    rcases List.mem_append.1 hy with h1 | h1
    · exact h y h1
    · obtain rfl : y = x := by simpa using h1
      unfold Tr.mkE at e
      by_cases hf : T.fresh p ≠ 0
      · rw [if_pos hf] at e; exact absurd e hf
      · rw [if_neg hf] at e
        cases hm : metaOk y.mode y.uid y.gid y.mtime with
        | true => rfl
        | false => rw [hm, if_pos rfl] at e; exact absurd e (by decide)
  · exact h
theorem Mok.lnk (h : Mok T) (p q : ByteArray) : Mok (T.lnk p q).1 := by
  unfold Tr.lnk
  split <;> exact h
theorem Mok.clr (h : Mok T) (p : ByteArray) : Mok (T.clr p).1 := by
  unfold Tr.clr
  split <;> exact h
theorem Mok.rm (h : Mok T) (p : ByteArray) : Mok (T.rm p).1 := by
  unfold Tr.rm
  split <;> exact h
theorem Mok.rn (h : Mok T) (f t : ByteArray) : Mok (T.rn f t).1 := by
  unfold Tr.rn
  split
  · exact h
  · split <;> exact h
theorem Mok.with_ (h : Mok T) (m : Nat) (x : Nd) (hx : metaOk x.mode x.uid x.gid x.mtime = true) : Mok (T.with_ m x) := by
  intro y hy
  rcases List.mem_or_eq_of_mem_set hy with h1 | h1
  · exact h y h1
  · rw [h1]; exact hx
theorem Mok.wr (hW : WF T K) (h : Mok T) (p : ByteArray) (A : Option Go.Addr) (n c : Nat) (xs : List Int) : Mok (T.wr p A n c xs).1 := by
  unfold Tr.wr
  split
  · rename_i e
    have hc : (T.find p).2 = 0 := by
      unfold Tr.wrE at e
      by_cases hc : (T.find p).2 ≠ 0
      · rw [if_pos hc] at e; exact absurd e hc
      · omega
    exact h.with_ _ _ (h.nd (hW.lt _ _ (hW.find_ok hc).2))
  · exact h
theorem Mok.st (h : Mok T) (p : ByteArray) (a b c d : Int) : Mok (T.st p a b c d).1 := by
  unfold Tr.st
  split
  · rename_i e
    refine h.with_ _ _ ?_
    unfold Tr.stE at e
    by_cases hc : (T.find p).2 ≠ 0
    · rw [if_pos hc] at e; exact absurd e hc
    · rw [if_neg hc] at e
      cases hm : metaOk a b c d with
      | true => rfl
      | false => rw [hm, if_pos rfl] at e; exact absurd e (by decide)
  · exact h
theorem Mok.new (a b : Int) : Mok (new a b) := by
  intro x hx
  obtain rfl : x = { Nd.zero with kind := 4 } := by simpa [Nt.new] using hx
  rfl
/-- All bytes are bytes. -/
def Bok (T : Tr) : Prop := ∀ x ∈ T.nodes, Byt x.xs
theorem Bok.nd (h : Bok T) {n : Nat} (hn : n < T.nodes.length) : Byt (T.nd n).xs := h _ (by unfold Tr.nd; simp [List.getD, List.getElem?_eq_getElem hn])
theorem Bok.mk' (h : Bok T) (p : ByteArray) (x : Nd) (hx : Byt x.xs) : Bok (T.mk' p x).1 := by
  unfold Tr.mk'
  split
  · intro y hy
    rcases List.mem_append.1 hy with h1 | h1
    · exact h y h1
    · obtain rfl : y = x := by simpa using h1
      exact hx
  · exact h
theorem Bok.lnk (h : Bok T) (p q : ByteArray) : Bok (T.lnk p q).1 := by
  unfold Tr.lnk
  split <;> exact h
theorem Bok.clr (h : Bok T) (p : ByteArray) : Bok (T.clr p).1 := by
  unfold Tr.clr
  split <;> exact h
theorem Bok.rm (h : Bok T) (p : ByteArray) : Bok (T.rm p).1 := by
  unfold Tr.rm
  split <;> exact h
theorem Bok.rn (h : Bok T) (f t : ByteArray) : Bok (T.rn f t).1 := by
  unfold Tr.rn
  split
  · exact h
  · split <;> exact h
theorem Bok.with_ (h : Bok T) (m : Nat) (x : Nd) (hx : Byt x.xs) : Bok (T.with_ m x) := by
  intro y hy
  rcases List.mem_or_eq_of_mem_set hy with h1 | h1
  · exact h y h1
  · rw [h1]; exact hx
theorem Bok.wr (h : Bok T) (p : ByteArray) (A : Option Go.Addr) (n c : Nat) (xs : List Int) (hx : Byt xs) : Bok (T.wr p A n c xs).1 := by
  unfold Tr.wr
  split
  · exact h.with_ _ _ hx
  · exact h
theorem Bok.st (hW : WF T K) (h : Bok T) (p : ByteArray) (a b c d : Int) : Bok (T.st p a b c d).1 := by
  unfold Tr.st
  split
  · rename_i e
    have hc : (T.find p).2 = 0 := by
      unfold Tr.stE at e
      by_cases hc : (T.find p).2 ≠ 0
      · rw [if_pos hc] at e; exact absurd e hc
      · omega
    exact h.with_ _ _ (h.nd (hW.lt _ _ (hW.find_ok hc).2))
  · exact h
theorem Bok.new (a b : Int) : Bok (new a b) := by
  intro x hx
  obtain rfl : x = { Nd.zero with kind := 4 } := by simpa [Nt.new] using hx
  exact Byt.nil
/-! ### a walk's rows, as a list sees them -/
def nodeOf (T : Tr) (q : Path) : Nat := (at_ T.paths q).getD 0
def un (T : Tr) (P q : Path) : Path × Nat := (q.drop P.length, nodeOf T q)
theorem nodeOf_is (hW : WF T K) {q : Path} {n : Nat} (h : (q, n) ∈ T.paths) : nodeOf T q = n := by
  unfold nodeOf
  rw [hW.atI.2 h]
  rfl
theorem und_un (hW : WF T K) {P : Path} {n m : Nat} (hP : (P, n) ∈ T.paths) (hm : 302 ≤ m + (txt P).size) (hno : longB T.paths P = false) : (und T.paths m P).map (un T P) = srt T.paths P := by
  rw [und_srt hW hP hm hno, List.map_map]
  refine (List.map_congr_left fun y hy => ?_).trans (List.map_id _)
  obtain ⟨q, k⟩ := y
  obtain ⟨_, h1⟩ := mem_srt.1 hy
  show (List.drop P.length (P ++ q), nodeOf T (P ++ q)) = (q, k)
  rw [List.drop_left, nodeOf_is hW h1]
end Nt
end Go.Proofs.YthgbncpiehcghaaGreatDoor
