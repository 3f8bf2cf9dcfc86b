/- PLAIN MATHEMATICS OF LAYER 4 (paths of trees): where a text is cut, its pieces, their order; no Go text is named. -/
import Derived.Test.YtbianfjennnofaaDoorBase
import Derived.Lib.Strings
import Derived.Lib.IndexLaws
import Derived.Laws.Concat
import Derived.Lib.BytesEntry
namespace Go.Proofs.YtbianfjennnofaaDoor
set_option linter.unusedVariables false
open Go.RowKit
namespace Pp
/-- The place of the first slash; the length, if there is none. -/
def fi (s : ByteArray) : Nat := s.data.toList.findIdx (· == 47)
def ix (s : ByteArray) : Int := if fi s < s.size then (fi s : Int) else -1
def slash : ByteArray := ⟨#[47]⟩
def hd (s : ByteArray) : ByteArray := s.extract 0 (fi s)
def tl (s : ByteArray) : ByteArray := s.extract (fi s + 1) s.size
theorem size_eq (s : ByteArray) : s.size = s.data.toList.length := rfl
theorem fi_le (s : ByteArray) : fi s ≤ s.size := by rw [size_eq]; exact List.findIdx_le_length
theorem fi_lt (s : ByteArray) (j : Nat) (h : j < s.size) (hz : j < fi s) : s[j] ≠ 47 := by
  have := List.not_of_lt_findIdx (p := (· == 47)) (xs := s.data.toList) hz
  simp at this
  exact this
theorem fi_at (s : ByteArray) (h : fi s < s.size) : s[fi s] = 47 := by
  have := List.findIdx_getElem (p := (· == 47)) (xs := s.data.toList) (w := by rw [← size_eq]; exact h)
  simp at this
  exact this
theorem indexByte_fi (s : ByteArray) : Lib.indexByte s.data.toList 47 = ix s := by
  have hge := Lib.indexByte_ge s.data.toList 47
  unfold ix
  by_cases h : Lib.indexByte s.data.toList 47 = -1
  · have h1 := Lib.indexByte_none h
    rw [h, if_neg]
    intro hz
    have := List.findIdx_getElem (p := (· == 47)) (xs := s.data.toList) (w := hz)
    apply h1 (fi s)
    rw [List.getElem?_eq_getElem hz]
    exact congrArg some (beq_iff_eq.1 this)
  · obtain ⟨o, ho⟩ : ∃ o : Nat, Lib.indexByte s.data.toList 47 = o := ⟨(Lib.indexByte s.data.toList 47).toNat, by omega⟩
    obtain ⟨h1, h2⟩ := Lib.indexByte_some ho
    have hol : o < s.data.toList.length := (List.getElem?_eq_some_iff.1 h1).1
    have e : fi s = o := by
      unfold fi
      rw [List.findIdx_eq hol]
      refine ⟨by have := (List.getElem?_eq_some_iff.1 h1).2; simp [this], fun j hj => ?_⟩
      have := h2 j hj
      rw [List.getElem?_eq_getElem (by omega)] at this
      simpa using this
    rw [ho, e, if_pos (show o < s.size by rw [size_eq]; exact hol)]
theorem extract_size (s : ByteArray) (i j : Nat) : (s.extract i j).size = min j s.size - i := by simp
theorem tl_lt (s : ByteArray) (h : fi s < s.size) : (tl s).size < s.size := by unfold tl; rw [extract_size]; omega
/-- A text's pieces: it cut at each slash. -/
def pieces (s : ByteArray) : List ByteArray := if h : fi s < s.size then hd s :: pieces (tl s) else [s]
termination_by s.size
decreasing_by exact tl_lt s h
theorem pieces_more (s : ByteArray) (h : fi s < s.size) : pieces s = hd s :: pieces (tl s) := by rw [pieces, dif_pos h]
theorem pieces_last (s : ByteArray) (h : ¬ fi s < s.size) : pieces s = [s] := by rw [pieces, dif_neg h]
theorem pieces_ne (s : ByteArray) : pieces s ≠ [] := by
  by_cases h : fi s < s.size
  · rw [pieces_more s h]; simp
  · rw [pieces_last s h]; simp
theorem pieces_len (s : ByteArray) : (pieces s).length ≤ s.size + 1 := by
  by_cases h : fi s < s.size
  · have := tl_lt s h
    have ih := pieces_len (tl s)
    rw [pieces_more s h, List.length_cons]
    omega
  · rw [pieces_last s h]; simp
termination_by s.size
/-- What is left behind k cuts. -/
def rest : Nat → ByteArray → ByteArray
  | 0, s => s
  | k + 1, s => tl (rest k s)
theorem rest_le : ∀ (k : Nat) (s : ByteArray), (rest k s).size ≤ s.size
  | 0, _ => Nat.le_refl _
  | k + 1, s => by
    have := rest_le k s
    unfold rest tl
    rw [extract_size]
    omega
theorem hd_size (s : ByteArray) : (hd s).size ≤ s.size := by unfold hd; rw [extract_size]; omega
theorem pieces_size (s : ByteArray) : ∀ x ∈ pieces s, x.size ≤ s.size := by
  intro x hx
  by_cases h : fi s < s.size
  · have := tl_lt s h
    rw [pieces_more s h] at hx
    rcases List.mem_cons.1 hx with rfl | hx
    · exact hd_size s
    · have := pieces_size (tl s) x hx
      omega
  · rw [pieces_last s h] at hx
    simp at hx
    subst hx
    exact Nat.le_refl _
termination_by s.size
theorem toList_ne {s t : ByteArray} (h : s ≠ t) : (s.toList == t.toList) = false := by
  rw [beq_eq_false_iff_ne, Lib.toList_data, Lib.toList_data]
  exact fun e => h (by rw [← Lib.mk_data s, ← Lib.mk_data t, e])
theorem toList_eq (s t : ByteArray) : (s.toList == t.toList) = decide (s = t) := by
  by_cases h : s = t
  · subst h; simp
  · rw [toList_ne h]; simp [h]
theorem ne_byte {x c : UInt8} (h : x ≠ c) : ((x.toNat : Int) == (c.toNat : Int)) = false := by
  simp only [beq_eq_false_iff_ne, ne_eq]
  intro e
  apply h
  apply UInt8.toNat_inj.1
  omega
/-- r is the place of the last slash ahead of k; -1, if there is none. -/
def IsLast (s : ByteArray) (k : Nat) (r : Int) : Prop := (r = -1 ∧ ∀ j (h : j < s.size), j < k → s[j] ≠ 47) ∨ (∃ (i : Nat) (h : i < s.size), i < k ∧ r = i ∧ s[i] = 47 ∧ ∀ j (h : j < s.size), i < j → j < k → s[j] ≠ 47)
theorem last_zero {s : ByteArray} {r : Int} (h : IsLast s 0 r) : r = -1 := by
  rcases h with ⟨h, _⟩ | ⟨i, _, h, _⟩
  · exact h
  · omega
theorem last_here {s : ByteArray} {r : Int} {j : Nat} (h : IsLast s (j + 1) r) (hj : j < s.size) (e : s[j] = 47) : r = j := by
  rcases h with ⟨_, h⟩ | ⟨i, hi, h1, h2, h3, h4⟩
  · exact absurd e (h j hj (by omega))
  · by_cases hij : i = j
    · subst hij; exact h2
    · exact absurd e (h4 j hj (by omega) (by omega))
theorem last_next {s : ByteArray} {r : Int} {j : Nat} (h : IsLast s (j + 1) r) (hj : j < s.size) (e : s[j] ≠ 47) : IsLast s j r := by
  rcases h with ⟨h0, h⟩ | ⟨i, hi, h1, h2, h3, h4⟩
  · exact .inl ⟨h0, fun a b c => h a b (by omega)⟩
  · have hij : i ≠ j := fun hx => by subst hx; exact e h3
    exact .inr ⟨i, hi, by omega, h2, h3, fun a b c d => h4 a b c (by omega)⟩
theorem last_step {s : ByteArray} {r : Int} {j : Nat} (h : IsLast s j r) (hj : j < s.size) (e : s[j] ≠ 47) : IsLast s (j + 1) r := by
  rcases h with ⟨h0, h⟩ | ⟨i, hi, h1, h2, h3, h4⟩
  · exact .inl ⟨h0, fun a b c => by
      by_cases x : a = j
      · subst x; exact e
      · exact h a b (by omega)⟩
  · exact .inr ⟨i, hi, by omega, h2, h3, fun a b c d => by
      by_cases x : a = j
      · subst x; exact e
      · exact h4 a b c (by omega)⟩
theorem last_one {s : ByteArray} {k : Nat} {r t : Int} (h : IsLast s k r) (h' : IsLast s k t) : r = t := by
  rcases h with ⟨h0, h⟩ | ⟨i, hi, h1, h2, h3, h4⟩
  · rcases h' with ⟨h0', _⟩ | ⟨i', hi', h1', h2', h3', h4'⟩
    · omega
    · exact absurd h3' (h i' hi' h1')
  · rcases h' with ⟨h0', h'⟩ | ⟨i', hi', h1', h2', h3', h4'⟩
    · exact absurd h3 (h' i hi h1)
    · have a : ¬ i < i' := fun x => h4 i' hi' x h1' h3'
      have b : ¬ i' < i := fun x => h4' i hi x h1 h3
      omega
theorem last_ex (s : ByteArray) : ∀ k, k ≤ s.size → ∃ r, IsLast s k r := by
  intro k
  induction k with
  | zero => exact fun _ => ⟨-1, .inl ⟨rfl, fun j _ h => absurd h (by omega)⟩⟩
  | succ j ih =>
    intro hk
    by_cases h : s[j]'(by omega) = 47
    · exact ⟨j, .inr ⟨j, by omega, by omega, rfl, h, fun a _ b c => by omega⟩⟩
    · obtain ⟨r, hr⟩ := ih (by omega)
      refine ⟨r, ?_⟩
      rcases hr with ⟨h0, hr⟩ | ⟨i, hi, h1, h2, h3, h4⟩
      · exact .inl ⟨h0, fun a b c => by
          by_cases e : a = j
          · subst e; exact h
          · exact hr a b (by omega)⟩
      · exact .inr ⟨i, hi, by omega, h2, h3, fun a b c d => by
          by_cases e : a = j
          · subst e; exact h
          · exact h4 a b c (by omega)⟩
/-- t stands ahead in s. -/
def Pre (t s : ByteArray) : Prop := t.size ≤ s.size ∧ s.extract 0 t.size = t
instance (t s : ByteArray) : Decidable (Pre t s) := by unfold Pre; exact inferInstance
theorem app_size (t u : ByteArray) : (t ++ u).size = t.size + u.size := by simp
theorem pre_slash (t s : ByteArray) : Pre (t ++ ⟨#[47]⟩) s ↔ ∃ h : t.size < s.size, s.extract 0 t.size = t ∧ s[t.size] = 47 := by
  have hsz : (t ++ (⟨#[47]⟩ : ByteArray)).size = t.size + 1 := app_size t ⟨#[47]⟩
  unfold Pre
  rw [hsz]
  have hd : ∀ (h : t.size < s.size), s.extract 0 (t.size + 1) = s.extract 0 t.size ++ ⟨#[s[t.size]]⟩ := by
    intro h
    apply ByteArray.ext
    apply Array.toList_inj.1
    rw [ByteArray.data_append, Array.toList_append, Lib.extract_data, Lib.extract_data]
    have hl : t.size < s.data.toList.length := h
    simp only [List.drop_zero, Nat.sub_zero]
    rw [List.take_succ_eq_append_getElem hl]
    rfl
  constructor
  · rintro ⟨h1, h2⟩
    have h : t.size < s.size := by omega
    rw [hd h] at h2
    have h3 := congrArg (fun b : ByteArray => b.data.toList) h2
    simp only [ByteArray.data_append, Array.toList_append] at h3
    have h4 := List.append_inj' h3 (by simp)
    refine ⟨h, ?_, ?_⟩
    · apply ByteArray.ext
      apply Array.toList_inj.1
      exact h4.1
    · have := h4.2
      simpa using this
  · rintro ⟨h, h2, h3⟩
    refine ⟨by omega, ?_⟩
    rw [hd h, h2, h3]
/-- It is a name. -/
def Nm (s : ByteArray) : Prop := (1 ≤ s.size ∧ s.size ≤ 60 ∧ s ≠ ⟨#[46]⟩ ∧ s ≠ ⟨#[46, 46]⟩) ∧ (0 : UInt8) ∉ s.data.toList ∧ (47 : UInt8) ∉ s.data.toList
instance (s : ByteArray) : Decidable (Nm s) := by unfold Nm; exact inferInstance
theorem fi_mem (s : ByteArray) : fi s < s.size ↔ (47 : UInt8) ∈ s.data.toList := by
  unfold fi
  rw [size_eq, List.findIdx_lt_length]
  simp
/-- A path's names, and the error's number. -/
def partsS (s : ByteArray) : List ByteArray × Int := if s.size ≤ 300 ∧ ∀ x ∈ pieces s, Nm x then (pieces s, 0) else ([], 8)
theorem parts_yes {s : ByteArray} (h : s.size ≤ 300) (h2 : ∀ x ∈ pieces s, Nm x) : partsS s = (pieces s, 0) := by unfold partsS; rw [if_pos ⟨h, h2⟩]
theorem parts_long {s : ByteArray} (h : 300 < s.size) : partsS s = ([], 8) := by unfold partsS; rw [if_neg (by omega)]
theorem parts_no {s x : ByteArray} (h : x ∈ pieces s) (h2 : ¬ Nm x) : partsS s = ([], 8) := by unfold partsS; rw [if_neg (fun k => h2 (k.2 x h))]
theorem ext_at (s : ByteArray) (f i : Nat) (h : i < (s.extract f s.size).size) (h2 : f + i < s.size) : (s.extract f s.size)[i] = s[f + i] := by
  have e1 : (s.extract f s.size)[i] = (s.extract f s.size).data.toList[i]'h := rfl
  have e2 : s[f + i] = s.data.toList[f + i]'h2 := rfl
  have e3 := Lib.extract_data s f s.size
  rw [e1, e2, List.getElem_of_eq e3]
  simp
theorem ext_ext (s : ByteArray) (f i : Nat) (hi : f + i ≤ s.size) : (s.extract f s.size).extract 0 i = s.extract f (f + i) := by
  apply ByteArray.ext
  apply Array.toList_inj.1
  rw [Lib.extract_data, Lib.extract_data, Lib.extract_data, List.drop_zero, Nat.sub_zero, List.take_take]
  congr 1
  omega
theorem ext_tail (s : ByteArray) (f i : Nat) (hf : f ≤ s.size) : (s.extract f s.size).extract i (s.extract f s.size).size = s.extract (f + i) s.size := by
  apply ByteArray.ext
  apply Array.toList_inj.1
  rw [extract_size, Lib.extract_data, Lib.extract_data, Lib.extract_data]
  rw [List.drop_take, List.drop_drop, List.take_take]
  congr 1
  omega
theorem cut_hit {s : ByteArray} {f k : Nat} (hf : f ≤ k) (hk : k < s.size) (h : k ≤ f + fi (s.extract f s.size)) (e : s[k] = 47) :
    pieces (s.extract f s.size) = s.extract f k :: pieces (s.extract (k + 1) s.size) := by
  have hsz : (s.extract f s.size).size = s.size - f := by rw [extract_size]; omega
  have hfi : fi (s.extract f s.size) = k - f := by
    apply Nat.le_antisymm _ (by omega)
    apply Nat.le_of_not_lt
    intro hlt
    have := fi_lt (s.extract f s.size) (k - f) (by omega) hlt
    rw [ext_at s f (k - f) (by omega) (by omega)] at this
    apply this
    have e2 : f + (k - f) = k := by omega
    simp only [e2]
    exact e
  rw [pieces_more _ (by omega)]
  unfold hd tl
  rw [hfi, ext_ext s f (k - f) (by omega), ext_tail s f _ (by omega), show f + (k - f) = k from by omega, show f + (k - f + 1) = k + 1 from by omega]
theorem cut_miss {s : ByteArray} {f k : Nat} (hf : f ≤ k) (hk : k < s.size) (h : k ≤ f + fi (s.extract f s.size)) (e : s[k] ≠ 47) : k + 1 ≤ f + fi (s.extract f s.size) := by
  have hsz : (s.extract f s.size).size = s.size - f := by rw [extract_size]; omega
  apply Nat.le_of_not_lt
  intro hlt
  have hfi : fi (s.extract f s.size) = k - f := by omega
  have := fi_at (s.extract f s.size) (by omega)
  rw [ext_at s f _ (by omega) (by omega)] at this
  apply e
  have e2 : f + fi (s.extract f s.size) = k := by omega
  simp only [e2] at this
  exact this
theorem cut_end {s : ByteArray} {f : Nat} (hf : f ≤ s.size) (h : s.size ≤ f + fi (s.extract f s.size)) : pieces (s.extract f s.size) = [s.extract f s.size] := by
  have hsz : (s.extract f s.size).size = s.size - f := by rw [extract_size]; omega
  exact pieces_last _ (by omega)
theorem ext_all (s : ByteArray) : s.extract 0 s.size = s := by
  apply ByteArray.ext
  simp
/-- The order of names, of paths. -/
def lt (x y : ByteArray) : Bool := Op.bytesLess x.toList y.toList
def lessL : List ByteArray → List ByteArray → Bool
  | [], [] => false
  | [], _ :: _ => true
  | _ :: _, [] => false
  | x :: xs, y :: ys => if x = y then lessL xs ys else lt x y
theorem lessL_app : ∀ (p xs ys : List ByteArray), lessL (p ++ xs) (p ++ ys) = lessL xs ys
  | [], _, _ => rfl
  | x :: p, xs, ys => by
    show (if x = x then lessL (p ++ xs) (p ++ ys) else lt x x) = _
    rw [if_pos rfl, lessL_app p xs ys]
theorem lessL_ne {x y : ByteArray} (p xs ys : List ByteArray) (h : x ≠ y) : lessL (p ++ x :: xs) (p ++ y :: ys) = lt x y := by
  rw [lessL_app]
  show (if x = y then lessL xs ys else lt x y) = _
  rw [if_neg h]
theorem lessL_nil (p xs : List ByteArray) : lessL (p ++ xs) p = false := by
  have := lessL_app p xs []
  rw [List.append_nil] at this
  rw [this]
  cases xs <;> rfl
theorem lessL_more (p : List ByteArray) (y : ByteArray) (ys : List ByteArray) : lessL p (p ++ y :: ys) = true := by
  have := lessL_app p [] (y :: ys)
  rw [List.append_nil] at this
  rw [this]
  rfl
theorem slash_toList : (⟨#[47]⟩ : ByteArray).toList = [47] := by decide +kernel
end Pp
end Go.Proofs.YtbianfjennnofaaDoor
/- PLAIN MATHEMATICS OF LAYER 4, SECOND PART: the order of paths is one; a path's pieces, parent and base. No Go text is named. -/
namespace Go.Proofs.YtbianfjennnofaaDoor
set_option linter.unusedVariables false
open Go.RowKit
namespace Pp
theorem bl_irrefl : ∀ x : List UInt8, Op.bytesLess x x = false
  | [] => rfl
  | a :: x => by simp [Op.bytesLess, bl_irrefl x]
theorem bl_trans : ∀ x y z : List UInt8, Op.bytesLess x y = true → Op.bytesLess y z = true → Op.bytesLess x z = true
  | [], y, [], _, h => by cases y <;> simp [Op.bytesLess] at h
  | [], _, _ :: _, _, _ => rfl
  | _ :: _, [], _, h, _ => by simp [Op.bytesLess] at h
  | _ :: _, _ :: _, [], _, h => by simp [Op.bytesLess] at h
  | a :: x, b :: y, c :: z, h, k => by
    simp only [Op.bytesLess, Bool.or_eq_true, decide_eq_true_eq, Bool.and_eq_true, beq_iff_eq] at h k ⊢
    rcases h with h | ⟨rfl, h⟩
    · rcases k with k | ⟨rfl, _⟩
      · exact .inl (UInt8.lt_trans h k)
      · exact .inl h
    · rcases k with k | ⟨rfl, k⟩
      · exact .inl k
      · exact .inr ⟨rfl, bl_trans x y z h k⟩
theorem bl_total : ∀ x y : List UInt8, x ≠ y → Op.bytesLess x y = true ∨ Op.bytesLess y x = true
  | [], [], h => absurd rfl h
  | [], _ :: _, _ => .inl rfl
  | _ :: _, [], _ => .inr rfl
  | a :: x, b :: y, h => by
    simp only [Op.bytesLess, Bool.or_eq_true, decide_eq_true_eq, Bool.and_eq_true, beq_iff_eq]
    by_cases e : a = b
    · subst e
      have h2 : x ≠ y := fun e => h (by rw [e])
      rcases bl_total x y h2 with k | k
      · exact .inl (.inr ⟨rfl, k⟩)
      · exact .inr (.inr ⟨rfl, k⟩)
    · rcases UInt8.lt_or_lt_of_ne e with k | k
      · exact .inl (.inl k)
      · exact .inr (.inl k)
theorem bl_asymm {x y : List UInt8} (h : Op.bytesLess x y = true) : Op.bytesLess y x = false := by
  cases k : Op.bytesLess y x with
  | false => rfl
  | true => have := bl_trans _ _ _ h k; rw [bl_irrefl] at this; cases this
theorem lt_irrefl (x : ByteArray) : lt x x = false := bl_irrefl _
theorem lt_trans {x y z : ByteArray} (h : lt x y = true) (k : lt y z = true) : lt x z = true := bl_trans _ _ _ h k
theorem lt_total {x y : ByteArray} (h : x ≠ y) : lt x y = true ∨ lt y x = true := bl_total _ _ fun e => by
  have := toList_ne h
  rw [e] at this
  simp at this
theorem less_irrefl (xs : List ByteArray) : lessL xs xs = false := by
  have := lessL_nil xs []
  rwa [List.append_nil] at this
theorem less_trans : ∀ xs ys zs : List ByteArray, lessL xs ys = true → lessL ys zs = true → lessL xs zs = true
  | [], ys, [], _, h => by cases ys <;> simp [lessL] at h
  | [], _, _ :: _, _, _ => rfl
  | _ :: _, [], _, h, _ => by simp [lessL] at h
  | _ :: _, _ :: _, [], _, h => by simp [lessL] at h
  | a :: x, b :: y, c :: z, h, k => by
    simp only [lessL] at h k ⊢
    by_cases e1 : a = b
    · subst e1
      rw [if_pos rfl] at h
      by_cases e2 : a = c
      · subst e2
        rw [if_pos rfl] at k ⊢
        exact less_trans x y z h k
      · rw [if_neg e2] at k ⊢
        exact k
    · rw [if_neg e1] at h
      by_cases e2 : b = c
      · subst e2
        rw [if_neg e1]
        exact h
      · rw [if_neg e2] at k
        have hk := lt_trans h k
        by_cases e3 : a = c
        · subst e3
          rw [lt_irrefl] at hk
          cases hk
        · rw [if_neg e3]
          exact hk
theorem less_total : ∀ xs ys : List ByteArray, xs ≠ ys → lessL xs ys = true ∨ lessL ys xs = true
  | [], [], h => absurd rfl h
  | [], _ :: _, _ => .inl rfl
  | _ :: _, [], _ => .inr rfl
  | a :: x, b :: y, h => by
    simp only [lessL]
    by_cases e : a = b
    · subst e
      have h2 : x ≠ y := fun e => h (by rw [e])
      rw [if_pos rfl, if_pos rfl]
      exact less_total x y h2
    · rw [if_neg e, if_neg (Ne.symm e)]
      exact lt_total e
theorem less_asymm {xs ys : List ByteArray} (h : lessL xs ys = true) : lessL ys xs = false := by
  cases k : lessL ys xs with
  | false => rfl
  | true => have := less_trans _ _ _ h k; rw [less_irrefl] at this; cases this
/- PIECES AS LISTS OF BYTES. -/
def piecesL : List UInt8 → List (List UInt8)
  | [] => [[]]
  | c :: l => if c = 47 then [] :: piecesL l else match piecesL l with
    | [] => [[c]]
    | p :: ps => (c :: p) :: ps
def joinL : List (List UInt8) → List UInt8
  | [] => []
  | [p] => p
  | p :: q :: ps => p ++ 47 :: joinL (q :: ps)
theorem piecesL_hit (l : List UInt8) : piecesL (47 :: l) = [] :: piecesL l := by simp [piecesL]
theorem piecesL_miss {c : UInt8} (h : ¬ c = 47) {l p : List UInt8} {ps : List (List UInt8)} (hp : piecesL l = p :: ps) : piecesL (c :: l) = (c :: p) :: ps := by
  rw [piecesL, if_neg h, hp]
theorem piecesL_ne (l : List UInt8) : piecesL l ≠ [] := by
  cases l with
  | nil => simp [piecesL]
  | cons c l =>
    unfold piecesL
    by_cases h : c = 47
    · rw [if_pos h]; simp
    · rw [if_neg h]
      cases piecesL l <;> simp
theorem piecesL_app : ∀ (a b : List UInt8), piecesL (a ++ 47 :: b) = piecesL a ++ piecesL b
  | [], b => piecesL_hit b
  | c :: a, b => by
    have ih := piecesL_app a b
    show piecesL (c :: (a ++ 47 :: b)) = _
    by_cases h : c = 47
    · subst h
      rw [piecesL_hit, piecesL_hit, ih]; rfl
    · cases hp : piecesL a with
      | nil => exact absurd hp (piecesL_ne a)
      | cons p ps =>
        rw [hp] at ih
        rw [piecesL_miss h hp, piecesL_miss h ih]
        rfl
theorem piecesL_one : ∀ (a : List UInt8), (47 : UInt8) ∉ a → piecesL a = [a]
  | [], _ => rfl
  | c :: a, h => by
    have h1 : ¬ c = 47 := fun e => h (by simp [e])
    have h2 : (47 : UInt8) ∉ a := fun e => h (List.mem_cons_of_mem _ e)
    unfold piecesL
    rw [if_neg h1, piecesL_one a h2]
theorem joinL_pieces : ∀ (a : List UInt8), joinL (piecesL a) = a
  | [] => rfl
  | c :: a => by
    have ih := joinL_pieces a
    unfold piecesL
    cases hp : piecesL a with
    | nil => exact absurd hp (piecesL_ne a)
    | cons p ps =>
      rw [hp] at ih
      by_cases h : c = 47
      · rw [if_pos h]
        show [] ++ 47 :: joinL (p :: ps) = _
        rw [ih, h]; rfl
      · rw [if_neg h]
        cases ps with
        | nil => show c :: p = _; rw [show p = a from ih]
        | cons q qs =>
          show (c :: p) ++ 47 :: joinL (q :: qs) = _
          rw [← ih]; rfl
theorem ext_split (s : ByteArray) (i : Nat) (h : i < s.size) (e : s[i] = 47) : s.data.toList = (s.extract 0 i).data.toList ++ 47 :: (s.extract (i + 1) s.size).data.toList := by
  rw [Lib.extract_data, Lib.extract_data, List.drop_zero, Nat.sub_zero, List.take_of_length_le (l := s.data.toList.drop (i + 1)) (by rw [List.length_drop, ← size_eq]; exact Nat.le_refl _)]
  have hl : i < s.data.toList.length := by rw [← size_eq]; exact h
  have e2 : s.data.toList[i] = 47 := e
  have e3 : s.data.toList.drop i = 47 :: s.data.toList.drop (i + 1) := by rw [List.drop_eq_getElem_cons hl, e2]
  rw [← e3, List.take_append_drop]
theorem pieces_map (s : ByteArray) : (pieces s).map (fun b => b.data.toList) = piecesL s.data.toList := by
  by_cases h : fi s < s.size
  · have hlt := tl_lt s h
    have ih := pieces_map (tl s)
    have h1 : piecesL (hd s).data.toList = [(hd s).data.toList] := by
      apply piecesL_one
      intro hm
      unfold hd at hm
      obtain ⟨j, hj, e⟩ := List.mem_iff_getElem.1 hm
      have e2 := Lib.extract_data s 0 (fi s)
      rw [List.getElem_of_eq e2] at e
      simp at e
      rw [e2] at hj
      simp at hj
      exact fi_lt s j (by rw [size_eq] at h ⊢; omega) (by omega) e
    rw [pieces_more s h, List.map_cons, ih, ext_split s (fi s) h (fi_at s h), piecesL_app]
    show _ = piecesL (hd s).data.toList ++ piecesL (tl s).data.toList
    rw [h1]
    rfl
  · rw [pieces_last s h, piecesL_one _ (fun hm => h ((fi_mem s).2 hm))]
    rfl
termination_by s.size
theorem map_inj {xs ys : List ByteArray} (h : xs.map (fun b => b.data.toList) = ys.map (fun b => b.data.toList)) : xs = ys := by
  refine List.map_inj_right (f := fun b : ByteArray => b.data.toList) (fun a b e => ?_) |>.1 h
  exact ByteArray.ext (Array.toList_inj.1 e)
theorem pieces_inj {s t : ByteArray} (h : pieces s = pieces t) : s = t := by
  have e := pieces_map s
  rw [h, pieces_map t] at e
  have e2 := congrArg joinL e
  rw [joinL_pieces, joinL_pieces] at e2
  exact (ByteArray.ext (Array.toList_inj.1 e2)).symm
theorem pieces_parent {s : ByteArray} {i : Nat} (h : IsLast s s.size (i : Int)) : ∃ hi : i < s.size, s[i] = 47 ∧ pieces s = pieces (s.extract 0 i) ++ [s.extract (i + 1) s.size] := by
  rcases h with ⟨h, _⟩ | ⟨j, hj, _, h2, h3, h4⟩
  · omega
  · obtain rfl : i = j := by omega
    refine ⟨hj, h3, map_inj ?_⟩
    have h1 : piecesL (s.extract (i + 1) s.size).data.toList = [(s.extract (i + 1) s.size).data.toList] := by
      apply piecesL_one
      intro hm
      obtain ⟨k, hk, e⟩ := List.mem_iff_getElem.1 hm
      have e2 := Lib.extract_data s (i + 1) s.size
      rw [List.getElem_of_eq e2] at e
      rw [e2] at hk
      simp at hk
      simp at e
      have hks : i + 1 + k < s.size := by have := size_eq s; simp at this; omega
      exact h4 (i + 1 + k) hks (by omega) hks e
    rw [List.map_append, pieces_map, pieces_map, ext_split s i hj h3, piecesL_app, h1]
    rfl
theorem pieces_none {s : ByteArray} (h : IsLast s s.size (-1)) : pieces s = [s] := by
  apply pieces_last
  intro hf
  rcases h with ⟨_, h⟩ | ⟨j, _, _, h2, _⟩
  · exact h _ hf hf (fi_at s hf)
  · omega
theorem may_iff (s : ByteArray) : ((partsS s).2 == 0) = true ↔ s.size ≤ 300 ∧ ∀ x ∈ pieces s, Nm x := by
  unfold partsS
  by_cases h : s.size ≤ 300 ∧ ∀ x ∈ pieces s, Nm x
  · rw [if_pos h]; exact ⟨fun _ => h, fun _ => rfl⟩
  · rw [if_neg h]; exact ⟨fun e => (by cases e), fun k => absurd k h⟩
instance (s : ByteArray) (k : Nat) (r : Int) : Decidable (IsLast s k r) := by unfold IsLast; exact inferInstance
theorem ab_pieces : pieces ⟨#[97, 47, 98]⟩ = [⟨#[97]⟩, ⟨#[98]⟩] := map_inj (by rw [pieces_map]; decide +kernel)
theorem axb_pieces : pieces ⟨#[97, 47, 46, 46, 47, 98]⟩ = [⟨#[97]⟩, ⟨#[46, 46]⟩, ⟨#[98]⟩] := map_inj (by rw [pieces_map]; decide +kernel)
theorem dab_pieces : pieces ⟨#[97, 46, 98]⟩ = [⟨#[97, 46, 98]⟩] := map_inj (by rw [pieces_map]; decide +kernel)
theorem ab_parts : partsS ⟨#[97, 47, 98]⟩ = ([⟨#[97]⟩, ⟨#[98]⟩], 0) := by
  rw [← ab_pieces]
  refine parts_yes (by decide +kernel) ?_
  rw [ab_pieces]
  decide +kernel
theorem axb_parts : partsS ⟨#[97, 47, 46, 46, 47, 98]⟩ = ([], 8) := parts_no (x := ⟨#[46, 46]⟩) (by rw [axb_pieces]; simp) (by decide +kernel)
theorem ab_less : lessL (pieces ⟨#[97, 47, 98]⟩) (pieces ⟨#[97, 46, 98]⟩) = true := by
  rw [ab_pieces, dab_pieces]
  decide +kernel
end Pp
end Go.Proofs.YtbianfjennnofaaDoor
