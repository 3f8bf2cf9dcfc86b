/- PLAIN MATHEMATICS OF LAYER 4, SECOND PART: the order of paths is one; a path's pieces, parent and base. No Go text is named. -/
import Derived.Test.YtihaeggeeeihnaaDoorN4
namespace Go.Proofs.YtihaeggeeeihnaaDoor
set_option linter.unusedVariables false
open Go.RowKit
namespace Pp
theorem bl_irrefl : ∀ x : List UInt8, Op.bytesLess x x = false
  | [] => rfl
  | a :: x => by simp [Op.bytesLess, bl_irrefl x]
theorem bl_trans : ∀ x y z : List UInt8, Op.bytesLess x y = true → Op.bytesLess y z = true → Op.bytesLess x z = true
  | [], y, [], _, h => by cases y <;> simp [Op.bytesLess] at h
  | [], _, _ :: _, _, _ => rfl
  | _ :: _, [], _, h, _ => by simp [Op.bytesLess] at h
  | _ :: _, _ :: _, [], _, h => by simp [Op.bytesLess] at h
  | a :: x, b :: y, c :: z, h, k => by
    simp only [Op.bytesLess, Bool.or_eq_true, decide_eq_true_eq, Bool.and_eq_true, beq_iff_eq] at h k ⊢
    rcases h with h | ⟨rfl, h⟩
    · rcases k with k | ⟨rfl, _⟩
      · exact .inl (UInt8.lt_trans h k)
      · exact .inl h
    · rcases k with k | ⟨rfl, k⟩
      · exact .inl k
      · exact .inr ⟨rfl, bl_trans x y z h k⟩
theorem bl_total : ∀ x y : List UInt8, x ≠ y → Op.bytesLess x y = true ∨ Op.bytesLess y x = true
  | [], [], h => absurd rfl h
  | [], _ :: _, _ => .inl rfl
  | _ :: _, [], _ => .inr rfl
  | a :: x, b :: y, h => by
    simp only [Op.bytesLess, Bool.or_eq_true, decide_eq_true_eq, Bool.and_eq_true, beq_iff_eq]
    by_cases e : a = b
    · subst e
      have h2 : x ≠ y := fun e => h (by rw [e])
      rcases bl_total x y h2 with k | k
      · exact .inl (.inr ⟨rfl, k⟩)
      · exact .inr (.inr ⟨rfl, k⟩)
    · rcases UInt8.lt_or_lt_of_ne e with k | k
      · exact .inl (.inl k)
      · exact .inr (.inl k)
theorem bl_asymm {x y : List UInt8} (h : Op.bytesLess x y = true) : Op.bytesLess y x = false := by
  cases k : Op.bytesLess y x with
  | false => rfl
  | true => have := bl_trans _ _ _ h k; rw [bl_irrefl] at this; cases this
theorem lt_irrefl (x : ByteArray) : lt x x = false := bl_irrefl _
theorem lt_trans {x y z : ByteArray} (h : lt x y = true) (k : lt y z = true) : lt x z = true := bl_trans _ _ _ h k
theorem lt_total {x y : ByteArray} (h : x ≠ y) : lt x y = true ∨ lt y x = true := bl_total _ _ fun e => by
  have := toList_ne h
  rw [e] at this
  simp at this
theorem less_irrefl (xs : List ByteArray) : lessL xs xs = false := by
  have := lessL_nil xs []
  rwa [List.append_nil] at this
theorem less_trans : ∀ xs ys zs : List ByteArray, lessL xs ys = true → lessL ys zs = true → lessL xs zs = true
  | [], ys, [], _, h => by cases ys <;> simp [lessL] at h
  | [], _, _ :: _, _, _ => rfl
  | _ :: _, [], _, h, _ => by simp [lessL] at h
  | _ :: _, _ :: _, [], _, h => by simp [lessL] at h
  | a :: x, b :: y, c :: z, h, k => by
    simp only [lessL] at h k ⊢
    by_cases e1 : a = b
    · subst e1
      rw [if_pos rfl] at h
      by_cases e2 : a = c
      · subst e2
        rw [if_pos rfl] at k ⊢
        exact less_trans x y z h k
      · rw [if_neg e2] at k ⊢
        exact k
    · rw [if_neg e1] at h
      by_cases e2 : b = c
      · subst e2
        rw [if_neg e1]
        exact h
      · rw [if_neg e2] at k
        have hk := lt_trans h k
        by_cases e3 : a = c
        · subst e3
          rw [lt_irrefl] at hk
          cases hk
        · rw [if_neg e3]
          exact hk
theorem less_total : ∀ xs ys : List ByteArray, xs ≠ ys → lessL xs ys = true ∨ lessL ys xs = true
  | [], [], h => absurd rfl h
  | [], _ :: _, _ => .inl rfl
  | _ :: _, [], _ => .inr rfl
  | a :: x, b :: y, h => by
    simp only [lessL]
    by_cases e : a = b
    · subst e
      have h2 : x ≠ y := fun e => h (by rw [e])
      rw [if_pos rfl, if_pos rfl]
      exact less_total x y h2
    · rw [if_neg e, if_neg (Ne.symm e)]
      exact lt_total e
theorem less_asymm {xs ys : List ByteArray} (h : lessL xs ys = true) : lessL ys xs = false := by
  cases k : lessL ys xs with
  | false => rfl
  | true => have := less_trans _ _ _ h k; rw [less_irrefl] at this; cases this
/- PIECES AS LISTS OF BYTES. -/
def piecesL : List UInt8 → List (List UInt8)
  | [] => [[]]
  | c :: l => if c = 47 then [] :: piecesL l else match piecesL l with
    | [] => [[c]]
    | p :: ps => (c :: p) :: ps
def joinL : List (List UInt8) → List UInt8
  | [] => []
  | [p] => p
  | p :: q :: ps => p ++ 47 :: joinL (q :: ps)
theorem piecesL_hit (l : List UInt8) : piecesL (47 :: l) = [] :: piecesL l := by simp [piecesL]
theorem piecesL_miss {c : UInt8} (h : ¬ c = 47) {l p : List UInt8} {ps : List (List UInt8)} (hp : piecesL l = p :: ps) : piecesL (c :: l) = (c :: p) :: ps := by
  rw [piecesL, if_neg h, hp]
theorem piecesL_ne (l : List UInt8) : piecesL l ≠ [] := by
  cases l with
  | nil => simp [piecesL]
  | cons c l =>
    unfold piecesL
    by_cases h : c = 47
    · rw [if_pos h]; simp
    · rw [if_neg h]
      cases piecesL l <;> simp
theorem piecesL_app : ∀ (a b : List UInt8), piecesL (a ++ 47 :: b) = piecesL a ++ piecesL b
  | [], b => piecesL_hit b
  | c :: a, b => by
    have ih := piecesL_app a b
    show piecesL (c :: (a ++ 47 :: b)) = _
    by_cases h : c = 47
    · subst h
      rw [piecesL_hit, piecesL_hit, ih]; rfl
    · cases hp : piecesL a with
      | nil => exact absurd hp (piecesL_ne a)
      | cons p ps =>
        rw [hp] at ih
        rw [piecesL_miss h hp, piecesL_miss h ih]
        rfl
theorem piecesL_one : ∀ (a : List UInt8), (47 : UInt8) ∉ a → piecesL a = [a]
  | [], _ => rfl
  | c :: a, h => by
    have h1 : ¬ c = 47 := fun e => h (by simp [e])
    have h2 : (47 : UInt8) ∉ a := fun e => h (List.mem_cons_of_mem _ e)
    unfold piecesL
    rw [if_neg h1, piecesL_one a h2]
theorem joinL_pieces : ∀ (a : List UInt8), joinL (piecesL a) = a
  | [] => rfl
  | c :: a => by
    have ih := joinL_pieces a
    unfold piecesL
    cases hp : piecesL a with
    | nil => exact absurd hp (piecesL_ne a)
    | cons p ps =>
      rw [hp] at ih
      by_cases h : c = 47
      · rw [if_pos h]
        show [] ++ 47 :: joinL (p :: ps) = _
        rw [ih, h]; rfl
      · rw [if_neg h]
        cases ps with
        | nil => show c :: p = _; rw [show p = a from ih]
        | cons q qs =>
          show (c :: p) ++ 47 :: joinL (q :: qs) = _
          rw [← ih]; rfl
theorem ext_split (s : ByteArray) (i : Nat) (h : i < s.size) (e : s[i] = 47) : s.data.toList = (s.extract 0 i).data.toList ++ 47 :: (s.extract (i + 1) s.size).data.toList := by
  rw [Lib.extract_data, Lib.extract_data, List.drop_zero, Nat.sub_zero, List.take_of_length_le (l := s.data.toList.drop (i + 1)) (by rw [List.length_drop, ← size_eq]; exact Nat.le_refl _)]
  have hl : i < s.data.toList.length := by rw [← size_eq]; exact h
  have e2 : s.data.toList[i] = 47 := e
  have e3 : s.data.toList.drop i = 47 :: s.data.toList.drop (i + 1) := by rw [List.drop_eq_getElem_cons hl, e2]
  rw [← e3, List.take_append_drop]
theorem pieces_map (s : ByteArray) : (pieces s).map (fun b => b.data.toList) = piecesL s.data.toList := by
  by_cases h : fi s < s.size
  · have hlt := tl_lt s h
    have ih := pieces_map (tl s)
    have h1 : piecesL (hd s).data.toList = [(hd s).data.toList] := by
      apply piecesL_one
      intro hm
      unfold hd at hm
      obtain ⟨j, hj, e⟩ := List.mem_iff_getElem.1 hm
      have e2 := Lib.extract_data s 0 (fi s)
      rw [List.getElem_of_eq e2] at e
      simp at e
      rw [e2] at hj
      simp at hj
      exact fi_lt s j (by rw [size_eq] at h ⊢; omega) (by omega) e
    rw [pieces_more s h, List.map_cons, ih, ext_split s (fi s) h (fi_at s h), piecesL_app]
    show _ = piecesL (hd s).data.toList ++ piecesL (tl s).data.toList
    rw [h1]
    rfl
  · rw [pieces_last s h, piecesL_one _ (fun hm => h ((fi_mem s).2 hm))]
    rfl
termination_by s.size
theorem map_inj {xs ys : List ByteArray} (h : xs.map (fun b => b.data.toList) = ys.map (fun b => b.data.toList)) : xs = ys := by
  refine List.map_inj_right (f := fun b : ByteArray => b.data.toList) (fun a b e => ?_) |>.1 h
  exact ByteArray.ext (Array.toList_inj.1 e)
theorem pieces_inj {s t : ByteArray} (h : pieces s = pieces t) : s = t := by
  have e := pieces_map s
  rw [h, pieces_map t] at e
  have e2 := congrArg joinL e
  rw [joinL_pieces, joinL_pieces] at e2
  exact (ByteArray.ext (Array.toList_inj.1 e2)).symm
theorem pieces_parent {s : ByteArray} {i : Nat} (h : IsLast s s.size (i : Int)) : ∃ hi : i < s.size, s[i] = 47 ∧ pieces s = pieces (s.extract 0 i) ++ [s.extract (i + 1) s.size] := by
  rcases h with ⟨h, _⟩ | ⟨j, hj, _, h2, h3, h4⟩
  · omega
  · obtain rfl : i = j := by omega
    refine ⟨hj, h3, map_inj ?_⟩
    have h1 : piecesL (s.extract (i + 1) s.size).data.toList = [(s.extract (i + 1) s.size).data.toList] := by
      apply piecesL_one
      intro hm
      obtain ⟨k, hk, e⟩ := List.mem_iff_getElem.1 hm
      have e2 := Lib.extract_data s (i + 1) s.size
      rw [List.getElem_of_eq e2] at e
      rw [e2] at hk
      simp at hk
      simp at e
      have hks : i + 1 + k < s.size := by have := size_eq s; simp at this; omega
      exact h4 (i + 1 + k) hks (by omega) hks e
    rw [List.map_append, pieces_map, pieces_map, ext_split s i hj h3, piecesL_app, h1]
    rfl
theorem pieces_none {s : ByteArray} (h : IsLast s s.size (-1)) : pieces s = [s] := by
  apply pieces_last
  intro hf
  rcases h with ⟨_, h⟩ | ⟨j, _, _, h2, _⟩
  · exact h _ hf hf (fi_at s hf)
  · omega
theorem may_iff (s : ByteArray) : ((partsS s).2 == 0) = true ↔ s.size ≤ 300 ∧ ∀ x ∈ pieces s, Nm x := by
  unfold partsS
  by_cases h : s.size ≤ 300 ∧ ∀ x ∈ pieces s, Nm x
  · rw [if_pos h]; exact ⟨fun _ => h, fun _ => rfl⟩
  · rw [if_neg h]; exact ⟨fun e => (by cases e), fun k => absurd k h⟩
instance (s : ByteArray) (k : Nat) (r : Int) : Decidable (IsLast s k r) := by unfold IsLast; exact inferInstance
theorem ab_pieces : pieces ⟨#[97, 47, 98]⟩ = [⟨#[97]⟩, ⟨#[98]⟩] := map_inj (by rw [pieces_map]; decide +kernel)
theorem axb_pieces : pieces ⟨#[97, 47, 46, 46, 47, 98]⟩ = [⟨#[97]⟩, ⟨#[46, 46]⟩, ⟨#[98]⟩] := map_inj (by rw [pieces_map]; decide +kernel)
theorem dab_pieces : pieces ⟨#[97, 46, 98]⟩ = [⟨#[97, 46, 98]⟩] := map_inj (by rw [pieces_map]; decide +kernel)
theorem ab_parts : partsS ⟨#[97, 47, 98]⟩ = ([⟨#[97]⟩, ⟨#[98]⟩], 0) := by
  rw [← ab_pieces]
  refine parts_yes (by decide +kernel) ?_
  rw [ab_pieces]
  decide +kernel
theorem axb_parts : partsS ⟨#[97, 47, 46, 46, 47, 98]⟩ = ([], 8) := parts_no (x := ⟨#[46, 46]⟩) (by rw [axb_pieces]; simp) (by decide +kernel)
theorem ab_less : lessL (pieces ⟨#[97, 47, 98]⟩) (pieces ⟨#[97, 46, 98]⟩) = true := by
  rw [ab_pieces, dab_pieces]
  decide +kernel
end Pp
end Go.Proofs.YtihaeggeeeihnaaDoor
