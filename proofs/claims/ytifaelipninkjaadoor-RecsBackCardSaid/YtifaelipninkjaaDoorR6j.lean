/- WALKS OF LAYER 6, TENTH PART: Cut and CutSuffix at a record's signs; recs.first. -/
import Derived.Test.YtifaelipninkjaaDoorR6i
namespace Go.Proofs.YtifaelipninkjaaDoor
open Go Go.RowKit
set_option linter.unusedVariables false
set_option maxHeartbeats 1000000
theorem ix_find (l : Rc.Bs) (c : UInt8) : Lib.indexByte l c = if l.findIdx (· == c) < l.length then (l.findIdx (· == c) : Int) else -1 := by
  by_cases h : l.findIdx (· == c) < l.length
  · rw [if_pos h]
    have hat : l[l.findIdx (· == c)] = c := by
      have := List.findIdx_getElem (p := (· == c)) (xs := l) (w := h)
      simpa using this
    have hbe : ∀ k, k < l.findIdx (· == c) → l[k]? ≠ some c := fun k hk he => by
      have hkl : k < l.length := by omega
      have := List.not_of_lt_findIdx hk
      rw [List.getElem?_eq_getElem hkl] at he
      have he2 := Option.some.inj he
      rw [he2] at this
      simp at this
    have hge := Lib.indexByte_ge l c
    by_cases hn : Lib.indexByte l c = -1
    · have := Lib.indexByte_none hn (l.findIdx (· == c))
      rw [List.getElem?_eq_getElem h, hat] at this
      exact absurd rfl this
    · obtain ⟨o, ho⟩ : ∃ o : Nat, Lib.indexByte l c = o := ⟨(Lib.indexByte l c).toNat, by omega⟩
      obtain ⟨h1, h2⟩ := Lib.indexByte_some ho
      rw [ho]
      have : o = l.findIdx (· == c) := by
        apply Nat.le_antisymm
        · apply Nat.le_of_not_lt
          intro hlt
          have := h2 _ hlt
          rw [List.getElem?_eq_getElem h, hat] at this
          exact this rfl
        · apply Nat.le_of_not_lt
          intro hlt
          exact hbe o hlt h1
      omega
  · rw [if_neg h]
    apply index_none
    intro x hx e
    subst e
    apply h
    rw [List.findIdx_lt_length]
    exact ⟨x, hx, by simp⟩
def cutV6 (s : ByteArray) : Value := match Rc.cutS s.data.toList with
  | some r => .tuple #[.string r.1, .string r.2, .bool true]
  | none => .tuple #[.string s, .string ⟨#[]⟩, .bool false]
theorem cutV6_hit {s : ByteArray} {i : Nat} (hi : s.data.toList.findIdx (· == 61) = i) (h : i < s.size) : cutV6 s = .tuple #[.string (s.extract 0 i), .string (s.extract (i + 1) s.size), .bool true] := by
  unfold cutV6 Rc.cutS
  rw [hi, if_pos (show i < s.data.toList.length from h)]
  have e1 : Rc.S (s.data.toList.take i) = s.extract 0 i := by
    apply ByteArray.ext; apply Array.toList_inj.1
    rw [Lib.extract_data]; simp [Rc.S]
  have e2 : Rc.S (s.data.toList.drop (i + 1)) = s.extract (i + 1) s.size := by
    apply ByteArray.ext; apply Array.toList_inj.1
    rw [Lib.extract_data]
    have e : (s.data.toList.drop (i + 1)).take (s.size - (i + 1)) = s.data.toList.drop (i + 1) := List.take_of_length_le (by rw [List.length_drop]; exact Nat.le_refl _)
    rw [e]; rfl
  simp only [e1, e2]
theorem cutV6_miss {s : ByteArray} (h : ¬ s.data.toList.findIdx (· == 61) < s.size) : cutV6 s = .tuple #[.string s, .string ⟨#[]⟩, .bool false] := by
  unfold cutV6 Rc.cutS
  rw [if_neg (show ¬ s.data.toList.findIdx (· == 61) < s.data.toList.length from h)]
theorem litecut6_any (s : ByteArray) (w : World) (hs : s.size ≤ 1000000) :
    Calls Tryd.prog 38 #[.string s, .string ⟨#[61]⟩] w fun e w' => e = .returned (cutV6 s) ∧ ∃ n, w' = w.drewN n := by
  have k : Calls Tryd.prog 49 #[.string s, .string ⟨#[61]⟩] w fun e w' => e = .returned (.int .i64 (Lib.indexByte s.data.toList 61)) ∧ w' = w := Tryd.stringslite_Index_one s 61 w
  rw [ix_find] at k
  by_cases h : s.data.toList.findIdx (· == 61) < s.size
  · rw [if_pos (show _ < s.data.toList.length from h)] at k
    have hv := cutV6_hit rfl h
    generalize s.data.toList.findIdx (· == 61) = r at *
    generalize cutV6 s = v at *
    have k := Lib.hid k; have hv := Lib.hid hv
    have s1 : IntKind.i64.wrap ((r : Int) + 1) = (r : Int) + 1 := IntWalk.i64_in _ (by omega)
    have s2 : ((r : Int) + 1).toNat = r + 1 := by omega
    have s3 : (0 : Int) ≤ (r : Int) + 1 := by omega
    have s4 : r + 1 ≤ s.size := by omega
    go_enter Tryd.func38, Tryd.ntmps38
    go_wp2_with (go_at_call 49; refine k.out.mono ?_; rintro e w' ⟨rfl, rfl⟩)
    go_quiet (fail)
    go_wp2
    go_ret3
    exact ⟨by rw [hv.out]; rfl, _, rfl⟩
  · rw [if_neg (show ¬ _ < s.data.toList.length from h)] at k
    have hv := Lib.hid (cutV6_miss h)
    generalize cutV6 s = v at *
    have k := Lib.hid k
    go_enter Tryd.func38, Tryd.ntmps38
    go_wp2_with (go_at_call 49; refine k.out.mono ?_; rintro e w' ⟨rfl, rfl⟩)
    go_ret3
    exact ⟨by rw [hv.out]; rfl, 0, rfl⟩
theorem cut6_any (s : ByteArray) (w : World) (hs : s.size ≤ 1000000) :
    Calls Tryd.prog 32 #[.string s, .string ⟨#[61]⟩] w fun e w' => e = .returned (cutV6 s) ∧ ∃ n, w' = w.drewN n := by
  have k := litecut6_any s w hs
  obtain ⟨x, y, z, hx⟩ : ∃ x y z, cutV6 s = .tuple #[.string x, .string y, .bool z] := by
    unfold cutV6
    split
    · exact ⟨_, _, _, rfl⟩
    · exact ⟨_, _, _, rfl⟩
  rw [hx] at k ⊢
  have K := Lib.hid k; clear k hx
  go_enter Tryd.func32, Tryd.ntmps32
  go_wp2_with (go_at_call 38; (with_reducible refine K.out.mono ?_); rintro e w' ⟨rfl, n, rfl⟩)
  go_ret3
  exact ⟨rfl, _, rfl⟩
theorem cut6_below (s : ByteArray) (w : World) (hs : s.size ≤ 1000000) :
    Calls Tryd.prog 32 #[.string s, .string ⟨#[61]⟩] w fun e w' => e = .returned (cutV6 s) ∧ Below w.heap.size w w' :=
  (cut6_any s w hs).mono fun _ _ ⟨h, n, hn⟩ => ⟨h, by rw [hn]; exact below_drewN (Below.refl _ _) n⟩
theorem suf_snoc (m : Rc.Bs) (x : UInt8) : Lib.hasSuffix (m ++ [x]) [10] = (x == 10) ∧ Lib.trimSuffix (m ++ [x]) [10] = if x = 10 then m else m ++ [x] := by
  have h : Lib.hasSuffix (m ++ [x]) [10] = (x == 10) := by
    unfold Lib.hasSuffix
    by_cases hx : x = 10
    · subst hx
      rw [beq_self_eq_true, List.isSuffixOf_iff_suffix]
      exact ⟨m, rfl⟩
    · rw [beq_eq_false_iff_ne.2 hx, Bool.eq_false_iff, Ne, List.isSuffixOf_iff_suffix]
      rintro ⟨t, ht⟩
      have := congrArg List.getLast? ht
      simp at this
      exact hx this.symm
  refine ⟨h, ?_⟩
  unfold Lib.trimSuffix
  rw [h]
  by_cases hx : x = 10
  · subst hx; simp
  · rw [if_neg hx, if_neg (by simpa using hx)]
theorem suffix6_any (m : Rc.Bs) (x : UInt8) (w : World) (hm : m.length ≤ 1000000) :
    Calls Tryd.prog 31 #[.string (Rc.S (m ++ [x])), .string ⟨#[10]⟩] w fun e w' => e = .returned (.tuple #[.string (Rc.S (if x = 10 then m else m ++ [x])), .bool (x == 10)]) ∧ w = w' := by
  have := Tryd.strings_CutSuffix (Rc.S (m ++ [x])) ⟨#[10]⟩ w (by rw [Rc.size_S, List.length_append]; simp; omega)
  rw [Rc.data_S, show (⟨#[10]⟩ : ByteArray).data.toList = [10] from rfl, (suf_snoc m x).1, (suf_snoc m x).2] at this
  exact this.mono fun e w' h => ⟨h.1, h.2.symm⟩
end Go.Proofs.YtifaelipninkjaaDoor
