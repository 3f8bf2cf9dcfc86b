/- PLAIN MATHEMATICS OF LAYER 13, FIFTH PART: what lies under a path, as texts; what a renaming asks. No Go text is named. -/
import Derived.Test.YtbianfjennnofaaDoorGm13
import Derived.Test.YtbianfjennnofaaDoorY4b
namespace Go.Proofs.YtbianfjennnofaaDoor
set_option linter.unusedVariables false
open Go.RowKit
namespace Nt
variable {T : Tr} {K : Nat}
theorem pre_split {t s : ByteArray} (h : Pp.Pre (t ++ ⟨#[47]⟩) s) : s.data.toList = t.data.toList ++ 47 :: (s.extract (t.size + 1) s.size).data.toList := by
  obtain ⟨h1, h2⟩ := h
  have e1 : (t ++ ⟨#[47]⟩ : ByteArray).size = t.size + 1 := by simp [one_slash]
  rw [e1] at h1 h2
  have e2 := congrArg (fun b : ByteArray => b.data.toList) h2
  simp only [Lib.extract_data, data_app] at e2
  rw [Lib.extract_data, List.take_of_length_le (l := s.data.toList.drop (t.size + 1)) (by rw [List.length_drop, ← Pp.size_eq]; exact Nat.le_refl _)]
  rw [List.drop_zero, Nat.sub_zero] at e2
  conv => lhs; rw [← List.take_append_drop (t.size + 1) s.data.toList, e2]
  simp
theorem rest_some {s t : ByteArray} (ht : t.size ≠ 0) (h : (restV s t).2 = true) : (restV s t).1 = s.extract (t.size + 1) s.size ∧ Pp.pieces s = Pp.pieces t ++ Pp.pieces (restV s t).1 := by
  unfold restV at h ⊢
  rw [if_neg ht] at h ⊢
  by_cases hp : Pp.Pre (t ++ ⟨#[47]⟩) s
  · rw [if_pos hp]
    refine ⟨rfl, Pp.map_inj ?_⟩
    rw [List.map_append, Pp.pieces_map, Pp.pieces_map, Pp.pieces_map, pre_split hp, Pp.piecesL_app]
  · rw [if_neg hp] at h
    cases h
theorem rest_none {s t : ByteArray} (ht : t.size ≠ 0) {v : Path} (hv : v ≠ []) (h : Pp.pieces s = Pp.pieces t ++ v) : (restV s t).2 = true := by
  unfold restV
  rw [if_neg ht, if_pos]
  have e : s = t ++ ⟨#[47]⟩ ++ txt v := by
    have := congrArg txt h
    rwa [txt_pieces, txt_app _ _ (Pp.pieces_ne t) hv, txt_pieces] at this
  refine ⟨by rw [e]; simp, ?_⟩
  apply ByteArray.ext
  apply Array.toList_inj.1
  rw [Lib.extract_data, e, data_app, List.drop_zero, Nat.sub_zero, Pp.size_eq, List.take_left']
  rfl
/-- What lies under a path. -/
theorem rest_iff {s t : ByteArray} (ht : t.size ≠ 0) : (restV s t).2 = true ↔ ∃ v, v ≠ [] ∧ Pp.pieces s = Pp.pieces t ++ v := by
  constructor
  · intro h
    exact ⟨_, Pp.pieces_ne _, (rest_some ht h).2⟩
  · rintro ⟨v, h1, h2⟩
    exact rest_none ht h1 h2
theorem Mv.ok (hW : WF T K) {f t q : Path} {x : ByteArray} {n m : Nat} (hn : (f, n) ∈ T.paths) (hf : f ≠ []) (e : t = q ++ [x]) (hx : Pp.Nm x) (hm : (q, m) ∈ T.paths) (hk : (T.nd m).kind = 4)
    (hat : ∀ k, at_ T.paths t = some k → k ≠ n ∧ (T.nd n).kind ≠ 4 ∧ (T.nd k).kind ≠ 4) (hft : (T.nd n).kind = 4 → ¬ f <+: t) : Mv T f t n := by
  have hleaf : ∀ r k, (r, k) ∈ T.paths → t <+: r → r = t ∧ k ≠ n ∧ (T.nd k).kind ≠ 4 := by
    rintro r k hr ⟨u, rfl⟩
    by_cases hu : u = []
    · subst hu
      rw [List.append_nil] at hr ⊢
      have := hat k (hW.atI.2 hr)
      exact ⟨rfl, this.1, this.2.2⟩
    · obtain ⟨j, h1, h2⟩ := hW.pre u t k hu hr
      exact absurd h2 (hat j (hW.atI.2 h1)).2.2
  have hft' : ¬ f <+: t := by
    by_cases hkn : (T.nd n).kind = 4
    · exact hft hkn
    · rintro h
      rw [e] at h
      rcases List.prefix_concat_iff.1 h with h1 | ⟨u, hu⟩
      · exact (hat n (by rw [e, ← h1]; exact hW.atI.2 hn)).1 rfl
      · by_cases hu0 : u = []
        · subst hu0
          rw [List.append_nil] at hu
          subst hu
          rw [nodup_one hW.nodup hn hm] at hkn
          exact hkn hk
        · rw [← hu] at hm
          obtain ⟨j, h1, h2⟩ := hW.pre u f m hu0 hm
          rw [nodup_one hW.nodup hn h1] at hkn
          exact hkn h2
  refine ⟨hn, hf, by rw [e]; simp, ⟨q, x, m, e, hx, hm, hk, fun h => hft' (h.trans (by rw [e]; exact List.prefix_append _ _))⟩, hft', fun h => (hleaf f n hn h).2.1 rfl, hleaf⟩
end Nt
end Go.Proofs.YtbianfjennnofaaDoor
