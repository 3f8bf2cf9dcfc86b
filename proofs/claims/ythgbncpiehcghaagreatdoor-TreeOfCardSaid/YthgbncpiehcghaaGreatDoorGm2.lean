/- PLAIN MATHEMATICS OF LAYER 15, FOURTH PART: what a deed keeps. No Go text is named. -/
import Derived.Test.YthgbncpiehcghaaGreatDoorM15c
import Derived.Test.YthgbncpiehcghaaGreatDoorGy3
namespace Go.Proofs.YthgbncpiehcghaaGreatDoor
set_option linter.unusedVariables false
open Go.RowKit
namespace Nt
variable {T : Tr} {K : Nat}
theorem Mok.ap (hW : WF T K) (h : Mok T) (y : Dd) : Mok (ap T y).1 := by
  unfold Nt.ap
  split
  · exact h.mk' _ _
  · split
    · exact h.mk' _ _
    · split
      · exact h.mk' _ _
      · split
        · exact h.lnk _ _
        · split
          · exact h.wr hW _ _ _ _ _
          · split
            · exact h.st _ _ _ _ _
            · split
              · exact h.rm _
              · split
                · exact h.clr _
                · split
                  · exact h.rn _ _
                  · exact h
theorem Bok.ap (hW : WF T K) (h : Bok T) (y : Dd) (hx : Byt y.xs) : Bok (ap T y).1 := by
  unfold Nt.ap
  split
  · exact h.mk' _ _ Byt.nil
  · split
    · exact h.mk' _ _ hx
    · split
      · exact h.mk' _ _ Byt.nil
      · split
        · exact h.lnk _ _
        · split
          · exact h.wr _ _ _ _ _ hx
          · split
            · exact h.st hW _ _ _ _ _
            · split
              · exact h.rm _
              · split
                · exact h.clr _
                · split
                  · exact h.rn _ _
                  · exact h
end Nt
end Go.Proofs.YthgbncpiehcghaaGreatDoor
/- PLAIN MATHEMATICS OF LAYER 15, SIXTH PART: a directory that was moved has the same list; one name more. No Go text is named. -/
namespace Go.Proofs.YthgbncpiehcghaaGreatDoor
set_option linter.unusedVariables false
open Go.RowKit
namespace Nt
variable {T : Tr} {K : Nat}
theorem par_isP {p : ByteArray} (h : T.parE p = 0) : isP p = true := by
  by_cases hP : isP p = true
  · exact hP
  · unfold Tr.parE at h
    rw [if_neg hP] at h
    exact absurd h (by decide)
/-- What a directory's move does. -/
theorem moved_srt (hW : WF T K) {f t : ByteArray} (hf : (T.find f).2 = 0) (hk : (T.nd (T.find f).1).kind = 4) (hr : (T.rn f t).2 = 0) :
    isP t = true ∧ (T.rn f t).1.nodes = T.nodes ∧ srt (T.rn f t).1.paths (nms t) = srt T.paths (nms f) ∧ ((T.rn f t).1.find t) = ((T.find f).1, 0) := by
  have hW' := hW.rn' f t
  have hE : T.rnE f t = if (T.find f).1 = 0 then 1 else if T.parE t ≠ 0 then T.parE t
      else match at_ T.paths (Pp.pieces t) with
        | some k => if k = (T.find f).1 then -1 else 7
        | none => if Pp.pieces f <+: Pp.pieces t then 1 else 0 := by
    unfold Tr.rnE
    rw [if_neg (by simp [hf])]
    simp only [hk, if_true]
    cases at_ T.paths (Pp.pieces t) <;> rfl
  have hr0 : T.rnE f t = 0 ∨ T.rnE f t = -1 := by
    unfold Tr.rn at hr
    by_cases h1 : T.rnE f t = 0
    · exact .inl h1
    · rw [if_neg h1] at hr
      by_cases h2 : T.rnE f t = -1
      · exact .inr h2
      · rw [if_neg h2] at hr
        exact absurd hr h1
  have hn0 : (T.find f).1 ≠ 0 := fun e => by rw [if_pos e] at hE; omega
  rw [if_neg hn0] at hE
  obtain ⟨hp, hj⟩ := hW.find_ok hf
  have hf0 : f.size ≠ 0 := fun e => hn0 ((hW.find_root hf).2 e)
  have hpf : isP f = true := hp.resolve_left hf0
  have hpt : T.parE t = 0 := by
    by_cases h1 : T.parE t = 0
    · exact h1
    · rw [if_pos h1] at hE
      have h2 : 0 ≤ T.parE t := by
        unfold Tr.parE
        split
        · simp only
          split
          · have h3 : ∀ (r pre : Path) (n : Nat), 0 ≤ (T.fnd pre n r).2 := by
              intro r
              induction r with
              | nil => intro _ _; exact Int.le_refl _
              | cons x r ih =>
                intro pre n
                unfold Tr.fnd
                split
                · decide
                · split
                  · decide
                  · exact ih _ _
            exact h3 _ _ _
          · split <;> decide
        · decide
      omega
  rw [if_neg (by simp [hpt])] at hE
  have htP := par_isP hpt
  refine ⟨htP, ?_⟩
  rw [nms_isP hpf] at hj ⊢
  rw [nms_isP htP]
  cases hat : at_ T.paths (Pp.pieces t) with
  | some k =>
    rw [hat] at hE
    simp only at hE
    by_cases hkm : k = (T.find f).1
    · rw [if_pos hkm] at hE
      subst hkm
      have hpe : Pp.pieces t = Pp.pieces f := hW.one _ _ _ (at_mem hat) hj (by omega)
      have hte : t = f := by
        have := congrArg txt hpe
        rwa [txt_pieces, txt_pieces] at this
      have hrn : T.rn f t = (T, 0) := by unfold Tr.rn; rw [if_neg (by omega), if_pos hE]
      rw [hrn, hpe]
      refine ⟨rfl, rfl, ?_⟩
      rw [hte]
      exact Prod.ext rfl hf
    · rw [if_neg hkm] at hE
      omega
  | none =>
    rw [hat] at hE
    simp only at hE
    have hft : ¬ Pp.pieces f <+: Pp.pieces t := fun e => by rw [if_pos e] at hE; omega
    rw [if_neg hft] at hE
    have hrn : T.rn f t = (T.rn1 (Pp.pieces f) (Pp.pieces t), 0) := by unfold Tr.rn; rw [if_pos hE]
    have hno : ∀ r n, (Pp.pieces t ++ r, n) ∉ T.paths := fun r n h => by
      by_cases hr0 : r = []
      · subst hr0
        rw [List.append_nil] at h
        exact at_none hat n h
      · obtain ⟨m, hm, _⟩ := hW.pre _ _ _ hr0 h
        exact at_none hat m hm
    have hs := srt_moved hW hno hft
    rw [hrn] at hW' ⊢
    refine ⟨rfl, hs, ?_⟩
    rw [hW'.find_some]
    refine ⟨.inr htP, ?_⟩
    rw [nms_isP htP]
    show (Pp.pieces t, (T.find f).1) ∈ (cut T.paths (Pp.pieces t)).map (mv (Pp.pieces f) (Pp.pieces t))
    refine List.mem_map.2 ⟨(Pp.pieces f, (T.find f).1), ?_, ?_⟩
    · unfold cut
      refine List.mem_filter.2 ⟨hj, ?_⟩
      rw [decide_eq_true_iff]
      rintro ⟨r, hr⟩
      exact hno r _ (by rw [hr]; exact hj)
    · unfold mv
      rw [if_pos (List.prefix_refl _)]
      simp
theorem mms_nodes {U : Tr} (h : U.nodes = T.nodes) (S : Ps) : mms U S = mms T S := by
  have hn : ∀ n, U.nd n = T.nd n := fun n => by unfold Tr.nd; rw [h]
  unfold mms
  congr 1
  funext i y
  unfold mm
  rw [hn]
theorem of_lis {p : ByteArray} (h : ofE T p = 0) : lisE T p = 0 := by
  by_cases h0 : lisE T p = 0
  · exact h0
  · unfold ofE at h
    rw [if_pos h0] at h
    exact absurd h h0
theorem lis_ok {p : ByteArray} (h : lisE T p = 0) : (T.find p).2 = 0 ∧ (T.nd (T.find p).1).kind = 4 := by
  unfold lisE at h
  by_cases h0 : (T.find p).2 = 0
  · rw [if_neg (by simp [h0])] at h
    refine ⟨h0, ?_⟩
    by_cases hk : (T.nd (T.find p).1).kind = 4
    · exact hk
    · rw [if_pos hk] at h
      exact absurd h (by decide)
  · rw [if_pos h0] at h
    exact absurd h h0
/-- A directory that was moved has the same list, if none of its paths is too long. -/
theorem moved_list (hW : WF T K) {f t : ByteArray} (hf : ofE T f = 0) (hr : (T.rn f t).2 = 0) (ht : ofE (T.rn f t).1 t = 0) : ofL (T.rn f t).1 t = ofL T f := by
  have h1 := lis_ok (of_lis hf)
  obtain ⟨_, hn, hs, _⟩ := moved_srt hW h1.1 h1.2 hr
  unfold ofL
  rw [if_pos hf, if_pos ht, hs, mms_nodes hn]
/-- One name more under it: one member more. -/
theorem more_len (U : Tr) {t p : ByteArray} {q : Path} (x : Nd) (hq : q ≠ []) (hp : Pp.pieces p = nms t ++ q) : (srt (U.mk1 p x).paths (nms t)).length = (srt U.paths (nms t)).length + 1 := by
  show (srt (U.paths ++ [(Pp.pieces p, U.nodes.length)]) (nms t)).length = _
  rw [hp]
  exact srt_len_snoc q _ hq
end Nt
end Go.Proofs.YthgbncpiehcghaaGreatDoor
