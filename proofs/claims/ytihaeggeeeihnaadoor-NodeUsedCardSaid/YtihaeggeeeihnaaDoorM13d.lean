/- PLAIN MATHEMATICS OF LAYER 13, FOURTH PART: what is left while paths are counted away. No Go text is named. -/
import Derived.Test.YtihaeggeeeihnaaDoorM13c
namespace Go.Proofs.YtihaeggeeeihnaaDoor
set_option linter.unusedVariables false
open Go.RowKit
namespace Nt
variable {T : Tr} {K : Nat}
/-- What is left: all that does not lie under P0, and what lies under a path of S. -/
def rem (R : Ps) (P0 : Path) (S : List Path) : Ps := R.filter (fun x => decide (¬ P0 <+: x.1) || S.any (fun s => decide (s <+: x.1)))
/-- None lies under another one. -/
def AC (S : List Path) : Prop := S.Pairwise (fun a b => ¬ a <+: b ∧ ¬ b <+: a)
theorem mem_rem {R : Ps} {P0 : Path} {S : List Path} {x : Path × Nat} : x ∈ rem R P0 S ↔ x ∈ R ∧ (¬ P0 <+: x.1 ∨ ∃ s ∈ S, s <+: x.1) := by
  unfold rem
  rw [List.mem_filter, Bool.or_eq_true, decide_eq_true_eq, List.any_eq_true]
  simp only [decide_eq_true_eq]
theorem rem_start (R : Ps) (P0 : Path) : rem R P0 [P0] = R := by
  unfold rem
  refine List.filter_eq_self.2 fun x _ => ?_
  simp only [List.any_cons, List.any_nil, Bool.or_false]
  by_cases h : P0 <+: x.1 <;> simp [h]
theorem rem_end (R : Ps) (P0 : Path) : rem R P0 [] = cut R P0 := by
  unfold rem cut
  congr 1
  funext x
  simp
theorem rem_nodup {R : Ps} (h : (R.map (·.1)).Nodup) (P0 : Path) (S : List Path) : ((rem R P0 S).map (·.1)).Nodup := nodup_filter _ h
theorem rem_pop (hW : WF T K) {P0 q : Path} {S1 : List Path} {n : Nat} (hq : (q, n) ∈ T.paths) (hu : P0 <+: q) (hA : AC (S1 ++ [q])) {L : List ByteArray} (hL : ∀ s, s ∈ L ↔ (at_ T.paths (q ++ [s])).isSome = true) :
    rem T.paths P0 (S1 ++ L.map fun s => q ++ [s]) = (rem T.paths P0 (S1 ++ [q])).filter (fun x => decide (x.1 ≠ q)) := by
  unfold rem
  rw [List.filter_filter]
  refine List.filter_congr fun x hx => ?_
  rw [Bool.eq_iff_iff]
  simp only [Bool.or_eq_true, Bool.and_eq_true, decide_eq_true_eq, List.any_append, List.any_cons, List.any_nil, Bool.or_false, List.any_eq_true, List.mem_map]
  unfold AC at hA
  rw [List.pairwise_append] at hA
  constructor
  · rintro (h | ⟨s, hs, h⟩ | ⟨s', ⟨s, hs, rfl⟩, h⟩)
    · refine ⟨fun e => h (e ▸ hu), .inl h⟩
    · refine ⟨fun e => ?_, .inr (.inl ⟨s, hs, h⟩)⟩
      rw [e] at h
      exact (hA.2.2 s hs q (by simp)).1 h
    · refine ⟨fun e => ?_, .inr (.inr ((List.prefix_append _ _).trans h))⟩
      have := h.length_le
      rw [e] at this
      simp at this
      omega
  · rintro ⟨hne, h | ⟨s, hs, h⟩ | h⟩
    · exact .inl h
    · exact .inr (.inl ⟨s, hs, h⟩)
    · obtain ⟨u, hu'⟩ := h
      cases u with
      | nil => rw [List.append_nil] at hu'; exact absurd hu'.symm hne
      | cons s u =>
        refine .inr (.inr ⟨q ++ [s], ⟨s, (hL s).2 ?_, rfl⟩, ⟨u, by rw [← hu']; simp⟩⟩)
        by_cases h0 : u = []
        · subst h0
          have : (x.1, x.2) ∈ T.paths := hx
          rw [← hu'] at this
          rw [hW.atI.2 this]
          rfl
        · have : (x.1, x.2) ∈ T.paths := hx
          rw [← hu', show q ++ s :: u = (q ++ [s]) ++ u by simp] at this
          obtain ⟨m, hm, _⟩ := hW.pre u (q ++ [s]) _ h0 this
          rw [hW.atI.2 hm]
          rfl
theorem AC.pop {q : Path} {S1 : List Path} (hA : AC (S1 ++ [q])) {L : List ByteArray} (hL : L.Nodup) : AC (S1 ++ L.map fun s => q ++ [s]) := by
  unfold AC at hA ⊢
  rw [List.pairwise_append] at hA ⊢
  refine ⟨hA.1, ?_, ?_⟩
  · rw [List.pairwise_map]
    refine List.Pairwise.imp ?_ hL
    intro a b hne
    constructor
    · intro h
      have := List.IsPrefix.eq_of_length h (by simp)
      simp at this
      exact hne this
    · intro h
      have := List.IsPrefix.eq_of_length h (by simp)
      simp at this
      exact hne this.symm
  · intro s hs b hb
    obtain ⟨x, _, rfl⟩ := List.mem_map.1 hb
    obtain ⟨h1, h2⟩ := hA.2.2 s hs q (by simp)
    constructor
    · intro h
      rcases List.prefix_concat_iff.1 h with h3 | h3
      · exact h2 (h3 ▸ List.prefix_append _ _)
      · exact h1 h3
    · intro h
      exact h2 ((List.prefix_append _ _).trans h)
theorem len_drop {R : Ps} (hd : (R.map (·.1)).Nodup) {p : Path} {m : Nat} (h : (p, m) ∈ R) : R.length = (R.filter (fun x => decide (x.1 ≠ p))).length + 1 := by
  induction R with
  | nil => cases h
  | cons x r ih =>
    rw [List.map_cons, List.nodup_cons] at hd
    rcases List.mem_cons.1 h with h1 | h1
    · subst h1
      have e : r.filter (fun x => decide (x.1 ≠ p)) = r := List.filter_eq_self.2 fun y hy => by
        have : y.1 ≠ p := fun e => hd.1 (List.mem_map.2 ⟨y, hy, e⟩)
        simpa using this
      rw [List.filter_cons]
      simp only [ne_eq, not_true_eq_false, decide_false, Bool.false_eq_true, if_false]
      simp only [ne_eq] at e
      rw [e]
      simp
    · have hne : x.1 ≠ p := fun e => hd.1 (List.mem_map.2 ⟨_, h1, e.symm⟩)
      have := ih hd.2 h1
      rw [List.filter_cons, if_pos (by simpa using hne)]
      simp only [List.length_cons]
      omega
theorem cut_cnt_le (R : Ps) (p : Path) (n : Nat) : cnt (cut R p) n ≤ cnt R n := by
  unfold cut cnt
  rw [List.filter_filter]
  refine List.Sublist.length_le ?_
  rw [show (fun x : Path × Nat => x.2 == n && decide (¬ p <+: x.1)) = fun x => (decide (¬ p <+: x.1) && (x.2 == n)) from funext fun x => Bool.and_comm _ _, ← List.filter_filter]
  rw [List.filter_filter]
  simp only [Bool.and_comm]
  rw [← List.filter_filter]
  exact List.filter_sublist.filter _
end Nt
end Go.Proofs.YtihaeggeeeihnaaDoor
