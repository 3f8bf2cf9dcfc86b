/- PLAIN MATHEMATICS OF LAYER 13, SEVENTH PART: every operation keeps what all trees keep. No Go text is named. -/
import Derived.Test.YtihaeggeeeihnaaDoorM13e
namespace Go.Proofs.YtihaeggeeeihnaaDoor
set_option linter.unusedVariables false
namespace Nt
variable {T : Tr} {K : Nat}
theorem WF.le {K' : Nat} (h : WF T K) (hK : K ≤ K') : WF T K' :=
  ⟨h.root, h.rootk, h.nodup, h.lt, h.up, h.one, h.kinds, fun p n hp => Nat.le_trans (h.long p n hp) hK, Nat.le_trans h.few hK, Nat.le_trans h.many hK, h.rms⟩
theorem WF.mk' (h : WF T K) {p : ByteArray} {x : Nd} (hx : T.mkE p x = 0 → x.ok) : WF (T.mk' p x).1 (K + 301) := by
  unfold Tr.mk'
  by_cases hE : T.mkE p x = 0
  · rw [if_pos hE]
    refine h.made ?_ (hx hE)
    unfold Tr.mkE at hE
    by_cases hf : T.fresh p = 0
    · exact hf
    · rw [if_pos hf] at hE
      exact absurd hE hf
  · rw [if_neg hE]
    exact h.le (Nat.le_add_right _ _)
theorem WF.lnk' (h : WF T K) (p old : ByteArray) : WF (T.lnk p old).1 (K + 301) := by
  unfold Tr.lnk
  by_cases hE : T.lnkE p old = 0
  · rw [if_pos hE]
    unfold Tr.lnkE at hE
    by_cases hf : T.fresh p = 0
    · rw [if_neg (by simp [hf])] at hE
      by_cases hc : (T.find old).2 = 0
      · rw [if_neg (by simp [hc])] at hE
        by_cases hk : (T.nd (T.find old).1).kind = 1
        · exact h.lnk hf (h.find_ok hc).2 hk
        · rw [if_pos hk] at hE
          cases hE
      · rw [if_pos hc] at hE
        exact absurd hE hc
    · rw [if_pos hf] at hE
      exact absurd hE hf
  · rw [if_neg hE]
    exact h.le (Nat.le_add_right _ _)
theorem WF.clr' (h : WF T K) (p : ByteArray) : WF (T.clr p).1 (K + 301) := by
  unfold Tr.clr
  by_cases hE : T.clrE p = 0
  · rw [if_pos hE]
    exact (h.cut (Pp.pieces_ne p)).le (Nat.le_add_right _ _)
  · rw [if_neg hE]
    exact h.le (Nat.le_add_right _ _)
theorem WF.rm' (h : WF T K) (p : ByteArray) : WF (T.rm p).1 (K + 301) := by
  unfold Tr.rm
  by_cases hE : T.rmE p = 0
  · rw [if_pos hE]
    exact (h.cut (Pp.pieces_ne p)).le (Nat.le_add_right _ _)
  · rw [if_neg hE]
    exact h.le (Nat.le_add_right _ _)
theorem WF.st' (h : WF T K) (p : ByteArray) (a b c d : Int) : WF (T.st p a b c d).1 (K + 301) := by
  unfold Tr.st
  by_cases hE : T.stE p a b c d = 0
  · rw [if_pos hE]
    have hc : (T.find p).2 = 0 := by
      unfold Tr.stE at hE
      by_cases hc : (T.find p).2 = 0
      · exact hc
      · rw [if_pos hc] at hE
        exact absurd hE hc
    have hl := h.lt _ _ (h.find_ok hc).2
    exact (h.with_ (x := { T.nd (T.find p).1 with mode := a, uid := b, gid := c, mtime := d }) hl rfl (h.ndok hl)).le (Nat.le_add_right _ _)
  · rw [if_neg hE]
    exact h.le (Nat.le_add_right _ _)
theorem WF.wr' (h : WF T K) (p : ByteArray) (A : Option Go.Addr) (n c : Nat) (xs : List Int) (hn : xs.length = n) : WF (T.wr p A n c xs).1 (K + 301) := by
  unfold Tr.wr
  by_cases hE : T.wrE p n = 0
  · rw [if_pos hE]
    unfold Tr.wrE at hE
    by_cases hc : (T.find p).2 = 0
    · rw [if_neg (by simp [hc])] at hE
      have hl := h.lt _ _ (h.find_ok hc).2
      have ho := h.ndok hl
      by_cases h4 : (T.nd (T.find p).1).kind = 4
      · rw [if_pos h4] at hE
        cases hE
      · rw [if_neg h4] at hE
        by_cases h3 : (T.nd (T.find p).1).kind = 3
        · rw [if_pos h3] at hE
          cases hE
        · rw [if_neg h3] at hE
          by_cases hm : 4096 < n
          · rw [if_pos hm] at hE
            cases hE
          · exact (h.with_ (x := { T.nd (T.find p).1 with A := A, n := n, c := c, xs := xs }) hl rfl ⟨ho.1, hn, by show n ≤ 4096; omega, fun hk => by
              rcases ho.1 with e | e | e
              · exact absurd e hk
              · exact absurd e h3
              · exact absurd e h4, ho.2.2.2.2⟩).le (Nat.le_add_right _ _)
    · rw [if_pos hc] at hE
      exact absurd hE hc
  · rw [if_neg hE]
    exact h.le (Nat.le_add_right _ _)
theorem WF.rn' (h : WF T K) (f t : ByteArray) : WF (T.rn f t).1 (K + 301) := by
  unfold Tr.rn
  by_cases hE : T.rnE f t = 0
  · rw [if_pos hE]
    unfold Tr.rnE at hE
    by_cases hc : (T.find f).2 = 0
    · rw [if_neg (by simp [hc])] at hE
      by_cases hn0 : (T.find f).1 = 0
      · rw [if_pos hn0] at hE
        cases hE
      · rw [if_neg hn0] at hE
        by_cases hpt : T.parE t = 0
        · rw [if_neg (by simp [hpt])] at hE
          obtain ⟨h1, q, x, m, e4, hx, hm, hk, _⟩ := h.par_ok hpt
          obtain ⟨hp, hj⟩ := h.find_ok hc
          have hf0 : f.size ≠ 0 := fun e => hn0 ((h.find_root hc).2 e)
          have hpf : isP f = true := hp.resolve_left hf0
          rw [nms_isP hpf] at hj
          refine h.rn (n := (T.find f).1) (Mv.ok h hj (Pp.pieces_ne f) e4 hx hm hk ?_ ?_) (by rw [txt_pieces]; exact (isP_iff.1 h1).1)
          · intro k hk2
            rw [hk2] at hE
            simp only at hE
            by_cases e1 : k = (T.find f).1
            · rw [if_pos e1] at hE
              cases hE
            · rw [if_neg e1] at hE
              by_cases e2 : (T.nd (T.find f).1).kind = 4
              · rw [if_pos e2] at hE
                cases hE
              · rw [if_neg e2] at hE
                by_cases e3 : (T.nd k).kind = 4
                · rw [if_pos e3] at hE
                  cases hE
                · exact ⟨e1, e2, e3⟩
          · intro h4 hpre
            cases ha : at_ T.paths (Pp.pieces t) with
            | some k =>
              rw [ha] at hE
              simp only at hE
              by_cases e1 : k = (T.find f).1
              · rw [if_pos e1] at hE
                cases hE
              · rw [if_neg e1, if_pos h4] at hE
                cases hE
            | none =>
              rw [ha] at hE
              simp only at hE
              rw [if_pos h4, if_pos hpre] at hE
              cases hE
        · rw [if_pos hpt] at hE
          exact absurd hE hpt
    · rw [if_pos hc] at hE
      exact absurd hE hc
  · rw [if_neg hE]
    by_cases h2 : T.rnE f t = -1
    · rw [if_pos h2]
      exact h.le (Nat.le_add_right _ _)
    · rw [if_neg h2]
      exact h.le (Nat.le_add_right _ _)
/-! ### how many paths; clearing the root's names -/
theorem len_mk (p : ByteArray) (x : Nd) : (T.mk' p x).1.paths.length ≤ T.paths.length + 1 := by
  unfold Tr.mk'
  split
  · simp [Tr.mk1]
  · simp
theorem len_lnk (p q : ByteArray) : (T.lnk p q).1.paths.length ≤ T.paths.length + 1 := by
  unfold Tr.lnk
  split
  · simp [Tr.lnk1]
  · simp
theorem len_wr (p : ByteArray) (A : Option Go.Addr) (n c : Nat) (xs : List Int) : (T.wr p A n c xs).1.paths.length ≤ T.paths.length + 1 := by
  unfold Tr.wr
  split
  · simp [Tr.wr1, Tr.with_]
  · simp
theorem len_st (p : ByteArray) (a b c d : Int) : (T.st p a b c d).1.paths.length ≤ T.paths.length + 1 := by
  unfold Tr.st
  split
  · simp [Tr.st1, Tr.with_]
  · simp
theorem len_cut (R : Ps) (p : Path) : (cut R p).length ≤ R.length := List.length_filter_le _ _
theorem len_clr (p : ByteArray) : (T.clr p).1.paths.length ≤ T.paths.length + 1 := by
  unfold Tr.clr
  split
  · exact Nat.le_succ_of_le (len_cut _ _)
  · simp
theorem len_rm (p : ByteArray) : (T.rm p).1.paths.length ≤ T.paths.length + 1 := by
  unfold Tr.rm
  split
  · exact Nat.le_succ_of_le (len_cut _ _)
  · simp
theorem len_rn (f t : ByteArray) : (T.rn f t).1.paths.length ≤ T.paths.length + 1 := by
  unfold Tr.rn
  split
  · show ((cut T.paths _).map _).length ≤ _
    rw [List.length_map]
    exact Nat.le_succ_of_le (len_cut _ _)
  · split <;> simp
theorem pieces_one {s : ByteArray} (h : Pp.Nm s) : Pp.pieces s = [s] := by
  have := pieces_txt (p := [s]) (by simp) (by intro x hx; obtain rfl : x = s := (by simpa using hx); exact h)
  exact this
theorem isP_one {s : ByteArray} (h : Pp.Nm s) : isP s = true := isP_iff.2 ⟨by have := nm_le h; omega, by rw [pieces_one h]; intro x hx; obtain rfl : x = s := (by simpa using hx); exact h⟩
/-- A name of the root's is cleared. -/
theorem WF.clr_kid (h : WF T K) {s : ByteArray} {k : Nat} (ha : at_ T.paths [s] = some k) : T.clr s = (T.clr1 [s], 0) := by
  have hp := at_mem ha
  have hn : Pp.Nm s := (h.up [] s k hp).2.1
  have h0 : s.size ≠ 0 := by have := nm_pos hn; omega
  have hf : T.find s = (k, 0) := by
    unfold Tr.find
    rw [if_neg h0, if_pos (isP_one hn), pieces_one hn]
    exact (h.fnd_some [s] [] 0 k h.root).2 hp
  have hE : T.clrE s = 0 := by unfold Tr.clrE; rw [hf, if_neg (by simp), if_neg h0]
  unfold Tr.clr
  rw [if_pos hE, pieces_one hn]
theorem at_clr {s t : ByteArray} : at_ (T.clr1 [s]).paths [t] = if s = t then none else at_ T.paths [t] := by
  show at_ (cut T.paths [s]) [t] = _
  rw [at_cut]
  by_cases e : s = t
  · subst e; simp
  · have : ¬ [s] <+: [t] := fun hp => e (by
      obtain ⟨u, hu⟩ := hp
      simp at hu
      exact hu.1)
    rw [if_neg this, if_neg e]
/-- Where the root has no names, there is nothing. -/
theorem WF.bare (h : WF T K) (hn : ∀ s, at_ T.paths [s] = none) : ∀ p n, (p, n) ∈ T.paths → n = 0 := by
  intro p n hp
  rcases p with _ | ⟨x, p⟩
  · exact nodup_one h.nodup hp h.root
  · exfalso
    by_cases hpe : p = []
    · subst hpe
      exact at_none (hn x) _ hp
    · obtain ⟨j, h1, _⟩ := h.pre p [x] n hpe hp
      exact at_none (hn x) _ h1
theorem used_none {R : Ps} (hR : ∀ p n, (p, n) ∈ R → n = 0) (f : Nd → Nat) (l : List Nd) : used R f l = 0 := by
  unfold used
  have hz : ∀ i, (if i = 0 then 0 else if cnt R i = 0 then 0 else f (l.getD i Nd.zero)) = 0 := fun i => by
    by_cases h0 : i = 0
    · rw [if_pos h0]
    · have hc : cnt R i = 0 := by
        unfold cnt
        rw [List.length_eq_zero_iff, List.filter_eq_nil_iff]
        rintro ⟨p, n⟩ hp
        have := hR p n hp
        simp
        omega
      rw [if_neg h0, if_pos hc]
  have : ∀ g : Nat → Nat, (∀ i, g i = 0) → ∀ k, sum g k = 0 := fun g hg k => by
    induction k with
    | zero => rfl
    | succ k ih => show sum g k + g k = 0; rw [ih, hg]
  exact this _ hz _
end Nt
end Go.Proofs.YtihaeggeeeihnaaDoor
