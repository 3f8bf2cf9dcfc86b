/- PLAIN MATHEMATICS OF LAYER 13, FIFTH PART: what lies under a path, as texts; what a renaming asks. No Go text is named. -/
import Derived.Test.YthgbncpiehcghaaGreatDoorGn4
import Derived.Test.YthgbncpiehcghaaGreatDoorGy1
namespace Go.Proofs.YthgbncpiehcghaaGreatDoor
set_option linter.unusedVariables false
open Go.RowKit
namespace Nt
variable {T : Tr} {K : Nat}
theorem pre_split {t s : ByteArray} (h : Pp.Pre (t ++ ⟨#[47]⟩) s) : s.data.toList = t.data.toList ++ 47 :: (s.extract (t.size + 1) s.size).data.toList := by
  obtain ⟨h1, h2⟩ := h
  have e1 : (t ++ ⟨#[47]⟩ : ByteArray).size = t.size + 1 := by simp [one_slash]
  rw [e1] at h1 h2
  have e2 := congrArg (fun b : ByteArray => b.data.toList) h2
  simp only [Lib.extract_data, data_app] at e2
  rw [Lib.extract_data, List.take_of_length_le (l := s.data.toList.drop (t.size + 1)) (by rw [List.length_drop, ← Pp.size_eq]; exact Nat.le_refl _)]
  rw [List.drop_zero, Nat.sub_zero] at e2
  conv => lhs; rw [← List.take_append_drop (t.size + 1) s.data.toList, e2]
  simp
theorem rest_some {s t : ByteArray} (ht : t.size ≠ 0) (h : (restV s t).2 = true) : (restV s t).1 = s.extract (t.size + 1) s.size ∧ Pp.pieces s = Pp.pieces t ++ Pp.pieces (restV s t).1 := by
  unfold restV at h ⊢
  rw [if_neg ht] at h ⊢
  by_cases hp : Pp.Pre (t ++ ⟨#[47]⟩) s
  · rw [if_pos hp]
    refine ⟨rfl, Pp.map_inj ?_⟩
    rw [List.map_append, Pp.pieces_map, Pp.pieces_map, Pp.pieces_map, pre_split hp, Pp.piecesL_app]
  · rw [if_neg hp] at h
    cases h
theorem rest_none {s t : ByteArray} (ht : t.size ≠ 0) {v : Path} (hv : v ≠ []) (h : Pp.pieces s = Pp.pieces t ++ v) : (restV s t).2 = true := by
  unfold restV
  rw [if_neg ht, if_pos]
  have e : s = t ++ ⟨#[47]⟩ ++ txt v := by
    have := congrArg txt h
    rwa [txt_pieces, txt_app _ _ (Pp.pieces_ne t) hv, txt_pieces] at this
  refine ⟨by rw [e]; simp, ?_⟩
  apply ByteArray.ext
  apply Array.toList_inj.1
  rw [Lib.extract_data, e, data_app, List.drop_zero, Nat.sub_zero, Pp.size_eq, List.take_left']
  rfl
/-- What lies under a path. -/
theorem rest_iff {s t : ByteArray} (ht : t.size ≠ 0) : (restV s t).2 = true ↔ ∃ v, v ≠ [] ∧ Pp.pieces s = Pp.pieces t ++ v := by
  constructor
  · intro h
    exact ⟨_, Pp.pieces_ne _, (rest_some ht h).2⟩
  · rintro ⟨v, h1, h2⟩
    exact rest_none ht h1 h2
theorem Mv.ok (hW : WF T K) {f t q : Path} {x : ByteArray} {n m : Nat} (hn : (f, n) ∈ T.paths) (hf : f ≠ []) (e : t = q ++ [x]) (hx : Pp.Nm x) (hm : (q, m) ∈ T.paths) (hk : (T.nd m).kind = 4)
    (hat : ∀ k, at_ T.paths t = some k → k ≠ n ∧ (T.nd n).kind ≠ 4 ∧ (T.nd k).kind ≠ 4) (hft : (T.nd n).kind = 4 → ¬ f <+: t) : Mv T f t n := by
  have hleaf : ∀ r k, (r, k) ∈ T.paths → t <+: r → r = t ∧ k ≠ n ∧ (T.nd k).kind ≠ 4 := by
    rintro r k hr ⟨u, rfl⟩
    by_cases hu : u = []
    · subst hu
      rw [List.append_nil] at hr ⊢
      have := hat k (hW.atI.2 hr)
      exact ⟨rfl, this.1, this.2.2⟩
    · obtain ⟨j, h1, h2⟩ := hW.pre u t k hu hr
      exact absurd h2 (hat j (hW.atI.2 h1)).2.2
  have hft' : ¬ f <+: t := by
    by_cases hkn : (T.nd n).kind = 4
    · exact hft hkn
    · rintro h
      rw [e] at h
      rcases List.prefix_concat_iff.1 h with h1 | ⟨u, hu⟩
      · exact (hat n (by rw [e, ← h1]; exact hW.atI.2 hn)).1 rfl
      · by_cases hu0 : u = []
        · subst hu0
          rw [List.append_nil] at hu
          subst hu
          rw [nodup_one hW.nodup hn hm] at hkn
          exact hkn hk
        · rw [← hu] at hm
          obtain ⟨j, h1, h2⟩ := hW.pre u f m hu0 hm
          rw [nodup_one hW.nodup hn h1] at hkn
          exact hkn h2
  refine ⟨hn, hf, by rw [e]; simp, ⟨q, x, m, e, hx, hm, hk, fun h => hft' (h.trans (by rw [e]; exact List.prefix_append _ _))⟩, hft', fun h => (hleaf f n hn h).2.1 rfl, hleaf⟩
end Nt
end Go.Proofs.YthgbncpiehcghaaGreatDoor
/- PLAIN MATHEMATICS OF LAYER 13, SEVENTH PART: every operation keeps what all trees keep. No Go text is named. -/
namespace Go.Proofs.YthgbncpiehcghaaGreatDoor
set_option linter.unusedVariables false
namespace Nt
variable {T : Tr} {K : Nat}
theorem WF.le {K' : Nat} (h : WF T K) (hK : K ≤ K') : WF T K' :=
  ⟨h.root, h.rootk, h.nodup, h.lt, h.up, h.one, h.kinds, fun p n hp => Nat.le_trans (h.long p n hp) hK, Nat.le_trans h.few hK, Nat.le_trans h.many hK, h.rms⟩
theorem WF.mk' (h : WF T K) {p : ByteArray} {x : Nd} (hx : T.mkE p x = 0 → x.ok) : WF (T.mk' p x).1 (K + 301) := by
  unfold Tr.mk'
  by_cases hE : T.mkE p x = 0
  · rw [if_pos hE]
    refine h.made ?_ (hx hE)
    unfold Tr.mkE at hE
    by_cases hf : T.fresh p = 0
    · exact hf
    · rw [if_pos hf] at hE
      exact absurd hE hf
  · rw [if_neg hE]
    exact h.le (Nat.le_add_right _ _)
theorem WF.lnk' (h : WF T K) (p old : ByteArray) : WF (T.lnk p old).1 (K + 301) := by
  unfold Tr.lnk
  by_cases hE : T.lnkE p old = 0
  · rw [if_pos hE]
    unfold Tr.lnkE at hE
    by_cases hf : T.fresh p = 0
    · rw [if_neg (by simp [hf])] at hE
      by_cases hc : (T.find old).2 = 0
      · rw [if_neg (by simp [hc])] at hE
        by_cases hk : (T.nd (T.find old).1).kind = 1
        · exact h.lnk hf (h.find_ok hc).2 hk
        · rw [if_pos hk] at hE
          cases hE
      · rw [if_pos hc] at hE
        exact absurd hE hc
    · rw [if_pos hf] at hE
      exact absurd hE hf
  · rw [if_neg hE]
    exact h.le (Nat.le_add_right _ _)
theorem WF.clr' (h : WF T K) (p : ByteArray) : WF (T.clr p).1 (K + 301) := by
  unfold Tr.clr
  by_cases hE : T.clrE p = 0
  · rw [if_pos hE]
    exact (h.cut (Pp.pieces_ne p)).le (Nat.le_add_right _ _)
  · rw [if_neg hE]
    exact h.le (Nat.le_add_right _ _)
theorem WF.rm' (h : WF T K) (p : ByteArray) : WF (T.rm p).1 (K + 301) := by
  unfold Tr.rm
  by_cases hE : T.rmE p = 0
  · rw [if_pos hE]
    exact (h.cut (Pp.pieces_ne p)).le (Nat.le_add_right _ _)
  · rw [if_neg hE]
    exact h.le (Nat.le_add_right _ _)
theorem WF.st' (h : WF T K) (p : ByteArray) (a b c d : Int) : WF (T.st p a b c d).1 (K + 301) := by
  unfold Tr.st
  by_cases hE : T.stE p a b c d = 0
  · rw [if_pos hE]
    have hc : (T.find p).2 = 0 := by
      unfold Tr.stE at hE
      by_cases hc : (T.find p).2 = 0
      · exact hc
      · rw [if_pos hc] at hE
        exact absurd hE hc
    have hl := h.lt _ _ (h.find_ok hc).2
    exact (h.with_ (x := { T.nd (T.find p).1 with mode := a, uid := b, gid := c, mtime := d }) hl rfl (h.ndok hl)).le (Nat.le_add_right _ _)
  · rw [if_neg hE]
    exact h.le (Nat.le_add_right _ _)
theorem WF.wr' (h : WF T K) (p : ByteArray) (A : Option Go.Addr) (n c : Nat) (xs : List Int) (hn : xs.length = n) : WF (T.wr p A n c xs).1 (K + 301) := by
  unfold Tr.wr
  by_cases hE : T.wrE p n = 0
  · rw [if_pos hE]
    unfold Tr.wrE at hE
    by_cases hc : (T.find p).2 = 0
    · rw [if_neg (by simp [hc])] at hE
      have hl := h.lt _ _ (h.find_ok hc).2
      have ho := h.ndok hl
      by_cases h4 : (T.nd (T.find p).1).kind = 4
      · rw [if_pos h4] at hE
        cases hE
      · rw [if_neg h4] at hE
        by_cases h3 : (T.nd (T.find p).1).kind = 3
        · rw [if_pos h3] at hE
          cases hE
        · rw [if_neg h3] at hE
          by_cases hm : 4096 < n
          · rw [if_pos hm] at hE
            cases hE
          · exact (h.with_ (x := { T.nd (T.find p).1 with A := A, n := n, c := c, xs := xs }) hl rfl ⟨ho.1, hn, by show n ≤ 4096; omega, fun hk => by
              rcases ho.1 with e | e | e
              · exact absurd e hk
              · exact absurd e h3
              · exact absurd e h4, ho.2.2.2.2⟩).le (Nat.le_add_right _ _)
    · rw [if_pos hc] at hE
      exact absurd hE hc
  · rw [if_neg hE]
    exact h.le (Nat.le_add_right _ _)
theorem WF.rn' (h : WF T K) (f t : ByteArray) : WF (T.rn f t).1 (K + 301) := by
  unfold Tr.rn
  by_cases hE : T.rnE f t = 0
  · rw [if_pos hE]
    unfold Tr.rnE at hE
    by_cases hc : (T.find f).2 = 0
    · rw [if_neg (by simp [hc])] at hE
      by_cases hn0 : (T.find f).1 = 0
      · rw [if_pos hn0] at hE
        cases hE
      · rw [if_neg hn0] at hE
        by_cases hpt : T.parE t = 0
        · rw [if_neg (by simp [hpt])] at hE
          obtain ⟨h1, q, x, m, e4, hx, hm, hk, _⟩ := h.par_ok hpt
          obtain ⟨hp, hj⟩ := h.find_ok hc
          have hf0 : f.size ≠ 0 := fun e => hn0 ((h.find_root hc).2 e)
          have hpf : isP f = true := hp.resolve_left hf0
          rw [nms_isP hpf] at hj
          refine h.rn (n := (T.find f).1) (Mv.ok h hj (Pp.pieces_ne f) e4 hx hm hk ?_ ?_) (by rw [txt_pieces]; exact (isP_iff.1 h1).1)
          · intro k hk2
            rw [hk2] at hE
            simp only at hE
            by_cases e1 : k = (T.find f).1
            · rw [if_pos e1] at hE
              cases hE
            · rw [if_neg e1] at hE
              by_cases e2 : (T.nd (T.find f).1).kind = 4
              · rw [if_pos e2] at hE
                cases hE
              · rw [if_neg e2] at hE
                by_cases e3 : (T.nd k).kind = 4
                · rw [if_pos e3] at hE
                  cases hE
                · exact ⟨e1, e2, e3⟩
          · intro h4 hpre
            cases ha : at_ T.paths (Pp.pieces t) with
            | some k =>
              rw [ha] at hE
              simp only at hE
              by_cases e1 : k = (T.find f).1
              · rw [if_pos e1] at hE
                cases hE
              · rw [if_neg e1, if_pos h4] at hE
                cases hE
            | none =>
              rw [ha] at hE
              simp only at hE
              rw [if_pos h4, if_pos hpre] at hE
              cases hE
        · rw [if_pos hpt] at hE
          exact absurd hE hpt
    · rw [if_pos hc] at hE
      exact absurd hE hc
  · rw [if_neg hE]
    by_cases h2 : T.rnE f t = -1
    · rw [if_pos h2]
      exact h.le (Nat.le_add_right _ _)
    · rw [if_neg h2]
      exact h.le (Nat.le_add_right _ _)
/-! ### how many paths; clearing the root's names -/
theorem len_mk (p : ByteArray) (x : Nd) : (T.mk' p x).1.paths.length ≤ T.paths.length + 1 := by
  unfold Tr.mk'
  split
  · simp [Tr.mk1]
  · simp
theorem len_lnk (p q : ByteArray) : (T.lnk p q).1.paths.length ≤ T.paths.length + 1 := by
  unfold Tr.lnk
  split
  · simp [Tr.lnk1]
  · simp
theorem len_wr (p : ByteArray) (A : Option Go.Addr) (n c : Nat) (xs : List Int) : (T.wr p A n c xs).1.paths.length ≤ T.paths.length + 1 := by
  unfold Tr.wr
  split
  · simp [Tr.wr1, Tr.with_]
  · simp
theorem len_st (p : ByteArray) (a b c d : Int) : (T.st p a b c d).1.paths.length ≤ T.paths.length + 1 := by
  unfold Tr.st
  split
  · simp [Tr.st1, Tr.with_]
  · simp
theorem len_cut (R : Ps) (p : Path) : (cut R p).length ≤ R.length := List.length_filter_le _ _
theorem len_clr (p : ByteArray) : (T.clr p).1.paths.length ≤ T.paths.length + 1 := by
  unfold Tr.clr
  split
  · exact Nat.le_succ_of_le (len_cut _ _)
  · simp
theorem len_rm (p : ByteArray) : (T.rm p).1.paths.length ≤ T.paths.length + 1 := by
  unfold Tr.rm
  split
  · exact Nat.le_succ_of_le (len_cut _ _)
  · simp
theorem len_rn (f t : ByteArray) : (T.rn f t).1.paths.length ≤ T.paths.length + 1 := by
  unfold Tr.rn
  split
  · show ((cut T.paths _).map _).length ≤ _
    rw [List.length_map]
    exact Nat.le_succ_of_le (len_cut _ _)
  · split <;> simp
theorem pieces_one {s : ByteArray} (h : Pp.Nm s) : Pp.pieces s = [s] := by
  have := pieces_txt (p := [s]) (by simp) (by intro x hx; obtain rfl : x = s := (by simpa using hx); exact h)
  exact this
theorem isP_one {s : ByteArray} (h : Pp.Nm s) : isP s = true := isP_iff.2 ⟨by have := nm_le h; omega, by rw [pieces_one h]; intro x hx; obtain rfl : x = s := (by simpa using hx); exact h⟩
/-- A name of the root's is cleared. -/
theorem WF.clr_kid (h : WF T K) {s : ByteArray} {k : Nat} (ha : at_ T.paths [s] = some k) : T.clr s = (T.clr1 [s], 0) := by
  have hp := at_mem ha
  have hn : Pp.Nm s := (h.up [] s k hp).2.1
  have h0 : s.size ≠ 0 := by have := nm_pos hn; omega
  have hf : T.find s = (k, 0) := by
    unfold Tr.find
    rw [if_neg h0, if_pos (isP_one hn), pieces_one hn]
    exact (h.fnd_some [s] [] 0 k h.root).2 hp
  have hE : T.clrE s = 0 := by unfold Tr.clrE; rw [hf, if_neg (by simp), if_neg h0]
  unfold Tr.clr
  rw [if_pos hE, pieces_one hn]
theorem at_clr {s t : ByteArray} : at_ (T.clr1 [s]).paths [t] = if s = t then none else at_ T.paths [t] := by
  show at_ (cut T.paths [s]) [t] = _
  rw [at_cut]
  by_cases e : s = t
  · subst e; simp
  · have : ¬ [s] <+: [t] := fun hp => e (by
      obtain ⟨u, hu⟩ := hp
      simp at hu
      exact hu.1)
    rw [if_neg this, if_neg e]
/-- Where the root has no names, there is nothing. -/
theorem WF.bare (h : WF T K) (hn : ∀ s, at_ T.paths [s] = none) : ∀ p n, (p, n) ∈ T.paths → n = 0 := by
  intro p n hp
  rcases p with _ | ⟨x, p⟩
  · exact nodup_one h.nodup hp h.root
  · exfalso
    by_cases hpe : p = []
    · subst hpe
      exact at_none (hn x) _ hp
    · obtain ⟨j, h1, _⟩ := h.pre p [x] n hpe hp
      exact at_none (hn x) _ h1
theorem used_none {R : Ps} (hR : ∀ p n, (p, n) ∈ R → n = 0) (f : Nd → Nat) (l : List Nd) : used R f l = 0 := by
  unfold used
  have hz : ∀ i, (if i = 0 then 0 else if cnt R i = 0 then 0 else f (l.getD i Nd.zero)) = 0 := fun i => by
    by_cases h0 : i = 0
    · rw [if_pos h0]
    · have hc : cnt R i = 0 := by
        unfold cnt
        rw [List.length_eq_zero_iff, List.filter_eq_nil_iff]
        rintro ⟨p, n⟩ hp
        have := hR p n hp
        simp
        omega
      rw [if_neg h0, if_pos hc]
  have : ∀ g : Nat → Nat, (∀ i, g i = 0) → ∀ k, sum g k = 0 := fun g hg k => by
    induction k with
    | zero => rfl
    | succ k ih => show sum g k + g k = 0; rw [ih, hg]
  exact this _ hz _
end Nt
end Go.Proofs.YthgbncpiehcghaaGreatDoor
/- PLAIN MATHEMATICS OF LAYER 13, NINTH PART: what is used fits into the room. No Go text is named. -/
namespace Go.Proofs.YthgbncpiehcghaaGreatDoor
set_option linter.unusedVariables false
namespace Nt
variable {T : Tr} {K : Nat}
theorem sum_mono {g g' : Nat → Nat} : ∀ {k : Nat}, (∀ i, i < k → g i ≤ g' i) → sum g k ≤ sum g' k
  | 0, _ => Nat.le_refl _
  | k + 1, h => by
    unfold sum
    have := sum_mono (g := g) (g' := g') (k := k) fun i hi => h i (by omega)
    have := h k (by omega)
    omega
theorem used_mono {R R' : Ps} (f : Nd → Nat) (l : List Nd) (h : ∀ i, cnt R' i ≤ cnt R i) : used R' f l ≤ used R f l := by
  unfold used
  refine sum_mono fun i hi => ?_
  have := h i
  by_cases h0 : i = 0
  · simp [h0]
  · rw [if_neg h0, if_neg h0]
    by_cases h1 : cnt R' i = 0
    · rw [if_pos h1]; omega
    · rw [if_neg h1, if_neg (by omega)]
      exact Nat.le_refl _
theorem cnt_cut (R : Ps) (p : Path) (i : Nat) : cnt (cut R p) i ≤ cnt R i := by
  unfold cnt cut
  exact ((List.filter_sublist (p := fun x : Path × Nat => decide (¬ p <+: x.1)) (l := R)).filter _).length_le
theorem cnt_rn (f t : Path) (i : Nat) : cnt (T.rn1 f t).paths i ≤ cnt T.paths i := by
  unfold Tr.rn1
  show cnt ((cut T.paths t).map (mv f t)) i ≤ _
  rw [cnt_map (fun x => by unfold mv; split <;> rfl)]
  exact cnt_cut _ _ _
/-- What is used fits. -/
def Tr.Fits (T : Tr) : Prop := (T.usedN : Int) ≤ T.room ∧ (T.usedB : Int) ≤ T.vol
theorem roomy_iff {a b : Int} : T.roomy a b = true ↔ T.usedN + a ≤ T.room ∧ T.usedB + b ≤ T.vol := by
  unfold Tr.roomy
  simp
/-- The room is the same; what is used fits, if it did. -/
def Fit (T U : Tr) : Prop := U.room = T.room ∧ U.vol = T.vol ∧ (T.Fits → U.Fits)
theorem Fit.refl (T : Tr) : Fit T T := ⟨rfl, rfl, id⟩
theorem fit_clr (p : Path) : Fit T (T.clr1 p) := by
  refine ⟨rfl, rfl, fun h => ?_⟩
  have h1 : (T.clr1 p).usedN ≤ T.usedN := used_mono _ _ (cnt_cut _ _)
  have h2 : (T.clr1 p).usedB ≤ T.usedB := used_mono _ _ (cnt_cut _ _)
  obtain ⟨a, b⟩ := h
  exact ⟨by show _ ≤ T.room; omega, by show _ ≤ T.vol; omega⟩
theorem fit_rn (f t : Path) : Fit T (T.rn1 f t) := by
  refine ⟨rfl, rfl, fun h => ?_⟩
  have h1 : (T.rn1 f t).usedN ≤ T.usedN := used_mono _ _ (cnt_rn f t)
  have h2 : (T.rn1 f t).usedB ≤ T.usedB := used_mono _ _ (cnt_rn f t)
  obtain ⟨a, b⟩ := h
  exact ⟨by show _ ≤ T.room; omega, by show _ ≤ T.vol; omega⟩
theorem fit_mk (h : WF T K) {p : ByteArray} {x : Nd} (hx : x.xs.length = x.n) (hr : T.roomy 1 x.n = true) : Fit T (T.mk1 p x) := by
  refine ⟨rfl, rfl, fun _ => ?_⟩
  obtain ⟨a, b⟩ := roomy_iff.1 hr
  have h1 : (T.mk1 p x).usedN = T.usedN + 1 := used_new (fun _ => 1) T.nodes x _ h.pos h.lt
  have h2 : (T.mk1 p x).usedB = T.usedB + x.xs.length := used_new (fun x => x.xs.length) T.nodes x _ h.pos h.lt
  exact ⟨by show _ ≤ T.room; omega, by show _ ≤ T.vol; omega⟩
theorem fit_lnk (h : WF T K) {p : ByteArray} {q : Path} {n : Nat} (hn : (q, n) ∈ T.paths) : Fit T (T.lnk1 p n) := by
  refine ⟨rfl, rfl, fun hf => ?_⟩
  have hc : ∀ i, i < T.nodes.length → i ≠ 0 → (cnt (T.lnk1 p n).paths i = 0 ↔ cnt T.paths i = 0) := fun i _ _ => by
    show cnt (T.paths ++ [(Pp.pieces p, n)]) i = 0 ↔ _
    rw [cnt_app, cnt_one]
    by_cases e : n = i
    · subst e
      have : 0 < cnt T.paths n := cnt_pos.2 ⟨q, hn⟩
      rw [if_pos rfl]
      omega
    · rw [if_neg e]
      omega
  have h1 : (T.lnk1 p n).usedN = T.usedN := used_same _ _ hc
  have h2 : (T.lnk1 p n).usedB = T.usedB := used_same _ _ hc
  obtain ⟨a, b⟩ := hf
  exact ⟨by show _ ≤ T.room; omega, by show _ ≤ T.vol; omega⟩
theorem fit_with (h : WF T K) {q : Path} {n : Nat} {x : Nd} (hn : (q, n) ∈ T.paths) (h0 : n = 0 → x.xs.length = (T.nd n).xs.length) (hr : (T.Fits → (T.usedB : Int) + x.xs.length - (T.nd n).xs.length ≤ T.vol)) : Fit T (T.with_ n x) := by
  have hl := h.lt _ _ hn
  refine ⟨rfl, rfl, fun hf => ?_⟩
  have h1 : (T.with_ n x).usedN = T.usedN := used_set0 (fun _ => 1) T.nodes x hl rfl
  refine ⟨by rw [h1]; exact hf.1, ?_⟩
  show ((T.with_ n x).usedB : Int) ≤ T.vol
  by_cases e : n = 0
  · have h2 : (T.with_ n x).usedB = T.usedB := used_set0 (fun x => x.xs.length) T.nodes x hl (h0 e)
    rw [h2]
    exact hf.2
  · have h2 : (T.with_ n x).usedB + (T.nd n).xs.length = T.usedB + x.xs.length := used_set (fun x => x.xs.length) T.nodes x hl e (cnt_pos.2 ⟨q, hn⟩)
    have := hr hf
    omega
theorem Fit.mk' (h : WF T K) {p : ByteArray} {x : Nd} (hx : x.xs.length = x.n) : Fit T (T.mk' p x).1 := by
  unfold Tr.mk'
  by_cases hE : T.mkE p x = 0
  · rw [if_pos hE]
    refine fit_mk h hx ?_
    unfold Tr.mkE at hE
    by_cases hf : T.fresh p = 0
    · rw [if_neg (by simp [hf])] at hE
      by_cases h1 : metaOk x.mode x.uid x.gid x.mtime = false
      · rw [if_pos h1] at hE; cases hE
      · rw [if_neg h1] at hE
        by_cases h2 : x.kind = 1 ∧ 4096 < x.n
        · rw [if_pos h2] at hE; cases hE
        · rw [if_neg h2] at hE
          by_cases h3 : x.kind = 3 ∧ linkE x.link ≠ 0
          · rw [if_pos h3] at hE; exact absurd hE h3.2
          · rw [if_neg h3] at hE
            by_cases h4 : T.roomy 1 x.n = false
            · rw [if_pos h4] at hE; cases hE
            · simpa using h4
    · rw [if_pos hf] at hE
      exact absurd hE hf
  · rw [if_neg hE]
    exact Fit.refl T
theorem Fit.lnk' (h : WF T K) (p old : ByteArray) : Fit T (T.lnk p old).1 := by
  unfold Tr.lnk
  by_cases hE : T.lnkE p old = 0
  · rw [if_pos hE]
    unfold Tr.lnkE at hE
    by_cases hf : T.fresh p = 0
    · rw [if_neg (by simp [hf])] at hE
      by_cases hc : (T.find old).2 = 0
      · exact fit_lnk h (h.find_ok hc).2
      · rw [if_pos hc] at hE
        exact absurd hE hc
    · rw [if_pos hf] at hE
      exact absurd hE hf
  · rw [if_neg hE]
    exact Fit.refl T
theorem Fit.clr' (p : ByteArray) : Fit T (T.clr p).1 := by
  unfold Tr.clr
  split
  · exact fit_clr _
  · exact Fit.refl T
theorem Fit.rm' (p : ByteArray) : Fit T (T.rm p).1 := by
  unfold Tr.rm
  split
  · exact fit_clr _
  · exact Fit.refl T
theorem Fit.rn' (f t : ByteArray) : Fit T (T.rn f t).1 := by
  unfold Tr.rn
  split
  · exact fit_rn _ _
  · split <;> exact Fit.refl T
theorem Fit.st' (h : WF T K) (p : ByteArray) (a b c d : Int) : Fit T (T.st p a b c d).1 := by
  unfold Tr.st
  by_cases hE : T.stE p a b c d = 0
  · rw [if_pos hE]
    have hc : (T.find p).2 = 0 := by
      unfold Tr.stE at hE
      by_cases hc : (T.find p).2 = 0
      · exact hc
      · rw [if_pos hc] at hE
        exact absurd hE hc
    exact fit_with h (x := { T.nd (T.find p).1 with mode := a, uid := b, gid := c, mtime := d }) (h.find_ok hc).2 (fun _ => rfl) fun hf => by
      have := hf.2
      show (T.usedB : Int) + (T.nd (T.find p).1).xs.length - _ ≤ _
      omega
  · rw [if_neg hE]
    exact Fit.refl T
theorem Fit.wr' (h : WF T K) (p : ByteArray) (A : Option Go.Addr) (n c : Nat) (xs : List Int) (hn : xs.length = n) : Fit T (T.wr p A n c xs).1 := by
  unfold Tr.wr
  by_cases hE : T.wrE p n = 0
  · rw [if_pos hE]
    unfold Tr.wrE at hE
    by_cases hc : (T.find p).2 = 0
    · rw [if_neg (by simp [hc])] at hE
      by_cases h4 : (T.nd (T.find p).1).kind = 4
      · rw [if_pos h4] at hE; cases hE
      · rw [if_neg h4] at hE
        by_cases h3 : (T.nd (T.find p).1).kind = 3
        · rw [if_pos h3] at hE; cases hE
        · rw [if_neg h3] at hE
          by_cases h5 : 4096 < n
          · rw [if_pos h5] at hE; cases hE
          · rw [if_neg h5] at hE
            by_cases h6 : T.roomy 0 ((n : Int) - (T.nd (T.find p).1).n) = false
            · rw [if_pos h6] at hE; cases hE
            · have h7 := roomy_iff.1 (by simpa using h6)
              have hm := (h.find_ok hc).2
              have hk := (h.ndok (h.lt _ _ hm)).2.1
              refine fit_with h (x := { T.nd (T.find p).1 with A := A, n := n, c := c, xs := xs }) hm (fun e => ?_) fun _ => ?_
              · rw [e, h.rootk] at h4
                exact absurd rfl h4
              · show (T.usedB : Int) + xs.length - _ ≤ _
                rw [hk, hn]
                omega
    · rw [if_pos hc] at hE
      exact absurd hE hc
  · rw [if_neg hE]
    exact Fit.refl T
theorem fits_new (a b : Int) : (Nt.new a b).Fits := by
  have h1 : (Nt.new a b).usedN = 0 := rfl
  have h2 : (Nt.new a b).usedB = 0 := rfl
  refine ⟨?_, ?_⟩
  · rw [h1]; show (0 : Int) ≤ max a 0; omega
  · rw [h2]; show (0 : Int) ≤ max b 0; omega
end Nt
end Go.Proofs.YthgbncpiehcghaaGreatDoor
/- PLAIN MATHEMATICS OF LAYER 14 (disks): trees without the places of their bytes; deeds; a disk. No Go text is named. -/
namespace Go.Proofs.YthgbncpiehcghaaGreatDoor
set_option linter.unusedVariables false
open Go.RowKit
namespace Nt
/-- A node without the place of its bytes. -/
def Nd.er (x : Nd) : Nd := { x with A := none, c := 0 }
def Tr.er (T : Tr) : Tr := { T with nodes := T.nodes.map Nd.er }
section
variable {T : Tr} {K : Nat}
theorem nd_er (n : Nat) : T.er.nd n = (T.nd n).er := by
  unfold Tr.nd Tr.er
  simp only [List.getD, List.getElem?_map]
  cases T.nodes[n]? <;> rfl
theorem er_er : T.er.er = T.er := by
  unfold Tr.er
  simp only [List.map_map]
  congr 1
theorem used_er {R : Ps} {f : Nd → Nat} (hf : ∀ x : Nd, f x.er = f x) (l : List Nd) : used R f (l.map Nd.er) = used R f l := by
  unfold used
  rw [List.length_map]
  refine sum_same fun i _ => ?_
  have : (l.map Nd.er).getD i Nd.zero = (l.getD i Nd.zero).er := by
    simp only [List.getD, List.getElem?_map]
    cases l[i]? <;> rfl
  rw [this, hf]
theorem usedN_er : T.er.usedN = T.usedN := used_er (fun _ => rfl) _
theorem usedB_er : T.er.usedB = T.usedB := used_er (fun _ => rfl) _
theorem fnd_er : ∀ (r : Path) (pre : Path) (n : Nat), T.er.fnd pre n r = T.fnd pre n r
  | [], _, _ => rfl
  | x :: r, pre, n => by
    have e : (T.er.nd n).kind = (T.nd n).kind := by rw [nd_er]; rfl
    have e2 : T.er.paths = T.paths := rfl
    unfold Tr.fnd
    rw [e, e2]
    cases at_ T.paths (pre ++ [x]) with
    | none => rfl
    | some k => simp only [fnd_er r]
theorem find_er (p : ByteArray) : T.er.find p = T.find p := by
  unfold Tr.find
  rw [fnd_er]
theorem parE_er (p : ByteArray) : T.er.parE p = T.parE p := by
  unfold Tr.parE
  simp only [fnd_er, nd_er, Nd.er]
theorem fresh_er (p : ByteArray) : T.er.fresh p = T.fresh p := by
  unfold Tr.fresh
  rw [parE_er]
  rfl
theorem roomy_er (a b : Int) : T.er.roomy a b = T.roomy a b := by
  unfold Tr.roomy
  rw [usedN_er, usedB_er]
  rfl
theorem len_er : T.er.nodes.length = T.nodes.length := by
  unfold Tr.er
  simp
theorem mk1_er (p : ByteArray) (x : Nd) : (T.mk1 p x).er = T.er.mk1 p x.er := by
  unfold Tr.mk1 Tr.er
  simp
theorem mkE_er (p : ByteArray) (x : Nd) : T.er.mkE p x.er = T.mkE p x := by
  unfold Tr.mkE
  rw [fresh_er, roomy_er]
  rfl
theorem mk_er (p : ByteArray) (x : Nd) : T.er.mk' p x.er = ((T.mk' p x).1.er, (T.mk' p x).2) := by
  unfold Tr.mk'
  rw [mkE_er]
  split
  · rw [mk1_er]
  · rfl
theorem lnk_er (p old : ByteArray) : T.er.lnk p old = ((T.lnk p old).1.er, (T.lnk p old).2) := by
  have e : T.er.lnkE p old = T.lnkE p old := by
    unfold Tr.lnkE
    rw [fresh_er, find_er, nd_er]
    rfl
  unfold Tr.lnk
  rw [e, find_er]
  split <;> rfl
theorem with_er (n : Nat) (x : Nd) : (T.with_ n x).er = T.er.with_ n x.er := by
  unfold Tr.with_ Tr.er
  simp [List.map_set]
theorem wr_er (p : ByteArray) (A : Option Go.Addr) (n c : Nat) (xs : List Int) : T.er.wr p none n 0 xs = ((T.wr p A n c xs).1.er, (T.wr p A n c xs).2) := by
  have e : T.er.wrE p n = T.wrE p n := by
    unfold Tr.wrE
    rw [find_er, nd_er, roomy_er]
    rfl
  unfold Tr.wr
  rw [e, find_er]
  split
  · unfold Tr.wr1
    rw [with_er, nd_er]
    rfl
  · rfl
theorem st_er (p : ByteArray) (a b c d : Int) : T.er.st p a b c d = ((T.st p a b c d).1.er, (T.st p a b c d).2) := by
  have e : T.er.stE p a b c d = T.stE p a b c d := by
    unfold Tr.stE
    rw [find_er]
  unfold Tr.st
  rw [e, find_er]
  split
  · unfold Tr.st1
    rw [with_er, nd_er]
    rfl
  · rfl
theorem clrE_er (p : ByteArray) : T.er.clrE p = T.clrE p := by
  unfold Tr.clrE
  rw [find_er]
theorem clr_er (p : ByteArray) : T.er.clr p = ((T.clr p).1.er, (T.clr p).2) := by
  unfold Tr.clr
  rw [clrE_er]
  split <;> rfl
theorem rm_er (p : ByteArray) : T.er.rm p = ((T.rm p).1.er, (T.rm p).2) := by
  have e : T.er.rmE p = T.rmE p := by
    unfold Tr.rmE
    rw [clrE_er]
    rfl
  unfold Tr.rm
  rw [e]
  split <;> rfl
theorem rn_er (f t : ByteArray) : T.er.rn f t = ((T.rn f t).1.er, (T.rn f t).2) := by
  have e : T.er.rnE f t = T.rnE f t := by
    unfold Tr.rnE
    rw [find_er, parE_er]
    simp only [nd_er, Nd.er]
    rfl
  unfold Tr.rn
  rw [e]
  split
  · rfl
  · split <;> rfl
theorem WF.er (h : WF T K) : WF T.er K := by
  have hk : ∀ n, (T.er.nd n).kind = (T.nd n).kind := fun n => by rw [nd_er]; rfl
  refine ⟨h.root, by rw [hk]; exact h.rootk, h.nodup, fun p n hp => by rw [len_er]; exact h.lt p n hp, ?_, ?_, ?_, h.long, by rw [len_er]; exact h.few, h.many, h.rms⟩
  · intro p x n hp
    obtain ⟨a, b, m, c, d⟩ := h.up p x n hp
    exact ⟨a, b, m, c, by rw [hk]; exact d⟩
  · intro p q n hp hq hn
    rw [hk] at hn
    exact h.one p q n hp hq hn
  · intro x hx
    obtain ⟨y, hy, rfl⟩ := List.mem_map.1 (show x ∈ T.nodes.map Nd.er from hx)
    exact h.kinds y hy
end
/-- A deed; (A, n, k): the slice that its bytes xs came in. -/
structure Dd where
  kd : Int
  p : ByteArray
  q : ByteArray
  a : Int
  b : Int
  c : Int
  d : Int
  A : Option Go.Addr
  n : Nat
  k : Nat
  xs : List Int
def Dd.er (y : Dd) : Dd := { y with A := none, k := 0 }
/-- A deed done on a tree. -/
def ap (T : Tr) (y : Dd) : Tr × Int :=
  if y.kd = 1 then T.mk' y.p ⟨4, y.a, y.b, y.c, y.d, ⟨#[]⟩, none, 0, 0, []⟩ else if y.kd = 2 then T.mk' y.p ⟨1, y.a, y.b, y.c, y.d, ⟨#[]⟩, y.A, y.n, y.k, y.xs⟩ else if y.kd = 3 then T.mk' y.p ⟨3, y.a, y.b, y.c, y.d, y.q, none, 0, 0, []⟩
  else if y.kd = 4 then T.lnk y.p y.q else if y.kd = 5 then T.wr y.p y.A y.n y.k y.xs else if y.kd = 6 then T.st y.p y.a y.b y.c y.d else if y.kd = 7 then T.rm y.p else if y.kd = 8 then T.clr y.p else if y.kd = 9 then T.rn y.p y.q else (T, 1)
theorem ap_er (T : Tr) (y : Dd) : ap T.er y.er = ((ap T y).1.er, (ap T y).2) := by
  unfold ap
  show (if y.kd = 1 then _ else if y.kd = 2 then _ else if y.kd = 3 then _ else if y.kd = 4 then _ else if y.kd = 5 then _ else if y.kd = 6 then _ else if y.kd = 7 then _ else if y.kd = 8 then _ else if y.kd = 9 then _ else _) = _
  split
  · exact mk_er y.p ⟨4, y.a, y.b, y.c, y.d, ⟨#[]⟩, none, 0, 0, []⟩
  · split
    · exact mk_er y.p ⟨1, y.a, y.b, y.c, y.d, ⟨#[]⟩, y.A, y.n, y.k, y.xs⟩
    · split
      · exact mk_er y.p ⟨3, y.a, y.b, y.c, y.d, y.q, none, 0, 0, []⟩
      · split
        · exact lnk_er _ _
        · split
          · exact wr_er _ _ _ _ _
          · split
            · exact st_er _ _ _ _ _
            · split
              · exact rm_er _
              · split
                · exact clr_er _
                · split
                  · exact rn_er _ _
                  · rfl
theorem mk_err {T : Tr} {p : ByteArray} {x : Nd} (h : (T.mk' p x).2 ≠ 0) : (T.mk' p x).1 = T := by
  unfold Tr.mk' at h ⊢
  split at h
  · exact absurd rfl h
  · rename_i h1; rw [if_neg h1]
theorem ap_err {T : Tr} {y : Dd} (h : (ap T y).2 ≠ 0) : (ap T y).1 = T := by
  unfold ap at h ⊢
  split at h
  · rename_i h0; rw [if_pos h0]; exact mk_err h
  · rename_i h0; rw [if_neg h0]; split at h
    · rename_i h0; rw [if_pos h0]; exact mk_err h
    · rename_i h0; rw [if_neg h0]; split at h
      · rename_i h0; rw [if_pos h0]; exact mk_err h
      · rename_i h0; rw [if_neg h0]; split at h
        · rename_i h0; rw [if_pos h0]; unfold Tr.lnk at h ⊢; split at h
          · exact absurd rfl h
          · rename_i h1; rw [if_neg h1]
        · rename_i h0; rw [if_neg h0]; split at h
          · rename_i h0; rw [if_pos h0]; unfold Tr.wr at h ⊢; split at h
            · exact absurd rfl h
            · rename_i h1; rw [if_neg h1]
          · rename_i h0; rw [if_neg h0]; split at h
            · rename_i h0; rw [if_pos h0]; unfold Tr.st at h ⊢; split at h
              · exact absurd rfl h
              · rename_i h1; rw [if_neg h1]
            · rename_i h0; rw [if_neg h0]; split at h
              · rename_i h0; rw [if_pos h0]; unfold Tr.rm at h ⊢; split at h
                · exact absurd rfl h
                · rename_i h1; rw [if_neg h1]
              · rename_i h0; rw [if_neg h0]; split at h
                · rename_i h0; rw [if_pos h0]; unfold Tr.clr at h ⊢; split at h
                  · exact absurd rfl h
                  · rename_i h1; rw [if_neg h1]
                · rename_i h0; rw [if_neg h0]; split at h
                  · rename_i h0; rw [if_pos h0]; unfold Tr.rn at h ⊢; split at h
                    · exact absurd rfl h
                    · rename_i h1; rw [if_neg h1]; split at h
                      · rename_i h2; rw [if_pos h2]
                      · rename_i h2; rw [if_neg h2]
                  · rename_i h0; rw [if_neg h0]
theorem mk_small4 {T : Tr} {p : ByteArray} {x : Nd} (hk : x.kind = 1) (hE : T.mkE p x = 0) : x.n ≤ 4096 := by
  unfold Tr.mkE at hE
  by_cases hf : T.fresh p = 0
  · rw [if_neg (by simp [hf])] at hE
    by_cases hm : Nt.metaOk x.mode x.uid x.gid x.mtime = false
    · rw [if_pos hm] at hE
      cases hE
    · rw [if_neg hm] at hE
      by_cases h4 : x.kind = 1 ∧ 4096 < x.n
      · rw [if_pos h4] at hE
        cases hE
      · exact Nat.le_of_not_lt fun h5 => h4 ⟨hk, h5⟩
  · rw [if_pos hf] at hE
    exact absurd hE hf
theorem WF.ap {T : Tr} {K : Nat} (h : WF T K) (y : Dd) (hn : y.xs.length = y.n) : WF (ap T y).1 (K + 301) := by
  unfold Nt.ap
  split
  · exact h.mk' fun _ => ⟨.inr (.inr rfl), rfl, Nat.zero_le _, fun _ => rfl, fun _ => rfl⟩
  · split
    · exact h.mk' fun hE => ⟨.inl rfl, hn, mk_small4 rfl hE, fun h => absurd rfl h, fun _ => rfl⟩
    · split
      · exact h.mk' fun _ => ⟨.inr (.inl rfl), rfl, Nat.zero_le _, fun _ => rfl, fun h => absurd rfl h⟩
      · split
        · exact h.lnk' _ _
        · split
          · exact h.wr' _ _ _ _ _ hn
          · split
            · exact h.st' _ _ _ _ _
            · split
              · exact h.rm' _
              · split
                · exact h.clr' _
                · split
                  · exact h.rn' _ _
                  · exact h.le (Nat.le_add_right _ _)
/-- A tree behind deeds. -/
def all (T : Tr) (l : List Dd) : Tr := l.foldl (fun T y => (ap T y).1) T
theorem all_snoc (T : Tr) (l : List Dd) (y : Dd) : all T (l ++ [y]) = (ap (all T l) y).1 := by unfold all; rw [List.foldl_append]; rfl
theorem all_app (T : Tr) (l m : List Dd) : all T (l ++ m) = all (all T l) m := by unfold all; rw [List.foldl_append]
/-- All deeds are done without an error. -/
def allOk : Tr → List Dd → Prop
  | _, [] => True
  | T, y :: r => (ap T y).2 = 0 ∧ allOk (ap T y).1 r
theorem allOk_snoc : ∀ {l : List Dd} {T : Tr} {y : Dd}, allOk T l → (ap (all T l) y).2 = 0 → allOk T (l ++ [y])
  | [], T, y, _, h => ⟨h, trivial⟩
  | x :: r, T, y, h1, h => ⟨h1.1, allOk_snoc h1.2 h⟩
theorem allOk_at : ∀ {l : List Dd} {T : Tr} {j : Nat} {y : Dd}, allOk T l → l[j]? = some y → (ap (all T (l.take j)) y).2 = 0
  | [], _, _, _, _, h => by simp at h
  | x :: r, T, 0, y, h1, h => by
    obtain rfl : x = y := by simpa using h
    exact h1.1
  | x :: r, T, j + 1, y, h1, h => allOk_at (l := r) h1.2 (by simpa using h)
theorem WF.all {K : Nat} : ∀ {l : List Dd} {T : Tr} {K : Nat}, WF T K → (∀ y ∈ l, y.xs.length = y.n) → WF (all T l) (K + 301 * l.length)
  | [], _, _, h, _ => h
  | y :: r, T, K, h, hn => by
    have := WF.all (K := K) (l := r) (h.ap y (hn y (by simp))) fun z hz => hn z (by simp [hz])
    rw [show K + 301 * (y :: r).length = K + 301 + 301 * r.length from by rw [List.length_cons]; omega]
    exact this
theorem er_all {T : Tr} (hT : T.er = T) : ∀ {l : List Dd}, (∀ y ∈ l, y.er = y) → (all T l).er = all T l := by
  intro l
  induction l generalizing T with
  | nil => intro _; exact hT
  | cons y r ih =>
    intro hl
    have h1 := hl y (by simp)
    refine ih (T := (ap T y).1) ?_ fun z hz => hl z (by simp [hz])
    have := congrArg Prod.fst (ap_er T y)
    rw [hT, h1] at this
    exact this.symm
/-- A DISK. -/
structure Dk where
  D : Tr
  V : Tr
  L : List Dd
  sy : Int
  fu : Int
def burn (f : Int) : Int := if 0 < f then f - 1 else f
def Dk.dok (M : Dk) (y : Dd) : Dk × Int :=
  if M.fu = 0 then (M, 17) else if (ap M.V y).2 = 0 then (⟨M.D, (ap M.V y).1, M.L ++ [y], M.sy, burn M.fu⟩, 0) else (⟨M.D, M.V, M.L, M.sy, burn M.fu⟩, (ap M.V y).2)
def Dk.sync (M : Dk) : Dk := if M.fu = 0 then M else ⟨all M.D M.L, M.V, [], IntKind.i64.wrap (M.sy + 1), burn M.fu⟩
def Dd.some_ (y : Dd) (m : Nat) : Dd := { y with n := m, xs := y.xs.take m }
/-- What is left of the first deed. -/
def torn (l : List Dd) (t : Int) : List Dd := match l with
  | [] => []
  | y :: _ => if (y.kd = 2 ∨ y.kd = 5) ∧ 1 ≤ min t (y.n : Int) then [y.some_ (min t (y.n : Int)).toNat] else []
def Dk.whole (M : Dk) (keep : Int) : Nat := (min (max keep 0) (M.L.length : Int)).toNat
def Dk.crashD (M : Dk) (keep t : Int) : Tr := all (all M.D (M.L.take (M.whole keep))) (torn (M.L.drop (M.whole keep)) t)
def Dk.crash (M : Dk) (keep t : Int) : Dk := ⟨M.crashD keep t, M.crashD keep t, [], M.sy, -1⟩
def Dk.fuse (M : Dk) (n : Int) : Dk := { M with fu := n }
def dnew (a b : Int) : Dk := ⟨new a b, new a b, [], 0, -1⟩
/-- What all disks keep; the trees, and the deeds, bear no places. -/
structure Dk.ok (M : Dk) (K : Nat) : Prop where
  wfD : ∃ KD, WF M.D KD ∧ KD + 301 * M.L.length ≤ K
  view : M.V = all M.D M.L
  oks : allOk M.D M.L
  er : M.D.er = M.D
  ers : ∀ y ∈ M.L, y.er = y
  lens : ∀ y ∈ M.L, y.xs.length = y.n
section
variable {M : Dk} {K : Nat}
theorem Dk.ok.wfV (h : M.ok K) : WF M.V K := by
  obtain ⟨KD, h1, h2⟩ := h.wfD
  rw [h.view]
  exact (WF.all (K := K) h1 h.lens).le h2
theorem Dk.ok.erV (h : M.ok K) : M.V.er = M.V := by
  rw [h.view]
  exact er_all h.er h.ers
theorem Dk.ok.le {K' : Nat} (h : M.ok K) (hK : K ≤ K') : M.ok K' :=
  ⟨let ⟨KD, h1, h2⟩ := h.wfD; ⟨KD, h1, Nat.le_trans h2 hK⟩, h.view, h.oks, h.er, h.ers, h.lens⟩
theorem Dk.ok.dok (h : M.ok K) {y : Dd} (he : y.er = y) (hn : y.xs.length = y.n) : (M.dok y).1.ok (K + 301) := by
  unfold Dk.dok
  split
  · exact h.le (Nat.le_add_right _ _)
  · split
    · rename_i h0
      obtain ⟨KD, h1, h2⟩ := h.wfD
      refine ⟨⟨KD, h1, ?_⟩, ?_, ?_, h.er, ?_, ?_⟩
      · show KD + 301 * (M.L ++ [y]).length ≤ _
        rw [List.length_append, List.length_singleton]
        omega
      · show (ap M.V y).1 = all M.D (M.L ++ [y])
        rw [all_snoc, h.view]
      · show allOk M.D (M.L ++ [y])
        exact allOk_snoc h.oks (by rw [← h.view]; exact h0)
      · intro z hz
        rcases List.mem_append.1 (show z ∈ M.L ++ [y] from hz) with hz | hz
        · exact h.ers z hz
        · obtain rfl : z = y := by simpa using hz
          exact he
      · intro z hz
        rcases List.mem_append.1 (show z ∈ M.L ++ [y] from hz) with hz | hz
        · exact h.lens z hz
        · obtain rfl : z = y := by simpa using hz
          exact hn
    · exact (⟨h.wfD, h.view, h.oks, h.er, h.ers, h.lens⟩ : Dk.ok ⟨M.D, M.V, M.L, M.sy, burn M.fu⟩ K).le (Nat.le_add_right _ _)
theorem Dk.ok.sync (h : M.ok K) : M.sync.ok K := by
  unfold Dk.sync
  split
  · exact h
  · obtain ⟨KD, h1, h2⟩ := h.wfD
    exact ⟨⟨K, (WF.all (K := K) h1 h.lens).le h2, Nat.le_refl _⟩, h.view, trivial, er_all h.er h.ers, fun y hy => (by cases hy), fun y hy => (by cases hy)⟩
theorem torn_len (l : List Dd) (t : Int) : (torn l t).length ≤ 1 ∧ (torn l t).length ≤ l.length := by
  unfold torn
  split
  · exact ⟨Nat.zero_le _, Nat.zero_le _⟩
  · split
    · exact ⟨Nat.le_refl _, by simp⟩
    · exact ⟨Nat.zero_le _, Nat.zero_le _⟩
theorem torn_is {l : List Dd} {t : Int} {z : Dd} (hz : z ∈ torn l t) : ∃ y m, y ∈ l ∧ m ≤ y.n ∧ z = y.some_ m := by
  unfold torn at hz
  split at hz
  · cases hz
  · rename_i y r
    split at hz
    · rename_i h
      obtain rfl : z = y.some_ (min t (y.n : Int)).toNat := by simpa using hz
      exact ⟨y, _, by simp, by omega, rfl⟩
    · cases hz
theorem whole_le (M : Dk) (keep : Int) : M.whole keep ≤ M.L.length := by unfold Dk.whole; omega
theorem Dk.ok.crash (h : M.ok K) (keep t : Int) : (M.crash keep t).ok K := by
  obtain ⟨KD, h1, h2⟩ := h.wfD
  have hw := whole_le M keep
  have hs : ∀ z ∈ torn (M.L.drop (M.whole keep)) t, z.er = z ∧ z.xs.length = z.n := by
    intro z hz
    obtain ⟨y, m, hy, hm, rfl⟩ := torn_is hz
    have hy := List.mem_of_mem_drop hy
    have e1 := h.ers y hy
    have e2 := h.lens y hy
    refine ⟨?_, ?_⟩
    · unfold Dd.er Dd.some_ at *
      obtain ⟨kd, p, q, a, b, c, d, A, n, k, xs⟩ := y
      simp at e1
      simp [← e1]
    · show (y.xs.take m).length = m
      rw [List.length_take]
      omega
  have h3 : WF (all M.D (M.L.take (M.whole keep))) (KD + 301 * (M.whole keep)) := by
    have := WF.all (K := K) (l := M.L.take (M.whole keep)) h1 fun y hy => h.lens y (List.mem_of_mem_take hy)
    rw [List.length_take, Nat.min_eq_left hw] at this
    exact this
  have h4 : WF (M.crashD keep t) (KD + 301 * M.whole keep + 301 * (torn (M.L.drop (M.whole keep)) t).length) := WF.all (K := K) h3 fun z hz => (hs z hz).2
  have h5 := torn_len (M.L.drop (M.whole keep)) t
  rw [List.length_drop] at h5
  have h6 : KD + 301 * M.whole keep + 301 * (torn (M.L.drop (M.whole keep)) t).length ≤ K := by omega
  refine ⟨⟨K, h4.le h6, Nat.le_refl _⟩, rfl, trivial, ?_, fun y hy => (by cases hy), fun y hy => (by cases hy)⟩
  exact er_all (er_all h.er fun y hy => h.ers y (List.mem_of_mem_take hy)) fun z hz => (hs z hz).1
theorem Dk.ok.fuse (h : M.ok K) (n : Int) : (M.fuse n).ok K := ⟨h.wfD, h.view, h.oks, h.er, h.ers, h.lens⟩
theorem dnew_ok (a b : Int) (ha : a ≤ 9223372036854775807) (hb : b ≤ 9223372036854775807) : (dnew a b).ok 1 :=
  ⟨⟨1, WF.new a b ha hb, Nat.le_refl _⟩, rfl, trivial, rfl, fun y hy => (by cases hy), fun y hy => (by cases hy)⟩
end
end Nt
end Go.Proofs.YthgbncpiehcghaaGreatDoor
