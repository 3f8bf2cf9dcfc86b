/- PLAIN MATHEMATICS OF LAYER 13, SEVENTH PART: every operation keeps what all trees keep. No Go text is named. -/
import Derived.Test.YtbianfjennnofaaDoorM13e
namespace Go.Proofs.YtbianfjennnofaaDoor
set_option linter.unusedVariables false
namespace Nt
variable {T : Tr} {K : Nat}
theorem WF.le {K' : Nat} (h : WF T K) (hK : K ≤ K') : WF T K' :=
  ⟨h.root, h.rootk, h.nodup, h.lt, h.up, h.one, h.kinds, fun p n hp => Nat.le_trans (h.long p n hp) hK, Nat.le_trans h.few hK, Nat.le_trans h.many hK, h.rms⟩
theorem WF.mk' (h : WF T K) {p : ByteArray} {x : Nd} (hx : T.mkE p x = 0 → x.ok) : WF (T.mk' p x).1 (K + 301) := by
  unfold Tr.mk'
  by_cases hE : T.mkE p x = 0
  · rw [if_pos hE]
    refine h.made ?_ (hx hE)
    unfold Tr.mkE at hE
    by_cases hf : T.fresh p = 0
    · exact hf
    · rw [if_pos hf] at hE
      exact absurd hE hf
  · rw [if_neg hE]
    exact h.le (Nat.le_add_right _ _)
theorem WF.lnk' (h : WF T K) (p old : ByteArray) : WF (T.lnk p old).1 (K + 301) := by
  unfold Tr.lnk
  by_cases hE : T.lnkE p old = 0
  · rw [if_pos hE]
    unfold Tr.lnkE at hE
    by_cases hf : T.fresh p = 0
    · rw [if_neg (by simp [hf])] at hE
      by_cases hc : (T.find old).2 = 0
      · rw [if_neg (by simp [hc])] at hE
        by_cases hk : (T.nd (T.find old).1).kind = 1
        · exact h.lnk hf (h.find_ok hc).2 hk
        · rw [if_pos hk] at hE
          cases hE
      · rw [if_pos hc] at hE
        exact absurd hE hc
    · rw [if_pos hf] at hE
      exact absurd hE hf
  · rw [if_neg hE]
    exact h.le (Nat.le_add_right _ _)
theorem WF.clr' (h : WF T K) (p : ByteArray) : WF (T.clr p).1 (K + 301) := by
  unfold Tr.clr
  by_cases hE : T.clrE p = 0
  · rw [if_pos hE]
    exact (h.cut (Pp.pieces_ne p)).le (Nat.le_add_right _ _)
  · rw [if_neg hE]
    exact h.le (Nat.le_add_right _ _)
theorem WF.rm' (h : WF T K) (p : ByteArray) : WF (T.rm p).1 (K + 301) := by
  unfold Tr.rm
  by_cases hE : T.rmE p = 0
  · rw [if_pos hE]
    exact (h.cut (Pp.pieces_ne p)).le (Nat.le_add_right _ _)
  · rw [if_neg hE]
    exact h.le (Nat.le_add_right _ _)
theorem WF.st' (h : WF T K) (p : ByteArray) (a b c d : Int) : WF (T.st p a b c d).1 (K + 301) := by
  unfold Tr.st
  by_cases hE : T.stE p a b c d = 0
  · rw [if_pos hE]
    have hc : (T.find p).2 = 0 := by
      unfold Tr.stE at hE
      by_cases hc : (T.find p).2 = 0
      · exact hc
      · rw [if_pos hc] at hE
        exact absurd hE hc
    have hl := h.lt _ _ (h.find_ok hc).2
    exact (h.with_ (x := { T.nd (T.find p).1 with mode := a, uid := b, gid := c, mtime := d }) hl rfl (h.ndok hl)).le (Nat.le_add_right _ _)
  · rw [if_neg hE]
    exact h.le (Nat.le_add_right _ _)
theorem WF.wr' (h : WF T K) (p : ByteArray) (A : Option Go.Addr) (n c : Nat) (xs : List Int) (hn : xs.length = n) : WF (T.wr p A n c xs).1 (K + 301) := by
  unfold Tr.wr
  by_cases hE : T.wrE p n = 0
  · rw [if_pos hE]
    unfold Tr.wrE at hE
    by_cases hc : (T.find p).2 = 0
    · rw [if_neg (by simp [hc])] at hE
      have hl := h.lt _ _ (h.find_ok hc).2
      have ho := h.ndok hl
      by_cases h4 : (T.nd (T.find p).1).kind = 4
      · rw [if_pos h4] at hE
        cases hE
      · rw [if_neg h4] at hE
        by_cases h3 : (T.nd (T.find p).1).kind = 3
        · rw [if_pos h3] at hE
          cases hE
        · rw [if_neg h3] at hE
          by_cases hm : 4096 < n
          · rw [if_pos hm] at hE
            cases hE
          · exact (h.with_ (x := { T.nd (T.find p).1 with A := A, n := n, c := c, xs := xs }) hl rfl ⟨ho.1, hn, by show n ≤ 4096; omega, fun hk => by
              rcases ho.1 with e | e | e
              · exact absurd e hk
              · exact absurd e h3
              · exact absurd e h4, ho.2.2.2.2⟩).le (Nat.le_add_right _ _)
    · rw [if_pos hc] at hE
      exact absurd hE hc
  · rw [if_neg hE]
    exact h.le (Nat.le_add_right _ _)
theorem WF.rn' (h : WF T K) (f t : ByteArray) : WF (T.rn f t).1 (K + 301) := by
  unfold Tr.rn
  by_cases hE : T.rnE f t = 0
  · rw [if_pos hE]
    unfold Tr.rnE at hE
    by_cases hc : (T.find f).2 = 0
    · rw [if_neg (by simp [hc])] at hE
      by_cases hn0 : (T.find f).1 = 0
      · rw [if_pos hn0] at hE
        cases hE
      · rw [if_neg hn0] at hE
        by_cases hpt : T.parE t = 0
        · rw [if_neg (by simp [hpt])] at hE
          obtain ⟨h1, q, x, m, e4, hx, hm, hk, _⟩ := h.par_ok hpt
          obtain ⟨hp, hj⟩ := h.find_ok hc
          have hf0 : f.size ≠ 0 := fun e => hn0 ((h.find_root hc).2 e)
          have hpf : isP f = true := hp.resolve_left hf0
          rw [nms_isP hpf] at hj
          refine h.rn (n := (T.find f).1) (Mv.ok h hj (Pp.pieces_ne f) e4 hx hm hk ?_ ?_) (by rw [txt_pieces]; exact (isP_iff.1 h1).1)
          · intro k hk2
            rw [hk2] at hE
            simp only at hE
            by_cases e1 : k = (T.find f).1
            · rw [if_pos e1] at hE
              cases hE
            · rw [if_neg e1] at hE
              by_cases e2 : (T.nd (T.find f).1).kind = 4
              · rw [if_pos e2] at hE
                cases hE
              · rw [if_neg e2] at hE
                by_cases e3 : (T.nd k).kind = 4
                · rw [if_pos e3] at hE
                  cases hE
                · exact ⟨e1, e2, e3⟩
          · intro h4 hpre
            cases ha : at_ T.paths (Pp.pieces t) with
            | some k =>
              rw [ha] at hE
              simp only at hE
              by_cases e1 : k = (T.find f).1
              · rw [if_pos e1] at hE
                cases hE
              · rw [if_neg e1, if_pos h4] at hE
                cases hE
            | none =>
              rw [ha] at hE
              simp only at hE
              rw [if_pos h4, if_pos hpre] at hE
              cases hE
        · rw [if_pos hpt] at hE
          exact absurd hE hpt
    · rw [if_pos hc] at hE
      exact absurd hE hc
  · rw [if_neg hE]
    by_cases h2 : T.rnE f t = -1
    · rw [if_pos h2]
      exact h.le (Nat.le_add_right _ _)
    · rw [if_neg h2]
      exact h.le (Nat.le_add_right _ _)
/-! ### how many paths; clearing the root's names -/
theorem len_mk (p : ByteArray) (x : Nd) : (T.mk' p x).1.paths.length ≤ T.paths.length + 1 := by
  unfold Tr.mk'
  split
  · simp [Tr.mk1]
  · simp
theorem len_lnk (p q : ByteArray) : (T.lnk p q).1.paths.length ≤ T.paths.length + 1 := by
  unfold Tr.lnk
  split
  · simp [Tr.lnk1]
  · simp
theorem len_wr (p : ByteArray) (A : Option Go.Addr) (n c : Nat) (xs : List Int) : (T.wr p A n c xs).1.paths.length ≤ T.paths.length + 1 := by
  unfold Tr.wr
  split
  · simp [Tr.wr1, Tr.with_]
  · simp
theorem len_st (p : ByteArray) (a b c d : Int) : (T.st p a b c d).1.paths.length ≤ T.paths.length + 1 := by
  unfold Tr.st
  split
  · simp [Tr.st1, Tr.with_]
  · simp
theorem len_cut (R : Ps) (p : Path) : (cut R p).length ≤ R.length := List.length_filter_le _ _
theorem len_clr (p : ByteArray) : (T.clr p).1.paths.length ≤ T.paths.length + 1 := by
  unfold Tr.clr
  split
  · exact Nat.le_succ_of_le (len_cut _ _)
  · simp
theorem len_rm (p : ByteArray) : (T.rm p).1.paths.length ≤ T.paths.length + 1 := by
  unfold Tr.rm
  split
  · exact Nat.le_succ_of_le (len_cut _ _)
  · simp
theorem len_rn (f t : ByteArray) : (T.rn f t).1.paths.length ≤ T.paths.length + 1 := by
  unfold Tr.rn
  split
  · show ((cut T.paths _).map _).length ≤ _
    rw [List.length_map]
    exact Nat.le_succ_of_le (len_cut _ _)
  · split <;> simp
theorem pieces_one {s : ByteArray} (h : Pp.Nm s) : Pp.pieces s = [s] := by
  have := pieces_txt (p := [s]) (by simp) (by intro x hx; obtain rfl : x = s := (by simpa using hx); exact h)
  exact this
theorem isP_one {s : ByteArray} (h : Pp.Nm s) : isP s = true := isP_iff.2 ⟨by have := nm_le h; omega, by rw [pieces_one h]; intro x hx; obtain rfl : x = s := (by simpa using hx); exact h⟩
/-- A name of the root's is cleared. -/
theorem WF.clr_kid (h : WF T K) {s : ByteArray} {k : Nat} (ha : at_ T.paths [s] = some k) : T.clr s = (T.clr1 [s], 0) := by
  have hp := at_mem ha
  have hn : Pp.Nm s := (h.up [] s k hp).2.1
  have h0 : s.size ≠ 0 := by have := nm_pos hn; omega
  have hf : T.find s = (k, 0) := by
    unfold Tr.find
    rw [if_neg h0, if_pos (isP_one hn), pieces_one hn]
    exact (h.fnd_some [s] [] 0 k h.root).2 hp
  have hE : T.clrE s = 0 := by unfold Tr.clrE; rw [hf, if_neg (by simp), if_neg h0]
  unfold Tr.clr
  rw [if_pos hE, pieces_one hn]
theorem at_clr {s t : ByteArray} : at_ (T.clr1 [s]).paths [t] = if s = t then none else at_ T.paths [t] := by
  show at_ (cut T.paths [s]) [t] = _
  rw [at_cut]
  by_cases e : s = t
  · subst e; simp
  · have : ¬ [s] <+: [t] := fun hp => e (by
      obtain ⟨u, hu⟩ := hp
      simp at hu
      exact hu.1)
    rw [if_neg this, if_neg e]
/-- Where the root has no names, there is nothing. -/
theorem WF.bare (h : WF T K) (hn : ∀ s, at_ T.paths [s] = none) : ∀ p n, (p, n) ∈ T.paths → n = 0 := by
  intro p n hp
  rcases p with _ | ⟨x, p⟩
  · exact nodup_one h.nodup hp h.root
  · exfalso
    by_cases hpe : p = []
    · subst hpe
      exact at_none (hn x) _ hp
    · obtain ⟨j, h1, _⟩ := h.pre p [x] n hpe hp
      exact at_none (hn x) _ h1
theorem used_none {R : Ps} (hR : ∀ p n, (p, n) ∈ R → n = 0) (f : Nd → Nat) (l : List Nd) : used R f l = 0 := by
  unfold used
  have hz : ∀ i, (if i = 0 then 0 else if cnt R i = 0 then 0 else f (l.getD i Nd.zero)) = 0 := fun i => by
    by_cases h0 : i = 0
    · rw [if_pos h0]
    · have hc : cnt R i = 0 := by
        unfold cnt
        rw [List.length_eq_zero_iff, List.filter_eq_nil_iff]
        rintro ⟨p, n⟩ hp
        have := hR p n hp
        simp
        omega
      rw [if_neg h0, if_pos hc]
  have : ∀ g : Nat → Nat, (∀ i, g i = 0) → ∀ k, sum g k = 0 := fun g hg k => by
    induction k with
    | zero => rfl
    | succ k ih => show sum g k + g k = 0; rw [ih, hg]
  exact this _ hz _
end Nt
end Go.Proofs.YtbianfjennnofaaDoor
/- PLAIN MATHEMATICS OF LAYER 13, NINTH PART: what is used fits into the room. No Go text is named. -/
namespace Go.Proofs.YtbianfjennnofaaDoor
set_option linter.unusedVariables false
namespace Nt
variable {T : Tr} {K : Nat}
theorem sum_mono {g g' : Nat → Nat} : ∀ {k : Nat}, (∀ i, i < k → g i ≤ g' i) → sum g k ≤ sum g' k
  | 0, _ => Nat.le_refl _
  | k + 1, h => by
    unfold sum
    have := sum_mono (g := g) (g' := g') (k := k) fun i hi => h i (by omega)
    have := h k (by omega)
    omega
theorem used_mono {R R' : Ps} (f : Nd → Nat) (l : List Nd) (h : ∀ i, cnt R' i ≤ cnt R i) : used R' f l ≤ used R f l := by
  unfold used
  refine sum_mono fun i hi => ?_
  have := h i
  by_cases h0 : i = 0
  · simp [h0]
  · rw [if_neg h0, if_neg h0]
    by_cases h1 : cnt R' i = 0
    · rw [if_pos h1]; omega
    · rw [if_neg h1, if_neg (by omega)]
      exact Nat.le_refl _
theorem cnt_cut (R : Ps) (p : Path) (i : Nat) : cnt (cut R p) i ≤ cnt R i := by
  unfold cnt cut
  exact ((List.filter_sublist (p := fun x : Path × Nat => decide (¬ p <+: x.1)) (l := R)).filter _).length_le
theorem cnt_rn (f t : Path) (i : Nat) : cnt (T.rn1 f t).paths i ≤ cnt T.paths i := by
  unfold Tr.rn1
  show cnt ((cut T.paths t).map (mv f t)) i ≤ _
  rw [cnt_map (fun x => by unfold mv; split <;> rfl)]
  exact cnt_cut _ _ _
/-- What is used fits. -/
def Tr.Fits (T : Tr) : Prop := (T.usedN : Int) ≤ T.room ∧ (T.usedB : Int) ≤ T.vol
theorem roomy_iff {a b : Int} : T.roomy a b = true ↔ T.usedN + a ≤ T.room ∧ T.usedB + b ≤ T.vol := by
  unfold Tr.roomy
  simp
/-- The room is the same; what is used fits, if it did. -/
def Fit (T U : Tr) : Prop := U.room = T.room ∧ U.vol = T.vol ∧ (T.Fits → U.Fits)
theorem Fit.refl (T : Tr) : Fit T T := ⟨rfl, rfl, id⟩
theorem fit_clr (p : Path) : Fit T (T.clr1 p) := by
  refine ⟨rfl, rfl, fun h => ?_⟩
  have h1 : (T.clr1 p).usedN ≤ T.usedN := used_mono _ _ (cnt_cut _ _)
  have h2 : (T.clr1 p).usedB ≤ T.usedB := used_mono _ _ (cnt_cut _ _)
  obtain ⟨a, b⟩ := h
  exact ⟨by show _ ≤ T.room; omega, by show _ ≤ T.vol; omega⟩
theorem fit_rn (f t : Path) : Fit T (T.rn1 f t) := by
  refine ⟨rfl, rfl, fun h => ?_⟩
  have h1 : (T.rn1 f t).usedN ≤ T.usedN := used_mono _ _ (cnt_rn f t)
  have h2 : (T.rn1 f t).usedB ≤ T.usedB := used_mono _ _ (cnt_rn f t)
  obtain ⟨a, b⟩ := h
  exact ⟨by show _ ≤ T.room; omega, by show _ ≤ T.vol; omega⟩
theorem fit_mk (h : WF T K) {p : ByteArray} {x : Nd} (hx : x.xs.length = x.n) (hr : T.roomy 1 x.n = true) : Fit T (T.mk1 p x) := by
  refine ⟨rfl, rfl, fun _ => ?_⟩
  obtain ⟨a, b⟩ := roomy_iff.1 hr
  have h1 : (T.mk1 p x).usedN = T.usedN + 1 := used_new (fun _ => 1) T.nodes x _ h.pos h.lt
  have h2 : (T.mk1 p x).usedB = T.usedB + x.xs.length := used_new (fun x => x.xs.length) T.nodes x _ h.pos h.lt
  exact ⟨by show _ ≤ T.room; omega, by show _ ≤ T.vol; omega⟩
theorem fit_lnk (h : WF T K) {p : ByteArray} {q : Path} {n : Nat} (hn : (q, n) ∈ T.paths) : Fit T (T.lnk1 p n) := by
  refine ⟨rfl, rfl, fun hf => ?_⟩
  have hc : ∀ i, i < T.nodes.length → i ≠ 0 → (cnt (T.lnk1 p n).paths i = 0 ↔ cnt T.paths i = 0) := fun i _ _ => by
    show cnt (T.paths ++ [(Pp.pieces p, n)]) i = 0 ↔ _
    rw [cnt_app, cnt_one]
    by_cases e : n = i
    · subst e
      have : 0 < cnt T.paths n := cnt_pos.2 ⟨q, hn⟩
      rw [if_pos rfl]
      omega
    · rw [if_neg e]
      omega
  have h1 : (T.lnk1 p n).usedN = T.usedN := used_same _ _ hc
  have h2 : (T.lnk1 p n).usedB = T.usedB := used_same _ _ hc
  obtain ⟨a, b⟩ := hf
  exact ⟨by show _ ≤ T.room; omega, by show _ ≤ T.vol; omega⟩
theorem fit_with (h : WF T K) {q : Path} {n : Nat} {x : Nd} (hn : (q, n) ∈ T.paths) (h0 : n = 0 → x.xs.length = (T.nd n).xs.length) (hr : (T.Fits → (T.usedB : Int) + x.xs.length - (T.nd n).xs.length ≤ T.vol)) : Fit T (T.with_ n x) := by
  have hl := h.lt _ _ hn
  refine ⟨rfl, rfl, fun hf => ?_⟩
  have h1 : (T.with_ n x).usedN = T.usedN := used_set0 (fun _ => 1) T.nodes x hl rfl
  refine ⟨by rw [h1]; exact hf.1, ?_⟩
  show ((T.with_ n x).usedB : Int) ≤ T.vol
  by_cases e : n = 0
  · have h2 : (T.with_ n x).usedB = T.usedB := used_set0 (fun x => x.xs.length) T.nodes x hl (h0 e)
    rw [h2]
    exact hf.2
  · have h2 : (T.with_ n x).usedB + (T.nd n).xs.length = T.usedB + x.xs.length := used_set (fun x => x.xs.length) T.nodes x hl e (cnt_pos.2 ⟨q, hn⟩)
    have := hr hf
    omega
theorem Fit.mk' (h : WF T K) {p : ByteArray} {x : Nd} (hx : x.xs.length = x.n) : Fit T (T.mk' p x).1 := by
  unfold Tr.mk'
  by_cases hE : T.mkE p x = 0
  · rw [if_pos hE]
    refine fit_mk h hx ?_
    unfold Tr.mkE at hE
    by_cases hf : T.fresh p = 0
    · rw [if_neg (by simp [hf])] at hE
      by_cases h1 : metaOk x.mode x.uid x.gid x.mtime = false
      · rw [if_pos h1] at hE; cases hE
      · rw [if_neg h1] at hE
        by_cases h2 : x.kind = 1 ∧ 4096 < x.n
        · rw [if_pos h2] at hE; cases hE
        · rw [if_neg h2] at hE
          by_cases h3 : x.kind = 3 ∧ linkE x.link ≠ 0
          · rw [if_pos h3] at hE; exact absurd hE h3.2
          · rw [if_neg h3] at hE
            by_cases h4 : T.roomy 1 x.n = false
            · rw [if_pos h4] at hE; cases hE
            · simpa using h4
    · rw [if_pos hf] at hE
      exact absurd hE hf
  · rw [if_neg hE]
    exact Fit.refl T
theorem Fit.lnk' (h : WF T K) (p old : ByteArray) : Fit T (T.lnk p old).1 := by
  unfold Tr.lnk
  by_cases hE : T.lnkE p old = 0
  · rw [if_pos hE]
    unfold Tr.lnkE at hE
    by_cases hf : T.fresh p = 0
    · rw [if_neg (by simp [hf])] at hE
      by_cases hc : (T.find old).2 = 0
      · exact fit_lnk h (h.find_ok hc).2
      · rw [if_pos hc] at hE
        exact absurd hE hc
    · rw [if_pos hf] at hE
      exact absurd hE hf
  · rw [if_neg hE]
    exact Fit.refl T
theorem Fit.clr' (p : ByteArray) : Fit T (T.clr p).1 := by
  unfold Tr.clr
  split
  · exact fit_clr _
  · exact Fit.refl T
theorem Fit.rm' (p : ByteArray) : Fit T (T.rm p).1 := by
  unfold Tr.rm
  split
  · exact fit_clr _
  · exact Fit.refl T
theorem Fit.rn' (f t : ByteArray) : Fit T (T.rn f t).1 := by
  unfold Tr.rn
  split
  · exact fit_rn _ _
  · split <;> exact Fit.refl T
theorem Fit.st' (h : WF T K) (p : ByteArray) (a b c d : Int) : Fit T (T.st p a b c d).1 := by
  unfold Tr.st
  by_cases hE : T.stE p a b c d = 0
  · rw [if_pos hE]
    have hc : (T.find p).2 = 0 := by
      unfold Tr.stE at hE
      by_cases hc : (T.find p).2 = 0
      · exact hc
      · rw [if_pos hc] at hE
        exact absurd hE hc
    exact fit_with h (x := { T.nd (T.find p).1 with mode := a, uid := b, gid := c, mtime := d }) (h.find_ok hc).2 (fun _ => rfl) fun hf => by
      have := hf.2
      show (T.usedB : Int) + (T.nd (T.find p).1).xs.length - _ ≤ _
      omega
  · rw [if_neg hE]
    exact Fit.refl T
theorem Fit.wr' (h : WF T K) (p : ByteArray) (A : Option Go.Addr) (n c : Nat) (xs : List Int) (hn : xs.length = n) : Fit T (T.wr p A n c xs).1 := by
  unfold Tr.wr
  by_cases hE : T.wrE p n = 0
  · rw [if_pos hE]
    unfold Tr.wrE at hE
    by_cases hc : (T.find p).2 = 0
    · rw [if_neg (by simp [hc])] at hE
      by_cases h4 : (T.nd (T.find p).1).kind = 4
      · rw [if_pos h4] at hE; cases hE
      · rw [if_neg h4] at hE
        by_cases h3 : (T.nd (T.find p).1).kind = 3
        · rw [if_pos h3] at hE; cases hE
        · rw [if_neg h3] at hE
          by_cases h5 : 4096 < n
          · rw [if_pos h5] at hE; cases hE
          · rw [if_neg h5] at hE
            by_cases h6 : T.roomy 0 ((n : Int) - (T.nd (T.find p).1).n) = false
            · rw [if_pos h6] at hE; cases hE
            · have h7 := roomy_iff.1 (by simpa using h6)
              have hm := (h.find_ok hc).2
              have hk := (h.ndok (h.lt _ _ hm)).2.1
              refine fit_with h (x := { T.nd (T.find p).1 with A := A, n := n, c := c, xs := xs }) hm (fun e => ?_) fun _ => ?_
              · rw [e, h.rootk] at h4
                exact absurd rfl h4
              · show (T.usedB : Int) + xs.length - _ ≤ _
                rw [hk, hn]
                omega
    · rw [if_pos hc] at hE
      exact absurd hE hc
  · rw [if_neg hE]
    exact Fit.refl T
theorem fits_new (a b : Int) : (Nt.new a b).Fits := by
  have h1 : (Nt.new a b).usedN = 0 := rfl
  have h2 : (Nt.new a b).usedB = 0 := rfl
  refine ⟨?_, ?_⟩
  · rw [h1]; show (0 : Int) ≤ max a 0; omega
  · rw [h2]; show (0 : Int) ≤ max b 0; omega
end Nt
end Go.Proofs.YtbianfjennnofaaDoor
