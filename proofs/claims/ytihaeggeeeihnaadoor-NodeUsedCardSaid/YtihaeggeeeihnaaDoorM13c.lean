/- PLAIN MATHEMATICS OF LAYER 13, THIRD PART: what each operation keeps. No Go text is named. -/
import Derived.Test.YtihaeggeeeihnaaDoorM13b
namespace Go.Proofs.YtihaeggeeeihnaaDoor
set_option linter.unusedVariables false
open Go.RowKit
namespace Nt
variable {T : Tr} {K : Nat}
theorem WF.pos (h : WF T K) : 0 < T.nodes.length := by have := h.lt _ _ h.root; omega
theorem WF.ndok (h : WF T K) {n : Nat} (hn : n < T.nodes.length) : (T.nd n).ok := h.kinds _ (by unfold Tr.nd; simp [List.getD, hn])
theorem nd_mk1 {p : ByteArray} {x : Nd} {n : Nat} : (T.mk1 p x).nd n = if n = T.nodes.length then x else T.nd n := getD_snoc
theorem nd_with {x : Nd} {n m : Nat} (hm : m < T.nodes.length) : (T.with_ m x).nd n = if n = m then x else T.nd n := getD_set hm
theorem at_snoc {R : Ps} {P r : Path} {n : Nat} (h : at_ R P = none) : at_ (R ++ [(P, n)]) r = if r = P then some n else at_ R r := by
  rw [at_app]
  by_cases e : r = P
  · subst e
    rw [h, if_pos rfl]
    simp [at_]
  · rw [if_neg e]
    have : at_ [(P, n)] r = none := by unfold at_; rw [if_neg (fun e2 => e e2.symm)]; rfl
    rw [this]
    cases at_ R r <;> rfl
theorem WF.made (h : WF T K) {p : ByteArray} {x : Nd} (hf : T.fresh p = 0) (hx : x.ok) : WF (T.mk1 p x) (K + 301) := by
  obtain ⟨hpar, hat⟩ := h.fresh_ok hf
  obtain ⟨h1, q, y, m, e1, hy, hm, hk, _⟩ := h.par_ok hpar
  have hL := h.pos
  have hps := (isP_iff.1 h1).1
  have old : ∀ {n : Nat}, n < T.nodes.length → (T.mk1 p x).nd n = T.nd n := fun {n} hn => by rw [nd_mk1, if_neg (by omega)]
  have mem : ∀ {r : Path} {n : Nat}, (r, n) ∈ (T.mk1 p x).paths ↔ (r, n) ∈ T.paths ∨ (r = q ++ [y] ∧ n = T.nodes.length) := fun {r n} => by
    show (r, n) ∈ T.paths ++ [(Pp.pieces p, T.nodes.length)] ↔ _
    rw [List.mem_append, e1]
    simp
  refine ⟨mem.2 (.inl h.root), by rw [old hL]; exact h.rootk, ?_, ?_, ?_, ?_, ?_, ?_, ?_, ?_, h.rms⟩
  · show ((T.paths ++ [(Pp.pieces p, T.nodes.length)]).map (·.1)).Nodup
    rw [List.map_append, List.nodup_append]
    refine ⟨h.nodup, by simp, ?_⟩
    intro a ha b hb
    obtain ⟨⟨a', n⟩, ha', rfl⟩ := List.mem_map.1 ha
    obtain rfl : b = Pp.pieces p := by simpa using hb
    rintro rfl
    exact at_none hat n ha'
  · intro r n hr
    show n < (T.nodes ++ [x]).length
    rw [List.length_append, List.length_singleton]
    rcases mem.1 hr with h2 | ⟨_, rfl⟩
    · have := h.lt _ _ h2; omega
    · omega
  · intro r z n hr
    rcases mem.1 hr with h2 | ⟨h2, rfl⟩
    · obtain ⟨a, b, m', c, d⟩ := h.up r z n h2
      exact ⟨a, b, m', mem.2 (.inl c), by rw [old (h.lt _ _ c)]; exact d⟩
    · obtain ⟨rfl, h3⟩ := List.append_inj' h2 rfl
      obtain rfl : z = y := by simpa using h3
      exact ⟨by omega, hy, m, mem.2 (.inl hm), by rw [old (h.lt _ _ hm)]; exact hk⟩
  · intro a b n ha hb hn
    rcases mem.1 ha with h2 | ⟨rfl, rfl⟩ <;> rcases mem.1 hb with h3 | ⟨rfl, h3⟩
    · rw [old (h.lt _ _ h2)] at hn; exact h.one _ _ _ h2 h3 hn
    · have := h.lt _ _ h2; omega
    · have := h.lt _ _ h3; omega
    · rfl
  · intro z hz
    rcases List.mem_append.1 (show z ∈ T.nodes ++ [x] from hz) with h2 | h2
    · exact h.kinds z h2
    · obtain rfl : z = x := by simpa using h2
      exact hx
  · intro r n hr
    rcases mem.1 hr with h2 | ⟨rfl, rfl⟩
    · have := h.long _ _ h2; omega
    · rw [← e1, txt_pieces]; omega
  · show (T.nodes ++ [x]).length ≤ _
    have := h.few
    simp; omega
  · show (T.paths ++ [_]).length ≤ _
    have := h.many
    simp; omega
theorem WF.lnk (h : WF T K) {p : ByteArray} {r0 : Path} {n : Nat} (hf : T.fresh p = 0) (hn : (r0, n) ∈ T.paths) (hk1 : (T.nd n).kind = 1) : WF (T.lnk1 p n) (K + 301) := by
  obtain ⟨hpar, hat⟩ := h.fresh_ok hf
  obtain ⟨h1, q, y, m, e1, hy, hm, hk, _⟩ := h.par_ok hpar
  have hps := (isP_iff.1 h1).1
  have mem : ∀ {r : Path} {j : Nat}, (r, j) ∈ (T.lnk1 p n).paths ↔ (r, j) ∈ T.paths ∨ (r = q ++ [y] ∧ j = n) := fun {r j} => by
    show (r, j) ∈ T.paths ++ [(Pp.pieces p, n)] ↔ _
    rw [List.mem_append, e1]
    simp
  have hn0 : n ≠ 0 := by
    rintro rfl
    rw [h.rootk] at hk1
    omega
  refine ⟨mem.2 (.inl h.root), h.rootk, ?_, ?_, ?_, ?_, h.kinds, ?_, ?_, ?_, h.rms⟩
  · show ((T.paths ++ [(Pp.pieces p, n)]).map (·.1)).Nodup
    rw [List.map_append, List.nodup_append]
    refine ⟨h.nodup, by simp, ?_⟩
    intro a ha b hb
    obtain ⟨⟨a', j⟩, ha', rfl⟩ := List.mem_map.1 ha
    obtain rfl : b = Pp.pieces p := by simpa using hb
    rintro rfl
    exact at_none hat j ha'
  · intro r j hr
    rcases mem.1 hr with h2 | ⟨_, rfl⟩
    · exact h.lt _ _ h2
    · exact h.lt _ _ hn
  · intro r z j hr
    rcases mem.1 hr with h2 | ⟨h2, rfl⟩
    · obtain ⟨a, b, m', c, d⟩ := h.up r z j h2
      exact ⟨a, b, m', mem.2 (.inl c), d⟩
    · obtain ⟨rfl, h3⟩ := List.append_inj' h2 rfl
      obtain rfl : z = y := by simpa using h3
      exact ⟨hn0, hy, m, mem.2 (.inl hm), hk⟩
  · intro a b j ha hb hj
    rcases mem.1 ha with h2 | ⟨rfl, rfl⟩
    · rcases mem.1 hb with h3 | ⟨rfl, rfl⟩
      · exact h.one _ _ _ h2 h3 hj
      · exact absurd hk1 hj
    · exact absurd hk1 hj
  · intro r j hr
    rcases mem.1 hr with h2 | ⟨rfl, rfl⟩
    · have := h.long _ _ h2; omega
    · rw [← e1, txt_pieces]; omega
  · have := h.few
    show T.nodes.length ≤ _
    omega
  · show (T.paths ++ [_]).length ≤ _
    have := h.many
    simp; omega
theorem WF.more (h : WF T K) {K' : Nat} (hK : K ≤ K') : WF T K' :=
  ⟨h.root, h.rootk, h.nodup, h.lt, h.up, h.one, h.kinds, fun p n hm => Nat.le_trans (h.long p n hm) hK, Nat.le_trans h.few hK, Nat.le_trans h.many hK, h.rms⟩
theorem WF.with_ (h : WF T K) {n : Nat} {x : Nd} (hn : n < T.nodes.length) (hk : x.kind = (T.nd n).kind) (hx : x.ok) : WF (T.with_ n x) K := by
  have hkk : ∀ j, ((T.with_ n x).nd j).kind = (T.nd j).kind := fun j => by
    rw [nd_with hn]
    by_cases e : j = n
    · subst e; rw [if_pos rfl, hk]
    · rw [if_neg e]
  refine ⟨h.root, by rw [hkk]; exact h.rootk, h.nodup, ?_, ?_, ?_, ?_, h.long, ?_, h.many, h.rms⟩
  · intro p j hj
    show j < (T.nodes.set n x).length
    rw [List.length_set]
    exact h.lt _ _ hj
  · intro p y j hj
    obtain ⟨a, b, m, c, d⟩ := h.up p y j hj
    exact ⟨a, b, m, c, by rw [hkk]; exact d⟩
  · intro p q j hp hq hj
    rw [hkk] at hj
    exact h.one p q j hp hq hj
  · intro z hz
    rcases List.mem_or_eq_of_mem_set (show z ∈ T.nodes.set n x from hz) with h2 | rfl
    · exact h.kinds z h2
    · exact hx
  · show (T.nodes.set n x).length ≤ K
    rw [List.length_set]
    exact h.few
theorem mem_cut {R : Ps} {p r : Path} {n : Nat} : (r, n) ∈ cut R p ↔ (r, n) ∈ R ∧ ¬ p <+: r := by
  unfold cut
  rw [List.mem_filter]
  simp
theorem at_cut {R : Ps} (p r : Path) : at_ (cut R p) r = if p <+: r then none else at_ R r := by
  unfold cut
  by_cases h : p <+: r
  · rw [if_pos h]
    exact at_filter_none fun n => by simp [h]
  · rw [if_neg h]
    exact at_filter fun n => by simp [h]
theorem nodup_filter {R : Ps} (f : Path × Nat → Bool) (h : (R.map (·.1)).Nodup) : ((R.filter f).map (·.1)).Nodup := h.sublist (List.filter_sublist.map _)
theorem WF.cut (h : WF T K) {p : Path} (hp : p ≠ []) : WF (T.clr1 p) K := by
  refine ⟨mem_cut.2 ⟨h.root, fun e => hp (List.prefix_nil.1 e)⟩, h.rootk, nodup_filter _ h.nodup, ?_, ?_, ?_, h.kinds, ?_, h.few, ?_, h.rms⟩
  · exact fun r n hr => h.lt _ _ (mem_cut.1 hr).1
  · intro r x n hr
    obtain ⟨h1, h2⟩ := mem_cut.1 hr
    obtain ⟨a, b, m, c, d⟩ := h.up _ _ _ h1
    exact ⟨a, b, m, mem_cut.2 ⟨c, fun e => h2 (e.trans (List.prefix_append _ _))⟩, d⟩
  · exact fun a b n ha hb hn => h.one _ _ _ (mem_cut.1 ha).1 (mem_cut.1 hb).1 hn
  · exact fun r n hr => h.long _ _ (mem_cut.1 hr).1
  · exact Nat.le_trans (List.length_filter_le _ _) h.many
theorem WF.new (a b : Int) (ha : a ≤ 9223372036854775807) (hb : b ≤ 9223372036854775807) : WF (Nt.new a b) 1 := by
  have mem : ∀ {r : Path} {n : Nat}, (r, n) ∈ (Nt.new a b).paths ↔ r = [] ∧ n = 0 := fun {r n} => by
    show (r, n) ∈ [(([] : Path), 0)] ↔ _
    simp
  refine ⟨mem.2 ⟨rfl, rfl⟩, rfl, by simp [Nt.new], ?_, ?_, ?_, ?_, ?_, by simp [Nt.new], by simp [Nt.new], ?_⟩
  · intro p n hm
    obtain ⟨_, rfl⟩ := mem.1 hm
    simp [Nt.new]
  · intro p x n hm
    exact absurd (mem.1 hm).1 (by simp)
  · intro p q n hp hq _
    rw [(mem.1 hp).1, (mem.1 hq).1]
  · intro x hx
    obtain rfl : x = { Nd.zero with kind := 4 } := by simpa [Nt.new] using hx
    exact ⟨.inr (.inr rfl), rfl, by decide, fun _ => rfl, fun _ => rfl⟩
  · intro p n hm
    obtain ⟨rfl, _⟩ := mem.1 hm
    decide
  · show (0 ≤ max a 0 ∧ max a 0 ≤ _) ∧ 0 ≤ max b 0 ∧ max b 0 ≤ _
    omega

/-! ### a path another one -/
theorem drop_app (f s : Path) : (f ++ s).drop f.length = s := by simp
/-- What a renaming asks. -/
structure Mv (T : Tr) (f t : Path) (n : Nat) : Prop where
  here : (f, n) ∈ T.paths
  f0 : f ≠ []
  t0 : t ≠ []
  par : ∃ q x m, t = q ++ [x] ∧ Pp.Nm x ∧ (q, m) ∈ T.paths ∧ (T.nd m).kind = 4 ∧ ¬ f <+: q
  ft : ¬ f <+: t
  tf : ¬ t <+: f
  leaf : ∀ r k, (r, k) ∈ T.paths → t <+: r → r = t ∧ k ≠ n ∧ (T.nd k).kind ≠ 4
theorem rn_mem {f t : Path} {n : Nat} (hM : Mv T f t n) {r : Path} {k : Nat} :
    (r, k) ∈ (T.rn1 f t).paths ↔ (∃ s, r = t ++ s ∧ (f ++ s, k) ∈ T.paths) ∨ ((r, k) ∈ T.paths ∧ ¬ f <+: r ∧ ¬ t <+: r) := by
  show (r, k) ∈ (Nt.cut T.paths t).map (mv f t) ↔ _
  rw [List.mem_map]
  constructor
  · rintro ⟨⟨r', k'⟩, hr, e⟩
    obtain ⟨h1, h2⟩ := mem_cut.1 hr
    unfold mv at e
    by_cases hf : f <+: r'
    · rw [if_pos hf] at e
      obtain ⟨s, rfl⟩ := hf
      simp only [List.drop_left, Prod.mk.injEq] at e
      obtain ⟨rfl, rfl⟩ := e
      exact .inl ⟨s, rfl, h1⟩
    · rw [if_neg hf] at e
      cases e
      exact .inr ⟨h1, hf, h2⟩
  · rintro (⟨s, rfl, h1⟩ | ⟨h1, h2, h3⟩)
    · refine ⟨(f ++ s, k), mem_cut.2 ⟨h1, fun e => ?_⟩, ?_⟩
      · rcases List.prefix_or_prefix_of_prefix e (List.prefix_append f s) with h4 | h4
        · exact hM.tf h4
        · exact hM.ft h4
      · unfold mv
        rw [if_pos (List.prefix_append _ _)]
        simp
    · refine ⟨(r, k), mem_cut.2 ⟨h1, h3⟩, ?_⟩
      unfold mv
      rw [if_neg h2]
theorem WF.rn_at (h : WF T K) {f t : Path} {n : Nat} (hM : Mv T f t n) (hd : (((T.rn1 f t).paths).map (·.1)).Nodup) (r : Path) :
    at_ (T.rn1 f t).paths r = if t <+: r then at_ T.paths (f ++ r.drop t.length) else if f <+: r then none else at_ T.paths r := by
  by_cases h1 : t <+: r
  · rw [if_pos h1]
    obtain ⟨s, rfl⟩ := h1
    rw [List.drop_left]
    cases e : at_ T.paths (f ++ s) with
    | some k => exact (at_iff hd).2 ((rn_mem hM).2 (.inl ⟨s, rfl, at_mem e⟩))
    | none =>
      cases e2 : at_ (T.rn1 f t).paths (t ++ s) with
      | none => rfl
      | some k =>
        rcases (rn_mem hM).1 (at_mem e2) with ⟨s', e3, h3⟩ | ⟨_, _, h3⟩
        · rw [← List.append_cancel_left e3] at h3
          exact absurd h3 (at_none e k)
        · exact absurd (List.prefix_append _ _) h3
  · rw [if_neg h1]
    by_cases h2 : f <+: r
    · rw [if_pos h2]
      cases e2 : at_ (T.rn1 f t).paths r with
      | none => rfl
      | some k =>
        rcases (rn_mem hM).1 (at_mem e2) with ⟨s', rfl, h3⟩ | ⟨_, h3, _⟩
        · exact absurd (List.prefix_append _ _) h1
        · exact absurd h2 h3
    · rw [if_neg h2]
      cases e : at_ T.paths r with
      | some k => exact (at_iff hd).2 ((rn_mem hM).2 (.inr ⟨at_mem e, h2, h1⟩))
      | none =>
        cases e2 : at_ (T.rn1 f t).paths r with
        | none => rfl
        | some k =>
          rcases (rn_mem hM).1 (at_mem e2) with ⟨s', rfl, h3⟩ | ⟨h3, _, _⟩
          · exact absurd (List.prefix_append _ _) h1
          · exact absurd h3 (at_none e k)
theorem rn_nodup (h : WF T K) {f t : Path} {n : Nat} (hM : Mv T f t n) : (((T.rn1 f t).paths).map (·.1)).Nodup := by
  show (((Nt.cut T.paths t).map (mv f t)).map (·.1)).Nodup
  have hn : ((Nt.cut T.paths t).map (·.1)).Nodup := nodup_filter _ h.nodup
  unfold List.Nodup at hn ⊢
  rw [List.map_map, List.pairwise_map]
  rw [List.pairwise_map] at hn
  refine hn.imp_of_mem ?_
  rintro ⟨a, j⟩ ⟨b, k⟩ ha hb hne e
  obtain ⟨ha1, ha2⟩ := mem_cut.1 ha
  obtain ⟨hb1, hb2⟩ := mem_cut.1 hb
  simp only [Function.comp_apply, mv] at e hne
  by_cases h1 : f <+: a <;> by_cases h2 : f <+: b
  · rw [if_pos h1, if_pos h2] at e
    obtain ⟨s, rfl⟩ := h1
    obtain ⟨u, rfl⟩ := h2
    simp only [List.drop_left] at e
    exact hne (by rw [List.append_cancel_left e])
  · rw [if_pos h1, if_neg h2] at e
    exact hb2 (by have e' : t ++ List.drop f.length a = b := e; rw [← e']; exact List.prefix_append _ _)
  · rw [if_neg h1, if_pos h2] at e
    exact ha2 (by have e' : a = t ++ List.drop f.length b := e; rw [e']; exact List.prefix_append _ _)
  · rw [if_neg h1, if_neg h2] at e
    exact hne e
theorem WF.rn (h : WF T K) {f t : Path} {n : Nat} (hM : Mv T f t n) (ht : (txt t).size ≤ 300) : WF (T.rn1 f t) (K + 301) := by
  have hn0 : n ≠ 0 := by
    rintro rfl
    exact hM.f0 (h.zero hM.here)
  refine ⟨(rn_mem hM).2 (.inr ⟨h.root, fun e => hM.f0 (List.prefix_nil.1 e), fun e => hM.t0 (List.prefix_nil.1 e)⟩), h.rootk, rn_nodup h hM, ?_, ?_, ?_, h.kinds, ?_, ?_, ?_, h.rms⟩
  · intro r k hr
    rcases (rn_mem hM).1 hr with ⟨s, _, h1⟩ | ⟨h1, _, _⟩ <;> exact h.lt _ _ h1
  · intro r x k hr
    rcases (rn_mem hM).1 hr with ⟨s, e, h1⟩ | ⟨h1, h2, h3⟩
    · rcases List.eq_nil_or_concat s with rfl | ⟨s', y, rfl⟩
      · rw [List.append_nil] at e h1
        obtain ⟨q, z, m, e2, h2, h3, h4, h5⟩ := hM.par
        rw [e2] at e
        obtain ⟨rfl, h6⟩ := List.append_inj' e rfl
        obtain rfl : x = z := by simpa using h6
        have hk : k = n := nodup_one h.nodup h1 hM.here
        refine ⟨by omega, h2, m, (rn_mem hM).2 (.inr ⟨h3, h5, fun e3 => ?_⟩), h4⟩
        obtain ⟨_, _, h7⟩ := hM.leaf r m h3 e3
        exact h7 h4
      · rw [List.concat_eq_append, ← List.append_assoc] at e h1
        obtain ⟨rfl, h6⟩ := List.append_inj' e rfl
        obtain rfl : x = y := by simpa using h6
        obtain ⟨a, b, m, c, d⟩ := h.up _ _ _ h1
        exact ⟨a, b, m, (rn_mem hM).2 (.inl ⟨s', rfl, c⟩), d⟩
    · obtain ⟨a, b, m, c, d⟩ := h.up _ _ _ h1
      exact ⟨a, b, m, (rn_mem hM).2 (.inr ⟨c, fun e => h2 (e.trans (List.prefix_append _ _)), fun e => h3 (e.trans (List.prefix_append _ _))⟩), d⟩
  · intro a b k ha hb hk
    rcases (rn_mem hM).1 ha with ⟨s, rfl, h1⟩ | ⟨h1, h2, h3⟩ <;> rcases (rn_mem hM).1 hb with ⟨u, rfl, h4⟩ | ⟨h4, h5, h6⟩
    · rw [List.append_cancel_left (h.one _ _ _ h1 h4 hk)]
    · exact absurd (h.one _ _ _ h1 h4 hk ▸ List.prefix_append _ _) h5
    · exact absurd (h.one _ _ _ h4 h1 hk ▸ List.prefix_append _ _) h2
    · exact h.one _ _ _ h1 h4 hk
  · intro r k hr
    rcases (rn_mem hM).1 hr with ⟨s, rfl, h1⟩ | ⟨h1, _, _⟩
    · have a := h.long _ _ h1
      have b := txt_drop_size f s
      have c := txt_cat_size t s
      omega
    · have := h.long _ _ h1; omega
  · have := h.few
    show T.nodes.length ≤ _
    omega
  · show ((Nt.cut T.paths t).map (mv f t)).length ≤ _
    rw [List.length_map]
    have := h.many
    have := List.length_filter_le (fun x : Path × Nat => decide (¬ t <+: x.1)) T.paths
    unfold Nt.cut
    omega
end Nt
end Go.Proofs.YtihaeggeeeihnaaDoor
