/- PLAIN MATHEMATICS OF LAYER 13, SECOND PART: paths as texts; finding; what the operations keep. No Go text is named. -/
import Derived.Test.YtihaeggeeeihnaaDoorM13
namespace Go.Proofs.YtihaeggeeeihnaaDoor
set_option linter.unusedVariables false
open Go.RowKit
namespace Nt
theorem rev_ind {P : Path → Prop} (h0 : P []) (h1 : ∀ p x, P p → P (p ++ [x])) : ∀ p, P p := fun p => by
  have : ∀ l : Path, P l.reverse := fun l => by
    induction l with
    | nil => exact h0
    | cons x l ih => rw [List.reverse_cons]; exact h1 _ _ ih
  have h := this p.reverse
  rwa [List.reverse_reverse] at h
theorem one_slash : (⟨#[47]⟩ : ByteArray).size = 1 := rfl
/-! ### paths as texts -/
theorem nm_slash {x : ByteArray} (h : Pp.Nm x) : (47 : UInt8) ∉ x.data.toList := h.2.2
theorem nm_pos {x : ByteArray} (h : Pp.Nm x) : 1 ≤ x.size := h.1.1
theorem nm_le {x : ByteArray} (h : Pp.Nm x) : x.size ≤ 60 := h.1.2.1
theorem data_app (s t : ByteArray) : (s ++ t).data.toList = s.data.toList ++ t.data.toList := by simp
theorem txt_data : ∀ p : Path, (txt p).data.toList = Pp.joinL (p.map fun b => b.data.toList)
  | [] => rfl
  | [x] => rfl
  | x :: y :: r => by
    have ih := txt_data (y :: r)
    show (x ++ ⟨#[47]⟩ ++ txt (y :: r)).data.toList = x.data.toList ++ 47 :: Pp.joinL ((y :: r).map fun b => b.data.toList)
    rw [data_app, data_app, ih]
    simp
theorem piecesL_join : ∀ l : List (List UInt8), l ≠ [] → (∀ x ∈ l, (47 : UInt8) ∉ x) → Pp.piecesL (Pp.joinL l) = l
  | [], h, _ => absurd rfl h
  | [x], _, h => Pp.piecesL_one x (h x (by simp))
  | x :: y :: r, _, h => by
    show Pp.piecesL (x ++ 47 :: Pp.joinL (y :: r)) = _
    rw [Pp.piecesL_app, Pp.piecesL_one x (h x (by simp)), piecesL_join (y :: r) (by simp) fun z hz => h z (List.mem_cons_of_mem _ hz)]
    rfl
theorem pieces_txt {p : Path} (h0 : p ≠ []) (h : ∀ x ∈ p, Pp.Nm x) : Pp.pieces (txt p) = p := by
  refine Pp.map_inj ?_
  rw [Pp.pieces_map, txt_data, piecesL_join _ (by simpa using h0)]
  intro x hx
  obtain ⟨y, hy, rfl⟩ := List.mem_map.1 hx
  exact nm_slash (h y hy)
theorem txt_pieces (s : ByteArray) : txt (Pp.pieces s) = s := by
  have h := txt_data (Pp.pieces s)
  rw [Pp.pieces_map, Pp.joinL_pieces] at h
  exact ByteArray.ext (Array.toList_inj.1 h)
theorem txt_pos {p : Path} (h0 : p ≠ []) (h : ∀ x ∈ p, Pp.Nm x) : 0 < (txt p).size := by
  match p, h0 with
  | [x], _ => exact nm_pos (h x (by simp))
  | x :: y :: r, _ =>
    show 0 < (x ++ ⟨#[47]⟩ ++ txt (y :: r)).size
    have := nm_pos (h x (by simp))
    simp
    omega
theorem txt_inj {p q : Path} (hp : ∀ x ∈ p, Pp.Nm x) (hq : ∀ x ∈ q, Pp.Nm x) (h : txt p = txt q) : p = q := by
  by_cases h1 : p = []
  · subst h1
    by_cases h2 : q = []
    · exact h2.symm
    · have := txt_pos h2 hq
      rw [← h] at this
      exact absurd this (by decide)
  · by_cases h2 : q = []
    · subst h2
      have := txt_pos h1 hp
      rw [h] at this
      exact absurd this (by decide)
    · rw [← pieces_txt h1 hp, ← pieces_txt h2 hq, h]
theorem txt_snoc : ∀ (p : Path) (x : ByteArray), p ≠ [] → txt (p ++ [x]) = txt p ++ ⟨#[47]⟩ ++ x
  | [], x, h => absurd rfl h
  | [y], x, _ => rfl
  | y :: z :: r, x, _ => by
    have ih := txt_snoc (z :: r) x (by simp)
    show y ++ ⟨#[47]⟩ ++ txt ((z :: r) ++ [x]) = y ++ ⟨#[47]⟩ ++ txt (z :: r) ++ ⟨#[47]⟩ ++ x
    rw [ih]
    simp only [ByteArray.append_assoc]
theorem txt_app : ∀ (p q : Path), p ≠ [] → q ≠ [] → txt (p ++ q) = txt p ++ ⟨#[47]⟩ ++ txt q
  | [], q, h, _ => absurd rfl h
  | [y], z :: q, _, _ => rfl
  | [y], [], _, h => absurd rfl h
  | y :: z :: r, q, _, h => by
    have ih := txt_app (z :: r) q (by simp) h
    show y ++ ⟨#[47]⟩ ++ txt ((z :: r) ++ q) = y ++ ⟨#[47]⟩ ++ txt (z :: r) ++ ⟨#[47]⟩ ++ txt q
    rw [ih]
    simp only [ByteArray.append_assoc]
theorem txt_cat_size (p q : Path) : (txt (p ++ q)).size ≤ (txt p).size + 1 + (txt q).size := by
  by_cases h : p = []
  · subst h; simp
  · by_cases h2 : q = []
    · subst h2; simp; omega
    · rw [txt_app p q h h2]; simp [one_slash]
theorem txt_drop_size (p q : Path) : (txt q).size ≤ (txt (p ++ q)).size := by
  by_cases h : p = []
  · subst h; simp
  · by_cases h2 : q = []
    · subst h2
      show 0 ≤ _
      omega
    · rw [txt_app p q h h2]; simp
theorem isP_iff {s : ByteArray} : isP s = true ↔ s.size ≤ 300 ∧ ∀ x ∈ Pp.pieces s, Pp.Nm x := Pp.may_iff s
theorem isP_pos {s : ByteArray} (h : isP s = true) : 0 < s.size := by
  have h2 := (isP_iff.1 h).2
  have := txt_pos (Pp.pieces_ne s) h2
  rwa [txt_pieces] at this
theorem nms_isP {s : ByteArray} (h : isP s = true) : nms s = Pp.pieces s := by
  unfold nms
  rw [if_neg (by have := isP_pos h; omega)]
theorem nms_zero {s : ByteArray} (h : s.size = 0) : nms s = [] := by unfold nms; rw [if_pos h]
theorem txt_nms (s : ByteArray) : txt (nms s) = s := by
  unfold nms
  split
  · rename_i h
    exact (ByteArray.ext (Array.eq_empty_of_size_eq_zero h)).symm
  · exact txt_pieces s
theorem nms_ok {s : ByteArray} (h : isP s = true ∨ s.size = 0) : ∀ x ∈ nms s, Pp.Nm x := by
  rcases h with h | h
  · rw [nms_isP h]; exact (isP_iff.1 h).2
  · rw [nms_zero h]; simp

/-! ### finding -/
variable {T : Tr} {K : Nat}
theorem WF.atI (h : WF T K) {p : Path} {n : Nat} : at_ T.paths p = some n ↔ (p, n) ∈ T.paths := at_iff h.nodup
theorem WF.names (h : WF T K) : ∀ (p : Path) (n : Nat), (p, n) ∈ T.paths → ∀ x ∈ p, Pp.Nm x := by
  refine rev_ind ?_ ?_
  · intro n _ x hx; cases hx
  · intro p y ih n hm x hx
    obtain ⟨_, h2, m, h3, _⟩ := h.up p y n hm
    rcases List.mem_append.1 hx with h4 | h4
    · exact ih m h3 x h4
    · obtain rfl : x = y := by simpa using h4
      exact h2
theorem WF.zero (h : WF T K) {p : Path} (hm : (p, 0) ∈ T.paths) : p = [] := by
  rcases List.eq_nil_or_concat p with rfl | ⟨q, x, rfl⟩
  · rfl
  · rw [List.concat_eq_append] at hm
    exact absurd rfl (h.up q x 0 hm).1
/-- What lies ahead of a path is there too, and a Dir. -/
theorem WF.pre (h : WF T K) : ∀ (q p : Path) (n : Nat), q ≠ [] → (p ++ q, n) ∈ T.paths → ∃ m, (p, m) ∈ T.paths ∧ (T.nd m).kind = 4 := by
  refine rev_ind ?_ ?_
  · intro p n h0 _; exact absurd rfl h0
  · intro q y ih p n _ hm
    rw [← List.append_assoc] at hm
    obtain ⟨_, _, m, h3, h4⟩ := h.up (p ++ q) y n hm
    by_cases hq : q = []
    · subst hq
      rw [List.append_nil] at h3
      exact ⟨m, h3, h4⟩
    · exact ih p m hq h3
theorem fnd_zero : ∀ (r : Path) (pre : Path) (n : Nat), (T.fnd pre n r).2 ≠ 0 → (T.fnd pre n r).1 = 0
  | [], pre, n, h => absurd rfl h
  | x :: r, pre, n, h => by
    unfold Tr.fnd at h ⊢
    by_cases hk : (T.nd n).kind ≠ 4
    · rw [if_pos hk]
    · rw [if_neg hk] at h ⊢
      cases e : at_ T.paths (pre ++ [x]) with
      | none => rfl
      | some k => rw [e] at h; exact fnd_zero r _ _ h
theorem fnd_err : ∀ (r : Path) (pre : Path) (n : Nat), (T.fnd pre n r).2 = 0 ∨ (T.fnd pre n r).2 = 6 ∨ (T.fnd pre n r).2 = 12
  | [], pre, n => .inl rfl
  | x :: r, pre, n => by
    unfold Tr.fnd
    by_cases hk : (T.nd n).kind ≠ 4
    · rw [if_pos hk]; exact .inr (.inr rfl)
    · rw [if_neg hk]
      cases e : at_ T.paths (pre ++ [x]) with
      | none => exact .inr (.inl rfl)
      | some k => exact fnd_err r _ _
theorem WF.fnd_some (h : WF T K) : ∀ (r : Path) (pre : Path) (n m : Nat), (pre, n) ∈ T.paths → ((T.fnd pre n r = (m, 0)) ↔ (pre ++ r, m) ∈ T.paths)
  | [], pre, n, m, hn => by
    rw [List.append_nil]
    unfold Tr.fnd
    constructor
    · intro e
      obtain rfl : n = m := congrArg Prod.fst e
      exact hn
    · intro hm
      rw [nodup_one h.nodup hn hm]
  | x :: r, pre, n, m, hn => by
    unfold Tr.fnd
    by_cases hk : (T.nd n).kind ≠ 4
    · rw [if_pos hk]
      constructor
      · intro e
        have := congrArg Prod.snd e
        simp at this
      · intro hm
        obtain ⟨m', h1, h2⟩ := h.pre (x :: r) pre m (by simp) hm
        rw [nodup_one h.nodup hn h1] at hk
        exact absurd h2 hk
    · rw [if_neg hk]
      cases e : at_ T.paths (pre ++ [x]) with
      | none =>
        constructor
        · intro e
          have := congrArg Prod.snd e
          simp at this
        · intro hm
          by_cases hr : r = []
          · subst hr
            exact absurd hm (at_none e m)
          · obtain ⟨m', h1, _⟩ := h.pre r (pre ++ [x]) m hr (by simpa using hm)
            exact absurd h1 (at_none e m')
      | some k =>
        have := WF.fnd_some h r (pre ++ [x]) k m (at_mem e)
        rw [this]
        simp
theorem WF.find_some (h : WF T K) {p : ByteArray} {m : Nat} : T.find p = (m, 0) ↔ (p.size = 0 ∨ isP p = true) ∧ (nms p, m) ∈ T.paths := by
  unfold Tr.find
  by_cases h0 : p.size = 0
  · rw [if_pos h0, nms_zero h0]
    constructor
    · intro e
      obtain rfl : 0 = m := congrArg Prod.fst e
      exact ⟨.inl h0, h.root⟩
    · rintro ⟨_, hm⟩
      rw [nodup_one h.nodup hm h.root]
  · rw [if_neg h0]
    by_cases h1 : isP p = true
    · rw [if_pos h1, nms_isP h1, h.fnd_some _ _ _ _ h.root]
      simp [h1]
    · rw [if_neg h1]
      constructor
      · intro e
        have := congrArg Prod.snd e
        simp at this
      · rintro ⟨h2 | h2, _⟩
        · exact absurd h2 h0
        · exact absurd h2 h1
theorem find_zero {p : ByteArray} (h : (T.find p).2 ≠ 0) : (T.find p).1 = 0 := by
  unfold Tr.find at h ⊢
  split
  · rfl
  · rename_i h0
    rw [if_neg h0] at h
    split
    · rename_i h1
      rw [if_pos h1] at h
      exact fnd_zero _ _ _ h
    · rfl
theorem WF.find_ok (h : WF T K) {p : ByteArray} (he : (T.find p).2 = 0) : (p.size = 0 ∨ isP p = true) ∧ (nms p, (T.find p).1) ∈ T.paths :=
  h.find_some.1 (by rw [← he])
theorem WF.find_root (h : WF T K) {p : ByteArray} (he : (T.find p).2 = 0) : (T.find p).1 = 0 ↔ p.size = 0 := by
  obtain ⟨h1, h2⟩ := h.find_ok he
  constructor
  · intro e
    rw [e] at h2
    have := h.zero h2
    rcases h1 with h1 | h1
    · exact h1
    · rw [nms_isP h1] at this
      exact absurd this (Pp.pieces_ne p)
  · intro e
    rw [nms_zero e] at h2
    exact nodup_one h.nodup h2 h.root
/-- What a place is: the parent is a Dir that is there. -/
theorem WF.par_ok (h : WF T K) {p : ByteArray} (he : T.parE p = 0) : isP p = true ∧ ∃ q x m, Pp.pieces p = q ++ [x] ∧ Pp.Nm x ∧ (q, m) ∈ T.paths ∧ (T.nd m).kind = 4 ∧ T.fnd [] 0 q = (m, 0) := by
  unfold Tr.parE at he
  by_cases h1 : isP p = true
  · rw [if_pos h1] at he
    simp only at he
    refine ⟨h1, (Pp.pieces p).dropLast, (Pp.pieces p).getLast (Pp.pieces_ne p), (T.fnd [] 0 (Pp.pieces p).dropLast).1, (List.dropLast_concat_getLast (Pp.pieces_ne p)).symm, (isP_iff.1 h1).2 _ (List.getLast_mem _), ?_⟩
    by_cases h2 : (T.fnd [] 0 (Pp.pieces p).dropLast).2 ≠ 0
    · rw [if_pos h2] at he
      exact absurd he h2
    · rw [if_neg h2] at he
      have h2' : (T.fnd [] 0 (Pp.pieces p).dropLast).2 = 0 := by omega
      by_cases h3 : (T.nd (T.fnd [] 0 (Pp.pieces p).dropLast).1).kind ≠ 4
      · rw [if_pos h3] at he
        omega
      · have e : T.fnd [] 0 (Pp.pieces p).dropLast = ((T.fnd [] 0 (Pp.pieces p).dropLast).1, 0) := by rw [← h2']
        exact ⟨by simpa using (h.fnd_some _ _ _ _ h.root).1 e, by omega, e⟩
  · rw [if_neg h1] at he
    omega
theorem WF.fresh_ok (h : WF T K) {p : ByteArray} (he : T.fresh p = 0) : T.parE p = 0 ∧ at_ T.paths (Pp.pieces p) = none := by
  unfold Tr.fresh at he
  by_cases h1 : T.parE p ≠ 0
  · rw [if_pos h1] at he
    exact absurd he h1
  · rw [if_neg h1] at he
    refine ⟨by omega, ?_⟩
    cases e : at_ T.paths (Pp.pieces p) with
    | none => rfl
    | some k => rw [e] at he; simp at he
end Nt
end Go.Proofs.YtihaeggeeeihnaaDoor
