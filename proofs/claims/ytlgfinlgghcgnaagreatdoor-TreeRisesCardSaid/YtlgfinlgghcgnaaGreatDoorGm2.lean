/- PLAIN MATHEMATICS OF LAYER 15, FOURTH PART: what a deed keeps. No Go text is named. -/
import Derived.Test.YtlgfinlgghcgnaaGreatDoorM15c
import Derived.Test.YtlgfinlgghcgnaaGreatDoorGy3
namespace Go.Proofs.YtlgfinlgghcgnaaGreatDoor
set_option linter.unusedVariables false
open Go.RowKit
namespace Nt
variable {T : Tr} {K : Nat}
theorem Mok.ap (hW : WF T K) (h : Mok T) (y : Dd) : Mok (ap T y).1 := by
  unfold Nt.ap
  split
  · exact h.mk' _ _
  · split
    · exact h.mk' _ _
    · split
      · exact h.mk' _ _
      · split
        · exact h.lnk _ _
        · split
          · exact h.wr hW _ _ _ _ _
          · split
            · exact h.st _ _ _ _ _
            · split
              · exact h.rm _
              · split
                · exact h.clr _
                · split
                  · exact h.rn _ _
                  · exact h
theorem Bok.ap (hW : WF T K) (h : Bok T) (y : Dd) (hx : Byt y.xs) : Bok (ap T y).1 := by
  unfold Nt.ap
  split
  · exact h.mk' _ _ Byt.nil
  · split
    · exact h.mk' _ _ hx
    · split
      · exact h.mk' _ _ Byt.nil
      · split
        · exact h.lnk _ _
        · split
          · exact h.wr _ _ _ _ _ hx
          · split
            · exact h.st hW _ _ _ _ _
            · split
              · exact h.rm _
              · split
                · exact h.clr _
                · split
                  · exact h.rn _ _
                  · exact h
end Nt
end Go.Proofs.YtlgfinlgghcgnaaGreatDoor
/- PLAIN MATHEMATICS OF LAYER 15, FIFTH PART: what a list that rises owes, member by member. No Go text is named. -/
namespace Go.Proofs.YtlgfinlgghcgnaaGreatDoor
set_option linter.unusedVariables false
open Go.RowKit
namespace Nt
variable {T : Tr} {K : Nat}
/-- The member without the place of its bytes. -/
def er1 (x : Mm) : Mm := (x.1, x.2.er)
theorem find_er1 (l : List Mm) (p : ByteArray) : (l.find? (fun x => decide (x.1 = p))).map er1 = (l.map er1).find? (fun x => decide (x.1 = p)) := by
  induction l with
  | nil => rfl
  | cons x l ih =>
    rw [List.map_cons, List.find?_cons, List.find?_cons]
    by_cases e : x.1 = p
    · have e2 : (er1 x).1 = p := e
      simp [e, e2]
    · have e2 : ¬ (er1 x).1 = p := e
      simp [e, e2, ih]
/-- What each place of a list owes. -/
structure Rise (L : List Mm) (i : Nat) (x : Mm) : Prop where
  less : ∀ y, 0 < i → L[i - 1]? = some y → Pp.lessL (Pp.pieces y.1) (Pp.pieces x.1) = true
  par : ∀ q s, Pp.pieces x.1 = q ++ [s] → q ≠ [] → ∃ y, (L.take i).find? (fun z => decide (z.1 = txt q)) = some y ∧ y.2.kind = 4
  link : x.2.kind = 2 → ∃ y, (L.take i).find? (fun z => decide (z.1 = x.2.link)) = some y ∧ y.2.kind = 1 ∧ y.2.mode = x.2.mode ∧ y.2.uid = x.2.uid ∧ y.2.gid = x.2.gid ∧ y.2.mtime = x.2.mtime
  small : x.1.size ≤ 1000000 ∧ x.2.n ≤ 4096
theorem txt_part (P q : Path) : (txt q).size ≤ (txt (P ++ q)).size := by
  have h1 := txt_drop_size P q
  exact h1
theorem mm_n (hW : WF T K) {S : Ps} {i : Nat} {y : Path × Nat} (hn : y.2 < T.nodes.length) : (mm T S i y).2.n ≤ 4096 := by
  have hx := hW.kinds (T.nd y.2) (by unfold Tr.nd; simp [List.getD, List.getElem?_eq_getElem hn])
  unfold mm
  split
  · exact Nat.zero_le _
  · exact hx.2.2.1
theorem rise_ok (hW : WF T K) (hK : K ≤ 100000) {p : ByteArray} {L : List Mm} (h : L.map er1 = (ofL T p).map er1) : ∀ i x, L[i]? = some x → Rise L i x := by
  intro i x hx
  have h0 : ofE T p = 0 := by
    by_cases h0 : ofE T p = 0
    · exact h0
    · unfold ofL at h
      rw [if_neg h0] at h
      have : L = [] := by simpa using h
      rw [this] at hx
      cases hx
  have hM : ofL T p = mms T (srt T.paths (nms p)) := by unfold ofL; rw [if_pos h0]
  rw [hM] at h
  have hlen : L.length = (srt T.paths (nms p)).length := by
    have := congrArg List.length h
    rwa [List.length_map, List.length_map, mms_len] at this
  have at1 : ∀ j z, L[j]? = some z → ∃ y, (srt T.paths (nms p))[j]? = some y ∧ er1 z = er1 (mm T (srt T.paths (nms p)) j y) := fun j z hz => by
    have hj := (List.getElem?_eq_some_iff.1 hz).1
    obtain ⟨y, hy⟩ : ∃ y, (srt T.paths (nms p))[j]? = some y := ⟨_, List.getElem?_eq_getElem (by omega)⟩
    refine ⟨y, hy, ?_⟩
    have h2 := congrArg (fun l : List Mm => l[j]?) h
    simp only [List.getElem?_map, hz, mms_at hy, Option.map_some] at h2
    exact Option.some.inj h2
  have mm1 : ∀ j y, (mm T (srt T.paths (nms p)) j y).1 = txt y.1 := fun j y => by unfold mm; split <;> rfl
  have fnd : ∀ q y, ((mms T (srt T.paths (nms p))).take i).find? (fun z => decide (z.1 = q)) = some y → ∃ y', (L.take i).find? (fun z => decide (z.1 = q)) = some y' ∧ er1 y' = er1 y := fun q y hq => by
    have e1 := find_er1 (L.take i) q
    rw [List.map_take, h, ← List.map_take, ← find_er1, hq] at e1
    cases e : (L.take i).find? (fun z => decide (z.1 = q)) with
    | none => rw [e] at e1; cases e1
    | some y' =>
      rw [e] at e1
      exact ⟨y', rfl, Option.some.inj e1⟩
  obtain ⟨y, hy, he⟩ := at1 i x hx
  have hym := List.mem_of_getElem? hy
  obtain ⟨hy0, hyp⟩ := mem_srt.1 hym
  have hN := srt_names hW hym
  have hn := hW.lt _ _ hyp
  have e1 : x.1 = txt y.1 := (congrArg Prod.fst he).trans (mm1 i y)
  have ep : Pp.pieces x.1 = y.1 := by rw [e1, pieces_txt hy0 hN]
  refine ⟨fun z hi hz => ?_, fun q s hq hq0 => ?_, fun hk => ?_, ?_, ?_⟩
  · obtain ⟨y2, hy2, he2⟩ := at1 (i - 1) z hz
    have e2 : z.1 = txt y2.1 := (congrArg Prod.fst he2).trans (mm1 _ y2)
    have hy2m := List.mem_of_getElem? hy2
    rw [ep, e2, pieces_txt (mem_srt.1 hy2m).1 (srt_names hW hy2m)]
    have hr := srt_rise hW.nodup (nms p)
    obtain ⟨l1, f1⟩ := List.getElem?_eq_some_iff.1 hy
    obtain ⟨l2, f2⟩ := List.getElem?_eq_some_iff.1 hy2
    have := List.pairwise_iff_getElem.1 hr (i - 1) i l2 l1 (by omega)
    rw [f1, f2] at this
    exact this
  · rw [ep] at hq
    obtain ⟨yq, yn⟩ := y
    simp only at hq
    subst hq
    obtain ⟨z, hz, hzk⟩ := par_mms hW hy hq0
    obtain ⟨z', hz', hze⟩ := fnd _ _ hz
    exact ⟨z', hz', (congrArg (fun m : Mm => m.2.kind) hze).trans hzk⟩
  · have hk2 : (mm T (srt T.paths (nms p)) i y).2.kind = 2 := (congrArg (fun m : Mm => m.2.kind) he).symm.trans hk
    obtain ⟨z, hz, hz1, hz2, hz3, hz4, hz5⟩ := link_mms hW hy hk2
    have el : (mm T (srt T.paths (nms p)) i y).2.link = x.2.link := (congrArg (fun m : Mm => m.2.link) he).symm
    rw [el] at hz
    obtain ⟨z', hz', hze⟩ := fnd _ _ hz
    refine ⟨z', hz', (congrArg (fun m : Mm => m.2.kind) hze).trans hz1, ?_, ?_, ?_, ?_⟩
    · exact ((congrArg (fun m : Mm => m.2.mode) hze).trans hz2).trans (congrArg (fun m : Mm => m.2.mode) he).symm
    · exact ((congrArg (fun m : Mm => m.2.uid) hze).trans hz3).trans (congrArg (fun m : Mm => m.2.uid) he).symm
    · exact ((congrArg (fun m : Mm => m.2.gid) hze).trans hz4).trans (congrArg (fun m : Mm => m.2.gid) he).symm
    · exact ((congrArg (fun m : Mm => m.2.mtime) hze).trans hz5).trans (congrArg (fun m : Mm => m.2.mtime) he).symm
  · rw [e1]
    have h1 := txt_part (nms p) y.1
    have h2 := hW.long _ _ hyp
    omega
  · have en : (er1 x).2.n = (er1 (mm T (srt T.paths (nms p)) i y)).2.n := congrArg (fun m : Mm => m.2.n) he
    have en2 : x.2.n = (mm T (srt T.paths (nms p)) i y).2.n := en
    rw [en2]
    exact mm_n hW hn
end Nt
end Go.Proofs.YtlgfinlgghcgnaaGreatDoor
