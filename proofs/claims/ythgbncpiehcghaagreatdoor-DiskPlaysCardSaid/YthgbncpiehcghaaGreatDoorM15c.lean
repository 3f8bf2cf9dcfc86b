/- PLAIN MATHEMATICS OF LAYER 15, THIRD PART: a list rises; a member's parent, a hard one's link; a directory that was moved; a name more. No Go text is named. -/
import Derived.Test.YthgbncpiehcghaaGreatDoorGn4
namespace Go.Proofs.YthgbncpiehcghaaGreatDoor
set_option linter.unusedVariables false
open Go.RowKit
namespace Nt
variable {T : Tr} {K : Nat} {S : Ps} {P : Path}
theorem lessL_app (q : Path) (r : Path) (h : r ≠ []) : Pp.lessL q (q ++ r) = true := by
  induction q with
  | nil => cases r with
    | nil => exact absurd rfl h
    | cons _ _ => rfl
  | cons x q ih =>
    rw [List.cons_append]
    simp [Pp.lessL, ih]
theorem srt_names (hW : WF T K) {q : Path} {n : Nat} (h : (q, n) ∈ srt T.paths P) : ∀ x ∈ q, Pp.Nm x := fun x hx =>
  hW.names _ _ (mem_srt.1 h).2 x (List.mem_append_right _ hx)
/-- The first member of a path in a part of a list. -/
theorem find_mms (hW : WF T K) {i j : Nat} (hij : j < i) {q : Path} {n : Nat} (h : (srt T.paths P)[j]? = some (q, n)) : ((mms T (srt T.paths P)).take i).find? (fun x => decide (x.1 = txt q)) = some (mm T (srt T.paths P) j (q, n)) := by
  have hr := srt_rise hW.nodup P
  generalize hS : srt T.paths P = S at *
  have hj : j < S.length := (List.getElem?_eq_some_iff.1 h).1
  have hN := srt_names hW (show (q, n) ∈ srt T.paths P from by rw [hS]; exact List.mem_of_getElem? h)
  have h1 : ((mms T S).take i)[j]? = some (mm T S j (q, n)) := by
    rw [List.getElem?_take, if_pos hij]
    exact mms_at h
  obtain ⟨hl, he⟩ := List.getElem?_eq_some_iff.1 h1
  rw [List.find?_eq_some_iff_getElem]
  refine ⟨by unfold mm; split <;> simp, j, hl, he, fun k hk => ?_⟩
  have hk2 : k < S.length := by omega
  have h3 : ((mms T S).take i)[k]? = some (mm T S k S[k]) := by
    rw [List.getElem?_take, if_pos (by omega)]
    exact mms_at (List.getElem?_eq_getElem hk2)
  obtain ⟨hl3, he3⟩ := List.getElem?_eq_some_iff.1 h3
  rw [he3]
  have e3 : (mm T S k S[k]).1 = txt S[k].1 := by unfold mm; split <;> rfl
  rw [e3]
  have hlt := List.pairwise_iff_getElem.1 hr k j hk2 hj hk
  have hNk := srt_names (P := P) (n := S[k].2) (q := S[k].1) hW (show (S[k].1, S[k].2) ∈ srt T.paths P from by rw [hS]; exact List.getElem_mem hk2)
  have hne : txt S[k].1 ≠ txt q := fun e => by
    have e2 := txt_inj hNk hN e
    have e4 : S[j] = (q, n) := (List.getElem?_eq_some_iff.1 h).2
    unfold lessN at hlt
    rw [e2, e4, Pp.less_irrefl] at hlt
    cases hlt
  simp [hne]
theorem srt_ahead (hW : WF T K) {i : Nat} {y z : Path × Nat} (hy : (srt T.paths P)[i]? = some y) (hz : z ∈ srt T.paths P) (hl : lessN z y = true) : ∃ j, j < i ∧ (srt T.paths P)[j]? = some z := by
  have hr := srt_rise hW.nodup P
  generalize srt T.paths P = S at *
  obtain ⟨j, hj, rfl⟩ := List.getElem_of_mem hz
  obtain ⟨hi, rfl⟩ := List.getElem?_eq_some_iff.1 hy
  refine ⟨j, ?_, List.getElem?_eq_getElem hj⟩
  rcases Nat.lt_trichotomy j i with h | h | h
  · exact h
  · subst h
    unfold lessN at hl
    rw [Pp.less_irrefl] at hl
    cases hl
  · have h2 := List.pairwise_iff_getElem.1 hr i j hi hj h
    unfold lessN at h2 hl
    have := Pp.less_asymm hl
    rw [h2] at this
    cases this
/-- A member's parent is a directory ahead of it. -/
theorem par_mms (hW : WF T K) {i : Nat} {q : Path} {s : ByteArray} {n : Nat} (h : (srt T.paths P)[i]? = some (q ++ [s], n)) (hq : q ≠ []) : ∃ y, ((mms T (srt T.paths P)).take i).find? (fun x => decide (x.1 = txt q)) = some y ∧ y.2.kind = 4 := by
  obtain ⟨_, hm⟩ := mem_srt.1 (List.mem_of_getElem? h)
  rw [← List.append_assoc] at hm
  obtain ⟨_, _, m, h1, h2⟩ := hW.up _ _ _ hm
  obtain ⟨j, hj, he⟩ := srt_ahead hW h (mem_srt.2 ⟨hq, h1⟩ : (q, m) ∈ srt T.paths P) (lessL_app q [s] (by simp))
  refine ⟨_, find_mms hW hj he, ?_⟩
  unfold mm
  rw [if_neg (by rintro ⟨h3, _⟩; simp only at h3; omega)]
  exact h2
/-- A hard member's link is a file ahead of it, of the same numbers. -/
theorem link_mms (hW : WF T K) {i : Nat} {y : Path × Nat} (h : (srt T.paths P)[i]? = some y) (hk : (mm T (srt T.paths P) i y).2.kind = 2) : ∃ z, ((mms T (srt T.paths P)).take i).find? (fun x => decide (x.1 = (mm T (srt T.paths P) i y).2.link)) = some z ∧ z.2.kind = 1 ∧ z.2.mode = (mm T (srt T.paths P) i y).2.mode ∧ z.2.uid = (mm T (srt T.paths P) i y).2.uid ∧ z.2.gid = (mm T (srt T.paths P) i y).2.gid ∧ z.2.mtime = (mm T (srt T.paths P) i y).2.mtime := by
  obtain ⟨q, n⟩ := y
  have hm := (mem_srt.1 (List.mem_of_getElem? h)).2
  have hn : n < T.nodes.length := hW.lt _ _ hm
  by_cases hc : (T.nd n).kind = 1 ∧ fst (srt T.paths P) n < i
  · have e : mm T (srt T.paths P) i (q, n) = (txt q, { T.nd n with kind := 2, link := txt ((srt T.paths P).getD (fst (srt T.paths P) n) ([], 0)).1, A := none, n := 0, c := 0, xs := [] }) := by unfold mm; rw [if_pos hc]
    rw [e]
    have hl : fst (srt T.paths P) n < (srt T.paths P).length := fst_lt.2 ⟨q, List.mem_of_getElem? h⟩
    obtain ⟨⟨q', n'⟩, hz⟩ : ∃ z, (srt T.paths P)[fst (srt T.paths P) n]? = some z := ⟨_, List.getElem?_eq_getElem hl⟩
    have hn' : n' = n := by
      have hl2 : (srt T.paths P).findIdx (fun y : Path × Nat => y.2 == n) < (srt T.paths P).length := hl
      have h2 : (fun y : Path × Nat => y.2 == n) ((srt T.paths P)[(srt T.paths P).findIdx (fun y : Path × Nat => y.2 == n)]'hl2) = true := List.findIdx_getElem (p := fun y : Path × Nat => y.2 == n) (xs := srt T.paths P) (w := hl2)
      have h3 : (srt T.paths P)[(srt T.paths P).findIdx (fun y : Path × Nat => y.2 == n)]'hl2 = (q', n') := (List.getElem?_eq_some_iff.1 hz).2
      rw [h3] at h2
      simpa using h2
    subst hn'
    have eg : (srt T.paths P).getD (fst (srt T.paths P) n') ([], 0) = (q', n') := by simp [List.getD, hz]
    rw [eg]
    refine ⟨_, find_mms hW hc.2 hz, ?_⟩
    have e2 : mm T (srt T.paths P) (fst (srt T.paths P) n') (q', n') = (txt q', T.nd n') := by
      unfold mm
      rw [if_neg (by rintro ⟨_, h3⟩; simp only at h3; omega)]
    rw [e2]
    exact ⟨hc.1, rfl, rfl, rfl, rfl⟩
  · have e : mm T (srt T.paths P) i (q, n) = (txt q, T.nd n) := by unfold mm; rw [if_neg hc]
    rw [e] at hk
    have hx := hW.kinds (T.nd n) (by unfold Tr.nd; simp [List.getD, List.getElem?_eq_getElem hn])
    have := hx.1
    simp only at hk
    omega
theorem fm_congr {α β : Type} {f g : α → Option β} : ∀ {l : List α}, (∀ x ∈ l, f x = g x) → l.filterMap f = l.filterMap g
  | [], _ => rfl
  | x :: l, h => by rw [List.filterMap_cons, List.filterMap_cons, h x (by simp), fm_congr fun y hy => h y (List.mem_cons_of_mem _ hy)]
/-- A directory that was moved has the same under it. -/
theorem srt_moved (hW : WF T K) {f t : Path} (hno : ∀ r n, (t ++ r, n) ∉ T.paths) (hft : ¬ f <+: t) : srt ((cut T.paths t).map (mv f t)) t = srt T.paths f := by
  unfold srt
  congr 1
  have hcut : cut T.paths t = T.paths := by
    unfold cut
    rw [List.filter_eq_self]
    rintro ⟨q, n⟩ hq
    rw [decide_eq_true_iff]
    rintro ⟨r, hr⟩
    exact hno r n (by rw [hr]; exact hq)
  rw [hcut, List.filterMap_map]
  refine fm_congr ?_
  rintro ⟨q, n⟩ hq
  show und1 t (mv f t (q, n)) = und1 f (q, n)
  unfold mv
  by_cases hp : f <+: q
  · obtain ⟨r, rfl⟩ := hp
    rw [if_pos (show f <+: (f ++ r, n).1 from ⟨r, rfl⟩)]
    simp only [List.drop_left]
    by_cases hr : r = []
    · subst hr
      unfold und1
      rw [if_neg (by simp), if_neg (by simp)]
    · rw [(und1_some (P := t) (y := (t ++ r, n)) (q := r) (n := n)).2 ⟨hr, rfl⟩, (und1_some (P := f) (y := (f ++ r, n)) (q := r) (n := n)).2 ⟨hr, rfl⟩]
  · rw [if_neg hp]
    unfold und1
    rw [if_neg (show ¬ (t <+: q ∧ q ≠ t) from by rintro ⟨⟨r, hr⟩, _⟩; exact hno r n (by rw [hr]; exact hq)), if_neg (show ¬ (f <+: q ∧ q ≠ f) from fun h => hp h.1)]
/-- One path more under a path. -/
theorem srt_len_snoc {R : Ps} (q : Path) (n : Nat) (hq : q ≠ []) : (srt (R ++ [(P ++ q, n)]) P).length = (srt R P).length + 1 := by
  unfold srt
  rw [List.filterMap_append, insAll_len, insAll_len, List.length_append]
  rw [show List.filterMap (und1 P) [(P ++ q, n)] = [(q, n)] from by
    rw [List.filterMap_cons, (und1_some (P := P) (y := (P ++ q, n)) (q := q) (n := n)).2 ⟨hq, rfl⟩]
    rfl]
  rfl
end Nt
end Go.Proofs.YthgbncpiehcghaaGreatDoor
