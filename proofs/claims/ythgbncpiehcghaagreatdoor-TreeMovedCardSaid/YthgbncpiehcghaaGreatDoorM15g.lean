/- FACTS OF THE LAW 'TreeMoved': a moved directory's list is told the same; one name more, another one. No Go text is named. -/
import Derived.Test.YthgbncpiehcghaaGreatDoorGd1
import Derived.Test.YthgbncpiehcghaaGreatDoorGm2
import Derived.Test.YthgbncpiehcghaaGreatDoorGr1
namespace Go.Proofs.YthgbncpiehcghaaGreatDoor
set_option linter.unusedVariables false
open Go.RowKit
open Nt (Tr Nd WF Ps Path at_ cnt used txt Mm)
theorem ofL_kind {T : Tr} {K : Nat} (hW : WF T K) (p : ByteArray) : ∀ x ∈ Nt.ofL T p, x.2.kind ≠ 0 := by
  intro x hx
  unfold Nt.ofL at hx
  split at hx
  · obtain ⟨i, hi, he⟩ := List.getElem_of_mem hx
    rw [Nt.mms_len] at hi
    have h1 := Nt.mms_at (T := T) (List.getElem?_eq_getElem hi)
    rw [List.getElem?_eq_getElem (by rw [Nt.mms_len]; exact hi), he] at h1
    cases h1
    have hy := (Nt.mem_srt.1 (List.getElem_mem hi)).2
    have hn : ((Nt.srt T.paths (Nt.nms p))[i]).2 < T.nodes.length := hW.lt _ _ hy
    have hk := (hW.kinds (T.nd ((Nt.srt T.paths (Nt.nms p))[i]).2) (by unfold Nt.Tr.nd; rw [List.getD_eq_getElem?_getD, List.getElem?_eq_getElem hn]; exact List.getElem_mem _)).1
    unfold Nt.mm
    split
    · simp
    · simp only
      rcases hk with h | h | h <;> rw [h] <;> decide
  · cases hx
theorem dif_more : ∀ {a b : List Mm} {m : Mm}, (∀ x ∈ a, x.2.kind ≠ 0) → m.2.kind = 0 → (dif a (b ++ [m])).2 = true
  | [], [], m, _, _ => rfl
  | [], y :: b, m, _, _ => rfl
  | x :: a, [], m, ha, hm => by
    have h1 := ha x List.mem_cons_self
    have h2 : sm x m = false := by
      cases e : sm x m with
      | false => rfl
      | true =>
        unfold sm at e
        simp only [Bool.and_eq_true, decide_eq_true_eq] at e
        exact absurd (e.2.1.trans hm) h1
    show (if sm x m = true then dif a [] else (x.1, true)).2 = true
    rw [h2]
    rfl
  | x :: a, y :: b, m, ha, hm => by
    show (if sm x y = true then dif a (b ++ [m]) else (x.1, true)).2 = true
    split
    · exact dif_more (fun z hz => ha z (List.mem_cons_of_mem _ hz)) hm
    · rfl
theorem dif_length : ∀ {a b : List Mm}, a.length ≠ b.length → (dif a b).2 = true
  | [], [], h => absurd rfl h
  | [], y :: b, _ => rfl
  | x :: a, [], _ => rfl
  | x :: a, y :: b, h => by
    show (if sm x y = true then dif a b else (x.1, true)).2 = true
    split
    · exact dif_length fun e => h (by rw [List.length_cons, List.length_cons, e])
    · rfl
theorem dif_same : ∀ l : List Mm, (dif l l).2 = false
  | [] => rfl
  | x :: l => by
    unfold dif
    rw [if_pos (by simp [sm])]
    exact dif_same l
section
variable {T : Tr} {K : Nat}
theorem eqv_moved (hW : WF T K) {f t : ByteArray} (hf : Nt.ofE T f = 0) (hr : (T.rn f t).2 = 0) (ht : Nt.ofE (T.rn f t).1 t = 0) : eqv T f (T.rn f t).1 t = true := by
  unfold eqv
  rw [if_neg (by simp [hf]), if_neg (by simp [ht]), Nt.moved_list hW hf hr ht, dif_same]
  rfl
theorem eqv_more (hW : WF T K) {f t s : ByteArray} {x : Nd} (hf : Nt.ofE T f = 0) (hr : (T.rn f t).2 = 0) (hm : ((T.rn f t).1.mk' (joinS t s) x).2 = 0) : eqv T f ((T.rn f t).1.mk' (joinS t s) x).1 t = false := by
  have h1 := Nt.lis_ok (Nt.of_lis hf)
  obtain ⟨ht, hn, hs, hfi⟩ := Nt.moved_srt hW h1.1 h1.2 hr
  have hW2 := hW.rn' f t
  have hmE : (T.rn f t).1.mkE (joinS t s) x = 0 := by
    by_cases h : (T.rn f t).1.mkE (joinS t s) x = 0
    · exact h
    · unfold Nt.Tr.mk' at hm
      rw [if_neg h] at hm
      exact absurd hm h
  have hfr : (T.rn f t).1.fresh (joinS t s) = 0 := by
    by_cases h : (T.rn f t).1.fresh (joinS t s) = 0
    · exact h
    · unfold Nt.Tr.mkE at hmE
      rw [if_pos h] at hmE
      exact absurd hmE h
  have hmk : (T.rn f t).1.mk' (joinS t s) x = ((T.rn f t).1.mk1 (joinS t s) x, 0) := by unfold Nt.Tr.mk'; rw [if_pos hmE]
  have hno := (hW2.fresh_ok hfr).2
  have ht0 := Nt.isP_pos ht
  have hs0 : s.size ≠ 0 := fun e => by
    have hj : joinS t s = t := by unfold joinS; rw [if_neg (by omega), if_pos e]
    rw [hj] at hno
    have h2 := (hW2.find_some.1 hfi).2
    rw [Nt.nms_isP ht] at h2
    exact Nt.at_none hno _ h2
  have hj : joinS t s = t ++ ⟨#[47]⟩ ++ s := by unfold joinS; rw [if_neg (by omega), if_neg hs0]
  have hp : Pp.pieces (joinS t s) = Nt.nms t ++ Pp.pieces s := by rw [hj, pieces_cat, Nt.nms_isP ht]
  rw [hmk]
  unfold eqv
  rw [if_neg (by simp [hf])]
  simp only
  split
  · rfl
  · rename_i h0
    have h0' : Nt.ofE ((T.rn f t).1.mk1 (joinS t s) x) t = 0 := by
      by_cases e : Nt.ofE ((T.rn f t).1.mk1 (joinS t s) x) t = 0
      · exact e
      · exact absurd e h0
    rw [dif_length]
    · rfl
    · unfold Nt.ofL
      rw [if_pos hf, if_pos h0', Nt.mms_len, Nt.mms_len, Nt.more_len (T.rn f t).1 x (Pp.pieces_ne s) hp, hs]
      omega
end
end Go.Proofs.YthgbncpiehcghaaGreatDoor
