/- ROWS OF THE DOCUMENT's TREE, MADE ANEW: nodes, paths. -/
import Derived.Test.YthgbncpiehcghaaGreatDoorGa1
import Derived.Test.YthgbncpiehcghaaGreatDoorGt1
namespace Go.Proofs.YthgbncpiehcghaaGreatDoor
set_option linter.unusedVariables false
open Go Go.RowKit Go.Maps
set_option maxRecDepth 100000
set_option maxHeartbeats 4000000
open Nt (Tr Nd WF Ps Path at_ cnt used txt)
/-- The cells of a row's elements, one behind the other. -/
def rl {α : Type} (C : α → Array Value) (l : List α) : List Value := l.flatMap fun x => (C x).toList
section
variable {α : Type} {C : α → Array Value} {z : Nat} {U : TypeId} {w w' : World} {A : Option Addr} {n : Nat} {l : List α}
theorem rl_len (hC : ∀ x, (C x).size = z) (l : List α) : (rl C l).length = l.length * z := by
  unfold rl
  induction l with
  | nil => simp
  | cons y r ih => rw [List.flatMap_cons, List.length_append, ih, Array.length_toList, hC, List.length_cons, Nat.add_mul, Nat.one_mul, Nat.add_comm]
theorem rl_app (l m : List α) : rl C (l ++ m) = rl C l ++ rl C m := by unfold rl; rw [List.flatMap_append]
theorem rl_at (hC : ∀ x, (C x).size = z) {l : List α} {j i : Nat} {x : α} {v : Value} (hj : l[j]? = some x) (hi : (C x)[i]? = some v) : (rl C l)[j * z + i]? = some v := by
  have hi8 : i < z := by rw [← hC x]; exact (Array.getElem?_eq_some_iff.1 hi).1
  induction l generalizing j with
  | nil => simp at hj
  | cons y r ih =>
    unfold rl
    rw [List.flatMap_cons]
    rcases j with _ | j
    · obtain rfl : y = x := by simpa using hj
      rw [List.getElem?_append_left (by rw [Array.length_toList, hC]; omega), Nat.zero_mul, Nat.zero_add]
      simpa using hi
    · rw [List.getElem?_append_right (by rw [Array.length_toList, hC, Nat.add_mul]; omega), Array.length_toList, hC]
      show (rl C r)[(j + 1) * z + i - z]? = _
      rw [show (j + 1) * z + i - z = j * z + i from by rw [Nat.add_mul]; omega]
      exact ih (by simpa using hj)
theorem rl_of (hC : ∀ x, (C x).size = z) {l : List α} {k : Nat} {u : Value} (h : (rl C l)[k]? = some u) : ∃ j i x, k = j * z + i ∧ l[j]? = some x ∧ (C x)[i]? = some u := by
  induction l generalizing k with
  | nil => simp [rl] at h
  | cons y r ih =>
    unfold rl at h
    rw [List.flatMap_cons] at h
    by_cases hk : k < z
    · rw [List.getElem?_append_left (by rw [Array.length_toList, hC]; omega)] at h
      exact ⟨0, k, y, by omega, rfl, by simpa using h⟩
    · rw [List.getElem?_append_right (by rw [Array.length_toList, hC]; omega), Array.length_toList, hC] at h
      obtain ⟨j, i, x, e, h1, h2⟩ := ih h
      exact ⟨j + 1, i, x, by rw [Nat.add_mul]; omega, by simpa using h1, h2⟩
theorem rl_one (h1 : ∀ x, ∀ u ∈ (C x).toList, u.oneCell' = true) : ∀ u ∈ rl C l, u.oneCell' = true := by
  intro u hu
  unfold rl at hu
  rw [List.mem_flatMap] at hu
  obtain ⟨y, _, h⟩ := hu
  exact h1 y u h
theorem RowOf.src (h : RowOf C z U w A n l) (hC : ∀ x, (C x).size = z) (hn : 0 < n) : ∃ ad, A = some ad ∧ ∀ j u, (rl C l)[j]? = some u → w.cell? (ad.add j) = some u := by
  obtain ⟨b, o, e, _, hc⟩ := h.2 hn
  refine ⟨_, e, fun k u hu => ?_⟩
  obtain ⟨j, i, x, rfl, hj, hi⟩ := rl_of hC hu
  rw [Lib.add_plain, ← Nat.add_assoc]
  exact hc j x hj i u hi
/-- What is owned is a row. -/
theorem own_rowof {base : Nat} {v : Value} (hC : ∀ x, (C x).size = z) (h : w.ownsRow base U z v n (rl C l)) (hl : l.length = n) : ∃ A c, v = .slice A n c ∧ RowOf C z U w A n l ∧ n ≤ c ∧ c ≤ maxLen := by
  rcases h.2 with ⟨e, h0⟩ | ⟨g, cap, cur, e, _, hg, h1, h2, h3, h4⟩
  · refine ⟨none, 0, by rw [e, h0], ⟨hl, fun hn => absurd hn (by omega)⟩, by omega, by decide⟩
  · refine ⟨_, cap, e, ⟨hl, fun _ => ⟨g, 0, rfl, ⟨_, _, hg⟩, fun j y hj i u hu => ?_⟩⟩, h1, h2⟩
    have e1 := rl_at hC hj hu
    rw [← h4, List.getElem?_take] at e1
    split at e1
    · rw [cell_of_row w g _ cur _ _ hg, show 0 + j * z + i = j * z + i from by omega]
      simpa using e1
    · cases e1
/-- A row laid behind what is owned. -/
theorem app_row {P : Program} {base : Nat} (t : TypeId) (i : TypeInfo) (zv : Value) (bytes : Nat) (ht : P.underlying t = some (.slice U)) (hi : P.info? U = some i) (hz : i.zero = some zv) (hs : i.size = z) (hby : i.bytes = bytes) (hzs : zv.cells.size = z) (hz0 : 0 < z)
    (hC : ∀ x, (C x).size = z) (h1 : ∀ x, ∀ u ∈ (C x).toList, u.oneCell' = true) {v : Value} {l1 : List α} (hown : w.ownsRow base U z v l1.length (rl C l1)) (hr : RowOf C z U w A n l) (c : Nat) (h63 : l1.length + n ≤ maxLen) (hbytes : (l1.length + n) * bytes ≤ 140737488355328) (hb : base ≤ w.heap.size) :
    ∃ v' w', (Builtin.append_ #[t, t] t #[v, .slice A n c]).run P w = .ok v' w' ∧ w'.ownsRow base U z v' (l1.length + n) (rl C (l1 ++ l)) ∧ w.grownBy w' v.ownBlock ∧ (∀ k, v'.ownBlock = some k → v.ownBlock = some k ∨ w.heap.size ≤ k) := by
  obtain ⟨v', w', e1, e2, e3, e4⟩ := run_append_rows14 (P := P) base t t U i zv z bytes ht hi hz hs hby hzs hz0 v l1.length (rl C l1) hown A n c (rl C l) (by rw [rl_len hC, hr.1]) (fun hn => hr.src hC hn) (rl_one h1) h63 hbytes hb
  exact ⟨v', w', e1, by rw [rl_app]; exact e2, e3, e4⟩
end
theorem NdC_size (x : Nd) : (NdC x).size = 7 := rfl
theorem AtC_size (x : ByteArray × Nat) : (AtC x).size = 2 := rfl
theorem NdC_one (x : Nd) : ∀ u ∈ (NdC x).toList, u.oneCell' = true := by
  intro u h
  simp at h
  rcases h with rfl | rfl | rfl | rfl | rfl | rfl | rfl <;> rfl
theorem AtC_one (x : ByteArray × Nat) : ∀ u ∈ (AtC x).toList, u.oneCell' = true := by
  intro u h
  simp at h
  rcases h with rfl | rfl <;> rfl
abbrev Ndz : Value := .agg #[.int .i64 0, .int .i64 0, .int .i64 0, .int .i64 0, .int .i64 0, .string "".toUTF8, .slice none 0 0]
abbrev Atz : Value := .agg #[.string "".toUTF8, .int .i64 0]
theorem info_rnd : (Tryz.prog.info? 114).map (fun i => (i.zero, i.size, i.bytes)) = some (some Ndz, 7, 80) := by kernel_rfl
theorem info_rat : (Tryz.prog.info? 45).map (fun i => (i.zero, i.size, i.bytes)) = some (some Atz, 2, 24) := by kernel_rfl
section
variable {w : World} {A : Option Addr} {n : Nat}
theorem app_nd {base : Nat} {v : Value} {l1 l : List Nd} (hown : w.ownsRow base 114 7 v l1.length (rl NdC l1)) (hr : NRow w A n l) (c : Nat) (h9 : l1.length + n ≤ 1000000) (hb : base ≤ w.heap.size) :
    ∃ v' w', (Builtin.append_ #[26, 26] 26 #[v, .slice A n c]).run Tryz.prog w = .ok v' w' ∧ w'.ownsRow base 114 7 v' (l1.length + n) (rl NdC (l1 ++ l)) ∧ w.grownBy w' v.ownBlock ∧ (∀ k, v'.ownBlock = some k → v.ownBlock = some k ∨ w.heap.size ≤ k) := by
  obtain ⟨i0, hi, hz0, hz1, hz2⟩ := info_parts info_rnd
  exact app_row 26 i0 Ndz 80 Tryz.underlying26 hi hz0 hz1 hz2 rfl (by decide) NdC_size NdC_one hown hr c (by unfold maxLen; omega) (by omega) hb
theorem app_at {base : Nat} {v : Value} {l1 l : List (ByteArray × Nat)} (hown : w.ownsRow base 45 2 v l1.length (rl AtC l1)) (hr : ARow w A n l) (c : Nat) (h9 : l1.length + n ≤ 1000000) (hb : base ≤ w.heap.size) :
    ∃ v' w', (Builtin.append_ #[27, 27] 27 #[v, .slice A n c]).run Tryz.prog w = .ok v' w' ∧ w'.ownsRow base 45 2 v' (l1.length + n) (rl AtC (l1 ++ l)) ∧ w.grownBy w' v.ownBlock ∧ (∀ k, v'.ownBlock = some k → v.ownBlock = some k ∨ w.heap.size ≤ k) := by
  obtain ⟨i0, hi, hz0, hz1, hz2⟩ := info_parts info_rat
  exact app_row 27 i0 Atz 24 Tryz.underlying27 hi hz0 hz1 hz2 rfl (by decide) AtC_size AtC_one hown hr c (by unfold maxLen; omega) (by omega) hb
end
end Go.Proofs.YthgbncpiehcghaaGreatDoor
