/- LAYER 19: a frame in memory: 56 cells, of which the token's sixteen and the sum's thirty-two are rows. -/
import Derived.Test.YtjiafpmcibokbaaR19a
import Derived.Test.YtjiafpmcibokbaaR18a
import Derived.Deep.MidRow
namespace Go.Proofs.Ytjiafpmcibokbaa
open Go Go.RowKit
set_option maxHeartbeats 2000000
set_option maxRecDepth 100000
set_option linter.unusedVariables false
namespace Fm
def ub (x : Int) : Value := .int .u8 x
theorem ub_one (l : List Int) : ∀ v ∈ l.map ub, v.oneCell' = true := by
  intro v hv
  obtain ⟨x, _, rfl⟩ := List.mem_map.1 hv
  rfl
structure Fr where
  k : Int
  tok : List Int
  s : Nat
  r : Nat
  off : Nat
  tot : Nat
  sum : List Int
  A : Option Addr
  n : Nat
  c : Nat
  xs : List Int
  RA : Option Addr
  m : Nat
  rc : Nat
  rs : List (Nat × Nat)
  cd : Int
/-- Its cells. -/
def L1 (f : Fr) : List Value := [.int .i64 f.k]
def L2 (f : Fr) : List Value := [.int .u32 (f.s : Int), .int .u32 (f.r : Int), .int .u64 (f.off : Int), .int .u64 (f.tot : Int)]
def L3 (f : Fr) : List Value := [.slice f.A f.n f.c, .slice f.RA f.m f.rc, .int .i64 f.cd]
def FC (f : Fr) : Array Value := (L1 f ++ f.tok.map ub ++ (L2 f ++ f.sum.map ub ++ L3 f)).toArray
/-- Its lengths. -/
def Fr.ln (f : Fr) : Prop := f.tok.length = 16 ∧ f.sum.length = 32
section
variable {f : Fr}
theorem FC_size (h : f.ln) : (FC f).size = 56 := by simp [FC, L1, L2, L3, h.1, h.2]
theorem FC_0 (f : Fr) : (FC f)[0]? = some (.int .i64 f.k) := by simp [FC, L1]
theorem FC_tok (h : f.ln) {j : Nat} (hj : j < 16) : (FC f)[1 + j]? = (f.tok.map ub)[j]? := by
  have h1 := h.1
  simp [FC, L1, Nat.add_comm 1 j, List.getElem?_append, h1, hj]
theorem FC_at (h : f.ln) (j : Nat) : (FC f)[17 + j]? = (L2 f ++ f.sum.map ub ++ L3 f)[j]? := by
  have h1 := h.1
  unfold FC
  rw [List.getElem?_toArray, List.getElem?_append_right (by simp [L1, h1])]
  simp [L1, h1]
theorem FC_17 (h : f.ln) : (FC f)[17]? = some (.int .u32 (f.s : Int)) := (FC_at h 0).trans (by simp [L2])
theorem FC_18 (h : f.ln) : (FC f)[18]? = some (.int .u32 (f.r : Int)) := (FC_at h 1).trans (by simp [L2])
theorem FC_19 (h : f.ln) : (FC f)[19]? = some (.int .u64 (f.off : Int)) := (FC_at h 2).trans (by simp [L2])
theorem FC_20 (h : f.ln) : (FC f)[20]? = some (.int .u64 (f.tot : Int)) := (FC_at h 3).trans (by simp [L2])
theorem FC_sum (h : f.ln) {j : Nat} (hj : j < 32) : (FC f)[21 + j]? = (f.sum.map ub)[j]? := by
  rw [show 21 + j = 17 + (4 + j) by omega, FC_at h, List.append_assoc, List.getElem?_append_right (by simp [L2]), show 4 + j - (L2 f).length = j by simp [L2], List.getElem?_append_left (by simp [h.2, hj])]
theorem FC_end (h : f.ln) (j : Nat) : (FC f)[53 + j]? = (L3 f)[j]? := by
  rw [show 53 + j = 17 + (36 + j) by omega, FC_at h, List.getElem?_append_right (by simp [L2, h.2]), show 36 + j - (L2 f ++ f.sum.map ub).length = j by simp [L2, h.2]]
theorem FC_53 (h : f.ln) : (FC f)[53]? = some (.slice f.A f.n f.c) := FC_end h 0
theorem FC_54 (h : f.ln) : (FC f)[54]? = some (.slice f.RA f.m f.rc) := FC_end h 1
theorem FC_55 (h : f.ln) : (FC f)[55]? = some (.int .i64 f.cd) := FC_end h 2
theorem FC_one (f : Fr) : (FC f).all (·.oneCell') = true := by
  refine all_oneCell_toArray fun v hv => ?_
  simp only [L1, L2, L3, List.mem_append, List.mem_cons, List.not_mem_nil, or_false, List.mem_map] at hv
  rcases hv with (rfl | ⟨x, _, rfl⟩) | (((rfl | rfl | rfl | rfl) | ⟨x, _, rfl⟩) | (rfl | rfl | rfl)) <;> rfl
end
/-- Cells put over others. -/
def putL (cs : Array Value) (o : Nat) : List Value → Array Value
  | [] => cs
  | v :: r => putL (cs.setIfInBounds o v) (o + 1) r
theorem putL_mid : ∀ (new old pre post : List Value), old.length = new.length → putL (pre ++ old ++ post).toArray pre.length new = (pre ++ new ++ post).toArray
  | [], old, pre, post, h => by
    have : old = [] := List.length_eq_zero_iff.1 h
    subst this
    rfl
  | v :: r, old, pre, post, h => by
    match old, h with
    | u :: q, h =>
      have ih := putL_mid r q (pre ++ [v]) post (by simpa using h)
      rw [List.length_append] at ih
      show putL ((pre ++ u :: q ++ post).toArray.setIfInBounds pre.length v) (pre.length + 1) r = _
      rw [List.setIfInBounds_toArray, List.append_assoc, List.set_append_right _ _ (Nat.le_refl _), Nat.sub_self, List.cons_append, List.set_cons_zero]
      simpa using ih
end Fm
/-- Cells that lie side by side in a block, loaded. -/
theorem run_cells_part {P : Program} {w : World} {b : Nat} {T : TypeId} {cs : Array Value} (h : BX w b T cs) (o : Nat) (row : Array Value) (n : Nat) (hn : row.size = n) (hr : ∀ j, j < n → cs[o + j]? = row[j]?) :
    (loadCellsFrom ⟨b, o, none⟩ 0 n #[]).run P w = .ok row w := by
  subst hn
  have := run_loadCells_list (P := P) w ⟨b, o, none⟩ row.toList (fun j v hv => by
    have hadd : (⟨b, o, none⟩ : Addr).add j = ⟨b, o + j, none⟩ := by unfold Addr.add; split <;> simp_all
    have hv' : row[j]? = some v := by simpa using hv
    have hj : j < row.size := by
      rcases Nat.lt_or_ge j row.size with h | h
      · exact h
      · rw [Array.getElem?_eq_none h] at hv'; cases hv'
    rw [hadd]
    exact h.cell (by rw [hr j hj]; exact hv'))
  simpa [loadCells] using this
/-- Cells stored side by side into a block. -/
theorem run_store_part {P : Program} {w : World} {b : Nat} {T : TypeId} {cs : Array Value} (h : BX w b T cs) (o : Nat) (vs : List Value) (hn : o + vs.length ≤ cs.size) (h1 : ∀ v ∈ vs, v.oneCell' = true) :
    (storeCells ⟨b, o, none⟩ vs 0).run P w = .ok () (w.setCells b o vs) := by
  have := run_storeCells_cells (P := P) b o vs 0 w (fun j hj => by
    obtain ⟨v, hv⟩ : ∃ v, cs[o + j]? = some v := ⟨cs[o + j], Array.getElem?_eq_getElem (by omega)⟩
    rw [Nat.add_zero, h.cell hv]; rfl) (fun j hj => h.free _) h1
  simpa using this
theorem BX.put {b : Nat} {T : TypeId} : ∀ (vs : List Value) (o : Nat) (w : World) (cs : Array Value), BX w b T cs → BX (w.setCells b o vs) b T (Fm.putL cs o vs)
  | [], _, _, _, h => h
  | v :: r, o, w, cs, h => BX.put r (o + 1) _ _ (h.set o v)
theorem BX.puts_other {a b : Nat} {T : TypeId} {cs : Array Value} (hne : a ≠ b) : ∀ (vs : List Value) (o : Nat) (w : World), BX w a T cs → BX (w.setCells b o vs) a T cs
  | [], _, _, h => h
  | v :: r, o, w, h => BX.puts_other hne r (o + 1) _ (h.other hne v)
theorem Below.setCells {B : Nat} {w : World} {a : Nat} (ha : B ≤ a) : ∀ (vs : List Value) (o : Nat) (w' : World), Below B w w' → Below B w (w'.setCells a o vs)
  | [], _, _, h => h
  | v :: r, o, w', h => Below.setCells ha r (o + 1) _ (h.setCell (p := ⟨a, o, none⟩) ha v)
theorem BX.to {w : World} {b : Nat} {T : TypeId} {cs cs' : Array Value} (h : BX w b T cs) (e : cs = cs') : BX w b T cs' := e ▸ h
theorem storeCells_one (a : Addr) (v : Value) : storeCells a [v] = (do store (a.add 0) v; pure ()) := rfl
/-- ALL THAT A FRAME'S BOX GIVES. -/
structure FB (w : World) (b : Nat) (f : Fm.Fr) : Prop where
  c0 : w.cell? ⟨b, 0, none⟩ = some (.int .i64 f.k)
  c17 : w.cell? ⟨b, 17, none⟩ = some (.int .u32 (f.s : Int))
  c18 : w.cell? ⟨b, 18, none⟩ = some (.int .u32 (f.r : Int))
  c19 : w.cell? ⟨b, 19, none⟩ = some (.int .u64 (f.off : Int))
  c20 : w.cell? ⟨b, 20, none⟩ = some (.int .u64 (f.tot : Int))
  c53 : w.cell? ⟨b, 53, none⟩ = some (.slice f.A f.n f.c)
  c54 : w.cell? ⟨b, 54, none⟩ = some (.slice f.RA f.m f.rc)
  c55 : w.cell? ⟨b, 55, none⟩ = some (.int .i64 f.cd)
  ltok : (loadCellsFrom ⟨b, 1, none⟩ 0 16 #[]).run Try.prog w = .ok (f.tok.map Fm.ub).toArray w
  lep : (loadCellsFrom ⟨b, 17, none⟩ 0 2 #[]).run Try.prog w = .ok #[.int .u32 (f.s : Int), .int .u32 (f.r : Int)] w
  lsum : (loadCellsFrom ⟨b, 21, none⟩ 0 32 #[]).run Try.prog w = .ok (f.sum.map Fm.ub).toArray w
  lall : (loadCellsFrom ⟨b, 0, none⟩ 0 56 #[]).run Try.prog w = .ok (Fm.FC f) w
theorem FB.of {w : World} {b : Nat} {T : TypeId} {f : Fm.Fr} (h : BX w b T (Fm.FC f)) (hl : f.ln) : FB w b f where
  c0 := h.cell (Fm.FC_0 f)
  c17 := h.cell (Fm.FC_17 hl)
  c18 := h.cell (Fm.FC_18 hl)
  c19 := h.cell (Fm.FC_19 hl)
  c20 := h.cell (Fm.FC_20 hl)
  c53 := h.cell (Fm.FC_53 hl)
  c54 := h.cell (Fm.FC_54 hl)
  c55 := h.cell (Fm.FC_55 hl)
  ltok := run_cells_part h 1 _ 16 (by simp [hl.1]) fun j hj => by rw [Fm.FC_tok hl hj, List.getElem?_toArray]
  lep := run_cells_part h 17 _ 2 rfl fun j hj => by
    rcases (by omega : j = 0 ∨ j = 1) with rfl | rfl
    · exact Fm.FC_17 hl
    · exact Fm.FC_18 hl
  lsum := run_cells_part h 21 _ 32 (by simp [hl.2]) fun j hj => by rw [Fm.FC_sum hl hj, List.getElem?_toArray]
  lall := run_cells_part h 0 _ 56 (Fm.FC_size hl) fun j _ => by rw [Nat.zero_add]
end Go.Proofs.Ytjiafpmcibokbaa
