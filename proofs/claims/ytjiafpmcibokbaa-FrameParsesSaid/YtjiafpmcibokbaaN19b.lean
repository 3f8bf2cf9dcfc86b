/- LAYER 19: a frame's fields turned; frames made anew; rows of bytes held against each other. -/
import Derived.Test.YtjiafpmcibokbaaN19
import Derived.ChangeKeysEq
import Derived.Deep.WholeRow
namespace Go.Proofs.Ytjiafpmcibokbaa
open Go Go.RowKit
set_option maxHeartbeats 2000000
set_option maxRecDepth 100000
set_option linter.unusedVariables false
namespace Fm
section
variable {f : Fr}
theorem FC_put (pre old post new : List Value) (o : Nat) (g : Fr) (hf : FC f = (pre ++ old ++ post).toArray) (hg : FC g = (pre ++ new ++ post).toArray) (hp : pre.length = o) (hl : old.length = new.length) : putL (FC f) o new = FC g := by
  subst hp
  rw [hf, hg, putL_mid new old pre post hl]
theorem FC_set (pre post : List Value) (x y : Value) (o : Nat) (g : Fr) (hf : FC f = (pre ++ [x] ++ post).toArray) (hg : FC g = (pre ++ [y] ++ post).toArray) (hp : pre.length = o) : (FC f).setIfInBounds o y = FC g := FC_put pre [x] post [y] o g hf hg hp rfl
theorem FC_off (h : f.ln) (v : Nat) : (FC f).setIfInBounds 19 (.int .u64 (v : Int)) = FC { f with off := v } :=
  FC_set (L1 f ++ f.tok.map ub ++ [.int .u32 (f.s : Int), .int .u32 (f.r : Int)]) ([.int .u64 (f.tot : Int)] ++ f.sum.map ub ++ L3 f) (.int .u64 (f.off : Int)) _ 19 _ (by simp [FC, L2]) (by simp [FC, L1, L2, L3]) (by simp [L1, h.1])
theorem FC_tot (h : f.ln) (v : Nat) : (FC f).setIfInBounds 20 (.int .u64 (v : Int)) = FC { f with tot := v } :=
  FC_set (L1 f ++ f.tok.map ub ++ [.int .u32 (f.s : Int), .int .u32 (f.r : Int), .int .u64 (f.off : Int)]) (f.sum.map ub ++ L3 f) (.int .u64 (f.tot : Int)) _ 20 _ (by simp [FC, L2]) (by simp [FC, L1, L2, L3]) (by simp [L1, h.1])
theorem FC_data (h : f.ln) (A : Option Addr) (n c : Nat) (xs : List Int) : (FC f).setIfInBounds 53 (.slice A n c) = FC { f with A := A, n := n, c := c, xs := xs } :=
  FC_set (L1 f ++ f.tok.map ub ++ (L2 f ++ f.sum.map ub)) [.slice f.RA f.m f.rc, .int .i64 f.cd] (.slice f.A f.n f.c) _ 53 _ (by simp [FC, L3]) (by simp [FC, L1, L2, L3]) (by simp [L1, L2, h.1, h.2])
theorem FC_rgs (h : f.ln) (A : Option Addr) (m c : Nat) (rs : List (Nat × Nat)) : (FC f).setIfInBounds 54 (.slice A m c) = FC { f with RA := A, m := m, rc := c, rs := rs } :=
  FC_set (L1 f ++ f.tok.map ub ++ (L2 f ++ f.sum.map ub ++ [.slice f.A f.n f.c])) [.int .i64 f.cd] (.slice f.RA f.m f.rc) _ 54 _ (by simp [FC, L3]) (by simp [FC, L1, L2, L3]) (by simp [L1, L2, h.1, h.2])
theorem FC_code (h : f.ln) (v : Int) : (FC f).setIfInBounds 55 (.int .i64 v) = FC { f with cd := v } :=
  FC_set (L1 f ++ f.tok.map ub ++ (L2 f ++ f.sum.map ub ++ [.slice f.A f.n f.c, .slice f.RA f.m f.rc])) [] (.int .i64 f.cd) _ 55 _ (by simp [FC, L3]) (by simp [FC, L1, L2, L3]) (by simp [L1, L2, h.1, h.2])
theorem FC_sums (h : f.ln) (ys : List Int) (hy : ys.length = 32) : putL (FC f) 21 (ys.map ub) = FC { f with sum := ys } :=
  FC_put (L1 f ++ f.tok.map ub ++ L2 f) (f.sum.map ub) (L3 f) _ 21 _ (by simp [FC]) (by simp [FC, L1, L2, L3]) (by simp [L1, L2, h.1]) (by simp [h.2, hy])
theorem FC_toks1 (h : f.ln) (j : Nat) (hj : j < 16) (x : Int) : (FC f).setIfInBounds (1 + j) (.int .u8 x) = FC { f with tok := f.tok.set j x } := by
  have hl := h.1
  obtain ⟨a, b, q, ht, ha⟩ : ∃ a q b, f.tok = a ++ q :: b ∧ a.length = j := ⟨f.tok.take j, f.tok[j], f.tok.drop (j + 1), by rw [List.getElem_cons_drop, List.take_append_drop], by rw [List.length_take]; omega⟩
  refine FC_set (L1 f ++ a.map ub) (q.map ub ++ (L2 f ++ f.sum.map ub ++ L3 f)) (ub b) _ (1 + j) _ ?_ ?_ (by simp [L1, ha, Nat.add_comm])
  · simp [FC, ht]
  · subst ha
    simp [FC, L1, L2, L3, ht, ub]
theorem FC_sum1 (h : f.ln) (j : Nat) (hj : j < 32) (x : Int) : (FC f).setIfInBounds (21 + j) (.int .u8 x) = FC { f with sum := f.sum.set j x } := by
  have hl := h.2
  obtain ⟨a, b, q, ht, ha⟩ : ∃ a q b, f.sum = a ++ q :: b ∧ a.length = j := ⟨f.sum.take j, f.sum[j], f.sum.drop (j + 1), by rw [List.getElem_cons_drop, List.take_append_drop], by rw [List.length_take]; omega⟩
  refine FC_set (L1 f ++ f.tok.map ub ++ (L2 f ++ a.map ub)) (q.map ub ++ L3 f) (ub b) _ (21 + j) _ ?_ ?_ (by simp [L1, L2, h.1, ha]; try omega)
  · simp [FC, ht]
  · subst ha
    simp [FC, L1, L2, L3, ht, ub]
end
/-- A frame of these, and no more. -/
def mk3 (k : Int) (tok : List Int) (s r : Nat) : Fr := ⟨k, tok, s, r, 0, 0, List.replicate 32 0, none, 0, 0, [], none, 0, 0, [], 0⟩
def nul : Fr := mk3 0 (List.replicate 16 0) 0 0
theorem mk3_ln {k : Int} {tok : List Int} {s r : Nat} (h : tok.length = 16) : (mk3 k tok s r).ln := ⟨h, by simp [mk3]⟩
theorem nul_ln : nul.ln := mk3_ln rfl
theorem row16 {tok : List Int} (h : tok.length = 16) : ∃ a0 a1 a2 a3 a4 a5 a6 a7 a8 a9 aa ab ac ad ae af, tok = [a0, a1, a2, a3, a4, a5, a6, a7, a8, a9, aa, ab, ac, ad, ae, af] := by
  match tok, h with
  | [a0, a1, a2, a3, a4, a5, a6, a7, a8, a9, aa, ab, ac, ad, ae, af], _ => exact ⟨_, _, _, _, _, _, _, _, _, _, _, _, _, _, _, _, rfl⟩
end Fm
theorem built_mk3 (k : Int) (tok : List Int) (s r : Nat) (h : tok.length = 16) :
    Try.prog.built 31 [(0, .int .i64 k), (1, .agg (tok.map Fm.ub).toArray), (2, .agg #[.int .u32 (s : Int), .int .u32 (r : Int)])] = some (Fm.FC (Fm.mk3 k tok s r)) := by
  obtain ⟨a0, a1, a2, a3, a4, a5, a6, a7, a8, a9, aa, ab, ac, ad, ae, af, rfl⟩ := Fm.row16 h
  kernel_rfl
theorem built_nul : Try.prog.built 31 [] = some (Fm.FC Fm.nul) := by kernel_rfl
theorem built_two (k : Int) (s r : Nat) : Try.prog.built 31 [(0, .int .i64 k), (2, .agg #[.int .u32 (s : Int), .int .u32 (r : Int)])] = some (Fm.FC (Fm.mk3 k (List.replicate 16 0) s r)) := by kernel_rfl
theorem eqItems_dec {P : Program} {e : TypeId} {d : Nat} {n : Nat} {xs ys : List Int} (he : P.plainKey e = true) (hu : P.underlying e = some (.int .u8)) (hx : xs.length = n) (hy : ys.length = n) (w : World) :
    ∀ is : List Nat, (∀ i ∈ is, i < n) → (Op.eqItems (d + 1) e 1 (xs.map Fm.ub).toArray (ys.map Fm.ub).toArray is).run P w = .ok (is.all fun i => xs.getD i 0 == ys.getD i 0) w
  | [], _ => by simp [Op.eqItems]
  | i :: is, hi => by
    have hin := hi i (by simp)
    have hp := run_part_plain (w := w) he (xs := (xs.map Fm.ub).toArray) (off := i) (v := .int .u8 (xs.getD i 0)) (by rw [List.getElem?_toArray, List.getElem?_map, List.getElem?_eq_getElem (by omega)]; simp [Fm.ub, List.getD_eq_getElem?_getD, List.getElem?_eq_getElem (show i < xs.length by omega)])
    have hp2 := run_part_plain (w := w) he (xs := (ys.map Fm.ub).toArray) (off := i) (v := .int .u8 (ys.getD i 0)) (by rw [List.getElem?_toArray, List.getElem?_map, List.getElem?_eq_getElem (by omega)]; simp [Fm.ub, List.getD_eq_getElem?_getD, List.getElem?_eq_getElem (show i < ys.length by omega)])
    have hq := run_equalIn_int (P := P) w d e .u8 .u8 (xs.getD i 0) (ys.getD i 0) hu
    have ih := eqItems_dec (d := d) he hu hx hy w is (fun j hj => hi j (by simp [hj]))
    simp only [Op.eqItems, Sem.run_bind, Nat.mul_one, hp, hp2, hq, Result.andThen_ok]
    rw [List.all_cons]
    generalize (xs.getD i 0 == ys.getD i 0) = b
    cases b
    · rfl
    · rw [Bool.true_and, ← ih]
      rfl
/-- Rows of bytes are the same just if all are. -/
theorem eq_bytes {t : TypeId} {n : Nat} (hu : Try.prog.underlying t = some (.array n 5)) (xs ys : List Int) (hx : xs.length = n) (hy : ys.length = n) (w : World) :
    (Op.equalIn 10000 t (.agg (xs.map Fm.ub).toArray) (.agg (ys.map Fm.ub).toArray)).run Try.prog w = .ok (decide (xs = ys)) w := by
  obtain ⟨i0, hi, _⟩ := info_parts info_u8
  rw [show (10000 : Nat) = 9999 + 1 from rfl, run_equalIn_array w 9999 _ _ hu hi, show Try.prog.cellsOf 5 = 1 by kernel_rfl]
  rw [eqItems_dec (d := 9998) (by kernel_rfl) Try.underlying5 hx hy w _ (fun i h => List.mem_range.1 h)]
  congr 1
  rw [Bool.eq_iff_iff]
  simp only [List.all_eq_true, List.mem_range, beq_iff_eq, decide_eq_true_eq]
  constructor
  · intro h
    refine Ck.ext (by omega) fun j hj => (h j (by omega))
  · rintro rfl j _
    rfl
end Go.Proofs.Ytjiafpmcibokbaa
