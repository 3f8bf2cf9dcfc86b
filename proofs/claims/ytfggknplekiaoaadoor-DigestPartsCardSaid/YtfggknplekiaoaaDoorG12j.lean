/- WALKS OF LAYER 12, THE PROGRAM, TENTH PART: digests held against each other; alive. -/
import Derived.Test.YtfggknplekiaoaaDoorG12i
import Derived.Deep.RegionHeld3
namespace Go.Proofs.YtfggknplekiaoaaDoor
open Go Go.RowKit
set_option maxHeartbeats 8000000
set_option maxRecDepth 100000
set_option linter.unusedVariables false
theorem eqItems_same {P : Program} {e : TypeId} {d : Nat} {k : IntKind} {n : Nat} {xs : Array Value} (he : P.plainKey e = true) (hu : P.underlying e = some (.int k)) (h : ∀ i, i < n → ∃ x, xs[i]? = some (.int k x)) (w : World) :
    ∀ is : List Nat, (∀ i ∈ is, i < n) → (Op.eqItems (d + 1) e 1 xs xs is).run P w = .ok true w
  | [], _ => by simp [Op.eqItems]
  | i :: is, hi => by
    obtain ⟨x, hx⟩ := h i (hi i (by simp))
    have hp := run_part_plain (w := w) he (off := i) hx
    have hq := run_equalIn_int (P := P) w d e k k x x hu
    have ih := eqItems_same (d := d) he hu h w is (fun j hj => hi j (by simp [hj]))
    simp only [Op.eqItems, Sem.run_bind, Nat.mul_one, hp, hq, Result.andThen_ok]
    simpa using ih
/-- A digest is itself. -/
theorem eq_sum (xs : List Int) (hl : xs.length = 32) (w : World) : (Op.equalIn 10000 25 (.agg (xs.map vb).toArray) (.agg (xs.map vb).toArray)).run Tryd.prog w = .ok true w := by
  obtain ⟨i0, hi, _⟩ := info_parts info_u8
  rw [show (10000 : Nat) = 9999 + 1 from rfl, run_equalIn_array w 9999 _ _ Tryd.underlying25 hi, show Tryd.prog.cellsOf 5 = 1 by kernel_rfl]
  refine eqItems_same (d := 9998) (k := .u8) (n := 32) (by kernel_rfl) Tryd.underlying5 (fun i h => ?_) w _ (fun i h => List.mem_range.1 h)
  refine ⟨xs.getD i 0, ?_⟩
  rw [List.getElem?_toArray, List.getElem?_map, List.getElem?_eq_getElem (by omega)]
  simp [vb, List.getD_eq_getElem?_getD, List.getElem?_eq_getElem (show i < xs.length by omega)]
theorem alive12_any (w : World) (kt : KT w) (ht : HT w) :
    Calls Tryd.prog 6 #[] w fun e w' => e = .returned (.bool true) ∧ Below w.heap.size w w' := by
  obtain ⟨OF, hOF⟩ : ∃ OF, Dg.of [] = OF := ⟨_, rfl⟩
  have hol : OF.length = 32 := by rw [← hOF]; rfl
  have h4 : OF.getD 0 0 = 227 ∧ OF.getD 1 0 = 176 ∧ OF.getD 2 0 = 196 ∧ OF.getD 3 0 = 66 := by
    rw [← hOF]
    have := Dg.of_none
    have g : ∀ j, j < 4 → (Dg.of []).getD j 0 = ((Dg.of []).take 4).getD j 0 := fun j hj => by simp [List.getD_eq_getElem?_getD, hj]
    rw [g 0 (by omega), g 1 (by omega), g 2 (by omega), g 3 (by omega), this]
    exact ⟨rfl, rfl, rfl, rfl⟩
  obtain ⟨g0, g1, g2, g3⟩ := h4
  have df : Hid (Calls Tryd.prog 7 #[.slice none 0 0] w fun e w' => e = .returned (.agg (OF.map vb).toArray) ∧ Below w.heap.size w w') := by rw [← hOF]; exact digof_any none 0 0 [] w kt ht RB.nil Byt.nil (Nat.le_refl _) (Nat.zero_le _) (by omega)
  have nw := Lib.hid (fun W (hb : Below w.heap.size w W) => new_any W (ht.on hb))
  have eqs := Lib.hid (eq_sum OF hol)
  obtain ⟨OL, hOL⟩ : ∃ OL, OF.map vb = OL := ⟨_, rfl⟩
  have holl : OL.length = 32 := by rw [← hOL, List.length_map, hol]
  have hone : OL.toArray.all (·.oneCell') = true := by rw [← hOL]; exact all_oneCell_toArray (vb_one _)
  rw [hOL] at df eqs
  have HOL := Lib.hid hOL; have HLL := Lib.hid holl; have HONE := Lib.hid hone; have HOF := Lib.hid hOF; have HO32 := Lib.hid hol
  have KTH := Lib.hid kt
  clear hOL holl hone hOF hol kt ht
  obtain ⟨OS, hOS⟩ : ∃ OS, OL.toArray = OS := ⟨_, rfl⟩
  have TI := Lib.hid (show (Tryd.prog.info? 25).map (·.size) = some OS.size by rw [← hOS, List.size_toArray, HLL.out]; kernel_rfl)
  have hos : OS.size = 32 := by rw [← hOS, List.size_toArray, HLL.out]
  have hone2 : OS.all (·.oneCell') = true := by rw [← hOS]; exact HONE.out
  have HON2 := Lib.hid hone2; have HOS := Lib.hid hOS; have HOZ := Lib.hid hos
  rw [hOS] at df
  clear hone2 hOS
  go_enter Tryd.func6, Tryd.ntmps6
  go_upto_region 2 with (first
    | (go_at_call 7; (with_reducible refine df.out.mono ?_); rintro e w1 ⟨rfl, hb1⟩; have B1 := Lib.hid hb1; have hst := fun (c : Array Value) (h : c.size = 32) => run_storeCells_new (P := Tryd.prog) w1 25 c OS TI.out (by rw [HOZ.out]; exact h) HON2.out; clear hb1))
  have hb2 : Below w.heap.size w (w1.alloc (.cells OS 25)) := bthen B1.out ((Below.refl _ _).alloc (Nat.le_refl _) _)
  have hy2 : YX (w1.alloc (.cells OS 25)) w1.heap.size 25 OF := by unfold YX; rw [HOL.out, HOS.out]; exact BX.new w1 25 OS
  have B2 := Lib.hid hb2; have Y2 := Lib.hid hy2
  clear hb2 hy2 hst B1 df
  generalize w1.alloc (.cells OS 25) = W2 at *
  generalize w1.heap.size = D at *
  go_upto_region 3 with (first
    | (go_at_call 9; (with_reducible refine (nw.out _ B2.out).mono ?_); rintro e w3 ⟨rfl, hs3, hb3⟩; have S3 := Lib.hid hs3; have Y3 := Lib.hid (BX.later Y2.out hb3); have B3 := Lib.hid (bthen B2.out hb3); clear hs3 hb3))
  generalize W2.heap.size = Z at *
  have KS := Lib.hid (show ∀ W, Below w3.heap.size w3 W → (W.cell? ⟨D, 0, none⟩ = some (.int .u8 227) ∧ W.cell? ⟨D, 1, none⟩ = some (.int .u8 176) ∧ W.cell? ⟨D, 2, none⟩ = some (.int .u8 196) ∧ W.cell? ⟨D, 3, none⟩ = some (.int .u8 66) ∧ W.rangeAt D 0 OL) from fun W hb => by
    have y := BX.later Y3.out hb
    have c := fun j (hj : j < 32) => YX.cell (l := OF) y (by rw [HO32.out]; exact hj : j < OF.length)
    refine ⟨by rw [c 0 (by omega), g0], by rw [c 1 (by omega), g1], by rw [c 2 (by omega), g2], by rw [c 3 (by omega), g3], by rw [← HOL.out]; exact YX.range (l := OF) y⟩)
  have sm := Lib.hid (show ∀ W, Below w3.heap.size w3 W → Calls Tryd.prog 11 #[.pointer (some ⟨Z, 0, none⟩)] W fun e w' => e = .returned (.agg OL.toArray) ∧ Below W.heap.size W w' from fun W hb => by
    have := sum_any (a := Z) [] W (KTH.out.on (bthen B3.out hb)) (S3.out.later hb) Byt.nil (by simp)
    rw [HOF.out, HOL.out] at this
    exact this)
  have ln := Lib.hid (show ∀ W, Below w3.heap.size w3 W → Calls Tryd.prog 12 #[.pointer (some ⟨Z, 0, none⟩)] W fun e w' => e = .returned (.int .u64 0) ∧ W = w' from fun W hb => len_any12 W (S3.out.later hb))
  have cl := Lib.hid (show ∀ W, Below w3.heap.size w3 W → Calls Tryd.prog 13 #[.pointer (some ⟨Z, 0, none⟩)] W fun e w' => e = .returned (.pointer (some ⟨W.heap.size, 0, none⟩)) ∧ Below W.heap.size W w' from fun W hb => (clone_any W (S3.out.later hb)).mono fun e w' h => ⟨h.1, h.2.2⟩)
  have tiL : (Tryd.prog.info? 25).map (·.size) = some OL.length := by rw [HLL.out]; kernel_rfl
  have hu25 : Tryd.prog.underlying 25 = some (.array 32 5) := Tryd.underlying25
  have hg25 : Tryd.prog.eqGuardType Tryd.prog.depth 25 = false := by kernel_rfl
  have hacc : Below w3.heap.size w3 w3.drew := (Below.refl _ _).drew
  obtain ⟨c0, c1, c2, c3, rg⟩ := KS.out _ hacc
  have eqt := eqs.out
  clear g0 g1 g2 g3 nw HOF HOS HOZ HON2 HONE hos eqs
  go_region_held3 (fun W => (W.cell? ⟨D, 0, none⟩ = some (.int .u8 227) ∧ W.cell? ⟨D, 1, none⟩ = some (.int .u8 176) ∧ W.cell? ⟨D, 2, none⟩ = some (.int .u8 196) ∧ W.cell? ⟨D, 3, none⟩ = some (.int .u8 66) ∧ W.rangeAt D 0 OL)) (exact KS.out _ hacc) (first
    | (go_at_call 11; (with_reducible refine (sm.out _ hacc).mono ?_); rintro e w5 ⟨rfl, hb5⟩; replace hacc := bthen hacc hb5; clear hb5)
    | (go_at_call 12; (with_reducible refine (ln.out _ hacc).mono ?_); rintro e w5 ⟨rfl, rfl⟩)
    | (go_at_call 13; (with_reducible refine (cl.out _ hacc).mono ?_); rintro e w5 ⟨rfl, hb5⟩; replace hacc := bthen hacc hb5; clear hb5))
  go_wp2
  go_ret
  exact ⟨rfl, bthen B3.out hacc⟩
end Go.Proofs.YtfggknplekiaoaaDoor
