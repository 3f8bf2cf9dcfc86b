/- LAYER 19, the document's answers, third part: Bare. -/
import Derived.Test.YtjiafpmcibokbaaR19b
import Derived.Test.YtjiafpmcibokbaaN19b
namespace Go.Proofs.Ytjiafpmcibokbaa
open Go Go.RowKit
set_option maxHeartbeats 4000000
set_option maxRecDepth 100000
set_option linter.unusedVariables false
attribute [-go_sem] loadCellsFrom storeCells Instr.build
attribute [local go_sem] storeCells_one
namespace Fm
def bare (f : Fr) : Fr :=
  if f.k = 1 ∨ f.k = 5 then { mk3 f.k f.tok f.s f.r with tot := f.tot, sum := f.sum }
  else if f.k = 2 then { mk3 f.k f.tok f.s f.r with off := f.off }
  else if f.k = 3 then { mk3 f.k f.tok f.s f.r with off := f.off, A := f.A, n := f.n, c := f.c, xs := f.xs }
  else if f.k = 4 then { mk3 f.k f.tok f.s f.r with off := f.off, RA := f.RA, m := f.m, rc := f.rc, rs := f.rs }
  else if f.k = 6 then { mk3 f.k f.tok f.s f.r with tot := f.tot }
  else if f.k = 7 then { mk3 f.k f.tok f.s f.r with cd := f.cd }
  else mk3 f.k f.tok f.s f.r
end Fm
theorem refbare_any (f : Fm.Fr) (w : World) (hl : f.ln) :
    Calls Try.prog 15 #[.agg (Fm.FC f)] w fun e w' => e = .returned (.agg (Fm.FC (Fm.bare f))) ∧ Below w.heap.size w w' := by
  have q := fun o => FB.of ((BX.new w 31 (Fm.FC f)).alloc o) hl
  have c0 := fun o => (q o).c0
  have lt := fun o => (q o).ltok
  have le := fun o => (q o).lep
  have bm := fun W => run_build (P := Try.prog) W 31 #[(0, .int .i64 f.k), (1, .agg (f.tok.map Fm.ub).toArray), (2, .agg #[.int .u32 (f.s : Int), .int .u32 (f.r : Int)])] _ (built_mk3 f.k f.tok f.s f.r hl.1)
  have l3 := Fm.mk3_ln (k := f.k) (s := f.s) (r := f.r) hl.1
  have st := fun (c : Array Value) (o : Obj) (hc : c.size = 56) => run_storeCells_new (P := Try.prog) ((w.alloc (.cells (Fm.FC f) 31)).alloc o) 31 c (Fm.FC (Fm.mk3 f.k f.tok f.s f.r)) (by rw [Fm.FC_size l3]; kernel_rfl) (by rw [Fm.FC_size l3]; exact hc) (Fm.FC_one _)
  simp only [World.size_alloc] at st
  have sz := Fm.FC_size l3
  clear q
  go_enter Try.func15, Try.ntmps15
  go_upto_region 2 with (fail)
  have bF : BX (((w.alloc (.cells (Fm.FC f) 31)).alloc (.cells (Fm.FC Fm.nul) 31)).alloc (.cells (Fm.FC (Fm.mk3 f.k f.tok f.s f.r)) 31)) w.heap.size 31 (Fm.FC f) := ((BX.new w _ _).alloc _).alloc _
  have bZ : BX (((w.alloc (.cells (Fm.FC f) 31)).alloc (.cells (Fm.FC Fm.nul) 31)).alloc (.cells (Fm.FC (Fm.mk3 f.k f.tok f.s f.r)) 31)) (w.heap.size + 1) 31 (Fm.FC Fm.nul) := by
    have h := (BX.new (w.alloc (.cells (Fm.FC f) 31)) 31 (Fm.FC Fm.nul)).alloc (.cells (Fm.FC (Fm.mk3 f.k f.tok f.s f.r)) 31)
    simpa using h
  have bG : BX (((w.alloc (.cells (Fm.FC f) 31)).alloc (.cells (Fm.FC Fm.nul) 31)).alloc (.cells (Fm.FC (Fm.mk3 f.k f.tok f.s f.r)) 31)) (w.heap.size + 1 + 1) 31 (Fm.FC (Fm.mk3 f.k f.tok f.s f.r)) := by
    have h := BX.new ((w.alloc (.cells (Fm.FC f) 31)).alloc (.cells (Fm.FC Fm.nul) 31)) 31 (Fm.FC (Fm.mk3 f.k f.tok f.s f.r))
    simpa using h
  have bW : Below w.heap.size w (((w.alloc (.cells (Fm.FC f) 31)).alloc (.cells (Fm.FC Fm.nul) 31)).alloc (.cells (Fm.FC (Fm.mk3 f.k f.tok f.s f.r)) 31)) := (((Below.refl _ w).alloc (Nat.le_refl _) _).alloc (by simp) _).alloc (by simp; omega) _
  change Code.wp _ _ _ _ (((w.alloc (.cells (Fm.FC f) 31)).alloc (.cells (Fm.FC Fm.nul) 31)).alloc (.cells (Fm.FC (Fm.mk3 f.k f.tok f.s f.r)) 31))
  clear c0 lt le bm st sz
  generalize (((w.alloc (.cells (Fm.FC f) 31)).alloc (.cells (Fm.FC Fm.nul) 31)).alloc (.cells (Fm.FC (Fm.mk3 f.k f.tok f.s f.r)) 31)) = W1 at *
  have F := FB.of bF hl
  obtain ⟨c0, _, _, c19, c20, c53, c54, c55, _, _, lsum, _⟩ := F
  have f2 := fun j => bG.free j
  have h12 : w.heap.size + 1 ≠ w.heap.size + 1 + 1 := by omega
  go_upto_block 0 with (fail)
  go_cut [12, 13] (fun _ _ W => Hid (BX W (w.heap.size + 1 + 1) 31 (Fm.FC (Fm.bare f))) ∧ Hid (BX W (w.heap.size + 1) 31 (Fm.FC Fm.nul)) ∧ Hid (Below w.heap.size w W))
  case first =>
    by_cases k1 : f.k = 1
    · have kc : f.k = 1 ∨ f.k = 5 := .inl k1
      have EB : Hid (Fm.bare f = { Fm.mk3 f.k f.tok f.s f.r with tot := f.tot, sum := f.sum }) := show _ = _ by unfold Fm.bare; rw [if_pos kc]
      have d20 : W1.cell? ⟨w.heap.size + 1 + 1, 20, none⟩ = some (.int .u64 0) := bG.cell (Fm.FC_20 l3)
      have szs : (f.sum.map Fm.ub).toArray.size = 32 := by simp [hl.2]
      have ssa : (storeCells ⟨w.heap.size + 1 + 1, 21, none⟩ (f.sum.map Fm.ub) 0).run Try.prog W1.drew = .ok () (W1.drew.setCells (w.heap.size + 1 + 1) 21 (f.sum.map Fm.ub)) := run_store_part (BX.drew bG) 21 (f.sum.map Fm.ub) (by simp [Fm.FC_size l3, hl.2]) (Fm.ub_one _)
      have lsa : (loadCellsFrom ⟨w.heap.size, 21, none⟩ 0 32 #[]).run Try.prog W1.drew = .ok (f.sum.map Fm.ub).toArray W1.drew := (FB.of (BX.drew bF) hl).lsum
      have ssb : (storeCells ⟨w.heap.size + 1 + 1, 21, none⟩ (f.sum.map Fm.ub) 0).run Try.prog (W1.setCell ⟨w.heap.size + 1 + 1, 20, none⟩ (.int .u64 (f.tot : Int))).drew = .ok () ((W1.setCell ⟨w.heap.size + 1 + 1, 20, none⟩ (.int .u64 (f.tot : Int))).drew.setCells (w.heap.size + 1 + 1) 21 (f.sum.map Fm.ub)) := run_store_part (BX.drew (bG.set 20 (.int .u64 (f.tot : Int)))) 21 (f.sum.map Fm.ub) (by simp [Fm.FC_size l3, hl.2]) (Fm.ub_one _)
      have lsb : (loadCellsFrom ⟨w.heap.size, 21, none⟩ 0 32 #[]).run Try.prog (W1.setCell ⟨w.heap.size + 1 + 1, 20, none⟩ (.int .u64 (f.tot : Int))).drew = .ok (f.sum.map Fm.ub).toArray (W1.setCell ⟨w.heap.size + 1 + 1, 20, none⟩ (.int .u64 (f.tot : Int))).drew := (FB.of (BX.drew (bF.other (by omega) _)) hl).lsum
      have c20b : (W1.drew.setCells (w.heap.size + 1 + 1) 21 (f.sum.map Fm.ub)).cell? ⟨w.heap.size, 20, none⟩ = some (.int .u64 (f.tot : Int)) := (FB.of (BX.puts_other (by omega) _ _ _ bF.drew) hl).c20
      have d20b : (W1.drew.setCells (w.heap.size + 1 + 1) 21 (f.sum.map Fm.ub)).cell? ⟨w.heap.size + 1 + 1, 20, none⟩ = some (.int .u64 0) := BX.cell ((BX.put (f.sum.map Fm.ub) 21 _ _ bG.drew).to (Fm.FC_sums l3 f.sum hl.2)) (Fm.FC_20 (show Fm.Fr.ln _ from ⟨l3.1, hl.2⟩))
      have f20b : (W1.drew.setCells (w.heap.size + 1 + 1) 21 (f.sum.map Fm.ub)).frozen? ⟨w.heap.size + 1 + 1, 20, none⟩ = false := BX.free (BX.put (f.sum.map Fm.ub) 21 _ _ bG.drew) 20
      go_wp2
      go_region
      all_goals go_wp2
      all_goals go_meet
      all_goals first
        | exact ⟨by rw [EB.out]; exact ((BX.put (f.sum.map Fm.ub) 21 _ _ (BX.drew ((BX.set bG 20 (.int .u64 (f.tot : Int))).to (Fm.FC_tot (f := (Fm.mk3 f.k f.tok f.s f.r)) (show Fm.Fr.ln _ from l3) f.tot)))).to (Fm.FC_sums (f := { Fm.mk3 f.k f.tok f.s f.r with tot := f.tot }) (show Fm.Fr.ln _ from (show Fm.Fr.ln _ from l3)) f.sum hl.2)), (BX.puts_other (by omega) _ _ _ (BX.drew (BX.other bZ (by omega) _))), (Below.setCells (a := (w.heap.size + 1 + 1)) (by omega) _ _ _ (Below.drew (Below.setCell bW (p := ⟨(w.heap.size + 1 + 1), 20, none⟩) (by simp; omega) _)))⟩
    by_cases k5 : f.k = 5
    · have kc : f.k = 1 ∨ f.k = 5 := .inr k5
      have EB : Hid (Fm.bare f = { Fm.mk3 f.k f.tok f.s f.r with tot := f.tot, sum := f.sum }) := show _ = _ by unfold Fm.bare; rw [if_pos kc]
      have d20 : W1.cell? ⟨w.heap.size + 1 + 1, 20, none⟩ = some (.int .u64 0) := bG.cell (Fm.FC_20 l3)
      have szs : (f.sum.map Fm.ub).toArray.size = 32 := by simp [hl.2]
      have ssa : (storeCells ⟨w.heap.size + 1 + 1, 21, none⟩ (f.sum.map Fm.ub) 0).run Try.prog W1.drew = .ok () (W1.drew.setCells (w.heap.size + 1 + 1) 21 (f.sum.map Fm.ub)) := run_store_part (BX.drew bG) 21 (f.sum.map Fm.ub) (by simp [Fm.FC_size l3, hl.2]) (Fm.ub_one _)
      have lsa : (loadCellsFrom ⟨w.heap.size, 21, none⟩ 0 32 #[]).run Try.prog W1.drew = .ok (f.sum.map Fm.ub).toArray W1.drew := (FB.of (BX.drew bF) hl).lsum
      have ssb : (storeCells ⟨w.heap.size + 1 + 1, 21, none⟩ (f.sum.map Fm.ub) 0).run Try.prog (W1.setCell ⟨w.heap.size + 1 + 1, 20, none⟩ (.int .u64 (f.tot : Int))).drew = .ok () ((W1.setCell ⟨w.heap.size + 1 + 1, 20, none⟩ (.int .u64 (f.tot : Int))).drew.setCells (w.heap.size + 1 + 1) 21 (f.sum.map Fm.ub)) := run_store_part (BX.drew (bG.set 20 (.int .u64 (f.tot : Int)))) 21 (f.sum.map Fm.ub) (by simp [Fm.FC_size l3, hl.2]) (Fm.ub_one _)
      have lsb : (loadCellsFrom ⟨w.heap.size, 21, none⟩ 0 32 #[]).run Try.prog (W1.setCell ⟨w.heap.size + 1 + 1, 20, none⟩ (.int .u64 (f.tot : Int))).drew = .ok (f.sum.map Fm.ub).toArray (W1.setCell ⟨w.heap.size + 1 + 1, 20, none⟩ (.int .u64 (f.tot : Int))).drew := (FB.of (BX.drew (bF.other (by omega) _)) hl).lsum
      have c20b : (W1.drew.setCells (w.heap.size + 1 + 1) 21 (f.sum.map Fm.ub)).cell? ⟨w.heap.size, 20, none⟩ = some (.int .u64 (f.tot : Int)) := (FB.of (BX.puts_other (by omega) _ _ _ bF.drew) hl).c20
      have d20b : (W1.drew.setCells (w.heap.size + 1 + 1) 21 (f.sum.map Fm.ub)).cell? ⟨w.heap.size + 1 + 1, 20, none⟩ = some (.int .u64 0) := BX.cell ((BX.put (f.sum.map Fm.ub) 21 _ _ bG.drew).to (Fm.FC_sums l3 f.sum hl.2)) (Fm.FC_20 (show Fm.Fr.ln _ from ⟨l3.1, hl.2⟩))
      have f20b : (W1.drew.setCells (w.heap.size + 1 + 1) 21 (f.sum.map Fm.ub)).frozen? ⟨w.heap.size + 1 + 1, 20, none⟩ = false := BX.free (BX.put (f.sum.map Fm.ub) 21 _ _ bG.drew) 20
      go_wp2
      go_region
      all_goals go_wp2
      all_goals go_meet
      all_goals first
        | exact ⟨by rw [EB.out]; exact ((BX.put (f.sum.map Fm.ub) 21 _ _ (BX.drew ((BX.set bG 20 (.int .u64 (f.tot : Int))).to (Fm.FC_tot (f := (Fm.mk3 f.k f.tok f.s f.r)) (show Fm.Fr.ln _ from l3) f.tot)))).to (Fm.FC_sums (f := { Fm.mk3 f.k f.tok f.s f.r with tot := f.tot }) (show Fm.Fr.ln _ from (show Fm.Fr.ln _ from l3)) f.sum hl.2)), (BX.puts_other (by omega) _ _ _ (BX.drew (BX.other bZ (by omega) _))), (Below.setCells (a := (w.heap.size + 1 + 1)) (by omega) _ _ _ (Below.drew (Below.setCell bW (p := ⟨(w.heap.size + 1 + 1), 20, none⟩) (by simp; omega) _)))⟩
    by_cases kc : f.k = 2
    · have EB : Hid (Fm.bare f = { Fm.mk3 f.k f.tok f.s f.r with off := f.off }) := show _ = _ by unfold Fm.bare; rw [if_neg (by omega), if_pos kc]
      have d19 : W1.cell? ⟨w.heap.size + 1 + 1, 19, none⟩ = some (.int .u64 0) := bG.cell (Fm.FC_19 l3)
      go_wp2
      all_goals go_meet
      all_goals first
        | exact ⟨by rw [EB.out]; exact ((BX.set bG 19 (.int .u64 (f.off : Int))).to (Fm.FC_off (f := (Fm.mk3 f.k f.tok f.s f.r)) (show Fm.Fr.ln _ from l3) f.off)), (BX.other bZ (by omega) _), (Below.setCell bW (p := ⟨(w.heap.size + 1 + 1), 19, none⟩) (by simp; omega) _)⟩
    have k2 := kc
    clear kc
    by_cases kc : f.k = 3
    · have EB : Hid (Fm.bare f = { Fm.mk3 f.k f.tok f.s f.r with off := f.off, A := f.A, n := f.n, c := f.c, xs := f.xs }) := show _ = _ by unfold Fm.bare; rw [if_neg (by omega), if_neg (by omega), if_pos kc]
      have d19 : W1.cell? ⟨w.heap.size + 1 + 1, 19, none⟩ = some (.int .u64 0) := bG.cell (Fm.FC_19 l3)
      have d53 : W1.cell? ⟨w.heap.size + 1 + 1, 53, none⟩ = some (.slice none 0 0) := bG.cell (Fm.FC_53 l3)
      go_wp2
      go_region
      all_goals go_wp2
      all_goals go_meet
      all_goals first
        | exact ⟨by rw [EB.out]; exact (BX.drew ((BX.set ((BX.set bG 19 (.int .u64 (f.off : Int))).to (Fm.FC_off (f := (Fm.mk3 f.k f.tok f.s f.r)) (show Fm.Fr.ln _ from l3) f.off)) 53 (.slice f.A f.n f.c)).to (Fm.FC_data (f := { Fm.mk3 f.k f.tok f.s f.r with off := f.off }) (show Fm.Fr.ln _ from (show Fm.Fr.ln _ from l3)) f.A f.n f.c f.xs))), (BX.drew (BX.other (BX.other bZ (by omega) _) (by omega) _)), (Below.drew (Below.setCell (Below.setCell bW (p := ⟨(w.heap.size + 1 + 1), 19, none⟩) (by simp; omega) _) (p := ⟨(w.heap.size + 1 + 1), 53, none⟩) (by simp; omega) _))⟩
    have k3 := kc
    clear kc
    by_cases kc : f.k = 4
    · have EB : Hid (Fm.bare f = { Fm.mk3 f.k f.tok f.s f.r with off := f.off, RA := f.RA, m := f.m, rc := f.rc, rs := f.rs }) := show _ = _ by unfold Fm.bare; rw [if_neg (by omega), if_neg (by omega), if_neg (by omega), if_pos kc]
      have d19 : W1.cell? ⟨w.heap.size + 1 + 1, 19, none⟩ = some (.int .u64 0) := bG.cell (Fm.FC_19 l3)
      have d54 : W1.cell? ⟨w.heap.size + 1 + 1, 54, none⟩ = some (.slice none 0 0) := bG.cell (Fm.FC_54 l3)
      go_wp2
      go_region
      all_goals go_wp2
      all_goals go_meet
      all_goals first
        | exact ⟨by rw [EB.out]; exact (BX.drew ((BX.set ((BX.set bG 19 (.int .u64 (f.off : Int))).to (Fm.FC_off (f := (Fm.mk3 f.k f.tok f.s f.r)) (show Fm.Fr.ln _ from l3) f.off)) 54 (.slice f.RA f.m f.rc)).to (Fm.FC_rgs (f := { Fm.mk3 f.k f.tok f.s f.r with off := f.off }) (show Fm.Fr.ln _ from (show Fm.Fr.ln _ from l3)) f.RA f.m f.rc f.rs))), (BX.drew (BX.other (BX.other bZ (by omega) _) (by omega) _)), (Below.drew (Below.setCell (Below.setCell bW (p := ⟨(w.heap.size + 1 + 1), 19, none⟩) (by simp; omega) _) (p := ⟨(w.heap.size + 1 + 1), 54, none⟩) (by simp; omega) _))⟩
    have k4 := kc
    clear kc
    by_cases kc : f.k = 6
    · have EB : Hid (Fm.bare f = { Fm.mk3 f.k f.tok f.s f.r with tot := f.tot }) := show _ = _ by unfold Fm.bare; rw [if_neg (by omega), if_neg (by omega), if_neg (by omega), if_neg (by omega), if_pos kc]
      have d20 : W1.cell? ⟨w.heap.size + 1 + 1, 20, none⟩ = some (.int .u64 0) := bG.cell (Fm.FC_20 l3)
      go_wp2
      all_goals go_meet
      all_goals first
        | exact ⟨by rw [EB.out]; exact ((BX.set bG 20 (.int .u64 (f.tot : Int))).to (Fm.FC_tot (f := (Fm.mk3 f.k f.tok f.s f.r)) (show Fm.Fr.ln _ from l3) f.tot)), (BX.other bZ (by omega) _), (Below.setCell bW (p := ⟨(w.heap.size + 1 + 1), 20, none⟩) (by simp; omega) _)⟩
    have k6 := kc
    clear kc
    by_cases kc : f.k = 7
    · have EB : Hid (Fm.bare f = { Fm.mk3 f.k f.tok f.s f.r with cd := f.cd }) := show _ = _ by unfold Fm.bare; rw [if_neg (by omega), if_neg (by omega), if_neg (by omega), if_neg (by omega), if_neg (by omega), if_pos kc]
      have d55 : W1.cell? ⟨w.heap.size + 1 + 1, 55, none⟩ = some (.int .i64 0) := bG.cell (Fm.FC_55 l3)
      go_wp2
      all_goals go_meet
      all_goals first
        | exact ⟨by rw [EB.out]; exact ((BX.set bG 55 (.int .i64 f.cd)).to (Fm.FC_code (f := (Fm.mk3 f.k f.tok f.s f.r)) (show Fm.Fr.ln _ from l3) f.cd)), (BX.other bZ (by omega) _), (Below.setCell bW (p := ⟨(w.heap.size + 1 + 1), 55, none⟩) (by simp; omega) _)⟩
    · have EB : Hid (Fm.bare f = Fm.mk3 f.k f.tok f.s f.r) := show _ = _ by unfold Fm.bare; rw [if_neg (by omega), if_neg (by omega), if_neg (by omega), if_neg (by omega), if_neg (by omega), if_neg (by omega)]
      go_wp2
      all_goals go_meet
      all_goals first
        | exact ⟨by rw [EB.out]; exact bG, bZ, bW⟩
  case rest =>
    obtain ⟨BG, BZ, BW⟩ := hcut
    have hb : (Fm.bare f).ln := by
      unfold Fm.bare
      (repeat' split) <;> first | exact l3 | exact ⟨l3.1, hl.2⟩
    clear bF bG bZ bW l3 hl
    have sz := Fm.FC_size hb
    have la := run_cells_part (P := Try.prog) BG.out 0 _ 56 sz (fun j _ => by rw [Nat.zero_add])
    have ss := run_store_part (P := Try.prog) BZ.out 0 (Fm.FC (Fm.bare f)).toList (by rw [Array.length_toList, sz, Fm.FC_size Fm.nul_ln]; decide) (fun v hv => (Array.all_eq_true_iff_forall_mem.1 (Fm.FC_one _)) v (by simpa using hv))
    have b3 : BX (wc.setCells (w.heap.size + 1) 0 (Fm.FC (Fm.bare f)).toList) (w.heap.size + 1) 31 (Fm.FC (Fm.bare f)) := by
      have h2 := BX.put (Fm.FC (Fm.bare f)).toList 0 _ _ BZ.out
      have h := Fm.putL_mid (Fm.FC (Fm.bare f)).toList (Fm.FC Fm.nul).toList [] [] (by rw [Array.length_toList, Array.length_toList, sz, Fm.FC_size Fm.nul_ln])
      exact h2.to (by simpa using h)
    have lr := run_cells_part (P := Try.prog) b3 0 _ 56 sz (fun j _ => by rw [Nat.zero_add])
    have BR := Lib.hid (Below.setCells (a := w.heap.size + 1) (by omega) (Fm.FC (Fm.bare f)).toList 0 _ BW.out)
    clear b3
    go_wp2
    refine bodyPost_ret (v := .agg (Fm.FC (Fm.bare f))) (by simp [results, Try.f15, go_sem, lr]) rfl ⟨rfl, ?_⟩
    exact BR.out
end Go.Proofs.Ytjiafpmcibokbaa
