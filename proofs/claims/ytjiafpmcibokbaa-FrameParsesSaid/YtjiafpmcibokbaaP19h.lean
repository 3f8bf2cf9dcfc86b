/- LAYER 19, frame, eighth part: Bare. -/
import Derived.Test.YtjiafpmcibokbaaP19g
namespace Go.Proofs.Ytjiafpmcibokbaa
open Go Go.RowKit
set_option maxHeartbeats 2000000
set_option maxRecDepth 100000
set_option linter.unusedVariables false
attribute [-go_sem] loadCellsFrom storeCells Instr.build
attribute [local go_sem] storeCells_one
theorem built_mk3p (k : Int) (tok : List Int) (s r : Nat) (h : tok.length = 16) :
    Try.prog.built 42 [(0, .int .i64 k), (1, .agg (tok.map Fm.ub).toArray), (2, .agg #[.int .u32 (s : Int), .int .u32 (r : Int)])] = some (Fm.FC (Fm.mk3 k tok s r)) := by
  obtain ⟨a0, a1, a2, a3, a4, a5, a6, a7, a8, a9, aa, ab, ac, ad, ae, af, rfl⟩ := Fm.row16 h
  kernel_rfl
theorem built_nulp : Try.prog.built 42 [] = some (Fm.FC Fm.nul) := by kernel_rfl
theorem put_any19 {h1 : Nat} {W : World} {T : TypeId} {g0 g : Fm.Fr} (bZ : BX W h1 T (Fm.FC g0)) (l0 : g0.ln) (lg : g.ln) : BX (W.setCells h1 0 (Fm.FC g).toList) h1 T (Fm.FC g) := by
  have h2 := BX.put (Fm.FC g).toList 0 _ _ bZ
  have h3 := Fm.putL_mid (Fm.FC g).toList (Fm.FC g0).toList [] [] (by rw [Array.length_toList, Array.length_toList, Fm.FC_size lg, Fm.FC_size l0])
  exact h2.to (by simpa using h3)
theorem store_any19 {h1 : Nat} {W : World} {T : TypeId} {g0 g : Fm.Fr} (bZ : BX W h1 T (Fm.FC g0)) (l0 : g0.ln) (lg : g.ln) : (storeCells ⟨h1, 0, none⟩ (Fm.FC g).toList 0).run Try.prog W = .ok () (W.setCells h1 0 (Fm.FC g).toList) :=
  run_store_part bZ 0 (Fm.FC g).toList (by rw [Array.length_toList, Fm.FC_size lg, Fm.FC_size l0]; decide) (fun v hv => (Array.all_eq_true_iff_forall_mem.1 (Fm.FC_one _)) v (by simpa using hv))
theorem load_any19 {h1 : Nat} {W : World} {T : TypeId} {g : Fm.Fr} (lg : g.ln) (b : BX W h1 T (Fm.FC g)) : (loadCellsFrom ⟨h1, 0, none⟩ 0 56 #[]).run Try.prog W = .ok (Fm.FC g) W :=
  run_cells_part b 0 _ 56 (Fm.FC_size lg) (fun j _ => by rw [Nat.zero_add])
namespace Fm
def keepL (f : Fr) (l : List Int) (b : Fr) : Fr := l.foldl (fun b x => keepE x f b) b
theorem bare_fl (f : Fr) : er (bare f) = keepL f (fl f.k) (er (mk3 f.k f.tok f.s f.r)) := by
  unfold bare fl
  split
  · rename_i h; simp only [keepL, keepE, List.foldl_cons, List.foldl_nil]; rfl
  split
  · rfl
  split
  · rfl
  split
  · rfl
  split
  · rfl
  split
  · rfl
  · rfl
theorem keepL_take {f b : Fr} {l : List Int} {j : Nat} (h : j < l.length) : keepL f (l.take (j + 1)) b = keepE (l.getD j 0) f (keepL f (l.take j) b) := by
  unfold keepL
  rw [List.take_add_one, List.getElem?_eq_getElem h, List.foldl_append, List.getD_eq_getElem?_getD, List.getElem?_eq_getElem h]
  rfl
end Fm
theorem bare_any19 (f : Fm.Fr) (w : World) (hl : f.ln) (rf : RG w w.heap.size f.RA f.m f.rs) (df : RB w w.heap.size f.A f.n f.xs) (hm : f.m ≤ 10000) (hfn : f.n ≤ 200000) :
    Calls Try.prog 14 #[.agg (Fm.FC f)] w fun e w' => ∃ g, e = .returned (.agg (Fm.FC g)) ∧ Fm.er g = Fm.er (Fm.bare f) ∧ g.ln ∧ DD w' g ∧ Below w.heap.size w w' := by
  have q := fun o => FB.of ((BX.new w 42 (Fm.FC f)).alloc o) hl
  have c0 := fun o => (q o).c0
  have lt := fun o => (q o).ltok
  have le := fun o => (q o).lep
  have bm := fun W => run_build (P := Try.prog) W 42 #[(0, .int .i64 f.k), (1, .agg (f.tok.map Fm.ub).toArray), (2, .agg #[.int .u32 (f.s : Int), .int .u32 (f.r : Int)])] _ (built_mk3p f.k f.tok f.s f.r hl.1)
  have l3 := Fm.mk3_ln (k := f.k) (s := f.s) (r := f.r) hl.1
  have st := fun (c : Array Value) (o : Obj) (hc : c.size = 56) => run_storeCells_new (P := Try.prog) ((w.alloc (.cells (Fm.FC f) 42)).alloc o) 42 c (Fm.FC (Fm.mk3 f.k f.tok f.s f.r)) (by rw [Fm.FC_size l3]; kernel_rfl) (by rw [Fm.FC_size l3]; exact hc) (Fm.FC_one _)
  simp only [World.size_alloc] at st
  have sz := Fm.FC_size l3
  clear q
  have RF0 := Lib.hid rf
  have DF0 := Lib.hid df
  clear rf df
  go_enter Try.func14, Try.ntmps14
  go_upto_region 2 with (fail)
  have bF : BX (((w.alloc (.cells (Fm.FC f) 42)).alloc (.cells (Fm.FC Fm.nul) 42)).alloc (.cells (Fm.FC (Fm.mk3 f.k f.tok f.s f.r)) 42)) w.heap.size 42 (Fm.FC f) := ((BX.new w _ _).alloc _).alloc _
  have bZ : BX (((w.alloc (.cells (Fm.FC f) 42)).alloc (.cells (Fm.FC Fm.nul) 42)).alloc (.cells (Fm.FC (Fm.mk3 f.k f.tok f.s f.r)) 42)) (w.heap.size + 1) 42 (Fm.FC Fm.nul) := by
    have h := (BX.new (w.alloc (.cells (Fm.FC f) 42)) 42 (Fm.FC Fm.nul)).alloc (.cells (Fm.FC (Fm.mk3 f.k f.tok f.s f.r)) 42)
    simpa using h
  have bG : BX (((w.alloc (.cells (Fm.FC f) 42)).alloc (.cells (Fm.FC Fm.nul) 42)).alloc (.cells (Fm.FC (Fm.mk3 f.k f.tok f.s f.r)) 42)) (w.heap.size + 1 + 1) 42 (Fm.FC (Fm.mk3 f.k f.tok f.s f.r)) := by
    have h := BX.new ((w.alloc (.cells (Fm.FC f) 42)).alloc (.cells (Fm.FC Fm.nul) 42)) 42 (Fm.FC (Fm.mk3 f.k f.tok f.s f.r))
    simpa using h
  have bW : Below w.heap.size w (((w.alloc (.cells (Fm.FC f) 42)).alloc (.cells (Fm.FC Fm.nul) 42)).alloc (.cells (Fm.FC (Fm.mk3 f.k f.tok f.s f.r)) 42)) := (((Below.refl _ w).alloc (Nat.le_refl _) _).alloc (by simp) _).alloc (by simp; omega) _
  change Code.wp _ _ _ _ (((w.alloc (.cells (Fm.FC f) 42)).alloc (.cells (Fm.FC Fm.nul) 42)).alloc (.cells (Fm.FC (Fm.mk3 f.k f.tok f.s f.r)) 42))
  clear c0 lt le bm st sz
  generalize (((w.alloc (.cells (Fm.FC f) 42)).alloc (.cells (Fm.FC Fm.nul) 42)).alloc (.cells (Fm.FC (Fm.mk3 f.k f.tok f.s f.r)) 42)) = W1 at *
  have c0 := (FB.of bF hl).c0
  have BF := Lib.hid bF
  have BZ := Lib.hid bZ
  have BG := Lib.hid bG
  have BW := Lib.hid bW
  obtain ⟨k, hk⟩ : ∃ k, f.k = k := ⟨_, rfl⟩
  rw [hk] at c0
  have HKK := Lib.hid hk
  clear bF bZ bG bW hk
  have hT : 42 ≠ 5 := by decide
  have hT2 : 42 ≠ 69 := by decide
  go_wp2_with (go_at_call 24; (with_reducible refine (fieldsof_any19 _ _).mono ?_); rintro e w3 ⟨A3, n3, c3, rfl, hi3, hn3, hb3⟩; have HB3 := Lib.hid (bthen' BW.out hb3); have BF3 := Lib.hid (BF.out.later hb3); have BZ3 := Lib.hid (BZ.out.later hb3); have BG3 := Lib.hid (BG.out.later hb3); have HI3 := Lib.hid hi3; clear hi3 hb3)
  obtain ⟨L, hL⟩ : ∃ L, Fm.fl k = L := ⟨_, rfl⟩
  rw [hL] at HI3
  have HL := Lib.hid hL
  have HLN := Lib.hid HI3.out.1
  have HFL := Lib.hid (show Fm.er (Fm.bare f) = Fm.keepL f L (Fm.er (Fm.mk3 f.k f.tok f.s f.r)) by rw [← HL.out, ← HKK.out]; exact Fm.bare_fl f)
  have L3 := Lib.hid l3
  clear c0 hL l3
  go_loopw [17] (fun i W => ∃ (j : Nat) (g : Fm.Fr), j ≤ n3 ∧ i = .int .i64 j ∧ Hid (BX W (w.heap.size + 1 + 1) 42 (Fm.FC g) ∧ Fm.er g = Fm.keepL f (L.take j) (Fm.er (Fm.mk3 f.k f.tok f.s f.r)) ∧ g.ln ∧ DA W (w.heap.size + 1 + 1) g) ∧ Hid (BX W w.heap.size 42 (Fm.FC f)) ∧ Hid (BX W (w.heap.size + 1) 42 (Fm.FC Fm.nul)) ∧ Hid (Below w.heap.size w W) ∧ Hid (IL W A3 n3 L)) (fun i _ => n3 - (intOf i).toNat)
  case atStart => exact ⟨0, Fm.mk3 f.k f.tok f.s f.r, Nat.zero_le _, rfl, ⟨BG3.out, rfl, L3.out, da_none _ _ _ _ _ _⟩, BF3.out, BZ3.out, HB3.out, HI3.out⟩
  case round =>
    obtain ⟨j, g, hj, rfl, HG, BFJ, BZJ, HBJ, HIJ⟩ := hrel
    have hn3' := hn3
    by_cases hlt : j < n3
    · have hlt' : (j : Int) < n3 := by omega
      obtain ⟨b3, rfl, c7⟩ := HIJ.out.at_ hlt
      rw [Nat.zero_add] at c7
      have la := load_any19 hl BFJ.out
      have HTK := Lib.hid (Fm.keepL_take (f := f) (b := Fm.er (Fm.mk3 f.k f.tok f.s f.r)) (l := L) (j := j) (by rw [HLN.out]; exact hlt))
      have hin : 0 ≤ L.getD j 0 ∧ L.getD j 0 ≤ 5 := by rw [← HL.out]; exact Fm.fl_in (by rw [HL.out, HLN.out]; exact hlt)
      obtain ⟨x, hx⟩ : ∃ x, L.getD j 0 = x := ⟨_, rfl⟩
      rw [hx] at c7 HTK hin
      have KX := Lib.hid (keepx_any19 (B := w.heap.size) hin hl HG.out.2.2.1 HG.out.1 HG.out.2.2.2 HBJ.out.size (RF0.out.below HBJ.out) (DF0.out.below HBJ.out) hm hfn)
      clear hin hx
      go_wp2_with (go_at_call 32; (with_reducible refine KX.out.mono ?_); rintro e w4 ⟨rfl, g4, bg4, eg4, lg4, dg4, ot4⟩; have HG4 := Lib.hid (And.intro bg4 (And.intro eg4 (And.intro lg4 dg4))); have BF4 := Lib.hid (BFJ.out.oth ot4 (by omega)); have BZ4 := Lib.hid (BZJ.out.oth ot4 (by omega)); have HI4 := Lib.hid (HIJ.out.oth ot4 HG.out.1 hT2); have HB4 := Lib.hid (HBJ.out.trans (ot4.below (by omega) HBJ.out.size)); clear bg4 eg4 lg4 dg4 ot4)
      go_roundw
      case rel => exact ⟨j + 1, g4, by omega, by go_num, ⟨HG4.out.1, by rw [HTK.out, HG4.out.2.1, HG.out.2.1], HG4.out.2.2.1, HG4.out.2.2.2⟩, BF4.out, BZ4.out, HB4.out, HI4.out⟩
      case measure => simp [intOf]; omega
    · obtain rfl : j = n3 := by omega
      have HE := Lib.hid (show Fm.er g = Fm.er (Fm.bare f) by rw [HG.out.2.1, HFL.out, List.take_of_length_le (by rw [HLN.out]; exact Nat.le_refl _)])
      have LG := HG.out.2.2.1
      have sz := Fm.FC_size LG
      have la := load_any19 LG HG.out.1
      have ss := store_any19 BZJ.out Fm.nul_ln LG
      have lr := load_any19 LG (put_any19 BZJ.out Fm.nul_ln LG)
      have OT := Lib.hid (Oth.setCells19 (a := w.heap.size + 1) (Fm.FC g).toList 0 wr (Oth.refl _ wr))
      have DF := Lib.hid (DA.dd (HG.out.2.2.2.oth' OT.out (Nat.le_succ _)))
      have HB5 := Lib.hid (HBJ.out.trans (OT.out.below (Nat.le_succ _) HBJ.out.size))
      go_wp2
      refine bodyPost_ret (v := .agg (Fm.FC g)) (by simp [results, Try.f14, go_sem, lr]) rfl ?_
      exact ⟨g, rfl, HE.out, LG, DF.out, HB5.out⟩
end Go.Proofs.Ytjiafpmcibokbaa
