/- LAYER 19, frame, twelfth part: a head read. gen_p19l.py -/
import Derived.Test.YtjiafpmcibokbaaP19k
import Derived.Test.YtjiafpmcibokbaaD18b
namespace Go.Proofs.Ytjiafpmcibokbaa
open Go Go.RowKit
set_option maxHeartbeats 3000000
set_option maxRecDepth 100000
set_option linter.unusedVariables false
attribute [-go_sem] loadCellsFrom storeCells Instr.build
attribute [local go_sem] storeCells_one
namespace Fm
/-- What stands ahead of a frame's fields. -/
def headE (b : List Int) : Fr × Int :=
  if b.getD 0 0 ≠ 84 ∨ b.getD 1 0 ≠ 87 then (nul, 3)
  else if b.getD 2 0 < 1 ∨ 7 < b.getD 2 0 then (nul, 11)
  else if b.getD 3 0 ≠ (Dl.mark (ofL ((b.drop 20).take 4)) (ofL ((b.drop 24).take 4)) : Nat) then (nul, 16)
  else (mk3 (b.getD 2 0) ((b.drop 4).take 16) (ofL ((b.drop 20).take 4)) (ofL ((b.drop 24).take 4)), 0)
theorem tk_in {b : List Int} {a m : Nat} (h : a + m ≤ b.length) : tk m (b.drop a, false) = (b.drop a).take m := by
  unfold tk
  rw [if_pos (by show m ≤ (b.drop a).length; rw [List.length_drop]; omega)]
theorem lft_in {b : List Int} {a m : Nat} (h : a + m ≤ b.length) : lft m (b.drop a, false) = (b.drop (a + m), false) := by
  unfold lft
  rw [if_pos (by show m ≤ (b.drop a).length; rw [List.length_drop]; omega), List.drop_drop]
theorem ofL_one {b : List Int} {a : Nat} (hb : Byt b) (h : a + 1 ≤ b.length) : ((ofL ((b.drop a).take 1) : Nat) : Int) = b.getD a 0 := by
  have e : (b.drop a).take 1 = [b.getD a 0] := by
    rw [List.take_one, List.head?_drop, List.getD_eq_getElem?_getD, List.getElem?_eq_getElem (by omega)]
    rfl
  have h2 := hb a
  rw [e]
  show ((256 * 0 + (b.getD a 0).toNat : Nat) : Int) = b.getD a 0
  omega
theorem take2 {b : List Int} (h : 2 ≤ b.length) : (b.drop 0).take 2 = [b.getD 0 0, b.getD 1 0] := by
  match b, h with
  | a :: a1 :: r, _ => rfl
end Fm
theorem str_two19 {x y : Int} (hx : 0 ≤ x ∧ x ≤ 255) (hy : 0 ≤ y ∧ y ≤ 255) (h : ¬ (x = 84 ∧ y = 87)) : ((strOfNums [x, y]).toList == [84, 87]) = false := by
  rw [beq_eq_false_iff_ne]
  intro e
  rw [ByteArray.toList_eq, strOfNums_data] at e
  simp only [List.map_cons, List.map_nil, List.cons.injEq, and_true] at e
  have e1 := congrArg UInt8.toNat e.1
  have e2 := congrArg UInt8.toNat e.2
  simp at e1 e2
  omega
/-- A take out of enough. -/
theorem take_in19 {a m p B : Nat} {b : List Int} {w : World} (h : RD w p B (b.drop a, false)) (hB : B ≤ p) (hm : a + m ≤ b.length) (hm2 : m ≤ 600000) :
    Calls Try.prog 36 #[.pointer (some ⟨p, 0, none⟩), .int .i64 m] w fun e w' => ∃ A c, e = .returned (.slice A m c) ∧ RB w' w'.heap.size A m ((b.drop a).take m) ∧ m ≤ c ∧ c ≤ maxLen ∧ RD w' p B (b.drop (a + m), false) ∧ Oth p w w' := by
  refine (take_any19 m p B _ w h hB hm2).mono fun e w' ⟨A, c, h1, h2, h3, h4, h5, h6, _⟩ => ⟨A, c, h1, ?_, h3, h4, ?_, h6⟩
  · rw [← Fm.tk_in hm]; exact h2
  · rw [← Fm.lft_in hm]; exact h5
theorem readhead_any19 (p B : Nat) (b : List Int) (w : World) (rd : RD w p B (b, false)) (hB : B ≤ p) (h28 : 28 ≤ b.length) :
    Calls Try.prog 35 #[takeV p] w fun e w' => ∃ g e', e = .returned (.tuple #[.agg (Fm.FC g), .int .i64 e']) ∧ Fm.headE b = (g, e') ∧ RD w' p B (b.drop 28, false) ∧ Oth p w w' := by
  have HY : Hid (Byt b) := rd.byt
  have RD0 := Lib.hid (show RD w p B (b.drop 0, false) from rd)
  have hpw : p < w.heap.size := by
    obtain ⟨A, n, c, hb, _⟩ := rd
    exact hb.lt
  have HH := Lib.hid h28
  have e2 : (((2 : Nat) : Int)) = 2 := rfl
  have e1 : (((1 : Nat) : Int)) = 1 := rfl
  have e16 : (((16 : Nat) : Int)) = 16 := rfl
  have e4 : (((4 : Nat) : Int)) = 4 := rfl
  have Ta := Lib.hid (fun W (h : RD W p B (b.drop 0, false)) => take_in19 (m := 2) h hB (by have := HH.out; omega) (by omega))
  rw [e2] at Ta
  have Tb := Lib.hid (fun W (h : RD W p B (b.drop 2, false)) => take_in19 (m := 1) h hB (by have := HH.out; omega) (by omega))
  rw [e1] at Tb
  have Tc := Lib.hid (fun W (h : RD W p B (b.drop 3, false)) => take_in19 (m := 1) h hB (by have := HH.out; omega) (by omega))
  rw [e1] at Tc
  have Td := Lib.hid (fun W (h : RD W p B (b.drop 4, false)) => take_in19 (m := 16) h hB (by have := HH.out; omega) (by omega))
  rw [e16] at Td
  have Te := Lib.hid (fun W (h : RD W p B (b.drop 20, false)) => take_in19 (m := 4) h hB (by have := HH.out; omega) (by omega))
  rw [e4] at Te
  have Tf := Lib.hid (fun W (h : RD W p B (b.drop 24, false)) => take_in19 (m := 4) h hB (by have := HH.out; omega) (by omega))
  rw [e4] at Tf
  clear rd e1 e2 e16 e4 h28
  obtain ⟨k, hk⟩ : ∃ k, Fm.ofL ((b.drop 2).take 1) = k := ⟨_, rfl⟩
  obtain ⟨mk, hmk⟩ : ∃ mk, Fm.ofL ((b.drop 3).take 1) = mk := ⟨_, rfl⟩
  obtain ⟨s, hs⟩ : ∃ s, Fm.ofL ((b.drop 20).take 4) = s := ⟨_, rfl⟩
  obtain ⟨r, hr⟩ : ∃ r, Fm.ofL ((b.drop 24).take 4) = r := ⟨_, rfl⟩
  obtain ⟨tok, ht⟩ : ∃ t, (b.drop 4).take 16 = t := ⟨_, rfl⟩
  have t16 : tok.length = 16 := by rw [← ht, List.length_take, List.length_drop]; have := HH.out; omega
  have B1 := fun a m => Ck.Byt.take (Fm.Byt.dropF HY.out a) m
  have k8 : k < 256 := by rw [← hk]; exact Fm.ofL_lt 1 _ (B1 2 1) (by rw [List.length_take, List.length_drop]; have := HH.out; omega)
  have m8 : mk < 256 := by rw [← hmk]; exact Fm.ofL_lt 1 _ (B1 3 1) (by rw [List.length_take, List.length_drop]; have := HH.out; omega)
  have s32 : s < 4294967296 := by rw [← hs]; exact Fm.ofL_lt 4 _ (B1 20 4) (by rw [List.length_take, List.length_drop]; have := HH.out; omega)
  have r32 : r < 4294967296 := by rw [← hr]; exact Fm.ofL_lt 4 _ (B1 24 4) (by rw [List.length_take, List.length_drop]; have := HH.out; omega)
  have EK := Lib.hid (show b.getD 2 0 = (k : Int) by rw [← hk]; exact (Fm.ofL_one HY.out (by have := HH.out; omega)).symm)
  have EM := Lib.hid (show b.getD 3 0 = (mk : Int) by rw [← hmk]; exact (Fm.ofL_one HY.out (by have := HH.out; omega)).symm)
  have ET := Lib.hid (show (b.drop 0).take 2 = [b.getD 0 0, b.getD 1 0] from Fm.take2 (by have := HH.out; omega))
  have BY := Lib.hid B1
  have HKK := Lib.hid hk
  have HMK := Lib.hid hmk
  have HS := Lib.hid hs
  have HRR := Lib.hid hr
  have HT := Lib.hid ht
  clear hk hmk hs hr ht B1
  have wk : IntKind.i64.wrap (k : Int) = (k : Int) := by rw [IntWalk.i64_in _ (by omega)]
  have wm : IntKind.u8.wrap (mk : Int) = (mk : Int) := by rw [IntKind.wrap_u8]; omega
  have ws : IntKind.u32.wrap (s : Int) = (s : Int) := by rw [IntKind.wrap_u32]; omega
  have wr : IntKind.u32.wrap (r : Int) = (r : Int) := by rw [IntKind.wrap_u32]; omega
  have l3 : (Fm.mk3 (k : Int) tok s r).ln := Fm.mk3_ln t16
  have HE := Lib.hid (show Fm.headE b = if b.getD 0 0 ≠ 84 ∨ b.getD 1 0 ≠ 87 then (Fm.nul, 3) else if (k : Int) < 1 ∨ 7 < (k : Int) then (Fm.nul, 11) else if (mk : Int) ≠ (Dl.mark s r : Nat) then (Fm.nul, 16) else (Fm.mk3 k tok s r, 0) by unfold Fm.headE; rw [EK.out, EM.out, HS.out, HRR.out, HT.out])
  obtain ⟨x0, hx0⟩ : ∃ x, b.getD 0 0 = x := ⟨_, rfl⟩
  obtain ⟨x1, hx1⟩ : ∃ x, b.getD 1 0 = x := ⟨_, rfl⟩
  rw [hx0, hx1] at HE ET
  have y0 := HY.out 0
  have y1 := HY.out 1
  rw [hx0] at y0
  rw [hx1] at y1
  have BM := Lib.hid (fun W => run_build (P := Try.prog) W 42 #[(0, .int .i64 (k : Int)), (1, .agg (tok.map Fm.ub).toArray), (2, .agg #[.int .u32 (s : Int), .int .u32 (r : Int)])] _ (built_mk3p (k : Int) tok s r t16))
  have BE := Lib.hid (fun W => run_build (P := Try.prog) W 38 #[(0, .int .u32 (s : Int)), (1, .int .u32 (r : Int))] #[.int .u32 (s : Int), .int .u32 (r : Int)] (by kernel_rfl))
  clear hx0 hx1
  obtain ⟨nu, NU0⟩ : ∃ g, Hid (Fm.nul = g) := ⟨_, rfl⟩
  have NL := Lib.hid (show nu.ln by rw [← NU0.out]; exact Fm.nul_ln)
  have BNU := Lib.hid (fun W => show (Instr.build 42 #[]).run Try.prog W = .ok (.agg (Fm.FC nu)) W by rw [← NU0.out]; exact run_build (P := Try.prog) W 42 #[] _ built_nulp)
  rw [NU0.out] at HE
  go_enter Try.func35, Try.ntmps35
  go_upto_region 1 with (fail)
  change Code.wp _ _ _ _ (w.alloc (.cells (Fm.FC Fm.nul) 42))
  have bZ := BX.new w 42 (Fm.FC Fm.nul)
  have hB1 := Below.alloc (Below.refl w.heap.size w) (Nat.le_refl _) (.cells (Fm.FC Fm.nul) 42)
  rw [NU0.out] at bZ hB1 ⊢
  generalize w.alloc (.cells (Fm.FC nu) 42) = W0 at *
  have BZ0 := Lib.hid bZ
  have OT0 := Lib.hid (Oth.ofBelow (a := p) hB1)
  replace RD0 := Lib.hid (RD0.out.below19 hB1 hpw (by omega))
  have hne : w.heap.size ≠ p := by omega
  have TONE := Lib.hid (all_oneCell_toArray (Fm.ub_one tok))
  have bm := BM.out
  have be := BE.out
  have bn := BNU.out
  clear bZ hB1
  by_cases hx : x0 = 84 ∧ x1 = 87
  rotate_left
  · have EE := Lib.hid (show Fm.headE b = (nu, 3) by rw [HE.out, if_pos (by omega)])
    have gs : ((strOfNums [x0, x1]).toList == [84, 87]) = false := str_two19 y0 y1 hx
    have sz3 := Fm.FC_size l3
    have szn := Fm.FC_size NL.out
    go_wp2_with (first
      | (go_at_call 36; (with_reducible refine (Ta.out _ RD0.out).mono ?_); rintro e wa ⟨Aa, ca, rfl, hra, hca, hma, hrda, hoa⟩; have RDa := Lib.hid (show RD wa p B (b.drop 2, false) from hrda); have OTa := Lib.hid (OT0.out.trans hoa); have BZa := Lib.hid (BZ0.out.oth hoa hne); have cv := hra.conv ca; rw [ET.out] at cv; clear hra hrda hoa)
      | (go_at_call 36; (with_reducible refine (Tb.out _ RDa.out).mono ?_); rintro e wb ⟨Ab, cb, rfl, hrb, hcb, hmb, hrdb, hob⟩; have RDb := Lib.hid (show RD wb p B (b.drop 3, false) from hrdb); have OTb := Lib.hid (OTa.out.trans hob); have BZb := Lib.hid (BZa.out.oth hob hne); have NUb := Lib.hid (number_any19 Ab 1 cb _ wb hrb (BY.out 2 1) (by omega)); clear hrb hrdb hob)
      | (go_at_call 36; (with_reducible refine (Tc.out _ RDb.out).mono ?_); rintro e wc ⟨Ac, cc, rfl, hrc, hcc, hmc, hrdc, hoc⟩; have RDc := Lib.hid (show RD wc p B (b.drop 4, false) from hrdc); have OTc := Lib.hid (OTb.out.trans hoc); have BZc := Lib.hid (BZb.out.oth hoc hne); have NUc := Lib.hid (number_any19 Ac 1 cc _ wc hrc (BY.out 3 1) (by omega)); clear hrc hrdc hoc)
      | (go_at_call 36; (with_reducible refine (Td.out _ RDc.out).mono ?_); rintro e wd ⟨Ad, cd, rfl, hrd, hcd, hmd, hrdd, hod⟩; have RDd := Lib.hid (show RD wd p B (b.drop 20, false) from hrdd); have OTd := Lib.hid (OTc.out.trans hod); have BZd := Lib.hid (BZc.out.oth hod hne); obtain ⟨bd, od, rfl, hbd, _⟩ := hrd.at_ (k := 0) (by omega); have ld := load_rb19 hrd; rw [HT.out] at ld; have hatd := fun W => run_arrayAt (P := Try.prog) W 37 5 16 (some ⟨bd, od, none⟩) 16 cd (by kernel_rfl) (Nat.le_refl _); have std := fun (c : Array Value) (hc : c.size = 16) => run_storeCells_new (P := Try.prog) wd 37 c (tok.map Fm.ub).toArray (by rw [List.size_toArray, List.length_map, t16]; kernel_rfl) (by simp [hc, t16]) TONE.out; have hbt := Below.alloc (Below.refl wd.heap.size wd) (Nat.le_refl _) (.cells (tok.map Fm.ub).toArray 37); have BTd := Lib.hid (BX.new wd 37 (tok.map Fm.ub).toArray); have SD := Lib.hid (Nat.lt_of_lt_of_le hpw OTd.out.2.2.2.1); replace RDd := Lib.hid (RDd.out.below19 hbt SD.out (by have := SD.out; omega)); replace OTd := Lib.hid (OTd.out.trans (Oth.ofBelow hbt)); replace BZd := Lib.hid (BZd.out.later hbt); clear hbt; clear hrd hrdd hod)
      | (go_at_call 36; (with_reducible refine (Te.out _ RDd.out).mono ?_); rintro e we ⟨Ae, ce, rfl, hre, hce, hme, hrde, hoe⟩; have RDe := Lib.hid (show RD we p B (b.drop 24, false) from hrde); have OTe := Lib.hid (OTd.out.trans hoe); have BZe := Lib.hid (BZd.out.oth hoe hne); have NUe := Lib.hid (number_any19 Ae 4 ce _ we hre (BY.out 20 4) (by omega)); have BTe := Lib.hid (BTd.out.oth hoe (Nat.ne_of_gt SD.out)); clear hre hrde hoe)
      | (go_at_call 36; (with_reducible refine (Tf.out _ RDe.out).mono ?_); rintro e wf ⟨Af, cf, rfl, hrf, hcf, hmf, hrdf, hof⟩; have RDf := Lib.hid (show RD wf p B (b.drop 28, false) from hrdf); have OTf := Lib.hid (OTe.out.trans hof); have BZf := Lib.hid (BZe.out.oth hof hne); have NUf := Lib.hid (number_any19 Af 4 cf _ wf hrf (BY.out 24 4) (by omega)); have ltk := run_cells_part (P := Try.prog) (BTe.out.oth hof (Nat.ne_of_gt SD.out)) 0 (tok.map Fm.ub).toArray 16 (by rw [List.size_toArray, List.length_map, t16]) (fun j _ => by rw [Nat.zero_add]); have stf := fun (c : Array Value) (hc : c.size = 56) => run_storeCells_new (P := Try.prog) wf 42 c (Fm.FC (Fm.mk3 (k : Int) tok s r)) (by rw [Fm.FC_size l3]; kernel_rfl) (by rw [Fm.FC_size l3]; exact hc) (Fm.FC_one _); have hbt := Below.alloc (Below.refl wf.heap.size wf) (Nat.le_refl _) (.cells (Fm.FC (Fm.mk3 (k : Int) tok s r)) 42); have bq := BX.new wf 42 (Fm.FC (Fm.mk3 (k : Int) tok s r)); have SF := Lib.hid (Nat.lt_of_lt_of_le hpw OTf.out.2.2.2.1); have RDg := Lib.hid (RDf.out.below19 hbt SF.out (by have := SF.out; omega)); have OTg := Lib.hid (OTf.out.trans (Oth.ofBelow hbt)); have BZg := Lib.hid (BZf.out.later hbt); have BQ := Lib.hid bq; have ssg := store_any19 BZg.out NL.out NL.out; have lrg := load_any19 NL.out (put_any19 BZg.out NL.out NL.out); clear hbt bq; clear hrf hrdf hof)
      | (go_at_call 51; (with_reducible refine NUb.out.mono ?_); rintro e w9 ⟨rfl, rfl⟩; rw [HKK.out])
      | (go_at_call 51; (with_reducible refine NUc.out.mono ?_); rintro e w9 ⟨rfl, rfl⟩; rw [HMK.out])
      | (go_at_call 51; (with_reducible refine NUe.out.mono ?_); rintro e w9 ⟨rfl, rfl⟩; rw [HS.out])
      | (go_at_call 51; (with_reducible refine NUf.out.mono ?_); rintro e w9 ⟨rfl, rfl⟩; rw [HRR.out]))
    refine bodyPost_ret (v := .tuple #[.agg (Fm.FC nu), .int .i64 3]) (by simp [results, Try.f35, go_sem, lrg]) rfl ?_
    have hb9 : Below w.heap.size (wf.alloc (.cells (Fm.FC (Fm.mk3 (k : Int) tok s r)) 42)) ((wf.alloc (.cells (Fm.FC (Fm.mk3 (k : Int) tok s r)) 42)).setCells w.heap.size 0 (Fm.FC nu).toList) := Below.setCells (Nat.le_refl _) (Fm.FC nu).toList 0 _ (Below.refl _ _)
    exact ⟨nu, 3, rfl, EE.out, RDg.out.below19 hb9 hpw (by omega), ⟨hb9.os.trans OTg.out.1, hb9.tape.trans OTg.out.2.1, hb9.output.trans OTg.out.2.2.1, Nat.le_trans OTg.out.2.2.2.1 hb9.size, fun i hi h1 => (hb9.block i hi).trans (OTg.out.2.2.2.2 i hi h1)⟩⟩
  obtain ⟨rfl, rfl⟩ := hx
  have gs : ((strOfNums [84, 87]).toList == [84, 87]) = true := by rw [ByteArray.toList_eq]; rfl
  have sz3 := Fm.FC_size l3
  by_cases hk : (k : Int) < 1 ∨ 7 < (k : Int)
  · have EE := Lib.hid (show Fm.headE b = (nu, 11) by rw [HE.out, if_neg (by omega), if_pos hk])
    have K17 : Fm.isk (k : Int) = false := by unfold Fm.isk; simp; omega
    have szn := Fm.FC_size NL.out
    go_wp2_with (first
      | (go_at_call 36; (with_reducible refine (Ta.out _ RD0.out).mono ?_); rintro e wa ⟨Aa, ca, rfl, hra, hca, hma, hrda, hoa⟩; have RDa := Lib.hid (show RD wa p B (b.drop 2, false) from hrda); have OTa := Lib.hid (OT0.out.trans hoa); have BZa := Lib.hid (BZ0.out.oth hoa hne); have cv := hra.conv ca; rw [ET.out] at cv; clear hra hrda hoa)
      | (go_at_call 36; (with_reducible refine (Tb.out _ RDa.out).mono ?_); rintro e wb ⟨Ab, cb, rfl, hrb, hcb, hmb, hrdb, hob⟩; have RDb := Lib.hid (show RD wb p B (b.drop 3, false) from hrdb); have OTb := Lib.hid (OTa.out.trans hob); have BZb := Lib.hid (BZa.out.oth hob hne); have NUb := Lib.hid (number_any19 Ab 1 cb _ wb hrb (BY.out 2 1) (by omega)); clear hrb hrdb hob)
      | (go_at_call 36; (with_reducible refine (Tc.out _ RDb.out).mono ?_); rintro e wc ⟨Ac, cc, rfl, hrc, hcc, hmc, hrdc, hoc⟩; have RDc := Lib.hid (show RD wc p B (b.drop 4, false) from hrdc); have OTc := Lib.hid (OTb.out.trans hoc); have BZc := Lib.hid (BZb.out.oth hoc hne); have NUc := Lib.hid (number_any19 Ac 1 cc _ wc hrc (BY.out 3 1) (by omega)); clear hrc hrdc hoc)
      | (go_at_call 36; (with_reducible refine (Td.out _ RDc.out).mono ?_); rintro e wd ⟨Ad, cd, rfl, hrd, hcd, hmd, hrdd, hod⟩; have RDd := Lib.hid (show RD wd p B (b.drop 20, false) from hrdd); have OTd := Lib.hid (OTc.out.trans hod); have BZd := Lib.hid (BZc.out.oth hod hne); obtain ⟨bd, od, rfl, hbd, _⟩ := hrd.at_ (k := 0) (by omega); have ld := load_rb19 hrd; rw [HT.out] at ld; have hatd := fun W => run_arrayAt (P := Try.prog) W 37 5 16 (some ⟨bd, od, none⟩) 16 cd (by kernel_rfl) (Nat.le_refl _); have std := fun (c : Array Value) (hc : c.size = 16) => run_storeCells_new (P := Try.prog) wd 37 c (tok.map Fm.ub).toArray (by rw [List.size_toArray, List.length_map, t16]; kernel_rfl) (by simp [hc, t16]) TONE.out; have hbt := Below.alloc (Below.refl wd.heap.size wd) (Nat.le_refl _) (.cells (tok.map Fm.ub).toArray 37); have BTd := Lib.hid (BX.new wd 37 (tok.map Fm.ub).toArray); have SD := Lib.hid (Nat.lt_of_lt_of_le hpw OTd.out.2.2.2.1); replace RDd := Lib.hid (RDd.out.below19 hbt SD.out (by have := SD.out; omega)); replace OTd := Lib.hid (OTd.out.trans (Oth.ofBelow hbt)); replace BZd := Lib.hid (BZd.out.later hbt); clear hbt; clear hrd hrdd hod)
      | (go_at_call 36; (with_reducible refine (Te.out _ RDd.out).mono ?_); rintro e we ⟨Ae, ce, rfl, hre, hce, hme, hrde, hoe⟩; have RDe := Lib.hid (show RD we p B (b.drop 24, false) from hrde); have OTe := Lib.hid (OTd.out.trans hoe); have BZe := Lib.hid (BZd.out.oth hoe hne); have NUe := Lib.hid (number_any19 Ae 4 ce _ we hre (BY.out 20 4) (by omega)); have BTe := Lib.hid (BTd.out.oth hoe (Nat.ne_of_gt SD.out)); clear hre hrde hoe)
      | (go_at_call 36; (with_reducible refine (Tf.out _ RDe.out).mono ?_); rintro e wf ⟨Af, cf, rfl, hrf, hcf, hmf, hrdf, hof⟩; have RDf := Lib.hid (show RD wf p B (b.drop 28, false) from hrdf); have OTf := Lib.hid (OTe.out.trans hof); have BZf := Lib.hid (BZe.out.oth hof hne); have NUf := Lib.hid (number_any19 Af 4 cf _ wf hrf (BY.out 24 4) (by omega)); have ltk := run_cells_part (P := Try.prog) (BTe.out.oth hof (Nat.ne_of_gt SD.out)) 0 (tok.map Fm.ub).toArray 16 (by rw [List.size_toArray, List.length_map, t16]) (fun j _ => by rw [Nat.zero_add]); have stf := fun (c : Array Value) (hc : c.size = 56) => run_storeCells_new (P := Try.prog) wf 42 c (Fm.FC (Fm.mk3 (k : Int) tok s r)) (by rw [Fm.FC_size l3]; kernel_rfl) (by rw [Fm.FC_size l3]; exact hc) (Fm.FC_one _); have hbt := Below.alloc (Below.refl wf.heap.size wf) (Nat.le_refl _) (.cells (Fm.FC (Fm.mk3 (k : Int) tok s r)) 42); have bq := BX.new wf 42 (Fm.FC (Fm.mk3 (k : Int) tok s r)); have SF := Lib.hid (Nat.lt_of_lt_of_le hpw OTf.out.2.2.2.1); have RDg := Lib.hid (RDf.out.below19 hbt SF.out (by have := SF.out; omega)); have OTg := Lib.hid (OTf.out.trans (Oth.ofBelow hbt)); have BZg := Lib.hid (BZf.out.later hbt); have BQ := Lib.hid bq; have ssg := store_any19 BZg.out NL.out NL.out; have lrg := load_any19 NL.out (put_any19 BZg.out NL.out NL.out); clear hbt bq; clear hrf hrdf hof)
      | (go_at_call 51; (with_reducible refine NUb.out.mono ?_); rintro e w9 ⟨rfl, rfl⟩; rw [HKK.out])
      | (go_at_call 51; (with_reducible refine NUc.out.mono ?_); rintro e w9 ⟨rfl, rfl⟩; rw [HMK.out])
      | (go_at_call 51; (with_reducible refine NUe.out.mono ?_); rintro e w9 ⟨rfl, rfl⟩; rw [HS.out])
      | (go_at_call 51; (with_reducible refine NUf.out.mono ?_); rintro e w9 ⟨rfl, rfl⟩; rw [HRR.out])
      | (go_at_call 42; (with_reducible refine (iskind_any19 _ _).mono ?_); rintro e w9 ⟨rfl, rfl⟩; rw [K17]))
    refine bodyPost_ret (v := .tuple #[.agg (Fm.FC nu), .int .i64 11]) (by simp [results, Try.f35, go_sem, lrg]) rfl ?_
    have hb9 : Below w.heap.size (wf.alloc (.cells (Fm.FC (Fm.mk3 (k : Int) tok s r)) 42)) ((wf.alloc (.cells (Fm.FC (Fm.mk3 (k : Int) tok s r)) 42)).setCells w.heap.size 0 (Fm.FC nu).toList) := Below.setCells (Nat.le_refl _) (Fm.FC nu).toList 0 _ (Below.refl _ _)
    exact ⟨nu, 11, rfl, EE.out, RDg.out.below19 hb9 hpw (by omega), ⟨hb9.os.trans OTg.out.1, hb9.tape.trans OTg.out.2.1, hb9.output.trans OTg.out.2.2.1, Nat.le_trans OTg.out.2.2.2.1 hb9.size, fun i hi h1 => (hb9.block i hi).trans (OTg.out.2.2.2.2 i hi h1)⟩⟩
  have K17 : Fm.isk (k : Int) = true := by unfold Fm.isk; simp; omega
  have MKA := Lib.hid (fun W => mark_any s r W)
  by_cases hm : (mk : Int) = (Dl.mark s r : Nat)
  rotate_left
  · have EE := Lib.hid (show Fm.headE b = (nu, 16) by rw [HE.out, if_neg (by omega), if_neg hk, if_pos hm])
    have szn := Fm.FC_size NL.out
    go_wp2_with (first
      | (go_at_call 36; (with_reducible refine (Ta.out _ RD0.out).mono ?_); rintro e wa ⟨Aa, ca, rfl, hra, hca, hma, hrda, hoa⟩; have RDa := Lib.hid (show RD wa p B (b.drop 2, false) from hrda); have OTa := Lib.hid (OT0.out.trans hoa); have BZa := Lib.hid (BZ0.out.oth hoa hne); have cv := hra.conv ca; rw [ET.out] at cv; clear hra hrda hoa)
      | (go_at_call 36; (with_reducible refine (Tb.out _ RDa.out).mono ?_); rintro e wb ⟨Ab, cb, rfl, hrb, hcb, hmb, hrdb, hob⟩; have RDb := Lib.hid (show RD wb p B (b.drop 3, false) from hrdb); have OTb := Lib.hid (OTa.out.trans hob); have BZb := Lib.hid (BZa.out.oth hob hne); have NUb := Lib.hid (number_any19 Ab 1 cb _ wb hrb (BY.out 2 1) (by omega)); clear hrb hrdb hob)
      | (go_at_call 36; (with_reducible refine (Tc.out _ RDb.out).mono ?_); rintro e wc ⟨Ac, cc, rfl, hrc, hcc, hmc, hrdc, hoc⟩; have RDc := Lib.hid (show RD wc p B (b.drop 4, false) from hrdc); have OTc := Lib.hid (OTb.out.trans hoc); have BZc := Lib.hid (BZb.out.oth hoc hne); have NUc := Lib.hid (number_any19 Ac 1 cc _ wc hrc (BY.out 3 1) (by omega)); clear hrc hrdc hoc)
      | (go_at_call 36; (with_reducible refine (Td.out _ RDc.out).mono ?_); rintro e wd ⟨Ad, cd, rfl, hrd, hcd, hmd, hrdd, hod⟩; have RDd := Lib.hid (show RD wd p B (b.drop 20, false) from hrdd); have OTd := Lib.hid (OTc.out.trans hod); have BZd := Lib.hid (BZc.out.oth hod hne); obtain ⟨bd, od, rfl, hbd, _⟩ := hrd.at_ (k := 0) (by omega); have ld := load_rb19 hrd; rw [HT.out] at ld; have hatd := fun W => run_arrayAt (P := Try.prog) W 37 5 16 (some ⟨bd, od, none⟩) 16 cd (by kernel_rfl) (Nat.le_refl _); have std := fun (c : Array Value) (hc : c.size = 16) => run_storeCells_new (P := Try.prog) wd 37 c (tok.map Fm.ub).toArray (by rw [List.size_toArray, List.length_map, t16]; kernel_rfl) (by simp [hc, t16]) TONE.out; have hbt := Below.alloc (Below.refl wd.heap.size wd) (Nat.le_refl _) (.cells (tok.map Fm.ub).toArray 37); have BTd := Lib.hid (BX.new wd 37 (tok.map Fm.ub).toArray); have SD := Lib.hid (Nat.lt_of_lt_of_le hpw OTd.out.2.2.2.1); replace RDd := Lib.hid (RDd.out.below19 hbt SD.out (by have := SD.out; omega)); replace OTd := Lib.hid (OTd.out.trans (Oth.ofBelow hbt)); replace BZd := Lib.hid (BZd.out.later hbt); clear hbt; clear hrd hrdd hod)
      | (go_at_call 36; (with_reducible refine (Te.out _ RDd.out).mono ?_); rintro e we ⟨Ae, ce, rfl, hre, hce, hme, hrde, hoe⟩; have RDe := Lib.hid (show RD we p B (b.drop 24, false) from hrde); have OTe := Lib.hid (OTd.out.trans hoe); have BZe := Lib.hid (BZd.out.oth hoe hne); have NUe := Lib.hid (number_any19 Ae 4 ce _ we hre (BY.out 20 4) (by omega)); have BTe := Lib.hid (BTd.out.oth hoe (Nat.ne_of_gt SD.out)); clear hre hrde hoe)
      | (go_at_call 36; (with_reducible refine (Tf.out _ RDe.out).mono ?_); rintro e wf ⟨Af, cf, rfl, hrf, hcf, hmf, hrdf, hof⟩; have RDf := Lib.hid (show RD wf p B (b.drop 28, false) from hrdf); have OTf := Lib.hid (OTe.out.trans hof); have BZf := Lib.hid (BZe.out.oth hof hne); have NUf := Lib.hid (number_any19 Af 4 cf _ wf hrf (BY.out 24 4) (by omega)); have ltk := run_cells_part (P := Try.prog) (BTe.out.oth hof (Nat.ne_of_gt SD.out)) 0 (tok.map Fm.ub).toArray 16 (by rw [List.size_toArray, List.length_map, t16]) (fun j _ => by rw [Nat.zero_add]); have stf := fun (c : Array Value) (hc : c.size = 56) => run_storeCells_new (P := Try.prog) wf 42 c (Fm.FC (Fm.mk3 (k : Int) tok s r)) (by rw [Fm.FC_size l3]; kernel_rfl) (by rw [Fm.FC_size l3]; exact hc) (Fm.FC_one _); have hbt := Below.alloc (Below.refl wf.heap.size wf) (Nat.le_refl _) (.cells (Fm.FC (Fm.mk3 (k : Int) tok s r)) 42); have bq := BX.new wf 42 (Fm.FC (Fm.mk3 (k : Int) tok s r)); have SF := Lib.hid (Nat.lt_of_lt_of_le hpw OTf.out.2.2.2.1); have RDg := Lib.hid (RDf.out.below19 hbt SF.out (by have := SF.out; omega)); have OTg := Lib.hid (OTf.out.trans (Oth.ofBelow hbt)); have BZg := Lib.hid (BZf.out.later hbt); have BQ := Lib.hid bq; have lep : (loadCellsFrom ⟨wf.heap.size, 17, none⟩ 0 2 #[]).run Try.prog (wf.alloc (.cells (Fm.FC (Fm.mk3 (k : Int) tok s r)) 42)) = .ok #[.int .u32 (s : Int), .int .u32 (r : Int)] (wf.alloc (.cells (Fm.FC (Fm.mk3 (k : Int) tok s r)) 42)) := (FB.of bq l3).lep; clear hbt bq; clear hrf hrdf hof)
      | (go_at_call 51; (with_reducible refine NUb.out.mono ?_); rintro e w9 ⟨rfl, rfl⟩; rw [HKK.out])
      | (go_at_call 51; (with_reducible refine NUc.out.mono ?_); rintro e w9 ⟨rfl, rfl⟩; rw [HMK.out])
      | (go_at_call 51; (with_reducible refine NUe.out.mono ?_); rintro e w9 ⟨rfl, rfl⟩; rw [HS.out])
      | (go_at_call 51; (with_reducible refine NUf.out.mono ?_); rintro e w9 ⟨rfl, rfl⟩; rw [HRR.out])
      | (go_at_call 42; (with_reducible refine (iskind_any19 _ _).mono ?_); rintro e w9 ⟨rfl, rfl⟩; rw [K17])
      | (go_at_call 43; (with_reducible refine (MKA.out _).mono ?_); rintro e wg ⟨rfl, hbg⟩; have ssh := store_any19 (BZg.out.later hbg) NL.out NL.out; have lrh := load_any19 NL.out (put_any19 (BZg.out.later hbg) NL.out NL.out); have lah := load_any19 l3 (BQ.out.later hbg); have OTh := Lib.hid (OTg.out.trans (Oth.ofBelow hbg)); have RDh := Lib.hid (RDg.out.below19 hbg (Nat.lt_of_lt_of_le hpw OTg.out.2.2.2.1) (by have := OTg.out.2.2.2.1; omega)); clear hbg))
    refine bodyPost_ret (v := .tuple #[.agg (Fm.FC nu), .int .i64 16]) (by simp [results, Try.f35, go_sem, lrh]) rfl ?_
    have hb9 : Below w.heap.size wg (wg.setCells w.heap.size 0 (Fm.FC nu).toList) := Below.setCells (Nat.le_refl _) (Fm.FC nu).toList 0 _ (Below.refl _ _)
    exact ⟨nu, 16, rfl, EE.out, RDh.out.below19 hb9 hpw (by omega), ⟨hb9.os.trans OTh.out.1, hb9.tape.trans OTh.out.2.1, hb9.output.trans OTh.out.2.2.1, Nat.le_trans OTh.out.2.2.2.1 hb9.size, fun i hi h1 => (hb9.block i hi).trans (OTh.out.2.2.2.2 i hi h1)⟩⟩
  have EE := Lib.hid (show Fm.headE b = (Fm.mk3 k tok s r, 0) by rw [HE.out, if_neg (by omega), if_neg hk, if_neg (by simpa using hm)])
  skip
  go_wp2_with (first
    | (go_at_call 36; (with_reducible refine (Ta.out _ RD0.out).mono ?_); rintro e wa ⟨Aa, ca, rfl, hra, hca, hma, hrda, hoa⟩; have RDa := Lib.hid (show RD wa p B (b.drop 2, false) from hrda); have OTa := Lib.hid (OT0.out.trans hoa); have BZa := Lib.hid (BZ0.out.oth hoa hne); have cv := hra.conv ca; rw [ET.out] at cv; clear hra hrda hoa)
    | (go_at_call 36; (with_reducible refine (Tb.out _ RDa.out).mono ?_); rintro e wb ⟨Ab, cb, rfl, hrb, hcb, hmb, hrdb, hob⟩; have RDb := Lib.hid (show RD wb p B (b.drop 3, false) from hrdb); have OTb := Lib.hid (OTa.out.trans hob); have BZb := Lib.hid (BZa.out.oth hob hne); have NUb := Lib.hid (number_any19 Ab 1 cb _ wb hrb (BY.out 2 1) (by omega)); clear hrb hrdb hob)
    | (go_at_call 36; (with_reducible refine (Tc.out _ RDb.out).mono ?_); rintro e wc ⟨Ac, cc, rfl, hrc, hcc, hmc, hrdc, hoc⟩; have RDc := Lib.hid (show RD wc p B (b.drop 4, false) from hrdc); have OTc := Lib.hid (OTb.out.trans hoc); have BZc := Lib.hid (BZb.out.oth hoc hne); have NUc := Lib.hid (number_any19 Ac 1 cc _ wc hrc (BY.out 3 1) (by omega)); clear hrc hrdc hoc)
    | (go_at_call 36; (with_reducible refine (Td.out _ RDc.out).mono ?_); rintro e wd ⟨Ad, cd, rfl, hrd, hcd, hmd, hrdd, hod⟩; have RDd := Lib.hid (show RD wd p B (b.drop 20, false) from hrdd); have OTd := Lib.hid (OTc.out.trans hod); have BZd := Lib.hid (BZc.out.oth hod hne); obtain ⟨bd, od, rfl, hbd, _⟩ := hrd.at_ (k := 0) (by omega); have ld := load_rb19 hrd; rw [HT.out] at ld; have hatd := fun W => run_arrayAt (P := Try.prog) W 37 5 16 (some ⟨bd, od, none⟩) 16 cd (by kernel_rfl) (Nat.le_refl _); have std := fun (c : Array Value) (hc : c.size = 16) => run_storeCells_new (P := Try.prog) wd 37 c (tok.map Fm.ub).toArray (by rw [List.size_toArray, List.length_map, t16]; kernel_rfl) (by simp [hc, t16]) TONE.out; have hbt := Below.alloc (Below.refl wd.heap.size wd) (Nat.le_refl _) (.cells (tok.map Fm.ub).toArray 37); have BTd := Lib.hid (BX.new wd 37 (tok.map Fm.ub).toArray); have SD := Lib.hid (Nat.lt_of_lt_of_le hpw OTd.out.2.2.2.1); replace RDd := Lib.hid (RDd.out.below19 hbt SD.out (by have := SD.out; omega)); replace OTd := Lib.hid (OTd.out.trans (Oth.ofBelow hbt)); replace BZd := Lib.hid (BZd.out.later hbt); clear hbt; clear hrd hrdd hod)
    | (go_at_call 36; (with_reducible refine (Te.out _ RDd.out).mono ?_); rintro e we ⟨Ae, ce, rfl, hre, hce, hme, hrde, hoe⟩; have RDe := Lib.hid (show RD we p B (b.drop 24, false) from hrde); have OTe := Lib.hid (OTd.out.trans hoe); have BZe := Lib.hid (BZd.out.oth hoe hne); have NUe := Lib.hid (number_any19 Ae 4 ce _ we hre (BY.out 20 4) (by omega)); have BTe := Lib.hid (BTd.out.oth hoe (Nat.ne_of_gt SD.out)); clear hre hrde hoe)
    | (go_at_call 36; (with_reducible refine (Tf.out _ RDe.out).mono ?_); rintro e wf ⟨Af, cf, rfl, hrf, hcf, hmf, hrdf, hof⟩; have RDf := Lib.hid (show RD wf p B (b.drop 28, false) from hrdf); have OTf := Lib.hid (OTe.out.trans hof); have BZf := Lib.hid (BZe.out.oth hof hne); have NUf := Lib.hid (number_any19 Af 4 cf _ wf hrf (BY.out 24 4) (by omega)); have ltk := run_cells_part (P := Try.prog) (BTe.out.oth hof (Nat.ne_of_gt SD.out)) 0 (tok.map Fm.ub).toArray 16 (by rw [List.size_toArray, List.length_map, t16]) (fun j _ => by rw [Nat.zero_add]); have stf := fun (c : Array Value) (hc : c.size = 56) => run_storeCells_new (P := Try.prog) wf 42 c (Fm.FC (Fm.mk3 (k : Int) tok s r)) (by rw [Fm.FC_size l3]; kernel_rfl) (by rw [Fm.FC_size l3]; exact hc) (Fm.FC_one _); have hbt := Below.alloc (Below.refl wf.heap.size wf) (Nat.le_refl _) (.cells (Fm.FC (Fm.mk3 (k : Int) tok s r)) 42); have bq := BX.new wf 42 (Fm.FC (Fm.mk3 (k : Int) tok s r)); have SF := Lib.hid (Nat.lt_of_lt_of_le hpw OTf.out.2.2.2.1); have RDg := Lib.hid (RDf.out.below19 hbt SF.out (by have := SF.out; omega)); have OTg := Lib.hid (OTf.out.trans (Oth.ofBelow hbt)); have BZg := Lib.hid (BZf.out.later hbt); have BQ := Lib.hid bq; have lep : (loadCellsFrom ⟨wf.heap.size, 17, none⟩ 0 2 #[]).run Try.prog (wf.alloc (.cells (Fm.FC (Fm.mk3 (k : Int) tok s r)) 42)) = .ok #[.int .u32 (s : Int), .int .u32 (r : Int)] (wf.alloc (.cells (Fm.FC (Fm.mk3 (k : Int) tok s r)) 42)) := (FB.of bq l3).lep; clear hbt bq; clear hrf hrdf hof)
    | (go_at_call 51; (with_reducible refine NUb.out.mono ?_); rintro e w9 ⟨rfl, rfl⟩; rw [HKK.out])
    | (go_at_call 51; (with_reducible refine NUc.out.mono ?_); rintro e w9 ⟨rfl, rfl⟩; rw [HMK.out])
    | (go_at_call 51; (with_reducible refine NUe.out.mono ?_); rintro e w9 ⟨rfl, rfl⟩; rw [HS.out])
    | (go_at_call 51; (with_reducible refine NUf.out.mono ?_); rintro e w9 ⟨rfl, rfl⟩; rw [HRR.out])
    | (go_at_call 42; (with_reducible refine (iskind_any19 _ _).mono ?_); rintro e w9 ⟨rfl, rfl⟩; rw [K17])
    | (go_at_call 43; (with_reducible refine (MKA.out _).mono ?_); rintro e wg ⟨rfl, hbg⟩; have ssh := store_any19 (BZg.out.later hbg) NL.out l3; have lrh := load_any19 l3 (put_any19 (BZg.out.later hbg) NL.out l3); have lah := load_any19 l3 (BQ.out.later hbg); have OTh := Lib.hid (OTg.out.trans (Oth.ofBelow hbg)); have RDh := Lib.hid (RDg.out.below19 hbg (Nat.lt_of_lt_of_le hpw OTg.out.2.2.2.1) (by have := OTg.out.2.2.2.1; omega)); clear hbg))
  refine bodyPost_ret (v := .tuple #[.agg (Fm.FC (Fm.mk3 (k : Int) tok s r)), .int .i64 0]) (by simp [results, Try.f35, go_sem, lrh]) rfl ?_
  have hb9 : Below w.heap.size wg (wg.setCells w.heap.size 0 (Fm.FC (Fm.mk3 (k : Int) tok s r)).toList) := Below.setCells (Nat.le_refl _) (Fm.FC (Fm.mk3 (k : Int) tok s r)).toList 0 _ (Below.refl _ _)
  exact ⟨(Fm.mk3 (k : Int) tok s r), 0, rfl, EE.out, RDh.out.below19 hb9 hpw (by omega), ⟨hb9.os.trans OTh.out.1, hb9.tape.trans OTh.out.2.1, hb9.output.trans OTh.out.2.2.1, Nat.le_trans OTh.out.2.2.2.1 hb9.size, fun i hi h1 => (hb9.block i hi).trans (OTh.out.2.2.2.2 i hi h1)⟩⟩
end Go.Proofs.Ytjiafpmcibokbaa
