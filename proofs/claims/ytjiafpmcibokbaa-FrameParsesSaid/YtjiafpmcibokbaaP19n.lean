/- LAYER 19, frame, fourteenth part: alive. -/
import Derived.Test.YtjiafpmcibokbaaP19m
import Derived.Test.YtjiafpmcibokbaaP19i
import Derived.Test.YtjiafpmcibokbaaP19f
namespace Go.Proofs.Ytjiafpmcibokbaa
open Go Go.RowKit
set_option maxHeartbeats 3000000
set_option maxRecDepth 100000
set_option linter.unusedVariables false
attribute [-go_sem] loadCellsFrom storeCells Instr.build
attribute [local go_sem] storeCells_one
namespace Fm
/-- A frame that tells the end. -/
def fa : Fr := { mk3 6 (List.replicate 16 0) 1 2 with tot := 300 }
theorem fa_ln : fa.ln := ⟨by simp [fa, mk3], by simp [fa, mk3]⟩
theorem fa_fit : fa.fit := ⟨fa_ln, by decide, by decide, by decide, by decide, fun p h => by simp [fa, mk3] at h, rfl, rfl⟩
theorem fa_may : may fa = 0 := rfl
theorem fa_bare : er (bare fa) = fa := rfl
theorem fa_byt : Byt (body fa) := body_byt (by decide) (fun j => by show 0 ≤ (List.replicate 16 (0 : Int)).getD j 0 ∧ _; simp only [List.getD_eq_getElem?_getD, fa, mk3, List.getElem?_replicate]; split <;> simp) (fun j => by show 0 ≤ (List.replicate 32 (0 : Int)).getD j 0 ∧ _; simp only [List.getD_eq_getElem?_getD, fa, mk3, List.getElem?_replicate]; split <;> simp) Byt.nil (fun h => by cases h) (by decide)
theorem same_er {f g : Fr} (h : er f = er g) : same f g = true := by
  unfold same
  rw [decide_eq_true_iff]
  exact ⟨congrArg (·.rs) h, congrArg (·.k) h, congrArg (·.tok) h, congrArg (·.s) h, congrArg (·.r) h, congrArg (·.off) h, congrArg (·.tot) h, congrArg (·.sum) h, congrArg (·.cd) h, congrArg (·.xs) h⟩
end Fm
theorem built_fa : Try.prog.built 42 [(0, .int .i64 6), (2, .agg #[.int .u32 1, .int .u32 2]), (4, .int .u64 300)] = some (Fm.FC Fm.fa) := by kernel_rfl
theorem rg_one19 (w : World) : RG (w.alloc (.cells #[.int .u64 2, .int .u64 3] 64)) (w.alloc (.cells #[.int .u64 2, .int .u64 3] 64)).heap.size (some ⟨w.heap.size, 0, none⟩) 1 [(2, 3)] := by
  have hb := BX.new w 64 #[.int .u64 2, .int .u64 3]
  refine ⟨⟨rfl, fun p h => ?_⟩, fun _ => ⟨w.heap.size, 0, rfl, hb.lt, fun j p h => ?_⟩⟩
  · have : p = (2, 3) := by simpa using h
    subst this
    exact ⟨by decide, by decide⟩
  · match j, h with
    | 0, h =>
      have : p = (2, 3) := by simpa using h.symm
      subst this
      exact ⟨hb.cell rfl, hb.cell rfl⟩
theorem alive_any19 (w : World) : Calls Try.prog 8 #[] w fun e w' => e = .returned (.bool true) ∧ Below w.heap.size w w' := by
  obtain ⟨fa, HFA⟩ : ∃ g, Hid (Fm.fa = g) := ⟨_, rfl⟩
  have LF := Lib.hid (show fa.ln by rw [← HFA.out]; exact Fm.fa_ln)
  have FIT := Lib.hid (show fa.fit by rw [← HFA.out]; exact Fm.fa_fit)
  have NM := Lib.hid (show fa.n = 0 ∧ fa.m = 0 ∧ (∀ W B, RB W B fa.A fa.n fa.xs) ∧ (∀ W B, RG W B fa.RA fa.m fa.rs) by rw [← HFA.out]; exact ⟨rfl, rfl, fun _ _ => RB.nil, fun W B => ⟨⟨rfl, fun p h => by simp [Fm.fa, Fm.mk3] at h⟩, fun h => absurd h (Nat.lt_irrefl 0)⟩⟩)
  have MAY := Lib.hid (show Fm.may fa = 0 by rw [← HFA.out]; exact Fm.fa_may)
  have BYT := Lib.hid (show Byt (Fm.body fa) by rw [← HFA.out]; exact Fm.fa_byt)
  have BL := Lib.hid (show (Fm.body fa).length = 36 by rw [← HFA.out]; rfl)
  obtain ⟨XS, HXS⟩ : ∃ xs, Hid (Ck.sealed (Fm.body fa) = xs) := ⟨_, rfl⟩
  have X0 := Lib.hid (show XS.getD 0 0 = 84 by rw [← HXS.out, ← HFA.out]; rfl)
  have X3 := Lib.hid (show XS.getD 3 0 = 3 by rw [← HXS.out, ← HFA.out]; rfl)
  have X35 := Lib.hid (show XS.getD 35 0 = 44 by rw [← HXS.out, ← HFA.out]; rfl)
  have PP := Lib.hid (show Fm.parse XS = (Fm.er fa, 0) by rw [← HXS.out, Fm.parse_lay FIT.out MAY.out, ← HFA.out]; rfl)
  have XB := Lib.hid (show Byt XS by rw [← HXS.out]; exact Ck.sealed_byt BYT.out)
  have be : ∀ W : World, (Instr.build 38 #[(0, .int .u32 1), (1, .int .u32 2)]).run Try.prog W = .ok (.agg #[.int .u32 1, .int .u32 2]) W := fun W => run_build (P := Try.prog) W 38 #[(0, .int .u32 1), (1, .int .u32 2)] #[.int .u32 1, .int .u32 2] (by kernel_rfl)
  have bf : ∀ W : World, (Instr.build 42 #[(0, .int .i64 6), (2, .agg #[.int .u32 1, .int .u32 2]), (4, .int .u64 300)]).run Try.prog W = .ok (.agg (Fm.FC fa)) W := fun W => by rw [← HFA.out]; exact run_build (P := Try.prog) W 42 #[(0, .int .i64 6), (2, .agg #[.int .u32 1, .int .u32 2]), (4, .int .u64 300)] _ built_fa
  have br : ∀ W : World, (Instr.build 64 #[(0, .int .u64 2), (1, .int .u64 3)]).run Try.prog W = .ok (.agg #[.int .u64 2, .int .u64 3]) W := fun W => run_build (P := Try.prog) W 64 #[(0, .int .u64 2), (1, .int .u64 3)] #[.int .u64 2, .int .u64 3] (by kernel_rfl)
  have sza := Fm.FC_size LF.out
  have st := fun (cc : Array Value) (hcc : cc.size = 56) => run_storeCells_new (P := Try.prog) w 42 cc (Fm.FC fa) (by rw [Fm.FC_size LF.out]; kernel_rfl) (by rw [Fm.FC_size LF.out]; exact hcc) (Fm.FC_one _)
  have bF := BX.new w 42 (Fm.FC fa)
  have hB1 := Below.alloc (Below.refl w.heap.size w) (Nat.le_refl _) (.cells (Fm.FC fa) 42)
  have la := load_any19 LF.out bF
  have LY := Lib.hid (lay_any19 fa (w.alloc (.cells (Fm.FC fa) 42)) FIT.out (NM.out.2.2.2 _ _) (NM.out.2.2.1 _ _) (by rw [NM.out.2.1]; omega) (by rw [NM.out.1]; omega) (fun _ => BYT.out))
  rw [MAY.out] at LY
  have BF := Lib.hid bF
  have HB1 := Lib.hid hB1
  have PA := Lib.hid (fun W A c (h : RB W W.heap.size A 40 XS) (h1 : 40 ≤ c) (h2 : c ≤ maxLen) => parse_any19 A 40 c XS W h XB.out h1 h2 (by omega))
  rw [PP.out] at PA
  have SM := Lib.hid (fun W g (lg : g.ln) (hg : Fm.er g = Fm.er fa) (dd : DD W g) => same_any19 fa g W LF.out lg (NM.out.2.2.2 _ _) dd.2 (NM.out.2.2.1 _ _) dd.1.1 (by rw [NM.out.2.1]; omega) (by rw [NM.out.1]; omega) (by have h := dd.2.1.1; have h2 : g.rs = fa.rs := congrArg (·.rs) hg; rw [h2, (NM.out.2.2.2 W 0).1.1, NM.out.2.1] at h; omega) (by have h := dd.1.1.1; have h2 : g.xs = fa.xs := congrArg (·.xs) hg; rw [h2, (NM.out.2.2.1 W 0).1, NM.out.1] at h; omega))
  clear bF hB1
  go_enter Try.func8, Try.ntmps8
  go_wp2_with (first
    | (go_at_call 9; (with_reducible refine LY.out.mono ?_); rintro e w1 ⟨v1, rfl, ho1, _, hb1⟩; have ho1' := ho1 rfl; rw [BL.out, HXS.out] at ho1'; change OBn w1 _ _ v1 40 XS at ho1'; obtain ⟨A1, c1, rfl, hr1, hc1, hm1⟩ := OBn.slice ho1'; obtain ⟨b1, o1, rfl, hbb1, _⟩ := hr1.at_ (k := 0) (by omega); have HR1 := Lib.hid hr1; have BF1 := Lib.hid (BF.out.later hb1); have HBw1 := Lib.hid (bthen' HB1.out hb1); clear ho1 ho1' hr1 hb1))
  (with_reducible refine (PA.out _ _ _ HR1.out hc1 hm1).mono ?_)
  rintro e w2 ⟨g2, e2, rfl, he2, lg2, dd2, hb2⟩
  obtain ⟨he3, rfl⟩ := Prod.mk.inj he2
  have HE2 := Lib.hid he3
  have LG2 := Lib.hid lg2
  have DD2 := Lib.hid dd2
  have BF2 := Lib.hid (BF1.out.later hb2)
  have HB2 := Lib.hid (bthen' HBw1.out hb2)
  have HR2 := Lib.hid ((HR1.out.below hb2).more hb2.size)
  have st2 := fun (cc : Array Value) (hcc : cc.size = 56) => run_storeCells_new (P := Try.prog) w2 42 cc (Fm.FC g2) (by rw [Fm.FC_size LG2.out]; kernel_rfl) (by rw [Fm.FC_size LG2.out]; exact hcc) (Fm.FC_one _)
  have hbf := Below.alloc (Below.refl w2.heap.size w2) (Nat.le_refl _) (.cells (Fm.FC g2) 42)
  have BG3 := Lib.hid (BX.new w2 42 (Fm.FC g2))
  have la3 := load_any19 LF.out (BF2.out.later hbf)
  have lg3 := load_any19 LG2.out BG3.out
  have HB3 := Lib.hid (bthen' HB2.out hbf)
  have DD3 := Lib.hid (DD2.out.later hbf)
  have HR3 := Lib.hid ((HR2.out.below hbf).more hbf.size)
  have x0 := HR3.out.at_' (k := 0) (by omega)
  have x3 := HR3.out.at_' (k := 3) (by omega)
  have x35 := HR3.out.at_' (k := 35) (by omega)
  rw [X0.out, Nat.add_zero] at x0
  rw [X3.out] at x3
  rw [X35.out] at x35
  have szg := Fm.FC_size LG2.out
  have hc35 : (35 : Nat) < 40 := by omega
  clear he2 he3 lg2 dd2 hb2 hbf
  go_wp2_with (first
    | (go_at_call 13; (with_reducible refine (SM.out _ _ LG2.out HE2.out DD3.out).mono ?_); rintro e w4 ⟨rfl, hb4⟩; rw [Fm.same_er HE2.out.symm]; have HB4 := Lib.hid (bthen' HB3.out hb4); have RI := Lib.hid (rise_any19 1 (some ⟨w4.heap.size, 0, none⟩) 1 1 [(2, 3)] (w4.alloc (.cells #[.int .u64 2, .int .u64 3] 64)) (rg_one19 w4) (by omega)); rw [show (((1 : Nat)) : Int) = 1 from rfl] at RI; have HB5 := Lib.hid (bthen' HB4.out (Below.alloc (Below.refl w4.heap.size w4) (Nat.le_refl _) (.cells #[.int .u64 2, .int .u64 3] 64))); clear hb4)
    | (go_at_call 16; (with_reducible refine RI.out.mono ?_); rintro e w6 ⟨rfl, hb6⟩; rw [show Fm.rise 1 [(2, 3)] = true from rfl]; have HB6 := Lib.hid (bthen' HB5.out hb6); clear hb6))
  go_ret
  exact ⟨rfl, HB6.out⟩
end Go.Proofs.Ytjiafpmcibokbaa
