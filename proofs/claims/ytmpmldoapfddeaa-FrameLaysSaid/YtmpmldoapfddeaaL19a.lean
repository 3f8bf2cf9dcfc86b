/- THE WALK OF THE LAW FrameLays. gen_l19a.py -/
import Derived.Test.YtmpmldoapfddeaaL19c
import Derived.Test.YtmpmldoapfddeaaR19f
namespace Go.Proofs.Ytmpmldoapfddeaa
open Go Go.RowKit
set_option maxHeartbeats 8000000
set_option maxRecDepth 100000
set_option linter.unusedVariables false
attribute [-go_sem] loadCellsFrom storeCells Instr.build
attribute [local go_sem] storeCells_one storeCells_two loadCells_two
theorem bare_ok19 {W : World} {f : Fm.Fr} (h : FrOk W f) (hn : f.n ≤ 600) (hm : f.m ≤ 20) : (Fm.bare f).ln ∧ RB W W.heap.size (Fm.bare f).A (Fm.bare f).n (Fm.bare f).xs ∧ RG W W.heap.size (Fm.bare f).RA (Fm.bare f).m (Fm.bare f).rs ∧ (Fm.bare f).n ≤ 600 ∧ (Fm.bare f).m ≤ 20 ∧ (Fm.bare f).n ≤ (Fm.bare f).c ∧ (Fm.bare f).c ≤ maxLen := by
  have l3 := Fm.mk3_ln (k := f.k) (s := f.s) (r := f.r) h.fit.ln.1
  have rg0 : RG W W.heap.size none 0 [] := ⟨⟨rfl, by simp⟩, fun h => absurd h (by omega)⟩
  have z := Nat.zero_le
  unfold Fm.bare
  split
  · exact ⟨⟨l3.1, h.fit.ln.2⟩, RB.nil, rg0, z _, z _, z _, z _⟩
  split
  · exact ⟨l3, RB.nil, rg0, z _, z _, z _, z _⟩
  split
  · exact ⟨l3, h.rb, rg0, hn, z _, h.nc, h.cm⟩
  split
  · exact ⟨l3, RB.nil, h.rg, z _, hm, z _, z _⟩
  split
  · exact ⟨l3, RB.nil, rg0, z _, z _, z _, z _⟩
  split
  · exact ⟨l3, RB.nil, rg0, z _, z _, z _, z _⟩
  · exact ⟨l3, RB.nil, rg0, z _, z _, z _, z _⟩
theorem field54_19 (g : Fm.Fr) (lg : g.ln) (W : World) : (Instr.field 42 (.agg (Fm.FC g)) 7).run Try.prog W = .ok (.slice g.RA g.m g.rc) W := by
  obtain ⟨fs, fd, h1, h2, h3, h4⟩ : ∃ fs fd, Try.prog.underlying 42 = some (.struct fs) ∧ fs[7]? = some fd ∧ fd.offset = 54 ∧ fd.type = 40 := ⟨_, _, Try.underlying42, rfl, rfl, rfl⟩
  have h5 := Fm.FC_54 lg
  unfold Instr.field
  simp [run_underlying h1, h2, asAgg, part, isAgg, h3, h4, run_underlying Try.underlying40, h5]
theorem reflay_bad19 (f : Fm.Fr) (w : World) (hl : f.ln) (rf : RG w w.heap.size f.RA f.m f.rs) (hm : f.m ≤ 1000000) (hmay : Fm.may f ≠ 0) :
    Calls Try.prog 11 #[.agg (Fm.FC f)] w fun e w' => ∃ v, e = .returned (.tuple #[v, .int .i64 (Fm.may f)]) ∧ (Fm.may f = 0 → OBn w' w.heap.size 5 v ((Fm.body f).length + 4) (Ck.sealed (Fm.body f))) ∧ (Fm.may f ≠ 0 → v = .slice none 0 0) ∧ Below w.heap.size w w' := by
  have bF := BX.new w 31 (Fm.FC f)
  have bW := (Below.refl w.heap.size w).alloc (Nat.le_refl _) (.cells (Fm.FC f) 31)
  have MY := Lib.hid (refmay_any19 f (w.alloc (.cells (Fm.FC f) 31)) hl ((rf.below bW).more bW.size) hm)
  have hmay' : ¬ (Fm.may f = 0) := hmay
  go_enter Try.func11, Try.ntmps11
  go_upto_region 1 with (fail)
  generalize (w.alloc (.cells (Fm.FC f) 31)) = W1 at *
  have la := (FB.of bF hl).lall
  have HW := Lib.hid bW
  clear bW
  go_wp2_with (go_at_call 27; (with_reducible refine MY.out.mono ?_); rintro e w1 ⟨rfl, hb⟩; have B1 := Lib.hid hb; clear hb)
  go_ret2
  exact ⟨_, rfl, fun e => absurd e hmay, fun _ => rfl, bthen' HW.out B1.out⟩
theorem framelays_walk (f : Fm.Fr) (w : World) (hf : FrOk w f) :
    Calls Try.prog 3 #[.agg (Fm.FC f)] w fun e w' => e = .returned (.bool true) ∧ Below w.heap.size w w' := by
  have al := Lib.hid alive_any19
  have LF := Lib.hid hf.fit.ln
  have hb2 := Below.alloc (Below.refl w.heap.size w) (Nat.le_refl _) (.cells (Fm.FC f) 31)
  have bF := BX.new w 31 (Fm.FC f)
  obtain ⟨W, hW⟩ : ∃ W, w.alloc (.cells (Fm.FC f) 31) = W := ⟨_, rfl⟩
  rw [hW] at hb2 bF
  have HB := Lib.hid hb2
  have OKF := Lib.hid (hf.below hb2)
  have FK := Lib.hid (fun W2 (h : Below W.heap.size W W2) => show (loadCellsFrom ⟨w.heap.size, 0, none⟩ 0 56 #[]).run Try.prog W2 = .ok (Fm.FC f) W2 ∧ W2.cell? ⟨w.heap.size, 19, none⟩ = some (.int .u64 (f.off : Int)) ∧ W2.cell? ⟨w.heap.size, 54, none⟩ = some (.slice f.RA f.m f.rc) from ⟨load_any19 LF.out (bF.later h), (FB.of (bF.later h) LF.out).c19, (FB.of (bF.later h) LF.out).c54⟩)
  have la := load_any19 LF.out bF
  have FA := Lib.hid (far_any19 f W LF.out)
  clear hb2 bF
  by_cases hfar : Fm.far f = true
  · rw [hfar] at FA
    go_enter Try.func3, Try.ntmps3
    go_wp2_with (first
      | (go_at_call 7; (with_reducible refine FA.out.mono ?_); rintro e w1 ⟨rfl, h1⟩; have H1 := Lib.hid (bthen' HB.out h1); clear h1)
      | (go_at_call 8; (with_reducible refine (al.out _).mono ?_); rintro e w2 ⟨rfl, h2⟩; have H2 := Lib.hid (bthen' H1.out h2); clear h2))
    go_ret
    exact ⟨rfl, H2.out⟩
  have hfar' : Fm.far f = false := by simpa using hfar
  rw [hfar'] at FA
  obtain ⟨hn6, hm2⟩ := Fm.far_false hfar'
  clear hfar hfar'
  have THF := Lib.hid (fun W1 (h : Below W.heap.size W W1) => theirs_any19 f W1 LF.out (OKF.out.below h).rg (by omega))
  have BOK := Lib.hid (bare_ok19 OKF.out hn6 hm2)
  have THB := Lib.hid (fun W1 (h : Below W.heap.size W W1) => theirs_any19 (Fm.bare f) W1 BOK.out.1 ((BOK.out.2.2.1.below h).more h.size) (by have := BOK.out; omega))
  obtain ⟨Z, hZ⟩ : ∃ Z, Fm.may f = Z := ⟨_, rfl⟩
  have BYT := Lib.hid (show Z = 0 → Byt (Fm.body f) from fun e => OKF.out.byt (hZ.trans e))
  have LY := Lib.hid (fun W1 A c (h : Below W.heap.size W W1) (hr : RG W1 W1.heap.size A f.m f.rs) => lay_any19 { f with RA := A, rc := c } W1 (Fm.fit_moved OKF.out.fit A c) hr (OKF.out.below h).rb (by show f.m ≤ 10000; omega) (by show f.n ≤ 200000; omega) (fun e => OKF.out.byt e))
  have EM := Lib.hid (show ∀ A c, Fm.may { f with RA := A, rc := c } = Z from fun A c => by rw [← hZ]; rfl)
  have EB := Lib.hid (show ∀ A c, Fm.body { f with RA := A, rc := c } = Fm.body f from fun A c => rfl)
  have HBL := Lib.hid (Fm.body_len19 OKF.out.fit hm2 hn6)
  have BA := Lib.hid (fun W1 A c (h : Below W.heap.size W W1) (hr : RG W1 W1.heap.size A f.m f.rs) => bare_any19 { f with RA := A, rc := c } W1 LF.out hr (OKF.out.below h).rb (by show f.m ≤ 10000; omega) (by show f.n ≤ 200000; omega))
  have BE := Lib.hid (fun A c => Fm.er_bare_moved f A c)
  have RBA := Lib.hid (fun W1 => refbare_any f W1 LF.out)
  obtain ⟨XS, N, HX⟩ : ∃ XS N, Hid ((Z = 0 → XS = Ck.sealed (Fm.body f) ∧ N = (Fm.body f).length + 4) ∧ (Z ≠ 0 → XS = [] ∧ N = 0) ∧ N ≤ 1000) := by
    by_cases h : Z = 0
    · exact ⟨_, _, fun _ => ⟨rfl, rfl⟩, fun h2 => absurd h h2, by have := HBL.out; omega⟩
    · exact ⟨[], 0, fun h2 => absurd h2 h, fun _ => ⟨rfl, rfl⟩, by omega⟩
  have SL := Lib.hid (fun W1 B v (h0 : Z = 0 → OBn W1 B 5 v ((Fm.body f).length + 4) (Ck.sealed (Fm.body f))) (h1 : Z ≠ 0 → v = .slice none 0 0) => show ∃ A c, v = .slice A N c ∧ RB W1 W1.heap.size A N XS from by
    by_cases h : Z = 0
    · obtain ⟨e1, e2⟩ := HX.out.1 h
      obtain ⟨A, c, hv, hr, _, _⟩ := (h0 h).slice
      exact ⟨A, c, by rw [e2]; exact hv, by rw [e1, e2]; exact hr⟩
    · obtain ⟨e1, e2⟩ := HX.out.2.1 h
      exact ⟨none, 0, by rw [e2]; exact h1 h, by rw [e1, e2]; exact RB.nil⟩)
  have RLY := Lib.hid (fun W1 (h : Below W.heap.size W W1) => show Calls Try.prog 11 #[.agg (Fm.FC f)] W1 (fun e w' => ∃ v, e = .returned (.tuple #[v, .int .i64 Z]) ∧ (Z = 0 → OBn w' W1.heap.size 5 v ((Fm.body f).length + 4) (Ck.sealed (Fm.body f))) ∧ (Z ≠ 0 → v = .slice none 0 0) ∧ Below W1.heap.size W1 w') from by
    by_cases hz : Z = 0
    · exact (reflay_any19 f W1 LF.out (OKF.out.below h).rg (OKF.out.below h).rb (by omega) (by omega) (by have := OKF.out.fit.s; omega) (by have := OKF.out.fit.r; omega) OKF.out.fit.off OKF.out.fit.tot (BYT.out hz)).mono fun e w' ⟨v, h1, h2, h3, h4⟩ => ⟨v, by rw [← hZ]; exact h1, fun _ => h2 (hZ.trans hz), fun e => absurd hz e, h4⟩
    · exact (reflay_bad19 f W1 LF.out (OKF.out.below h).rg (by omega) (by rw [hZ]; exact hz)).mono fun e w' ⟨v, h1, h2, h3, h4⟩ => ⟨v, by rw [← hZ]; exact h1, fun e => absurd e hz, fun _ => h3 (by rw [hZ]; exact hz), h4⟩)
  have NSM := Lib.hid (fun W1 A c A' c' (h1 : RB W1 W1.heap.size A N XS) (h2 : RB W1 W1.heap.size A' N XS) => same_any A A' N N c c' XS XS W1 h1 h2 (by have := HX.out.2.2; omega) (by have := HX.out.2.2; omega))
  simp only at NSM
  have BMB := Lib.hid (fun W g (dd : DD W g) (he : Fm.er g = Fm.er (Fm.bare f)) => show g.m ≤ 1000000 ∧ g.n ≤ 1000000 by
    have h1 := dd.2.1.1
    have h2 : g.rs = (Fm.bare f).rs := congrArg (·.rs) he
    have h3 := dd.1.1.1
    have h4 : g.xs = (Fm.bare f).xs := congrArg (·.xs) he
    have h5 := BOK.out.2.1.1
    have h6 := BOK.out.2.2.1.1.1
    have h7 := BOK.out.2.2.2.1
    have h8 := BOK.out.2.2.2.2.1
    rw [h2] at h1
    rw [h4] at h3
    omega)
  have SM2 := Lib.hid (fun W g A c (lg : g.ln) (hg : Fm.er g = Fm.er (Fm.bare f)) (dd : DD W g) (dh : DD W { Fm.bare f with RA := A, rc := c }) => show Calls Try.prog 13 #[.agg (Fm.FC g), .agg (Fm.FC { Fm.bare f with RA := A, rc := c })] W (fun e w' => e = .returned (.bool true) ∧ Below W.heap.size W w') from by
    have h := same_any19 g { Fm.bare f with RA := A, rc := c } W lg BOK.out.1 dd.2 dh.2 dd.1.1 dh.1.1 (BMB.out W g dd hg).1 (BMB.out W g dd hg).2 (BMB.out W { Fm.bare f with RA := A, rc := c } dh rfl).1 (BMB.out W { Fm.bare f with RA := A, rc := c } dh rfl).2
    rw [Fm.same_er (show Fm.er g = Fm.er { Fm.bare f with RA := A, rc := c } from hg)] at h
    exact h)
  obtain ⟨ri, hri⟩ : ∃ ri, Fm.rise f.off f.rs = ri := ⟨_, rfl⟩
  have RI := Lib.hid (fun W1 A c (hr : RG W1 W1.heap.size A f.m f.rs) => rise_any19 f.off A f.m c f.rs W1 hr (by omega))
  have RRI := Lib.hid (fun W1 (h : Below W.heap.size W W1) => show Calls Try.prog 17 #[.int .u64 f.off, .slice f.RA f.m f.rc] W1 (fun e w' => e = .returned (.bool (Fm.rise f.off f.rs)) ∧ Below W1.heap.size W1 w') from (refrise_any f.off f.RA f.m f.rc f.rs W1 (OKF.out.below h).rg (by omega)).mono fun e w' ⟨h1, nn, h2⟩ => ⟨h1, by subst h2; exact below_drewN (Below.refl _ _) nn⟩)
  rw [hri] at RI RRI
  have gri : (ri == ri) = true := by simp
  have gZ : (Z == Z) = true := by simp
  have fld : ∀ (W : World) (A : Option Addr) (c : Nat), (Instr.field 42 (.agg (Fm.FC { f with RA := A, rc := c })) 7).run Try.prog W = .ok (.slice A f.m c) W := fun W A c => field54_19 { f with RA := A, rc := c } LF.out W
  clear hZ hri
  go_enter Try.func3, Try.ntmps3
  go_upto_region 5 with (first
    | (go_at_call 7; (with_reducible refine FA.out.mono ?_); rintro e w1 ⟨rfl, h1⟩; obtain ⟨lf1, _, _⟩ := FK.out _ h1; have H1 := Lib.hid h1; clear h1)
    | (go_at_call 10; (with_reducible refine (THF.out _ H1.out).mono ?_); rintro e w2 ⟨A2, c2, rfl, hr2, _, _, h2⟩; have HR2 := Lib.hid hr2; have H2 := Lib.hid (bthen' H1.out h2); clear hr2 h2)
    | (go_at_call 9; (with_reducible refine (LY.out _ A2 c2 H2.out HR2.out).mono ?_); rintro e w3 ⟨v3, rfl, ho3, hv3, h3⟩; rw [EM.out] at ho3 hv3 ⊢; rw [EB.out] at ho3; obtain ⟨A3, c3, rfl, hr3⟩ := SL.out _ _ _ ho3 hv3; have RA3 := Lib.hid hr3; have H3 := Lib.hid (bthen' H2.out h3); obtain ⟨lf3, _, _⟩ := FK.out _ H3.out; clear ho3 hv3 hr3 h3)
    | (go_at_call 11; (with_reducible refine (RLY.out _ H3.out).mono ?_); rintro e w4 ⟨v4, rfl, ho4, hv4, h4⟩; obtain ⟨A4, c4, rfl, hr4⟩ := SL.out _ _ _ ho4 hv4; have RA4 := Lib.hid hr4; have RA3' := Lib.hid ((RA3.out.below h4).more h4.size); have H4 := Lib.hid (bthen' H3.out h4); clear ho4 hv4 hr4 h4))
  have hacc : Below W.heap.size W w4 := H4.out
  have NS := Lib.hid (show Below W.heap.size W w4.drew from H4.out.drew)
  have RA3d := Lib.hid (show RB w4.drew w4.drew.heap.size A3 N XS from RA3'.out)
  have RA4d := Lib.hid (show RB w4.drew w4.drew.heap.size A4 N XS from RA4.out)
  clear la
  go_region_held3 (fun w' => (loadCellsFrom ⟨w.heap.size, 0, none⟩ 0 56 #[]).run Try.prog w' = .ok (Fm.FC f) w' ∧ w'.cell? ⟨w.heap.size, 19, none⟩ = some (.int .u64 (f.off : Int)) ∧ w'.cell? ⟨w.heap.size, 54, none⟩ = some (.slice f.RA f.m f.rc)) (first | (exact FK.out _ hacc) | (exact FK.out _ hacc.drew) | go_keep) (first
    | (go_at_call 12; (with_reducible refine (NSM.out _ A3 c3 A4 c4 RA3d.out RA4d.out).mono ?_); rintro e w5 ⟨rfl, hH⟩; replace hacc := bthen' NS.out hH; clear hH)
    | (go_at_call 10; (with_reducible refine (THF.out _ hacc).mono ?_); rintro e w6 ⟨A6, c6, rfl, hr6, _, _, hH⟩; have HR3 := Lib.hid hr6; (try replace DD9 := Lib.hid (DD9.out.later hH)); (try replace DDb := Lib.hid (DDb.out.later hH)); replace hacc := bthen' hacc hH; clear hH)
    | (go_at_call 14; (with_reducible refine (BA.out _ A6 c6 hacc HR3.out).mono ?_); rintro e w7 ⟨g7, rfl, he7, lg7, dd7, hH⟩; have HE7 := Lib.hid (he7.trans (BE.out A6 c6)); have LG7 := Lib.hid lg7; clear he7 lg7; (try replace HR3 := Lib.hid ((HR3.out.below hH).more hH.size)); (try replace DD9 := Lib.hid (DD9.out.later hH)); (try replace DDb := Lib.hid (DDb.out.later hH)); replace hacc := bthen' (by first | exact hacc | exact hacc.drew) hH; clear hH; have DD9 := Lib.hid dd7)
    | (go_at_call 15; (with_reducible refine (RBA.out _).mono ?_); rintro e w8 ⟨rfl, hH⟩; (try replace HR3 := Lib.hid ((HR3.out.below hH).more hH.size)); (try replace DD9 := Lib.hid (DD9.out.later hH)); (try replace DDb := Lib.hid (DDb.out.later hH)); replace hacc := bthen' (by first | exact hacc | exact hacc.drew) hH; clear hH)
    | (go_at_call 10; (with_reducible refine (THB.out _ hacc).mono ?_); rintro e w9 ⟨A9, c9, rfl, hr9, _, _, hH⟩; (try replace HR3 := Lib.hid ((HR3.out.below hH).more hH.size)); (try replace DD9 := Lib.hid (DD9.out.later hH)); (try replace DDb := Lib.hid (DDb.out.later hH)); replace hacc := bthen' (by first | exact hacc | exact hacc.drew) hH; clear hH; have DDb := Lib.hid (show DD w9 { Fm.bare f with RA := A9, rc := c9 } from ⟨⟨(BOK.out.2.1.below hacc).more hacc.size, BOK.out.2.2.2.2.2⟩, hr9⟩))
    | (go_at_call 13; (with_reducible refine (SM2.out _ g7 A9 c9 LG7.out HE7.out DD9.out DDb.out).mono ?_); rintro e w10 ⟨rfl, hH⟩; (try replace HR3 := Lib.hid ((HR3.out.below hH).more hH.size)); (try replace DD9 := Lib.hid (DD9.out.later hH)); (try replace DDb := Lib.hid (DDb.out.later hH)); replace hacc := bthen' (by first | exact hacc | exact hacc.drew) hH; clear hH)
    | (go_at_call 16; (with_reducible refine (RI.out _ A6 c6 HR3.out).mono ?_); rintro e w11 ⟨rfl, hH⟩; (try replace HR3 := Lib.hid ((HR3.out.below hH).more hH.size)); (try replace DD9 := Lib.hid (DD9.out.later hH)); (try replace DDb := Lib.hid (DDb.out.later hH)); replace hacc := bthen' (by first | exact hacc | exact hacc.drew) hH; clear hH)
    | (go_at_call 17; (with_reducible refine (RRI.out _ hacc).mono ?_); rintro e w12 ⟨rfl, hH⟩; (try replace HR3 := Lib.hid ((HR3.out.below hH).more hH.size)); (try replace DD9 := Lib.hid (DD9.out.later hH)); (try replace DDb := Lib.hid (DDb.out.later hH)); replace hacc := bthen' (by first | exact hacc | exact hacc.drew) hH; clear hH)
    | (go_at_call 8; (with_reducible refine (al.out _).mono ?_); rintro e w13 ⟨rfl, hH⟩; replace hacc := bthen' hacc hH; clear hH))
  all_goals (
    try go_wp2
    go_ret
    exact ⟨rfl, bthen' HB.out hacc⟩)
end Go.Proofs.Ytmpmldoapfddeaa
