/- WALKS OF LAYER 8, THIRTEENTH PART, kind 4: the member of a header, the reference's. By gen_e8m.py. -/
import Derived.Test.YtjhigkkkfkahdaaGreatDoorE8m
import Derived.Deep.DeepCutAuto
import Derived.Deep.RegionHeld3
namespace Go.Proofs.YtjhigkkkfkahdaaGreatDoor
open Go Go.RowKit
set_option maxHeartbeats 64000000
set_option maxRecDepth 100000
set_option linter.unusedVariables false
theorem reffrom_4 (p nm l : ByteArray) (m u g t z k : Int) (B : Option Addr) (nr cr : Nat) (rs : List Rc.Rec) (A : Option Addr) (n c : Nat) (xs : List Int) (w : World) (hr : RL w w.heap.size B nr rs) (hnr : nr ≤ 100000) (hxl : xs.length = n) (hn : n ≤ 100000) (hp : p.size ≤ 1000) (hnm : nm.size ≤ 1000) (hl : l.size ≤ 1000)
    (hs : ∀ r ∈ rs, r.2.size ≤ 100000) (hk : Mb.kin k = 4) :
    Calls Tryz.prog 10 #[.agg #[.string p, .string nm, .int .i64 m, .int .i64 u, .int .i64 g, .int .i64 t, .int .i64 z, .int .u8 k, .string l], .slice B nr cr, .slice A n c] w fun e w' => e = .returned (refFrom rs p nm l m u g t z k A n c xs) ∧ Below w.heap.size w w' := by
  have cpa := fun W => refjoin_any p nm W (by omega) (by omega)
  have ckk := fun W => refmkind_any k W
  rw [hk] at ckk
  have ejn : (if p.size = 0 then nm else p ++ ⟨#[47]⟩ ++ nm) = Mb.join p nm := rfl
  rw [ejn] at cpa
  clear ejn
  have hjs := join_size p nm hp hnm
  have CFP := Lib.hid (fun W (hW : Below w.heap.size w W) => reffind6_any B nr cr rs Mb.kPath W ((hr.below hW).more hW.size) hnr)
  have CFL := Lib.hid (fun W (hW : Below w.heap.size w W) => reffind6_any B nr cr rs Mb.kLink W ((hr.below hW).more hW.size) hnr)
  have FS := Lib.hid (fun key v (h : Rc.findR key rs = some v) => found_size hs h)
  have EP := Lib.hid (show Mb.fP rs p nm = Mb.told8 rs Mb.kPath (Mb.join p nm) from rfl)
  have EX := Lib.hid (show (Mb.fX k xs).length = 0 by unfold Mb.fX; rw [hk]; rfl)
  have EL := Lib.hid (show Mb.fL rs k l = ⟨#[]⟩ by unfold Mb.fL; rw [hk]; rfl)
  have ROK := Lib.hid (fun P LL h1 h2 h3 => refFrom_ok (rs := rs) (p := p) (nm := nm) (l := l) (m := m) (u := u) (g := g) (t := t) (z := z) (A := A) (n := n) (c := c) (P := P) (L := LL) hk (by decide) h1 h2 EX.out h3)
  have RBD := Lib.hid (fun P LL h1 h2 h3 => refFrom_bad (rs := rs) (p := p) (nm := nm) (l := l) (m := m) (u := u) (g := g) (t := t) (z := z) (A := A) (n := n) (c := c) (P := P) (L := LL) hk (by decide) h1 h2 EX.out h3)
  have CPA := Lib.hid cpa; have CKK := Lib.hid ckk
  clear cpa ckk hr hk hs hxl
  generalize Mb.join p nm = J at *
  generalize refFrom rs p nm l m u g t z k A n c xs = OUT at *
  go_enter Tryz.func10, Tryz.ntmps10
  go_upto_region 1 with (fail)
  obtain ⟨W0, hW0⟩ : ∃ W0, W0 = ((w.alloc (.cells #[.string p, .string nm, .int .i64 m, .int .i64 u, .int .i64 g, .int .i64 t, .int .i64 z, .int .u8 k, .string l] 25)).alloc (.cells #[.string ⟨#[]⟩, .int .i64 0, .int .i64 0, .int .i64 0, .int .i64 0, .int .i64 0, .string ⟨#[]⟩, .slice none 0 0] 42)) := ⟨_, rfl⟩
  rw [← hW0]
  have SZ0 := Lib.hid (show W0.heap.size = w.heap.size + 1 + 1 by rw [hW0]; simp)
  have BOX := Lib.hid (show ∀ W, Below W0.heap.size W0 W → BX W w.heap.size 25 #[.string p, .string nm, .int .i64 m, .int .i64 u, .int .i64 g, .int .i64 t, .int .i64 z, .int .u8 k, .string l] ∧ BX W (w.heap.size + 1) 42 #[.string ⟨#[]⟩, .int .i64 0, .int .i64 0, .int .i64 0, .int .i64 0, .int .i64 0, .string ⟨#[]⟩, .slice none 0 0] ∧ Below w.heap.size w W by
    intro W hb
    have hsz := SZ0.out
    rw [hsz] at hb
    rw [hW0] at hb
    refine ⟨((BX.new w _ _).alloc _).below hb (by omega), ?_, (((Below.refl _ w).alloc (Nat.le_refl _) _).alloc (by simp) _).trans (hb.mono (by omega))⟩
    have h := (BX.new (w.alloc (.cells #[.string p, .string nm, .int .i64 m, .int .i64 u, .int .i64 g, .int .i64 t, .int .i64 z, .int .u8 k, .string l] 25)) 42 #[.string ⟨#[]⟩, .int .i64 0, .int .i64 0, .int .i64 0, .int .i64 0, .int .i64 0, .string ⟨#[]⟩, .slice none 0 0]).below (B := w.heap.size + 1 + 1) (w' := W) hb (by simp)
    simpa using h)
  clear hW0
  go_cut [8] (fun v wx => ∃ gb, v = .pointer (some ⟨gb, 0, none⟩) ∧ Hid (W0.heap.size ≤ gb) ∧ Hid (Below W0.heap.size W0 wx) ∧ Hid (BX wx gb 42 #[.string J, .int .i64 4, .int .i64 m, .int .i64 u, .int .i64 g, .int .i64 t, .string l, .slice none 0 0]))
  case first =>
    have hacc : Below W0.heap.size W0 W0.drew := below_drewN (Below.refl _ _) 1
    have alls : ∀ W, Below W0.heap.size W0 W → W.cell? ⟨w.heap.size, 0, none⟩ = some (.string p) ∧ W.cell? ⟨w.heap.size, 1, none⟩ = some (.string nm) ∧ W.cell? ⟨w.heap.size, 2, none⟩ = some (.int .i64 m) ∧ W.cell? ⟨w.heap.size, 3, none⟩ = some (.int .i64 u) ∧ W.cell? ⟨w.heap.size, 4, none⟩ = some (.int .i64 g) ∧ W.cell? ⟨w.heap.size, 5, none⟩ = some (.int .i64 t) ∧ W.cell? ⟨w.heap.size, 6, none⟩ = some (.int .i64 z) ∧ W.cell? ⟨w.heap.size, 7, none⟩ = some (.int .u8 k) ∧ W.cell? ⟨w.heap.size, 8, none⟩ = some (.string l) := fun W hW => by
      obtain ⟨b, _, _⟩ := BOX.out W hW
      exact ⟨b.cell rfl, b.cell rfl, b.cell rfl, b.cell rfl, b.cell rfl, b.cell rfl, b.cell rfl, b.cell rfl, b.cell rfl⟩
    have ALLS := Lib.hid alls
    clear alls
    obtain ⟨y0, y1, y2, y3, y4, y5, y6, y7, y8⟩ := ALLS.out _ hacc
    obtain ⟨x0, x1, x2, x3, x4, x5, x6, x7, x8⟩ := ALLS.out _ (Below.refl W0.heap.size W0)
    have hne0 : W0.heap.size ≠ w.heap.size := by rw [SZ0.out]; omega
    go_region_held3 (fun w' => w'.cell? ⟨w.heap.size, 0, none⟩ = some (.string p) ∧ w'.cell? ⟨w.heap.size, 1, none⟩ = some (.string nm) ∧ w'.cell? ⟨w.heap.size, 2, none⟩ = some (.int .i64 m) ∧ w'.cell? ⟨w.heap.size, 3, none⟩ = some (.int .i64 u) ∧ w'.cell? ⟨w.heap.size, 4, none⟩ = some (.int .i64 g) ∧ w'.cell? ⟨w.heap.size, 5, none⟩ = some (.int .i64 t) ∧ w'.cell? ⟨w.heap.size, 6, none⟩ = some (.int .i64 z) ∧ w'.cell? ⟨w.heap.size, 7, none⟩ = some (.int .u8 k) ∧ w'.cell? ⟨w.heap.size, 8, none⟩ = some (.string l)) (first | go_keep | (exact ALLS.out _ hacc) | (exact ALLS.out _ (hacc.alloc hacc.size _))) (first
      | (go_at_call 36; (with_reducible refine (CKK.out _).mono ?_); rintro e w1 ⟨rfl, hb1⟩; (first | (replace hacc := bthen hacc hb1; have hne1 : w1.heap.size ≠ w.heap.size := (by have h1 := hacc.size; have h2 := SZ0.out; omega)) | (have bz : BX w1 W0.heap.size 42 #[.string ⟨#[]⟩, .int .i64 0, .int .i64 0, .int .i64 0, .int .i64 0, .int .i64 0, .string ⟨#[]⟩, .slice none 0 0] := (BX.drew (BX.new _ _ _)).later hb1; replace hacc := ((mb_new W0 (.cells #[.string ⟨#[]⟩, .int .i64 0, .int .i64 0, .int .i64 0, .int .i64 0, .int .i64 0, .string ⟨#[]⟩, .slice none 0 0] 42)).drew).trans (Below.mono hb1 (by simp <;> omega)); have z0 : w1.cell? ⟨W0.heap.size, 0, none⟩ = some (.string ⟨#[]⟩) := bz.cell rfl; have f0 := bz.free 0; have z1 : w1.cell? ⟨W0.heap.size, 1, none⟩ = some (.int .i64 0) := bz.cell rfl; have f1 := bz.free 1; have z2 : w1.cell? ⟨W0.heap.size, 2, none⟩ = some (.int .i64 0) := bz.cell rfl; have f2 := bz.free 2; have z3 : w1.cell? ⟨W0.heap.size, 3, none⟩ = some (.int .i64 0) := bz.cell rfl; have f3 := bz.free 3; have z4 : w1.cell? ⟨W0.heap.size, 4, none⟩ = some (.int .i64 0) := bz.cell rfl; have f4 := bz.free 4; have z5 : w1.cell? ⟨W0.heap.size, 5, none⟩ = some (.int .i64 0) := bz.cell rfl; have f5 := bz.free 5; have z6 : w1.cell? ⟨W0.heap.size, 6, none⟩ = some (.string ⟨#[]⟩) := bz.cell rfl; have f6 := bz.free 6; have z7 : w1.cell? ⟨W0.heap.size, 7, none⟩ = some (.slice none 0 0) := bz.cell rfl; have f7 := bz.free 7)))
      | (go_at_call 35; (with_reducible refine (CPA.out _).mono ?_); rintro e w3 ⟨rfl, rfl⟩))
    all_goals
      go_wp2
      go_meet
      first
        | exact ⟨_, rfl, hacc.size, hacc.alloc hacc.size _, BX.new _ _ _⟩
        | exact ⟨_, rfl, Nat.le_refl _, ((((((((hacc).setCell (Nat.le_refl _) _).setCell (Nat.le_refl _) _).setCell (Nat.le_refl _) _).setCell (Nat.le_refl _) _).setCell (Nat.le_refl _) _).setCell (Nat.le_refl _) _).setCell (Nat.le_refl _) _).setCell (Nat.le_refl _) _, (by have h := (((((((bz.set 0 (.string J)).set 1 (.int .i64 4)).set 2 (.int .i64 m)).set 3 (.int .i64 u)).set 4 (.int .i64 g)).set 5 (.int .i64 t)).set 6 (.string l)).set 7 (.slice none 0 0); show BX _ _ _ _; simpa using h)⟩
  case rest =>
    obtain ⟨gb, rfl, HG, HBC, HBM⟩ := hcut
    have HNE := Lib.hid (show w.heap.size + 1 ≠ gb by have h1 := HG.out; have h2 := SZ0.out; intro h; change W0.heap.size ≤ gb at h1; omega)
    have HGW := Lib.hid (show w.heap.size ≤ gb by have h1 := HG.out; have h2 := SZ0.out; change W0.heap.size ≤ gb at h1; omega)
    have g0 : wc.cell? ⟨gb, 0, none⟩ = some (.string J) := (HBM.out).cell rfl; have g1 : wc.cell? ⟨gb, 1, none⟩ = some (.int .i64 4) := (HBM.out).cell rfl; have g2 : wc.cell? ⟨gb, 2, none⟩ = some (.int .i64 m) := (HBM.out).cell rfl; have g3 : wc.cell? ⟨gb, 3, none⟩ = some (.int .i64 u) := (HBM.out).cell rfl; have g4 : wc.cell? ⟨gb, 4, none⟩ = some (.int .i64 g) := (HBM.out).cell rfl; have g5 : wc.cell? ⟨gb, 5, none⟩ = some (.int .i64 t) := (HBM.out).cell rfl; have g6 : wc.cell? ⟨gb, 6, none⟩ = some (.string l) := (HBM.out).cell rfl; have g7 : wc.cell? ⟨gb, 7, none⟩ = some (.slice none 0 0) := (HBM.out).cell rfl
    have fg0 := HBM.out.free 0
    have fg6 := HBM.out.free 6
    have fg7 := HBM.out.free 7
    have HBQ := Lib.hid (BOX.out _ HBC.out).2.2
    rcases hfp : Rc.findR Mb.kPath rs with _ | vp
    · rcases hfl : Rc.findR Mb.kLink rs with _ | vl
      · by_cases hE : Mb.may J ⟨#[]⟩ 4 m u g t 0 = 0
        · have cf1 := fun W hW => find_none hfp (CFP.out W hW)
          rw [show Mb.kPath = ⟨#[112, 97, 116, 104]⟩ from rfl] at cf1
          have CF1 := Lib.hid cf1
          have cf2 := fun W hW => find_none hfl (CFL.out W hW)
          rw [show Mb.kLink = ⟨#[108, 105, 110, 107, 112, 97, 116, 104]⟩ from rfl] at cf2
          have CF2 := Lib.hid cf2
          clear cf1 cf2
          have RX := Lib.hid (ROK.out J ⟨#[]⟩ (EP.out.trans (told_none hfp)) EL.out hE)
          have cmy := fun W => refmmay_any J ⟨#[]⟩ 4 m u g t none 0 0 W (by omega) (by decide) (by omega)
          rw [hE] at cmy
          have CMY := Lib.hid cmy
          clear cmy hE hfp hfl CFP CFL ROK RBD EP EL EX
          go_upto_region 10 with (first
            | (go_at_call 37; (with_reducible refine (CF1.out _ HBQ.out).mono ?_); rintro e w2 ⟨rfl, rfl⟩)
            | (go_at_call 37; (with_reducible refine (CF2.out _ HBQ.out).mono ?_); rintro e w2 ⟨rfl, rfl⟩))
          obtain ⟨W4, hW4⟩ : ∃ W4, W4 = wc := ⟨_, rfl⟩
          have BM4 := Lib.hid (show BX W4 gb 42 #[.string J, .int .i64 4, .int .i64 m, .int .i64 u, .int .i64 g, .int .i64 t, .string l, .slice none 0 0] by rw [hW4]; have h := HBM.out; simpa using h)
          have BZ4 := Lib.hid (show BX W4 (w.heap.size + 1) 42 #[.string ⟨#[]⟩, .int .i64 0, .int .i64 0, .int .i64 0, .int .i64 0, .int .i64 0, .string ⟨#[]⟩, .slice none 0 0] by rw [hW4]; exact (BOX.out _ HBC.out).2.1)
          have HW4 := Lib.hid (show Below w.heap.size w W4 by rw [hW4]; exact HBQ.out)
          rw [← hW4]
          clear hW4 CF1 CF2 g0 g1 g2 g3 g4 g5 g6 g7 fg0 fg6 fg7 HBM HBC HBQ BOX
          have g0 : W4.cell? ⟨gb, 0, none⟩ = some (.string J) := (BM4.out).cell rfl; have g1 : W4.cell? ⟨gb, 1, none⟩ = some (.int .i64 4) := (BM4.out).cell rfl; have g2 : W4.cell? ⟨gb, 2, none⟩ = some (.int .i64 m) := (BM4.out).cell rfl; have g3 : W4.cell? ⟨gb, 3, none⟩ = some (.int .i64 u) := (BM4.out).cell rfl; have g4 : W4.cell? ⟨gb, 4, none⟩ = some (.int .i64 g) := (BM4.out).cell rfl; have g5 : W4.cell? ⟨gb, 5, none⟩ = some (.int .i64 t) := (BM4.out).cell rfl; have g6 : W4.cell? ⟨gb, 6, none⟩ = some (.string l) := (BM4.out).cell rfl; have g7 : W4.cell? ⟨gb, 7, none⟩ = some (.slice none 0 0) := (BM4.out).cell rfl
          have fg6 := BM4.out.free 6
          have fg7 := BM4.out.free 7
          have BS2 := Lib.hid (BM4.out.set 6 (.string ⟨#[]⟩))
          have BZ2 := Lib.hid (BX.other BZ4.out HNE.out (j := 6) (.string ⟨#[]⟩))
          have HW2 := Lib.hid (Below.setCell HW4.out (p := ⟨gb, 6, none⟩) HGW.out (.string ⟨#[]⟩))
          go_wp2_with (first
            | (go_at_call 38; (with_reducible refine (CMY.out _).mono ?_); rintro e w3 ⟨rfl, hb3⟩; have BM3 : BX w3 gb 42 #[.string J, .int .i64 4, .int .i64 m, .int .i64 u, .int .i64 g, .int .i64 t, .string ⟨#[]⟩, .slice none 0 0] := (by have h := BS2.out.later hb3; simpa using h); have BZ3 := BZ2.out.later hb3; have HW3 := Lib.hid (HW2.out.trans (hb3.mono HW2.out.size)); have r0 : w3.cell? ⟨gb, 0, none⟩ = some (.string J) := (BM3).cell rfl; have r1 : w3.cell? ⟨gb, 1, none⟩ = some (.int .i64 4) := (BM3).cell rfl; have r2 : w3.cell? ⟨gb, 2, none⟩ = some (.int .i64 m) := (BM3).cell rfl; have r3 : w3.cell? ⟨gb, 3, none⟩ = some (.int .i64 u) := (BM3).cell rfl; have r4 : w3.cell? ⟨gb, 4, none⟩ = some (.int .i64 g) := (BM3).cell rfl; have r5 : w3.cell? ⟨gb, 5, none⟩ = some (.int .i64 t) := (BM3).cell rfl; have r6 : w3.cell? ⟨gb, 6, none⟩ = some (.string ⟨#[]⟩) := (BM3).cell rfl; have r7 : w3.cell? ⟨gb, 7, none⟩ = some (.slice none 0 0) := (BM3).cell rfl; have s0 : w3.cell? ⟨(w.heap.size + 1), 0, none⟩ = some (.string ⟨#[]⟩) := (BZ3).cell rfl; have s1 : w3.cell? ⟨(w.heap.size + 1), 1, none⟩ = some (.int .i64 0) := (BZ3).cell rfl; have s2 : w3.cell? ⟨(w.heap.size + 1), 2, none⟩ = some (.int .i64 0) := (BZ3).cell rfl; have s3 : w3.cell? ⟨(w.heap.size + 1), 3, none⟩ = some (.int .i64 0) := (BZ3).cell rfl; have s4 : w3.cell? ⟨(w.heap.size + 1), 4, none⟩ = some (.int .i64 0) := (BZ3).cell rfl; have s5 : w3.cell? ⟨(w.heap.size + 1), 5, none⟩ = some (.int .i64 0) := (BZ3).cell rfl; have s6 : w3.cell? ⟨(w.heap.size + 1), 6, none⟩ = some (.string ⟨#[]⟩) := (BZ3).cell rfl; have s7 : w3.cell? ⟨(w.heap.size + 1), 7, none⟩ = some (.slice none 0 0) := (BZ3).cell rfl; have v0 := (BZ3).free 0; have v1 := (BZ3).free 1; have v2 := (BZ3).free 2; have v3 := (BZ3).free 3; have v4 := (BZ3).free 4; have v5 := (BZ3).free 5; have v6 := (BZ3).free 6; have v7 := (BZ3).free 7; clear BM3 BZ3 hb3))
          refine bodyPost_ret (v := .tuple #[.agg #[.string J, .int .i64 4, .int .i64 m, .int .i64 u, .int .i64 g, .int .i64 t, .string ⟨#[]⟩, .slice none 0 0], .int .i64 0]) (by simp [results, Tryz.f10, go_sem, *]) rfl ⟨by rw [RX.out]; rfl, ?_⟩
          exact ((((((((HW3.out).setCell (by simp) _).setCell (by simp) _).setCell (by simp) _).setCell (by simp) _).setCell (by simp) _).setCell (by simp) _).setCell (by simp) _).setCell (by simp) _
        · have cf1 := fun W hW => find_none hfp (CFP.out W hW)
          rw [show Mb.kPath = ⟨#[112, 97, 116, 104]⟩ from rfl] at cf1
          have CF1 := Lib.hid cf1
          have cf2 := fun W hW => find_none hfl (CFL.out W hW)
          rw [show Mb.kLink = ⟨#[108, 105, 110, 107, 112, 97, 116, 104]⟩ from rfl] at cf2
          have CF2 := Lib.hid cf2
          clear cf1 cf2
          have RX := Lib.hid (RBD.out J ⟨#[]⟩ (EP.out.trans (told_none hfp)) EL.out hE)
          have cmy := fun W => refmmay_any J ⟨#[]⟩ 4 m u g t none 0 0 W (by omega) (by decide) (by omega)
          generalize Mb.may J ⟨#[]⟩ 4 m u g t 0 = E at cmy RX hE
          have hE1 : (E == 0) = false := by simp [hE]
          have hE2 : (E != 0) = true := by simp [hE]
          have CMY := Lib.hid cmy
          clear cmy hE hfp hfl CFP CFL ROK RBD EP EL EX
          go_upto_region 10 with (first
            | (go_at_call 37; (with_reducible refine (CF1.out _ HBQ.out).mono ?_); rintro e w2 ⟨rfl, rfl⟩)
            | (go_at_call 37; (with_reducible refine (CF2.out _ HBQ.out).mono ?_); rintro e w2 ⟨rfl, rfl⟩))
          obtain ⟨W4, hW4⟩ : ∃ W4, W4 = wc := ⟨_, rfl⟩
          have BM4 := Lib.hid (show BX W4 gb 42 #[.string J, .int .i64 4, .int .i64 m, .int .i64 u, .int .i64 g, .int .i64 t, .string l, .slice none 0 0] by rw [hW4]; have h := HBM.out; simpa using h)
          have BZ4 := Lib.hid (show BX W4 (w.heap.size + 1) 42 #[.string ⟨#[]⟩, .int .i64 0, .int .i64 0, .int .i64 0, .int .i64 0, .int .i64 0, .string ⟨#[]⟩, .slice none 0 0] by rw [hW4]; exact (BOX.out _ HBC.out).2.1)
          have HW4 := Lib.hid (show Below w.heap.size w W4 by rw [hW4]; exact HBQ.out)
          rw [← hW4]
          clear hW4 CF1 CF2 g0 g1 g2 g3 g4 g5 g6 g7 fg0 fg6 fg7 HBM HBC HBQ BOX
          have g0 : W4.cell? ⟨gb, 0, none⟩ = some (.string J) := (BM4.out).cell rfl; have g1 : W4.cell? ⟨gb, 1, none⟩ = some (.int .i64 4) := (BM4.out).cell rfl; have g2 : W4.cell? ⟨gb, 2, none⟩ = some (.int .i64 m) := (BM4.out).cell rfl; have g3 : W4.cell? ⟨gb, 3, none⟩ = some (.int .i64 u) := (BM4.out).cell rfl; have g4 : W4.cell? ⟨gb, 4, none⟩ = some (.int .i64 g) := (BM4.out).cell rfl; have g5 : W4.cell? ⟨gb, 5, none⟩ = some (.int .i64 t) := (BM4.out).cell rfl; have g6 : W4.cell? ⟨gb, 6, none⟩ = some (.string l) := (BM4.out).cell rfl; have g7 : W4.cell? ⟨gb, 7, none⟩ = some (.slice none 0 0) := (BM4.out).cell rfl
          have fg6 := BM4.out.free 6
          have fg7 := BM4.out.free 7
          have BS2 := Lib.hid (BM4.out.set 6 (.string ⟨#[]⟩))
          have BZ2 := Lib.hid (BX.other BZ4.out HNE.out (j := 6) (.string ⟨#[]⟩))
          have HW2 := Lib.hid (Below.setCell HW4.out (p := ⟨gb, 6, none⟩) HGW.out (.string ⟨#[]⟩))
          go_wp2_with (first
            | (go_at_call 38; (with_reducible refine (CMY.out _).mono ?_); rintro e w3 ⟨rfl, hb3⟩; have BM3 : BX w3 gb 42 #[.string J, .int .i64 4, .int .i64 m, .int .i64 u, .int .i64 g, .int .i64 t, .string ⟨#[]⟩, .slice none 0 0] := (by have h := BS2.out.later hb3; simpa using h); have BZ3 := BZ2.out.later hb3; have HW3 := Lib.hid (HW2.out.trans (hb3.mono HW2.out.size)); skip; have s0 : w3.cell? ⟨(w.heap.size + 1), 0, none⟩ = some (.string ⟨#[]⟩) := (BZ3).cell rfl; have s1 : w3.cell? ⟨(w.heap.size + 1), 1, none⟩ = some (.int .i64 0) := (BZ3).cell rfl; have s2 : w3.cell? ⟨(w.heap.size + 1), 2, none⟩ = some (.int .i64 0) := (BZ3).cell rfl; have s3 : w3.cell? ⟨(w.heap.size + 1), 3, none⟩ = some (.int .i64 0) := (BZ3).cell rfl; have s4 : w3.cell? ⟨(w.heap.size + 1), 4, none⟩ = some (.int .i64 0) := (BZ3).cell rfl; have s5 : w3.cell? ⟨(w.heap.size + 1), 5, none⟩ = some (.int .i64 0) := (BZ3).cell rfl; have s6 : w3.cell? ⟨(w.heap.size + 1), 6, none⟩ = some (.string ⟨#[]⟩) := (BZ3).cell rfl; have s7 : w3.cell? ⟨(w.heap.size + 1), 7, none⟩ = some (.slice none 0 0) := (BZ3).cell rfl; have v0 := (BZ3).free 0; have v1 := (BZ3).free 1; have v2 := (BZ3).free 2; have v3 := (BZ3).free 3; have v4 := (BZ3).free 4; have v5 := (BZ3).free 5; have v6 := (BZ3).free 6; have v7 := (BZ3).free 7; clear BM3 BZ3 hb3))
          refine bodyPost_ret (v := .tuple #[.agg #[.string ⟨#[]⟩, .int .i64 0, .int .i64 0, .int .i64 0, .int .i64 0, .int .i64 0, .string ⟨#[]⟩, .slice none 0 0], .int .i64 E]) (by simp [results, Tryz.f10, go_sem, *]) rfl ⟨by rw [RX.out], ?_⟩
          exact ((((((((HW3.out).setCell (by simp) _).setCell (by simp) _).setCell (by simp) _).setCell (by simp) _).setCell (by simp) _).setCell (by simp) _).setCell (by simp) _).setCell (by simp) _
      · by_cases hE : Mb.may J ⟨#[]⟩ 4 m u g t 0 = 0
        · have cf1 := fun W hW => find_none hfp (CFP.out W hW)
          rw [show Mb.kPath = ⟨#[112, 97, 116, 104]⟩ from rfl] at cf1
          have CF1 := Lib.hid cf1
          have cf2 := fun W hW => find_some hfl (CFL.out W hW)
          rw [show Mb.kLink = ⟨#[108, 105, 110, 107, 112, 97, 116, 104]⟩ from rfl] at cf2
          have CF2 := Lib.hid cf2
          clear cf1 cf2
          have RX := Lib.hid (ROK.out J ⟨#[]⟩ (EP.out.trans (told_none hfp)) EL.out hE)
          have hvl := FS.out _ _ hfl
          have cmy := fun W => refmmay_any J ⟨#[]⟩ 4 m u g t none 0 0 W (by omega) (by decide) (by omega)
          rw [hE] at cmy
          have CMY := Lib.hid cmy
          clear cmy hE hfp hfl CFP CFL ROK RBD EP EL EX
          go_upto_region 10 with (first
            | (go_at_call 37; (with_reducible refine (CF1.out _ HBQ.out).mono ?_); rintro e w2 ⟨rfl, rfl⟩)
            | (go_at_call 37; (with_reducible refine (CF2.out _ HBQ.out).mono ?_); rintro e w2 ⟨rfl, rfl⟩))
          obtain ⟨W4, hW4⟩ : ∃ W4, W4 = (wc.setCell ⟨gb, 6, none⟩ (.string vl)) := ⟨_, rfl⟩
          have BM4 := Lib.hid (show BX W4 gb 42 #[.string J, .int .i64 4, .int .i64 m, .int .i64 u, .int .i64 g, .int .i64 t, .string vl, .slice none 0 0] by rw [hW4]; have h := (HBM.out.set 6 (.string vl)); simpa using h)
          have BZ4 := Lib.hid (show BX W4 (w.heap.size + 1) 42 #[.string ⟨#[]⟩, .int .i64 0, .int .i64 0, .int .i64 0, .int .i64 0, .int .i64 0, .string ⟨#[]⟩, .slice none 0 0] by rw [hW4]; exact (BX.other (BOX.out _ HBC.out).2.1 HNE.out (j := 6) (.string vl)))
          have HW4 := Lib.hid (show Below w.heap.size w W4 by rw [hW4]; exact (Below.setCell HBQ.out (p := ⟨gb, 6, none⟩) HGW.out (.string vl)))
          rw [← hW4]
          clear hW4 CF1 CF2 g0 g1 g2 g3 g4 g5 g6 g7 fg0 fg6 fg7 HBM HBC HBQ BOX
          have g0 : W4.cell? ⟨gb, 0, none⟩ = some (.string J) := (BM4.out).cell rfl; have g1 : W4.cell? ⟨gb, 1, none⟩ = some (.int .i64 4) := (BM4.out).cell rfl; have g2 : W4.cell? ⟨gb, 2, none⟩ = some (.int .i64 m) := (BM4.out).cell rfl; have g3 : W4.cell? ⟨gb, 3, none⟩ = some (.int .i64 u) := (BM4.out).cell rfl; have g4 : W4.cell? ⟨gb, 4, none⟩ = some (.int .i64 g) := (BM4.out).cell rfl; have g5 : W4.cell? ⟨gb, 5, none⟩ = some (.int .i64 t) := (BM4.out).cell rfl; have g6 : W4.cell? ⟨gb, 6, none⟩ = some (.string vl) := (BM4.out).cell rfl; have g7 : W4.cell? ⟨gb, 7, none⟩ = some (.slice none 0 0) := (BM4.out).cell rfl
          have fg6 := BM4.out.free 6
          have fg7 := BM4.out.free 7
          have BS2 := Lib.hid (BM4.out.set 6 (.string ⟨#[]⟩))
          have BZ2 := Lib.hid (BX.other BZ4.out HNE.out (j := 6) (.string ⟨#[]⟩))
          have HW2 := Lib.hid (Below.setCell HW4.out (p := ⟨gb, 6, none⟩) HGW.out (.string ⟨#[]⟩))
          go_wp2_with (first
            | (go_at_call 38; (with_reducible refine (CMY.out _).mono ?_); rintro e w3 ⟨rfl, hb3⟩; have BM3 : BX w3 gb 42 #[.string J, .int .i64 4, .int .i64 m, .int .i64 u, .int .i64 g, .int .i64 t, .string ⟨#[]⟩, .slice none 0 0] := (by have h := BS2.out.later hb3; simpa using h); have BZ3 := BZ2.out.later hb3; have HW3 := Lib.hid (HW2.out.trans (hb3.mono HW2.out.size)); have r0 : w3.cell? ⟨gb, 0, none⟩ = some (.string J) := (BM3).cell rfl; have r1 : w3.cell? ⟨gb, 1, none⟩ = some (.int .i64 4) := (BM3).cell rfl; have r2 : w3.cell? ⟨gb, 2, none⟩ = some (.int .i64 m) := (BM3).cell rfl; have r3 : w3.cell? ⟨gb, 3, none⟩ = some (.int .i64 u) := (BM3).cell rfl; have r4 : w3.cell? ⟨gb, 4, none⟩ = some (.int .i64 g) := (BM3).cell rfl; have r5 : w3.cell? ⟨gb, 5, none⟩ = some (.int .i64 t) := (BM3).cell rfl; have r6 : w3.cell? ⟨gb, 6, none⟩ = some (.string ⟨#[]⟩) := (BM3).cell rfl; have r7 : w3.cell? ⟨gb, 7, none⟩ = some (.slice none 0 0) := (BM3).cell rfl; have s0 : w3.cell? ⟨(w.heap.size + 1), 0, none⟩ = some (.string ⟨#[]⟩) := (BZ3).cell rfl; have s1 : w3.cell? ⟨(w.heap.size + 1), 1, none⟩ = some (.int .i64 0) := (BZ3).cell rfl; have s2 : w3.cell? ⟨(w.heap.size + 1), 2, none⟩ = some (.int .i64 0) := (BZ3).cell rfl; have s3 : w3.cell? ⟨(w.heap.size + 1), 3, none⟩ = some (.int .i64 0) := (BZ3).cell rfl; have s4 : w3.cell? ⟨(w.heap.size + 1), 4, none⟩ = some (.int .i64 0) := (BZ3).cell rfl; have s5 : w3.cell? ⟨(w.heap.size + 1), 5, none⟩ = some (.int .i64 0) := (BZ3).cell rfl; have s6 : w3.cell? ⟨(w.heap.size + 1), 6, none⟩ = some (.string ⟨#[]⟩) := (BZ3).cell rfl; have s7 : w3.cell? ⟨(w.heap.size + 1), 7, none⟩ = some (.slice none 0 0) := (BZ3).cell rfl; have v0 := (BZ3).free 0; have v1 := (BZ3).free 1; have v2 := (BZ3).free 2; have v3 := (BZ3).free 3; have v4 := (BZ3).free 4; have v5 := (BZ3).free 5; have v6 := (BZ3).free 6; have v7 := (BZ3).free 7; clear BM3 BZ3 hb3))
          refine bodyPost_ret (v := .tuple #[.agg #[.string J, .int .i64 4, .int .i64 m, .int .i64 u, .int .i64 g, .int .i64 t, .string ⟨#[]⟩, .slice none 0 0], .int .i64 0]) (by simp [results, Tryz.f10, go_sem, *]) rfl ⟨by rw [RX.out]; rfl, ?_⟩
          exact ((((((((HW3.out).setCell (by simp) _).setCell (by simp) _).setCell (by simp) _).setCell (by simp) _).setCell (by simp) _).setCell (by simp) _).setCell (by simp) _).setCell (by simp) _
        · have cf1 := fun W hW => find_none hfp (CFP.out W hW)
          rw [show Mb.kPath = ⟨#[112, 97, 116, 104]⟩ from rfl] at cf1
          have CF1 := Lib.hid cf1
          have cf2 := fun W hW => find_some hfl (CFL.out W hW)
          rw [show Mb.kLink = ⟨#[108, 105, 110, 107, 112, 97, 116, 104]⟩ from rfl] at cf2
          have CF2 := Lib.hid cf2
          clear cf1 cf2
          have RX := Lib.hid (RBD.out J ⟨#[]⟩ (EP.out.trans (told_none hfp)) EL.out hE)
          have hvl := FS.out _ _ hfl
          have cmy := fun W => refmmay_any J ⟨#[]⟩ 4 m u g t none 0 0 W (by omega) (by decide) (by omega)
          generalize Mb.may J ⟨#[]⟩ 4 m u g t 0 = E at cmy RX hE
          have hE1 : (E == 0) = false := by simp [hE]
          have hE2 : (E != 0) = true := by simp [hE]
          have CMY := Lib.hid cmy
          clear cmy hE hfp hfl CFP CFL ROK RBD EP EL EX
          go_upto_region 10 with (first
            | (go_at_call 37; (with_reducible refine (CF1.out _ HBQ.out).mono ?_); rintro e w2 ⟨rfl, rfl⟩)
            | (go_at_call 37; (with_reducible refine (CF2.out _ HBQ.out).mono ?_); rintro e w2 ⟨rfl, rfl⟩))
          obtain ⟨W4, hW4⟩ : ∃ W4, W4 = (wc.setCell ⟨gb, 6, none⟩ (.string vl)) := ⟨_, rfl⟩
          have BM4 := Lib.hid (show BX W4 gb 42 #[.string J, .int .i64 4, .int .i64 m, .int .i64 u, .int .i64 g, .int .i64 t, .string vl, .slice none 0 0] by rw [hW4]; have h := (HBM.out.set 6 (.string vl)); simpa using h)
          have BZ4 := Lib.hid (show BX W4 (w.heap.size + 1) 42 #[.string ⟨#[]⟩, .int .i64 0, .int .i64 0, .int .i64 0, .int .i64 0, .int .i64 0, .string ⟨#[]⟩, .slice none 0 0] by rw [hW4]; exact (BX.other (BOX.out _ HBC.out).2.1 HNE.out (j := 6) (.string vl)))
          have HW4 := Lib.hid (show Below w.heap.size w W4 by rw [hW4]; exact (Below.setCell HBQ.out (p := ⟨gb, 6, none⟩) HGW.out (.string vl)))
          rw [← hW4]
          clear hW4 CF1 CF2 g0 g1 g2 g3 g4 g5 g6 g7 fg0 fg6 fg7 HBM HBC HBQ BOX
          have g0 : W4.cell? ⟨gb, 0, none⟩ = some (.string J) := (BM4.out).cell rfl; have g1 : W4.cell? ⟨gb, 1, none⟩ = some (.int .i64 4) := (BM4.out).cell rfl; have g2 : W4.cell? ⟨gb, 2, none⟩ = some (.int .i64 m) := (BM4.out).cell rfl; have g3 : W4.cell? ⟨gb, 3, none⟩ = some (.int .i64 u) := (BM4.out).cell rfl; have g4 : W4.cell? ⟨gb, 4, none⟩ = some (.int .i64 g) := (BM4.out).cell rfl; have g5 : W4.cell? ⟨gb, 5, none⟩ = some (.int .i64 t) := (BM4.out).cell rfl; have g6 : W4.cell? ⟨gb, 6, none⟩ = some (.string vl) := (BM4.out).cell rfl; have g7 : W4.cell? ⟨gb, 7, none⟩ = some (.slice none 0 0) := (BM4.out).cell rfl
          have fg6 := BM4.out.free 6
          have fg7 := BM4.out.free 7
          have BS2 := Lib.hid (BM4.out.set 6 (.string ⟨#[]⟩))
          have BZ2 := Lib.hid (BX.other BZ4.out HNE.out (j := 6) (.string ⟨#[]⟩))
          have HW2 := Lib.hid (Below.setCell HW4.out (p := ⟨gb, 6, none⟩) HGW.out (.string ⟨#[]⟩))
          go_wp2_with (first
            | (go_at_call 38; (with_reducible refine (CMY.out _).mono ?_); rintro e w3 ⟨rfl, hb3⟩; have BM3 : BX w3 gb 42 #[.string J, .int .i64 4, .int .i64 m, .int .i64 u, .int .i64 g, .int .i64 t, .string ⟨#[]⟩, .slice none 0 0] := (by have h := BS2.out.later hb3; simpa using h); have BZ3 := BZ2.out.later hb3; have HW3 := Lib.hid (HW2.out.trans (hb3.mono HW2.out.size)); skip; have s0 : w3.cell? ⟨(w.heap.size + 1), 0, none⟩ = some (.string ⟨#[]⟩) := (BZ3).cell rfl; have s1 : w3.cell? ⟨(w.heap.size + 1), 1, none⟩ = some (.int .i64 0) := (BZ3).cell rfl; have s2 : w3.cell? ⟨(w.heap.size + 1), 2, none⟩ = some (.int .i64 0) := (BZ3).cell rfl; have s3 : w3.cell? ⟨(w.heap.size + 1), 3, none⟩ = some (.int .i64 0) := (BZ3).cell rfl; have s4 : w3.cell? ⟨(w.heap.size + 1), 4, none⟩ = some (.int .i64 0) := (BZ3).cell rfl; have s5 : w3.cell? ⟨(w.heap.size + 1), 5, none⟩ = some (.int .i64 0) := (BZ3).cell rfl; have s6 : w3.cell? ⟨(w.heap.size + 1), 6, none⟩ = some (.string ⟨#[]⟩) := (BZ3).cell rfl; have s7 : w3.cell? ⟨(w.heap.size + 1), 7, none⟩ = some (.slice none 0 0) := (BZ3).cell rfl; have v0 := (BZ3).free 0; have v1 := (BZ3).free 1; have v2 := (BZ3).free 2; have v3 := (BZ3).free 3; have v4 := (BZ3).free 4; have v5 := (BZ3).free 5; have v6 := (BZ3).free 6; have v7 := (BZ3).free 7; clear BM3 BZ3 hb3))
          refine bodyPost_ret (v := .tuple #[.agg #[.string ⟨#[]⟩, .int .i64 0, .int .i64 0, .int .i64 0, .int .i64 0, .int .i64 0, .string ⟨#[]⟩, .slice none 0 0], .int .i64 E]) (by simp [results, Tryz.f10, go_sem, *]) rfl ⟨by rw [RX.out], ?_⟩
          exact ((((((((HW3.out).setCell (by simp) _).setCell (by simp) _).setCell (by simp) _).setCell (by simp) _).setCell (by simp) _).setCell (by simp) _).setCell (by simp) _).setCell (by simp) _
    · rcases hfl : Rc.findR Mb.kLink rs with _ | vl
      · by_cases hE : Mb.may vp ⟨#[]⟩ 4 m u g t 0 = 0
        · have cf1 := fun W hW => find_some hfp (CFP.out W hW)
          rw [show Mb.kPath = ⟨#[112, 97, 116, 104]⟩ from rfl] at cf1
          have CF1 := Lib.hid cf1
          have cf2 := fun W hW => find_none hfl (CFL.out W hW)
          rw [show Mb.kLink = ⟨#[108, 105, 110, 107, 112, 97, 116, 104]⟩ from rfl] at cf2
          have CF2 := Lib.hid cf2
          clear cf1 cf2
          have RX := Lib.hid (ROK.out vp ⟨#[]⟩ (EP.out.trans (told_some8 hfp)) EL.out hE)
          have hvp := FS.out _ _ hfp
          have cmy := fun W => refmmay_any vp ⟨#[]⟩ 4 m u g t none 0 0 W (by omega) (by decide) (by omega)
          rw [hE] at cmy
          have CMY := Lib.hid cmy
          clear cmy hE hfp hfl CFP CFL ROK RBD EP EL EX
          go_upto_region 10 with (first
            | (go_at_call 37; (with_reducible refine (CF1.out _ HBQ.out).mono ?_); rintro e w2 ⟨rfl, rfl⟩)
            | (go_at_call 37; (with_reducible refine (CF2.out _ (Below.setCell HBQ.out (p := ⟨gb, 0, none⟩) HGW.out (.string vp))).mono ?_); rintro e w2 ⟨rfl, rfl⟩))
          obtain ⟨W4, hW4⟩ : ∃ W4, W4 = (wc.setCell ⟨gb, 0, none⟩ (.string vp)) := ⟨_, rfl⟩
          have BM4 := Lib.hid (show BX W4 gb 42 #[.string vp, .int .i64 4, .int .i64 m, .int .i64 u, .int .i64 g, .int .i64 t, .string l, .slice none 0 0] by rw [hW4]; have h := (HBM.out.set 0 (.string vp)); simpa using h)
          have BZ4 := Lib.hid (show BX W4 (w.heap.size + 1) 42 #[.string ⟨#[]⟩, .int .i64 0, .int .i64 0, .int .i64 0, .int .i64 0, .int .i64 0, .string ⟨#[]⟩, .slice none 0 0] by rw [hW4]; exact (BX.other (BOX.out _ HBC.out).2.1 HNE.out (j := 0) (.string vp)))
          have HW4 := Lib.hid (show Below w.heap.size w W4 by rw [hW4]; exact (Below.setCell HBQ.out (p := ⟨gb, 0, none⟩) HGW.out (.string vp)))
          rw [← hW4]
          clear hW4 CF1 CF2 g0 g1 g2 g3 g4 g5 g6 g7 fg0 fg6 fg7 HBM HBC HBQ BOX
          have g0 : W4.cell? ⟨gb, 0, none⟩ = some (.string vp) := (BM4.out).cell rfl; have g1 : W4.cell? ⟨gb, 1, none⟩ = some (.int .i64 4) := (BM4.out).cell rfl; have g2 : W4.cell? ⟨gb, 2, none⟩ = some (.int .i64 m) := (BM4.out).cell rfl; have g3 : W4.cell? ⟨gb, 3, none⟩ = some (.int .i64 u) := (BM4.out).cell rfl; have g4 : W4.cell? ⟨gb, 4, none⟩ = some (.int .i64 g) := (BM4.out).cell rfl; have g5 : W4.cell? ⟨gb, 5, none⟩ = some (.int .i64 t) := (BM4.out).cell rfl; have g6 : W4.cell? ⟨gb, 6, none⟩ = some (.string l) := (BM4.out).cell rfl; have g7 : W4.cell? ⟨gb, 7, none⟩ = some (.slice none 0 0) := (BM4.out).cell rfl
          have fg6 := BM4.out.free 6
          have fg7 := BM4.out.free 7
          have BS2 := Lib.hid (BM4.out.set 6 (.string ⟨#[]⟩))
          have BZ2 := Lib.hid (BX.other BZ4.out HNE.out (j := 6) (.string ⟨#[]⟩))
          have HW2 := Lib.hid (Below.setCell HW4.out (p := ⟨gb, 6, none⟩) HGW.out (.string ⟨#[]⟩))
          go_wp2_with (first
            | (go_at_call 38; (with_reducible refine (CMY.out _).mono ?_); rintro e w3 ⟨rfl, hb3⟩; have BM3 : BX w3 gb 42 #[.string vp, .int .i64 4, .int .i64 m, .int .i64 u, .int .i64 g, .int .i64 t, .string ⟨#[]⟩, .slice none 0 0] := (by have h := BS2.out.later hb3; simpa using h); have BZ3 := BZ2.out.later hb3; have HW3 := Lib.hid (HW2.out.trans (hb3.mono HW2.out.size)); have r0 : w3.cell? ⟨gb, 0, none⟩ = some (.string vp) := (BM3).cell rfl; have r1 : w3.cell? ⟨gb, 1, none⟩ = some (.int .i64 4) := (BM3).cell rfl; have r2 : w3.cell? ⟨gb, 2, none⟩ = some (.int .i64 m) := (BM3).cell rfl; have r3 : w3.cell? ⟨gb, 3, none⟩ = some (.int .i64 u) := (BM3).cell rfl; have r4 : w3.cell? ⟨gb, 4, none⟩ = some (.int .i64 g) := (BM3).cell rfl; have r5 : w3.cell? ⟨gb, 5, none⟩ = some (.int .i64 t) := (BM3).cell rfl; have r6 : w3.cell? ⟨gb, 6, none⟩ = some (.string ⟨#[]⟩) := (BM3).cell rfl; have r7 : w3.cell? ⟨gb, 7, none⟩ = some (.slice none 0 0) := (BM3).cell rfl; have s0 : w3.cell? ⟨(w.heap.size + 1), 0, none⟩ = some (.string ⟨#[]⟩) := (BZ3).cell rfl; have s1 : w3.cell? ⟨(w.heap.size + 1), 1, none⟩ = some (.int .i64 0) := (BZ3).cell rfl; have s2 : w3.cell? ⟨(w.heap.size + 1), 2, none⟩ = some (.int .i64 0) := (BZ3).cell rfl; have s3 : w3.cell? ⟨(w.heap.size + 1), 3, none⟩ = some (.int .i64 0) := (BZ3).cell rfl; have s4 : w3.cell? ⟨(w.heap.size + 1), 4, none⟩ = some (.int .i64 0) := (BZ3).cell rfl; have s5 : w3.cell? ⟨(w.heap.size + 1), 5, none⟩ = some (.int .i64 0) := (BZ3).cell rfl; have s6 : w3.cell? ⟨(w.heap.size + 1), 6, none⟩ = some (.string ⟨#[]⟩) := (BZ3).cell rfl; have s7 : w3.cell? ⟨(w.heap.size + 1), 7, none⟩ = some (.slice none 0 0) := (BZ3).cell rfl; have v0 := (BZ3).free 0; have v1 := (BZ3).free 1; have v2 := (BZ3).free 2; have v3 := (BZ3).free 3; have v4 := (BZ3).free 4; have v5 := (BZ3).free 5; have v6 := (BZ3).free 6; have v7 := (BZ3).free 7; clear BM3 BZ3 hb3))
          refine bodyPost_ret (v := .tuple #[.agg #[.string vp, .int .i64 4, .int .i64 m, .int .i64 u, .int .i64 g, .int .i64 t, .string ⟨#[]⟩, .slice none 0 0], .int .i64 0]) (by simp [results, Tryz.f10, go_sem, *]) rfl ⟨by rw [RX.out]; rfl, ?_⟩
          exact ((((((((HW3.out).setCell (by simp) _).setCell (by simp) _).setCell (by simp) _).setCell (by simp) _).setCell (by simp) _).setCell (by simp) _).setCell (by simp) _).setCell (by simp) _
        · have cf1 := fun W hW => find_some hfp (CFP.out W hW)
          rw [show Mb.kPath = ⟨#[112, 97, 116, 104]⟩ from rfl] at cf1
          have CF1 := Lib.hid cf1
          have cf2 := fun W hW => find_none hfl (CFL.out W hW)
          rw [show Mb.kLink = ⟨#[108, 105, 110, 107, 112, 97, 116, 104]⟩ from rfl] at cf2
          have CF2 := Lib.hid cf2
          clear cf1 cf2
          have RX := Lib.hid (RBD.out vp ⟨#[]⟩ (EP.out.trans (told_some8 hfp)) EL.out hE)
          have hvp := FS.out _ _ hfp
          have cmy := fun W => refmmay_any vp ⟨#[]⟩ 4 m u g t none 0 0 W (by omega) (by decide) (by omega)
          generalize Mb.may vp ⟨#[]⟩ 4 m u g t 0 = E at cmy RX hE
          have hE1 : (E == 0) = false := by simp [hE]
          have hE2 : (E != 0) = true := by simp [hE]
          have CMY := Lib.hid cmy
          clear cmy hE hfp hfl CFP CFL ROK RBD EP EL EX
          go_upto_region 10 with (first
            | (go_at_call 37; (with_reducible refine (CF1.out _ HBQ.out).mono ?_); rintro e w2 ⟨rfl, rfl⟩)
            | (go_at_call 37; (with_reducible refine (CF2.out _ (Below.setCell HBQ.out (p := ⟨gb, 0, none⟩) HGW.out (.string vp))).mono ?_); rintro e w2 ⟨rfl, rfl⟩))
          obtain ⟨W4, hW4⟩ : ∃ W4, W4 = (wc.setCell ⟨gb, 0, none⟩ (.string vp)) := ⟨_, rfl⟩
          have BM4 := Lib.hid (show BX W4 gb 42 #[.string vp, .int .i64 4, .int .i64 m, .int .i64 u, .int .i64 g, .int .i64 t, .string l, .slice none 0 0] by rw [hW4]; have h := (HBM.out.set 0 (.string vp)); simpa using h)
          have BZ4 := Lib.hid (show BX W4 (w.heap.size + 1) 42 #[.string ⟨#[]⟩, .int .i64 0, .int .i64 0, .int .i64 0, .int .i64 0, .int .i64 0, .string ⟨#[]⟩, .slice none 0 0] by rw [hW4]; exact (BX.other (BOX.out _ HBC.out).2.1 HNE.out (j := 0) (.string vp)))
          have HW4 := Lib.hid (show Below w.heap.size w W4 by rw [hW4]; exact (Below.setCell HBQ.out (p := ⟨gb, 0, none⟩) HGW.out (.string vp)))
          rw [← hW4]
          clear hW4 CF1 CF2 g0 g1 g2 g3 g4 g5 g6 g7 fg0 fg6 fg7 HBM HBC HBQ BOX
          have g0 : W4.cell? ⟨gb, 0, none⟩ = some (.string vp) := (BM4.out).cell rfl; have g1 : W4.cell? ⟨gb, 1, none⟩ = some (.int .i64 4) := (BM4.out).cell rfl; have g2 : W4.cell? ⟨gb, 2, none⟩ = some (.int .i64 m) := (BM4.out).cell rfl; have g3 : W4.cell? ⟨gb, 3, none⟩ = some (.int .i64 u) := (BM4.out).cell rfl; have g4 : W4.cell? ⟨gb, 4, none⟩ = some (.int .i64 g) := (BM4.out).cell rfl; have g5 : W4.cell? ⟨gb, 5, none⟩ = some (.int .i64 t) := (BM4.out).cell rfl; have g6 : W4.cell? ⟨gb, 6, none⟩ = some (.string l) := (BM4.out).cell rfl; have g7 : W4.cell? ⟨gb, 7, none⟩ = some (.slice none 0 0) := (BM4.out).cell rfl
          have fg6 := BM4.out.free 6
          have fg7 := BM4.out.free 7
          have BS2 := Lib.hid (BM4.out.set 6 (.string ⟨#[]⟩))
          have BZ2 := Lib.hid (BX.other BZ4.out HNE.out (j := 6) (.string ⟨#[]⟩))
          have HW2 := Lib.hid (Below.setCell HW4.out (p := ⟨gb, 6, none⟩) HGW.out (.string ⟨#[]⟩))
          go_wp2_with (first
            | (go_at_call 38; (with_reducible refine (CMY.out _).mono ?_); rintro e w3 ⟨rfl, hb3⟩; have BM3 : BX w3 gb 42 #[.string vp, .int .i64 4, .int .i64 m, .int .i64 u, .int .i64 g, .int .i64 t, .string ⟨#[]⟩, .slice none 0 0] := (by have h := BS2.out.later hb3; simpa using h); have BZ3 := BZ2.out.later hb3; have HW3 := Lib.hid (HW2.out.trans (hb3.mono HW2.out.size)); skip; have s0 : w3.cell? ⟨(w.heap.size + 1), 0, none⟩ = some (.string ⟨#[]⟩) := (BZ3).cell rfl; have s1 : w3.cell? ⟨(w.heap.size + 1), 1, none⟩ = some (.int .i64 0) := (BZ3).cell rfl; have s2 : w3.cell? ⟨(w.heap.size + 1), 2, none⟩ = some (.int .i64 0) := (BZ3).cell rfl; have s3 : w3.cell? ⟨(w.heap.size + 1), 3, none⟩ = some (.int .i64 0) := (BZ3).cell rfl; have s4 : w3.cell? ⟨(w.heap.size + 1), 4, none⟩ = some (.int .i64 0) := (BZ3).cell rfl; have s5 : w3.cell? ⟨(w.heap.size + 1), 5, none⟩ = some (.int .i64 0) := (BZ3).cell rfl; have s6 : w3.cell? ⟨(w.heap.size + 1), 6, none⟩ = some (.string ⟨#[]⟩) := (BZ3).cell rfl; have s7 : w3.cell? ⟨(w.heap.size + 1), 7, none⟩ = some (.slice none 0 0) := (BZ3).cell rfl; have v0 := (BZ3).free 0; have v1 := (BZ3).free 1; have v2 := (BZ3).free 2; have v3 := (BZ3).free 3; have v4 := (BZ3).free 4; have v5 := (BZ3).free 5; have v6 := (BZ3).free 6; have v7 := (BZ3).free 7; clear BM3 BZ3 hb3))
          refine bodyPost_ret (v := .tuple #[.agg #[.string ⟨#[]⟩, .int .i64 0, .int .i64 0, .int .i64 0, .int .i64 0, .int .i64 0, .string ⟨#[]⟩, .slice none 0 0], .int .i64 E]) (by simp [results, Tryz.f10, go_sem, *]) rfl ⟨by rw [RX.out], ?_⟩
          exact ((((((((HW3.out).setCell (by simp) _).setCell (by simp) _).setCell (by simp) _).setCell (by simp) _).setCell (by simp) _).setCell (by simp) _).setCell (by simp) _).setCell (by simp) _
      · by_cases hE : Mb.may vp ⟨#[]⟩ 4 m u g t 0 = 0
        · have cf1 := fun W hW => find_some hfp (CFP.out W hW)
          rw [show Mb.kPath = ⟨#[112, 97, 116, 104]⟩ from rfl] at cf1
          have CF1 := Lib.hid cf1
          have cf2 := fun W hW => find_some hfl (CFL.out W hW)
          rw [show Mb.kLink = ⟨#[108, 105, 110, 107, 112, 97, 116, 104]⟩ from rfl] at cf2
          have CF2 := Lib.hid cf2
          clear cf1 cf2
          have RX := Lib.hid (ROK.out vp ⟨#[]⟩ (EP.out.trans (told_some8 hfp)) EL.out hE)
          have hvp := FS.out _ _ hfp
          have hvl := FS.out _ _ hfl
          have cmy := fun W => refmmay_any vp ⟨#[]⟩ 4 m u g t none 0 0 W (by omega) (by decide) (by omega)
          rw [hE] at cmy
          have CMY := Lib.hid cmy
          clear cmy hE hfp hfl CFP CFL ROK RBD EP EL EX
          go_upto_region 10 with (first
            | (go_at_call 37; (with_reducible refine (CF1.out _ HBQ.out).mono ?_); rintro e w2 ⟨rfl, rfl⟩)
            | (go_at_call 37; (with_reducible refine (CF2.out _ (Below.setCell HBQ.out (p := ⟨gb, 0, none⟩) HGW.out (.string vp))).mono ?_); rintro e w2 ⟨rfl, rfl⟩))
          obtain ⟨W4, hW4⟩ : ∃ W4, W4 = ((wc.setCell ⟨gb, 0, none⟩ (.string vp)).setCell ⟨gb, 6, none⟩ (.string vl)) := ⟨_, rfl⟩
          have BM4 := Lib.hid (show BX W4 gb 42 #[.string vp, .int .i64 4, .int .i64 m, .int .i64 u, .int .i64 g, .int .i64 t, .string vl, .slice none 0 0] by rw [hW4]; have h := ((HBM.out.set 0 (.string vp)).set 6 (.string vl)); simpa using h)
          have BZ4 := Lib.hid (show BX W4 (w.heap.size + 1) 42 #[.string ⟨#[]⟩, .int .i64 0, .int .i64 0, .int .i64 0, .int .i64 0, .int .i64 0, .string ⟨#[]⟩, .slice none 0 0] by rw [hW4]; exact (BX.other (BX.other (BOX.out _ HBC.out).2.1 HNE.out (j := 0) (.string vp)) HNE.out (j := 6) (.string vl)))
          have HW4 := Lib.hid (show Below w.heap.size w W4 by rw [hW4]; exact (Below.setCell (Below.setCell HBQ.out (p := ⟨gb, 0, none⟩) HGW.out (.string vp)) (p := ⟨gb, 6, none⟩) HGW.out (.string vl)))
          rw [← hW4]
          clear hW4 CF1 CF2 g0 g1 g2 g3 g4 g5 g6 g7 fg0 fg6 fg7 HBM HBC HBQ BOX
          have g0 : W4.cell? ⟨gb, 0, none⟩ = some (.string vp) := (BM4.out).cell rfl; have g1 : W4.cell? ⟨gb, 1, none⟩ = some (.int .i64 4) := (BM4.out).cell rfl; have g2 : W4.cell? ⟨gb, 2, none⟩ = some (.int .i64 m) := (BM4.out).cell rfl; have g3 : W4.cell? ⟨gb, 3, none⟩ = some (.int .i64 u) := (BM4.out).cell rfl; have g4 : W4.cell? ⟨gb, 4, none⟩ = some (.int .i64 g) := (BM4.out).cell rfl; have g5 : W4.cell? ⟨gb, 5, none⟩ = some (.int .i64 t) := (BM4.out).cell rfl; have g6 : W4.cell? ⟨gb, 6, none⟩ = some (.string vl) := (BM4.out).cell rfl; have g7 : W4.cell? ⟨gb, 7, none⟩ = some (.slice none 0 0) := (BM4.out).cell rfl
          have fg6 := BM4.out.free 6
          have fg7 := BM4.out.free 7
          have BS2 := Lib.hid (BM4.out.set 6 (.string ⟨#[]⟩))
          have BZ2 := Lib.hid (BX.other BZ4.out HNE.out (j := 6) (.string ⟨#[]⟩))
          have HW2 := Lib.hid (Below.setCell HW4.out (p := ⟨gb, 6, none⟩) HGW.out (.string ⟨#[]⟩))
          go_wp2_with (first
            | (go_at_call 38; (with_reducible refine (CMY.out _).mono ?_); rintro e w3 ⟨rfl, hb3⟩; have BM3 : BX w3 gb 42 #[.string vp, .int .i64 4, .int .i64 m, .int .i64 u, .int .i64 g, .int .i64 t, .string ⟨#[]⟩, .slice none 0 0] := (by have h := BS2.out.later hb3; simpa using h); have BZ3 := BZ2.out.later hb3; have HW3 := Lib.hid (HW2.out.trans (hb3.mono HW2.out.size)); have r0 : w3.cell? ⟨gb, 0, none⟩ = some (.string vp) := (BM3).cell rfl; have r1 : w3.cell? ⟨gb, 1, none⟩ = some (.int .i64 4) := (BM3).cell rfl; have r2 : w3.cell? ⟨gb, 2, none⟩ = some (.int .i64 m) := (BM3).cell rfl; have r3 : w3.cell? ⟨gb, 3, none⟩ = some (.int .i64 u) := (BM3).cell rfl; have r4 : w3.cell? ⟨gb, 4, none⟩ = some (.int .i64 g) := (BM3).cell rfl; have r5 : w3.cell? ⟨gb, 5, none⟩ = some (.int .i64 t) := (BM3).cell rfl; have r6 : w3.cell? ⟨gb, 6, none⟩ = some (.string ⟨#[]⟩) := (BM3).cell rfl; have r7 : w3.cell? ⟨gb, 7, none⟩ = some (.slice none 0 0) := (BM3).cell rfl; have s0 : w3.cell? ⟨(w.heap.size + 1), 0, none⟩ = some (.string ⟨#[]⟩) := (BZ3).cell rfl; have s1 : w3.cell? ⟨(w.heap.size + 1), 1, none⟩ = some (.int .i64 0) := (BZ3).cell rfl; have s2 : w3.cell? ⟨(w.heap.size + 1), 2, none⟩ = some (.int .i64 0) := (BZ3).cell rfl; have s3 : w3.cell? ⟨(w.heap.size + 1), 3, none⟩ = some (.int .i64 0) := (BZ3).cell rfl; have s4 : w3.cell? ⟨(w.heap.size + 1), 4, none⟩ = some (.int .i64 0) := (BZ3).cell rfl; have s5 : w3.cell? ⟨(w.heap.size + 1), 5, none⟩ = some (.int .i64 0) := (BZ3).cell rfl; have s6 : w3.cell? ⟨(w.heap.size + 1), 6, none⟩ = some (.string ⟨#[]⟩) := (BZ3).cell rfl; have s7 : w3.cell? ⟨(w.heap.size + 1), 7, none⟩ = some (.slice none 0 0) := (BZ3).cell rfl; have v0 := (BZ3).free 0; have v1 := (BZ3).free 1; have v2 := (BZ3).free 2; have v3 := (BZ3).free 3; have v4 := (BZ3).free 4; have v5 := (BZ3).free 5; have v6 := (BZ3).free 6; have v7 := (BZ3).free 7; clear BM3 BZ3 hb3))
          refine bodyPost_ret (v := .tuple #[.agg #[.string vp, .int .i64 4, .int .i64 m, .int .i64 u, .int .i64 g, .int .i64 t, .string ⟨#[]⟩, .slice none 0 0], .int .i64 0]) (by simp [results, Tryz.f10, go_sem, *]) rfl ⟨by rw [RX.out]; rfl, ?_⟩
          exact ((((((((HW3.out).setCell (by simp) _).setCell (by simp) _).setCell (by simp) _).setCell (by simp) _).setCell (by simp) _).setCell (by simp) _).setCell (by simp) _).setCell (by simp) _
        · have cf1 := fun W hW => find_some hfp (CFP.out W hW)
          rw [show Mb.kPath = ⟨#[112, 97, 116, 104]⟩ from rfl] at cf1
          have CF1 := Lib.hid cf1
          have cf2 := fun W hW => find_some hfl (CFL.out W hW)
          rw [show Mb.kLink = ⟨#[108, 105, 110, 107, 112, 97, 116, 104]⟩ from rfl] at cf2
          have CF2 := Lib.hid cf2
          clear cf1 cf2
          have RX := Lib.hid (RBD.out vp ⟨#[]⟩ (EP.out.trans (told_some8 hfp)) EL.out hE)
          have hvp := FS.out _ _ hfp
          have hvl := FS.out _ _ hfl
          have cmy := fun W => refmmay_any vp ⟨#[]⟩ 4 m u g t none 0 0 W (by omega) (by decide) (by omega)
          generalize Mb.may vp ⟨#[]⟩ 4 m u g t 0 = E at cmy RX hE
          have hE1 : (E == 0) = false := by simp [hE]
          have hE2 : (E != 0) = true := by simp [hE]
          have CMY := Lib.hid cmy
          clear cmy hE hfp hfl CFP CFL ROK RBD EP EL EX
          go_upto_region 10 with (first
            | (go_at_call 37; (with_reducible refine (CF1.out _ HBQ.out).mono ?_); rintro e w2 ⟨rfl, rfl⟩)
            | (go_at_call 37; (with_reducible refine (CF2.out _ (Below.setCell HBQ.out (p := ⟨gb, 0, none⟩) HGW.out (.string vp))).mono ?_); rintro e w2 ⟨rfl, rfl⟩))
          obtain ⟨W4, hW4⟩ : ∃ W4, W4 = ((wc.setCell ⟨gb, 0, none⟩ (.string vp)).setCell ⟨gb, 6, none⟩ (.string vl)) := ⟨_, rfl⟩
          have BM4 := Lib.hid (show BX W4 gb 42 #[.string vp, .int .i64 4, .int .i64 m, .int .i64 u, .int .i64 g, .int .i64 t, .string vl, .slice none 0 0] by rw [hW4]; have h := ((HBM.out.set 0 (.string vp)).set 6 (.string vl)); simpa using h)
          have BZ4 := Lib.hid (show BX W4 (w.heap.size + 1) 42 #[.string ⟨#[]⟩, .int .i64 0, .int .i64 0, .int .i64 0, .int .i64 0, .int .i64 0, .string ⟨#[]⟩, .slice none 0 0] by rw [hW4]; exact (BX.other (BX.other (BOX.out _ HBC.out).2.1 HNE.out (j := 0) (.string vp)) HNE.out (j := 6) (.string vl)))
          have HW4 := Lib.hid (show Below w.heap.size w W4 by rw [hW4]; exact (Below.setCell (Below.setCell HBQ.out (p := ⟨gb, 0, none⟩) HGW.out (.string vp)) (p := ⟨gb, 6, none⟩) HGW.out (.string vl)))
          rw [← hW4]
          clear hW4 CF1 CF2 g0 g1 g2 g3 g4 g5 g6 g7 fg0 fg6 fg7 HBM HBC HBQ BOX
          have g0 : W4.cell? ⟨gb, 0, none⟩ = some (.string vp) := (BM4.out).cell rfl; have g1 : W4.cell? ⟨gb, 1, none⟩ = some (.int .i64 4) := (BM4.out).cell rfl; have g2 : W4.cell? ⟨gb, 2, none⟩ = some (.int .i64 m) := (BM4.out).cell rfl; have g3 : W4.cell? ⟨gb, 3, none⟩ = some (.int .i64 u) := (BM4.out).cell rfl; have g4 : W4.cell? ⟨gb, 4, none⟩ = some (.int .i64 g) := (BM4.out).cell rfl; have g5 : W4.cell? ⟨gb, 5, none⟩ = some (.int .i64 t) := (BM4.out).cell rfl; have g6 : W4.cell? ⟨gb, 6, none⟩ = some (.string vl) := (BM4.out).cell rfl; have g7 : W4.cell? ⟨gb, 7, none⟩ = some (.slice none 0 0) := (BM4.out).cell rfl
          have fg6 := BM4.out.free 6
          have fg7 := BM4.out.free 7
          have BS2 := Lib.hid (BM4.out.set 6 (.string ⟨#[]⟩))
          have BZ2 := Lib.hid (BX.other BZ4.out HNE.out (j := 6) (.string ⟨#[]⟩))
          have HW2 := Lib.hid (Below.setCell HW4.out (p := ⟨gb, 6, none⟩) HGW.out (.string ⟨#[]⟩))
          go_wp2_with (first
            | (go_at_call 38; (with_reducible refine (CMY.out _).mono ?_); rintro e w3 ⟨rfl, hb3⟩; have BM3 : BX w3 gb 42 #[.string vp, .int .i64 4, .int .i64 m, .int .i64 u, .int .i64 g, .int .i64 t, .string ⟨#[]⟩, .slice none 0 0] := (by have h := BS2.out.later hb3; simpa using h); have BZ3 := BZ2.out.later hb3; have HW3 := Lib.hid (HW2.out.trans (hb3.mono HW2.out.size)); skip; have s0 : w3.cell? ⟨(w.heap.size + 1), 0, none⟩ = some (.string ⟨#[]⟩) := (BZ3).cell rfl; have s1 : w3.cell? ⟨(w.heap.size + 1), 1, none⟩ = some (.int .i64 0) := (BZ3).cell rfl; have s2 : w3.cell? ⟨(w.heap.size + 1), 2, none⟩ = some (.int .i64 0) := (BZ3).cell rfl; have s3 : w3.cell? ⟨(w.heap.size + 1), 3, none⟩ = some (.int .i64 0) := (BZ3).cell rfl; have s4 : w3.cell? ⟨(w.heap.size + 1), 4, none⟩ = some (.int .i64 0) := (BZ3).cell rfl; have s5 : w3.cell? ⟨(w.heap.size + 1), 5, none⟩ = some (.int .i64 0) := (BZ3).cell rfl; have s6 : w3.cell? ⟨(w.heap.size + 1), 6, none⟩ = some (.string ⟨#[]⟩) := (BZ3).cell rfl; have s7 : w3.cell? ⟨(w.heap.size + 1), 7, none⟩ = some (.slice none 0 0) := (BZ3).cell rfl; have v0 := (BZ3).free 0; have v1 := (BZ3).free 1; have v2 := (BZ3).free 2; have v3 := (BZ3).free 3; have v4 := (BZ3).free 4; have v5 := (BZ3).free 5; have v6 := (BZ3).free 6; have v7 := (BZ3).free 7; clear BM3 BZ3 hb3))
          refine bodyPost_ret (v := .tuple #[.agg #[.string ⟨#[]⟩, .int .i64 0, .int .i64 0, .int .i64 0, .int .i64 0, .int .i64 0, .string ⟨#[]⟩, .slice none 0 0], .int .i64 E]) (by simp [results, Tryz.f10, go_sem, *]) rfl ⟨by rw [RX.out], ?_⟩
          exact ((((((((HW3.out).setCell (by simp) _).setCell (by simp) _).setCell (by simp) _).setCell (by simp) _).setCell (by simp) _).setCell (by simp) _).setCell (by simp) _).setCell (by simp) _
end Go.Proofs.YtjhigkkkfkahdaaGreatDoor
