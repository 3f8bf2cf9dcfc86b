/- WALKS OF LAYER 8, SEVENTH PART: a member's bytes, the code's. -/
import Derived.Test.YtjhigkkkfkahdaaGreatDoorE8f
import Derived.Deep.RegionHeld3
namespace Go.Proofs.YtjhigkkkfkahdaaGreatDoor
open Go Go.RowKit
set_option maxHeartbeats 1600000
set_option maxRecDepth 100000
set_option linter.unusedVariables false
theorem below_undr {B : Nat} {w w' : World} (h : Below B w.drew w') : Below B w w' := ⟨h.os, h.tape, h.output, h.size, h.block⟩
theorem mlay_any (p l : ByteArray) (k m u g t : Int) (A : Option Addr) (n c : Nat) (q : Nat) (xs : List Int) (w : World) (tb : Tab w) (ha : RB w w.heap.size A n xs) (hp : p.size ≤ 1000) (hl : l.size ≤ 1000) (hn : n ≤ 100000) (hq : Sf.IsCut p q) :
    Calls Tryz.prog 14 #[.agg #[.string p, .int .i64 k, .int .i64 m, .int .i64 u, .int .i64 g, .int .i64 t, .string l, .slice A n c]] w fun e w' => ∃ v, e = .returned (.tuple #[v, .int .i64 (Mb.may p l k m u g t n)]) ∧ OB w' w.heap.size 5 v (Mb.layM p l q k m u g t xs) ∧ Below w.heap.size w w' := by
  obtain ⟨i0, hi, hz0, hz1, hz2⟩ := info_parts info_u8
  have hxl := ha.1
  have cm := fun W => mmay_any p l k m u g t A n c W (by omega) (by omega) (by omega)
  by_cases hE : Mb.may p l k m u g t n = 0
  · have hE1 := hE
    rw [← hxl] at hE1
    obtain ⟨f1, f2, f3, f4, f5⟩ := Mb.may_zero hE1
    obtain ⟨m0, m1, u0, u1, g0, g1, t0, t1⟩ := Mb.num_facts f4
    obtain ⟨p1, p3, _⟩ := Mb.path_facts f1
    obtain ⟨l3, _, n4, _, _⟩ := Mb.kind_facts f2 f3 f5
    have ty := Mb.typ_bd k
    have pr := Mb.pre_facts hq
    have na := Mb.nam_facts hq
    have fi := Mb.first_size l
    have rl := Mb.recs_len p l q
    have rm := Mb.recs_mem (p := p) (l := l) (c := q)
    have re := Mb.recs_ok (p := p) (l := l) (c := q) (by omega) (by omega)
    have rs := Mb.recs_size p l q
    have ol := Mb.own_len hq hE1
    have bl := (Mb.recB_len p l q).2.1
    have lm := Mb.lay_eq8 (c := q) hE1
    have lf : Mb.lfB (Mb.pre p q) (Mb.nam p q) (Mb.first l) m u g t (Mb.typ k) xs = (Mb.ownB p l q k m u g t xs, 0) := by
      unfold Mb.lfB
      rw [if_pos (Mb.own_ok hq hE1)]
      rfl
    rw [hE] at cm ⊢
    rw [lm]
    have cr := fun W => mrecs_any p l k m u g t A n c q W (by omega) hq (by omega)
    have ch := fun W => mownhdr_any p l k m u g t A n c q W (by omega) p1 hq (by omega)
    have cl := fun W (A2 : Option Addr) (c2 : Nat) (tb : Tab W) (hr : RL W W.heap.size A2 (Mb.recsL p l q).length (Mb.recsL p l q)) => mlayrecs_any A2 _ c2 (Mb.recsL p l q) W tb hr (by omega) (fun r hr => by
      rcases rm r hr with rfl | rfl
      · exact ⟨(by decide : Mb.kPath.size ≤ 10000), (by omega : p.size ≤ 10000)⟩
      · exact ⟨(by decide : Mb.kLink.size ≤ 10000), (by omega : l.size ≤ 10000)⟩) re rs
    have cf := fun W (hb : Below w.heap.size w W) => mfilled_any (Mb.pre p q) (Mb.nam p q) (Mb.first l) m u g t 0 (Mb.typ k) A n c xs W ((ha.below hb).more hb.size) hn (by omega) (by omega) (by omega) ty.1 ty.2 (by omega) (by omega) (by omega) (by omega) (by omega) (by omega) (by omega) (by omega)
    rw [lf] at cf
    have hol : (Mb.ownB p l q k m u g t xs).length ≤ 101000 := by omega
    clear ol lf lm re rs rm rl pr na fi ty f1 f2 f3 f4 f5 hE1 hE
    generalize Mb.ownB p l q k m u g t xs = O at *
    generalize Mb.recB (Mb.recsL p l q) = R at *
    generalize Mb.recsL p l q = L at *
    generalize Mb.pre p q = P at *
    generalize Mb.nam p q = N at *
    generalize Mb.first l = F at *
    generalize Mb.typ k = ty at *
    have CM := Lib.hid cm; have CR := Lib.hid cr; have CH := Lib.hid ch; have CL := Lib.hid cl; have CF := Lib.hid cf; have HOL := Lib.hid hol; have HBL := Lib.hid bl; have TB := Lib.hid tb
    clear cm cr ch cl cf hol bl tb m0 m1 u0 u1 g0 g1 t0 t1 p1 p3 l3 n4 hxl
    go_enter Tryz.func14, Tryz.ntmps14
    go_upto_region 7 with (first
      | (go_at_call 34; (with_reducible refine (CM.out _).mono ?_); rintro e w1 ⟨rfl, hb1⟩; have HA1 := Lib.hid hb1; have q0 : w1.cell? ⟨w.heap.size, 0, none⟩ = some (.string p) := (mbBox hb1).cell rfl; have q1 : w1.cell? ⟨w.heap.size, 1, none⟩ = some (.int .i64 k) := (mbBox hb1).cell rfl; have q2 : w1.cell? ⟨w.heap.size, 2, none⟩ = some (.int .i64 m) := (mbBox hb1).cell rfl; have q3 : w1.cell? ⟨w.heap.size, 3, none⟩ = some (.int .i64 u) := (mbBox hb1).cell rfl; have q4 : w1.cell? ⟨w.heap.size, 4, none⟩ = some (.int .i64 g) := (mbBox hb1).cell rfl; have q5 : w1.cell? ⟨w.heap.size, 5, none⟩ = some (.int .i64 t) := (mbBox hb1).cell rfl; have q6 : w1.cell? ⟨w.heap.size, 6, none⟩ = some (.string l) := (mbBox hb1).cell rfl; have q7 : w1.cell? ⟨w.heap.size, 7, none⟩ = some (.slice A n c) := (mbBox hb1).cell rfl; clear hb1)
      | (go_at_call 15; (with_reducible refine (CR.out _).mono ?_); rintro e w2 ⟨v2, rfl, ho2, hb2⟩; have HA2 := Lib.hid (HA1.out.trans (hb2.mono HA1.out.size)); obtain ⟨A2, c2, rfl, hr2, _, _⟩ := RO.rlv ho2; have HR2 := Lib.hid hr2; clear ho2 hb2 hr2)
      | (go_at_call 40; (with_reducible refine (CL.out _ _ _ (TB.out.on (mb_below HA2.out)) HR2.out).mono ?_); rintro e w3 ⟨v3, rfl, ho3, hb3⟩; have HA3 := Lib.hid (HA2.out.trans (hb3.mono HA2.out.size)); have HO3 := Lib.hid (OB.base ho3 (show w.heap.size + 1 ≤ _ by have := HA2.out.size; simpa using this)); clear ho3 hb3))
    have alls : ∀ W, Below w3.heap.size w3 W → W.cell? ⟨w.heap.size, 0, none⟩ = some (.string p) ∧ W.cell? ⟨w.heap.size, 1, none⟩ = some (.int .i64 k) ∧ W.cell? ⟨w.heap.size, 2, none⟩ = some (.int .i64 m) ∧ W.cell? ⟨w.heap.size, 3, none⟩ = some (.int .i64 u) ∧ W.cell? ⟨w.heap.size, 4, none⟩ = some (.int .i64 g) ∧ W.cell? ⟨w.heap.size, 5, none⟩ = some (.int .i64 t) ∧ W.cell? ⟨w.heap.size, 6, none⟩ = some (.string l) ∧ W.cell? ⟨w.heap.size, 7, none⟩ = some (.slice A n c) := fun W hW => by
      have b := mbBox (HA3.out.trans (hW.mono HA3.out.size))
      exact ⟨b.cell rfl, b.cell rfl, b.cell rfl, b.cell rfl, b.cell rfl, b.cell rfl, b.cell rfl, b.cell rfl⟩
    have hacc : Below w3.heap.size w3 w3.drew := below_drewN (Below.refl _ _) 1
    have ALLS := Lib.hid alls
    clear alls q0 q1 q2 q3 q4 q5 q6 q7
    obtain ⟨y0, y1, y2, y3, y4, y5, y6, y7⟩ := ALLS.out _ hacc
    go_region_held3 (fun w' => w'.cell? ⟨w.heap.size, 0, none⟩ = some (.string p) ∧ w'.cell? ⟨w.heap.size, 1, none⟩ = some (.int .i64 k) ∧ w'.cell? ⟨w.heap.size, 2, none⟩ = some (.int .i64 m) ∧ w'.cell? ⟨w.heap.size, 3, none⟩ = some (.int .i64 u) ∧ w'.cell? ⟨w.heap.size, 4, none⟩ = some (.int .i64 g) ∧ w'.cell? ⟨w.heap.size, 5, none⟩ = some (.int .i64 t) ∧ w'.cell? ⟨w.heap.size, 6, none⟩ = some (.string l) ∧ w'.cell? ⟨w.heap.size, 7, none⟩ = some (.slice A n c)) (first | go_keep | (exact ALLS.out _ hacc)) (first
      | (go_at_call 42; (with_reducible refine (CH.out _).mono ?_); rintro e w4 ⟨rfl, hb4⟩; replace hacc := bthen hacc hb4)
      | (go_at_call 41; (with_reducible refine (CF.out _ (mb_below (HA3.out.trans (hacc.mono HA3.out.size)))).mono ?_); rintro e w5 ⟨v5, rfl, ho5, hb5⟩; have HO5 := Lib.hid ho5; replace hacc := bthen hacc hb5))
    have HB5 := Lib.hid (HA3.out.trans (hacc.mono HA3.out.size))
    have HO3' := Lib.hid (OBn.later (OB.obn HO3.out) hacc)
    have SZ5 := Lib.hid (show w.heap.size + 1 ≤ w5.heap.size by have := HB5.out.size; simpa using this)
    obtain ⟨A5, c5, rfl, hr5, _, _⟩ := ho5.rb
    have HR5 := Lib.hid hr5
    clear hb4 ho5 hb5 HO5 hacc hr5 y0 y1 y2 y3 y4 y5 y6 y7
    go_wp2_with (at_builtin; obtain ⟨v6, w6, hrun, hown, hgrow⟩ := run_append_rb (P := Tryz.prog) (w.heap.size + 1) w5.heap.size 27 27 5 i0 Tryz.underlying27 hi hz0 hz1 hz2 v3 R.length R HO3'.out A5 O.length c5 O HR5.out (by have := HOL.out; have := HBL.out; omega) SZ5.out; have HO6 := Lib.hid hown; have HB6 := Lib.hid (below_app6 HB5.out (by simp) (by have h := HO3'.out; unfold OBn at h; simpa using h) hgrow); refine Lib.wpList_append_run _ rfl _ _ 27 27 rfl _ _ rfl rfl _ _ hrun ?_; clear hrun hown hgrow)
    go_ret2
    exact ⟨_, rfl, OB.base HO6.out.ob (by omega), mb_below HB6.out⟩
  · have hE1 : Mb.may p l k m u g t xs.length ≠ 0 := by rw [hxl]; exact hE
    rw [Mb.lay_bad hE1]
    generalize Mb.may p l k m u g t n = E at *
    have CM := Lib.hid cm
    have hE' : (E == 0) = false := by simp [hE]
    have hE2 : (E != 0) = true := by simp [hE]
    clear hE hE1 cm tb
    go_enter Tryz.func14, Tryz.ntmps14
    go_wp2_with (go_at_call 34; (with_reducible refine (CM.out _).mono ?_); rintro e w1 ⟨rfl, hb1⟩)
    go_ret2
    exact ⟨_, rfl, OB.nil _ _ _, mb_below hb1⟩
end Go.Proofs.YtjhigkkkfkahdaaGreatDoor
