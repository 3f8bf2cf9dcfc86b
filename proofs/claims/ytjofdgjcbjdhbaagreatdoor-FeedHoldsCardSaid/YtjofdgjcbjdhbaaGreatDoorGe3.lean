/- WALKS OF LAYER 8, SIXTH PART: a header's and its bytes' blocks; the records' blocks. -/
import Derived.Test.YtjofdgjcbjdhbaaGreatDoorGe1
import Derived.Test.YtjofdgjcbjdhbaaGreatDoorGh1
import Derived.Test.YtjofdgjcbjdhbaaGreatDoorGb7
import Derived.Test.YtjofdgjcbjdhbaaGreatDoorGm5
import Derived.StillTailTactics
import Derived.Deep.RegionHeld3
import Derived.Deep.DeepCutAuto
namespace Go.Proofs.YtjofdgjcbjdhbaaGreatDoor
open Go Go.RowKit
set_option maxHeartbeats 1600000
set_option maxRecDepth 100000
set_option linter.unusedVariables false
namespace Mb
theorem fill_eq (xs : List Int) : Bk.fill xs = fill xs := by
  unfold Bk.fill fill
  congr 2
  by_cases h : xs.length = 0
  · rw [h]; rfl
  · by_cases k : xs.length % 512 = 0
    · rw [if_pos k, Bk.pad_whole (by omega) (by omega)]; rfl
    · rw [if_neg k, Bk.pad_more (by omega) (by omega)]; omega
/-- The blocks of a header, whose size is told by the bytes, and of these. -/
def lfB (p nm l : ByteArray) (m u g t k : Int) (xs : List Int) : List Int × Int :=
  if (Hh.layC p nm l m u g t (xs.length : Int) k).2 = 0 then ((Hh.layC p nm l m u g t (xs.length : Int) k).1 ++ fill xs, 0) else ([], (Hh.layC p nm l m u g t (xs.length : Int) k).2)
end Mb
theorem quiet_r {P : Program} {f : FuncId} {args : Array Value} {w : World} {v : Value} (h : Calls P f args w fun e w' => e = .returned v ∧ w = w') : Calls P f args w fun e w' => e = .returned v ∧ w' = w := h.mono fun _ _ ⟨a, b⟩ => ⟨a, b.symm⟩
theorem mfilled_any (p nm l : ByteArray) (m u g t z k : Int) (A : Option Addr) (n c : Nat) (xs : List Int) (w : World) (ha : RB w w.heap.size A n xs) (hn : n ≤ 100000) (hp : p.size ≤ 1000000) (hnm : nm.size ≤ 1000000) (hl : l.size ≤ 1000000) (hk0 : 0 ≤ k) (hk1 : k ≤ 255)
    (m0 : -9223372036854775808 ≤ m) (m1 : m ≤ 9223372036854775807) (u0 : -9223372036854775808 ≤ u) (u1 : u ≤ 9223372036854775807) (g0 : -9223372036854775808 ≤ g) (g1 : g ≤ 9223372036854775807)
    (t0 : -9223372036854775808 ≤ t) (t1 : t ≤ 9223372036854775807) :
    Calls Tryz.prog 56 #[.agg #[.string p, .string nm, .int .i64 m, .int .i64 u, .int .i64 g, .int .i64 t, .int .i64 z, .int .u8 k, .string l], .slice A n c] w fun e w' => ∃ v, e = .returned (.tuple #[v, .int .i64 (Mb.lfB p nm l m u g t k xs).2]) ∧ OB w' w.heap.size 5 v (Mb.lfB p nm l m u g t k xs).1 ∧ Below w.heap.size w w' := by
  obtain ⟨i0, hi, hz0, hz1, hz2⟩ := info_parts info_u8
  have hxl := ha.1
  have cl := fun W => hlay_any p nm l m u g t (n : Int) k W hp hnm hl hk0 hk1 m0 m1 u0 u1 g0 g1 t0 t1 (by omega) (by omega)
  have bk := Hh.back p nm l m u g t (n : Int) k m0 m1 u0 u1 g0 g1 t0 t1 (by omega) (by omega)
  have lf : Mb.lfB p nm l m u g t k xs = if (Hh.layC p nm l m u g t (n : Int) k).2 = 0 then ((Hh.layC p nm l m u g t (n : Int) k).1 ++ Mb.fill xs, 0) else ([], (Hh.layC p nm l m u g t (n : Int) k).2) := by unfold Mb.lfB; rw [hxl]
  have HFL := Lib.hid (Mb.fill_len xs)
  rw [hxl] at HFL
  have cf := fun W (hb : Below w.heap.size w W) => fill_any A n c xs W ((ha.below hb).more hb.size) (by omega)
  rw [Mb.fill_eq] at cf
  obtain ⟨⟨Y, E⟩, hY⟩ : ∃ P, Hh.layC p nm l m u g t (n : Int) k = P := ⟨_, rfl⟩
  rw [hY] at cl bk lf
  simp only at cl bk lf
  rw [lf]
  have CL := Lib.hid cl; have CF := Lib.hid cf
  clear cl cf lf hY hxl
  by_cases hE : E = 0
  · subst hE
    rw [if_pos rfl]
    obtain ⟨_, _, hlen, _, _⟩ := bk rfl
    have HL := Lib.hid hlen
    clear bk hlen
    generalize Mb.fill xs = F at *
    go_enter Tryz.func56, Tryz.ntmps56
    go_wp2_with (first
      | (go_at_call 85; (with_reducible refine (CL.out _).mono ?_); rintro e w1 ⟨v1, rfl, ho1, hb1⟩; have HB1 := Lib.hid (mb_below hb1); have HO1 := Lib.hid (OB.base ho1 (show w.heap.size ≤ _ by simp)); clear ho1 hb1)
      | (go_at_call 86; (with_reducible refine (CF.out _ HB1.out).mono ?_); rintro e w2 ⟨v2, rfl, ho2, hb2⟩; have HB2 := Lib.hid (bthen HB1.out hb2); have HO2 := Lib.hid (show OBn w2 w.heap.size 5 v1 512 Y by have h := OBn.later (OB.obn HO1.out) hb2; rwa [HL.out] at h); obtain ⟨A2, c2, rfl, hr2, _, _⟩ := ho2.rb; have HR2 := Lib.hid hr2; clear ho2 hb2 hr2)
      | (at_builtin; obtain ⟨v3, w3, hrun, hown, hgrow⟩ := run_append_rb (P := Tryz.prog) w.heap.size w2.heap.size 25 25 5 i0 Tryz.underlying25 hi hz0 hz1 hz2 v1 512 Y HO2.out A2 F.length c2 F HR2.out (by have := HFL.out; omega) HB2.out.size; have HO3 := Lib.hid hown; have HB3 := Lib.hid (below_app6 HB2.out (Nat.le_refl _) HO2.out hgrow); refine Lib.wpList_append_run _ rfl _ _ 25 25 rfl _ _ rfl rfl _ _ hrun ?_; clear hrun hown hgrow))
    go_ret2
    exact ⟨_, rfl, HO3.out.ob, HB3.out⟩
  · rw [if_neg hE]
    have hE' : (E == 0) = false := by simp [hE]
    have hE2 : (E != 0) = true := by simp [hE]
    clear hE bk
    go_enter Tryz.func56, Tryz.ntmps56
    go_wp2_with (first
      | (go_at_call 85; (with_reducible refine (CL.out _).mono ?_); rintro e w1 ⟨v1, rfl, ho1, hb1⟩; have HB1 := Lib.hid (mb_below hb1); clear ho1 hb1))
    go_ret2
    exact ⟨_, rfl, OB.nil _ _ _, HB1.out⟩
theorem mlayrecs_any (A : Option Addr) (n c : Nat) (rs : List Rc.Rec) (w : World) (tb : Tab w) (hl : RL w w.heap.size A n rs) (hn : n ≤ 1000) (hs : ∀ r ∈ rs, r.1.size ≤ 10000 ∧ r.2.size ≤ 10000) (hE : Rc.layE rs = 0) (hL : (Rc.layB rs).length ≤ 5000) :
    Calls Tryz.prog 54 #[.slice A n c] w fun e w' => ∃ v, e = .returned (.tuple #[v, .int .i64 0]) ∧ OB w' w.heap.size 5 v (Mb.recB rs) ∧ Below w.heap.size w w' := by
  have hll := hl.1
  by_cases h0 : n = 0
  · subst h0
    obtain rfl : rs = [] := List.eq_nil_of_length_eq_zero hll
    clear hl hs hE hL hll
    go_enter Tryz.func54, Tryz.ntmps54
    go_wp2
    go_ret2
    exact ⟨_, rfl, OB.nil _ _ _, Below.refl _ _⟩
  · have g0 : ¬ (n : Int) = 0 := by omega
    have g1 : ((n : Int) == 0) = false := by simp; omega
    have hrs : rs ≠ [] := fun h => by subst h; simp at hll; omega
    have cl := lay6_any A n c rs w tb hl (by omega) hs
    rw [hE, show (((0 : Nat) : Int)) = 0 from rfl] at cl
    have CL := Lib.hid cl
    have cf := fun (W : World) (A2 : Option Addr) (c2 : Nat) (hr : RB W W.heap.size A2 (Rc.layB rs).length (Rc.ints (Rc.layB rs))) => mfilled_any ⟨#[]⟩ Mb.kPax ⟨#[]⟩ 0 0 0 0 0 120 A2 (Rc.layB rs).length c2 (Rc.ints (Rc.layB rs)) W hr (by omega) (by decide) (by decide) (by decide) (by omega) (by omega) (by omega) (by omega) (by omega) (by omega) (by omega) (by omega) (by omega) (by omega)
    have e : Mb.lfB ⟨#[]⟩ Mb.kPax ⟨#[]⟩ 0 0 0 0 120 (Rc.ints (Rc.layB rs)) = (Mb.recB rs, 0) := by
      unfold Mb.lfB Mb.recB Mb.paxB
      rw [Rc.ints_len, if_pos (Mb.pax_ok hL), if_neg hrs]
    rw [e] at cf
    unfold Mb.kPax at cf
    generalize Mb.recB rs = R at *
    generalize Rc.layB rs = B at *
    have CF := Lib.hid cf
    clear cl cf e hl hs hE hL hll hrs h0
    go_enter Tryz.func54, Tryz.ntmps54
    go_wp2_with (first
      | (go_at_call 83; (with_reducible refine (CL.out).mono ?_); rintro e w1 ⟨u, rfl, hr, hb1⟩; obtain ⟨A1, c1, rfl, hr1, _, _⟩ := hr; have HR1 := Lib.hid hr1; have HB1 := Lib.hid hb1; clear hr1 hb1)
      | (go_at_call 56; (with_reducible refine (CF.out _ _ _ HR1.out).mono ?_); rintro e w2 ⟨v2, rfl, ho2, hb2⟩; have HO2 := Lib.hid (OB.base ho2 HB1.out.size); have HB2 := Lib.hid (bthen HB1.out hb2); clear ho2 hb2))
    go_ret2
    exact ⟨_, rfl, HO2.out, HB2.out⟩
theorem parts_val {s : ByteArray} {k : Nat} : parts s k = if Mb.fits s k = true then .tuple #[.string (Mb.pre s k), .string (Mb.nam s k), .bool true] else .tuple #[.string ⟨#[]⟩, .string ⟨#[]⟩, .bool false] := by
  unfold parts Mb.fits Mb.pre Mb.nam
  by_cases h0 : s.size = 0
  · rw [if_pos h0, if_pos h0]; rfl
  · rw [if_neg h0, if_neg h0]
    by_cases h1 : s.size ≤ 100
    · rw [if_pos h1, if_pos h1, if_pos h1, if_pos h1]; rfl
    · rw [if_neg h1, if_neg h1, if_neg h1, if_neg h1]
      by_cases h2 : k = 0
      · rw [if_pos h2, if_pos h2]; rfl
      · rw [if_neg h2, if_neg h2, if_neg h2, if_neg h2]; rfl
theorem mownhdr_any (p l : ByteArray) (k m u g t : Int) (A : Option Addr) (n c : Nat) (q : Nat) (w : World) (hp : p.size ≤ 1000000) (hp1 : 1 ≤ p.size) (hq : Sf.IsCut p q) (hl : l.size ≤ 1000000) :
    Calls Tryz.prog 57 #[.agg #[.string p, .int .i64 k, .int .i64 m, .int .i64 u, .int .i64 g, .int .i64 t, .string l, .slice A n c]] w fun e w' => e = .returned (.agg #[.string (Mb.pre p q), .string (Mb.nam p q), .int .i64 m, .int .i64 u, .int .i64 g, .int .i64 t, .int .i64 0, .int .u8 (Mb.typ k), .string (Mb.first l)]) ∧ Below w.heap.size w w' := by
  have cs := fun W => split_any p q W hp hq
  rw [parts_val] at cs
  have ct := fun W => mtype_any k W
  have cfl := fun W => mfirst_any l W hl
  have cfp := fun W => mfirst_any p W hp
  have nf := fun h => Mb.nam_first (s := p) (k := q) h hp1
  generalize Mb.typ k = ty at *
  generalize Mb.first l = fl at *
  generalize Mb.first p = fp at *
  generalize Mb.pre p q = P at *
  generalize Mb.nam p q = N at *
  have CT := Lib.hid ct; have CFL := Lib.hid cfl; have CFP := Lib.hid cfp
  clear ct cfl cfp
  cases hf : Mb.fits p q with
  | true =>
    rw [hf, if_pos rfl] at cs
    have CS := Lib.hid cs
    clear cs nf hf
    go_enter Tryz.func57, Tryz.ntmps57
    go_wp2_with (go_at_call 87; (with_reducible refine (CS.out _).mono ?_); rintro e w1 ⟨rfl, j1, rfl⟩)
    obtain ⟨W0, hW0⟩ : ∃ W0, W0 = ((w.alloc (.cells #[.string p, .int .i64 k, .int .i64 m, .int .i64 u, .int .i64 g, .int .i64 t, .string l, .slice A n c] 44)).alloc (.cells #[.string ⟨#[]⟩, .string ⟨#[]⟩, .int .i64 0, .int .i64 0, .int .i64 0, .int .i64 0, .int .i64 0, .int .u8 0, .string ⟨#[]⟩] 64)).drewN j1 := ⟨_, rfl⟩
    have HB0 := Lib.hid (show Below w.heap.size w W0 by rw [hW0]; exact below_drewN ((mb_new _ _).alloc (by simp) _) _)
    have BM := Lib.hid (show BX W0 w.heap.size 44 #[.string p, .int .i64 k, .int .i64 m, .int .i64 u, .int .i64 g, .int .i64 t, .string l, .slice A n c] by rw [hW0]; exact BX.drewN (BX.alloc (BX.new _ _ _) _) _)
    have BH := Lib.hid (show BX W0 (w.heap.size + 1) 64 #[.string ⟨#[]⟩, .string ⟨#[]⟩, .int .i64 0, .int .i64 0, .int .i64 0, .int .i64 0, .int .i64 0, .int .u8 0, .string ⟨#[]⟩] by rw [hW0]; have h := BX.new (w.alloc (.cells #[.string p, .int .i64 k, .int .i64 m, .int .i64 u, .int .i64 g, .int .i64 t, .string l, .slice A n c] 44)) 64 #[.string ⟨#[]⟩, .string ⟨#[]⟩, .int .i64 0, .int .i64 0, .int .i64 0, .int .i64 0, .int .i64 0, .int .u8 0, .string ⟨#[]⟩]; simp only [World.size_alloc] at h; exact BX.drewN h _)
    rw [← hW0]
    clear hW0
    have y0 : W0.cell? ⟨w.heap.size, 0, none⟩ = some (.string p) := (BM.out).cell rfl; have y1 : W0.cell? ⟨w.heap.size, 1, none⟩ = some (.int .i64 k) := (BM.out).cell rfl; have y2 : W0.cell? ⟨w.heap.size, 2, none⟩ = some (.int .i64 m) := (BM.out).cell rfl; have y3 : W0.cell? ⟨w.heap.size, 3, none⟩ = some (.int .i64 u) := (BM.out).cell rfl; have y4 : W0.cell? ⟨w.heap.size, 4, none⟩ = some (.int .i64 g) := (BM.out).cell rfl; have y5 : W0.cell? ⟨w.heap.size, 5, none⟩ = some (.int .i64 t) := (BM.out).cell rfl; have y6 : W0.cell? ⟨w.heap.size, 6, none⟩ = some (.string l) := (BM.out).cell rfl; have y7 : W0.cell? ⟨w.heap.size, 7, none⟩ = some (.slice A n c) := (BM.out).cell rfl
    go_still_tail 11, (by kernel_rfl)
    still_call (quiet_r (CT.out _))
    repeat still_step
    still_call (quiet_r (CFL.out _))
    repeat still_step
    refine wpStill_nil ?_
    have bh := BX.drew BH.out
    have HB1 := Lib.hid (show Below w.heap.size w W0.drew from below_drewN HB0.out 1)
    change wpList _ _ _ _ _ W0.drew
    clear y0 y1 y2 y3 y4 y5 y6 y7 BM HB0 BH
    generalize W0.drew = W1 at *
    have f0 := bh.free 0; have f1 := bh.free 1; have f2 := bh.free 2; have f3 := bh.free 3; have f4 := bh.free 4; have f5 := bh.free 5; have f6 := bh.free 6; have f7 := bh.free 7; have f8 := bh.free 8
    have z0 : W1.cell? ⟨w.heap.size + 1, 0, none⟩ = some (.string ⟨#[]⟩) := bh.cell rfl
    have z1 : W1.cell? ⟨w.heap.size + 1, 1, none⟩ = some (.string ⟨#[]⟩) := bh.cell rfl
    have z2 : W1.cell? ⟨w.heap.size + 1, 2, none⟩ = some (.int .i64 0) := bh.cell rfl
    have z3 : W1.cell? ⟨w.heap.size + 1, 3, none⟩ = some (.int .i64 0) := bh.cell rfl
    have z4 : W1.cell? ⟨w.heap.size + 1, 4, none⟩ = some (.int .i64 0) := bh.cell rfl
    have z5 : W1.cell? ⟨w.heap.size + 1, 5, none⟩ = some (.int .i64 0) := bh.cell rfl
    have z6 : W1.cell? ⟨w.heap.size + 1, 6, none⟩ = some (.int .i64 0) := bh.cell rfl
    have z7 : W1.cell? ⟨w.heap.size + 1, 7, none⟩ = some (.int .u8 0) := bh.cell rfl
    have z8 : W1.cell? ⟨w.heap.size + 1, 8, none⟩ = some (.string ⟨#[]⟩) := bh.cell rfl
    clear bh
    go_wp2
    refine bodyPost_ret (v := .agg #[.string P, .string N, .int .i64 m, .int .i64 u, .int .i64 g, .int .i64 t, .int .i64 0, .int .u8 ty, .string fl]) (by simp [results, Tryz.f57, go_sem, *]) rfl ⟨rfl, ?_⟩
    exact ((((((((HB1.out.setCell (by simp) _).setCell (by simp) _).setCell (by simp) _).setCell (by simp) _).setCell (by simp) _).setCell (by simp) _).setCell (by simp) _).setCell (by simp) _).setCell (by simp) _
  | false =>
    obtain ⟨rfl, rfl⟩ := nf hf
    rw [hf, if_neg (by decide)] at cs
    have CS := Lib.hid cs
    clear cs nf hf
    go_enter Tryz.func57, Tryz.ntmps57
    go_wp2_with (first
      | (go_at_call 87; (with_reducible refine (CS.out _).mono ?_); rintro e w1 ⟨rfl, j1, rfl⟩)
      | (go_at_call 88; (with_reducible refine (CFP.out _).mono ?_); rintro e w2 ⟨rfl, rfl⟩))
    obtain ⟨W0, hW0⟩ : ∃ W0, W0 = ((w.alloc (.cells #[.string p, .int .i64 k, .int .i64 m, .int .i64 u, .int .i64 g, .int .i64 t, .string l, .slice A n c] 44)).alloc (.cells #[.string ⟨#[]⟩, .string ⟨#[]⟩, .int .i64 0, .int .i64 0, .int .i64 0, .int .i64 0, .int .i64 0, .int .u8 0, .string ⟨#[]⟩] 64)).drewN j1 := ⟨_, rfl⟩
    have HB0 := Lib.hid (show Below w.heap.size w W0 by rw [hW0]; exact below_drewN ((mb_new _ _).alloc (by simp) _) _)
    have BM := Lib.hid (show BX W0 w.heap.size 44 #[.string p, .int .i64 k, .int .i64 m, .int .i64 u, .int .i64 g, .int .i64 t, .string l, .slice A n c] by rw [hW0]; exact BX.drewN (BX.alloc (BX.new _ _ _) _) _)
    have BH := Lib.hid (show BX W0 (w.heap.size + 1) 64 #[.string ⟨#[]⟩, .string ⟨#[]⟩, .int .i64 0, .int .i64 0, .int .i64 0, .int .i64 0, .int .i64 0, .int .u8 0, .string ⟨#[]⟩] by rw [hW0]; have h := BX.new (w.alloc (.cells #[.string p, .int .i64 k, .int .i64 m, .int .i64 u, .int .i64 g, .int .i64 t, .string l, .slice A n c] 44)) 64 #[.string ⟨#[]⟩, .string ⟨#[]⟩, .int .i64 0, .int .i64 0, .int .i64 0, .int .i64 0, .int .i64 0, .int .u8 0, .string ⟨#[]⟩]; simp only [World.size_alloc] at h; exact BX.drewN h _)
    rw [← hW0]
    clear hW0
    have y0 : W0.cell? ⟨w.heap.size, 0, none⟩ = some (.string p) := (BM.out).cell rfl; have y1 : W0.cell? ⟨w.heap.size, 1, none⟩ = some (.int .i64 k) := (BM.out).cell rfl; have y2 : W0.cell? ⟨w.heap.size, 2, none⟩ = some (.int .i64 m) := (BM.out).cell rfl; have y3 : W0.cell? ⟨w.heap.size, 3, none⟩ = some (.int .i64 u) := (BM.out).cell rfl; have y4 : W0.cell? ⟨w.heap.size, 4, none⟩ = some (.int .i64 g) := (BM.out).cell rfl; have y5 : W0.cell? ⟨w.heap.size, 5, none⟩ = some (.int .i64 t) := (BM.out).cell rfl; have y6 : W0.cell? ⟨w.heap.size, 6, none⟩ = some (.string l) := (BM.out).cell rfl; have y7 : W0.cell? ⟨w.heap.size, 7, none⟩ = some (.slice A n c) := (BM.out).cell rfl
    go_still_tail 11, (by kernel_rfl)
    still_call (quiet_r (CT.out _))
    repeat still_step
    still_call (quiet_r (CFL.out _))
    repeat still_step
    refine wpStill_nil ?_
    have bh := BX.drew BH.out
    have HB1 := Lib.hid (show Below w.heap.size w W0.drew from below_drewN HB0.out 1)
    change wpList _ _ _ _ _ W0.drew
    clear y0 y1 y2 y3 y4 y5 y6 y7 BM HB0 BH
    generalize W0.drew = W1 at *
    have f0 := bh.free 0; have f1 := bh.free 1; have f2 := bh.free 2; have f3 := bh.free 3; have f4 := bh.free 4; have f5 := bh.free 5; have f6 := bh.free 6; have f7 := bh.free 7; have f8 := bh.free 8
    have z0 : W1.cell? ⟨w.heap.size + 1, 0, none⟩ = some (.string ⟨#[]⟩) := bh.cell rfl
    have z1 : W1.cell? ⟨w.heap.size + 1, 1, none⟩ = some (.string ⟨#[]⟩) := bh.cell rfl
    have z2 : W1.cell? ⟨w.heap.size + 1, 2, none⟩ = some (.int .i64 0) := bh.cell rfl
    have z3 : W1.cell? ⟨w.heap.size + 1, 3, none⟩ = some (.int .i64 0) := bh.cell rfl
    have z4 : W1.cell? ⟨w.heap.size + 1, 4, none⟩ = some (.int .i64 0) := bh.cell rfl
    have z5 : W1.cell? ⟨w.heap.size + 1, 5, none⟩ = some (.int .i64 0) := bh.cell rfl
    have z6 : W1.cell? ⟨w.heap.size + 1, 6, none⟩ = some (.int .i64 0) := bh.cell rfl
    have z7 : W1.cell? ⟨w.heap.size + 1, 7, none⟩ = some (.int .u8 0) := bh.cell rfl
    have z8 : W1.cell? ⟨w.heap.size + 1, 8, none⟩ = some (.string ⟨#[]⟩) := bh.cell rfl
    clear bh
    go_wp2
    refine bodyPost_ret (v := .agg #[.string ⟨#[]⟩, .string N, .int .i64 m, .int .i64 u, .int .i64 g, .int .i64 t, .int .i64 0, .int .u8 ty, .string fl]) (by simp [results, Tryz.f57, go_sem, *]) rfl ⟨rfl, ?_⟩
    exact ((((((((HB1.out.setCell (by simp) _).setCell (by simp) _).setCell (by simp) _).setCell (by simp) _).setCell (by simp) _).setCell (by simp) _).setCell (by simp) _).setCell (by simp) _).setCell (by simp) _
end Go.Proofs.YtjofdgjcbjdhbaaGreatDoor
/- WALKS OF LAYER 8, SEVENTH PART: a member's bytes, the code's. -/
namespace Go.Proofs.YtjofdgjcbjdhbaaGreatDoor
open Go Go.RowKit
set_option maxHeartbeats 1600000
set_option maxRecDepth 100000
set_option linter.unusedVariables false
theorem below_undr {B : Nat} {w w' : World} (h : Below B w.drew w') : Below B w w' := ⟨h.os, h.tape, h.output, h.size, h.block⟩
theorem mlay_any (p l : ByteArray) (k m u g t : Int) (A : Option Addr) (n c : Nat) (q : Nat) (xs : List Int) (w : World) (tb : Tab w) (ha : RB w w.heap.size A n xs) (hp : p.size ≤ 1000) (hl : l.size ≤ 1000) (hn : n ≤ 100000) (hq : Sf.IsCut p q) :
    Calls Tryz.prog 33 #[.agg #[.string p, .int .i64 k, .int .i64 m, .int .i64 u, .int .i64 g, .int .i64 t, .string l, .slice A n c]] w fun e w' => ∃ v, e = .returned (.tuple #[v, .int .i64 (Mb.may p l k m u g t n)]) ∧ OB w' w.heap.size 5 v (Mb.layM p l q k m u g t xs) ∧ Below w.heap.size w w' := by
  obtain ⟨i0, hi, hz0, hz1, hz2⟩ := info_parts info_u8
  have hxl := ha.1
  have cm := fun W => mmay_any p l k m u g t A n c W (by omega) (by omega) (by omega)
  by_cases hE : Mb.may p l k m u g t n = 0
  · have hE1 := hE
    rw [← hxl] at hE1
    obtain ⟨f1, f2, f3, f4, f5⟩ := Mb.may_zero hE1
    obtain ⟨m0, m1, u0, u1, g0, g1, t0, t1⟩ := Mb.num_facts f4
    obtain ⟨p1, p3, _⟩ := Mb.path_facts f1
    obtain ⟨l3, _, n4, _, _⟩ := Mb.kind_facts f2 f3 f5
    have ty := Mb.typ_bd k
    have pr := Mb.pre_facts hq
    have na := Mb.nam_facts hq
    have fi := Mb.first_size l
    have rl := Mb.recs_len p l q
    have rm := Mb.recs_mem (p := p) (l := l) (c := q)
    have re := Mb.recs_ok (p := p) (l := l) (c := q) (by omega) (by omega)
    have rs := Mb.recs_size p l q
    have ol := Mb.own_len hq hE1
    have bl := (Mb.recB_len p l q).2.1
    have lm := Mb.lay_eq8 (c := q) hE1
    have lf : Mb.lfB (Mb.pre p q) (Mb.nam p q) (Mb.first l) m u g t (Mb.typ k) xs = (Mb.ownB p l q k m u g t xs, 0) := by
      unfold Mb.lfB
      rw [if_pos (Mb.own_ok hq hE1)]
      rfl
    rw [hE] at cm ⊢
    rw [lm]
    have cr := fun W => mrecs_any p l k m u g t A n c q W (by omega) hq (by omega)
    have ch := fun W => mownhdr_any p l k m u g t A n c q W (by omega) p1 hq (by omega)
    have cl := fun W (A2 : Option Addr) (c2 : Nat) (tb : Tab W) (hr : RL W W.heap.size A2 (Mb.recsL p l q).length (Mb.recsL p l q)) => mlayrecs_any A2 _ c2 (Mb.recsL p l q) W tb hr (by omega) (fun r hr => by
      rcases rm r hr with rfl | rfl
      · exact ⟨(by decide : Mb.kPath.size ≤ 10000), (by omega : p.size ≤ 10000)⟩
      · exact ⟨(by decide : Mb.kLink.size ≤ 10000), (by omega : l.size ≤ 10000)⟩) re rs
    have cf := fun W (hb : Below w.heap.size w W) => mfilled_any (Mb.pre p q) (Mb.nam p q) (Mb.first l) m u g t 0 (Mb.typ k) A n c xs W ((ha.below hb).more hb.size) hn (by omega) (by omega) (by omega) ty.1 ty.2 (by omega) (by omega) (by omega) (by omega) (by omega) (by omega) (by omega) (by omega)
    rw [lf] at cf
    have hol : (Mb.ownB p l q k m u g t xs).length ≤ 101000 := by omega
    clear ol lf lm re rs rm rl pr na fi ty f1 f2 f3 f4 f5 hE1 hE
    generalize Mb.ownB p l q k m u g t xs = O at *
    generalize Mb.recB (Mb.recsL p l q) = R at *
    generalize Mb.recsL p l q = L at *
    generalize Mb.pre p q = P at *
    generalize Mb.nam p q = N at *
    generalize Mb.first l = F at *
    generalize Mb.typ k = ty at *
    have CM := Lib.hid cm; have CR := Lib.hid cr; have CH := Lib.hid ch; have CL := Lib.hid cl; have CF := Lib.hid cf; have HOL := Lib.hid hol; have HBL := Lib.hid bl; have TB := Lib.hid tb
    clear cm cr ch cl cf hol bl tb m0 m1 u0 u1 g0 g1 t0 t1 p1 p3 l3 n4 hxl
    go_enter Tryz.func33, Tryz.ntmps33
    go_upto_region 7 with (first
      | (go_at_call 53; (with_reducible refine (CM.out _).mono ?_); rintro e w1 ⟨rfl, hb1⟩; have HA1 := Lib.hid hb1; have q0 : w1.cell? ⟨w.heap.size, 0, none⟩ = some (.string p) := (mbBox hb1).cell rfl; have q1 : w1.cell? ⟨w.heap.size, 1, none⟩ = some (.int .i64 k) := (mbBox hb1).cell rfl; have q2 : w1.cell? ⟨w.heap.size, 2, none⟩ = some (.int .i64 m) := (mbBox hb1).cell rfl; have q3 : w1.cell? ⟨w.heap.size, 3, none⟩ = some (.int .i64 u) := (mbBox hb1).cell rfl; have q4 : w1.cell? ⟨w.heap.size, 4, none⟩ = some (.int .i64 g) := (mbBox hb1).cell rfl; have q5 : w1.cell? ⟨w.heap.size, 5, none⟩ = some (.int .i64 t) := (mbBox hb1).cell rfl; have q6 : w1.cell? ⟨w.heap.size, 6, none⟩ = some (.string l) := (mbBox hb1).cell rfl; have q7 : w1.cell? ⟨w.heap.size, 7, none⟩ = some (.slice A n c) := (mbBox hb1).cell rfl; clear hb1)
      | (go_at_call 55; (with_reducible refine (CR.out _).mono ?_); rintro e w2 ⟨v2, rfl, ho2, hb2⟩; have HA2 := Lib.hid (HA1.out.trans (hb2.mono HA1.out.size)); obtain ⟨A2, c2, rfl, hr2, _, _⟩ := RO.rlv ho2; have HR2 := Lib.hid hr2; clear ho2 hb2 hr2)
      | (go_at_call 54; (with_reducible refine (CL.out _ _ _ (TB.out.on (mb_below HA2.out)) HR2.out).mono ?_); rintro e w3 ⟨v3, rfl, ho3, hb3⟩; have HA3 := Lib.hid (HA2.out.trans (hb3.mono HA2.out.size)); have HO3 := Lib.hid (OB.base ho3 (show w.heap.size + 1 ≤ _ by have := HA2.out.size; simpa using this)); clear ho3 hb3))
    have alls : ∀ W, Below w3.heap.size w3 W → W.cell? ⟨w.heap.size, 0, none⟩ = some (.string p) ∧ W.cell? ⟨w.heap.size, 1, none⟩ = some (.int .i64 k) ∧ W.cell? ⟨w.heap.size, 2, none⟩ = some (.int .i64 m) ∧ W.cell? ⟨w.heap.size, 3, none⟩ = some (.int .i64 u) ∧ W.cell? ⟨w.heap.size, 4, none⟩ = some (.int .i64 g) ∧ W.cell? ⟨w.heap.size, 5, none⟩ = some (.int .i64 t) ∧ W.cell? ⟨w.heap.size, 6, none⟩ = some (.string l) ∧ W.cell? ⟨w.heap.size, 7, none⟩ = some (.slice A n c) := fun W hW => by
      have b := mbBox (HA3.out.trans (hW.mono HA3.out.size))
      exact ⟨b.cell rfl, b.cell rfl, b.cell rfl, b.cell rfl, b.cell rfl, b.cell rfl, b.cell rfl, b.cell rfl⟩
    have hacc : Below w3.heap.size w3 w3.drew := below_drewN (Below.refl _ _) 1
    have ALLS := Lib.hid alls
    clear alls q0 q1 q2 q3 q4 q5 q6 q7
    obtain ⟨y0, y1, y2, y3, y4, y5, y6, y7⟩ := ALLS.out _ hacc
    go_region_held3 (fun w' => w'.cell? ⟨w.heap.size, 0, none⟩ = some (.string p) ∧ w'.cell? ⟨w.heap.size, 1, none⟩ = some (.int .i64 k) ∧ w'.cell? ⟨w.heap.size, 2, none⟩ = some (.int .i64 m) ∧ w'.cell? ⟨w.heap.size, 3, none⟩ = some (.int .i64 u) ∧ w'.cell? ⟨w.heap.size, 4, none⟩ = some (.int .i64 g) ∧ w'.cell? ⟨w.heap.size, 5, none⟩ = some (.int .i64 t) ∧ w'.cell? ⟨w.heap.size, 6, none⟩ = some (.string l) ∧ w'.cell? ⟨w.heap.size, 7, none⟩ = some (.slice A n c)) (first | go_keep | (exact ALLS.out _ hacc)) (first
      | (go_at_call 57; (with_reducible refine (CH.out _).mono ?_); rintro e w4 ⟨rfl, hb4⟩; replace hacc := bthen hacc hb4)
      | (go_at_call 56; (with_reducible refine (CF.out _ (mb_below (HA3.out.trans (hacc.mono HA3.out.size)))).mono ?_); rintro e w5 ⟨v5, rfl, ho5, hb5⟩; have HO5 := Lib.hid ho5; replace hacc := bthen hacc hb5))
    have HB5 := Lib.hid (HA3.out.trans (hacc.mono HA3.out.size))
    have HO3' := Lib.hid (OBn.later (OB.obn HO3.out) hacc)
    have SZ5 := Lib.hid (show w.heap.size + 1 ≤ w5.heap.size by have := HB5.out.size; simpa using this)
    obtain ⟨A5, c5, rfl, hr5, _, _⟩ := ho5.rb
    have HR5 := Lib.hid hr5
    clear hb4 ho5 hb5 HO5 hacc hr5 y0 y1 y2 y3 y4 y5 y6 y7
    go_wp2_with (at_builtin; obtain ⟨v6, w6, hrun, hown, hgrow⟩ := run_append_rb (P := Tryz.prog) (w.heap.size + 1) w5.heap.size 25 25 5 i0 Tryz.underlying25 hi hz0 hz1 hz2 v3 R.length R HO3'.out A5 O.length c5 O HR5.out (by have := HOL.out; have := HBL.out; omega) SZ5.out; have HO6 := Lib.hid hown; have HB6 := Lib.hid (below_app6 HB5.out (by simp) (by have h := HO3'.out; unfold OBn at h; simpa using h) hgrow); refine Lib.wpList_append_run _ rfl _ _ 25 25 rfl _ _ rfl rfl _ _ hrun ?_; clear hrun hown hgrow)
    go_ret2
    exact ⟨_, rfl, OB.base HO6.out.ob (by omega), mb_below HB6.out⟩
  · have hE1 : Mb.may p l k m u g t xs.length ≠ 0 := by rw [hxl]; exact hE
    rw [Mb.lay_bad hE1]
    generalize Mb.may p l k m u g t n = E at *
    have CM := Lib.hid cm
    have hE' : (E == 0) = false := by simp [hE]
    have hE2 : (E != 0) = true := by simp [hE]
    clear hE hE1 cm tb
    go_enter Tryz.func33, Tryz.ntmps33
    go_wp2_with (go_at_call 53; (with_reducible refine (CM.out _).mono ?_); rintro e w1 ⟨rfl, hb1⟩)
    go_ret2
    exact ⟨_, rfl, OB.nil _ _ _, mb_below hb1⟩
end Go.Proofs.YtjofdgjcbjdhbaaGreatDoor
/- WALKS OF LAYER 8, NINTH PART: how many bytes a member has; the member of a header, the code's and the reference's. -/
namespace Go.Proofs.YtjofdgjcbjdhbaaGreatDoor
open Go Go.RowKit
set_option maxHeartbeats 1600000
set_option maxRecDepth 100000
set_option linter.unusedVariables false
theorem mbLow2 {w W : World} {o : Obj} (h : Below (w.heap.size + 1) (w.alloc o) W) : Below w.heap.size w W := mb_below (by simpa using h)
theorem mbBox2 {w W : World} {T : TypeId} {cs : Array Value} (h : Below (w.heap.size + 1) (w.alloc (.cells cs T)) W) : BX W w.heap.size T cs := mb_box (by simpa using h)
end Go.Proofs.YtjofdgjcbjdhbaaGreatDoor
/- WALKS OF LAYER 8, TENTH PART: the member of a header, the code's. By gen_e8j.py. -/
namespace Go.Proofs.YtjofdgjcbjdhbaaGreatDoor
open Go Go.RowKit
set_option maxHeartbeats 64000000
set_option maxRecDepth 100000
set_option linter.unusedVariables false
namespace Mb
def rS (E : Int) (s : ByteArray) : ByteArray := if E = 0 then s else ⟨#[]⟩
def rI (E : Int) (i : Int) : Int := if E = 0 then i else 0
def rX (E : Int) (xs : List Int) : List Int := if E = 0 then xs else []
theorem rX_bad {E : Int} {xs : List Int} (h : ¬ E = 0) : rX E xs = [] := if_neg h
theorem rX_ok {E : Int} {xs : List Int} (h : E = 0) : rX E xs = xs := if_pos h
theorem told_size {rs : List Rc.Rec} {key d : ByteArray} {s : Nat} (hs : ∀ r ∈ rs, r.2.size ≤ s) (hd : d.size ≤ s) : (told8 rs key d).size ≤ s := by
  unfold told8
  cases h : Rc.findR key rs with
  | none => exact hd
  | some v =>
    show v.size ≤ s
    clear hd
    induction rs with
    | nil => simp [Rc.findR] at h
    | cons r t ih =>
      unfold Rc.findR at h
      cases h2 : Rc.findR key t with
      | none =>
        rw [h2] at h
        simp only at h
        split at h
        · cases h; exact hs r (by simp)
        · cases h
      | some v2 =>
        rw [h2] at h
        cases h
        exact ih (fun x hx => hs x (List.mem_cons_of_mem _ hx)) h2
end Mb
theorem OBn.base8 {w : World} {B B' n : Nat} {e : TypeId} {v : Value} {xs : List Int} (h : OBn w B e v n xs) (hB : B' ≤ B) : OBn w B' e v n xs := by
  have h2 := OB.base h.ob hB
  have h3 := h.len
  subst h3
  exact h2
theorem OBn.aside {w : World} {B n : Nat} {e : TypeId} {v : Value} {xs : List Int} (h : OBn w B e v n xs) {a : Nat} (ha : a < B) (j : Nat) (x : Value) : OBn (w.setCell ⟨a, j, none⟩ x) B e v n xs :=
  h.kept fun k hk => heap_setCell_other w ⟨a, j, none⟩ k x (by have := (World.ownsRow.lt h k hk).1; show k ≠ a; omega)
theorem mfrom_0 (p nm l : ByteArray) (m u g t z k : Int) (B : Option Addr) (nr cr : Nat) (rs : List Rc.Rec) (A : Option Addr) (n c : Nat) (xs : List Int) (w : World) (hr : RL w w.heap.size B nr rs) (hnr : nr ≤ 100000) (ha : RB w w.heap.size A n xs) (hn : n ≤ 100000) (hp : p.size ≤ 1000) (hnm : nm.size ≤ 1000) (hl : l.size ≤ 1000)
    (hs : ∀ r ∈ rs, r.2.size ≤ 100000) (hk : Mb.kin k = 0) :
    Calls Tryz.prog 93 #[.agg #[.string p, .string nm, .int .i64 m, .int .i64 u, .int .i64 g, .int .i64 t, .int .i64 z, .int .u8 k, .string l], .slice B nr cr, .slice A n c] w fun e w' => ∃ A' n' c', e = .returned (.tuple #[.agg #[.string ⟨#[]⟩, .int .i64 0, .int .i64 0, .int .i64 0, .int .i64 0, .int .i64 0, .string ⟨#[]⟩, .slice A' n' c'], .int .i64 11]) ∧ RB w' w'.heap.size A' n' [] ∧ n' ≤ c' ∧ c' ≤ maxLen ∧ Below w.heap.size w w' := by
  have hxl := ha.1
  have cpa := fun W => hpath_any p nm l m u g t z k W (by omega) (by omega)
  have ctp := fun W (hW : Below w.heap.size w W) d => mtold_any B nr cr rs Mb.kPath d W ((hr.below hW).more hW.size) hnr
  have ctl := fun W (hW : Below w.heap.size w W) d => mtold_any B nr cr rs Mb.kLink d W ((hr.below hW).more hW.size) hnr
  have ckk := fun W => mkind_any k W
  rw [hk] at ckk
  have ccl := fun W (hb : Below w.heap.size w W) => bclone_any A n c xs W ((ha.below hb).more hb.size) (by omega)
  have ejn : (if p.size = 0 then nm else p ++ ⟨#[47]⟩ ++ nm) = Mb.join p nm := rfl
  rw [ejn] at cpa
  clear ejn
  have hjs : (Mb.join p nm).size ≤ 2001 := by
    unfold Mb.join
    split
    · omega
    · rw [ByteArray.size_append, ByteArray.size_append]
      have : (⟨#[47]⟩ : ByteArray).size = 1 := rfl
      omega
  have hps : (Mb.fP rs p nm).size ≤ 100000 := Mb.told_size (fun r hr => by have := hs r hr; omega) (by omega)
  have hls : (Mb.told8 rs Mb.kLink l).size ≤ 100000 := Mb.told_size hs (by omega)
  have eP : Mb.told8 rs Mb.kPath (Mb.join p nm) = Mb.fP rs p nm := rfl
  have ctp2 := fun W (hW : Below w.heap.size w W) => ctp W hW (Mb.join p nm)
  have ctl2 := fun W (hW : Below w.heap.size w W) => ctl W hW l
  rw [eP] at ctp2
  unfold Mb.kPath at ctp2
  have ek : Mb.kLink = ⟨#[108, 105, 110, 107, 112, 97, 116, 104]⟩ := rfl
  generalize Mb.fP rs p nm = P at *
  generalize Mb.join p nm = J at *
  generalize Mb.told8 rs Mb.kLink l = LL at *
  rw [ek] at ctl2
  have CPA := Lib.hid cpa; have CTP := Lib.hid ctp2; have CTL := Lib.hid (fun W (hW : Below w.heap.size w W) (_ : Unit) => ctl2 W hW); have CKK := Lib.hid ckk; have CCL := Lib.hid ccl; have HXL := Lib.hid hxl
  clear cpa ctp ctl ctp2 ctl2 ckk ccl hr ha ek eP hjs hxl hk
  go_enter Tryz.func93, Tryz.ntmps93
  go_upto_region 1 with (fail)
  obtain ⟨W0, hW0⟩ : ∃ W0, W0 = ((w.alloc (.cells #[.string p, .string nm, .int .i64 m, .int .i64 u, .int .i64 g, .int .i64 t, .int .i64 z, .int .u8 k, .string l] 64)).alloc (.cells #[.string ⟨#[]⟩, .int .i64 0, .int .i64 0, .int .i64 0, .int .i64 0, .int .i64 0, .string ⟨#[]⟩, .slice none 0 0] 44)) := ⟨_, rfl⟩
  rw [← hW0]
  have SZ0 := Lib.hid (show W0.heap.size = w.heap.size + 1 + 1 by rw [hW0]; simp)
  have BOX := Lib.hid (show ∀ W, Below W0.heap.size W0 W → BX W w.heap.size 64 #[.string p, .string nm, .int .i64 m, .int .i64 u, .int .i64 g, .int .i64 t, .int .i64 z, .int .u8 k, .string l] ∧ BX W (w.heap.size + 1) 44 #[.string ⟨#[]⟩, .int .i64 0, .int .i64 0, .int .i64 0, .int .i64 0, .int .i64 0, .string ⟨#[]⟩, .slice none 0 0] ∧ Below w.heap.size w W by
    intro W hb
    have hsz := SZ0.out
    rw [hsz] at hb
    rw [hW0] at hb
    refine ⟨((BX.new w _ _).alloc _).below hb (by omega), ?_, (((Below.refl _ w).alloc (Nat.le_refl _) _).alloc (by simp) _).trans (hb.mono (by omega))⟩
    have h := (BX.new (w.alloc (.cells #[.string p, .string nm, .int .i64 m, .int .i64 u, .int .i64 g, .int .i64 t, .int .i64 z, .int .u8 k, .string l] 64)) 44 #[.string ⟨#[]⟩, .int .i64 0, .int .i64 0, .int .i64 0, .int .i64 0, .int .i64 0, .string ⟨#[]⟩, .slice none 0 0]).below (B := w.heap.size + 1 + 1) (w' := W) hb (by simp)
    simpa using h)
  clear hW0
  go_cut [8] (fun v wx => ∃ gb, v = .pointer (some ⟨gb, 0, none⟩) ∧ Hid (W0.heap.size ≤ gb) ∧ Hid (Below W0.heap.size W0 wx) ∧ Hid (BX wx gb 44 #[.string P, .int .i64 0, .int .i64 m, .int .i64 u, .int .i64 g, .int .i64 t, .string ⟨#[]⟩, .slice none 0 0]))
  case first =>
    have hacc : Below W0.heap.size W0 W0.drew := below_drewN (Below.refl _ _) 1
    have alls : ∀ W, Below W0.heap.size W0 W → W.cell? ⟨w.heap.size, 0, none⟩ = some (.string p) ∧ W.cell? ⟨w.heap.size, 1, none⟩ = some (.string nm) ∧ W.cell? ⟨w.heap.size, 2, none⟩ = some (.int .i64 m) ∧ W.cell? ⟨w.heap.size, 3, none⟩ = some (.int .i64 u) ∧ W.cell? ⟨w.heap.size, 4, none⟩ = some (.int .i64 g) ∧ W.cell? ⟨w.heap.size, 5, none⟩ = some (.int .i64 t) ∧ W.cell? ⟨w.heap.size, 6, none⟩ = some (.int .i64 z) ∧ W.cell? ⟨w.heap.size, 7, none⟩ = some (.int .u8 k) ∧ W.cell? ⟨w.heap.size, 8, none⟩ = some (.string l) := fun W hW => by
      obtain ⟨b, _, _⟩ := BOX.out W hW
      exact ⟨b.cell rfl, b.cell rfl, b.cell rfl, b.cell rfl, b.cell rfl, b.cell rfl, b.cell rfl, b.cell rfl, b.cell rfl⟩
    have ALLS := Lib.hid alls
    clear alls
    obtain ⟨y0, y1, y2, y3, y4, y5, y6, y7, y8⟩ := ALLS.out _ hacc
    obtain ⟨x0, x1, x2, x3, x4, x5, x6, x7, x8⟩ := ALLS.out _ (Below.refl W0.heap.size W0)
    have hne0 : W0.heap.size ≠ w.heap.size := by rw [SZ0.out]; omega
    go_region_held3 (fun w' => w'.cell? ⟨w.heap.size, 0, none⟩ = some (.string p) ∧ w'.cell? ⟨w.heap.size, 1, none⟩ = some (.string nm) ∧ w'.cell? ⟨w.heap.size, 2, none⟩ = some (.int .i64 m) ∧ w'.cell? ⟨w.heap.size, 3, none⟩ = some (.int .i64 u) ∧ w'.cell? ⟨w.heap.size, 4, none⟩ = some (.int .i64 g) ∧ w'.cell? ⟨w.heap.size, 5, none⟩ = some (.int .i64 t) ∧ w'.cell? ⟨w.heap.size, 6, none⟩ = some (.int .i64 z) ∧ w'.cell? ⟨w.heap.size, 7, none⟩ = some (.int .u8 k) ∧ w'.cell? ⟨w.heap.size, 8, none⟩ = some (.string l)) (first | go_keep | (exact ALLS.out _ hacc) | (exact ALLS.out _ (hacc.alloc hacc.size _))) (first
      | (go_at_call 126; (with_reducible refine (CPA.out _).mono ?_); rintro e w1 ⟨rfl, hb1⟩; (first | (replace hacc := bthen hacc hb1; have hne1 : w1.heap.size ≠ w.heap.size := (by have h1 := hacc.size; have h2 := SZ0.out; omega)) | (have bz : BX w1 W0.heap.size 44 #[.string ⟨#[]⟩, .int .i64 0, .int .i64 0, .int .i64 0, .int .i64 0, .int .i64 0, .string ⟨#[]⟩, .slice none 0 0] := (BX.drew (BX.new _ _ _)).later hb1; replace hacc := ((mb_new W0 (.cells #[.string ⟨#[]⟩, .int .i64 0, .int .i64 0, .int .i64 0, .int .i64 0, .int .i64 0, .string ⟨#[]⟩, .slice none 0 0] 44)).drew).trans (Below.mono hb1 (by simp <;> omega)); have z0 : w1.cell? ⟨W0.heap.size, 0, none⟩ = some (.string ⟨#[]⟩) := bz.cell rfl; have f0 := bz.free 0; have z1 : w1.cell? ⟨W0.heap.size, 1, none⟩ = some (.int .i64 0) := bz.cell rfl; have f1 := bz.free 1; have z2 : w1.cell? ⟨W0.heap.size, 2, none⟩ = some (.int .i64 0) := bz.cell rfl; have f2 := bz.free 2; have z3 : w1.cell? ⟨W0.heap.size, 3, none⟩ = some (.int .i64 0) := bz.cell rfl; have f3 := bz.free 3; have z4 : w1.cell? ⟨W0.heap.size, 4, none⟩ = some (.int .i64 0) := bz.cell rfl; have f4 := bz.free 4; have z5 : w1.cell? ⟨W0.heap.size, 5, none⟩ = some (.int .i64 0) := bz.cell rfl; have f5 := bz.free 5; have z6 : w1.cell? ⟨W0.heap.size, 6, none⟩ = some (.string ⟨#[]⟩) := bz.cell rfl; have f6 := bz.free 6; have z7 : w1.cell? ⟨W0.heap.size, 7, none⟩ = some (.slice none 0 0) := bz.cell rfl; have f7 := bz.free 7)))
      | (go_at_call 125; (with_reducible refine (CTP.out _ (by first | exact (BOX.out _ hacc).2.2 | exact (BOX.out _ (hacc.alloc hacc.size _)).2.2 | exact (BOX.out _ (mb_new W0 _).drew).2.2)).mono ?_); rintro e w2 ⟨rfl, rfl⟩)
      | (go_at_call 127; (with_reducible refine (CKK.out _).mono ?_); rintro e w3 ⟨rfl, rfl⟩))
    all_goals
      go_wp2
      go_meet
      first
        | exact ⟨_, rfl, hacc.size, hacc.alloc hacc.size _, BX.new _ _ _⟩
        | exact ⟨_, rfl, Nat.le_refl _, ((((((((hacc).setCell (Nat.le_refl _) _).setCell (Nat.le_refl _) _).setCell (Nat.le_refl _) _).setCell (Nat.le_refl _) _).setCell (Nat.le_refl _) _).setCell (Nat.le_refl _) _).setCell (Nat.le_refl _) _).setCell (Nat.le_refl _) _, (by have h := (((((((bz.set 0 (.string P)).set 1 (.int .i64 0)).set 2 (.int .i64 m)).set 3 (.int .i64 u)).set 4 (.int .i64 g)).set 5 (.int .i64 t)).set 6 (.string ⟨#[]⟩)).set 7 (.slice none 0 0); show BX _ _ _ _; simpa using h)⟩
  case rest =>
    obtain ⟨gb, rfl, HG, HBC, HBM⟩ := hcut
    have HNE := Lib.hid (show w.heap.size + 1 ≠ gb by have h1 := HG.out; have h2 := SZ0.out; intro h; change W0.heap.size ≤ gb at h1; omega)
    have HGW := Lib.hid (show w.heap.size ≤ gb by have h1 := HG.out; have h2 := SZ0.out; change W0.heap.size ≤ gb at h1; omega)
    have HGL := Lib.hid (show gb < wc.heap.size from HBM.out.lt)
    have HZL := Lib.hid (show w.heap.size + 1 < wc.heap.size from (BOX.out _ HBC.out).2.1.lt)
    have SZ3 := SZ0.out
    have BZ3 := (BOX.out _ HBC.out).2.1
    have HW3 := Lib.hid (BOX.out _ HBC.out).2.2
    have g1 : wc.cell? ⟨gb, 1, none⟩ = some (.int .i64 0) := HBM.out.cell rfl
    have s0 : wc.cell? ⟨(w.heap.size + 1), 0, none⟩ = some (.string ⟨#[]⟩) := (BZ3).cell rfl; have s1 : wc.cell? ⟨(w.heap.size + 1), 1, none⟩ = some (.int .i64 0) := (BZ3).cell rfl; have s2 : wc.cell? ⟨(w.heap.size + 1), 2, none⟩ = some (.int .i64 0) := (BZ3).cell rfl; have s3 : wc.cell? ⟨(w.heap.size + 1), 3, none⟩ = some (.int .i64 0) := (BZ3).cell rfl; have s4 : wc.cell? ⟨(w.heap.size + 1), 4, none⟩ = some (.int .i64 0) := (BZ3).cell rfl; have s5 : wc.cell? ⟨(w.heap.size + 1), 5, none⟩ = some (.int .i64 0) := (BZ3).cell rfl; have s6 : wc.cell? ⟨(w.heap.size + 1), 6, none⟩ = some (.string ⟨#[]⟩) := (BZ3).cell rfl; have s7 : wc.cell? ⟨(w.heap.size + 1), 7, none⟩ = some (.slice none 0 0) := (BZ3).cell rfl
    have v0 := (BZ3).free 0; have v1 := (BZ3).free 1; have v2 := (BZ3).free 2; have v3 := (BZ3).free 3; have v4 := (BZ3).free 4; have v5 := (BZ3).free 5; have v6 := (BZ3).free 6; have v7 := (BZ3).free 7
    clear BZ3 SZ3
    go_wp2
    refine bodyPost_ret (v := .tuple #[.agg #[.string ⟨#[]⟩, .int .i64 0, .int .i64 0, .int .i64 0, .int .i64 0, .int .i64 0, .string ⟨#[]⟩, .slice none 0 0], .int .i64 11]) (by simp [results, Tryz.f93, go_sem, *]) rfl ⟨none, 0, 0, rfl, RB.nil, Nat.le_refl _, Nat.zero_le _, ?_⟩
    exact ((((((((HW3.out).setCell (by simp) _).setCell (by simp) _).setCell (by simp) _).setCell (by simp) _).setCell (by simp) _).setCell (by simp) _).setCell (by simp) _).setCell (by simp) _
theorem mfrom_1 (p nm l : ByteArray) (m u g t z k : Int) (B : Option Addr) (nr cr : Nat) (rs : List Rc.Rec) (A : Option Addr) (n c : Nat) (xs : List Int) (w : World) (hr : RL w w.heap.size B nr rs) (hnr : nr ≤ 100000) (ha : RB w w.heap.size A n xs) (hn : n ≤ 100000) (hp : p.size ≤ 1000) (hnm : nm.size ≤ 1000) (hl : l.size ≤ 1000)
    (hs : ∀ r ∈ rs, r.2.size ≤ 100000) (hk : Mb.kin k = 1) (hE : Mb.may (Mb.fP rs p nm) (⟨#[]⟩) 1 m u g t n = 0) :
    Calls Tryz.prog 93 #[.agg #[.string p, .string nm, .int .i64 m, .int .i64 u, .int .i64 g, .int .i64 t, .int .i64 z, .int .u8 k, .string l], .slice B nr cr, .slice A n c] w fun e w' => ∃ A' n' c', e = .returned (.tuple #[.agg #[.string (Mb.fP rs p nm), .int .i64 1, .int .i64 m, .int .i64 u, .int .i64 g, .int .i64 t, .string (⟨#[]⟩), .slice A' n' c'], .int .i64 0]) ∧ OBn w' w.heap.size 5 (.slice A' n' c') n' xs ∧ n' ≤ c' ∧ c' ≤ maxLen ∧ Below w.heap.size w w' := by
  have hxl := ha.1
  have cpa := fun W => hpath_any p nm l m u g t z k W (by omega) (by omega)
  have ctp := fun W (hW : Below w.heap.size w W) d => mtold_any B nr cr rs Mb.kPath d W ((hr.below hW).more hW.size) hnr
  have ctl := fun W (hW : Below w.heap.size w W) d => mtold_any B nr cr rs Mb.kLink d W ((hr.below hW).more hW.size) hnr
  have ckk := fun W => mkind_any k W
  rw [hk] at ckk
  have ccl := fun W (hb : Below w.heap.size w W) => bclone_any A n c xs W ((ha.below hb).more hb.size) (by omega)
  have ejn : (if p.size = 0 then nm else p ++ ⟨#[47]⟩ ++ nm) = Mb.join p nm := rfl
  rw [ejn] at cpa
  clear ejn
  have hjs : (Mb.join p nm).size ≤ 2001 := by
    unfold Mb.join
    split
    · omega
    · rw [ByteArray.size_append, ByteArray.size_append]
      have : (⟨#[47]⟩ : ByteArray).size = 1 := rfl
      omega
  have hps : (Mb.fP rs p nm).size ≤ 100000 := Mb.told_size (fun r hr => by have := hs r hr; omega) (by omega)
  have hls : (Mb.told8 rs Mb.kLink l).size ≤ 100000 := Mb.told_size hs (by omega)
  have eP : Mb.told8 rs Mb.kPath (Mb.join p nm) = Mb.fP rs p nm := rfl
  have ctp2 := fun W (hW : Below w.heap.size w W) => ctp W hW (Mb.join p nm)
  have ctl2 := fun W (hW : Below w.heap.size w W) => ctl W hW l
  rw [eP] at ctp2
  unfold Mb.kPath at ctp2
  have ek : Mb.kLink = ⟨#[108, 105, 110, 107, 112, 97, 116, 104]⟩ := rfl
  generalize Mb.fP rs p nm = P at *
  generalize Mb.join p nm = J at *
  generalize Mb.told8 rs Mb.kLink l = LL at *
  rw [ek] at ctl2
  have CPA := Lib.hid cpa; have CTP := Lib.hid ctp2; have CTL := Lib.hid (fun W (hW : Below w.heap.size w W) (_ : Unit) => ctl2 W hW); have CKK := Lib.hid ckk; have CCL := Lib.hid ccl; have HXL := Lib.hid hxl
  have cmy := fun (A' : Option Addr) (c' : Nat) W => mmay_any P ⟨#[]⟩ 1 m u g t A' n c' W (by omega) (by decide) (by omega)
  rw [hE] at cmy
  have CMY := Lib.hid cmy
  clear cmy hE
  clear cpa ctp ctl ctp2 ctl2 ckk ccl hr ha ek eP hjs hxl hk
  go_enter Tryz.func93, Tryz.ntmps93
  go_upto_region 1 with (fail)
  obtain ⟨W0, hW0⟩ : ∃ W0, W0 = ((w.alloc (.cells #[.string p, .string nm, .int .i64 m, .int .i64 u, .int .i64 g, .int .i64 t, .int .i64 z, .int .u8 k, .string l] 64)).alloc (.cells #[.string ⟨#[]⟩, .int .i64 0, .int .i64 0, .int .i64 0, .int .i64 0, .int .i64 0, .string ⟨#[]⟩, .slice none 0 0] 44)) := ⟨_, rfl⟩
  rw [← hW0]
  have SZ0 := Lib.hid (show W0.heap.size = w.heap.size + 1 + 1 by rw [hW0]; simp)
  have BOX := Lib.hid (show ∀ W, Below W0.heap.size W0 W → BX W w.heap.size 64 #[.string p, .string nm, .int .i64 m, .int .i64 u, .int .i64 g, .int .i64 t, .int .i64 z, .int .u8 k, .string l] ∧ BX W (w.heap.size + 1) 44 #[.string ⟨#[]⟩, .int .i64 0, .int .i64 0, .int .i64 0, .int .i64 0, .int .i64 0, .string ⟨#[]⟩, .slice none 0 0] ∧ Below w.heap.size w W by
    intro W hb
    have hsz := SZ0.out
    rw [hsz] at hb
    rw [hW0] at hb
    refine ⟨((BX.new w _ _).alloc _).below hb (by omega), ?_, (((Below.refl _ w).alloc (Nat.le_refl _) _).alloc (by simp) _).trans (hb.mono (by omega))⟩
    have h := (BX.new (w.alloc (.cells #[.string p, .string nm, .int .i64 m, .int .i64 u, .int .i64 g, .int .i64 t, .int .i64 z, .int .u8 k, .string l] 64)) 44 #[.string ⟨#[]⟩, .int .i64 0, .int .i64 0, .int .i64 0, .int .i64 0, .int .i64 0, .string ⟨#[]⟩, .slice none 0 0]).below (B := w.heap.size + 1 + 1) (w' := W) hb (by simp)
    simpa using h)
  clear hW0
  go_cut [8] (fun v wx => ∃ gb, v = .pointer (some ⟨gb, 0, none⟩) ∧ Hid (W0.heap.size ≤ gb) ∧ Hid (Below W0.heap.size W0 wx) ∧ Hid (BX wx gb 44 #[.string P, .int .i64 1, .int .i64 m, .int .i64 u, .int .i64 g, .int .i64 t, .string ⟨#[]⟩, .slice none 0 0]))
  case first =>
    have hacc : Below W0.heap.size W0 W0.drew := below_drewN (Below.refl _ _) 1
    have alls : ∀ W, Below W0.heap.size W0 W → W.cell? ⟨w.heap.size, 0, none⟩ = some (.string p) ∧ W.cell? ⟨w.heap.size, 1, none⟩ = some (.string nm) ∧ W.cell? ⟨w.heap.size, 2, none⟩ = some (.int .i64 m) ∧ W.cell? ⟨w.heap.size, 3, none⟩ = some (.int .i64 u) ∧ W.cell? ⟨w.heap.size, 4, none⟩ = some (.int .i64 g) ∧ W.cell? ⟨w.heap.size, 5, none⟩ = some (.int .i64 t) ∧ W.cell? ⟨w.heap.size, 6, none⟩ = some (.int .i64 z) ∧ W.cell? ⟨w.heap.size, 7, none⟩ = some (.int .u8 k) ∧ W.cell? ⟨w.heap.size, 8, none⟩ = some (.string l) := fun W hW => by
      obtain ⟨b, _, _⟩ := BOX.out W hW
      exact ⟨b.cell rfl, b.cell rfl, b.cell rfl, b.cell rfl, b.cell rfl, b.cell rfl, b.cell rfl, b.cell rfl, b.cell rfl⟩
    have ALLS := Lib.hid alls
    clear alls
    obtain ⟨y0, y1, y2, y3, y4, y5, y6, y7, y8⟩ := ALLS.out _ hacc
    obtain ⟨x0, x1, x2, x3, x4, x5, x6, x7, x8⟩ := ALLS.out _ (Below.refl W0.heap.size W0)
    have hne0 : W0.heap.size ≠ w.heap.size := by rw [SZ0.out]; omega
    go_region_held3 (fun w' => w'.cell? ⟨w.heap.size, 0, none⟩ = some (.string p) ∧ w'.cell? ⟨w.heap.size, 1, none⟩ = some (.string nm) ∧ w'.cell? ⟨w.heap.size, 2, none⟩ = some (.int .i64 m) ∧ w'.cell? ⟨w.heap.size, 3, none⟩ = some (.int .i64 u) ∧ w'.cell? ⟨w.heap.size, 4, none⟩ = some (.int .i64 g) ∧ w'.cell? ⟨w.heap.size, 5, none⟩ = some (.int .i64 t) ∧ w'.cell? ⟨w.heap.size, 6, none⟩ = some (.int .i64 z) ∧ w'.cell? ⟨w.heap.size, 7, none⟩ = some (.int .u8 k) ∧ w'.cell? ⟨w.heap.size, 8, none⟩ = some (.string l)) (first | go_keep | (exact ALLS.out _ hacc) | (exact ALLS.out _ (hacc.alloc hacc.size _))) (first
      | (go_at_call 126; (with_reducible refine (CPA.out _).mono ?_); rintro e w1 ⟨rfl, hb1⟩; (first | (replace hacc := bthen hacc hb1; have hne1 : w1.heap.size ≠ w.heap.size := (by have h1 := hacc.size; have h2 := SZ0.out; omega)) | (have bz : BX w1 W0.heap.size 44 #[.string ⟨#[]⟩, .int .i64 0, .int .i64 0, .int .i64 0, .int .i64 0, .int .i64 0, .string ⟨#[]⟩, .slice none 0 0] := (BX.drew (BX.new _ _ _)).later hb1; replace hacc := ((mb_new W0 (.cells #[.string ⟨#[]⟩, .int .i64 0, .int .i64 0, .int .i64 0, .int .i64 0, .int .i64 0, .string ⟨#[]⟩, .slice none 0 0] 44)).drew).trans (Below.mono hb1 (by simp <;> omega)); have z0 : w1.cell? ⟨W0.heap.size, 0, none⟩ = some (.string ⟨#[]⟩) := bz.cell rfl; have f0 := bz.free 0; have z1 : w1.cell? ⟨W0.heap.size, 1, none⟩ = some (.int .i64 0) := bz.cell rfl; have f1 := bz.free 1; have z2 : w1.cell? ⟨W0.heap.size, 2, none⟩ = some (.int .i64 0) := bz.cell rfl; have f2 := bz.free 2; have z3 : w1.cell? ⟨W0.heap.size, 3, none⟩ = some (.int .i64 0) := bz.cell rfl; have f3 := bz.free 3; have z4 : w1.cell? ⟨W0.heap.size, 4, none⟩ = some (.int .i64 0) := bz.cell rfl; have f4 := bz.free 4; have z5 : w1.cell? ⟨W0.heap.size, 5, none⟩ = some (.int .i64 0) := bz.cell rfl; have f5 := bz.free 5; have z6 : w1.cell? ⟨W0.heap.size, 6, none⟩ = some (.string ⟨#[]⟩) := bz.cell rfl; have f6 := bz.free 6; have z7 : w1.cell? ⟨W0.heap.size, 7, none⟩ = some (.slice none 0 0) := bz.cell rfl; have f7 := bz.free 7)))
      | (go_at_call 125; (with_reducible refine (CTP.out _ (by first | exact (BOX.out _ hacc).2.2 | exact (BOX.out _ (hacc.alloc hacc.size _)).2.2 | exact (BOX.out _ (mb_new W0 _).drew).2.2)).mono ?_); rintro e w2 ⟨rfl, rfl⟩)
      | (go_at_call 127; (with_reducible refine (CKK.out _).mono ?_); rintro e w3 ⟨rfl, rfl⟩))
    all_goals
      go_wp2
      go_meet
      first
        | exact ⟨_, rfl, hacc.size, hacc.alloc hacc.size _, BX.new _ _ _⟩
        | exact ⟨_, rfl, Nat.le_refl _, ((((((((hacc).setCell (Nat.le_refl _) _).setCell (Nat.le_refl _) _).setCell (Nat.le_refl _) _).setCell (Nat.le_refl _) _).setCell (Nat.le_refl _) _).setCell (Nat.le_refl _) _).setCell (Nat.le_refl _) _).setCell (Nat.le_refl _) _, (by have h := (((((((bz.set 0 (.string P)).set 1 (.int .i64 1)).set 2 (.int .i64 m)).set 3 (.int .i64 u)).set 4 (.int .i64 g)).set 5 (.int .i64 t)).set 6 (.string ⟨#[]⟩)).set 7 (.slice none 0 0); show BX _ _ _ _; simpa using h)⟩
  case rest =>
    obtain ⟨gb, rfl, HG, HBC, HBM⟩ := hcut
    have HNE := Lib.hid (show w.heap.size + 1 ≠ gb by have h1 := HG.out; have h2 := SZ0.out; intro h; change W0.heap.size ≤ gb at h1; omega)
    have HGW := Lib.hid (show w.heap.size ≤ gb by have h1 := HG.out; have h2 := SZ0.out; change W0.heap.size ≤ gb at h1; omega)
    have HGL := Lib.hid (show gb < wc.heap.size from HBM.out.lt)
    have HZL := Lib.hid (show w.heap.size + 1 < wc.heap.size from (BOX.out _ HBC.out).2.1.lt)
    have g0 : wc.cell? ⟨gb, 0, none⟩ = some (.string P) := (HBM.out).cell rfl; have g1 : wc.cell? ⟨gb, 1, none⟩ = some (.int .i64 1) := (HBM.out).cell rfl; have g2 : wc.cell? ⟨gb, 2, none⟩ = some (.int .i64 m) := (HBM.out).cell rfl; have g3 : wc.cell? ⟨gb, 3, none⟩ = some (.int .i64 u) := (HBM.out).cell rfl; have g4 : wc.cell? ⟨gb, 4, none⟩ = some (.int .i64 g) := (HBM.out).cell rfl; have g5 : wc.cell? ⟨gb, 5, none⟩ = some (.int .i64 t) := (HBM.out).cell rfl; have g6 : wc.cell? ⟨gb, 6, none⟩ = some (.string ⟨#[]⟩) := (HBM.out).cell rfl; have g7 : wc.cell? ⟨gb, 7, none⟩ = some (.slice none 0 0) := (HBM.out).cell rfl
    go_wp2_with (first
      | (go_at_call 128; (with_reducible refine (CCL.out _ (BOX.out _ HBC.out).2.2).mono ?_); rintro e w2 ⟨v2, rfl, ho2, hb2⟩; obtain ⟨A2, c2, rfl, _, hcc, hcm⟩ := OBn.slice ho2; have BM2 := Lib.hid (HBM.out.later hb2); have k0 : w2.cell? ⟨gb, 0, none⟩ = some (.string P) := (BM2.out).cell rfl; have k1 : w2.cell? ⟨gb, 1, none⟩ = some (.int .i64 1) := (BM2.out).cell rfl; have k2 : w2.cell? ⟨gb, 2, none⟩ = some (.int .i64 m) := (BM2.out).cell rfl; have k3 : w2.cell? ⟨gb, 3, none⟩ = some (.int .i64 u) := (BM2.out).cell rfl; have k4 : w2.cell? ⟨gb, 4, none⟩ = some (.int .i64 g) := (BM2.out).cell rfl; have k5 : w2.cell? ⟨gb, 5, none⟩ = some (.int .i64 t) := (BM2.out).cell rfl; have k6 : w2.cell? ⟨gb, 6, none⟩ = some (.string ⟨#[]⟩) := (BM2.out).cell rfl; have k7 : w2.cell? ⟨gb, 7, none⟩ = some (.slice none 0 0) := (BM2.out).cell rfl; have fg := BM2.out.free 7; have HO2 := Lib.hid (OBn.aside ho2 HGL.out 7 (.slice A2 n c2)); have BZ2 := Lib.hid (BX.other ((BOX.out _ HBC.out).2.1.later hb2) HNE.out (j := 7) (.slice A2 n c2)); have BS2 := Lib.hid (BM2.out.set 7 (.slice A2 n c2)); have HW2 := Lib.hid (Below.setCell ((BOX.out _ HBC.out).2.2.trans (hb2.mono (BOX.out _ HBC.out).2.2.size)) (p := ⟨gb, 7, none⟩) HGW.out (.slice A2 n c2)); have SZ2 := Lib.hid hb2.size; clear ho2 hb2)
      | (go_at_call 53; (with_reducible refine (CMY.out _ _ _).mono ?_); rintro e w3 ⟨rfl, hb3⟩; have BM3 : BX w3 gb 44 #[.string P, .int .i64 1, .int .i64 m, .int .i64 u, .int .i64 g, .int .i64 t, .string ⟨#[]⟩, .slice A2 n c2] := (by have h := BS2.out.later hb3; simpa using h); have BZ3 := BZ2.out.later hb3; have HW3 := Lib.hid (HW2.out.trans (hb3.mono HW2.out.size)); have r0 : w3.cell? ⟨gb, 0, none⟩ = some (.string P) := (BM3).cell rfl; have r1 : w3.cell? ⟨gb, 1, none⟩ = some (.int .i64 1) := (BM3).cell rfl; have r2 : w3.cell? ⟨gb, 2, none⟩ = some (.int .i64 m) := (BM3).cell rfl; have r3 : w3.cell? ⟨gb, 3, none⟩ = some (.int .i64 u) := (BM3).cell rfl; have r4 : w3.cell? ⟨gb, 4, none⟩ = some (.int .i64 g) := (BM3).cell rfl; have r5 : w3.cell? ⟨gb, 5, none⟩ = some (.int .i64 t) := (BM3).cell rfl; have r6 : w3.cell? ⟨gb, 6, none⟩ = some (.string ⟨#[]⟩) := (BM3).cell rfl; have r7 : w3.cell? ⟨gb, 7, none⟩ = some (.slice A2 n c2) := (BM3).cell rfl; have s0 : w3.cell? ⟨(w.heap.size + 1), 0, none⟩ = some (.string ⟨#[]⟩) := (BZ3).cell rfl; have s1 : w3.cell? ⟨(w.heap.size + 1), 1, none⟩ = some (.int .i64 0) := (BZ3).cell rfl; have s2 : w3.cell? ⟨(w.heap.size + 1), 2, none⟩ = some (.int .i64 0) := (BZ3).cell rfl; have s3 : w3.cell? ⟨(w.heap.size + 1), 3, none⟩ = some (.int .i64 0) := (BZ3).cell rfl; have s4 : w3.cell? ⟨(w.heap.size + 1), 4, none⟩ = some (.int .i64 0) := (BZ3).cell rfl; have s5 : w3.cell? ⟨(w.heap.size + 1), 5, none⟩ = some (.int .i64 0) := (BZ3).cell rfl; have s6 : w3.cell? ⟨(w.heap.size + 1), 6, none⟩ = some (.string ⟨#[]⟩) := (BZ3).cell rfl; have s7 : w3.cell? ⟨(w.heap.size + 1), 7, none⟩ = some (.slice none 0 0) := (BZ3).cell rfl; have v0 := (BZ3).free 0; have v1 := (BZ3).free 1; have v2 := (BZ3).free 2; have v3 := (BZ3).free 3; have v4 := (BZ3).free 4; have v5 := (BZ3).free 5; have v6 := (BZ3).free 6; have v7 := (BZ3).free 7; have BZ3' := Lib.hid BZ3; have HO3 := Lib.hid (OBn.later HO2.out hb3); clear BM3 BZ3 hb3))
    refine bodyPost_ret (v := .tuple #[.agg #[.string P, .int .i64 1, .int .i64 m, .int .i64 u, .int .i64 g, .int .i64 t, .string ⟨#[]⟩, .slice A2 n c2], .int .i64 0]) (by simp [results, Tryz.f93, go_sem, *]) rfl ⟨A2, n, c2, rfl, ?_, ?_, ?_, ?_⟩
    · exact OBn.base8 (OBn.aside (OBn.aside (OBn.aside (OBn.aside (OBn.aside (OBn.aside (OBn.aside (OBn.aside HO3.out HZL.out 0 _) HZL.out 1 _) HZL.out 2 _) HZL.out 3 _) HZL.out 4 _) HZL.out 5 _) HZL.out 6 _) HZL.out 7 _) (by have := HZL.out; omega)
    · exact hcc
    · exact hcm
    · exact ((((((((HW3.out).setCell (by simp) _).setCell (by simp) _).setCell (by simp) _).setCell (by simp) _).setCell (by simp) _).setCell (by simp) _).setCell (by simp) _).setCell (by simp) _
theorem mfrom_1b (p nm l : ByteArray) (m u g t z k : Int) (B : Option Addr) (nr cr : Nat) (rs : List Rc.Rec) (A : Option Addr) (n c : Nat) (xs : List Int) (w : World) (hr : RL w w.heap.size B nr rs) (hnr : nr ≤ 100000) (ha : RB w w.heap.size A n xs) (hn : n ≤ 100000) (hp : p.size ≤ 1000) (hnm : nm.size ≤ 1000) (hl : l.size ≤ 1000)
    (hs : ∀ r ∈ rs, r.2.size ≤ 100000) (hk : Mb.kin k = 1) (hE : ¬ Mb.may (Mb.fP rs p nm) (⟨#[]⟩) 1 m u g t n = 0) :
    Calls Tryz.prog 93 #[.agg #[.string p, .string nm, .int .i64 m, .int .i64 u, .int .i64 g, .int .i64 t, .int .i64 z, .int .u8 k, .string l], .slice B nr cr, .slice A n c] w fun e w' => ∃ A' n' c', e = .returned (.tuple #[.agg #[.string ⟨#[]⟩, .int .i64 0, .int .i64 0, .int .i64 0, .int .i64 0, .int .i64 0, .string ⟨#[]⟩, .slice A' n' c'], .int .i64 (Mb.may (Mb.fP rs p nm) (⟨#[]⟩) 1 m u g t n)]) ∧ RB w' w'.heap.size A' n' [] ∧ n' ≤ c' ∧ c' ≤ maxLen ∧ Below w.heap.size w w' := by
  have hxl := ha.1
  have cpa := fun W => hpath_any p nm l m u g t z k W (by omega) (by omega)
  have ctp := fun W (hW : Below w.heap.size w W) d => mtold_any B nr cr rs Mb.kPath d W ((hr.below hW).more hW.size) hnr
  have ctl := fun W (hW : Below w.heap.size w W) d => mtold_any B nr cr rs Mb.kLink d W ((hr.below hW).more hW.size) hnr
  have ckk := fun W => mkind_any k W
  rw [hk] at ckk
  have ccl := fun W (hb : Below w.heap.size w W) => bclone_any A n c xs W ((ha.below hb).more hb.size) (by omega)
  have ejn : (if p.size = 0 then nm else p ++ ⟨#[47]⟩ ++ nm) = Mb.join p nm := rfl
  rw [ejn] at cpa
  clear ejn
  have hjs : (Mb.join p nm).size ≤ 2001 := by
    unfold Mb.join
    split
    · omega
    · rw [ByteArray.size_append, ByteArray.size_append]
      have : (⟨#[47]⟩ : ByteArray).size = 1 := rfl
      omega
  have hps : (Mb.fP rs p nm).size ≤ 100000 := Mb.told_size (fun r hr => by have := hs r hr; omega) (by omega)
  have hls : (Mb.told8 rs Mb.kLink l).size ≤ 100000 := Mb.told_size hs (by omega)
  have eP : Mb.told8 rs Mb.kPath (Mb.join p nm) = Mb.fP rs p nm := rfl
  have ctp2 := fun W (hW : Below w.heap.size w W) => ctp W hW (Mb.join p nm)
  have ctl2 := fun W (hW : Below w.heap.size w W) => ctl W hW l
  rw [eP] at ctp2
  unfold Mb.kPath at ctp2
  have ek : Mb.kLink = ⟨#[108, 105, 110, 107, 112, 97, 116, 104]⟩ := rfl
  generalize Mb.fP rs p nm = P at *
  generalize Mb.join p nm = J at *
  generalize Mb.told8 rs Mb.kLink l = LL at *
  rw [ek] at ctl2
  have CPA := Lib.hid cpa; have CTP := Lib.hid ctp2; have CTL := Lib.hid (fun W (hW : Below w.heap.size w W) (_ : Unit) => ctl2 W hW); have CKK := Lib.hid ckk; have CCL := Lib.hid ccl; have HXL := Lib.hid hxl
  have cmy := fun (A' : Option Addr) (c' : Nat) W => mmay_any P ⟨#[]⟩ 1 m u g t A' n c' W (by omega) (by decide) (by omega)
  generalize Mb.may P ⟨#[]⟩ 1 m u g t n = E at *
  have hE1 : (E == 0) = false := by simp [hE]
  have hE2 : (E != 0) = true := by simp [hE]
  have CMY := Lib.hid cmy
  clear cmy hE
  clear cpa ctp ctl ctp2 ctl2 ckk ccl hr ha ek eP hjs hxl hk
  go_enter Tryz.func93, Tryz.ntmps93
  go_upto_region 1 with (fail)
  obtain ⟨W0, hW0⟩ : ∃ W0, W0 = ((w.alloc (.cells #[.string p, .string nm, .int .i64 m, .int .i64 u, .int .i64 g, .int .i64 t, .int .i64 z, .int .u8 k, .string l] 64)).alloc (.cells #[.string ⟨#[]⟩, .int .i64 0, .int .i64 0, .int .i64 0, .int .i64 0, .int .i64 0, .string ⟨#[]⟩, .slice none 0 0] 44)) := ⟨_, rfl⟩
  rw [← hW0]
  have SZ0 := Lib.hid (show W0.heap.size = w.heap.size + 1 + 1 by rw [hW0]; simp)
  have BOX := Lib.hid (show ∀ W, Below W0.heap.size W0 W → BX W w.heap.size 64 #[.string p, .string nm, .int .i64 m, .int .i64 u, .int .i64 g, .int .i64 t, .int .i64 z, .int .u8 k, .string l] ∧ BX W (w.heap.size + 1) 44 #[.string ⟨#[]⟩, .int .i64 0, .int .i64 0, .int .i64 0, .int .i64 0, .int .i64 0, .string ⟨#[]⟩, .slice none 0 0] ∧ Below w.heap.size w W by
    intro W hb
    have hsz := SZ0.out
    rw [hsz] at hb
    rw [hW0] at hb
    refine ⟨((BX.new w _ _).alloc _).below hb (by omega), ?_, (((Below.refl _ w).alloc (Nat.le_refl _) _).alloc (by simp) _).trans (hb.mono (by omega))⟩
    have h := (BX.new (w.alloc (.cells #[.string p, .string nm, .int .i64 m, .int .i64 u, .int .i64 g, .int .i64 t, .int .i64 z, .int .u8 k, .string l] 64)) 44 #[.string ⟨#[]⟩, .int .i64 0, .int .i64 0, .int .i64 0, .int .i64 0, .int .i64 0, .string ⟨#[]⟩, .slice none 0 0]).below (B := w.heap.size + 1 + 1) (w' := W) hb (by simp)
    simpa using h)
  clear hW0
  go_cut [8] (fun v wx => ∃ gb, v = .pointer (some ⟨gb, 0, none⟩) ∧ Hid (W0.heap.size ≤ gb) ∧ Hid (Below W0.heap.size W0 wx) ∧ Hid (BX wx gb 44 #[.string P, .int .i64 1, .int .i64 m, .int .i64 u, .int .i64 g, .int .i64 t, .string ⟨#[]⟩, .slice none 0 0]))
  case first =>
    have hacc : Below W0.heap.size W0 W0.drew := below_drewN (Below.refl _ _) 1
    have alls : ∀ W, Below W0.heap.size W0 W → W.cell? ⟨w.heap.size, 0, none⟩ = some (.string p) ∧ W.cell? ⟨w.heap.size, 1, none⟩ = some (.string nm) ∧ W.cell? ⟨w.heap.size, 2, none⟩ = some (.int .i64 m) ∧ W.cell? ⟨w.heap.size, 3, none⟩ = some (.int .i64 u) ∧ W.cell? ⟨w.heap.size, 4, none⟩ = some (.int .i64 g) ∧ W.cell? ⟨w.heap.size, 5, none⟩ = some (.int .i64 t) ∧ W.cell? ⟨w.heap.size, 6, none⟩ = some (.int .i64 z) ∧ W.cell? ⟨w.heap.size, 7, none⟩ = some (.int .u8 k) ∧ W.cell? ⟨w.heap.size, 8, none⟩ = some (.string l) := fun W hW => by
      obtain ⟨b, _, _⟩ := BOX.out W hW
      exact ⟨b.cell rfl, b.cell rfl, b.cell rfl, b.cell rfl, b.cell rfl, b.cell rfl, b.cell rfl, b.cell rfl, b.cell rfl⟩
    have ALLS := Lib.hid alls
    clear alls
    obtain ⟨y0, y1, y2, y3, y4, y5, y6, y7, y8⟩ := ALLS.out _ hacc
    obtain ⟨x0, x1, x2, x3, x4, x5, x6, x7, x8⟩ := ALLS.out _ (Below.refl W0.heap.size W0)
    have hne0 : W0.heap.size ≠ w.heap.size := by rw [SZ0.out]; omega
    go_region_held3 (fun w' => w'.cell? ⟨w.heap.size, 0, none⟩ = some (.string p) ∧ w'.cell? ⟨w.heap.size, 1, none⟩ = some (.string nm) ∧ w'.cell? ⟨w.heap.size, 2, none⟩ = some (.int .i64 m) ∧ w'.cell? ⟨w.heap.size, 3, none⟩ = some (.int .i64 u) ∧ w'.cell? ⟨w.heap.size, 4, none⟩ = some (.int .i64 g) ∧ w'.cell? ⟨w.heap.size, 5, none⟩ = some (.int .i64 t) ∧ w'.cell? ⟨w.heap.size, 6, none⟩ = some (.int .i64 z) ∧ w'.cell? ⟨w.heap.size, 7, none⟩ = some (.int .u8 k) ∧ w'.cell? ⟨w.heap.size, 8, none⟩ = some (.string l)) (first | go_keep | (exact ALLS.out _ hacc) | (exact ALLS.out _ (hacc.alloc hacc.size _))) (first
      | (go_at_call 126; (with_reducible refine (CPA.out _).mono ?_); rintro e w1 ⟨rfl, hb1⟩; (first | (replace hacc := bthen hacc hb1; have hne1 : w1.heap.size ≠ w.heap.size := (by have h1 := hacc.size; have h2 := SZ0.out; omega)) | (have bz : BX w1 W0.heap.size 44 #[.string ⟨#[]⟩, .int .i64 0, .int .i64 0, .int .i64 0, .int .i64 0, .int .i64 0, .string ⟨#[]⟩, .slice none 0 0] := (BX.drew (BX.new _ _ _)).later hb1; replace hacc := ((mb_new W0 (.cells #[.string ⟨#[]⟩, .int .i64 0, .int .i64 0, .int .i64 0, .int .i64 0, .int .i64 0, .string ⟨#[]⟩, .slice none 0 0] 44)).drew).trans (Below.mono hb1 (by simp <;> omega)); have z0 : w1.cell? ⟨W0.heap.size, 0, none⟩ = some (.string ⟨#[]⟩) := bz.cell rfl; have f0 := bz.free 0; have z1 : w1.cell? ⟨W0.heap.size, 1, none⟩ = some (.int .i64 0) := bz.cell rfl; have f1 := bz.free 1; have z2 : w1.cell? ⟨W0.heap.size, 2, none⟩ = some (.int .i64 0) := bz.cell rfl; have f2 := bz.free 2; have z3 : w1.cell? ⟨W0.heap.size, 3, none⟩ = some (.int .i64 0) := bz.cell rfl; have f3 := bz.free 3; have z4 : w1.cell? ⟨W0.heap.size, 4, none⟩ = some (.int .i64 0) := bz.cell rfl; have f4 := bz.free 4; have z5 : w1.cell? ⟨W0.heap.size, 5, none⟩ = some (.int .i64 0) := bz.cell rfl; have f5 := bz.free 5; have z6 : w1.cell? ⟨W0.heap.size, 6, none⟩ = some (.string ⟨#[]⟩) := bz.cell rfl; have f6 := bz.free 6; have z7 : w1.cell? ⟨W0.heap.size, 7, none⟩ = some (.slice none 0 0) := bz.cell rfl; have f7 := bz.free 7)))
      | (go_at_call 125; (with_reducible refine (CTP.out _ (by first | exact (BOX.out _ hacc).2.2 | exact (BOX.out _ (hacc.alloc hacc.size _)).2.2 | exact (BOX.out _ (mb_new W0 _).drew).2.2)).mono ?_); rintro e w2 ⟨rfl, rfl⟩)
      | (go_at_call 127; (with_reducible refine (CKK.out _).mono ?_); rintro e w3 ⟨rfl, rfl⟩))
    all_goals
      go_wp2
      go_meet
      first
        | exact ⟨_, rfl, hacc.size, hacc.alloc hacc.size _, BX.new _ _ _⟩
        | exact ⟨_, rfl, Nat.le_refl _, ((((((((hacc).setCell (Nat.le_refl _) _).setCell (Nat.le_refl _) _).setCell (Nat.le_refl _) _).setCell (Nat.le_refl _) _).setCell (Nat.le_refl _) _).setCell (Nat.le_refl _) _).setCell (Nat.le_refl _) _).setCell (Nat.le_refl _) _, (by have h := (((((((bz.set 0 (.string P)).set 1 (.int .i64 1)).set 2 (.int .i64 m)).set 3 (.int .i64 u)).set 4 (.int .i64 g)).set 5 (.int .i64 t)).set 6 (.string ⟨#[]⟩)).set 7 (.slice none 0 0); show BX _ _ _ _; simpa using h)⟩
  case rest =>
    obtain ⟨gb, rfl, HG, HBC, HBM⟩ := hcut
    have HNE := Lib.hid (show w.heap.size + 1 ≠ gb by have h1 := HG.out; have h2 := SZ0.out; intro h; change W0.heap.size ≤ gb at h1; omega)
    have HGW := Lib.hid (show w.heap.size ≤ gb by have h1 := HG.out; have h2 := SZ0.out; change W0.heap.size ≤ gb at h1; omega)
    have HGL := Lib.hid (show gb < wc.heap.size from HBM.out.lt)
    have HZL := Lib.hid (show w.heap.size + 1 < wc.heap.size from (BOX.out _ HBC.out).2.1.lt)
    have g0 : wc.cell? ⟨gb, 0, none⟩ = some (.string P) := (HBM.out).cell rfl; have g1 : wc.cell? ⟨gb, 1, none⟩ = some (.int .i64 1) := (HBM.out).cell rfl; have g2 : wc.cell? ⟨gb, 2, none⟩ = some (.int .i64 m) := (HBM.out).cell rfl; have g3 : wc.cell? ⟨gb, 3, none⟩ = some (.int .i64 u) := (HBM.out).cell rfl; have g4 : wc.cell? ⟨gb, 4, none⟩ = some (.int .i64 g) := (HBM.out).cell rfl; have g5 : wc.cell? ⟨gb, 5, none⟩ = some (.int .i64 t) := (HBM.out).cell rfl; have g6 : wc.cell? ⟨gb, 6, none⟩ = some (.string ⟨#[]⟩) := (HBM.out).cell rfl; have g7 : wc.cell? ⟨gb, 7, none⟩ = some (.slice none 0 0) := (HBM.out).cell rfl
    go_wp2_with (first
      | (go_at_call 128; (with_reducible refine (CCL.out _ (BOX.out _ HBC.out).2.2).mono ?_); rintro e w2 ⟨v2, rfl, ho2, hb2⟩; obtain ⟨A2, c2, rfl, _, hcc, hcm⟩ := OBn.slice ho2; have BM2 := Lib.hid (HBM.out.later hb2); have k0 : w2.cell? ⟨gb, 0, none⟩ = some (.string P) := (BM2.out).cell rfl; have k1 : w2.cell? ⟨gb, 1, none⟩ = some (.int .i64 1) := (BM2.out).cell rfl; have k2 : w2.cell? ⟨gb, 2, none⟩ = some (.int .i64 m) := (BM2.out).cell rfl; have k3 : w2.cell? ⟨gb, 3, none⟩ = some (.int .i64 u) := (BM2.out).cell rfl; have k4 : w2.cell? ⟨gb, 4, none⟩ = some (.int .i64 g) := (BM2.out).cell rfl; have k5 : w2.cell? ⟨gb, 5, none⟩ = some (.int .i64 t) := (BM2.out).cell rfl; have k6 : w2.cell? ⟨gb, 6, none⟩ = some (.string ⟨#[]⟩) := (BM2.out).cell rfl; have k7 : w2.cell? ⟨gb, 7, none⟩ = some (.slice none 0 0) := (BM2.out).cell rfl; have fg := BM2.out.free 7; have HO2 := Lib.hid (OBn.aside ho2 HGL.out 7 (.slice A2 n c2)); have BZ2 := Lib.hid (BX.other ((BOX.out _ HBC.out).2.1.later hb2) HNE.out (j := 7) (.slice A2 n c2)); have BS2 := Lib.hid (BM2.out.set 7 (.slice A2 n c2)); have HW2 := Lib.hid (Below.setCell ((BOX.out _ HBC.out).2.2.trans (hb2.mono (BOX.out _ HBC.out).2.2.size)) (p := ⟨gb, 7, none⟩) HGW.out (.slice A2 n c2)); have SZ2 := Lib.hid hb2.size; clear ho2 hb2)
      | (go_at_call 53; (with_reducible refine (CMY.out _ _ _).mono ?_); rintro e w3 ⟨rfl, hb3⟩; have BM3 : BX w3 gb 44 #[.string P, .int .i64 1, .int .i64 m, .int .i64 u, .int .i64 g, .int .i64 t, .string ⟨#[]⟩, .slice A2 n c2] := (by have h := BS2.out.later hb3; simpa using h); have BZ3 := BZ2.out.later hb3; have HW3 := Lib.hid (HW2.out.trans (hb3.mono HW2.out.size)); skip; have s0 : w3.cell? ⟨(w.heap.size + 1), 0, none⟩ = some (.string ⟨#[]⟩) := (BZ3).cell rfl; have s1 : w3.cell? ⟨(w.heap.size + 1), 1, none⟩ = some (.int .i64 0) := (BZ3).cell rfl; have s2 : w3.cell? ⟨(w.heap.size + 1), 2, none⟩ = some (.int .i64 0) := (BZ3).cell rfl; have s3 : w3.cell? ⟨(w.heap.size + 1), 3, none⟩ = some (.int .i64 0) := (BZ3).cell rfl; have s4 : w3.cell? ⟨(w.heap.size + 1), 4, none⟩ = some (.int .i64 0) := (BZ3).cell rfl; have s5 : w3.cell? ⟨(w.heap.size + 1), 5, none⟩ = some (.int .i64 0) := (BZ3).cell rfl; have s6 : w3.cell? ⟨(w.heap.size + 1), 6, none⟩ = some (.string ⟨#[]⟩) := (BZ3).cell rfl; have s7 : w3.cell? ⟨(w.heap.size + 1), 7, none⟩ = some (.slice none 0 0) := (BZ3).cell rfl; have v0 := (BZ3).free 0; have v1 := (BZ3).free 1; have v2 := (BZ3).free 2; have v3 := (BZ3).free 3; have v4 := (BZ3).free 4; have v5 := (BZ3).free 5; have v6 := (BZ3).free 6; have v7 := (BZ3).free 7; have BZ3' := Lib.hid BZ3; have HO3 := Lib.hid (OBn.later HO2.out hb3); clear BM3 BZ3 hb3))
    refine bodyPost_ret (v := .tuple #[.agg #[.string ⟨#[]⟩, .int .i64 0, .int .i64 0, .int .i64 0, .int .i64 0, .int .i64 0, .string ⟨#[]⟩, .slice none 0 0], .int .i64 E]) (by simp [results, Tryz.f93, go_sem, *]) rfl ⟨none, 0, 0, rfl, ?_, ?_, ?_, ?_⟩
    · exact RB.nil
    · exact Nat.le_refl _
    · exact Nat.zero_le _
    · exact ((((((((HW3.out).setCell (by simp) _).setCell (by simp) _).setCell (by simp) _).setCell (by simp) _).setCell (by simp) _).setCell (by simp) _).setCell (by simp) _).setCell (by simp) _
theorem mfrom_2 (p nm l : ByteArray) (m u g t z k : Int) (B : Option Addr) (nr cr : Nat) (rs : List Rc.Rec) (A : Option Addr) (n c : Nat) (xs : List Int) (w : World) (hr : RL w w.heap.size B nr rs) (hnr : nr ≤ 100000) (ha : RB w w.heap.size A n xs) (hn : n ≤ 100000) (hp : p.size ≤ 1000) (hnm : nm.size ≤ 1000) (hl : l.size ≤ 1000)
    (hs : ∀ r ∈ rs, r.2.size ≤ 100000) (hk : Mb.kin k = 2) (hE : Mb.may (Mb.fP rs p nm) (Mb.told8 rs Mb.kLink l) 2 m u g t 0 = 0) :
    Calls Tryz.prog 93 #[.agg #[.string p, .string nm, .int .i64 m, .int .i64 u, .int .i64 g, .int .i64 t, .int .i64 z, .int .u8 k, .string l], .slice B nr cr, .slice A n c] w fun e w' => ∃ A' n' c', e = .returned (.tuple #[.agg #[.string (Mb.fP rs p nm), .int .i64 2, .int .i64 m, .int .i64 u, .int .i64 g, .int .i64 t, .string (Mb.told8 rs Mb.kLink l), .slice A' n' c'], .int .i64 0]) ∧ RB w' w'.heap.size A' n' [] ∧ n' ≤ c' ∧ c' ≤ maxLen ∧ Below w.heap.size w w' := by
  have hxl := ha.1
  have cpa := fun W => hpath_any p nm l m u g t z k W (by omega) (by omega)
  have ctp := fun W (hW : Below w.heap.size w W) d => mtold_any B nr cr rs Mb.kPath d W ((hr.below hW).more hW.size) hnr
  have ctl := fun W (hW : Below w.heap.size w W) d => mtold_any B nr cr rs Mb.kLink d W ((hr.below hW).more hW.size) hnr
  have ckk := fun W => mkind_any k W
  rw [hk] at ckk
  have ccl := fun W (hb : Below w.heap.size w W) => bclone_any A n c xs W ((ha.below hb).more hb.size) (by omega)
  have ejn : (if p.size = 0 then nm else p ++ ⟨#[47]⟩ ++ nm) = Mb.join p nm := rfl
  rw [ejn] at cpa
  clear ejn
  have hjs : (Mb.join p nm).size ≤ 2001 := by
    unfold Mb.join
    split
    · omega
    · rw [ByteArray.size_append, ByteArray.size_append]
      have : (⟨#[47]⟩ : ByteArray).size = 1 := rfl
      omega
  have hps : (Mb.fP rs p nm).size ≤ 100000 := Mb.told_size (fun r hr => by have := hs r hr; omega) (by omega)
  have hls : (Mb.told8 rs Mb.kLink l).size ≤ 100000 := Mb.told_size hs (by omega)
  have eP : Mb.told8 rs Mb.kPath (Mb.join p nm) = Mb.fP rs p nm := rfl
  have ctp2 := fun W (hW : Below w.heap.size w W) => ctp W hW (Mb.join p nm)
  have ctl2 := fun W (hW : Below w.heap.size w W) => ctl W hW l
  rw [eP] at ctp2
  unfold Mb.kPath at ctp2
  have ek : Mb.kLink = ⟨#[108, 105, 110, 107, 112, 97, 116, 104]⟩ := rfl
  generalize Mb.fP rs p nm = P at *
  generalize Mb.join p nm = J at *
  generalize Mb.told8 rs Mb.kLink l = LL at *
  rw [ek] at ctl2
  have CPA := Lib.hid cpa; have CTP := Lib.hid ctp2; have CTL := Lib.hid (fun W (hW : Below w.heap.size w W) (_ : Unit) => ctl2 W hW); have CKK := Lib.hid ckk; have CCL := Lib.hid ccl; have HXL := Lib.hid hxl
  have cmy := fun (A' : Option Addr) (c' : Nat) W => mmay_any P LL 2 m u g t A' 0 c' W (by omega) (by omega) (by omega)
  rw [hE] at cmy
  have CMY := Lib.hid cmy
  clear cmy hE
  clear cpa ctp ctl ctp2 ctl2 ckk ccl hr ha ek eP hjs hxl hk
  go_enter Tryz.func93, Tryz.ntmps93
  go_upto_region 1 with (fail)
  obtain ⟨W0, hW0⟩ : ∃ W0, W0 = ((w.alloc (.cells #[.string p, .string nm, .int .i64 m, .int .i64 u, .int .i64 g, .int .i64 t, .int .i64 z, .int .u8 k, .string l] 64)).alloc (.cells #[.string ⟨#[]⟩, .int .i64 0, .int .i64 0, .int .i64 0, .int .i64 0, .int .i64 0, .string ⟨#[]⟩, .slice none 0 0] 44)) := ⟨_, rfl⟩
  rw [← hW0]
  have SZ0 := Lib.hid (show W0.heap.size = w.heap.size + 1 + 1 by rw [hW0]; simp)
  have BOX := Lib.hid (show ∀ W, Below W0.heap.size W0 W → BX W w.heap.size 64 #[.string p, .string nm, .int .i64 m, .int .i64 u, .int .i64 g, .int .i64 t, .int .i64 z, .int .u8 k, .string l] ∧ BX W (w.heap.size + 1) 44 #[.string ⟨#[]⟩, .int .i64 0, .int .i64 0, .int .i64 0, .int .i64 0, .int .i64 0, .string ⟨#[]⟩, .slice none 0 0] ∧ Below w.heap.size w W by
    intro W hb
    have hsz := SZ0.out
    rw [hsz] at hb
    rw [hW0] at hb
    refine ⟨((BX.new w _ _).alloc _).below hb (by omega), ?_, (((Below.refl _ w).alloc (Nat.le_refl _) _).alloc (by simp) _).trans (hb.mono (by omega))⟩
    have h := (BX.new (w.alloc (.cells #[.string p, .string nm, .int .i64 m, .int .i64 u, .int .i64 g, .int .i64 t, .int .i64 z, .int .u8 k, .string l] 64)) 44 #[.string ⟨#[]⟩, .int .i64 0, .int .i64 0, .int .i64 0, .int .i64 0, .int .i64 0, .string ⟨#[]⟩, .slice none 0 0]).below (B := w.heap.size + 1 + 1) (w' := W) hb (by simp)
    simpa using h)
  clear hW0
  go_cut [8] (fun v wx => ∃ gb, v = .pointer (some ⟨gb, 0, none⟩) ∧ Hid (W0.heap.size ≤ gb) ∧ Hid (Below W0.heap.size W0 wx) ∧ Hid (BX wx gb 44 #[.string P, .int .i64 2, .int .i64 m, .int .i64 u, .int .i64 g, .int .i64 t, .string ⟨#[]⟩, .slice none 0 0]))
  case first =>
    have hacc : Below W0.heap.size W0 W0.drew := below_drewN (Below.refl _ _) 1
    have alls : ∀ W, Below W0.heap.size W0 W → W.cell? ⟨w.heap.size, 0, none⟩ = some (.string p) ∧ W.cell? ⟨w.heap.size, 1, none⟩ = some (.string nm) ∧ W.cell? ⟨w.heap.size, 2, none⟩ = some (.int .i64 m) ∧ W.cell? ⟨w.heap.size, 3, none⟩ = some (.int .i64 u) ∧ W.cell? ⟨w.heap.size, 4, none⟩ = some (.int .i64 g) ∧ W.cell? ⟨w.heap.size, 5, none⟩ = some (.int .i64 t) ∧ W.cell? ⟨w.heap.size, 6, none⟩ = some (.int .i64 z) ∧ W.cell? ⟨w.heap.size, 7, none⟩ = some (.int .u8 k) ∧ W.cell? ⟨w.heap.size, 8, none⟩ = some (.string l) := fun W hW => by
      obtain ⟨b, _, _⟩ := BOX.out W hW
      exact ⟨b.cell rfl, b.cell rfl, b.cell rfl, b.cell rfl, b.cell rfl, b.cell rfl, b.cell rfl, b.cell rfl, b.cell rfl⟩
    have ALLS := Lib.hid alls
    clear alls
    obtain ⟨y0, y1, y2, y3, y4, y5, y6, y7, y8⟩ := ALLS.out _ hacc
    obtain ⟨x0, x1, x2, x3, x4, x5, x6, x7, x8⟩ := ALLS.out _ (Below.refl W0.heap.size W0)
    have hne0 : W0.heap.size ≠ w.heap.size := by rw [SZ0.out]; omega
    go_region_held3 (fun w' => w'.cell? ⟨w.heap.size, 0, none⟩ = some (.string p) ∧ w'.cell? ⟨w.heap.size, 1, none⟩ = some (.string nm) ∧ w'.cell? ⟨w.heap.size, 2, none⟩ = some (.int .i64 m) ∧ w'.cell? ⟨w.heap.size, 3, none⟩ = some (.int .i64 u) ∧ w'.cell? ⟨w.heap.size, 4, none⟩ = some (.int .i64 g) ∧ w'.cell? ⟨w.heap.size, 5, none⟩ = some (.int .i64 t) ∧ w'.cell? ⟨w.heap.size, 6, none⟩ = some (.int .i64 z) ∧ w'.cell? ⟨w.heap.size, 7, none⟩ = some (.int .u8 k) ∧ w'.cell? ⟨w.heap.size, 8, none⟩ = some (.string l)) (first | go_keep | (exact ALLS.out _ hacc) | (exact ALLS.out _ (hacc.alloc hacc.size _))) (first
      | (go_at_call 126; (with_reducible refine (CPA.out _).mono ?_); rintro e w1 ⟨rfl, hb1⟩; (first | (replace hacc := bthen hacc hb1; have hne1 : w1.heap.size ≠ w.heap.size := (by have h1 := hacc.size; have h2 := SZ0.out; omega)) | (have bz : BX w1 W0.heap.size 44 #[.string ⟨#[]⟩, .int .i64 0, .int .i64 0, .int .i64 0, .int .i64 0, .int .i64 0, .string ⟨#[]⟩, .slice none 0 0] := (BX.drew (BX.new _ _ _)).later hb1; replace hacc := ((mb_new W0 (.cells #[.string ⟨#[]⟩, .int .i64 0, .int .i64 0, .int .i64 0, .int .i64 0, .int .i64 0, .string ⟨#[]⟩, .slice none 0 0] 44)).drew).trans (Below.mono hb1 (by simp <;> omega)); have z0 : w1.cell? ⟨W0.heap.size, 0, none⟩ = some (.string ⟨#[]⟩) := bz.cell rfl; have f0 := bz.free 0; have z1 : w1.cell? ⟨W0.heap.size, 1, none⟩ = some (.int .i64 0) := bz.cell rfl; have f1 := bz.free 1; have z2 : w1.cell? ⟨W0.heap.size, 2, none⟩ = some (.int .i64 0) := bz.cell rfl; have f2 := bz.free 2; have z3 : w1.cell? ⟨W0.heap.size, 3, none⟩ = some (.int .i64 0) := bz.cell rfl; have f3 := bz.free 3; have z4 : w1.cell? ⟨W0.heap.size, 4, none⟩ = some (.int .i64 0) := bz.cell rfl; have f4 := bz.free 4; have z5 : w1.cell? ⟨W0.heap.size, 5, none⟩ = some (.int .i64 0) := bz.cell rfl; have f5 := bz.free 5; have z6 : w1.cell? ⟨W0.heap.size, 6, none⟩ = some (.string ⟨#[]⟩) := bz.cell rfl; have f6 := bz.free 6; have z7 : w1.cell? ⟨W0.heap.size, 7, none⟩ = some (.slice none 0 0) := bz.cell rfl; have f7 := bz.free 7)))
      | (go_at_call 125; (with_reducible refine (CTP.out _ (by first | exact (BOX.out _ hacc).2.2 | exact (BOX.out _ (hacc.alloc hacc.size _)).2.2 | exact (BOX.out _ (mb_new W0 _).drew).2.2)).mono ?_); rintro e w2 ⟨rfl, rfl⟩)
      | (go_at_call 127; (with_reducible refine (CKK.out _).mono ?_); rintro e w3 ⟨rfl, rfl⟩))
    all_goals
      go_wp2
      go_meet
      first
        | exact ⟨_, rfl, hacc.size, hacc.alloc hacc.size _, BX.new _ _ _⟩
        | exact ⟨_, rfl, Nat.le_refl _, ((((((((hacc).setCell (Nat.le_refl _) _).setCell (Nat.le_refl _) _).setCell (Nat.le_refl _) _).setCell (Nat.le_refl _) _).setCell (Nat.le_refl _) _).setCell (Nat.le_refl _) _).setCell (Nat.le_refl _) _).setCell (Nat.le_refl _) _, (by have h := (((((((bz.set 0 (.string P)).set 1 (.int .i64 2)).set 2 (.int .i64 m)).set 3 (.int .i64 u)).set 4 (.int .i64 g)).set 5 (.int .i64 t)).set 6 (.string ⟨#[]⟩)).set 7 (.slice none 0 0); show BX _ _ _ _; simpa using h)⟩
  case rest =>
    obtain ⟨gb, rfl, HG, HBC, HBM⟩ := hcut
    have HNE := Lib.hid (show w.heap.size + 1 ≠ gb by have h1 := HG.out; have h2 := SZ0.out; intro h; change W0.heap.size ≤ gb at h1; omega)
    have HGW := Lib.hid (show w.heap.size ≤ gb by have h1 := HG.out; have h2 := SZ0.out; change W0.heap.size ≤ gb at h1; omega)
    have HGL := Lib.hid (show gb < wc.heap.size from HBM.out.lt)
    have HZL := Lib.hid (show w.heap.size + 1 < wc.heap.size from (BOX.out _ HBC.out).2.1.lt)
    have g0 : wc.cell? ⟨gb, 0, none⟩ = some (.string P) := (HBM.out).cell rfl; have g1 : wc.cell? ⟨gb, 1, none⟩ = some (.int .i64 2) := (HBM.out).cell rfl; have g2 : wc.cell? ⟨gb, 2, none⟩ = some (.int .i64 m) := (HBM.out).cell rfl; have g3 : wc.cell? ⟨gb, 3, none⟩ = some (.int .i64 u) := (HBM.out).cell rfl; have g4 : wc.cell? ⟨gb, 4, none⟩ = some (.int .i64 g) := (HBM.out).cell rfl; have g5 : wc.cell? ⟨gb, 5, none⟩ = some (.int .i64 t) := (HBM.out).cell rfl; have g6 : wc.cell? ⟨gb, 6, none⟩ = some (.string ⟨#[]⟩) := (HBM.out).cell rfl; have g7 : wc.cell? ⟨gb, 7, none⟩ = some (.slice none 0 0) := (HBM.out).cell rfl
    have hl8 : wc.cell? ⟨w.heap.size, 8, none⟩ = some (.string l) := (BOX.out _ HBC.out).1.cell rfl
    have fg := HBM.out.free 6
    have BZ2 := Lib.hid (BX.other (BOX.out _ HBC.out).2.1 HNE.out (j := 6) (.string LL))
    have BS2 := Lib.hid (HBM.out.set 6 (.string LL))
    have HW2 := Lib.hid (Below.setCell (BOX.out _ HBC.out).2.2 (p := ⟨gb, 6, none⟩) HGW.out (.string LL))
    go_wp2_with (first
      | (go_at_call 125; (with_reducible refine (CTL.out _ (BOX.out _ HBC.out).2.2 ()).mono ?_); rintro e w2 ⟨rfl, rfl⟩)
      | (go_at_call 53; (with_reducible refine (CMY.out _ _ _).mono ?_); rintro e w3 ⟨rfl, hb3⟩; have BM3 : BX w3 gb 44 #[.string P, .int .i64 2, .int .i64 m, .int .i64 u, .int .i64 g, .int .i64 t, .string LL, .slice none 0 0] := (by have h := BS2.out.later hb3; simpa using h); have BZ3 := BZ2.out.later hb3; have HW3 := Lib.hid (HW2.out.trans (hb3.mono HW2.out.size)); have r0 : w3.cell? ⟨gb, 0, none⟩ = some (.string P) := (BM3).cell rfl; have r1 : w3.cell? ⟨gb, 1, none⟩ = some (.int .i64 2) := (BM3).cell rfl; have r2 : w3.cell? ⟨gb, 2, none⟩ = some (.int .i64 m) := (BM3).cell rfl; have r3 : w3.cell? ⟨gb, 3, none⟩ = some (.int .i64 u) := (BM3).cell rfl; have r4 : w3.cell? ⟨gb, 4, none⟩ = some (.int .i64 g) := (BM3).cell rfl; have r5 : w3.cell? ⟨gb, 5, none⟩ = some (.int .i64 t) := (BM3).cell rfl; have r6 : w3.cell? ⟨gb, 6, none⟩ = some (.string LL) := (BM3).cell rfl; have r7 : w3.cell? ⟨gb, 7, none⟩ = some (.slice none 0 0) := (BM3).cell rfl; have s0 : w3.cell? ⟨(w.heap.size + 1), 0, none⟩ = some (.string ⟨#[]⟩) := (BZ3).cell rfl; have s1 : w3.cell? ⟨(w.heap.size + 1), 1, none⟩ = some (.int .i64 0) := (BZ3).cell rfl; have s2 : w3.cell? ⟨(w.heap.size + 1), 2, none⟩ = some (.int .i64 0) := (BZ3).cell rfl; have s3 : w3.cell? ⟨(w.heap.size + 1), 3, none⟩ = some (.int .i64 0) := (BZ3).cell rfl; have s4 : w3.cell? ⟨(w.heap.size + 1), 4, none⟩ = some (.int .i64 0) := (BZ3).cell rfl; have s5 : w3.cell? ⟨(w.heap.size + 1), 5, none⟩ = some (.int .i64 0) := (BZ3).cell rfl; have s6 : w3.cell? ⟨(w.heap.size + 1), 6, none⟩ = some (.string ⟨#[]⟩) := (BZ3).cell rfl; have s7 : w3.cell? ⟨(w.heap.size + 1), 7, none⟩ = some (.slice none 0 0) := (BZ3).cell rfl; have v0 := (BZ3).free 0; have v1 := (BZ3).free 1; have v2 := (BZ3).free 2; have v3 := (BZ3).free 3; have v4 := (BZ3).free 4; have v5 := (BZ3).free 5; have v6 := (BZ3).free 6; have v7 := (BZ3).free 7; have BZ3' := Lib.hid BZ3; clear BM3 BZ3 hb3))
    refine bodyPost_ret (v := .tuple #[.agg #[.string P, .int .i64 2, .int .i64 m, .int .i64 u, .int .i64 g, .int .i64 t, .string LL, .slice none 0 0], .int .i64 0]) (by simp [results, Tryz.f93, go_sem, *]) rfl ⟨none, 0, 0, rfl, ?_, ?_, ?_, ?_⟩
    · exact RB.nil
    · exact Nat.le_refl _
    · exact Nat.zero_le _
    · exact ((((((((HW3.out).setCell (by simp) _).setCell (by simp) _).setCell (by simp) _).setCell (by simp) _).setCell (by simp) _).setCell (by simp) _).setCell (by simp) _).setCell (by simp) _
theorem mfrom_2b (p nm l : ByteArray) (m u g t z k : Int) (B : Option Addr) (nr cr : Nat) (rs : List Rc.Rec) (A : Option Addr) (n c : Nat) (xs : List Int) (w : World) (hr : RL w w.heap.size B nr rs) (hnr : nr ≤ 100000) (ha : RB w w.heap.size A n xs) (hn : n ≤ 100000) (hp : p.size ≤ 1000) (hnm : nm.size ≤ 1000) (hl : l.size ≤ 1000)
    (hs : ∀ r ∈ rs, r.2.size ≤ 100000) (hk : Mb.kin k = 2) (hE : ¬ Mb.may (Mb.fP rs p nm) (Mb.told8 rs Mb.kLink l) 2 m u g t 0 = 0) :
    Calls Tryz.prog 93 #[.agg #[.string p, .string nm, .int .i64 m, .int .i64 u, .int .i64 g, .int .i64 t, .int .i64 z, .int .u8 k, .string l], .slice B nr cr, .slice A n c] w fun e w' => ∃ A' n' c', e = .returned (.tuple #[.agg #[.string ⟨#[]⟩, .int .i64 0, .int .i64 0, .int .i64 0, .int .i64 0, .int .i64 0, .string ⟨#[]⟩, .slice A' n' c'], .int .i64 (Mb.may (Mb.fP rs p nm) (Mb.told8 rs Mb.kLink l) 2 m u g t 0)]) ∧ RB w' w'.heap.size A' n' [] ∧ n' ≤ c' ∧ c' ≤ maxLen ∧ Below w.heap.size w w' := by
  have hxl := ha.1
  have cpa := fun W => hpath_any p nm l m u g t z k W (by omega) (by omega)
  have ctp := fun W (hW : Below w.heap.size w W) d => mtold_any B nr cr rs Mb.kPath d W ((hr.below hW).more hW.size) hnr
  have ctl := fun W (hW : Below w.heap.size w W) d => mtold_any B nr cr rs Mb.kLink d W ((hr.below hW).more hW.size) hnr
  have ckk := fun W => mkind_any k W
  rw [hk] at ckk
  have ccl := fun W (hb : Below w.heap.size w W) => bclone_any A n c xs W ((ha.below hb).more hb.size) (by omega)
  have ejn : (if p.size = 0 then nm else p ++ ⟨#[47]⟩ ++ nm) = Mb.join p nm := rfl
  rw [ejn] at cpa
  clear ejn
  have hjs : (Mb.join p nm).size ≤ 2001 := by
    unfold Mb.join
    split
    · omega
    · rw [ByteArray.size_append, ByteArray.size_append]
      have : (⟨#[47]⟩ : ByteArray).size = 1 := rfl
      omega
  have hps : (Mb.fP rs p nm).size ≤ 100000 := Mb.told_size (fun r hr => by have := hs r hr; omega) (by omega)
  have hls : (Mb.told8 rs Mb.kLink l).size ≤ 100000 := Mb.told_size hs (by omega)
  have eP : Mb.told8 rs Mb.kPath (Mb.join p nm) = Mb.fP rs p nm := rfl
  have ctp2 := fun W (hW : Below w.heap.size w W) => ctp W hW (Mb.join p nm)
  have ctl2 := fun W (hW : Below w.heap.size w W) => ctl W hW l
  rw [eP] at ctp2
  unfold Mb.kPath at ctp2
  have ek : Mb.kLink = ⟨#[108, 105, 110, 107, 112, 97, 116, 104]⟩ := rfl
  generalize Mb.fP rs p nm = P at *
  generalize Mb.join p nm = J at *
  generalize Mb.told8 rs Mb.kLink l = LL at *
  rw [ek] at ctl2
  have CPA := Lib.hid cpa; have CTP := Lib.hid ctp2; have CTL := Lib.hid (fun W (hW : Below w.heap.size w W) (_ : Unit) => ctl2 W hW); have CKK := Lib.hid ckk; have CCL := Lib.hid ccl; have HXL := Lib.hid hxl
  have cmy := fun (A' : Option Addr) (c' : Nat) W => mmay_any P LL 2 m u g t A' 0 c' W (by omega) (by omega) (by omega)
  generalize Mb.may P LL 2 m u g t 0 = E at *
  have hE1 : (E == 0) = false := by simp [hE]
  have hE2 : (E != 0) = true := by simp [hE]
  have CMY := Lib.hid cmy
  clear cmy hE
  clear cpa ctp ctl ctp2 ctl2 ckk ccl hr ha ek eP hjs hxl hk
  go_enter Tryz.func93, Tryz.ntmps93
  go_upto_region 1 with (fail)
  obtain ⟨W0, hW0⟩ : ∃ W0, W0 = ((w.alloc (.cells #[.string p, .string nm, .int .i64 m, .int .i64 u, .int .i64 g, .int .i64 t, .int .i64 z, .int .u8 k, .string l] 64)).alloc (.cells #[.string ⟨#[]⟩, .int .i64 0, .int .i64 0, .int .i64 0, .int .i64 0, .int .i64 0, .string ⟨#[]⟩, .slice none 0 0] 44)) := ⟨_, rfl⟩
  rw [← hW0]
  have SZ0 := Lib.hid (show W0.heap.size = w.heap.size + 1 + 1 by rw [hW0]; simp)
  have BOX := Lib.hid (show ∀ W, Below W0.heap.size W0 W → BX W w.heap.size 64 #[.string p, .string nm, .int .i64 m, .int .i64 u, .int .i64 g, .int .i64 t, .int .i64 z, .int .u8 k, .string l] ∧ BX W (w.heap.size + 1) 44 #[.string ⟨#[]⟩, .int .i64 0, .int .i64 0, .int .i64 0, .int .i64 0, .int .i64 0, .string ⟨#[]⟩, .slice none 0 0] ∧ Below w.heap.size w W by
    intro W hb
    have hsz := SZ0.out
    rw [hsz] at hb
    rw [hW0] at hb
    refine ⟨((BX.new w _ _).alloc _).below hb (by omega), ?_, (((Below.refl _ w).alloc (Nat.le_refl _) _).alloc (by simp) _).trans (hb.mono (by omega))⟩
    have h := (BX.new (w.alloc (.cells #[.string p, .string nm, .int .i64 m, .int .i64 u, .int .i64 g, .int .i64 t, .int .i64 z, .int .u8 k, .string l] 64)) 44 #[.string ⟨#[]⟩, .int .i64 0, .int .i64 0, .int .i64 0, .int .i64 0, .int .i64 0, .string ⟨#[]⟩, .slice none 0 0]).below (B := w.heap.size + 1 + 1) (w' := W) hb (by simp)
    simpa using h)
  clear hW0
  go_cut [8] (fun v wx => ∃ gb, v = .pointer (some ⟨gb, 0, none⟩) ∧ Hid (W0.heap.size ≤ gb) ∧ Hid (Below W0.heap.size W0 wx) ∧ Hid (BX wx gb 44 #[.string P, .int .i64 2, .int .i64 m, .int .i64 u, .int .i64 g, .int .i64 t, .string ⟨#[]⟩, .slice none 0 0]))
  case first =>
    have hacc : Below W0.heap.size W0 W0.drew := below_drewN (Below.refl _ _) 1
    have alls : ∀ W, Below W0.heap.size W0 W → W.cell? ⟨w.heap.size, 0, none⟩ = some (.string p) ∧ W.cell? ⟨w.heap.size, 1, none⟩ = some (.string nm) ∧ W.cell? ⟨w.heap.size, 2, none⟩ = some (.int .i64 m) ∧ W.cell? ⟨w.heap.size, 3, none⟩ = some (.int .i64 u) ∧ W.cell? ⟨w.heap.size, 4, none⟩ = some (.int .i64 g) ∧ W.cell? ⟨w.heap.size, 5, none⟩ = some (.int .i64 t) ∧ W.cell? ⟨w.heap.size, 6, none⟩ = some (.int .i64 z) ∧ W.cell? ⟨w.heap.size, 7, none⟩ = some (.int .u8 k) ∧ W.cell? ⟨w.heap.size, 8, none⟩ = some (.string l) := fun W hW => by
      obtain ⟨b, _, _⟩ := BOX.out W hW
      exact ⟨b.cell rfl, b.cell rfl, b.cell rfl, b.cell rfl, b.cell rfl, b.cell rfl, b.cell rfl, b.cell rfl, b.cell rfl⟩
    have ALLS := Lib.hid alls
    clear alls
    obtain ⟨y0, y1, y2, y3, y4, y5, y6, y7, y8⟩ := ALLS.out _ hacc
    obtain ⟨x0, x1, x2, x3, x4, x5, x6, x7, x8⟩ := ALLS.out _ (Below.refl W0.heap.size W0)
    have hne0 : W0.heap.size ≠ w.heap.size := by rw [SZ0.out]; omega
    go_region_held3 (fun w' => w'.cell? ⟨w.heap.size, 0, none⟩ = some (.string p) ∧ w'.cell? ⟨w.heap.size, 1, none⟩ = some (.string nm) ∧ w'.cell? ⟨w.heap.size, 2, none⟩ = some (.int .i64 m) ∧ w'.cell? ⟨w.heap.size, 3, none⟩ = some (.int .i64 u) ∧ w'.cell? ⟨w.heap.size, 4, none⟩ = some (.int .i64 g) ∧ w'.cell? ⟨w.heap.size, 5, none⟩ = some (.int .i64 t) ∧ w'.cell? ⟨w.heap.size, 6, none⟩ = some (.int .i64 z) ∧ w'.cell? ⟨w.heap.size, 7, none⟩ = some (.int .u8 k) ∧ w'.cell? ⟨w.heap.size, 8, none⟩ = some (.string l)) (first | go_keep | (exact ALLS.out _ hacc) | (exact ALLS.out _ (hacc.alloc hacc.size _))) (first
      | (go_at_call 126; (with_reducible refine (CPA.out _).mono ?_); rintro e w1 ⟨rfl, hb1⟩; (first | (replace hacc := bthen hacc hb1; have hne1 : w1.heap.size ≠ w.heap.size := (by have h1 := hacc.size; have h2 := SZ0.out; omega)) | (have bz : BX w1 W0.heap.size 44 #[.string ⟨#[]⟩, .int .i64 0, .int .i64 0, .int .i64 0, .int .i64 0, .int .i64 0, .string ⟨#[]⟩, .slice none 0 0] := (BX.drew (BX.new _ _ _)).later hb1; replace hacc := ((mb_new W0 (.cells #[.string ⟨#[]⟩, .int .i64 0, .int .i64 0, .int .i64 0, .int .i64 0, .int .i64 0, .string ⟨#[]⟩, .slice none 0 0] 44)).drew).trans (Below.mono hb1 (by simp <;> omega)); have z0 : w1.cell? ⟨W0.heap.size, 0, none⟩ = some (.string ⟨#[]⟩) := bz.cell rfl; have f0 := bz.free 0; have z1 : w1.cell? ⟨W0.heap.size, 1, none⟩ = some (.int .i64 0) := bz.cell rfl; have f1 := bz.free 1; have z2 : w1.cell? ⟨W0.heap.size, 2, none⟩ = some (.int .i64 0) := bz.cell rfl; have f2 := bz.free 2; have z3 : w1.cell? ⟨W0.heap.size, 3, none⟩ = some (.int .i64 0) := bz.cell rfl; have f3 := bz.free 3; have z4 : w1.cell? ⟨W0.heap.size, 4, none⟩ = some (.int .i64 0) := bz.cell rfl; have f4 := bz.free 4; have z5 : w1.cell? ⟨W0.heap.size, 5, none⟩ = some (.int .i64 0) := bz.cell rfl; have f5 := bz.free 5; have z6 : w1.cell? ⟨W0.heap.size, 6, none⟩ = some (.string ⟨#[]⟩) := bz.cell rfl; have f6 := bz.free 6; have z7 : w1.cell? ⟨W0.heap.size, 7, none⟩ = some (.slice none 0 0) := bz.cell rfl; have f7 := bz.free 7)))
      | (go_at_call 125; (with_reducible refine (CTP.out _ (by first | exact (BOX.out _ hacc).2.2 | exact (BOX.out _ (hacc.alloc hacc.size _)).2.2 | exact (BOX.out _ (mb_new W0 _).drew).2.2)).mono ?_); rintro e w2 ⟨rfl, rfl⟩)
      | (go_at_call 127; (with_reducible refine (CKK.out _).mono ?_); rintro e w3 ⟨rfl, rfl⟩))
    all_goals
      go_wp2
      go_meet
      first
        | exact ⟨_, rfl, hacc.size, hacc.alloc hacc.size _, BX.new _ _ _⟩
        | exact ⟨_, rfl, Nat.le_refl _, ((((((((hacc).setCell (Nat.le_refl _) _).setCell (Nat.le_refl _) _).setCell (Nat.le_refl _) _).setCell (Nat.le_refl _) _).setCell (Nat.le_refl _) _).setCell (Nat.le_refl _) _).setCell (Nat.le_refl _) _).setCell (Nat.le_refl _) _, (by have h := (((((((bz.set 0 (.string P)).set 1 (.int .i64 2)).set 2 (.int .i64 m)).set 3 (.int .i64 u)).set 4 (.int .i64 g)).set 5 (.int .i64 t)).set 6 (.string ⟨#[]⟩)).set 7 (.slice none 0 0); show BX _ _ _ _; simpa using h)⟩
  case rest =>
    obtain ⟨gb, rfl, HG, HBC, HBM⟩ := hcut
    have HNE := Lib.hid (show w.heap.size + 1 ≠ gb by have h1 := HG.out; have h2 := SZ0.out; intro h; change W0.heap.size ≤ gb at h1; omega)
    have HGW := Lib.hid (show w.heap.size ≤ gb by have h1 := HG.out; have h2 := SZ0.out; change W0.heap.size ≤ gb at h1; omega)
    have HGL := Lib.hid (show gb < wc.heap.size from HBM.out.lt)
    have HZL := Lib.hid (show w.heap.size + 1 < wc.heap.size from (BOX.out _ HBC.out).2.1.lt)
    have g0 : wc.cell? ⟨gb, 0, none⟩ = some (.string P) := (HBM.out).cell rfl; have g1 : wc.cell? ⟨gb, 1, none⟩ = some (.int .i64 2) := (HBM.out).cell rfl; have g2 : wc.cell? ⟨gb, 2, none⟩ = some (.int .i64 m) := (HBM.out).cell rfl; have g3 : wc.cell? ⟨gb, 3, none⟩ = some (.int .i64 u) := (HBM.out).cell rfl; have g4 : wc.cell? ⟨gb, 4, none⟩ = some (.int .i64 g) := (HBM.out).cell rfl; have g5 : wc.cell? ⟨gb, 5, none⟩ = some (.int .i64 t) := (HBM.out).cell rfl; have g6 : wc.cell? ⟨gb, 6, none⟩ = some (.string ⟨#[]⟩) := (HBM.out).cell rfl; have g7 : wc.cell? ⟨gb, 7, none⟩ = some (.slice none 0 0) := (HBM.out).cell rfl
    have hl8 : wc.cell? ⟨w.heap.size, 8, none⟩ = some (.string l) := (BOX.out _ HBC.out).1.cell rfl
    have fg := HBM.out.free 6
    have BZ2 := Lib.hid (BX.other (BOX.out _ HBC.out).2.1 HNE.out (j := 6) (.string LL))
    have BS2 := Lib.hid (HBM.out.set 6 (.string LL))
    have HW2 := Lib.hid (Below.setCell (BOX.out _ HBC.out).2.2 (p := ⟨gb, 6, none⟩) HGW.out (.string LL))
    go_wp2_with (first
      | (go_at_call 125; (with_reducible refine (CTL.out _ (BOX.out _ HBC.out).2.2 ()).mono ?_); rintro e w2 ⟨rfl, rfl⟩)
      | (go_at_call 53; (with_reducible refine (CMY.out _ _ _).mono ?_); rintro e w3 ⟨rfl, hb3⟩; have BM3 : BX w3 gb 44 #[.string P, .int .i64 2, .int .i64 m, .int .i64 u, .int .i64 g, .int .i64 t, .string LL, .slice none 0 0] := (by have h := BS2.out.later hb3; simpa using h); have BZ3 := BZ2.out.later hb3; have HW3 := Lib.hid (HW2.out.trans (hb3.mono HW2.out.size)); skip; have s0 : w3.cell? ⟨(w.heap.size + 1), 0, none⟩ = some (.string ⟨#[]⟩) := (BZ3).cell rfl; have s1 : w3.cell? ⟨(w.heap.size + 1), 1, none⟩ = some (.int .i64 0) := (BZ3).cell rfl; have s2 : w3.cell? ⟨(w.heap.size + 1), 2, none⟩ = some (.int .i64 0) := (BZ3).cell rfl; have s3 : w3.cell? ⟨(w.heap.size + 1), 3, none⟩ = some (.int .i64 0) := (BZ3).cell rfl; have s4 : w3.cell? ⟨(w.heap.size + 1), 4, none⟩ = some (.int .i64 0) := (BZ3).cell rfl; have s5 : w3.cell? ⟨(w.heap.size + 1), 5, none⟩ = some (.int .i64 0) := (BZ3).cell rfl; have s6 : w3.cell? ⟨(w.heap.size + 1), 6, none⟩ = some (.string ⟨#[]⟩) := (BZ3).cell rfl; have s7 : w3.cell? ⟨(w.heap.size + 1), 7, none⟩ = some (.slice none 0 0) := (BZ3).cell rfl; have v0 := (BZ3).free 0; have v1 := (BZ3).free 1; have v2 := (BZ3).free 2; have v3 := (BZ3).free 3; have v4 := (BZ3).free 4; have v5 := (BZ3).free 5; have v6 := (BZ3).free 6; have v7 := (BZ3).free 7; have BZ3' := Lib.hid BZ3; clear BM3 BZ3 hb3))
    refine bodyPost_ret (v := .tuple #[.agg #[.string ⟨#[]⟩, .int .i64 0, .int .i64 0, .int .i64 0, .int .i64 0, .int .i64 0, .string ⟨#[]⟩, .slice none 0 0], .int .i64 E]) (by simp [results, Tryz.f93, go_sem, *]) rfl ⟨none, 0, 0, rfl, ?_, ?_, ?_, ?_⟩
    · exact RB.nil
    · exact Nat.le_refl _
    · exact Nat.zero_le _
    · exact ((((((((HW3.out).setCell (by simp) _).setCell (by simp) _).setCell (by simp) _).setCell (by simp) _).setCell (by simp) _).setCell (by simp) _).setCell (by simp) _).setCell (by simp) _
theorem mfrom_3 (p nm l : ByteArray) (m u g t z k : Int) (B : Option Addr) (nr cr : Nat) (rs : List Rc.Rec) (A : Option Addr) (n c : Nat) (xs : List Int) (w : World) (hr : RL w w.heap.size B nr rs) (hnr : nr ≤ 100000) (ha : RB w w.heap.size A n xs) (hn : n ≤ 100000) (hp : p.size ≤ 1000) (hnm : nm.size ≤ 1000) (hl : l.size ≤ 1000)
    (hs : ∀ r ∈ rs, r.2.size ≤ 100000) (hk : Mb.kin k = 3) (hE : Mb.may (Mb.fP rs p nm) (Mb.told8 rs Mb.kLink l) 3 m u g t 0 = 0) :
    Calls Tryz.prog 93 #[.agg #[.string p, .string nm, .int .i64 m, .int .i64 u, .int .i64 g, .int .i64 t, .int .i64 z, .int .u8 k, .string l], .slice B nr cr, .slice A n c] w fun e w' => ∃ A' n' c', e = .returned (.tuple #[.agg #[.string (Mb.fP rs p nm), .int .i64 3, .int .i64 m, .int .i64 u, .int .i64 g, .int .i64 t, .string (Mb.told8 rs Mb.kLink l), .slice A' n' c'], .int .i64 0]) ∧ RB w' w'.heap.size A' n' [] ∧ n' ≤ c' ∧ c' ≤ maxLen ∧ Below w.heap.size w w' := by
  have hxl := ha.1
  have cpa := fun W => hpath_any p nm l m u g t z k W (by omega) (by omega)
  have ctp := fun W (hW : Below w.heap.size w W) d => mtold_any B nr cr rs Mb.kPath d W ((hr.below hW).more hW.size) hnr
  have ctl := fun W (hW : Below w.heap.size w W) d => mtold_any B nr cr rs Mb.kLink d W ((hr.below hW).more hW.size) hnr
  have ckk := fun W => mkind_any k W
  rw [hk] at ckk
  have ccl := fun W (hb : Below w.heap.size w W) => bclone_any A n c xs W ((ha.below hb).more hb.size) (by omega)
  have ejn : (if p.size = 0 then nm else p ++ ⟨#[47]⟩ ++ nm) = Mb.join p nm := rfl
  rw [ejn] at cpa
  clear ejn
  have hjs : (Mb.join p nm).size ≤ 2001 := by
    unfold Mb.join
    split
    · omega
    · rw [ByteArray.size_append, ByteArray.size_append]
      have : (⟨#[47]⟩ : ByteArray).size = 1 := rfl
      omega
  have hps : (Mb.fP rs p nm).size ≤ 100000 := Mb.told_size (fun r hr => by have := hs r hr; omega) (by omega)
  have hls : (Mb.told8 rs Mb.kLink l).size ≤ 100000 := Mb.told_size hs (by omega)
  have eP : Mb.told8 rs Mb.kPath (Mb.join p nm) = Mb.fP rs p nm := rfl
  have ctp2 := fun W (hW : Below w.heap.size w W) => ctp W hW (Mb.join p nm)
  have ctl2 := fun W (hW : Below w.heap.size w W) => ctl W hW l
  rw [eP] at ctp2
  unfold Mb.kPath at ctp2
  have ek : Mb.kLink = ⟨#[108, 105, 110, 107, 112, 97, 116, 104]⟩ := rfl
  generalize Mb.fP rs p nm = P at *
  generalize Mb.join p nm = J at *
  generalize Mb.told8 rs Mb.kLink l = LL at *
  rw [ek] at ctl2
  have CPA := Lib.hid cpa; have CTP := Lib.hid ctp2; have CTL := Lib.hid (fun W (hW : Below w.heap.size w W) (_ : Unit) => ctl2 W hW); have CKK := Lib.hid ckk; have CCL := Lib.hid ccl; have HXL := Lib.hid hxl
  have cmy := fun (A' : Option Addr) (c' : Nat) W => mmay_any P LL 3 m u g t A' 0 c' W (by omega) (by omega) (by omega)
  rw [hE] at cmy
  have CMY := Lib.hid cmy
  clear cmy hE
  clear cpa ctp ctl ctp2 ctl2 ckk ccl hr ha ek eP hjs hxl hk
  go_enter Tryz.func93, Tryz.ntmps93
  go_upto_region 1 with (fail)
  obtain ⟨W0, hW0⟩ : ∃ W0, W0 = ((w.alloc (.cells #[.string p, .string nm, .int .i64 m, .int .i64 u, .int .i64 g, .int .i64 t, .int .i64 z, .int .u8 k, .string l] 64)).alloc (.cells #[.string ⟨#[]⟩, .int .i64 0, .int .i64 0, .int .i64 0, .int .i64 0, .int .i64 0, .string ⟨#[]⟩, .slice none 0 0] 44)) := ⟨_, rfl⟩
  rw [← hW0]
  have SZ0 := Lib.hid (show W0.heap.size = w.heap.size + 1 + 1 by rw [hW0]; simp)
  have BOX := Lib.hid (show ∀ W, Below W0.heap.size W0 W → BX W w.heap.size 64 #[.string p, .string nm, .int .i64 m, .int .i64 u, .int .i64 g, .int .i64 t, .int .i64 z, .int .u8 k, .string l] ∧ BX W (w.heap.size + 1) 44 #[.string ⟨#[]⟩, .int .i64 0, .int .i64 0, .int .i64 0, .int .i64 0, .int .i64 0, .string ⟨#[]⟩, .slice none 0 0] ∧ Below w.heap.size w W by
    intro W hb
    have hsz := SZ0.out
    rw [hsz] at hb
    rw [hW0] at hb
    refine ⟨((BX.new w _ _).alloc _).below hb (by omega), ?_, (((Below.refl _ w).alloc (Nat.le_refl _) _).alloc (by simp) _).trans (hb.mono (by omega))⟩
    have h := (BX.new (w.alloc (.cells #[.string p, .string nm, .int .i64 m, .int .i64 u, .int .i64 g, .int .i64 t, .int .i64 z, .int .u8 k, .string l] 64)) 44 #[.string ⟨#[]⟩, .int .i64 0, .int .i64 0, .int .i64 0, .int .i64 0, .int .i64 0, .string ⟨#[]⟩, .slice none 0 0]).below (B := w.heap.size + 1 + 1) (w' := W) hb (by simp)
    simpa using h)
  clear hW0
  go_cut [8] (fun v wx => ∃ gb, v = .pointer (some ⟨gb, 0, none⟩) ∧ Hid (W0.heap.size ≤ gb) ∧ Hid (Below W0.heap.size W0 wx) ∧ Hid (BX wx gb 44 #[.string P, .int .i64 3, .int .i64 m, .int .i64 u, .int .i64 g, .int .i64 t, .string ⟨#[]⟩, .slice none 0 0]))
  case first =>
    have hacc : Below W0.heap.size W0 W0.drew := below_drewN (Below.refl _ _) 1
    have alls : ∀ W, Below W0.heap.size W0 W → W.cell? ⟨w.heap.size, 0, none⟩ = some (.string p) ∧ W.cell? ⟨w.heap.size, 1, none⟩ = some (.string nm) ∧ W.cell? ⟨w.heap.size, 2, none⟩ = some (.int .i64 m) ∧ W.cell? ⟨w.heap.size, 3, none⟩ = some (.int .i64 u) ∧ W.cell? ⟨w.heap.size, 4, none⟩ = some (.int .i64 g) ∧ W.cell? ⟨w.heap.size, 5, none⟩ = some (.int .i64 t) ∧ W.cell? ⟨w.heap.size, 6, none⟩ = some (.int .i64 z) ∧ W.cell? ⟨w.heap.size, 7, none⟩ = some (.int .u8 k) ∧ W.cell? ⟨w.heap.size, 8, none⟩ = some (.string l) := fun W hW => by
      obtain ⟨b, _, _⟩ := BOX.out W hW
      exact ⟨b.cell rfl, b.cell rfl, b.cell rfl, b.cell rfl, b.cell rfl, b.cell rfl, b.cell rfl, b.cell rfl, b.cell rfl⟩
    have ALLS := Lib.hid alls
    clear alls
    obtain ⟨y0, y1, y2, y3, y4, y5, y6, y7, y8⟩ := ALLS.out _ hacc
    obtain ⟨x0, x1, x2, x3, x4, x5, x6, x7, x8⟩ := ALLS.out _ (Below.refl W0.heap.size W0)
    have hne0 : W0.heap.size ≠ w.heap.size := by rw [SZ0.out]; omega
    go_region_held3 (fun w' => w'.cell? ⟨w.heap.size, 0, none⟩ = some (.string p) ∧ w'.cell? ⟨w.heap.size, 1, none⟩ = some (.string nm) ∧ w'.cell? ⟨w.heap.size, 2, none⟩ = some (.int .i64 m) ∧ w'.cell? ⟨w.heap.size, 3, none⟩ = some (.int .i64 u) ∧ w'.cell? ⟨w.heap.size, 4, none⟩ = some (.int .i64 g) ∧ w'.cell? ⟨w.heap.size, 5, none⟩ = some (.int .i64 t) ∧ w'.cell? ⟨w.heap.size, 6, none⟩ = some (.int .i64 z) ∧ w'.cell? ⟨w.heap.size, 7, none⟩ = some (.int .u8 k) ∧ w'.cell? ⟨w.heap.size, 8, none⟩ = some (.string l)) (first | go_keep | (exact ALLS.out _ hacc) | (exact ALLS.out _ (hacc.alloc hacc.size _))) (first
      | (go_at_call 126; (with_reducible refine (CPA.out _).mono ?_); rintro e w1 ⟨rfl, hb1⟩; (first | (replace hacc := bthen hacc hb1; have hne1 : w1.heap.size ≠ w.heap.size := (by have h1 := hacc.size; have h2 := SZ0.out; omega)) | (have bz : BX w1 W0.heap.size 44 #[.string ⟨#[]⟩, .int .i64 0, .int .i64 0, .int .i64 0, .int .i64 0, .int .i64 0, .string ⟨#[]⟩, .slice none 0 0] := (BX.drew (BX.new _ _ _)).later hb1; replace hacc := ((mb_new W0 (.cells #[.string ⟨#[]⟩, .int .i64 0, .int .i64 0, .int .i64 0, .int .i64 0, .int .i64 0, .string ⟨#[]⟩, .slice none 0 0] 44)).drew).trans (Below.mono hb1 (by simp <;> omega)); have z0 : w1.cell? ⟨W0.heap.size, 0, none⟩ = some (.string ⟨#[]⟩) := bz.cell rfl; have f0 := bz.free 0; have z1 : w1.cell? ⟨W0.heap.size, 1, none⟩ = some (.int .i64 0) := bz.cell rfl; have f1 := bz.free 1; have z2 : w1.cell? ⟨W0.heap.size, 2, none⟩ = some (.int .i64 0) := bz.cell rfl; have f2 := bz.free 2; have z3 : w1.cell? ⟨W0.heap.size, 3, none⟩ = some (.int .i64 0) := bz.cell rfl; have f3 := bz.free 3; have z4 : w1.cell? ⟨W0.heap.size, 4, none⟩ = some (.int .i64 0) := bz.cell rfl; have f4 := bz.free 4; have z5 : w1.cell? ⟨W0.heap.size, 5, none⟩ = some (.int .i64 0) := bz.cell rfl; have f5 := bz.free 5; have z6 : w1.cell? ⟨W0.heap.size, 6, none⟩ = some (.string ⟨#[]⟩) := bz.cell rfl; have f6 := bz.free 6; have z7 : w1.cell? ⟨W0.heap.size, 7, none⟩ = some (.slice none 0 0) := bz.cell rfl; have f7 := bz.free 7)))
      | (go_at_call 125; (with_reducible refine (CTP.out _ (by first | exact (BOX.out _ hacc).2.2 | exact (BOX.out _ (hacc.alloc hacc.size _)).2.2 | exact (BOX.out _ (mb_new W0 _).drew).2.2)).mono ?_); rintro e w2 ⟨rfl, rfl⟩)
      | (go_at_call 127; (with_reducible refine (CKK.out _).mono ?_); rintro e w3 ⟨rfl, rfl⟩))
    all_goals
      go_wp2
      go_meet
      first
        | exact ⟨_, rfl, hacc.size, hacc.alloc hacc.size _, BX.new _ _ _⟩
        | exact ⟨_, rfl, Nat.le_refl _, ((((((((hacc).setCell (Nat.le_refl _) _).setCell (Nat.le_refl _) _).setCell (Nat.le_refl _) _).setCell (Nat.le_refl _) _).setCell (Nat.le_refl _) _).setCell (Nat.le_refl _) _).setCell (Nat.le_refl _) _).setCell (Nat.le_refl _) _, (by have h := (((((((bz.set 0 (.string P)).set 1 (.int .i64 3)).set 2 (.int .i64 m)).set 3 (.int .i64 u)).set 4 (.int .i64 g)).set 5 (.int .i64 t)).set 6 (.string ⟨#[]⟩)).set 7 (.slice none 0 0); show BX _ _ _ _; simpa using h)⟩
  case rest =>
    obtain ⟨gb, rfl, HG, HBC, HBM⟩ := hcut
    have HNE := Lib.hid (show w.heap.size + 1 ≠ gb by have h1 := HG.out; have h2 := SZ0.out; intro h; change W0.heap.size ≤ gb at h1; omega)
    have HGW := Lib.hid (show w.heap.size ≤ gb by have h1 := HG.out; have h2 := SZ0.out; change W0.heap.size ≤ gb at h1; omega)
    have HGL := Lib.hid (show gb < wc.heap.size from HBM.out.lt)
    have HZL := Lib.hid (show w.heap.size + 1 < wc.heap.size from (BOX.out _ HBC.out).2.1.lt)
    have g0 : wc.cell? ⟨gb, 0, none⟩ = some (.string P) := (HBM.out).cell rfl; have g1 : wc.cell? ⟨gb, 1, none⟩ = some (.int .i64 3) := (HBM.out).cell rfl; have g2 : wc.cell? ⟨gb, 2, none⟩ = some (.int .i64 m) := (HBM.out).cell rfl; have g3 : wc.cell? ⟨gb, 3, none⟩ = some (.int .i64 u) := (HBM.out).cell rfl; have g4 : wc.cell? ⟨gb, 4, none⟩ = some (.int .i64 g) := (HBM.out).cell rfl; have g5 : wc.cell? ⟨gb, 5, none⟩ = some (.int .i64 t) := (HBM.out).cell rfl; have g6 : wc.cell? ⟨gb, 6, none⟩ = some (.string ⟨#[]⟩) := (HBM.out).cell rfl; have g7 : wc.cell? ⟨gb, 7, none⟩ = some (.slice none 0 0) := (HBM.out).cell rfl
    have hl8 : wc.cell? ⟨w.heap.size, 8, none⟩ = some (.string l) := (BOX.out _ HBC.out).1.cell rfl
    have fg := HBM.out.free 6
    have BZ2 := Lib.hid (BX.other (BOX.out _ HBC.out).2.1 HNE.out (j := 6) (.string LL))
    have BS2 := Lib.hid (HBM.out.set 6 (.string LL))
    have HW2 := Lib.hid (Below.setCell (BOX.out _ HBC.out).2.2 (p := ⟨gb, 6, none⟩) HGW.out (.string LL))
    go_wp2_with (first
      | (go_at_call 125; (with_reducible refine (CTL.out _ (BOX.out _ HBC.out).2.2 ()).mono ?_); rintro e w2 ⟨rfl, rfl⟩)
      | (go_at_call 53; (with_reducible refine (CMY.out _ _ _).mono ?_); rintro e w3 ⟨rfl, hb3⟩; have BM3 : BX w3 gb 44 #[.string P, .int .i64 3, .int .i64 m, .int .i64 u, .int .i64 g, .int .i64 t, .string LL, .slice none 0 0] := (by have h := BS2.out.later hb3; simpa using h); have BZ3 := BZ2.out.later hb3; have HW3 := Lib.hid (HW2.out.trans (hb3.mono HW2.out.size)); have r0 : w3.cell? ⟨gb, 0, none⟩ = some (.string P) := (BM3).cell rfl; have r1 : w3.cell? ⟨gb, 1, none⟩ = some (.int .i64 3) := (BM3).cell rfl; have r2 : w3.cell? ⟨gb, 2, none⟩ = some (.int .i64 m) := (BM3).cell rfl; have r3 : w3.cell? ⟨gb, 3, none⟩ = some (.int .i64 u) := (BM3).cell rfl; have r4 : w3.cell? ⟨gb, 4, none⟩ = some (.int .i64 g) := (BM3).cell rfl; have r5 : w3.cell? ⟨gb, 5, none⟩ = some (.int .i64 t) := (BM3).cell rfl; have r6 : w3.cell? ⟨gb, 6, none⟩ = some (.string LL) := (BM3).cell rfl; have r7 : w3.cell? ⟨gb, 7, none⟩ = some (.slice none 0 0) := (BM3).cell rfl; have s0 : w3.cell? ⟨(w.heap.size + 1), 0, none⟩ = some (.string ⟨#[]⟩) := (BZ3).cell rfl; have s1 : w3.cell? ⟨(w.heap.size + 1), 1, none⟩ = some (.int .i64 0) := (BZ3).cell rfl; have s2 : w3.cell? ⟨(w.heap.size + 1), 2, none⟩ = some (.int .i64 0) := (BZ3).cell rfl; have s3 : w3.cell? ⟨(w.heap.size + 1), 3, none⟩ = some (.int .i64 0) := (BZ3).cell rfl; have s4 : w3.cell? ⟨(w.heap.size + 1), 4, none⟩ = some (.int .i64 0) := (BZ3).cell rfl; have s5 : w3.cell? ⟨(w.heap.size + 1), 5, none⟩ = some (.int .i64 0) := (BZ3).cell rfl; have s6 : w3.cell? ⟨(w.heap.size + 1), 6, none⟩ = some (.string ⟨#[]⟩) := (BZ3).cell rfl; have s7 : w3.cell? ⟨(w.heap.size + 1), 7, none⟩ = some (.slice none 0 0) := (BZ3).cell rfl; have v0 := (BZ3).free 0; have v1 := (BZ3).free 1; have v2 := (BZ3).free 2; have v3 := (BZ3).free 3; have v4 := (BZ3).free 4; have v5 := (BZ3).free 5; have v6 := (BZ3).free 6; have v7 := (BZ3).free 7; have BZ3' := Lib.hid BZ3; clear BM3 BZ3 hb3))
    refine bodyPost_ret (v := .tuple #[.agg #[.string P, .int .i64 3, .int .i64 m, .int .i64 u, .int .i64 g, .int .i64 t, .string LL, .slice none 0 0], .int .i64 0]) (by simp [results, Tryz.f93, go_sem, *]) rfl ⟨none, 0, 0, rfl, ?_, ?_, ?_, ?_⟩
    · exact RB.nil
    · exact Nat.le_refl _
    · exact Nat.zero_le _
    · exact ((((((((HW3.out).setCell (by simp) _).setCell (by simp) _).setCell (by simp) _).setCell (by simp) _).setCell (by simp) _).setCell (by simp) _).setCell (by simp) _).setCell (by simp) _
theorem mfrom_3b (p nm l : ByteArray) (m u g t z k : Int) (B : Option Addr) (nr cr : Nat) (rs : List Rc.Rec) (A : Option Addr) (n c : Nat) (xs : List Int) (w : World) (hr : RL w w.heap.size B nr rs) (hnr : nr ≤ 100000) (ha : RB w w.heap.size A n xs) (hn : n ≤ 100000) (hp : p.size ≤ 1000) (hnm : nm.size ≤ 1000) (hl : l.size ≤ 1000)
    (hs : ∀ r ∈ rs, r.2.size ≤ 100000) (hk : Mb.kin k = 3) (hE : ¬ Mb.may (Mb.fP rs p nm) (Mb.told8 rs Mb.kLink l) 3 m u g t 0 = 0) :
    Calls Tryz.prog 93 #[.agg #[.string p, .string nm, .int .i64 m, .int .i64 u, .int .i64 g, .int .i64 t, .int .i64 z, .int .u8 k, .string l], .slice B nr cr, .slice A n c] w fun e w' => ∃ A' n' c', e = .returned (.tuple #[.agg #[.string ⟨#[]⟩, .int .i64 0, .int .i64 0, .int .i64 0, .int .i64 0, .int .i64 0, .string ⟨#[]⟩, .slice A' n' c'], .int .i64 (Mb.may (Mb.fP rs p nm) (Mb.told8 rs Mb.kLink l) 3 m u g t 0)]) ∧ RB w' w'.heap.size A' n' [] ∧ n' ≤ c' ∧ c' ≤ maxLen ∧ Below w.heap.size w w' := by
  have hxl := ha.1
  have cpa := fun W => hpath_any p nm l m u g t z k W (by omega) (by omega)
  have ctp := fun W (hW : Below w.heap.size w W) d => mtold_any B nr cr rs Mb.kPath d W ((hr.below hW).more hW.size) hnr
  have ctl := fun W (hW : Below w.heap.size w W) d => mtold_any B nr cr rs Mb.kLink d W ((hr.below hW).more hW.size) hnr
  have ckk := fun W => mkind_any k W
  rw [hk] at ckk
  have ccl := fun W (hb : Below w.heap.size w W) => bclone_any A n c xs W ((ha.below hb).more hb.size) (by omega)
  have ejn : (if p.size = 0 then nm else p ++ ⟨#[47]⟩ ++ nm) = Mb.join p nm := rfl
  rw [ejn] at cpa
  clear ejn
  have hjs : (Mb.join p nm).size ≤ 2001 := by
    unfold Mb.join
    split
    · omega
    · rw [ByteArray.size_append, ByteArray.size_append]
      have : (⟨#[47]⟩ : ByteArray).size = 1 := rfl
      omega
  have hps : (Mb.fP rs p nm).size ≤ 100000 := Mb.told_size (fun r hr => by have := hs r hr; omega) (by omega)
  have hls : (Mb.told8 rs Mb.kLink l).size ≤ 100000 := Mb.told_size hs (by omega)
  have eP : Mb.told8 rs Mb.kPath (Mb.join p nm) = Mb.fP rs p nm := rfl
  have ctp2 := fun W (hW : Below w.heap.size w W) => ctp W hW (Mb.join p nm)
  have ctl2 := fun W (hW : Below w.heap.size w W) => ctl W hW l
  rw [eP] at ctp2
  unfold Mb.kPath at ctp2
  have ek : Mb.kLink = ⟨#[108, 105, 110, 107, 112, 97, 116, 104]⟩ := rfl
  generalize Mb.fP rs p nm = P at *
  generalize Mb.join p nm = J at *
  generalize Mb.told8 rs Mb.kLink l = LL at *
  rw [ek] at ctl2
  have CPA := Lib.hid cpa; have CTP := Lib.hid ctp2; have CTL := Lib.hid (fun W (hW : Below w.heap.size w W) (_ : Unit) => ctl2 W hW); have CKK := Lib.hid ckk; have CCL := Lib.hid ccl; have HXL := Lib.hid hxl
  have cmy := fun (A' : Option Addr) (c' : Nat) W => mmay_any P LL 3 m u g t A' 0 c' W (by omega) (by omega) (by omega)
  generalize Mb.may P LL 3 m u g t 0 = E at *
  have hE1 : (E == 0) = false := by simp [hE]
  have hE2 : (E != 0) = true := by simp [hE]
  have CMY := Lib.hid cmy
  clear cmy hE
  clear cpa ctp ctl ctp2 ctl2 ckk ccl hr ha ek eP hjs hxl hk
  go_enter Tryz.func93, Tryz.ntmps93
  go_upto_region 1 with (fail)
  obtain ⟨W0, hW0⟩ : ∃ W0, W0 = ((w.alloc (.cells #[.string p, .string nm, .int .i64 m, .int .i64 u, .int .i64 g, .int .i64 t, .int .i64 z, .int .u8 k, .string l] 64)).alloc (.cells #[.string ⟨#[]⟩, .int .i64 0, .int .i64 0, .int .i64 0, .int .i64 0, .int .i64 0, .string ⟨#[]⟩, .slice none 0 0] 44)) := ⟨_, rfl⟩
  rw [← hW0]
  have SZ0 := Lib.hid (show W0.heap.size = w.heap.size + 1 + 1 by rw [hW0]; simp)
  have BOX := Lib.hid (show ∀ W, Below W0.heap.size W0 W → BX W w.heap.size 64 #[.string p, .string nm, .int .i64 m, .int .i64 u, .int .i64 g, .int .i64 t, .int .i64 z, .int .u8 k, .string l] ∧ BX W (w.heap.size + 1) 44 #[.string ⟨#[]⟩, .int .i64 0, .int .i64 0, .int .i64 0, .int .i64 0, .int .i64 0, .string ⟨#[]⟩, .slice none 0 0] ∧ Below w.heap.size w W by
    intro W hb
    have hsz := SZ0.out
    rw [hsz] at hb
    rw [hW0] at hb
    refine ⟨((BX.new w _ _).alloc _).below hb (by omega), ?_, (((Below.refl _ w).alloc (Nat.le_refl _) _).alloc (by simp) _).trans (hb.mono (by omega))⟩
    have h := (BX.new (w.alloc (.cells #[.string p, .string nm, .int .i64 m, .int .i64 u, .int .i64 g, .int .i64 t, .int .i64 z, .int .u8 k, .string l] 64)) 44 #[.string ⟨#[]⟩, .int .i64 0, .int .i64 0, .int .i64 0, .int .i64 0, .int .i64 0, .string ⟨#[]⟩, .slice none 0 0]).below (B := w.heap.size + 1 + 1) (w' := W) hb (by simp)
    simpa using h)
  clear hW0
  go_cut [8] (fun v wx => ∃ gb, v = .pointer (some ⟨gb, 0, none⟩) ∧ Hid (W0.heap.size ≤ gb) ∧ Hid (Below W0.heap.size W0 wx) ∧ Hid (BX wx gb 44 #[.string P, .int .i64 3, .int .i64 m, .int .i64 u, .int .i64 g, .int .i64 t, .string ⟨#[]⟩, .slice none 0 0]))
  case first =>
    have hacc : Below W0.heap.size W0 W0.drew := below_drewN (Below.refl _ _) 1
    have alls : ∀ W, Below W0.heap.size W0 W → W.cell? ⟨w.heap.size, 0, none⟩ = some (.string p) ∧ W.cell? ⟨w.heap.size, 1, none⟩ = some (.string nm) ∧ W.cell? ⟨w.heap.size, 2, none⟩ = some (.int .i64 m) ∧ W.cell? ⟨w.heap.size, 3, none⟩ = some (.int .i64 u) ∧ W.cell? ⟨w.heap.size, 4, none⟩ = some (.int .i64 g) ∧ W.cell? ⟨w.heap.size, 5, none⟩ = some (.int .i64 t) ∧ W.cell? ⟨w.heap.size, 6, none⟩ = some (.int .i64 z) ∧ W.cell? ⟨w.heap.size, 7, none⟩ = some (.int .u8 k) ∧ W.cell? ⟨w.heap.size, 8, none⟩ = some (.string l) := fun W hW => by
      obtain ⟨b, _, _⟩ := BOX.out W hW
      exact ⟨b.cell rfl, b.cell rfl, b.cell rfl, b.cell rfl, b.cell rfl, b.cell rfl, b.cell rfl, b.cell rfl, b.cell rfl⟩
    have ALLS := Lib.hid alls
    clear alls
    obtain ⟨y0, y1, y2, y3, y4, y5, y6, y7, y8⟩ := ALLS.out _ hacc
    obtain ⟨x0, x1, x2, x3, x4, x5, x6, x7, x8⟩ := ALLS.out _ (Below.refl W0.heap.size W0)
    have hne0 : W0.heap.size ≠ w.heap.size := by rw [SZ0.out]; omega
    go_region_held3 (fun w' => w'.cell? ⟨w.heap.size, 0, none⟩ = some (.string p) ∧ w'.cell? ⟨w.heap.size, 1, none⟩ = some (.string nm) ∧ w'.cell? ⟨w.heap.size, 2, none⟩ = some (.int .i64 m) ∧ w'.cell? ⟨w.heap.size, 3, none⟩ = some (.int .i64 u) ∧ w'.cell? ⟨w.heap.size, 4, none⟩ = some (.int .i64 g) ∧ w'.cell? ⟨w.heap.size, 5, none⟩ = some (.int .i64 t) ∧ w'.cell? ⟨w.heap.size, 6, none⟩ = some (.int .i64 z) ∧ w'.cell? ⟨w.heap.size, 7, none⟩ = some (.int .u8 k) ∧ w'.cell? ⟨w.heap.size, 8, none⟩ = some (.string l)) (first | go_keep | (exact ALLS.out _ hacc) | (exact ALLS.out _ (hacc.alloc hacc.size _))) (first
      | (go_at_call 126; (with_reducible refine (CPA.out _).mono ?_); rintro e w1 ⟨rfl, hb1⟩; (first | (replace hacc := bthen hacc hb1; have hne1 : w1.heap.size ≠ w.heap.size := (by have h1 := hacc.size; have h2 := SZ0.out; omega)) | (have bz : BX w1 W0.heap.size 44 #[.string ⟨#[]⟩, .int .i64 0, .int .i64 0, .int .i64 0, .int .i64 0, .int .i64 0, .string ⟨#[]⟩, .slice none 0 0] := (BX.drew (BX.new _ _ _)).later hb1; replace hacc := ((mb_new W0 (.cells #[.string ⟨#[]⟩, .int .i64 0, .int .i64 0, .int .i64 0, .int .i64 0, .int .i64 0, .string ⟨#[]⟩, .slice none 0 0] 44)).drew).trans (Below.mono hb1 (by simp <;> omega)); have z0 : w1.cell? ⟨W0.heap.size, 0, none⟩ = some (.string ⟨#[]⟩) := bz.cell rfl; have f0 := bz.free 0; have z1 : w1.cell? ⟨W0.heap.size, 1, none⟩ = some (.int .i64 0) := bz.cell rfl; have f1 := bz.free 1; have z2 : w1.cell? ⟨W0.heap.size, 2, none⟩ = some (.int .i64 0) := bz.cell rfl; have f2 := bz.free 2; have z3 : w1.cell? ⟨W0.heap.size, 3, none⟩ = some (.int .i64 0) := bz.cell rfl; have f3 := bz.free 3; have z4 : w1.cell? ⟨W0.heap.size, 4, none⟩ = some (.int .i64 0) := bz.cell rfl; have f4 := bz.free 4; have z5 : w1.cell? ⟨W0.heap.size, 5, none⟩ = some (.int .i64 0) := bz.cell rfl; have f5 := bz.free 5; have z6 : w1.cell? ⟨W0.heap.size, 6, none⟩ = some (.string ⟨#[]⟩) := bz.cell rfl; have f6 := bz.free 6; have z7 : w1.cell? ⟨W0.heap.size, 7, none⟩ = some (.slice none 0 0) := bz.cell rfl; have f7 := bz.free 7)))
      | (go_at_call 125; (with_reducible refine (CTP.out _ (by first | exact (BOX.out _ hacc).2.2 | exact (BOX.out _ (hacc.alloc hacc.size _)).2.2 | exact (BOX.out _ (mb_new W0 _).drew).2.2)).mono ?_); rintro e w2 ⟨rfl, rfl⟩)
      | (go_at_call 127; (with_reducible refine (CKK.out _).mono ?_); rintro e w3 ⟨rfl, rfl⟩))
    all_goals
      go_wp2
      go_meet
      first
        | exact ⟨_, rfl, hacc.size, hacc.alloc hacc.size _, BX.new _ _ _⟩
        | exact ⟨_, rfl, Nat.le_refl _, ((((((((hacc).setCell (Nat.le_refl _) _).setCell (Nat.le_refl _) _).setCell (Nat.le_refl _) _).setCell (Nat.le_refl _) _).setCell (Nat.le_refl _) _).setCell (Nat.le_refl _) _).setCell (Nat.le_refl _) _).setCell (Nat.le_refl _) _, (by have h := (((((((bz.set 0 (.string P)).set 1 (.int .i64 3)).set 2 (.int .i64 m)).set 3 (.int .i64 u)).set 4 (.int .i64 g)).set 5 (.int .i64 t)).set 6 (.string ⟨#[]⟩)).set 7 (.slice none 0 0); show BX _ _ _ _; simpa using h)⟩
  case rest =>
    obtain ⟨gb, rfl, HG, HBC, HBM⟩ := hcut
    have HNE := Lib.hid (show w.heap.size + 1 ≠ gb by have h1 := HG.out; have h2 := SZ0.out; intro h; change W0.heap.size ≤ gb at h1; omega)
    have HGW := Lib.hid (show w.heap.size ≤ gb by have h1 := HG.out; have h2 := SZ0.out; change W0.heap.size ≤ gb at h1; omega)
    have HGL := Lib.hid (show gb < wc.heap.size from HBM.out.lt)
    have HZL := Lib.hid (show w.heap.size + 1 < wc.heap.size from (BOX.out _ HBC.out).2.1.lt)
    have g0 : wc.cell? ⟨gb, 0, none⟩ = some (.string P) := (HBM.out).cell rfl; have g1 : wc.cell? ⟨gb, 1, none⟩ = some (.int .i64 3) := (HBM.out).cell rfl; have g2 : wc.cell? ⟨gb, 2, none⟩ = some (.int .i64 m) := (HBM.out).cell rfl; have g3 : wc.cell? ⟨gb, 3, none⟩ = some (.int .i64 u) := (HBM.out).cell rfl; have g4 : wc.cell? ⟨gb, 4, none⟩ = some (.int .i64 g) := (HBM.out).cell rfl; have g5 : wc.cell? ⟨gb, 5, none⟩ = some (.int .i64 t) := (HBM.out).cell rfl; have g6 : wc.cell? ⟨gb, 6, none⟩ = some (.string ⟨#[]⟩) := (HBM.out).cell rfl; have g7 : wc.cell? ⟨gb, 7, none⟩ = some (.slice none 0 0) := (HBM.out).cell rfl
    have hl8 : wc.cell? ⟨w.heap.size, 8, none⟩ = some (.string l) := (BOX.out _ HBC.out).1.cell rfl
    have fg := HBM.out.free 6
    have BZ2 := Lib.hid (BX.other (BOX.out _ HBC.out).2.1 HNE.out (j := 6) (.string LL))
    have BS2 := Lib.hid (HBM.out.set 6 (.string LL))
    have HW2 := Lib.hid (Below.setCell (BOX.out _ HBC.out).2.2 (p := ⟨gb, 6, none⟩) HGW.out (.string LL))
    go_wp2_with (first
      | (go_at_call 125; (with_reducible refine (CTL.out _ (BOX.out _ HBC.out).2.2 ()).mono ?_); rintro e w2 ⟨rfl, rfl⟩)
      | (go_at_call 53; (with_reducible refine (CMY.out _ _ _).mono ?_); rintro e w3 ⟨rfl, hb3⟩; have BM3 : BX w3 gb 44 #[.string P, .int .i64 3, .int .i64 m, .int .i64 u, .int .i64 g, .int .i64 t, .string LL, .slice none 0 0] := (by have h := BS2.out.later hb3; simpa using h); have BZ3 := BZ2.out.later hb3; have HW3 := Lib.hid (HW2.out.trans (hb3.mono HW2.out.size)); skip; have s0 : w3.cell? ⟨(w.heap.size + 1), 0, none⟩ = some (.string ⟨#[]⟩) := (BZ3).cell rfl; have s1 : w3.cell? ⟨(w.heap.size + 1), 1, none⟩ = some (.int .i64 0) := (BZ3).cell rfl; have s2 : w3.cell? ⟨(w.heap.size + 1), 2, none⟩ = some (.int .i64 0) := (BZ3).cell rfl; have s3 : w3.cell? ⟨(w.heap.size + 1), 3, none⟩ = some (.int .i64 0) := (BZ3).cell rfl; have s4 : w3.cell? ⟨(w.heap.size + 1), 4, none⟩ = some (.int .i64 0) := (BZ3).cell rfl; have s5 : w3.cell? ⟨(w.heap.size + 1), 5, none⟩ = some (.int .i64 0) := (BZ3).cell rfl; have s6 : w3.cell? ⟨(w.heap.size + 1), 6, none⟩ = some (.string ⟨#[]⟩) := (BZ3).cell rfl; have s7 : w3.cell? ⟨(w.heap.size + 1), 7, none⟩ = some (.slice none 0 0) := (BZ3).cell rfl; have v0 := (BZ3).free 0; have v1 := (BZ3).free 1; have v2 := (BZ3).free 2; have v3 := (BZ3).free 3; have v4 := (BZ3).free 4; have v5 := (BZ3).free 5; have v6 := (BZ3).free 6; have v7 := (BZ3).free 7; have BZ3' := Lib.hid BZ3; clear BM3 BZ3 hb3))
    refine bodyPost_ret (v := .tuple #[.agg #[.string ⟨#[]⟩, .int .i64 0, .int .i64 0, .int .i64 0, .int .i64 0, .int .i64 0, .string ⟨#[]⟩, .slice none 0 0], .int .i64 E]) (by simp [results, Tryz.f93, go_sem, *]) rfl ⟨none, 0, 0, rfl, ?_, ?_, ?_, ?_⟩
    · exact RB.nil
    · exact Nat.le_refl _
    · exact Nat.zero_le _
    · exact ((((((((HW3.out).setCell (by simp) _).setCell (by simp) _).setCell (by simp) _).setCell (by simp) _).setCell (by simp) _).setCell (by simp) _).setCell (by simp) _).setCell (by simp) _
theorem mfrom_4 (p nm l : ByteArray) (m u g t z k : Int) (B : Option Addr) (nr cr : Nat) (rs : List Rc.Rec) (A : Option Addr) (n c : Nat) (xs : List Int) (w : World) (hr : RL w w.heap.size B nr rs) (hnr : nr ≤ 100000) (ha : RB w w.heap.size A n xs) (hn : n ≤ 100000) (hp : p.size ≤ 1000) (hnm : nm.size ≤ 1000) (hl : l.size ≤ 1000)
    (hs : ∀ r ∈ rs, r.2.size ≤ 100000) (hk : Mb.kin k = 4) (hE : Mb.may (Mb.fP rs p nm) (⟨#[]⟩) 4 m u g t 0 = 0) :
    Calls Tryz.prog 93 #[.agg #[.string p, .string nm, .int .i64 m, .int .i64 u, .int .i64 g, .int .i64 t, .int .i64 z, .int .u8 k, .string l], .slice B nr cr, .slice A n c] w fun e w' => ∃ A' n' c', e = .returned (.tuple #[.agg #[.string (Mb.fP rs p nm), .int .i64 4, .int .i64 m, .int .i64 u, .int .i64 g, .int .i64 t, .string (⟨#[]⟩), .slice A' n' c'], .int .i64 0]) ∧ RB w' w'.heap.size A' n' [] ∧ n' ≤ c' ∧ c' ≤ maxLen ∧ Below w.heap.size w w' := by
  have hxl := ha.1
  have cpa := fun W => hpath_any p nm l m u g t z k W (by omega) (by omega)
  have ctp := fun W (hW : Below w.heap.size w W) d => mtold_any B nr cr rs Mb.kPath d W ((hr.below hW).more hW.size) hnr
  have ctl := fun W (hW : Below w.heap.size w W) d => mtold_any B nr cr rs Mb.kLink d W ((hr.below hW).more hW.size) hnr
  have ckk := fun W => mkind_any k W
  rw [hk] at ckk
  have ccl := fun W (hb : Below w.heap.size w W) => bclone_any A n c xs W ((ha.below hb).more hb.size) (by omega)
  have ejn : (if p.size = 0 then nm else p ++ ⟨#[47]⟩ ++ nm) = Mb.join p nm := rfl
  rw [ejn] at cpa
  clear ejn
  have hjs : (Mb.join p nm).size ≤ 2001 := by
    unfold Mb.join
    split
    · omega
    · rw [ByteArray.size_append, ByteArray.size_append]
      have : (⟨#[47]⟩ : ByteArray).size = 1 := rfl
      omega
  have hps : (Mb.fP rs p nm).size ≤ 100000 := Mb.told_size (fun r hr => by have := hs r hr; omega) (by omega)
  have hls : (Mb.told8 rs Mb.kLink l).size ≤ 100000 := Mb.told_size hs (by omega)
  have eP : Mb.told8 rs Mb.kPath (Mb.join p nm) = Mb.fP rs p nm := rfl
  have ctp2 := fun W (hW : Below w.heap.size w W) => ctp W hW (Mb.join p nm)
  have ctl2 := fun W (hW : Below w.heap.size w W) => ctl W hW l
  rw [eP] at ctp2
  unfold Mb.kPath at ctp2
  have ek : Mb.kLink = ⟨#[108, 105, 110, 107, 112, 97, 116, 104]⟩ := rfl
  generalize Mb.fP rs p nm = P at *
  generalize Mb.join p nm = J at *
  generalize Mb.told8 rs Mb.kLink l = LL at *
  rw [ek] at ctl2
  have CPA := Lib.hid cpa; have CTP := Lib.hid ctp2; have CTL := Lib.hid (fun W (hW : Below w.heap.size w W) (_ : Unit) => ctl2 W hW); have CKK := Lib.hid ckk; have CCL := Lib.hid ccl; have HXL := Lib.hid hxl
  have cmy := fun (A' : Option Addr) (c' : Nat) W => mmay_any P ⟨#[]⟩ 4 m u g t A' 0 c' W (by omega) (by decide) (by omega)
  rw [hE] at cmy
  have CMY := Lib.hid cmy
  clear cmy hE
  clear cpa ctp ctl ctp2 ctl2 ckk ccl hr ha ek eP hjs hxl hk
  go_enter Tryz.func93, Tryz.ntmps93
  go_upto_region 1 with (fail)
  obtain ⟨W0, hW0⟩ : ∃ W0, W0 = ((w.alloc (.cells #[.string p, .string nm, .int .i64 m, .int .i64 u, .int .i64 g, .int .i64 t, .int .i64 z, .int .u8 k, .string l] 64)).alloc (.cells #[.string ⟨#[]⟩, .int .i64 0, .int .i64 0, .int .i64 0, .int .i64 0, .int .i64 0, .string ⟨#[]⟩, .slice none 0 0] 44)) := ⟨_, rfl⟩
  rw [← hW0]
  have SZ0 := Lib.hid (show W0.heap.size = w.heap.size + 1 + 1 by rw [hW0]; simp)
  have BOX := Lib.hid (show ∀ W, Below W0.heap.size W0 W → BX W w.heap.size 64 #[.string p, .string nm, .int .i64 m, .int .i64 u, .int .i64 g, .int .i64 t, .int .i64 z, .int .u8 k, .string l] ∧ BX W (w.heap.size + 1) 44 #[.string ⟨#[]⟩, .int .i64 0, .int .i64 0, .int .i64 0, .int .i64 0, .int .i64 0, .string ⟨#[]⟩, .slice none 0 0] ∧ Below w.heap.size w W by
    intro W hb
    have hsz := SZ0.out
    rw [hsz] at hb
    rw [hW0] at hb
    refine ⟨((BX.new w _ _).alloc _).below hb (by omega), ?_, (((Below.refl _ w).alloc (Nat.le_refl _) _).alloc (by simp) _).trans (hb.mono (by omega))⟩
    have h := (BX.new (w.alloc (.cells #[.string p, .string nm, .int .i64 m, .int .i64 u, .int .i64 g, .int .i64 t, .int .i64 z, .int .u8 k, .string l] 64)) 44 #[.string ⟨#[]⟩, .int .i64 0, .int .i64 0, .int .i64 0, .int .i64 0, .int .i64 0, .string ⟨#[]⟩, .slice none 0 0]).below (B := w.heap.size + 1 + 1) (w' := W) hb (by simp)
    simpa using h)
  clear hW0
  go_cut [8] (fun v wx => ∃ gb, v = .pointer (some ⟨gb, 0, none⟩) ∧ Hid (W0.heap.size ≤ gb) ∧ Hid (Below W0.heap.size W0 wx) ∧ Hid (BX wx gb 44 #[.string P, .int .i64 4, .int .i64 m, .int .i64 u, .int .i64 g, .int .i64 t, .string ⟨#[]⟩, .slice none 0 0]))
  case first =>
    have hacc : Below W0.heap.size W0 W0.drew := below_drewN (Below.refl _ _) 1
    have alls : ∀ W, Below W0.heap.size W0 W → W.cell? ⟨w.heap.size, 0, none⟩ = some (.string p) ∧ W.cell? ⟨w.heap.size, 1, none⟩ = some (.string nm) ∧ W.cell? ⟨w.heap.size, 2, none⟩ = some (.int .i64 m) ∧ W.cell? ⟨w.heap.size, 3, none⟩ = some (.int .i64 u) ∧ W.cell? ⟨w.heap.size, 4, none⟩ = some (.int .i64 g) ∧ W.cell? ⟨w.heap.size, 5, none⟩ = some (.int .i64 t) ∧ W.cell? ⟨w.heap.size, 6, none⟩ = some (.int .i64 z) ∧ W.cell? ⟨w.heap.size, 7, none⟩ = some (.int .u8 k) ∧ W.cell? ⟨w.heap.size, 8, none⟩ = some (.string l) := fun W hW => by
      obtain ⟨b, _, _⟩ := BOX.out W hW
      exact ⟨b.cell rfl, b.cell rfl, b.cell rfl, b.cell rfl, b.cell rfl, b.cell rfl, b.cell rfl, b.cell rfl, b.cell rfl⟩
    have ALLS := Lib.hid alls
    clear alls
    obtain ⟨y0, y1, y2, y3, y4, y5, y6, y7, y8⟩ := ALLS.out _ hacc
    obtain ⟨x0, x1, x2, x3, x4, x5, x6, x7, x8⟩ := ALLS.out _ (Below.refl W0.heap.size W0)
    have hne0 : W0.heap.size ≠ w.heap.size := by rw [SZ0.out]; omega
    go_region_held3 (fun w' => w'.cell? ⟨w.heap.size, 0, none⟩ = some (.string p) ∧ w'.cell? ⟨w.heap.size, 1, none⟩ = some (.string nm) ∧ w'.cell? ⟨w.heap.size, 2, none⟩ = some (.int .i64 m) ∧ w'.cell? ⟨w.heap.size, 3, none⟩ = some (.int .i64 u) ∧ w'.cell? ⟨w.heap.size, 4, none⟩ = some (.int .i64 g) ∧ w'.cell? ⟨w.heap.size, 5, none⟩ = some (.int .i64 t) ∧ w'.cell? ⟨w.heap.size, 6, none⟩ = some (.int .i64 z) ∧ w'.cell? ⟨w.heap.size, 7, none⟩ = some (.int .u8 k) ∧ w'.cell? ⟨w.heap.size, 8, none⟩ = some (.string l)) (first | go_keep | (exact ALLS.out _ hacc) | (exact ALLS.out _ (hacc.alloc hacc.size _))) (first
      | (go_at_call 126; (with_reducible refine (CPA.out _).mono ?_); rintro e w1 ⟨rfl, hb1⟩; (first | (replace hacc := bthen hacc hb1; have hne1 : w1.heap.size ≠ w.heap.size := (by have h1 := hacc.size; have h2 := SZ0.out; omega)) | (have bz : BX w1 W0.heap.size 44 #[.string ⟨#[]⟩, .int .i64 0, .int .i64 0, .int .i64 0, .int .i64 0, .int .i64 0, .string ⟨#[]⟩, .slice none 0 0] := (BX.drew (BX.new _ _ _)).later hb1; replace hacc := ((mb_new W0 (.cells #[.string ⟨#[]⟩, .int .i64 0, .int .i64 0, .int .i64 0, .int .i64 0, .int .i64 0, .string ⟨#[]⟩, .slice none 0 0] 44)).drew).trans (Below.mono hb1 (by simp <;> omega)); have z0 : w1.cell? ⟨W0.heap.size, 0, none⟩ = some (.string ⟨#[]⟩) := bz.cell rfl; have f0 := bz.free 0; have z1 : w1.cell? ⟨W0.heap.size, 1, none⟩ = some (.int .i64 0) := bz.cell rfl; have f1 := bz.free 1; have z2 : w1.cell? ⟨W0.heap.size, 2, none⟩ = some (.int .i64 0) := bz.cell rfl; have f2 := bz.free 2; have z3 : w1.cell? ⟨W0.heap.size, 3, none⟩ = some (.int .i64 0) := bz.cell rfl; have f3 := bz.free 3; have z4 : w1.cell? ⟨W0.heap.size, 4, none⟩ = some (.int .i64 0) := bz.cell rfl; have f4 := bz.free 4; have z5 : w1.cell? ⟨W0.heap.size, 5, none⟩ = some (.int .i64 0) := bz.cell rfl; have f5 := bz.free 5; have z6 : w1.cell? ⟨W0.heap.size, 6, none⟩ = some (.string ⟨#[]⟩) := bz.cell rfl; have f6 := bz.free 6; have z7 : w1.cell? ⟨W0.heap.size, 7, none⟩ = some (.slice none 0 0) := bz.cell rfl; have f7 := bz.free 7)))
      | (go_at_call 125; (with_reducible refine (CTP.out _ (by first | exact (BOX.out _ hacc).2.2 | exact (BOX.out _ (hacc.alloc hacc.size _)).2.2 | exact (BOX.out _ (mb_new W0 _).drew).2.2)).mono ?_); rintro e w2 ⟨rfl, rfl⟩)
      | (go_at_call 127; (with_reducible refine (CKK.out _).mono ?_); rintro e w3 ⟨rfl, rfl⟩))
    all_goals
      go_wp2
      go_meet
      first
        | exact ⟨_, rfl, hacc.size, hacc.alloc hacc.size _, BX.new _ _ _⟩
        | exact ⟨_, rfl, Nat.le_refl _, ((((((((hacc).setCell (Nat.le_refl _) _).setCell (Nat.le_refl _) _).setCell (Nat.le_refl _) _).setCell (Nat.le_refl _) _).setCell (Nat.le_refl _) _).setCell (Nat.le_refl _) _).setCell (Nat.le_refl _) _).setCell (Nat.le_refl _) _, (by have h := (((((((bz.set 0 (.string P)).set 1 (.int .i64 4)).set 2 (.int .i64 m)).set 3 (.int .i64 u)).set 4 (.int .i64 g)).set 5 (.int .i64 t)).set 6 (.string ⟨#[]⟩)).set 7 (.slice none 0 0); show BX _ _ _ _; simpa using h)⟩
  case rest =>
    obtain ⟨gb, rfl, HG, HBC, HBM⟩ := hcut
    have HNE := Lib.hid (show w.heap.size + 1 ≠ gb by have h1 := HG.out; have h2 := SZ0.out; intro h; change W0.heap.size ≤ gb at h1; omega)
    have HGW := Lib.hid (show w.heap.size ≤ gb by have h1 := HG.out; have h2 := SZ0.out; change W0.heap.size ≤ gb at h1; omega)
    have HGL := Lib.hid (show gb < wc.heap.size from HBM.out.lt)
    have HZL := Lib.hid (show w.heap.size + 1 < wc.heap.size from (BOX.out _ HBC.out).2.1.lt)
    have g0 : wc.cell? ⟨gb, 0, none⟩ = some (.string P) := (HBM.out).cell rfl; have g1 : wc.cell? ⟨gb, 1, none⟩ = some (.int .i64 4) := (HBM.out).cell rfl; have g2 : wc.cell? ⟨gb, 2, none⟩ = some (.int .i64 m) := (HBM.out).cell rfl; have g3 : wc.cell? ⟨gb, 3, none⟩ = some (.int .i64 u) := (HBM.out).cell rfl; have g4 : wc.cell? ⟨gb, 4, none⟩ = some (.int .i64 g) := (HBM.out).cell rfl; have g5 : wc.cell? ⟨gb, 5, none⟩ = some (.int .i64 t) := (HBM.out).cell rfl; have g6 : wc.cell? ⟨gb, 6, none⟩ = some (.string ⟨#[]⟩) := (HBM.out).cell rfl; have g7 : wc.cell? ⟨gb, 7, none⟩ = some (.slice none 0 0) := (HBM.out).cell rfl
    have BZ2 := Lib.hid (BOX.out _ HBC.out).2.1
    have BS2 := Lib.hid HBM.out
    have HW2 := Lib.hid (BOX.out _ HBC.out).2.2
    go_wp2_with (first
      | (go_at_call 53; (with_reducible refine (CMY.out _ _ _).mono ?_); rintro e w3 ⟨rfl, hb3⟩; have BM3 : BX w3 gb 44 #[.string P, .int .i64 4, .int .i64 m, .int .i64 u, .int .i64 g, .int .i64 t, .string ⟨#[]⟩, .slice none 0 0] := (by have h := BS2.out.later hb3; simpa using h); have BZ3 := BZ2.out.later hb3; have HW3 := Lib.hid (HW2.out.trans (hb3.mono HW2.out.size)); have r0 : w3.cell? ⟨gb, 0, none⟩ = some (.string P) := (BM3).cell rfl; have r1 : w3.cell? ⟨gb, 1, none⟩ = some (.int .i64 4) := (BM3).cell rfl; have r2 : w3.cell? ⟨gb, 2, none⟩ = some (.int .i64 m) := (BM3).cell rfl; have r3 : w3.cell? ⟨gb, 3, none⟩ = some (.int .i64 u) := (BM3).cell rfl; have r4 : w3.cell? ⟨gb, 4, none⟩ = some (.int .i64 g) := (BM3).cell rfl; have r5 : w3.cell? ⟨gb, 5, none⟩ = some (.int .i64 t) := (BM3).cell rfl; have r6 : w3.cell? ⟨gb, 6, none⟩ = some (.string ⟨#[]⟩) := (BM3).cell rfl; have r7 : w3.cell? ⟨gb, 7, none⟩ = some (.slice none 0 0) := (BM3).cell rfl; have s0 : w3.cell? ⟨(w.heap.size + 1), 0, none⟩ = some (.string ⟨#[]⟩) := (BZ3).cell rfl; have s1 : w3.cell? ⟨(w.heap.size + 1), 1, none⟩ = some (.int .i64 0) := (BZ3).cell rfl; have s2 : w3.cell? ⟨(w.heap.size + 1), 2, none⟩ = some (.int .i64 0) := (BZ3).cell rfl; have s3 : w3.cell? ⟨(w.heap.size + 1), 3, none⟩ = some (.int .i64 0) := (BZ3).cell rfl; have s4 : w3.cell? ⟨(w.heap.size + 1), 4, none⟩ = some (.int .i64 0) := (BZ3).cell rfl; have s5 : w3.cell? ⟨(w.heap.size + 1), 5, none⟩ = some (.int .i64 0) := (BZ3).cell rfl; have s6 : w3.cell? ⟨(w.heap.size + 1), 6, none⟩ = some (.string ⟨#[]⟩) := (BZ3).cell rfl; have s7 : w3.cell? ⟨(w.heap.size + 1), 7, none⟩ = some (.slice none 0 0) := (BZ3).cell rfl; have v0 := (BZ3).free 0; have v1 := (BZ3).free 1; have v2 := (BZ3).free 2; have v3 := (BZ3).free 3; have v4 := (BZ3).free 4; have v5 := (BZ3).free 5; have v6 := (BZ3).free 6; have v7 := (BZ3).free 7; have BZ3' := Lib.hid BZ3; clear BM3 BZ3 hb3))
    refine bodyPost_ret (v := .tuple #[.agg #[.string P, .int .i64 4, .int .i64 m, .int .i64 u, .int .i64 g, .int .i64 t, .string ⟨#[]⟩, .slice none 0 0], .int .i64 0]) (by simp [results, Tryz.f93, go_sem, *]) rfl ⟨none, 0, 0, rfl, ?_, ?_, ?_, ?_⟩
    · exact RB.nil
    · exact Nat.le_refl _
    · exact Nat.zero_le _
    · exact ((((((((HW3.out).setCell (by simp) _).setCell (by simp) _).setCell (by simp) _).setCell (by simp) _).setCell (by simp) _).setCell (by simp) _).setCell (by simp) _).setCell (by simp) _
theorem mfrom_4b (p nm l : ByteArray) (m u g t z k : Int) (B : Option Addr) (nr cr : Nat) (rs : List Rc.Rec) (A : Option Addr) (n c : Nat) (xs : List Int) (w : World) (hr : RL w w.heap.size B nr rs) (hnr : nr ≤ 100000) (ha : RB w w.heap.size A n xs) (hn : n ≤ 100000) (hp : p.size ≤ 1000) (hnm : nm.size ≤ 1000) (hl : l.size ≤ 1000)
    (hs : ∀ r ∈ rs, r.2.size ≤ 100000) (hk : Mb.kin k = 4) (hE : ¬ Mb.may (Mb.fP rs p nm) (⟨#[]⟩) 4 m u g t 0 = 0) :
    Calls Tryz.prog 93 #[.agg #[.string p, .string nm, .int .i64 m, .int .i64 u, .int .i64 g, .int .i64 t, .int .i64 z, .int .u8 k, .string l], .slice B nr cr, .slice A n c] w fun e w' => ∃ A' n' c', e = .returned (.tuple #[.agg #[.string ⟨#[]⟩, .int .i64 0, .int .i64 0, .int .i64 0, .int .i64 0, .int .i64 0, .string ⟨#[]⟩, .slice A' n' c'], .int .i64 (Mb.may (Mb.fP rs p nm) (⟨#[]⟩) 4 m u g t 0)]) ∧ RB w' w'.heap.size A' n' [] ∧ n' ≤ c' ∧ c' ≤ maxLen ∧ Below w.heap.size w w' := by
  have hxl := ha.1
  have cpa := fun W => hpath_any p nm l m u g t z k W (by omega) (by omega)
  have ctp := fun W (hW : Below w.heap.size w W) d => mtold_any B nr cr rs Mb.kPath d W ((hr.below hW).more hW.size) hnr
  have ctl := fun W (hW : Below w.heap.size w W) d => mtold_any B nr cr rs Mb.kLink d W ((hr.below hW).more hW.size) hnr
  have ckk := fun W => mkind_any k W
  rw [hk] at ckk
  have ccl := fun W (hb : Below w.heap.size w W) => bclone_any A n c xs W ((ha.below hb).more hb.size) (by omega)
  have ejn : (if p.size = 0 then nm else p ++ ⟨#[47]⟩ ++ nm) = Mb.join p nm := rfl
  rw [ejn] at cpa
  clear ejn
  have hjs : (Mb.join p nm).size ≤ 2001 := by
    unfold Mb.join
    split
    · omega
    · rw [ByteArray.size_append, ByteArray.size_append]
      have : (⟨#[47]⟩ : ByteArray).size = 1 := rfl
      omega
  have hps : (Mb.fP rs p nm).size ≤ 100000 := Mb.told_size (fun r hr => by have := hs r hr; omega) (by omega)
  have hls : (Mb.told8 rs Mb.kLink l).size ≤ 100000 := Mb.told_size hs (by omega)
  have eP : Mb.told8 rs Mb.kPath (Mb.join p nm) = Mb.fP rs p nm := rfl
  have ctp2 := fun W (hW : Below w.heap.size w W) => ctp W hW (Mb.join p nm)
  have ctl2 := fun W (hW : Below w.heap.size w W) => ctl W hW l
  rw [eP] at ctp2
  unfold Mb.kPath at ctp2
  have ek : Mb.kLink = ⟨#[108, 105, 110, 107, 112, 97, 116, 104]⟩ := rfl
  generalize Mb.fP rs p nm = P at *
  generalize Mb.join p nm = J at *
  generalize Mb.told8 rs Mb.kLink l = LL at *
  rw [ek] at ctl2
  have CPA := Lib.hid cpa; have CTP := Lib.hid ctp2; have CTL := Lib.hid (fun W (hW : Below w.heap.size w W) (_ : Unit) => ctl2 W hW); have CKK := Lib.hid ckk; have CCL := Lib.hid ccl; have HXL := Lib.hid hxl
  have cmy := fun (A' : Option Addr) (c' : Nat) W => mmay_any P ⟨#[]⟩ 4 m u g t A' 0 c' W (by omega) (by decide) (by omega)
  generalize Mb.may P ⟨#[]⟩ 4 m u g t 0 = E at *
  have hE1 : (E == 0) = false := by simp [hE]
  have hE2 : (E != 0) = true := by simp [hE]
  have CMY := Lib.hid cmy
  clear cmy hE
  clear cpa ctp ctl ctp2 ctl2 ckk ccl hr ha ek eP hjs hxl hk
  go_enter Tryz.func93, Tryz.ntmps93
  go_upto_region 1 with (fail)
  obtain ⟨W0, hW0⟩ : ∃ W0, W0 = ((w.alloc (.cells #[.string p, .string nm, .int .i64 m, .int .i64 u, .int .i64 g, .int .i64 t, .int .i64 z, .int .u8 k, .string l] 64)).alloc (.cells #[.string ⟨#[]⟩, .int .i64 0, .int .i64 0, .int .i64 0, .int .i64 0, .int .i64 0, .string ⟨#[]⟩, .slice none 0 0] 44)) := ⟨_, rfl⟩
  rw [← hW0]
  have SZ0 := Lib.hid (show W0.heap.size = w.heap.size + 1 + 1 by rw [hW0]; simp)
  have BOX := Lib.hid (show ∀ W, Below W0.heap.size W0 W → BX W w.heap.size 64 #[.string p, .string nm, .int .i64 m, .int .i64 u, .int .i64 g, .int .i64 t, .int .i64 z, .int .u8 k, .string l] ∧ BX W (w.heap.size + 1) 44 #[.string ⟨#[]⟩, .int .i64 0, .int .i64 0, .int .i64 0, .int .i64 0, .int .i64 0, .string ⟨#[]⟩, .slice none 0 0] ∧ Below w.heap.size w W by
    intro W hb
    have hsz := SZ0.out
    rw [hsz] at hb
    rw [hW0] at hb
    refine ⟨((BX.new w _ _).alloc _).below hb (by omega), ?_, (((Below.refl _ w).alloc (Nat.le_refl _) _).alloc (by simp) _).trans (hb.mono (by omega))⟩
    have h := (BX.new (w.alloc (.cells #[.string p, .string nm, .int .i64 m, .int .i64 u, .int .i64 g, .int .i64 t, .int .i64 z, .int .u8 k, .string l] 64)) 44 #[.string ⟨#[]⟩, .int .i64 0, .int .i64 0, .int .i64 0, .int .i64 0, .int .i64 0, .string ⟨#[]⟩, .slice none 0 0]).below (B := w.heap.size + 1 + 1) (w' := W) hb (by simp)
    simpa using h)
  clear hW0
  go_cut [8] (fun v wx => ∃ gb, v = .pointer (some ⟨gb, 0, none⟩) ∧ Hid (W0.heap.size ≤ gb) ∧ Hid (Below W0.heap.size W0 wx) ∧ Hid (BX wx gb 44 #[.string P, .int .i64 4, .int .i64 m, .int .i64 u, .int .i64 g, .int .i64 t, .string ⟨#[]⟩, .slice none 0 0]))
  case first =>
    have hacc : Below W0.heap.size W0 W0.drew := below_drewN (Below.refl _ _) 1
    have alls : ∀ W, Below W0.heap.size W0 W → W.cell? ⟨w.heap.size, 0, none⟩ = some (.string p) ∧ W.cell? ⟨w.heap.size, 1, none⟩ = some (.string nm) ∧ W.cell? ⟨w.heap.size, 2, none⟩ = some (.int .i64 m) ∧ W.cell? ⟨w.heap.size, 3, none⟩ = some (.int .i64 u) ∧ W.cell? ⟨w.heap.size, 4, none⟩ = some (.int .i64 g) ∧ W.cell? ⟨w.heap.size, 5, none⟩ = some (.int .i64 t) ∧ W.cell? ⟨w.heap.size, 6, none⟩ = some (.int .i64 z) ∧ W.cell? ⟨w.heap.size, 7, none⟩ = some (.int .u8 k) ∧ W.cell? ⟨w.heap.size, 8, none⟩ = some (.string l) := fun W hW => by
      obtain ⟨b, _, _⟩ := BOX.out W hW
      exact ⟨b.cell rfl, b.cell rfl, b.cell rfl, b.cell rfl, b.cell rfl, b.cell rfl, b.cell rfl, b.cell rfl, b.cell rfl⟩
    have ALLS := Lib.hid alls
    clear alls
    obtain ⟨y0, y1, y2, y3, y4, y5, y6, y7, y8⟩ := ALLS.out _ hacc
    obtain ⟨x0, x1, x2, x3, x4, x5, x6, x7, x8⟩ := ALLS.out _ (Below.refl W0.heap.size W0)
    have hne0 : W0.heap.size ≠ w.heap.size := by rw [SZ0.out]; omega
    go_region_held3 (fun w' => w'.cell? ⟨w.heap.size, 0, none⟩ = some (.string p) ∧ w'.cell? ⟨w.heap.size, 1, none⟩ = some (.string nm) ∧ w'.cell? ⟨w.heap.size, 2, none⟩ = some (.int .i64 m) ∧ w'.cell? ⟨w.heap.size, 3, none⟩ = some (.int .i64 u) ∧ w'.cell? ⟨w.heap.size, 4, none⟩ = some (.int .i64 g) ∧ w'.cell? ⟨w.heap.size, 5, none⟩ = some (.int .i64 t) ∧ w'.cell? ⟨w.heap.size, 6, none⟩ = some (.int .i64 z) ∧ w'.cell? ⟨w.heap.size, 7, none⟩ = some (.int .u8 k) ∧ w'.cell? ⟨w.heap.size, 8, none⟩ = some (.string l)) (first | go_keep | (exact ALLS.out _ hacc) | (exact ALLS.out _ (hacc.alloc hacc.size _))) (first
      | (go_at_call 126; (with_reducible refine (CPA.out _).mono ?_); rintro e w1 ⟨rfl, hb1⟩; (first | (replace hacc := bthen hacc hb1; have hne1 : w1.heap.size ≠ w.heap.size := (by have h1 := hacc.size; have h2 := SZ0.out; omega)) | (have bz : BX w1 W0.heap.size 44 #[.string ⟨#[]⟩, .int .i64 0, .int .i64 0, .int .i64 0, .int .i64 0, .int .i64 0, .string ⟨#[]⟩, .slice none 0 0] := (BX.drew (BX.new _ _ _)).later hb1; replace hacc := ((mb_new W0 (.cells #[.string ⟨#[]⟩, .int .i64 0, .int .i64 0, .int .i64 0, .int .i64 0, .int .i64 0, .string ⟨#[]⟩, .slice none 0 0] 44)).drew).trans (Below.mono hb1 (by simp <;> omega)); have z0 : w1.cell? ⟨W0.heap.size, 0, none⟩ = some (.string ⟨#[]⟩) := bz.cell rfl; have f0 := bz.free 0; have z1 : w1.cell? ⟨W0.heap.size, 1, none⟩ = some (.int .i64 0) := bz.cell rfl; have f1 := bz.free 1; have z2 : w1.cell? ⟨W0.heap.size, 2, none⟩ = some (.int .i64 0) := bz.cell rfl; have f2 := bz.free 2; have z3 : w1.cell? ⟨W0.heap.size, 3, none⟩ = some (.int .i64 0) := bz.cell rfl; have f3 := bz.free 3; have z4 : w1.cell? ⟨W0.heap.size, 4, none⟩ = some (.int .i64 0) := bz.cell rfl; have f4 := bz.free 4; have z5 : w1.cell? ⟨W0.heap.size, 5, none⟩ = some (.int .i64 0) := bz.cell rfl; have f5 := bz.free 5; have z6 : w1.cell? ⟨W0.heap.size, 6, none⟩ = some (.string ⟨#[]⟩) := bz.cell rfl; have f6 := bz.free 6; have z7 : w1.cell? ⟨W0.heap.size, 7, none⟩ = some (.slice none 0 0) := bz.cell rfl; have f7 := bz.free 7)))
      | (go_at_call 125; (with_reducible refine (CTP.out _ (by first | exact (BOX.out _ hacc).2.2 | exact (BOX.out _ (hacc.alloc hacc.size _)).2.2 | exact (BOX.out _ (mb_new W0 _).drew).2.2)).mono ?_); rintro e w2 ⟨rfl, rfl⟩)
      | (go_at_call 127; (with_reducible refine (CKK.out _).mono ?_); rintro e w3 ⟨rfl, rfl⟩))
    all_goals
      go_wp2
      go_meet
      first
        | exact ⟨_, rfl, hacc.size, hacc.alloc hacc.size _, BX.new _ _ _⟩
        | exact ⟨_, rfl, Nat.le_refl _, ((((((((hacc).setCell (Nat.le_refl _) _).setCell (Nat.le_refl _) _).setCell (Nat.le_refl _) _).setCell (Nat.le_refl _) _).setCell (Nat.le_refl _) _).setCell (Nat.le_refl _) _).setCell (Nat.le_refl _) _).setCell (Nat.le_refl _) _, (by have h := (((((((bz.set 0 (.string P)).set 1 (.int .i64 4)).set 2 (.int .i64 m)).set 3 (.int .i64 u)).set 4 (.int .i64 g)).set 5 (.int .i64 t)).set 6 (.string ⟨#[]⟩)).set 7 (.slice none 0 0); show BX _ _ _ _; simpa using h)⟩
  case rest =>
    obtain ⟨gb, rfl, HG, HBC, HBM⟩ := hcut
    have HNE := Lib.hid (show w.heap.size + 1 ≠ gb by have h1 := HG.out; have h2 := SZ0.out; intro h; change W0.heap.size ≤ gb at h1; omega)
    have HGW := Lib.hid (show w.heap.size ≤ gb by have h1 := HG.out; have h2 := SZ0.out; change W0.heap.size ≤ gb at h1; omega)
    have HGL := Lib.hid (show gb < wc.heap.size from HBM.out.lt)
    have HZL := Lib.hid (show w.heap.size + 1 < wc.heap.size from (BOX.out _ HBC.out).2.1.lt)
    have g0 : wc.cell? ⟨gb, 0, none⟩ = some (.string P) := (HBM.out).cell rfl; have g1 : wc.cell? ⟨gb, 1, none⟩ = some (.int .i64 4) := (HBM.out).cell rfl; have g2 : wc.cell? ⟨gb, 2, none⟩ = some (.int .i64 m) := (HBM.out).cell rfl; have g3 : wc.cell? ⟨gb, 3, none⟩ = some (.int .i64 u) := (HBM.out).cell rfl; have g4 : wc.cell? ⟨gb, 4, none⟩ = some (.int .i64 g) := (HBM.out).cell rfl; have g5 : wc.cell? ⟨gb, 5, none⟩ = some (.int .i64 t) := (HBM.out).cell rfl; have g6 : wc.cell? ⟨gb, 6, none⟩ = some (.string ⟨#[]⟩) := (HBM.out).cell rfl; have g7 : wc.cell? ⟨gb, 7, none⟩ = some (.slice none 0 0) := (HBM.out).cell rfl
    have BZ2 := Lib.hid (BOX.out _ HBC.out).2.1
    have BS2 := Lib.hid HBM.out
    have HW2 := Lib.hid (BOX.out _ HBC.out).2.2
    go_wp2_with (first
      | (go_at_call 53; (with_reducible refine (CMY.out _ _ _).mono ?_); rintro e w3 ⟨rfl, hb3⟩; have BM3 : BX w3 gb 44 #[.string P, .int .i64 4, .int .i64 m, .int .i64 u, .int .i64 g, .int .i64 t, .string ⟨#[]⟩, .slice none 0 0] := (by have h := BS2.out.later hb3; simpa using h); have BZ3 := BZ2.out.later hb3; have HW3 := Lib.hid (HW2.out.trans (hb3.mono HW2.out.size)); skip; have s0 : w3.cell? ⟨(w.heap.size + 1), 0, none⟩ = some (.string ⟨#[]⟩) := (BZ3).cell rfl; have s1 : w3.cell? ⟨(w.heap.size + 1), 1, none⟩ = some (.int .i64 0) := (BZ3).cell rfl; have s2 : w3.cell? ⟨(w.heap.size + 1), 2, none⟩ = some (.int .i64 0) := (BZ3).cell rfl; have s3 : w3.cell? ⟨(w.heap.size + 1), 3, none⟩ = some (.int .i64 0) := (BZ3).cell rfl; have s4 : w3.cell? ⟨(w.heap.size + 1), 4, none⟩ = some (.int .i64 0) := (BZ3).cell rfl; have s5 : w3.cell? ⟨(w.heap.size + 1), 5, none⟩ = some (.int .i64 0) := (BZ3).cell rfl; have s6 : w3.cell? ⟨(w.heap.size + 1), 6, none⟩ = some (.string ⟨#[]⟩) := (BZ3).cell rfl; have s7 : w3.cell? ⟨(w.heap.size + 1), 7, none⟩ = some (.slice none 0 0) := (BZ3).cell rfl; have v0 := (BZ3).free 0; have v1 := (BZ3).free 1; have v2 := (BZ3).free 2; have v3 := (BZ3).free 3; have v4 := (BZ3).free 4; have v5 := (BZ3).free 5; have v6 := (BZ3).free 6; have v7 := (BZ3).free 7; have BZ3' := Lib.hid BZ3; clear BM3 BZ3 hb3))
    refine bodyPost_ret (v := .tuple #[.agg #[.string ⟨#[]⟩, .int .i64 0, .int .i64 0, .int .i64 0, .int .i64 0, .int .i64 0, .string ⟨#[]⟩, .slice none 0 0], .int .i64 E]) (by simp [results, Tryz.f93, go_sem, *]) rfl ⟨none, 0, 0, rfl, ?_, ?_, ?_, ?_⟩
    · exact RB.nil
    · exact Nat.le_refl _
    · exact Nat.zero_le _
    · exact ((((((((HW3.out).setCell (by simp) _).setCell (by simp) _).setCell (by simp) _).setCell (by simp) _).setCell (by simp) _).setCell (by simp) _).setCell (by simp) _).setCell (by simp) _
end Go.Proofs.YtjofdgjcbjdhbaaGreatDoor
