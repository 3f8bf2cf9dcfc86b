/- WALKS OF LAYER 8, SIXTH PART: a header's and its bytes' blocks; the records' blocks. -/
import Derived.Test.YtjhigkkkfkahdaaGreatDoorE8e
import Derived.Test.YtjhigkkkfkahdaaGreatDoorGh1
import Derived.Test.YtjhigkkkfkahdaaGreatDoorGb7
import Derived.Test.YtjhigkkkfkahdaaGreatDoorGm5
import Derived.StillTailTactics
namespace Go.Proofs.YtjhigkkkfkahdaaGreatDoor
open Go Go.RowKit
set_option maxHeartbeats 1600000
set_option maxRecDepth 100000
set_option linter.unusedVariables false
namespace Mb
theorem fill_eq (xs : List Int) : Bk.fill xs = fill xs := by
  unfold Bk.fill fill
  congr 2
  by_cases h : xs.length = 0
  · rw [h]; rfl
  · by_cases k : xs.length % 512 = 0
    · rw [if_pos k, Bk.pad_whole (by omega) (by omega)]; rfl
    · rw [if_neg k, Bk.pad_more (by omega) (by omega)]; omega
/-- The blocks of a header, whose size is told by the bytes, and of these. -/
def lfB (p nm l : ByteArray) (m u g t k : Int) (xs : List Int) : List Int × Int :=
  if (Hh.layC p nm l m u g t (xs.length : Int) k).2 = 0 then ((Hh.layC p nm l m u g t (xs.length : Int) k).1 ++ fill xs, 0) else ([], (Hh.layC p nm l m u g t (xs.length : Int) k).2)
end Mb
theorem quiet_r {P : Program} {f : FuncId} {args : Array Value} {w : World} {v : Value} (h : Calls P f args w fun e w' => e = .returned v ∧ w = w') : Calls P f args w fun e w' => e = .returned v ∧ w' = w := h.mono fun _ _ ⟨a, b⟩ => ⟨a, b.symm⟩
theorem mfilled_any (p nm l : ByteArray) (m u g t z k : Int) (A : Option Addr) (n c : Nat) (xs : List Int) (w : World) (ha : RB w w.heap.size A n xs) (hn : n ≤ 100000) (hp : p.size ≤ 1000000) (hnm : nm.size ≤ 1000000) (hl : l.size ≤ 1000000) (hk0 : 0 ≤ k) (hk1 : k ≤ 255)
    (m0 : -9223372036854775808 ≤ m) (m1 : m ≤ 9223372036854775807) (u0 : -9223372036854775808 ≤ u) (u1 : u ≤ 9223372036854775807) (g0 : -9223372036854775808 ≤ g) (g1 : g ≤ 9223372036854775807)
    (t0 : -9223372036854775808 ≤ t) (t1 : t ≤ 9223372036854775807) :
    Calls Tryz.prog 41 #[.agg #[.string p, .string nm, .int .i64 m, .int .i64 u, .int .i64 g, .int .i64 t, .int .i64 z, .int .u8 k, .string l], .slice A n c] w fun e w' => ∃ v, e = .returned (.tuple #[v, .int .i64 (Mb.lfB p nm l m u g t k xs).2]) ∧ OB w' w.heap.size 5 v (Mb.lfB p nm l m u g t k xs).1 ∧ Below w.heap.size w w' := by
  obtain ⟨i0, hi, hz0, hz1, hz2⟩ := info_parts info_u8
  have hxl := ha.1
  have cl := fun W => hlay_any p nm l m u g t (n : Int) k W hp hnm hl hk0 hk1 m0 m1 u0 u1 g0 g1 t0 t1 (by omega) (by omega)
  have bk := Hh.back p nm l m u g t (n : Int) k m0 m1 u0 u1 g0 g1 t0 t1 (by omega) (by omega)
  have lf : Mb.lfB p nm l m u g t k xs = if (Hh.layC p nm l m u g t (n : Int) k).2 = 0 then ((Hh.layC p nm l m u g t (n : Int) k).1 ++ Mb.fill xs, 0) else ([], (Hh.layC p nm l m u g t (n : Int) k).2) := by unfold Mb.lfB; rw [hxl]
  have HFL := Lib.hid (Mb.fill_len xs)
  rw [hxl] at HFL
  have cf := fun W (hb : Below w.heap.size w W) => fill_any A n c xs W ((ha.below hb).more hb.size) (by omega)
  rw [Mb.fill_eq] at cf
  obtain ⟨⟨Y, E⟩, hY⟩ : ∃ P, Hh.layC p nm l m u g t (n : Int) k = P := ⟨_, rfl⟩
  rw [hY] at cl bk lf
  simp only at cl bk lf
  rw [lf]
  have CL := Lib.hid cl; have CF := Lib.hid cf
  clear cl cf lf hY hxl
  by_cases hE : E = 0
  · subst hE
    rw [if_pos rfl]
    obtain ⟨_, _, hlen, _, _⟩ := bk rfl
    have HL := Lib.hid hlen
    clear bk hlen
    generalize Mb.fill xs = F at *
    go_enter Tryz.func41, Tryz.ntmps41
    go_wp2_with (first
      | (go_at_call 63; (with_reducible refine (CL.out _).mono ?_); rintro e w1 ⟨v1, rfl, ho1, hb1⟩; have HB1 := Lib.hid (mb_below hb1); have HO1 := Lib.hid (OB.base ho1 (show w.heap.size ≤ _ by simp)); clear ho1 hb1)
      | (go_at_call 64; (with_reducible refine (CF.out _ HB1.out).mono ?_); rintro e w2 ⟨v2, rfl, ho2, hb2⟩; have HB2 := Lib.hid (bthen HB1.out hb2); have HO2 := Lib.hid (show OBn w2 w.heap.size 5 v1 512 Y by have h := OBn.later (OB.obn HO1.out) hb2; rwa [HL.out] at h); obtain ⟨A2, c2, rfl, hr2, _, _⟩ := ho2.rb; have HR2 := Lib.hid hr2; clear ho2 hb2 hr2)
      | (at_builtin; obtain ⟨v3, w3, hrun, hown, hgrow⟩ := run_append_rb (P := Tryz.prog) w.heap.size w2.heap.size 27 27 5 i0 Tryz.underlying27 hi hz0 hz1 hz2 v1 512 Y HO2.out A2 F.length c2 F HR2.out (by have := HFL.out; omega) HB2.out.size; have HO3 := Lib.hid hown; have HB3 := Lib.hid (below_app6 HB2.out (Nat.le_refl _) HO2.out hgrow); refine Lib.wpList_append_run _ rfl _ _ 27 27 rfl _ _ rfl rfl _ _ hrun ?_; clear hrun hown hgrow))
    go_ret2
    exact ⟨_, rfl, HO3.out.ob, HB3.out⟩
  · rw [if_neg hE]
    have hE' : (E == 0) = false := by simp [hE]
    have hE2 : (E != 0) = true := by simp [hE]
    clear hE bk
    go_enter Tryz.func41, Tryz.ntmps41
    go_wp2_with (first
      | (go_at_call 63; (with_reducible refine (CL.out _).mono ?_); rintro e w1 ⟨v1, rfl, ho1, hb1⟩; have HB1 := Lib.hid (mb_below hb1); clear ho1 hb1))
    go_ret2
    exact ⟨_, rfl, OB.nil _ _ _, HB1.out⟩
theorem mlayrecs_any (A : Option Addr) (n c : Nat) (rs : List Rc.Rec) (w : World) (tb : Tab w) (hl : RL w w.heap.size A n rs) (hn : n ≤ 1000) (hs : ∀ r ∈ rs, r.1.size ≤ 10000 ∧ r.2.size ≤ 10000) (hE : Rc.layE rs = 0) (hL : (Rc.layB rs).length ≤ 5000) :
    Calls Tryz.prog 40 #[.slice A n c] w fun e w' => ∃ v, e = .returned (.tuple #[v, .int .i64 0]) ∧ OB w' w.heap.size 5 v (Mb.recB rs) ∧ Below w.heap.size w w' := by
  have hll := hl.1
  by_cases h0 : n = 0
  · subst h0
    obtain rfl : rs = [] := List.eq_nil_of_length_eq_zero hll
    clear hl hs hE hL hll
    go_enter Tryz.func40, Tryz.ntmps40
    go_wp2
    go_ret2
    exact ⟨_, rfl, OB.nil _ _ _, Below.refl _ _⟩
  · have g0 : ¬ (n : Int) = 0 := by omega
    have g1 : ((n : Int) == 0) = false := by simp; omega
    have hrs : rs ≠ [] := fun h => by subst h; simp at hll; omega
    have cl := lay6_any A n c rs w tb hl (by omega) hs
    rw [hE, show (((0 : Nat) : Int)) = 0 from rfl] at cl
    have CL := Lib.hid cl
    have cf := fun (W : World) (A2 : Option Addr) (c2 : Nat) (hr : RB W W.heap.size A2 (Rc.layB rs).length (Rc.ints (Rc.layB rs))) => mfilled_any ⟨#[]⟩ Mb.kPax ⟨#[]⟩ 0 0 0 0 0 120 A2 (Rc.layB rs).length c2 (Rc.ints (Rc.layB rs)) W hr (by omega) (by decide) (by decide) (by decide) (by omega) (by omega) (by omega) (by omega) (by omega) (by omega) (by omega) (by omega) (by omega) (by omega)
    have e : Mb.lfB ⟨#[]⟩ Mb.kPax ⟨#[]⟩ 0 0 0 0 120 (Rc.ints (Rc.layB rs)) = (Mb.recB rs, 0) := by
      unfold Mb.lfB Mb.recB Mb.paxB
      rw [Rc.ints_len, if_pos (Mb.pax_ok hL), if_neg hrs]
    rw [e] at cf
    unfold Mb.kPax at cf
    generalize Mb.recB rs = R at *
    generalize Rc.layB rs = B at *
    have CF := Lib.hid cf
    clear cl cf e hl hs hE hL hll hrs h0
    go_enter Tryz.func40, Tryz.ntmps40
    go_wp2_with (first
      | (go_at_call 62; (with_reducible refine (CL.out).mono ?_); rintro e w1 ⟨u, rfl, hr, hb1⟩; obtain ⟨A1, c1, rfl, hr1, _, _⟩ := hr; have HR1 := Lib.hid hr1; have HB1 := Lib.hid hb1; clear hr1 hb1)
      | (go_at_call 41; (with_reducible refine (CF.out _ _ _ HR1.out).mono ?_); rintro e w2 ⟨v2, rfl, ho2, hb2⟩; have HO2 := Lib.hid (OB.base ho2 HB1.out.size); have HB2 := Lib.hid (bthen HB1.out hb2); clear ho2 hb2))
    go_ret2
    exact ⟨_, rfl, HO2.out, HB2.out⟩
theorem parts_val {s : ByteArray} {k : Nat} : parts s k = if Mb.fits s k = true then .tuple #[.string (Mb.pre s k), .string (Mb.nam s k), .bool true] else .tuple #[.string ⟨#[]⟩, .string ⟨#[]⟩, .bool false] := by
  unfold parts Mb.fits Mb.pre Mb.nam
  by_cases h0 : s.size = 0
  · rw [if_pos h0, if_pos h0]; rfl
  · rw [if_neg h0, if_neg h0]
    by_cases h1 : s.size ≤ 100
    · rw [if_pos h1, if_pos h1, if_pos h1, if_pos h1]; rfl
    · rw [if_neg h1, if_neg h1, if_neg h1, if_neg h1]
      by_cases h2 : k = 0
      · rw [if_pos h2, if_pos h2]; rfl
      · rw [if_neg h2, if_neg h2, if_neg h2, if_neg h2]; rfl
theorem mownhdr_any (p l : ByteArray) (k m u g t : Int) (A : Option Addr) (n c : Nat) (q : Nat) (w : World) (hp : p.size ≤ 1000000) (hp1 : 1 ≤ p.size) (hq : Sf.IsCut p q) (hl : l.size ≤ 1000000) :
    Calls Tryz.prog 42 #[.agg #[.string p, .int .i64 k, .int .i64 m, .int .i64 u, .int .i64 g, .int .i64 t, .string l, .slice A n c]] w fun e w' => e = .returned (.agg #[.string (Mb.pre p q), .string (Mb.nam p q), .int .i64 m, .int .i64 u, .int .i64 g, .int .i64 t, .int .i64 0, .int .u8 (Mb.typ k), .string (Mb.first l)]) ∧ Below w.heap.size w w' := by
  have cs := fun W => split_any p q W hp hq
  rw [parts_val] at cs
  have ct := fun W => mtype_any k W
  have cfl := fun W => mfirst_any l W hl
  have cfp := fun W => mfirst_any p W hp
  have nf := fun h => Mb.nam_first (s := p) (k := q) h hp1
  generalize Mb.typ k = ty at *
  generalize Mb.first l = fl at *
  generalize Mb.first p = fp at *
  generalize Mb.pre p q = P at *
  generalize Mb.nam p q = N at *
  have CT := Lib.hid ct; have CFL := Lib.hid cfl; have CFP := Lib.hid cfp
  clear ct cfl cfp
  cases hf : Mb.fits p q with
  | true =>
    rw [hf, if_pos rfl] at cs
    have CS := Lib.hid cs
    clear cs nf hf
    go_enter Tryz.func42, Tryz.ntmps42
    go_wp2_with (go_at_call 65; (with_reducible refine (CS.out _).mono ?_); rintro e w1 ⟨rfl, j1, rfl⟩)
    obtain ⟨W0, hW0⟩ : ∃ W0, W0 = ((w.alloc (.cells #[.string p, .int .i64 k, .int .i64 m, .int .i64 u, .int .i64 g, .int .i64 t, .string l, .slice A n c] 35)).alloc (.cells #[.string ⟨#[]⟩, .string ⟨#[]⟩, .int .i64 0, .int .i64 0, .int .i64 0, .int .i64 0, .int .i64 0, .int .u8 0, .string ⟨#[]⟩] 40)).drewN j1 := ⟨_, rfl⟩
    have HB0 := Lib.hid (show Below w.heap.size w W0 by rw [hW0]; exact below_drewN ((mb_new _ _).alloc (by simp) _) _)
    have BM := Lib.hid (show BX W0 w.heap.size 35 #[.string p, .int .i64 k, .int .i64 m, .int .i64 u, .int .i64 g, .int .i64 t, .string l, .slice A n c] by rw [hW0]; exact BX.drewN (BX.alloc (BX.new _ _ _) _) _)
    have BH := Lib.hid (show BX W0 (w.heap.size + 1) 40 #[.string ⟨#[]⟩, .string ⟨#[]⟩, .int .i64 0, .int .i64 0, .int .i64 0, .int .i64 0, .int .i64 0, .int .u8 0, .string ⟨#[]⟩] by rw [hW0]; have h := BX.new (w.alloc (.cells #[.string p, .int .i64 k, .int .i64 m, .int .i64 u, .int .i64 g, .int .i64 t, .string l, .slice A n c] 35)) 40 #[.string ⟨#[]⟩, .string ⟨#[]⟩, .int .i64 0, .int .i64 0, .int .i64 0, .int .i64 0, .int .i64 0, .int .u8 0, .string ⟨#[]⟩]; simp only [World.size_alloc] at h; exact BX.drewN h _)
    rw [← hW0]
    clear hW0
    have y0 : W0.cell? ⟨w.heap.size, 0, none⟩ = some (.string p) := (BM.out).cell rfl; have y1 : W0.cell? ⟨w.heap.size, 1, none⟩ = some (.int .i64 k) := (BM.out).cell rfl; have y2 : W0.cell? ⟨w.heap.size, 2, none⟩ = some (.int .i64 m) := (BM.out).cell rfl; have y3 : W0.cell? ⟨w.heap.size, 3, none⟩ = some (.int .i64 u) := (BM.out).cell rfl; have y4 : W0.cell? ⟨w.heap.size, 4, none⟩ = some (.int .i64 g) := (BM.out).cell rfl; have y5 : W0.cell? ⟨w.heap.size, 5, none⟩ = some (.int .i64 t) := (BM.out).cell rfl; have y6 : W0.cell? ⟨w.heap.size, 6, none⟩ = some (.string l) := (BM.out).cell rfl; have y7 : W0.cell? ⟨w.heap.size, 7, none⟩ = some (.slice A n c) := (BM.out).cell rfl
    go_still_tail 11, (by kernel_rfl)
    still_call (quiet_r (CT.out _))
    repeat still_step
    still_call (quiet_r (CFL.out _))
    repeat still_step
    refine wpStill_nil ?_
    have bh := BX.drew BH.out
    have HB1 := Lib.hid (show Below w.heap.size w W0.drew from below_drewN HB0.out 1)
    change wpList _ _ _ _ _ W0.drew
    clear y0 y1 y2 y3 y4 y5 y6 y7 BM HB0 BH
    generalize W0.drew = W1 at *
    have f0 := bh.free 0; have f1 := bh.free 1; have f2 := bh.free 2; have f3 := bh.free 3; have f4 := bh.free 4; have f5 := bh.free 5; have f6 := bh.free 6; have f7 := bh.free 7; have f8 := bh.free 8
    have z0 : W1.cell? ⟨w.heap.size + 1, 0, none⟩ = some (.string ⟨#[]⟩) := bh.cell rfl
    have z1 : W1.cell? ⟨w.heap.size + 1, 1, none⟩ = some (.string ⟨#[]⟩) := bh.cell rfl
    have z2 : W1.cell? ⟨w.heap.size + 1, 2, none⟩ = some (.int .i64 0) := bh.cell rfl
    have z3 : W1.cell? ⟨w.heap.size + 1, 3, none⟩ = some (.int .i64 0) := bh.cell rfl
    have z4 : W1.cell? ⟨w.heap.size + 1, 4, none⟩ = some (.int .i64 0) := bh.cell rfl
    have z5 : W1.cell? ⟨w.heap.size + 1, 5, none⟩ = some (.int .i64 0) := bh.cell rfl
    have z6 : W1.cell? ⟨w.heap.size + 1, 6, none⟩ = some (.int .i64 0) := bh.cell rfl
    have z7 : W1.cell? ⟨w.heap.size + 1, 7, none⟩ = some (.int .u8 0) := bh.cell rfl
    have z8 : W1.cell? ⟨w.heap.size + 1, 8, none⟩ = some (.string ⟨#[]⟩) := bh.cell rfl
    clear bh
    go_wp2
    refine bodyPost_ret (v := .agg #[.string P, .string N, .int .i64 m, .int .i64 u, .int .i64 g, .int .i64 t, .int .i64 0, .int .u8 ty, .string fl]) (by simp [results, Tryz.f42, go_sem, *]) rfl ⟨rfl, ?_⟩
    exact ((((((((HB1.out.setCell (by simp) _).setCell (by simp) _).setCell (by simp) _).setCell (by simp) _).setCell (by simp) _).setCell (by simp) _).setCell (by simp) _).setCell (by simp) _).setCell (by simp) _
  | false =>
    obtain ⟨rfl, rfl⟩ := nf hf
    rw [hf, if_neg (by decide)] at cs
    have CS := Lib.hid cs
    clear cs nf hf
    go_enter Tryz.func42, Tryz.ntmps42
    go_wp2_with (first
      | (go_at_call 65; (with_reducible refine (CS.out _).mono ?_); rintro e w1 ⟨rfl, j1, rfl⟩)
      | (go_at_call 66; (with_reducible refine (CFP.out _).mono ?_); rintro e w2 ⟨rfl, rfl⟩))
    obtain ⟨W0, hW0⟩ : ∃ W0, W0 = ((w.alloc (.cells #[.string p, .int .i64 k, .int .i64 m, .int .i64 u, .int .i64 g, .int .i64 t, .string l, .slice A n c] 35)).alloc (.cells #[.string ⟨#[]⟩, .string ⟨#[]⟩, .int .i64 0, .int .i64 0, .int .i64 0, .int .i64 0, .int .i64 0, .int .u8 0, .string ⟨#[]⟩] 40)).drewN j1 := ⟨_, rfl⟩
    have HB0 := Lib.hid (show Below w.heap.size w W0 by rw [hW0]; exact below_drewN ((mb_new _ _).alloc (by simp) _) _)
    have BM := Lib.hid (show BX W0 w.heap.size 35 #[.string p, .int .i64 k, .int .i64 m, .int .i64 u, .int .i64 g, .int .i64 t, .string l, .slice A n c] by rw [hW0]; exact BX.drewN (BX.alloc (BX.new _ _ _) _) _)
    have BH := Lib.hid (show BX W0 (w.heap.size + 1) 40 #[.string ⟨#[]⟩, .string ⟨#[]⟩, .int .i64 0, .int .i64 0, .int .i64 0, .int .i64 0, .int .i64 0, .int .u8 0, .string ⟨#[]⟩] by rw [hW0]; have h := BX.new (w.alloc (.cells #[.string p, .int .i64 k, .int .i64 m, .int .i64 u, .int .i64 g, .int .i64 t, .string l, .slice A n c] 35)) 40 #[.string ⟨#[]⟩, .string ⟨#[]⟩, .int .i64 0, .int .i64 0, .int .i64 0, .int .i64 0, .int .i64 0, .int .u8 0, .string ⟨#[]⟩]; simp only [World.size_alloc] at h; exact BX.drewN h _)
    rw [← hW0]
    clear hW0
    have y0 : W0.cell? ⟨w.heap.size, 0, none⟩ = some (.string p) := (BM.out).cell rfl; have y1 : W0.cell? ⟨w.heap.size, 1, none⟩ = some (.int .i64 k) := (BM.out).cell rfl; have y2 : W0.cell? ⟨w.heap.size, 2, none⟩ = some (.int .i64 m) := (BM.out).cell rfl; have y3 : W0.cell? ⟨w.heap.size, 3, none⟩ = some (.int .i64 u) := (BM.out).cell rfl; have y4 : W0.cell? ⟨w.heap.size, 4, none⟩ = some (.int .i64 g) := (BM.out).cell rfl; have y5 : W0.cell? ⟨w.heap.size, 5, none⟩ = some (.int .i64 t) := (BM.out).cell rfl; have y6 : W0.cell? ⟨w.heap.size, 6, none⟩ = some (.string l) := (BM.out).cell rfl; have y7 : W0.cell? ⟨w.heap.size, 7, none⟩ = some (.slice A n c) := (BM.out).cell rfl
    go_still_tail 11, (by kernel_rfl)
    still_call (quiet_r (CT.out _))
    repeat still_step
    still_call (quiet_r (CFL.out _))
    repeat still_step
    refine wpStill_nil ?_
    have bh := BX.drew BH.out
    have HB1 := Lib.hid (show Below w.heap.size w W0.drew from below_drewN HB0.out 1)
    change wpList _ _ _ _ _ W0.drew
    clear y0 y1 y2 y3 y4 y5 y6 y7 BM HB0 BH
    generalize W0.drew = W1 at *
    have f0 := bh.free 0; have f1 := bh.free 1; have f2 := bh.free 2; have f3 := bh.free 3; have f4 := bh.free 4; have f5 := bh.free 5; have f6 := bh.free 6; have f7 := bh.free 7; have f8 := bh.free 8
    have z0 : W1.cell? ⟨w.heap.size + 1, 0, none⟩ = some (.string ⟨#[]⟩) := bh.cell rfl
    have z1 : W1.cell? ⟨w.heap.size + 1, 1, none⟩ = some (.string ⟨#[]⟩) := bh.cell rfl
    have z2 : W1.cell? ⟨w.heap.size + 1, 2, none⟩ = some (.int .i64 0) := bh.cell rfl
    have z3 : W1.cell? ⟨w.heap.size + 1, 3, none⟩ = some (.int .i64 0) := bh.cell rfl
    have z4 : W1.cell? ⟨w.heap.size + 1, 4, none⟩ = some (.int .i64 0) := bh.cell rfl
    have z5 : W1.cell? ⟨w.heap.size + 1, 5, none⟩ = some (.int .i64 0) := bh.cell rfl
    have z6 : W1.cell? ⟨w.heap.size + 1, 6, none⟩ = some (.int .i64 0) := bh.cell rfl
    have z7 : W1.cell? ⟨w.heap.size + 1, 7, none⟩ = some (.int .u8 0) := bh.cell rfl
    have z8 : W1.cell? ⟨w.heap.size + 1, 8, none⟩ = some (.string ⟨#[]⟩) := bh.cell rfl
    clear bh
    go_wp2
    refine bodyPost_ret (v := .agg #[.string ⟨#[]⟩, .string N, .int .i64 m, .int .i64 u, .int .i64 g, .int .i64 t, .int .i64 0, .int .u8 ty, .string fl]) (by simp [results, Tryz.f42, go_sem, *]) rfl ⟨rfl, ?_⟩
    exact ((((((((HB1.out.setCell (by simp) _).setCell (by simp) _).setCell (by simp) _).setCell (by simp) _).setCell (by simp) _).setCell (by simp) _).setCell (by simp) _).setCell (by simp) _).setCell (by simp) _
end Go.Proofs.YtjhigkkkfkahdaaGreatDoor
