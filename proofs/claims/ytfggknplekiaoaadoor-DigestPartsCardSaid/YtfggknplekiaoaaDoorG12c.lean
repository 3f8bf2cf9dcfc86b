/- WALKS OF LAYER 12, THE PROGRAM, THIRD PART: the words behind a block. -/
import Derived.Test.YtfggknplekiaoaaDoorG12b
import Derived.Deep.WholeRow
namespace Go.Proofs.YtfggknplekiaoaaDoor
open Go Go.RowKit
set_option maxHeartbeats 4000000
set_option maxRecDepth 100000
set_option linter.unusedVariables false
def ints (l : List Nat) : List Int := l.map fun n : Nat => (n : Int)
/-- THE TWO TABLES OF ROOTS, as the program's text lays them. -/
def KT (w : World) : Prop := Lib.TabIs Tryd.prog w "thwart/digest.cubeRoots" .u32 (ints Dg.K)
def HT (w : World) : Prop := Lib.TabIs Tryd.prog w "thwart/digest.squareRoots" .u32 (ints Dg.H.l)
theorem KT.on {w w' : World} (h : KT w) (hb : Below w.heap.size w w') : KT w' := Lib.tabBelow_of_tabIs h w' hb
theorem HT.on {w w' : World} (h : HT w) (hb : Below w.heap.size w w') : HT w' := Lib.tabBelow_of_tabIs h w' hb
theorem KT.cell {w : World} (h : KT w) {i : Nat} (hi : i < 64) : w.cell? ⟨1, i, none⟩ = some (.int .u32 (Dg.K.getD i 0 : Nat)) := by
  have := Lib.TabIs.cell h (show Tryd.prog.globalNamed "thwart/digest.cubeRoots" = some 1 by kernel_rfl) i (by show i < (ints Dg.K).length; unfold ints; rw [List.length_map, Dg.K_len]; exact hi)
  rw [this]
  unfold ints
  rw [List.getD_eq_getElem?_getD, List.getElem?_map, List.getD_eq_getElem?_getD, List.getElem?_eq_getElem (show i < Dg.K.length by rw [Dg.K_len]; exact hi)]
  rfl
theorem right_q {x n r : Nat} {z : Int} (hz : (n : Int) = z) (hr : Dg.rot x n = r) (hx : x < 4294967296) (h1 : 1 ≤ n) (h2 : n ≤ 31) (W : World) (k : Nat) :
    Calls Tryd.prog 26 #[.int .u32 x, .int .i64 z] (W.drewN k) fun e w' => e = .returned (.int .u32 (r : Int)) ∧ ∃ m, w' = W.drewN m :=
  (right_lit hz hr hx h1 h2 (W.drewN k)).mono fun e w' ⟨he, hw⟩ => ⟨he, k, hw.symm⟩
theorem behind_start {w : World} {CS DS : Array Value} {T T1 : TypeId} {sl : List Nat} {b : List Int} (h : (sl.map vw).toArray = CS) (h2 : (b.map vb).toArray = DS) :
    WX (((w.alloc (.cells CS T)).alloc (.cells DS T1)).alloc (.cells ((List.replicate 8 0).map vw).toArray T)) w.heap.size T sl ∧
    YX (((w.alloc (.cells CS T)).alloc (.cells DS T1)).alloc (.cells ((List.replicate 8 0).map vw).toArray T)) (w.heap.size + 1) T1 b ∧
    WX (((w.alloc (.cells CS T)).alloc (.cells DS T1)).alloc (.cells ((List.replicate 8 0).map vw).toArray T)) (w.heap.size + 1 + 1) T (List.replicate 8 0) ∧
    Below w.heap.size w (((w.alloc (.cells CS T)).alloc (.cells DS T1)).alloc (.cells ((List.replicate 8 0).map vw).toArray T)) ∧
    (((w.alloc (.cells CS T)).alloc (.cells DS T1)).alloc (.cells ((List.replicate 8 0).map vw).toArray T)).heap.size = w.heap.size + 1 + 1 + 1 := by
  subst h h2
  refine ⟨BX.alloc (BX.alloc (BX.new w T _) _) _, ?_, ?_, (((Below.refl _ w).alloc (Nat.le_refl _) _).alloc (by simp) _).alloc (by simp; omega) _, by simp⟩
  · have := BX.alloc (BX.new (w.alloc (.cells (sl.map vw).toArray T)) T1 (b.map vb).toArray) (.cells ((List.replicate 8 0).map vw).toArray T)
    simp only [World.size_alloc] at this
    exact this
  · have := BX.new ((w.alloc (.cells (sl.map vw).toArray T)).alloc (.cells (b.map vb).toArray T1)) T ((List.replicate 8 0).map vw).toArray
    simp only [World.size_alloc] at this
    exact this
/-- What the rounds keep. -/
structure Bh (w W : World) (X : Nat) (sl wl : List Nat) (T40 T47 : TypeId) : Prop where
  s : WX W w.heap.size T40 sl
  x : WX W X T47 wl
  r : WX W (w.heap.size + 1 + 1) T40 (List.replicate 8 0)
  b : Below w.heap.size w W
  hX : w.heap.size + 1 + 1 < X
theorem Bh.later {w W W' : World} {X : Nat} {sl wl : List Nat} {T40 T47 : TypeId} (h : Bh w W X sl wl T40 T47) (hb : Below W.heap.size W W') : Bh w W' X sl wl T40 T47 :=
  ⟨BX.later h.s hb, BX.later h.x hb, BX.later h.r hb, h.b.trans (hb.mono h.b.size), h.hX⟩
theorem Bh.drewN {w W : World} {X : Nat} {sl wl : List Nat} {T40 T47 : TypeId} (h : Bh w W X sl wl T40 T47) (n : Nat) : Bh w (W.drewN n) X sl wl T40 T47 := h.later (below_drewN (Below.refl _ _) n)
theorem Dg.round_st {s : Dg.St} {k w t t' z1 z2 : Nat} (h1 : Dg.t1 s k w = t) (h2 : Dg.t2 s = t') (e1 : (t + t') % 4294967296 = z1) (e2 : (s.d + t) % 4294967296 = z2) : Dg.round s k w = ⟨z1, s.a, s.b, s.c, z2, s.e, s.f, s.g⟩ := by
  show (⟨(Dg.t1 s k w + Dg.t2 s) % 4294967296, s.a, s.b, s.c, (s.d + Dg.t1 s k w) % 4294967296, s.e, s.f, s.g⟩ : Dg.St) = _
  rw [h1, h2, e1, e2]
theorem Bh.sets_s {w W : World} {X : Nat} {sl wl : List Nat} {T40 T47 : TypeId} (h : Bh w W X sl wl T40 T47) (i x : Nat) : Bh w (W.setCell ⟨w.heap.size, i, none⟩ (.int .u32 x)) X (sl.set i x) wl T40 T47 :=
  have := h.hX
  ⟨WX.set h.s i x, BX.other h.x (by omega) _, BX.other h.r (by omega) _, h.b.setCell (Nat.le_refl _) _, h.hX⟩
theorem info_u32 : (Tryd.prog.info? 38).map (fun i => (i.zero, i.size, i.bytes)) = some (some (.int .u32 0), 1, 4) := by kernel_rfl
theorem behind_any (st : Dg.St) (b : List Int) (w : World) (kt : KT w) (hs : st.ok) (hl : b.length = 64) (hy : Byt b) :
    Calls Tryd.prog 20 #[.agg (st.l.map vw).toArray, .agg (b.map vb).toArray] w fun e w' => e = .returned (.agg ((Dg.cmp st b).l.map vw).toArray) ∧ Below w.heap.size w w' := by
  have wd := Lib.hid (fun W => widen_any b W hl hy)
  obtain ⟨CS, hCS⟩ : ∃ CS, (st.l.map vw).toArray = CS := ⟨_, rfl⟩
  obtain ⟨DS, hDS⟩ : ∃ CS, (b.map vb).toArray = CS := ⟨_, rfl⟩
  rw [hDS] at wd
  have HST := Lib.hid (fun W => behind_start (w := W) (T := 40) (T1 := 41) hCS hDS)
  have TI := Lib.hid (show (Tryd.prog.info? 41).map (·.size) = some 64 by kernel_rfl)
  have TW := Lib.hid (show (Tryd.prog.info? 47).map (·.size) = some 64 by kernel_rfl)
  have TS := Lib.hid (show (Tryd.prog.info? 40).map (·.size) = some 8 by kernel_rfl)
  have HY := Lib.hid hy; have HL := Lib.hid hl; have HDS := Lib.hid hDS; have KTH := Lib.hid kt; have HS := Lib.hid hs
  have E : Hid (Dg.cmp st b = Dg.add st (Dg.rs (Dg.wl b 64) st 64)) := rfl
  rw [E.out, hCS, hDS]
  clear hy hl hCS hDS kt hs
  obtain ⟨WS, hWS⟩ : ∃ WS, ((Dg.wl b 64).map vw).toArray = WS := ⟨_, rfl⟩
  rw [hWS] at wd
  have hws : WS.size = 64 := by rw [← hWS]; simp [Dg.wl_len]
  have hone : WS.all (·.oneCell') = true := by rw [← hWS]; exact all_oneCell_toArray (vw_one _)
  have HW1 := Lib.hid hws; have HW2 := Lib.hid hone; have HWS := Lib.hid hWS
  clear hws hone hWS
  go_enter Tryd.func20, Tryd.ntmps20
  go_upto_region 1 with (fail)
  have hst := HST.out w
  change Code.wp _ _ _ _ (((w.alloc (.cells CS 40)).alloc (.cells DS 41)).alloc (.cells ((List.replicate 8 0).map vw).toArray 40))
  generalize ((w.alloc (.cells CS 40)).alloc (.cells DS 41)).alloc (.cells ((List.replicate 8 0).map vw).toArray 40) = W0 at *
  obtain ⟨h1, h2, h3, h4, h5⟩ := hst
  have H1 := Lib.hid h1; have H3 := Lib.hid h3; have H4 := Lib.hid h4; have H5 := Lib.hid h5
  refine wp_region_lit ?_
  refine wpList_load_mid rfl 41 (.tmp 3) rfl (w.heap.size + 1) 0 rfl (b.map vb) _ (YX.range h2) Tryd.underlying41 rfl (by rw [List.length_map, HL.out]; exact TI.out) ?_
  rw [HDS.out]
  clear h1 h2 h3 h4 h5 HST
  go_upto_region 2 with (first
    | (go_at_call 25; (with_reducible refine (wd.out _).mono ?_); rintro e w4 ⟨rfl, hb4⟩; have HB4 := Lib.hid hb4; have hst := fun (c : Array Value) (h : c.size = 64) => run_storeCells_new (P := Tryd.prog) w4 47 c WS (by rw [HW1.out]; exact TW.out) (by rw [HW1.out]; exact h) HW2.out; clear hb4))
  have hbh : Bh w (w4.alloc (.cells WS 47)) w4.heap.size st.l (Dg.wl b 64) 40 47 := by
    have hx := BX.new w4 47 WS
    have hb5 : Below w4.heap.size w4 (w4.alloc (.cells WS 47)) := (Below.refl _ _).alloc (Nat.le_refl _) _
    have hb6 : Below W0.heap.size W0 (w4.alloc (.cells WS 47)) := bthen HB4.out hb5
    have h5 := H5.out
    have h6 := HB4.out.size
    exact ⟨BX.later H1.out hb6, by unfold WX; rw [HWS.out]; exact hx, BX.later H3.out hb6, H4.out.trans (hb6.mono (by omega)), by omega⟩
  have HBH := Lib.hid hbh
  clear hbh hst wd H1 H3 H4 H5 HB4 TI HL HDS HW1 HW2 HWS
  generalize w4.alloc (.cells WS 47) = W5 at *
  generalize w4.heap.size = X at *
  have p0 : W5.cell? ⟨w.heap.size, 0, none⟩ = some (.int .u32 st.a) := BX.cell HBH.out.s rfl
  have p1 : W5.cell? ⟨w.heap.size, 1, none⟩ = some (.int .u32 st.b) := BX.cell HBH.out.s rfl
  have p2 : W5.cell? ⟨w.heap.size, 2, none⟩ = some (.int .u32 st.c) := BX.cell HBH.out.s rfl
  have p3 : W5.cell? ⟨w.heap.size, 3, none⟩ = some (.int .u32 st.d) := BX.cell HBH.out.s rfl
  have p4 : W5.cell? ⟨w.heap.size, 4, none⟩ = some (.int .u32 st.e) := BX.cell HBH.out.s rfl
  have p5 : W5.cell? ⟨w.heap.size, 5, none⟩ = some (.int .u32 st.f) := BX.cell HBH.out.s rfl
  have p6 : W5.cell? ⟨w.heap.size, 6, none⟩ = some (.int .u32 st.g) := BX.cell HBH.out.s rfl
  have p7 : W5.cell? ⟨w.heap.size, 7, none⟩ = some (.int .u32 st.h) := BX.cell HBH.out.s rfl
  go_wp2
  go_quiet (fail)
  have HB5 := Lib.hid (HBH.out.drewN nq)
  clear p0 p1 p2 p3 p4 p5 p6 p7 HBH
  generalize W5.drewN nq = W6 at *
  go_wp2
  go_loopw [6, 7, 8, 9, 10, 11, 12, 13, 40] (fun a b' c d e f g h v wr => ∃ (i : Nat) (s : Dg.St), i ≤ 64 ∧ v = .int .i64 i ∧ s = Dg.rs (Dg.wl b 64) st i ∧ a = .int .u32 s.a ∧ b' = .int .u32 s.b ∧ c = .int .u32 s.c ∧ d = .int .u32 s.d ∧ e = .int .u32 s.e ∧ f = .int .u32 s.f ∧ g = .int .u32 s.g ∧ h = .int .u32 s.h ∧ Bh w wr X st.l (Dg.wl b 64) 40 47) (fun _ _ _ _ _ _ _ _ v _ => 64 - (intOf v).toNat)
  case atStart => exact ⟨0, st, by omega, rfl, rfl, rfl, rfl, rfl, rfl, rfl, rfl, rfl, rfl, HB5.out⟩
  case round =>
    obtain ⟨i, s, hi, rfl, hs, rfl, rfl, rfl, rfl, rfl, rfl, rfl, rfl, hn⟩ := hrel
    clear HB5
    have hsi := Dg.rs_ok (w := Dg.wl b 64) HS.out i
    have hnx := Dg.rs_step (Dg.wl b 64) st i
    rw [← hs] at hsi hnx
    by_cases hlt : i < 64
    · have ckk := (KTH.out.on hn.b).cell hlt
      have cww := hn.x.cell (j := i) (by rw [Dg.wl_len]; exact hlt)
      have hkl := Dg.K_lt i
      have hwl := Dg.wl_lt HY.out 64 i
      generalize Dg.K.getD i 0 = kx at *
      generalize (Dg.wl b 64).getD i 0 = wx at *
      obtain ⟨r6, r11, r25, x1, x2, z1, f1, ne, f2, cc, z2, z3, t1, a1, a2, a3, a4, a5, a6, a7, a8, a9, a10, a11, a12, a13, a14, a15, a16⟩ := Dg.t1_nums hsi hkl hwl
      obtain ⟨r2, r13, r22, y1, y2, g1, g2, g3', c1, c2, t2, b1, b2, b3, b4, b5, b6, b7, b8, b9, b10, b11, b12, b13⟩ := Dg.t2_nums hsi
      obtain ⟨u1, hu1⟩ : ∃ u, (t1 + t2) % 4294967296 = u := ⟨_, rfl⟩
      obtain ⟨u2, hu2⟩ : ∃ u, (s.d + t1) % 4294967296 = u := ⟨_, rfl⟩
      have d1 := Dg.w32 u1 hu1
      have d2 := Dg.w32 u2 hu2
      rw [Dg.round_st a14 b12 hu1 hu2] at hnx
      have HNX := Lib.hid hnx
      have T6 := Lib.hid (right_q (n := 6) (z := 6) rfl a1 hsi.2.2.2.2.1 (by decide) (by decide))
      have T11 := Lib.hid (right_q (n := 11) (z := 11) rfl a2 hsi.2.2.2.2.1 (by decide) (by decide))
      have T25 := Lib.hid (right_q (n := 25) (z := 25) rfl a3 hsi.2.2.2.2.1 (by decide) (by decide))
      have T2 := Lib.hid (right_lit (n := 2) (z := 2) rfl b1 hsi.1 (by decide) (by decide))
      have T13 := Lib.hid (right_lit (n := 13) (z := 13) rfl b2 hsi.1 (by decide) (by decide))
      have T22 := Lib.hid (right_lit (n := 22) (z := 22) rfl b3 hsi.1 (by decide) (by decide))
      have i64 : (i : Int) < 64 := by omega
      have HN1 := Lib.hid hn
      obtain ⟨sa, sb, sc, sd, se, sf, sg, sh⟩ := s
      clear hn hnx hs a1 a2 a3 a14 a15 b1 b2 b3 b12 b13 hu1 hu2 hsi hkl hwl
      dsimp only at *
      go_wp2
      go_quiet (first | (go_at_call 26; with_reducible exact T6.out _ _) | (go_at_call 26; with_reducible exact T11.out _ _) | (go_at_call 26; with_reducible exact T25.out _ _))
      have HN2 := Lib.hid (HN1.out.drewN nq)
      clear ckk cww HN1
      generalize wr.drewN nq = W1 at *
      go_wp2_with (first
        | (go_at_call 26; (with_reducible refine (T2.out _).mono ?_); rintro e w7 ⟨rfl, rfl⟩)
        | (go_at_call 26; (with_reducible refine (T13.out _).mono ?_); rintro e w7 ⟨rfl, rfl⟩)
        | (go_at_call 26; (with_reducible refine (T22.out _).mono ?_); rintro e w7 ⟨rfl, rfl⟩))
      go_roundw
      case rel => exact ⟨i + 1, ⟨u1, sa, sb, sc, u2, se, sf, sg⟩, by omega, by go_num, HNX.out.symm, rfl, rfl, rfl, rfl, rfl, rfl, rfl, rfl, HN2.out⟩
      case measure => simp [intOf]; omega
    · have e : i = 64 := by omega
      subst e
      rw [show ((64 : Nat) : Int) = 64 from rfl]
      have HSQ := Lib.hid hs
      have HN1 := Lib.hid hn
      have HS6 := Lib.hid hsi
      obtain ⟨CS6, hCS6⟩ : ∃ CS, (s.l.map vw).toArray = CS := ⟨_, rfl⟩
      have HCS6 := Lib.hid hCS6
      clear hn hnx hs hlt hi hsi hCS6
      go_upto_region 14 with (fail)
      have hbn : Below wr.heap.size wr (wr.alloc (.cells (s.l.map vw).toArray 40)) := (Below.refl _ _).alloc (Nat.le_refl _) _
      have HN2 := Lib.hid (HN1.out.later hbn)
      have hq : WX (wr.alloc (.cells (s.l.map vw).toArray 40)) wr.heap.size 40 s.l := BX.new wr 40 _
      change Code.wp _ _ _ _ (wr.alloc (.cells (s.l.map vw).toArray 40))
      clear hbn HN1
      generalize wr.alloc (.cells (s.l.map vw).toArray 40) = W7 at *
      generalize wr.heap.size = Q at *
      refine wp_region_lit ?_
      refine wpList_load_mid rfl 40 (.tmp 19) rfl Q 0 rfl (s.l.map vw) _ (WX.range hq) Tryd.underlying40 rfl (by rw [List.length_map, Dg.l_len]; exact TS.out) ?_
      rw [HCS6.out]
      clear hq
      have ix : ∀ (i : Nat), i < 8 → ∀ W : World, (Instr.index 40 (.agg CS6) (.int .i64 (i : Int))).run Tryd.prog W = .ok (.int .u32 (s.l.getD i 0 : Nat)) W := fun i h W => by
        obtain ⟨i0, hi, _⟩ := info_parts info_u32
        refine run_index_row (e := 38) Tryd.underlying40 (by kernel_rfl) hi (by kernel_rfl) i h ?_ W
        rw [← HCS6.out, List.getElem?_toArray, List.getElem?_map, List.getElem?_eq_getElem (by rw [Dg.l_len]; omega)]
        simp [vw, List.getD_eq_getElem?_getD, List.getElem?_eq_getElem (show i < s.l.length by rw [Dg.l_len]; omega)]
      have IX := Lib.hid ix
      clear ix
      go_wp2
      go_loopw [115] (fun v wr => ∃ j : Nat, j ≤ 8 ∧ v = .int .i64 j ∧ Bh w wr X (Dg.mix st s j) (Dg.wl b 64) 40 47) (fun v _ => 8 - (intOf v).toNat)
      case atStart => exact ⟨0, by omega, rfl, HN2.out⟩
      case round =>
        obtain ⟨j, hj, rfl, hn⟩ := hrel
        clear HN2
        by_cases hlt : j < 8
        · have cp := hn.s.cell (j := j) (by rw [Dg.mix_len _ _ hj]; exact hlt)
          have fz := BX.free hn.s j
          rw [Dg.mix_at _ _ hlt] at cp
          have ixj := IX.out j hlt
          have hset := Dg.mix_set st s hlt
          generalize st.l.getD j 0 = x at *
          generalize s.l.getD j 0 = y at *
          obtain ⟨z, hz⟩ : ∃ z, (x + y) % 4294967296 = z := ⟨_, rfl⟩
          rw [hz] at hset
          have d1 := Dg.w32 z hz
          have HSET := Lib.hid hset
          have j8 : (j : Int) < 8 := by omega
          have HN3 := Lib.hid hn
          clear hset hz hn
          go_wp2
          go_roundw
          case rel => exact ⟨j + 1, by omega, by go_num, by rw [← HSET.out]; exact HN3.out.sets_s j z⟩
          case measure => simp [intOf]; omega
        · have e : j = 8 := by omega
          subst e
          obtain ⟨hp, _, hr, hb, hXX⟩ := hn
          rw [Dg.mix_all] at hp
          have hl8 : ((Dg.add st s).l.map vw).length = 8 := by rw [List.length_map, Dg.l_len]
          go_upto_region 19 with (fail)
          refine wp_region_lit ?_
          refine wpList_load_mid rfl 40 (.tmp 2) rfl w.heap.size 0 rfl ((Dg.add st s).l.map vw) _ (WX.range hp) Tryd.underlying40 rfl (by rw [hl8]; exact TS.out) ?_
          refine wpList_store_mid rfl 40 (.tmp 4) (.tmp 126) rfl (w.heap.size + 1 + 1) 0 ((Dg.add st s).l.map vw).toArray rfl rfl (by simpa [Dg.l_len] using WX.there hr) (by simpa [Dg.l_len] using TS.out) (all_oneCell_toArray (vw_one _)) ?_
          refine wpList_nil ?_
          have hx2 : WX (wr.setCells (w.heap.size + 1 + 1) 0 ((Dg.add st s).l.map vw).toArray.toList) (w.heap.size + 1 + 1) 40 (Dg.add st s).l := by
            have := WX.sets hr (l' := (Dg.add st s).l) (by rw [Dg.l_len]; simp)
            simpa using this
          have hb2 : Below w.heap.size w (wr.setCells (w.heap.size + 1 + 1) 0 ((Dg.add st s).l.map vw).toArray.toList) := below_sets (by omega) _ _ hb
          have rl := run_loadVar_mid (P := Tryd.prog) _ (w.heap.size + 1 + 1) 0 40 _ _ (WX.range hx2) Tryd.underlying40 rfl (by rw [hl8]; exact TS.out)
          have RL := Lib.hid rl; have HB2 := Lib.hid hb2
          clear rl hb2 hx2 hp hr hb
          generalize wr.setCells (w.heap.size + 1 + 1) 0 ((Dg.add st s).l.map vw).toArray.toList = W2 at *
          obtain ⟨V, hV⟩ : ∃ V, Value.agg ((Dg.add st s).l.map vw).toArray = V := ⟨_, rfl⟩
          have HV := Lib.hid hV
          rw [hV] at RL ⊢
          clear hV
          go_wp2
          refine bodyPost_ret (v := V) ?_ rfl ⟨by rw [← HSQ.out, HV.out], HB2.out⟩
          exact results_cell rfl _ _ ⟨w.heap.size + 1 + 1, 0, none⟩ V rfl RL.out
end Go.Proofs.YtfggknplekiaoaaDoor
