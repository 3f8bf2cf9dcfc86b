/- WALKS OF LAYER 12, SIXTH PART: the reference's digest. -/
import Derived.Test.YtfggknplekiaoaaDoorD12n
import Derived.StillTailTactics
import Derived.Deep.MidRow
import Derived.Deep.WholeRow
namespace Go.Proofs.YtfggknplekiaoaaDoor
open Go Go.RowKit
set_option maxHeartbeats 4000000
set_option maxRecDepth 100000
set_option linter.unusedVariables false
theorem ofm_start {w w1 : World} {g c1 : Nat} {T24 T44 T45 tI : TypeId} (ho : w1.ownsRow (w.alloc (.cells (List.replicate 32 (Value.int .u8 0)).toArray T24)).heap.size tI 1 (.slice (some ⟨g, 0, none⟩) 64 c1) 64 (Dg.P64.map Dg.vi))
    (hb : Below (w.alloc (.cells (List.replicate 32 (Value.int .u8 0)).toArray T24)).heap.size (w.alloc (.cells (List.replicate 32 (Value.int .u8 0)).toArray T24)) w1) :
    OfM w ((w1.alloc (.cells ((List.replicate 8 0).map vw).toArray T44)).alloc (.cells ((List.replicate 64 0).map vw).toArray T45)) w.heap.size w1.heap.size (w1.heap.size + 1) g (List.replicate 64 0) (List.replicate 8 0) T24 T44 T45 := by
  have hg := World.ownsRow.lt ho g rfl
  have hs := hb.size
  simp only [World.size_alloc] at hg hs
  have hbw : Below w.heap.size w w1 := ((Below.refl _ w).alloc (Nat.le_refl _) _).trans (hb.mono (by simp))
  refine ⟨?_, ?_, ?_, ?_, ?_, ?_, ?_, ?_, ?_, ?_, ?_, ?_, ?_, ?_⟩
  · have := BX.new (w1.alloc (.cells ((List.replicate 8 0).map vw).toArray T44)) T45 ((List.replicate 64 0).map vw).toArray
    simp only [World.size_alloc] at this
    exact this
  · exact (BX.new w1 T44 ((List.replicate 8 0).map vw).toArray).alloc _
  · intro j q hj
    have hj64 : j < 64 := by have := (List.getElem?_eq_some_iff.1 hj).1; rw [Dg.P_len] at this; exact this
    rw [World.cell?_alloc_lt _ _ _ (by simp; omega), World.cell?_alloc_lt _ _ _ (by simp; omega), World.ownsRow.cellAt ho j (by omega), List.getElem?_map, hj]
    rfl
  · exact (((BX.new w T24 (List.replicate 32 (Value.int .u8 0)).toArray).below hb (by simp)).alloc _).alloc _
  · exact (hbw.alloc hbw.size _).alloc (by have := hbw.size; simp; omega) _
  · simp; omega
  all_goals omega
theorem turn_lit {x n r : Nat} {z : Int} (hz : (n : Int) = z) (hr : Dg.rot x n = r) (hx : x < 4294967296) (h1 : 1 ≤ n) (h2 : n ≤ 31) (W : World) (k : Nat) :
    Calls Tryd.prog 18 #[.int .u32 x, .int .i64 z] (W.drewN k) fun e w' => e = .returned (.int .u32 (r : Int)) ∧ ∃ m, w' = W.drewN m := by
  subst hz hr
  exact turn_q W k hx h1 h2
theorem refof_any (A : Option Addr) (n c : Nat) (xs : List Int) (w : World) (ha : RB w w.heap.size A n xs) (hy : Byt xs) (hn : n ≤ 100000) :
    Calls Tryd.prog 8 #[.slice A n c] w fun e w' => e = .returned (.agg ((Dg.of xs).map (Value.int .u8)).toArray) ∧ Below w.heap.size w w' := by
  have pr := Lib.hid (fun W => primes_any W)
  have HA := Lib.hid ha; have HY := Lib.hid hy; clear ha hy
  go_enter Tryd.func8, Tryd.ntmps8
  go_wp2_with (go_at_call 14; (with_reducible refine (pr.out _).mono ?_); rintro e w1 ⟨v1, rfl, ho1, hb1⟩; have HO1 := Lib.hid ho1; have HB1 := Lib.hid hb1; obtain ⟨g, c1, x1, rfl, _, _⟩ := own_at ho1 (j := 0) (by omega); clear ho1 hb1)
  have HM := Lib.hid (ofm_start (T44 := 39) (T45 := 47) HO1.out HB1.out)
  have hgw : Hid (w.heap.size + 1 ≤ w1.heap.size) := by have := HB1.out.size; simp only [World.size_alloc] at this; exact this
  obtain ⟨P, hP⟩ : ∃ P, w1.heap.size = P := ⟨_, rfl⟩
  rw [hP] at HM hgw
  rw [hP]
  clear hP pr HB1 HO1
  go_loopw [6] (fun v wr => ∃ i : Nat, i ≤ 64 ∧ v = .int .i64 i ∧ OfM w wr w.heap.size P (P + 1) g (Dg.lay Dg.K 64 i) (List.replicate 8 0) 24 39 47) (fun v _ => 64 - (intOf v).toNat)
  case atStart => exact ⟨0, by omega, rfl, HM.out⟩
  case round =>
    obtain ⟨i, hi, rfl, hm⟩ := hrel
    have HM1 := Lib.hid hm
    clear hm HM
    by_cases hlt : i < 64
    · obtain ⟨q, hq⟩ : ∃ q, Dg.P64[i]? = some q := ⟨_, List.getElem?_eq_getElem (by rw [Dg.P_len]; exact hlt)⟩
      have cq := HM1.out.f i q hq
      have hql := Dg.P_lt hq
      have hka := Dg.K_at hq
      have rt := Lib.hid (fun W => root_any q true W hql)
      rw [hka] at rt
      have hset := Dg.lay_set (l := Dg.K) (n := 64) Dg.K_len hlt
      have hll := Lib.hid (Dg.lay_len (l := Dg.K) (n := 64) Dg.K_len hi)
      have hkl := Dg.K_lt i
      generalize Dg.K.getD i 0 = kx at *
      have HSET := Lib.hid hset
      have i64 : (i : Int) < 64 := by omega
      clear hq hka hset
      go_wp2_with (go_at_call 15; (with_reducible refine (rt.out _).mono ?_); rintro e w2 ⟨rfl, hb2⟩; have hm2 := HM1.out.later hb2; have HM2 := Lib.hid hm2; have cz := WX.cell hm2.k (j := i) (by rw [hll.out]; exact hlt); have fz := BX.free hm2.k i; clear hb2 hm2)
      go_roundw
      case rel => exact ⟨i + 1, by omega, by go_num, by have := HM2.out.setk i kx; rw [HSET.out] at this; exact this⟩
      case measure => simp [intOf]; omega
    · have e : i = 64 := by omega
      subst e
      rw [Dg.lay_all Dg.K_len] at HM1
      rw [show ((64 : Nat) : Int) = 64 from rfl]
      clear hlt hi
      go_wp2
      go_loopw [7] (fun v wr => ∃ i : Nat, i ≤ 8 ∧ v = .int .i64 i ∧ OfM w wr w.heap.size P (P + 1) g Dg.K (Dg.lay Dg.H.l 8 i) 24 39 47) (fun v _ => 8 - (intOf v).toNat)
      case atStart => exact ⟨0, by omega, rfl, HM1.out⟩
      case round =>
        obtain ⟨i, hi, rfl, hm⟩ := hrel
        have HM2 := Lib.hid hm
        clear hm HM1
        by_cases hlt : i < 8
        · obtain ⟨q, hq⟩ : ∃ q, Dg.P64[i]? = some q := ⟨_, List.getElem?_eq_getElem (by rw [Dg.P_len]; omega)⟩
          have cq := HM2.out.f i q hq
          have hql := Dg.P_lt hq
          have hka := Dg.H_at hlt hq
          have rt := Lib.hid (fun W => root_any q false W hql)
          rw [hka] at rt
          have hset := Dg.lay_set (l := Dg.H.l) (n := 8) rfl hlt
          have hll := Lib.hid (Dg.lay_len (l := Dg.H.l) (n := 8) rfl hi)
          generalize Dg.H.l.getD i 0 = kx at *
          have HSET := Lib.hid hset
          have i8 : (i : Int) < 8 := by omega
          have i64 : (i : Int) < 64 := by omega
          clear hq hka hset
          go_wp2_with (go_at_call 15; (with_reducible refine (rt.out _).mono ?_); rintro e w2 ⟨rfl, hb2⟩; have hm2 := HM2.out.later hb2; have HM3 := Lib.hid hm2; have cz := WX.cell hm2.p (j := i) (by rw [hll.out]; exact hlt); have fz := BX.free hm2.p i; clear hb2 hm2)
          go_roundw
          case rel => exact ⟨i + 1, by omega, by go_num, by have := HM3.out.setp i kx; rw [HSET.out] at this; exact this⟩
          case measure => simp [intOf]; omega
        · have e : i = 8 := by omega
          subst e
          rw [Dg.lay_all (l := Dg.H.l) (n := 8) rfl] at HM2
          rw [show ((8 : Nat) : Int) = 8 from rfl]
          clear hlt hi
          have fl := Lib.hid (refill_any A n c xs wr ((HA.out.below HM2.out.b).more HM2.out.b.size) hn)
          go_wp2_with (go_at_call 16; (with_reducible refine fl.out.mono ?_); rintro e w3 ⟨v3, rfl, ho3, hb3⟩; have HM3 := Lib.hid (HM2.out.later hb3); obtain ⟨g3, c3, cur3, rfl, hg3a, hg3b, _, hc3, hm3, _, _⟩ := ho3.shape (by omega); obtain ⟨A', c', e', hr3, _, _⟩ := ho3.slice; cases e'; have HR3 := Lib.hid hr3; have HM33 := Lib.hid hm3; have HG3 : Hid (P + 1 < g3) := Lib.hid (by have := BX.lt HM2.out.k; omega); clear ho3 hb3 hr3 hm3 hg3a hg3b)
          have hwh := Dg.fill_whole n
          have hfb := Dg.fill_byt HY.out
          have hpl := Dg.pad_lt n
          have E : Hid (Dg.of xs = Dg.out (Dg.hb Dg.H ((Dg.fill xs).length / 64) (Dg.fill xs))) := rfl
          have hFl := HR3.out.1
          obtain ⟨N, hN⟩ : ∃ N, n + 1 + Dg.pad n + 8 = N := ⟨_, rfl⟩
          rw [hN] at hwh hc3 HR3 hFl ⊢
          have hNb : N ≤ 200000 := by omega
          obtain ⟨T, hT⟩ : ∃ T, N / 64 = T := ⟨_, rfl⟩
          have hNT : N = 64 * T := by omega
          rw [hFl, hT] at E
          have HNT := Lib.hid hNT; have HFB := Lib.hid hfb; have HFL := Lib.hid hFl
          generalize Dg.fill xs = F at *
          have hTb : T ≤ 4000 := by omega
          clear hN hwh hpl hT hfb hFl hNT HM2 fl
          go_loopw [9] (fun v wr => ∃ a : Nat, a ≤ T ∧ v = .int .i64 ((64 * a : Nat) : Int) ∧ OfM w wr w.heap.size P (P + 1) g Dg.K (Dg.hb Dg.H a F).l 24 39 47 ∧ RB wr wr.heap.size (some ⟨g3, 0, none⟩) N F) (fun v _ => N - (intOf v).toNat)
          case atStart => exact ⟨0, by omega, rfl, HM3.out, HR3.out⟩
          case round =>
            obtain ⟨a, ha, rfl, hm, hr⟩ := hrel
            have HM4 := Lib.hid hm; have HR4 := Lib.hid hr
            have hsok := Dg.hb_ok Dg.H_ok a F
            have hnext := Lib.hid (Dg.hb_snoc Dg.H a F)
            clear hm hr HM3 HR3
            by_cases hlt : a < T
            · obtain ⟨t, ht⟩ : ∃ t, 64 * a = t := ⟨_, rfl⟩
              obtain ⟨t2, ht2⟩ : ∃ t2, t + 64 = t2 := ⟨_, rfl⟩
              rw [ht]
              have htN : t + 64 ≤ N := by have := HNT.out; omega
              have hg3 := HR4.out.at0 (by omega)
              have hb3 : g3 < wr.heap.size := by obtain ⟨_, _, e, hb, _⟩ := hg3; cases e; exact hb
              clear hg3
              have hrb := HR4.out.back (k := t) (by omega)
              rw [Nat.zero_add] at hrb
              have hrf := hrb.front (k := 64) (by omega)
              rw [← ht] at hrf
              generalize hblk : (F.drop (64 * a)).take 64 = blk at *
              have hyb : Byt blk := by rw [← hblk]; intro j; by_cases hj : j < 64
                                       · have := HFB.out (64 * a + j); simpa [List.getD, List.getElem?_take, List.getElem?_drop, hj] using this
                                       · simp [List.getD, List.getElem?_take, hj]
              rw [ht] at hrf
              have hct : ¬ c3 = t := by omega
              have s1 : IntKind.i64.wrap ((t : Int) + 64) = (t2 : Int) := by rw [IntWalk.i64_in _ (by omega)]; omega
              have q4 : t2 - t = 64 := by omega
              have q5 : t ≤ t2 := by omega
              have q6 : t2 ≤ c3 := by omega
              have htN' : (t : Int) < (N : Int) := by omega
              have hmax : c3 ≤ 9223372036854775807 := by have := HM33.out; unfold maxLen at this; exact this
              have wd := Lib.hid (words_any (some ⟨g3, t, none⟩) (c3 - t) blk wr hrf hyb (by omega))
              have hcs : (((Dg.wl blk 64).map vw).toArray).size = 64 := by simp [Dg.wl_len]
              have hone := all_oneCell_toArray (vw_one (Dg.wl blk 64))
              obtain ⟨cs, hcs0⟩ : ∃ cs, ((Dg.wl blk 64).map vw).toArray = cs := ⟨_, rfl⟩
              rw [hcs0] at wd hcs hone
              have HCS := Lib.hid hcs0; have HT1 := Lib.hid ht; have HT2 := Lib.hid ht2; have HBLK := Lib.hid hblk; have HYB := Lib.hid hyb
              have ti : (Tryd.prog.info? 47).map (·.size) = some 64 := by kernel_rfl
              have TI := Lib.hid ti; have HC1 := Lib.hid hcs; have HC2 := Lib.hid hone
              clear hcs0 ht ht2 hblk hyb hrb hrf ti hcs hone
              go_upto_region 16 with (first
                | (go_at_call 17; (with_reducible refine wd.out.mono ?_); rintro e w4 ⟨rfl, hb4⟩; have HM5 := Lib.hid (HM4.out.later hb4); have HR5 := Lib.hid ((HR4.out.below hb4).more hb4.size); have hst := fun (c : Array Value) (h : c.size = 64) => run_storeCells_new (P := Tryd.prog) w4 47 c cs (by rw [HC1.out]; exact TI.out) (by rw [HC1.out]; exact h) HC2.out; clear hb4))
              have hwx : WX (w4.alloc (.cells cs 47)) w4.heap.size 47 (Dg.wl blk 64) := by
                have := BX.new w4 47 cs
                rw [← HCS.out] at this ⊢
                exact this
              have hb5 : Below w4.heap.size w4 (w4.alloc (.cells cs 47)) := (Below.refl _ _).alloc (Nat.le_refl _) _
              have hm6 := HM5.out.later hb5
              have HR6 := Lib.hid ((HR5.out.below hb5).more hb5.size)
              have hX : Hid (P + 1 < w4.heap.size ∧ g < w4.heap.size ∧ w.heap.size < P ∧ P + 1 < g3 ∧ g3 < w4.heap.size) := ⟨BX.lt HM5.out.k, HM5.out.hg, by have := hgw.out; omega, HG3.out, by obtain ⟨_, _, e, hb, _⟩ := HR5.out.at0 (by omega); cases e; exact hb⟩
              have hsz : (w4.alloc (.cells cs 47)).heap.size = w4.heap.size + 1 := by simp
              clear hst wd HM5 HR5 HM4 HR4 hb5 HC2 HC1 TI HCS
              generalize w4.alloc (.cells cs 47) = W5 at *
              generalize w4.heap.size = X at *
              generalize Dg.hb Dg.H a F = st at *
              have p0 : W5.cell? ⟨P, 0, none⟩ = some (.int .u32 st.a) := BX.cell hm6.p rfl
              have p1 : W5.cell? ⟨P, 1, none⟩ = some (.int .u32 st.b) := BX.cell hm6.p rfl
              have p2 : W5.cell? ⟨P, 2, none⟩ = some (.int .u32 st.c) := BX.cell hm6.p rfl
              have p3 : W5.cell? ⟨P, 3, none⟩ = some (.int .u32 st.d) := BX.cell hm6.p rfl
              have p4 : W5.cell? ⟨P, 4, none⟩ = some (.int .u32 st.e) := BX.cell hm6.p rfl
              have p5 : W5.cell? ⟨P, 5, none⟩ = some (.int .u32 st.f) := BX.cell hm6.p rfl
              have p6 : W5.cell? ⟨P, 6, none⟩ = some (.int .u32 st.g) := BX.cell hm6.p rfl
              have p7 : W5.cell? ⟨P, 7, none⟩ = some (.int .u32 st.h) := BX.cell hm6.p rfl
              have HM6 := Lib.hid hm6; have HWX := Lib.hid hwx
              clear hm6 hwx
              go_upto_region 17 with (fail)
              have hn0 : OfN w (W5.alloc (.cells (st.l.map vw).toArray 39)) P g X g3 N st.l (Dg.wl blk 64) st.l F 24 39 47 := by
                obtain ⟨x1, x2, x3, x4, x5⟩ := hX.out
                have hba : Below W5.heap.size W5 (W5.alloc (.cells (st.l.map vw).toArray 39)) := (Below.refl _ _).alloc (Nat.le_refl _) _
                exact ⟨HM6.out.later hba, BX.later HWX.out hba, by have := BX.new W5 39 (st.l.map vw).toArray; rw [hsz] at this; exact this, (HR6.out.below hba).more hba.size, x1, x2, x3, x4, x5⟩
              have HN0 : Hid (OfN w (W5.alloc (.cells #[.int .u32 st.a, .int .u32 st.b, .int .u32 st.c, .int .u32 st.d, .int .u32 st.e, .int .u32 st.f, .int .u32 st.g, .int .u32 st.h] 39)) P g X g3 N st.l (Dg.wl blk 64) st.l F 24 39 47) := hn0
              clear hn0 HM6 HWX HR6 hX p0 p1 p2 p3 p4 p5 p6 p7
              go_wp2
              go_loopw [12] (fun v wr => ∃ i : Nat, i ≤ 64 ∧ v = .int .i64 i ∧ OfN w wr P g X g3 N st.l (Dg.wl blk 64) (Dg.rs (Dg.wl blk 64) st i).l F 24 39 47) (fun v _ => 64 - (intOf v).toNat)
              case atStart => exact ⟨0, by omega, rfl, HN0.out⟩
              case round =>
                obtain ⟨i, hi, rfl, hn⟩ := hrel
                have hsi := Dg.rs_ok (w := Dg.wl blk 64) hsok i
                have hnx := Dg.rs_step (Dg.wl blk 64) st i
                clear HN0
                by_cases hlt : i < 64
                · have ckk := hn.m.k.cell (j := i) (by rw [Dg.K_len]; exact hlt)
                  have cww := hn.x.cell (j := i) (by rw [Dg.wl_len]; exact hlt)
                  have hkl := Dg.K_lt i
                  have hwl := Dg.wl_lt HYB.out 64 i
                  generalize Dg.rs (Dg.wl blk 64) st i = s at *
                  generalize Dg.K.getD i 0 = kx at *
                  generalize (Dg.wl blk 64).getD i 0 = wx at *
                  obtain ⟨r6, r11, r25, x1, x2, z1, f1, ne, f2, cc, z2, z3, t1, a1, a2, a3, a4, a5, a6, a7, a8, a9, a10, a11, a12, a13, a14, a15, a16⟩ := Dg.t1_nums hsi hkl hwl
                  obtain ⟨r2, r13, r22, y1, y2, g1, g2, g3', c1, c2, t2, b1, b2, b3, b4, b5, b6, b7, b8, b9, b10, b11, b12, b13⟩ := Dg.t2_nums hsi
                  obtain ⟨u1, hu1⟩ : ∃ u, (t1 + t2) % 4294967296 = u := ⟨_, rfl⟩
                  obtain ⟨u2, hu2⟩ : ∃ u, (s.d + t1) % 4294967296 = u := ⟨_, rfl⟩
                  have d1 := Dg.w32 u1 hu1
                  have d2 := Dg.w32 u2 hu2
                  have hrl := Dg.round_eq a14 b12 hu1 hu2
                  rw [← hnx] at hrl
                  have HRL := Lib.hid hrl
                  have T6 := Lib.hid (turn_lit (n := 6) (z := 6) rfl a1 hsi.2.2.2.2.1 (by decide) (by decide))
                  have T11 := Lib.hid (turn_lit (n := 11) (z := 11) rfl a2 hsi.2.2.2.2.1 (by decide) (by decide))
                  have T25 := Lib.hid (turn_lit (n := 25) (z := 25) rfl a3 hsi.2.2.2.2.1 (by decide) (by decide))
                  have T2 := Lib.hid (turn_lit (n := 2) (z := 2) rfl b1 hsi.1 (by decide) (by decide))
                  have T13 := Lib.hid (turn_lit (n := 13) (z := 13) rfl b2 hsi.1 (by decide) (by decide))
                  have T22 := Lib.hid (turn_lit (n := 22) (z := 22) rfl b3 hsi.1 (by decide) (by decide))
                  have p0 : wr.cell? ⟨X + 1, 0, none⟩ = some (.int .u32 s.a) := BX.cell hn.s rfl
                  have p1 : wr.cell? ⟨X + 1, 1, none⟩ = some (.int .u32 s.b) := BX.cell hn.s rfl
                  have p2 : wr.cell? ⟨X + 1, 2, none⟩ = some (.int .u32 s.c) := BX.cell hn.s rfl
                  have p3 : wr.cell? ⟨X + 1, 3, none⟩ = some (.int .u32 s.d) := BX.cell hn.s rfl
                  have p4 : wr.cell? ⟨X + 1, 4, none⟩ = some (.int .u32 s.e) := BX.cell hn.s rfl
                  have p5 : wr.cell? ⟨X + 1, 5, none⟩ = some (.int .u32 s.f) := BX.cell hn.s rfl
                  have p6 : wr.cell? ⟨X + 1, 6, none⟩ = some (.int .u32 s.g) := BX.cell hn.s rfl
                  have p7 : wr.cell? ⟨X + 1, 7, none⟩ = some (.int .u32 s.h) := BX.cell hn.s rfl
                  have i64 : (i : Int) < 64 := by omega
                  have HN1 := Lib.hid hn
                  obtain ⟨sa, sb, sc, sd, se, sf, sg, sh⟩ := s
                  clear hn hnx hrl a1 a2 a3 a14 a15 b1 b2 b3 b12 b13 hu1 hu2 hsi hkl hwl
                  dsimp only at *
                  have CE : Hid (∀ n, (wr.drewN n).cell? ⟨X + 1, 0, none⟩ = some (.int .u32 sa) ∧ (wr.drewN n).cell? ⟨X + 1, 1, none⟩ = some (.int .u32 sb) ∧ (wr.drewN n).cell? ⟨X + 1, 2, none⟩ = some (.int .u32 sc) ∧ (wr.drewN n).cell? ⟨X + 1, 3, none⟩ = some (.int .u32 sd) ∧ (wr.drewN n).cell? ⟨X + 1, 4, none⟩ = some (.int .u32 se) ∧ (wr.drewN n).cell? ⟨X + 1, 5, none⟩ = some (.int .u32 sf) ∧ (wr.drewN n).cell? ⟨X + 1, 6, none⟩ = some (.int .u32 sg) ∧ (wr.drewN n).cell? ⟨X + 1, 7, none⟩ = some (.int .u32 sh) ∧ (wr.drewN n).cell? ⟨P + 1, i, none⟩ = some (.int .u32 kx) ∧ (wr.drewN n).cell? ⟨X, i, none⟩ = some (.int .u32 wx)) := Lib.hid fun n => ⟨p0, p1, p2, p3, p4, p5, p6, p7, ckk, cww⟩
                  go_wp2
                  go_quiet (fail)
                  have HN2 := Lib.hid (HN1.out.drewN nq)
                  clear p0 p1 p2 p3 p4 p5 p6 p7 ckk cww HN1
                  obtain ⟨p0, p1, p2, p3, p4, p5, p6, p7, ckk, cww⟩ := CE.out nq
                  clear CE
                  generalize wr.drewN nq = W1 at *
                  have CE : Hid (∀ n, (W1.drewN n).cell? ⟨X + 1, 0, none⟩ = some (.int .u32 sa) ∧ (W1.drewN n).cell? ⟨X + 1, 1, none⟩ = some (.int .u32 sb) ∧ (W1.drewN n).cell? ⟨X + 1, 2, none⟩ = some (.int .u32 sc) ∧ (W1.drewN n).cell? ⟨X + 1, 3, none⟩ = some (.int .u32 sd) ∧ (W1.drewN n).cell? ⟨X + 1, 4, none⟩ = some (.int .u32 se) ∧ (W1.drewN n).cell? ⟨X + 1, 5, none⟩ = some (.int .u32 sf) ∧ (W1.drewN n).cell? ⟨X + 1, 6, none⟩ = some (.int .u32 sg) ∧ (W1.drewN n).cell? ⟨X + 1, 7, none⟩ = some (.int .u32 sh) ∧ (W1.drewN n).cell? ⟨P + 1, i, none⟩ = some (.int .u32 kx) ∧ (W1.drewN n).cell? ⟨X, i, none⟩ = some (.int .u32 wx)) := Lib.hid fun n => ⟨p0, p1, p2, p3, p4, p5, p6, p7, ckk, cww⟩
                  go_wp2
                  go_quiet (first | (go_at_call 18; with_reducible exact T6.out _ _) | (go_at_call 18; with_reducible exact T11.out _ _) | (go_at_call 18; with_reducible exact T25.out _ _))
                  have HN3 := Lib.hid (HN2.out.drewN nq)
                  clear p0 p1 p2 p3 p4 p5 p6 p7 ckk cww HN2
                  obtain ⟨p0, p1, p2, p3, p4, p5, p6, p7, ckk, cww⟩ := CE.out nq
                  clear CE
                  generalize W1.drewN nq = W2 at *
                  have CE : Hid (∀ n, (W2.drewN n).cell? ⟨X + 1, 0, none⟩ = some (.int .u32 sa) ∧ (W2.drewN n).cell? ⟨X + 1, 1, none⟩ = some (.int .u32 sb) ∧ (W2.drewN n).cell? ⟨X + 1, 2, none⟩ = some (.int .u32 sc) ∧ (W2.drewN n).cell? ⟨X + 1, 3, none⟩ = some (.int .u32 sd) ∧ (W2.drewN n).cell? ⟨X + 1, 4, none⟩ = some (.int .u32 se) ∧ (W2.drewN n).cell? ⟨X + 1, 5, none⟩ = some (.int .u32 sf) ∧ (W2.drewN n).cell? ⟨X + 1, 6, none⟩ = some (.int .u32 sg) ∧ (W2.drewN n).cell? ⟨X + 1, 7, none⟩ = some (.int .u32 sh) ∧ (W2.drewN n).cell? ⟨P + 1, i, none⟩ = some (.int .u32 kx) ∧ (W2.drewN n).cell? ⟨X, i, none⟩ = some (.int .u32 wx)) := Lib.hid fun n => ⟨p0, p1, p2, p3, p4, p5, p6, p7, ckk, cww⟩
                  go_wp2
                  go_quiet (first | (go_at_call 18; with_reducible exact T2.out _ _) | (go_at_call 18; with_reducible exact T13.out _ _) | (go_at_call 18; with_reducible exact T22.out _ _))
                  have HN4 := Lib.hid (HN3.out.drewN nq)
                  clear p0 p1 p2 p3 p4 p5 p6 p7 ckk cww HN3
                  obtain ⟨p0, p1, p2, p3, p4, p5, p6, p7, ckk, cww⟩ := CE.out nq
                  clear CE
                  generalize W2.drewN nq = W3 at *
                  have q0 := BX.free HN4.out.s 0; have q1 := BX.free HN4.out.s 1; have q2 := BX.free HN4.out.s 2; have q3 := BX.free HN4.out.s 3; have q4 := BX.free HN4.out.s 4; have q5 := BX.free HN4.out.s 5; have q6 := BX.free HN4.out.s 6; have q7 := BX.free HN4.out.s 7
                  go_wp2
                  go_roundw
                  case rel => exact ⟨i + 1, by omega, by go_num, by rw [HRL.out]; exact HN4.out.sets (sl' := [u1, sa, sb, sc, u2, se, sf, sg]) rfl⟩
                  case measure => simp [intOf]; omega
                · have e : i = 64 := by omega
                  subst e
                  rw [show ((64 : Nat) : Int) = 64 from rfl]
                  have HC : Hid (Dg.cmp st blk = Dg.add st (Dg.rs (Dg.wl blk 64) st 64)) := rfl
                  have HN1 := Lib.hid hn
                  clear hn hnx hlt hi
                  generalize Dg.rs (Dg.wl blk 64) st 64 = s6 at *
                  go_wp2
                  go_loopw [17] (fun v wr => ∃ j : Nat, j ≤ 8 ∧ v = .int .i64 j ∧ OfN w wr P g X g3 N (Dg.mix st s6 j) (Dg.wl blk 64) s6.l F 24 39 47) (fun v _ => 8 - (intOf v).toNat)
                  case atStart => exact ⟨0, by omega, rfl, HN1.out⟩
                  case round =>
                    obtain ⟨j, hj, rfl, hn⟩ := hrel
                    clear HN1
                    by_cases hlt : j < 8
                    · have cp := hn.m.p.cell (j := j) (by rw [Dg.mix_len _ _ hj]; exact hlt)
                      have cs := hn.s.cell (j := j) (by rw [Dg.l_len]; exact hlt)
                      rw [Dg.mix_at _ _ hlt] at cp
                      have hset := Dg.mix_set st s6 hlt
                      generalize st.l.getD j 0 = x at *
                      generalize s6.l.getD j 0 = y at *
                      obtain ⟨z, hz⟩ : ∃ z, (x + y) % 4294967296 = z := ⟨_, rfl⟩
                      rw [hz] at hset
                      have d1 := Dg.w32 z hz
                      have HSET := Lib.hid hset
                      have j8 : (j : Int) < 8 := by omega
                      have HN2 := Lib.hid (hn.drewN 1)
                      have hdw : wr.drewN 1 = wr.drew := rfl
                      rw [hdw] at HN2
                      clear hset hz hn hdw
                      go_wp2
                      go_still_tail 8, (by kernel_rfl)
                      repeat still_step
                      clear cp cs
                      change wpList _ _ _ _ _ wr.drew
                      generalize wr.drew = W1 at *
                      have cz := HN2.out.m.p.cell (j := j) (by rw [Dg.mix_len _ _ hj]; exact hlt)
                      have fz := BX.free HN2.out.m.p j
                      go_wp2
                      go_roundw
                      case rel => exact ⟨j + 1, by omega, by go_num, by rw [← HSET.out]; exact HN2.out.setp j z⟩
                      case measure => simp [intOf]; omega
                    · have e : j = 8 := by omega
                      subst e
                      rw [show ((8 : Nat) : Int) = 8 from rfl]
                      have s2 : IntKind.i64.wrap ((t : Int) + 64) = ((64 * (a + 1) : Nat) : Int) := by rw [s1]; have := HT1.out; have := HT2.out; omega
                      have HN2 := Lib.hid hn
                      clear hn hlt hj s1
                      go_wp2
                      go_roundw
                      case rel => exact ⟨a + 1, by omega, rfl, by rw [hnext.out, HC.out]; exact HN2.out.m, HN2.out.r⟩
                      case measure => simp [intOf]; have := HNT.out; have := HT1.out; omega
            · have e : a = T := by omega
              subst e
              rw [← HNT.out]
              have hYP : Hid (w.heap.size ≤ wr.heap.size ∧ P < wr.heap.size ∧ w.heap.size < wr.heap.size) := ⟨HM4.out.b.size, BX.lt HM4.out.p, BX.lt HM4.out.r⟩
              have hb0 : Below wr.heap.size wr (wr.alloc (.cells (List.replicate 32 (Value.int .u8 0)).toArray 24)) := (Below.refl _ _).alloc (Nat.le_refl _) _
              have hy0 : YX (wr.alloc (.cells (List.replicate 32 (Value.int .u8 0)).toArray 24)) wr.heap.size 24 (List.replicate 32 0) := BX.new wr 24 (List.replicate 32 (Value.int .u8 0)).toArray
              have HM5 := Lib.hid (HM4.out.later hb0)
              have HY0 := Lib.hid hy0
              clear hb0 hy0 HM4 HR4 hnext HFB HFL hlt ha HNT
              generalize Dg.hb Dg.H a F = st at *
              go_wp2
              generalize wr.heap.size = Y at *
              go_loopw [19] (fun v wr => ∃ i : Nat, i ≤ 32 ∧ v = .int .i64 i ∧ YX wr Y 24 (Dg.layi (Dg.out st) 32 i) ∧ WX wr P 39 st.l ∧ YX wr w.heap.size 24 (List.replicate 32 0) ∧ Below w.heap.size w wr) (fun v _ => 32 - (intOf v).toNat)
              case atStart => exact ⟨0, by omega, rfl, HY0.out, HM5.out.p, HM5.out.r, HM5.out.b⟩
              case round =>
                obtain ⟨i, hi, rfl, hy1, hp1, hr1, hb1⟩ := hrel
                have HY1 := Lib.hid hy1; have HP1 := Lib.hid hp1; have HR1 := Lib.hid hr1; have HB1 := Lib.hid hb1
                clear HY0 HM5
                by_cases hlt : i < 32
                · have cz := hy1.cell (j := i) (by rw [Dg.layi_len (Dg.out_len st) hi]; exact hlt)
                  have fz := BX.free hy1 i
                  have hset := Dg.layi_set (Dg.out_len st) hlt
                  have ho0 := Dg.out_at st hlt
                  obtain ⟨q, r, hqr, hr4⟩ : ∃ q r, i = 4 * q + r ∧ r < 4 := ⟨i / 4, i % 4, by omega, by omega⟩
                  have cp := hp1.cell (j := q) (by rw [Dg.l_len]; omega)
                  rw [show i / 4 = q from by omega, show i % 4 = r from by omega] at ho0
                  have hxl := Dg.l_lt hsok q
                  have q8 : (q : Int) < 8 := by omega
                  clear hy1 hp1 hr1 hb1
                  generalize st.l.getD q 0 = x at *
                  subst hqr
                  rcases (by omega : r = 0 ∨ r = 1 ∨ r = 2 ∨ r = 3) with rfl | rfl | rfl | rfl
                  · obtain ⟨z, hz⟩ : ∃ z : Nat, x / 16777216 % 256 = z := ⟨_, rfl⟩
                    have sb : IntKind.u8.wrap ((x : Int) / 16777216) = (z : Int) := by rw [IntKind.wrap_u8']; omega
                    have ho : (Dg.out st).getD (4 * q + 0) 0 = (z : Int) := by rw [ho0, ← hz]; try simp
                    rw [ho] at hset
                    have HSET := Lib.hid hset
                    have t3 : ((4 * q + 0 : Nat) : Int).tdiv 4 = (q : Int) := by rw [Int.tdiv_eq_ediv_of_nonneg (by omega)]; omega
                    have t4 : ((4 * q + 0 : Nat) : Int).tmod 4 = 0 := by rw [Int.tmod_eq_emod_of_nonneg (by omega)]; omega
                    obtain ⟨i, hie⟩ : ∃ i, 4 * q + 0 = i := ⟨_, rfl⟩
                    rw [hie] at t3 t4 HSET cz hlt fz HY1 ⊢
                    have i32 : (i : Int) < 32 := by omega
                    clear hset ho ho0 hz hie
                    go_wp2
                    go_roundw
                    case rel => exact ⟨i + 1, by omega, by go_num, by rw [← HSET.out]; exact YX.set HY1.out i z, BX.other HP1.out (by have := hYP.out; omega) _, BX.other HR1.out (by have := hYP.out; omega) _, HB1.out.setCell (show w.heap.size ≤ Y by have := hYP.out; omega) _⟩
                    case measure => simp [intOf]; omega
                  · obtain ⟨z, hz⟩ : ∃ z : Nat, x / 65536 % 256 = z := ⟨_, rfl⟩
                    have sb : IntKind.u8.wrap ((x : Int) / 65536) = (z : Int) := by rw [IntKind.wrap_u8']; omega
                    have ho : (Dg.out st).getD (4 * q + 1) 0 = (z : Int) := by rw [ho0, ← hz]; try simp
                    rw [ho] at hset
                    have HSET := Lib.hid hset
                    have t3 : ((4 * q + 1 : Nat) : Int).tdiv 4 = (q : Int) := by rw [Int.tdiv_eq_ediv_of_nonneg (by omega)]; omega
                    have t4 : ((4 * q + 1 : Nat) : Int).tmod 4 = 1 := by rw [Int.tmod_eq_emod_of_nonneg (by omega)]; omega
                    obtain ⟨i, hie⟩ : ∃ i, 4 * q + 1 = i := ⟨_, rfl⟩
                    rw [hie] at t3 t4 HSET cz hlt fz HY1 ⊢
                    have i32 : (i : Int) < 32 := by omega
                    clear hset ho ho0 hz hie
                    go_wp2
                    go_roundw
                    case rel => exact ⟨i + 1, by omega, by go_num, by rw [← HSET.out]; exact YX.set HY1.out i z, BX.other HP1.out (by have := hYP.out; omega) _, BX.other HR1.out (by have := hYP.out; omega) _, HB1.out.setCell (show w.heap.size ≤ Y by have := hYP.out; omega) _⟩
                    case measure => simp [intOf]; omega
                  · obtain ⟨z, hz⟩ : ∃ z : Nat, x / 256 % 256 = z := ⟨_, rfl⟩
                    have sb : IntKind.u8.wrap ((x : Int) / 256) = (z : Int) := by rw [IntKind.wrap_u8']; omega
                    have ho : (Dg.out st).getD (4 * q + 2) 0 = (z : Int) := by rw [ho0, ← hz]; try simp
                    rw [ho] at hset
                    have HSET := Lib.hid hset
                    have t3 : ((4 * q + 2 : Nat) : Int).tdiv 4 = (q : Int) := by rw [Int.tdiv_eq_ediv_of_nonneg (by omega)]; omega
                    have t4 : ((4 * q + 2 : Nat) : Int).tmod 4 = 2 := by rw [Int.tmod_eq_emod_of_nonneg (by omega)]; omega
                    obtain ⟨i, hie⟩ : ∃ i, 4 * q + 2 = i := ⟨_, rfl⟩
                    rw [hie] at t3 t4 HSET cz hlt fz HY1 ⊢
                    have i32 : (i : Int) < 32 := by omega
                    clear hset ho ho0 hz hie
                    go_wp2
                    go_roundw
                    case rel => exact ⟨i + 1, by omega, by go_num, by rw [← HSET.out]; exact YX.set HY1.out i z, BX.other HP1.out (by have := hYP.out; omega) _, BX.other HR1.out (by have := hYP.out; omega) _, HB1.out.setCell (show w.heap.size ≤ Y by have := hYP.out; omega) _⟩
                    case measure => simp [intOf]; omega
                  · obtain ⟨z, hz⟩ : ∃ z : Nat, x % 256 = z := ⟨_, rfl⟩
                    have sb : IntKind.u8.wrap ((x : Int)) = (z : Int) := by rw [IntKind.wrap_u8']; omega
                    have ho : (Dg.out st).getD (4 * q + 3) 0 = (z : Int) := by rw [ho0, ← hz]; try simp
                    rw [ho] at hset
                    have HSET := Lib.hid hset
                    have t3 : ((4 * q + 3 : Nat) : Int).tdiv 4 = (q : Int) := by rw [Int.tdiv_eq_ediv_of_nonneg (by omega)]; omega
                    have t4 : ((4 * q + 3 : Nat) : Int).tmod 4 = 3 := by rw [Int.tmod_eq_emod_of_nonneg (by omega)]; omega
                    obtain ⟨i, hie⟩ : ∃ i, 4 * q + 3 = i := ⟨_, rfl⟩
                    rw [hie] at t3 t4 HSET cz hlt fz HY1 ⊢
                    have i32 : (i : Int) < 32 := by omega
                    clear hset ho ho0 hz hie
                    go_wp2
                    go_roundw
                    case rel => exact ⟨i + 1, by omega, by go_num, by rw [← HSET.out]; exact YX.set HY1.out i z, BX.other HP1.out (by have := hYP.out; omega) _, BX.other HR1.out (by have := hYP.out; omega) _, HB1.out.setCell (show w.heap.size ≤ Y by have := hYP.out; omega) _⟩
                    case measure => simp [intOf]; omega
                · have e : i = 32 := by omega
                  subst e
                  rw [Dg.layi_all (Dg.out_len st)] at hy1
                  have hl32 : ((Dg.out st).map vb).length = 32 := by rw [List.length_map, Dg.out_len]
                  have ti : (Tryd.prog.info? 24).map (·.size) = some 32 := by kernel_rfl
                  go_upto_region 33 with (fail)
                  refine wp_region_lit ?_
                  refine wpList_load_mid rfl 24 (.tmp 18) rfl Y 0 rfl ((Dg.out st).map vb) _ (YX.range hy1) Tryd.underlying24 rfl (by rw [hl32]; exact ti) ?_
                  refine wpList_store_mid rfl 24 (.tmp 2) (.tmp 169) rfl w.heap.size 0 ((Dg.out st).map vb).toArray rfl rfl (by simpa [Dg.out_len] using YX.there hr1) (by simpa [Dg.out_len] using ti) (all_oneCell_toArray (vb_one _)) ?_
                  refine wpList_nil ?_
                  have hx2 : YX (wr.setCells w.heap.size 0 ((Dg.out st).map vb).toArray.toList) w.heap.size 24 (Dg.out st) := by
                    have := YX.sets hr1 (l' := Dg.out st) (by rw [Dg.out_len]; simp)
                    simpa using this
                  have hb2 : Below w.heap.size w (wr.setCells w.heap.size 0 ((Dg.out st).map vb).toArray.toList) := below_sets (Nat.le_refl _) _ _ hb1
                  have rl := run_loadVar_mid (P := Tryd.prog) _ w.heap.size 0 24 _ _ (YX.range hx2) Tryd.underlying24 rfl (by rw [hl32]; exact ti)
                  have RL := Lib.hid rl; have HB2 := Lib.hid hb2
                  clear rl hb2 hx2 hy1 hp1 hr1 hb1 HY1 HP1 HR1 HB1
                  generalize wr.setCells w.heap.size 0 ((Dg.out st).map vb).toArray.toList = W2 at *
                  obtain ⟨V, hV⟩ : ∃ V, Value.agg ((Dg.out st).map vb).toArray = V := ⟨_, rfl⟩
                  have HV := Lib.hid hV
                  rw [hV] at RL ⊢
                  clear hV
                  go_wp2
                  refine bodyPost_ret (v := V) ?_ rfl ⟨by rw [← HV.out, E.out]; rfl, HB2.out⟩
                  exact results_cell rfl _ _ ⟨w.heap.size, 0, none⟩ V rfl RL.out
end Go.Proofs.YtfggknplekiaoaaDoor
