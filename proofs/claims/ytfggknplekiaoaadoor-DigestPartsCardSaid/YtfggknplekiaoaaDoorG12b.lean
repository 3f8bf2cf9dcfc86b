/- WALKS OF LAYER 12, THE PROGRAM, SECOND PART: a block widened. -/
import Derived.Test.YtfggknplekiaoaaDoorG12a
import Derived.Deep.MidRow
import Derived.Deep.RegionHeld3
import Derived.StillTailTactics
namespace Go.Proofs.YtfggknplekiaoaaDoor
open Go Go.RowKit
set_option maxHeartbeats 4000000
set_option maxRecDepth 100000
set_option linter.unusedVariables false
namespace Dg
theorem s_nums {x p q y : Nat} (hx : x < 4294967296) (hy : y < 4294967296) : ∃ r7 r18 r17 r19 u1 u2 v1 v2 z1 z2 z : Nat,
    rot x 7 = r7 ∧ rot x 18 = r18 ∧ rot y 17 = r17 ∧ rot y 19 = r19 ∧ bits .xor .u32 (r7 : Int) (r18 : Int) = (u1 : Int) ∧ bits .xor .u32 (u1 : Int) ((x : Int) / 8) = (u2 : Int) ∧
    bits .xor .u32 (r17 : Int) (r19 : Int) = (v1 : Int) ∧ bits .xor .u32 (v1 : Int) ((y : Int) / 1024) = (v2 : Int) ∧
    IntKind.u32.wrap ((p : Int) + (u2 : Int)) = (z1 : Int) ∧ IntKind.u32.wrap ((z1 : Int) + (q : Int)) = (z2 : Int) ∧ IntKind.u32.wrap ((z2 : Int) + (v2 : Int)) = (z : Int) ∧ (p + s0 x + q + s1 y) % 4294967296 = z ∧ ((z1 : Int) + (q : Int) + (v2 : Int)) % 4294967296 = (z : Int) := by
  have r7 := rot_lt 7 hx; have r18 := rot_lt 18 hx; have r17 := rot_lt 17 hy; have r19 := rot_lt 19 hy
  refine ⟨_, _, _, _, _, s0 x, _, s1 y, (p + s0 x) % 4294967296, ((p + s0 x) % 4294967296 + q) % 4294967296, (p + s0 x + q + s1 y) % 4294967296, rfl, rfl, rfl, rfl, u32_xor_nat _ _ r7 r18, u32_xor_nat _ (x / 8) (xor_lt r7 r18) (by omega), u32_xor_nat _ _ r17 r19, u32_xor_nat _ (y / 1024) (xor_lt r17 r19) (by omega), w32 _ rfl, w32 _ rfl, w32 _ ?_, rfl, ?_⟩
  · generalize s0 x = a
    generalize s1 y = b
    omega
  · generalize s0 x = a
    generalize s1 y = b
    omega
end Dg
theorem widen_start {w : World} {CS : Array Value} {T T2 : TypeId} {b : List Int} (h : YX (w.alloc (.cells CS T)) w.heap.size T b) :
    YX (((w.alloc (.cells CS T)).alloc (.cells ((List.replicate 64 0).map vw).toArray T2)).alloc (.cells ((List.replicate 64 0).map vw).toArray T2)) w.heap.size T b ∧
    WX (((w.alloc (.cells CS T)).alloc (.cells ((List.replicate 64 0).map vw).toArray T2)).alloc (.cells ((List.replicate 64 0).map vw).toArray T2)) (w.heap.size + 1) T2 (List.replicate 64 0) ∧
    WX (((w.alloc (.cells CS T)).alloc (.cells ((List.replicate 64 0).map vw).toArray T2)).alloc (.cells ((List.replicate 64 0).map vw).toArray T2)) (w.heap.size + 1 + 1) T2 (List.replicate 64 0) ∧
    Below w.heap.size w (((w.alloc (.cells CS T)).alloc (.cells ((List.replicate 64 0).map vw).toArray T2)).alloc (.cells ((List.replicate 64 0).map vw).toArray T2)) := by
  refine ⟨BX.alloc (BX.alloc h _) _, ?_, ?_, (((Below.refl _ w).alloc (Nat.le_refl _) _).alloc (by simp) _).alloc (by simp; omega) _⟩
  · have := BX.alloc (BX.new (w.alloc (.cells CS T)) T2 ((List.replicate 64 0).map vw).toArray) (.cells ((List.replicate 64 0).map vw).toArray T2)
    simp only [World.size_alloc] at this
    exact this
  · have := BX.new ((w.alloc (.cells CS T)).alloc (.cells ((List.replicate 64 0).map vw).toArray T2)) T2 ((List.replicate 64 0).map vw).toArray
    simp only [World.size_alloc] at this
    exact this
theorem widen_any (b : List Int) (w : World) (hl : b.length = 64) (hy : Byt b) :
    Calls Tryd.prog 25 #[.agg (b.map vb).toArray] w fun e w' => e = .returned (.agg ((Dg.wl b 64).map vw).toArray) ∧ Below w.heap.size w w' := by
  obtain ⟨CS, hCS⟩ : ∃ CS, (b.map vb).toArray = CS := ⟨_, rfl⟩
  have hb0 : YX (w.alloc (.cells CS 41)) w.heap.size 41 b := by rw [← hCS]; exact BX.new w 41 (b.map vb).toArray
  have ix : ∀ (i : Nat), i < 64 → ∀ W : World, (Instr.index 41 (.agg CS) (.int .i64 (i : Int))).run Tryd.prog W = .ok (.int .u8 (b.getD i 0)) W := fun i h W => by
    obtain ⟨i0, hi, _⟩ := info_parts info_u8
    refine run_index_row (e := 5) Tryd.underlying41 (by kernel_rfl) hi (by kernel_rfl) i h ?_ W
    rw [← hCS, List.getElem?_toArray, List.getElem?_map, List.getElem?_eq_getElem (by omega)]
    simp [vb, List.getD_eq_getElem?_getD, List.getElem?_eq_getElem (show i < b.length by omega)]
  have IX := Lib.hid ix
  have HY := Lib.hid hy
  rw [hCS]
  have hcs := hCS
  have ti : (Tryd.prog.info? 41).map (·.size) = some 64 := by kernel_rfl
  have tw : (Tryd.prog.info? 47).map (·.size) = some 64 := by kernel_rfl
  have TI := Lib.hid ti; have TW := Lib.hid tw; have HCS := Lib.hid hCS; have HL := Lib.hid hl; have HB0 := Lib.hid hb0
  clear ix hy hcs ti tw hCS hb0 hl
  go_enter Tryd.func25, Tryd.ntmps25
  go_upto_region 2 with (fail)
  have hst := widen_start (CS := CS) (T := 41) (T2 := 47) HB0.out
  change Code.wp _ _ _ _ (((w.alloc (.cells CS 41)).alloc (.cells ((List.replicate 64 0).map vw).toArray 47)).alloc (.cells ((List.replicate 64 0).map vw).toArray 47))
  generalize ((w.alloc (.cells CS 41)).alloc (.cells ((List.replicate 64 0).map vw).toArray 47)).alloc (.cells ((List.replicate 64 0).map vw).toArray 47) = W0 at *
  obtain ⟨h1, h2, h3, h4⟩ := hst
  have H2 := Lib.hid h2; have H3 := Lib.hid h3; have H4 := Lib.hid h4
  refine wp_region_lit ?_
  refine wpList_load_mid rfl 41 (.tmp 1) rfl w.heap.size 0 rfl (b.map vb) _ (YX.range h1) Tryd.underlying41 rfl (by rw [List.length_map, HL.out]; exact TI.out) ?_
  rw [HCS.out]
  clear h1 h2 h3 h4 HB0
  go_wp2
  go_loopw [12] (fun v wr => ∃ i : Nat, i ≤ 64 ∧ v = .int .i64 i ∧ WX wr (w.heap.size + 1 + 1) 47 (Dg.acc b i) ∧ WX wr (w.heap.size + 1) 47 (List.replicate 64 0) ∧ Below w.heap.size w wr) (fun v _ => 64 - (intOf v).toNat)
  case atStart => exact ⟨0, by omega, rfl, H3.out, H2.out, H4.out⟩
  case round =>
    obtain ⟨i, hi, rfl, hx, hx0, hb⟩ := hrel
    have HX := Lib.hid hx; have HX0 := Lib.hid hx0; have HB := Lib.hid hb
    clear H2 H3 H4
    by_cases hlt : i < 64
    · obtain ⟨q, hq⟩ : ∃ q, i / 4 = q := ⟨_, rfl⟩
      have hq64 : q < 64 := by omega
      have cz := hx.cell (j := q) (by rw [Dg.acc_len]; exact hq64)
      have fz := BX.free hx q
      have hst := Dg.acc_step b i
      have hal := Dg.acc_lt HY.out i q
      have y := HY.out i
      have ixi := IX.out i hlt
      rw [hq] at hst
      generalize (Dg.acc b i).getD q 0 = x at *
      generalize b.getD i 0 = c at *
      obtain ⟨c, rfl⟩ : ∃ z : Nat, c = (z : Int) := ⟨c.toNat, by omega⟩
      rw [Int.toNat_natCast] at hst
      have t3 : (i : Int).tdiv 4 = (q : Int) := by rw [Int.tdiv_eq_ediv_of_nonneg (by omega)]; omega
      have u0 : IntKind.u32.wrap (c : Int) = (c : Int) := by rw [IntKind.wrap_u32']; omega
      have ro : bits .or .u32 ((x : Int) * 256 % 4294967296) (c : Int) = ((x * 256 % 4294967296 ||| c : Nat) : Int) := by
        rw [show (x : Int) * 256 % 4294967296 = ((x * 256 % 4294967296 : Nat) : Int) by simp]
        exact u32_or_nat _ _ (Nat.mod_lt _ (by omega)) (by omega)
      generalize x * 256 % 4294967296 ||| c = z at *
      have HST := Lib.hid hst
      have i64 : (i : Int) < 64 := by omega
      have q64 : (q : Int) < 64 := by omega
      clear hx hx0 hb hq hst hal y
      go_wp2
      go_roundw
      case rel => exact ⟨i + 1, by omega, by go_num, by rw [HST.out]; exact WX.set HX.out q z, BX.other HX0.out (by omega) _, HB.out.setCell (show w.heap.size ≤ w.heap.size + 1 + 1 by omega) _⟩
      case measure => simp [intOf]; omega
    · have e : i = 64 := by omega
      subst e
      rw [show 64 = 4 * 16 from rfl, Dg.acc_four HY.out 16 (by omega)] at HX
      clear hx hx0 hb
      rw [show ((64 : Nat) : Int) = 64 from rfl]
      go_wp2
      go_loopw [6] (fun v wr => ∃ i : Nat, 16 ≤ i ∧ i ≤ 64 ∧ v = .int .i64 i ∧ WX wr (w.heap.size + 1 + 1) 47 (Dg.wb b i) ∧ WX wr (w.heap.size + 1) 47 (List.replicate 64 0) ∧ Below w.heap.size w wr) (fun v _ => 64 - (intOf v).toNat)
      case atStart => exact ⟨16, by omega, by omega, rfl, HX.out, HX0.out, HB.out⟩
      case round =>
        obtain ⟨i, hi16, hi, rfl, hx, hx0, hb⟩ := hrel
        have HX1 := Lib.hid hx; have HX01 := Lib.hid hx0; have HB1 := Lib.hid hb
        clear HX HX0 HB hlt
        by_cases hlt : i < 64
        · have hs := Dg.wb_set (b := b) hlt
          have hnx := Dg.nxt_high (b := b) (l := Dg.wl b i) (i := i) (by omega)
          obtain ⟨o16, h16'⟩ : ∃ r, i - 16 = r := ⟨_, rfl⟩
          obtain ⟨o15, h15'⟩ : ∃ r, i - 15 = r := ⟨_, rfl⟩
          obtain ⟨o7, h7'⟩ : ∃ r, i - 7 = r := ⟨_, rfl⟩
          obtain ⟨o2, h2'⟩ : ∃ r, i - 2 = r := ⟨_, rfl⟩
          have hlen := Lib.hid (Dg.wb_len (b := b) hi)
          have cl : ∀ j, j < i → wr.cell? ⟨w.heap.size + 1 + 1, j, none⟩ = some (.int .u32 ((Dg.wl b i).getD j 0 : Nat)) := fun j hj => by
            rw [← Dg.wb_at hj]
            exact hx.cell (by rw [hlen.out]; omega)
          have c16 := cl o16 (by omega); have c15 := cl o15 (by omega); have c7 := cl o7 (by omega); have c2 := cl o2 (by omega)
          have l15 := Dg.wl_lt HY.out i o15; have l2 := Dg.wl_lt HY.out i o2
          rw [h16', h15', h7', h2'] at hnx
          generalize (Dg.wl b i).getD o16 0 = p at *
          generalize (Dg.wl b i).getD o15 0 = x at *
          generalize (Dg.wl b i).getD o7 0 = q at *
          generalize (Dg.wl b i).getD o2 0 = y at *
          obtain ⟨r7, r18, r17, r19, u1, u2, v1, v2, z1, z2, z, a1, a2, a3, a4, a5, a6, a7, a8, a9, a10, a11, a12, a13⟩ := Dg.s_nums (p := p) (q := q) l15 l2
          rw [a12] at hnx
          rw [hnx] at hs
          have HS := Lib.hid hs
          have T7 := Lib.hid (right_lit (n := 7) (z := 7) rfl a1 l15 (by decide) (by decide))
          have T18 := Lib.hid (right_lit (n := 18) (z := 18) rfl a2 l15 (by decide) (by decide))
          have T17 := Lib.hid (right_lit (n := 17) (z := 17) rfl a3 l2 (by decide) (by decide))
          have T19 := Lib.hid (right_lit (n := 19) (z := 19) rfl a4 l2 (by decide) (by decide))
          have w16 : IntKind.i64.wrap ((i : Int) - 16) = (o16 : Int) := by rw [IntWalk.i64_in _ (by omega)]; omega
          have w15 : IntKind.i64.wrap ((i : Int) - 15) = (o15 : Int) := by rw [IntWalk.i64_in _ (by omega)]; omega
          have w7 : IntKind.i64.wrap ((i : Int) - 7) = (o7 : Int) := by rw [IntWalk.i64_in _ (by omega)]; omega
          have w2 : IntKind.i64.wrap ((i : Int) - 2) = (o2 : Int) := by rw [IntWalk.i64_in _ (by omega)]; omega
          have i16 : (o16 : Int) < 64 := by omega
          have i15 : (o15 : Int) < 64 := by omega
          have i7 : (o7 : Int) < 64 := by omega
          have i2 : (o2 : Int) < 64 := by omega
          have k0 : (0 : Int) ≤ (i : Int) := by omega
          have k1 : (i : Int) < 64 := by omega
          have CE : Hid (∀ n, (wr.drewN n).cell? ⟨w.heap.size + 1 + 1, o16, none⟩ = some (.int .u32 p) ∧ (wr.drewN n).cell? ⟨w.heap.size + 1 + 1, o7, none⟩ = some (.int .u32 q)) := Lib.hid fun n => ⟨c16, c7⟩
          clear h16' h15' h7' h2' cl hx hx0 hb hs hnx a1 a2 a3 a4 a12 l15 l2 c16 c7
          go_wp2
          go_quiet (fail)
          have hx1 := BX.drewN HX1.out nq
          have hx2 := BX.drewN HX01.out nq
          have hb1 := below_drewN HB1.out nq
          obtain ⟨c16, c7⟩ := CE.out nq
          clear c15 c2 HX1 HX01 HB1 CE
          generalize wr.drewN nq = W1 at *
          have HX2 := Lib.hid (BX.drewN hx1 1)
          have HX02 := Lib.hid (BX.drewN hx2 1)
          have HB2 := Lib.hid (below_drewN hb1 1)
          have hdw : W1.drewN 1 = W1.drew := rfl
          rw [hdw] at HX2 HX02 HB2
          clear hx1 hx2 hb1 hdw
          go_wp2_with (first
            | (go_at_call 26; (with_reducible refine (T7.out _).mono ?_); rintro e w7 ⟨rfl, rfl⟩)
            | (go_at_call 26; (with_reducible refine (T18.out _).mono ?_); rintro e w7 ⟨rfl, rfl⟩)
            | (go_at_call 26; (with_reducible refine (T17.out _).mono ?_); rintro e w7 ⟨rfl, rfl⟩)
            | (go_at_call 26; (with_reducible refine (T19.out _).mono ?_); rintro e w7 ⟨rfl, rfl⟩))
          go_still_tail 15, (by kernel_rfl)
          repeat still_step
          clear c16 c7
          change wpList _ _ _ _ _ W1.drew
          generalize W1.drew = W2 at *
          have cz := WX.cell HX2.out (j := i) (by rw [hlen.out]; exact hlt)
          have fz := BX.free HX2.out i
          go_wp2
          go_roundw
          case rel => exact ⟨i + 1, by omega, by omega, by go_num, by rw [← HS.out]; exact WX.set HX2.out i z, BX.other HX02.out (by omega) _, HB2.out.setCell (show w.heap.size ≤ w.heap.size + 1 + 1 by omega) _⟩
          case measure => simp [intOf]; omega
        · have e : i = 64 := by omega
          subst e
          rw [Dg.wb_all] at hx
          have hl64 := Dg.wl_len b 64
          go_upto_region 14 with (fail)
          refine wp_region_lit ?_
          refine wpList_load_mid rfl 47 (.tmp 3) rfl (w.heap.size + 1 + 1) 0 rfl ((Dg.wl b 64).map vw) _ (WX.range hx) Tryd.underlying47 rfl (by rw [List.length_map, hl64]; exact TW.out) ?_
          refine wpList_store_mid rfl 47 (.tmp 2) (.tmp 71) rfl (w.heap.size + 1) 0 ((Dg.wl b 64).map vw).toArray rfl rfl (by simpa [hl64] using WX.there hx0) (by simpa [hl64] using TW.out) (all_oneCell_toArray (vw_one _)) ?_
          refine wpList_nil ?_
          have hx2 : WX (wr.setCells (w.heap.size + 1) 0 ((Dg.wl b 64).map vw).toArray.toList) (w.heap.size + 1) 47 (Dg.wl b 64) := by
            have := WX.sets hx0 (l' := Dg.wl b 64) (by rw [hl64]; simp)
            simpa using this
          have hb2 : Below w.heap.size w (wr.setCells (w.heap.size + 1) 0 ((Dg.wl b 64).map vw).toArray.toList) := below_sets (by omega) _ _ hb
          have rl := run_loadVar_mid (P := Tryd.prog) _ (w.heap.size + 1) 0 47 _ _ (WX.range hx2) Tryd.underlying47 rfl (by rw [List.length_map, hl64]; exact TW.out)
          have RL := Lib.hid rl; have HB2 := Lib.hid hb2
          clear rl hb2 hx2 hx hx0 hb HX1 HX01 HB1
          generalize wr.setCells (w.heap.size + 1) 0 ((Dg.wl b 64).map vw).toArray.toList = W2 at *
          obtain ⟨V, hV⟩ : ∃ V, Value.agg ((Dg.wl b 64).map vw).toArray = V := ⟨_, rfl⟩
          have HV := Lib.hid hV
          rw [hV] at RL ⊢
          clear hV
          go_wp2
          refine bodyPost_ret (v := V) ?_ rfl ⟨by rw [HV.out], HB2.out⟩
          exact results_cell rfl _ _ ⟨w.heap.size + 1, 0, none⟩ V rfl RL.out
end Go.Proofs.YtfggknplekiaoaaDoor
