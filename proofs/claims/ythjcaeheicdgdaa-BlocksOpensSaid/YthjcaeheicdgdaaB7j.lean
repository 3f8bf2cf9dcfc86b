/- THE WALK OF THE LAW BlocksOpens. -/
import Derived.Test.YthjcaeheicdgdaaB7i
import Derived.Test.YthjcaeheicdgdaaB7f
namespace Go.Proofs.Ythjcaeheicdgdaa
open Go.RowKit
set_option maxHeartbeats 1600000
set_option maxRecDepth 100000
set_option linter.unusedVariables false
namespace Bk
theorem open_len (xs : List Int) (z : Int) : (open_ xs z).length ≤ xs.length := by
  unfold open_
  split
  · rw [List.length_take]; omega
  · simp
end Bk
theorem cutE_yes {n : Nat} (h : n % 512 = 0) : cutE n = 0 := if_pos h
theorem cutE_no {n : Nat} (h : n % 512 ≠ 0) : cutE n = 4 := if_neg h
theorem cutN_yes {n : Nat} (h : n % 512 = 0) : cutN n = n / 512 := if_pos h
theorem cutN_no {n : Nat} (h : n % 512 ≠ 0) : cutN n = 0 := if_neg h
theorem chk_take (xs : List Int) (k : Nat) : xs.take (512 * (k + 1)) = xs.take (512 * k) ++ chk xs k := by
  unfold chk
  rw [show 512 * (k + 1) = 512 * k + 512 from by omega, List.take_add]
/-- The blocks of a list, read: its value, and each. -/
theorem CL.read {W : World} {base q : Nat} {v : Value} {xs : List Int} (h : CL W base v q xs) : ∃ A c, v = .slice A q c ∧ ∀ i, i < q → ∃ g, A = some ⟨g, 0, none⟩ ∧ g < W.heap.size ∧
    ∃ Ai ci, W.cell? ⟨g, i, none⟩ = some (.slice Ai 512 ci) ∧ RB W W.heap.size Ai 512 (chk xs i) := by
  obtain ⟨vs, h1, h2⟩ := h
  rcases h1.2 with ⟨rfl, rfl⟩ | ⟨g, cap, cur, rfl, hbg, hg, hnc, hcm, hcs, htk⟩
  · exact ⟨none, 0, rfl, fun i hi => absurd hi (Nat.not_lt_zero _)⟩
  · refine ⟨_, cap, rfl, fun i hi => ⟨g, rfl, (World.ownsRow.lt h1 g rfl).2, ?_⟩⟩
    obtain ⟨u, hu, ho⟩ := h2 i hi
    obtain ⟨Ai, ci, rfl, hr, _⟩ := ho.slice
    refine ⟨Ai, ci, ?_, hr⟩
    rw [World.ownsRow.cellAt h1 i (by omega)]
    exact hu
theorem opens_walk7 (A : Option Addr) (n c : Nat) (xs : List Int) (z t : Int) (w : World) (ha : RB w w.heap.size A n xs) (hx : Byt xs) (hc : n ≤ c) (hc2 : c ≤ maxLen)
    (z0 : -9223372036854775808 ≤ z) (z1 : z ≤ 9223372036854775807) (t0 : 0 ≤ t) (t1 : t ≤ 255) :
    Calls Try.prog 4 #[.slice A n c, .int .i64 z, .int .u8 t] w fun e w' => e = .returned (.bool true) ∧ Below w.heap.size w w' := by
  obtain ⟨i0, hi, hz0, hz1, hz2⟩ := info_parts info_u8
  have al := Lib.hid alive_any
  have hM := hc2
  unfold maxLen at hc2
  by_cases h1 : 300 < n
  · have g1 : (300 : Int) < n := by omega
    go_enter Try.func4, Try.ntmps4
    go_wp2_with (go_at_call 6; (with_reducible refine (al.out _).mono ?_); rintro e w' ⟨rfl, hb⟩)
    go_ret
    exact ⟨rfl, hb⟩
  · have g1 : ¬ (300 : Int) < n := by omega
    have HA := Lib.hid ha
    obtain ⟨T, hT, hT5⟩ : ∃ T : Nat, t.tmod 6 = (T : Int) ∧ T ≤ 5 := ⟨(t % 6).toNat, by rw [Int.tmod_eq_emod_of_nonneg t0]; omega, by omega⟩
    have s1 : IntKind.u8.wrap (T : Int) = (T : Int) := IntWalk.u8_in _ (by omega)
    clear ha hx h1
    go_enter Try.func4, Try.ntmps4
    go_wp2
    go_loopw [7, 26] (fun v i wr => ∃ (k m : Nat) (ys : List Int), k ≤ T ∧ m ≤ 500 * k ∧ i = .int .u8 k ∧ OBn wr w.heap.size 5 v m ys ∧ Below w.heap.size w wr) (fun _ i _ => T - (intOf i).toNat)
    case atStart => exact ⟨0, 0, [], by omega, by omega, rfl, World.ownsRow_nil _ _ _ _, Below.refl _ _⟩
    case round =>
      obtain ⟨k, m, ys, hk, hm, rfl, ho, hb⟩ := hrel
      have HO := Lib.hid ho; have HB := Lib.hid hb
      clear ho hb
      by_cases hlt : k < T
      · have s2 : IntKind.u8.wrap ((k : Int) + 1) = (k : Int) + 1 := IntWalk.u8_in _ (by omega)
        go_wp2_with (first
          | (at_builtin; obtain ⟨v2, w2, hrun2, hown2, hgrow2⟩ := run_append_rb (P := Try.prog) w.heap.size w.heap.size 26 26 5 i0 Try.underlying26 hi hz0 hz1 hz2 _ m ys HO.out A n c xs (HA.out.below HB.out) (by omega) HB.out.size
             refine Lib.wpList_append_run _ rfl _ _ 26 26 rfl _ (.slice A n c) rfl rfl _ _ hrun2 ?_
             have hb2 := below_app HB.out (Nat.le_refl _) HO.out hgrow2
             have HB2 := Lib.hid hb2; have HO2 := Lib.hid hown2
             clear hrun2 hown2 hgrow2 hb2)
          | (at_builtin; obtain ⟨v3, w3, hrun3, hown3, hgrow3⟩ := run_append_zeros7 (P := Try.prog) w.heap.size 26 3 26 5 i0 .i64 .i64 Try.underlying26 Try.underlying3 hi hz0 hz1 hz2 v2 (m + n) _ HO2.out 200 (by omega) (by omega) HB2.out.size
             refine Lib.wpList_append_run _ rfl _ _ 26 3 rfl v2 (.int .i64 200) rfl rfl _ _ hrun3 ?_
             have hb3 := below_app HB2.out (Nat.le_refl _) HO2.out hgrow3
             have HB3 := Lib.hid hb3; have HO3 := Lib.hid hown3
             clear hrun3 hown3 hgrow3 hb3))
        go_roundw
        case rel => exact ⟨k + 1, m + n + 200, _, by omega, by omega, by go_num, HO3.out, HB3.out⟩
        case measure => simp [intOf]; omega
      · have e : k = T := by omega
        subst e
        obtain ⟨A1, c1, rfl, hr1, hl1, hm1⟩ := HO.out.slice
        have hm25 : m ≤ 2500 := by omega
        have fl := fill_any A1 m c1 ys wr hr1 (by omega)
        have HR1 := Lib.hid hr1
        have fln := (Bk.fill_len ys).2
        rw [hr1.1] at fln
        have bp := Bk.pad_bd (m : Int)
        have rf := fun W (h : RB W W.heap.size A1 m ys) => reffill_any A1 m c1 ys W h (by omega)
        obtain ⟨FX, hFX⟩ : ∃ FX, Bk.fill ys = FX := ⟨_, rfl⟩
        obtain ⟨D, hD⟩ : ∃ D, FX.length = D := ⟨_, rfl⟩
        rw [hFX] at fl fln rf
        rw [hD] at fln
        have hD30 : D ≤ 3100 := by omega
        have FL := Lib.hid fl; have RF := Lib.hid rf; have HD := Lib.hid hD
        clear fl rf hD hFX fln bp hr1 HO
        go_wp2_with (first
          | (go_at_call 10; (with_reducible refine FL.out.mono ?_); rintro e w1 ⟨v1, rfl, ho2, hb1⟩; obtain ⟨A2, c2, rfl, hr2, hl2, hm2⟩ := ho2.rb; rw [HD.out] at hr2 hl2 ⊢; have HR2 := Lib.hid hr2; have HB1 := Lib.hid (bthen HB.out hb1); have HR11 := Lib.hid ((HR1.out.below hb1).more hb1.size); clear hr2 hb1 ho2))
        obtain ⟨W0, hW0⟩ : ∃ W0, w1.alloc (.cells #[.slice A1 m c1, .slice A2 D c2] 26) = W0 := ⟨_, rfl⟩
        have hB0 : Below w.heap.size w W0 := by rw [← hW0]; exact HB1.out.alloc HB1.out.size _
        have hb01 : Below w1.heap.size w1 W0 := by rw [← hW0]; exact (Below.refl _ w1).alloc (Nat.le_refl _) _
        have hsz : w1.heap.size < W0.heap.size := by rw [← hW0]; simp
        have hrow : W0.heap[w1.heap.size]? = some (.cells #[.slice A1 m c1, .slice A2 D c2] 26 (0, 0)) := by rw [← hW0]; exact heap_alloc_new _ _
        have k1 := (HR11.out.below hb01).more hb01.size
        have k2 := (HR2.out.below hb01).more hb01.size
        have hX : Hid (∀ k : Nat, k < 2 → ∃ A' n' c' xs', W0.cell? ⟨w1.heap.size, k, none⟩ = some (.slice A' n' c') ∧ RB W0 W0.heap.size A' n' xs' ∧ n' ≤ c' ∧ c' ≤ maxLen ∧ n' ≤ 4000) := fun k hk => by
          match k, hk with
          | 0, _ => exact ⟨A1, m, c1, ys, cell_of_row W0 w1.heap.size 0 _ _ _ hrow, k1, hl1, hm1, by omega⟩
          | 1, _ => exact ⟨A2, D, c2, FX, cell_of_row W0 w1.heap.size 1 _ _ _ hrow, k2, hl2, hm2, by omega⟩
        have HK1 := Lib.hid k1; have HK2 := Lib.hid k2; have HB0 := Lib.hid hB0
        rw [hW0]
        clear hrow k1 k2 hB0 hb01 hW0
        go_loopw [39] (fun i wq => ∃ j : Nat, j ≤ 2 ∧ i = .int .i64 j ∧ Below W0.heap.size W0 wq) (fun i _ => 2 - (intOf i).toNat)
        case atStart => exact ⟨0, by omega, rfl, Below.refl _ _⟩
        case round =>
          obtain ⟨j, hj, rfl, hbq⟩ := hrel
          have HBQ := Lib.hid hbq
          by_cases hlt : j < 2
          · obtain ⟨A', n', c', xs', hcl, hrx, hnc', hcm', hn4⟩ := hX.out j hlt
            have hcj := (hbq.cell (p := ⟨w1.heap.size, j, none⟩) hsz).trans hcl
            have HX0 := Lib.hid ((hrx.below hbq).more hbq.size)
            have hxl := hrx.1
            have hOX := Bk.open_len xs' z
            rw [hxl] at hOX
            have op := Lib.hid (fun W (h : RB W W.heap.size A' n' xs') => open_any A' n' c' xs' z W h hnc' hcm' (by omega) z0 z1)
            have ro := Lib.hid (fun W (h : RB W W.heap.size A' n' xs') => refopen_any A' n' c' xs' z W h hnc' hcm' (by omega) z0 z1)
            have cu := Lib.hid (fun W (h : RB W W.heap.size A' n' xs') => cut_any7 A' n' c' xs' W h hnc' hcm' (by omega))
            have cc := Lib.hid (fun W (h : RB W W.heap.size A' n' xs') => clean_any A' n' c' xs' z W h hnc' hcm' (by omega) z0 z1)
            have rc := Lib.hid (fun W (h : RB W W.heap.size A' n' xs') => refclean_any A' n' c' xs' z W h hnc' hcm' (by omega) z0 z1)
            generalize Bk.err n' z = ee at *
            generalize Bk.open_ xs' z = OX at *
            generalize Bk.clean xs' z = rr at *
            have hee : (ee != ee) = false := by simp
            have hrr : (rr != rr) = false := by simp
            have sm := Lib.hid (fun W B1 n1 d1 B2 n2 d2 (h1 : RB W W.heap.size B1 n1 OX) (h2 : RB W W.heap.size B2 n2 OX) => same_any B1 B2 n1 n2 d1 d2 OX OX W h1 h2 (by have := h1.1; omega) (by have := h2.1; omega))
            rw [decide_eq_true (rfl : OX = OX)] at sm
            have sx := Lib.hid (fun W B1 d1 (h1 : RB W W.heap.size B1 n' xs') (h2 : RB W W.heap.size A' n' xs') => same_any B1 A' n' n' d1 c' xs' xs' W h1 h2 (by omega) (by omega))
            rw [decide_eq_true (rfl : xs' = xs')] at sx
            have t2 := Bk.tm (n := (n' : Int)) (by omega)
            have HXL := Lib.hid hxl
            clear hcl hrx hxl hOX hbq
            by_cases hm5 : n' % 512 = 0
            · rw [cutE_yes hm5, cutN_yes hm5] at cu
              obtain ⟨q, hq⟩ : ∃ q, n' / 512 = q := ⟨_, rfl⟩
              have hnq : n' = 512 * q := by omega
              rw [hq] at cu
              rw [show (n' : Int) % 512 = 0 from by omega] at t2
              have HNQ := Lib.hid hnq
              have hqb : q ≤ 8 := by omega
              clear hm5 hq hnq
              go_wp2_with (first
                | (go_at_call 11; (with_reducible refine (op.out _ HX0.out).mono ?_); rintro e w2 ⟨v2, rfl, ho3, hb3⟩; obtain ⟨A3, c3, rfl, hr3, hl3, hm3⟩ := ho3.rb; have HX2 := Lib.hid ((HX0.out.below hb3).more hb3.size); have HBW2 := Lib.hid (bthen HBQ.out hb3); have HS2 := Lib.hid hr3; clear hr3 ho3 hb3)
                | (go_at_call 12; (with_reducible refine (ro.out _ HX2.out).mono ?_); rintro e w' ⟨⟨A4, m4, c4, rfl, hr4, hm4⟩, rfl⟩; have HT2 := Lib.hid hr4; clear hr4)
                | (go_at_call 13; (with_reducible refine (cu.out _ HX2.out).mono ?_); rintro e w3 ⟨v3, rfl, hcl3, hb3⟩; obtain ⟨A5, c5, rfl, hbl⟩ := hcl3.read; have HX3 := Lib.hid ((HX2.out.below hb3).more hb3.size); have HS3 := Lib.hid ((HS2.out.below hb3).more hb3.size); have HT3 := Lib.hid ((HT2.out.below hb3).more hb3.size); have HBW3 := Lib.hid (bthen HBW2.out hb3); have HBL := Lib.hid hbl; clear hbl hcl3 hb3)
                | (go_at_call 14; (with_reducible refine (sm.out _ _ _ _ _ _ _ HS3.out HT3.out).mono ?_); rintro e w4 ⟨rfl, hb4⟩; have HX4 := Lib.hid ((HX3.out.below hb4).more hb4.size); have HB34 := Lib.hid hb4; clear hb4)
                | (go_at_call 15; (with_reducible refine (cc.out _ HX4.out).mono ?_); rintro e w' ⟨rfl, rfl⟩)
                | (go_at_call 16; (with_reducible refine (rc.out _ HX4.out).mono ?_); rintro e w' ⟨rfl, rfl⟩))
              have HW4 := Lib.hid (bthen HBW3.out HB34.out)
              go_loopw [17, 102] (fun v i wp => ∃ i' : Nat, i' ≤ q ∧ i = .int .i64 i' ∧ OBn wp w4.heap.size 5 v (512 * i') (xs'.take (512 * i')) ∧ Below w4.heap.size w4 wp) (fun _ i _ => q - (intOf i).toNat)
              case atStart => exact ⟨0, by omega, rfl, World.ownsRow_nil _ _ _ _, Below.refl _ _⟩
              case round =>
                obtain ⟨i', hi', rfl, ho5, hb5⟩ := hrel
                have HO5 := Lib.hid ho5; have HB5 := Lib.hid hb5
                by_cases hiq : i' < q
                · obtain ⟨g5, rfl, hg5, Ai, ci, hci, hri⟩ := HBL.out i' hiq
                  have hcy := ((HB34.out.trans (hb5.mono HB34.out.size)).cell (p := ⟨g5, i', none⟩) hg5).trans hci
                  have hry := hri.below (HB34.out.trans (hb5.mono HB34.out.size))
                  have HRY := Lib.hid hry
                  clear hri hci hry ho5 hb5
                  go_wp2_with (first
                    | (at_builtin; obtain ⟨v6, w6, hrun6, hown6, hgrow6⟩ := run_append_rb (P := Try.prog) w4.heap.size w3.heap.size 26 26 5 i0 Try.underlying26 hi hz0 hz1 hz2 _ (512 * i') _ HO5.out Ai 512 ci (chk xs' i') HRY.out (by omega) HB5.out.size
                       refine Lib.wpList_append_run _ rfl _ _ 26 26 rfl _ (.slice Ai 512 ci) rfl rfl _ _ hrun6 ?_
                       have hb6 := below_app HB5.out (Nat.le_refl _) HO5.out hgrow6
                       have HB6 := Lib.hid hb6; have HO6 := Lib.hid hown6
                       clear hrun6 hown6 hgrow6 hb6))
                  go_roundw
                  case rel => exact ⟨i' + 1, by omega, by go_num, by rw [chk_take, show 512 * (i' + 1) = 512 * i' + 512 from by omega]; exact HO6.out, HB6.out⟩
                  case measure => simp [intOf]; omega
                · have e : i' = q := by omega
                  subst e
                  have hall : xs'.take (512 * i') = xs' := List.take_of_length_le (by rw [HXL.out, HNQ.out]; exact Nat.le_refl _)
                  rw [hall, ← HNQ.out] at ho5
                  obtain ⟨A6, c6, rfl, hr6, _, _⟩ := ho5.slice
                  have HR6 := Lib.hid hr6; have HX5 := Lib.hid ((HX4.out.below hb5).more hb5.size); have HW5 := Lib.hid (bthen HW4.out hb5)
                  clear hall ho5 hr6 hb5
                  go_wp2_with (first
                    | (go_at_call 14; (with_reducible refine (sx.out _ _ _ HR6.out HX5.out).mono ?_); rintro e w7 ⟨rfl, hb7⟩; have HW7 := Lib.hid (bthen HW5.out hb7); clear hb7))
                  go_roundw
                  case rel => exact ⟨j + 1, by omega, by go_num, HW7.out⟩
                  case measure => simp [intOf]; omega
            · rw [cutE_no hm5, cutN_no hm5] at cu
              obtain ⟨r, hr⟩ : ∃ r, n' % 512 = r := ⟨_, rfl⟩
              rw [show (n' : Int) % 512 = (r : Int) from by omega] at t2
              have t3 : IntKind.i64.wrap (r : Int) = r := IntWalk.i64_in _ (by omega)
              have gr : ((r : Int) == 0) = false := by simp; omega
              clear hm5 hr
              go_wp2_with (first
                | (go_at_call 11; (with_reducible refine (op.out _ HX0.out).mono ?_); rintro e w2 ⟨v2, rfl, ho3, hb3⟩; obtain ⟨A3, c3, rfl, hr3, hl3, hm3⟩ := ho3.rb; have HX2 := Lib.hid ((HX0.out.below hb3).more hb3.size); have HBW2 := Lib.hid (bthen HBQ.out hb3); have HS2 := Lib.hid hr3; clear hr3 ho3 hb3)
                | (go_at_call 12; (with_reducible refine (ro.out _ HX2.out).mono ?_); rintro e w' ⟨⟨A4, m4, c4, rfl, hr4, hm4⟩, rfl⟩; have HT2 := Lib.hid hr4; clear hr4)
                | (go_at_call 13; (with_reducible refine (cu.out _ HX2.out).mono ?_); rintro e w3 ⟨v3, rfl, hcl3, hb3⟩; obtain ⟨A5, c5, rfl, hbl⟩ := hcl3.read; have HX3 := Lib.hid ((HX2.out.below hb3).more hb3.size); have HS3 := Lib.hid ((HS2.out.below hb3).more hb3.size); have HT3 := Lib.hid ((HT2.out.below hb3).more hb3.size); have HBW3 := Lib.hid (bthen HBW2.out hb3); have HBL := Lib.hid hbl; clear hbl hcl3 hb3)
                | (go_at_call 14; (with_reducible refine (sm.out _ _ _ _ _ _ _ HS3.out HT3.out).mono ?_); rintro e w4 ⟨rfl, hb4⟩; have HX4 := Lib.hid ((HX3.out.below hb4).more hb4.size); have HB34 := Lib.hid hb4; clear hb4)
                | (go_at_call 15; (with_reducible refine (cc.out _ HX4.out).mono ?_); rintro e w' ⟨rfl, rfl⟩)
                | (go_at_call 16; (with_reducible refine (rc.out _ HX4.out).mono ?_); rintro e w' ⟨rfl, rfl⟩))
              have HW4 := Lib.hid (bthen HBW3.out HB34.out)
              go_loopw [17, 102] (fun v i wp => v = .slice none 0 0 ∧ i = .int .i64 0 ∧ Below w4.heap.size w4 wp) (fun _ i _ => 0)
              case atStart => exact ⟨rfl, rfl, Below.refl _ _⟩
              case round =>
                obtain ⟨rfl, rfl, hb5⟩ := hrel
                have HW5 := Lib.hid (bthen HW4.out hb5)
                clear hb5
                go_wp2
                go_roundw
                case rel => exact ⟨j + 1, by omega, by go_num, HW5.out⟩
                case measure => simp [intOf]; omega
          · have hb10 : Below w.heap.size w wr := HB0.out.trans (HBQ.out.mono HB0.out.size)
            have hk1 := (HK1.out.below HBQ.out).more HBQ.out.size
            have hk2 := (HK2.out.below HBQ.out).more HBQ.out.size
            have HB10 := Lib.hid hb10; have HK11 := Lib.hid hk1; have HK21 := Lib.hid hk2
            have sf := Lib.hid (fun W B1 d1 (h1 : RB W W.heap.size A2 D FX) (h2 : RB W W.heap.size B1 D FX) => same_any A2 B1 D D c2 d1 FX FX W h1 h2 (by omega) (by omega))
            rw [decide_eq_true (rfl : FX = FX)] at sf
            clear hb10 hk1 hk2 hX
            go_wp2_with (first
              | (go_at_call 17; (with_reducible refine (RF.out _ HK11.out).mono ?_); rintro e w8 ⟨v8, rfl, ho8, hb8⟩; obtain ⟨A8, c8, rfl, hr8, hl8, hm8⟩ := ho8.rb; rw [HD.out] at hr8 ⊢; have HR8 := Lib.hid hr8; have HK28 := Lib.hid ((HK21.out.below hb8).more hb8.size); have HB18 := Lib.hid (HB10.out.trans (hb8.mono HB10.out.size)); clear hr8 ho8 hb8 hl8)
              | (go_at_call 14; (with_reducible refine (sf.out _ _ _ HK28.out HR8.out).mono ?_); rintro e w9 ⟨rfl, hb9⟩; have HB19 := Lib.hid (HB18.out.trans (hb9.mono HB18.out.size)); clear hb9)
              | (go_at_call 6; (with_reducible refine (al.out _).mono ?_); rintro e w7 ⟨rfl, hb7⟩; have HB17 := Lib.hid (HB19.out.trans (hb7.mono HB19.out.size)); clear hb7))
            go_ret
            exact ⟨rfl, HB17.out⟩
end Go.Proofs.Ythjcaeheicdgdaa
