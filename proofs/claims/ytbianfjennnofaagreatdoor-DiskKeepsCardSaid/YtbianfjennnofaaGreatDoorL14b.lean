/- THE WALK OF 'DiskKeeps'. -/
import Derived.Test.YtbianfjennnofaaGreatDoorN14f
import Derived.Test.YtbianfjennnofaaGreatDoorS14
namespace Go.Proofs.YtbianfjennnofaaGreatDoor
set_option linter.unusedVariables false
open Go Go.RowKit Go.Maps
set_option maxRecDepth 100000
set_option maxHeartbeats 8000000
open Nt (Tr Nd WF Ps Path at_ cnt used Dd Dk ap)
theorem keeps14_any (A : Option Addr) (n k : Nat) (l : List Dd) (A2 : Option Addr) (n2 k2 : Nat) (l2 : List Dd) (keep : Int) (w : World) (hl : QL w w.heap.size A n l) (hk : n ≤ k) (hm : k ≤ maxLen) (hl2 : QL w w.heap.size A2 n2 l2) (hk2 : n2 ≤ k2) (hm2 : k2 ≤ maxLen) :
    Calls Tryz.prog 5 #[.slice A n k, .slice A2 n2 k2, .int .i64 keep] w fun e w' => e = .returned (.bool true) ∧ Below w.heap.size w w' := by
  have hal := Lib.hid (fun W => alive14_any W)
  have hkm : k ≤ 9223372036854775807 := hm
  have hkm2 : k2 ≤ 9223372036854775807 := hm2
  clear hm hm2
  by_cases hn : n ≤ 20
  · by_cases hn2 : n2 ≤ 20
    · have g1 : ¬ (20 : Int) < n := by omega
      have g2 : ¬ (20 : Int) < n2 := by omega
      have kn := Lib.hid (fun W => dknew W 30 9000)
      have HQ := Lib.hid hl
      have HQ2 := Lib.hid hl2
      clear hl hl2
      go_enter Tryz.func5, Tryz.ntmps5
      go_wp2_with (first
        | (go_at_call 19; (with_reducible refine (kn.out w1).mono ?_); rintro e w2 ⟨db2, rfl, hc2⟩; have htw := Lib.hid (Two.new hd1 hc2))
        | (go_at_call 19; (with_reducible refine (kn.out w).mono ?_); rintro e w1 ⟨db, rfl, hd1⟩))
      clear hd1 hc2
      go_loopw [45] (fun i W => ∃ (j : Nat) (M : Dk), j ≤ n ∧ i = .int .i64 j ∧ Hid (Two w W db db2 M M (1 + 301 * j) (1 + 301 * j)) ∧ Hid (M.ok (1 + 301 * j) ∧ M.fu = -1 ∧ M.L.length ≤ j)) (fun i _ => n - (intOf i).toNat)
      case atStart => exact ⟨0, Nt.dnew 30 9000, Nat.zero_le _, rfl, htw, Nt.dnew_ok _ _ (by decide) (by decide), rfl, Nat.le_refl _⟩
      case round =>
        obtain ⟨j, M, hj, rfl, HTW, HOK⟩ := hrel
        by_cases hlt : j < n
        · have hlt' : (j : Int) < n := by omega
          obtain ⟨g, o, y, rfl, hg, hy, hrb, hc⟩ := (HQ.out.below HTW.out.low).at_ hlt
          have hbx := BX.new wr 60 (DdC y)
          have hbw := below_new wr (.cells (DdC y) 60)
          obtain ⟨kd, p, q, ya, yb, yc, yd, A', n', k', xs'⟩ := y
          have c0 : wr.cell? ⟨g, o + j * 8, none⟩ = some (.int .i64 kd) := hc 0 _ rfl
          have c1 : wr.cell? ⟨g, o + j * 8 + 1, none⟩ = some (.string p) := hc 1 _ rfl
          have c2 : wr.cell? ⟨g, o + j * 8 + 2, none⟩ = some (.string q) := hc 2 _ rfl
          have c3 : wr.cell? ⟨g, o + j * 8 + 3, none⟩ = some (.int .i64 ya) := hc 3 _ rfl
          have c4 : wr.cell? ⟨g, o + j * 8 + 4, none⟩ = some (.int .i64 yb) := hc 4 _ rfl
          have c5 : wr.cell? ⟨g, o + j * 8 + 5, none⟩ = some (.int .i64 yc) := hc 5 _ rfl
          have c6 : wr.cell? ⟨g, o + j * 8 + 6, none⟩ = some (.int .i64 yd) := hc 6 _ rfl
          have c7 : wr.cell? ⟨g, o + j * 8 + 7, none⟩ = some (.slice A' n' k') := hc 7 _ rfl
          have HBW := Lib.hid hbw
          by_cases hfar : (400 : Int) < p.size ∨ (400 : Int) < q.size ∨ (4200 : Int) < n'
          · have HLW := Lib.hid HTW.out.low
            clear hc hy hrb hbx hbw
            rcases hfar with h | h | h
            · go_wp2_with (go_at_call 21; (with_reducible refine (hal.out _).mono ?_); rintro e w9 ⟨rfl, hb9⟩)
              go_ret
              exact ⟨rfl, bthen (bthen HLW.out HBW.out) hb9⟩
            · by_cases h0 : (400 : Int) < p.size
              · go_wp2_with (go_at_call 21; (with_reducible refine (hal.out _).mono ?_); rintro e w9 ⟨rfl, hb9⟩)
                go_ret
                exact ⟨rfl, bthen (bthen HLW.out HBW.out) hb9⟩
              · go_wp2_with (go_at_call 21; (with_reducible refine (hal.out _).mono ?_); rintro e w9 ⟨rfl, hb9⟩)
                go_ret
                exact ⟨rfl, bthen (bthen HLW.out HBW.out) hb9⟩
            · by_cases h0 : (400 : Int) < p.size
              · go_wp2_with (go_at_call 21; (with_reducible refine (hal.out _).mono ?_); rintro e w9 ⟨rfl, hb9⟩)
                go_ret
                exact ⟨rfl, bthen (bthen HLW.out HBW.out) hb9⟩
              · by_cases h1 : (400 : Int) < q.size
                · go_wp2_with (go_at_call 21; (with_reducible refine (hal.out _).mono ?_); rintro e w9 ⟨rfl, hb9⟩)
                  go_ret
                  exact ⟨rfl, bthen (bthen HLW.out HBW.out) hb9⟩
                · go_wp2_with (go_at_call 21; (with_reducible refine (hal.out _).mono ?_); rintro e w9 ⟨rfl, hb9⟩)
                  go_ret
                  exact ⟨rfl, bthen (bthen HLW.out HBW.out) hb9⟩
          · have h0 : ¬ (400 : Int) < p.size := fun h => hfar (.inl h)
            have h1 : ¬ (400 : Int) < q.size := fun h => hfar (.inr (.inl h))
            have h2 : ¬ (4200 : Int) < n' := fun h => hfar (.inr (.inr h))
            have HRB := Lib.hid (fun W (h : Below w.heap.size w W) => show RB W W.heap.size A' n' xs' from by
              have h3 := HQ.out.2 _ (List.mem_of_getElem? hy)
              exact (h3.below h).more h.size)
            have hsm : p.size ≤ 1000 ∧ q.size ≤ 1000 ∧ n' ≤ 5000 := by omega
            have kt := Lib.hid (fun W => theirs14_any ⟨kd, p, q, ya, yb, yc, yd, A', n', k', xs'⟩ W)
            have kd1 := Lib.hid (fun W O (h : DkR ⟨w, W, O⟩ W db M (1 + 301 * j)) (hb : Below w.heap.size w W) => do14_any h HOK.out.1 (by omega) (by rw [HOK.out.2.1]; decide) (by have := HOK.out.2.2; omega) ⟨kd, p, q, ya, yb, yc, yd, A', n', k', xs'⟩ (HRB.out W hb) hsm)
            have kd2 := Lib.hid (fun W O (h : DkR ⟨w, W, O⟩ W db2 M (1 + 301 * j)) (hb : Below w.heap.size w W) => do14_any h HOK.out.1 (by omega) (by rw [HOK.out.2.1]; decide) (by have := HOK.out.2.2; omega) ⟨kd, p, q, ya, yb, yc, yd, A', n', k', xs'⟩ (HRB.out W hb) hsm)
            have HLEN := Lib.hid (show xs'.length = n' from hrb.1)
            obtain ⟨M', z, hMz⟩ : ∃ M' z, M.dok (Dd.er ⟨kd, p, q, ya, yb, yc, yd, A', n', k', xs'⟩) = (M', z) := ⟨_, _, rfl⟩
            rw [hMz] at kd1 kd2
            have HM' : Hid (M'.ok (1 + 301 * j + 301) ∧ M'.fu = -1 ∧ M'.L.length ≤ M.L.length + 1) := by
              have h5 := HOK.out.1.dok (y := Dd.er ⟨kd, p, q, ya, yb, yc, yd, A', n', k', xs'⟩) rfl HLEN.out
              have h6 := Nt.dok_fu HOK.out.2.1 (Dd.er ⟨kd, p, q, ya, yb, yc, yd, A', n', k', xs'⟩)
              rw [hMz] at h5 h6
              exact ⟨h5, h6.1, h6.2.2⟩
            have HBX := Lib.hid hbx
            have HT2 := Lib.hid (HTW.out.later hbw)
            clear hc hy hrb hbx hbw hfar hMz
            go_upto_region 11 with (fail)
            go_cut [74] (fun v W => v = .bool false ∧ Hid (Two w W db db2 M' M' (1 + 301 * j + 301) (1 + 301 * j + 301)))
            case first =>
              obtain ⟨W3, hW3⟩ : ∃ W, wr.alloc (.cells (DdC ⟨kd, p, q, ya, yb, yc, yd, A', n', k', xs'⟩) 60) = W := ⟨_, rfl⟩
              rw [hW3] at HBX HT2
              have CE := Lib.hid (fun W (h : BX W wr.heap.size 60 (DdC ⟨kd, p, q, ya, yb, yc, yd, A', n', k', xs'⟩)) => show W.cell? ⟨wr.heap.size, 0, none⟩ = some (.int .i64 kd) ∧ W.cell? ⟨wr.heap.size, 1, none⟩ = some (.string p) ∧ W.cell? ⟨wr.heap.size, 2, none⟩ = some (.string q) ∧ W.cell? ⟨wr.heap.size, 3, none⟩ = some (.int .i64 ya) ∧ W.cell? ⟨wr.heap.size, 4, none⟩ = some (.int .i64 yb) ∧ W.cell? ⟨wr.heap.size, 5, none⟩ = some (.int .i64 yc) ∧ W.cell? ⟨wr.heap.size, 6, none⟩ = some (.int .i64 yd) ∧ W.cell? ⟨wr.heap.size, 7, none⟩ = some (.slice A' n' k') from ⟨h.cell rfl, h.cell rfl, h.cell rfl, h.cell rfl, h.cell rfl, h.cell rfl, h.cell rfl, h.cell rfl⟩)
              have ht3 := Lib.hid (HT2.out.later (Below.refl W3.heap.size W3).drew)
              have hx3 := Lib.hid (HBX.out.later (Below.refl W3.heap.size W3).drew)
              obtain ⟨y0, y1, y2, y3, y4, y5, y6, y7⟩ := CE.out _ hx3.out
              go_region_law (first
                | (obtain ⟨P, O, hp1, ho1, hd1⟩ := ht5.out.swap; have hq7 := hp1.1; have hl7 := hq7.low; go_simp; go_at_call 34; (with_reducible refine (kd2.out _ _ hq7 hl7).mono ?_); rintro e w7 ⟨rfl, H7⟩; have ht7 := Lib.hid (Two.call hp1 ho1 hd1 H7.out.1 H7.out.2).swap; have hx7 := Lib.hid (hx5.out.keptX H7.out.2 refdeed_disk); obtain ⟨y0, y1, y2, y3, y4, y5, y6, y7⟩ := CE.out _ hx7.out)
                | (obtain ⟨O, P, ho1, hp1, hd1⟩ := ht4.out; have hq5 := ho1.1; have hl5 := hq5.low; go_simp; go_at_call 34; (with_reducible refine (kd1.out _ _ hq5 hl5).mono ?_); rintro e w5 ⟨rfl, H5⟩; have ht5 := Lib.hid (Two.call ho1 hp1 hd1 H5.out.1 H5.out.2); have hx5 := Lib.hid (hx4.out.keptX H5.out.2 refdeed_disk); obtain ⟨y0, y1, y2, y3, y4, y5, y6, y7⟩ := CE.out _ hx5.out)
                | (have _h := ht5; go_simp; go_at_call 32; (with_reducible refine (kt.out _).mono ?_); rintro e w6 ⟨rfl, hb6⟩; replace ht5 := Lib.hid (ht5.out.later hb6); replace hx5 := Lib.hid (hx5.out.later hb6); obtain ⟨y0, y1, y2, y3, y4, y5, y6, y7⟩ := CE.out _ hx5.out)
                | (go_simp; go_at_call 32; (with_reducible refine (kt.out _).mono ?_); rintro e w4 ⟨rfl, hb4⟩; have ht4 := Lib.hid (ht3.out.later hb4); have hx4 := Lib.hid (hx3.out.later hb4); obtain ⟨y0, y1, y2, y3, y4, y5, y6, y7⟩ := CE.out _ hx4.out))
              all_goals
                go_wp2
                go_meet
                exact ⟨rfl, ht7.out⟩
            case rest =>
              obtain ⟨rfl, HTC⟩ := hcut
              go_wp2
              go_roundw
              case rel => exact ⟨j + 1, M', by omega, by go_num, by rw [show 1 + 301 * (j + 1) = 1 + 301 * j + 301 from by omega]; exact HTC, by rw [show 1 + 301 * (j + 1) = 1 + 301 * j + 301 from by omega]; exact ⟨HM'.out.1, HM'.out.2.1, by have := HM'.out.2.2; have := HOK.out.2.2; omega⟩⟩
              case measure => simp [intOf]; omega
        · have hlt' : ¬ (j : Int) < n := by omega
          obtain rfl : j = n := by omega
          obtain ⟨K0, hK0⟩ : ∃ K0, 1 + 301 * j = K0 := ⟨_, rfl⟩
          have hK0b : K0 ≤ 6100 := by omega
          rw [hK0] at HTW HOK
          have hLb : M.L.length ≤ 20 := by have := HOK.out.2.2; omega
          obtain ⟨K1, hK1⟩ : ∃ K1, K0 + 301 * M.L.length = K1 := ⟨_, rfl⟩
          have hK1b : K1 ≤ 12200 := by omega
          have hK01 : K0 ≤ K1 := by omega
          have hcn : M.L.length ≤ j := HOK.out.2.2
          have ksy := Lib.hid (fun W O (h : DkR ⟨w, W, O⟩ W db M K0) => sync14_any h HOK.out.1 (by omega) (by rw [HOK.out.2.1]; decide))
          have kcr := Lib.hid (fun W O (h : DkR ⟨w, W, O⟩ W db2 M K0) => crash14_any h HOK.out.1 (by omega) (j : Int) 0)
          have HS := Lib.hid (Nt.sync_is HOK.out.1 HOK.out.2.1)
          have HC := Lib.hid (Nt.crash_all HOK.out.1 hcn)
          have HSO := Lib.hid (HOK.out.1.sync.le hK01)
          have HCO := Lib.hid ((HOK.out.1.crash (j : Int) 0).le hK01)
          rw [hK1] at ksy kcr
          obtain ⟨Ms, hMs⟩ : ∃ Ms, M.sync = Ms := ⟨_, rfl⟩
          obtain ⟨Mc, hMc⟩ : ∃ Mc, M.crash (j : Int) 0 = Mc := ⟨_, rfl⟩
          obtain ⟨V0, hV0⟩ : ∃ V0, M.V = V0 := ⟨_, rfl⟩
          rw [hMs] at ksy HS HSO
          rw [hMc] at kcr HC HCO
          rw [hV0] at HS HC
          obtain ⟨uN, huN⟩ : ∃ u : Int, ((V0.usedN : Nat) : Int) = u := ⟨_, rfl⟩
          obtain ⟨uB, huB⟩ : ∃ u : Int, ((V0.usedB : Nat) : Int) = u := ⟨_, rfl⟩
          have kv := Lib.hid (fun W (h : DkR (Bs.of w) W db Ms K1) => dkview h HSO.out (by omega))
          have kv2 := Lib.hid (fun W (h : DkR (Bs.of w) W db2 Mc K1) => dkview h HCO.out (by omega))
          have ku := Lib.hid (fun W0 W tb K (h : At W0 W tb V0 K) => at_used h)
          rw [huN, huB] at ku
          rw [HS.out.2.1] at kv
          rw [HC.out.1] at kv2
          have kw := Lib.hid (fun W (h : DkR (Bs.of w) W db2 Mc K1) => dkwaits h (by rw [HC.out.2]; decide))
          rw [HC.out.2] at kw
          have HuN := Lib.hid huN
          have HuB := Lib.hid huB
          obtain ⟨O0, P0, ho0, hp0, hd0⟩ := HTW.out
          have hq0 := ho0.1
          have HDIS := Lib.hid hd0
          have HO0 := Lib.hid ho0
          have HP0 := Lib.hid hp0
          clear hMs hMc hV0 huN huB hK1 hK0 ho0 hp0 hd0 hcn hK01
          go_wp2_with (first
            | (go_at_call 24; (with_reducible refine (kw.out _ hdc6.out).mono ?_); rintro e w7 ⟨A7, n7, c7, rfl, ls7, H7⟩; obtain rfl := H7.out.2.2.2.2.1; have htw7 := Lib.hid (htw6.out.later H7.out.2.2.2.2.2))
            | (go_at_call 15; (with_reducible refine (ku.out _ _ _ _ ha5).mono ?_); rintro e w6 ⟨rfl, hb6⟩; have htw6 := Lib.hid (htw4.out.later (bthen hb5 hb6)); have hdc6 := Lib.hid htw6.out.swap.first)
            | (go_at_call 26; (with_reducible refine (kv2.out _ hdc4.out).mono ?_); rintro e w5 ⟨tb5, rfl, ha5, hb5⟩)
            | (go_at_call 15; (with_reducible refine (ku.out _ _ _ _ ha3).mono ?_); rintro e w4 ⟨rfl, hb4⟩; have htw4 := Lib.hid (htw2.out.later (bthen hb3 hb4)); have hdc4 := Lib.hid htw4.out.swap.first)
            | (go_at_call 26; (with_reducible refine (kv.out _ hdc2.out).mono ?_); rintro e w3 ⟨tb3, rfl, ha3, hb3⟩)
            | (go_at_call 36; (with_reducible refine (kcr.out _ _ hq1).mono ?_); rintro e w2 ⟨rfl, H2⟩; have htw2 := Lib.hid (Two.call hp1 ho1 hd1 H2.out.1 H2.out.2).swap; have hdc2 := Lib.hid htw2.out.first)
            | (go_at_call 35; (with_reducible refine (ksy.out _ _ hq0).mono ?_); rintro e w1 ⟨rfl, H1⟩; have htw1 := Lib.hid (Two.call HO0.out HP0.out HDIS.out H1.out.1 H1.out.2); obtain ⟨P1, O1, hp1, ho1, hd1⟩ := htw1.out.swap; have hq1 := hp1.1))
          have hdk := Lib.hid htw7.out.first
          go_loopw [110] (fun i W => ∃ (i2 : Nat) (M2 : Dk), i2 ≤ n2 ∧ i = .int .i64 i2 ∧ Hid (DkR (Bs.of w) W db M2 (K1 + 301 * i2)) ∧ Hid (M2.ok (K1 + 301 * i2) ∧ M2.fu = -1 ∧ M2.D = V0 ∧ M2.L.length ≤ i2)) (fun i _ => n2 - (intOf i).toNat)
          case atStart => exact ⟨0, Ms, Nat.zero_le _, rfl, hdk, HSO.out, HS.out.2.2.2, HS.out.1, by rw [HS.out.2.2.1]; exact Nat.le_refl _⟩
          case round =>
            clear HTW HOK
            obtain ⟨i2, M2, hi2, rfl, HD2, HOK2⟩ := hrel
            by_cases hlt2 : i2 < n2
            · have hlt2' : (i2 : Int) < n2 := by omega
              obtain ⟨g, o, y, rfl, hg, hy, hrb, hc⟩ := (HQ2.out.below HD2.out.low).at_ hlt2
              have hbw := below_new wr (.cells (DdC y) 60)
              obtain ⟨kd, p, q, ya, yb, yc, yd, A', n', k', xs'⟩ := y
              have c0 : wr.cell? ⟨g, o + i2 * 8, none⟩ = some (.int .i64 kd) := hc 0 _ rfl
              have c1 : wr.cell? ⟨g, o + i2 * 8 + 1, none⟩ = some (.string p) := hc 1 _ rfl
              have c2 : wr.cell? ⟨g, o + i2 * 8 + 2, none⟩ = some (.string q) := hc 2 _ rfl
              have c3 : wr.cell? ⟨g, o + i2 * 8 + 3, none⟩ = some (.int .i64 ya) := hc 3 _ rfl
              have c4 : wr.cell? ⟨g, o + i2 * 8 + 4, none⟩ = some (.int .i64 yb) := hc 4 _ rfl
              have c5 : wr.cell? ⟨g, o + i2 * 8 + 5, none⟩ = some (.int .i64 yc) := hc 5 _ rfl
              have c6 : wr.cell? ⟨g, o + i2 * 8 + 6, none⟩ = some (.int .i64 yd) := hc 6 _ rfl
              have c7 : wr.cell? ⟨g, o + i2 * 8 + 7, none⟩ = some (.slice A' n' k') := hc 7 _ rfl
              have HBW := Lib.hid hbw
              by_cases hfar : (400 : Int) < p.size ∨ (400 : Int) < q.size ∨ (4200 : Int) < n'
              · have HLW := Lib.hid (show Below w.heap.size w wr from HD2.out.low)
                clear hc hy hrb hbw
                rcases hfar with h | h | h
                · go_wp2_with (go_at_call 21; (with_reducible refine (hal.out _).mono ?_); rintro e w9 ⟨rfl, hb9⟩)
                  go_ret
                  exact ⟨rfl, bthen (bthen HLW.out HBW.out) hb9⟩
                · by_cases h0 : (400 : Int) < p.size
                  · go_wp2_with (go_at_call 21; (with_reducible refine (hal.out _).mono ?_); rintro e w9 ⟨rfl, hb9⟩)
                    go_ret
                    exact ⟨rfl, bthen (bthen HLW.out HBW.out) hb9⟩
                  · go_wp2_with (go_at_call 21; (with_reducible refine (hal.out _).mono ?_); rintro e w9 ⟨rfl, hb9⟩)
                    go_ret
                    exact ⟨rfl, bthen (bthen HLW.out HBW.out) hb9⟩
                · by_cases h0 : (400 : Int) < p.size
                  · go_wp2_with (go_at_call 21; (with_reducible refine (hal.out _).mono ?_); rintro e w9 ⟨rfl, hb9⟩)
                    go_ret
                    exact ⟨rfl, bthen (bthen HLW.out HBW.out) hb9⟩
                  · by_cases h1 : (400 : Int) < q.size
                    · go_wp2_with (go_at_call 21; (with_reducible refine (hal.out _).mono ?_); rintro e w9 ⟨rfl, hb9⟩)
                      go_ret
                      exact ⟨rfl, bthen (bthen HLW.out HBW.out) hb9⟩
                    · go_wp2_with (go_at_call 21; (with_reducible refine (hal.out _).mono ?_); rintro e w9 ⟨rfl, hb9⟩)
                      go_ret
                      exact ⟨rfl, bthen (bthen HLW.out HBW.out) hb9⟩
              · have h0 : ¬ (400 : Int) < p.size := fun h => hfar (.inl h)
                have h1 : ¬ (400 : Int) < q.size := fun h => hfar (.inr (.inl h))
                have h2 : ¬ (4200 : Int) < n' := fun h => hfar (.inr (.inr h))
                have HRB := Lib.hid (fun W (h : Below w.heap.size w W) => show RB W W.heap.size A' n' xs' from by
                  have h3 := HQ2.out.2 _ (List.mem_of_getElem? hy)
                  exact (h3.below h).more h.size)
                have hsm : p.size ≤ 1000 ∧ q.size ≤ 1000 ∧ n' ≤ 5000 := by omega
                have kt := Lib.hid (fun W => theirs14_any ⟨kd, p, q, ya, yb, yc, yd, A', n', k', xs'⟩ W)
                have kd1 := Lib.hid (fun W (h : DkR (Bs.of w) W db M2 (K1 + 301 * i2)) (hb : Below w.heap.size w W) => do14_any h HOK2.out.1 (by omega) (by rw [HOK2.out.2.1]; decide) (by have := HOK2.out.2.2.2; omega) ⟨kd, p, q, ya, yb, yc, yd, A', n', k', xs'⟩ (HRB.out W hb) hsm)
                have HLEN := Lib.hid (show xs'.length = n' from hrb.1)
                obtain ⟨M', z, hMz⟩ : ∃ M' z, M2.dok (Dd.er ⟨kd, p, q, ya, yb, yc, yd, A', n', k', xs'⟩) = (M', z) := ⟨_, _, rfl⟩
                rw [hMz] at kd1
                have HM' : Hid (M'.ok (K1 + 301 * i2 + 301) ∧ M'.fu = -1 ∧ M'.D = M2.D ∧ M'.L.length ≤ M2.L.length + 1) := by
                  have h5 := HOK2.out.1.dok (y := Dd.er ⟨kd, p, q, ya, yb, yc, yd, A', n', k', xs'⟩) rfl HLEN.out
                  have h6 := Nt.dok_fu HOK2.out.2.1 (Dd.er ⟨kd, p, q, ya, yb, yc, yd, A', n', k', xs'⟩)
                  rw [hMz] at h5 h6
                  exact ⟨h5, h6.1, h6.2.1, h6.2.2⟩
                clear hc hy hrb hbw hfar hMz
                go_wp2_with (first
                  | (go_at_call 34; (with_reducible refine (kd1.out _ hdk4.out hl4).mono ?_); rintro e w5 ⟨rfl, H5⟩)
                  | (go_at_call 32; (with_reducible refine (kt.out _).mono ?_); rintro e w4 ⟨rfl, hb4⟩; have hdk4 := Lib.hid (HD2.out.later (bthen HBW.out hb4)); have hl4 : Below w.heap.size w w4 := hdk4.out.low))
                go_roundw
                case rel => exact ⟨i2 + 1, M', by omega, by go_num, by rw [show K1 + 301 * (i2 + 1) = K1 + 301 * i2 + 301 from by omega]; exact H5.out.1, by rw [show K1 + 301 * (i2 + 1) = K1 + 301 * i2 + 301 from by omega]; exact ⟨HM'.out.1, HM'.out.2.1, HM'.out.2.2.1.trans HOK2.out.2.2.1, by have := HM'.out.2.2.2; have := HOK2.out.2.2.2; omega⟩⟩
                case measure => simp [intOf]; omega
            · have hlt2' : ¬ (i2 : Int) < n2 := by omega
              obtain ⟨K2, hK2⟩ : ∃ K2, K1 + 301 * i2 = K2 := ⟨_, rfl⟩
              have hK2b : K2 ≤ 18300 := by omega
              have hLb2 : M2.L.length ≤ 20 := by have := HOK2.out.2.2.2; omega
              rw [hK2] at HD2 HOK2
              clear hK2
              have kdu := Lib.hid (dkdurable HD2.out HOK2.out.1 (by omega))
              have kwa := Lib.hid (fun W (h : DkR (Bs.of w) W db M2 K2) => dkwaits h (by omega))
              go_wp2_with (first
                | (go_at_call 24; (with_reducible refine (kwa.out _ hdk8.out).mono ?_); rintro e w9 ⟨A9, n9, c9, rfl, ls9, H9⟩; have ha9 := Lib.hid (ha8.out.later H9.out.2.2.2.2.2))
                | (go_at_call 28; (with_reducible refine kdu.out.mono ?_); rintro e w8 ⟨tb8, rfl, ha8, hb8⟩; have hdk8 := Lib.hid (HD2.out.later hb8); replace ha8 := Lib.hid ha8))
              have hn9 : n9 ≤ 20 := by have := H9.out.2.2.2.2.1; omega
              have hc9 : n9 ≤ c9 ∧ c9 ≤ 9223372036854775807 := ⟨H9.out.2.2.1, H9.out.2.2.2.1⟩
              go_loopw [141] (fun i W => ∃ i3 : Nat, i3 ≤ n9 ∧ i = .int .i64 i3 ∧ Hid (At wr W tb8 (Nt.all M2.D (M2.L.take i3)) (K2 + 301 * i3)) ∧ Hid (KeepX TreeObj w9 W)) (fun i _ => n9 - (intOf i).toNat)
              case atStart => exact ⟨0, Nat.zero_le _, rfl, ha9, KeepX.refl _ _⟩
              case round =>
                obtain ⟨i3, hi3, rfl, HA3, HX3⟩ := hrel
                by_cases hlt3 : i3 < n9
                · have hlt3' : (i3 : Int) < n9 := by omega
                  obtain ⟨g, o, y, rfl, hy, hok, hcs⟩ := (H9.out.1.kept HX3.out tree_u8 fun _ _ => deed_tree).at_ hlt3
                  have hyL : M2.L[i3]? = some y.er := by rw [← H9.out.2.1, List.getElem?_map, hy]; rfl
                  have hz := Nt.allOk_at HOK2.out.1.oks hyL
                  have hTE : (Nt.all M2.D (M2.L.take i3)).er = Nt.all M2.D (M2.L.take i3) := Nt.er_all HOK2.out.1.er fun z hz => HOK2.out.1.ers z (List.mem_of_mem_take hz)
                  have hst : Nt.all M2.D (M2.L.take (i3 + 1)) = (ap (Nt.all M2.D (M2.L.take i3)) y.er).1 := by
                    rw [List.take_add_one, hyL, Option.toList_some, Nt.all_app]
                    rfl
                  have hb := below_new wr (.cells (DdC y) 74)
                  have kap := Lib.hid (at_apply14 (HA3.out.later hb) (by omega) hTE y (hok.below hb))
                  rw [hz] at kap
                  have HST := Lib.hid hst
                  have HXB := Lib.hid (HX3.out.trans (KeepX.ofBelow hb))
                  obtain ⟨kd, p, q, ya, yb, yc, yd, A', n', k', xs'⟩ := y
                  have c0 : wr.cell? ⟨g, o + i3 * 8, none⟩ = some (.int .i64 kd) := hcs 0 _ rfl
                  have c1 : wr.cell? ⟨g, o + i3 * 8 + 1, none⟩ = some (.string p) := hcs 1 _ rfl
                  have c2 : wr.cell? ⟨g, o + i3 * 8 + 2, none⟩ = some (.string q) := hcs 2 _ rfl
                  have c3 : wr.cell? ⟨g, o + i3 * 8 + 3, none⟩ = some (.int .i64 ya) := hcs 3 _ rfl
                  have c4 : wr.cell? ⟨g, o + i3 * 8 + 4, none⟩ = some (.int .i64 yb) := hcs 4 _ rfl
                  have c5 : wr.cell? ⟨g, o + i3 * 8 + 5, none⟩ = some (.int .i64 yc) := hcs 5 _ rfl
                  have c6 : wr.cell? ⟨g, o + i3 * 8 + 6, none⟩ = some (.int .i64 yd) := hcs 6 _ rfl
                  have c7 : wr.cell? ⟨g, o + i3 * 8 + 7, none⟩ = some (.slice A' n' k') := hcs 7 _ rfl
                  clear hcs hy hok hyL hz hTE hst hb
                  go_wp2_with (go_at_call 37; (with_reducible refine kap.out.mono ?_); rintro e w10 ⟨rfl, ha10, hx10⟩)
                  rw [← HST.out] at ha10
                  go_roundw
                  case rel => exact ⟨i3 + 1, by omega, by go_num, by rw [show K2 + 301 * (i3 + 1) = K2 + 301 * i3 + 301 from by omega]; exact ha10, HXB.out.trans hx10⟩
                  case measure => simp [intOf]; omega
                · have hlt3' : ¬ (i3 : Int) < n9 := by omega
                  obtain rfl : i3 = n9 := by omega
                  have hVV : Nt.all M2.D (M2.L.take i3) = M2.V := by
                    rw [List.take_of_length_le (by have := H9.out.2.2.2.2.1; omega), HOK2.out.1.view]
                  have HA := HA3.out
                  rw [hVV] at HA
                  have HAV := Lib.hid HA
                  have hdk9 := Lib.hid (HD2.out.later HA.low)
                  obtain ⟨km, hkm9⟩ : ∃ km : Int, min keep 0 = km := ⟨_, rfl⟩
                  have hkm0 : km ≤ 0 := by omega
                  have kcr := Lib.hid (fun W (h : DkR (Bs.of w) W db M2 K2) => crash14_any h HOK2.out.1 (by omega) km 0)
                  have HC3 := Lib.hid ((Nt.crash_none M2 hkm0).trans HOK2.out.2.2.1)
                  have HCO3 := Lib.hid ((HOK2.out.1.crash km 0).le (Nat.le_add_right K2 (301 * M2.L.length)))
                  obtain ⟨M3, hM3⟩ : ∃ M3, M2.crash km 0 = M3 := ⟨_, rfl⟩
                  rw [hM3] at kcr HC3 HCO3
                  have kv := Lib.hid (fun W (h : DkR (Bs.of w) W db M2 K2) => dkview h HOK2.out.1 (by omega))
                  have kv3 := Lib.hid (fun W (h : DkR (Bs.of w) W db M3 (K2 + 301 * M2.L.length)) => dkview h HCO3.out (by omega))
                  rw [HC3.out] at kv3
                  have ku2 := Lib.hid (fun W0 W tb K (h : At W0 W tb M2.V K) => at_used h)
                  obtain ⟨pN, hpN⟩ : ∃ u : Int, ((M2.V.usedN : Nat) : Int) = u := ⟨_, rfl⟩
                  obtain ⟨pB, hpB⟩ : ∃ u : Int, ((M2.V.usedB : Nat) : Int) = u := ⟨_, rfl⟩
                  rw [hpN, hpB] at ku2
                  have ku3 := Lib.hid (fun W0 W tb K (h : At W0 W tb V0 K) => at_used h)
                  rw [HuN.out, HuB.out] at ku3
                  clear HA hVV hM3 hpN hpB
                  go_wp2_with (first
                    | (go_at_call 21; (with_reducible refine (hal.out _).mono ?_); rintro e w17 ⟨rfl, hb17⟩)
                    | (go_at_call 15; (with_reducible refine (ku3.out _ _ _ _ ha15).mono ?_); rintro e w16 ⟨rfl, hb16⟩)
                    | (go_at_call 26; (with_reducible refine (kv3.out _ hdk14.out).mono ?_); rintro e w15 ⟨tb15, rfl, ha15, hb15⟩)
                    | (go_at_call 36; (with_reducible refine (kcr.out _ hdk13.out).mono ?_); rintro e w14 ⟨rfl, H14⟩; have hdk14 := Lib.hid H14.out.1)
                    | (go_at_call 15; (with_reducible refine (ku2.out _ _ _ _ ha12).mono ?_); rintro e w13 ⟨rfl, hb13⟩; have hdk13 := Lib.hid (hdk9.out.later (bthen (bthen hb11 hb12) hb13)))
                    | (go_at_call 26; (with_reducible refine (kv.out _ hdk11.out).mono ?_); rintro e w12 ⟨tb12, rfl, ha12, hb12⟩)
                    | (go_at_call 15; (with_reducible refine (ku2.out _ _ _ _ HAV.out).mono ?_); rintro e w11 ⟨rfl, hb11⟩; have hdk11 := Lib.hid (hdk9.out.later hb11)))
                  go_ret
                  have hl14 : Below w.heap.size w w14 := hdk14.out.low
                  exact ⟨rfl, bthen (bthen (bthen hl14 hb15) hb16) hb17⟩
    · have g1 : ¬ (20 : Int) < n := by omega
      have g2 : (20 : Int) < n2 := by omega
      clear hl hl2
      go_enter Tryz.func5, Tryz.ntmps5
      go_wp2_with (go_at_call 21; (with_reducible refine (hal.out _).mono ?_); rintro e w9 ⟨rfl, hb9⟩)
      go_ret
      exact ⟨rfl, hb9⟩
  · have g1 : (20 : Int) < n := by omega
    clear hl hl2
    go_enter Tryz.func5, Tryz.ntmps5
    go_wp2_with (go_at_call 21; (with_reducible refine (hal.out _).mono ?_); rintro e w9 ⟨rfl, hb9⟩)
    go_ret
    exact ⟨rfl, hb9⟩
theorem diskkeeps_walk (A : Option Addr) (n k : Nat) (l : List Dd) (A2 : Option Addr) (n2 k2 : Nat) (l2 : List Dd) (keep : Int) (w : World) (hl : QL w w.heap.size A n l) (hk : n ≤ k) (hm : k ≤ maxLen) (_ok : ∀ y ∈ l, DdOk y) (hl2 : QL w w.heap.size A2 n2 l2) (hk2 : n2 ≤ k2) (hm2 : k2 ≤ maxLen) (_ok2 : ∀ y ∈ l2, DdOk y) :
    Calls Tryz.prog 5 #[.slice A n k, .slice A2 n2 k2, .int .i64 keep] w fun e w' => e = .returned (.bool true) ∧ Below w.heap.size w w' := keeps14_any A n k l A2 n2 k2 l2 keep w hl hk hm hl2 hk2 hm2
end Go.Proofs.YtbianfjennnofaaGreatDoor
