/- THE LAWS OF LAYER 18: DialNext. gen_l18c.py -/
import Derived.Test.YtemkieakcnodjaaL18a
import Derived.Test.YtemkieakcnodjaaBx
namespace Go.Proofs.Ytemkieakcnodjaa
open Go.RowKit
set_option maxHeartbeats 4000000
set_option maxRecDepth 100000
set_option linter.unusedVariables false
namespace Dl
theorem nS_cases {a1 a2 s1 s2 : Nat} {se : Int} (h : nS a1 a2 = (s1, s2, se)) : se = 10 ∨ (se = 0 ∧ newer s1 s2 a1 a2 = true ∧ mark s1 s2 = (mark a1 a2 + 1) % 4 ∧ (∀ m, chk s1 s2 a1 a2 m = 16) ∧ chk s1 s2 s1 s2 (mark s1 s2) = 0) := by
  unfold nS at h
  split at h
  · cases h; exact .inl rfl
  · cases h
    refine .inr ⟨rfl, ?_, ?_, fun m => ?_, ?_⟩
    · simp [newer]
    · unfold mark; omega
    · simp [chk]
    · simp [chk]
theorem nR_cases {a1 a2 s1 s2 : Nat} {se : Int} (h : nR a1 a2 = (s1, s2, se)) : se = 10 ∨ (se = 0 ∧ newer s1 s2 a1 a2 = true ∧ mark s1 s2 = (mark a1 a2 + 1) % 4 ∧ (∀ m, chk s1 s2 a1 a2 m = 16) ∧ chk s1 s2 s1 s2 (mark s1 s2) = 0) := by
  unfold nR at h
  split at h
  · cases h; exact .inl rfl
  · cases h
    refine .inr ⟨rfl, ?_, ?_, fun m => ?_, ?_⟩
    · simp [newer]
    · unfold mark; omega
    · simp [chk]
    · simp [chk]
end Dl
theorem dialNext_walk (a1 a2 b1 b2 : Nat) (w : World) (ha1 : a1 ≤ 4294967295) (ha2 : a2 ≤ 4294967295) (hb1 : b1 ≤ 4294967295) (hb2 : b2 ≤ 4294967295) :
    Calls Try.prog 5 #[Dl.EV a1 a2, Dl.EV b1 b2] w fun e w' => e = .returned (.bool true) ∧ Below w.heap.size w w' := by
  have al := Lib.hid alive18_any
  have NS := Lib.hid (fun W => nextS_any a1 a2 W ha1)
  have NR := Lib.hid (fun W => nextR_any a1 a2 W ha2)
  have N1 := Lib.hid (newer_any a1 a2 b1 b2)
  have N2 := Lib.hid (newer_any b1 b2 a1 a2)
  have MK := Lib.hid mark_any
  have NW := Lib.hid newer_any
  have CK := Lib.hid check_any
  go_enter Try.func5, Try.ntmps5
  go_upto_region 1 with (fail)
  go_cut [5, 6, 13, 14] (fun v7 v8 v17 v18 W => ∃ p q : Nat, v7 = .pointer (some ⟨p, 0, none⟩) ∧ v8 = .pointer (some ⟨q, 0, none⟩) ∧ Hid (Below w.heap.size w W) ∧ Hid (BX W (p) 35 #[.int .u32 (a1 : Int), .int .u32 (a2 : Int)] ∧ BX W (q) 35 #[.int .u32 (b1 : Int), .int .u32 (b2 : Int)]))
  case first =>
    clear al NS NR N1 N2 MK NW CK
    go_region
    all_goals (
      go_wp2
      go_meet
      have z : ∀ a b c d, Below w.heap.size w ((((w.alloc a).alloc b).alloc c).alloc d).drew := fun a b c d => (((((Below.refl _ w).alloc (Nat.le_refl _) a).alloc (by simp) b).alloc (by simp; omega) c).alloc (by simp; omega) d).drew
      have x : ∀ (u : World) T cs, u.heap.size = w.heap.size + 1 + 1 → BX (u.alloc (.cells cs T)) (w.heap.size + 1 + 1) T cs := fun u T cs h => by rw [← h]; exact BX.new _ _ _
      have v : ∀ (u : World) T cs, u.heap.size = w.heap.size + 1 + 1 + 1 → BX (u.alloc (.cells cs T)) (w.heap.size + 1 + 1 + 1) T cs := fun u T cs h => by rw [← h]; exact BX.new _ _ _
      first
        | exact ⟨_, _, rfl, rfl, z _ _ _ _, ((x _ _ _ (by simp)).alloc _).drew, (v _ _ _ (by simp)).drew⟩
        | exact ⟨_, _, rfl, rfl, z _ _ _ _, (v _ _ _ (by simp)).drew, ((x _ _ _ (by simp)).alloc _).drew⟩)
  case rest =>
    obtain ⟨p, q, rfl, rfl, H0, G0⟩ := hcut
    have FC := Lib.hid (fun W (h : Below wc.heap.size wc W) => show W.cell? ⟨p, 0, none⟩ = some (.int .u32 (a1 : Int)) ∧ W.cell? ⟨p, 1, none⟩ = some (.int .u32 (a2 : Int)) ∧ W.cell? ⟨q, 0, none⟩ = some (.int .u32 (b1 : Int)) ∧ W.cell? ⟨q, 1, none⟩ = some (.int .u32 (b2 : Int)) from ⟨(G0.out.1.later h).cell rfl, (G0.out.1.later h).cell rfl, (G0.out.2.later h).cell rfl, (G0.out.2.later h).cell rfl⟩)
    have hacc : Below wc.heap.size wc wc.drew := (Below.refl _ _).drew
    go_upto_region 2 with (fail)
    obtain ⟨y0, y1, y2, y3⟩ := FC.out _ hacc
    obtain ⟨n1, e1⟩ : ∃ n, Dl.newer a1 a2 b1 b2 = n := ⟨_, rfl⟩
    obtain ⟨n2, e2⟩ : ∃ n, Dl.newer b1 b2 a1 a2 = n := ⟨_, rfl⟩
    have E1 := Lib.hid e1
    have E2 := Lib.hid e2
    rw [e1] at N1
    rw [e2] at N2
    clear e1 e2
    go_region_held3 (fun W => W.cell? ⟨p, 0, none⟩ = some (.int .u32 (a1 : Int)) ∧ W.cell? ⟨p, 1, none⟩ = some (.int .u32 (a2 : Int)) ∧ W.cell? ⟨q, 0, none⟩ = some (.int .u32 (b1 : Int)) ∧ W.cell? ⟨q, 1, none⟩ = some (.int .u32 (b2 : Int))) (first | (with_reducible exact FC.out _ hacc) | go_keep) (first
      | (go_at_call 14; (with_reducible refine (N1.out _).mono ?_); rintro e w5 ⟨rfl, hb⟩; replace hacc := bthen' hacc hb; clear hb)
      | (go_at_call 14; (with_reducible refine (N2.out _).mono ?_); rintro e w5 ⟨rfl, hb⟩; replace hacc := bthen' hacc hb; clear hb))
    obtain ⟨y0, y1, y2, y3⟩ := FC.out _ hacc
    go_upto_region 3 with (fail)
    go_cut [45] (fun v W => v = .bool false ∧ w5 = W)
    case first =>
      clear al NS NR N1 N2 MK NW CK FC G0 H0
      have e1 := E1.out
      have e2 := E2.out
      unfold Dl.newer at e1 e2
      by_cases h : a1 = b1
      · by_cases h2 : a2 = b2
        · subst h
          subst h2
          simp at e1 e2
          subst e1
          subst e2
          go_wp2
          go_meet
          exact ⟨rfl, rfl⟩
        · have h' : ¬ (a2 : Int) = b2 := by omega
          have h'' : (a1 : Int) = b1 := by omega
          rcases Nat.lt_or_gt_of_ne h2 with h3 | h3
          · have f1 : n1 = false := by rw [← e1]; simp [h]; omega
            have f2 : n2 = true := by rw [← e2]; simp [h]; omega
            subst f1
            subst f2
            clear e1 e2
            go_wp2
            go_meet
            exact ⟨rfl, rfl⟩
          · have f1 : n1 = true := by rw [← e1]; simp [h]; omega
            have f2 : n2 = false := by rw [← e2]; simp [h]; omega
            subst f1
            subst f2
            clear e1 e2
            go_wp2
            go_meet
            exact ⟨rfl, rfl⟩
      · have h' : ¬ (a1 : Int) = b1 := by omega
        have h'' : ¬ b1 = a1 := by omega
        rcases Nat.lt_or_gt_of_ne h with h3 | h3
        · have f1 : n1 = false := by rw [← e1]; simp [h]; omega
          have f2 : n2 = true := by rw [← e2]; simp [h'']; omega
          subst f1
          subst f2
          clear e1 e2
          go_wp2
          go_meet
          exact ⟨rfl, rfl⟩
        · have f1 : n1 = true := by rw [← e1]; simp [h]; omega
          have f2 : n2 = false := by rw [← e2]; simp [h'']; omega
          subst f1
          subst f2
          clear e1 e2
          go_wp2
          go_meet
          exact ⟨rfl, rfl⟩
    case rest =>
      obtain ⟨rfl, rfl⟩ := hcut
      have G1 := Lib.hid (And.intro (G0.out.1.later hacc) (G0.out.2.later hacc))
      have H1 := Lib.hid (bthen' H0.out hacc)
      clear FC G0 H0 hacc N1 N2 E1 E2 y0 y1 y2 y3
      obtain ⟨s1, s2, se, es⟩ : ∃ s1 s2 se, Dl.nS a1 a2 = (s1, s2, se) := ⟨_, _, _, rfl⟩
      obtain ⟨r1, r2, re, er⟩ : ∃ r1 r2 re, Dl.nR a1 a2 = (r1, r2, re) := ⟨_, _, _, rfl⟩
      rw [es] at NS
      rw [er] at NR
      simp only at NS NR
      have ES := Lib.hid es
      have ER := Lib.hid er
      clear es er
      go_wp2_with fail
      have HA := Lib.hid (Below.alloc (Below.refl w5.heap.size w5) (Nat.le_refl _) (.cells #[.bool true, .bool false] 4))
      go_loopw [48] (fun i W => ∃ j : Nat, j ≤ 2 ∧ i = .int .i64 j ∧ Hid (Below w.heap.size w W) ∧ Hid (BX W p 35 #[.int .u32 (a1 : Int), .int .u32 (a2 : Int)]) ∧ Hid (BX W w5.heap.size 4 #[.bool true, .bool false])) (fun i _ => 2 - (intOf i).toNat)
      case atStart => exact ⟨0, by omega, rfl, bthen' H1.out HA.out, (G1.out.1.later HA.out), BX.new _ _ _⟩
      case round =>
        obtain ⟨j, hj, rfl, HB, HP, HK⟩ := hrel
        have hj' : j = 0 ∨ j = 1 ∨ j = 2 := by omega
        have k0 : wr.cell? ⟨w5.heap.size, 0, none⟩ = some (.bool true) := HK.out.cell rfl
        have k1 : wr.cell? ⟨w5.heap.size, 1, none⟩ = some (.bool false) := HK.out.cell rfl
        have p0 : wr.cell? ⟨p, 0, none⟩ = some (.int .u32 (a1 : Int)) := HP.out.cell rfl
        have p1 : wr.cell? ⟨p, 1, none⟩ = some (.int .u32 (a2 : Int)) := HP.out.cell rfl
        rcases hj' with rfl | rfl | rfl
        · go_upto_region 11 with (first
            | (go_at_call 12; (with_reducible refine (NR.out _).mono ?_); rintro e w6 ⟨rfl, hb⟩; have B6 := Lib.hid (hb.alloc hb.size (.cells #[.int .u32 (r1 : Int), .int .u32 (r2 : Int)] 35)); have L6 := Lib.hid hb.size; have P6 := Lib.hid (HP.out.later B6.out); have K6 := Lib.hid (HK.out.later B6.out); have x0 : (w6.alloc (.cells #[.int .u32 (r1 : Int), .int .u32 (r2 : Int)] 35)).cell? ⟨p, 0, none⟩ = some (.int .u32 (a1 : Int)) := P6.out.cell rfl; have x1 : (w6.alloc (.cells #[.int .u32 (r1 : Int), .int .u32 (r2 : Int)] 35)).cell? ⟨p, 1, none⟩ = some (.int .u32 (a2 : Int)) := P6.out.cell rfl; clear hb)
            | (go_at_call 10; (with_reducible refine (NS.out _).mono ?_); rintro e w7 ⟨rfl, hb⟩; have HB7 := Lib.hid hb; have Z7 := Lib.hid ((BX.new w6 35 #[.int .u32 (r1 : Int), .int .u32 (r2 : Int)]).later hb); have P7 := Lib.hid (P6.out.later hb); have K7 := Lib.hid (K6.out.later hb); have z0 : w7.cell? ⟨w6.heap.size, 0, none⟩ = some (.int .u32 (r1 : Int)) := Z7.out.cell rfl; have z1 : w7.cell? ⟨w6.heap.size, 1, none⟩ = some (.int .u32 (r2 : Int)) := Z7.out.cell rfl; have f0 := Z7.out.free 0; have f1 := Z7.out.free 1; clear hb))
          have ne : p ≠ w6.heap.size := by have h1 := HP.out.lt; have h2 := L6.out; omega
          have ne2 : w5.heap.size ≠ w6.heap.size := by have h1 := HK.out.lt; have h2 := L6.out; omega
          have H8 := Lib.hid (Below.setCell (Below.setCell (bthen' (bthen' HB.out B6.out) HB7.out) (p := ⟨w6.heap.size, 0, none⟩) (Nat.le_trans HB.out.size L6.out) (.int .u32 (s1 : Int))) (p := ⟨w6.heap.size, 1, none⟩) (Nat.le_trans HB.out.size L6.out) (.int .u32 (s2 : Int)))
          have Z8 := Lib.hid ((Z7.out.set 0 (.int .u32 (s1 : Int))).set 1 (.int .u32 (s2 : Int)))
          have P8 := Lib.hid ((P7.out.other ne (j := 0) (.int .u32 (s1 : Int))).other ne (j := 1) (.int .u32 (s2 : Int)))
          have K8 := Lib.hid ((K7.out.other ne2 (j := 0) (.int .u32 (s1 : Int))).other ne2 (j := 1) (.int .u32 (s2 : Int)))
          generalize ((w7.setCell ⟨w6.heap.size, 0, none⟩ (.int .u32 (s1 : Int))).setCell ⟨w6.heap.size, 1, none⟩ (.int .u32 (s2 : Int))) = Z at *
          obtain ⟨zb, hzb⟩ : ∃ zb, w6.heap.size = zb := ⟨_, rfl⟩
          rw [hzb] at Z8
          have CS := Lib.hid (Dl.nS_cases ES.out)
          clear HB HP HK P6 K6 x0 x1 Z7 P7 K7 z0 z1 f0 f1 B6 HB7 L6 ne ne2 k0 k1 p0 p1 NS NR ES ER al
          rw [hzb]
          clear hzb
          have FC := Lib.hid (fun W (h : Below Z.heap.size Z W) => show W.cell? ⟨p, 0, none⟩ = some (.int .u32 (a1 : Int)) ∧ W.cell? ⟨p, 1, none⟩ = some (.int .u32 (a2 : Int)) ∧ W.cell? ⟨zb, 0, none⟩ = some (.int .u32 (s1 : Int)) ∧ W.cell? ⟨zb, 1, none⟩ = some (.int .u32 (s2 : Int)) from ⟨(P8.out.later h).cell rfl, (P8.out.later h).cell rfl, (Z8.out.later h).cell rfl, (Z8.out.later h).cell rfl⟩)
          have hacc : Below Z.heap.size Z Z.drew := (Below.refl _ _).drew
          obtain ⟨y0, y1, y2, y3⟩ := FC.out _ hacc
          rcases CS.out with rfl | ⟨rfl, t1, t2, t3, t4⟩
          · clear MK NW CK
            go_quiet (fail)
            all_goals (
              go_wp2
              go_roundw)
            case rel => exact ⟨1, by omega, rfl, bthen' H8.out (below_drewN (Below.refl _ _) _), P8.out.later (below_drewN (Below.refl _ _) _), K8.out.later (below_drewN (Below.refl _ _) _)⟩
            case measure => simp [intOf]
          · have NWz := Lib.hid (NW.out s1 s2 a1 a2)
            have MKz := Lib.hid (MK.out s1 s2)
            have MKx := Lib.hid (MK.out a1 a2)
            have CKz := Lib.hid (CK.out s1 s2 a1 a2 (Dl.mark s1 s2))
            have CKzz := Lib.hid (CK.out s1 s2 s1 s2 (Dl.mark s1 s2))
            rw [t1] at NWz
            rw [t3] at CKz
            rw [t4] at CKzz
            have hmx : Dl.mark a1 a2 < 4 := Nat.mod_lt _ (by decide)
            have hmz : Dl.mark s1 s2 < 4 := Nat.mod_lt _ (by decide)
            generalize Dl.mark a1 a2 = mx at *
            generalize Dl.mark s1 s2 = mz at *
            have g1 : IntKind.u8.wrap ((mx : Int) + 1) = (mx : Int) + 1 := by rcases four hmx with h | h | h | h <;> subst h <;> rfl
            have g2 : ((mx : Int) + 1).tmod 4 = (mz : Int) := by rcases four hmx with h | h | h | h <;> subst h <;> subst t2 <;> rfl
            clear MK NW CK t1 t2 t3 t4
            go_region_held3 (fun W => W.cell? ⟨p, 0, none⟩ = some (.int .u32 (a1 : Int)) ∧ W.cell? ⟨p, 1, none⟩ = some (.int .u32 (a2 : Int)) ∧ W.cell? ⟨zb, 0, none⟩ = some (.int .u32 (s1 : Int)) ∧ W.cell? ⟨zb, 1, none⟩ = some (.int .u32 (s2 : Int))) (first | (with_reducible exact FC.out _ hacc) | go_keep) (first
              | (go_at_call 14; (with_reducible refine (NWz.out _).mono ?_); rintro e w9 ⟨rfl, hb⟩; replace hacc := bthen' hacc hb; clear hb)
              | (go_at_call 16; (with_reducible refine (MKz.out _).mono ?_); rintro e w9 ⟨rfl, hb⟩; replace hacc := bthen' hacc hb; clear hb)
              | (go_at_call 16; (with_reducible refine (MKx.out _).mono ?_); rintro e w9 ⟨rfl, hb⟩; replace hacc := bthen' hacc hb; clear hb)
              | (go_at_call 18; (with_reducible refine (CKzz.out _).mono ?_); rintro e w9 ⟨rfl, hb⟩; replace hacc := bthen' hacc hb; clear hb)
              | (go_at_call 18; (with_reducible refine (CKz.out _).mono ?_); rintro e w9 ⟨rfl, hb⟩; replace hacc := bthen' hacc hb; clear hb))
            all_goals (
              go_wp2
              go_roundw)
            case rel => exact ⟨1, by omega, rfl, bthen' H8.out hacc, P8.out.later hacc, K8.out.later hacc⟩
            case measure => simp [intOf]
        · go_upto_region 11 with (first
            | (go_at_call 12; (with_reducible refine (NR.out _).mono ?_); rintro e w6 ⟨rfl, hb⟩; have B6 := Lib.hid (hb.alloc hb.size (.cells #[.int .u32 (r1 : Int), .int .u32 (r2 : Int)] 35)); have L6 := Lib.hid hb.size; have P6 := Lib.hid (HP.out.later B6.out); have K6 := Lib.hid (HK.out.later B6.out); have x0 : (w6.alloc (.cells #[.int .u32 (r1 : Int), .int .u32 (r2 : Int)] 35)).cell? ⟨p, 0, none⟩ = some (.int .u32 (a1 : Int)) := P6.out.cell rfl; have x1 : (w6.alloc (.cells #[.int .u32 (r1 : Int), .int .u32 (r2 : Int)] 35)).cell? ⟨p, 1, none⟩ = some (.int .u32 (a2 : Int)) := P6.out.cell rfl; clear hb)
            | (go_at_call 10; (with_reducible refine (NS.out _).mono ?_); rintro e w7 ⟨rfl, hb⟩; have := Lib.hid hb; have Z7 := Lib.hid ((BX.new w6 35 #[.int .u32 (r1 : Int), .int .u32 (r2 : Int)]).later hb); have P7 := Lib.hid (P6.out.later hb); have K7 := Lib.hid (K6.out.later hb); have z0 : w7.cell? ⟨w6.heap.size, 0, none⟩ = some (.int .u32 (r1 : Int)) := Z7.out.cell rfl; have z1 : w7.cell? ⟨w6.heap.size, 1, none⟩ = some (.int .u32 (r2 : Int)) := Z7.out.cell rfl; have f0 := Z7.out.free 0; have f1 := Z7.out.free 1; clear hb))
          have H8 := Lib.hid (bthen' HB.out B6.out)
          have Z8 := Lib.hid (BX.new w6 35 #[.int .u32 (r1 : Int), .int .u32 (r2 : Int)])
          have P8 := Lib.hid P6.out
          have K8 := Lib.hid K6.out
          generalize (w6.alloc (.cells #[.int .u32 (r1 : Int), .int .u32 (r2 : Int)] 35)) = Z at *
          obtain ⟨zb, hzb⟩ : ∃ zb, w6.heap.size = zb := ⟨_, rfl⟩
          rw [hzb] at Z8
          have CS := Lib.hid (Dl.nR_cases ER.out)
          clear HB HP HK P6 K6 x0 x1 B6 L6 k0 k1 p0 p1 NS NR ES ER al
          rw [hzb]
          clear hzb
          have FC := Lib.hid (fun W (h : Below Z.heap.size Z W) => show W.cell? ⟨p, 0, none⟩ = some (.int .u32 (a1 : Int)) ∧ W.cell? ⟨p, 1, none⟩ = some (.int .u32 (a2 : Int)) ∧ W.cell? ⟨zb, 0, none⟩ = some (.int .u32 (r1 : Int)) ∧ W.cell? ⟨zb, 1, none⟩ = some (.int .u32 (r2 : Int)) from ⟨(P8.out.later h).cell rfl, (P8.out.later h).cell rfl, (Z8.out.later h).cell rfl, (Z8.out.later h).cell rfl⟩)
          have hacc : Below Z.heap.size Z Z.drew := (Below.refl _ _).drew
          obtain ⟨y0, y1, y2, y3⟩ := FC.out _ hacc
          rcases CS.out with rfl | ⟨rfl, t1, t2, t3, t4⟩
          · clear MK NW CK
            go_quiet (fail)
            all_goals (
              go_wp2
              go_roundw)
            case rel => exact ⟨2, by omega, rfl, bthen' H8.out (below_drewN (Below.refl _ _) _), P8.out.later (below_drewN (Below.refl _ _) _), K8.out.later (below_drewN (Below.refl _ _) _)⟩
            case measure => simp [intOf]
          · have NWz := Lib.hid (NW.out r1 r2 a1 a2)
            have MKz := Lib.hid (MK.out r1 r2)
            have MKx := Lib.hid (MK.out a1 a2)
            have CKz := Lib.hid (CK.out r1 r2 a1 a2 (Dl.mark r1 r2))
            have CKzz := Lib.hid (CK.out r1 r2 r1 r2 (Dl.mark r1 r2))
            rw [t1] at NWz
            rw [t3] at CKz
            rw [t4] at CKzz
            have hmx : Dl.mark a1 a2 < 4 := Nat.mod_lt _ (by decide)
            have hmz : Dl.mark r1 r2 < 4 := Nat.mod_lt _ (by decide)
            generalize Dl.mark a1 a2 = mx at *
            generalize Dl.mark r1 r2 = mz at *
            have g1 : IntKind.u8.wrap ((mx : Int) + 1) = (mx : Int) + 1 := by rcases four hmx with h | h | h | h <;> subst h <;> rfl
            have g2 : ((mx : Int) + 1).tmod 4 = (mz : Int) := by rcases four hmx with h | h | h | h <;> subst h <;> subst t2 <;> rfl
            clear MK NW CK t1 t2 t3 t4
            go_region_held3 (fun W => W.cell? ⟨p, 0, none⟩ = some (.int .u32 (a1 : Int)) ∧ W.cell? ⟨p, 1, none⟩ = some (.int .u32 (a2 : Int)) ∧ W.cell? ⟨zb, 0, none⟩ = some (.int .u32 (r1 : Int)) ∧ W.cell? ⟨zb, 1, none⟩ = some (.int .u32 (r2 : Int))) (first | (with_reducible exact FC.out _ hacc) | go_keep) (first
              | (go_at_call 14; (with_reducible refine (NWz.out _).mono ?_); rintro e w9 ⟨rfl, hb⟩; replace hacc := bthen' hacc hb; clear hb)
              | (go_at_call 16; (with_reducible refine (MKz.out _).mono ?_); rintro e w9 ⟨rfl, hb⟩; replace hacc := bthen' hacc hb; clear hb)
              | (go_at_call 16; (with_reducible refine (MKx.out _).mono ?_); rintro e w9 ⟨rfl, hb⟩; replace hacc := bthen' hacc hb; clear hb)
              | (go_at_call 18; (with_reducible refine (CKzz.out _).mono ?_); rintro e w9 ⟨rfl, hb⟩; replace hacc := bthen' hacc hb; clear hb)
              | (go_at_call 18; (with_reducible refine (CKz.out _).mono ?_); rintro e w9 ⟨rfl, hb⟩; replace hacc := bthen' hacc hb; clear hb))
            all_goals (
              go_wp2
              go_roundw)
            case rel => exact ⟨2, by omega, rfl, bthen' H8.out hacc, P8.out.later hacc, K8.out.later hacc⟩
            case measure => simp [intOf]
        · have hacc := HB.out
          go_wp2_with (go_at_call 9; (with_reducible refine (al.out _).mono ?_); rintro e w9 ⟨rfl, hb⟩; replace hacc := bthen' hacc hb; clear hb)
          go_ret
          exact ⟨rfl, hacc⟩
end Go.Proofs.Ytemkieakcnodjaa
