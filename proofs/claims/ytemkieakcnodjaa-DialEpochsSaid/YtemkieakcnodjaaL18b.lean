/- THE LAWS OF LAYER 18: DialEpochs. -/
import Derived.Test.YtemkieakcnodjaaL18a
import Derived.Test.YtemkieakcnodjaaBx
namespace Go.Proofs.Ytemkieakcnodjaa
open Go.RowKit
set_option maxHeartbeats 4000000
set_option maxRecDepth 100000
set_option linter.unusedVariables false
theorem dialEpochs_walk (a1 a2 b1 b2 : Nat) (m : Int) (w : World) (ha1 : a1 ≤ 4294967295) (ha2 : a2 ≤ 4294967295) (hb1 : b1 ≤ 4294967295) (hb2 : b2 ≤ 4294967295) (m0 : 0 ≤ m) (m1 : m ≤ 255) :
    Calls Try.prog 4 #[Dl.EV a1 a2, Dl.EV b1 b2, .int .u8 m] w fun e w' => e = .returned (.bool true) ∧ Below w.heap.size w w' := by
  obtain ⟨m, rfl⟩ : ∃ z : Nat, m = (z : Int) := ⟨m.toNat, by omega⟩
  have al := Lib.hid alive18_any
  have NS := Lib.hid (fun W => nextS_any a1 a2 W ha1)
  have RS := Lib.hid (fun W => refnextS_any a1 a2 W ha1)
  have NR := Lib.hid (fun W => nextR_any a1 a2 W ha2)
  have RR := Lib.hid (fun W => refnextR_any a1 a2 W ha2)
  have NW := Lib.hid (newer_any a1 a2 b1 b2)
  have RW := Lib.hid (refnewer_any a1 a2 b1 b2)
  have MK := Lib.hid (mark_any a1 a2)
  have RM := Lib.hid (refmark_any a1 a2)
  have CK := Lib.hid (check_any a1 a2 b1 b2 m)
  have RC := Lib.hid (refcheck_any a1 a2 b1 b2 m)
  generalize Dl.nS a1 a2 = S at *
  generalize Dl.nR a1 a2 = R at *
  obtain ⟨s1, s2, se⟩ := S
  obtain ⟨r1, r2, re⟩ := R
  simp only at NS RS NR RR
  generalize Dl.newer a1 a2 b1 b2 = nw at *
  generalize Dl.mark a1 a2 = mk at *
  generalize Dl.chk a1 a2 b1 b2 m = ck at *
  go_enter Try.func4, Try.ntmps4
  go_upto_region 1 with (fail)
  go_cut [7, 8, 17, 18] (fun v7 v8 v17 v18 W => ∃ p q : Nat, v7 = .pointer (some ⟨p, 0, none⟩) ∧ v8 = .pointer (some ⟨q, 0, none⟩) ∧ Hid (Below w.heap.size w W) ∧ Hid (BX W (w.heap.size) 34 #[.int .u32 (a1 : Int), .int .u32 (a2 : Int)] ∧ BX W (w.heap.size + 1) 34 #[.int .u32 (b1 : Int), .int .u32 (b2 : Int)] ∧ BX W (p) 35 #[.int .u32 (a1 : Int), .int .u32 (a2 : Int)] ∧ BX W (q) 35 #[.int .u32 (b1 : Int), .int .u32 (b2 : Int)]))
  case first =>
    clear al NS RS NR RR NW RW MK RM CK RC
    go_region
    all_goals (
      go_wp2
      go_meet
      have z : ∀ a b c d, Below w.heap.size w ((((w.alloc a).alloc b).alloc c).alloc d).drew := fun a b c d => (((((Below.refl _ w).alloc (Nat.le_refl _) a).alloc (by simp) b).alloc (by simp; omega) c).alloc (by simp; omega) d).drew
      have y : ∀ (u : World) T cs, u.heap.size = w.heap.size + 1 → BX (u.alloc (.cells cs T)) (w.heap.size + 1) T cs := fun u T cs h => by rw [← h]; exact BX.new _ _ _
      have x : ∀ (u : World) T cs, u.heap.size = w.heap.size + 1 + 1 → BX (u.alloc (.cells cs T)) (w.heap.size + 1 + 1) T cs := fun u T cs h => by rw [← h]; exact BX.new _ _ _
      have v : ∀ (u : World) T cs, u.heap.size = w.heap.size + 1 + 1 + 1 → BX (u.alloc (.cells cs T)) (w.heap.size + 1 + 1 + 1) T cs := fun u T cs h => by rw [← h]; exact BX.new _ _ _
      first
        | exact ⟨_, _, rfl, rfl, z _ _ _ _, ((((BX.new w _ _).alloc _).alloc _).alloc _).drew, (((y _ _ _ (by simp)).alloc _).alloc _).drew, ((x _ _ _ (by simp)).alloc _).drew, (v _ _ _ (by simp)).drew⟩
        | exact ⟨_, _, rfl, rfl, z _ _ _ _, ((((BX.new w _ _).alloc _).alloc _).alloc _).drew, (((y _ _ _ (by simp)).alloc _).alloc _).drew, (v _ _ _ (by simp)).drew, ((x _ _ _ (by simp)).alloc _).drew⟩)
  case rest =>
    obtain ⟨p, q, rfl, rfl, H0, G0⟩ := hcut
    have y0_0_0 : wc.cell? ⟨w.heap.size, 0, none⟩ = some (.int .u32 (a1 : Int)) := (G0.out.1).cell rfl
    have y0_0_1 : wc.cell? ⟨w.heap.size, 1, none⟩ = some (.int .u32 (a2 : Int)) := (G0.out.1).cell rfl
    have y0_2_0 : wc.cell? ⟨p, 0, none⟩ = some (.int .u32 (a1 : Int)) := (G0.out.2.2.1).cell rfl
    have y0_2_1 : wc.cell? ⟨p, 1, none⟩ = some (.int .u32 (a2 : Int)) := (G0.out.2.2.1).cell rfl
    go_upto_region 6 with (first
      | (go_at_call 10; (with_reducible refine (NS.out _).mono ?_); rintro e w1 ⟨rfl, hb⟩; have hz : Below wc.heap.size wc (w1.alloc (.cells #[.int .u32 (s1 : Int), .int .u32 (s2 : Int)] 35)) := hb.alloc hb.size _; clear hb; have G1 := Lib.hid (And.intro (G0.out.1.later hz) (And.intro (G0.out.2.1.later hz) (And.intro (G0.out.2.2.1.later hz) (And.intro (G0.out.2.2.2.later hz) (BX.new w1 35 #[.int .u32 (s1 : Int), .int .u32 (s2 : Int)]))))); have H1 := Lib.hid (bthen' H0.out hz (by first | exact Nat.le_refl _ | exact H0.out.size)); clear hz; have y1_0_0 : (w1.alloc (.cells #[.int .u32 (s1 : Int), .int .u32 (s2 : Int)] 35)).cell? ⟨w.heap.size, 0, none⟩ = some (.int .u32 (a1 : Int)) := (G1.out.1).cell rfl; have y1_0_1 : (w1.alloc (.cells #[.int .u32 (s1 : Int), .int .u32 (s2 : Int)] 35)).cell? ⟨w.heap.size, 1, none⟩ = some (.int .u32 (a2 : Int)) := (G1.out.1).cell rfl; have y1_2_0 : (w1.alloc (.cells #[.int .u32 (s1 : Int), .int .u32 (s2 : Int)] 35)).cell? ⟨p, 0, none⟩ = some (.int .u32 (a1 : Int)) := (G1.out.2.2.1).cell rfl; have y1_2_1 : (w1.alloc (.cells #[.int .u32 (s1 : Int), .int .u32 (s2 : Int)] 35)).cell? ⟨p, 1, none⟩ = some (.int .u32 (a2 : Int)) := (G1.out.2.2.1).cell rfl)
      | (go_at_call 11; (with_reducible refine (RS.out _).mono ?_); rintro e w2 ⟨rfl, hb⟩; have hz : Below (w1.alloc (.cells #[.int .u32 (s1 : Int), .int .u32 (s2 : Int)] 35)).heap.size (w1.alloc (.cells #[.int .u32 (s1 : Int), .int .u32 (s2 : Int)] 35)) (w2.alloc (.cells #[.int .u32 (s1 : Int), .int .u32 (s2 : Int)] 34)) := hb.alloc hb.size _; clear hb; have G2 := Lib.hid (And.intro (G1.out.1.later hz) (And.intro (G1.out.2.1.later hz) (And.intro (G1.out.2.2.1.later hz) (And.intro (G1.out.2.2.2.1.later hz) (And.intro (G1.out.2.2.2.2.later hz) (BX.new w2 34 #[.int .u32 (s1 : Int), .int .u32 (s2 : Int)])))))); have H2 := Lib.hid (bthen' H1.out hz (by first | exact Nat.le_refl _ | exact H1.out.size)); clear hz; have y2_0_0 : (w2.alloc (.cells #[.int .u32 (s1 : Int), .int .u32 (s2 : Int)] 34)).cell? ⟨w.heap.size, 0, none⟩ = some (.int .u32 (a1 : Int)) := (G2.out.1).cell rfl; have y2_0_1 : (w2.alloc (.cells #[.int .u32 (s1 : Int), .int .u32 (s2 : Int)] 34)).cell? ⟨w.heap.size, 1, none⟩ = some (.int .u32 (a2 : Int)) := (G2.out.1).cell rfl; have y2_2_0 : (w2.alloc (.cells #[.int .u32 (s1 : Int), .int .u32 (s2 : Int)] 34)).cell? ⟨p, 0, none⟩ = some (.int .u32 (a1 : Int)) := (G2.out.2.2.1).cell rfl; have y2_2_1 : (w2.alloc (.cells #[.int .u32 (s1 : Int), .int .u32 (s2 : Int)] 34)).cell? ⟨p, 1, none⟩ = some (.int .u32 (a2 : Int)) := (G2.out.2.2.1).cell rfl)
      | (go_at_call 12; (with_reducible refine (NR.out _).mono ?_); rintro e w3 ⟨rfl, hb⟩; have hz : Below (w2.alloc (.cells #[.int .u32 (s1 : Int), .int .u32 (s2 : Int)] 34)).heap.size (w2.alloc (.cells #[.int .u32 (s1 : Int), .int .u32 (s2 : Int)] 34)) (w3.alloc (.cells #[.int .u32 (r1 : Int), .int .u32 (r2 : Int)] 35)) := hb.alloc hb.size _; clear hb; have G3 := Lib.hid (And.intro (G2.out.1.later hz) (And.intro (G2.out.2.1.later hz) (And.intro (G2.out.2.2.1.later hz) (And.intro (G2.out.2.2.2.1.later hz) (And.intro (G2.out.2.2.2.2.1.later hz) (And.intro (G2.out.2.2.2.2.2.later hz) (BX.new w3 35 #[.int .u32 (r1 : Int), .int .u32 (r2 : Int)]))))))); have H3 := Lib.hid (bthen' H2.out hz (by first | exact Nat.le_refl _ | exact H2.out.size)); clear hz; have y3_0_0 : (w3.alloc (.cells #[.int .u32 (r1 : Int), .int .u32 (r2 : Int)] 35)).cell? ⟨w.heap.size, 0, none⟩ = some (.int .u32 (a1 : Int)) := (G3.out.1).cell rfl; have y3_0_1 : (w3.alloc (.cells #[.int .u32 (r1 : Int), .int .u32 (r2 : Int)] 35)).cell? ⟨w.heap.size, 1, none⟩ = some (.int .u32 (a2 : Int)) := (G3.out.1).cell rfl; have y3_2_0 : (w3.alloc (.cells #[.int .u32 (r1 : Int), .int .u32 (r2 : Int)] 35)).cell? ⟨p, 0, none⟩ = some (.int .u32 (a1 : Int)) := (G3.out.2.2.1).cell rfl; have y3_2_1 : (w3.alloc (.cells #[.int .u32 (r1 : Int), .int .u32 (r2 : Int)] 35)).cell? ⟨p, 1, none⟩ = some (.int .u32 (a2 : Int)) := (G3.out.2.2.1).cell rfl)
      | (go_at_call 13; (with_reducible refine (RR.out _).mono ?_); rintro e w4 ⟨rfl, hb⟩; have hz : Below (w3.alloc (.cells #[.int .u32 (r1 : Int), .int .u32 (r2 : Int)] 35)).heap.size (w3.alloc (.cells #[.int .u32 (r1 : Int), .int .u32 (r2 : Int)] 35)) (w4.alloc (.cells #[.int .u32 (r1 : Int), .int .u32 (r2 : Int)] 34)) := hb.alloc hb.size _; clear hb; have G4 := Lib.hid (And.intro (G3.out.1.later hz) (And.intro (G3.out.2.1.later hz) (And.intro (G3.out.2.2.1.later hz) (And.intro (G3.out.2.2.2.1.later hz) (And.intro (G3.out.2.2.2.2.1.later hz) (And.intro (G3.out.2.2.2.2.2.1.later hz) (And.intro (G3.out.2.2.2.2.2.2.later hz) (BX.new w4 34 #[.int .u32 (r1 : Int), .int .u32 (r2 : Int)])))))))); have H4 := Lib.hid (bthen' H3.out hz (by first | exact Nat.le_refl _ | exact H3.out.size)); clear hz; have y4_0_0 : (w4.alloc (.cells #[.int .u32 (r1 : Int), .int .u32 (r2 : Int)] 34)).cell? ⟨w.heap.size, 0, none⟩ = some (.int .u32 (a1 : Int)) := (G4.out.1).cell rfl; have y4_0_1 : (w4.alloc (.cells #[.int .u32 (r1 : Int), .int .u32 (r2 : Int)] 34)).cell? ⟨w.heap.size, 1, none⟩ = some (.int .u32 (a2 : Int)) := (G4.out.1).cell rfl; have y4_2_0 : (w4.alloc (.cells #[.int .u32 (r1 : Int), .int .u32 (r2 : Int)] 34)).cell? ⟨p, 0, none⟩ = some (.int .u32 (a1 : Int)) := (G4.out.2.2.1).cell rfl; have y4_2_1 : (w4.alloc (.cells #[.int .u32 (r1 : Int), .int .u32 (r2 : Int)] 34)).cell? ⟨p, 1, none⟩ = some (.int .u32 (a2 : Int)) := (G4.out.2.2.1).cell rfl))
    have HB := Lib.hid H4.out
    clear H0 H1 H2 H3 H4 G0 G1 G2 G3 y0_0_0 y0_0_1 y0_2_0 y0_2_1 y1_0_0 y1_0_1 y1_2_0 y1_2_1 y2_0_0 y2_0_1 y2_2_0 y2_2_1 y3_0_0 y3_0_1 y3_2_0 y3_2_1 y4_0_0 y4_0_1 y4_2_0 y4_2_1
    generalize (w4.alloc (.cells #[.int .u32 (r1 : Int), .int .u32 (r2 : Int)] 34)) = Z at *
    have FC := Lib.hid (fun W (h : Below Z.heap.size Z W) => show W.cell? ⟨w.heap.size, 0, none⟩ = some (.int .u32 (a1 : Int)) ∧ W.cell? ⟨w.heap.size, 1, none⟩ = some (.int .u32 (a2 : Int)) ∧ W.cell? ⟨w.heap.size + 1, 0, none⟩ = some (.int .u32 (b1 : Int)) ∧ W.cell? ⟨w.heap.size + 1, 1, none⟩ = some (.int .u32 (b2 : Int)) ∧ W.cell? ⟨p, 0, none⟩ = some (.int .u32 (a1 : Int)) ∧ W.cell? ⟨p, 1, none⟩ = some (.int .u32 (a2 : Int)) ∧ W.cell? ⟨q, 0, none⟩ = some (.int .u32 (b1 : Int)) ∧ W.cell? ⟨q, 1, none⟩ = some (.int .u32 (b2 : Int)) ∧ W.cell? ⟨w1.heap.size, 0, none⟩ = some (.int .u32 (s1 : Int)) ∧ W.cell? ⟨w1.heap.size, 1, none⟩ = some (.int .u32 (s2 : Int)) ∧ W.cell? ⟨w2.heap.size, 0, none⟩ = some (.int .u32 (s1 : Int)) ∧ W.cell? ⟨w2.heap.size, 1, none⟩ = some (.int .u32 (s2 : Int)) ∧ W.cell? ⟨w3.heap.size, 0, none⟩ = some (.int .u32 (r1 : Int)) ∧ W.cell? ⟨w3.heap.size, 1, none⟩ = some (.int .u32 (r2 : Int)) ∧ W.cell? ⟨w4.heap.size, 0, none⟩ = some (.int .u32 (r1 : Int)) ∧ W.cell? ⟨w4.heap.size, 1, none⟩ = some (.int .u32 (r2 : Int)) from ⟨(G4.out.1.later h).cell rfl, (G4.out.1.later h).cell rfl, (G4.out.2.1.later h).cell rfl, (G4.out.2.1.later h).cell rfl, (G4.out.2.2.1.later h).cell rfl, (G4.out.2.2.1.later h).cell rfl, (G4.out.2.2.2.1.later h).cell rfl, (G4.out.2.2.2.1.later h).cell rfl, (G4.out.2.2.2.2.1.later h).cell rfl, (G4.out.2.2.2.2.1.later h).cell rfl, (G4.out.2.2.2.2.2.1.later h).cell rfl, (G4.out.2.2.2.2.2.1.later h).cell rfl, (G4.out.2.2.2.2.2.2.1.later h).cell rfl, (G4.out.2.2.2.2.2.2.1.later h).cell rfl, (G4.out.2.2.2.2.2.2.2.later h).cell rfl, (G4.out.2.2.2.2.2.2.2.later h).cell rfl⟩)
    have hacc : Below Z.heap.size Z Z.drew := (Below.refl _ _).drew
    clear G4
    have y := FC.out _ hacc
    obtain ⟨y0, y1, y2, y3, y4, y5, y6, y7, y8, y9, y10, y11, y12, y13, y14, y15⟩ := y
    go_region_held3 (fun W => W.cell? ⟨w.heap.size, 0, none⟩ = some (.int .u32 (a1 : Int)) ∧ W.cell? ⟨w.heap.size, 1, none⟩ = some (.int .u32 (a2 : Int)) ∧ W.cell? ⟨w.heap.size + 1, 0, none⟩ = some (.int .u32 (b1 : Int)) ∧ W.cell? ⟨w.heap.size + 1, 1, none⟩ = some (.int .u32 (b2 : Int)) ∧ W.cell? ⟨p, 0, none⟩ = some (.int .u32 (a1 : Int)) ∧ W.cell? ⟨p, 1, none⟩ = some (.int .u32 (a2 : Int)) ∧ W.cell? ⟨q, 0, none⟩ = some (.int .u32 (b1 : Int)) ∧ W.cell? ⟨q, 1, none⟩ = some (.int .u32 (b2 : Int)) ∧ W.cell? ⟨w1.heap.size, 0, none⟩ = some (.int .u32 (s1 : Int)) ∧ W.cell? ⟨w1.heap.size, 1, none⟩ = some (.int .u32 (s2 : Int)) ∧ W.cell? ⟨w2.heap.size, 0, none⟩ = some (.int .u32 (s1 : Int)) ∧ W.cell? ⟨w2.heap.size, 1, none⟩ = some (.int .u32 (s2 : Int)) ∧ W.cell? ⟨w3.heap.size, 0, none⟩ = some (.int .u32 (r1 : Int)) ∧ W.cell? ⟨w3.heap.size, 1, none⟩ = some (.int .u32 (r2 : Int)) ∧ W.cell? ⟨w4.heap.size, 0, none⟩ = some (.int .u32 (r1 : Int)) ∧ W.cell? ⟨w4.heap.size, 1, none⟩ = some (.int .u32 (r2 : Int))) (first | (with_reducible exact FC.out _ hacc) | go_keep) (first
      | (go_at_call 9; (with_reducible refine (al.out _).mono ?_); rintro e w5 ⟨rfl, hb⟩; replace hacc := bthen' hacc hb; clear hb)
      | (go_at_call 19; (with_reducible refine (RC.out _).mono ?_); rintro e w5 ⟨rfl, hb⟩; replace hacc := bthen' hacc hb; clear hb)
      | (go_at_call 18; (with_reducible refine (CK.out _).mono ?_); rintro e w5 ⟨rfl, hb⟩; replace hacc := bthen' hacc hb; clear hb)
      | (go_at_call 17; (with_reducible refine (RM.out _).mono ?_); rintro e w5 ⟨rfl, hb⟩; replace hacc := bthen' hacc hb; clear hb)
      | (go_at_call 16; (with_reducible refine (MK.out _).mono ?_); rintro e w5 ⟨rfl, hb⟩; replace hacc := bthen' hacc hb; clear hb)
      | (go_at_call 15; (with_reducible refine (RW.out _).mono ?_); rintro e w5 ⟨rfl, hb⟩; replace hacc := bthen' hacc hb; clear hb)
      | (go_at_call 14; (with_reducible refine (NW.out _).mono ?_); rintro e w5 ⟨rfl, hb⟩; replace hacc := bthen' hacc hb; clear hb))
    all_goals (go_wp2; go_ret; exact ⟨rfl, bthen' HB.out hacc⟩)
end Go.Proofs.Ytemkieakcnodjaa
