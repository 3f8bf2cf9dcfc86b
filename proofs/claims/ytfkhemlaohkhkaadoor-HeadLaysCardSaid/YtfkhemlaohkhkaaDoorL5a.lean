/- WALKS OF LAYER 5, THE LAWS: HeadLays. -/
import Derived.Test.YtfkhemlaohkhkaaDoorH5h
import Derived.Test.YtfkhemlaohkhkaaDoorH5f
import Derived.Test.YtfkhemlaohkhkaaDoorM5f
namespace Go.Proofs.YtfkhemlaohkhkaaDoor
open Go.RowKit
set_option maxHeartbeats 3200000
set_option maxRecDepth 100000
theorem hlays_walk (p nm l : ByteArray) (m u g t z k : Int) (w : World) (sp : p.size ≤ maxLen) (sn : nm.size ≤ maxLen) (sl : l.size ≤ maxLen) (hk0 : 0 ≤ k) (hk1 : k ≤ 255)
    (m0 : -9223372036854775808 ≤ m) (m1 : m ≤ 9223372036854775807) (u0 : -9223372036854775808 ≤ u) (u1 : u ≤ 9223372036854775807) (g0 : -9223372036854775808 ≤ g) (g1 : g ≤ 9223372036854775807)
    (t0 : -9223372036854775808 ≤ t) (t1 : t ≤ 9223372036854775807) (z0 : -9223372036854775808 ≤ z) (z1 : z ≤ 9223372036854775807) :
    Calls Tryd.prog 3 #[.agg #[.string p, .string nm, .int .i64 m, .int .i64 u, .int .i64 g, .int .i64 t, .int .i64 z, .int .u8 k, .string l]] w fun e w' => e = .returned (.bool true) ∧ Below w.heap.size w w' := by
  have far := fun W => hfar_any p nm l m u g t z k W sp sn sl
  have box : ∀ W, Below (w.heap.size + 1) (w.alloc (.cells #[.string p, .string nm, .int .i64 m, .int .i64 u, .int .i64 g, .int .i64 t, .int .i64 z, .int .u8 k, .string l] 25)) W →
      BX W w.heap.size 25 #[.string p, .string nm, .int .i64 m, .int .i64 u, .int .i64 g, .int .i64 t, .int .i64 z, .int .u8 k, .string l] := fun W hb => (BX.new w _ _).below hb (by omega)
  have BOX := Lib.hid box; clear box
  by_cases hf : 600 < p.size ∨ 600 < nm.size ∨ 600 < l.size
  · have e : (decide (600 < p.size) || decide (600 < nm.size) || decide (600 < l.size)) = true := by simp; omega
    rw [e] at far
    have FAR := Lib.hid far; clear far e hf
    go_enter Tryd.func3, Tryd.ntmps3
    go_wp2_with (first
      | (go_at_call 6; (with_reducible refine (FAR.out _).mono ?_); rintro e w1 ⟨rfl, hb1⟩)
      | (go_at_call 7; (with_reducible refine (alive5_any _).mono ?_); rintro e w2 ⟨rfl, hb2⟩))
    go_ret
    exact ⟨rfl, ((Below.refl _ w).alloc (Nat.le_refl _) _).trans (hb1.mono (by simp)) |>.trans (hb2.mono (by have := hb1.size; simp at this; omega))⟩
  · have e : (decide (600 < p.size) || decide (600 < nm.size) || decide (600 < l.size)) = false := by simp; omega
    rw [e] at far
    have FAR := Lib.hid far; clear far e
    have the := fun W => htheirs_any p nm l m u g t z k W
    have lay := fun W => hlay_any p nm l m u g t z k W (by omega) (by omega) (by omega) hk0 hk1 m0 m1 u0 u1 g0 g1 t0 t1 z0 z1
    have may := fun W => hmay_any p nm l m u g t z k W (by omega) (by omega) (by omega) hk0 hk1 m0 m1 u0 u1 g0 g1 t0 t1 z0 z1
    have ref := fun W => refhlay_any p nm l m u g t z k W (by omega) (by omega) (by omega) hk0 hk1 m0 m1 u0 u1 g0 g1 t0 t1 z0 z1
    rw [← Hh.lay_eq p nm l m u g t z k m0 m1 u0 u1 g0 g1 t0 t1 z0 z1] at ref
    have ist := fun W => hist_any k W
    have rist := fun W => refhist_any k W
    have hlen : (Hh.layC p nm l m u g t z k).1.length ≤ 1000000 := by
      rw [Hh.lay_eq p nm l m u g t z k m0 m1 u0 u1 g0 g1 t0 t1 z0 z1]
      by_cases h : (Hh.layS p nm l m u g t z k).2 = 0
      · have := (Hh.back p nm l m u g t z k m0 m1 u0 u1 g0 g1 t0 t1 z0 z1 (by rw [Hh.lay_eq p nm l m u g t z k m0 m1 u0 u1 g0 g1 t0 t1 z0 z1]; exact h)).2.2.1
        rw [Hh.lay_eq p nm l m u g t z k m0 m1 u0 u1 g0 g1 t0 t1 z0 z1] at this
        omega
      · rw [Hh.layS_bad p nm l m u g t z k h]
        simp
    generalize Hh.layC p nm l m u g t z k = R at *
    obtain ⟨ys, e2⟩ := R
    simp only at lay may ref hlen
    generalize Hh.isT k = it at *
    have THE := Lib.hid the; have LAY := Lib.hid lay; have MAY := Lib.hid may; have REF := Lib.hid ref; have IST := Lib.hid ist; have RIST := Lib.hid rist; have HLEN := Lib.hid hlen
    clear the lay may ref ist rist hlen hf sp sn sl
    go_enter Tryd.func3, Tryd.ntmps3
    go_wp2_with (first
      | (go_at_call 6; (with_reducible refine (FAR.out _).mono ?_); rintro e w1 ⟨rfl, hb1⟩
         have b1 := hb1.mono (B' := w.heap.size + 1) (by simp)
         have fa0 : w1.cell? ⟨w.heap.size, 0, none⟩ = some (.string p) := (BOX.out _ b1).cell rfl; have fa1 : w1.cell? ⟨w.heap.size, 1, none⟩ = some (.string nm) := (BOX.out _ b1).cell rfl; have fa2 : w1.cell? ⟨w.heap.size, 2, none⟩ = some (.int .i64 m) := (BOX.out _ b1).cell rfl; have fa3 : w1.cell? ⟨w.heap.size, 3, none⟩ = some (.int .i64 u) := (BOX.out _ b1).cell rfl; have fa4 : w1.cell? ⟨w.heap.size, 4, none⟩ = some (.int .i64 g) := (BOX.out _ b1).cell rfl; have fa5 : w1.cell? ⟨w.heap.size, 5, none⟩ = some (.int .i64 t) := (BOX.out _ b1).cell rfl; have fa6 : w1.cell? ⟨w.heap.size, 6, none⟩ = some (.int .i64 z) := (BOX.out _ b1).cell rfl; have fa7 : w1.cell? ⟨w.heap.size, 7, none⟩ = some (.int .u8 k) := (BOX.out _ b1).cell rfl; have fa8 : w1.cell? ⟨w.heap.size, 8, none⟩ = some (.string l) := (BOX.out _ b1).cell rfl
         have B1 := Lib.hid b1; clear hb1 b1)
      | (go_at_call 9; (with_reducible refine (THE.out _).mono ?_); rintro e w2 ⟨rfl, hb2⟩
         have s1 := B1.out.size
         have b2 := B1.out.trans (hb2.mono (by simp at s1; omega))
         have B2 := Lib.hid b2; clear hb2 b2)
      | (go_at_call 8; (with_reducible refine (LAY.out _).mono ?_); rintro e w3 ⟨v3, rfl, o3, hb3⟩
         have s2 := B2.out.size
         have b3 := B2.out.trans (hb3.mono (by simp at s2; omega))
         obtain ⟨A3, c3, rfl, r3, _, _⟩ := o3.rb
         have fb0 : w3.cell? ⟨w.heap.size, 0, none⟩ = some (.string p) := (BOX.out _ b3).cell rfl; have fb1 : w3.cell? ⟨w.heap.size, 1, none⟩ = some (.string nm) := (BOX.out _ b3).cell rfl; have fb2 : w3.cell? ⟨w.heap.size, 2, none⟩ = some (.int .i64 m) := (BOX.out _ b3).cell rfl; have fb3 : w3.cell? ⟨w.heap.size, 3, none⟩ = some (.int .i64 u) := (BOX.out _ b3).cell rfl; have fb4 : w3.cell? ⟨w.heap.size, 4, none⟩ = some (.int .i64 g) := (BOX.out _ b3).cell rfl; have fb5 : w3.cell? ⟨w.heap.size, 5, none⟩ = some (.int .i64 t) := (BOX.out _ b3).cell rfl; have fb6 : w3.cell? ⟨w.heap.size, 6, none⟩ = some (.int .i64 z) := (BOX.out _ b3).cell rfl; have fb7 : w3.cell? ⟨w.heap.size, 7, none⟩ = some (.int .u8 k) := (BOX.out _ b3).cell rfl; have fb8 : w3.cell? ⟨w.heap.size, 8, none⟩ = some (.string l) := (BOX.out _ b3).cell rfl
         have B3 := Lib.hid b3; have R3 := Lib.hid r3; clear b3 r3 o3 hb3)
      | (go_at_call 10; (with_reducible refine (REF.out _).mono ?_); rintro e w4 ⟨v4, rfl, o4, hb4⟩
         have s3 := B3.out.size
         have b4 := B3.out.trans (hb4.mono (by simp at s3; omega))
         obtain ⟨A4, c4, rfl, r4, _, _⟩ := o4.rb
         have r3 := (R3.out.below hb4).more hb4.size
         have fc0 : w4.cell? ⟨w.heap.size, 0, none⟩ = some (.string p) := (BOX.out _ b4).cell rfl; have fc1 : w4.cell? ⟨w.heap.size, 1, none⟩ = some (.string nm) := (BOX.out _ b4).cell rfl; have fc2 : w4.cell? ⟨w.heap.size, 2, none⟩ = some (.int .i64 m) := (BOX.out _ b4).cell rfl; have fc3 : w4.cell? ⟨w.heap.size, 3, none⟩ = some (.int .i64 u) := (BOX.out _ b4).cell rfl; have fc4 : w4.cell? ⟨w.heap.size, 4, none⟩ = some (.int .i64 g) := (BOX.out _ b4).cell rfl; have fc5 : w4.cell? ⟨w.heap.size, 5, none⟩ = some (.int .i64 t) := (BOX.out _ b4).cell rfl; have fc6 : w4.cell? ⟨w.heap.size, 6, none⟩ = some (.int .i64 z) := (BOX.out _ b4).cell rfl; have fc7 : w4.cell? ⟨w.heap.size, 7, none⟩ = some (.int .u8 k) := (BOX.out _ b4).cell rfl; have fc8 : w4.cell? ⟨w.heap.size, 8, none⟩ = some (.string l) := (BOX.out _ b4).cell rfl
         have B4 := Lib.hid b4; have R4 := Lib.hid r4; have R34 := Lib.hid r3; clear b4 r3 r4 o4))
    go_region_law (first
      | (go_simp; go_at_call 11; (refine (same_any A3 A4 _ _ c3 c4 ys ys w4.drew R34.out R4.out HLEN.out HLEN.out).mono ?_); rintro e w5 ⟨rfl, hb5⟩; rw [decide_eq_true rfl]
         have s4 := B4.out.size
         have b5 := B4.out.trans ((below_undrew hb5).mono (by simp at s4; show _ ≤ w4.heap.size; omega))
         have fd0 : w5.cell? ⟨w.heap.size, 0, none⟩ = some (.string p) := (BOX.out _ b5).cell rfl; have fd1 : w5.cell? ⟨w.heap.size, 1, none⟩ = some (.string nm) := (BOX.out _ b5).cell rfl; have fd2 : w5.cell? ⟨w.heap.size, 2, none⟩ = some (.int .i64 m) := (BOX.out _ b5).cell rfl; have fd3 : w5.cell? ⟨w.heap.size, 3, none⟩ = some (.int .i64 u) := (BOX.out _ b5).cell rfl; have fd4 : w5.cell? ⟨w.heap.size, 4, none⟩ = some (.int .i64 g) := (BOX.out _ b5).cell rfl; have fd5 : w5.cell? ⟨w.heap.size, 5, none⟩ = some (.int .i64 t) := (BOX.out _ b5).cell rfl; have fd6 : w5.cell? ⟨w.heap.size, 6, none⟩ = some (.int .i64 z) := (BOX.out _ b5).cell rfl; have fd7 : w5.cell? ⟨w.heap.size, 7, none⟩ = some (.int .u8 k) := (BOX.out _ b5).cell rfl; have fd8 : w5.cell? ⟨w.heap.size, 8, none⟩ = some (.string l) := (BOX.out _ b5).cell rfl
         have B5 := Lib.hid b5; clear hb5 b5)
      | (go_simp; go_at_call 9; (with_reducible refine (THE.out _).mono ?_); rintro e w6 ⟨rfl, hb6⟩
         have s5 := B5.out.size
         have b6 := B5.out.trans (hb6.mono (by simp at s5; omega))
         have fe0 : w6.cell? ⟨w.heap.size, 0, none⟩ = some (.string p) := (BOX.out _ b6).cell rfl; have fe1 : w6.cell? ⟨w.heap.size, 1, none⟩ = some (.string nm) := (BOX.out _ b6).cell rfl; have fe2 : w6.cell? ⟨w.heap.size, 2, none⟩ = some (.int .i64 m) := (BOX.out _ b6).cell rfl; have fe3 : w6.cell? ⟨w.heap.size, 3, none⟩ = some (.int .i64 u) := (BOX.out _ b6).cell rfl; have fe4 : w6.cell? ⟨w.heap.size, 4, none⟩ = some (.int .i64 g) := (BOX.out _ b6).cell rfl; have fe5 : w6.cell? ⟨w.heap.size, 5, none⟩ = some (.int .i64 t) := (BOX.out _ b6).cell rfl; have fe6 : w6.cell? ⟨w.heap.size, 6, none⟩ = some (.int .i64 z) := (BOX.out _ b6).cell rfl; have fe7 : w6.cell? ⟨w.heap.size, 7, none⟩ = some (.int .u8 k) := (BOX.out _ b6).cell rfl; have fe8 : w6.cell? ⟨w.heap.size, 8, none⟩ = some (.string l) := (BOX.out _ b6).cell rfl
         have B6 := Lib.hid b6; clear hb6 b6)
      | (go_simp; go_at_call 12; (with_reducible refine (MAY.out _).mono ?_); rintro e w7 ⟨rfl, hb7⟩
         have s6 := B6.out.size
         have b7 := B6.out.trans (hb7.mono (by simp at s6; omega))
         have ff0 : w7.cell? ⟨w.heap.size, 0, none⟩ = some (.string p) := (BOX.out _ b7).cell rfl; have ff1 : w7.cell? ⟨w.heap.size, 1, none⟩ = some (.string nm) := (BOX.out _ b7).cell rfl; have ff2 : w7.cell? ⟨w.heap.size, 2, none⟩ = some (.int .i64 m) := (BOX.out _ b7).cell rfl; have ff3 : w7.cell? ⟨w.heap.size, 3, none⟩ = some (.int .i64 u) := (BOX.out _ b7).cell rfl; have ff4 : w7.cell? ⟨w.heap.size, 4, none⟩ = some (.int .i64 g) := (BOX.out _ b7).cell rfl; have ff5 : w7.cell? ⟨w.heap.size, 5, none⟩ = some (.int .i64 t) := (BOX.out _ b7).cell rfl; have ff6 : w7.cell? ⟨w.heap.size, 6, none⟩ = some (.int .i64 z) := (BOX.out _ b7).cell rfl; have ff7 : w7.cell? ⟨w.heap.size, 7, none⟩ = some (.int .u8 k) := (BOX.out _ b7).cell rfl; have ff8 : w7.cell? ⟨w.heap.size, 8, none⟩ = some (.string l) := (BOX.out _ b7).cell rfl
         have B7 := Lib.hid b7; clear hb7 b7)
      | (go_simp; go_at_call 13; (with_reducible refine (IST.out _).mono ?_); rintro e w8 ⟨rfl, rfl⟩)
      | (go_simp; go_at_call 14; (with_reducible refine (RIST.out _).mono ?_); rintro e w8 ⟨rfl, rfl⟩)
      | (go_simp; go_at_call 7; (with_reducible refine (alive5_any _).mono ?_); rintro e w9 ⟨rfl, hb9⟩))
    all_goals
      go_wp2
      go_ret
      refine ⟨ret_bool (by simp), ?_⟩
      have s7 := B7.out.size
      simp at s7
      exact ((Below.refl _ w).alloc (Nat.le_refl _) _).trans (B7.out.mono (by omega)) |>.trans (hb9.mono (by omega))
end Go.Proofs.YtfkhemlaohkhkaaDoor
