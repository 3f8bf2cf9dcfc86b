/- WALKS OF LAYER 5, THE LAWS: HeadBack. -/
import Derived.Test.YtfkhemlaohkhkaaDoorH5h
import Derived.Test.YtfkhemlaohkhkaaDoorM5f
import Derived.Deep.DeepCutAuto
import Derived.Deep.RegionHeld3
namespace Go.Proofs.YtfkhemlaohkhkaaDoor
open Go.RowKit
set_option maxHeartbeats 6400000
set_option maxRecDepth 100000
theorem below_undrew2 {B : Nat} {w w' : World} (h : Below B w.drew w') : Below B w w' := ⟨h.os, h.tape, h.output, h.size, h.block⟩
theorem toList_ne' {a b : ByteArray} (h : ¬ a = b) : a.toList ≠ b.toList := fun e => h (toList_eq' e)
theorem hback_walk (p nm l : ByteArray) (m u g t z k : Int) (p2 nm2 l2 : ByteArray) (m2 u2 g2 t2 z2 k2 : Int) (w : World) (sp : p.size ≤ maxLen) (sn : nm.size ≤ maxLen) (sl : l.size ≤ maxLen) (hk0 : 0 ≤ k) (hk1 : k ≤ 255)
    (m0 : -9223372036854775808 ≤ m) (m1 : m ≤ 9223372036854775807) (u0 : -9223372036854775808 ≤ u) (u1 : u ≤ 9223372036854775807) (g0 : -9223372036854775808 ≤ g) (g1 : g ≤ 9223372036854775807) (t0 : -9223372036854775808 ≤ t) (t1 : t ≤ 9223372036854775807) (z0 : -9223372036854775808 ≤ z) (z1 : z ≤ 9223372036854775807)
    (sp2 : p2.size ≤ maxLen) (sn2 : nm2.size ≤ maxLen) (sl2 : l2.size ≤ maxLen) (_ : 0 ≤ k2) (_ : k2 ≤ 255) (_ : -9223372036854775808 ≤ m2) (_ : m2 ≤ 9223372036854775807) (_ : -9223372036854775808 ≤ u2) (_ : u2 ≤ 9223372036854775807) (_ : -9223372036854775808 ≤ g2) (_ : g2 ≤ 9223372036854775807) (_ : -9223372036854775808 ≤ t2) (_ : t2 ≤ 9223372036854775807) (_ : -9223372036854775808 ≤ z2) (_ : z2 ≤ 9223372036854775807) :
    Calls Tryd.prog 5 #[.agg #[.string p, .string nm, .int .i64 m, .int .i64 u, .int .i64 g, .int .i64 t, .int .i64 z, .int .u8 k, .string l], .agg #[.string p2, .string nm2, .int .i64 m2, .int .i64 u2, .int .i64 g2, .int .i64 t2, .int .i64 z2, .int .u8 k2, .string l2]] w fun e w' => e = .returned (.bool true) ∧ Below w.heap.size w w' := by
  have far := fun W => hfar_any p nm l m u g t z k W sp sn sl
  have far2 := fun W => hfar_any p2 nm2 l2 m2 u2 g2 t2 z2 k2 W sp2 sn2 sl2
  have box : ∀ W, Below (w.heap.size + 1 + 1) ((w.alloc (.cells #[.string p, .string nm, .int .i64 m, .int .i64 u, .int .i64 g, .int .i64 t, .int .i64 z, .int .u8 k, .string l] 25)).alloc (.cells #[.string p2, .string nm2, .int .i64 m2, .int .i64 u2, .int .i64 g2, .int .i64 t2, .int .i64 z2, .int .u8 k2, .string l2] 25)) W → BX W w.heap.size 25 #[.string p, .string nm, .int .i64 m, .int .i64 u, .int .i64 g, .int .i64 t, .int .i64 z, .int .u8 k, .string l] ∧ BX W (w.heap.size + 1) 25 #[.string p2, .string nm2, .int .i64 m2, .int .i64 u2, .int .i64 g2, .int .i64 t2, .int .i64 z2, .int .u8 k2, .string l2] := fun W hb => by
    refine ⟨((BX.new w _ _).alloc _).below hb (by omega), ?_⟩
    have h := (BX.new (w.alloc (.cells #[.string p, .string nm, .int .i64 m, .int .i64 u, .int .i64 g, .int .i64 t, .int .i64 z, .int .u8 k, .string l] 25)) 25 #[.string p2, .string nm2, .int .i64 m2, .int .i64 u2, .int .i64 g2, .int .i64 t2, .int .i64 z2, .int .u8 k2, .string l2]).below hb (by simp)
    simpa using h
  have BOX := Lib.hid box; clear box
  have stt : Below w.heap.size w ((w.alloc (.cells #[.string p, .string nm, .int .i64 m, .int .i64 u, .int .i64 g, .int .i64 t, .int .i64 z, .int .u8 k, .string l] 25)).alloc (.cells #[.string p2, .string nm2, .int .i64 m2, .int .i64 u2, .int .i64 g2, .int .i64 t2, .int .i64 z2, .int .u8 k2, .string l2] 25)) := ((Below.refl _ w).alloc (Nat.le_refl _) _).alloc (by simp) _
  have STT := Lib.hid stt; clear stt
  by_cases hf : 600 < p.size ∨ 600 < nm.size ∨ 600 < l.size
  · have e : (decide (600 < p.size) || decide (600 < nm.size) || decide (600 < l.size)) = true := by simp; omega
    rw [e] at far
    have FAR := Lib.hid far; clear far far2 e hf
    go_enter Tryd.func5, Tryd.ntmps5
    go_wp2_with (first
      | (go_at_call 6; (with_reducible refine (FAR.out _).mono ?_); rintro e w1 ⟨rfl, hb1⟩)
      | (go_at_call 7; (with_reducible refine (alive5_any _).mono ?_); rintro e w2 ⟨rfl, hb2⟩))
    go_ret
    exact ⟨rfl, STT.out.trans (hb1.mono (by simp; omega)) |>.trans (hb2.mono (by have := hb1.size; simp at this; omega))⟩
  · have e : (decide (600 < p.size) || decide (600 < nm.size) || decide (600 < l.size)) = false := by simp; omega
    rw [e] at far
    have FAR := Lib.hid far; clear far e
    by_cases hf2 : 600 < p2.size ∨ 600 < nm2.size ∨ 600 < l2.size
    · have e : (decide (600 < p2.size) || decide (600 < nm2.size) || decide (600 < l2.size)) = true := by simp; omega
      rw [e] at far2
      have FAR2 := Lib.hid far2; clear far2 e hf hf2
      go_enter Tryd.func5, Tryd.ntmps5
      go_wp2_with (first
        | (go_at_call 6; (with_reducible refine (FAR.out _).mono ?_); rintro e w1 ⟨rfl, hb1⟩; have a1 := hb1.size; simp at a1; have b1 := hb1.mono (B' := w.heap.size + 1 + 1) (by simp); have fa0 : w1.cell? ⟨w.heap.size + 1, 0, none⟩ = some (.string p2) := ((BOX.out _ b1).2).cell rfl; have fa1 : w1.cell? ⟨w.heap.size + 1, 1, none⟩ = some (.string nm2) := ((BOX.out _ b1).2).cell rfl; have fa2 : w1.cell? ⟨w.heap.size + 1, 2, none⟩ = some (.int .i64 m2) := ((BOX.out _ b1).2).cell rfl; have fa3 : w1.cell? ⟨w.heap.size + 1, 3, none⟩ = some (.int .i64 u2) := ((BOX.out _ b1).2).cell rfl; have fa4 : w1.cell? ⟨w.heap.size + 1, 4, none⟩ = some (.int .i64 g2) := ((BOX.out _ b1).2).cell rfl; have fa5 : w1.cell? ⟨w.heap.size + 1, 5, none⟩ = some (.int .i64 t2) := ((BOX.out _ b1).2).cell rfl; have fa6 : w1.cell? ⟨w.heap.size + 1, 6, none⟩ = some (.int .i64 z2) := ((BOX.out _ b1).2).cell rfl; have fa7 : w1.cell? ⟨w.heap.size + 1, 7, none⟩ = some (.int .u8 k2) := ((BOX.out _ b1).2).cell rfl; have fa8 : w1.cell? ⟨w.heap.size + 1, 8, none⟩ = some (.string l2) := ((BOX.out _ b1).2).cell rfl)
        | (go_at_call 6; (with_reducible refine (FAR2.out _).mono ?_); rintro e w2 ⟨rfl, hb2⟩; have a2 := hb2.size)
        | (go_at_call 7; (with_reducible refine (alive5_any _).mono ?_); rintro e w3 ⟨rfl, hb3⟩))
      go_ret
      exact ⟨rfl, STT.out.trans (b1.mono (by omega)) |>.trans (hb2.mono (by omega)) |>.trans (hb3.mono (by omega))⟩
    · have e : (decide (600 < p2.size) || decide (600 < nm2.size) || decide (600 < l2.size)) = false := by simp; omega
      rw [e] at far2
      have FAR2 := Lib.hid far2; clear far2 e
      have the := fun W => htheirs_any p nm l m u g t z k W
      have the2 := fun W => htheirs_any p2 nm2 l2 m2 u2 g2 t2 z2 k2 W
      have sam := fun W => hsame_any p nm l m u g t z k p2 nm2 l2 m2 u2 g2 t2 z2 k2 W
      have samS := fun W => hsame_any p nm l m u g t z k p nm l m u g t z k W
      rw [show Hh.same p nm l m u g t z k p nm l m u g t z k = true from by simp [Hh.same]] at samS
      have lay := fun W => hlay_any p nm l m u g t z k W (by omega) (by omega) (by omega) hk0 hk1 m0 m1 u0 u1 g0 g1 t0 t1 z0 z1
      have bck := Hh.back p nm l m u g t z k m0 m1 u0 u1 g0 g1 t0 t1 z0 z1
      have bad : (Hh.layC p nm l m u g t z k).2 ≠ 0 → (Hh.layC p nm l m u g t z k).1 = [] := by
        rw [Hh.lay_eq p nm l m u g t z k m0 m1 u0 u1 g0 g1 t0 t1 z0 z1]
        exact Hh.layS_bad p nm l m u g t z k
      obtain ⟨⟨ys, e2⟩, hY⟩ : ∃ P, Hh.layC p nm l m u g t z k = P := ⟨_, rfl⟩
      rw [hY] at lay bck bad
      simp only at lay bck bad
      have THE := Lib.hid the; have THE2 := Lib.hid the2; have SAM := Lib.hid sam; have SAMS := Lib.hid samS; have LAY := Lib.hid lay; have BCK := Lib.hid bck; have BAD := Lib.hid bad
      clear the the2 sam samS lay bck bad hY hf hf2 sp sn sl sp2 sn2 sl2
      go_enter Tryd.func5, Tryd.ntmps5
      go_upto_region 3 with (first
        | (go_at_call 6; (with_reducible refine (FAR.out _).mono ?_); rintro e w1 ⟨rfl, hb1⟩; have a1 := hb1.size; simp at a1; have b1 := hb1.mono (B' := w.heap.size + 1 + 1) (by simp); have fa0 : w1.cell? ⟨w.heap.size + 1, 0, none⟩ = some (.string p2) := ((BOX.out _ b1).2).cell rfl; have fa1 : w1.cell? ⟨w.heap.size + 1, 1, none⟩ = some (.string nm2) := ((BOX.out _ b1).2).cell rfl; have fa2 : w1.cell? ⟨w.heap.size + 1, 2, none⟩ = some (.int .i64 m2) := ((BOX.out _ b1).2).cell rfl; have fa3 : w1.cell? ⟨w.heap.size + 1, 3, none⟩ = some (.int .i64 u2) := ((BOX.out _ b1).2).cell rfl; have fa4 : w1.cell? ⟨w.heap.size + 1, 4, none⟩ = some (.int .i64 g2) := ((BOX.out _ b1).2).cell rfl; have fa5 : w1.cell? ⟨w.heap.size + 1, 5, none⟩ = some (.int .i64 t2) := ((BOX.out _ b1).2).cell rfl; have fa6 : w1.cell? ⟨w.heap.size + 1, 6, none⟩ = some (.int .i64 z2) := ((BOX.out _ b1).2).cell rfl; have fa7 : w1.cell? ⟨w.heap.size + 1, 7, none⟩ = some (.int .u8 k2) := ((BOX.out _ b1).2).cell rfl; have fa8 : w1.cell? ⟨w.heap.size + 1, 8, none⟩ = some (.string l2) := ((BOX.out _ b1).2).cell rfl; have B1 := Lib.hid b1; clear hb1 b1)
        | (go_at_call 6; (with_reducible refine (FAR2.out _).mono ?_); rintro e w2 ⟨rfl, hb2⟩; have b2 := B1.out.trans (hb2.mono (by omega)); have a2 := b2.size; simp at a2; have fb0 : w2.cell? ⟨w.heap.size, 0, none⟩ = some (.string p) := ((BOX.out _ b2).1).cell rfl; have fb1 : w2.cell? ⟨w.heap.size, 1, none⟩ = some (.string nm) := ((BOX.out _ b2).1).cell rfl; have fb2 : w2.cell? ⟨w.heap.size, 2, none⟩ = some (.int .i64 m) := ((BOX.out _ b2).1).cell rfl; have fb3 : w2.cell? ⟨w.heap.size, 3, none⟩ = some (.int .i64 u) := ((BOX.out _ b2).1).cell rfl; have fb4 : w2.cell? ⟨w.heap.size, 4, none⟩ = some (.int .i64 g) := ((BOX.out _ b2).1).cell rfl; have fb5 : w2.cell? ⟨w.heap.size, 5, none⟩ = some (.int .i64 t) := ((BOX.out _ b2).1).cell rfl; have fb6 : w2.cell? ⟨w.heap.size, 6, none⟩ = some (.int .i64 z) := ((BOX.out _ b2).1).cell rfl; have fb7 : w2.cell? ⟨w.heap.size, 7, none⟩ = some (.int .u8 k) := ((BOX.out _ b2).1).cell rfl; have fb8 : w2.cell? ⟨w.heap.size, 8, none⟩ = some (.string l) := ((BOX.out _ b2).1).cell rfl; have fc0 : w2.cell? ⟨w.heap.size + 1, 0, none⟩ = some (.string p2) := ((BOX.out _ b2).2).cell rfl; have fc1 : w2.cell? ⟨w.heap.size + 1, 1, none⟩ = some (.string nm2) := ((BOX.out _ b2).2).cell rfl; have fc2 : w2.cell? ⟨w.heap.size + 1, 2, none⟩ = some (.int .i64 m2) := ((BOX.out _ b2).2).cell rfl; have fc3 : w2.cell? ⟨w.heap.size + 1, 3, none⟩ = some (.int .i64 u2) := ((BOX.out _ b2).2).cell rfl; have fc4 : w2.cell? ⟨w.heap.size + 1, 4, none⟩ = some (.int .i64 g2) := ((BOX.out _ b2).2).cell rfl; have fc5 : w2.cell? ⟨w.heap.size + 1, 5, none⟩ = some (.int .i64 t2) := ((BOX.out _ b2).2).cell rfl; have fc6 : w2.cell? ⟨w.heap.size + 1, 6, none⟩ = some (.int .i64 z2) := ((BOX.out _ b2).2).cell rfl; have fc7 : w2.cell? ⟨w.heap.size + 1, 7, none⟩ = some (.int .u8 k2) := ((BOX.out _ b2).2).cell rfl; have fc8 : w2.cell? ⟨w.heap.size + 1, 8, none⟩ = some (.string l2) := ((BOX.out _ b2).2).cell rfl; have B2 := Lib.hid b2; clear hb2 b2))
      go_cut [24] (fun tt wx => tt = .bool false ∧ Below (w.heap.size + 1 + 1) ((w.alloc (.cells #[.string p, .string nm, .int .i64 m, .int .i64 u, .int .i64 g, .int .i64 t, .int .i64 z, .int .u8 k, .string l] 25)).alloc (.cells #[.string p2, .string nm2, .int .i64 m2, .int .i64 u2, .int .i64 g2, .int .i64 t2, .int .i64 z2, .int .u8 k2, .string l2] 25)) wx)
      case first =>
        have hacc : Below (w.heap.size + 1 + 1) ((w.alloc (.cells #[.string p, .string nm, .int .i64 m, .int .i64 u, .int .i64 g, .int .i64 t, .int .i64 z, .int .u8 k, .string l] 25)).alloc (.cells #[.string p2, .string nm2, .int .i64 m2, .int .i64 u2, .int .i64 g2, .int .i64 t2, .int .i64 z2, .int .u8 k2, .string l2] 25)) w2.drew := B2.out.drew
        by_cases q0 : p = p2
        · subst q0
          by_cases q1 : nm = nm2
          · subst q1
            by_cases q2 : m = m2
            · subst q2
              by_cases q3 : u = u2
              · subst q3
                by_cases q4 : g = g2
                · subst q4
                  by_cases q5 : t = t2
                  · subst q5
                    by_cases q6 : z = z2
                    · subst q6
                      by_cases q7 : k = k2
                      · subst q7
                        by_cases q8 : l = l2
                        · subst q8
                          have sam := SAM.out
                          rw [show Hh.same p nm l m u g t z k p nm l m u g t z k = true from by simp [Hh.same]] at sam
                          have SAM2 := Lib.hid sam
                          clear sam SAM
                          have alls : ∀ W, Below (w.heap.size + 1 + 1) ((w.alloc (.cells #[.string p, .string nm, .int .i64 m, .int .i64 u, .int .i64 g, .int .i64 t, .int .i64 z, .int .u8 k, .string l] 25)).alloc (.cells #[.string p, .string nm, .int .i64 m, .int .i64 u, .int .i64 g, .int .i64 t, .int .i64 z, .int .u8 k, .string l] 25)) W → W.cell? ⟨w.heap.size, 0, none⟩ = some (.string p) ∧ W.cell? ⟨w.heap.size, 1, none⟩ = some (.string nm) ∧ W.cell? ⟨w.heap.size, 2, none⟩ = some (.int .i64 m) ∧ W.cell? ⟨w.heap.size, 3, none⟩ = some (.int .i64 u) ∧ W.cell? ⟨w.heap.size, 4, none⟩ = some (.int .i64 g) ∧ W.cell? ⟨w.heap.size, 5, none⟩ = some (.int .i64 t) ∧ W.cell? ⟨w.heap.size, 6, none⟩ = some (.int .i64 z) ∧ W.cell? ⟨w.heap.size, 7, none⟩ = some (.int .u8 k) ∧ W.cell? ⟨w.heap.size, 8, none⟩ = some (.string l) ∧ W.cell? ⟨w.heap.size + 1, 0, none⟩ = some (.string p) ∧ W.cell? ⟨w.heap.size + 1, 1, none⟩ = some (.string nm) ∧ W.cell? ⟨w.heap.size + 1, 2, none⟩ = some (.int .i64 m) ∧ W.cell? ⟨w.heap.size + 1, 3, none⟩ = some (.int .i64 u) ∧ W.cell? ⟨w.heap.size + 1, 4, none⟩ = some (.int .i64 g) ∧ W.cell? ⟨w.heap.size + 1, 5, none⟩ = some (.int .i64 t) ∧ W.cell? ⟨w.heap.size + 1, 6, none⟩ = some (.int .i64 z) ∧ W.cell? ⟨w.heap.size + 1, 7, none⟩ = some (.int .u8 k) ∧ W.cell? ⟨w.heap.size + 1, 8, none⟩ = some (.string l) := fun W hW => by
                            obtain ⟨r1, r2⟩ := BOX.out _ hW
                            exact ⟨r1.cell rfl, r1.cell rfl, r1.cell rfl, r1.cell rfl, r1.cell rfl, r1.cell rfl, r1.cell rfl, r1.cell rfl, r1.cell rfl, r2.cell rfl, r2.cell rfl, r2.cell rfl, r2.cell rfl, r2.cell rfl, r2.cell rfl, r2.cell rfl, r2.cell rfl, r2.cell rfl⟩
                          have ALLS := Lib.hid alls; clear alls
                          go_region_held3 (fun w' => w'.cell? ⟨w.heap.size, 0, none⟩ = some (.string p) ∧ w'.cell? ⟨w.heap.size, 1, none⟩ = some (.string nm) ∧ w'.cell? ⟨w.heap.size, 2, none⟩ = some (.int .i64 m) ∧ w'.cell? ⟨w.heap.size, 3, none⟩ = some (.int .i64 u) ∧ w'.cell? ⟨w.heap.size, 4, none⟩ = some (.int .i64 g) ∧ w'.cell? ⟨w.heap.size, 5, none⟩ = some (.int .i64 t) ∧ w'.cell? ⟨w.heap.size, 6, none⟩ = some (.int .i64 z) ∧ w'.cell? ⟨w.heap.size, 7, none⟩ = some (.int .u8 k) ∧ w'.cell? ⟨w.heap.size, 8, none⟩ = some (.string l) ∧ w'.cell? ⟨w.heap.size + 1, 0, none⟩ = some (.string p) ∧ w'.cell? ⟨w.heap.size + 1, 1, none⟩ = some (.string nm) ∧ w'.cell? ⟨w.heap.size + 1, 2, none⟩ = some (.int .i64 m) ∧ w'.cell? ⟨w.heap.size + 1, 3, none⟩ = some (.int .i64 u) ∧ w'.cell? ⟨w.heap.size + 1, 4, none⟩ = some (.int .i64 g) ∧ w'.cell? ⟨w.heap.size + 1, 5, none⟩ = some (.int .i64 t) ∧ w'.cell? ⟨w.heap.size + 1, 6, none⟩ = some (.int .i64 z) ∧ w'.cell? ⟨w.heap.size + 1, 7, none⟩ = some (.int .u8 k) ∧ w'.cell? ⟨w.heap.size + 1, 8, none⟩ = some (.string l))
                            (first | go_keep | (exact ALLS.out _ hacc))
                            (first
                              | (go_at_call 9; (with_reducible refine (THE.out _).mono ?_); rintro e wna ⟨rfl, hbna⟩; have aa := hacc.size; simp at aa; replace hacc := hacc.trans (Below.mono hbna (by first | omega | (show _ ≤ w2.heap.size; omega))))
                              | (go_at_call 9; (with_reducible refine (THE2.out _).mono ?_); rintro e wnb ⟨rfl, hbnb⟩; have ab := hacc.size; simp at ab; replace hacc := hacc.trans (Below.mono hbnb (by first | omega | (show _ ≤ w2.heap.size; omega))))
                              | (go_at_call 18; (with_reducible refine (SAM2.out _).mono ?_); rintro e wnc ⟨rfl, hbnc⟩; have ac := hacc.size; simp at ac; replace hacc := hacc.trans (Below.mono hbnc (by first | omega | (show _ ≤ w2.heap.size; omega)))))
                          all_goals
                            go_wp2
                            go_meet
                            exact ⟨rfl, hacc⟩
                        · have e : (l.toList == l2.toList) = false := by rw [beq_eq_false_iff_ne]; exact toList_ne' q8
                          have sam := SAM.out
                          rw [show Hh.same p nm l m u g t z k p nm l2 m u g t z k = false from by simp [Hh.same, q8]] at sam
                          have SAM2 := Lib.hid sam
                          clear sam q8 SAM
                          have alls : ∀ W, Below (w.heap.size + 1 + 1) ((w.alloc (.cells #[.string p, .string nm, .int .i64 m, .int .i64 u, .int .i64 g, .int .i64 t, .int .i64 z, .int .u8 k, .string l] 25)).alloc (.cells #[.string p, .string nm, .int .i64 m, .int .i64 u, .int .i64 g, .int .i64 t, .int .i64 z, .int .u8 k, .string l2] 25)) W → W.cell? ⟨w.heap.size, 0, none⟩ = some (.string p) ∧ W.cell? ⟨w.heap.size, 1, none⟩ = some (.string nm) ∧ W.cell? ⟨w.heap.size, 2, none⟩ = some (.int .i64 m) ∧ W.cell? ⟨w.heap.size, 3, none⟩ = some (.int .i64 u) ∧ W.cell? ⟨w.heap.size, 4, none⟩ = some (.int .i64 g) ∧ W.cell? ⟨w.heap.size, 5, none⟩ = some (.int .i64 t) ∧ W.cell? ⟨w.heap.size, 6, none⟩ = some (.int .i64 z) ∧ W.cell? ⟨w.heap.size, 7, none⟩ = some (.int .u8 k) ∧ W.cell? ⟨w.heap.size, 8, none⟩ = some (.string l) ∧ W.cell? ⟨w.heap.size + 1, 0, none⟩ = some (.string p) ∧ W.cell? ⟨w.heap.size + 1, 1, none⟩ = some (.string nm) ∧ W.cell? ⟨w.heap.size + 1, 2, none⟩ = some (.int .i64 m) ∧ W.cell? ⟨w.heap.size + 1, 3, none⟩ = some (.int .i64 u) ∧ W.cell? ⟨w.heap.size + 1, 4, none⟩ = some (.int .i64 g) ∧ W.cell? ⟨w.heap.size + 1, 5, none⟩ = some (.int .i64 t) ∧ W.cell? ⟨w.heap.size + 1, 6, none⟩ = some (.int .i64 z) ∧ W.cell? ⟨w.heap.size + 1, 7, none⟩ = some (.int .u8 k) ∧ W.cell? ⟨w.heap.size + 1, 8, none⟩ = some (.string l2) := fun W hW => by
                            obtain ⟨r1, r2⟩ := BOX.out _ hW
                            exact ⟨r1.cell rfl, r1.cell rfl, r1.cell rfl, r1.cell rfl, r1.cell rfl, r1.cell rfl, r1.cell rfl, r1.cell rfl, r1.cell rfl, r2.cell rfl, r2.cell rfl, r2.cell rfl, r2.cell rfl, r2.cell rfl, r2.cell rfl, r2.cell rfl, r2.cell rfl, r2.cell rfl⟩
                          have ALLS := Lib.hid alls; clear alls
                          go_region_held3 (fun w' => w'.cell? ⟨w.heap.size, 0, none⟩ = some (.string p) ∧ w'.cell? ⟨w.heap.size, 1, none⟩ = some (.string nm) ∧ w'.cell? ⟨w.heap.size, 2, none⟩ = some (.int .i64 m) ∧ w'.cell? ⟨w.heap.size, 3, none⟩ = some (.int .i64 u) ∧ w'.cell? ⟨w.heap.size, 4, none⟩ = some (.int .i64 g) ∧ w'.cell? ⟨w.heap.size, 5, none⟩ = some (.int .i64 t) ∧ w'.cell? ⟨w.heap.size, 6, none⟩ = some (.int .i64 z) ∧ w'.cell? ⟨w.heap.size, 7, none⟩ = some (.int .u8 k) ∧ w'.cell? ⟨w.heap.size, 8, none⟩ = some (.string l) ∧ w'.cell? ⟨w.heap.size + 1, 0, none⟩ = some (.string p) ∧ w'.cell? ⟨w.heap.size + 1, 1, none⟩ = some (.string nm) ∧ w'.cell? ⟨w.heap.size + 1, 2, none⟩ = some (.int .i64 m) ∧ w'.cell? ⟨w.heap.size + 1, 3, none⟩ = some (.int .i64 u) ∧ w'.cell? ⟨w.heap.size + 1, 4, none⟩ = some (.int .i64 g) ∧ w'.cell? ⟨w.heap.size + 1, 5, none⟩ = some (.int .i64 t) ∧ w'.cell? ⟨w.heap.size + 1, 6, none⟩ = some (.int .i64 z) ∧ w'.cell? ⟨w.heap.size + 1, 7, none⟩ = some (.int .u8 k) ∧ w'.cell? ⟨w.heap.size + 1, 8, none⟩ = some (.string l2))
                            (first | go_keep | (exact ALLS.out _ hacc))
                            (first
                              | (go_at_call 9; (with_reducible refine (THE.out _).mono ?_); rintro e wna ⟨rfl, hbna⟩; have aa := hacc.size; simp at aa; replace hacc := hacc.trans (Below.mono hbna (by first | omega | (show _ ≤ w2.heap.size; omega))))
                              | (go_at_call 9; (with_reducible refine (THE2.out _).mono ?_); rintro e wnb ⟨rfl, hbnb⟩; have ab := hacc.size; simp at ab; replace hacc := hacc.trans (Below.mono hbnb (by first | omega | (show _ ≤ w2.heap.size; omega))))
                              | (go_at_call 18; (with_reducible refine (SAM2.out _).mono ?_); rintro e wnc ⟨rfl, hbnc⟩; have ac := hacc.size; simp at ac; replace hacc := hacc.trans (Below.mono hbnc (by first | omega | (show _ ≤ w2.heap.size; omega)))))
                          all_goals
                            go_wp2
                            go_meet
                            exact ⟨rfl, hacc⟩
                      · have e : (k == k2) = false := by simp [q7]
                        have sam := SAM.out
                        rw [show Hh.same p nm l m u g t z k p nm l2 m u g t z k2 = false from by simp [Hh.same, q7]] at sam
                        have SAM2 := Lib.hid sam
                        clear sam q7 SAM
                        have alls : ∀ W, Below (w.heap.size + 1 + 1) ((w.alloc (.cells #[.string p, .string nm, .int .i64 m, .int .i64 u, .int .i64 g, .int .i64 t, .int .i64 z, .int .u8 k, .string l] 25)).alloc (.cells #[.string p, .string nm, .int .i64 m, .int .i64 u, .int .i64 g, .int .i64 t, .int .i64 z, .int .u8 k2, .string l2] 25)) W → W.cell? ⟨w.heap.size, 0, none⟩ = some (.string p) ∧ W.cell? ⟨w.heap.size, 1, none⟩ = some (.string nm) ∧ W.cell? ⟨w.heap.size, 2, none⟩ = some (.int .i64 m) ∧ W.cell? ⟨w.heap.size, 3, none⟩ = some (.int .i64 u) ∧ W.cell? ⟨w.heap.size, 4, none⟩ = some (.int .i64 g) ∧ W.cell? ⟨w.heap.size, 5, none⟩ = some (.int .i64 t) ∧ W.cell? ⟨w.heap.size, 6, none⟩ = some (.int .i64 z) ∧ W.cell? ⟨w.heap.size, 7, none⟩ = some (.int .u8 k) ∧ W.cell? ⟨w.heap.size, 8, none⟩ = some (.string l) ∧ W.cell? ⟨w.heap.size + 1, 0, none⟩ = some (.string p) ∧ W.cell? ⟨w.heap.size + 1, 1, none⟩ = some (.string nm) ∧ W.cell? ⟨w.heap.size + 1, 2, none⟩ = some (.int .i64 m) ∧ W.cell? ⟨w.heap.size + 1, 3, none⟩ = some (.int .i64 u) ∧ W.cell? ⟨w.heap.size + 1, 4, none⟩ = some (.int .i64 g) ∧ W.cell? ⟨w.heap.size + 1, 5, none⟩ = some (.int .i64 t) ∧ W.cell? ⟨w.heap.size + 1, 6, none⟩ = some (.int .i64 z) ∧ W.cell? ⟨w.heap.size + 1, 7, none⟩ = some (.int .u8 k2) ∧ W.cell? ⟨w.heap.size + 1, 8, none⟩ = some (.string l2) := fun W hW => by
                          obtain ⟨r1, r2⟩ := BOX.out _ hW
                          exact ⟨r1.cell rfl, r1.cell rfl, r1.cell rfl, r1.cell rfl, r1.cell rfl, r1.cell rfl, r1.cell rfl, r1.cell rfl, r1.cell rfl, r2.cell rfl, r2.cell rfl, r2.cell rfl, r2.cell rfl, r2.cell rfl, r2.cell rfl, r2.cell rfl, r2.cell rfl, r2.cell rfl⟩
                        have ALLS := Lib.hid alls; clear alls
                        go_region_held3 (fun w' => w'.cell? ⟨w.heap.size, 0, none⟩ = some (.string p) ∧ w'.cell? ⟨w.heap.size, 1, none⟩ = some (.string nm) ∧ w'.cell? ⟨w.heap.size, 2, none⟩ = some (.int .i64 m) ∧ w'.cell? ⟨w.heap.size, 3, none⟩ = some (.int .i64 u) ∧ w'.cell? ⟨w.heap.size, 4, none⟩ = some (.int .i64 g) ∧ w'.cell? ⟨w.heap.size, 5, none⟩ = some (.int .i64 t) ∧ w'.cell? ⟨w.heap.size, 6, none⟩ = some (.int .i64 z) ∧ w'.cell? ⟨w.heap.size, 7, none⟩ = some (.int .u8 k) ∧ w'.cell? ⟨w.heap.size, 8, none⟩ = some (.string l) ∧ w'.cell? ⟨w.heap.size + 1, 0, none⟩ = some (.string p) ∧ w'.cell? ⟨w.heap.size + 1, 1, none⟩ = some (.string nm) ∧ w'.cell? ⟨w.heap.size + 1, 2, none⟩ = some (.int .i64 m) ∧ w'.cell? ⟨w.heap.size + 1, 3, none⟩ = some (.int .i64 u) ∧ w'.cell? ⟨w.heap.size + 1, 4, none⟩ = some (.int .i64 g) ∧ w'.cell? ⟨w.heap.size + 1, 5, none⟩ = some (.int .i64 t) ∧ w'.cell? ⟨w.heap.size + 1, 6, none⟩ = some (.int .i64 z) ∧ w'.cell? ⟨w.heap.size + 1, 7, none⟩ = some (.int .u8 k2) ∧ w'.cell? ⟨w.heap.size + 1, 8, none⟩ = some (.string l2))
                          (first | go_keep | (exact ALLS.out _ hacc))
                          (first
                            | (go_at_call 9; (with_reducible refine (THE.out _).mono ?_); rintro e wna ⟨rfl, hbna⟩; have aa := hacc.size; simp at aa; replace hacc := hacc.trans (Below.mono hbna (by first | omega | (show _ ≤ w2.heap.size; omega))))
                            | (go_at_call 9; (with_reducible refine (THE2.out _).mono ?_); rintro e wnb ⟨rfl, hbnb⟩; have ab := hacc.size; simp at ab; replace hacc := hacc.trans (Below.mono hbnb (by first | omega | (show _ ≤ w2.heap.size; omega))))
                            | (go_at_call 18; (with_reducible refine (SAM2.out _).mono ?_); rintro e wnc ⟨rfl, hbnc⟩; have ac := hacc.size; simp at ac; replace hacc := hacc.trans (Below.mono hbnc (by first | omega | (show _ ≤ w2.heap.size; omega)))))
                        all_goals
                          go_wp2
                          go_meet
                          exact ⟨rfl, hacc⟩
                    · have e : (z == z2) = false := by simp [q6]
                      have sam := SAM.out
                      rw [show Hh.same p nm l m u g t z k p nm l2 m u g t z2 k2 = false from by simp [Hh.same, q6]] at sam
                      have SAM2 := Lib.hid sam
                      clear sam q6 SAM
                      have alls : ∀ W, Below (w.heap.size + 1 + 1) ((w.alloc (.cells #[.string p, .string nm, .int .i64 m, .int .i64 u, .int .i64 g, .int .i64 t, .int .i64 z, .int .u8 k, .string l] 25)).alloc (.cells #[.string p, .string nm, .int .i64 m, .int .i64 u, .int .i64 g, .int .i64 t, .int .i64 z2, .int .u8 k2, .string l2] 25)) W → W.cell? ⟨w.heap.size, 0, none⟩ = some (.string p) ∧ W.cell? ⟨w.heap.size, 1, none⟩ = some (.string nm) ∧ W.cell? ⟨w.heap.size, 2, none⟩ = some (.int .i64 m) ∧ W.cell? ⟨w.heap.size, 3, none⟩ = some (.int .i64 u) ∧ W.cell? ⟨w.heap.size, 4, none⟩ = some (.int .i64 g) ∧ W.cell? ⟨w.heap.size, 5, none⟩ = some (.int .i64 t) ∧ W.cell? ⟨w.heap.size, 6, none⟩ = some (.int .i64 z) ∧ W.cell? ⟨w.heap.size, 7, none⟩ = some (.int .u8 k) ∧ W.cell? ⟨w.heap.size, 8, none⟩ = some (.string l) ∧ W.cell? ⟨w.heap.size + 1, 0, none⟩ = some (.string p) ∧ W.cell? ⟨w.heap.size + 1, 1, none⟩ = some (.string nm) ∧ W.cell? ⟨w.heap.size + 1, 2, none⟩ = some (.int .i64 m) ∧ W.cell? ⟨w.heap.size + 1, 3, none⟩ = some (.int .i64 u) ∧ W.cell? ⟨w.heap.size + 1, 4, none⟩ = some (.int .i64 g) ∧ W.cell? ⟨w.heap.size + 1, 5, none⟩ = some (.int .i64 t) ∧ W.cell? ⟨w.heap.size + 1, 6, none⟩ = some (.int .i64 z2) ∧ W.cell? ⟨w.heap.size + 1, 7, none⟩ = some (.int .u8 k2) ∧ W.cell? ⟨w.heap.size + 1, 8, none⟩ = some (.string l2) := fun W hW => by
                        obtain ⟨r1, r2⟩ := BOX.out _ hW
                        exact ⟨r1.cell rfl, r1.cell rfl, r1.cell rfl, r1.cell rfl, r1.cell rfl, r1.cell rfl, r1.cell rfl, r1.cell rfl, r1.cell rfl, r2.cell rfl, r2.cell rfl, r2.cell rfl, r2.cell rfl, r2.cell rfl, r2.cell rfl, r2.cell rfl, r2.cell rfl, r2.cell rfl⟩
                      have ALLS := Lib.hid alls; clear alls
                      go_region_held3 (fun w' => w'.cell? ⟨w.heap.size, 0, none⟩ = some (.string p) ∧ w'.cell? ⟨w.heap.size, 1, none⟩ = some (.string nm) ∧ w'.cell? ⟨w.heap.size, 2, none⟩ = some (.int .i64 m) ∧ w'.cell? ⟨w.heap.size, 3, none⟩ = some (.int .i64 u) ∧ w'.cell? ⟨w.heap.size, 4, none⟩ = some (.int .i64 g) ∧ w'.cell? ⟨w.heap.size, 5, none⟩ = some (.int .i64 t) ∧ w'.cell? ⟨w.heap.size, 6, none⟩ = some (.int .i64 z) ∧ w'.cell? ⟨w.heap.size, 7, none⟩ = some (.int .u8 k) ∧ w'.cell? ⟨w.heap.size, 8, none⟩ = some (.string l) ∧ w'.cell? ⟨w.heap.size + 1, 0, none⟩ = some (.string p) ∧ w'.cell? ⟨w.heap.size + 1, 1, none⟩ = some (.string nm) ∧ w'.cell? ⟨w.heap.size + 1, 2, none⟩ = some (.int .i64 m) ∧ w'.cell? ⟨w.heap.size + 1, 3, none⟩ = some (.int .i64 u) ∧ w'.cell? ⟨w.heap.size + 1, 4, none⟩ = some (.int .i64 g) ∧ w'.cell? ⟨w.heap.size + 1, 5, none⟩ = some (.int .i64 t) ∧ w'.cell? ⟨w.heap.size + 1, 6, none⟩ = some (.int .i64 z2) ∧ w'.cell? ⟨w.heap.size + 1, 7, none⟩ = some (.int .u8 k2) ∧ w'.cell? ⟨w.heap.size + 1, 8, none⟩ = some (.string l2))
                        (first | go_keep | (exact ALLS.out _ hacc))
                        (first
                          | (go_at_call 9; (with_reducible refine (THE.out _).mono ?_); rintro e wna ⟨rfl, hbna⟩; have aa := hacc.size; simp at aa; replace hacc := hacc.trans (Below.mono hbna (by first | omega | (show _ ≤ w2.heap.size; omega))))
                          | (go_at_call 9; (with_reducible refine (THE2.out _).mono ?_); rintro e wnb ⟨rfl, hbnb⟩; have ab := hacc.size; simp at ab; replace hacc := hacc.trans (Below.mono hbnb (by first | omega | (show _ ≤ w2.heap.size; omega))))
                          | (go_at_call 18; (with_reducible refine (SAM2.out _).mono ?_); rintro e wnc ⟨rfl, hbnc⟩; have ac := hacc.size; simp at ac; replace hacc := hacc.trans (Below.mono hbnc (by first | omega | (show _ ≤ w2.heap.size; omega)))))
                      all_goals
                        go_wp2
                        go_meet
                        exact ⟨rfl, hacc⟩
                  · have e : (t == t2) = false := by simp [q5]
                    have sam := SAM.out
                    rw [show Hh.same p nm l m u g t z k p nm l2 m u g t2 z2 k2 = false from by simp [Hh.same, q5]] at sam
                    have SAM2 := Lib.hid sam
                    clear sam q5 SAM
                    have alls : ∀ W, Below (w.heap.size + 1 + 1) ((w.alloc (.cells #[.string p, .string nm, .int .i64 m, .int .i64 u, .int .i64 g, .int .i64 t, .int .i64 z, .int .u8 k, .string l] 25)).alloc (.cells #[.string p, .string nm, .int .i64 m, .int .i64 u, .int .i64 g, .int .i64 t2, .int .i64 z2, .int .u8 k2, .string l2] 25)) W → W.cell? ⟨w.heap.size, 0, none⟩ = some (.string p) ∧ W.cell? ⟨w.heap.size, 1, none⟩ = some (.string nm) ∧ W.cell? ⟨w.heap.size, 2, none⟩ = some (.int .i64 m) ∧ W.cell? ⟨w.heap.size, 3, none⟩ = some (.int .i64 u) ∧ W.cell? ⟨w.heap.size, 4, none⟩ = some (.int .i64 g) ∧ W.cell? ⟨w.heap.size, 5, none⟩ = some (.int .i64 t) ∧ W.cell? ⟨w.heap.size, 6, none⟩ = some (.int .i64 z) ∧ W.cell? ⟨w.heap.size, 7, none⟩ = some (.int .u8 k) ∧ W.cell? ⟨w.heap.size, 8, none⟩ = some (.string l) ∧ W.cell? ⟨w.heap.size + 1, 0, none⟩ = some (.string p) ∧ W.cell? ⟨w.heap.size + 1, 1, none⟩ = some (.string nm) ∧ W.cell? ⟨w.heap.size + 1, 2, none⟩ = some (.int .i64 m) ∧ W.cell? ⟨w.heap.size + 1, 3, none⟩ = some (.int .i64 u) ∧ W.cell? ⟨w.heap.size + 1, 4, none⟩ = some (.int .i64 g) ∧ W.cell? ⟨w.heap.size + 1, 5, none⟩ = some (.int .i64 t2) ∧ W.cell? ⟨w.heap.size + 1, 6, none⟩ = some (.int .i64 z2) ∧ W.cell? ⟨w.heap.size + 1, 7, none⟩ = some (.int .u8 k2) ∧ W.cell? ⟨w.heap.size + 1, 8, none⟩ = some (.string l2) := fun W hW => by
                      obtain ⟨r1, r2⟩ := BOX.out _ hW
                      exact ⟨r1.cell rfl, r1.cell rfl, r1.cell rfl, r1.cell rfl, r1.cell rfl, r1.cell rfl, r1.cell rfl, r1.cell rfl, r1.cell rfl, r2.cell rfl, r2.cell rfl, r2.cell rfl, r2.cell rfl, r2.cell rfl, r2.cell rfl, r2.cell rfl, r2.cell rfl, r2.cell rfl⟩
                    have ALLS := Lib.hid alls; clear alls
                    go_region_held3 (fun w' => w'.cell? ⟨w.heap.size, 0, none⟩ = some (.string p) ∧ w'.cell? ⟨w.heap.size, 1, none⟩ = some (.string nm) ∧ w'.cell? ⟨w.heap.size, 2, none⟩ = some (.int .i64 m) ∧ w'.cell? ⟨w.heap.size, 3, none⟩ = some (.int .i64 u) ∧ w'.cell? ⟨w.heap.size, 4, none⟩ = some (.int .i64 g) ∧ w'.cell? ⟨w.heap.size, 5, none⟩ = some (.int .i64 t) ∧ w'.cell? ⟨w.heap.size, 6, none⟩ = some (.int .i64 z) ∧ w'.cell? ⟨w.heap.size, 7, none⟩ = some (.int .u8 k) ∧ w'.cell? ⟨w.heap.size, 8, none⟩ = some (.string l) ∧ w'.cell? ⟨w.heap.size + 1, 0, none⟩ = some (.string p) ∧ w'.cell? ⟨w.heap.size + 1, 1, none⟩ = some (.string nm) ∧ w'.cell? ⟨w.heap.size + 1, 2, none⟩ = some (.int .i64 m) ∧ w'.cell? ⟨w.heap.size + 1, 3, none⟩ = some (.int .i64 u) ∧ w'.cell? ⟨w.heap.size + 1, 4, none⟩ = some (.int .i64 g) ∧ w'.cell? ⟨w.heap.size + 1, 5, none⟩ = some (.int .i64 t2) ∧ w'.cell? ⟨w.heap.size + 1, 6, none⟩ = some (.int .i64 z2) ∧ w'.cell? ⟨w.heap.size + 1, 7, none⟩ = some (.int .u8 k2) ∧ w'.cell? ⟨w.heap.size + 1, 8, none⟩ = some (.string l2))
                      (first | go_keep | (exact ALLS.out _ hacc))
                      (first
                        | (go_at_call 9; (with_reducible refine (THE.out _).mono ?_); rintro e wna ⟨rfl, hbna⟩; have aa := hacc.size; simp at aa; replace hacc := hacc.trans (Below.mono hbna (by first | omega | (show _ ≤ w2.heap.size; omega))))
                        | (go_at_call 9; (with_reducible refine (THE2.out _).mono ?_); rintro e wnb ⟨rfl, hbnb⟩; have ab := hacc.size; simp at ab; replace hacc := hacc.trans (Below.mono hbnb (by first | omega | (show _ ≤ w2.heap.size; omega))))
                        | (go_at_call 18; (with_reducible refine (SAM2.out _).mono ?_); rintro e wnc ⟨rfl, hbnc⟩; have ac := hacc.size; simp at ac; replace hacc := hacc.trans (Below.mono hbnc (by first | omega | (show _ ≤ w2.heap.size; omega)))))
                    all_goals
                      go_wp2
                      go_meet
                      exact ⟨rfl, hacc⟩
                · have e : (g == g2) = false := by simp [q4]
                  have sam := SAM.out
                  rw [show Hh.same p nm l m u g t z k p nm l2 m u g2 t2 z2 k2 = false from by simp [Hh.same, q4]] at sam
                  have SAM2 := Lib.hid sam
                  clear sam q4 SAM
                  have alls : ∀ W, Below (w.heap.size + 1 + 1) ((w.alloc (.cells #[.string p, .string nm, .int .i64 m, .int .i64 u, .int .i64 g, .int .i64 t, .int .i64 z, .int .u8 k, .string l] 25)).alloc (.cells #[.string p, .string nm, .int .i64 m, .int .i64 u, .int .i64 g2, .int .i64 t2, .int .i64 z2, .int .u8 k2, .string l2] 25)) W → W.cell? ⟨w.heap.size, 0, none⟩ = some (.string p) ∧ W.cell? ⟨w.heap.size, 1, none⟩ = some (.string nm) ∧ W.cell? ⟨w.heap.size, 2, none⟩ = some (.int .i64 m) ∧ W.cell? ⟨w.heap.size, 3, none⟩ = some (.int .i64 u) ∧ W.cell? ⟨w.heap.size, 4, none⟩ = some (.int .i64 g) ∧ W.cell? ⟨w.heap.size, 5, none⟩ = some (.int .i64 t) ∧ W.cell? ⟨w.heap.size, 6, none⟩ = some (.int .i64 z) ∧ W.cell? ⟨w.heap.size, 7, none⟩ = some (.int .u8 k) ∧ W.cell? ⟨w.heap.size, 8, none⟩ = some (.string l) ∧ W.cell? ⟨w.heap.size + 1, 0, none⟩ = some (.string p) ∧ W.cell? ⟨w.heap.size + 1, 1, none⟩ = some (.string nm) ∧ W.cell? ⟨w.heap.size + 1, 2, none⟩ = some (.int .i64 m) ∧ W.cell? ⟨w.heap.size + 1, 3, none⟩ = some (.int .i64 u) ∧ W.cell? ⟨w.heap.size + 1, 4, none⟩ = some (.int .i64 g2) ∧ W.cell? ⟨w.heap.size + 1, 5, none⟩ = some (.int .i64 t2) ∧ W.cell? ⟨w.heap.size + 1, 6, none⟩ = some (.int .i64 z2) ∧ W.cell? ⟨w.heap.size + 1, 7, none⟩ = some (.int .u8 k2) ∧ W.cell? ⟨w.heap.size + 1, 8, none⟩ = some (.string l2) := fun W hW => by
                    obtain ⟨r1, r2⟩ := BOX.out _ hW
                    exact ⟨r1.cell rfl, r1.cell rfl, r1.cell rfl, r1.cell rfl, r1.cell rfl, r1.cell rfl, r1.cell rfl, r1.cell rfl, r1.cell rfl, r2.cell rfl, r2.cell rfl, r2.cell rfl, r2.cell rfl, r2.cell rfl, r2.cell rfl, r2.cell rfl, r2.cell rfl, r2.cell rfl⟩
                  have ALLS := Lib.hid alls; clear alls
                  go_region_held3 (fun w' => w'.cell? ⟨w.heap.size, 0, none⟩ = some (.string p) ∧ w'.cell? ⟨w.heap.size, 1, none⟩ = some (.string nm) ∧ w'.cell? ⟨w.heap.size, 2, none⟩ = some (.int .i64 m) ∧ w'.cell? ⟨w.heap.size, 3, none⟩ = some (.int .i64 u) ∧ w'.cell? ⟨w.heap.size, 4, none⟩ = some (.int .i64 g) ∧ w'.cell? ⟨w.heap.size, 5, none⟩ = some (.int .i64 t) ∧ w'.cell? ⟨w.heap.size, 6, none⟩ = some (.int .i64 z) ∧ w'.cell? ⟨w.heap.size, 7, none⟩ = some (.int .u8 k) ∧ w'.cell? ⟨w.heap.size, 8, none⟩ = some (.string l) ∧ w'.cell? ⟨w.heap.size + 1, 0, none⟩ = some (.string p) ∧ w'.cell? ⟨w.heap.size + 1, 1, none⟩ = some (.string nm) ∧ w'.cell? ⟨w.heap.size + 1, 2, none⟩ = some (.int .i64 m) ∧ w'.cell? ⟨w.heap.size + 1, 3, none⟩ = some (.int .i64 u) ∧ w'.cell? ⟨w.heap.size + 1, 4, none⟩ = some (.int .i64 g2) ∧ w'.cell? ⟨w.heap.size + 1, 5, none⟩ = some (.int .i64 t2) ∧ w'.cell? ⟨w.heap.size + 1, 6, none⟩ = some (.int .i64 z2) ∧ w'.cell? ⟨w.heap.size + 1, 7, none⟩ = some (.int .u8 k2) ∧ w'.cell? ⟨w.heap.size + 1, 8, none⟩ = some (.string l2))
                    (first | go_keep | (exact ALLS.out _ hacc))
                    (first
                      | (go_at_call 9; (with_reducible refine (THE.out _).mono ?_); rintro e wna ⟨rfl, hbna⟩; have aa := hacc.size; simp at aa; replace hacc := hacc.trans (Below.mono hbna (by first | omega | (show _ ≤ w2.heap.size; omega))))
                      | (go_at_call 9; (with_reducible refine (THE2.out _).mono ?_); rintro e wnb ⟨rfl, hbnb⟩; have ab := hacc.size; simp at ab; replace hacc := hacc.trans (Below.mono hbnb (by first | omega | (show _ ≤ w2.heap.size; omega))))
                      | (go_at_call 18; (with_reducible refine (SAM2.out _).mono ?_); rintro e wnc ⟨rfl, hbnc⟩; have ac := hacc.size; simp at ac; replace hacc := hacc.trans (Below.mono hbnc (by first | omega | (show _ ≤ w2.heap.size; omega)))))
                  all_goals
                    go_wp2
                    go_meet
                    exact ⟨rfl, hacc⟩
              · have e : (u == u2) = false := by simp [q3]
                have sam := SAM.out
                rw [show Hh.same p nm l m u g t z k p nm l2 m u2 g2 t2 z2 k2 = false from by simp [Hh.same, q3]] at sam
                have SAM2 := Lib.hid sam
                clear sam q3 SAM
                have alls : ∀ W, Below (w.heap.size + 1 + 1) ((w.alloc (.cells #[.string p, .string nm, .int .i64 m, .int .i64 u, .int .i64 g, .int .i64 t, .int .i64 z, .int .u8 k, .string l] 25)).alloc (.cells #[.string p, .string nm, .int .i64 m, .int .i64 u2, .int .i64 g2, .int .i64 t2, .int .i64 z2, .int .u8 k2, .string l2] 25)) W → W.cell? ⟨w.heap.size, 0, none⟩ = some (.string p) ∧ W.cell? ⟨w.heap.size, 1, none⟩ = some (.string nm) ∧ W.cell? ⟨w.heap.size, 2, none⟩ = some (.int .i64 m) ∧ W.cell? ⟨w.heap.size, 3, none⟩ = some (.int .i64 u) ∧ W.cell? ⟨w.heap.size, 4, none⟩ = some (.int .i64 g) ∧ W.cell? ⟨w.heap.size, 5, none⟩ = some (.int .i64 t) ∧ W.cell? ⟨w.heap.size, 6, none⟩ = some (.int .i64 z) ∧ W.cell? ⟨w.heap.size, 7, none⟩ = some (.int .u8 k) ∧ W.cell? ⟨w.heap.size, 8, none⟩ = some (.string l) ∧ W.cell? ⟨w.heap.size + 1, 0, none⟩ = some (.string p) ∧ W.cell? ⟨w.heap.size + 1, 1, none⟩ = some (.string nm) ∧ W.cell? ⟨w.heap.size + 1, 2, none⟩ = some (.int .i64 m) ∧ W.cell? ⟨w.heap.size + 1, 3, none⟩ = some (.int .i64 u2) ∧ W.cell? ⟨w.heap.size + 1, 4, none⟩ = some (.int .i64 g2) ∧ W.cell? ⟨w.heap.size + 1, 5, none⟩ = some (.int .i64 t2) ∧ W.cell? ⟨w.heap.size + 1, 6, none⟩ = some (.int .i64 z2) ∧ W.cell? ⟨w.heap.size + 1, 7, none⟩ = some (.int .u8 k2) ∧ W.cell? ⟨w.heap.size + 1, 8, none⟩ = some (.string l2) := fun W hW => by
                  obtain ⟨r1, r2⟩ := BOX.out _ hW
                  exact ⟨r1.cell rfl, r1.cell rfl, r1.cell rfl, r1.cell rfl, r1.cell rfl, r1.cell rfl, r1.cell rfl, r1.cell rfl, r1.cell rfl, r2.cell rfl, r2.cell rfl, r2.cell rfl, r2.cell rfl, r2.cell rfl, r2.cell rfl, r2.cell rfl, r2.cell rfl, r2.cell rfl⟩
                have ALLS := Lib.hid alls; clear alls
                go_region_held3 (fun w' => w'.cell? ⟨w.heap.size, 0, none⟩ = some (.string p) ∧ w'.cell? ⟨w.heap.size, 1, none⟩ = some (.string nm) ∧ w'.cell? ⟨w.heap.size, 2, none⟩ = some (.int .i64 m) ∧ w'.cell? ⟨w.heap.size, 3, none⟩ = some (.int .i64 u) ∧ w'.cell? ⟨w.heap.size, 4, none⟩ = some (.int .i64 g) ∧ w'.cell? ⟨w.heap.size, 5, none⟩ = some (.int .i64 t) ∧ w'.cell? ⟨w.heap.size, 6, none⟩ = some (.int .i64 z) ∧ w'.cell? ⟨w.heap.size, 7, none⟩ = some (.int .u8 k) ∧ w'.cell? ⟨w.heap.size, 8, none⟩ = some (.string l) ∧ w'.cell? ⟨w.heap.size + 1, 0, none⟩ = some (.string p) ∧ w'.cell? ⟨w.heap.size + 1, 1, none⟩ = some (.string nm) ∧ w'.cell? ⟨w.heap.size + 1, 2, none⟩ = some (.int .i64 m) ∧ w'.cell? ⟨w.heap.size + 1, 3, none⟩ = some (.int .i64 u2) ∧ w'.cell? ⟨w.heap.size + 1, 4, none⟩ = some (.int .i64 g2) ∧ w'.cell? ⟨w.heap.size + 1, 5, none⟩ = some (.int .i64 t2) ∧ w'.cell? ⟨w.heap.size + 1, 6, none⟩ = some (.int .i64 z2) ∧ w'.cell? ⟨w.heap.size + 1, 7, none⟩ = some (.int .u8 k2) ∧ w'.cell? ⟨w.heap.size + 1, 8, none⟩ = some (.string l2))
                  (first | go_keep | (exact ALLS.out _ hacc))
                  (first
                    | (go_at_call 9; (with_reducible refine (THE.out _).mono ?_); rintro e wna ⟨rfl, hbna⟩; have aa := hacc.size; simp at aa; replace hacc := hacc.trans (Below.mono hbna (by first | omega | (show _ ≤ w2.heap.size; omega))))
                    | (go_at_call 9; (with_reducible refine (THE2.out _).mono ?_); rintro e wnb ⟨rfl, hbnb⟩; have ab := hacc.size; simp at ab; replace hacc := hacc.trans (Below.mono hbnb (by first | omega | (show _ ≤ w2.heap.size; omega))))
                    | (go_at_call 18; (with_reducible refine (SAM2.out _).mono ?_); rintro e wnc ⟨rfl, hbnc⟩; have ac := hacc.size; simp at ac; replace hacc := hacc.trans (Below.mono hbnc (by first | omega | (show _ ≤ w2.heap.size; omega)))))
                all_goals
                  go_wp2
                  go_meet
                  exact ⟨rfl, hacc⟩
            · have e : (m == m2) = false := by simp [q2]
              have sam := SAM.out
              rw [show Hh.same p nm l m u g t z k p nm l2 m2 u2 g2 t2 z2 k2 = false from by simp [Hh.same, q2]] at sam
              have SAM2 := Lib.hid sam
              clear sam q2 SAM
              have alls : ∀ W, Below (w.heap.size + 1 + 1) ((w.alloc (.cells #[.string p, .string nm, .int .i64 m, .int .i64 u, .int .i64 g, .int .i64 t, .int .i64 z, .int .u8 k, .string l] 25)).alloc (.cells #[.string p, .string nm, .int .i64 m2, .int .i64 u2, .int .i64 g2, .int .i64 t2, .int .i64 z2, .int .u8 k2, .string l2] 25)) W → W.cell? ⟨w.heap.size, 0, none⟩ = some (.string p) ∧ W.cell? ⟨w.heap.size, 1, none⟩ = some (.string nm) ∧ W.cell? ⟨w.heap.size, 2, none⟩ = some (.int .i64 m) ∧ W.cell? ⟨w.heap.size, 3, none⟩ = some (.int .i64 u) ∧ W.cell? ⟨w.heap.size, 4, none⟩ = some (.int .i64 g) ∧ W.cell? ⟨w.heap.size, 5, none⟩ = some (.int .i64 t) ∧ W.cell? ⟨w.heap.size, 6, none⟩ = some (.int .i64 z) ∧ W.cell? ⟨w.heap.size, 7, none⟩ = some (.int .u8 k) ∧ W.cell? ⟨w.heap.size, 8, none⟩ = some (.string l) ∧ W.cell? ⟨w.heap.size + 1, 0, none⟩ = some (.string p) ∧ W.cell? ⟨w.heap.size + 1, 1, none⟩ = some (.string nm) ∧ W.cell? ⟨w.heap.size + 1, 2, none⟩ = some (.int .i64 m2) ∧ W.cell? ⟨w.heap.size + 1, 3, none⟩ = some (.int .i64 u2) ∧ W.cell? ⟨w.heap.size + 1, 4, none⟩ = some (.int .i64 g2) ∧ W.cell? ⟨w.heap.size + 1, 5, none⟩ = some (.int .i64 t2) ∧ W.cell? ⟨w.heap.size + 1, 6, none⟩ = some (.int .i64 z2) ∧ W.cell? ⟨w.heap.size + 1, 7, none⟩ = some (.int .u8 k2) ∧ W.cell? ⟨w.heap.size + 1, 8, none⟩ = some (.string l2) := fun W hW => by
                obtain ⟨r1, r2⟩ := BOX.out _ hW
                exact ⟨r1.cell rfl, r1.cell rfl, r1.cell rfl, r1.cell rfl, r1.cell rfl, r1.cell rfl, r1.cell rfl, r1.cell rfl, r1.cell rfl, r2.cell rfl, r2.cell rfl, r2.cell rfl, r2.cell rfl, r2.cell rfl, r2.cell rfl, r2.cell rfl, r2.cell rfl, r2.cell rfl⟩
              have ALLS := Lib.hid alls; clear alls
              go_region_held3 (fun w' => w'.cell? ⟨w.heap.size, 0, none⟩ = some (.string p) ∧ w'.cell? ⟨w.heap.size, 1, none⟩ = some (.string nm) ∧ w'.cell? ⟨w.heap.size, 2, none⟩ = some (.int .i64 m) ∧ w'.cell? ⟨w.heap.size, 3, none⟩ = some (.int .i64 u) ∧ w'.cell? ⟨w.heap.size, 4, none⟩ = some (.int .i64 g) ∧ w'.cell? ⟨w.heap.size, 5, none⟩ = some (.int .i64 t) ∧ w'.cell? ⟨w.heap.size, 6, none⟩ = some (.int .i64 z) ∧ w'.cell? ⟨w.heap.size, 7, none⟩ = some (.int .u8 k) ∧ w'.cell? ⟨w.heap.size, 8, none⟩ = some (.string l) ∧ w'.cell? ⟨w.heap.size + 1, 0, none⟩ = some (.string p) ∧ w'.cell? ⟨w.heap.size + 1, 1, none⟩ = some (.string nm) ∧ w'.cell? ⟨w.heap.size + 1, 2, none⟩ = some (.int .i64 m2) ∧ w'.cell? ⟨w.heap.size + 1, 3, none⟩ = some (.int .i64 u2) ∧ w'.cell? ⟨w.heap.size + 1, 4, none⟩ = some (.int .i64 g2) ∧ w'.cell? ⟨w.heap.size + 1, 5, none⟩ = some (.int .i64 t2) ∧ w'.cell? ⟨w.heap.size + 1, 6, none⟩ = some (.int .i64 z2) ∧ w'.cell? ⟨w.heap.size + 1, 7, none⟩ = some (.int .u8 k2) ∧ w'.cell? ⟨w.heap.size + 1, 8, none⟩ = some (.string l2))
                (first | go_keep | (exact ALLS.out _ hacc))
                (first
                  | (go_at_call 9; (with_reducible refine (THE.out _).mono ?_); rintro e wna ⟨rfl, hbna⟩; have aa := hacc.size; simp at aa; replace hacc := hacc.trans (Below.mono hbna (by first | omega | (show _ ≤ w2.heap.size; omega))))
                  | (go_at_call 9; (with_reducible refine (THE2.out _).mono ?_); rintro e wnb ⟨rfl, hbnb⟩; have ab := hacc.size; simp at ab; replace hacc := hacc.trans (Below.mono hbnb (by first | omega | (show _ ≤ w2.heap.size; omega))))
                  | (go_at_call 18; (with_reducible refine (SAM2.out _).mono ?_); rintro e wnc ⟨rfl, hbnc⟩; have ac := hacc.size; simp at ac; replace hacc := hacc.trans (Below.mono hbnc (by first | omega | (show _ ≤ w2.heap.size; omega)))))
              all_goals
                go_wp2
                go_meet
                exact ⟨rfl, hacc⟩
          · have e : (nm.toList == nm2.toList) = false := by rw [beq_eq_false_iff_ne]; exact toList_ne' q1
            have sam := SAM.out
            rw [show Hh.same p nm l m u g t z k p nm2 l2 m2 u2 g2 t2 z2 k2 = false from by simp [Hh.same, q1]] at sam
            have SAM2 := Lib.hid sam
            clear sam q1 SAM
            have alls : ∀ W, Below (w.heap.size + 1 + 1) ((w.alloc (.cells #[.string p, .string nm, .int .i64 m, .int .i64 u, .int .i64 g, .int .i64 t, .int .i64 z, .int .u8 k, .string l] 25)).alloc (.cells #[.string p, .string nm2, .int .i64 m2, .int .i64 u2, .int .i64 g2, .int .i64 t2, .int .i64 z2, .int .u8 k2, .string l2] 25)) W → W.cell? ⟨w.heap.size, 0, none⟩ = some (.string p) ∧ W.cell? ⟨w.heap.size, 1, none⟩ = some (.string nm) ∧ W.cell? ⟨w.heap.size, 2, none⟩ = some (.int .i64 m) ∧ W.cell? ⟨w.heap.size, 3, none⟩ = some (.int .i64 u) ∧ W.cell? ⟨w.heap.size, 4, none⟩ = some (.int .i64 g) ∧ W.cell? ⟨w.heap.size, 5, none⟩ = some (.int .i64 t) ∧ W.cell? ⟨w.heap.size, 6, none⟩ = some (.int .i64 z) ∧ W.cell? ⟨w.heap.size, 7, none⟩ = some (.int .u8 k) ∧ W.cell? ⟨w.heap.size, 8, none⟩ = some (.string l) ∧ W.cell? ⟨w.heap.size + 1, 0, none⟩ = some (.string p) ∧ W.cell? ⟨w.heap.size + 1, 1, none⟩ = some (.string nm2) ∧ W.cell? ⟨w.heap.size + 1, 2, none⟩ = some (.int .i64 m2) ∧ W.cell? ⟨w.heap.size + 1, 3, none⟩ = some (.int .i64 u2) ∧ W.cell? ⟨w.heap.size + 1, 4, none⟩ = some (.int .i64 g2) ∧ W.cell? ⟨w.heap.size + 1, 5, none⟩ = some (.int .i64 t2) ∧ W.cell? ⟨w.heap.size + 1, 6, none⟩ = some (.int .i64 z2) ∧ W.cell? ⟨w.heap.size + 1, 7, none⟩ = some (.int .u8 k2) ∧ W.cell? ⟨w.heap.size + 1, 8, none⟩ = some (.string l2) := fun W hW => by
              obtain ⟨r1, r2⟩ := BOX.out _ hW
              exact ⟨r1.cell rfl, r1.cell rfl, r1.cell rfl, r1.cell rfl, r1.cell rfl, r1.cell rfl, r1.cell rfl, r1.cell rfl, r1.cell rfl, r2.cell rfl, r2.cell rfl, r2.cell rfl, r2.cell rfl, r2.cell rfl, r2.cell rfl, r2.cell rfl, r2.cell rfl, r2.cell rfl⟩
            have ALLS := Lib.hid alls; clear alls
            go_region_held3 (fun w' => w'.cell? ⟨w.heap.size, 0, none⟩ = some (.string p) ∧ w'.cell? ⟨w.heap.size, 1, none⟩ = some (.string nm) ∧ w'.cell? ⟨w.heap.size, 2, none⟩ = some (.int .i64 m) ∧ w'.cell? ⟨w.heap.size, 3, none⟩ = some (.int .i64 u) ∧ w'.cell? ⟨w.heap.size, 4, none⟩ = some (.int .i64 g) ∧ w'.cell? ⟨w.heap.size, 5, none⟩ = some (.int .i64 t) ∧ w'.cell? ⟨w.heap.size, 6, none⟩ = some (.int .i64 z) ∧ w'.cell? ⟨w.heap.size, 7, none⟩ = some (.int .u8 k) ∧ w'.cell? ⟨w.heap.size, 8, none⟩ = some (.string l) ∧ w'.cell? ⟨w.heap.size + 1, 0, none⟩ = some (.string p) ∧ w'.cell? ⟨w.heap.size + 1, 1, none⟩ = some (.string nm2) ∧ w'.cell? ⟨w.heap.size + 1, 2, none⟩ = some (.int .i64 m2) ∧ w'.cell? ⟨w.heap.size + 1, 3, none⟩ = some (.int .i64 u2) ∧ w'.cell? ⟨w.heap.size + 1, 4, none⟩ = some (.int .i64 g2) ∧ w'.cell? ⟨w.heap.size + 1, 5, none⟩ = some (.int .i64 t2) ∧ w'.cell? ⟨w.heap.size + 1, 6, none⟩ = some (.int .i64 z2) ∧ w'.cell? ⟨w.heap.size + 1, 7, none⟩ = some (.int .u8 k2) ∧ w'.cell? ⟨w.heap.size + 1, 8, none⟩ = some (.string l2))
              (first | go_keep | (exact ALLS.out _ hacc))
              (first
                | (go_at_call 9; (with_reducible refine (THE.out _).mono ?_); rintro e wna ⟨rfl, hbna⟩; have aa := hacc.size; simp at aa; replace hacc := hacc.trans (Below.mono hbna (by first | omega | (show _ ≤ w2.heap.size; omega))))
                | (go_at_call 9; (with_reducible refine (THE2.out _).mono ?_); rintro e wnb ⟨rfl, hbnb⟩; have ab := hacc.size; simp at ab; replace hacc := hacc.trans (Below.mono hbnb (by first | omega | (show _ ≤ w2.heap.size; omega))))
                | (go_at_call 18; (with_reducible refine (SAM2.out _).mono ?_); rintro e wnc ⟨rfl, hbnc⟩; have ac := hacc.size; simp at ac; replace hacc := hacc.trans (Below.mono hbnc (by first | omega | (show _ ≤ w2.heap.size; omega)))))
            all_goals
              go_wp2
              go_meet
              exact ⟨rfl, hacc⟩
        · have e : (p.toList == p2.toList) = false := by rw [beq_eq_false_iff_ne]; exact toList_ne' q0
          have sam := SAM.out
          rw [show Hh.same p nm l m u g t z k p2 nm2 l2 m2 u2 g2 t2 z2 k2 = false from by simp [Hh.same, q0]] at sam
          have SAM2 := Lib.hid sam
          clear sam q0 SAM
          have alls : ∀ W, Below (w.heap.size + 1 + 1) ((w.alloc (.cells #[.string p, .string nm, .int .i64 m, .int .i64 u, .int .i64 g, .int .i64 t, .int .i64 z, .int .u8 k, .string l] 25)).alloc (.cells #[.string p2, .string nm2, .int .i64 m2, .int .i64 u2, .int .i64 g2, .int .i64 t2, .int .i64 z2, .int .u8 k2, .string l2] 25)) W → W.cell? ⟨w.heap.size, 0, none⟩ = some (.string p) ∧ W.cell? ⟨w.heap.size, 1, none⟩ = some (.string nm) ∧ W.cell? ⟨w.heap.size, 2, none⟩ = some (.int .i64 m) ∧ W.cell? ⟨w.heap.size, 3, none⟩ = some (.int .i64 u) ∧ W.cell? ⟨w.heap.size, 4, none⟩ = some (.int .i64 g) ∧ W.cell? ⟨w.heap.size, 5, none⟩ = some (.int .i64 t) ∧ W.cell? ⟨w.heap.size, 6, none⟩ = some (.int .i64 z) ∧ W.cell? ⟨w.heap.size, 7, none⟩ = some (.int .u8 k) ∧ W.cell? ⟨w.heap.size, 8, none⟩ = some (.string l) ∧ W.cell? ⟨w.heap.size + 1, 0, none⟩ = some (.string p2) ∧ W.cell? ⟨w.heap.size + 1, 1, none⟩ = some (.string nm2) ∧ W.cell? ⟨w.heap.size + 1, 2, none⟩ = some (.int .i64 m2) ∧ W.cell? ⟨w.heap.size + 1, 3, none⟩ = some (.int .i64 u2) ∧ W.cell? ⟨w.heap.size + 1, 4, none⟩ = some (.int .i64 g2) ∧ W.cell? ⟨w.heap.size + 1, 5, none⟩ = some (.int .i64 t2) ∧ W.cell? ⟨w.heap.size + 1, 6, none⟩ = some (.int .i64 z2) ∧ W.cell? ⟨w.heap.size + 1, 7, none⟩ = some (.int .u8 k2) ∧ W.cell? ⟨w.heap.size + 1, 8, none⟩ = some (.string l2) := fun W hW => by
            obtain ⟨r1, r2⟩ := BOX.out _ hW
            exact ⟨r1.cell rfl, r1.cell rfl, r1.cell rfl, r1.cell rfl, r1.cell rfl, r1.cell rfl, r1.cell rfl, r1.cell rfl, r1.cell rfl, r2.cell rfl, r2.cell rfl, r2.cell rfl, r2.cell rfl, r2.cell rfl, r2.cell rfl, r2.cell rfl, r2.cell rfl, r2.cell rfl⟩
          have ALLS := Lib.hid alls; clear alls
          go_region_held3 (fun w' => w'.cell? ⟨w.heap.size, 0, none⟩ = some (.string p) ∧ w'.cell? ⟨w.heap.size, 1, none⟩ = some (.string nm) ∧ w'.cell? ⟨w.heap.size, 2, none⟩ = some (.int .i64 m) ∧ w'.cell? ⟨w.heap.size, 3, none⟩ = some (.int .i64 u) ∧ w'.cell? ⟨w.heap.size, 4, none⟩ = some (.int .i64 g) ∧ w'.cell? ⟨w.heap.size, 5, none⟩ = some (.int .i64 t) ∧ w'.cell? ⟨w.heap.size, 6, none⟩ = some (.int .i64 z) ∧ w'.cell? ⟨w.heap.size, 7, none⟩ = some (.int .u8 k) ∧ w'.cell? ⟨w.heap.size, 8, none⟩ = some (.string l) ∧ w'.cell? ⟨w.heap.size + 1, 0, none⟩ = some (.string p2) ∧ w'.cell? ⟨w.heap.size + 1, 1, none⟩ = some (.string nm2) ∧ w'.cell? ⟨w.heap.size + 1, 2, none⟩ = some (.int .i64 m2) ∧ w'.cell? ⟨w.heap.size + 1, 3, none⟩ = some (.int .i64 u2) ∧ w'.cell? ⟨w.heap.size + 1, 4, none⟩ = some (.int .i64 g2) ∧ w'.cell? ⟨w.heap.size + 1, 5, none⟩ = some (.int .i64 t2) ∧ w'.cell? ⟨w.heap.size + 1, 6, none⟩ = some (.int .i64 z2) ∧ w'.cell? ⟨w.heap.size + 1, 7, none⟩ = some (.int .u8 k2) ∧ w'.cell? ⟨w.heap.size + 1, 8, none⟩ = some (.string l2))
            (first | go_keep | (exact ALLS.out _ hacc))
            (first
              | (go_at_call 9; (with_reducible refine (THE.out _).mono ?_); rintro e wna ⟨rfl, hbna⟩; have aa := hacc.size; simp at aa; replace hacc := hacc.trans (Below.mono hbna (by first | omega | (show _ ≤ w2.heap.size; omega))))
              | (go_at_call 9; (with_reducible refine (THE2.out _).mono ?_); rintro e wnb ⟨rfl, hbnb⟩; have ab := hacc.size; simp at ab; replace hacc := hacc.trans (Below.mono hbnb (by first | omega | (show _ ≤ w2.heap.size; omega))))
              | (go_at_call 18; (with_reducible refine (SAM2.out _).mono ?_); rintro e wnc ⟨rfl, hbnc⟩; have ac := hacc.size; simp at ac; replace hacc := hacc.trans (Below.mono hbnc (by first | omega | (show _ ≤ w2.heap.size; omega)))))
          all_goals
            go_wp2
            go_meet
            exact ⟨rfl, hacc⟩
      case rest =>
        obtain ⟨rfl, hb5⟩ := hcut
        have ka0 : (wc).cell? ⟨w.heap.size, 0, none⟩ = some (.string p) := ((BOX.out _ hb5).1).cell rfl; have ka1 : (wc).cell? ⟨w.heap.size, 1, none⟩ = some (.string nm) := ((BOX.out _ hb5).1).cell rfl; have ka2 : (wc).cell? ⟨w.heap.size, 2, none⟩ = some (.int .i64 m) := ((BOX.out _ hb5).1).cell rfl; have ka3 : (wc).cell? ⟨w.heap.size, 3, none⟩ = some (.int .i64 u) := ((BOX.out _ hb5).1).cell rfl; have ka4 : (wc).cell? ⟨w.heap.size, 4, none⟩ = some (.int .i64 g) := ((BOX.out _ hb5).1).cell rfl; have ka5 : (wc).cell? ⟨w.heap.size, 5, none⟩ = some (.int .i64 t) := ((BOX.out _ hb5).1).cell rfl; have ka6 : (wc).cell? ⟨w.heap.size, 6, none⟩ = some (.int .i64 z) := ((BOX.out _ hb5).1).cell rfl; have ka7 : (wc).cell? ⟨w.heap.size, 7, none⟩ = some (.int .u8 k) := ((BOX.out _ hb5).1).cell rfl; have ka8 : (wc).cell? ⟨w.heap.size, 8, none⟩ = some (.string l) := ((BOX.out _ hb5).1).cell rfl
        have a5 := hb5.size
        simp at a5
        by_cases he : e2 = 0
        · subst he
          obtain ⟨k0, k1, k2, k3, _⟩ := BCK.out rfl
          unfold Hh.hdr at k1
          have par := fun (A : Option Addr) (c : Nat) (W : World) (hr : RB W W.heap.size A 512 ys) (h1 : 512 ≤ c) (h2 : c ≤ maxLen) => hparse_any A 512 c ys W hr k3 h1 h2
          rw [k0, k1] at par
          have opn : ∀ (w1 : World) (B : Nat) (v : Value), OB w1 B 5 v ys → ∃ g c, v = .slice (some ⟨g, 0, none⟩) 512 c ∧ RB w1 w1.heap.size (some ⟨g, 0, none⟩) 512 ys ∧ 512 ≤ c ∧ c ≤ maxLen := fun w1 B v h => by
            have h1 := h.obn
            rw [k2] at h1
            obtain ⟨g, c, cur, rfl, _, _, _, hc, hcm, _, _⟩ := h1.shape (by omega)
            obtain ⟨A', c', he, hr, _, _⟩ := h.rb
            rw [k2] at he hr
            cases he
            exact ⟨g, c, rfl, hr, hc, hcm⟩
          have PAR := Lib.hid par; have OPN := Lib.hid opn; have B5 := Lib.hid hb5
          clear par opn k0 k1 k2 k3 BCK BAD hb5
          go_wp2_with (first
            | (go_at_call 9; (with_reducible refine (THE.out _).mono ?_); rintro e w6 ⟨rfl, hb6⟩; have b6 := B5.out.trans (hb6.mono (by omega)); have a6 := hb6.size; have B6 := Lib.hid b6; clear hb6 b6)
            | (go_at_call 8; (with_reducible refine (LAY.out _).mono ?_); rintro e w7 ⟨v7, rfl, o7, hb7⟩; have b7 := B6.out.trans (hb7.mono (by omega)); have a7 := hb7.size; obtain ⟨gg, cc, rfl, r7, c7, m7⟩ := OPN.out _ _ _ o7; have B7 := Lib.hid b7; have R7 := Lib.hid r7; clear hb7 b7 o7 r7)
            | (go_at_call 16; (with_reducible refine (PAR.out _ _ _ R7.out c7 m7).mono ?_); rintro e w8 ⟨rfl, hb8⟩; have b8 := (B7.out.trans (hb8.mono (by omega))).alloc (by have := hb8.size; omega) (.cells #[.string p, .string nm, .int .i64 m, .int .i64 u, .int .i64 g, .int .i64 t, .int .i64 z, .int .u8 k, .string l] 34); have a8 := hb8.size; have x8 := BX.new w8 34 #[.string p, .string nm, .int .i64 m, .int .i64 u, .int .i64 g, .int .i64 t, .int .i64 z, .int .u8 k, .string l]; have kb0 : (w8.alloc (.cells #[.string p, .string nm, .int .i64 m, .int .i64 u, .int .i64 g, .int .i64 t, .int .i64 z, .int .u8 k, .string l] 34)).cell? ⟨w.heap.size, 0, none⟩ = some (.string p) := ((BOX.out _ b8).1).cell rfl; have kb1 : (w8.alloc (.cells #[.string p, .string nm, .int .i64 m, .int .i64 u, .int .i64 g, .int .i64 t, .int .i64 z, .int .u8 k, .string l] 34)).cell? ⟨w.heap.size, 1, none⟩ = some (.string nm) := ((BOX.out _ b8).1).cell rfl; have kb2 : (w8.alloc (.cells #[.string p, .string nm, .int .i64 m, .int .i64 u, .int .i64 g, .int .i64 t, .int .i64 z, .int .u8 k, .string l] 34)).cell? ⟨w.heap.size, 2, none⟩ = some (.int .i64 m) := ((BOX.out _ b8).1).cell rfl; have kb3 : (w8.alloc (.cells #[.string p, .string nm, .int .i64 m, .int .i64 u, .int .i64 g, .int .i64 t, .int .i64 z, .int .u8 k, .string l] 34)).cell? ⟨w.heap.size, 3, none⟩ = some (.int .i64 u) := ((BOX.out _ b8).1).cell rfl; have kb4 : (w8.alloc (.cells #[.string p, .string nm, .int .i64 m, .int .i64 u, .int .i64 g, .int .i64 t, .int .i64 z, .int .u8 k, .string l] 34)).cell? ⟨w.heap.size, 4, none⟩ = some (.int .i64 g) := ((BOX.out _ b8).1).cell rfl; have kb5 : (w8.alloc (.cells #[.string p, .string nm, .int .i64 m, .int .i64 u, .int .i64 g, .int .i64 t, .int .i64 z, .int .u8 k, .string l] 34)).cell? ⟨w.heap.size, 5, none⟩ = some (.int .i64 t) := ((BOX.out _ b8).1).cell rfl; have kb6 : (w8.alloc (.cells #[.string p, .string nm, .int .i64 m, .int .i64 u, .int .i64 g, .int .i64 t, .int .i64 z, .int .u8 k, .string l] 34)).cell? ⟨w.heap.size, 6, none⟩ = some (.int .i64 z) := ((BOX.out _ b8).1).cell rfl; have kb7 : (w8.alloc (.cells #[.string p, .string nm, .int .i64 m, .int .i64 u, .int .i64 g, .int .i64 t, .int .i64 z, .int .u8 k, .string l] 34)).cell? ⟨w.heap.size, 7, none⟩ = some (.int .u8 k) := ((BOX.out _ b8).1).cell rfl; have kb8 : (w8.alloc (.cells #[.string p, .string nm, .int .i64 m, .int .i64 u, .int .i64 g, .int .i64 t, .int .i64 z, .int .u8 k, .string l] 34)).cell? ⟨w.heap.size, 8, none⟩ = some (.string l) := ((BOX.out _ b8).1).cell rfl; have kc0 : (w8.alloc (.cells #[.string p, .string nm, .int .i64 m, .int .i64 u, .int .i64 g, .int .i64 t, .int .i64 z, .int .u8 k, .string l] 34)).cell? ⟨w8.heap.size, 0, none⟩ = some (.string p) := (x8).cell rfl; have kc1 : (w8.alloc (.cells #[.string p, .string nm, .int .i64 m, .int .i64 u, .int .i64 g, .int .i64 t, .int .i64 z, .int .u8 k, .string l] 34)).cell? ⟨w8.heap.size, 1, none⟩ = some (.string nm) := (x8).cell rfl; have kc2 : (w8.alloc (.cells #[.string p, .string nm, .int .i64 m, .int .i64 u, .int .i64 g, .int .i64 t, .int .i64 z, .int .u8 k, .string l] 34)).cell? ⟨w8.heap.size, 2, none⟩ = some (.int .i64 m) := (x8).cell rfl; have kc3 : (w8.alloc (.cells #[.string p, .string nm, .int .i64 m, .int .i64 u, .int .i64 g, .int .i64 t, .int .i64 z, .int .u8 k, .string l] 34)).cell? ⟨w8.heap.size, 3, none⟩ = some (.int .i64 u) := (x8).cell rfl; have kc4 : (w8.alloc (.cells #[.string p, .string nm, .int .i64 m, .int .i64 u, .int .i64 g, .int .i64 t, .int .i64 z, .int .u8 k, .string l] 34)).cell? ⟨w8.heap.size, 4, none⟩ = some (.int .i64 g) := (x8).cell rfl; have kc5 : (w8.alloc (.cells #[.string p, .string nm, .int .i64 m, .int .i64 u, .int .i64 g, .int .i64 t, .int .i64 z, .int .u8 k, .string l] 34)).cell? ⟨w8.heap.size, 5, none⟩ = some (.int .i64 t) := (x8).cell rfl; have kc6 : (w8.alloc (.cells #[.string p, .string nm, .int .i64 m, .int .i64 u, .int .i64 g, .int .i64 t, .int .i64 z, .int .u8 k, .string l] 34)).cell? ⟨w8.heap.size, 6, none⟩ = some (.int .i64 z) := (x8).cell rfl; have kc7 : (w8.alloc (.cells #[.string p, .string nm, .int .i64 m, .int .i64 u, .int .i64 g, .int .i64 t, .int .i64 z, .int .u8 k, .string l] 34)).cell? ⟨w8.heap.size, 7, none⟩ = some (.int .u8 k) := (x8).cell rfl; have kc8 : (w8.alloc (.cells #[.string p, .string nm, .int .i64 m, .int .i64 u, .int .i64 g, .int .i64 t, .int .i64 z, .int .u8 k, .string l] 34)).cell? ⟨w8.heap.size, 8, none⟩ = some (.string l) := (x8).cell rfl; have B8 := Lib.hid b8; have X8 := Lib.hid x8; clear hb8 b8 x8))
          go_region_law (first
            | (go_simp; go_at_call 9; (with_reducible refine (THE.out _).mono ?_); rintro e w9 ⟨rfl, hb9⟩; have b9 := B8.out.trans ((below_undrew2 hb9).mono (by show _ ≤ (w8.alloc (.cells #[.string p, .string nm, .int .i64 m, .int .i64 u, .int .i64 g, .int .i64 t, .int .i64 z, .int .u8 k, .string l] 34)).heap.size; simp; omega)); have a9 := hb9.size; have x9 := X8.out.later (below_undrew2 hb9); have kd0 : (w9).cell? ⟨w.heap.size, 0, none⟩ = some (.string p) := ((BOX.out _ b9).1).cell rfl; have kd1 : (w9).cell? ⟨w.heap.size, 1, none⟩ = some (.string nm) := ((BOX.out _ b9).1).cell rfl; have kd2 : (w9).cell? ⟨w.heap.size, 2, none⟩ = some (.int .i64 m) := ((BOX.out _ b9).1).cell rfl; have kd3 : (w9).cell? ⟨w.heap.size, 3, none⟩ = some (.int .i64 u) := ((BOX.out _ b9).1).cell rfl; have kd4 : (w9).cell? ⟨w.heap.size, 4, none⟩ = some (.int .i64 g) := ((BOX.out _ b9).1).cell rfl; have kd5 : (w9).cell? ⟨w.heap.size, 5, none⟩ = some (.int .i64 t) := ((BOX.out _ b9).1).cell rfl; have kd6 : (w9).cell? ⟨w.heap.size, 6, none⟩ = some (.int .i64 z) := ((BOX.out _ b9).1).cell rfl; have kd7 : (w9).cell? ⟨w.heap.size, 7, none⟩ = some (.int .u8 k) := ((BOX.out _ b9).1).cell rfl; have kd8 : (w9).cell? ⟨w.heap.size, 8, none⟩ = some (.string l) := ((BOX.out _ b9).1).cell rfl; have ke0 : (w9).cell? ⟨w8.heap.size, 0, none⟩ = some (.string p) := (x9).cell rfl; have ke1 : (w9).cell? ⟨w8.heap.size, 1, none⟩ = some (.string nm) := (x9).cell rfl; have ke2 : (w9).cell? ⟨w8.heap.size, 2, none⟩ = some (.int .i64 m) := (x9).cell rfl; have ke3 : (w9).cell? ⟨w8.heap.size, 3, none⟩ = some (.int .i64 u) := (x9).cell rfl; have ke4 : (w9).cell? ⟨w8.heap.size, 4, none⟩ = some (.int .i64 g) := (x9).cell rfl; have ke5 : (w9).cell? ⟨w8.heap.size, 5, none⟩ = some (.int .i64 t) := (x9).cell rfl; have ke6 : (w9).cell? ⟨w8.heap.size, 6, none⟩ = some (.int .i64 z) := (x9).cell rfl; have ke7 : (w9).cell? ⟨w8.heap.size, 7, none⟩ = some (.int .u8 k) := (x9).cell rfl; have ke8 : (w9).cell? ⟨w8.heap.size, 8, none⟩ = some (.string l) := (x9).cell rfl; have B9 := Lib.hid b9; clear hb9 b9 x9)
            | (go_simp; go_at_call 18; (with_reducible refine (SAMS.out _).mono ?_); rintro e w10 ⟨rfl, hb10⟩; have s9 := B9.out.size; simp at s9; have b10 := B9.out.trans (hb10.mono (by omega)); have B10 := Lib.hid b10; clear hb10 b10)
            | (go_simp; go_at_call 7; (with_reducible refine (alive5_any _).mono ?_); rintro e w11 ⟨rfl, hb11⟩))
          all_goals
            go_wp2
            go_ret
            refine ⟨ret_bool (by simp), ?_⟩
            have s10 := B10.out.size
            simp at s10
            exact STT.out.trans (B10.out.mono (by omega)) |>.trans (hb11.mono (by omega))
        · have hy : ys = [] := BAD.out he
          have hgg : (e2 != 0) = true := by simp [he]
          subst hy
          have B5 := Lib.hid hb5
          clear he BCK BAD hb5
          go_wp2_with (first
            | (go_at_call 9; (with_reducible refine (THE.out _).mono ?_); rintro e w6 ⟨rfl, hb6⟩; have b6 := B5.out.trans (hb6.mono (by omega)); have a6 := hb6.size; have B6 := Lib.hid b6; clear hb6 b6)
            | (go_at_call 8; (with_reducible refine (LAY.out _).mono ?_); rintro e w7 ⟨v7, rfl, o7, hb7⟩; have b7 := B6.out.trans (hb7.mono (by omega)); have a7 := hb7.size; obtain ⟨A7, c7, rfl, _, _, _⟩ := o7.rb; have B7 := Lib.hid b7; clear hb7 b7 o7)
            | (go_at_call 7; (with_reducible refine (alive5_any _).mono ?_); rintro e w8 ⟨rfl, hb8⟩))
          go_ret
          refine ⟨ret_bool (by simp), ?_⟩
          exact STT.out.trans (B7.out.mono (by omega)) |>.trans (hb8.mono (by omega))
end Go.Proofs.YtfkhemlaohkhkaaDoor
