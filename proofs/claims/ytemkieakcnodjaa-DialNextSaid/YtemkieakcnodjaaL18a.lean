/- THE LAWS OF LAYER 18: alive; DialTurns. -/
import Derived.Test.YtemkieakcnodjaaR18a
namespace Go.Proofs.Ytemkieakcnodjaa
open Go.RowKit
set_option maxHeartbeats 1600000
set_option maxRecDepth 100000
set_option linter.unusedVariables false
theorem alive18_any (w : World) :
    Calls Try.prog 9 #[] w fun e w' => e = .returned (.bool true) ∧ Below w.heap.size w w' := by
  have TN := Lib.hid (show ∀ W, Calls Try.prog 7 #[.int .u32 3] W fun e w' => e = .returned (.complex .f64 0 13830554455654793216) ∧ Below W.heap.size W w' from fun W => turn_any 3 W)
  have QN := Lib.hid (show ∀ W, Calls Try.prog 8 #[.complex .f64 0 13830554455654793216] W fun e w' => e = .returned (.tuple #[.int .i64 3, .bool true]) ∧ Below W.heap.size W w' from fun W => by
    have h := quarter_any 0 13830554455654793216 W
    rw [show Dl.quo 0 13830554455654793216 = 3 by kernel_rfl, show Dl.isq 0 13830554455654793216 = true by kernel_rfl] at h
    exact h)
  have MK := Lib.hid (show ∀ W, Calls Try.prog 16 #[.agg #[.int .u32 1, .int .u32 2]] W fun e w' => e = .returned (.int .u8 3) ∧ Below W.heap.size W w' from fun W => mark_any 1 2 W)
  have NW := Lib.hid (show ∀ W, Calls Try.prog 14 #[.agg #[.int .u32 2, .int .u32 0], .agg #[.int .u32 1, .int .u32 9]] W fun e w' => e = .returned (.bool true) ∧ Below W.heap.size W w' from fun W => newer_any 2 0 1 9 W)
  have CK := Lib.hid (show ∀ W, Calls Try.prog 18 #[.agg #[.int .u32 1, .int .u32 0], .agg #[.int .u32 1, .int .u32 0], .int .u8 0] W fun e w' => e = .returned (.int .i64 16) ∧ Below W.heap.size W w' from fun W => check_any 1 0 1 0 0 W)
  have o0 : (FloatKind.f64.format.order 0 0 == some .eq) = true := by kernel_rfl
  have o1 : (FloatKind.f64.format.order 13830554455654793216 13830554455654793216 == some .eq) = true := by kernel_rfl
  have hacc := Below.refl w.heap.size w
  go_enter Try.func9, Try.ntmps9
  go_wp2_with (first
    | (go_at_call 7; (with_reducible refine (TN.out _).mono ?_); rintro e w1 ⟨rfl, hb⟩; replace hacc := bthen' hacc hb; clear hb)
    | (go_at_call 8; (with_reducible refine (QN.out _).mono ?_); rintro e w1 ⟨rfl, hb⟩; replace hacc := bthen' hacc hb; clear hb)
    | (go_at_call 16; (with_reducible refine (MK.out _).mono ?_); rintro e w1 ⟨rfl, hb⟩; replace hacc := bthen' hacc hb; clear hb)
    | (go_at_call 14; (with_reducible refine (NW.out _).mono ?_); rintro e w1 ⟨rfl, hb⟩; replace hacc := bthen' hacc hb; clear hb)
    | (go_at_call 18; (with_reducible refine (CK.out _).mono ?_); rintro e w1 ⟨rfl, hb⟩; replace hacc := bthen' hacc hb; clear hb))
  go_ret
  exact ⟨rfl, hacc⟩
namespace Dl
/-- What the law finds of its own among the first j. -/
def wj (a b : Int) : Nat → Int
  | 0 => 0
  | j + 1 => if xp j = a ∧ yp j = b then j else wj a b j
def ij (a b : Int) : Nat → Bool
  | 0 => false
  | j + 1 => if xp j = a ∧ yp j = b then true else ij a b j
theorem fl_all : ∀ i : Fin 256, ∀ k : Fin 4, ((FloatKind.f64.format.order (floatOfInt .f64 ((i : Nat) - 128 : Int)) (re k) == some .eq) = (xp k == ((i : Nat) - 128 : Int))) ∧ ((FloatKind.f64.format.order (floatOfInt .f64 ((i : Nat) - 128 : Int)) (im k) == some .eq) = (yp k == ((i : Nat) - 128 : Int))) := by decide +kernel
theorem hit_of (a b : Int) (a0 : -128 ≤ a) (a1 : a ≤ 127) (b0 : -128 ≤ b) (b1 : b ≤ 127) (k : Nat) (hk : k < 4) : hit (floatOfInt .f64 a) (floatOfInt .f64 b) k = (xp k == a && yp k == b) := by
  have h1 := (fl_all ⟨(a + 128).toNat, by omega⟩ ⟨k, hk⟩).1
  have h2 := (fl_all ⟨(b + 128).toNat, by omega⟩ ⟨k, hk⟩).2
  simp only at h1 h2
  rw [show (((a + 128).toNat : Nat) : Int) - 128 = a by omega] at h1
  rw [show (((b + 128).toNat : Nat) : Int) - 128 = b by omega] at h2
  unfold hit
  rw [h1, h2]
theorem quo_of (a b : Int) (a0 : -128 ≤ a) (a1 : a ≤ 127) (b0 : -128 ≤ b) (b1 : b ≤ 127) : quo (floatOfInt .f64 a) (floatOfInt .f64 b) = wj a b 4 ∧ isq (floatOfInt .f64 a) (floatOfInt .f64 b) = ij a b 4 := by
  have h := hit_of a b a0 a1 b0 b1
  unfold quo isq
  rw [h 0 (by omega), h 1 (by omega), h 2 (by omega), h 3 (by omega)]
  simp only [wj, ij, xp, yp]
  clear h a0 a1 b0 b1
  have ha : a = 0 ∨ a = 1 ∨ a = -1 ∨ (¬ 0 = a ∧ ¬ 1 = a ∧ ¬ -1 = a) := by omega
  have hb : b = 0 ∨ b = 1 ∨ b = -1 ∨ (¬ 0 = b ∧ ¬ 1 = b ∧ ¬ -1 = b) := by omega
  rcases ha with rfl | rfl | rfl | ⟨p0, p1, p2⟩ <;> rcases hb with rfl | rfl | rfl | ⟨q0, q1, q2⟩ <;> first | exact ⟨by decide, by decide⟩ | simp [p0, p1, p2, q0, q1, q2] | simp [q0, q1, q2] | simp [p0, p1, p2]
theorem same_of (k : Nat) (hk : k < 4) : (FloatKind.f64.format.order (re k) (floatOfInt .f64 (xp k)) != some .eq) = false ∧ (FloatKind.f64.format.order (im k) (floatOfInt .f64 (yp k)) != some .eq) = false ∧ quo (re k) (im k) = k ∧ isq (re k) (im k) = true := by
  rcases four hk with rfl | rfl | rfl | rfl <;> exact ⟨by kernel_rfl, by kernel_rfl, by kernel_rfl, by kernel_rfl⟩
end Dl
theorem dialTurns_walk (n a b : Int) (w : World) (n0 : 0 ≤ n) (n1 : n ≤ 4294967295) (a0 : -128 ≤ a) (a1 : a ≤ 127) (b0 : -128 ≤ b) (b1 : b ≤ 127) :
    Calls Try.prog 3 #[.int .u32 n, .int .i8 a, .int .i8 b] w fun e w' => e = .returned (.bool true) ∧ Below w.heap.size w w' := by
  obtain ⟨n, rfl⟩ : ∃ z : Nat, n = (z : Int) := ⟨n.toNat, by omega⟩
  have al := Lib.hid alive18_any
  have PN := Lib.hid (parts_any n)
  have TN := Lib.hid (turn_any n)
  have PJ := Lib.hid (fun (j : Nat) (hj : j < 4) => show ∀ W, Calls Try.prog 6 #[.int .u32 j] W fun e w' => e = .returned (.tuple #[.int .i64 (Dl.xp j), .int .i64 (Dl.yp j)]) ∧ W = w' from fun W => by
    have h := parts_any j W
    rw [Nat.mod_eq_of_lt hj] at h
    exact h)
  have hk : n % 4 < 4 := Nat.mod_lt _ (by decide)
  obtain ⟨s1, s2, s3, s4⟩ := Dl.same_of (n % 4) hk
  have QZ := Lib.hid (fun W => quarter_any (Dl.re (n % 4)) (Dl.im (n % 4)) W)
  have QA := Lib.hid (fun W => quarter_any (floatOfInt .f64 a) (floatOfInt .f64 b) W)
  rw [s3, s4] at QZ
  rw [(Dl.quo_of a b a0 a1 b0 b1).1, (Dl.quo_of a b a0 a1 b0 b1).2] at QA
  have hm : (n : Int) % 4 = ((n % 4 : Nat) : Int) := rfl
  clear s3 s4
  generalize Dl.re (n % 4) = zr at *
  generalize Dl.im (n % 4) = zi at *
  generalize Dl.xp (n % 4) = zx at *
  generalize Dl.yp (n % 4) = zy at *
  generalize n % 4 = k at *
  have hacc := Below.refl w.heap.size w
  go_enter Try.func3, Try.ntmps3
  go_wp2_with (first
    | (go_at_call 6; (with_reducible refine (PN.out _).mono ?_); rintro e w1 ⟨rfl, rfl⟩)
    | (go_at_call 7; (with_reducible refine (TN.out _).mono ?_); rintro e w1 ⟨rfl, hb⟩; replace hacc := bthen' hacc hb; clear hb))
  have W1 := Lib.hid hacc
  clear hacc s1 s2 PN TN
  go_loop [10, 11, 12] (fun wa is i => ∃ j : Nat, j ≤ 4 ∧ wa = .int .i64 (Dl.wj a b j) ∧ is = .bool (Dl.ij a b j) ∧ i = .int .u32 j) (fun _ _ i => 4 - (intOf i).toNat)
  case atStart => exact ⟨0, by omega, rfl, rfl, rfl⟩
  case round =>
    obtain ⟨j, hj, rfl, rfl, rfl⟩ := hrel
    by_cases h : j < 4
    · have h' : (j : Int) < 4 := by omega
      have PK := Lib.hid (PJ.out j h)
      by_cases hh : Dl.xp j = a ∧ Dl.yp j = b
      · have E1 : Hid (Dl.wj a b (j + 1) = j) := show _ = _ by simp [Dl.wj, hh]
        have E2 : Hid (Dl.ij a b (j + 1) = true) := show _ = _ by simp [Dl.ij, hh]
        obtain ⟨x1, x2⟩ := hh
        generalize Dl.xp j = xj at *
        generalize Dl.yp j = yj at *
        generalize Dl.wj a b j = w0 at *
        generalize Dl.ij a b j = v0 at *
        go_wp2_with (go_at_call 6; (with_reducible refine (PK.out _).mono ?_); rintro e w1 ⟨rfl, rfl⟩)
        all_goals go_round
        case rel => exact ⟨j + 1, by omega, by rw [E1.out], by rw [E2.out], by go_num⟩
        case measure => simp [intOf]; omega
      · have E1 : Hid (Dl.wj a b (j + 1) = Dl.wj a b j) := show _ = _ by simp only [Dl.wj, if_neg hh]
        have E2 : Hid (Dl.ij a b (j + 1) = Dl.ij a b j) := show _ = _ by simp only [Dl.ij, if_neg hh]
        have hh2 : (Dl.xp j == a && Dl.yp j == b) = false := by simpa using hh
        generalize Dl.xp j = xj at *
        generalize Dl.yp j = yj at *
        go_wp2_with (go_at_call 6; (with_reducible refine (PK.out _).mono ?_); rintro e w1 ⟨rfl, rfl⟩)
        all_goals go_round
        all_goals first
          | exact ⟨j + 1, by omega, by rw [E1.out], by rw [E2.out], by go_num⟩
          | (simp [intOf]; omega)
    · obtain rfl : j = 4 := by omega
      have hacc := W1.out
      go_wp2_with (first
        | (go_at_call 8; (with_reducible refine (QA.out _).mono ?_); rintro e w1 ⟨rfl, hb⟩; replace hacc := bthen' hacc hb; clear hb)
        | (go_at_call 8; (with_reducible refine (QZ.out _).mono ?_); rintro e w1 ⟨rfl, hb⟩; replace hacc := bthen' hacc hb; clear hb)
        | (go_at_call 9; (with_reducible refine (al.out _).mono ?_); rintro e w1 ⟨rfl, hb⟩; replace hacc := bthen' hacc hb; clear hb))
      all_goals (go_ret; exact ⟨rfl, hacc⟩)
end Go.Proofs.Ytemkieakcnodjaa
