/- THE WALK OF 'DiskNobody'. -/
import Derived.Test.YtbianfjennnofaaGreatDoorG14k
namespace Go.Proofs.YtbianfjennnofaaGreatDoor
set_option linter.unusedVariables false
open Go Go.RowKit Go.Maps
set_option maxRecDepth 100000
set_option maxHeartbeats 8000000
open Nt (Dd)
theorem nobody14_any (kd : Int) (p q : ByteArray) (a b c d : Int) (A : Option Addr) (n k : Nat) (xs : List Int) (keep : Int) (w : World) :
    Calls Tryz.prog 6 #[.agg #[.int .i64 kd, .string p, .string q, .int .i64 a, .int .i64 b, .int .i64 c, .int .i64 d, .slice A n k], .int .i64 keep] w fun e w' => e = .returned (.bool true) ∧ Below w.heap.size w w' := by
  have hal := Lib.hid (fun W => alive14_any W)
  have b0 := bthen (bthen (below_new w (.cells (DdC ⟨kd, p, q, a, b, c, d, A, n, k, xs⟩) 60)) (below_new _ (.cells DkZ 83))) (below_new _ (.cells #[.pointer none, .pointer (some ⟨w.heap.size + 1, 0, none⟩)] 52))
  have x1 := ((BX.new w 60 (DdC ⟨kd, p, q, a, b, c, d, A, n, k, xs⟩)).alloc (.cells DkZ 83)).alloc (.cells #[.pointer none, .pointer (some ⟨w.heap.size + 1, 0, none⟩)] 52)
  have x2 := (BX.new (w.alloc (.cells (DdC ⟨kd, p, q, a, b, c, d, A, n, k, xs⟩) 60)) 83 DkZ).alloc (.cells #[.pointer none, .pointer (some ⟨w.heap.size + 1, 0, none⟩)] 52)
  have x3 := BX.new ((w.alloc (.cells (DdC ⟨kd, p, q, a, b, c, d, A, n, k, xs⟩) 60)).alloc (.cells DkZ 83)) 52 #[.pointer none, .pointer (some ⟨w.heap.size + 1, 0, none⟩)]
  simp only [World.size_alloc] at x2 x3
  obtain ⟨W0, hW0⟩ : ∃ W0, ((w.alloc (.cells (DdC ⟨kd, p, q, a, b, c, d, A, n, k, xs⟩) 60)).alloc (.cells DkZ 83)).alloc (.cells #[.pointer none, .pointer (some ⟨w.heap.size + 1, 0, none⟩)] 52) = W0 := ⟨_, rfl⟩
  rw [hW0] at b0 x1 x2 x3
  have B0 := Lib.hid b0
  have X2 := Lib.hid x2
  have X3 := Lib.hid x3
  have CS := Lib.hid (fun W (h : Below W0.heap.size W0 W) => show W.cell? ⟨w.heap.size, 0, none⟩ = some (.int .i64 kd) ∧ W.cell? ⟨w.heap.size, 1, none⟩ = some (.string p) ∧ W.cell? ⟨w.heap.size, 2, none⟩ = some (.string q) ∧ W.cell? ⟨w.heap.size, 3, none⟩ = some (.int .i64 a) ∧ W.cell? ⟨w.heap.size, 4, none⟩ = some (.int .i64 b) ∧ W.cell? ⟨w.heap.size, 5, none⟩ = some (.int .i64 c) ∧ W.cell? ⟨w.heap.size, 6, none⟩ = some (.int .i64 d) ∧ W.cell? ⟨w.heap.size, 7, none⟩ = some (.slice A n k) from
    ⟨(x1.later h).cell rfl, (x1.later h).cell rfl, (x1.later h).cell rfl, (x1.later h).cell rfl, (x1.later h).cell rfl, (x1.later h).cell rfl, (x1.later h).cell rfl, (x1.later h).cell rfl⟩)
  clear b0 x1 x2 x3
  go_enter Tryz.func6, Tryz.ntmps6
  go_wp2
  clear hW0
  go_loopw [11] (fun i W => ∃ k : Nat, k ≤ 2 ∧ i = .int .i64 k ∧ Hid (Below W0.heap.size W0 W)) (fun i _ => 2 - (intOf i).toNat)
  case atStart => exact ⟨0, by omega, rfl, Below.refl _ _⟩
  case round =>
    obtain ⟨m, hm, rfl, HB⟩ := hrel
    by_cases hlt : m < 2
    · have hlt' : (m : Int) < 2 := by omega
      obtain ⟨V, hV, hN⟩ : ∃ V, wr.cell? ⟨w.heap.size + 1 + 1, m, none⟩ = some V ∧ NobD wr V := by
        rcases m with _ | _ | m
        · exact ⟨_, (X3.out.later HB.out).cell rfl, .inl rfl⟩
        · exact ⟨_, (X3.out.later HB.out).cell rfl, .inr ⟨_, rfl, X2.out.later HB.out⟩⟩
        · omega
      have HN := Lib.hid hN
      have BT := Lib.hid (fun W (h : Below wr.heap.size wr W) => HB.out.trans (h.mono HB.out.size))
      obtain ⟨q0, q1, q2, q3, q4, q5, q6, q7⟩ := CS.out wr HB.out
      clear hN
      go_wp2_with (first
        | (go_at_call 29; (with_reducible refine (nob_syncs (HN.out.later b4.out)).mono ?_); rintro e w9 ⟨rfl, rfl⟩)
        | (go_at_call 24; (with_reducible refine (nob_waits (HN.out.later b4.out)).mono ?_); rintro e w8 ⟨rfl, rfl⟩)
        | (go_at_call 28; (with_reducible refine (nob_durable (HN.out.later b4.out)).mono ?_); rintro e w7 ⟨rfl, rfl⟩)
        | (go_at_call 26; (with_reducible refine (nob_view (HN.out.later b4.out)).mono ?_); rintro e w6 ⟨rfl, rfl⟩)
        | (go_at_call 34; (with_reducible refine (nob_do (HN.out.later b3.out) ⟨kd, p, q, a, b, c, d, A, n, k, xs⟩).mono ?_); rintro e w5 ⟨rfl, hb5⟩; have b4 := Lib.hid (bthen b3.out hb5))
        | (go_at_call 32; (with_reducible refine (theirs14_any ⟨kd, p, q, a, b, c, d, A, n, k, xs⟩ wr).mono ?_); rintro e w4 ⟨rfl, hb4⟩; have b3 := Lib.hid hb4)
        | (go_at_call 30; (with_reducible refine (nob_dark HN.out).mono ?_); rintro e w4 ⟨rfl, rfl⟩)
        | (go_at_call 38; (with_reducible refine (nob_fuse HN.out keep).mono ?_); rintro e w3 ⟨rfl, rfl⟩)
        | (go_at_call 36; (with_reducible refine (nob_crash HN.out keep keep).mono ?_); rintro e w2 ⟨rfl, rfl⟩)
        | (go_at_call 35; (with_reducible refine (nob_sync HN.out).mono ?_); rintro e w1 ⟨rfl, rfl⟩))
      go_roundw
      case rel => exact ⟨m + 1, by omega, by go_num, BT.out _ b4.out⟩
      case measure => simp [intOf]; omega
    · have hlt' : ¬ (m : Int) < 2 := by omega
      go_wp2_with (go_at_call 21; refine (hal.out _).mono ?_; rintro e w1 ⟨rfl, hb1⟩)
      go_ret
      exact ⟨rfl, bthen (bthen B0.out HB.out) hb1⟩
theorem disknobody_walk (kd : Int) (p q : ByteArray) (a b c d : Int) (A : Option Addr) (n k : Nat) (xs : List Int) (keep : Int) (w : World) (_h0 : -9223372036854775808 ≤ kd ∧ kd ≤ 9223372036854775807) (_h1 : p.size ≤ maxLen) (_h2 : q.size ≤ maxLen) (_h3 : -9223372036854775808 ≤ a ∧ a ≤ 9223372036854775807) (_h4 : -9223372036854775808 ≤ b ∧ b ≤ 9223372036854775807) (_h5 : -9223372036854775808 ≤ c ∧ c ≤ 9223372036854775807) (_h6 : -9223372036854775808 ≤ d ∧ d ≤ 9223372036854775807) (_h7 : RB w w.heap.size A n xs) (_h8 : Byt xs) (_h9 : n ≤ k) (_ha : k ≤ maxLen) :
    Calls Tryz.prog 6 #[.agg #[.int .i64 kd, .string p, .string q, .int .i64 a, .int .i64 b, .int .i64 c, .int .i64 d, .slice A n k], .int .i64 keep] w fun e w' => e = .returned (.bool true) ∧ Below w.heap.size w w' := nobody14_any kd p q a b c d A n k xs keep w
end Go.Proofs.YtbianfjennnofaaGreatDoor
