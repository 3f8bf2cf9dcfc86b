/- THE WALK OF 'NodeNobody'. -/
import Derived.Test.YtihaeggeeeihnaaDoorG13w
namespace Go.Proofs.YtihaeggeeeihnaaDoor
set_option linter.unusedVariables false
open Go Go.RowKit Go.Maps
set_option maxRecDepth 100000
set_option maxHeartbeats 8000000
theorem nobody_walk (kd : Int) (p q : ByteArray) (a b c d : Int) (A : Option Addr) (n k : Nat) (w : World) :
    Calls Tryd.prog 5 #[.agg (StC kd p q a b c d A n k)] w fun e w' => e = .returned (.bool true) ∧ Below w.heap.size w w' := by
  have hal := alive_any
  have b0 := bthen (bthen (below_new w (.cells (StC kd p q a b c d A n k) 27)) (below_new _ (.cells #[.pointer none, .int .i64 0, .int .i64 0, .int .i64 0, .int .i64 0] 49))) (below_new _ (.cells #[.pointer none, .pointer (some ⟨w.heap.size + 1, 0, none⟩)] 28))
  have x1 := ((BX.new w 27 (StC kd p q a b c d A n k)).alloc (.cells #[.pointer none, .int .i64 0, .int .i64 0, .int .i64 0, .int .i64 0] 49)).alloc (.cells #[.pointer none, .pointer (some ⟨w.heap.size + 1, 0, none⟩)] 28)
  have x2 := (BX.new (w.alloc (.cells (StC kd p q a b c d A n k) 27)) 49 #[.pointer none, .int .i64 0, .int .i64 0, .int .i64 0, .int .i64 0]).alloc (.cells #[.pointer none, .pointer (some ⟨w.heap.size + 1, 0, none⟩)] 28)
  have x3 := BX.new ((w.alloc (.cells (StC kd p q a b c d A n k) 27)).alloc (.cells #[.pointer none, .int .i64 0, .int .i64 0, .int .i64 0, .int .i64 0] 49)) 28 #[.pointer none, .pointer (some ⟨w.heap.size + 1, 0, none⟩)]
  simp only [World.size_alloc] at x2 x3
  obtain ⟨W0, hW0⟩ : ∃ W0, ((w.alloc (.cells (StC kd p q a b c d A n k) 27)).alloc (.cells #[.pointer none, .int .i64 0, .int .i64 0, .int .i64 0, .int .i64 0] 49)).alloc (.cells #[.pointer none, .pointer (some ⟨w.heap.size + 1, 0, none⟩)] 28) = W0 := ⟨_, rfl⟩
  rw [hW0] at b0 x1 x2 x3
  have B0 := Lib.hid b0
  have X2 := Lib.hid x2
  have X3 := Lib.hid x3
  have CS := Lib.hid (fun W (h : Below W0.heap.size W0 W) => show W.cell? ⟨w.heap.size, 0, none⟩ = some (.int .u8 kd) ∧ W.cell? ⟨w.heap.size, 1, none⟩ = some (.string p) ∧ W.cell? ⟨w.heap.size, 2, none⟩ = some (.string q) ∧ W.cell? ⟨w.heap.size, 3, none⟩ = some (.int .i64 a) ∧ W.cell? ⟨w.heap.size, 4, none⟩ = some (.int .i64 b) ∧ W.cell? ⟨w.heap.size, 5, none⟩ = some (.int .i64 c) ∧ W.cell? ⟨w.heap.size, 6, none⟩ = some (.int .i64 d) ∧ W.cell? ⟨w.heap.size, 7, none⟩ = some (.slice A n k) from
    ⟨(x1.later h).cell rfl, (x1.later h).cell rfl, (x1.later h).cell rfl, (x1.later h).cell rfl, (x1.later h).cell rfl, (x1.later h).cell rfl, (x1.later h).cell rfl, (x1.later h).cell rfl⟩)
  clear b0 x1 x2 x3
  go_enter Tryd.func5, Tryd.ntmps5
  go_wp2
  clear hW0
  go_loopw [15] (fun i W => ∃ k : Nat, k ≤ 2 ∧ i = .int .i64 k ∧ Hid (Below W0.heap.size W0 W)) (fun i _ => 2 - (intOf i).toNat)
  case atStart => exact ⟨0, by omega, rfl, Below.refl _ _⟩
  case round =>
    obtain ⟨m, hm, rfl, HB⟩ := hrel
    by_cases hlt : m < 2
    · have hlt' : (m : Int) < 2 := by omega
      obtain ⟨V, hV, hN⟩ : ∃ V, wr.cell? ⟨w.heap.size + 1 + 1, m, none⟩ = some V ∧ Nob wr V := by
        rcases m with _ | _ | m
        · exact ⟨_, (X3.out.later HB.out).cell rfl, Nob.nil wr⟩
        · exact ⟨_, (X3.out.later HB.out).cell rfl, Nob.zero (X2.out.later HB.out) rfl⟩
        · omega
      have HN := Lib.hid hN
      have BT := Lib.hid (fun W (h : Below wr.heap.size wr W) => HB.out.trans (h.mono HB.out.size))
      obtain ⟨q0, q1, q2, q3, q4, q5, q6, q7⟩ := CS.out wr HB.out
      clear hN
      go_wp2_with (first
        | (go_at_call 13; refine (clone_nob (HN.out.later b6.out)).mono ?_; rintro e w7 ⟨rfl, hb7⟩; have b7 := Lib.hid (bthen b6.out hb7))
        | (go_at_call 17; refine (same_nob (HN.out.later b5.out) p p).mono ?_; rintro e w6 ⟨rfl, hb6⟩; have b6 := Lib.hid (bthen b5.out hb6))
        | (go_at_call 12; refine (act_nob (HN.out.later b4.out) kd p q a b c d A n k).mono ?_; rintro e w5 ⟨rfl, hb5⟩; have b5 := Lib.hid (bthen b4.out hb5); have z0 : w5.cell? ⟨w1.heap.size, 0, none⟩ = some (.int .i64 0) := (HZ.out.later (bthen (bthen hb3 hb4) hb5)).cell rfl; obtain ⟨q0, q1, q2, q3, q4, q5, q6, q7⟩ := CS.out w5 (BT.out _ b5.out))
        | (go_at_call 10; refine (used_nob (HN.out.later b3.out)).mono ?_; rintro e w4 ⟨rfl, hb4⟩; have b4 := Lib.hid (bthen b3.out hb4); obtain ⟨q0, q1, q2, q3, q4, q5, q6, q7⟩ := CS.out w4 (BT.out _ b4.out))
        | (go_at_call 15; refine (list_nob (HN.out.later b2.out) p).mono ?_; rintro e w3 ⟨rfl, hb3⟩; have b3 := Lib.hid (bthen b2.out hb3))
        | (go_at_call 16; refine (get_nob HN.out p).mono ?_; rintro e w1 ⟨rfl, hb1⟩; have b2 := Lib.hid (bthen hb1 (below_new w1 (.cells #[.int .i64 0, .int .i64 0, .int .i64 0, .int .i64 0, .int .i64 0, .string ⟨#[]⟩, .slice none 0 0, .int .i64 0] 53))); have HZ := Lib.hid (BX.new w1 53 #[.int .i64 0, .int .i64 0, .int .i64 0, .int .i64 0, .int .i64 0, .string ⟨#[]⟩, .slice none 0 0, .int .i64 0]); obtain ⟨q0, q1, q2, q3, q4, q5, q6, q7⟩ := CS.out _ (BT.out _ b2.out)))
      go_roundw
      case rel => exact ⟨m + 1, by omega, by go_num, BT.out _ b7.out⟩
      case measure => simp [intOf]; omega
    · have hlt' : ¬ (m : Int) < 2 := by omega
      go_wp2_with (go_at_call 8; refine (hal _).mono ?_; rintro e w1 ⟨rfl, hb1⟩)
      go_ret
      exact ⟨rfl, bthen (bthen B0.out HB.out) hb1⟩
theorem nodenobody_walk (kd : Int) (p q : ByteArray) (a b c d : Int) (A : Option Addr) (n k : Nat) (xs : List Int) (w : World) (_h0 : 0 ≤ kd ∧ kd ≤ 255) (_h1 : p.size ≤ maxLen) (_h2 : q.size ≤ maxLen) (_h3 : -9223372036854775808 ≤ a ∧ a ≤ 9223372036854775807) (_h4 : -9223372036854775808 ≤ b ∧ b ≤ 9223372036854775807) (_h5 : -9223372036854775808 ≤ c ∧ c ≤ 9223372036854775807) (_h6 : -9223372036854775808 ≤ d ∧ d ≤ 9223372036854775807) (_h7 : RB w w.heap.size A n xs) (_h8 : Byt xs) (_h9 : n ≤ k) (_ha : k ≤ maxLen) :
    Calls Tryd.prog 5 #[.agg (StC kd p q a b c d A n k)] w fun e w' => e = .returned (.bool true) ∧ Below w.heap.size w w' := nobody_walk kd p q a b c d A n k w
end Go.Proofs.YtihaeggeeeihnaaDoor
