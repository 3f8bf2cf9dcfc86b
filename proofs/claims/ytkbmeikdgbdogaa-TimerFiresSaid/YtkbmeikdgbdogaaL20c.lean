/- THE LAWS OF LAYER 20: TimerFires. -/
import Derived.Test.YtkbmeikdgbdogaaL20a
namespace Go.Proofs.Ytkbmeikdgbdogaa
open Go Go.RowKit
set_option maxHeartbeats 4000000
set_option maxRecDepth 100000
set_option linter.unusedVariables false
theorem timerFires_walk (wt n : Int) (w : World) (h0 : 0 ≤ n) (h1 : n ≤ 255) :
    Calls Try.prog 5 #[.int .i64 wt, .int .u8 n] w fun e w' => e = .returned (.bool true) ∧ Below w.heap.size w w' := by
  have AL := Lib.hid alive20_any
  have ST := Lib.hid (fun W => start_any wt W)
  cases hw : Tm.wt wt with
  | false =>
    rw [show Tm.start wt = (Tm.nul, 1) by simp [Tm.start, hw]] at ST
    simp only [Tm.nul] at ST
    clear hw
    go_enter Try.func5, Try.ntmps5
    go_wp2_with (first
      | (go_at_call 11; (with_reducible refine (AL.out _).mono ?_); rintro e w5 ⟨rfl, hb⟩; have H5 := Lib.hid (bthen20 H1.out hb); clear hb)
      | (go_at_call 12; (with_reducible refine (ST.out _).mono ?_); rintro e w1 ⟨rfl, hb⟩; have B1 := Lib.hid (BX.new w1 24 #[.bool false, .int .i64 0, .int .i64 0]); have H1 := Lib.hid (hb.alloc hb.size (.cells #[.bool false, .int .i64 0, .int .i64 0] 24)); clear hb; obtain ⟨p0, p1, p2, _⟩ := B1.out.three))
    all_goals (
      go_ret
      exact ⟨rfl, H5.out⟩)
  | true =>
    rw [show Tm.start wt = (Tm.wh wt, 0) by simp [Tm.start, hw]] at ST
    simp only [Tm.wt, Bool.and_eq_true, decide_eq_true_eq] at hw
    obtain ⟨hw1, hw2⟩ := hw
    simp only [Tm.wh] at ST
    obtain ⟨m, rfl⟩ : ∃ m : Nat, n = (m : Int) := ⟨n.toNat, by omega⟩
    go_enter Try.func5, Try.ntmps5
    go_wp2_with (go_at_call 12; (with_reducible refine (ST.out _).mono ?_); rintro e w1 ⟨rfl, hb⟩; have B1 := Lib.hid (BX.new w1 24 #[.bool true, .int .i64 wt, .int .i64 wt]); have H1 := Lib.hid (hb.alloc hb.size (.cells #[.bool true, .int .i64 wt, .int .i64 wt] 24)); have Z1 := hb.size; clear hb; obtain ⟨p0, p1, p2, _⟩ := B1.out.three)
    clear ST p0 p1 p2
    obtain ⟨p, hp⟩ : ∃ p, w1.heap.size = p := ⟨_, rfl⟩
    rw [hp] at B1 Z1
    simp only [hp]
    clear hp
    go_loopw [7, 8, 28] (fun la mo i W => ∃ (j : Nat) (a l x : Int), j ≤ m ∧ 1 ≤ a ∧ a ≤ 16 ∧ 1 ≤ l ∧ l ≤ a ∧ a ≤ x ∧ x ≤ 16 ∧ i = .int .i64 j ∧ la = .int .i64 (a - l) ∧ mo = .int .i64 x ∧ Hid (BX W p 24 #[.bool true, .int .i64 a, .int .i64 l]) ∧ Hid (Below w.heap.size w W)) (fun _ _ i _ => m - (intOf i).toNat)
    case atStart => exact ⟨0, wt, wt, wt, Nat.zero_le _, hw1, hw2, hw1, Int.le_refl _, Int.le_refl _, hw2, rfl, by simp, rfl, B1.out, H1.out⟩
    case round =>
      obtain ⟨j, a, l, x, hj, ha1, ha2, hl1, hl2, hx1, hx2, rfl, rfl, rfl, HQ, HB⟩ := hrel
      clear B1 H1
      by_cases h : j < m
      · have h' : (j : Int) < m := by omega
        have h3 : ¬ (j : Int) > 300 := by omega
        obtain ⟨p0, p1, p2, e0, e1, e2⟩ := HQ.out.three
        have TK := Lib.hid (fun W => tick_any ⟨true, a, l⟩ W (by simp only [Tm.Fit]; omega))
        rw [Tm.tick_on a l ha1 ha2 hl1 hl2] at TK
        by_cases h4 : 1 < l
        · rw [if_pos h4] at TK
          have MY := Lib.hid (fun W => may20_any ⟨true, a, l - 1⟩ W)
          rw [show Tm.ok ⟨true, a, l - 1⟩ = true by simp [Tm.ok, Tm.wt, ha1, ha2]; omega] at MY
          simp only at TK MY
          have hd : Hid (a - (l - 1) = a - l + 1) := show _ = _ by omega
          have hle : Hid (1 ≤ l - 1 ∧ l - 1 ≤ a) := ⟨by omega, by omega⟩
          have hgt : ¬ (a - l + 1 > x) := by omega
          generalize l - 1 = k at *
          generalize hy : a - l = y at *
          have y0 : 0 ≤ y := by omega
          clear hy
          go_wp2_with (first
            | (go_at_call 14; (with_reducible refine (MY.out _).mono ?_); rintro e w6 ⟨rfl, hb⟩; have HQ2 := Lib.hid ((HQ1.out.put3 (.bool true) (.int .i64 a) (.int .i64 k)).later hb); have HB2 := Lib.hid (bthen20 (below3 HB1.out Z1 _ _ _) hb); clear HQ1 HB1 p0 p1 p2 e0 e1 e2 hb; obtain ⟨p0, p1, p2, e0, e1, e2⟩ := HQ2.out.three)
            | (go_at_call 7; (with_reducible refine (TK.out _).mono ?_); rintro e w5 ⟨rfl, hb⟩; have HQ1 := Lib.hid ((HQ.out.later hb).alloc (.cells #[.bool true, .int .i64 a, .int .i64 k] 24)); have HB1 := Lib.hid ((bthen20 HB.out hb).alloc (Nat.le_trans HB.out.size hb.size) (.cells #[.bool true, .int .i64 a, .int .i64 k] 24)); clear HQ HB p0 p1 p2 e0 e1 e2 hb; obtain ⟨p0, p1, p2, e0, e1, e2⟩ := HQ1.out.three))
          exact ⟨⟨j + 1, a, k, x, by omega, ha1, ha2, hle.out.1, hle.out.2, hx1, hx2, by go_num, by rw [hd.out], rfl, HQ2.out, HB2.out⟩, by simp [intOf]; omega⟩
        · obtain rfl : l = 1 := by omega
          rw [if_neg h4] at TK
          have hnb : 1 ≤ Tm.nw a ∧ Tm.nw a ≤ 16 := by unfold Tm.nw; split <;> omega
          have MY := Lib.hid (fun W => may20_any (Tm.wh (Tm.nw a)) W)
          rw [show Tm.ok (Tm.wh (Tm.nw a)) = true by simp [Tm.ok, Tm.wt, Tm.wh, hnb]] at MY
          have hna : (2 * a ≤ 16 ∧ Tm.nw a = 2 * a) ∨ (¬ 2 * a ≤ 16 ∧ Tm.nw a = 16) := by unfold Tm.nw; split <;> omega
          simp only [Tm.wh] at TK MY
          generalize Tm.nw a = k at *
          have hd : a - 1 + 1 = a := by omega
          have hz : Hid ((0 : Int) = k - k) := show _ = _ by omega
          obtain ⟨b, hb0⟩ : ∃ b, a - 1 = b := ⟨_, rfl⟩
          rw [hb0] at hd ⊢
          have b0 : 0 ≤ b := by omega
          clear hb0
          rcases hna with ⟨h5, h6⟩ | ⟨h5, h6⟩
          · subst h6
            go_wp2_with (first
              | (go_at_call 14; (with_reducible refine (MY.out _).mono ?_); rintro e w6 ⟨rfl, hb⟩; have HQ2 := Lib.hid ((HQ1.out.put3 (.bool true) (.int .i64 (2 * a)) (.int .i64 (2 * a))).later hb); have HB2 := Lib.hid (bthen20 (below3 HB1.out Z1 _ _ _) hb); clear HQ1 HB1 p0 p1 p2 e0 e1 e2 hb; obtain ⟨p0, p1, p2, e0, e1, e2⟩ := HQ2.out.three)
              | (go_at_call 7; (with_reducible refine (TK.out _).mono ?_); rintro e w5 ⟨rfl, hb⟩; have HQ1 := Lib.hid ((HQ.out.later hb).alloc (.cells #[.bool true, .int .i64 (2 * a), .int .i64 (2 * a)] 24)); have HB1 := Lib.hid ((bthen20 HB.out hb).alloc (Nat.le_trans HB.out.size hb.size) (.cells #[.bool true, .int .i64 (2 * a), .int .i64 (2 * a)] 24)); clear HQ HB p0 p1 p2 e0 e1 e2 hb; obtain ⟨p0, p1, p2, e0, e1, e2⟩ := HQ1.out.three))
            exact ⟨⟨j + 1, 2 * a, 2 * a, 16, by omega, by omega, by omega, by omega, by omega, by omega, by omega, by go_num, by rw [hz.out], rfl, HQ2.out, HB2.out⟩, by simp [intOf]; omega⟩
          · subst h6
            go_wp2_with (first
              | (go_at_call 14; (with_reducible refine (MY.out _).mono ?_); rintro e w6 ⟨rfl, hb⟩; have HQ2 := Lib.hid ((HQ1.out.put3 (.bool true) (.int .i64 16) (.int .i64 16)).later hb); have HB2 := Lib.hid (bthen20 (below3 HB1.out Z1 _ _ _) hb); clear HQ1 HB1 p0 p1 p2 e0 e1 e2 hb; obtain ⟨p0, p1, p2, e0, e1, e2⟩ := HQ2.out.three)
              | (go_at_call 7; (with_reducible refine (TK.out _).mono ?_); rintro e w5 ⟨rfl, hb⟩; have HQ1 := Lib.hid ((HQ.out.later hb).alloc (.cells #[.bool true, .int .i64 16, .int .i64 16] 24)); have HB1 := Lib.hid ((bthen20 HB.out hb).alloc (Nat.le_trans HB.out.size hb.size) (.cells #[.bool true, .int .i64 16, .int .i64 16] 24)); clear HQ HB p0 p1 p2 e0 e1 e2 hb; obtain ⟨p0, p1, p2, e0, e1, e2⟩ := HQ1.out.three))
            exact ⟨⟨j + 1, 16, 16, 16, by omega, by omega, by omega, by omega, by omega, by omega, by omega, by go_num, by rw [hz.out], rfl, HQ2.out, HB2.out⟩, by simp [intOf]; omega⟩
      · obtain rfl : j = m := by omega
        go_wp2_with (go_at_call 11; (with_reducible refine (AL.out _).mono ?_); rintro e w5 ⟨rfl, hb⟩; have H5 := Lib.hid (bthen20 HB.out hb); clear hb)
        go_ret
        exact ⟨rfl, H5.out⟩
end Go.Proofs.Ytkbmeikdgbdogaa
