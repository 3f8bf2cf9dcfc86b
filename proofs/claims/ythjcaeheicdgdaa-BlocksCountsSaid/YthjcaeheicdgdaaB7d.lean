/- WALKS OF LAYER 7, FOURTH PART: clean, and the reference's. -/
import Derived.Test.YthjcaeheicdgdaaB7c
namespace Go.Proofs.Ythjcaeheicdgdaa
open Go.RowKit
set_option maxHeartbeats 400000
set_option maxRecDepth 100000
set_option linter.unusedVariables false
theorem clean_any (A : Option Addr) (n c : Nat) (xs : List Int) (z : Int) (w : World) (ha : RB w w.heap.size A n xs) (hc : n ≤ c) (hc2 : c ≤ maxLen) (hn : n ≤ 900000) (h0 : -9223372036854775808 ≤ z) (h1 : z ≤ 9223372036854775807) :
    Calls Try.prog 15 #[.slice A n c, .int .i64 z] w fun e w' => e = .returned (.bool (Bk.clean xs z)) ∧ w = w' := by
  have hxl := ha.1
  have K := Lib.hid (has_any A n c z w (by omega) h0 h1)
  by_cases h : Bk.err n z = 0
  · obtain ⟨z0, z1⟩ := Bk.err_zero h
    have z2 := Bk.pad_bd z
    have P := Lib.hid (fun W => pad_any z W h0 h1)
    have bad : Hid (∀ j : Nat, (j : Int) < Bk.pad z → xs.getD (z.toNat + j) 0 ≠ 0 → Bk.clean xs z = false) := fun j h1 h2 => Bk.clean_bad h1 h2
    have yes : Hid ((∀ j : Nat, (j : Int) < Bk.pad z → xs.getD (z.toNat + j) 0 = 0) → Bk.clean xs z = true) := fun h1 => Bk.clean_yes (by rw [hxl]; exact h) h1
    obtain ⟨k, rfl⟩ : ∃ k : Nat, z = (k : Int) := ⟨z.toNat, by omega⟩
    obtain ⟨p, hp⟩ : ∃ p : Nat, Bk.pad (k : Int) = (p : Int) := ⟨(Bk.pad (k : Int)).toNat, by omega⟩
    rw [h] at K
    rw [Int.toNat_natCast] at bad yes
    generalize Bk.clean xs (k : Int) = r at *
    generalize Bk.pad (k : Int) = pp at *
    subst hp
    have HA := Lib.hid ha
    clear h hxl ha
    unfold maxLen at hc2
    have s1 : IntKind.i64.wrap ((k : Int) + (p : Int)) = ((k + p : Nat) : Int) := by rw [IntWalk.i64_in _ (by omega)]; omega
    obtain ⟨q, hq⟩ : ∃ q : Nat, k + p = q := ⟨_, rfl⟩
    rw [hq] at s1
    have q1 : k ≤ q := by omega
    have q2 : q ≤ n := by omega
    have q3 : q ≤ c := by omega
    have q4 : q - k = p := by omega
    by_cases hp0 : p = 0
    · subst hp0
      have hr := yes (fun j hj => by omega)
      subst hr
      clear bad yes
      rcases Decidable.em (c = k) with rfl | hck
      all_goals
        go_enter Try.func15, Try.ntmps15
        go_wp2_with (first | (go_at_call 19; (with_reducible refine K.out.mono ?_); rintro e w' ⟨rfl, rfl⟩) | (go_at_call 9; (with_reducible refine (P.out _).mono ?_); rintro e w' ⟨rfl, rfl⟩))
        go_loop [19] (fun i => i = .int .i64 0) (fun i => 0)
        case atStart => rfl
        case round =>
          subst hrel
          go_wp2
          go_ret
          exact ⟨rfl, rfl⟩
    · have hck : ¬ c = k := by omega
      obtain ⟨b, o, rfl, _, _⟩ := HA.out.at_ (k := 0) (by omega)
      have HC : Hid (∀ j, j < p → w.cell? ⟨b, o + k + j, none⟩ = some (.int .u8 (xs.getD (k + j) 0))) := fun j hj => by
        rw [show o + k + j = o + (k + j) from by omega]
        exact HA.out.at_' (by omega)
      have HQ := Lib.hid hq; clear hq
      go_enter Try.func15, Try.ntmps15
      go_wp2_with (first | (go_at_call 19; (with_reducible refine K.out.mono ?_); rintro e w' ⟨rfl, rfl⟩) | (go_at_call 9; (with_reducible refine (P.out _).mono ?_); rintro e w' ⟨rfl, rfl⟩))
      go_loop [19] (fun i => ∃ j : Nat, j ≤ p ∧ i = .int .i64 j ∧ Hid (∀ x, x < j → xs.getD (k + x) 0 = 0)) (fun i => p - (intOf i).toNat)
      case atStart => exact ⟨0, by omega, rfl, fun x hx => absurd hx (Nat.not_lt_zero _)⟩
      case round =>
        obtain ⟨j, hj, rfl, HD⟩ := hrel
        by_cases hlt : j < p
        · have hcj := HC.out j hlt
          have hbad := bad j (by omega)
          generalize hy : xs.getD (k + j) 0 = y at *
          have HY := Lib.hid hy; clear hy
          by_cases hy0 : y = 0
          · have g : (y != 0) = false := by simp [hy0]
            have HY0 := Lib.hid hy0; clear hy0 hbad
            go_wp2
            go_round
            case rel =>
              refine ⟨j + 1, by omega, by go_num, fun x hx => ?_⟩
              by_cases hxj : x < j
              · exact HD x hxj
              · rw [show x = j from by omega, HY.out, HY0.out]
            case measure => simp [intOf]; omega
          · have g : (y != 0) = true := by simp [hy0]
            have hr := hbad hy0
            subst hr
            clear hbad bad yes hy0
            go_wp2
            go_ret
            exact ⟨rfl, rfl⟩
        · have hr := yes (fun x hx => HD x (by omega))
          subst hr
          clear bad yes
          go_wp2
          go_ret
          exact ⟨rfl, rfl⟩
  · have hr := Bk.clean_err (xs := xs) (z := z) (by rw [hxl]; exact h)
    have g : (Bk.err n z != 0) = true := by simpa using h
    rw [hr]
    generalize Bk.err n z = e at *
    clear hr hxl h
    go_enter Try.func15, Try.ntmps15
    go_wp2_with (first | (go_at_call 19; (with_reducible refine K.out.mono ?_); rintro e w' ⟨rfl, rfl⟩))
    go_ret
    exact ⟨rfl, rfl⟩
theorem refclean_any (A : Option Addr) (n c : Nat) (xs : List Int) (z : Int) (w : World) (ha : RB w w.heap.size A n xs) (hc : n ≤ c) (hc2 : c ≤ maxLen) (hn : n ≤ 900000) (h0 : -9223372036854775808 ≤ z) (h1 : z ≤ 9223372036854775807) :
    Calls Try.prog 16 #[.slice A n c, .int .i64 z] w fun e w' => e = .returned (.bool (Bk.clean xs z)) ∧ w = w' := by
  have hxl := ha.1
  have K := Lib.hid (refopen_any A n c xs z w ha hc hc2 hn h0 h1)
  by_cases h : Bk.err n z = 0
  · obtain ⟨z0, z1⟩ := Bk.err_zero h
    have z2 := Bk.pad_bd z
    have C := Lib.hid (fun W => refcount_any z W h0 h1)
    have pc := Bk.pad_cnt (n := z) z0
    have bad : Hid (∀ j : Nat, (j : Int) < Bk.pad z → xs.getD (z.toNat + j) 0 ≠ 0 → Bk.clean xs z = false) := fun j h1 h2 => Bk.clean_bad h1 h2
    have yes : Hid ((∀ j : Nat, (j : Int) < Bk.pad z → xs.getD (z.toNat + j) 0 = 0) → Bk.clean xs z = true) := fun h1 => Bk.clean_yes (by rw [hxl]; exact h) h1
    obtain ⟨k, rfl⟩ : ∃ k : Nat, z = (k : Int) := ⟨z.toNat, by omega⟩
    obtain ⟨p, hp⟩ : ∃ p : Nat, Bk.pad (k : Int) = (p : Int) := ⟨(Bk.pad (k : Int)).toNat, by omega⟩
    rw [h] at K
    rw [Int.toNat_natCast] at bad yes
    generalize Bk.clean xs (k : Int) = r at *
    generalize Bk.pad (k : Int) = pp at *
    generalize Bk.cnt (k : Int) = m at *
    subst hp
    have HA := Lib.hid ha
    clear h hxl ha
    unfold maxLen at hc2
    have s1 : IntKind.i64.wrap (512 * m) = ((k + p : Nat) : Int) := by rw [IntWalk.i64_in _ (by omega)]; omega
    obtain ⟨q, hq⟩ : ∃ q : Nat, k + p = q := ⟨_, rfl⟩
    rw [hq] at s1
    have q2 : q ≤ n := by omega
    clear pc
    have HQ := Lib.hid hq; clear hq
    have q1 : k ≤ q := by have := HQ.out; omega
    go_enter Try.func16, Try.ntmps16
    go_wp2_with (first | (go_at_call 12; (with_reducible refine K.out.mono ?_); rintro e w' ⟨⟨A2, m2, c2, rfl, _, _⟩, rfl⟩))
    go_loop [7] (fun i => ∃ j : Nat, j ≤ p ∧ i = .int .i64 ((k + j : Nat) : Int) ∧ Hid (∀ x, x < j → xs.getD (k + x) 0 = 0)) (fun i => q - (intOf i).toNat)
    case atStart => exact ⟨0, by omega, rfl, fun x hx => absurd hx (Nat.not_lt_zero _)⟩
    case round =>
      obtain ⟨j, hj, rfl, HD⟩ := hrel
      by_cases hlt : j < p
      · obtain ⟨b, o, rfl, _, hcj⟩ := HA.out.at_ (k := k + j) (by have := HQ.out; omega)
        have hbad := bad j (by omega)
        generalize hy : xs.getD (k + j) 0 = y at *
        obtain ⟨t, ht⟩ : ∃ t : Nat, k + j = t := ⟨_, rfl⟩
        rw [ht] at hcj ⊢
        have u1 : t < n := by have := HQ.out; omega
        have u2 : t < q := by have := HQ.out; omega
        have HT := Lib.hid ht; clear ht
        have HY := Lib.hid hy; clear hy
        by_cases hy0 : y = 0
        · have g : (y != 0) = false := by simp [hy0]
          have HY0 := Lib.hid hy0; clear hy0 hbad
          go_wp2_with (first | (go_at_call 7; (with_reducible refine (C.out _).mono ?_); rintro e w' ⟨rfl, rfl⟩))
          go_round
          case rel =>
            refine ⟨j + 1, by omega, by rw [← Nat.add_assoc, HT.out]; go_num, fun x hx => ?_⟩
            by_cases hxj : x < j
            · exact HD x hxj
            · rw [show x = j from by omega, HY.out, HY0.out]
          case measure => simp [intOf]; omega
        · have g : (y != 0) = true := by simp [hy0]
          have hr := hbad hy0
          subst hr
          clear hbad bad yes hy0
          go_wp2_with (first | (go_at_call 7; (with_reducible refine (C.out _).mono ?_); rintro e w' ⟨rfl, rfl⟩))
          go_ret
          exact ⟨rfl, rfl⟩
      · have hr := yes (fun x hx => HD x (by omega))
        subst hr
        have e : k + j = q := by have := HQ.out; omega
        rw [e]
        clear bad yes e
        go_wp2_with (first | (go_at_call 7; (with_reducible refine (C.out _).mono ?_); rintro e w' ⟨rfl, rfl⟩))
        go_ret
        exact ⟨rfl, rfl⟩
  · have hr := Bk.clean_err (xs := xs) (z := z) (by rw [hxl]; exact h)
    have g : (Bk.err n z != 0) = true := by simpa using h
    rw [hr]
    generalize Bk.err n z = e at *
    clear hr hxl h
    go_enter Try.func16, Try.ntmps16
    go_wp2_with (first | (go_at_call 12; (with_reducible refine K.out.mono ?_); rintro e w' ⟨⟨A2, m2, c2, rfl, _, _⟩, rfl⟩))
    go_ret
    exact ⟨rfl, rfl⟩
end Go.Proofs.Ythjcaeheicdgdaa
