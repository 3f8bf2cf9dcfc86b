/- LAYER 20, timer: Longest; the document's May, Start, Tick, Ticks, Longest. -/
import Derived.Test.YtkbmeikdgbdogaaQ20b
namespace Go.Proofs.Ytkbmeikdgbdogaa
open Go Go.RowKit
set_option maxHeartbeats 2000000
set_option maxRecDepth 100000
set_option linter.unusedVariables false
theorem longest_any (n : Int) (w : World) :
    Calls Try.prog 18 #[.int .i64 n] w fun e w' => e = .returned (.int .i64 (Tm.lng (Tm.cnt n))) ∧ w = w' := by
  have CT := Lib.hid (counted_any n)
  have hm := Tm.cnt_le n
  generalize Tm.cnt n = m at *
  go_enter Try.func18, Try.ntmps18
  go_wp2_with (go_at_call 22; (with_reducible refine (CT.out _).mono ?_); rintro e w1 ⟨rfl, rfl⟩)
  clear CT
  go_loop [3, 4, 7] (fun c v i => ∃ j : Nat, j ≤ m ∧ i = .int .i64 j ∧ c = .int .i64 (Tm.lng j) ∧ v = .int .i64 (Tm.ws j)) (fun _ _ i => m - (intOf i).toNat)
  case atStart => exact ⟨0, Nat.zero_le _, rfl, rfl, rfl⟩
  case round =>
    obtain ⟨j, hj, rfl, rfl, rfl⟩ := hrel
    by_cases h : j < m
    · have h' : (j : Int) < m := by omega
      have hw := Tm.ws_bd j
      have hl := Tm.lng_bd j
      have NW := Lib.hid (fun W => nextWait_any (Tm.ws j) W (by omega) (by omega))
      have E1 : Hid (Tm.lng (j + 1) = Tm.lng j + Tm.ws j) := rfl
      have E2 : Hid (Tm.ws (j + 1) = Tm.nw (Tm.ws j)) := rfl
      generalize Tm.lng j = x at *
      generalize Tm.nw (Tm.ws j) = z at *
      generalize Tm.ws j = y at *
      go_wp2_with (go_at_call 21; (with_reducible refine (NW.out _).mono ?_); rintro e w5 ⟨rfl, rfl⟩)
      go_round
      case rel => exact ⟨j + 1, by omega, by go_num, by rw [E1.out], by rw [E2.out]⟩
      case measure => simp [intOf]; omega
    · obtain rfl : j = m := by omega
      go_wp2
      go_ret
      exact ⟨rfl, rfl⟩
theorem refmay20_any (t : Tm.T) (w : World) :
    Calls Try.prog 15 #[Tm.TV t] w fun e w' => e = .returned (.bool (Tm.ok t)) ∧ Below w.heap.size w w' := by
  obtain ⟨o, a, l⟩ := t
  have HB := Lib.hid (fun o => (Below.refl _ w).alloc (Nat.le_refl _) o)
  cases o with
  | false =>
    have HC : Hid (Tm.ok ⟨false, a, l⟩ = (decide (a = 0) && decide (l = 0))) := by show _ = _; simp [Tm.ok]
    generalize Tm.ok ⟨false, a, l⟩ = Z at *
    by_cases h : a = 0
    · go_enter Try.func15, Try.ntmps15
      go_wp2
      all_goals (
        go_ret
        exact ⟨ret_bool (by rw [HC.out, Bool.eq_iff_iff]; simp [*]), HB.out _⟩)
    · go_enter Try.func15, Try.ntmps15
      go_wp2
      all_goals (
        go_ret
        exact ⟨ret_bool (by rw [HC.out, Bool.eq_iff_iff]; simp [*]), HB.out _⟩)
  | true =>
    have HC : Hid (Tm.ok ⟨true, a, l⟩ = (decide (1 ≤ a) && decide (a ≤ 16) && decide (1 ≤ l) && decide (l ≤ a))) := by show _ = _; simp [Tm.ok, Tm.wt]
    generalize Tm.ok ⟨true, a, l⟩ = Z at *
    by_cases h : 1 ≤ a
    · by_cases h2 : a ≤ 16
      · by_cases h3 : 1 ≤ l
        · go_enter Try.func15, Try.ntmps15
          go_wp2
          go_ret
          exact ⟨ret_bool (by rw [HC.out]; simp [*]), HB.out _⟩
        · go_enter Try.func15, Try.ntmps15
          go_wp2
          go_ret
          exact ⟨ret_bool (by rw [HC.out]; simp; omega), HB.out _⟩
      · go_enter Try.func15, Try.ntmps15
        go_wp2
        go_ret
        exact ⟨ret_bool (by rw [HC.out]; simp; omega), HB.out _⟩
    · go_enter Try.func15, Try.ntmps15
      go_wp2
      go_ret
      exact ⟨ret_bool (by rw [HC.out]; simp; omega), HB.out _⟩
theorem refstart_any (n : Int) (w : World) :
    Calls Try.prog 13 #[.int .i64 n] w fun e w' => e = .returned (.tuple #[Tm.TV (Tm.start n).1, .int .i64 (Tm.start n).2]) ∧ Below w.heap.size w w' := by
  by_cases h : 1 ≤ n
  · by_cases h2 : n ≤ 16
    · have HC : Hid (Tm.start n = (Tm.wh n, 0)) := show _ = _ by unfold Tm.start Tm.wt; rw [if_pos (by simp [h, h2])]
      generalize Tm.start n = S at *
      have HC' := HC.out
      subst HC'
      go_enter Try.func13, Try.ntmps13
      go_wp2
      refine bodyPost_ret (v := .tuple #[Tm.TV (Tm.wh n), .int .i64 0]) (by simp [results, Try.f13, go_sem, Tm.wh]) rfl ⟨rfl, ?_⟩
      exact (Below.refl _ w).alloc (Nat.le_refl _) _
    · have HC : Hid (Tm.start n = (Tm.nul, 1)) := show _ = _ by unfold Tm.start Tm.wt; rw [if_neg (by simp; omega)]
      generalize Tm.start n = S at *
      have HC' := HC.out
      subst HC'
      go_enter Try.func13, Try.ntmps13
      go_wp2
      refine bodyPost_ret (v := .tuple #[Tm.TV Tm.nul, .int .i64 1]) (by simp [results, Try.f13, go_sem, Tm.nul]) rfl ⟨rfl, ?_⟩
      exact (Below.refl _ w).alloc (Nat.le_refl _) _
  · have HC : Hid (Tm.start n = (Tm.nul, 1)) := show _ = _ by unfold Tm.start Tm.wt; rw [if_neg (by simp; omega)]
    generalize Tm.start n = S at *
    have HC' := HC.out
    subst HC'
    go_enter Try.func13, Try.ntmps13
    go_wp2
    refine bodyPost_ret (v := .tuple #[Tm.TV Tm.nul, .int .i64 1]) (by simp [results, Try.f13, go_sem, Tm.nul]) rfl ⟨rfl, ?_⟩
    exact (Below.refl _ w).alloc (Nat.le_refl _) _
theorem reftick_any (t : Tm.T) (w : World) (hf : Tm.Fit t) :
    Calls Try.prog 8 #[Tm.TV t] w fun e w' => e = .returned (.tuple #[Tm.TV (Tm.tick t).1, .bool (Tm.tick t).2]) ∧ Below w.heap.size w w' := by
  obtain ⟨o, a, l⟩ := t
  have MY := Lib.hid (refmay20_any ⟨o, a, l⟩)
  obtain ⟨hT, hQ, hR⟩ := two20 w 23 23 #[.bool o, .int .i64 a, .int .i64 l] #[.bool false, .int .i64 0, .int .i64 0]
  have HZ := Lib.hid (fun W (h : Below ((w.alloc (.cells #[.bool o, .int .i64 a, .int .i64 l] 23)).alloc (.cells #[.bool false, .int .i64 0, .int .i64 0] 23)).heap.size ((w.alloc (.cells #[.bool o, .int .i64 a, .int .i64 l] 23)).alloc (.cells #[.bool false, .int .i64 0, .int .i64 0] 23)) W) => And.intro (hQ.later h) (And.intro (hR.later h) (bthen hT h)))
  clear hT hR hQ
  cases o with
  | false =>
    go_enter Try.func8, Try.ntmps8
    go_wp2
    refine bodyPost_ret (v := .tuple #[Tm.TV ⟨false, a, l⟩, .bool false]) (by simp [results, Try.f8, go_sem]) rfl ⟨by simp [Tm.tick], ?_⟩
    exact ((Below.refl _ w).alloc (Nat.le_refl _) _).alloc (by simp) _
  | true =>
    cases hok : Tm.ok ⟨true, a, l⟩ with
    | false =>
      have HT : Hid (Tm.tick ⟨true, a, l⟩ = (⟨true, a, l⟩, false)) := by show _ = _; simp [Tm.tick, hok]
      rw [hok] at MY
      clear hok
      go_enter Try.func8, Try.ntmps8
      go_wp2_with (go_at_call 15; (with_reducible refine (MY.out _).mono ?_); rintro e w1 ⟨rfl, hb⟩; obtain ⟨bq, bz, zz⟩ := HZ.out _ hb; have BZ := Lib.hid bz; have BQ := Lib.hid bq; have ZZ := Lib.hid zz; obtain ⟨q0, q1, q2, f0, f1, f2⟩ := BZ.out.three; obtain ⟨p0, p1, p2, e0, e1, e2⟩ := BQ.out.three; clear bq bz zz hb)
      obtain ⟨r0, r1, r2, _⟩ := (BZ.out.put3 (.bool true) (.int .i64 a) (.int .i64 l)).three
      refine bodyPost_ret (v := .tuple #[Tm.TV ⟨true, a, l⟩, .bool false]) (by simp [results, Try.f8, go_sem, r0, r1, r2]) rfl ⟨by rw [HT.out], ?_⟩
      exact below3 ZZ.out (Nat.le_succ _) _ _ _
    | true =>
      have h2 := hok
      simp only [Tm.ok, if_true, Tm.wt, Bool.and_eq_true, decide_eq_true_eq] at h2
      obtain ⟨⟨⟨h3, h4⟩, h5⟩, h6⟩ := h2
      have HT : Hid (Tm.tick ⟨true, a, l⟩ = if 1 < l then (⟨true, a, l - 1⟩, false) else (Tm.wh (Tm.nw a), true)) := Tm.tick_on a l h3 h4 h5 h6
      rw [hok] at MY
      clear hok hf
      by_cases hl : 1 < l
      · go_enter Try.func8, Try.ntmps8
        go_wp2_with (go_at_call 15; (with_reducible refine (MY.out _).mono ?_); rintro e w1 ⟨rfl, hb⟩; obtain ⟨bq, bz, zz⟩ := HZ.out _ hb; have BZ := Lib.hid bz; have BQ := Lib.hid bq; have ZZ := Lib.hid zz; obtain ⟨q0, q1, q2, f0, f1, f2⟩ := BZ.out.three; obtain ⟨p0, p1, p2, e0, e1, e2⟩ := BQ.out.three; clear bq bz zz hb)
        obtain ⟨r0, r1, r2, _⟩ := (BZ.out.put3 (.bool true) (.int .i64 a) (.int .i64 (l - 1))).three
        refine bodyPost_ret (v := .tuple #[Tm.TV ⟨true, a, l - 1⟩, .bool false]) (by simp [results, Try.f8, go_sem, r0, r1, r2]) rfl ⟨by rw [HT.out, if_pos hl], ?_⟩
        exact below3 ZZ.out (Nat.le_succ _) _ _ _
      · obtain rfl : l = 1 := by omega
        have HN : Hid (Tm.nw a = if 2 * a ≤ 16 then 2 * a else 16) := rfl
        generalize Tm.nw a = b at *
        by_cases h8 : 2 * a ≤ 16
        · obtain rfl : b = 2 * a := by rw [HN.out, if_pos h8]
          clear HN
          go_enter Try.func8, Try.ntmps8
          go_wp2_with (go_at_call 15; (with_reducible refine (MY.out _).mono ?_); rintro e w1 ⟨rfl, hb⟩; obtain ⟨bq, bz, zz⟩ := HZ.out _ hb; have BZ := Lib.hid bz; have BQ := Lib.hid bq; have ZZ := Lib.hid zz; obtain ⟨q0, q1, q2, f0, f1, f2⟩ := BZ.out.three; obtain ⟨p0, p1, p2, e0, e1, e2⟩ := BQ.out.three; clear bq bz zz hb)
          obtain ⟨r0, r1, r2, _⟩ := (BZ.out.put3 (.bool true) (.int .i64 (2 * a)) (.int .i64 (2 * a))).three
          refine bodyPost_ret (v := .tuple #[Tm.TV (Tm.wh (2 * a)), .bool true]) (by simp [results, Try.f8, go_sem, Tm.wh, r0, r1, r2]) rfl ⟨by rw [HT.out, if_neg (by omega)], ?_⟩
          exact below3 ZZ.out (Nat.le_succ _) _ _ _
        · obtain rfl : b = 16 := by rw [HN.out, if_neg h8]
          clear HN
          go_enter Try.func8, Try.ntmps8
          go_wp2_with (go_at_call 15; (with_reducible refine (MY.out _).mono ?_); rintro e w1 ⟨rfl, hb⟩; obtain ⟨bq, bz, zz⟩ := HZ.out _ hb; have BZ := Lib.hid bz; have BQ := Lib.hid bq; have ZZ := Lib.hid zz; obtain ⟨q0, q1, q2, f0, f1, f2⟩ := BZ.out.three; obtain ⟨p0, p1, p2, e0, e1, e2⟩ := BQ.out.three; clear bq bz zz hb)
          obtain ⟨r0, r1, r2, _⟩ := (BZ.out.put3 (.bool true) (.int .i64 16) (.int .i64 16)).three
          refine bodyPost_ret (v := .tuple #[Tm.TV (Tm.wh 16), .bool true]) (by simp [results, Try.f8, go_sem, Tm.wh, r0, r1, r2]) rfl ⟨by rw [HT.out, if_neg (by omega)], ?_⟩
          exact below3 ZZ.out (Nat.le_succ _) _ _ _
end Go.Proofs.Ytkbmeikdgbdogaa
