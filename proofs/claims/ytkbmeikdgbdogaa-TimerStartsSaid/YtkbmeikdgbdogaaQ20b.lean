/- LAYER 20, timer: Start, Tick, Ticks, Longest. -/
import Derived.Test.YtkbmeikdgbdogaaQ20a
namespace Go.Proofs.Ytkbmeikdgbdogaa
open Go Go.RowKit
set_option maxHeartbeats 2000000
set_option maxRecDepth 100000
set_option linter.unusedVariables false
theorem start_any (n : Int) (w : World) :
    Calls Try.prog 12 #[.int .i64 n] w fun e w' => e = .returned (.tuple #[Tm.TV (Tm.start n).1, .int .i64 (Tm.start n).2]) ∧ Below w.heap.size w w' := by
  have IW := Lib.hid (isWait_any n)
  have WH := Lib.hid (whole_any n)
  have HC : Hid (Tm.start n = if Tm.wt n = true then (Tm.wh n, 0) else (Tm.nul, 1)) := rfl
  generalize Tm.start n = S at *
  generalize Tm.wt n = Y at *
  have HZ := Lib.hid (fun W (h : Below (w.alloc (.cells #[.bool false, .int .i64 0, .int .i64 0] 24)).heap.size (w.alloc (.cells #[.bool false, .int .i64 0, .int .i64 0] 24)) W) => And.intro ((BX.new w 24 #[.bool false, .int .i64 0, .int .i64 0]).later h) (bthen ((Below.refl _ w).alloc (Nat.le_refl _) _) h))
  cases Y with
  | false =>
    have HC' : S = (Tm.nul, 1) := by rw [HC.out]; simp
    subst HC'
    go_enter Try.func12, Try.ntmps12
    go_wp2_with (go_at_call 23; (with_reducible refine (IW.out _).mono ?_); rintro e w1 ⟨rfl, rfl⟩)
    refine bodyPost_ret (v := .tuple #[Tm.TV Tm.nul, .int .i64 1]) (by simp [results, Try.f12, go_sem, Tm.nul]) rfl ⟨rfl, ?_⟩
    exact (Below.refl _ w).alloc (Nat.le_refl _) _
  | true =>
    have HC' : S = (Tm.wh n, 0) := by rw [HC.out]; simp
    subst HC'
    go_enter Try.func12, Try.ntmps12
    go_wp2_with (first
      | (go_at_call 20; (with_reducible refine (WH.out _).mono ?_); rintro e w1 ⟨rfl, hb⟩; obtain ⟨bz, zz⟩ := HZ.out _ hb; have BZ := Lib.hid bz; have ZZ := Lib.hid zz; obtain ⟨q0, q1, q2, f0, f1, f2⟩ := BZ.out.three; clear bz zz hb)
      | (go_at_call 23; (with_reducible refine (IW.out _).mono ?_); rintro e w1 ⟨rfl, rfl⟩))
    obtain ⟨r0, r1, r2, _⟩ := (BZ.out.put3 (.bool true) (.int .i64 n) (.int .i64 n)).three
    refine bodyPost_ret (v := .tuple #[Tm.TV (Tm.wh n), .int .i64 0]) (by simp [results, Try.f12, go_sem, Tm.wh, r0, r1, r2]) rfl ⟨rfl, ?_⟩
    exact below3 ZZ.out (Nat.le_refl _) _ _ _
theorem tick_any (t : Tm.T) (w : World) (hf : Tm.Fit t) :
    Calls Try.prog 7 #[Tm.TV t] w fun e w' => e = .returned (.tuple #[Tm.TV (Tm.tick t).1, .bool (Tm.tick t).2]) ∧ Below w.heap.size w w' := by
  obtain ⟨o, a, l⟩ := t
  have MY := Lib.hid (may20_any ⟨o, a, l⟩)
  obtain ⟨hT, hQ, hR⟩ := two20 w 24 24 #[.bool o, .int .i64 a, .int .i64 l] #[.bool false, .int .i64 0, .int .i64 0]
  have HZ := Lib.hid (fun W (h : Below ((w.alloc (.cells #[.bool o, .int .i64 a, .int .i64 l] 24)).alloc (.cells #[.bool false, .int .i64 0, .int .i64 0] 24)).heap.size ((w.alloc (.cells #[.bool o, .int .i64 a, .int .i64 l] 24)).alloc (.cells #[.bool false, .int .i64 0, .int .i64 0] 24)) W) => And.intro (hQ.later h) (And.intro (hR.later h) (bthen hT h)))
  clear hT hR hQ
  cases o with
  | false =>
    go_enter Try.func7, Try.ntmps7
    go_wp2
    refine bodyPost_ret (v := .tuple #[Tm.TV ⟨false, a, l⟩, .bool false]) (by simp [results, Try.f7, go_sem]) rfl ⟨by simp [Tm.tick], ?_⟩
    exact ((Below.refl _ w).alloc (Nat.le_refl _) _).alloc (by simp) _
  | true =>
    cases hok : Tm.ok ⟨true, a, l⟩ with
    | false =>
      have HT : Hid (Tm.tick ⟨true, a, l⟩ = (⟨true, a, l⟩, false)) := by show _ = _; simp [Tm.tick, hok]
      rw [hok] at MY
      clear hok
      go_enter Try.func7, Try.ntmps7
      go_wp2_with (go_at_call 14; (with_reducible refine (MY.out _).mono ?_); rintro e w1 ⟨rfl, hb⟩; obtain ⟨bq, bz, zz⟩ := HZ.out _ hb; have BZ := Lib.hid bz; have BQ := Lib.hid bq; have ZZ := Lib.hid zz; obtain ⟨q0, q1, q2, f0, f1, f2⟩ := BZ.out.three; obtain ⟨p0, p1, p2, e0, e1, e2⟩ := BQ.out.three; clear bq bz zz hb)
      obtain ⟨r0, r1, r2, _⟩ := (BZ.out.put3 (.bool true) (.int .i64 a) (.int .i64 l)).three
      refine bodyPost_ret (v := .tuple #[Tm.TV ⟨true, a, l⟩, .bool false]) (by simp [results, Try.f7, go_sem, r0, r1, r2]) rfl ⟨by rw [HT.out], ?_⟩
      exact below3 ZZ.out (Nat.le_succ _) _ _ _
    | true =>
      have h2 := hok
      simp only [Tm.ok, if_true, Tm.wt, Bool.and_eq_true, decide_eq_true_eq] at h2
      obtain ⟨⟨⟨h3, h4⟩, h5⟩, h6⟩ := h2
      have HT : Hid (Tm.tick ⟨true, a, l⟩ = if 1 < l then (⟨true, a, l - 1⟩, false) else (Tm.wh (Tm.nw a), true)) := Tm.tick_on a l h3 h4 h5 h6
      rw [hok] at MY
      clear hok hf
      have NW := Lib.hid (fun W => nextWait_any a W (by omega) h4)
      have WH := Lib.hid (whole_any (Tm.nw a))
      generalize Tm.nw a = b at *
      by_cases hl : 1 < l
      · go_enter Try.func7, Try.ntmps7
        go_wp2_with (go_at_call 14; (with_reducible refine (MY.out _).mono ?_); rintro e w1 ⟨rfl, hb⟩; obtain ⟨bq, bz, zz⟩ := HZ.out _ hb; have BZ := Lib.hid bz; have BQ := Lib.hid bq; have ZZ := Lib.hid zz; obtain ⟨q0, q1, q2, f0, f1, f2⟩ := BZ.out.three; obtain ⟨p0, p1, p2, e0, e1, e2⟩ := BQ.out.three; clear bq bz zz hb)
        obtain ⟨r0, r1, r2, _⟩ := ((BZ.out.other (Nat.succ_ne_self _) (b := w.heap.size) (j := 2) (.int .i64 (l - 1))).put3 (.bool true) (.int .i64 a) (.int .i64 (l - 1))).three
        refine bodyPost_ret (v := .tuple #[Tm.TV ⟨true, a, l - 1⟩, .bool false]) (by simp [results, Try.f7, go_sem, r0, r1, r2]) rfl ⟨by rw [HT.out, if_pos hl], ?_⟩
        exact below3 (ZZ.out.setCell (Nat.le_refl _) _) (Nat.le_succ _) _ _ _
      · obtain rfl : l = 1 := by omega
        go_enter Try.func7, Try.ntmps7
        go_wp2_with (first
          | (go_at_call 21; (with_reducible refine (NW.out _).mono ?_); rintro e w2 ⟨rfl, rfl⟩)
          | (go_at_call 20; (with_reducible refine (WH.out _).mono ?_); rintro e w2 ⟨rfl, hb⟩; have BZ2 := Lib.hid ((BZ.out.other (Nat.succ_ne_self _) _).later hb); have ZZ2 := Lib.hid (bthen (ZZ.out.setCell (Nat.le_refl _) _) hb); clear q0 q1 q2 f0 f1 f2 p0 p1 p2 e0 e1 e2 hb; obtain ⟨q0, q1, q2, f0, f1, f2⟩ := BZ2.out.three)
          | (go_at_call 14; (with_reducible refine (MY.out _).mono ?_); rintro e w1 ⟨rfl, hb⟩; obtain ⟨bq, bz, zz⟩ := HZ.out _ hb; have BZ := Lib.hid bz; have BQ := Lib.hid bq; have ZZ := Lib.hid zz; obtain ⟨q0, q1, q2, f0, f1, f2⟩ := BZ.out.three; obtain ⟨p0, p1, p2, e0, e1, e2⟩ := BQ.out.three; clear bq bz zz hb))
        obtain ⟨r0, r1, r2, _⟩ := (BZ2.out.put3 (.bool true) (.int .i64 b) (.int .i64 b)).three
        refine bodyPost_ret (v := .tuple #[Tm.TV (Tm.wh b), .bool true]) (by simp [results, Try.f7, go_sem, Tm.wh, r0, r1, r2]) rfl ⟨by rw [HT.out, if_neg (by omega)], ?_⟩
        exact below3 ZZ2.out (Nat.le_succ _) _ _ _
theorem ticks_any (t : Tm.T) (n : Int) (w : World) (hf : Tm.Fit t) :
    Calls Try.prog 9 #[Tm.TV t, .int .i64 n] w fun e w' => e = .returned (.tuple #[Tm.TV (Tm.tk t (Tm.cnt n)).1, .int .i64 ((Tm.tk t (Tm.cnt n)).2 : Nat)]) ∧ Below w.heap.size w w' := by
  have CT := Lib.hid (counted_any n)
  have hm := Tm.cnt_le n
  generalize Tm.cnt n = m at *
  have TF := Lib.hid (Tm.tk_fit t hf)
  have TN := Lib.hid (Tm.tk_cnt t)
  obtain ⟨hT, hQ, hR⟩ := two20 w 24 24 (Tm.TC t) #[.bool false, .int .i64 0, .int .i64 0]
  go_enter Try.func9, Try.ntmps9
  go_wp2_with (go_at_call 22; (with_reducible refine (CT.out _).mono ?_); rintro e w1 ⟨rfl, rfl⟩)
  clear CT
  go_loopw [6, 11] (fun c i W => ∃ j : Nat, j ≤ m ∧ i = .int .i64 j ∧ c = .int .i64 ((Tm.tk t j).2 : Nat) ∧ Hid (BX W w.heap.size 24 (Tm.TC (Tm.tk t j).1)) ∧ Hid (BX W (w.heap.size + 1) 24 #[.bool false, .int .i64 0, .int .i64 0]) ∧ Hid (Below w.heap.size w W)) (fun _ i _ => m - (intOf i).toNat)
  case atStart => exact ⟨0, Nat.zero_le _, rfl, rfl, hQ, hR, hT⟩
  case round =>
    obtain ⟨j, hj, rfl, rfl, HQ, HR, HB⟩ := hrel
    clear hT hQ hR
    have hfj := TF.out j
    have hnj := TN.out j
    have hs := Tm.tk_succ t j
    by_cases h : j < m
    · have h' : (j : Int) < m := by omega
      generalize hu : (Tm.tk t j).1 = u at *
      generalize hk : (Tm.tk t j).2 = k at *
      obtain ⟨v, f, hv⟩ : ∃ v f, Tm.tick u = (v, f) := ⟨_, _, rfl⟩
      have TK := Lib.hid (fun W => tick_any u W hfj)
      rw [hv] at TK hs
      simp only at TK hs
      have HS := Lib.hid hs
      clear hs hv hu hk TF TN
      obtain ⟨p0, p1, p2, e0, e1, e2⟩ := HQ.out.three
      obtain ⟨uo, uw, ul⟩ := u
      obtain ⟨vo, vw, vl⟩ := v
      cases f with
      | true =>
        go_wp2_with (go_at_call 7; (with_reducible refine (TK.out _).mono ?_); rintro e w5 ⟨rfl, hb⟩; have HQ1 := Lib.hid ((HQ.out.later hb).alloc (.cells #[.bool vo, .int .i64 vw, .int .i64 vl] 24)); have HR1 := Lib.hid ((HR.out.later hb).alloc (.cells #[.bool vo, .int .i64 vw, .int .i64 vl] 24)); have HB1 := Lib.hid ((bthen HB.out hb).alloc (Nat.le_trans HB.out.size hb.size) (.cells #[.bool vo, .int .i64 vw, .int .i64 vl] 24)); clear HQ HR HB p0 p1 p2 e0 e1 e2 hb; obtain ⟨p0, p1, p2, e0, e1, e2⟩ := HQ1.out.three)
        go_roundw
        case rel => exact ⟨j + 1, by omega, by go_num, by rw [HS.out]; simp, by rw [HS.out]; exact HQ1.out.put3 _ _ _, (((HR1.out.other (Nat.succ_ne_self _) _).other (Nat.succ_ne_self _) _).other (Nat.succ_ne_self _) _), below3 HB1.out (Nat.le_refl _) _ _ _⟩
        case measure => simp [intOf]; omega
      | false =>
        go_wp2_with (go_at_call 7; (with_reducible refine (TK.out _).mono ?_); rintro e w5 ⟨rfl, hb⟩; have HQ1 := Lib.hid ((HQ.out.later hb).alloc (.cells #[.bool vo, .int .i64 vw, .int .i64 vl] 24)); have HR1 := Lib.hid ((HR.out.later hb).alloc (.cells #[.bool vo, .int .i64 vw, .int .i64 vl] 24)); have HB1 := Lib.hid ((bthen HB.out hb).alloc (Nat.le_trans HB.out.size hb.size) (.cells #[.bool vo, .int .i64 vw, .int .i64 vl] 24)); clear HQ HR HB p0 p1 p2 e0 e1 e2 hb; obtain ⟨p0, p1, p2, e0, e1, e2⟩ := HQ1.out.three)
        go_roundw
        case rel => exact ⟨j + 1, by omega, by go_num, by rw [HS.out]; simp, by rw [HS.out]; exact HQ1.out.put3 _ _ _, (((HR1.out.other (Nat.succ_ne_self _) _).other (Nat.succ_ne_self _) _).other (Nat.succ_ne_self _) _), below3 HB1.out (Nat.le_refl _) _ _ _⟩
        case measure => simp [intOf]; omega
    · obtain rfl : j = m := by omega
      obtain ⟨p0, p1, p2, e0, e1, e2⟩ := HQ.out.three
      obtain ⟨q0, q1, q2, f0, f1, f2⟩ := HR.out.three
      generalize hu : (Tm.tk t j).1 = u at *
      generalize hk : (Tm.tk t j).2 = k at *
      have HU := Lib.hid hu
      have HK := Lib.hid hk
      clear hu hk hs
      obtain ⟨uo, uw, ul⟩ := u
      go_wp2
      obtain ⟨r0, r1, r2, _⟩ := (HR.out.put3 (.bool uo) (.int .i64 uw) (.int .i64 ul)).three
      refine bodyPost_ret (v := .tuple #[Tm.TV ⟨uo, uw, ul⟩, .int .i64 k]) (by simp [results, Try.f9, go_sem, r0, r1, r2]) rfl ⟨by rw [HU.out, HK.out], ?_⟩
      exact below3 HB.out (Nat.le_succ _) _ _ _
end Go.Proofs.Ytkbmeikdgbdogaa
