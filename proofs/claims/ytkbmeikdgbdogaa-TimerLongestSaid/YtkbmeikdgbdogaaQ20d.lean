/- LAYER 20, timer: the document's Ticks, Longest. -/
import Derived.Test.YtkbmeikdgbdogaaQ20c
namespace Go.Proofs.Ytkbmeikdgbdogaa
open Go Go.RowKit
set_option maxHeartbeats 2000000
set_option maxRecDepth 100000
set_option linter.unusedVariables false
theorem refticks_any (t : Tm.T) (n : Int) (w : World) (hf : Tm.Fit t) :
    Calls Try.prog 10 #[Tm.TV t, .int .i64 n] w fun e w' => e = .returned (.tuple #[Tm.TV (Tm.tk t (Tm.cnt n)).1, .int .i64 ((Tm.tk t (Tm.cnt n)).2 : Nat)]) ∧ Below w.heap.size w w' := by
  have hm := Tm.cnt_le n
  have hlt := Tm.cnt_lt n
  generalize Tm.cnt n = m at *
  have HL := Lib.hid hlt
  clear hlt
  have TF := Lib.hid (Tm.tk_fit t hf)
  have TN := Lib.hid (Tm.tk_cnt t)
  obtain ⟨hT, hQ, hR⟩ := two20 w 23 23 (Tm.TC t) #[.bool false, .int .i64 0, .int .i64 0]
  go_enter Try.func10, Try.ntmps10
  go_wp2
  go_loopw [6, 7] (fun c i W => ∃ j : Nat, j ≤ m ∧ i = .int .i64 j ∧ c = .int .i64 ((Tm.tk t j).2 : Nat) ∧ Hid (BX W w.heap.size 23 (Tm.TC (Tm.tk t j).1)) ∧ Hid (BX W (w.heap.size + 1) 23 #[.bool false, .int .i64 0, .int .i64 0]) ∧ Hid (Below w.heap.size w W)) (fun _ i _ => m - (intOf i).toNat)
  case atStart => exact ⟨0, Nat.zero_le _, rfl, rfl, hQ, hR, hT⟩
  case round =>
    obtain ⟨j, hj, rfl, rfl, HQ, HR, HB⟩ := hrel
    clear hT hQ hR
    have hfj := TF.out j
    have hnj := TN.out j
    have hs := Tm.tk_succ t j
    by_cases h : j < m
    · have h' := ((HL.out j).1 h).1
      have h'' := ((HL.out j).1 h).2
      have h3 : (j : Int) < 10000 := by omega
      generalize hu : (Tm.tk t j).1 = u at *
      generalize hk : (Tm.tk t j).2 = k at *
      obtain ⟨v, f, hv⟩ : ∃ v f, Tm.tick u = (v, f) := ⟨_, _, rfl⟩
      have TK := Lib.hid (fun W => reftick_any u W hfj)
      rw [hv] at TK hs
      simp only at TK hs
      have HS := Lib.hid hs
      clear hs hv hu hk TF TN
      obtain ⟨p0, p1, p2, e0, e1, e2⟩ := HQ.out.three
      obtain ⟨uo, uw, ul⟩ := u
      obtain ⟨vo, vw, vl⟩ := v
      cases f with
      | true =>
        go_wp2_with (go_at_call 8; (with_reducible refine (TK.out _).mono ?_); rintro e w5 ⟨rfl, hb⟩; have HQ1 := Lib.hid ((HQ.out.later hb).alloc (.cells #[.bool vo, .int .i64 vw, .int .i64 vl] 23)); have HR1 := Lib.hid ((HR.out.later hb).alloc (.cells #[.bool vo, .int .i64 vw, .int .i64 vl] 23)); have HB1 := Lib.hid ((bthen HB.out hb).alloc (Nat.le_trans HB.out.size hb.size) (.cells #[.bool vo, .int .i64 vw, .int .i64 vl] 23)); clear HQ HR HB p0 p1 p2 e0 e1 e2 hb; obtain ⟨p0, p1, p2, e0, e1, e2⟩ := HQ1.out.three)
        go_roundw
        case rel => exact ⟨j + 1, by omega, by go_num, by rw [HS.out]; simp, by rw [HS.out]; exact HQ1.out.put3 _ _ _, (((HR1.out.other (Nat.succ_ne_self _) _).other (Nat.succ_ne_self _) _).other (Nat.succ_ne_self _) _), below3 HB1.out (Nat.le_refl _) _ _ _⟩
        case measure => simp [intOf]; omega
      | false =>
        go_wp2_with (go_at_call 8; (with_reducible refine (TK.out _).mono ?_); rintro e w5 ⟨rfl, hb⟩; have HQ1 := Lib.hid ((HQ.out.later hb).alloc (.cells #[.bool vo, .int .i64 vw, .int .i64 vl] 23)); have HR1 := Lib.hid ((HR.out.later hb).alloc (.cells #[.bool vo, .int .i64 vw, .int .i64 vl] 23)); have HB1 := Lib.hid ((bthen HB.out hb).alloc (Nat.le_trans HB.out.size hb.size) (.cells #[.bool vo, .int .i64 vw, .int .i64 vl] 23)); clear HQ HR HB p0 p1 p2 e0 e1 e2 hb; obtain ⟨p0, p1, p2, e0, e1, e2⟩ := HQ1.out.three)
        go_roundw
        case rel => exact ⟨j + 1, by omega, by go_num, by rw [HS.out]; simp, by rw [HS.out]; exact HQ1.out.put3 _ _ _, (((HR1.out.other (Nat.succ_ne_self _) _).other (Nat.succ_ne_self _) _).other (Nat.succ_ne_self _) _), below3 HB1.out (Nat.le_refl _) _ _ _⟩
        case measure => simp [intOf]; omega
    · have hn := fun a => h ((HL.out j).2 a)
      obtain rfl : j = m := by omega
      obtain ⟨p0, p1, p2, e0, e1, e2⟩ := HQ.out.three
      obtain ⟨q0, q1, q2, f0, f1, f2⟩ := HR.out.three
      generalize hu : (Tm.tk t j).1 = u at *
      generalize hk : (Tm.tk t j).2 = k at *
      have HU := Lib.hid hu
      have HK := Lib.hid hk
      clear hu hk hs
      obtain ⟨uo, uw, ul⟩ := u
      by_cases h5 : (j : Int) < n
      · have h6 : ¬ (j : Int) < 10000 := fun h7 => h ((HL.out j).2 ⟨h5, by omega⟩)
        clear hn
        go_wp2
        obtain ⟨r0, r1, r2, _⟩ := (HR.out.put3 (.bool uo) (.int .i64 uw) (.int .i64 ul)).three
        refine bodyPost_ret (v := .tuple #[Tm.TV ⟨uo, uw, ul⟩, .int .i64 k]) (by simp [results, Try.f10, go_sem, r0, r1, r2]) rfl ⟨by rw [HU.out, HK.out], ?_⟩
        exact below3 HB.out (Nat.le_succ _) _ _ _
      · clear hn
        go_wp2
        obtain ⟨r0, r1, r2, _⟩ := (HR.out.put3 (.bool uo) (.int .i64 uw) (.int .i64 ul)).three
        refine bodyPost_ret (v := .tuple #[Tm.TV ⟨uo, uw, ul⟩, .int .i64 k]) (by simp [results, Try.f10, go_sem, r0, r1, r2]) rfl ⟨by rw [HU.out, HK.out], ?_⟩
        exact below3 HB.out (Nat.le_succ _) _ _ _
theorem reflongest_any (n : Int) (w : World) :
    Calls Try.prog 19 #[.int .i64 n] w fun e w' => e = .returned (.int .i64 (Tm.lng (Tm.cnt n))) ∧ Below w.heap.size w w' := by
  by_cases h1 : n < 1
  · have hc : Tm.cnt n = 0 := by unfold Tm.cnt; rw [if_pos (by omega)]
    rw [hc]
    go_enter Try.func19, Try.ntmps19
    go_wp2
    go_ret
    exact ⟨rfl, Below.refl _ _⟩
  · have hm := Tm.cnt_le n
    have h1m : 1 ≤ Tm.cnt n := (Tm.cnt_lt n 0).2 ⟨by omega, by omega⟩
    have hmin : (n ≤ 10000 → n = (Tm.cnt n : Int)) ∧ (10000 < n → Tm.cnt n = 10000) := by unfold Tm.cnt; rw [if_neg (by omega)]; split <;> constructor <;> intro <;> omega
    generalize Tm.cnt n = m at *
    have HM := Lib.hid hmin
    clear hmin
    have ST := Lib.hid (fun W => refstart_any 1 W)
    rw [show Tm.start 1 = (Tm.wh 1, 0) from rfl] at ST
    simp only [Tm.wh] at ST
    go_enter Try.func19, Try.ntmps19
    go_wp2_with (go_at_call 13; (with_reducible refine (ST.out _).mono ?_); rintro e w1 ⟨rfl, hb⟩; have HB0 := Lib.hid (hb.alloc hb.size (.cells #[.bool true, .int .i64 1, .int .i64 1] 23)); have HQ0 := Lib.hid (BX.new w1 23 #[.bool true, .int .i64 1, .int .i64 1]); have HS0 := hb.size; clear hb)
    obtain ⟨p, hp⟩ : ∃ p, w1.heap.size = p := ⟨_, rfl⟩
    rw [hp] at HQ0 HS0
    simp only [hp]
    clear ST
    go_loopw [5, 6] (fun c i W => ∃ (k : Nat) (a : Int), k ≤ m ∧ 0 ≤ a ∧ a < Tm.ws k ∧ (k = m → a = 0) ∧ i = .int .i64 (Tm.lng k + a) ∧ c = .int .i64 k ∧ Hid (BX W p 23 (Tm.TC (Tm.at_ k a))) ∧ Hid (Below w.heap.size w W)) (fun _ i _ => (160000 - intOf i).toNat)
    case atStart => exact ⟨0, 0, Nat.zero_le _, by omega, by simp [Tm.ws], by omega, rfl, rfl, HQ0.out, HB0.out⟩
    case round =>
      obtain ⟨k, a, hk, ha0, ha1, hka, rfl, rfl, HQ, HB⟩ := hrel
      have hwb := Tm.ws_bd k
      have hlb := Tm.lng_bd k
      by_cases h : k < m
      · have h' : (k : Int) < m := by omega
        have hl : Tm.lng k + a < 160000 := by omega
        have hn1 := HM.out.1
        have hn2 := HM.out.2
        have h3 : Hid (BX wr p 23 #[.bool true, .int .i64 (Tm.ws k), .int .i64 (Tm.ws k - a)]) := HQ.out
        obtain ⟨p0, p1, p2, e0, e1, e2⟩ := h3.out.three
        have hat := Tm.at_tick k a ha0 ha1
        have hfit : Tm.Fit (Tm.at_ k a) := by simp only [Tm.Fit, Tm.at_]; omega
        have TK := Lib.hid (fun W => reftick_any (Tm.at_ k a) W hfit)
        rw [hat] at TK
        by_cases h4 : a + 1 < Tm.ws k
        · rw [if_pos h4] at TK
          have hnx : Hid (k ≤ m ∧ 0 ≤ a + 1 ∧ a + 1 < Tm.ws k ∧ (k = m → a + 1 = 0)) := ⟨by omega, by omega, h4, by omega⟩
          have HE : Hid (Tm.at_ k (a + 1) = ⟨true, Tm.ws k, Tm.ws k - (a + 1)⟩) := rfl
          have HL1 : Hid (Tm.lng k + a + 1 = Tm.lng k + (a + 1)) := show _ = _ by omega
          simp only [Tm.at_] at TK
          generalize Tm.ws k - (a + 1) = z at *
          generalize Tm.ws k - a = x at *
          generalize hy : Tm.ws k = y at *
          have HY := Lib.hid hy
          clear hy
          clear hat hfit hka HQ
          generalize hT : Tm.lng k + a = t at *
          have t0 : 0 ≤ t := by omega
          clear hT
          rcases Int.lt_or_le 10000 n with h5 | h5
          · obtain rfl := hn2 h5
            clear hn1 hn2
            go_wp2_with (go_at_call 8; (with_reducible refine (TK.out _).mono ?_); rintro e w5 ⟨rfl, hb⟩; have HQ1 := Lib.hid ((h3.out.later hb).alloc (.cells #[.bool true, .int .i64 y, .int .i64 z] 23)); have HB1 := Lib.hid ((bthen HB.out hb).alloc (Nat.le_trans HB.out.size hb.size) (.cells #[.bool true, .int .i64 y, .int .i64 z] 23)); clear h3 HB p0 p1 p2 e0 e1 e2 hb; obtain ⟨p0, p1, p2, e0, e1, e2⟩ := HQ1.out.three)
            go_roundw
            case rel => exact ⟨k, a + 1, hnx.out.1, hnx.out.2.1, by rw [HY.out]; exact hnx.out.2.2.1, hnx.out.2.2.2, by rw [HL1.out], rfl, by rw [HE.out]; exact HQ1.out.put3 _ _ _, below3 HB1.out HS0 _ _ _⟩
            case measure => simp [intOf]; omega
          · obtain rfl := hn1 h5
            clear hn1 hn2
            go_wp2_with (go_at_call 8; (with_reducible refine (TK.out _).mono ?_); rintro e w5 ⟨rfl, hb⟩; have HQ1 := Lib.hid ((h3.out.later hb).alloc (.cells #[.bool true, .int .i64 y, .int .i64 z] 23)); have HB1 := Lib.hid ((bthen HB.out hb).alloc (Nat.le_trans HB.out.size hb.size) (.cells #[.bool true, .int .i64 y, .int .i64 z] 23)); clear h3 HB p0 p1 p2 e0 e1 e2 hb; obtain ⟨p0, p1, p2, e0, e1, e2⟩ := HQ1.out.three)
            go_roundw
            case rel => exact ⟨k, a + 1, hnx.out.1, hnx.out.2.1, by rw [HY.out]; exact hnx.out.2.2.1, hnx.out.2.2.2, by rw [HL1.out], rfl, by rw [HE.out]; exact HQ1.out.put3 _ _ _, below3 HB1.out HS0 _ _ _⟩
            case measure => simp [intOf]; omega
        · rw [if_neg h4] at TK
          have hw1 := Tm.ws_bd (k + 1)
          have hnx : Hid (k + 1 ≤ m ∧ (0 : Int) ≤ 0 ∧ 0 < Tm.ws (k + 1) ∧ (k + 1 = m → (0 : Int) = 0)) := ⟨by omega, by omega, by omega, fun _ => rfl⟩
          have HE : Hid (Tm.at_ (k + 1) 0 = ⟨true, Tm.ws (k + 1), Tm.ws (k + 1)⟩) := by show _ = _; simp [Tm.at_]
          have HL1 : Hid (Tm.lng k + a + 1 = Tm.lng (k + 1) + 0) := show _ = _ by simp only [Tm.lng]; omega
          rw [HE.out] at TK
          simp only [Tm.at_] at TK
          generalize hy : Tm.ws (k + 1) = y at *
          have HY := Lib.hid hy
          clear hy
          generalize Tm.ws k - a = x at *
          generalize Tm.ws k = u at *
          clear hat hfit hka HQ
          generalize hT : Tm.lng k + a = t at *
          have t0 : 0 ≤ t := by omega
          clear hT
          rcases Int.lt_or_le 10000 n with h5 | h5
          · obtain rfl := hn2 h5
            clear hn1 hn2
            go_wp2_with (go_at_call 8; (with_reducible refine (TK.out _).mono ?_); rintro e w5 ⟨rfl, hb⟩; have HQ1 := Lib.hid ((h3.out.later hb).alloc (.cells #[.bool true, .int .i64 y, .int .i64 y] 23)); have HB1 := Lib.hid ((bthen HB.out hb).alloc (Nat.le_trans HB.out.size hb.size) (.cells #[.bool true, .int .i64 y, .int .i64 y] 23)); clear h3 HB p0 p1 p2 e0 e1 e2 hb; obtain ⟨p0, p1, p2, e0, e1, e2⟩ := HQ1.out.three)
            go_roundw
            case rel => exact ⟨k + 1, 0, hnx.out.1, Int.le_refl _, by rw [HY.out]; exact hnx.out.2.2.1, fun _ => rfl, by rw [HL1.out], by go_num, by rw [HE.out]; exact HQ1.out.put3 _ _ _, below3 HB1.out HS0 _ _ _⟩
            case measure => simp [intOf]; omega
          · obtain rfl := hn1 h5
            clear hn1 hn2
            go_wp2_with (go_at_call 8; (with_reducible refine (TK.out _).mono ?_); rintro e w5 ⟨rfl, hb⟩; have HQ1 := Lib.hid ((h3.out.later hb).alloc (.cells #[.bool true, .int .i64 y, .int .i64 y] 23)); have HB1 := Lib.hid ((bthen HB.out hb).alloc (Nat.le_trans HB.out.size hb.size) (.cells #[.bool true, .int .i64 y, .int .i64 y] 23)); clear h3 HB p0 p1 p2 e0 e1 e2 hb; obtain ⟨p0, p1, p2, e0, e1, e2⟩ := HQ1.out.three)
            go_roundw
            case rel => exact ⟨k + 1, 0, hnx.out.1, Int.le_refl _, by rw [HY.out]; exact hnx.out.2.2.1, fun _ => rfl, by rw [HL1.out], by go_num, by rw [HE.out]; exact HQ1.out.put3 _ _ _, below3 HB1.out HS0 _ _ _⟩
            case measure => simp [intOf]; omega
      · obtain rfl : k = m := by omega
        obtain rfl := hka rfl
        have hn1 := HM.out.1
        have hn2 := HM.out.2
        rw [Int.add_zero]
        rcases Int.lt_or_le 10000 n with h5 | h5
        · obtain rfl := hn2 h5
          clear hn1 hn2
          generalize hT : Tm.lng 10000 = t at *
          have HT := Lib.hid hT
          clear hT
          go_wp2
          go_ret
          exact ⟨by rw [HT.out]; rfl, HB.out⟩
        · obtain rfl := hn1 h5
          clear hn1 hn2
          generalize hT : Tm.lng k = t at *
          have HT := Lib.hid hT
          clear hT
          go_wp2
          go_ret
          exact ⟨by rw [HT.out]; rfl, HB.out⟩
end Go.Proofs.Ytkbmeikdgbdogaa
