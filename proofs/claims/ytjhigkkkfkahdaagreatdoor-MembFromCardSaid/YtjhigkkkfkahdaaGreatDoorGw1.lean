/- WALKS OF LAYER 1, FIRST PART: numf.Most, Plain and their reference's, in every memory; no conditions but those that the theorems name. -/
import Derived.Test.YtjhigkkkfkahdaaGreatDoorChecked
import Derived.Test.YtjhigkkkfkahdaaGreatDoorGn1
import Derived.Test.YtjhigkkkfkahdaaGreatDoorCm
namespace Go.Proofs.YtjhigkkkfkahdaaGreatDoor
open Go.RowKit
set_option maxHeartbeats 400000
/- THE CALLS OF numf AND OF ITS REFERENCE, BY CONTRACTS: what each answers, and what it does to the memory. -/
theorem isWidth_any (n : Int) (w : World) :
    Calls Tryz.prog 95 #[.int .i64 n] w fun e w' => e = .returned (.bool (Nf.wide n)) ∧ w = w' := by
  go_enter Tryz.func95, Tryz.ntmps95
  go_wp2_with fail
  all_goals
    go_ret
    refine ⟨?_, rfl⟩
    simp [Nf.wide, *]
theorem refwide_any (n : Int) (w : World) :
    Calls Tryz.prog 127 #[.int .i64 n] w fun e w' => e = .returned (.bool (Nf.wide n)) ∧ w = w' := by
  go_enter Tryz.func127, Tryz.ntmps127
  go_wp2_with fail
  all_goals
    go_ret
    refine ⟨?_, rfl⟩
    simp [Nf.wide, *]
theorem most_any (n : Int) (w : World) :
    Calls Tryz.prog 143 #[.int .i64 n] w fun e w' => e = .returned (.int .i64 (Nf.most n)) ∧ w = w' := by
  go_enter Tryz.func143, Tryz.ntmps143
  go_wp2_with fail
  all_goals go_ret
  all_goals refine ⟨ret_int ?_, rfl⟩
  all_goals first
    | exact Nf.most_mm n
    | (have h : 20 < if n < 0 then 0 else n := by assumption
       rw [Nf.most_high n (by split at h <;> omega)]; exact Nf.most_w1)
    | (rw [Nf.most_low n (by assumption)]; exact Nf.most_w2)
    | (have h : (if n < 0 then 0 else n) ≤ 20 := by assumption
       exact Nf.most_mid' n (by assumption) (by split at h <;> omega))
theorem refmost_any (n : Int) (w : World) :
    Calls Tryz.prog 149 #[.int .i64 n] w fun e w' => e = .returned (.int .i64 (Nf.most n)) ∧ w = w' := by
  have hc := Nf.most_clamp n
  obtain ⟨hm1, hm2, hm3⟩ := Nf.clamp_bd n
  generalize Nf.clamp n = m at *
  have HC := Lib.hid hc; clear hc
  have HM2 := Lib.hid hm2; clear hm2
  have HM3 := Lib.hid hm3; clear hm3
  go_enter Tryz.func149, Tryz.ntmps149
  go_wp2_with fail
  go_loop [3, 4] (fun v i => ∃ k : Nat, k ≤ m ∧ i = .int .i64 k ∧ v = .int .i64 (Nf.most (k : Int))) (fun _ i => m - (intOf i).toNat)
  case atStart => exact ⟨0, by omega, rfl, by simp [Nf.most]⟩
  case round =>
    obtain ⟨k, hk, rfl, rfl⟩ := hrel
    have hb := Nf.most_bd (k : Int)
    by_cases hlt : k < m
    · have h1 : (k : Int) < n := by have := HM2.out; omega
      have h2 : (k : Int) < 20 := by omega
      have hs := Lib.hid (Nf.most_succ k (by omega))
      go_wp2
      go_round
      case rel => exact ⟨k + 1, by omega, by go_num, by rw [hs.out]⟩
      case measure => simp [intOf]; omega
    · have e : k = m := by omega
      subst e
      by_cases h1 : (k : Int) < n
      · have h2 : ¬ (k : Int) < 20 := by have := HM3.out; omega
        go_wp2
        go_ret
        exact ⟨ret_int HC.out.symm, rfl⟩
      · go_wp2
        go_ret
        exact ⟨ret_int HC.out.symm, rfl⟩
theorem plain_any (n k : Int) (w : World) :
    Calls Tryz.prog 141 #[.int .i64 n, .int .i64 k] w fun e w' => e = .returned (.bool (Nf.plain n k)) ∧ w = w' := by
  cases hw : Nf.wide k with
  | false =>
    have e : Nf.plain n k = false := by simp [Nf.plain, hw]
    have HE := Lib.hid e; have HW := Lib.hid hw; clear e hw
    go_enter Tryz.func141, Tryz.ntmps141
    go_wp2_with (go_at_call 95; refine (isWidth_any _ _).mono ?_; rintro e w' ⟨rfl, rfl⟩; rw [HW.out])
    go_ret
    exact ⟨ret_bool (by rw [HE.out]), rfl⟩
  | true =>
    have e : Nf.plain n k = (decide (0 ≤ n) && decide (n ≤ Nf.most (k - 1))) := by simp [Nf.plain, hw]
    have hk : 8 ≤ k ∧ k ≤ 12 := by simp [Nf.wide] at hw; omega
    have HE := Lib.hid e; have HW := Lib.hid hw; clear e hw
    by_cases hn : 0 ≤ n
    · go_enter Tryz.func141, Tryz.ntmps141
      go_wp2_with (first | (go_at_call 95; refine (isWidth_any _ _).mono ?_; rintro e w' ⟨rfl, rfl⟩; rw [HW.out]) | (go_at_call 143; refine (most_any _ _).mono ?_; rintro e w' ⟨rfl, rfl⟩))
      go_ret
      exact ⟨ret_bool (by rw [HE.out, decide_eq_true hn]; rfl), rfl⟩
    · go_enter Tryz.func141, Tryz.ntmps141
      go_wp2_with (first | (go_at_call 95; refine (isWidth_any _ _).mono ?_; rintro e w' ⟨rfl, rfl⟩; rw [HW.out]) | (go_at_call 143; refine (most_any _ _).mono ?_; rintro e w' ⟨rfl, rfl⟩))
      go_ret
      exact ⟨ret_bool (by rw [HE.out, decide_eq_false (by omega)]; rfl), rfl⟩
theorem refplain_any (n k : Int) (w : World) :
    Calls Tryz.prog 128 #[.int .i64 n, .int .i64 k] w fun e w' => e = .returned (.bool (Nf.plain n k)) ∧ w = w' := by
  cases hw : Nf.wide k with
  | false =>
    have e : Nf.plain n k = false := by simp [Nf.plain, hw]
    have HE := Lib.hid e; have HW := Lib.hid hw; clear e hw
    go_enter Tryz.func128, Tryz.ntmps128
    go_wp2_with (go_at_call 127; refine (refwide_any _ _).mono ?_; rintro e w' ⟨rfl, rfl⟩; rw [HW.out])
    go_ret
    exact ⟨ret_bool (by rw [HE.out]), rfl⟩
  | true =>
    have e : Nf.plain n k = (decide (0 ≤ n) && decide (n ≤ Nf.most (k - 1))) := by simp [Nf.plain, hw]
    have hk : 8 ≤ k ∧ k ≤ 12 := by simp [Nf.wide] at hw; omega
    have HE := Lib.hid e; have HW := Lib.hid hw; clear e hw
    by_cases hn : 0 ≤ n
    · go_enter Tryz.func128, Tryz.ntmps128
      go_wp2_with (first | (go_at_call 127; refine (refwide_any _ _).mono ?_; rintro e w' ⟨rfl, rfl⟩; rw [HW.out]) | (go_at_call 149; refine (refmost_any _ _).mono ?_; rintro e w' ⟨rfl, rfl⟩))
      go_ret
      exact ⟨ret_bool (by rw [HE.out, decide_eq_true hn]; rfl), rfl⟩
    · go_enter Tryz.func128, Tryz.ntmps128
      go_wp2_with (first | (go_at_call 127; refine (refwide_any _ _).mono ?_; rintro e w' ⟨rfl, rfl⟩; rw [HW.out]) | (go_at_call 149; refine (refmost_any _ _).mono ?_; rintro e w' ⟨rfl, rfl⟩))
      go_ret
      exact ⟨ret_bool (by rw [HE.out, decide_eq_false (by omega)]; rfl), rfl⟩
theorem low_any (n : Int) (w : World) :
    Calls Tryz.prog 130 #[.int .i64 n] w fun e w' => e = .returned (.int .u8 (n % 256)) ∧ w = w' := by
  go_enter Tryz.func130, Tryz.ntmps130
  go_wp2_with fail
  go_ret
  exact ⟨ret_int (Nf.low_eq n), rfl⟩
theorem floor_any (n : Int) (w : World) (h0 : -9223372036854775808 ≤ n) (h1 : n ≤ 9223372036854775807) :
    Calls Tryz.prog 131 #[.int .i64 n] w fun e w' => e = .returned (.int .i64 (n / 256)) ∧ w = w' := by
  have hb : -9223372036854775808 ≤ n.tdiv 256 ∧ n.tdiv 256 ≤ 9223372036854775807 := Nf.td_bd n h0 h1
  go_enter Tryz.func131, Tryz.ntmps131
  go_wp2_with fail
  · go_ret
    exact ⟨ret_int (Nf.floor_neg n h0 (by assumption)), rfl⟩
  · go_ret
    exact ⟨ret_int (Nf.floor_pos n (by assumption)), rfl⟩
end Go.Proofs.YtjhigkkkfkahdaaGreatDoor
/- WALKS OF LAYER 1, SECOND PART: numf.Octal, Put and their reference's: what is laid is what the plain functions of N1 say; the numbers are of 64 bits. -/
namespace Go.Proofs.YtjhigkkkfkahdaaGreatDoor
open Go.RowKit
set_option maxHeartbeats 400000
set_option maxRecDepth 20000
/- THE CALLS OF numf AND OF ITS REFERENCE THAT LAY A NUMBER. -/
theorem octal_any (n d : Int) (w : World) (h0 : -9223372036854775808 ≤ n) (h1 : n ≤ 9223372036854775807) :
    Calls Tryz.prog 118 #[.int .i64 n, .int .i64 d] w fun e w' => ∃ v, e = .returned (.tuple #[v, .int .i64 (Nf.octS n d).2]) ∧ OB w' w.heap.size 5 v (Nf.octS n d).1 ∧ Below w.heap.size w w' := by
  obtain ⟨i0, hi, hz0, hz1, hz2⟩ := info_parts info_u8
  by_cases hd : 1 ≤ d ∧ d ≤ 20
  · obtain ⟨k, rfl⟩ : ∃ k : Nat, d = k := ⟨d.toNat, by omega⟩
    by_cases hn : 0 ≤ n
    · by_cases hm : n ≤ Nf.most k
      · have e : Nf.octS n k = (Nf.digs 8 48 n k, 0) := by simp [Nf.octS, show ¬ ((k : Int) < 1 ∨ 20 < (k : Int)) from by omega, show ¬ (n < 0 ∨ Nf.most k < n) from by omega]
        have HE := Lib.hid e; clear e
        have g1 : decide ((k : Int) < 1) = false := by simp; omega
        have g2 : decide (20 < (k : Int)) = false := by simp; omega
        have g3 : decide (n < 0) = false := by simp; omega
        have g4 : decide (Nf.most k < n) = false := by simp; omega
        go_enter Tryz.func118, Tryz.ntmps118
        go_wp2_with (first | (go_at_call 143; refine (most_any _ _).mono ?_; rintro e w' ⟨rfl, rfl⟩) | (at_make; refine wpList_make_full _ rfl _ _ 27 rfl w.heap.size 5 i0 _ 1 Tryz.underlying27 hi hz0 hz1 .i64 .i64 _ _ k rfl rfl rfl rfl (by rw [hz2]; omega) (by unfold maxLen; omega) (Nat.le_refl _) ?_; intro w1 hown hgrow))
        go_loopw [0, 7] (fun v i wr => ∃ j : Nat, j ≤ k ∧ i = .int .i64 ((k : Int) - 1 - j) ∧ v = .int .i64 (n / 8 ^ j) ∧ OBn wr w.heap.size 5 (.slice (some ⟨w.heap.size, 0, none⟩) k k) k (List.replicate (k - j) 0 ++ Nf.digs 8 48 n j) ∧ Below w.heap.size w wr)
          (fun _ i _ => (intOf i + 1).toNat)
        case atStart => exact ⟨0, by omega, by simp, by simp, by simpa [Nf.digs] using OBn.made hown, (Below.refl _ _).grown hgrow (Nat.le_refl _) (by simp)⟩
        case round =>
          obtain ⟨j, hj, rfl, rfl, ho, hbel⟩ := hrel
          have hm := Nf.pow_div_bd n 8 hn (by omega) j
          generalize hmm : n / 8 ^ j = m at *
          have HMM := Lib.hid hmm; clear hmm
          by_cases hlt : j < k
          · have hc := ho.cell (k - 1 - j) (by omega)
            have hf := ho.free (k - 1 - j)
            go_wp2
            go_roundw
            case rel =>
              refine ⟨j + 1, by omega, by go_num, by rw [← Nf.div_pow n 8 (by omega) j, HMM.out], ?_, hbel.setCell (Nat.le_refl _) _⟩
              have h := ho.stored (k - 1 - j) (48 + m % 8)
              rw [← HMM.out, Nf.set_digs 8 48 n 0 k j hlt] at h
              rw [Nf.and7 m (by omega) (by omega)]
              have e8 : (48 + m % 8) % 256 = 48 + m % 8 := by omega
              rw [e8, ← HMM.out]
              exact h
            case measure => simp [intOf]; omega
          · have e : j = k := by omega
            subst e
            go_wp2
            go_ret2
            refine ⟨_, ret_vi (by rw [HE.out]), ?_, hbel⟩
            rw [HE.out]
            simpa using ho.ob
      · have e : Nf.octS n k = ([], 10) := by simp [Nf.octS, show ¬ ((k : Int) < 1 ∨ 20 < (k : Int)) from by omega, show (n < 0 ∨ Nf.most k < n) from by omega]
        have HE := Lib.hid e; clear e
        have g1 : decide ((k : Int) < 1) = false := by simp; omega
        have g2 : decide (20 < (k : Int)) = false := by simp; omega
        have g3 : decide (n < 0) = false := by simp; omega
        have g4 : decide (Nf.most k < n) = true := by simp; omega
        go_enter Tryz.func118, Tryz.ntmps118
        go_wp2_with (go_at_call 143; refine (most_any _ _).mono ?_; rintro e w' ⟨rfl, rfl⟩)
        go_ret2
        refine ⟨_, ret_vi (by rw [HE.out]), ?_, Below.refl _ _⟩
        rw [HE.out]; exact OB.nil _ _ _
    · have e : Nf.octS n k = ([], 10) := by simp [Nf.octS, show ¬ ((k : Int) < 1 ∨ 20 < (k : Int)) from by omega, show (n < 0 ∨ Nf.most k < n) from by omega]
      have HE := Lib.hid e; clear e
      have g1 : decide ((k : Int) < 1) = false := by simp; omega
      have g2 : decide (20 < (k : Int)) = false := by simp; omega
      have g3 : decide (n < 0) = true := by simp; omega
      go_enter Tryz.func118, Tryz.ntmps118
      go_wp2_with (go_at_call 143; refine (most_any _ _).mono ?_; rintro e w' ⟨rfl, rfl⟩)
      go_ret2
      refine ⟨_, ret_vi (by rw [HE.out]), ?_, Below.refl _ _⟩
      rw [HE.out]; exact OB.nil _ _ _
  · have e : Nf.octS n d = ([], 1) := by simp [Nf.octS, show (d < 1 ∨ 20 < d) from by omega]
    have HE := Lib.hid e; clear e
    by_cases g : d < 1
    · have g1 : decide (d < 1) = true := by simp; omega
      go_enter Tryz.func118, Tryz.ntmps118
      go_wp2_with (go_at_call 143; refine (most_any _ _).mono ?_; rintro e w' ⟨rfl, rfl⟩)
      go_ret2
      refine ⟨_, ret_vi (by rw [HE.out]), ?_, Below.refl _ _⟩
      rw [HE.out]; exact OB.nil _ _ _
    · have g1 : decide (d < 1) = false := by simp; omega
      have g2 : decide (20 < d) = true := by simp; omega
      go_enter Tryz.func118, Tryz.ntmps118
      go_wp2_with (go_at_call 143; refine (most_any _ _).mono ?_; rintro e w' ⟨rfl, rfl⟩)
      go_ret2
      refine ⟨_, ret_vi (by rw [HE.out]), ?_, Below.refl _ _⟩
      rw [HE.out]; exact OB.nil _ _ _
theorem refoctal_any (n d : Int) (w : World) (h0 : -9223372036854775808 ≤ n) (h1 : n ≤ 9223372036854775807) :
    Calls Tryz.prog 129 #[.int .i64 n, .int .i64 d] w fun e w' => ∃ v, e = .returned (.tuple #[v, .int .i64 (Nf.octS n d).2]) ∧ OB w' w.heap.size 5 v (Nf.octS n d).1 ∧ Below w.heap.size w w' := by
  obtain ⟨i0, hi, hz0, hz1, hz2⟩ := info_parts info_u8
  by_cases hd : 1 ≤ d ∧ d ≤ 20
  · obtain ⟨k, rfl⟩ : ∃ k : Nat, d = k := ⟨d.toNat, by omega⟩
    by_cases hn : 0 ≤ n
    · by_cases hm : n ≤ Nf.most k
      · have e : Nf.octS n k = (Nf.digs 8 48 n k, 0) := by simp [Nf.octS, show ¬ ((k : Int) < 1 ∨ 20 < (k : Int)) from by omega, show ¬ (n < 0 ∨ Nf.most k < n) from by omega]
        have HE := Lib.hid e; clear e
        have g1 : decide ((k : Int) < 1) = false := by simp; omega
        have g2 : decide (20 < (k : Int)) = false := by simp; omega
        have g3 : decide (n < 0) = false := by simp; omega
        have g4 : decide (Nf.most k < n) = false := by simp; omega
        go_enter Tryz.func129, Tryz.ntmps129
        go_wp2_with (first | (go_at_call 149; refine (refmost_any _ _).mono ?_; rintro e w' ⟨rfl, rfl⟩) | (at_make; refine wpList_make_full _ rfl _ _ 27 rfl w.heap.size 5 i0 _ 1 Tryz.underlying27 hi hz0 hz1 .i64 .i64 _ _ k rfl rfl rfl rfl (by rw [hz2]; omega) (by unfold maxLen; omega) (Nat.le_refl _) ?_; intro w1 hown hgrow))
        go_loopw [0, 7] (fun v i wr => ∃ j : Nat, j ≤ k ∧ i = .int .i64 ((k : Int) - 1 - j) ∧ v = .int .i64 (n / 8 ^ j) ∧ OBn wr w.heap.size 5 (.slice (some ⟨w.heap.size, 0, none⟩) k k) k (List.replicate (k - j) 0 ++ Nf.digs 8 48 n j) ∧ Below w.heap.size w wr)
          (fun _ i _ => (intOf i + 1).toNat)
        case atStart => exact ⟨0, by omega, by simp, by simp, by simpa [Nf.digs] using OBn.made hown, (Below.refl _ _).grown hgrow (Nat.le_refl _) (by simp)⟩
        case round =>
          obtain ⟨j, hj, rfl, rfl, ho, hbel⟩ := hrel
          have hm := Nf.pow_div_bd n 8 hn (by omega) j
          generalize hmm : n / 8 ^ j = m at *
          have HMM := Lib.hid hmm; clear hmm
          by_cases hlt : j < k
          · have hc := ho.cell (k - 1 - j) (by omega)
            have hf := ho.free (k - 1 - j)
            go_wp2
            go_roundw
            case rel =>
              refine ⟨j + 1, by omega, by go_num, by rw [← Nf.div_pow n 8 (by omega) j, HMM.out], ?_, hbel.setCell (Nat.le_refl _) _⟩
              have h := ho.stored (k - 1 - j) (48 + m % 8)
              rw [← HMM.out, Nf.set_digs 8 48 n 0 k j hlt] at h
              rw [← HMM.out]
              exact h
            case measure => simp [intOf]; omega
          · have e : j = k := by omega
            subst e
            go_wp2
            go_ret2
            refine ⟨_, ret_vi (by rw [HE.out]), ?_, hbel⟩
            rw [HE.out]
            simpa using ho.ob
      · have e : Nf.octS n k = ([], 10) := by simp [Nf.octS, show ¬ ((k : Int) < 1 ∨ 20 < (k : Int)) from by omega, show (n < 0 ∨ Nf.most k < n) from by omega]
        have HE := Lib.hid e; clear e
        have g1 : decide ((k : Int) < 1) = false := by simp; omega
        have g2 : decide (20 < (k : Int)) = false := by simp; omega
        have g3 : decide (n < 0) = false := by simp; omega
        have g4 : decide (Nf.most k < n) = true := by simp; omega
        go_enter Tryz.func129, Tryz.ntmps129
        go_wp2_with (go_at_call 149; refine (refmost_any _ _).mono ?_; rintro e w' ⟨rfl, rfl⟩)
        go_ret2
        refine ⟨_, ret_vi (by rw [HE.out]), ?_, Below.refl _ _⟩
        rw [HE.out]; exact OB.nil _ _ _
    · have e : Nf.octS n k = ([], 10) := by simp [Nf.octS, show ¬ ((k : Int) < 1 ∨ 20 < (k : Int)) from by omega, show (n < 0 ∨ Nf.most k < n) from by omega]
      have HE := Lib.hid e; clear e
      have g1 : decide ((k : Int) < 1) = false := by simp; omega
      have g2 : decide (20 < (k : Int)) = false := by simp; omega
      have g3 : decide (n < 0) = true := by simp; omega
      go_enter Tryz.func129, Tryz.ntmps129
      go_wp2_with (go_at_call 149; refine (refmost_any _ _).mono ?_; rintro e w' ⟨rfl, rfl⟩)
      go_ret2
      refine ⟨_, ret_vi (by rw [HE.out]), ?_, Below.refl _ _⟩
      rw [HE.out]; exact OB.nil _ _ _
  · have e : Nf.octS n d = ([], 1) := by simp [Nf.octS, show (d < 1 ∨ 20 < d) from by omega]
    have HE := Lib.hid e; clear e
    by_cases g : d < 1
    · have g1 : decide (d < 1) = true := by simp; omega
      go_enter Tryz.func129, Tryz.ntmps129
      go_wp2_with (go_at_call 149; refine (refmost_any _ _).mono ?_; rintro e w' ⟨rfl, rfl⟩)
      go_ret2
      refine ⟨_, ret_vi (by rw [HE.out]), ?_, Below.refl _ _⟩
      rw [HE.out]; exact OB.nil _ _ _
    · have g1 : decide (d < 1) = false := by simp; omega
      have g2 : decide (20 < d) = true := by simp; omega
      go_enter Tryz.func129, Tryz.ntmps129
      go_wp2_with (go_at_call 149; refine (refmost_any _ _).mono ?_; rintro e w' ⟨rfl, rfl⟩)
      go_ret2
      refine ⟨_, ret_vi (by rw [HE.out]), ?_, Below.refl _ _⟩
      rw [HE.out]; exact OB.nil _ _ _
theorem putBytes_any (n : Int) (d : Nat) (w : World) (h0 : -9223372036854775808 ≤ n) (h1 : n ≤ 9223372036854775807) (hd : 1 ≤ d) (hd2 : d ≤ 20) :
    Calls Tryz.prog 142 #[.int .i64 n, .int .i64 ((d : Int) + 1)] w fun e w' => ∃ v, e = .returned (.tuple #[v, .int .i64 (Nf.putB n d).2]) ∧ OB w' w.heap.size 5 v (Nf.putB n d).1 ∧ Below w.heap.size w w' := by
  obtain ⟨i0, hi, hz0, hz1, hz2⟩ := info_parts info_u8
  have hs63 := Nf.shr63 n h0 h1
  by_cases hn : n < 0
  · have hsg : Nf.sgn n = -1 := by simp [Nf.sgn, hn]
    rw [hsg] at hs63
    go_enter Tryz.func142, Tryz.ntmps142
    go_wp2_with (at_make; refine wpList_make_full _ rfl _ _ 27 rfl w.heap.size 5 i0 _ 1 Tryz.underlying27 hi hz0 hz1 .i64 .i64 _ _ (d + 1) rfl rfl (by omega) (by omega) (by rw [hz2]; omega) (by unfold maxLen; omega) (Nat.le_refl _) ?_; intro w1 hown hgrow; have ho1 := OBn.made hown; have hc1 := ho1.cell 0 (by omega); have hf1 := ho1.free 0)
    go_loopw [0, 8] (fun v i wr => ∃ j : Nat, j ≤ d ∧ i = .int .i64 ((d : Int) - j) ∧ v = .int .i64 (n / 256 ^ j) ∧ OBn wr w.heap.size 5 (.slice (some ⟨w.heap.size, 0, none⟩) (d + 1) (d + 1)) (d + 1) (255 :: (List.replicate (d - j) 0 ++ Nf.digs 256 0 n j)) ∧ Below w.heap.size w wr)
      (fun _ i _ => (intOf i).toNat)
    case atStart =>
      refine ⟨0, by omega, by simp, by simp, ?_, (((Below.refl _ _).grown hgrow (Nat.le_refl _) (by simp)).setCell (Nat.le_refl _) _).setCell (Nat.le_refl _) _⟩
      have h := (ho1.stored 0 128).stored 0 255
      simpa [Nf.digs, List.replicate_succ] using h
    case round =>
      obtain ⟨j, hj, rfl, rfl, ho, hbel⟩ := hrel
      have hm := Nf.pow_div_in n 256 h0 h1 (by omega) j
      have hset := fun h => Nf.set_digs' 256 0 n 0 255 d j h
      have hdp := Nf.div_pow n 256 (by omega) j
      generalize hmm : n / 256 ^ j = m at *
      have HMM := Lib.hid hmm; clear hmm
      have HSET := Lib.hid hset; clear hset
      have HDP := Lib.hid hdp; clear hdp
      by_cases hlt : j < d
      · have hc := ho.cell (d - j) (by omega)
        have hf := ho.free (d - j)
        go_wp2
        go_roundw
        case rel =>
          refine ⟨j + 1, by omega, by go_num, by rw [HDP.out], ?_, hbel.setCell (Nat.le_refl _) _⟩
          have h := ho.stored (d - j) (0 + m % 256)
          rw [HSET.out hlt, Int.zero_add] at h
          exact h
        case measure => simp [intOf]; omega
      · have e : j = d := by omega
        subst e
        by_cases hq : m = -1
        · have e : Nf.putB n j = (255 :: Nf.digs 256 0 n j, 0) := by simp [Nf.putB, Nf.sgn, hn, HMM.out, hq]
          have HE := Lib.hid e; clear e
          have hq' : (m == -1) = true := by simp [hq]
          have hq2 : (m != -1) = false := by simp [hq]
          have HQ := Lib.hid hq; clear hq
          go_wp2
          go_ret2
          refine ⟨_, ret_vi (by rw [HE.out]), ?_, hbel⟩
          rw [HE.out]
          simpa using ho.ob
        · have e : Nf.putB n j = ([], 10) := by simp [Nf.putB, Nf.sgn, hn, HMM.out, hq]
          have HE := Lib.hid e; clear e
          have hq' : (m == -1) = false := by simp [hq]
          have hq2 : (m != -1) = true := by simp [hq]
          go_wp2
          go_ret2
          refine ⟨_, ret_vi (by rw [HE.out]), ?_, hbel⟩
          rw [HE.out]
          exact OB.nil _ _ _
  · have hsg : Nf.sgn n = 0 := by simp [Nf.sgn, hn]
    rw [hsg] at hs63
    go_enter Tryz.func142, Tryz.ntmps142
    go_wp2_with (at_make; refine wpList_make_full _ rfl _ _ 27 rfl w.heap.size 5 i0 _ 1 Tryz.underlying27 hi hz0 hz1 .i64 .i64 _ _ (d + 1) rfl rfl (by omega) (by omega) (by rw [hz2]; omega) (by unfold maxLen; omega) (Nat.le_refl _) ?_; intro w1 hown hgrow; have ho1 := OBn.made hown; have hc1 := ho1.cell 0 (by omega); have hf1 := ho1.free 0)
    go_loopw [0, 8] (fun v i wr => ∃ j : Nat, j ≤ d ∧ i = .int .i64 ((d : Int) - j) ∧ v = .int .i64 (n / 256 ^ j) ∧ OBn wr w.heap.size 5 (.slice (some ⟨w.heap.size, 0, none⟩) (d + 1) (d + 1)) (d + 1) (128 :: (List.replicate (d - j) 0 ++ Nf.digs 256 0 n j)) ∧ Below w.heap.size w wr)
      (fun _ i _ => (intOf i).toNat)
    case atStart =>
      refine ⟨0, by omega, by simp, by simp, ?_, ((Below.refl _ _).grown hgrow (Nat.le_refl _) (by simp)).setCell (Nat.le_refl _) _⟩
      have h := ho1.stored 0 128
      simpa [Nf.digs, List.replicate_succ] using h
    case round =>
      obtain ⟨j, hj, rfl, rfl, ho, hbel⟩ := hrel
      have hm := Nf.pow_div_in n 256 h0 h1 (by omega) j
      have hset := fun h => Nf.set_digs' 256 0 n 0 128 d j h
      have hdp := Nf.div_pow n 256 (by omega) j
      generalize hmm : n / 256 ^ j = m at *
      have HMM := Lib.hid hmm; clear hmm
      have HSET := Lib.hid hset; clear hset
      have HDP := Lib.hid hdp; clear hdp
      by_cases hlt : j < d
      · have hc := ho.cell (d - j) (by omega)
        have hf := ho.free (d - j)
        go_wp2
        go_roundw
        case rel =>
          refine ⟨j + 1, by omega, by go_num, by rw [HDP.out], ?_, hbel.setCell (Nat.le_refl _) _⟩
          have h := ho.stored (d - j) (0 + m % 256)
          rw [HSET.out hlt, Int.zero_add] at h
          exact h
        case measure => simp [intOf]; omega
      · have e : j = d := by omega
        subst e
        by_cases hq : m = 0
        · have e : Nf.putB n j = (128 :: Nf.digs 256 0 n j, 0) := by simp [Nf.putB, Nf.sgn, show ¬ n < 0 from by omega, HMM.out, hq]
          have HE := Lib.hid e; clear e
          have hq' : (m == 0) = true := by simp [hq]
          have hq2 : (m != 0) = false := by simp [hq]
          have HQ := Lib.hid hq; clear hq
          go_wp2
          go_ret2
          refine ⟨_, ret_vi (by rw [HE.out]), ?_, hbel⟩
          rw [HE.out]
          simpa using ho.ob
        · have e : Nf.putB n j = ([], 10) := by simp [Nf.putB, Nf.sgn, show ¬ n < 0 from by omega, HMM.out, hq]
          have HE := Lib.hid e; clear e
          have hq' : (m == 0) = false := by simp [hq]
          have hq2 : (m != 0) = true := by simp [hq]
          go_wp2
          go_ret2
          refine ⟨_, ret_vi (by rw [HE.out]), ?_, hbel⟩
          rw [HE.out]
          exact OB.nil _ _ _
/-- A number laid, of any width. -/
theorem put_any (n k : Int) (w : World) (h0 : -9223372036854775808 ≤ n) (h1 : n ≤ 9223372036854775807) :
    Calls Tryz.prog 117 #[.int .i64 n, .int .i64 k] w fun e w' => ∃ v, e = .returned (.tuple #[v, .int .i64 (Nf.putS n k).2]) ∧ OB w' w.heap.size 5 v (Nf.putS n k).1 ∧ Below w.heap.size w w' := by
  obtain ⟨i0, hi, hz0, hz1, hz2⟩ := info_parts info_u8
  cases hw : Nf.wide k with
  | false =>
    have e : Nf.putS n k = ([], 1) := by simp [Nf.putS, hw]
    have HE := Lib.hid e; have HW := Lib.hid hw; clear e hw
    go_enter Tryz.func117, Tryz.ntmps117
    go_wp2_with (go_at_call 95; refine (isWidth_any _ _).mono ?_; rintro e w' ⟨rfl, rfl⟩; rw [HW.out])
    go_ret2
    refine ⟨_, ret_vi (by rw [HE.out]), ?_, Below.refl _ _⟩
    rw [HE.out]; exact OB.nil _ _ _
  | true =>
    have hk : 8 ≤ k ∧ k ≤ 12 := by simp [Nf.wide] at hw; omega
    obtain ⟨d, rfl⟩ : ∃ d : Nat, k = (d : Int) + 1 := ⟨(k - 1).toNat, by omega⟩
    cases hp : Nf.plain n ((d : Int) + 1) with
    | true =>
      have hp2 : 0 ≤ n ∧ n ≤ Nf.most (d : Int) := by simpa [Nf.plain, hw, Int.add_sub_cancel] using hp
      have e : Nf.putS n ((d : Int) + 1) = (Nf.digs 8 48 n d ++ [0], 0) := by simp [Nf.putS, hw, hp]
      have eo : Nf.octS n (d : Int) = (Nf.digs 8 48 n d, 0) := by
        simp [Nf.octS, show ¬ ((d : Int) < 1 ∨ 20 < (d : Int)) from by omega, show ¬ (n < 0 ∨ Nf.most d < n) from by omega]
      have hoc := octal_any n (d : Int) w h0 h1
      rw [eo] at hoc
      have HOC := Lib.hid hoc; clear hoc
      have HE := Lib.hid e; have HW := Lib.hid hw; have HP := Lib.hid hp; clear e hw hp eo
      go_enter Tryz.func117, Tryz.ntmps117
      go_wp2_with (first | (go_at_call 95; refine (isWidth_any _ _).mono ?_; rintro e w' ⟨rfl, rfl⟩; rw [HW.out]) | (go_at_call 141; refine (plain_any _ _ _).mono ?_; rintro e w' ⟨rfl, rfl⟩; rw [HP.out]) | (go_at_call 118; refine HOC.out.mono ?_; rintro e w1 ⟨v, rfl, ho, hb⟩) | (at_builtin; refine wpList_append_own _ rfl _ _ 27 rfl w.heap.size 5 i0 (.int .u8 0) 1 1 Tryz.underlying27 hi hz0 hz1 hz2 rfl (by decide) _ _ _ rfl (ho.alloc _) ⟨w1.heap.size, 0, none⟩ 1 1 [.int .u8 0] rfl rfl (cell_one_new _ _ _) (one_one rfl) (by rw [Nf.len_digs]; unfold maxLen; omega) (by rw [Nf.len_digs]; omega) (by have := hb.size; simp; omega) ?_; intro v2 w2 hown2 hgrow2 _))
      go_ret2
      refine ⟨_, ret_vi (by rw [HE.out]), ?_, ?_⟩
      · rw [HE.out]
        exact OB.snoc hown2
      · exact (hb.alloc hb.size _).grown hgrow2 (by have := hb.size; simp; omega) (fun k hk => (ho.lt k hk).1)
    | false =>
      have e : Nf.putS n ((d : Int) + 1) = Nf.putB n d := by simp [Nf.putS, hw, hp]
      have HE := Lib.hid e; have HW := Lib.hid hw; have HP := Lib.hid hp; clear e hw hp
      go_enter Tryz.func117, Tryz.ntmps117
      go_wp2_with (first | (go_at_call 95; refine (isWidth_any _ _).mono ?_; rintro e w' ⟨rfl, rfl⟩; rw [HW.out]) | (go_at_call 141; refine (plain_any _ _ _).mono ?_; rintro e w' ⟨rfl, rfl⟩; rw [HP.out]) | (go_at_call 142; refine (putBytes_any n d w h0 h1 (by omega) (by omega)).mono ?_; rintro e w1 ⟨v, rfl, ho, hb⟩))
      go_ret2
      exact ⟨_, ret_vi (by rw [HE.out]), by rw [HE.out]; exact ho, hb⟩
set_option maxHeartbeats 800000
/-- A number laid, of any width. -/
theorem refput_any (n k : Int) (w : World) (h0 : -9223372036854775808 ≤ n) (h1 : n ≤ 9223372036854775807) :
    Calls Tryz.prog 101 #[.int .i64 n, .int .i64 k] w fun e w' => ∃ v, e = .returned (.tuple #[v, .int .i64 (Nf.putS n k).2]) ∧ OB w' w.heap.size 5 v (Nf.putS n k).1 ∧ Below w.heap.size w w' := by
  obtain ⟨i0, hi, hz0, hz1, hz2⟩ := info_parts info_u8
  cases hw : Nf.wide k with
  | false =>
    have e : Nf.putS n k = ([], 1) := by simp [Nf.putS, hw]
    have HE := Lib.hid e; have HW := Lib.hid hw; clear e hw
    go_enter Tryz.func101, Tryz.ntmps101
    go_wp2_with (go_at_call 127; refine (refwide_any _ _).mono ?_; rintro e w' ⟨rfl, rfl⟩; rw [HW.out])
    go_ret2
    refine ⟨_, ret_vi (by rw [HE.out]), ?_, Below.refl _ _⟩
    rw [HE.out]; exact OB.nil _ _ _
  | true =>
    have hk : 8 ≤ k ∧ k ≤ 12 := by simp [Nf.wide] at hw; omega
    obtain ⟨d, rfl⟩ : ∃ d : Nat, k = (d : Int) + 1 := ⟨(k - 1).toNat, by omega⟩
    cases hp : Nf.plain n ((d : Int) + 1) with
    | true =>
      have hp2 : 0 ≤ n ∧ n ≤ Nf.most (d : Int) := by simpa [Nf.plain, hw, Int.add_sub_cancel] using hp
      have e : Nf.putS n ((d : Int) + 1) = (Nf.digs 8 48 n d ++ [0], 0) := by simp [Nf.putS, hw, hp]
      have eo : Nf.octS n (d : Int) = (Nf.digs 8 48 n d, 0) := by
        simp [Nf.octS, show ¬ ((d : Int) < 1 ∨ 20 < (d : Int)) from by omega, show ¬ (n < 0 ∨ Nf.most d < n) from by omega]
      have hoc := refoctal_any n (d : Int) w h0 h1
      rw [eo] at hoc
      have HOC := Lib.hid hoc; clear hoc
      have HE := Lib.hid e; have HW := Lib.hid hw; have HP := Lib.hid hp; clear e hw hp eo
      go_enter Tryz.func101, Tryz.ntmps101
      go_wp2_with (first | (go_at_call 127; refine (refwide_any _ _).mono ?_; rintro e w' ⟨rfl, rfl⟩; rw [HW.out]) | (go_at_call 128; refine (refplain_any _ _ _).mono ?_; rintro e w' ⟨rfl, rfl⟩; rw [HP.out]) | (go_at_call 129; refine HOC.out.mono ?_; rintro e w1 ⟨v, rfl, ho, hb⟩) | (at_builtin; refine wpList_append_own _ rfl _ _ 27 rfl w.heap.size 5 i0 (.int .u8 0) 1 1 Tryz.underlying27 hi hz0 hz1 hz2 rfl (by decide) _ _ _ rfl (ho.alloc _) ⟨w1.heap.size, 0, none⟩ 1 1 [.int .u8 0] rfl rfl (cell_one_new _ _ _) (one_one rfl) (by rw [Nf.len_digs]; unfold maxLen; omega) (by rw [Nf.len_digs]; omega) (by have := hb.size; simp; omega) ?_; intro v2 w2 hown2 hgrow2 _))
      go_ret2
      refine ⟨_, ret_vi (by rw [HE.out]), ?_, ?_⟩
      · rw [HE.out]
        exact OB.snoc hown2
      · exact (hb.alloc hb.size _).grown hgrow2 (by have := hb.size; simp; omega) (fun k hk => (ho.lt k hk).1)
    | false =>
      have e : Nf.putS n ((d : Int) + 1) = Nf.putB n d := by simp [Nf.putS, hw, hp]
      have HE := Lib.hid e; have HW := Lib.hid hw; have HP := Lib.hid hp; clear e hw hp
      go_enter Tryz.func101, Tryz.ntmps101
      go_wp2_with (first | (go_at_call 127; refine (refwide_any _ _).mono ?_; rintro e w' ⟨rfl, rfl⟩; rw [HW.out]) | (go_at_call 128; refine (refplain_any _ _ _).mono ?_; rintro e w' ⟨rfl, rfl⟩; rw [HP.out]) | (at_make; refine wpList_make_full _ rfl _ _ 27 rfl w.heap.size 5 i0 _ 1 Tryz.underlying27 hi hz0 hz1 .i64 .i64 _ _ (d + 1) rfl rfl (by omega) (by omega) (by rw [hz2]; omega) (by unfold maxLen; omega) (Nat.le_refl _) ?_; intro w1 hown hgrow; have ho1 := OBn.made hown; have hc1 := ho1.cell 0 (by omega); have hf1 := ho1.free 0))
      go_loopw [9, 10] (fun v i wr => ∃ j : Nat, j ≤ d ∧ i = .int .i64 ((d : Int) - j) ∧ v = .int .i64 (n / 256 ^ j) ∧ OBn wr w.heap.size 5 (.slice (some ⟨w.heap.size, 0, none⟩) (d + 1) (d + 1)) (d + 1) (0 :: (List.replicate (d - j) 0 ++ Nf.digs 256 0 n j)) ∧ Below w.heap.size w wr)
        (fun _ i _ => (intOf i).toNat)
      case atStart =>
        refine ⟨0, by omega, by simp, by simp, ?_, (Below.refl _ _).grown hgrow (Nat.le_refl _) (by simp)⟩
        simpa [Nf.digs, List.replicate_succ] using ho1
      case round =>
        obtain ⟨j, hj, rfl, rfl, ho, hbel⟩ := hrel
        have hm := Nf.pow_div_in n 256 h0 h1 (by omega) j
        have hset := fun h => Nf.set_digs' 256 0 n 0 0 d j h
        have hdp := Nf.div_pow n 256 (by omega) j
        generalize hmm : n / 256 ^ j = m at *
        have HMM := Lib.hid hmm; clear hmm
        have HSET := Lib.hid hset; clear hset
        have HDP := Lib.hid hdp; clear hdp
        by_cases hlt : j < d
        · have hc := ho.cell (d - j) (by omega)
          have hf := ho.free (d - j)
          go_wp2_with (first | (go_at_call 130; refine (low_any _ _).mono ?_; rintro e w' ⟨rfl, rfl⟩) | (go_at_call 131; refine (floor_any _ _ (by omega) (by omega)).mono ?_; rintro e w' ⟨rfl, rfl⟩))
          go_roundw
          case rel =>
            refine ⟨j + 1, by omega, by go_num, by rw [HDP.out], ?_, hbel.setCell (Nat.le_refl _) _⟩
            have h := ho.stored (d - j) (0 + m % 256)
            rw [HSET.out hlt, Int.zero_add] at h
            exact h
          case measure => simp [intOf]; omega
        · have e : j = d := by omega
          subst e
          have hc := ho.cell 0 (by omega)
          have hf := ho.free 0
          by_cases hn : n < 0
          · have g1 : decide (n < 0) = true := by simp; omega
            have g2 : decide (0 ≤ n) = false := by simp; omega
            by_cases hq : m = -1
            · have e : Nf.putB n j = (255 :: Nf.digs 256 0 n j, 0) := by simp [Nf.putB, Nf.sgn, hn, HMM.out, hq]
              have HE2 := Lib.hid e; clear e
              have hq' : (m == -1) = true := by simp [hq]
              have hq2 : (m != -1) = false := by simp [hq]
              have HQ := Lib.hid hq; clear hq
              go_wp2
              go_ret2
              refine ⟨_, ret_vi (by rw [HE.out, HE2.out]), ?_, (hbel.setCell (Nat.le_refl _) _).setCell (Nat.le_refl _) _⟩
              rw [HE.out, HE2.out]
              simpa using ((ho.stored 0 128).stored 0 255).ob
            · have e : Nf.putB n j = ([], 10) := by simp [Nf.putB, Nf.sgn, hn, HMM.out, hq]
              have HE2 := Lib.hid e; clear e
              have hq' : (m == -1) = false := by simp [hq]
              have hq2 : (m != -1) = true := by simp [hq]
              go_wp2
              go_ret2
              refine ⟨_, ret_vi (by rw [HE.out, HE2.out]), ?_, (hbel.setCell (Nat.le_refl _) _).setCell (Nat.le_refl _) _⟩
              rw [HE.out, HE2.out]
              exact OB.nil _ _ _
          · have g1 : decide (n < 0) = false := by simp; omega
            have g2 : decide (0 ≤ n) = true := by simp; omega
            by_cases hq : m = 0
            · have e : Nf.putB n j = (128 :: Nf.digs 256 0 n j, 0) := by simp [Nf.putB, Nf.sgn, show ¬ n < 0 from by omega, HMM.out, hq]
              have HE2 := Lib.hid e; clear e
              have hq' : (m == 0) = true := by simp [hq]
              have hq2 : (m != 0) = false := by simp [hq]
              have HQ := Lib.hid hq; clear hq
              go_wp2
              go_ret2
              refine ⟨_, ret_vi (by rw [HE.out, HE2.out]), ?_, hbel.setCell (Nat.le_refl _) _⟩
              rw [HE.out, HE2.out]
              simpa using (ho.stored 0 128).ob
            · have e : Nf.putB n j = ([], 10) := by simp [Nf.putB, Nf.sgn, show ¬ n < 0 from by omega, HMM.out, hq]
              have HE2 := Lib.hid e; clear e
              have hq' : (m == 0) = false := by simp [hq]
              have hq2 : (m != 0) = true := by simp [hq]
              go_wp2
              go_ret2
              refine ⟨_, ret_vi (by rw [HE.out, HE2.out]), ?_, hbel.setCell (Nat.le_refl _) _⟩
              rw [HE.out, HE2.out]
              exact OB.nil _ _ _
end Go.Proofs.YtjhigkkkfkahdaaGreatDoor
