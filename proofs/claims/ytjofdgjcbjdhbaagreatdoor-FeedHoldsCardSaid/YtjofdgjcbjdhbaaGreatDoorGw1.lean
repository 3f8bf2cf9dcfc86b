/- WALKS OF LAYER 1, FIRST PART: numf.Most, Plain and their reference's, in every memory; no conditions but those that the theorems name. -/
import Derived.Test.YtjofdgjcbjdhbaaGreatDoorChecked
import Derived.Test.YtjofdgjcbjdhbaaGreatDoorGn1
import Derived.Test.YtjofdgjcbjdhbaaGreatDoorCm
import Derived.Shelf.Bytes.SlEqualAll
import Derived.Lib.Strings
namespace Go.Proofs.YtjofdgjcbjdhbaaGreatDoor
open Go.RowKit
set_option maxHeartbeats 400000
/- THE CALLS OF numf AND OF ITS REFERENCE, BY CONTRACTS: what each answers, and what it does to the memory. -/
theorem isWidth_any (n : Int) (w : World) :
    Calls Tryz.prog 153 #[.int .i64 n] w fun e w' => e = .returned (.bool (Nf.wide n)) ∧ w = w' := by
  go_enter Tryz.func153, Tryz.ntmps153
  go_wp2_with fail
  all_goals
    go_ret
    refine ⟨?_, rfl⟩
    simp [Nf.wide, *]
theorem refwide_any (n : Int) (w : World) :
    Calls Tryz.prog 100 #[.int .i64 n] w fun e w' => e = .returned (.bool (Nf.wide n)) ∧ w = w' := by
  go_enter Tryz.func100, Tryz.ntmps100
  go_wp2_with fail
  all_goals
    go_ret
    refine ⟨?_, rfl⟩
    simp [Nf.wide, *]
theorem most_any (n : Int) (w : World) :
    Calls Tryz.prog 164 #[.int .i64 n] w fun e w' => e = .returned (.int .i64 (Nf.most n)) ∧ w = w' := by
  go_enter Tryz.func164, Tryz.ntmps164
  go_wp2_with fail
  all_goals go_ret
  all_goals refine ⟨ret_int ?_, rfl⟩
  all_goals first
    | exact Nf.most_mm n
    | (have h : 20 < if n < 0 then 0 else n := by assumption
       rw [Nf.most_high n (by split at h <;> omega)]; exact Nf.most_w1)
    | (rw [Nf.most_low n (by assumption)]; exact Nf.most_w2)
    | (have h : (if n < 0 then 0 else n) ≤ 20 := by assumption
       exact Nf.most_mid' n (by assumption) (by split at h <;> omega))
theorem refmost_any (n : Int) (w : World) :
    Calls Tryz.prog 130 #[.int .i64 n] w fun e w' => e = .returned (.int .i64 (Nf.most n)) ∧ w = w' := by
  have hc := Nf.most_clamp n
  obtain ⟨hm1, hm2, hm3⟩ := Nf.clamp_bd n
  generalize Nf.clamp n = m at *
  have HC := Lib.hid hc; clear hc
  have HM2 := Lib.hid hm2; clear hm2
  have HM3 := Lib.hid hm3; clear hm3
  go_enter Tryz.func130, Tryz.ntmps130
  go_wp2_with fail
  go_loop [3, 4] (fun v i => ∃ k : Nat, k ≤ m ∧ i = .int .i64 k ∧ v = .int .i64 (Nf.most (k : Int))) (fun _ i => m - (intOf i).toNat)
  case atStart => exact ⟨0, by omega, rfl, by simp [Nf.most]⟩
  case round =>
    obtain ⟨k, hk, rfl, rfl⟩ := hrel
    have hb := Nf.most_bd (k : Int)
    by_cases hlt : k < m
    · have h1 : (k : Int) < n := by have := HM2.out; omega
      have h2 : (k : Int) < 20 := by omega
      have hs := Lib.hid (Nf.most_succ k (by omega))
      go_wp2
      go_round
      case rel => exact ⟨k + 1, by omega, by go_num, by rw [hs.out]⟩
      case measure => simp [intOf]; omega
    · have e : k = m := by omega
      subst e
      by_cases h1 : (k : Int) < n
      · have h2 : ¬ (k : Int) < 20 := by have := HM3.out; omega
        go_wp2
        go_ret
        exact ⟨ret_int HC.out.symm, rfl⟩
      · go_wp2
        go_ret
        exact ⟨ret_int HC.out.symm, rfl⟩
theorem plain_any (n k : Int) (w : World) :
    Calls Tryz.prog 162 #[.int .i64 n, .int .i64 k] w fun e w' => e = .returned (.bool (Nf.plain n k)) ∧ w = w' := by
  cases hw : Nf.wide k with
  | false =>
    have e : Nf.plain n k = false := by simp [Nf.plain, hw]
    have HE := Lib.hid e; have HW := Lib.hid hw; clear e hw
    go_enter Tryz.func162, Tryz.ntmps162
    go_wp2_with (go_at_call 153; refine (isWidth_any _ _).mono ?_; rintro e w' ⟨rfl, rfl⟩; rw [HW.out])
    go_ret
    exact ⟨ret_bool (by rw [HE.out]), rfl⟩
  | true =>
    have e : Nf.plain n k = (decide (0 ≤ n) && decide (n ≤ Nf.most (k - 1))) := by simp [Nf.plain, hw]
    have hk : 8 ≤ k ∧ k ≤ 12 := by simp [Nf.wide] at hw; omega
    have HE := Lib.hid e; have HW := Lib.hid hw; clear e hw
    by_cases hn : 0 ≤ n
    · go_enter Tryz.func162, Tryz.ntmps162
      go_wp2_with (first | (go_at_call 153; refine (isWidth_any _ _).mono ?_; rintro e w' ⟨rfl, rfl⟩; rw [HW.out]) | (go_at_call 164; refine (most_any _ _).mono ?_; rintro e w' ⟨rfl, rfl⟩))
      go_ret
      exact ⟨ret_bool (by rw [HE.out, decide_eq_true hn]; rfl), rfl⟩
    · go_enter Tryz.func162, Tryz.ntmps162
      go_wp2_with (first | (go_at_call 153; refine (isWidth_any _ _).mono ?_; rintro e w' ⟨rfl, rfl⟩; rw [HW.out]) | (go_at_call 164; refine (most_any _ _).mono ?_; rintro e w' ⟨rfl, rfl⟩))
      go_ret
      exact ⟨ret_bool (by rw [HE.out, decide_eq_false (by omega)]; rfl), rfl⟩
theorem refplain_any (n k : Int) (w : World) :
    Calls Tryz.prog 101 #[.int .i64 n, .int .i64 k] w fun e w' => e = .returned (.bool (Nf.plain n k)) ∧ w = w' := by
  cases hw : Nf.wide k with
  | false =>
    have e : Nf.plain n k = false := by simp [Nf.plain, hw]
    have HE := Lib.hid e; have HW := Lib.hid hw; clear e hw
    go_enter Tryz.func101, Tryz.ntmps101
    go_wp2_with (go_at_call 100; refine (refwide_any _ _).mono ?_; rintro e w' ⟨rfl, rfl⟩; rw [HW.out])
    go_ret
    exact ⟨ret_bool (by rw [HE.out]), rfl⟩
  | true =>
    have e : Nf.plain n k = (decide (0 ≤ n) && decide (n ≤ Nf.most (k - 1))) := by simp [Nf.plain, hw]
    have hk : 8 ≤ k ∧ k ≤ 12 := by simp [Nf.wide] at hw; omega
    have HE := Lib.hid e; have HW := Lib.hid hw; clear e hw
    by_cases hn : 0 ≤ n
    · go_enter Tryz.func101, Tryz.ntmps101
      go_wp2_with (first | (go_at_call 100; refine (refwide_any _ _).mono ?_; rintro e w' ⟨rfl, rfl⟩; rw [HW.out]) | (go_at_call 130; refine (refmost_any _ _).mono ?_; rintro e w' ⟨rfl, rfl⟩))
      go_ret
      exact ⟨ret_bool (by rw [HE.out, decide_eq_true hn]; rfl), rfl⟩
    · go_enter Tryz.func101, Tryz.ntmps101
      go_wp2_with (first | (go_at_call 100; refine (refwide_any _ _).mono ?_; rintro e w' ⟨rfl, rfl⟩; rw [HW.out]) | (go_at_call 130; refine (refmost_any _ _).mono ?_; rintro e w' ⟨rfl, rfl⟩))
      go_ret
      exact ⟨ret_bool (by rw [HE.out, decide_eq_false (by omega)]; rfl), rfl⟩
theorem low_any (n : Int) (w : World) :
    Calls Tryz.prog 103 #[.int .i64 n] w fun e w' => e = .returned (.int .u8 (n % 256)) ∧ w = w' := by
  go_enter Tryz.func103, Tryz.ntmps103
  go_wp2_with fail
  go_ret
  exact ⟨ret_int (Nf.low_eq n), rfl⟩
theorem floor_any (n : Int) (w : World) (h0 : -9223372036854775808 ≤ n) (h1 : n ≤ 9223372036854775807) :
    Calls Tryz.prog 104 #[.int .i64 n] w fun e w' => e = .returned (.int .i64 (n / 256)) ∧ w = w' := by
  have hb : -9223372036854775808 ≤ n.tdiv 256 ∧ n.tdiv 256 ≤ 9223372036854775807 := Nf.td_bd n h0 h1
  go_enter Tryz.func104, Tryz.ntmps104
  go_wp2_with fail
  · go_ret
    exact ⟨ret_int (Nf.floor_neg n h0 (by assumption)), rfl⟩
  · go_ret
    exact ⟨ret_int (Nf.floor_pos n (by assumption)), rfl⟩
end Go.Proofs.YtjofdgjcbjdhbaaGreatDoor
/- WALKS OF LAYER 1, SECOND PART: numf.Octal, Put and their reference's: what is laid is what the plain functions of N1 say; the numbers are of 64 bits. -/
namespace Go.Proofs.YtjofdgjcbjdhbaaGreatDoor
open Go.RowKit
set_option maxHeartbeats 400000
set_option maxRecDepth 20000
/- THE CALLS OF numf AND OF ITS REFERENCE THAT LAY A NUMBER. -/
theorem octal_any (n d : Int) (w : World) (h0 : -9223372036854775808 ≤ n) (h1 : n ≤ 9223372036854775807) :
    Calls Tryz.prog 146 #[.int .i64 n, .int .i64 d] w fun e w' => ∃ v, e = .returned (.tuple #[v, .int .i64 (Nf.octS n d).2]) ∧ OB w' w.heap.size 5 v (Nf.octS n d).1 ∧ Below w.heap.size w w' := by
  obtain ⟨i0, hi, hz0, hz1, hz2⟩ := info_parts info_u8
  by_cases hd : 1 ≤ d ∧ d ≤ 20
  · obtain ⟨k, rfl⟩ : ∃ k : Nat, d = k := ⟨d.toNat, by omega⟩
    by_cases hn : 0 ≤ n
    · by_cases hm : n ≤ Nf.most k
      · have e : Nf.octS n k = (Nf.digs 8 48 n k, 0) := by simp [Nf.octS, show ¬ ((k : Int) < 1 ∨ 20 < (k : Int)) from by omega, show ¬ (n < 0 ∨ Nf.most k < n) from by omega]
        have HE := Lib.hid e; clear e
        have g1 : decide ((k : Int) < 1) = false := by simp; omega
        have g2 : decide (20 < (k : Int)) = false := by simp; omega
        have g3 : decide (n < 0) = false := by simp; omega
        have g4 : decide (Nf.most k < n) = false := by simp; omega
        go_enter Tryz.func146, Tryz.ntmps146
        go_wp2_with (first | (go_at_call 164; refine (most_any _ _).mono ?_; rintro e w' ⟨rfl, rfl⟩) | (at_make; refine wpList_make_full _ rfl _ _ 25 rfl w.heap.size 5 i0 _ 1 Tryz.underlying25 hi hz0 hz1 .i64 .i64 _ _ k rfl rfl rfl rfl (by rw [hz2]; omega) (by unfold maxLen; omega) (Nat.le_refl _) ?_; intro w1 hown hgrow))
        go_loopw [0, 7] (fun v i wr => ∃ j : Nat, j ≤ k ∧ i = .int .i64 ((k : Int) - 1 - j) ∧ v = .int .i64 (n / 8 ^ j) ∧ OBn wr w.heap.size 5 (.slice (some ⟨w.heap.size, 0, none⟩) k k) k (List.replicate (k - j) 0 ++ Nf.digs 8 48 n j) ∧ Below w.heap.size w wr)
          (fun _ i _ => (intOf i + 1).toNat)
        case atStart => exact ⟨0, by omega, by simp, by simp, by simpa [Nf.digs] using OBn.made hown, (Below.refl _ _).grown hgrow (Nat.le_refl _) (by simp)⟩
        case round =>
          obtain ⟨j, hj, rfl, rfl, ho, hbel⟩ := hrel
          have hm := Nf.pow_div_bd n 8 hn (by omega) j
          generalize hmm : n / 8 ^ j = m at *
          have HMM := Lib.hid hmm; clear hmm
          by_cases hlt : j < k
          · have hc := ho.cell (k - 1 - j) (by omega)
            have hf := ho.free (k - 1 - j)
            go_wp2
            go_roundw
            case rel =>
              refine ⟨j + 1, by omega, by go_num, by rw [← Nf.div_pow n 8 (by omega) j, HMM.out], ?_, hbel.setCell (Nat.le_refl _) _⟩
              have h := ho.stored (k - 1 - j) (48 + m % 8)
              rw [← HMM.out, Nf.set_digs 8 48 n 0 k j hlt] at h
              rw [Nf.and7 m (by omega) (by omega)]
              have e8 : (48 + m % 8) % 256 = 48 + m % 8 := by omega
              rw [e8, ← HMM.out]
              exact h
            case measure => simp [intOf]; omega
          · have e : j = k := by omega
            subst e
            go_wp2
            go_ret2
            refine ⟨_, ret_vi (by rw [HE.out]), ?_, hbel⟩
            rw [HE.out]
            simpa using ho.ob
      · have e : Nf.octS n k = ([], 10) := by simp [Nf.octS, show ¬ ((k : Int) < 1 ∨ 20 < (k : Int)) from by omega, show (n < 0 ∨ Nf.most k < n) from by omega]
        have HE := Lib.hid e; clear e
        have g1 : decide ((k : Int) < 1) = false := by simp; omega
        have g2 : decide (20 < (k : Int)) = false := by simp; omega
        have g3 : decide (n < 0) = false := by simp; omega
        have g4 : decide (Nf.most k < n) = true := by simp; omega
        go_enter Tryz.func146, Tryz.ntmps146
        go_wp2_with (go_at_call 164; refine (most_any _ _).mono ?_; rintro e w' ⟨rfl, rfl⟩)
        go_ret2
        refine ⟨_, ret_vi (by rw [HE.out]), ?_, Below.refl _ _⟩
        rw [HE.out]; exact OB.nil _ _ _
    · have e : Nf.octS n k = ([], 10) := by simp [Nf.octS, show ¬ ((k : Int) < 1 ∨ 20 < (k : Int)) from by omega, show (n < 0 ∨ Nf.most k < n) from by omega]
      have HE := Lib.hid e; clear e
      have g1 : decide ((k : Int) < 1) = false := by simp; omega
      have g2 : decide (20 < (k : Int)) = false := by simp; omega
      have g3 : decide (n < 0) = true := by simp; omega
      go_enter Tryz.func146, Tryz.ntmps146
      go_wp2_with (go_at_call 164; refine (most_any _ _).mono ?_; rintro e w' ⟨rfl, rfl⟩)
      go_ret2
      refine ⟨_, ret_vi (by rw [HE.out]), ?_, Below.refl _ _⟩
      rw [HE.out]; exact OB.nil _ _ _
  · have e : Nf.octS n d = ([], 1) := by simp [Nf.octS, show (d < 1 ∨ 20 < d) from by omega]
    have HE := Lib.hid e; clear e
    by_cases g : d < 1
    · have g1 : decide (d < 1) = true := by simp; omega
      go_enter Tryz.func146, Tryz.ntmps146
      go_wp2_with (go_at_call 164; refine (most_any _ _).mono ?_; rintro e w' ⟨rfl, rfl⟩)
      go_ret2
      refine ⟨_, ret_vi (by rw [HE.out]), ?_, Below.refl _ _⟩
      rw [HE.out]; exact OB.nil _ _ _
    · have g1 : decide (d < 1) = false := by simp; omega
      have g2 : decide (20 < d) = true := by simp; omega
      go_enter Tryz.func146, Tryz.ntmps146
      go_wp2_with (go_at_call 164; refine (most_any _ _).mono ?_; rintro e w' ⟨rfl, rfl⟩)
      go_ret2
      refine ⟨_, ret_vi (by rw [HE.out]), ?_, Below.refl _ _⟩
      rw [HE.out]; exact OB.nil _ _ _
theorem refoctal_any (n d : Int) (w : World) (h0 : -9223372036854775808 ≤ n) (h1 : n ≤ 9223372036854775807) :
    Calls Tryz.prog 102 #[.int .i64 n, .int .i64 d] w fun e w' => ∃ v, e = .returned (.tuple #[v, .int .i64 (Nf.octS n d).2]) ∧ OB w' w.heap.size 5 v (Nf.octS n d).1 ∧ Below w.heap.size w w' := by
  obtain ⟨i0, hi, hz0, hz1, hz2⟩ := info_parts info_u8
  by_cases hd : 1 ≤ d ∧ d ≤ 20
  · obtain ⟨k, rfl⟩ : ∃ k : Nat, d = k := ⟨d.toNat, by omega⟩
    by_cases hn : 0 ≤ n
    · by_cases hm : n ≤ Nf.most k
      · have e : Nf.octS n k = (Nf.digs 8 48 n k, 0) := by simp [Nf.octS, show ¬ ((k : Int) < 1 ∨ 20 < (k : Int)) from by omega, show ¬ (n < 0 ∨ Nf.most k < n) from by omega]
        have HE := Lib.hid e; clear e
        have g1 : decide ((k : Int) < 1) = false := by simp; omega
        have g2 : decide (20 < (k : Int)) = false := by simp; omega
        have g3 : decide (n < 0) = false := by simp; omega
        have g4 : decide (Nf.most k < n) = false := by simp; omega
        go_enter Tryz.func102, Tryz.ntmps102
        go_wp2_with (first | (go_at_call 130; refine (refmost_any _ _).mono ?_; rintro e w' ⟨rfl, rfl⟩) | (at_make; refine wpList_make_full _ rfl _ _ 25 rfl w.heap.size 5 i0 _ 1 Tryz.underlying25 hi hz0 hz1 .i64 .i64 _ _ k rfl rfl rfl rfl (by rw [hz2]; omega) (by unfold maxLen; omega) (Nat.le_refl _) ?_; intro w1 hown hgrow))
        go_loopw [0, 7] (fun v i wr => ∃ j : Nat, j ≤ k ∧ i = .int .i64 ((k : Int) - 1 - j) ∧ v = .int .i64 (n / 8 ^ j) ∧ OBn wr w.heap.size 5 (.slice (some ⟨w.heap.size, 0, none⟩) k k) k (List.replicate (k - j) 0 ++ Nf.digs 8 48 n j) ∧ Below w.heap.size w wr)
          (fun _ i _ => (intOf i + 1).toNat)
        case atStart => exact ⟨0, by omega, by simp, by simp, by simpa [Nf.digs] using OBn.made hown, (Below.refl _ _).grown hgrow (Nat.le_refl _) (by simp)⟩
        case round =>
          obtain ⟨j, hj, rfl, rfl, ho, hbel⟩ := hrel
          have hm := Nf.pow_div_bd n 8 hn (by omega) j
          generalize hmm : n / 8 ^ j = m at *
          have HMM := Lib.hid hmm; clear hmm
          by_cases hlt : j < k
          · have hc := ho.cell (k - 1 - j) (by omega)
            have hf := ho.free (k - 1 - j)
            go_wp2
            go_roundw
            case rel =>
              refine ⟨j + 1, by omega, by go_num, by rw [← Nf.div_pow n 8 (by omega) j, HMM.out], ?_, hbel.setCell (Nat.le_refl _) _⟩
              have h := ho.stored (k - 1 - j) (48 + m % 8)
              rw [← HMM.out, Nf.set_digs 8 48 n 0 k j hlt] at h
              rw [← HMM.out]
              exact h
            case measure => simp [intOf]; omega
          · have e : j = k := by omega
            subst e
            go_wp2
            go_ret2
            refine ⟨_, ret_vi (by rw [HE.out]), ?_, hbel⟩
            rw [HE.out]
            simpa using ho.ob
      · have e : Nf.octS n k = ([], 10) := by simp [Nf.octS, show ¬ ((k : Int) < 1 ∨ 20 < (k : Int)) from by omega, show (n < 0 ∨ Nf.most k < n) from by omega]
        have HE := Lib.hid e; clear e
        have g1 : decide ((k : Int) < 1) = false := by simp; omega
        have g2 : decide (20 < (k : Int)) = false := by simp; omega
        have g3 : decide (n < 0) = false := by simp; omega
        have g4 : decide (Nf.most k < n) = true := by simp; omega
        go_enter Tryz.func102, Tryz.ntmps102
        go_wp2_with (go_at_call 130; refine (refmost_any _ _).mono ?_; rintro e w' ⟨rfl, rfl⟩)
        go_ret2
        refine ⟨_, ret_vi (by rw [HE.out]), ?_, Below.refl _ _⟩
        rw [HE.out]; exact OB.nil _ _ _
    · have e : Nf.octS n k = ([], 10) := by simp [Nf.octS, show ¬ ((k : Int) < 1 ∨ 20 < (k : Int)) from by omega, show (n < 0 ∨ Nf.most k < n) from by omega]
      have HE := Lib.hid e; clear e
      have g1 : decide ((k : Int) < 1) = false := by simp; omega
      have g2 : decide (20 < (k : Int)) = false := by simp; omega
      have g3 : decide (n < 0) = true := by simp; omega
      go_enter Tryz.func102, Tryz.ntmps102
      go_wp2_with (go_at_call 130; refine (refmost_any _ _).mono ?_; rintro e w' ⟨rfl, rfl⟩)
      go_ret2
      refine ⟨_, ret_vi (by rw [HE.out]), ?_, Below.refl _ _⟩
      rw [HE.out]; exact OB.nil _ _ _
  · have e : Nf.octS n d = ([], 1) := by simp [Nf.octS, show (d < 1 ∨ 20 < d) from by omega]
    have HE := Lib.hid e; clear e
    by_cases g : d < 1
    · have g1 : decide (d < 1) = true := by simp; omega
      go_enter Tryz.func102, Tryz.ntmps102
      go_wp2_with (go_at_call 130; refine (refmost_any _ _).mono ?_; rintro e w' ⟨rfl, rfl⟩)
      go_ret2
      refine ⟨_, ret_vi (by rw [HE.out]), ?_, Below.refl _ _⟩
      rw [HE.out]; exact OB.nil _ _ _
    · have g1 : decide (d < 1) = false := by simp; omega
      have g2 : decide (20 < d) = true := by simp; omega
      go_enter Tryz.func102, Tryz.ntmps102
      go_wp2_with (go_at_call 130; refine (refmost_any _ _).mono ?_; rintro e w' ⟨rfl, rfl⟩)
      go_ret2
      refine ⟨_, ret_vi (by rw [HE.out]), ?_, Below.refl _ _⟩
      rw [HE.out]; exact OB.nil _ _ _
theorem putBytes_any (n : Int) (d : Nat) (w : World) (h0 : -9223372036854775808 ≤ n) (h1 : n ≤ 9223372036854775807) (hd : 1 ≤ d) (hd2 : d ≤ 20) :
    Calls Tryz.prog 163 #[.int .i64 n, .int .i64 ((d : Int) + 1)] w fun e w' => ∃ v, e = .returned (.tuple #[v, .int .i64 (Nf.putB n d).2]) ∧ OB w' w.heap.size 5 v (Nf.putB n d).1 ∧ Below w.heap.size w w' := by
  obtain ⟨i0, hi, hz0, hz1, hz2⟩ := info_parts info_u8
  have hs63 := Nf.shr63 n h0 h1
  by_cases hn : n < 0
  · have hsg : Nf.sgn n = -1 := by simp [Nf.sgn, hn]
    rw [hsg] at hs63
    go_enter Tryz.func163, Tryz.ntmps163
    go_wp2_with (at_make; refine wpList_make_full _ rfl _ _ 25 rfl w.heap.size 5 i0 _ 1 Tryz.underlying25 hi hz0 hz1 .i64 .i64 _ _ (d + 1) rfl rfl (by omega) (by omega) (by rw [hz2]; omega) (by unfold maxLen; omega) (Nat.le_refl _) ?_; intro w1 hown hgrow; have ho1 := OBn.made hown; have hc1 := ho1.cell 0 (by omega); have hf1 := ho1.free 0)
    go_loopw [0, 8] (fun v i wr => ∃ j : Nat, j ≤ d ∧ i = .int .i64 ((d : Int) - j) ∧ v = .int .i64 (n / 256 ^ j) ∧ OBn wr w.heap.size 5 (.slice (some ⟨w.heap.size, 0, none⟩) (d + 1) (d + 1)) (d + 1) (255 :: (List.replicate (d - j) 0 ++ Nf.digs 256 0 n j)) ∧ Below w.heap.size w wr)
      (fun _ i _ => (intOf i).toNat)
    case atStart =>
      refine ⟨0, by omega, by simp, by simp, ?_, (((Below.refl _ _).grown hgrow (Nat.le_refl _) (by simp)).setCell (Nat.le_refl _) _).setCell (Nat.le_refl _) _⟩
      have h := (ho1.stored 0 128).stored 0 255
      simpa [Nf.digs, List.replicate_succ] using h
    case round =>
      obtain ⟨j, hj, rfl, rfl, ho, hbel⟩ := hrel
      have hm := Nf.pow_div_in n 256 h0 h1 (by omega) j
      have hset := fun h => Nf.set_digs' 256 0 n 0 255 d j h
      have hdp := Nf.div_pow n 256 (by omega) j
      generalize hmm : n / 256 ^ j = m at *
      have HMM := Lib.hid hmm; clear hmm
      have HSET := Lib.hid hset; clear hset
      have HDP := Lib.hid hdp; clear hdp
      by_cases hlt : j < d
      · have hc := ho.cell (d - j) (by omega)
        have hf := ho.free (d - j)
        go_wp2
        go_roundw
        case rel =>
          refine ⟨j + 1, by omega, by go_num, by rw [HDP.out], ?_, hbel.setCell (Nat.le_refl _) _⟩
          have h := ho.stored (d - j) (0 + m % 256)
          rw [HSET.out hlt, Int.zero_add] at h
          exact h
        case measure => simp [intOf]; omega
      · have e : j = d := by omega
        subst e
        by_cases hq : m = -1
        · have e : Nf.putB n j = (255 :: Nf.digs 256 0 n j, 0) := by simp [Nf.putB, Nf.sgn, hn, HMM.out, hq]
          have HE := Lib.hid e; clear e
          have hq' : (m == -1) = true := by simp [hq]
          have hq2 : (m != -1) = false := by simp [hq]
          have HQ := Lib.hid hq; clear hq
          go_wp2
          go_ret2
          refine ⟨_, ret_vi (by rw [HE.out]), ?_, hbel⟩
          rw [HE.out]
          simpa using ho.ob
        · have e : Nf.putB n j = ([], 10) := by simp [Nf.putB, Nf.sgn, hn, HMM.out, hq]
          have HE := Lib.hid e; clear e
          have hq' : (m == -1) = false := by simp [hq]
          have hq2 : (m != -1) = true := by simp [hq]
          go_wp2
          go_ret2
          refine ⟨_, ret_vi (by rw [HE.out]), ?_, hbel⟩
          rw [HE.out]
          exact OB.nil _ _ _
  · have hsg : Nf.sgn n = 0 := by simp [Nf.sgn, hn]
    rw [hsg] at hs63
    go_enter Tryz.func163, Tryz.ntmps163
    go_wp2_with (at_make; refine wpList_make_full _ rfl _ _ 25 rfl w.heap.size 5 i0 _ 1 Tryz.underlying25 hi hz0 hz1 .i64 .i64 _ _ (d + 1) rfl rfl (by omega) (by omega) (by rw [hz2]; omega) (by unfold maxLen; omega) (Nat.le_refl _) ?_; intro w1 hown hgrow; have ho1 := OBn.made hown; have hc1 := ho1.cell 0 (by omega); have hf1 := ho1.free 0)
    go_loopw [0, 8] (fun v i wr => ∃ j : Nat, j ≤ d ∧ i = .int .i64 ((d : Int) - j) ∧ v = .int .i64 (n / 256 ^ j) ∧ OBn wr w.heap.size 5 (.slice (some ⟨w.heap.size, 0, none⟩) (d + 1) (d + 1)) (d + 1) (128 :: (List.replicate (d - j) 0 ++ Nf.digs 256 0 n j)) ∧ Below w.heap.size w wr)
      (fun _ i _ => (intOf i).toNat)
    case atStart =>
      refine ⟨0, by omega, by simp, by simp, ?_, ((Below.refl _ _).grown hgrow (Nat.le_refl _) (by simp)).setCell (Nat.le_refl _) _⟩
      have h := ho1.stored 0 128
      simpa [Nf.digs, List.replicate_succ] using h
    case round =>
      obtain ⟨j, hj, rfl, rfl, ho, hbel⟩ := hrel
      have hm := Nf.pow_div_in n 256 h0 h1 (by omega) j
      have hset := fun h => Nf.set_digs' 256 0 n 0 128 d j h
      have hdp := Nf.div_pow n 256 (by omega) j
      generalize hmm : n / 256 ^ j = m at *
      have HMM := Lib.hid hmm; clear hmm
      have HSET := Lib.hid hset; clear hset
      have HDP := Lib.hid hdp; clear hdp
      by_cases hlt : j < d
      · have hc := ho.cell (d - j) (by omega)
        have hf := ho.free (d - j)
        go_wp2
        go_roundw
        case rel =>
          refine ⟨j + 1, by omega, by go_num, by rw [HDP.out], ?_, hbel.setCell (Nat.le_refl _) _⟩
          have h := ho.stored (d - j) (0 + m % 256)
          rw [HSET.out hlt, Int.zero_add] at h
          exact h
        case measure => simp [intOf]; omega
      · have e : j = d := by omega
        subst e
        by_cases hq : m = 0
        · have e : Nf.putB n j = (128 :: Nf.digs 256 0 n j, 0) := by simp [Nf.putB, Nf.sgn, show ¬ n < 0 from by omega, HMM.out, hq]
          have HE := Lib.hid e; clear e
          have hq' : (m == 0) = true := by simp [hq]
          have hq2 : (m != 0) = false := by simp [hq]
          have HQ := Lib.hid hq; clear hq
          go_wp2
          go_ret2
          refine ⟨_, ret_vi (by rw [HE.out]), ?_, hbel⟩
          rw [HE.out]
          simpa using ho.ob
        · have e : Nf.putB n j = ([], 10) := by simp [Nf.putB, Nf.sgn, show ¬ n < 0 from by omega, HMM.out, hq]
          have HE := Lib.hid e; clear e
          have hq' : (m == 0) = false := by simp [hq]
          have hq2 : (m != 0) = true := by simp [hq]
          go_wp2
          go_ret2
          refine ⟨_, ret_vi (by rw [HE.out]), ?_, hbel⟩
          rw [HE.out]
          exact OB.nil _ _ _
/-- A number laid, of any width. -/
theorem put_any (n k : Int) (w : World) (h0 : -9223372036854775808 ≤ n) (h1 : n ≤ 9223372036854775807) :
    Calls Tryz.prog 145 #[.int .i64 n, .int .i64 k] w fun e w' => ∃ v, e = .returned (.tuple #[v, .int .i64 (Nf.putS n k).2]) ∧ OB w' w.heap.size 5 v (Nf.putS n k).1 ∧ Below w.heap.size w w' := by
  obtain ⟨i0, hi, hz0, hz1, hz2⟩ := info_parts info_u8
  cases hw : Nf.wide k with
  | false =>
    have e : Nf.putS n k = ([], 1) := by simp [Nf.putS, hw]
    have HE := Lib.hid e; have HW := Lib.hid hw; clear e hw
    go_enter Tryz.func145, Tryz.ntmps145
    go_wp2_with (go_at_call 153; refine (isWidth_any _ _).mono ?_; rintro e w' ⟨rfl, rfl⟩; rw [HW.out])
    go_ret2
    refine ⟨_, ret_vi (by rw [HE.out]), ?_, Below.refl _ _⟩
    rw [HE.out]; exact OB.nil _ _ _
  | true =>
    have hk : 8 ≤ k ∧ k ≤ 12 := by simp [Nf.wide] at hw; omega
    obtain ⟨d, rfl⟩ : ∃ d : Nat, k = (d : Int) + 1 := ⟨(k - 1).toNat, by omega⟩
    cases hp : Nf.plain n ((d : Int) + 1) with
    | true =>
      have hp2 : 0 ≤ n ∧ n ≤ Nf.most (d : Int) := by simpa [Nf.plain, hw, Int.add_sub_cancel] using hp
      have e : Nf.putS n ((d : Int) + 1) = (Nf.digs 8 48 n d ++ [0], 0) := by simp [Nf.putS, hw, hp]
      have eo : Nf.octS n (d : Int) = (Nf.digs 8 48 n d, 0) := by
        simp [Nf.octS, show ¬ ((d : Int) < 1 ∨ 20 < (d : Int)) from by omega, show ¬ (n < 0 ∨ Nf.most d < n) from by omega]
      have hoc := octal_any n (d : Int) w h0 h1
      rw [eo] at hoc
      have HOC := Lib.hid hoc; clear hoc
      have HE := Lib.hid e; have HW := Lib.hid hw; have HP := Lib.hid hp; clear e hw hp eo
      go_enter Tryz.func145, Tryz.ntmps145
      go_wp2_with (first | (go_at_call 153; refine (isWidth_any _ _).mono ?_; rintro e w' ⟨rfl, rfl⟩; rw [HW.out]) | (go_at_call 162; refine (plain_any _ _ _).mono ?_; rintro e w' ⟨rfl, rfl⟩; rw [HP.out]) | (go_at_call 146; refine HOC.out.mono ?_; rintro e w1 ⟨v, rfl, ho, hb⟩) | (at_builtin; refine wpList_append_own _ rfl _ _ 25 rfl w.heap.size 5 i0 (.int .u8 0) 1 1 Tryz.underlying25 hi hz0 hz1 hz2 rfl (by decide) _ _ _ rfl (ho.alloc _) ⟨w1.heap.size, 0, none⟩ 1 1 [.int .u8 0] rfl rfl (cell_one_new _ _ _) (one_one rfl) (by rw [Nf.len_digs]; unfold maxLen; omega) (by rw [Nf.len_digs]; omega) (by have := hb.size; simp; omega) ?_; intro v2 w2 hown2 hgrow2 _))
      go_ret2
      refine ⟨_, ret_vi (by rw [HE.out]), ?_, ?_⟩
      · rw [HE.out]
        exact OB.snoc hown2
      · exact (hb.alloc hb.size _).grown hgrow2 (by have := hb.size; simp; omega) (fun k hk => (ho.lt k hk).1)
    | false =>
      have e : Nf.putS n ((d : Int) + 1) = Nf.putB n d := by simp [Nf.putS, hw, hp]
      have HE := Lib.hid e; have HW := Lib.hid hw; have HP := Lib.hid hp; clear e hw hp
      go_enter Tryz.func145, Tryz.ntmps145
      go_wp2_with (first | (go_at_call 153; refine (isWidth_any _ _).mono ?_; rintro e w' ⟨rfl, rfl⟩; rw [HW.out]) | (go_at_call 162; refine (plain_any _ _ _).mono ?_; rintro e w' ⟨rfl, rfl⟩; rw [HP.out]) | (go_at_call 163; refine (putBytes_any n d w h0 h1 (by omega) (by omega)).mono ?_; rintro e w1 ⟨v, rfl, ho, hb⟩))
      go_ret2
      exact ⟨_, ret_vi (by rw [HE.out]), by rw [HE.out]; exact ho, hb⟩
set_option maxHeartbeats 800000
/-- A number laid, of any width. -/
theorem refput_any (n k : Int) (w : World) (h0 : -9223372036854775808 ≤ n) (h1 : n ≤ 9223372036854775807) :
    Calls Tryz.prog 70 #[.int .i64 n, .int .i64 k] w fun e w' => ∃ v, e = .returned (.tuple #[v, .int .i64 (Nf.putS n k).2]) ∧ OB w' w.heap.size 5 v (Nf.putS n k).1 ∧ Below w.heap.size w w' := by
  obtain ⟨i0, hi, hz0, hz1, hz2⟩ := info_parts info_u8
  cases hw : Nf.wide k with
  | false =>
    have e : Nf.putS n k = ([], 1) := by simp [Nf.putS, hw]
    have HE := Lib.hid e; have HW := Lib.hid hw; clear e hw
    go_enter Tryz.func70, Tryz.ntmps70
    go_wp2_with (go_at_call 100; refine (refwide_any _ _).mono ?_; rintro e w' ⟨rfl, rfl⟩; rw [HW.out])
    go_ret2
    refine ⟨_, ret_vi (by rw [HE.out]), ?_, Below.refl _ _⟩
    rw [HE.out]; exact OB.nil _ _ _
  | true =>
    have hk : 8 ≤ k ∧ k ≤ 12 := by simp [Nf.wide] at hw; omega
    obtain ⟨d, rfl⟩ : ∃ d : Nat, k = (d : Int) + 1 := ⟨(k - 1).toNat, by omega⟩
    cases hp : Nf.plain n ((d : Int) + 1) with
    | true =>
      have hp2 : 0 ≤ n ∧ n ≤ Nf.most (d : Int) := by simpa [Nf.plain, hw, Int.add_sub_cancel] using hp
      have e : Nf.putS n ((d : Int) + 1) = (Nf.digs 8 48 n d ++ [0], 0) := by simp [Nf.putS, hw, hp]
      have eo : Nf.octS n (d : Int) = (Nf.digs 8 48 n d, 0) := by
        simp [Nf.octS, show ¬ ((d : Int) < 1 ∨ 20 < (d : Int)) from by omega, show ¬ (n < 0 ∨ Nf.most d < n) from by omega]
      have hoc := refoctal_any n (d : Int) w h0 h1
      rw [eo] at hoc
      have HOC := Lib.hid hoc; clear hoc
      have HE := Lib.hid e; have HW := Lib.hid hw; have HP := Lib.hid hp; clear e hw hp eo
      go_enter Tryz.func70, Tryz.ntmps70
      go_wp2_with (first | (go_at_call 100; refine (refwide_any _ _).mono ?_; rintro e w' ⟨rfl, rfl⟩; rw [HW.out]) | (go_at_call 101; refine (refplain_any _ _ _).mono ?_; rintro e w' ⟨rfl, rfl⟩; rw [HP.out]) | (go_at_call 102; refine HOC.out.mono ?_; rintro e w1 ⟨v, rfl, ho, hb⟩) | (at_builtin; refine wpList_append_own _ rfl _ _ 25 rfl w.heap.size 5 i0 (.int .u8 0) 1 1 Tryz.underlying25 hi hz0 hz1 hz2 rfl (by decide) _ _ _ rfl (ho.alloc _) ⟨w1.heap.size, 0, none⟩ 1 1 [.int .u8 0] rfl rfl (cell_one_new _ _ _) (one_one rfl) (by rw [Nf.len_digs]; unfold maxLen; omega) (by rw [Nf.len_digs]; omega) (by have := hb.size; simp; omega) ?_; intro v2 w2 hown2 hgrow2 _))
      go_ret2
      refine ⟨_, ret_vi (by rw [HE.out]), ?_, ?_⟩
      · rw [HE.out]
        exact OB.snoc hown2
      · exact (hb.alloc hb.size _).grown hgrow2 (by have := hb.size; simp; omega) (fun k hk => (ho.lt k hk).1)
    | false =>
      have e : Nf.putS n ((d : Int) + 1) = Nf.putB n d := by simp [Nf.putS, hw, hp]
      have HE := Lib.hid e; have HW := Lib.hid hw; have HP := Lib.hid hp; clear e hw hp
      go_enter Tryz.func70, Tryz.ntmps70
      go_wp2_with (first | (go_at_call 100; refine (refwide_any _ _).mono ?_; rintro e w' ⟨rfl, rfl⟩; rw [HW.out]) | (go_at_call 101; refine (refplain_any _ _ _).mono ?_; rintro e w' ⟨rfl, rfl⟩; rw [HP.out]) | (at_make; refine wpList_make_full _ rfl _ _ 25 rfl w.heap.size 5 i0 _ 1 Tryz.underlying25 hi hz0 hz1 .i64 .i64 _ _ (d + 1) rfl rfl (by omega) (by omega) (by rw [hz2]; omega) (by unfold maxLen; omega) (Nat.le_refl _) ?_; intro w1 hown hgrow; have ho1 := OBn.made hown; have hc1 := ho1.cell 0 (by omega); have hf1 := ho1.free 0))
      go_loopw [9, 10] (fun v i wr => ∃ j : Nat, j ≤ d ∧ i = .int .i64 ((d : Int) - j) ∧ v = .int .i64 (n / 256 ^ j) ∧ OBn wr w.heap.size 5 (.slice (some ⟨w.heap.size, 0, none⟩) (d + 1) (d + 1)) (d + 1) (0 :: (List.replicate (d - j) 0 ++ Nf.digs 256 0 n j)) ∧ Below w.heap.size w wr)
        (fun _ i _ => (intOf i).toNat)
      case atStart =>
        refine ⟨0, by omega, by simp, by simp, ?_, (Below.refl _ _).grown hgrow (Nat.le_refl _) (by simp)⟩
        simpa [Nf.digs, List.replicate_succ] using ho1
      case round =>
        obtain ⟨j, hj, rfl, rfl, ho, hbel⟩ := hrel
        have hm := Nf.pow_div_in n 256 h0 h1 (by omega) j
        have hset := fun h => Nf.set_digs' 256 0 n 0 0 d j h
        have hdp := Nf.div_pow n 256 (by omega) j
        generalize hmm : n / 256 ^ j = m at *
        have HMM := Lib.hid hmm; clear hmm
        have HSET := Lib.hid hset; clear hset
        have HDP := Lib.hid hdp; clear hdp
        by_cases hlt : j < d
        · have hc := ho.cell (d - j) (by omega)
          have hf := ho.free (d - j)
          go_wp2_with (first | (go_at_call 103; refine (low_any _ _).mono ?_; rintro e w' ⟨rfl, rfl⟩) | (go_at_call 104; refine (floor_any _ _ (by omega) (by omega)).mono ?_; rintro e w' ⟨rfl, rfl⟩))
          go_roundw
          case rel =>
            refine ⟨j + 1, by omega, by go_num, by rw [HDP.out], ?_, hbel.setCell (Nat.le_refl _) _⟩
            have h := ho.stored (d - j) (0 + m % 256)
            rw [HSET.out hlt, Int.zero_add] at h
            exact h
          case measure => simp [intOf]; omega
        · have e : j = d := by omega
          subst e
          have hc := ho.cell 0 (by omega)
          have hf := ho.free 0
          by_cases hn : n < 0
          · have g1 : decide (n < 0) = true := by simp; omega
            have g2 : decide (0 ≤ n) = false := by simp; omega
            by_cases hq : m = -1
            · have e : Nf.putB n j = (255 :: Nf.digs 256 0 n j, 0) := by simp [Nf.putB, Nf.sgn, hn, HMM.out, hq]
              have HE2 := Lib.hid e; clear e
              have hq' : (m == -1) = true := by simp [hq]
              have hq2 : (m != -1) = false := by simp [hq]
              have HQ := Lib.hid hq; clear hq
              go_wp2
              go_ret2
              refine ⟨_, ret_vi (by rw [HE.out, HE2.out]), ?_, (hbel.setCell (Nat.le_refl _) _).setCell (Nat.le_refl _) _⟩
              rw [HE.out, HE2.out]
              simpa using ((ho.stored 0 128).stored 0 255).ob
            · have e : Nf.putB n j = ([], 10) := by simp [Nf.putB, Nf.sgn, hn, HMM.out, hq]
              have HE2 := Lib.hid e; clear e
              have hq' : (m == -1) = false := by simp [hq]
              have hq2 : (m != -1) = true := by simp [hq]
              go_wp2
              go_ret2
              refine ⟨_, ret_vi (by rw [HE.out, HE2.out]), ?_, (hbel.setCell (Nat.le_refl _) _).setCell (Nat.le_refl _) _⟩
              rw [HE.out, HE2.out]
              exact OB.nil _ _ _
          · have g1 : decide (n < 0) = false := by simp; omega
            have g2 : decide (0 ≤ n) = true := by simp; omega
            by_cases hq : m = 0
            · have e : Nf.putB n j = (128 :: Nf.digs 256 0 n j, 0) := by simp [Nf.putB, Nf.sgn, show ¬ n < 0 from by omega, HMM.out, hq]
              have HE2 := Lib.hid e; clear e
              have hq' : (m == 0) = true := by simp [hq]
              have hq2 : (m != 0) = false := by simp [hq]
              have HQ := Lib.hid hq; clear hq
              go_wp2
              go_ret2
              refine ⟨_, ret_vi (by rw [HE.out, HE2.out]), ?_, hbel.setCell (Nat.le_refl _) _⟩
              rw [HE.out, HE2.out]
              simpa using (ho.stored 0 128).ob
            · have e : Nf.putB n j = ([], 10) := by simp [Nf.putB, Nf.sgn, show ¬ n < 0 from by omega, HMM.out, hq]
              have HE2 := Lib.hid e; clear e
              have hq' : (m == 0) = false := by simp [hq]
              have hq2 : (m != 0) = true := by simp [hq]
              go_wp2
              go_ret2
              refine ⟨_, ret_vi (by rw [HE.out, HE2.out]), ?_, hbel.setCell (Nat.le_refl _) _⟩
              rw [HE.out, HE2.out]
              exact OB.nil _ _ _
end Go.Proofs.YtjofdgjcbjdhbaaGreatDoor
/- WALKS OF LAYER 1, THIRD PART: numf.Get, what it calls, and the reference's Same: what a field reads as; the bytes are bytes, lengths within capacities. -/
namespace Go.Proofs.YtjofdgjcbjdhbaaGreatDoor
open Go.RowKit
set_option maxHeartbeats 400000
set_option maxRecDepth 20000
/- THE CALLS OF numf AND OF ITS REFERENCE THAT READ A FIELD. -/
theorem isOctal_any (x : Int) (w : World) :
    Calls Tryz.prog 171 #[.int .u8 x] w fun e w' => e = .returned (.bool (Nf.isO x)) ∧ w = w' := by
  by_cases h0 : 48 ≤ x
  · have e : Nf.isO x = decide (x ≤ 55) := by simp [Nf.isO, h0]
    have HE := Lib.hid e; clear e
    go_enter Tryz.func171, Tryz.ntmps171
    go_wp2
    go_ret
    exact ⟨ret_bool (by rw [HE.out]), rfl⟩
  · have e : Nf.isO x = false := by simp [Nf.isO, h0]
    have HE := Lib.hid e; clear e
    go_enter Tryz.func171, Tryz.ntmps171
    go_wp2
    go_ret
    exact ⟨ret_bool (by rw [HE.out]), rfl⟩
theorem isBehind_any (A : Option Addr) (n c : Nat) (xs : List Int) (w : World) (ha : RB w w.heap.size A n xs) (hn : n ≤ 1000000) :
    Calls Tryz.prog 172 #[.slice A n c] w fun e w' => e = .returned (.bool (xs.all Nf.isB)) ∧ w = w' := by
  have hxl := Lib.hid ha.1
  go_enter Tryz.func172, Tryz.ntmps172
  go_wp2
  go_loop [7] (fun i => ∃ k : Nat, k ≤ n ∧ i = .int .i64 k ∧ (xs.take k).all Nf.isB = true) (fun i => n - (intOf i).toNat)
  case atStart => exact ⟨0, by omega, rfl, by simp⟩
  case round =>
    obtain ⟨k, hk, rfl, htk⟩ := hrel
    have HTK := Lib.hid htk; clear htk
    by_cases hlt : k < n
    · obtain ⟨ba, oa, rfl, hba, hca⟩ := ha.at_ hlt
      have hs := Lib.hid (Nf.take_snoc xs k (by have := hxl.out; omega))
      generalize hx : xs.getD k 0 = x at *
      have HX := Lib.hid hx; clear hx
      by_cases h0 : Nf.isB x = true
      · have HB := Lib.hid h0
        simp [Nf.isB] at h0
        have H0 := Lib.hid h0; clear h0
        have g1 : ¬ x = 0 → x = 32 := fun h => H0.out.resolve_left h
        go_wp2
        all_goals
          go_round
          case rel => exact ⟨k + 1, by omega, by go_num, by rw [hs.out]; simp [HB.out]; simpa using HTK.out⟩
          case measure => simp [intOf]; omega
      · have HB := Lib.hid h0
        simp [Nf.isB] at h0
        obtain ⟨h1, h2⟩ := h0
        have g1 : (x != 0) = true := by simp [h1]
        have g2 : (x != 32) = true := by simp [h2]
        go_wp2
        go_ret
        refine ⟨ret_bool ?_, rfl⟩
        rw [eq_comm, Bool.eq_false_iff]
        intro he
        have := List.all_eq_true.1 he x (by rw [← HX.out]; exact getD_mem (by have := hxl.out; omega))
        exact HB.out this
    · have e : k = n := by omega
      subst e
      go_wp2
      go_ret
      refine ⟨ret_bool ?_, rfl⟩
      have h := HTK.out
      rw [List.take_of_length_le (by rw [hxl.out]; exact Nat.le_refl _)] at h
      exact h.symm
theorem trimLeftByte_any (A : Option Addr) (n c B : Nat) (xs : List Int) (x : Int) (w : World) (ha : RB w B A n xs) (hc : n ≤ c) (hc2 : c ≤ maxLen) :
    Calls Tryz.prog 181 #[.slice A n c, .int .u8 x] w fun e w' => ∃ A' n' c', e = .returned (.slice A' n' c') ∧ RB w B A' n' (xs.drop (Nf.run (· == x) xs)) ∧ n' ≤ c' ∧ c' ≤ maxLen ∧ w = w' := by
  unfold maxLen at hc2
  go_enter Tryz.func181, Tryz.ntmps181
  go_wp2
  go_loop [0] (fun s => ∃ A' n' c', s = .slice A' n' c' ∧ n' ≤ n ∧ RB w B A' n' (xs.drop (n - n')) ∧ n' ≤ c' ∧ c' ≤ 9223372036854775807 ∧ (∀ j, j < n - n' → (xs.getD j 0 == x) = true)) (fun s => lenV s)
  case atStart => exact ⟨A, n, c, rfl, Nat.le_refl _, by simpa using ha, hc, hc2, fun j hj => absurd hj (by omega)⟩
  case round =>
    obtain ⟨A', n', c', rfl, hnn, hr, hc', hc2', hall⟩ := hrel
    have HA := Lib.hid hall; clear hall
    by_cases h0 : 0 < n'
    · obtain ⟨b, o, rfl, hb, hcell⟩ := hr.at0 h0
      generalize hy : (xs.drop (n - n')).getD 0 0 = y at *
      have HY := Lib.hid hy; clear hy
      by_cases hxy : y = x
      · have HX := Lib.hid hxy
        have g2 : (y == x) = true := by simp [hxy]
        clear hxy
        go_wp2
        go_round
        case rel =>
          refine ⟨_, n' - 1, c' - 1, rfl, by omega, ?_, by omega, by omega, ?_⟩
          · have := hr.cutAt (k := 1) (cap := c') (by omega) hc' (by omega)
            rwa [List.drop_drop, show n - n' + 1 = n - (n' - 1) from by omega] at this
          · intro j hj
            by_cases hjj : j < n - n'
            · exact HA.out j hjj
            · have e : j = n - n' := by omega
              subst e
              have h := HY.out
              simp only [List.getD, List.getElem?_drop, Nat.add_zero] at h
              simp only [List.getD]
              rw [h, HX.out]; simp
        case measure => simp [lenV]; omega
      · have g2 : (y == x) = false := by simp [hxy]
        have HX := Lib.hid hxy; clear hxy
        have hz : ((n' : Int) == 0) = false := by simp; omega
        go_wp2
        go_ret
        refine ⟨_, _, _, rfl, ?_, hc', hc2', rfl⟩
        rw [Nf.run_eq (· == x) xs (n - n') (by rw [ha.1]; omega) HA.out ?_]
        · exact hr
        · intro _
          have h := HY.out
          simp only [List.getD, List.getElem?_drop, Nat.add_zero] at h
          simp only [List.getD]
          rw [h]; exact g2
    · have hz : ((n' : Int) == 0) = true := by simp; omega
      have e0 : n' = 0 := by omega
      subst e0
      go_wp2
      go_ret
      refine ⟨_, _, _, rfl, ?_, Nat.le_refl _, Nat.zero_le _, rfl⟩
      rw [Nf.run_eq (· == x) xs n (by rw [ha.1]; exact Nat.le_refl _) HA.out (fun h => absurd h (by rw [ha.1]; omega))]
      rw [List.drop_of_length_le (by rw [ha.1]; exact Nat.le_refl _)]
      exact RB.nil
set_option maxRecDepth 100000 in
theorem trimLeft_any (A : Option Addr) (n c B : Nat) (xs : List Int) (w : World) (ha : RB w B A n xs) (hc : n ≤ c) (hc2 : c ≤ maxLen) :
    Calls Tryz.prog 170 #[.slice A n c, .string ⟨#[32]⟩] w fun e w' => ∃ A' n' c', e = .returned (.slice A' n' c') ∧ RB w B A' n' (xs.drop (Nf.run (· == 32) xs)) ∧ n' ≤ c' ∧ c' ≤ maxLen ∧ w = w' := by
  by_cases h0 : n = 0
  · subst h0
    obtain rfl : xs = [] := List.eq_nil_of_length_eq_zero ha.1
    go_enter Tryz.func170, Tryz.ntmps170
    go_wp2
    go_ret
    exact ⟨_, _, _, rfl, by simpa using RB.nil, Nat.le_refl _, Nat.zero_le _, rfl⟩
  · have hz : ((n : Int) == 0) = false := by simp; omega
    have h := Lib.hid (trimLeftByte_any A n c B xs 32 w ha hc hc2)
    clear ha hc hc2 h0
    go_enter Tryz.func170, Tryz.ntmps170
    go_wp2_with (go_at_call 181; refine h.out.mono ?_; rintro e w' ⟨A', n', c', rfl, h1, h2, h3, rfl⟩)
    go_ret
    exact ⟨_, _, _, rfl, h1, h2, h3, rfl⟩
theorem getBytes_any (A : Option Addr) (n c : Nat) (xs : List Int) (s : Int) (w : World) (ha : RB w w.heap.size A n xs) (hx : Byt xs) (hn : n ≤ 1000000) (hs : s = 0 ∨ s = -1) :
    Calls Tryz.prog 155 #[.slice A n c, .int .i64 s] w fun e w' => e = .returned (.tuple #[.int .i64 (Nf.runB s s xs).1, .int .i64 (Nf.runB s s xs).2]) ∧ w = w' := by
  have hxl := Lib.hid ha.1
  have hss : -1 ≤ s ∧ s ≤ 0 := by omega
  go_enter Tryz.func155, Tryz.ntmps155
  go_wp2
  go_loop [6, 12] (fun v i => ∃ k : Nat, ∃ m : Int, k ≤ n ∧ i = .int .i64 k ∧ v = .int .i64 m ∧ -9223372036854775808 ≤ m ∧ m ≤ 9223372036854775807 ∧ Nf.runB s m (xs.drop k) = Nf.runB s s xs) (fun _ i => n - (intOf i).toNat)
  case atStart => exact ⟨0, s, by omega, rfl, rfl, by omega, by omega, by simp⟩
  case round =>
    obtain ⟨k, m, hk, rfl, rfl, hm1, hm2, hr⟩ := hrel
    have HR := Lib.hid hr; clear hr
    by_cases hlt : k < n
    · obtain ⟨ba, oa, rfl, hba, hca⟩ := ha.at_ hlt
      have hxk := hx k
      have hd := Lib.hid (Nf.drop_at xs k (by have := hxl.out; omega))
      generalize hy : xs.getD k 0 = y at *
      have HY := Lib.hid hy; clear hy
      by_cases hq : m / 36028797018963968 = s
      · have g1 : (m / 36028797018963968 != s) = false := by simp [hq]
        have HQ := Lib.hid hq; clear hq
        have hb1 : -36028797018963968 ≤ m := by have := HQ.out; omega
        have hb2 : m < 36028797018963968 := by have := HQ.out; omega
        go_wp2
        go_round
        case rel =>
          have e := Nf.or256 m y hb1 hb2 hxk.1 hxk.2
          rw [e]
          refine ⟨k + 1, m * 256 + y, by omega, by go_num, rfl, by omega, by omega, ?_⟩
          rw [← HR.out, hd.out, Nf.runB, if_pos HQ.out]
        case measure => simp [intOf]; omega
      · have g1 : (m / 36028797018963968 != s) = true := by simp [hq]
        have HQ := Lib.hid hq; clear hq
        go_wp2
        go_ret2
        exact ⟨ret_ii (by rw [← HR.out, hd.out, Nf.runB, if_neg HQ.out]) (by rw [← HR.out, hd.out, Nf.runB, if_neg HQ.out]), rfl⟩
    · have e : k = n := by omega
      subst e
      go_wp2
      go_ret2
      have e : Nf.runB s m (xs.drop k) = (m, 0) := by rw [List.drop_of_length_le (by rw [hxl.out]; exact Nat.le_refl _)]; rfl
      exact ⟨ret_ii (by rw [← HR.out, e]) (by rw [← HR.out, e]), rfl⟩
theorem getOctal_any (A : Option Addr) (n c : Nat) (xs : List Int) (w : World) (ha : RB w w.heap.size A n xs) (hx : Byt xs) (hn : n ≤ 12) (hc : n ≤ c) (hc2 : c ≤ maxLen) :
    Calls Tryz.prog 154 #[.slice A n c] w fun e w' => e = .returned (.tuple #[.int .i64 (Nf.octG xs).1, .int .i64 (Nf.octG xs).2]) ∧ w = w' := by
  have hxl := ha.1
  have htl := Lib.hid (trimLeft_any A n c w.heap.size xs w ha hc hc2)
  obtain ⟨ys, hys⟩ : ∃ ys, ys = xs.drop (Nf.run (· == 32) xs) := ⟨_, rfl⟩
  have hyl : ys.length ≤ 12 := by rw [hys, List.length_drop]; omega
  have hyb : Byt ys := by rw [hys]; exact hx.drop _
  have hoct : Nf.octG xs = if Nf.run Nf.isO ys = 0 ∨ (ys.drop (Nf.run Nf.isO ys)).all Nf.isB = false then (0, 3) else (Nf.say 8 48 0 (ys.take (Nf.run Nf.isO ys)), 0) := by rw [hys]; rfl
  rw [← hys] at htl
  have HOCT := Lib.hid hoct
  clear hoct hys hxl hx hc hc2 ha
  go_enter Tryz.func154, Tryz.ntmps154
  go_wp2_with (go_at_call 170; refine htl.out.mono ?_; rintro e w' ⟨A', n', c', rfl, h1, h2, h3, rfl⟩)
  have hyn := h1.1
  have HYN := Lib.hid hyn
  have hn' : n' ≤ 12 := by omega
  clear hyn
  unfold maxLen at h3
  go_loop [4, 5] (fun v i => ∃ k : Nat, ∃ m : Int, k ≤ n' ∧ i = .int .i64 k ∧ v = .int .i64 m ∧ 0 ≤ m ∧ m < 8 ^ k ∧ m = Nf.say 8 48 0 (ys.take k) ∧ (∀ j, j < k → Nf.isO (ys.getD j 0) = true)) (fun _ i => n' - (intOf i).toNat)
  case atStart => exact ⟨0, 0, by omega, rfl, rfl, by omega, by simp, by simp [Nf.say], fun j hj => absurd hj (by omega)⟩
  case round =>
    obtain ⟨k, m, hk, rfl, rfl, hm1, hm2, hm, hall⟩ := hrel
    have HM := Lib.hid hm; have HALL := Lib.hid hall; clear hm hall
    have hp := Nf.pow8 k (by omega)
    have hm3 : m < 68719476736 := by omega
    by_cases hlt : k < n' ∧ Nf.isO (ys.getD k 0) = true
    · obtain ⟨hlt, hO⟩ := hlt
      obtain ⟨ba, oa, rfl, hba, hca⟩ := h1.at_ hlt
      have hs := Lib.hid (Nf.take_snoc ys k (by have := HYN.out; omega))
      have hyk := Nf.isO_bd hO
      generalize hy : ys.getD k 0 = y at *
      have HY := Lib.hid hy; have HO := Lib.hid hO; clear hy hO
      have HM2 := Lib.hid hm2
      clear hm2 hp
      go_wp2_with (go_at_call 171; refine (isOctal_any _ _).mono ?_; rintro e w' ⟨rfl, rfl⟩; rw [HO.out])
      go_round
      case rel =>
        rw [Nf.or8 m (y - 48) hm1 (by omega) (by omega) (by omega)]
        have h := HM2.out
        refine ⟨k + 1, m * 8 + (y - 48), by omega, by go_num, rfl, by omega, by rw [Int.pow_succ]; omega, by rw [hs.out, Nf.say_snoc, ← HM.out], ?_⟩
        intro j hj
        by_cases hjk : j < k
        · exact HALL.out j hjk
        · rw [show j = k from by omega, HY.out]; exact HO.out
      case measure => simp [intOf]; omega
    · have hrun : Nf.run Nf.isO ys = k := Nf.run_eq _ _ _ (by have := HYN.out; omega) HALL.out (fun h => by
        rw [← Bool.not_eq_true]; exact fun h2 => hlt ⟨by have := HYN.out; omega, h2⟩)
      have hno : k < n' → Nf.isO (ys.getD k 0) = false := fun h => by
        rw [← Bool.not_eq_true]; exact fun h2 => hlt ⟨h, h2⟩
      clear hlt hm2 hp
      have ho := HOCT.out
      rw [hrun] at ho
      have HNO := Lib.hid hno; clear hno hrun
      by_cases hk0 : k = 0
      · rw [if_pos (Or.inl hk0)] at ho
        have HO := Lib.hid ho; clear ho
        subst hk0
        by_cases hlt : 0 < n'
        · obtain ⟨ba, oa, rfl, hba, hca⟩ := h1.at0 hlt
          have hn0 := HNO.out hlt
          generalize hy : ys.getD 0 0 = y at *
          have HN0 := Lib.hid hn0; have HY := Lib.hid hy; clear hn0 hy
          go_wp2_with (go_at_call 171; refine (isOctal_any _ _).mono ?_; rintro e w' ⟨rfl, rfl⟩; rw [HN0.out])
          go_ret2
          exact ⟨ret_ii (by rw [HO.out]) (by rw [HO.out]), rfl⟩
        · go_wp2
          go_ret2
          exact ⟨ret_ii (by rw [HO.out]) (by rw [HO.out]), rfl⟩
      · obtain ⟨b, o, rfl, hb, _⟩ := h1.at0 (show 0 < n' by omega)
        have hz : ((k : Int) == 0) = false := by simp; omega
        have hcut := Lib.hid (h1.cutAt (k := k) (cap := c') hk h2 (by omega))
        cases hB : (ys.drop k).all Nf.isB
        all_goals
          simp only [hk0, hB, false_or, if_true, if_false, Bool.true_eq_false] at ho
          have HO := Lib.hid ho
          have HB := Lib.hid hB
          clear ho hB
          rcases Nat.lt_or_ge k c' with hck | hck
          · have hck2 : ¬ c' = k := by omega
            have hcut2 := hcut.out
            rw [if_neg hck2] at hcut2
            have HCUT := Lib.hid hcut2; clear hcut2 hcut
            by_cases hlt : k < n'
            · obtain ⟨_, _, he, hba, hca⟩ := h1.at_ hlt
              cases he
              have hn0 := HNO.out hlt
              generalize hy : ys.getD k 0 = y at *
              have HN0 := Lib.hid hn0; have HY := Lib.hid hy; clear hn0 hy
              go_wp2_with (first | (go_at_call 171; refine (isOctal_any _ _).mono ?_; rintro e w' ⟨rfl, rfl⟩; rw [HN0.out]) | (go_at_call 172; (with_reducible refine (isBehind_any _ _ _ _ _ HCUT.out (by omega)).mono ?_); rintro e w' ⟨rfl, rfl⟩; rw [HB.out]))
              go_ret2
              exact ⟨ret_ii (by first | rw [HO.out, ← HM.out] | rw [HO.out]) (by rw [HO.out]), rfl⟩
            · go_wp2_with (go_at_call 172; (with_reducible refine (isBehind_any _ _ _ _ _ HCUT.out (by omega)).mono ?_); rintro e w' ⟨rfl, rfl⟩; rw [HB.out])
              go_ret2
              exact ⟨ret_ii (by first | rw [HO.out, ← HM.out] | rw [HO.out]) (by rw [HO.out]), rfl⟩
          · have hck2 : c' = k := by omega
            have hkn : n' = k := by omega
            have hcut2 := hcut.out
            rw [if_pos hck2, show n' - k = 0 from by omega] at hcut2
            have HCUT := Lib.hid hcut2; clear hcut2 hcut
            subst hck2
            subst hkn
            go_wp2_with (go_at_call 172; (with_reducible refine (isBehind_any _ _ _ _ _ HCUT.out (by omega)).mono ?_); rintro e w' ⟨rfl, rfl⟩; rw [HB.out])
            go_ret2
            exact ⟨ret_ii (by first | rw [HO.out, ← HM.out] | rw [HO.out]) (by rw [HO.out]), rfl⟩
theorem get_any (A : Option Addr) (n c : Nat) (xs : List Int) (w : World) (ha : RB w w.heap.size A n xs) (hx : Byt xs) (hc : n ≤ c) (hc2 : c ≤ maxLen) :
    Calls Tryz.prog 134 #[.slice A n c] w fun e w' => e = .returned (.tuple #[.int .i64 (Nf.getS xs).1, .int .i64 (Nf.getS xs).2]) ∧ w = w' := by
  have hxl := ha.1
  cases hw : Nf.wide n with
  | false =>
    have e : Nf.getS xs = (0, 1) := by simp [Nf.getS, hxl, hw]
    have HE := Lib.hid e; have HW := Lib.hid hw; clear e hw hxl
    go_enter Tryz.func134, Tryz.ntmps134
    go_wp2
    go_step3
    go_wp2_with (go_at_call 153; refine (isWidth_any _ _).mono ?_; rintro e w' ⟨rfl, rfl⟩; rw [HW.out])
    try simp only [Exit.noGoto_ret]
    go_ret2
    exact ⟨ret_ii (by rw [HE.out]; try simp) (by rw [HE.out]; try simp), rfl⟩
  | true =>
    have hk : 8 ≤ n ∧ n ≤ 12 := by simp [Nf.wide] at hw; omega
    obtain ⟨b, o, rfl, hb, hc0⟩ := ha.at0 (by omega)
    have hgo := Lib.hid (getOctal_any _ n c xs w ha hx (by omega) hc hc2)
    have e : Nf.getS xs = if xs.getD 0 0 = 128 then Nf.runB 0 0 (xs.drop 1) else if xs.getD 0 0 = 255 then Nf.runB (-1) (-1) (xs.drop 1) else Nf.octG xs := by
      rw [Nf.getS, if_neg (by rw [hxl, hw]; simp), Nf.runB_base 0 (Or.inl rfl) _ (hx.drop 1), Nf.runB_base (-1) (Or.inr rfl) _ (hx.drop 1)]
    have hcut := ha.cutAt (k := 1) (cap := c) (by omega) hc (by omega)
    rw [if_neg (by omega)] at hcut
    have hgb := fun s hs => getBytes_any _ (n - 1) (c - 1) (xs.drop 1) s w hcut (hx.drop 1) (by omega) hs
    have hc1 : ¬ c = 1 := by omega
    generalize hy : xs.getD 0 0 = y at *
    have HGB := Lib.hid hgb; have HW := Lib.hid hw; have HY := Lib.hid hy
    clear hgb hw hxl hcut hy
    by_cases h1 : y = 128
    · rw [if_pos h1] at e
      have HE := Lib.hid e; clear e
      subst h1
      go_enter Tryz.func134, Tryz.ntmps134
      go_wp2
      refine wp_scope_once 0 rfl ?_
      go_wp2_with (first | (go_at_call 153; refine (isWidth_any _ _).mono ?_; rintro e w' ⟨rfl, rfl⟩; rw [HW.out]) | (go_at_call 155; (with_reducible refine (HGB.out _ (by omega)).mono ?_); rintro e w' ⟨rfl, rfl⟩) | (go_at_call 154; (with_reducible refine hgo.out.mono ?_); rintro e w' ⟨rfl, rfl⟩))
      go_step3
      try simp only [Exit.jump]
      refine ⟨rfl, ?_⟩
      go_wp2_with (first | (go_at_call 153; refine (isWidth_any _ _).mono ?_; rintro e w' ⟨rfl, rfl⟩; rw [HW.out]) | (go_at_call 155; (with_reducible refine (HGB.out _ (by omega)).mono ?_); rintro e w' ⟨rfl, rfl⟩) | (go_at_call 154; (with_reducible refine hgo.out.mono ?_); rintro e w' ⟨rfl, rfl⟩))
      try simp only [Exit.noGoto_ret]
      go_ret2
      exact ⟨ret_ii (by rw [HE.out]; try simp) (by rw [HE.out]; try simp), rfl⟩
    · rw [if_neg h1] at e
      by_cases h2 : y = 255
      · rw [if_pos h2] at e
        have HE := Lib.hid e; clear e h1
        subst h2
        go_enter Tryz.func134, Tryz.ntmps134
        go_wp2
        refine wp_scope_once 1 rfl ?_
        go_wp2_with (first | (go_at_call 153; refine (isWidth_any _ _).mono ?_; rintro e w' ⟨rfl, rfl⟩; rw [HW.out]) | (go_at_call 155; (with_reducible refine (HGB.out _ (by omega)).mono ?_); rintro e w' ⟨rfl, rfl⟩) | (go_at_call 154; (with_reducible refine hgo.out.mono ?_); rintro e w' ⟨rfl, rfl⟩))
        go_step3
        try simp only [Exit.jump]
        refine ⟨rfl, ?_⟩
        go_wp2_with (first | (go_at_call 153; refine (isWidth_any _ _).mono ?_; rintro e w' ⟨rfl, rfl⟩; rw [HW.out]) | (go_at_call 155; (with_reducible refine (HGB.out _ (by omega)).mono ?_); rintro e w' ⟨rfl, rfl⟩) | (go_at_call 154; (with_reducible refine hgo.out.mono ?_); rintro e w' ⟨rfl, rfl⟩))
        try simp only [Exit.noGoto_ret]
        go_ret2
        exact ⟨ret_ii (by rw [HE.out]; try simp) (by rw [HE.out]; try simp), rfl⟩
      · rw [if_neg h2] at e
        have HE := Lib.hid e; clear e
        have g1 : (y == 128) = false := by simp [h1]
        have g2 : (y == 255) = false := by simp [h2]
        go_enter Tryz.func134, Tryz.ntmps134
        go_wp2
        go_step3
        go_wp2_with (first | (go_at_call 153; refine (isWidth_any _ _).mono ?_; rintro e w' ⟨rfl, rfl⟩; rw [HW.out]) | (go_at_call 155; (with_reducible refine (HGB.out _ (by omega)).mono ?_); rintro e w' ⟨rfl, rfl⟩) | (go_at_call 154; (with_reducible refine hgo.out.mono ?_); rintro e w' ⟨rfl, rfl⟩))
        try simp only [Exit.noGoto_ret]
        go_ret2
        exact ⟨ret_ii (by rw [HE.out]; try simp) (by rw [HE.out]; try simp), rfl⟩
end Go.Proofs.YtjofdgjcbjdhbaaGreatDoor
/- WALKS OF LAYER 1, FOURTH PART: the reference's Get, numf.Exact, and what each law asks besides (alive). -/
namespace Go.Proofs.YtjofdgjcbjdhbaaGreatDoor
open Go.RowKit
set_option maxHeartbeats 800000
set_option maxRecDepth 20000
/- THE REFERENCE THAT READS A FIELD. -/
set_option maxHeartbeats 1600000
theorem al_1 : Nf.putS 8 8 = ([48, 48, 48, 48, 48, 49, 48, 0], 0) := by decide
theorem al_2 : Nf.getS [48, 48, 48, 48, 48, 49, 48, 0] = (8, 0) := by decide
theorem al_3 : Nf.putS (-1) 8 = ([255, 255, 255, 255, 255, 255, 255, 255], 0) := by decide
theorem al_4 : Nf.exactS [255, 255, 255, 255, 255, 255, 255, 255] = true := by decide
theorem al_5 : Nf.most 2 = 63 := by decide
theorem al_6 : strOfNums [48, 48, 48, 48, 48, 49, 48, 0] = ⟨#[48, 48, 48, 48, 48, 49, 48, 0]⟩ := by decide
theorem al_b1 : Byt [48, 48, 48, 48, 48, 49, 48, 0] := by have := Nf.byt_putS 8 8; rwa [al_1] at this
theorem al_b3 : Byt [255, 255, 255, 255, 255, 255, 255, 255] := by have := Nf.byt_putS (-1) 8; rwa [al_3] at this
end Go.Proofs.YtjofdgjcbjdhbaaGreatDoor
