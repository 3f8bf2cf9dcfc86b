/- WALKS OF LAYER 1, FIRST PART: numf.Most, Plain and their reference's, in every memory; no conditions but those that the theorems name. -/
import Derived.Test.YtfkhemlaohkhkaaDoorChecked
import Derived.Test.YtfkhemlaohkhkaaDoorN1
import Derived.Test.YtfkhemlaohkhkaaDoorCm
namespace Go.Proofs.YtfkhemlaohkhkaaDoor
open Go.RowKit
set_option maxHeartbeats 400000
/- THE CALLS OF numf AND OF ITS REFERENCE, BY CONTRACTS: what each answers, and what it does to the memory. -/
theorem isWidth_any (n : Int) (w : World) :
    Calls Tryd.prog 55 #[.int .i64 n] w fun e w' => e = .returned (.bool (Nf.wide n)) ∧ w = w' := by
  go_enter Tryd.func55, Tryd.ntmps55
  go_wp2_with fail
  all_goals
    go_ret
    refine ⟨?_, rfl⟩
    simp [Nf.wide, *]
theorem refwide_any (n : Int) (w : World) :
    Calls Tryd.prog 43 #[.int .i64 n] w fun e w' => e = .returned (.bool (Nf.wide n)) ∧ w = w' := by
  go_enter Tryd.func43, Tryd.ntmps43
  go_wp2_with fail
  all_goals
    go_ret
    refine ⟨?_, rfl⟩
    simp [Nf.wide, *]
theorem most_any (n : Int) (w : World) :
    Calls Tryd.prog 59 #[.int .i64 n] w fun e w' => e = .returned (.int .i64 (Nf.most n)) ∧ w = w' := by
  go_enter Tryd.func59, Tryd.ntmps59
  go_wp2_with fail
  all_goals go_ret
  all_goals refine ⟨ret_int ?_, rfl⟩
  all_goals first
    | exact Nf.most_mm n
    | (have h : 20 < if n < 0 then 0 else n := by assumption
       rw [Nf.most_high n (by split at h <;> omega)]; exact Nf.most_w1)
    | (rw [Nf.most_low n (by assumption)]; exact Nf.most_w2)
    | (have h : (if n < 0 then 0 else n) ≤ 20 := by assumption
       exact Nf.most_mid' n (by assumption) (by split at h <;> omega))
theorem refmost_any (n : Int) (w : World) :
    Calls Tryd.prog 47 #[.int .i64 n] w fun e w' => e = .returned (.int .i64 (Nf.most n)) ∧ w = w' := by
  have hc := Nf.most_clamp n
  obtain ⟨hm1, hm2, hm3⟩ := Nf.clamp_bd n
  generalize Nf.clamp n = m at *
  have HC := Lib.hid hc; clear hc
  have HM2 := Lib.hid hm2; clear hm2
  have HM3 := Lib.hid hm3; clear hm3
  go_enter Tryd.func47, Tryd.ntmps47
  go_wp2_with fail
  go_loop [3, 4] (fun v i => ∃ k : Nat, k ≤ m ∧ i = .int .i64 k ∧ v = .int .i64 (Nf.most (k : Int))) (fun _ i => m - (intOf i).toNat)
  case atStart => exact ⟨0, by omega, rfl, by simp [Nf.most]⟩
  case round =>
    obtain ⟨k, hk, rfl, rfl⟩ := hrel
    have hb := Nf.most_bd (k : Int)
    by_cases hlt : k < m
    · have h1 : (k : Int) < n := by have := HM2.out; omega
      have h2 : (k : Int) < 20 := by omega
      have hs := Lib.hid (Nf.most_succ k (by omega))
      go_wp2
      go_round
      case rel => exact ⟨k + 1, by omega, by go_num, by rw [hs.out]⟩
      case measure => simp [intOf]; omega
    · have e : k = m := by omega
      subst e
      by_cases h1 : (k : Int) < n
      · have h2 : ¬ (k : Int) < 20 := by have := HM3.out; omega
        go_wp2
        go_ret
        exact ⟨ret_int HC.out.symm, rfl⟩
      · go_wp2
        go_ret
        exact ⟨ret_int HC.out.symm, rfl⟩
theorem plain_any (n k : Int) (w : World) :
    Calls Tryd.prog 56 #[.int .i64 n, .int .i64 k] w fun e w' => e = .returned (.bool (Nf.plain n k)) ∧ w = w' := by
  cases hw : Nf.wide k with
  | false =>
    have e : Nf.plain n k = false := by simp [Nf.plain, hw]
    have HE := Lib.hid e; have HW := Lib.hid hw; clear e hw
    go_enter Tryd.func56, Tryd.ntmps56
    go_wp2_with (go_at_call 55; refine (isWidth_any _ _).mono ?_; rintro e w' ⟨rfl, rfl⟩; rw [HW.out])
    go_ret
    exact ⟨ret_bool (by rw [HE.out]), rfl⟩
  | true =>
    have e : Nf.plain n k = (decide (0 ≤ n) && decide (n ≤ Nf.most (k - 1))) := by simp [Nf.plain, hw]
    have hk : 8 ≤ k ∧ k ≤ 12 := by simp [Nf.wide] at hw; omega
    have HE := Lib.hid e; have HW := Lib.hid hw; clear e hw
    by_cases hn : 0 ≤ n
    · go_enter Tryd.func56, Tryd.ntmps56
      go_wp2_with (first | (go_at_call 55; refine (isWidth_any _ _).mono ?_; rintro e w' ⟨rfl, rfl⟩; rw [HW.out]) | (go_at_call 59; refine (most_any _ _).mono ?_; rintro e w' ⟨rfl, rfl⟩))
      go_ret
      exact ⟨ret_bool (by rw [HE.out, decide_eq_true hn]; rfl), rfl⟩
    · go_enter Tryd.func56, Tryd.ntmps56
      go_wp2_with (first | (go_at_call 55; refine (isWidth_any _ _).mono ?_; rintro e w' ⟨rfl, rfl⟩; rw [HW.out]) | (go_at_call 59; refine (most_any _ _).mono ?_; rintro e w' ⟨rfl, rfl⟩))
      go_ret
      exact ⟨ret_bool (by rw [HE.out, decide_eq_false (by omega)]; rfl), rfl⟩
theorem refplain_any (n k : Int) (w : World) :
    Calls Tryd.prog 44 #[.int .i64 n, .int .i64 k] w fun e w' => e = .returned (.bool (Nf.plain n k)) ∧ w = w' := by
  cases hw : Nf.wide k with
  | false =>
    have e : Nf.plain n k = false := by simp [Nf.plain, hw]
    have HE := Lib.hid e; have HW := Lib.hid hw; clear e hw
    go_enter Tryd.func44, Tryd.ntmps44
    go_wp2_with (go_at_call 43; refine (refwide_any _ _).mono ?_; rintro e w' ⟨rfl, rfl⟩; rw [HW.out])
    go_ret
    exact ⟨ret_bool (by rw [HE.out]), rfl⟩
  | true =>
    have e : Nf.plain n k = (decide (0 ≤ n) && decide (n ≤ Nf.most (k - 1))) := by simp [Nf.plain, hw]
    have hk : 8 ≤ k ∧ k ≤ 12 := by simp [Nf.wide] at hw; omega
    have HE := Lib.hid e; have HW := Lib.hid hw; clear e hw
    by_cases hn : 0 ≤ n
    · go_enter Tryd.func44, Tryd.ntmps44
      go_wp2_with (first | (go_at_call 43; refine (refwide_any _ _).mono ?_; rintro e w' ⟨rfl, rfl⟩; rw [HW.out]) | (go_at_call 47; refine (refmost_any _ _).mono ?_; rintro e w' ⟨rfl, rfl⟩))
      go_ret
      exact ⟨ret_bool (by rw [HE.out, decide_eq_true hn]; rfl), rfl⟩
    · go_enter Tryd.func44, Tryd.ntmps44
      go_wp2_with (first | (go_at_call 43; refine (refwide_any _ _).mono ?_; rintro e w' ⟨rfl, rfl⟩; rw [HW.out]) | (go_at_call 47; refine (refmost_any _ _).mono ?_; rintro e w' ⟨rfl, rfl⟩))
      go_ret
      exact ⟨ret_bool (by rw [HE.out, decide_eq_false (by omega)]; rfl), rfl⟩
theorem low_any (n : Int) (w : World) :
    Calls Tryd.prog 45 #[.int .i64 n] w fun e w' => e = .returned (.int .u8 (n % 256)) ∧ w = w' := by
  go_enter Tryd.func45, Tryd.ntmps45
  go_wp2_with fail
  go_ret
  exact ⟨ret_int (Nf.low_eq n), rfl⟩
theorem floor_any (n : Int) (w : World) (h0 : -9223372036854775808 ≤ n) (h1 : n ≤ 9223372036854775807) :
    Calls Tryd.prog 46 #[.int .i64 n] w fun e w' => e = .returned (.int .i64 (n / 256)) ∧ w = w' := by
  have hb : -9223372036854775808 ≤ n.tdiv 256 ∧ n.tdiv 256 ≤ 9223372036854775807 := Nf.td_bd n h0 h1
  go_enter Tryd.func46, Tryd.ntmps46
  go_wp2_with fail
  · go_ret
    exact ⟨ret_int (Nf.floor_neg n h0 (by assumption)), rfl⟩
  · go_ret
    exact ⟨ret_int (Nf.floor_pos n (by assumption)), rfl⟩
end Go.Proofs.YtfkhemlaohkhkaaDoor
