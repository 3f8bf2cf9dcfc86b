/- WALKS OF LAYER 1, FIRST PART: numf.Most, Plain and their reference's, in every memory; no conditions but those that the theorems name. -/
import Derived.Test.YthnkjmckdcmjpaaDoorChecked
import Derived.Test.YthnkjmckdcmjpaaDoorN1
import Derived.Test.YthnkjmckdcmjpaaDoorCm
namespace Go.Proofs.YthnkjmckdcmjpaaDoor
open Go.RowKit
set_option maxHeartbeats 400000
/- THE CALLS OF numf AND OF ITS REFERENCE, BY CONTRACTS: what each answers, and what it does to the memory. -/
theorem isWidth_any (n : Int) (w : World) :
    Calls Tryd.prog 26 #[.int .i64 n] w fun e w' => e = .returned (.bool (Nf.wide n)) ∧ w = w' := by
  go_enter Tryd.func26, Tryd.ntmps26
  go_wp2_with fail
  all_goals
    go_ret
    refine ⟨?_, rfl⟩
    simp [Nf.wide, *]
theorem refwide_any (n : Int) (w : World) :
    Calls Tryd.prog 29 #[.int .i64 n] w fun e w' => e = .returned (.bool (Nf.wide n)) ∧ w = w' := by
  go_enter Tryd.func29, Tryd.ntmps29
  go_wp2_with fail
  all_goals
    go_ret
    refine ⟨?_, rfl⟩
    simp [Nf.wide, *]
theorem most_any (n : Int) (w : World) :
    Calls Tryd.prog 24 #[.int .i64 n] w fun e w' => e = .returned (.int .i64 (Nf.most n)) ∧ w = w' := by
  go_enter Tryd.func24, Tryd.ntmps24
  go_wp2_with fail
  all_goals go_ret
  all_goals refine ⟨ret_int ?_, rfl⟩
  all_goals first
    | exact Nf.most_mm n
    | (have h : 20 < if n < 0 then 0 else n := by assumption
       rw [Nf.most_high n (by split at h <;> omega)]; exact Nf.most_w1)
    | (rw [Nf.most_low n (by assumption)]; exact Nf.most_w2)
    | (have h : (if n < 0 then 0 else n) ≤ 20 := by assumption
       exact Nf.most_mid' n (by assumption) (by split at h <;> omega))
theorem refmost_any (n : Int) (w : World) :
    Calls Tryd.prog 25 #[.int .i64 n] w fun e w' => e = .returned (.int .i64 (Nf.most n)) ∧ w = w' := by
  have hc := Nf.most_clamp n
  obtain ⟨hm1, hm2, hm3⟩ := Nf.clamp_bd n
  generalize Nf.clamp n = m at *
  have HC := Lib.hid hc; clear hc
  have HM2 := Lib.hid hm2; clear hm2
  have HM3 := Lib.hid hm3; clear hm3
  go_enter Tryd.func25, Tryd.ntmps25
  go_wp2_with fail
  go_loop [3, 4] (fun v i => ∃ k : Nat, k ≤ m ∧ i = .int .i64 k ∧ v = .int .i64 (Nf.most (k : Int))) (fun _ i => m - (intOf i).toNat)
  case atStart => exact ⟨0, by omega, rfl, by simp [Nf.most]⟩
  case round =>
    obtain ⟨k, hk, rfl, rfl⟩ := hrel
    have hb := Nf.most_bd (k : Int)
    by_cases hlt : k < m
    · have h1 : (k : Int) < n := by have := HM2.out; omega
      have h2 : (k : Int) < 20 := by omega
      have hs := Lib.hid (Nf.most_succ k (by omega))
      go_wp2
      go_round
      case rel => exact ⟨k + 1, by omega, by go_num, by rw [hs.out]⟩
      case measure => simp [intOf]; omega
    · have e : k = m := by omega
      subst e
      by_cases h1 : (k : Int) < n
      · have h2 : ¬ (k : Int) < 20 := by have := HM3.out; omega
        go_wp2
        go_ret
        exact ⟨ret_int HC.out.symm, rfl⟩
      · go_wp2
        go_ret
        exact ⟨ret_int HC.out.symm, rfl⟩
end Go.Proofs.YthnkjmckdcmjpaaDoor
