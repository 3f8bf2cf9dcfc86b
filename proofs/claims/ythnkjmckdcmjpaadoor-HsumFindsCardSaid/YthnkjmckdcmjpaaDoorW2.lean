/- WALKS OF LAYER 1, SECOND PART: numf.Octal, Put and their reference's: what is laid is what the plain functions of N1 say; the numbers are of 64 bits. -/
import Derived.Test.YthnkjmckdcmjpaaDoorW1
namespace Go.Proofs.YthnkjmckdcmjpaaDoor
open Go.RowKit
set_option maxHeartbeats 400000
/- THE CALLS OF numf AND OF ITS REFERENCE THAT LAY A NUMBER. -/
theorem octal_any (n d : Int) (w : World) (h0 : -9223372036854775808 ≤ n) (h1 : n ≤ 9223372036854775807) :
    Calls Tryd.prog 19 #[.int .i64 n, .int .i64 d] w fun e w' => ∃ v, e = .returned (.tuple #[v, .int .i64 (Nf.octS n d).2]) ∧ OB w' w.heap.size 5 v (Nf.octS n d).1 ∧ Below w.heap.size w w' := by
  obtain ⟨i0, hi, hz0, hz1, hz2⟩ := info_parts info_u8
  by_cases hd : 1 ≤ d ∧ d ≤ 20
  · obtain ⟨k, rfl⟩ : ∃ k : Nat, d = k := ⟨d.toNat, by omega⟩
    by_cases hn : 0 ≤ n
    · by_cases hm : n ≤ Nf.most k
      · have e : Nf.octS n k = (Nf.digs 8 48 n k, 0) := by simp [Nf.octS, show ¬ ((k : Int) < 1 ∨ 20 < (k : Int)) from by omega, show ¬ (n < 0 ∨ Nf.most k < n) from by omega]
        have HE := Lib.hid e; clear e
        have g1 : decide ((k : Int) < 1) = false := by simp; omega
        have g2 : decide (20 < (k : Int)) = false := by simp; omega
        have g3 : decide (n < 0) = false := by simp; omega
        have g4 : decide (Nf.most k < n) = false := by simp; omega
        go_enter Tryd.func19, Tryd.ntmps19
        go_wp2_with (first | (go_at_call 24; refine (most_any _ _).mono ?_; rintro e w' ⟨rfl, rfl⟩) | (at_make; refine wpList_make_full _ rfl _ _ 22 rfl w.heap.size 5 i0 _ 1 Tryd.underlying22 hi hz0 hz1 .i64 .i64 _ _ k rfl rfl rfl rfl (by rw [hz2]; omega) (by unfold maxLen; omega) (Nat.le_refl _) ?_; intro w1 hown hgrow))
        go_loopw [0, 7] (fun v i wr => ∃ j : Nat, j ≤ k ∧ i = .int .i64 ((k : Int) - 1 - j) ∧ v = .int .i64 (n / 8 ^ j) ∧ OBn wr w.heap.size 5 (.slice (some ⟨w.heap.size, 0, none⟩) k k) k (List.replicate (k - j) 0 ++ Nf.digs 8 48 n j) ∧ Below w.heap.size w wr)
          (fun _ i _ => (intOf i + 1).toNat)
        case atStart => exact ⟨0, by omega, by simp, by simp, by simpa [Nf.digs] using OBn.made hown, (Below.refl _ _).grown hgrow (Nat.le_refl _) (by simp)⟩
        case round =>
          obtain ⟨j, hj, rfl, rfl, ho, hbel⟩ := hrel
          have hm := Nf.pow_div_bd n 8 hn (by omega) j
          generalize hmm : n / 8 ^ j = m at *
          have HMM := Lib.hid hmm; clear hmm
          by_cases hlt : j < k
          · have hc := ho.cell (k - 1 - j) (by omega)
            have hf := ho.free (k - 1 - j)
            go_wp2
            go_roundw
            case rel =>
              refine ⟨j + 1, by omega, by go_num, by rw [← Nf.div_pow n 8 (by omega) j, HMM.out], ?_, hbel.setCell (Nat.le_refl _) _⟩
              have h := ho.stored (k - 1 - j) (48 + m % 8)
              rw [← HMM.out, Nf.set_digs 8 48 n 0 k j hlt] at h
              rw [Nf.and7 m (by omega) (by omega)]
              have e8 : (48 + m % 8) % 256 = 48 + m % 8 := by omega
              rw [e8, ← HMM.out]
              exact h
            case measure => simp [intOf]; omega
          · have e : j = k := by omega
            subst e
            go_wp2
            go_ret2
            refine ⟨_, ret_vi (by rw [HE.out]), ?_, hbel⟩
            rw [HE.out]
            simpa using ho.ob
      · have e : Nf.octS n k = ([], 10) := by simp [Nf.octS, show ¬ ((k : Int) < 1 ∨ 20 < (k : Int)) from by omega, show (n < 0 ∨ Nf.most k < n) from by omega]
        have HE := Lib.hid e; clear e
        have g1 : decide ((k : Int) < 1) = false := by simp; omega
        have g2 : decide (20 < (k : Int)) = false := by simp; omega
        have g3 : decide (n < 0) = false := by simp; omega
        have g4 : decide (Nf.most k < n) = true := by simp; omega
        go_enter Tryd.func19, Tryd.ntmps19
        go_wp2_with (go_at_call 24; refine (most_any _ _).mono ?_; rintro e w' ⟨rfl, rfl⟩)
        go_ret2
        refine ⟨_, ret_vi (by rw [HE.out]), ?_, Below.refl _ _⟩
        rw [HE.out]; exact OB.nil _ _ _
    · have e : Nf.octS n k = ([], 10) := by simp [Nf.octS, show ¬ ((k : Int) < 1 ∨ 20 < (k : Int)) from by omega, show (n < 0 ∨ Nf.most k < n) from by omega]
      have HE := Lib.hid e; clear e
      have g1 : decide ((k : Int) < 1) = false := by simp; omega
      have g2 : decide (20 < (k : Int)) = false := by simp; omega
      have g3 : decide (n < 0) = true := by simp; omega
      go_enter Tryd.func19, Tryd.ntmps19
      go_wp2_with (go_at_call 24; refine (most_any _ _).mono ?_; rintro e w' ⟨rfl, rfl⟩)
      go_ret2
      refine ⟨_, ret_vi (by rw [HE.out]), ?_, Below.refl _ _⟩
      rw [HE.out]; exact OB.nil _ _ _
  · have e : Nf.octS n d = ([], 1) := by simp [Nf.octS, show (d < 1 ∨ 20 < d) from by omega]
    have HE := Lib.hid e; clear e
    by_cases g : d < 1
    · have g1 : decide (d < 1) = true := by simp; omega
      go_enter Tryd.func19, Tryd.ntmps19
      go_wp2_with (go_at_call 24; refine (most_any _ _).mono ?_; rintro e w' ⟨rfl, rfl⟩)
      go_ret2
      refine ⟨_, ret_vi (by rw [HE.out]), ?_, Below.refl _ _⟩
      rw [HE.out]; exact OB.nil _ _ _
    · have g1 : decide (d < 1) = false := by simp; omega
      have g2 : decide (20 < d) = true := by simp; omega
      go_enter Tryd.func19, Tryd.ntmps19
      go_wp2_with (go_at_call 24; refine (most_any _ _).mono ?_; rintro e w' ⟨rfl, rfl⟩)
      go_ret2
      refine ⟨_, ret_vi (by rw [HE.out]), ?_, Below.refl _ _⟩
      rw [HE.out]; exact OB.nil _ _ _
theorem refoctal_any (n d : Int) (w : World) (h0 : -9223372036854775808 ≤ n) (h1 : n ≤ 9223372036854775807) :
    Calls Tryd.prog 21 #[.int .i64 n, .int .i64 d] w fun e w' => ∃ v, e = .returned (.tuple #[v, .int .i64 (Nf.octS n d).2]) ∧ OB w' w.heap.size 5 v (Nf.octS n d).1 ∧ Below w.heap.size w w' := by
  obtain ⟨i0, hi, hz0, hz1, hz2⟩ := info_parts info_u8
  by_cases hd : 1 ≤ d ∧ d ≤ 20
  · obtain ⟨k, rfl⟩ : ∃ k : Nat, d = k := ⟨d.toNat, by omega⟩
    by_cases hn : 0 ≤ n
    · by_cases hm : n ≤ Nf.most k
      · have e : Nf.octS n k = (Nf.digs 8 48 n k, 0) := by simp [Nf.octS, show ¬ ((k : Int) < 1 ∨ 20 < (k : Int)) from by omega, show ¬ (n < 0 ∨ Nf.most k < n) from by omega]
        have HE := Lib.hid e; clear e
        have g1 : decide ((k : Int) < 1) = false := by simp; omega
        have g2 : decide (20 < (k : Int)) = false := by simp; omega
        have g3 : decide (n < 0) = false := by simp; omega
        have g4 : decide (Nf.most k < n) = false := by simp; omega
        go_enter Tryd.func21, Tryd.ntmps21
        go_wp2_with (first | (go_at_call 25; refine (refmost_any _ _).mono ?_; rintro e w' ⟨rfl, rfl⟩) | (at_make; refine wpList_make_full _ rfl _ _ 22 rfl w.heap.size 5 i0 _ 1 Tryd.underlying22 hi hz0 hz1 .i64 .i64 _ _ k rfl rfl rfl rfl (by rw [hz2]; omega) (by unfold maxLen; omega) (Nat.le_refl _) ?_; intro w1 hown hgrow))
        go_loopw [0, 7] (fun v i wr => ∃ j : Nat, j ≤ k ∧ i = .int .i64 ((k : Int) - 1 - j) ∧ v = .int .i64 (n / 8 ^ j) ∧ OBn wr w.heap.size 5 (.slice (some ⟨w.heap.size, 0, none⟩) k k) k (List.replicate (k - j) 0 ++ Nf.digs 8 48 n j) ∧ Below w.heap.size w wr)
          (fun _ i _ => (intOf i + 1).toNat)
        case atStart => exact ⟨0, by omega, by simp, by simp, by simpa [Nf.digs] using OBn.made hown, (Below.refl _ _).grown hgrow (Nat.le_refl _) (by simp)⟩
        case round =>
          obtain ⟨j, hj, rfl, rfl, ho, hbel⟩ := hrel
          have hm := Nf.pow_div_bd n 8 hn (by omega) j
          generalize hmm : n / 8 ^ j = m at *
          have HMM := Lib.hid hmm; clear hmm
          by_cases hlt : j < k
          · have hc := ho.cell (k - 1 - j) (by omega)
            have hf := ho.free (k - 1 - j)
            go_wp2
            go_roundw
            case rel =>
              refine ⟨j + 1, by omega, by go_num, by rw [← Nf.div_pow n 8 (by omega) j, HMM.out], ?_, hbel.setCell (Nat.le_refl _) _⟩
              have h := ho.stored (k - 1 - j) (48 + m % 8)
              rw [← HMM.out, Nf.set_digs 8 48 n 0 k j hlt] at h
              rw [← HMM.out]
              exact h
            case measure => simp [intOf]; omega
          · have e : j = k := by omega
            subst e
            go_wp2
            go_ret2
            refine ⟨_, ret_vi (by rw [HE.out]), ?_, hbel⟩
            rw [HE.out]
            simpa using ho.ob
      · have e : Nf.octS n k = ([], 10) := by simp [Nf.octS, show ¬ ((k : Int) < 1 ∨ 20 < (k : Int)) from by omega, show (n < 0 ∨ Nf.most k < n) from by omega]
        have HE := Lib.hid e; clear e
        have g1 : decide ((k : Int) < 1) = false := by simp; omega
        have g2 : decide (20 < (k : Int)) = false := by simp; omega
        have g3 : decide (n < 0) = false := by simp; omega
        have g4 : decide (Nf.most k < n) = true := by simp; omega
        go_enter Tryd.func21, Tryd.ntmps21
        go_wp2_with (go_at_call 25; refine (refmost_any _ _).mono ?_; rintro e w' ⟨rfl, rfl⟩)
        go_ret2
        refine ⟨_, ret_vi (by rw [HE.out]), ?_, Below.refl _ _⟩
        rw [HE.out]; exact OB.nil _ _ _
    · have e : Nf.octS n k = ([], 10) := by simp [Nf.octS, show ¬ ((k : Int) < 1 ∨ 20 < (k : Int)) from by omega, show (n < 0 ∨ Nf.most k < n) from by omega]
      have HE := Lib.hid e; clear e
      have g1 : decide ((k : Int) < 1) = false := by simp; omega
      have g2 : decide (20 < (k : Int)) = false := by simp; omega
      have g3 : decide (n < 0) = true := by simp; omega
      go_enter Tryd.func21, Tryd.ntmps21
      go_wp2_with (go_at_call 25; refine (refmost_any _ _).mono ?_; rintro e w' ⟨rfl, rfl⟩)
      go_ret2
      refine ⟨_, ret_vi (by rw [HE.out]), ?_, Below.refl _ _⟩
      rw [HE.out]; exact OB.nil _ _ _
  · have e : Nf.octS n d = ([], 1) := by simp [Nf.octS, show (d < 1 ∨ 20 < d) from by omega]
    have HE := Lib.hid e; clear e
    by_cases g : d < 1
    · have g1 : decide (d < 1) = true := by simp; omega
      go_enter Tryd.func21, Tryd.ntmps21
      go_wp2_with (go_at_call 25; refine (refmost_any _ _).mono ?_; rintro e w' ⟨rfl, rfl⟩)
      go_ret2
      refine ⟨_, ret_vi (by rw [HE.out]), ?_, Below.refl _ _⟩
      rw [HE.out]; exact OB.nil _ _ _
    · have g1 : decide (d < 1) = false := by simp; omega
      have g2 : decide (20 < d) = true := by simp; omega
      go_enter Tryd.func21, Tryd.ntmps21
      go_wp2_with (go_at_call 25; refine (refmost_any _ _).mono ?_; rintro e w' ⟨rfl, rfl⟩)
      go_ret2
      refine ⟨_, ret_vi (by rw [HE.out]), ?_, Below.refl _ _⟩
      rw [HE.out]; exact OB.nil _ _ _
set_option maxHeartbeats 800000
end Go.Proofs.YthnkjmckdcmjpaaDoor
