/- WALKS OF LAYER 1, FOURTH PART: the reference's Get, numf.Exact, and what each law asks besides (alive). -/
import Derived.Test.YtfkhemlaohkhkaaDoorW3
namespace Go.Proofs.YtfkhemlaohkhkaaDoor
open Go.RowKit
set_option maxHeartbeats 800000
set_option maxRecDepth 20000
/- THE REFERENCE THAT READS A FIELD. -/
theorem refbase_pos (A : Option Addr) (n c : Nat) (xs : List Int) (w : World) (ha : RB w w.heap.size A n xs) (hx : Byt xs) (hc : n ≤ c) (hc2 : c ≤ maxLen) :
    Calls Tryd.prog 53 #[.slice A n c, .bool false] w fun e w' => e = .returned (.tuple #[.int .i64 (Nf.runB (0) (0) xs).1, .bool ((Nf.runB (0) (0) xs).2 == 0)]) ∧ w = w' := by
  have hxl := Lib.hid ha.1
  unfold maxLen at hc2
  go_enter Tryd.func53, Tryd.ntmps53
  go_wp2
  go_loop [0] (fun s => ∃ A' n' c', s = .slice A' n' c' ∧ n' ≤ n ∧ RB w w.heap.size A' n' (xs.drop (n - n')) ∧ n' ≤ c' ∧ c' ≤ 9223372036854775807 ∧ Nf.runB (0) (0) (xs.drop (n - n')) = Nf.runB (0) (0) xs) (fun s => lenV s)
  case atStart => exact ⟨A, n, c, rfl, Nat.le_refl _, by simpa using ha, hc, hc2, by simp⟩
  case round =>
    obtain ⟨A', n', c', rfl, hnn, hr, hc', hc2', hrun⟩ := hrel
    have HR := Lib.hid hrun; clear hrun
    have hby := hx.drop (n - n')
    have hyl := hr.1
    obtain ⟨ys, hys⟩ : ∃ ys, ys = xs.drop (n - n') := ⟨_, rfl⟩
    by_cases h8 : 8 < n'
    · obtain ⟨b, o, rfl, hb, hcell⟩ := hr.at0 (show 0 < n' by omega)
      rw [← hys] at hcell hby hyl
      have hd := Nf.drop_at ys 0 (by omega)
      simp only [List.drop_zero, Nat.zero_add] at hd
      have hlong := Nf.runB_long (0) (by omega) (ys.getD 0 0) (ys.drop 1) (by rw [← hd]; exact hby) (by rw [List.length_drop]; omega)
      rw [← hd] at hlong
      generalize hy : ys.getD 0 0 = y at *
      have HYS := Lib.hid hys; have HY := Lib.hid hy; have HL := Lib.hid hlong; have HD := Lib.hid hd
      clear hys hy hlong hd hyl hby
      by_cases hlead : y = 0
      · have g1 : (y != 0) = false := by simp [hlead]
        have HLE := Lib.hid hlead; clear hlead
        go_wp2
        go_round
        case rel =>
          refine ⟨_, n' - 1, c' - 1, rfl, by omega, ?_, by omega, by omega, ?_⟩
          · have := hr.cutAt (k := 1) (cap := c') (by omega) hc' (by omega)
            rw [List.drop_drop, show n - n' + 1 = n - (n' - 1) from by omega] at this
            first | exact this | (rw [if_neg (by omega)] at this; exact this)
          · have e : xs.drop (n - (n' - 1)) = ys.drop 1 := by rw [HYS.out, List.drop_drop, show n - n' + 1 = n - (n' - 1) from by omega]
            rw [e, ← HR.out, ← HYS.out, HD.out, HLE.out]
            exact (Nf.runB_lead (0) (by omega) _).symm
        case measure => simp [lenV]; omega
      · have g1 : (y != 0) = true := by simp [hlead]
        have HLE := Lib.hid hlead; clear hlead
        go_wp2
        go_ret2
        have e : Nf.runB (0) (0) xs = (0, 10) := by rw [← HR.out, ← HYS.out]; exact HL.out HLE.out
        exact ⟨ret_ib (by rw [e]) (by rw [e]; rfl), rfl⟩
    · by_cases h88 : n' = 8
      · obtain ⟨b, o, rfl, hb, hcell⟩ := hr.at0 (show 0 < n' by omega)
        rw [← hys] at hcell hby hyl
        have hd := Nf.drop_at ys 0 (by omega)
        simp only [List.drop_zero, Nat.zero_add] at hd
        have height := Nf.runB_eight (0) (by omega) (ys.getD 0 0) (ys.drop 1) (by rw [← hd]; exact hby) (by rw [List.length_drop]; omega)
        rw [← hd] at height
        generalize hy : ys.getD 0 0 = y at *
        have HYS := Lib.hid hys; have HY := Lib.hid hy; have HD := Lib.hid hd
        clear hys hy hd hyl hby
        subst h88
        by_cases hq : y < 128
        · rw [if_pos (by simp; try omega)] at height
          have HOK := Lib.hid height; clear height
          have g1 : decide (128 ≤ y) = false := by simp; omega
          have hok : (Nf.runB (0) (0) xs).2 = 0 := by rw [← HR.out, ← HYS.out]; exact HOK.out
          have HOK2 := Lib.hid hok; clear hok
          go_wp2
          go_loop [6, 7] (fun v i => ∃ k : Nat, ∃ m : Int, k ≤ 8 ∧ i = .int .i64 k ∧ v = .int .i64 m ∧ -9223372036854775808 ≤ m ∧ m ≤ 9223372036854775807 ∧ Nf.runB (0) m ((xs.drop (n - 8)).drop k) = Nf.runB (0) (0) xs) (fun _ i => 8 - (intOf i).toNat)
          case atStart => exact ⟨0, 0, by omega, rfl, rfl, by omega, by omega, by simpa using HR.out⟩
          case round =>
            obtain ⟨k, m, hk, rfl, rfl, hm1, hm2, hrun⟩ := hrel
            have HRUN := Lib.hid hrun; clear hrun
            by_cases hlt : k < 8
            · obtain ⟨ba, oa, he, hba, hca⟩ := hr.at_ hlt
              cases he
              have hxk := (hx.drop (n - 8)) k
              have hlen : (xs.drop (n - 8)).length = 8 := hr.1
              have hd := Nf.drop_at (xs.drop (n - 8)) k (by omega)
              have hq : m / 36028797018963968 = 0 := by
                rcases Decidable.em (m / 36028797018963968 = 0) with h | h
                · exact h
                · exfalso
                  have h2 := HRUN.out
                  rw [hd, Nf.runB, if_neg h] at h2
                  have h3 := HOK2.out
                  rw [← h2] at h3
                  cases h3
              have hb1 : -36028797018963968 ≤ m ∧ m < 36028797018963968 := by omega
              generalize hy2 : (xs.drop (n - 8)).getD k 0 = z at *
              have HY2 := Lib.hid hy2; have HD2 := Lib.hid hd; have HQ2 := Lib.hid hq; clear hy2 hd hq hlen
              go_wp2
              go_round
              case rel =>
                refine ⟨k + 1, m * 256 + z, by omega, by go_num, by go_num, by omega, by omega, ?_⟩
                rw [← HRUN.out, HD2.out, Nf.runB, if_pos HQ2.out]
              case measure => simp [intOf]; omega
            · have e : k = 8 := by omega
              subst e
              have e2 : Nf.runB (0) (0) xs = (m, 0) := by
                rw [← HRUN.out, List.drop_of_length_le (by rw [hr.1]; exact Nat.le_refl _)]; rfl
              have HE2 := Lib.hid e2; clear e2
              go_wp2
              go_ret2
              exact ⟨ret_ib (by rw [HE2.out]) (by rw [HE2.out]; rfl), rfl⟩
        · rw [if_neg (by simp; try omega)] at height
          have HOK := Lib.hid height; clear height
          have g1 : decide (128 ≤ y) = !false := by simp; omega
          go_wp2
          go_ret2
          have e : Nf.runB (0) (0) xs = (0, 10) := by rw [← HR.out, ← HYS.out]; exact HOK.out
          exact ⟨ret_ib (by rw [e]) (by rw [e]; rfl), rfl⟩
      · have hok : (Nf.runB (0) (0) xs).2 = 0 := by rw [← HR.out]; exact Nf.runB_short _ (by omega) _ hby (by rw [hyl]; omega)
        have HOK2 := Lib.hid hok; clear hok hys hby hyl
        have g8 : ((n' : Int) == 8) = false := by simp; omega
        go_wp2
        go_loop [6, 7] (fun v i => ∃ k : Nat, ∃ m : Int, k ≤ n' ∧ i = .int .i64 k ∧ v = .int .i64 m ∧ -9223372036854775808 ≤ m ∧ m ≤ 9223372036854775807 ∧ Nf.runB (0) m ((xs.drop (n - n')).drop k) = Nf.runB (0) (0) xs) (fun _ i => n' - (intOf i).toNat)
        case atStart => exact ⟨0, 0, by omega, rfl, rfl, by omega, by omega, by simpa using HR.out⟩
        case round =>
          obtain ⟨k, m, hk, rfl, rfl, hm1, hm2, hrun⟩ := hrel
          have HRUN := Lib.hid hrun; clear hrun
          by_cases hlt : k < n'
          · obtain ⟨ba, oa, rfl, hba, hca⟩ := hr.at_ hlt
            have hxk := (hx.drop (n - n')) k
            have hlen : (xs.drop (n - n')).length = n' := hr.1
            have hd := Nf.drop_at (xs.drop (n - n')) k (by omega)
            have hq : m / 36028797018963968 = 0 := by
              rcases Decidable.em (m / 36028797018963968 = 0) with h | h
              · exact h
              · exfalso
                have h2 := HRUN.out
                rw [hd, Nf.runB, if_neg h] at h2
                have h3 := HOK2.out
                rw [← h2] at h3
                cases h3
            have hb1 : -36028797018963968 ≤ m ∧ m < 36028797018963968 := by omega
            generalize hy2 : (xs.drop (n - n')).getD k 0 = z at *
            have HY2 := Lib.hid hy2; have HD2 := Lib.hid hd; have HQ2 := Lib.hid hq; clear hy2 hd hq hlen
            go_wp2
            go_round
            case rel =>
              refine ⟨k + 1, m * 256 + z, by omega, by go_num, by go_num, by omega, by omega, ?_⟩
              rw [← HRUN.out, HD2.out, Nf.runB, if_pos HQ2.out]
            case measure => simp [intOf]; omega
          · have e : k = n' := by omega
            subst e
            have e2 : Nf.runB (0) (0) xs = (m, 0) := by
              rw [← HRUN.out, List.drop_of_length_le (by rw [hr.1]; exact Nat.le_refl _)]; rfl
            have HE2 := Lib.hid e2; clear e2
            go_wp2
            go_ret2
            exact ⟨ret_ib (by rw [HE2.out]) (by rw [HE2.out]; rfl), rfl⟩
theorem refbase_neg (A : Option Addr) (n c : Nat) (xs : List Int) (w : World) (ha : RB w w.heap.size A n xs) (hx : Byt xs) (hc : n ≤ c) (hc2 : c ≤ maxLen) :
    Calls Tryd.prog 53 #[.slice A n c, .bool true] w fun e w' => e = .returned (.tuple #[.int .i64 (Nf.runB (-1) (-1) xs).1, .bool ((Nf.runB (-1) (-1) xs).2 == 0)]) ∧ w = w' := by
  have hxl := Lib.hid ha.1
  unfold maxLen at hc2
  go_enter Tryd.func53, Tryd.ntmps53
  go_wp2
  go_loop [0] (fun s => ∃ A' n' c', s = .slice A' n' c' ∧ n' ≤ n ∧ RB w w.heap.size A' n' (xs.drop (n - n')) ∧ n' ≤ c' ∧ c' ≤ 9223372036854775807 ∧ Nf.runB (-1) (-1) (xs.drop (n - n')) = Nf.runB (-1) (-1) xs) (fun s => lenV s)
  case atStart => exact ⟨A, n, c, rfl, Nat.le_refl _, by simpa using ha, hc, hc2, by simp⟩
  case round =>
    obtain ⟨A', n', c', rfl, hnn, hr, hc', hc2', hrun⟩ := hrel
    have HR := Lib.hid hrun; clear hrun
    have hby := hx.drop (n - n')
    have hyl := hr.1
    obtain ⟨ys, hys⟩ : ∃ ys, ys = xs.drop (n - n') := ⟨_, rfl⟩
    by_cases h8 : 8 < n'
    · obtain ⟨b, o, rfl, hb, hcell⟩ := hr.at0 (show 0 < n' by omega)
      rw [← hys] at hcell hby hyl
      have hd := Nf.drop_at ys 0 (by omega)
      simp only [List.drop_zero, Nat.zero_add] at hd
      have hlong := Nf.runB_long (-1) (by omega) (ys.getD 0 0) (ys.drop 1) (by rw [← hd]; exact hby) (by rw [List.length_drop]; omega)
      rw [← hd] at hlong
      generalize hy : ys.getD 0 0 = y at *
      have HYS := Lib.hid hys; have HY := Lib.hid hy; have HL := Lib.hid hlong; have HD := Lib.hid hd
      clear hys hy hlong hd hyl hby
      by_cases hlead : y = 255
      · have g1 : (y != 255) = false := by simp [hlead]
        have HLE := Lib.hid hlead; clear hlead
        go_wp2
        go_round
        case rel =>
          refine ⟨_, n' - 1, c' - 1, rfl, by omega, ?_, by omega, by omega, ?_⟩
          · have := hr.cutAt (k := 1) (cap := c') (by omega) hc' (by omega)
            rw [List.drop_drop, show n - n' + 1 = n - (n' - 1) from by omega] at this
            first | exact this | (rw [if_neg (by omega)] at this; exact this)
          · have e : xs.drop (n - (n' - 1)) = ys.drop 1 := by rw [HYS.out, List.drop_drop, show n - n' + 1 = n - (n' - 1) from by omega]
            rw [e, ← HR.out, ← HYS.out, HD.out, HLE.out]
            exact (Nf.runB_lead (-1) (by omega) _).symm
        case measure => simp [lenV]; omega
      · have g1 : (y != 255) = true := by simp [hlead]
        have HLE := Lib.hid hlead; clear hlead
        go_wp2
        go_ret2
        have e : Nf.runB (-1) (-1) xs = (0, 10) := by rw [← HR.out, ← HYS.out]; exact HL.out HLE.out
        exact ⟨ret_ib (by rw [e]) (by rw [e]; rfl), rfl⟩
    · by_cases h88 : n' = 8
      · obtain ⟨b, o, rfl, hb, hcell⟩ := hr.at0 (show 0 < n' by omega)
        rw [← hys] at hcell hby hyl
        have hd := Nf.drop_at ys 0 (by omega)
        simp only [List.drop_zero, Nat.zero_add] at hd
        have height := Nf.runB_eight (-1) (by omega) (ys.getD 0 0) (ys.drop 1) (by rw [← hd]; exact hby) (by rw [List.length_drop]; omega)
        rw [← hd] at height
        generalize hy : ys.getD 0 0 = y at *
        have HYS := Lib.hid hys; have HY := Lib.hid hy; have HD := Lib.hid hd
        clear hys hy hd hyl hby
        subst h88
        by_cases hq : 128 ≤ y
        · rw [if_pos (by simp; try omega)] at height
          have HOK := Lib.hid height; clear height
          have g1 : decide (128 ≤ y) = true := by simp; omega
          have hok : (Nf.runB (-1) (-1) xs).2 = 0 := by rw [← HR.out, ← HYS.out]; exact HOK.out
          have HOK2 := Lib.hid hok; clear hok
          go_wp2
          go_loop [6, 7] (fun v i => ∃ k : Nat, ∃ m : Int, k ≤ 8 ∧ i = .int .i64 k ∧ v = .int .i64 m ∧ -9223372036854775808 ≤ m ∧ m ≤ 9223372036854775807 ∧ Nf.runB (-1) m ((xs.drop (n - 8)).drop k) = Nf.runB (-1) (-1) xs) (fun _ i => 8 - (intOf i).toNat)
          case atStart => exact ⟨0, -1, by omega, rfl, rfl, by omega, by omega, by simpa using HR.out⟩
          case round =>
            obtain ⟨k, m, hk, rfl, rfl, hm1, hm2, hrun⟩ := hrel
            have HRUN := Lib.hid hrun; clear hrun
            by_cases hlt : k < 8
            · obtain ⟨ba, oa, he, hba, hca⟩ := hr.at_ hlt
              cases he
              have hxk := (hx.drop (n - 8)) k
              have hlen : (xs.drop (n - 8)).length = 8 := hr.1
              have hd := Nf.drop_at (xs.drop (n - 8)) k (by omega)
              have hq : m / 36028797018963968 = -1 := by
                rcases Decidable.em (m / 36028797018963968 = -1) with h | h
                · exact h
                · exfalso
                  have h2 := HRUN.out
                  rw [hd, Nf.runB, if_neg h] at h2
                  have h3 := HOK2.out
                  rw [← h2] at h3
                  cases h3
              have hb1 : -36028797018963968 ≤ m ∧ m < 36028797018963968 := by omega
              generalize hy2 : (xs.drop (n - 8)).getD k 0 = z at *
              have HY2 := Lib.hid hy2; have HD2 := Lib.hid hd; have HQ2 := Lib.hid hq; clear hy2 hd hq hlen
              go_wp2
              go_round
              case rel =>
                refine ⟨k + 1, m * 256 + z, by omega, by go_num, by go_num, by omega, by omega, ?_⟩
                rw [← HRUN.out, HD2.out, Nf.runB, if_pos HQ2.out]
              case measure => simp [intOf]; omega
            · have e : k = 8 := by omega
              subst e
              have e2 : Nf.runB (-1) (-1) xs = (m, 0) := by
                rw [← HRUN.out, List.drop_of_length_le (by rw [hr.1]; exact Nat.le_refl _)]; rfl
              have HE2 := Lib.hid e2; clear e2
              go_wp2
              go_ret2
              exact ⟨ret_ib (by rw [HE2.out]) (by rw [HE2.out]; rfl), rfl⟩
        · rw [if_neg (by simp; try omega)] at height
          have HOK := Lib.hid height; clear height
          have g1 : decide (128 ≤ y) = !true := by simp; omega
          go_wp2
          go_ret2
          have e : Nf.runB (-1) (-1) xs = (0, 10) := by rw [← HR.out, ← HYS.out]; exact HOK.out
          exact ⟨ret_ib (by rw [e]) (by rw [e]; rfl), rfl⟩
      · have hok : (Nf.runB (-1) (-1) xs).2 = 0 := by rw [← HR.out]; exact Nf.runB_short _ (by omega) _ hby (by rw [hyl]; omega)
        have HOK2 := Lib.hid hok; clear hok hys hby hyl
        have g8 : ((n' : Int) == 8) = false := by simp; omega
        go_wp2
        go_loop [6, 7] (fun v i => ∃ k : Nat, ∃ m : Int, k ≤ n' ∧ i = .int .i64 k ∧ v = .int .i64 m ∧ -9223372036854775808 ≤ m ∧ m ≤ 9223372036854775807 ∧ Nf.runB (-1) m ((xs.drop (n - n')).drop k) = Nf.runB (-1) (-1) xs) (fun _ i => n' - (intOf i).toNat)
        case atStart => exact ⟨0, -1, by omega, rfl, rfl, by omega, by omega, by simpa using HR.out⟩
        case round =>
          obtain ⟨k, m, hk, rfl, rfl, hm1, hm2, hrun⟩ := hrel
          have HRUN := Lib.hid hrun; clear hrun
          by_cases hlt : k < n'
          · obtain ⟨ba, oa, rfl, hba, hca⟩ := hr.at_ hlt
            have hxk := (hx.drop (n - n')) k
            have hlen : (xs.drop (n - n')).length = n' := hr.1
            have hd := Nf.drop_at (xs.drop (n - n')) k (by omega)
            have hq : m / 36028797018963968 = -1 := by
              rcases Decidable.em (m / 36028797018963968 = -1) with h | h
              · exact h
              · exfalso
                have h2 := HRUN.out
                rw [hd, Nf.runB, if_neg h] at h2
                have h3 := HOK2.out
                rw [← h2] at h3
                cases h3
            have hb1 : -36028797018963968 ≤ m ∧ m < 36028797018963968 := by omega
            generalize hy2 : (xs.drop (n - n')).getD k 0 = z at *
            have HY2 := Lib.hid hy2; have HD2 := Lib.hid hd; have HQ2 := Lib.hid hq; clear hy2 hd hq hlen
            go_wp2
            go_round
            case rel =>
              refine ⟨k + 1, m * 256 + z, by omega, by go_num, by go_num, by omega, by omega, ?_⟩
              rw [← HRUN.out, HD2.out, Nf.runB, if_pos HQ2.out]
            case measure => simp [intOf]; omega
          · have e : k = n' := by omega
            subst e
            have e2 : Nf.runB (-1) (-1) xs = (m, 0) := by
              rw [← HRUN.out, List.drop_of_length_le (by rw [hr.1]; exact Nat.le_refl _)]; rfl
            have HE2 := Lib.hid e2; clear e2
            go_wp2
            go_ret2
            exact ⟨ret_ib (by rw [HE2.out]) (by rw [HE2.out]; rfl), rfl⟩
set_option maxHeartbeats 1600000
theorem refget_any (A : Option Addr) (n c : Nat) (xs : List Int) (w : World) (ha : RB w w.heap.size A n xs) (hx : Byt xs) (hc : n ≤ c) (hc2 : c ≤ maxLen) :
    Calls Tryd.prog 35 #[.slice A n c] w fun e w' => e = .returned (.tuple #[.int .i64 (Nf.getS xs).1, .int .i64 (Nf.getS xs).2]) ∧ Below w.heap.size w w' := by
  have hxl := ha.1
  cases hw : Nf.wide n with
  | false =>
    have e : Nf.getS xs = (0, 1) := by simp [Nf.getS, hxl, hw]
    have HE := Lib.hid e; have HW := Lib.hid hw; clear e hw hxl
    go_enter Tryd.func35, Tryd.ntmps35
    go_wp2_with (go_at_call 43; refine (refwide_any _ _).mono ?_; rintro e w' ⟨rfl, rfl⟩; rw [HW.out])
    go_ret2
    exact ⟨ret_ii (by rw [HE.out]) (by rw [HE.out]), Below.refl _ _⟩
  | true =>
    have hk : 8 ≤ n ∧ n ≤ 12 := by simp [Nf.wide] at hw; omega
    obtain ⟨b, o, rfl, hb, hc0⟩ := ha.at0 (by omega)
    have e : Nf.getS xs = if xs.getD 0 0 = 128 then Nf.runB 0 0 (xs.drop 1) else if xs.getD 0 0 = 255 then Nf.runB (-1) (-1) (xs.drop 1) else Nf.octG xs := by
      rw [Nf.getS, if_neg (by rw [hxl, hw]; simp), Nf.runB_base 0 (Or.inl rfl) _ (hx.drop 1), Nf.runB_base (-1) (Or.inr rfl) _ (hx.drop 1)]
    have hcut := ha.cutAt (k := 1) (cap := c) (by omega) hc (by omega)
    rw [if_neg (by omega)] at hcut
    have hgp := fun m => refbase_pos _ (n - 1) (c - 1) (xs.drop 1) (w.drewN m) hcut (hx.drop 1) (by omega) (by omega)
    have hgn := fun m => refbase_neg _ (n - 1) (c - 1) (xs.drop 1) (w.drewN m) hcut (hx.drop 1) (by omega) (by omega)
    simp only [List.drop_one] at e hgp hgn
    have hc1 : ¬ c = 1 := by omega
    have hn1 : (1 : Int) ≤ (n : Int) := by omega
    have hn0 : (0 : Int) < (n : Int) := by omega
    have HX1 := Lib.hid hx
    generalize hy : xs.getD 0 0 = y at *
    have HP := Lib.hid hgp; have HN := Lib.hid hgn; have HW := Lib.hid hw; have HY := Lib.hid hy; have HXL := Lib.hid hxl
    clear hgp hgn hw hxl hcut hy
    by_cases h1 : y = 128
    · rw [if_pos h1] at e
      have HE := Lib.hid e; clear e
      subst h1
      cases hok : (Nf.runB (0) (0) xs.tail).2 == 0
      · have hr := Lib.hid (Nf.runB_err (0) _ _ hok)
        go_enter Tryd.func35, Tryd.ntmps35
        go_wp2_with (go_at_call 43; refine (refwide_any _ _).mono ?_; rintro e w' ⟨rfl, rfl⟩; rw [HW.out])
        go_quiet ((go_at_call 53; exact quiet_left (HP.out _)))
        go_wp2
        go_ret2
        exact ⟨ret_ii (by rw [HE.out, hr.out]) (by rw [HE.out, hr.out]), below_drewN (Below.refl _ _) _⟩
      · have hr := Lib.hid (by simpa using hok : (Nf.runB (0) (0) xs.tail).2 = 0)
        go_enter Tryd.func35, Tryd.ntmps35
        go_wp2_with (go_at_call 43; refine (refwide_any _ _).mono ?_; rintro e w' ⟨rfl, rfl⟩; rw [HW.out])
        go_quiet ((go_at_call 53; exact quiet_left (HP.out _)))
        go_wp2
        go_ret2
        exact ⟨ret_ii (by rw [HE.out]) (by rw [HE.out, hr.out]), below_drewN (Below.refl _ _) _⟩
    · rw [if_neg h1] at e
      by_cases h2 : y = 255
      · rw [if_pos h2] at e
        have HE := Lib.hid e; clear e
        subst h2
        have g0 : ((255 : Int) == 128) = false := rfl
        cases hok : (Nf.runB (-1) (-1) xs.tail).2 == 0
        · have hr := Lib.hid (Nf.runB_err (-1) _ _ hok)
          go_enter Tryd.func35, Tryd.ntmps35
          go_wp2_with (go_at_call 43; refine (refwide_any _ _).mono ?_; rintro e w' ⟨rfl, rfl⟩; rw [HW.out])
          go_quiet ((go_at_call 53; exact quiet_left (HN.out _)))
          go_wp2
          go_ret2
          exact ⟨ret_ii (by rw [HE.out, hr.out]) (by rw [HE.out, hr.out]), below_drewN (Below.refl _ _) _⟩
        · have hr := Lib.hid (by simpa using hok : (Nf.runB (-1) (-1) xs.tail).2 = 0)
          go_enter Tryd.func35, Tryd.ntmps35
          go_wp2_with (go_at_call 43; refine (refwide_any _ _).mono ?_; rintro e w' ⟨rfl, rfl⟩; rw [HW.out])
          go_quiet ((go_at_call 53; exact quiet_left (HN.out _)))
          go_wp2
          go_ret2
          exact ⟨ret_ii (by rw [HE.out]) (by rw [HE.out, hr.out]), below_drewN (Below.refl _ _) _⟩
      · rw [if_neg h2] at e
        have HE := Lib.hid e; clear e
        have g1 : (y == 128) = false := by simp [h1]
        have g2 : (y == 255) = false := by simp [h2]
        clear HP HN
        have HC := Lib.hid (fun j (hj : j < n) => (ha.at_' hj))
        obtain ⟨i1, hi1⟩ : ∃ i1, Nf.run (· == 32) xs = i1 := ⟨_, rfl⟩
        obtain ⟨d, hd⟩ : ∃ d, Nf.run Nf.isO (xs.drop i1) = d := ⟨_, rfl⟩
        obtain ⟨r, hr⟩ : ∃ r, Nf.run Nf.isB (xs.drop (i1 + d)) = r := ⟨_, rfl⟩
        have hoct := Nf.oct_loop hi1 hd
        rw [hr] at hoct
        have b1 : i1 ≤ n := by rw [← HXL.out, ← hi1]; exact Nf.run_le _ _
        have b2 : i1 + d ≤ n := by have := Nf.run_le Nf.isO (xs.drop i1); rw [List.length_drop, HXL.out] at this; omega
        have b3 : i1 + d + r ≤ n := by have := Nf.run_le Nf.isB (xs.drop (i1 + d)); rw [List.length_drop, HXL.out] at this; omega
        rw [HXL.out] at hoct
        have HI1 := Lib.hid hi1; have HD := Lib.hid hd; have HR := Lib.hid hr; have HO := Lib.hid hoct
        clear hi1 hd hr hoct
        go_enter Tryd.func35, Tryd.ntmps35
        go_upto_block 0 with (go_at_call 43; refine (refwide_any _ _).mono ?_; rintro e w' ⟨rfl, rfl⟩; rw [HW.out])
        go_cut [6] (fun i wx => i = .int .i64 (i1 : Int) ∧ w = wx)
        case first =>
          go_wp2_with fail
          go_loop [6] (fun i => ∃ k : Nat, k ≤ i1 ∧ i = .int .i64 k) (fun i => n - (intOf i).toNat)
          case atStart => exact ⟨0, by omega, rfl⟩
          case round =>
            obtain ⟨k, hk, rfl⟩ := hrel
            by_cases hlt : k < i1
            · have hck := HC.out k (by omega)
              have hz := Nf.run_lt (· == 32) xs k (by rw [HI1.out]; exact hlt)
              generalize xs.getD k 0 = z at *
              have hz2 : z = 32 := by simpa using hz
              subst hz2
              clear hz
              have hkn : (k : Int) < (n : Int) := by omega
              go_wp2
              go_round
              case rel => exact ⟨k + 1, by omega, by go_num⟩
              case measure => simp [intOf]; omega
            · have e : k = i1 := by omega
              subst e
              by_cases hn' : k < n
              · have hck := HC.out k (by omega)
                have hz := Nf.run_at (· == 32) xs (by rw [HI1.out, HXL.out]; exact hn')
                rw [HI1.out] at hz
                generalize xs.getD k 0 = z at *
                have hkn : (k : Int) < (n : Int) := by omega
                go_wp2
                go_meet
                exact ⟨rfl, rfl⟩
              · go_wp2
                go_meet
                exact ⟨rfl, rfl⟩
        case rest =>
          obtain ⟨rfl, rfl⟩ := hcut
          go_upto_block 2 with fail
          go_cut [6, 7, 8] (fun i v g wx => i = .int .i64 ((i1 : Int) + (d : Int)) ∧ v = .int .i64 (Nf.say 8 48 0 ((xs.drop i1).take d)) ∧ g = .int .i64 (d : Int) ∧ w = wx)
          case first =>
            go_wp2_with fail
            go_loop [6, 7, 8] (fun i v g => ∃ k : Nat, ∃ m : Int, k ≤ d ∧ i = .int .i64 ((i1 : Int) + (k : Int)) ∧ v = .int .i64 m ∧ g = .int .i64 (k : Int) ∧ 0 ≤ m ∧ m < 8 ^ k ∧ m = Nf.say 8 48 0 ((xs.drop i1).take k)) (fun _ _ g => n - (intOf g).toNat)
            case atStart => exact ⟨0, 0, by omega, by simp, rfl, rfl, by omega, by simp, by simp [Nf.say]⟩
            case round =>
              obtain ⟨k, m, hk, rfl, rfl, rfl, hm1, hm2, hm⟩ := hrel
              have HM := Lib.hid hm; clear hm
              have hp := Nf.pow8 k (by omega)
              have hm3 : m < 68719476736 := by omega
              have HM2 := Lib.hid hm2; clear hm2 hp
              by_cases hlt : k < d
              · have hck := HC.out (i1 + k) (by omega)
                have hz := Nf.run_lt Nf.isO (xs.drop i1) k (by rw [HD.out]; exact hlt)
                have hs := Nf.take_snoc (xs.drop i1) k (by rw [List.length_drop, HXL.out]; omega)
                rw [Nf.getD_drop] at hz hs
                generalize xs.getD (i1 + k) 0 = z at *
                have hzb := Nf.isO_bd hz
                have HS := Lib.hid hs
                clear hz hs
                have hkn : (i1 : Int) + (k : Int) < (n : Int) := by omega
                go_wp2
                go_round
                case rel =>
                  have h := HM2.out
                  refine ⟨k + 1, m * 8 + (z - 48), by omega, by go_num, by go_num, by go_num, by omega, by rw [Int.pow_succ]; omega, ?_⟩
                  rw [HS.out, Nf.say_snoc, ← HM.out]
                case measure => simp [intOf]; omega
              · have e : k = d := by omega
                subst e
                by_cases hn' : i1 + k < n
                · have hck := HC.out (i1 + k) (by omega)
                  have hz := Nf.run_at Nf.isO (xs.drop i1) (by rw [HD.out, List.length_drop, HXL.out]; omega)
                  rw [HD.out, Nf.getD_drop] at hz
                  generalize xs.getD (i1 + k) 0 = z at *
                  have hkn : (i1 : Int) + (k : Int) < (n : Int) := by omega
                  by_cases h48 : 48 ≤ z
                  · have h55 : ¬ z ≤ 55 := by simp [Nf.isO, h48] at hz; omega
                    clear hz
                    go_wp2
                    go_meet
                    exact ⟨rfl, by rw [HM.out], rfl, rfl⟩
                  · clear hz
                    go_wp2
                    go_meet
                    exact ⟨rfl, by rw [HM.out], rfl, rfl⟩
                · have hkn : ¬ (i1 : Int) + (k : Int) < (n : Int) := by omega
                  go_wp2
                  go_meet
                  exact ⟨rfl, by rw [HM.out], rfl, rfl⟩
          case rest =>
            obtain ⟨rfl, rfl, rfl, rfl⟩ := hcut
            go_upto_block 4 with fail
            go_cut [6] (fun i wx => i = .int .i64 ((i1 : Int) + (d : Int) + (r : Int)) ∧ w = wx)
            case first =>
              go_wp2_with fail
              go_loop [6] (fun i => ∃ k : Nat, k ≤ r ∧ i = .int .i64 ((i1 : Int) + (d : Int) + (k : Int))) (fun i => n - (intOf i).toNat)
              case atStart => exact ⟨0, by omega, by simp⟩
              case round =>
                obtain ⟨k, hk, rfl⟩ := hrel
                by_cases hlt : k < r
                · have hck := HC.out (i1 + d + k) (by omega)
                  have hz := Nf.run_lt Nf.isB (xs.drop (i1 + d)) k (by rw [HR.out]; exact hlt)
                  rw [Nf.getD_drop] at hz
                  generalize xs.getD (i1 + d + k) 0 = z at *
                  have hkn : (i1 : Int) + (d : Int) + (k : Int) < (n : Int) := by omega
                  by_cases hz0 : z = 0
                  · subst hz0
                    clear hz
                    go_wp2
                    go_round
                    case rel => exact ⟨k + 1, by omega, by go_num⟩
                    case measure => simp [intOf]; omega
                  · have hz32 : z = 32 := by simpa [Nf.isB, hz0] using hz
                    subst hz32
                    clear hz
                    go_wp2
                    go_round
                    case rel => exact ⟨k + 1, by omega, by go_num⟩
                    case measure => simp [intOf]; omega
                · have e : k = r := by omega
                  subst e
                  by_cases hn' : i1 + d + k < n
                  · have hck := HC.out (i1 + d + k) (by omega)
                    have hz := Nf.run_at Nf.isB (xs.drop (i1 + d)) (by rw [HR.out, List.length_drop, HXL.out]; omega)
                    rw [HR.out, Nf.getD_drop] at hz
                    generalize xs.getD (i1 + d + k) 0 = z at *
                    have hkn : (i1 : Int) + (d : Int) + (k : Int) < (n : Int) := by omega
                    have hz0 : (z == 0) = false := by cases h : (z == 0) <;> simp_all [Nf.isB]
                    have hz32 : (z == 32) = false := by cases h : (z == 32) <;> simp_all [Nf.isB]
                    clear hz
                    go_wp2
                    go_meet
                    exact ⟨rfl, rfl⟩
                  · have hkn : ¬ (i1 : Int) + (d : Int) + (k : Int) < (n : Int) := by omega
                    go_wp2
                    go_meet
                    exact ⟨rfl, rfl⟩
            case rest =>
              obtain ⟨rfl, rfl⟩ := hcut
              by_cases hd0 : d = 0
              · have ho := HO.out
                rw [if_pos (Or.inl hd0)] at ho
                have HO2 := Lib.hid ho; clear ho
                have g3 : ((d : Int) == 0) = true := by simp [hd0]
                have HD0 := Lib.hid hd0; clear hd0
                go_wp2
                go_ret2
                exact ⟨ret_ii (by rw [HE.out, HO2.out]) (by rw [HE.out, HO2.out]), Below.refl _ _⟩
              · have g3 : ((d : Int) == 0) = false := by simp [hd0]
                by_cases hq : i1 + d + r < n
                · have ho := HO.out
                  rw [if_pos (Or.inr hq)] at ho
                  have HO2 := Lib.hid ho; clear ho
                  have hkn : (i1 : Int) + (d : Int) + (r : Int) < (n : Int) := by omega
                  go_wp2
                  go_ret2
                  exact ⟨ret_ii (by rw [HE.out, HO2.out]) (by rw [HE.out, HO2.out]), Below.refl _ _⟩
                · have ho := HO.out
                  rw [if_neg (by omega)] at ho
                  have HO2 := Lib.hid ho; clear ho
                  have hkn : ¬ (i1 : Int) + (d : Int) + (r : Int) < (n : Int) := by omega
                  go_wp2
                  go_ret2
                  exact ⟨ret_ii (by rw [HE.out, HO2.out]) (by rw [HE.out, HO2.out]), Below.refl _ _⟩
theorem al_1 : Nf.putS 8 8 = ([48, 48, 48, 48, 48, 49, 48, 0], 0) := by decide
theorem al_2 : Nf.getS [48, 48, 48, 48, 48, 49, 48, 0] = (8, 0) := by decide
theorem al_3 : Nf.putS (-1) 8 = ([255, 255, 255, 255, 255, 255, 255, 255], 0) := by decide
theorem al_4 : Nf.exactS [255, 255, 255, 255, 255, 255, 255, 255] = true := by decide
theorem al_5 : Nf.most 2 = 63 := by decide
theorem al_6 : strOfNums [48, 48, 48, 48, 48, 49, 48, 0] = ⟨#[48, 48, 48, 48, 48, 49, 48, 0]⟩ := by decide
theorem al_b1 : Byt [48, 48, 48, 48, 48, 49, 48, 0] := by have := Nf.byt_putS 8 8; rwa [al_1] at this
theorem al_b3 : Byt [255, 255, 255, 255, 255, 255, 255, 255] := by have := Nf.byt_putS (-1) 8; rwa [al_3] at this
end Go.Proofs.YtfkhemlaohkhkaaDoor
