/- WALKS OF LAYER 1, THIRD PART: numf.Get, what it calls, and the reference's Same: what a field reads as; the bytes are bytes, lengths within capacities. -/
import Derived.Test.YtjhigkkkfkahdaaGreatDoorGw1
import Derived.Test.YtjhigkkkfkahdaaGreatDoorCm
import Derived.Shelf.Bytes.SlEqualAll
import Derived.Lib.Strings
namespace Go.Proofs.YtjhigkkkfkahdaaGreatDoor
open Go.RowKit
set_option maxHeartbeats 400000
set_option maxRecDepth 20000
/- THE CALLS OF numf AND OF ITS REFERENCE THAT READ A FIELD. -/
theorem isOctal_any (x : Int) (w : World) :
    Calls Tryz.prog 122 #[.int .u8 x] w fun e w' => e = .returned (.bool (Nf.isO x)) ∧ w = w' := by
  by_cases h0 : 48 ≤ x
  · have e : Nf.isO x = decide (x ≤ 55) := by simp [Nf.isO, h0]
    have HE := Lib.hid e; clear e
    go_enter Tryz.func122, Tryz.ntmps122
    go_wp2
    go_ret
    exact ⟨ret_bool (by rw [HE.out]), rfl⟩
  · have e : Nf.isO x = false := by simp [Nf.isO, h0]
    have HE := Lib.hid e; clear e
    go_enter Tryz.func122, Tryz.ntmps122
    go_wp2
    go_ret
    exact ⟨ret_bool (by rw [HE.out]), rfl⟩
theorem isBehind_any (A : Option Addr) (n c : Nat) (xs : List Int) (w : World) (ha : RB w w.heap.size A n xs) (hn : n ≤ 1000000) :
    Calls Tryz.prog 123 #[.slice A n c] w fun e w' => e = .returned (.bool (xs.all Nf.isB)) ∧ w = w' := by
  have hxl := Lib.hid ha.1
  go_enter Tryz.func123, Tryz.ntmps123
  go_wp2
  go_loop [7] (fun i => ∃ k : Nat, k ≤ n ∧ i = .int .i64 k ∧ (xs.take k).all Nf.isB = true) (fun i => n - (intOf i).toNat)
  case atStart => exact ⟨0, by omega, rfl, by simp⟩
  case round =>
    obtain ⟨k, hk, rfl, htk⟩ := hrel
    have HTK := Lib.hid htk; clear htk
    by_cases hlt : k < n
    · obtain ⟨ba, oa, rfl, hba, hca⟩ := ha.at_ hlt
      have hs := Lib.hid (Nf.take_snoc xs k (by have := hxl.out; omega))
      generalize hx : xs.getD k 0 = x at *
      have HX := Lib.hid hx; clear hx
      by_cases h0 : Nf.isB x = true
      · have HB := Lib.hid h0
        simp [Nf.isB] at h0
        have H0 := Lib.hid h0; clear h0
        have g1 : ¬ x = 0 → x = 32 := fun h => H0.out.resolve_left h
        go_wp2
        all_goals
          go_round
          case rel => exact ⟨k + 1, by omega, by go_num, by rw [hs.out]; simp [HB.out]; simpa using HTK.out⟩
          case measure => simp [intOf]; omega
      · have HB := Lib.hid h0
        simp [Nf.isB] at h0
        obtain ⟨h1, h2⟩ := h0
        have g1 : (x != 0) = true := by simp [h1]
        have g2 : (x != 32) = true := by simp [h2]
        go_wp2
        go_ret
        refine ⟨ret_bool ?_, rfl⟩
        rw [eq_comm, Bool.eq_false_iff]
        intro he
        have := List.all_eq_true.1 he x (by rw [← HX.out]; exact getD_mem (by have := hxl.out; omega))
        exact HB.out this
    · have e : k = n := by omega
      subst e
      go_wp2
      go_ret
      refine ⟨ret_bool ?_, rfl⟩
      have h := HTK.out
      rw [List.take_of_length_le (by rw [hxl.out]; exact Nat.le_refl _)] at h
      exact h.symm
theorem trimLeftByte_any (A : Option Addr) (n c B : Nat) (xs : List Int) (x : Int) (w : World) (ha : RB w B A n xs) (hc : n ≤ c) (hc2 : c ≤ maxLen) :
    Calls Tryz.prog 145 #[.slice A n c, .int .u8 x] w fun e w' => ∃ A' n' c', e = .returned (.slice A' n' c') ∧ RB w B A' n' (xs.drop (Nf.run (· == x) xs)) ∧ n' ≤ c' ∧ c' ≤ maxLen ∧ w = w' := by
  unfold maxLen at hc2
  go_enter Tryz.func145, Tryz.ntmps145
  go_wp2
  go_loop [0] (fun s => ∃ A' n' c', s = .slice A' n' c' ∧ n' ≤ n ∧ RB w B A' n' (xs.drop (n - n')) ∧ n' ≤ c' ∧ c' ≤ 9223372036854775807 ∧ (∀ j, j < n - n' → (xs.getD j 0 == x) = true)) (fun s => lenV s)
  case atStart => exact ⟨A, n, c, rfl, Nat.le_refl _, by simpa using ha, hc, hc2, fun j hj => absurd hj (by omega)⟩
  case round =>
    obtain ⟨A', n', c', rfl, hnn, hr, hc', hc2', hall⟩ := hrel
    have HA := Lib.hid hall; clear hall
    by_cases h0 : 0 < n'
    · obtain ⟨b, o, rfl, hb, hcell⟩ := hr.at0 h0
      generalize hy : (xs.drop (n - n')).getD 0 0 = y at *
      have HY := Lib.hid hy; clear hy
      by_cases hxy : y = x
      · have HX := Lib.hid hxy
        have g2 : (y == x) = true := by simp [hxy]
        clear hxy
        go_wp2
        go_round
        case rel =>
          refine ⟨_, n' - 1, c' - 1, rfl, by omega, ?_, by omega, by omega, ?_⟩
          · have := hr.cutAt (k := 1) (cap := c') (by omega) hc' (by omega)
            rwa [List.drop_drop, show n - n' + 1 = n - (n' - 1) from by omega] at this
          · intro j hj
            by_cases hjj : j < n - n'
            · exact HA.out j hjj
            · have e : j = n - n' := by omega
              subst e
              have h := HY.out
              simp only [List.getD, List.getElem?_drop, Nat.add_zero] at h
              simp only [List.getD]
              rw [h, HX.out]; simp
        case measure => simp [lenV]; omega
      · have g2 : (y == x) = false := by simp [hxy]
        have HX := Lib.hid hxy; clear hxy
        have hz : ((n' : Int) == 0) = false := by simp; omega
        go_wp2
        go_ret
        refine ⟨_, _, _, rfl, ?_, hc', hc2', rfl⟩
        rw [Nf.run_eq (· == x) xs (n - n') (by rw [ha.1]; omega) HA.out ?_]
        · exact hr
        · intro _
          have h := HY.out
          simp only [List.getD, List.getElem?_drop, Nat.add_zero] at h
          simp only [List.getD]
          rw [h]; exact g2
    · have hz : ((n' : Int) == 0) = true := by simp; omega
      have e0 : n' = 0 := by omega
      subst e0
      go_wp2
      go_ret
      refine ⟨_, _, _, rfl, ?_, Nat.le_refl _, Nat.zero_le _, rfl⟩
      rw [Nf.run_eq (· == x) xs n (by rw [ha.1]; exact Nat.le_refl _) HA.out (fun h => absurd h (by rw [ha.1]; omega))]
      rw [List.drop_of_length_le (by rw [ha.1]; exact Nat.le_refl _)]
      exact RB.nil
set_option maxRecDepth 100000 in
theorem trimLeft_any (A : Option Addr) (n c B : Nat) (xs : List Int) (w : World) (ha : RB w B A n xs) (hc : n ≤ c) (hc2 : c ≤ maxLen) :
    Calls Tryz.prog 121 #[.slice A n c, .string ⟨#[32]⟩] w fun e w' => ∃ A' n' c', e = .returned (.slice A' n' c') ∧ RB w B A' n' (xs.drop (Nf.run (· == 32) xs)) ∧ n' ≤ c' ∧ c' ≤ maxLen ∧ w = w' := by
  by_cases h0 : n = 0
  · subst h0
    obtain rfl : xs = [] := List.eq_nil_of_length_eq_zero ha.1
    go_enter Tryz.func121, Tryz.ntmps121
    go_wp2
    go_ret
    exact ⟨_, _, _, rfl, by simpa using RB.nil, Nat.le_refl _, Nat.zero_le _, rfl⟩
  · have hz : ((n : Int) == 0) = false := by simp; omega
    have h := Lib.hid (trimLeftByte_any A n c B xs 32 w ha hc hc2)
    clear ha hc hc2 h0
    go_enter Tryz.func121, Tryz.ntmps121
    go_wp2_with (go_at_call 145; refine h.out.mono ?_; rintro e w' ⟨A', n', c', rfl, h1, h2, h3, rfl⟩)
    go_ret
    exact ⟨_, _, _, rfl, h1, h2, h3, rfl⟩
theorem getBytes_any (A : Option Addr) (n c : Nat) (xs : List Int) (s : Int) (w : World) (ha : RB w w.heap.size A n xs) (hx : Byt xs) (hn : n ≤ 1000000) (hs : s = 0 ∨ s = -1) :
    Calls Tryz.prog 97 #[.slice A n c, .int .i64 s] w fun e w' => e = .returned (.tuple #[.int .i64 (Nf.runB s s xs).1, .int .i64 (Nf.runB s s xs).2]) ∧ w = w' := by
  have hxl := Lib.hid ha.1
  have hss : -1 ≤ s ∧ s ≤ 0 := by omega
  go_enter Tryz.func97, Tryz.ntmps97
  go_wp2
  go_loop [6, 12] (fun v i => ∃ k : Nat, ∃ m : Int, k ≤ n ∧ i = .int .i64 k ∧ v = .int .i64 m ∧ -9223372036854775808 ≤ m ∧ m ≤ 9223372036854775807 ∧ Nf.runB s m (xs.drop k) = Nf.runB s s xs) (fun _ i => n - (intOf i).toNat)
  case atStart => exact ⟨0, s, by omega, rfl, rfl, by omega, by omega, by simp⟩
  case round =>
    obtain ⟨k, m, hk, rfl, rfl, hm1, hm2, hr⟩ := hrel
    have HR := Lib.hid hr; clear hr
    by_cases hlt : k < n
    · obtain ⟨ba, oa, rfl, hba, hca⟩ := ha.at_ hlt
      have hxk := hx k
      have hd := Lib.hid (Nf.drop_at xs k (by have := hxl.out; omega))
      generalize hy : xs.getD k 0 = y at *
      have HY := Lib.hid hy; clear hy
      by_cases hq : m / 36028797018963968 = s
      · have g1 : (m / 36028797018963968 != s) = false := by simp [hq]
        have HQ := Lib.hid hq; clear hq
        have hb1 : -36028797018963968 ≤ m := by have := HQ.out; omega
        have hb2 : m < 36028797018963968 := by have := HQ.out; omega
        go_wp2
        go_round
        case rel =>
          have e := Nf.or256 m y hb1 hb2 hxk.1 hxk.2
          rw [e]
          refine ⟨k + 1, m * 256 + y, by omega, by go_num, rfl, by omega, by omega, ?_⟩
          rw [← HR.out, hd.out, Nf.runB, if_pos HQ.out]
        case measure => simp [intOf]; omega
      · have g1 : (m / 36028797018963968 != s) = true := by simp [hq]
        have HQ := Lib.hid hq; clear hq
        go_wp2
        go_ret2
        exact ⟨ret_ii (by rw [← HR.out, hd.out, Nf.runB, if_neg HQ.out]) (by rw [← HR.out, hd.out, Nf.runB, if_neg HQ.out]), rfl⟩
    · have e : k = n := by omega
      subst e
      go_wp2
      go_ret2
      have e : Nf.runB s m (xs.drop k) = (m, 0) := by rw [List.drop_of_length_le (by rw [hxl.out]; exact Nat.le_refl _)]; rfl
      exact ⟨ret_ii (by rw [← HR.out, e]) (by rw [← HR.out, e]), rfl⟩
theorem getOctal_any (A : Option Addr) (n c : Nat) (xs : List Int) (w : World) (ha : RB w w.heap.size A n xs) (hx : Byt xs) (hn : n ≤ 12) (hc : n ≤ c) (hc2 : c ≤ maxLen) :
    Calls Tryz.prog 96 #[.slice A n c] w fun e w' => e = .returned (.tuple #[.int .i64 (Nf.octG xs).1, .int .i64 (Nf.octG xs).2]) ∧ w = w' := by
  have hxl := ha.1
  have htl := Lib.hid (trimLeft_any A n c w.heap.size xs w ha hc hc2)
  obtain ⟨ys, hys⟩ : ∃ ys, ys = xs.drop (Nf.run (· == 32) xs) := ⟨_, rfl⟩
  have hyl : ys.length ≤ 12 := by rw [hys, List.length_drop]; omega
  have hyb : Byt ys := by rw [hys]; exact hx.drop _
  have hoct : Nf.octG xs = if Nf.run Nf.isO ys = 0 ∨ (ys.drop (Nf.run Nf.isO ys)).all Nf.isB = false then (0, 3) else (Nf.say 8 48 0 (ys.take (Nf.run Nf.isO ys)), 0) := by rw [hys]; rfl
  rw [← hys] at htl
  have HOCT := Lib.hid hoct
  clear hoct hys hxl hx hc hc2 ha
  go_enter Tryz.func96, Tryz.ntmps96
  go_wp2_with (go_at_call 121; refine htl.out.mono ?_; rintro e w' ⟨A', n', c', rfl, h1, h2, h3, rfl⟩)
  have hyn := h1.1
  have HYN := Lib.hid hyn
  have hn' : n' ≤ 12 := by omega
  clear hyn
  unfold maxLen at h3
  go_loop [4, 5] (fun v i => ∃ k : Nat, ∃ m : Int, k ≤ n' ∧ i = .int .i64 k ∧ v = .int .i64 m ∧ 0 ≤ m ∧ m < 8 ^ k ∧ m = Nf.say 8 48 0 (ys.take k) ∧ (∀ j, j < k → Nf.isO (ys.getD j 0) = true)) (fun _ i => n' - (intOf i).toNat)
  case atStart => exact ⟨0, 0, by omega, rfl, rfl, by omega, by simp, by simp [Nf.say], fun j hj => absurd hj (by omega)⟩
  case round =>
    obtain ⟨k, m, hk, rfl, rfl, hm1, hm2, hm, hall⟩ := hrel
    have HM := Lib.hid hm; have HALL := Lib.hid hall; clear hm hall
    have hp := Nf.pow8 k (by omega)
    have hm3 : m < 68719476736 := by omega
    by_cases hlt : k < n' ∧ Nf.isO (ys.getD k 0) = true
    · obtain ⟨hlt, hO⟩ := hlt
      obtain ⟨ba, oa, rfl, hba, hca⟩ := h1.at_ hlt
      have hs := Lib.hid (Nf.take_snoc ys k (by have := HYN.out; omega))
      have hyk := Nf.isO_bd hO
      generalize hy : ys.getD k 0 = y at *
      have HY := Lib.hid hy; have HO := Lib.hid hO; clear hy hO
      have HM2 := Lib.hid hm2
      clear hm2 hp
      go_wp2_with (go_at_call 122; refine (isOctal_any _ _).mono ?_; rintro e w' ⟨rfl, rfl⟩; rw [HO.out])
      go_round
      case rel =>
        rw [Nf.or8 m (y - 48) hm1 (by omega) (by omega) (by omega)]
        have h := HM2.out
        refine ⟨k + 1, m * 8 + (y - 48), by omega, by go_num, rfl, by omega, by rw [Int.pow_succ]; omega, by rw [hs.out, Nf.say_snoc, ← HM.out], ?_⟩
        intro j hj
        by_cases hjk : j < k
        · exact HALL.out j hjk
        · rw [show j = k from by omega, HY.out]; exact HO.out
      case measure => simp [intOf]; omega
    · have hrun : Nf.run Nf.isO ys = k := Nf.run_eq _ _ _ (by have := HYN.out; omega) HALL.out (fun h => by
        rw [← Bool.not_eq_true]; exact fun h2 => hlt ⟨by have := HYN.out; omega, h2⟩)
      have hno : k < n' → Nf.isO (ys.getD k 0) = false := fun h => by
        rw [← Bool.not_eq_true]; exact fun h2 => hlt ⟨h, h2⟩
      clear hlt hm2 hp
      have ho := HOCT.out
      rw [hrun] at ho
      have HNO := Lib.hid hno; clear hno hrun
      by_cases hk0 : k = 0
      · rw [if_pos (Or.inl hk0)] at ho
        have HO := Lib.hid ho; clear ho
        subst hk0
        by_cases hlt : 0 < n'
        · obtain ⟨ba, oa, rfl, hba, hca⟩ := h1.at0 hlt
          have hn0 := HNO.out hlt
          generalize hy : ys.getD 0 0 = y at *
          have HN0 := Lib.hid hn0; have HY := Lib.hid hy; clear hn0 hy
          go_wp2_with (go_at_call 122; refine (isOctal_any _ _).mono ?_; rintro e w' ⟨rfl, rfl⟩; rw [HN0.out])
          go_ret2
          exact ⟨ret_ii (by rw [HO.out]) (by rw [HO.out]), rfl⟩
        · go_wp2
          go_ret2
          exact ⟨ret_ii (by rw [HO.out]) (by rw [HO.out]), rfl⟩
      · obtain ⟨b, o, rfl, hb, _⟩ := h1.at0 (show 0 < n' by omega)
        have hz : ((k : Int) == 0) = false := by simp; omega
        have hcut := Lib.hid (h1.cutAt (k := k) (cap := c') hk h2 (by omega))
        cases hB : (ys.drop k).all Nf.isB
        all_goals
          simp only [hk0, hB, false_or, if_true, if_false, Bool.true_eq_false] at ho
          have HO := Lib.hid ho
          have HB := Lib.hid hB
          clear ho hB
          rcases Nat.lt_or_ge k c' with hck | hck
          · have hck2 : ¬ c' = k := by omega
            have hcut2 := hcut.out
            rw [if_neg hck2] at hcut2
            have HCUT := Lib.hid hcut2; clear hcut2 hcut
            by_cases hlt : k < n'
            · obtain ⟨_, _, he, hba, hca⟩ := h1.at_ hlt
              cases he
              have hn0 := HNO.out hlt
              generalize hy : ys.getD k 0 = y at *
              have HN0 := Lib.hid hn0; have HY := Lib.hid hy; clear hn0 hy
              go_wp2_with (first | (go_at_call 122; refine (isOctal_any _ _).mono ?_; rintro e w' ⟨rfl, rfl⟩; rw [HN0.out]) | (go_at_call 123; (with_reducible refine (isBehind_any _ _ _ _ _ HCUT.out (by omega)).mono ?_); rintro e w' ⟨rfl, rfl⟩; rw [HB.out]))
              go_ret2
              exact ⟨ret_ii (by first | rw [HO.out, ← HM.out] | rw [HO.out]) (by rw [HO.out]), rfl⟩
            · go_wp2_with (go_at_call 123; (with_reducible refine (isBehind_any _ _ _ _ _ HCUT.out (by omega)).mono ?_); rintro e w' ⟨rfl, rfl⟩; rw [HB.out])
              go_ret2
              exact ⟨ret_ii (by first | rw [HO.out, ← HM.out] | rw [HO.out]) (by rw [HO.out]), rfl⟩
          · have hck2 : c' = k := by omega
            have hkn : n' = k := by omega
            have hcut2 := hcut.out
            rw [if_pos hck2, show n' - k = 0 from by omega] at hcut2
            have HCUT := Lib.hid hcut2; clear hcut2 hcut
            subst hck2
            subst hkn
            go_wp2_with (go_at_call 123; (with_reducible refine (isBehind_any _ _ _ _ _ HCUT.out (by omega)).mono ?_); rintro e w' ⟨rfl, rfl⟩; rw [HB.out])
            go_ret2
            exact ⟨ret_ii (by first | rw [HO.out, ← HM.out] | rw [HO.out]) (by rw [HO.out]), rfl⟩
theorem get_any (A : Option Addr) (n c : Nat) (xs : List Int) (w : World) (ha : RB w w.heap.size A n xs) (hx : Byt xs) (hc : n ≤ c) (hc2 : c ≤ maxLen) :
    Calls Tryz.prog 70 #[.slice A n c] w fun e w' => e = .returned (.tuple #[.int .i64 (Nf.getS xs).1, .int .i64 (Nf.getS xs).2]) ∧ w = w' := by
  have hxl := ha.1
  cases hw : Nf.wide n with
  | false =>
    have e : Nf.getS xs = (0, 1) := by simp [Nf.getS, hxl, hw]
    have HE := Lib.hid e; have HW := Lib.hid hw; clear e hw hxl
    go_enter Tryz.func70, Tryz.ntmps70
    go_wp2
    go_step3
    go_wp2_with (go_at_call 95; refine (isWidth_any _ _).mono ?_; rintro e w' ⟨rfl, rfl⟩; rw [HW.out])
    try simp only [Exit.noGoto_ret]
    go_ret2
    exact ⟨ret_ii (by rw [HE.out]; try simp) (by rw [HE.out]; try simp), rfl⟩
  | true =>
    have hk : 8 ≤ n ∧ n ≤ 12 := by simp [Nf.wide] at hw; omega
    obtain ⟨b, o, rfl, hb, hc0⟩ := ha.at0 (by omega)
    have hgo := Lib.hid (getOctal_any _ n c xs w ha hx (by omega) hc hc2)
    have e : Nf.getS xs = if xs.getD 0 0 = 128 then Nf.runB 0 0 (xs.drop 1) else if xs.getD 0 0 = 255 then Nf.runB (-1) (-1) (xs.drop 1) else Nf.octG xs := by
      rw [Nf.getS, if_neg (by rw [hxl, hw]; simp), Nf.runB_base 0 (Or.inl rfl) _ (hx.drop 1), Nf.runB_base (-1) (Or.inr rfl) _ (hx.drop 1)]
    have hcut := ha.cutAt (k := 1) (cap := c) (by omega) hc (by omega)
    rw [if_neg (by omega)] at hcut
    have hgb := fun s hs => getBytes_any _ (n - 1) (c - 1) (xs.drop 1) s w hcut (hx.drop 1) (by omega) hs
    have hc1 : ¬ c = 1 := by omega
    generalize hy : xs.getD 0 0 = y at *
    have HGB := Lib.hid hgb; have HW := Lib.hid hw; have HY := Lib.hid hy
    clear hgb hw hxl hcut hy
    by_cases h1 : y = 128
    · rw [if_pos h1] at e
      have HE := Lib.hid e; clear e
      subst h1
      go_enter Tryz.func70, Tryz.ntmps70
      go_wp2
      refine wp_scope_once 0 rfl ?_
      go_wp2_with (first | (go_at_call 95; refine (isWidth_any _ _).mono ?_; rintro e w' ⟨rfl, rfl⟩; rw [HW.out]) | (go_at_call 97; (with_reducible refine (HGB.out _ (by omega)).mono ?_); rintro e w' ⟨rfl, rfl⟩) | (go_at_call 96; (with_reducible refine hgo.out.mono ?_); rintro e w' ⟨rfl, rfl⟩))
      go_step3
      try simp only [Exit.jump]
      refine ⟨rfl, ?_⟩
      go_wp2_with (first | (go_at_call 95; refine (isWidth_any _ _).mono ?_; rintro e w' ⟨rfl, rfl⟩; rw [HW.out]) | (go_at_call 97; (with_reducible refine (HGB.out _ (by omega)).mono ?_); rintro e w' ⟨rfl, rfl⟩) | (go_at_call 96; (with_reducible refine hgo.out.mono ?_); rintro e w' ⟨rfl, rfl⟩))
      try simp only [Exit.noGoto_ret]
      go_ret2
      exact ⟨ret_ii (by rw [HE.out]; try simp) (by rw [HE.out]; try simp), rfl⟩
    · rw [if_neg h1] at e
      by_cases h2 : y = 255
      · rw [if_pos h2] at e
        have HE := Lib.hid e; clear e h1
        subst h2
        go_enter Tryz.func70, Tryz.ntmps70
        go_wp2
        refine wp_scope_once 1 rfl ?_
        go_wp2_with (first | (go_at_call 95; refine (isWidth_any _ _).mono ?_; rintro e w' ⟨rfl, rfl⟩; rw [HW.out]) | (go_at_call 97; (with_reducible refine (HGB.out _ (by omega)).mono ?_); rintro e w' ⟨rfl, rfl⟩) | (go_at_call 96; (with_reducible refine hgo.out.mono ?_); rintro e w' ⟨rfl, rfl⟩))
        go_step3
        try simp only [Exit.jump]
        refine ⟨rfl, ?_⟩
        go_wp2_with (first | (go_at_call 95; refine (isWidth_any _ _).mono ?_; rintro e w' ⟨rfl, rfl⟩; rw [HW.out]) | (go_at_call 97; (with_reducible refine (HGB.out _ (by omega)).mono ?_); rintro e w' ⟨rfl, rfl⟩) | (go_at_call 96; (with_reducible refine hgo.out.mono ?_); rintro e w' ⟨rfl, rfl⟩))
        try simp only [Exit.noGoto_ret]
        go_ret2
        exact ⟨ret_ii (by rw [HE.out]; try simp) (by rw [HE.out]; try simp), rfl⟩
      · rw [if_neg h2] at e
        have HE := Lib.hid e; clear e
        have g1 : (y == 128) = false := by simp [h1]
        have g2 : (y == 255) = false := by simp [h2]
        go_enter Tryz.func70, Tryz.ntmps70
        go_wp2
        go_step3
        go_wp2_with (first | (go_at_call 95; refine (isWidth_any _ _).mono ?_; rintro e w' ⟨rfl, rfl⟩; rw [HW.out]) | (go_at_call 97; (with_reducible refine (HGB.out _ (by omega)).mono ?_); rintro e w' ⟨rfl, rfl⟩) | (go_at_call 96; (with_reducible refine hgo.out.mono ?_); rintro e w' ⟨rfl, rfl⟩))
        try simp only [Exit.noGoto_ret]
        go_ret2
        exact ⟨ret_ii (by rw [HE.out]; try simp) (by rw [HE.out]; try simp), rfl⟩
end Go.Proofs.YtjhigkkkfkahdaaGreatDoor
