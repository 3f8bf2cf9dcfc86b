/- WALKS OF LAYER 3, THE LAWS: HsumSums, HsumFinds, HsumAlone answer true at every input. -/
import Derived.Test.YthnkjmckdcmjpaaDoorX3d
namespace Go.Proofs.YthnkjmckdcmjpaaDoor
open Go.RowKit
set_option maxHeartbeats 1600000
set_option maxRecDepth 100000
theorem hput_len (xs : List Int) : (Hs.putS xs).1.length ≤ 1000000 := by
  by_cases h : xs.length = 512
  · rw [Hs.len_put xs h]; omega
  · unfold Hs.putS; rw [if_neg h]; simp
theorem all_take (xs : List Int) (k : Nat) (h : k < xs.length) : (xs.take (k + 1)).all (· == 0) = ((xs.take k).all (· == 0) && (xs.getD k 0 == 0)) := by
  rw [take_snocI xs k h, List.all_append]; simp
/-- What the calls answer in every world behind u, of a slice of bytes of u. -/
theorem hfacts (A : Option Addr) (n c : Nat) (ys : List Int) (u : World) (ha : RB u u.heap.size A n ys) (hy : Byt ys) (hc : n ≤ c) (hc2 : c ≤ maxLen) (hn : n ≤ 1000) : ∀ W, Below u.heap.size u W →
    (Calls Tryd.prog 8 #[.slice A n c] W fun e w' => e = .returned (.tuple #[.int .i64 (Hs.sumS ys).1, .int .i64 (Hs.sumS ys).2]) ∧ W = w') ∧
    (Calls Tryd.prog 9 #[.slice A n c] W fun e w' => e = .returned (.int .i64 (Hs.psum ys n)) ∧ W = w') ∧
    (Calls Tryd.prog 10 #[.slice A n c] W fun e w' => ∃ v, e = .returned (.tuple #[v, .int .i64 (Hs.putS ys).2]) ∧ OB w' W.heap.size 5 v (Hs.putS ys).1 ∧ Below W.heap.size W w') ∧
    (Calls Tryd.prog 11 #[.slice A n c] W fun e w' => ∃ v, e = .returned (.tuple #[v, .int .i64 (Hs.putS ys).2]) ∧ OB w' W.heap.size 5 v (Hs.putS ys).1 ∧ Below W.heap.size W w') ∧
    (Calls Tryd.prog 12 #[.slice A n c] W fun e w' => e = .returned (.tuple #[.int .i64 (Hs.toldS ys).1, .int .i64 (Hs.toldS ys).2]) ∧ W = w') ∧
    (Calls Tryd.prog 13 #[.slice A n c] W fun e w' => e = .returned (.tuple #[.int .i64 (Hs.toldS ys).1, .int .i64 (Hs.toldS ys).2]) ∧ Below W.heap.size W w') ∧
    (Calls Tryd.prog 15 #[.slice A n c] W fun e w' => e = .returned (.int .i64 (Hs.checkS ys)) ∧ W = w') ∧
    (Calls Tryd.prog 16 #[.slice A n c] W fun e w' => e = .returned (.int .i64 (Hs.checkS ys)) ∧ Below W.heap.size W w') ∧
    (Calls Tryd.prog 17 #[.slice A n c] W fun e w' => e = .returned (.bool (Hs.zeroS ys)) ∧ W = w') ∧
    RB W W.heap.size A n ys := by
  intro W hW
  have h := (ha.below hW).more hW.size
  exact ⟨hsum_any A n c ys W h hy, refsum_any A n c ys W h hy (by omega), hput_any A n c ys W h hy, refhput_any A n c ys W h hy hc hc2 (by omega), htold_any A n c ys W h hy hc hc2, reftold_any A n c ys W h hy hc hc2,
    hcheck_any A n c ys W h hy hc hc2, refcheck_any A n c ys W h hy hc hc2, hzero_any A n c ys W h, h⟩
theorem sums_walk (A : Option Addr) (n c : Nat) (xs : List Int) (wh : Bool) (w : World) (ha : RB w w.heap.size A n xs) (hx : Byt xs) (hc : n ≤ c) (hc2 : c ≤ maxLen) :
    Calls Tryd.prog 3 #[.slice A n c, .bool wh] w fun e w' => e = .returned (.bool true) ∧ Below w.heap.size w w' := by
  have hxl := ha.1
  by_cases hn : (n : Int) ≤ 1000
  · have hnn : n ≤ 1000 := by omega
    cases wh with
    | true =>
      go_enter Tryd.func3, Tryd.ntmps3
      go_wp2_with (go_at_call 7; (with_reducible refine (block_any A n c xs w ha (by omega)).mono ?_); rintro e w1 ⟨v1, rfl, ho1, hb1⟩; obtain ⟨g1, c1, cur1, rfl, _, hlt1, _, hlc1, hcm1, _, _⟩ := ho1.shape (by omega))
      have hyl := Hs.len_blk xs
      have f := hfacts (some ⟨g1, 0, none⟩) 512 c1 (Hs.blk xs) w1 (by have hh := ho1.ob.rb; rw [hyl] at hh; obtain ⟨A, c, e, hr, _⟩ := hh; cases e; exact hr) (Hs.byt_blk xs hx) hlc1 hcm1 (by omega)
      rw [show Hs.sumS (Hs.blk xs) = (Hs.psum (Hs.blk xs) 512, 0) from by unfold Hs.sumS; rw [if_pos hyl]] at f
      have hpl := hput_len (Hs.blk xs)
      have hzz : Hs.zeroS (Hs.blk xs) = (Hs.blk xs).all (· == 0) := by unfold Hs.zeroS; rw [decide_eq_true hyl]; rfl
      obtain ⟨⟨P1, P2⟩, hP⟩ : ∃ P, Hs.putS (Hs.blk xs) = P := ⟨_, rfl⟩
      obtain ⟨⟨T1, T2⟩, hT⟩ : ∃ T, Hs.toldS (Hs.blk xs) = T := ⟨_, rfl⟩
      rw [hP] at hpl
      rw [hP, hT] at f
      simp only at f hpl
      generalize Hs.checkS (Hs.blk xs) = K at *
      generalize Hs.zeroS (Hs.blk xs) = Z at *
      generalize Hs.psum (Hs.blk xs) 512 = S at *
      have F := Lib.hid f; have HPL := Lib.hid hpl; have HZZ := Lib.hid hzz; have HYL := Lib.hid hyl
      clear f hpl hzz hP hT hyl
      clear ho1
      go_wp2_with (first
        | (go_at_call 8; (with_reducible refine ((F.out _ (Below.refl _ _)).1).mono ?_); rintro e w' ⟨rfl, rfl⟩)
        | (go_at_call 9; (with_reducible refine ((F.out _ (Below.refl _ _)).2.1).mono ?_); rintro e w' ⟨rfl, rfl⟩)
        | (go_at_call 10; (with_reducible refine ((F.out _ (Below.refl _ _)).2.2.1).mono ?_); rintro e w2 ⟨v2, rfl, ho2, hb2⟩; obtain ⟨A2, c2, rfl, hr2, _, _⟩ := ho2.rb; clear ho2)
        | (go_at_call 11; (with_reducible refine ((F.out _ hb2).2.2.2.1).mono ?_); rintro e w3 ⟨v3, rfl, ho3, hb3⟩; obtain ⟨A3, c3, rfl, hr3, _, _⟩ := ho3.rb; have hs2 := (hr2.below hb3).more hb3.size; have hb23 := bthen hb2 hb3; clear ho3 hr2)
        | (go_at_call 12; (with_reducible refine ((F.out _ hb23).2.2.2.2.1).mono ?_); rintro e w' ⟨rfl, rfl⟩)
        | (go_at_call 13; (with_reducible refine ((F.out _ hb23).2.2.2.2.2.1).mono ?_); rintro e w4 ⟨rfl, hb4⟩; have ht2 := (hs2.below hb4).more hb4.size; have ht3 := (hr3.below hb4).more hb4.size; have hb234 := bthen hb23 hb4; have hry := (F.out _ hb234).2.2.2.2.2.2.2.2.2; clear hs2 hr3))
      generalize hYS : Hs.blk xs = ys at *
      obtain ⟨N, hN⟩ : ∃ N : Nat, N = 512 := ⟨_, rfl⟩
      have HN := Lib.hid hN; clear hN
      go_loop [16, 83] (fun z i => ∃ k : Nat, k ≤ N ∧ i = .int .i64 k ∧ z = .bool ((ys.take k).all (· == 0))) (fun _ i => N - (intOf i).toNat)
      case atStart => exact ⟨0, by omega, rfl, by simp⟩
      case round =>
        obtain ⟨k, hk, rfl, rfl⟩ := hrel
        have hN := HN.out
        by_cases hlt : k < 512
        · have hkN : k + 1 ≤ N := by omega
          clear hN
          have hat := all_take ys k (by have := HYL.out; omega)
          obtain ⟨bb, oo, hA, _, hcell⟩ := hry.at_ hlt
          cases hA
          try simp only [Nat.zero_add] at hcell
          generalize ys.getD k 0 = y at *
          generalize (ys.take k).all (· == 0) = z at *
          have HAT := Lib.hid hat; clear hat
          cases z
          · go_wp2
            go_round
            case rel => exact ⟨k + 1, hkN, by go_num, by rw [HAT.out]; simp⟩
            case measure => simp [intOf]; omega
          · go_wp2
            go_round
            case rel => exact ⟨k + 1, hkN, by go_num, by rw [HAT.out]; simp⟩
            case measure => simp [intOf]; omega
        · have e : k = 512 := by omega
          subst e
          have hz : (ys.take 512).all (· == 0) = Z := by rw [HZZ.out, List.take_of_length_le (by have := HYL.out; omega)]
          rw [hz]
          have HZ := Lib.hid hz; clear hz
          go_wp2_with (first
            | (go_at_call 14; (with_reducible refine (same_any _ _ _ _ _ _ _ _ _ ht2 ht3 HPL.out HPL.out).mono ?_); rintro e w5 ⟨rfl, hb5⟩; rw [decide_eq_true rfl]; have hb2345 := bthen hb234 hb5)
            | (go_at_call 15; (with_reducible refine ((F.out _ hb2345).2.2.2.2.2.2.1).mono ?_); rintro e w' ⟨rfl, rfl⟩)
            | (go_at_call 16; (with_reducible refine ((F.out _ hb2345).2.2.2.2.2.2.2.1).mono ?_); rintro e w6 ⟨rfl, hb6⟩; have hb26 := bthen hb2345 hb6)
            | (go_at_call 17; (with_reducible refine ((F.out _ hb26).2.2.2.2.2.2.2.2.1).mono ?_); rintro e w' ⟨rfl, rfl⟩)
            | (go_at_call 6; refine (alive_any _).mono ?_; rintro e w7 ⟨rfl, hb7⟩))
          go_ret
          exact ⟨ret_bool (by simp), bthen hb1 (bthen hb26 hb7)⟩
    | false =>
      by_cases h5 : n = 512
      · subst h5
        have hyl := hxl
        have f := hfacts A 512 c xs w ha hx hc hc2 hnn
        rw [show Hs.sumS xs = (Hs.psum xs 512, 0) from by unfold Hs.sumS; rw [if_pos hyl]] at f
        have hpl := hput_len xs
        have hzz : Hs.zeroS xs = xs.all (· == 0) := by unfold Hs.zeroS; rw [decide_eq_true hyl]; rfl
        obtain ⟨⟨P1, P2⟩, hP⟩ : ∃ P, Hs.putS xs = P := ⟨_, rfl⟩
        obtain ⟨⟨T1, T2⟩, hT⟩ : ∃ T, Hs.toldS xs = T := ⟨_, rfl⟩
        rw [hP] at hpl
        rw [hP, hT] at f
        simp only at f hpl
        generalize Hs.checkS xs = K at *
        generalize Hs.zeroS xs = Z at *
        generalize Hs.psum xs 512 = S at *
        have F := Lib.hid f; have HPL := Lib.hid hpl; have HZZ := Lib.hid hzz; have HYL := Lib.hid hyl
        clear f hpl hzz hP hT hyl
        go_enter Tryd.func3, Tryd.ntmps3
        go_wp2_with (first
          | (go_at_call 8; (with_reducible refine ((F.out _ (Below.refl _ _)).1).mono ?_); rintro e w' ⟨rfl, rfl⟩)
          | (go_at_call 9; (with_reducible refine ((F.out _ (Below.refl _ _)).2.1).mono ?_); rintro e w' ⟨rfl, rfl⟩)
          | (go_at_call 10; (with_reducible refine ((F.out _ (Below.refl _ _)).2.2.1).mono ?_); rintro e w2 ⟨v2, rfl, ho2, hb2⟩; obtain ⟨A2, c2, rfl, hr2, _, _⟩ := ho2.rb; clear ho2)
          | (go_at_call 11; (with_reducible refine ((F.out _ hb2).2.2.2.1).mono ?_); rintro e w3 ⟨v3, rfl, ho3, hb3⟩; obtain ⟨A3, c3, rfl, hr3, _, _⟩ := ho3.rb; have hs2 := (hr2.below hb3).more hb3.size; have hb23 := bthen hb2 hb3; clear ho3 hr2)
          | (go_at_call 12; (with_reducible refine ((F.out _ hb23).2.2.2.2.1).mono ?_); rintro e w' ⟨rfl, rfl⟩)
          | (go_at_call 13; (with_reducible refine ((F.out _ hb23).2.2.2.2.2.1).mono ?_); rintro e w4 ⟨rfl, hb4⟩; have ht2 := (hs2.below hb4).more hb4.size; have ht3 := (hr3.below hb4).more hb4.size; have hb234 := bthen hb23 hb4; have hry := (F.out _ hb234).2.2.2.2.2.2.2.2.2; clear hs2 hr3))
        generalize hYS : xs = ys at *
        obtain ⟨N, hN⟩ : ∃ N : Nat, N = 512 := ⟨_, rfl⟩
        have HN := Lib.hid hN; clear hN
        go_loop [16, 83] (fun z i => ∃ k : Nat, k ≤ N ∧ i = .int .i64 k ∧ z = .bool ((ys.take k).all (· == 0))) (fun _ i => N - (intOf i).toNat)
        case atStart => exact ⟨0, by omega, rfl, by simp⟩
        case round =>
          obtain ⟨k, hk, rfl, rfl⟩ := hrel
          have hN := HN.out
          by_cases hlt : k < 512
          · have hkN : k + 1 ≤ N := by omega
            clear hN
            have hat := all_take ys k (by have := HYL.out; omega)
            obtain ⟨bb, oo, hA, _, hcell⟩ := hry.at_ hlt
            cases hA
            try simp only [Nat.zero_add] at hcell
            generalize ys.getD k 0 = y at *
            generalize (ys.take k).all (· == 0) = z at *
            have HAT := Lib.hid hat; clear hat
            cases z
            · go_wp2
              go_round
              case rel => exact ⟨k + 1, hkN, by go_num, by rw [HAT.out]; simp⟩
              case measure => simp [intOf]; omega
            · go_wp2
              go_round
              case rel => exact ⟨k + 1, hkN, by go_num, by rw [HAT.out]; simp⟩
              case measure => simp [intOf]; omega
          · have e : k = 512 := by omega
            subst e
            have hz : (ys.take 512).all (· == 0) = Z := by rw [HZZ.out, List.take_of_length_le (by have := HYL.out; omega)]
            rw [hz]
            have HZ := Lib.hid hz; clear hz
            go_wp2_with (first
              | (go_at_call 14; (with_reducible refine (same_any _ _ _ _ _ _ _ _ _ ht2 ht3 HPL.out HPL.out).mono ?_); rintro e w5 ⟨rfl, hb5⟩; rw [decide_eq_true rfl]; have hb2345 := bthen hb234 hb5)
              | (go_at_call 15; (with_reducible refine ((F.out _ hb2345).2.2.2.2.2.2.1).mono ?_); rintro e w' ⟨rfl, rfl⟩)
              | (go_at_call 16; (with_reducible refine ((F.out _ hb2345).2.2.2.2.2.2.2.1).mono ?_); rintro e w6 ⟨rfl, hb6⟩; have hb26 := bthen hb2345 hb6)
              | (go_at_call 17; (with_reducible refine ((F.out _ hb26).2.2.2.2.2.2.2.2.1).mono ?_); rintro e w' ⟨rfl, rfl⟩)
              | (go_at_call 6; refine (alive_any _).mono ?_; rintro e w7 ⟨rfl, hb7⟩))
            go_ret
            exact ⟨ret_bool (by simp), bthen hb26 hb7⟩
      · have f := hfacts A n c xs w ha hx hc hc2 hnn
        rw [show Hs.sumS xs = (0, 1) from by unfold Hs.sumS; rw [if_neg (by omega)]] at f
        rw [show Hs.zeroS xs = false from by unfold Hs.zeroS; rw [decide_eq_false (by omega)]; rfl] at f
        have hpl := hput_len xs
        obtain ⟨⟨P1, P2⟩, hP⟩ : ∃ P, Hs.putS xs = P := ⟨_, rfl⟩
        obtain ⟨⟨T1, T2⟩, hT⟩ : ∃ T, Hs.toldS xs = T := ⟨_, rfl⟩
        rw [hP] at hpl
        rw [hP, hT] at f
        simp only at f hpl
        generalize Hs.checkS xs = K at *
        generalize Hs.psum xs n = S at *
        have F := Lib.hid f; have HPL := Lib.hid hpl; have HYL := Lib.hid hxl
        clear f hpl hP hT hxl
        have g5 : ((n : Int) != 512) = true := by simp; omega
        have g6 : ((n : Int) == 512) = false := by simp; omega
        go_enter Tryd.func3, Tryd.ntmps3
        go_wp2_with (first
          | (go_at_call 8; (with_reducible refine ((F.out _ (Below.refl _ _)).1).mono ?_); rintro e w' ⟨rfl, rfl⟩)
          | (go_at_call 9; (with_reducible refine ((F.out _ (Below.refl _ _)).2.1).mono ?_); rintro e w' ⟨rfl, rfl⟩)
          | (go_at_call 10; (with_reducible refine ((F.out _ (Below.refl _ _)).2.2.1).mono ?_); rintro e w2 ⟨v2, rfl, ho2, hb2⟩; obtain ⟨A2, c2, rfl, hr2, _, _⟩ := ho2.rb; clear ho2)
          | (go_at_call 11; (with_reducible refine ((F.out _ hb2).2.2.2.1).mono ?_); rintro e w3 ⟨v3, rfl, ho3, hb3⟩; obtain ⟨A3, c3, rfl, hr3, _, _⟩ := ho3.rb; have hs2 := (hr2.below hb3).more hb3.size; have hb23 := bthen hb2 hb3; clear ho3 hr2)
          | (go_at_call 12; (with_reducible refine ((F.out _ hb23).2.2.2.2.1).mono ?_); rintro e w' ⟨rfl, rfl⟩)
          | (go_at_call 13; (with_reducible refine ((F.out _ hb23).2.2.2.2.2.1).mono ?_); rintro e w4 ⟨rfl, hb4⟩; have ht2 := (hs2.below hb4).more hb4.size; have ht3 := (hr3.below hb4).more hb4.size; have hb234 := bthen hb23 hb4; have hry := (F.out _ hb234).2.2.2.2.2.2.2.2.2; clear hs2 hr3))
        go_loop [16, 83] (fun z i => ∃ k : Nat, k ≤ n ∧ i = .int .i64 k ∧ z = .bool false) (fun _ i => n - (intOf i).toNat)
        case atStart => exact ⟨0, by omega, rfl, rfl⟩
        case round =>
          obtain ⟨k, hk, rfl, rfl⟩ := hrel
          by_cases hlt : k < n
          · obtain ⟨bb, oo, rfl, _, hcell⟩ := hry.at_ hlt
            generalize xs.getD k 0 = y at *
            go_wp2
            go_round
            case rel => exact ⟨k + 1, by omega, by go_num, rfl⟩
            case measure => simp [intOf]; omega
          · have e : k = n := by omega
            subst e
            go_wp2_with (first
              | (go_at_call 14; (with_reducible refine (same_any _ _ _ _ _ _ _ _ _ ht2 ht3 HPL.out HPL.out).mono ?_); rintro e w5 ⟨rfl, hb5⟩; rw [decide_eq_true rfl]; have hb2345 := bthen hb234 hb5)
              | (go_at_call 15; (with_reducible refine ((F.out _ hb2345).2.2.2.2.2.2.1).mono ?_); rintro e w' ⟨rfl, rfl⟩)
              | (go_at_call 16; (with_reducible refine ((F.out _ hb2345).2.2.2.2.2.2.2.1).mono ?_); rintro e w6 ⟨rfl, hb6⟩; have hb26 := bthen hb2345 hb6)
              | (go_at_call 17; (with_reducible refine ((F.out _ hb26).2.2.2.2.2.2.2.2.1).mono ?_); rintro e w' ⟨rfl, rfl⟩)
              | (go_at_call 6; refine (alive_any _).mono ?_; rintro e w7 ⟨rfl, hb7⟩))
            go_ret
            exact ⟨ret_bool (by simp), bthen hb26 hb7⟩
  · go_enter Tryd.func3, Tryd.ntmps3
    go_wp2_with (go_at_call 6; refine (alive_any _).mono ?_; rintro e w7 ⟨rfl, hb7⟩)
    go_ret
    exact ⟨ret_bool rfl, hb7⟩
end Go.Proofs.YthnkjmckdcmjpaaDoor
