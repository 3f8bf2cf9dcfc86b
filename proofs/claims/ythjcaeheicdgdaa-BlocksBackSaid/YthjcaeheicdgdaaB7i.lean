/- THE WALK OF THE LAW BlocksBack. -/
import Derived.Test.YthjcaeheicdgdaaB7g
namespace Go.Proofs.Ythjcaeheicdgdaa
open Go.RowKit
set_option maxHeartbeats 1600000
set_option maxRecDepth 100000
set_option linter.unusedVariables false
namespace Bk
theorem fill_len (xs : List Int) : ((fill xs).length : Int) = 512 * cnt xs.length ∧ ((fill xs).length : Int) = xs.length + pad xs.length := by
  have h := pad_cnt (n := (xs.length : Int)) (by omega)
  have b := pad_bd (xs.length : Int)
  unfold fill
  rw [List.length_append, List.length_replicate]
  omega
theorem err_fill (xs : List Int) (m : Nat) : err ((fill xs).length + m) xs.length = 0 := by
  have h := (fill_len xs).1
  exact err_ok (by omega) (by omega)
theorem open_fill (xs ys : List Int) : open_ (fill xs ++ ys) xs.length = xs := by
  unfold open_
  rw [List.length_append, if_pos (err_fill xs _), Int.toNat_natCast]
  unfold fill
  rw [List.append_assoc, List.take_left]
theorem clean_fill (xs : List Int) : clean (fill xs) xs.length = true := by
  refine clean_yes (by simpa using err_fill xs 0) fun j hj => ?_
  unfold fill
  rw [Int.toNat_natCast]
  simp [List.getD, List.getElem?_append_right, List.getElem?_replicate]
  split <;> rfl
end Bk
theorem rep7 (k j : Nat) : (List.replicate k (0 : Int)).getD j 0 = 0 := by
  simp [List.getD, List.getElem?_replicate]
  split <;> rfl
theorem back_walk7 (A : Option Addr) (n c : Nat) (xs : List Int) (B : Option Addr) (m d : Nat) (ys : List Int) (w : World) (ha : RB w w.heap.size A n xs) (hx : Byt xs) (hc : n ≤ c) (hc2 : c ≤ maxLen)
    (hb : RB w w.heap.size B m ys) (hy : Byt ys) (hd : m ≤ d) (hd2 : d ≤ maxLen) :
    Calls Try.prog 5 #[.slice A n c, .slice B m d] w fun e w' => e = .returned (.bool true) ∧ Below w.heap.size w w' := by
  obtain ⟨i0, hi, hz0, hz1, hz2⟩ := info_parts info_u8
  have al := Lib.hid alive_any
  have hM := hc2
  have hM2 := hd2
  unfold maxLen at hc2 hd2
  by_cases h1 : 2000 < n
  · have g1 : (2000 : Int) < n := by omega
    go_enter Try.func5, Try.ntmps5
    go_wp2_with (go_at_call 6; (with_reducible refine (al.out _).mono ?_); rintro e w' ⟨rfl, hb⟩)
    go_ret
    exact ⟨rfl, hb⟩
  · have g1 : ¬ (2000 : Int) < n := by omega
    by_cases h2 : 1000 < m
    · have g2 : (1000 : Int) < m := by omega
      go_enter Try.func5, Try.ntmps5
      go_wp2_with (go_at_call 6; (with_reducible refine (al.out _).mono ?_); rintro e w' ⟨rfl, hb⟩)
      go_ret
      exact ⟨rfl, hb⟩
    · have g2 : ¬ (1000 : Int) < m := by omega
      have hxl := ha.1
      obtain ⟨f1, f2⟩ := Bk.fill_len xs
      have f3 := Bk.err_fill xs m
      have f3' := Bk.err_fill xs 0
      have f4 := Bk.open_fill xs ys
      have f5 := Bk.clean_fill xs
      have bp := Bk.pad_bd (n : Int)
      have fl := fill_any A n c xs w ha (by omega)
      obtain ⟨FX, hFX⟩ : ∃ FX, Bk.fill xs = FX := ⟨_, rfl⟩
      obtain ⟨D, hD⟩ : ∃ D, FX.length = D := ⟨_, rfl⟩
      rw [hFX] at f1 f2 f3 f3' f4 f5 fl
      rw [hD] at f1 f2 f3 f3'
      rw [hxl] at f1 f2 f3 f3' f4 f5
      have cn := Lib.hid (fun W => count_any (n : Int) W (by omega) (by omega))
      have pd := Lib.hid (fun W => pad_any (n : Int) W (by omega) (by omega))
      have bc := Bk.cnt_bd (n := (n : Int)) (by omega)
      generalize Bk.cnt (n : Int) = q at *
      generalize Bk.pad (n : Int) = p at *
      have s1 : IntKind.i64.wrap (512 * q) = (D : Int) := by rw [IntWalk.i64_in _ (by omega)]; omega
      have s2 : IntKind.i64.wrap ((n : Int) + p) = (D : Int) := by rw [IntWalk.i64_in _ (by omega)]; omega
      have hDn : D ≤ 3000 := by omega
      have op := Lib.hid (fun W A3 c3 (h : RB W W.heap.size A3 (D + m) (FX ++ ys)) h1 h2 => open_any A3 (D + m) c3 (FX ++ ys) (n : Int) W h h1 h2 (by omega) (by omega) (by omega))
      rw [f3, f4] at op
      have cl := Lib.hid (fun W A3 c3 (h : RB W W.heap.size A3 D FX) h1 h2 => clean_any A3 D c3 FX (n : Int) W h h1 h2 (by omega) (by omega) (by omega))
      rw [f5] at cl
      have sm := Lib.hid (fun W A3 c3 (h : RB W W.heap.size A3 n xs) (h' : RB W W.heap.size A n xs) => same_any A3 A n n c3 c xs xs W h h' (by omega) (by omega))
      rw [decide_eq_true (rfl : xs = xs)] at sm
      have FL := Lib.hid fl; have HXL := Lib.hid hxl; have HD := Lib.hid hD; have HA := Lib.hid ha; have HB := Lib.hid hb
      have hDm : D + m ≤ 4000 := by omega
      have en : Hid (∃ N : Nat, N = 1024 ∧ ∀ W : World, Calls Try.prog 18 #[] W fun e w' => ∃ v, e = .returned v ∧ OBn w' W.heap.size 5 v N (List.replicate N 0) ∧ Below W.heap.size W w') := ⟨1024, rfl, end_any⟩
      obtain ⟨N, hN, hen⟩ := en.out
      have gN : ((N : Int) == 1024) = true := by subst hN; rfl
      have hNb : N ≤ 1024 := by omega
      have HN := Lib.hid hN; have EN := Lib.hid hen
      clear fl f1 f2 f3 f3' f4 f5 hFX hD hxl ha hb hx hy en hN hen bp bc h1 h2
      go_enter Try.func5, Try.ntmps5
      go_wp2_with (first
        | (go_at_call 10; (with_reducible refine FL.out.mono ?_); rintro e w1 ⟨v1, rfl, ho1, hb1⟩; obtain ⟨A1, c1, rfl, hr1, hl1, hm1⟩ := ho1.rb; rw [HD.out] at hr1 hl1 ⊢; have HR1 := Lib.hid hr1; have HB1 := Lib.hid hb1; clear hr1 hb1 ho1)
        | (at_builtin; obtain ⟨v2, w2, hrun2, hown2, hgrow2⟩ := run_append_rb (P := Try.prog) w1.heap.size w1.heap.size 26 26 5 i0 Try.underlying26 hi hz0 hz1 hz2 (.slice none 0 0) 0 [] (World.ownsRow_nil _ _ _ _) A1 D c1 FX HR1.out (by omega) (Nat.le_refl _)
           refine Lib.wpList_append_run _ rfl _ _ 26 26 rfl (.slice none 0 0) (.slice A1 D c1) rfl rfl _ _ hrun2 ?_
           have hb12 : Below w1.heap.size w1 w2 := (Below.refl _ _).grown hgrow2 (Nat.le_refl _) (by intro k hk; simp [Value.ownBlock] at hk)
           have HB12 := Lib.hid hb12; have HO2 := Lib.hid (show OBn w2 w1.heap.size 5 v2 D FX by simpa using hown2)
           clear hrun2 hown2 hgrow2 hb12)
        | (at_builtin; obtain ⟨v3, w3, hrun3, hown3, hgrow3⟩ := run_append_rb (P := Try.prog) w1.heap.size w.heap.size 26 26 5 i0 Try.underlying26 hi hz0 hz1 hz2 v2 D FX HO2.out B m d ys (HB.out.below (bthen HB1.out HB12.out)) (by omega) HB12.out.size
           refine Lib.wpList_append_run _ rfl _ _ 26 26 rfl v2 (.slice B m d) rfl rfl _ _ hrun3 ?_
           have hb13 := below_app HB12.out (Nat.le_refl _) HO2.out hgrow3
           obtain ⟨A3, c3, rfl, hr3, hl3, hm3⟩ := hown3.slice
           have HB13 := Lib.hid hb13; have HR3 := Lib.hid hr3; have HL3 := Lib.hid hl3; have HM3 := Lib.hid hm3
           clear hrun3 hown3 hgrow3 hr3 hl3 hm3 hb13)
        | (go_at_call 11; (with_reducible refine (op.out _ _ _ HR3.out HL3.out HM3.out).mono ?_); rintro e w4 ⟨v4, rfl, ho4, hb4⟩; obtain ⟨A4, c4, rfl, hr4, hl4, hm4⟩ := ho4.rb; rw [HXL.out] at hr4 hl4 ⊢; have HB14 := Lib.hid (HB13.out.trans (hb4.mono HB13.out.size)); have HR4 := Lib.hid hr4; clear hr4 ho4 hb4)
        | (go_at_call 18; (with_reducible refine (EN.out _).mono ?_); rintro e w5 ⟨v5, rfl, ho5, hb5⟩; obtain ⟨A5, c5, rfl, hr5, hl5, hm5⟩ := ho5.slice; have HB15 := Lib.hid (HB14.out.trans (hb5.mono HB14.out.size)); have HR45 := Lib.hid ((HR4.out.below hb5).more hb5.size); have HR5 := Lib.hid hr5; clear hr5 ho5 hb5))
      go_loop [37] (fun i => ∃ j : Nat, j ≤ N ∧ i = .int .i64 j) (fun i => N - (intOf i).toNat)
      case atStart => exact ⟨0, by omega, rfl⟩
      case round =>
        obtain ⟨j, hj, rfl⟩ := hrel
        by_cases hlt : j < N
        · obtain ⟨b5, o5, rfl, _, hc5⟩ := HR5.out.at_ hlt
          rw [rep7] at hc5
          go_wp2
          go_round
          case rel => exact ⟨j + 1, by omega, by go_num⟩
          case measure => simp [intOf]; omega
        · have HB5 := Lib.hid (bthen HB1.out HB15.out)
          have HA5 := Lib.hid ((HA.out.below HB5.out).more HB5.out.size)
          have HR15 := Lib.hid ((HR1.out.below HB15.out).more HB15.out.size)
          go_wp2_with (first
            | (go_at_call 14; (with_reducible refine (sm.out _ _ _ HR45.out HA5.out).mono ?_); rintro e w6 ⟨rfl, hb6⟩; have HB6 := Lib.hid (bthen HB5.out hb6); have HR16 := Lib.hid ((HR15.out.below hb6).more hb6.size); clear hb6)
            | (go_at_call 15; (with_reducible refine (cl.out _ _ _ HR16.out hl1 hm1).mono ?_); rintro e w' ⟨rfl, rfl⟩)
            | (go_at_call 8; (with_reducible refine (cn.out _).mono ?_); rintro e w' ⟨rfl, rfl⟩)
            | (go_at_call 9; (with_reducible refine (pd.out _).mono ?_); rintro e w' ⟨rfl, rfl⟩)
            | (go_at_call 6; (with_reducible refine (al.out _).mono ?_); rintro e w7 ⟨rfl, hb7⟩; have HB7 := Lib.hid (bthen HB6.out hb7); clear hb7))
          go_ret
          exact ⟨rfl, HB7.out⟩
end Go.Proofs.Ythjcaeheicdgdaa
