/- THE WALKS OF THE FOUR LAWS OF LAYER 1: each law's Go text answers true and turns nothing that was there. -/
import Derived.Test.YtkifdeplcafpkaaDoorW4
namespace Go.Proofs.YtkifdeplcafpkaaDoor
open Go.RowKit
set_option maxHeartbeats 1600000
theorem lays_walk (n k d : Int) (w : World) (h0 : -9223372036854775808 ≤ n) (h1 : n ≤ 9223372036854775807) :
    Calls Tryd.prog 3 #[.int .i64 n, .int .i64 k, .int .i64 d] w fun e w' => e = .returned (.bool true) ∧ Below w.heap.size w w' := by
  have lp := Nf.len_putS n k
  have lo : (Nf.octS n d).1.length ≤ 20 := Nf.len_octS n d
  generalize hp : Nf.putS n k = p at *
  generalize ho : Nf.octS n d = o at *
  have HP := Lib.hid hp; have HO := Lib.hid ho; clear hp ho
  obtain ⟨p1, p2⟩ := p
  obtain ⟨o1, o2⟩ := o
  simp only at lp lo
  go_enter Tryd.func3, Tryd.ntmps3
  go_wp2_with fail
  have c := put_any n k w h0 h1
  rw [HP.out] at c
  refine c.mono ?_
  clear c
  rintro e w1 ⟨v1, rfl, ho1, hb1⟩
  obtain ⟨A1, c1, rfl, hr1, _, _⟩ := ho1.rb
  go_wp2_with fail
  have c := refput_any n k w1 h0 h1
  rw [HP.out] at c
  refine c.mono ?_
  clear c
  rintro e w2 ⟨v2, rfl, ho2, hb2⟩
  obtain ⟨A2, c2, rfl, hr2, _, _⟩ := ho2.rb
  go_wp2_with fail
  have c := octal_any n d w2 h0 h1
  rw [HO.out] at c
  refine c.mono ?_
  clear c
  rintro e w3 ⟨v3, rfl, ho3, hb3⟩
  obtain ⟨A3, c3, rfl, hr3, _, _⟩ := ho3.rb
  go_wp2_with fail
  have c := refoctal_any n d w3 h0 h1
  rw [HO.out] at c
  refine c.mono ?_
  clear c
  rintro e w4 ⟨v4, rfl, ho4, hb4⟩
  obtain ⟨A4, c4, rfl, hr4, _, _⟩ := ho4.rb
  have q1 : RB w4 w4.heap.size A1 p1.length p1 := (((hr1.below hb2).below (hb3.mono hb2.size)).below (hb4.mono (Nat.le_trans hb2.size hb3.size))).more (Nat.le_trans hb2.size (Nat.le_trans hb3.size hb4.size))
  have q2 : RB w4 w4.heap.size A2 p1.length p1 := ((hr2.below hb3).below (hb4.mono hb3.size)).more (Nat.le_trans hb3.size hb4.size)
  have q3 : RB w4 w4.heap.size A3 o1.length o1 := (hr3.below hb4).more hb4.size
  go_wp2_with fail
  refine (same_any A1 A2 _ _ c1 c2 p1 p1 w4 q1 q2 (by omega) (by omega)).mono ?_
  rintro e w5 ⟨rfl, hb5⟩
  go_wp2_with fail
  refine (same_any A3 A4 _ _ c3 c4 o1 o1 w5 ((q3.below hb5).more hb5.size) ((hr4.below hb5).more hb5.size) (by omega) (by omega)).mono ?_
  rintro e w6 ⟨rfl, hb6⟩
  go_wp2_with (first | (go_at_call 12; refine (plain_any _ _ _).mono ?_; rintro e w' ⟨rfl, rfl⟩) | (go_at_call 13; refine (refplain_any _ _ _).mono ?_; rintro e w' ⟨rfl, rfl⟩) | (go_at_call 14; refine (most_any _ _).mono ?_; rintro e w' ⟨rfl, rfl⟩) | (go_at_call 15; refine (refmost_any _ _).mono ?_; rintro e w' ⟨rfl, rfl⟩) | (go_at_call 16; refine (alive_any _).mono ?_; rintro e w7 ⟨rfl, hb7⟩))
  go_ret
  exact ⟨ret_bool rfl, bthen hb1 (bthen hb2 (bthen hb3 (bthen hb4 (bthen hb5 (bthen hb6 hb7)))))⟩
theorem reads_walk (A : Option Addr) (n c : Nat) (xs : List Int) (w : World) (ha : RB w w.heap.size A n xs) (hx : Byt xs) (hc : n ≤ c) (hc2 : c ≤ maxLen) :
    Calls Tryd.prog 4 #[.slice A n c] w fun e w' => e = .returned (.bool true) ∧ Below w.heap.size w w' := by
  have g := Lib.hid (get_any A n c xs w ha hx hc hc2)
  have r := Lib.hid (refget_any A n c xs w ha hx hc hc2)
  unfold maxLen at hc2
  by_cases hn : (n : Int) ≤ 100
  · go_enter Tryd.func4, Tryd.ntmps4
    go_wp2_with (first | (go_at_call 17; (with_reducible refine g.out.mono ?_); rintro e w' ⟨rfl, rfl⟩) | (go_at_call 18; (with_reducible refine r.out.mono ?_); rintro e w1 ⟨rfl, hb1⟩) | (go_at_call 16; refine (alive_any _).mono ?_; rintro e w7 ⟨rfl, hb7⟩))
    go_ret
    exact ⟨ret_bool rfl, bthen hb1 hb7⟩
  · go_enter Tryd.func4, Tryd.ntmps4
    go_wp2_with (go_at_call 16; refine (alive_any _).mono ?_; rintro e w7 ⟨rfl, hb7⟩)
    go_ret
    exact ⟨ret_bool rfl, hb7⟩
theorem exact_walk (A : Option Addr) (n c : Nat) (xs : List Int) (w : World) (ha : RB w w.heap.size A n xs) (hx : Byt xs) (hc : n ≤ c) (hc2 : c ≤ maxLen) :
    Calls Tryd.prog 6 #[.slice A n c] w fun e w' => e = .returned (.bool true) ∧ Below w.heap.size w w' := by
  have hxl := ha.1
  have hin := Nf.getS_in xs hx
  have hlp := Nf.len_putS (Nf.getS xs).1 n
  have r := Lib.hid (refget_any A n c xs w ha hx hc hc2)
  have put := fun W => refput_any (Nf.getS xs).1 n W hin.1 hin.2
  have exa := fun W (h : Below w.heap.size w W) => exact_any A n c xs W ((ha.below h).more h.size) hx hc hc2
  have hex : Nf.exactS xs = ((Nf.getS xs).2 == 0 && ((Nf.putS (Nf.getS xs).1 n).2 == 0 && decide (xs = (Nf.putS (Nf.getS xs).1 n).1))) := by rw [← hxl]; rfl
  unfold maxLen at hc2
  by_cases hn : (n : Int) ≤ 100
  · obtain ⟨g, hg⟩ : ∃ g, Nf.getS xs = g := ⟨_, rfl⟩
    rw [hg] at r put hex hin hlp
    obtain ⟨p, hp⟩ : ∃ p, Nf.putS g.1 n = p := ⟨_, rfl⟩
    rw [hp] at put hex hlp
    obtain ⟨g1, g2⟩ := g
    obtain ⟨p1, p2⟩ := p
    simp only at r put hex hin hlp
    generalize hq : Nf.exactS xs = q at *
    have HEX := Lib.hid hex; have PUT := Lib.hid put; have EXA := Lib.hid exa; have HXL := Lib.hid hxl; have HQ := Lib.hid hq
    clear hex hg hp put exa hxl hq
    have hpl : p1.length ≤ 1000000 := by omega
    by_cases h0 : g2 = 0
    · subst h0
      by_cases h1 : p2 = 0
      · subst h1
        cases hxy : decide (xs = p1)
        all_goals
          have eq := HEX.out
          rw [hxy] at eq
          simp only [beq_self_eq_true, Bool.true_and] at eq
          subst eq
          have HXY := Lib.hid hxy; clear hxy
          go_enter Tryd.func6, Tryd.ntmps6
          go_wp2_with (first | (go_at_call 18; (with_reducible refine r.out.mono ?_); rintro e w1 ⟨rfl, hb1⟩) | (go_at_call 8; (with_reducible refine (PUT.out _).mono ?_); rintro e w2 ⟨v, rfl, ho, hb2⟩; obtain ⟨A2, c2, rfl, hr, hlc, hcm⟩ := ho.rb) | (go_at_call 19; (with_reducible refine (EXA.out _ (bthen hb1 hb2)).mono ?_); rintro e w3 ⟨rfl, hb3⟩) | (go_at_call 11; (with_reducible refine (same_any _ _ _ _ _ _ _ _ _ ((ha.below (bthen hb1 (bthen hb2 hb3))).more (bthen hb1 (bthen hb2 hb3)).size) ((hr.below hb3).more hb3.size) (by omega) hpl).mono ?_); rintro e w4 ⟨rfl, hb4⟩; rw [HXY.out]) | (go_at_call 16; refine (alive_any _).mono ?_; rintro e w7 ⟨rfl, hb7⟩))
          go_ret
          exact ⟨ret_bool rfl, bthen hb1 (bthen hb2 (bthen hb3 (bthen hb4 hb7)))⟩
      · have g3 : (p2 == 0) = false := by simp [h1]
        have eq := HEX.out
        rw [g3] at eq
        simp only [beq_self_eq_true, Bool.true_and, Bool.false_and] at eq
        subst eq
        go_enter Tryd.func6, Tryd.ntmps6
        go_wp2_with (first | (go_at_call 18; (with_reducible refine r.out.mono ?_); rintro e w1 ⟨rfl, hb1⟩) | (go_at_call 8; (with_reducible refine (PUT.out _).mono ?_); rintro e w2 ⟨v, rfl, ho, hb2⟩; obtain ⟨A2, c2, rfl, hr, hlc, hcm⟩ := ho.rb) | (go_at_call 19; (with_reducible refine (EXA.out _ (bthen hb1 hb2)).mono ?_); rintro e w3 ⟨rfl, hb3⟩) | (go_at_call 11; (with_reducible refine (same_any _ _ _ _ _ _ _ _ _ ((ha.below (bthen hb1 (bthen hb2 hb3))).more (bthen hb1 (bthen hb2 hb3)).size) ((hr.below hb3).more hb3.size) (by omega) hpl).mono ?_); rintro e w4 ⟨rfl, hb4⟩; rw [HXY.out]) | (go_at_call 16; refine (alive_any _).mono ?_; rintro e w7 ⟨rfl, hb7⟩))
        go_ret
        exact ⟨ret_bool rfl, bthen hb1 (bthen hb2 (bthen hb3 hb7))⟩
    · have g3 : (g2 == 0) = false := by simp [h0]
      have eq := HEX.out
      rw [g3] at eq
      simp only [Bool.false_and] at eq
      subst eq
      go_enter Tryd.func6, Tryd.ntmps6
      go_wp2_with (first | (go_at_call 18; (with_reducible refine r.out.mono ?_); rintro e w1 ⟨rfl, hb1⟩) | (go_at_call 8; (with_reducible refine (PUT.out _).mono ?_); rintro e w2 ⟨v, rfl, ho, hb2⟩; obtain ⟨A2, c2, rfl, hr, hlc, hcm⟩ := ho.rb) | (go_at_call 19; (with_reducible refine (EXA.out _ (bthen hb1 hb2)).mono ?_); rintro e w3 ⟨rfl, hb3⟩) | (go_at_call 11; (with_reducible refine (same_any _ _ _ _ _ _ _ _ _ ((ha.below (bthen hb1 (bthen hb2 hb3))).more (bthen hb1 (bthen hb2 hb3)).size) ((hr.below hb3).more hb3.size) (by omega) hpl).mono ?_); rintro e w4 ⟨rfl, hb4⟩; rw [HXY.out]) | (go_at_call 16; refine (alive_any _).mono ?_; rintro e w7 ⟨rfl, hb7⟩))
      go_ret
      exact ⟨ret_bool rfl, bthen hb1 (bthen hb2 (bthen hb3 hb7))⟩
  · go_enter Tryd.func6, Tryd.ntmps6
    go_wp2_with (go_at_call 16; refine (alive_any _).mono ?_; rintro e w7 ⟨rfl, hb7⟩)
    go_ret
    exact ⟨ret_bool rfl, hb7⟩
theorem back_walk (n k : Int) (w : World) (h0 : -9223372036854775808 ≤ n) (h1 : n ≤ 9223372036854775807) :
    Calls Tryd.prog 5 #[.int .i64 n, .int .i64 k] w fun e w' => e = .returned (.bool true) ∧ Below w.heap.size w w' := by
  have put := put_any n k w h0 h1
  have hby := Nf.byt_putS n k
  have hbad := Nf.put_bad n k h0 h1
  have hgood := Nf.put_good n k h0 h1
  obtain ⟨p, hp⟩ : ∃ p, Nf.putS n k = p := ⟨_, rfl⟩
  rw [hp] at put hby hbad hgood
  obtain ⟨p1, p2⟩ := p
  simp only at put hby hbad hgood
  have PUT := Lib.hid put; have HP := Lib.hid hp
  clear put hp
  by_cases h : p2 = 0
  · subst h
    obtain ⟨hlen, hget⟩ := hgood rfl
    have hl := Lib.hid hlen
    have hex : Nf.exactS p1 = true := by unfold Nf.exactS; rw [hget, hlen, HP.out]; simp
    have HG := Lib.hid hget; have HEX := Lib.hid hex
    have hgb : ((p1.length : Int) == k) = true := by simp [hlen]
    clear hlen hget hex hbad hgood
    go_enter Tryd.func5, Tryd.ntmps5
    go_wp2_with fail
    refine PUT.out.mono ?_
    rintro e w1 ⟨v, rfl, ho, hb1⟩
    obtain ⟨A, c, rfl, hr, hlc, hcm⟩ := ho.rb
    have g := get_any A p1.length c p1 w1 hr hby hlc hcm
    rw [HG.out] at g
    have G := Lib.hid g; clear g
    have x := exact_any A p1.length c p1 w1 hr hby hlc hcm
    rw [HEX.out] at x
    have X := Lib.hid x; clear x
    go_wp2_with (first | (go_at_call 17; (with_reducible refine G.out.mono ?_); rintro e w' ⟨rfl, rfl⟩) | (go_at_call 19; (with_reducible refine X.out.mono ?_); rintro e w2 ⟨rfl, hb2⟩) | (go_at_call 16; refine (alive_any _).mono ?_; rintro e w7 ⟨rfl, hb7⟩))
    go_ret
    exact ⟨ret_bool rfl, bthen hb1 (bthen hb2 hb7)⟩
  · obtain ⟨hlen, hkk⟩ := hbad h
    subst hlen
    have g3 : (p2 != 0) = true := by simp [h]
    by_cases hk : k = 12
    · have hpp := hkk hk
      have g5 : (p2 != 10) = true := by simp [hpp]
      have g4 : (k != 12) = false := by simp [hk]
      have HK := Lib.hid hk
      clear hk hkk h hbad hgood hpp
      go_enter Tryd.func5, Tryd.ntmps5
      go_wp2_with (first | (go_at_call 7; (with_reducible refine PUT.out.mono ?_); rintro e w1 ⟨v, rfl, ho, hb1⟩; obtain ⟨A, c, rfl, hr, hlc, hcm⟩ := ho.rb) | (go_at_call 16; refine (alive_any _).mono ?_; rintro e w7 ⟨rfl, hb7⟩))
      go_ret
      exact ⟨ret_bool rfl, bthen hb1 hb7⟩
    · have g4 : (k != 12) = true := by simp [hk]
      clear hkk h hbad hgood
      go_enter Tryd.func5, Tryd.ntmps5
      go_wp2_with (first | (go_at_call 7; (with_reducible refine PUT.out.mono ?_); rintro e w1 ⟨v, rfl, ho, hb1⟩; obtain ⟨A, c, rfl, hr, hlc, hcm⟩ := ho.rb) | (go_at_call 16; refine (alive_any _).mono ?_; rintro e w7 ⟨rfl, hb7⟩))
      go_ret
      exact ⟨ret_bool rfl, bthen hb1 hb7⟩
end Go.Proofs.YtkifdeplcafpkaaDoor
