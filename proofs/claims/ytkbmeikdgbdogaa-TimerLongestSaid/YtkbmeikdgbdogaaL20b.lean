/- THE LAWS OF LAYER 20: TimerStarts, TimerLongest. -/
import Derived.Test.YtkbmeikdgbdogaaL20a
namespace Go.Proofs.Ytkbmeikdgbdogaa
open Go Go.RowKit
set_option maxHeartbeats 4000000
set_option maxRecDepth 100000
set_option linter.unusedVariables false
theorem timerStarts_walk (wt : Int) (t : Tm.T) (n : Int) (w : World) (hf : Tm.Fit t) :
    Calls Try.prog 4 #[.int .i64 wt, Tm.TV t, .int .i64 n] w fun e w' => e = .returned (.bool true) ∧ Below w.heap.size w w' := by
  have AL := Lib.hid alive20_any
  have K1 := Lib.hid (fun W => start_any wt W)
  have K2 := Lib.hid (fun W => refstart_any wt W)
  have K3 := Lib.hid (fun W => may20_any t W)
  have K4 := Lib.hid (fun W => refmay20_any t W)
  have K5 := Lib.hid (fun W => again_any t W)
  have K6 := Lib.hid (fun W => stop_any t W)
  have K7 := Lib.hid (fun W => longest_any n W)
  have K8 := Lib.hid (fun W => reflongest_any n W)
  have HA : Hid (Tm.again t = if t.on = true then ⟨true, 1, 1⟩ else t) := rfl
  simp only [Tm.nul] at K6
  generalize Tm.again t = G at *
  generalize Tm.lng (Tm.cnt n) = N at *
  generalize Tm.ok t = M at *
  generalize Tm.start wt = R at *
  obtain ⟨⟨xo, xw, xl⟩, xf⟩ := R
  obtain ⟨o, a, l⟩ := t
  clear hf
  simp only at K1 K2 K3 K4 HA
  have B0 := Lib.hid (BX.new w 23 #[.bool o, .int .i64 a, .int .i64 l])
  have H0 := Lib.hid ((Below.refl _ w).alloc (Nat.le_refl _) (.cells #[.bool o, .int .i64 a, .int .i64 l] 23))
  go_enter Try.func4, Try.ntmps4
  go_upto_region 3 with (first
    | (go_at_call 13; (with_reducible refine (K2.out _).mono ?_); rintro e w2 ⟨rfl, hb⟩; have B2 := Lib.hid ((B1.out.later hb).alloc (.cells #[.bool xo, .int .i64 xw, .int .i64 xl] 23)); have G1 := Lib.hid ((G0.out.later hb).alloc (.cells #[.bool xo, .int .i64 xw, .int .i64 xl] 23)); have F1 := Lib.hid (BX.new w2 23 #[.bool xo, .int .i64 xw, .int .i64 xl]); have H2 := Lib.hid ((bthen20 H1.out hb).alloc (Nat.le_trans H1.out.size hb.size) (.cells #[.bool xo, .int .i64 xw, .int .i64 xl] 23)); clear B1 H1 hb)
    | (go_at_call 12; (with_reducible refine (K1.out _).mono ?_); rintro e w1 ⟨rfl, hb⟩; have B1 := Lib.hid ((B0.out.later hb).alloc (.cells #[.bool xo, .int .i64 xw, .int .i64 xl] 24)); have G0 := Lib.hid (BX.new w1 24 #[.bool xo, .int .i64 xw, .int .i64 xl]); have H1 := Lib.hid ((bthen20 H0.out hb).alloc (Nat.le_trans H0.out.size hb.size) (.cells #[.bool xo, .int .i64 xw, .int .i64 xl] 24)); clear B0 H0 hb))
  obtain ⟨g, hg⟩ : ∃ g, w1.heap.size = g := ⟨_, rfl⟩
  obtain ⟨f, hf⟩ : ∃ f, w2.heap.size = f := ⟨_, rfl⟩
  rw [hg] at G1
  rw [hf] at F1
  simp only [hg, hf]
  obtain ⟨V, hV⟩ : ∃ V, w2.alloc (.cells #[.bool xo, .int .i64 xw, .int .i64 xl] 23) = V := ⟨_, rfl⟩
  rw [hV] at G1 F1 B2 H2 ⊢
  clear hV hg hf K1 K2
  have B3 := Lib.hid (B2.out.alloc (.cells #[.bool o, .int .i64 a, .int .i64 l] 23))
  have G3 := Lib.hid (G1.out.alloc (.cells #[.bool o, .int .i64 a, .int .i64 l] 23))
  have F3 := Lib.hid (F1.out.alloc (.cells #[.bool o, .int .i64 a, .int .i64 l] 23))
  have A3 := Lib.hid (BX.new V 23 #[.bool o, .int .i64 a, .int .i64 l])
  have H3 := Lib.hid (H2.out.alloc H2.out.size (.cells #[.bool o, .int .i64 a, .int .i64 l] 23))
  have hne1 : g ≠ V.heap.size := Nat.ne_of_lt G1.out.lt
  have hne2 : f ≠ V.heap.size := Nat.ne_of_lt F1.out.lt
  have hne3 : w.heap.size ≠ V.heap.size := Nat.ne_of_lt B2.out.lt
  obtain ⟨p0, p1, p2, _⟩ := B2.out.three
  go_upto_region 4 with (fail)
  clear p0 p1 p2
  obtain ⟨p0, p1, p2, _⟩ := B3.out.three
  obtain ⟨q0, q1, q2, f0, f1, f2⟩ := A3.out.three
  have E := A3.out
  have D := H3.out
  have hge : w.heap.size ≤ V.heap.size := H2.out.size
  generalize hi : V.heap.size = i at *
  generalize hV : V.alloc (.cells #[.bool o, .int .i64 a, .int .i64 l] 23) = U at *
  clear hV hi E D B2 G1 F1 H2 G0
  go_upto_if 24 with (fail)
  go_cut [25, 26] (fun u v W => Hid (BX W i 23 #[.bool G.on, .int .i64 G.w, .int .i64 G.l] ∧ BX W w.heap.size 23 #[.bool o, .int .i64 a, .int .i64 l] ∧ BX W g 24 #[.bool xo, .int .i64 xw, .int .i64 xl] ∧ BX W f 23 #[.bool xo, .int .i64 xw, .int .i64 xl]) ∧ Hid (Below w.heap.size w W))
  case first =>
    clear AL K3 K4 K5 K6 K7 K8
    cases o with
    | true =>
      obtain rfl : G = ⟨true, 1, 1⟩ := by rw [HA.out]; rfl
      go_wp2
      go_meet
      have h3 := (A3.out.set 1 (.int .i64 1)).set 2 (.int .i64 1)
      exact ⟨⟨by simpa using h3, (B3.out.other hne3 _).other hne3 _, (G3.out.other hne1 _).other hne1 _, (F3.out.other hne2 _).other hne2 _⟩, (H3.out.setCell hge _).setCell hge _⟩
    | false =>
      obtain rfl : G = ⟨false, a, l⟩ := by rw [HA.out]; rfl
      go_wp2
      go_meet
      exact ⟨⟨A3.out, B3.out, G3.out, F3.out⟩, H3.out⟩
  case rest =>
    obtain ⟨HX, HW⟩ := hcut
    obtain ⟨go, gw, gl⟩ := G
    clear HA H3 G3 F3 B3 A3 p0 p1 p2 q0 q1 q2 f0 f1 f2
    obtain ⟨b, hb0⟩ : ∃ b, w.heap.size = b := ⟨_, rfl⟩
    rw [hb0] at HX
    simp only [hb0]
    clear hb0 hne1 hne2 hne3 hge
    have FC := Lib.hid (fun W (h : Below wc.heap.size wc W) => show W.cell? ⟨i, 0, none⟩ = some (.bool go) ∧ W.cell? ⟨i, 1, none⟩ = some (.int .i64 gw) ∧ W.cell? ⟨i, 2, none⟩ = some (.int .i64 gl) ∧ W.cell? ⟨b, 0, none⟩ = some (.bool o) ∧ W.cell? ⟨b, 1, none⟩ = some (.int .i64 a) ∧ W.cell? ⟨b, 2, none⟩ = some (.int .i64 l) ∧ W.cell? ⟨g, 0, none⟩ = some (.bool xo) ∧ W.cell? ⟨g, 1, none⟩ = some (.int .i64 xw) ∧ W.cell? ⟨g, 2, none⟩ = some (.int .i64 xl) ∧ W.cell? ⟨f, 0, none⟩ = some (.bool xo) ∧ W.cell? ⟨f, 1, none⟩ = some (.int .i64 xw) ∧ W.cell? ⟨f, 2, none⟩ = some (.int .i64 xl) from ⟨(HX.out.1.later h).cell rfl, (HX.out.1.later h).cell rfl, (HX.out.1.later h).cell rfl, (HX.out.2.1.later h).cell rfl, (HX.out.2.1.later h).cell rfl, (HX.out.2.1.later h).cell rfl, (HX.out.2.2.1.later h).cell rfl, (HX.out.2.2.1.later h).cell rfl, (HX.out.2.2.1.later h).cell rfl, (HX.out.2.2.2.later h).cell rfl, (HX.out.2.2.2.later h).cell rfl, (HX.out.2.2.2.later h).cell rfl⟩)
    have hacc : Below wc.heap.size wc wc.drew := (Below.refl _ _).drew
    have HM : Hid ((M == M) = true) := by show _ = _; simp
    have HN : Hid ((N == N) = true) := by show _ = _; simp
    go_upto_region 6 with (fail)
    obtain ⟨y0, y1, y2, y3, y4, y5, y6, y7, y8, y9, y10, y11⟩ := FC.out _ hacc
    go_region_held3 (fun W => W.cell? ⟨i, 0, none⟩ = some (.bool go) ∧ W.cell? ⟨i, 1, none⟩ = some (.int .i64 gw) ∧ W.cell? ⟨i, 2, none⟩ = some (.int .i64 gl) ∧ W.cell? ⟨b, 0, none⟩ = some (.bool o) ∧ W.cell? ⟨b, 1, none⟩ = some (.int .i64 a) ∧ W.cell? ⟨b, 2, none⟩ = some (.int .i64 l) ∧ W.cell? ⟨g, 0, none⟩ = some (.bool xo) ∧ W.cell? ⟨g, 1, none⟩ = some (.int .i64 xw) ∧ W.cell? ⟨g, 2, none⟩ = some (.int .i64 xl) ∧ W.cell? ⟨f, 0, none⟩ = some (.bool xo) ∧ W.cell? ⟨f, 1, none⟩ = some (.int .i64 xw) ∧ W.cell? ⟨f, 2, none⟩ = some (.int .i64 xl)) (first | (with_reducible exact FC.out _ hacc) | go_keep) (first
      | (go_at_call 11; (with_reducible refine (AL.out _).mono ?_); rintro e w5 ⟨rfl, hb⟩; replace hacc := bthen20 hacc hb; clear hb)
      | (go_at_call 19; (with_reducible refine (K8.out _).mono ?_); rintro e w5 ⟨rfl, hb⟩; replace hacc := bthen20 hacc hb; clear hb)
      | (go_at_call 18; (with_reducible refine (K7.out _).mono ?_); rintro e w5 ⟨rfl, rfl⟩)
      | (go_at_call 17; (with_reducible refine (K6.out _).mono ?_); rintro e w5 ⟨rfl, hb⟩; replace hacc := bthen20 hacc hb; clear hb)
      | (go_at_call 16; (with_reducible refine (K5.out _).mono ?_); rintro e w5 ⟨rfl, hb⟩; replace hacc := bthen20 hacc hb; clear hb)
      | (go_at_call 15; (with_reducible refine (K4.out _).mono ?_); rintro e w5 ⟨rfl, hb⟩; replace hacc := bthen20 hacc hb; clear hb)
      | (go_at_call 14; (with_reducible refine (K3.out _).mono ?_); rintro e w5 ⟨rfl, hb⟩; replace hacc := bthen20 hacc hb; clear hb))
    all_goals (
      go_wp2
      go_ret
      exact ⟨rfl, bthen20 HW.out hacc⟩)
theorem Tm.fires (n : Nat) : (Tm.tk (Tm.wh 1) (Tm.lng n).toNat).2 = n := by
  have hb := Tm.ws_bd n
  obtain ⟨m, hm, h⟩ := Tm.tk_at n 0 (by omega)
  rw [show (Tm.lng n).toNat = m by omega, h]
theorem Tm.fires' (n : Nat) : (Tm.tk (Tm.wh 1) (Tm.lng n - 1).toNat).2 = n - 1 := by
  cases n with
  | zero => simp [Tm.lng, Tm.tk]
  | succ n =>
    have hb := Tm.ws_bd n
    obtain ⟨m, hm, h⟩ := Tm.tk_at n (Tm.ws n - 1).toNat (by omega)
    rw [show (Tm.lng (n + 1) - 1).toNat = m by simp only [Tm.lng]; omega, h]
    simp
theorem timerLongest_walk (n : Int) (w : World) (h0 : 0 ≤ n) (h1 : n ≤ 255) :
    Calls Try.prog 6 #[.int .u8 n] w fun e w' => e = .returned (.bool true) ∧ Below w.heap.size w w' := by
  obtain ⟨m, rfl⟩ : ∃ m : Nat, n = (m : Int) := ⟨n.toNat, by omega⟩
  have AL := Lib.hid alive20_any
  have ST := Lib.hid (fun W => start_any 1 W)
  rw [show Tm.start 1 = (Tm.wh 1, 0) from rfl] at ST
  have hlb := Tm.lng_bd m
  have LG := Lib.hid (fun W => longest_any m W)
  rw [show Tm.cnt m = m by unfold Tm.cnt; split; omega; rw [if_pos (by omega)]; omega] at LG
  have K1 := Lib.hid (fun W => ticks_any (Tm.wh 1) (Tm.lng m) W (by simp [Tm.Fit, Tm.wh]))
  have K2 := Lib.hid (fun W => ticks_any (Tm.wh 1) (Tm.lng m - 1) W (by simp [Tm.Fit, Tm.wh]))
  have hc : ∀ x : Int, -1 ≤ x → x ≤ 10000 → Tm.cnt x = x.toNat := fun x h h' => by unfold Tm.cnt; split; omega; first | rfl | rw [if_pos h']
  have e1 := Tm.fires m
  have e2 := Tm.fires' m
  rw [hc _ (by omega) (by omega)] at K1 K2
  generalize Tm.tk (Tm.wh 1) (Tm.lng m).toNat = R at *
  generalize Tm.tk (Tm.wh 1) (Tm.lng m - 1).toNat = S at *
  obtain ⟨⟨xo, xw, xl⟩, xf⟩ := R
  obtain ⟨⟨zo, zw, zl⟩, zf⟩ := S
  simp only at e1 e2
  subst e1 e2
  clear hc
  simp only [Tm.wh] at ST K1 K2
  generalize Tm.lng xf = t at *
  have hz : (max ((xf : Int) - 1) 0) = ((xf - 1 : Nat) : Int) := by omega
  go_enter Try.func6, Try.ntmps6
  go_upto_region 5 with (first
    | (go_at_call 9; (with_reducible refine (K2.out _).mono ?_); rintro e w3 ⟨rfl, hb⟩; have H3 := Lib.hid ((bthen20 H2.out hb).alloc (Nat.le_trans H2.out.size hb.size) (.cells #[.bool zo, .int .i64 zw, .int .i64 zl] 24)); clear B2 H2 p0 p1 p2 hb)
    | (go_at_call 9; (with_reducible refine (K1.out _).mono ?_); rintro e w2 ⟨rfl, hb⟩; have B2 := Lib.hid ((B1.out.later hb).alloc (.cells #[.bool xo, .int .i64 xw, .int .i64 xl] 24)); have H2 := Lib.hid ((bthen20 H1.out hb).alloc (Nat.le_trans H1.out.size hb.size) (.cells #[.bool xo, .int .i64 xw, .int .i64 xl] 24)); clear B1 H1 p0 p1 p2 hb; obtain ⟨p0, p1, p2, _⟩ := B2.out.three)
    | (go_at_call 18; (with_reducible refine (LG.out _).mono ?_); rintro e w2 ⟨rfl, rfl⟩)
    | (go_at_call 12; (with_reducible refine (ST.out _).mono ?_); rintro e w1 ⟨rfl, hb⟩; have B1 := Lib.hid (BX.new w1 24 #[.bool true, .int .i64 1, .int .i64 1]); have H1 := Lib.hid (hb.alloc hb.size (.cells #[.bool true, .int .i64 1, .int .i64 1] 24)); clear hb; obtain ⟨p0, p1, p2, _⟩ := B1.out.three))
  have AL' := Lib.hid (fun W => (AL.out W).mono fun e W' h => (show e = .returned (.bool true) ∧ Below W.heap.size W W' from h))
  clear AL K1 K2 LG ST hz hlb
  rcases Nat.eq_zero_or_pos xf with rfl | hpos
  · go_wp2_with (go_at_call 11; (with_reducible refine (AL'.out _).mono ?_); rintro e w5 ⟨rfl, hb⟩; have H5 := Lib.hid (bthen20 H3.out hb); clear hb)
    all_goals (
      go_ret
      exact ⟨rfl, H5.out⟩)
  · obtain ⟨k, rfl⟩ : ∃ k, xf = k + 1 := ⟨xf - 1, by omega⟩
    simp only [Nat.add_sub_cancel]
    have e1 : (((k + 1 : Nat) : Int) - 1) = k := by omega
    have e2 : ¬ ((k : Int) < 0) := by omega
    obtain ⟨c, hc⟩ : ∃ c : Int, ((k + 1 : Nat) : Int) = c := ⟨_, rfl⟩
    rw [hc] at e1 h0 h1
    simp only [hc]
    go_wp2_with (go_at_call 11; (with_reducible refine (AL'.out _).mono ?_); rintro e w5 ⟨rfl, hb⟩; have H5 := Lib.hid (bthen20 H3.out hb); clear hb)
    all_goals (
      go_ret
      exact ⟨rfl, H5.out⟩)
end Go.Proofs.Ytkbmeikdgbdogaa
