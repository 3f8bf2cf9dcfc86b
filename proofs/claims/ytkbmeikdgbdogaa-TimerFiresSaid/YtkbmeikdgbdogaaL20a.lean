/- THE LAWS OF LAYER 20: alive; TimerTicks. -/
import Derived.Test.YtkbmeikdgbdogaaQ20d
import Derived.Deep.RegionHeld3
namespace Go.Proofs.Ytkbmeikdgbdogaa
open Go Go.RowKit
set_option maxHeartbeats 2000000
set_option maxRecDepth 100000
set_option linter.unusedVariables false
theorem bthen20 {B : Nat} {a b c : World} (h : Below B a b) (k : Below b.heap.size b c) (hB : B ≤ a.heap.size := by exact Nat.le_refl _) : Below B a c := h.trans (k.mono (Nat.le_trans hB h.size))
theorem alive20_any (w : World) :
    Calls Try.prog 11 #[] w fun e w' => e = .returned (.bool true) ∧ Below w.heap.size w w' := by
  have ST := Lib.hid (fun W => start_any 1 W)
  rw [show Tm.start 1 = (Tm.wh 1, 0) from rfl] at ST
  have TK := Lib.hid (fun W => tick_any ⟨true, 1, 1⟩ W (by simp [Tm.Fit]))
  rw [show Tm.tick ⟨true, 1, 1⟩ = (⟨true, 2, 2⟩, true) by rfl] at TK
  have LG := Lib.hid (fun W => longest_any 5 W)
  rw [show Tm.lng (Tm.cnt 5) = 31 by rfl] at LG
  have AG := Lib.hid (fun W => again_any ⟨true, 2, 2⟩ W)
  rw [show Tm.again ⟨true, 2, 2⟩ = ⟨true, 1, 1⟩ by rfl] at AG
  have SP := Lib.hid (fun W => stop_any ⟨true, 2, 2⟩ W)
  simp only [Tm.wh, Tm.nul] at ST SP
  go_enter Try.func11, Try.ntmps11
  go_upto_region 3 with (first
    | (go_at_call 7; (with_reducible refine (TK.out _).mono ?_); rintro e w2 ⟨rfl, hb2⟩)
    | (go_at_call 12; (with_reducible refine (ST.out _).mono ?_); rintro e w1 ⟨rfl, hb1⟩; have H1 := Lib.hid (hb1.alloc hb1.size (.cells #[.bool true, .int .i64 1, .int .i64 1] 24)); have B1 := Lib.hid (BX.new w1 24 #[.bool true, .int .i64 1, .int .i64 1]); obtain ⟨p0, p1, p2, _⟩ := B1.out.three))
  have H2 := Lib.hid ((bthen20 H1.out hb2).alloc (Nat.le_trans hb1.size (Nat.le_trans (by simp) hb2.size)) (.cells #[.bool true, .int .i64 2, .int .i64 2] 24))
  have B2 := Lib.hid (BX.new w2 24 #[.bool true, .int .i64 2, .int .i64 2])
  have B1' := Lib.hid ((B1.out.later hb2).alloc (.cells #[.bool true, .int .i64 2, .int .i64 2] 24))
  obtain ⟨p, hp⟩ : ∃ p, w1.heap.size = p := ⟨_, rfl⟩
  obtain ⟨q, hq⟩ : ∃ q, w2.heap.size = q := ⟨_, rfl⟩
  rw [hp] at B1'
  rw [hq] at B2
  simp only [hp, hq]
  obtain ⟨V, hV⟩ : ∃ V, w2.alloc (.cells #[.bool true, .int .i64 2, .int .i64 2] 24) = V := ⟨_, rfl⟩
  rw [hV] at B1' B2 H2 ⊢
  clear hV hp hq hb1 hb2 B1 H1 p0 p1 p2 ST TK
  have FC := Lib.hid (fun W (h : Below V.heap.size V W) => show W.cell? ⟨p, 0, none⟩ = some (.bool true) ∧ W.cell? ⟨p, 1, none⟩ = some (.int .i64 1) ∧ W.cell? ⟨p, 2, none⟩ = some (.int .i64 1) ∧ W.cell? ⟨q, 0, none⟩ = some (.bool true) ∧ W.cell? ⟨q, 1, none⟩ = some (.int .i64 2) ∧ W.cell? ⟨q, 2, none⟩ = some (.int .i64 2) from ⟨(B1'.out.later h).cell rfl, (B1'.out.later h).cell rfl, (B1'.out.later h).cell rfl, (B2.out.later h).cell rfl, (B2.out.later h).cell rfl, (B2.out.later h).cell rfl⟩)
  have hacc : Below V.heap.size V V.drew := (Below.refl _ _).drew
  obtain ⟨y0, y1, y2, y3, y4, y5⟩ := FC.out _ hacc
  go_region_held3 (fun W => W.cell? ⟨p, 0, none⟩ = some (.bool true) ∧ W.cell? ⟨p, 1, none⟩ = some (.int .i64 1) ∧ W.cell? ⟨p, 2, none⟩ = some (.int .i64 1) ∧ W.cell? ⟨q, 0, none⟩ = some (.bool true) ∧ W.cell? ⟨q, 1, none⟩ = some (.int .i64 2) ∧ W.cell? ⟨q, 2, none⟩ = some (.int .i64 2)) (first | (with_reducible exact FC.out _ hacc) | go_keep) (first
    | (go_at_call 17; (with_reducible refine (SP.out _).mono ?_); rintro e w5 ⟨rfl, hb⟩; replace hacc := bthen20 hacc hb; clear hb)
    | (go_at_call 16; (with_reducible refine (AG.out _).mono ?_); rintro e w5 ⟨rfl, hb⟩; replace hacc := bthen20 hacc hb; clear hb)
    | (go_at_call 18; (with_reducible refine (LG.out _).mono ?_); rintro e w5 ⟨rfl, rfl⟩))
  all_goals (
    go_wp2
    go_ret
    exact ⟨rfl, bthen20 H2.out hacc⟩)
theorem timerTicks_walk (t : Tm.T) (n : Int) (w : World) (hf : Tm.Fit t) :
    Calls Try.prog 3 #[Tm.TV t, .int .i64 n] w fun e w' => e = .returned (.bool true) ∧ Below w.heap.size w w' := by
  have AL := Lib.hid alive20_any
  have K1 := Lib.hid (fun W => tick_any t W hf)
  have K2 := Lib.hid (fun W => reftick_any t W hf)
  have K3 := Lib.hid (fun W => ticks_any t n W hf)
  have K4 := Lib.hid (fun W => refticks_any t n W hf)
  generalize Tm.tk t (Tm.cnt n) = S at *
  generalize Tm.tick t = R at *
  obtain ⟨⟨xo, xw, xl⟩, xf⟩ := R
  obtain ⟨⟨zo, zw, zl⟩, zf⟩ := S
  obtain ⟨o, a, l⟩ := t
  clear hf
  simp only at K1 K2 K3 K4
  have B0 := Lib.hid (BX.new w 23 #[.bool o, .int .i64 a, .int .i64 l])
  have H0 := Lib.hid ((Below.refl _ w).alloc (Nat.le_refl _) (.cells #[.bool o, .int .i64 a, .int .i64 l] 23))
  obtain ⟨p0, p1, p2, _⟩ := B0.out.three
  go_enter Try.func3, Try.ntmps3
  go_upto_region 5 with (first
    | (go_at_call 10; (with_reducible refine (K4.out _).mono ?_); rintro e w4 ⟨rfl, hb⟩; clear p0 p1 p2; have G3 := Lib.hid ((G2.out.later hb).alloc (.cells #[.bool zo, .int .i64 zw, .int .i64 zl] 23)); have F3 := Lib.hid ((F2.out.later hb).alloc (.cells #[.bool zo, .int .i64 zw, .int .i64 zl] 23)); have E3 := Lib.hid ((E2.out.later hb).alloc (.cells #[.bool zo, .int .i64 zw, .int .i64 zl] 23)); have D3 := Lib.hid (BX.new w4 23 #[.bool zo, .int .i64 zw, .int .i64 zl]); have H4 := Lib.hid ((bthen20 H3.out hb).alloc (Nat.le_trans H3.out.size hb.size) (.cells #[.bool zo, .int .i64 zw, .int .i64 zl] 23)); clear H3 hb)
    | (go_at_call 9; (with_reducible refine (K3.out _).mono ?_); rintro e w3 ⟨rfl, hb⟩; have B3 := Lib.hid ((B2.out.later hb).alloc (.cells #[.bool zo, .int .i64 zw, .int .i64 zl] 24)); have G2 := Lib.hid ((G1.out.later hb).alloc (.cells #[.bool zo, .int .i64 zw, .int .i64 zl] 24)); have F2 := Lib.hid ((F1.out.later hb).alloc (.cells #[.bool zo, .int .i64 zw, .int .i64 zl] 24)); have E2 := Lib.hid (BX.new w3 24 #[.bool zo, .int .i64 zw, .int .i64 zl]); have H3 := Lib.hid ((bthen20 H2.out hb).alloc (Nat.le_trans H2.out.size hb.size) (.cells #[.bool zo, .int .i64 zw, .int .i64 zl] 24)); clear B2 H2 p0 p1 p2 hb; obtain ⟨p0, p1, p2, _⟩ := B3.out.three)
    | (go_at_call 8; (with_reducible refine (K2.out _).mono ?_); rintro e w2 ⟨rfl, hb⟩; have B2 := Lib.hid ((B1.out.later hb).alloc (.cells #[.bool xo, .int .i64 xw, .int .i64 xl] 23)); have G1 := Lib.hid ((G0.out.later hb).alloc (.cells #[.bool xo, .int .i64 xw, .int .i64 xl] 23)); have F1 := Lib.hid (BX.new w2 23 #[.bool xo, .int .i64 xw, .int .i64 xl]); have H2 := Lib.hid ((bthen20 H1.out hb).alloc (Nat.le_trans H1.out.size hb.size) (.cells #[.bool xo, .int .i64 xw, .int .i64 xl] 23)); clear B1 H1 p0 p1 p2 hb; obtain ⟨p0, p1, p2, _⟩ := B2.out.three)
    | (go_at_call 7; (with_reducible refine (K1.out _).mono ?_); rintro e w1 ⟨rfl, hb⟩; have B1 := Lib.hid ((B0.out.later hb).alloc (.cells #[.bool xo, .int .i64 xw, .int .i64 xl] 24)); have G0 := Lib.hid (BX.new w1 24 #[.bool xo, .int .i64 xw, .int .i64 xl]); have H1 := Lib.hid ((bthen20 H0.out hb).alloc (Nat.le_trans H0.out.size hb.size) (.cells #[.bool xo, .int .i64 xw, .int .i64 xl] 24)); clear B0 H0 p0 p1 p2 hb; obtain ⟨p0, p1, p2, _⟩ := B1.out.three))
  obtain ⟨g, hg⟩ : ∃ g, w1.heap.size = g := ⟨_, rfl⟩
  obtain ⟨f, hf⟩ : ∃ f, w2.heap.size = f := ⟨_, rfl⟩
  obtain ⟨c, hc⟩ : ∃ c, w3.heap.size = c := ⟨_, rfl⟩
  obtain ⟨d, hd⟩ : ∃ d, w4.heap.size = d := ⟨_, rfl⟩
  rw [hg] at G3
  rw [hf] at F3
  rw [hc] at E3
  rw [hd] at D3
  simp only [hg, hf, hc, hd]
  obtain ⟨V, hV⟩ : ∃ V, w4.alloc (.cells #[.bool zo, .int .i64 zw, .int .i64 zl] 23) = V := ⟨_, rfl⟩
  rw [hV] at G3 F3 E3 D3 H4 ⊢
  clear hV hg hf hc hd K1 K2 K3 K4
  obtain ⟨a0, a1, a2, _⟩ := G3.out.three
  obtain ⟨b0, b1, b2, _⟩ := F3.out.three
  obtain ⟨c0, c1, c2, _⟩ := E3.out.three
  obtain ⟨d0, d1, d2, _⟩ := D3.out.three
  have HF : Hid ((xf == xf) = true) := by show _ = _; simp
  go_wp2_with (go_at_call 11; (with_reducible refine (AL.out _).mono ?_); rintro e w5 ⟨rfl, hb⟩; have H5 := Lib.hid (bthen20 H4.out hb); clear hb)
  all_goals (
    go_ret
    exact ⟨rfl, H5.out⟩)
end Go.Proofs.Ytkbmeikdgbdogaa
