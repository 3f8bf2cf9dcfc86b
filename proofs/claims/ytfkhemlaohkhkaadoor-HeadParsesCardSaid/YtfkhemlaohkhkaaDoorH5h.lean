/- WALKS OF LAYER 5, EIGHTH PART: alive. -/
import Derived.Test.YtfkhemlaohkhkaaDoorH5c
import Derived.Test.YtfkhemlaohkhkaaDoorH5e
import Derived.Test.YtfkhemlaohkhkaaDoorM5e
namespace Go.Proofs.YtfkhemlaohkhkaaDoor
open Go.RowKit
set_option maxHeartbeats 1600000
set_option maxRecDepth 100000
theorem alive5_any (w : World) : Calls Tryd.prog 7 #[] w fun e w' => e = .returned (.bool true) ∧ Below w.heap.size w w' := by
  have z0 : (Hh.layC ⟨#[]⟩ ⟨#[97]⟩ ⟨#[]⟩ 7 0 0 0 0 53).2 = 0 := by decide +kernel
  obtain ⟨k0, k1, k2, k3, k4⟩ := Hh.back ⟨#[]⟩ ⟨#[97]⟩ ⟨#[]⟩ 7 0 0 0 0 53 (by omega) (by omega) (by omega) (by omega) (by omega) (by omega) (by omega) (by omega) (by omega) (by omega) z0
  have lay := fun W => hlay_any ⟨#[]⟩ ⟨#[97]⟩ ⟨#[]⟩ 7 0 0 0 0 53 W (by decide) (by decide) (by decide) (by omega) (by omega) (by omega) (by omega) (by omega) (by omega) (by omega) (by omega) (by omega) (by omega) (by omega) (by omega)
  have may := fun W => hmay_any ⟨#[]⟩ ⟨#[97]⟩ ⟨#[]⟩ 7 0 0 0 0 53 W (by decide) (by decide) (by decide) (by omega) (by omega) (by omega) (by omega) (by omega) (by omega) (by omega) (by omega) (by omega) (by omega) (by omega) (by omega)
  obtain ⟨⟨Y, Y2⟩, hY⟩ : ∃ P, Hh.layC ⟨#[]⟩ ⟨#[97]⟩ ⟨#[]⟩ 7 0 0 0 0 53 = P := ⟨_, rfl⟩
  rw [hY] at z0 k0 k1 k2 k3 k4 lay may
  simp only at z0 k0 k1 k2 k3 k4 lay may
  subst z0
  have par := fun (A : Option Addr) (c : Nat) (W : World) (hr : RB W W.heap.size A 512 Y) (h1 : 512 ≤ c) (h2 : c ≤ maxLen) => hparse_any A 512 c Y W hr k3 h1 h2
  rw [k0, k1] at par
  unfold Hh.hdr at par
  have sam := fun W => hsame_any ⟨#[]⟩ ⟨#[97]⟩ ⟨#[]⟩ 7 0 0 0 0 53 ⟨#[]⟩ ⟨#[97]⟩ ⟨#[]⟩ 7 0 0 0 0 53 W
  rw [show Hh.same ⟨#[]⟩ ⟨#[97]⟩ ⟨#[]⟩ 7 0 0 0 0 53 ⟨#[]⟩ ⟨#[97]⟩ ⟨#[]⟩ 7 0 0 0 0 53 = true from by decide +kernel] at sam
  have pat := fun W => hpath_any ⟨#[112]⟩ ⟨#[97]⟩ ⟨#[]⟩ 0 0 0 0 0 0 W (by decide) (by decide)
  rw [show (if (⟨#[112]⟩ : ByteArray).size = 0 then (⟨#[97]⟩ : ByteArray) else ⟨#[112]⟩ ++ ⟨#[47]⟩ ++ ⟨#[97]⟩) = ⟨#[112, 47, 97]⟩ from by decide +kernel] at pat
  have ist := fun W => hist_any 120 W
  rw [show Hh.isT 120 = true from by decide] at ist
  have mk : ∀ w1 v, OB w1 w.heap.size 5 v Y → True := fun _ _ _ => trivial
  have opn : ∀ (w1 : World) (B : Nat) (v : Value), OB w1 B 5 v Y → ∃ g c, v = .slice (some ⟨g, 0, none⟩) 512 c ∧ RB w1 w1.heap.size (some ⟨g, 0, none⟩) 512 Y ∧ 512 ≤ c ∧ c ≤ maxLen := fun w1 B v h => by
    have h1 := h.obn
    rw [k2] at h1
    obtain ⟨g, c, cur, rfl, _, _, _, hc, hcm, _, _⟩ := h1.shape (by omega)
    obtain ⟨A', c', he, hr, _, _⟩ := h.rb
    rw [k2] at he hr
    cases he
    exact ⟨g, c, rfl, hr, hc, hcm⟩
  have LAY := Lib.hid lay; have MAY := Lib.hid may; have PAR := Lib.hid par; have SAM := Lib.hid sam; have PAT := Lib.hid pat; have IST := Lib.hid ist; have OPN := Lib.hid opn; have K4 := Lib.hid k4
  clear lay may par sam pat ist opn k0 k1 k2 k3 k4 hY mk
  have box : ∀ W, Below (w.heap.size + 1) (w.alloc (.cells #[.string ⟨#[]⟩, .string ⟨#[97]⟩, .int .i64 7, .int .i64 0, .int .i64 0, .int .i64 0, .int .i64 0, .int .u8 53, .string ⟨#[]⟩] 34)) W →
      BX W w.heap.size 34 #[.string ⟨#[]⟩, .string ⟨#[97]⟩, .int .i64 7, .int .i64 0, .int .i64 0, .int .i64 0, .int .i64 0, .int .u8 53, .string ⟨#[]⟩] := fun W hb => (BX.new w _ _).below hb (by omega)
  have BOX := Lib.hid box; clear box
  go_enter Tryd.func7, Tryd.ntmps7
  go_wp2_with (first
    | (go_at_call 8; (with_reducible refine (LAY.out _).mono ?_); rintro e w1 ⟨v1, rfl, ho1, hb1⟩; obtain ⟨g1, c1, rfl, hr1, hc1, hcm1⟩ := OPN.out _ _ _ ho1; have B1 := Lib.hid (show Below (w.heap.size + 1) _ w1 from hb1.mono (by simp)); clear ho1 hb1)
    | (go_at_call 16; (with_reducible refine (PAR.out _ _ _ hr1 hc1 hcm1).mono ?_); rintro e w2 ⟨rfl, hb2⟩; have z1 := B1.out.size; simp at z1; have b2 := B1.out.trans (hb2.mono (by omega)); have z2 := b2.size; simp at z2; have x2 := (BOX.out _ b2).alloc (.cells #[.string ⟨#[]⟩, .string ⟨#[97]⟩, .int .i64 7, .int .i64 0, .int .i64 0, .int .i64 0, .int .i64 0, .int .u8 53, .string ⟨#[]⟩] 34); have p0 : (w2.alloc (.cells #[.string ⟨#[]⟩, .string ⟨#[97]⟩, .int .i64 7, .int .i64 0, .int .i64 0, .int .i64 0, .int .i64 0, .int .u8 53, .string ⟨#[]⟩] 34)).cell? ⟨w.heap.size, 0, none⟩ = some (.string ⟨#[]⟩) := x2.cell rfl; have p1 : (w2.alloc (.cells #[.string ⟨#[]⟩, .string ⟨#[97]⟩, .int .i64 7, .int .i64 0, .int .i64 0, .int .i64 0, .int .i64 0, .int .u8 53, .string ⟨#[]⟩] 34)).cell? ⟨w.heap.size, 1, none⟩ = some (.string ⟨#[97]⟩) := x2.cell rfl; have p2 : (w2.alloc (.cells #[.string ⟨#[]⟩, .string ⟨#[97]⟩, .int .i64 7, .int .i64 0, .int .i64 0, .int .i64 0, .int .i64 0, .int .u8 53, .string ⟨#[]⟩] 34)).cell? ⟨w.heap.size, 2, none⟩ = some (.int .i64 7) := x2.cell rfl; have p3 : (w2.alloc (.cells #[.string ⟨#[]⟩, .string ⟨#[97]⟩, .int .i64 7, .int .i64 0, .int .i64 0, .int .i64 0, .int .i64 0, .int .u8 53, .string ⟨#[]⟩] 34)).cell? ⟨w.heap.size, 3, none⟩ = some (.int .i64 0) := x2.cell rfl; have p4 : (w2.alloc (.cells #[.string ⟨#[]⟩, .string ⟨#[97]⟩, .int .i64 7, .int .i64 0, .int .i64 0, .int .i64 0, .int .i64 0, .int .u8 53, .string ⟨#[]⟩] 34)).cell? ⟨w.heap.size, 4, none⟩ = some (.int .i64 0) := x2.cell rfl; have p5 : (w2.alloc (.cells #[.string ⟨#[]⟩, .string ⟨#[97]⟩, .int .i64 7, .int .i64 0, .int .i64 0, .int .i64 0, .int .i64 0, .int .u8 53, .string ⟨#[]⟩] 34)).cell? ⟨w.heap.size, 5, none⟩ = some (.int .i64 0) := x2.cell rfl; have p6 : (w2.alloc (.cells #[.string ⟨#[]⟩, .string ⟨#[97]⟩, .int .i64 7, .int .i64 0, .int .i64 0, .int .i64 0, .int .i64 0, .int .u8 53, .string ⟨#[]⟩] 34)).cell? ⟨w.heap.size, 6, none⟩ = some (.int .i64 0) := x2.cell rfl; have p7 : (w2.alloc (.cells #[.string ⟨#[]⟩, .string ⟨#[97]⟩, .int .i64 7, .int .i64 0, .int .i64 0, .int .i64 0, .int .i64 0, .int .u8 53, .string ⟨#[]⟩] 34)).cell? ⟨w.heap.size, 7, none⟩ = some (.int .u8 53) := x2.cell rfl; have p8 : (w2.alloc (.cells #[.string ⟨#[]⟩, .string ⟨#[97]⟩, .int .i64 7, .int .i64 0, .int .i64 0, .int .i64 0, .int .i64 0, .int .u8 53, .string ⟨#[]⟩] 34)).cell? ⟨w.heap.size, 8, none⟩ = some (.string ⟨#[]⟩) := x2.cell rfl; have at1 : (w2.alloc (.cells #[.string ⟨#[]⟩, .string ⟨#[97]⟩, .int .i64 7, .int .i64 0, .int .i64 0, .int .i64 0, .int .i64 0, .int .u8 53, .string ⟨#[]⟩] 34)).cell? ⟨g1, 156, none⟩ = some (.int .u8 53) := by
         have := (((hr1.below hb2).more hb2.size).alloc (Nat.le_refl _) (.cells #[.string ⟨#[]⟩, .string ⟨#[97]⟩, .int .i64 7, .int .i64 0, .int .i64 0, .int .i64 0, .int .i64 0, .int .u8 53, .string ⟨#[]⟩] 34)).at_' (k := 156) (by omega)
         rw [K4.out] at this
         simpa using this
       have B2 := Lib.hid b2; have X2 := Lib.hid x2; clear hb2 b2 x2)
    | (go_at_call 18; (with_reducible refine (SAM.out _).mono ?_); rintro e w3 ⟨rfl, hb3⟩; have b3 := (B2.out.alloc (by omega) _).trans (hb3.mono (by simp; omega)); have z3 := hb3.size; simp at z3; have B3 := Lib.hid b3; clear hb3 b3)
    | (go_at_call 19; (with_reducible refine (PAT.out _).mono ?_); rintro e w4 ⟨rfl, hb4⟩; have b4 := B3.out.trans (hb4.mono (by omega)); have z4 := hb4.size; have x4 := BOX.out _ b4; have s0 : (w4).cell? ⟨w.heap.size, 0, none⟩ = some (.string ⟨#[]⟩) := x4.cell rfl; have s1 : (w4).cell? ⟨w.heap.size, 1, none⟩ = some (.string ⟨#[97]⟩) := x4.cell rfl; have s2 : (w4).cell? ⟨w.heap.size, 2, none⟩ = some (.int .i64 7) := x4.cell rfl; have s3 : (w4).cell? ⟨w.heap.size, 3, none⟩ = some (.int .i64 0) := x4.cell rfl; have s4 : (w4).cell? ⟨w.heap.size, 4, none⟩ = some (.int .i64 0) := x4.cell rfl; have s5 : (w4).cell? ⟨w.heap.size, 5, none⟩ = some (.int .i64 0) := x4.cell rfl; have s6 : (w4).cell? ⟨w.heap.size, 6, none⟩ = some (.int .i64 0) := x4.cell rfl; have s7 : (w4).cell? ⟨w.heap.size, 7, none⟩ = some (.int .u8 53) := x4.cell rfl; have s8 : (w4).cell? ⟨w.heap.size, 8, none⟩ = some (.string ⟨#[]⟩) := x4.cell rfl; have B4 := Lib.hid b4; clear hb4 b4 x4)
    | (go_at_call 13; (with_reducible refine (IST.out _).mono ?_); rintro e w5 ⟨rfl, rfl⟩)
    | (go_at_call 12; (with_reducible refine (MAY.out _).mono ?_); rintro e w6 ⟨rfl, hb6⟩))
  go_ret
  refine ⟨rfl, ?_⟩
  exact ((Below.refl _ w).alloc (Nat.le_refl _) _).trans (B4.out.mono (by omega)) |>.trans (hb6.mono (by omega))
end Go.Proofs.YtfkhemlaohkhkaaDoor
