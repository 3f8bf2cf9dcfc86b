/- WALKS OF LAYER 5, THE LAWS: HeadParses. -/
import Derived.Test.YtfkhemlaohkhkaaDoorH5h
import Derived.Test.YtfkhemlaohkhkaaDoorH5g
import Derived.Deep.RegionHeld3
namespace Go.Proofs.YtfkhemlaohkhkaaDoor
open Go.RowKit
set_option maxHeartbeats 6400000
set_option maxRecDepth 100000
theorem parV_shape (xs : List Int) : ∃ p nm l m u g t z k, Hh.parV xs = Hh.hdr p nm l m u g t z k := by
  by_cases h : Hh.parE xs = 0
  · exact ⟨_, _, _, _, _, _, _, _, _, by unfold Hh.parV; rw [if_pos h]⟩
  · exact ⟨_, _, _, _, _, _, _, _, _, by unfold Hh.parV; rw [if_neg h]⟩
theorem same_self (p nm l : ByteArray) (m u g t z k : Int) : Hh.same p nm l m u g t z k p nm l m u g t z k = true := by simp [Hh.same]
theorem hparses_walk (A : Option Addr) (n c : Nat) (xs : List Int) (sum : Bool) (w : World) (ha : RB w w.heap.size A n xs) (hx : Byt xs) (hc : n ≤ c) (hc2 : c ≤ maxLen) :
    Calls Tryd.prog 4 #[.slice A n c, .bool sum] w fun e w' => e = .returned (.bool true) ∧ Below w.heap.size w w' := by
  have hxl := ha.1
  by_cases hn : (n : Int) ≤ 1000
  · have hnn : n ≤ 1000 := by omega
    by_cases hs : sum = true ∧ n = 512
    · obtain ⟨rfl, rfl⟩ := hs
      have hp := refhput_any A 512 c xs w ha hx hc hc2 (by omega)
      have hyl := Hs.len_put xs hxl
      have hyb := Hs.byt_put xs hx
      generalize (Hs.putS xs).1 = ys at *
      generalize (Hs.putS xs).2 = z2 at *
      have opn : ∀ (w1 : World) (B : Nat) (v : Value), OB w1 B 5 v ys → ∃ g c, v = .slice (some ⟨g, 0, none⟩) 512 c ∧ RB w1 w1.heap.size (some ⟨g, 0, none⟩) 512 ys ∧ 512 ≤ c ∧ c ≤ maxLen := fun w1 B v h => by
        have h1 := h.obn
        rw [hyl] at h1
        obtain ⟨g, c, cur, rfl, _, _, _, hc, hcm, _, _⟩ := h1.shape (by omega)
        obtain ⟨A', c', he, hr, _, _⟩ := h.rb
        rw [hyl] at he hr
        cases he
        exact ⟨g, c, rfl, hr, hc, hcm⟩
      obtain ⟨p, nm, l, m, u, g, t, z, k, hv⟩ := parV_shape ys
      unfold Hh.hdr at hv
      have the := fun W => htheirs_any p nm l m u g t z k W
      have sam := fun W => hsame_any p nm l m u g t z k p nm l m u g t z k W
      rw [same_self] at sam
      have THE := Lib.hid the; have SAM := Lib.hid sam; clear the sam
      have par := fun (g c : Nat) (W W' : World) (hr : RB W W.heap.size (some ⟨g, 0, none⟩) 512 ys) (hb : Below W.heap.size W W') (h1 : 512 ≤ c) (h2 : c ≤ maxLen) => hparse_any (some ⟨g, 0, none⟩) 512 c ys W' ((hr.below hb).more hb.size) hyb h1 h2
      have ref := fun (g c : Nat) (W W' : World) (hr : RB W W.heap.size (some ⟨g, 0, none⟩) 512 ys) (hb : Below W.heap.size W W') (h1 : 512 ≤ c) (h2 : c ≤ maxLen) => refhparse_any (some ⟨g, 0, none⟩) 512 c ys W' ((hr.below hb).more hb.size) hyb h1 h2
      rw [hv] at par ref
      generalize Hh.parE ys = E at *
      have HP := Lib.hid hp; have OPN := Lib.hid opn; have PARA := Lib.hid par; have REFA := Lib.hid ref
      clear hp opn par ref hv hyl hyb hx ha hxl
      go_enter Tryd.func4, Tryd.ntmps4
      go_wp2_with (first
        | (go_at_call 15; (with_reducible refine HP.out.mono ?_); rintro e w1 ⟨v1, rfl, o1, hb1⟩
           obtain ⟨gg, cc, rfl, r1, k1, k2⟩ := OPN.out _ _ _ o1
           have PAR := Lib.hid (fun W hb => PARA.out gg cc w1 W r1 hb k1 k2)
           have REF := Lib.hid (fun W hb => REFA.out gg cc w1 W r1 hb k1 k2)
           have B1 := Lib.hid hb1; have Q1 := Lib.hid (Below.refl w1.heap.size w1); clear hb1 o1 r1)
        | (go_at_call 16; (with_reducible refine (PAR.out _ Q1.out).mono ?_); rintro e w2 ⟨rfl, hb2⟩
           have b2 := B1.out.trans (hb2.mono B1.out.size)
           have b2' := b2.alloc b2.size (.cells #[.string p, .string nm, .int .i64 m, .int .i64 u, .int .i64 g, .int .i64 t, .int .i64 z, .int .u8 k, .string l] 34)
           have x2 := BX.new w2 34 #[.string p, .string nm, .int .i64 m, .int .i64 u, .int .i64 g, .int .i64 t, .int .i64 z, .int .u8 k, .string l]
           have c2' := (Q1.out.trans (hb2.mono Q1.out.size)).alloc (by have := (Q1.out.trans (hb2.mono Q1.out.size)).size; omega) (.cells #[.string p, .string nm, .int .i64 m, .int .i64 u, .int .i64 g, .int .i64 t, .int .i64 z, .int .u8 k, .string l] 34)
           have B2 := Lib.hid b2'; have X2 := Lib.hid x2; have Q2 := Lib.hid c2'; clear hb2 b2 b2' x2 c2')
        | (go_at_call 17; (with_reducible refine (REF.out _ Q2.out).mono ?_); rintro e w3 ⟨rfl, hb3⟩
           have b3 := (B2.out.trans (hb3.mono B2.out.size)).alloc (B2.out.trans (hb3.mono B2.out.size)).size (.cells #[.string p, .string nm, .int .i64 m, .int .i64 u, .int .i64 g, .int .i64 t, .int .i64 z, .int .u8 k, .string l] 25)
           have x3 := (X2.out.later hb3).alloc (.cells #[.string p, .string nm, .int .i64 m, .int .i64 u, .int .i64 g, .int .i64 t, .int .i64 z, .int .u8 k, .string l] 25)
           have y3 := BX.new w3 25 #[.string p, .string nm, .int .i64 m, .int .i64 u, .int .i64 g, .int .i64 t, .int .i64 z, .int .u8 k, .string l]
           have B3 := Lib.hid b3; have X3 := Lib.hid x3; have Y3 := Lib.hid y3; clear b3 x3 y3 hb3))
      have alls : ∀ W, Below (w3.alloc (.cells #[.string p, .string nm, .int .i64 m, .int .i64 u, .int .i64 g, .int .i64 t, .int .i64 z, .int .u8 k, .string l] 25)).heap.size (w3.alloc (.cells #[.string p, .string nm, .int .i64 m, .int .i64 u, .int .i64 g, .int .i64 t, .int .i64 z, .int .u8 k, .string l] 25)) W → W.cell? ⟨w2.heap.size, 0, none⟩ = some (.string p) ∧ W.cell? ⟨w2.heap.size, 1, none⟩ = some (.string nm) ∧ W.cell? ⟨w2.heap.size, 2, none⟩ = some (.int .i64 m) ∧ W.cell? ⟨w2.heap.size, 3, none⟩ = some (.int .i64 u) ∧ W.cell? ⟨w2.heap.size, 4, none⟩ = some (.int .i64 g) ∧ W.cell? ⟨w2.heap.size, 5, none⟩ = some (.int .i64 t) ∧ W.cell? ⟨w2.heap.size, 6, none⟩ = some (.int .i64 z) ∧ W.cell? ⟨w2.heap.size, 7, none⟩ = some (.int .u8 k) ∧ W.cell? ⟨w2.heap.size, 8, none⟩ = some (.string l) ∧ W.cell? ⟨w3.heap.size, 0, none⟩ = some (.string p) ∧ W.cell? ⟨w3.heap.size, 1, none⟩ = some (.string nm) ∧ W.cell? ⟨w3.heap.size, 2, none⟩ = some (.int .i64 m) ∧ W.cell? ⟨w3.heap.size, 3, none⟩ = some (.int .i64 u) ∧ W.cell? ⟨w3.heap.size, 4, none⟩ = some (.int .i64 g) ∧ W.cell? ⟨w3.heap.size, 5, none⟩ = some (.int .i64 t) ∧ W.cell? ⟨w3.heap.size, 6, none⟩ = some (.int .i64 z) ∧ W.cell? ⟨w3.heap.size, 7, none⟩ = some (.int .u8 k) ∧ W.cell? ⟨w3.heap.size, 8, none⟩ = some (.string l) := fun W hW => by
        have r1 := X3.out.later hW
        have r2 := Y3.out.later hW
        exact ⟨r1.cell rfl, r1.cell rfl, r1.cell rfl, r1.cell rfl, r1.cell rfl, r1.cell rfl, r1.cell rfl, r1.cell rfl, r1.cell rfl, r2.cell rfl, r2.cell rfl, r2.cell rfl, r2.cell rfl, r2.cell rfl, r2.cell rfl, r2.cell rfl, r2.cell rfl, r2.cell rfl⟩
      have ALLS := Lib.hid alls
      have hacc : Below (w3.alloc (.cells #[.string p, .string nm, .int .i64 m, .int .i64 u, .int .i64 g, .int .i64 t, .int .i64 z, .int .u8 k, .string l] 25)).heap.size (w3.alloc (.cells #[.string p, .string nm, .int .i64 m, .int .i64 u, .int .i64 g, .int .i64 t, .int .i64 z, .int .u8 k, .string l] 25)) (w3.alloc (.cells #[.string p, .string nm, .int .i64 m, .int .i64 u, .int .i64 g, .int .i64 t, .int .i64 z, .int .u8 k, .string l] 25)).drew := (Below.refl _ _).drew
      obtain ⟨i0, i1, i2, i3, i4, i5, i6, i7, i8, i9, i10, i11, i12, i13, i14, i15, i16, i17⟩ := ALLS.out _ (Below.refl _ _)
      clear alls
      go_region_held3 (fun w' => w'.cell? ⟨w2.heap.size, 0, none⟩ = some (.string p) ∧ w'.cell? ⟨w2.heap.size, 1, none⟩ = some (.string nm) ∧ w'.cell? ⟨w2.heap.size, 2, none⟩ = some (.int .i64 m) ∧ w'.cell? ⟨w2.heap.size, 3, none⟩ = some (.int .i64 u) ∧ w'.cell? ⟨w2.heap.size, 4, none⟩ = some (.int .i64 g) ∧ w'.cell? ⟨w2.heap.size, 5, none⟩ = some (.int .i64 t) ∧ w'.cell? ⟨w2.heap.size, 6, none⟩ = some (.int .i64 z) ∧ w'.cell? ⟨w2.heap.size, 7, none⟩ = some (.int .u8 k) ∧ w'.cell? ⟨w2.heap.size, 8, none⟩ = some (.string l) ∧ w'.cell? ⟨w3.heap.size, 0, none⟩ = some (.string p) ∧ w'.cell? ⟨w3.heap.size, 1, none⟩ = some (.string nm) ∧ w'.cell? ⟨w3.heap.size, 2, none⟩ = some (.int .i64 m) ∧ w'.cell? ⟨w3.heap.size, 3, none⟩ = some (.int .i64 u) ∧ w'.cell? ⟨w3.heap.size, 4, none⟩ = some (.int .i64 g) ∧ w'.cell? ⟨w3.heap.size, 5, none⟩ = some (.int .i64 t) ∧ w'.cell? ⟨w3.heap.size, 6, none⟩ = some (.int .i64 z) ∧ w'.cell? ⟨w3.heap.size, 7, none⟩ = some (.int .u8 k) ∧ w'.cell? ⟨w3.heap.size, 8, none⟩ = some (.string l))
        (first | (exact ALLS.out _ hacc) | go_keep)
        (first
          | (go_at_call 9; (with_reducible refine (THE.out _).mono ?_); rintro e w4 ⟨rfl, hb4⟩; replace hacc := hacc.trans (Below.mono hb4 hacc.size))
          | (go_at_call 18; (with_reducible refine (SAM.out _).mono ?_); rintro e w5 ⟨rfl, hb5⟩; replace hacc := hacc.trans (Below.mono hb5 hacc.size))
          | (go_at_call 7; (with_reducible refine (alive5_any _).mono ?_); rintro e w6 ⟨rfl, hb6⟩; replace hacc := hacc.trans (Below.mono hb6 hacc.size)))
      all_goals
        go_wp2
        go_ret
        exact ⟨ret_bool (by simp), B3.out.trans (hacc.mono B3.out.size)⟩
    · have hyb := hx
      generalize hys : xs = ys at *
      obtain ⟨p, nm, l, m, u, g, t, z, k, hv⟩ := parV_shape ys
      unfold Hh.hdr at hv
      have the := fun W => htheirs_any p nm l m u g t z k W
      have sam := fun W => hsame_any p nm l m u g t z k p nm l m u g t z k W
      rw [same_self] at sam
      have THE := Lib.hid the; have SAM := Lib.hid sam; clear the sam
      have par := fun W (hb : Below w.heap.size w W) => hparse_any A n c ys W ((ha.below hb).more hb.size) hyb hc hc2
      have ref := fun W (hb : Below w.heap.size w W) => refhparse_any A n c ys W ((ha.below hb).more hb.size) hyb hc hc2
      rw [hv] at par ref
      generalize Hh.parE ys = E at *
      have PAR := Lib.hid par; have REF := Lib.hid ref
      have B1 := Lib.hid (Below.refl w.heap.size w); have Q1 := Lib.hid (Below.refl w.heap.size w)
      clear par ref hv hyb ha hxl hys
      cases sum
      · clear hs
        go_enter Tryd.func4, Tryd.ntmps4
        go_wp2_with (first
          | (go_at_call 16; (with_reducible refine (PAR.out _ Q1.out).mono ?_); rintro e w2 ⟨rfl, hb2⟩
             have b2 := B1.out.trans (hb2.mono B1.out.size)
             have b2' := b2.alloc b2.size (.cells #[.string p, .string nm, .int .i64 m, .int .i64 u, .int .i64 g, .int .i64 t, .int .i64 z, .int .u8 k, .string l] 34)
             have x2 := BX.new w2 34 #[.string p, .string nm, .int .i64 m, .int .i64 u, .int .i64 g, .int .i64 t, .int .i64 z, .int .u8 k, .string l]
             have c2' := (Q1.out.trans (hb2.mono Q1.out.size)).alloc (by have := (Q1.out.trans (hb2.mono Q1.out.size)).size; omega) (.cells #[.string p, .string nm, .int .i64 m, .int .i64 u, .int .i64 g, .int .i64 t, .int .i64 z, .int .u8 k, .string l] 34)
             have B2 := Lib.hid b2'; have X2 := Lib.hid x2; have Q2 := Lib.hid c2'; clear hb2 b2 b2' x2 c2')
          | (go_at_call 17; (with_reducible refine (REF.out _ Q2.out).mono ?_); rintro e w3 ⟨rfl, hb3⟩
             have b3 := (B2.out.trans (hb3.mono B2.out.size)).alloc (B2.out.trans (hb3.mono B2.out.size)).size (.cells #[.string p, .string nm, .int .i64 m, .int .i64 u, .int .i64 g, .int .i64 t, .int .i64 z, .int .u8 k, .string l] 25)
             have x3 := (X2.out.later hb3).alloc (.cells #[.string p, .string nm, .int .i64 m, .int .i64 u, .int .i64 g, .int .i64 t, .int .i64 z, .int .u8 k, .string l] 25)
             have y3 := BX.new w3 25 #[.string p, .string nm, .int .i64 m, .int .i64 u, .int .i64 g, .int .i64 t, .int .i64 z, .int .u8 k, .string l]
             have B3 := Lib.hid b3; have X3 := Lib.hid x3; have Y3 := Lib.hid y3; clear b3 x3 y3 hb3))
        have alls : ∀ W, Below (w3.alloc (.cells #[.string p, .string nm, .int .i64 m, .int .i64 u, .int .i64 g, .int .i64 t, .int .i64 z, .int .u8 k, .string l] 25)).heap.size (w3.alloc (.cells #[.string p, .string nm, .int .i64 m, .int .i64 u, .int .i64 g, .int .i64 t, .int .i64 z, .int .u8 k, .string l] 25)) W → W.cell? ⟨w2.heap.size, 0, none⟩ = some (.string p) ∧ W.cell? ⟨w2.heap.size, 1, none⟩ = some (.string nm) ∧ W.cell? ⟨w2.heap.size, 2, none⟩ = some (.int .i64 m) ∧ W.cell? ⟨w2.heap.size, 3, none⟩ = some (.int .i64 u) ∧ W.cell? ⟨w2.heap.size, 4, none⟩ = some (.int .i64 g) ∧ W.cell? ⟨w2.heap.size, 5, none⟩ = some (.int .i64 t) ∧ W.cell? ⟨w2.heap.size, 6, none⟩ = some (.int .i64 z) ∧ W.cell? ⟨w2.heap.size, 7, none⟩ = some (.int .u8 k) ∧ W.cell? ⟨w2.heap.size, 8, none⟩ = some (.string l) ∧ W.cell? ⟨w3.heap.size, 0, none⟩ = some (.string p) ∧ W.cell? ⟨w3.heap.size, 1, none⟩ = some (.string nm) ∧ W.cell? ⟨w3.heap.size, 2, none⟩ = some (.int .i64 m) ∧ W.cell? ⟨w3.heap.size, 3, none⟩ = some (.int .i64 u) ∧ W.cell? ⟨w3.heap.size, 4, none⟩ = some (.int .i64 g) ∧ W.cell? ⟨w3.heap.size, 5, none⟩ = some (.int .i64 t) ∧ W.cell? ⟨w3.heap.size, 6, none⟩ = some (.int .i64 z) ∧ W.cell? ⟨w3.heap.size, 7, none⟩ = some (.int .u8 k) ∧ W.cell? ⟨w3.heap.size, 8, none⟩ = some (.string l) := fun W hW => by
          have r1 := X3.out.later hW
          have r2 := Y3.out.later hW
          exact ⟨r1.cell rfl, r1.cell rfl, r1.cell rfl, r1.cell rfl, r1.cell rfl, r1.cell rfl, r1.cell rfl, r1.cell rfl, r1.cell rfl, r2.cell rfl, r2.cell rfl, r2.cell rfl, r2.cell rfl, r2.cell rfl, r2.cell rfl, r2.cell rfl, r2.cell rfl, r2.cell rfl⟩
        have ALLS := Lib.hid alls
        have hacc : Below (w3.alloc (.cells #[.string p, .string nm, .int .i64 m, .int .i64 u, .int .i64 g, .int .i64 t, .int .i64 z, .int .u8 k, .string l] 25)).heap.size (w3.alloc (.cells #[.string p, .string nm, .int .i64 m, .int .i64 u, .int .i64 g, .int .i64 t, .int .i64 z, .int .u8 k, .string l] 25)) (w3.alloc (.cells #[.string p, .string nm, .int .i64 m, .int .i64 u, .int .i64 g, .int .i64 t, .int .i64 z, .int .u8 k, .string l] 25)).drew := (Below.refl _ _).drew
        obtain ⟨i0, i1, i2, i3, i4, i5, i6, i7, i8, i9, i10, i11, i12, i13, i14, i15, i16, i17⟩ := ALLS.out _ (Below.refl _ _)
        clear alls
        go_region_held3 (fun w' => w'.cell? ⟨w2.heap.size, 0, none⟩ = some (.string p) ∧ w'.cell? ⟨w2.heap.size, 1, none⟩ = some (.string nm) ∧ w'.cell? ⟨w2.heap.size, 2, none⟩ = some (.int .i64 m) ∧ w'.cell? ⟨w2.heap.size, 3, none⟩ = some (.int .i64 u) ∧ w'.cell? ⟨w2.heap.size, 4, none⟩ = some (.int .i64 g) ∧ w'.cell? ⟨w2.heap.size, 5, none⟩ = some (.int .i64 t) ∧ w'.cell? ⟨w2.heap.size, 6, none⟩ = some (.int .i64 z) ∧ w'.cell? ⟨w2.heap.size, 7, none⟩ = some (.int .u8 k) ∧ w'.cell? ⟨w2.heap.size, 8, none⟩ = some (.string l) ∧ w'.cell? ⟨w3.heap.size, 0, none⟩ = some (.string p) ∧ w'.cell? ⟨w3.heap.size, 1, none⟩ = some (.string nm) ∧ w'.cell? ⟨w3.heap.size, 2, none⟩ = some (.int .i64 m) ∧ w'.cell? ⟨w3.heap.size, 3, none⟩ = some (.int .i64 u) ∧ w'.cell? ⟨w3.heap.size, 4, none⟩ = some (.int .i64 g) ∧ w'.cell? ⟨w3.heap.size, 5, none⟩ = some (.int .i64 t) ∧ w'.cell? ⟨w3.heap.size, 6, none⟩ = some (.int .i64 z) ∧ w'.cell? ⟨w3.heap.size, 7, none⟩ = some (.int .u8 k) ∧ w'.cell? ⟨w3.heap.size, 8, none⟩ = some (.string l))
          (first | (exact ALLS.out _ hacc) | go_keep)
          (first
            | (go_at_call 9; (with_reducible refine (THE.out _).mono ?_); rintro e w4 ⟨rfl, hb4⟩; replace hacc := hacc.trans (Below.mono hb4 hacc.size))
            | (go_at_call 18; (with_reducible refine (SAM.out _).mono ?_); rintro e w5 ⟨rfl, hb5⟩; replace hacc := hacc.trans (Below.mono hb5 hacc.size))
            | (go_at_call 7; (with_reducible refine (alive5_any _).mono ?_); rintro e w6 ⟨rfl, hb6⟩; replace hacc := hacc.trans (Below.mono hb6 hacc.size)))
        all_goals
          go_wp2
          go_ret
          exact ⟨ret_bool (by simp), B3.out.trans (hacc.mono B3.out.size)⟩
      · have hne : ((n : Int) == 512) = false := by
          have : n ≠ 512 := fun h => hs ⟨rfl, h⟩
          simp; omega
        clear hs
        go_enter Tryd.func4, Tryd.ntmps4
        go_wp2_with (first
          | (go_at_call 16; (with_reducible refine (PAR.out _ Q1.out).mono ?_); rintro e w2 ⟨rfl, hb2⟩
             have b2 := B1.out.trans (hb2.mono B1.out.size)
             have b2' := b2.alloc b2.size (.cells #[.string p, .string nm, .int .i64 m, .int .i64 u, .int .i64 g, .int .i64 t, .int .i64 z, .int .u8 k, .string l] 34)
             have x2 := BX.new w2 34 #[.string p, .string nm, .int .i64 m, .int .i64 u, .int .i64 g, .int .i64 t, .int .i64 z, .int .u8 k, .string l]
             have c2' := (Q1.out.trans (hb2.mono Q1.out.size)).alloc (by have := (Q1.out.trans (hb2.mono Q1.out.size)).size; omega) (.cells #[.string p, .string nm, .int .i64 m, .int .i64 u, .int .i64 g, .int .i64 t, .int .i64 z, .int .u8 k, .string l] 34)
             have B2 := Lib.hid b2'; have X2 := Lib.hid x2; have Q2 := Lib.hid c2'; clear hb2 b2 b2' x2 c2')
          | (go_at_call 17; (with_reducible refine (REF.out _ Q2.out).mono ?_); rintro e w3 ⟨rfl, hb3⟩
             have b3 := (B2.out.trans (hb3.mono B2.out.size)).alloc (B2.out.trans (hb3.mono B2.out.size)).size (.cells #[.string p, .string nm, .int .i64 m, .int .i64 u, .int .i64 g, .int .i64 t, .int .i64 z, .int .u8 k, .string l] 25)
             have x3 := (X2.out.later hb3).alloc (.cells #[.string p, .string nm, .int .i64 m, .int .i64 u, .int .i64 g, .int .i64 t, .int .i64 z, .int .u8 k, .string l] 25)
             have y3 := BX.new w3 25 #[.string p, .string nm, .int .i64 m, .int .i64 u, .int .i64 g, .int .i64 t, .int .i64 z, .int .u8 k, .string l]
             have B3 := Lib.hid b3; have X3 := Lib.hid x3; have Y3 := Lib.hid y3; clear b3 x3 y3 hb3))
        have alls : ∀ W, Below (w3.alloc (.cells #[.string p, .string nm, .int .i64 m, .int .i64 u, .int .i64 g, .int .i64 t, .int .i64 z, .int .u8 k, .string l] 25)).heap.size (w3.alloc (.cells #[.string p, .string nm, .int .i64 m, .int .i64 u, .int .i64 g, .int .i64 t, .int .i64 z, .int .u8 k, .string l] 25)) W → W.cell? ⟨w2.heap.size, 0, none⟩ = some (.string p) ∧ W.cell? ⟨w2.heap.size, 1, none⟩ = some (.string nm) ∧ W.cell? ⟨w2.heap.size, 2, none⟩ = some (.int .i64 m) ∧ W.cell? ⟨w2.heap.size, 3, none⟩ = some (.int .i64 u) ∧ W.cell? ⟨w2.heap.size, 4, none⟩ = some (.int .i64 g) ∧ W.cell? ⟨w2.heap.size, 5, none⟩ = some (.int .i64 t) ∧ W.cell? ⟨w2.heap.size, 6, none⟩ = some (.int .i64 z) ∧ W.cell? ⟨w2.heap.size, 7, none⟩ = some (.int .u8 k) ∧ W.cell? ⟨w2.heap.size, 8, none⟩ = some (.string l) ∧ W.cell? ⟨w3.heap.size, 0, none⟩ = some (.string p) ∧ W.cell? ⟨w3.heap.size, 1, none⟩ = some (.string nm) ∧ W.cell? ⟨w3.heap.size, 2, none⟩ = some (.int .i64 m) ∧ W.cell? ⟨w3.heap.size, 3, none⟩ = some (.int .i64 u) ∧ W.cell? ⟨w3.heap.size, 4, none⟩ = some (.int .i64 g) ∧ W.cell? ⟨w3.heap.size, 5, none⟩ = some (.int .i64 t) ∧ W.cell? ⟨w3.heap.size, 6, none⟩ = some (.int .i64 z) ∧ W.cell? ⟨w3.heap.size, 7, none⟩ = some (.int .u8 k) ∧ W.cell? ⟨w3.heap.size, 8, none⟩ = some (.string l) := fun W hW => by
          have r1 := X3.out.later hW
          have r2 := Y3.out.later hW
          exact ⟨r1.cell rfl, r1.cell rfl, r1.cell rfl, r1.cell rfl, r1.cell rfl, r1.cell rfl, r1.cell rfl, r1.cell rfl, r1.cell rfl, r2.cell rfl, r2.cell rfl, r2.cell rfl, r2.cell rfl, r2.cell rfl, r2.cell rfl, r2.cell rfl, r2.cell rfl, r2.cell rfl⟩
        have ALLS := Lib.hid alls
        have hacc : Below (w3.alloc (.cells #[.string p, .string nm, .int .i64 m, .int .i64 u, .int .i64 g, .int .i64 t, .int .i64 z, .int .u8 k, .string l] 25)).heap.size (w3.alloc (.cells #[.string p, .string nm, .int .i64 m, .int .i64 u, .int .i64 g, .int .i64 t, .int .i64 z, .int .u8 k, .string l] 25)) (w3.alloc (.cells #[.string p, .string nm, .int .i64 m, .int .i64 u, .int .i64 g, .int .i64 t, .int .i64 z, .int .u8 k, .string l] 25)).drew := (Below.refl _ _).drew
        obtain ⟨i0, i1, i2, i3, i4, i5, i6, i7, i8, i9, i10, i11, i12, i13, i14, i15, i16, i17⟩ := ALLS.out _ (Below.refl _ _)
        clear alls
        go_region_held3 (fun w' => w'.cell? ⟨w2.heap.size, 0, none⟩ = some (.string p) ∧ w'.cell? ⟨w2.heap.size, 1, none⟩ = some (.string nm) ∧ w'.cell? ⟨w2.heap.size, 2, none⟩ = some (.int .i64 m) ∧ w'.cell? ⟨w2.heap.size, 3, none⟩ = some (.int .i64 u) ∧ w'.cell? ⟨w2.heap.size, 4, none⟩ = some (.int .i64 g) ∧ w'.cell? ⟨w2.heap.size, 5, none⟩ = some (.int .i64 t) ∧ w'.cell? ⟨w2.heap.size, 6, none⟩ = some (.int .i64 z) ∧ w'.cell? ⟨w2.heap.size, 7, none⟩ = some (.int .u8 k) ∧ w'.cell? ⟨w2.heap.size, 8, none⟩ = some (.string l) ∧ w'.cell? ⟨w3.heap.size, 0, none⟩ = some (.string p) ∧ w'.cell? ⟨w3.heap.size, 1, none⟩ = some (.string nm) ∧ w'.cell? ⟨w3.heap.size, 2, none⟩ = some (.int .i64 m) ∧ w'.cell? ⟨w3.heap.size, 3, none⟩ = some (.int .i64 u) ∧ w'.cell? ⟨w3.heap.size, 4, none⟩ = some (.int .i64 g) ∧ w'.cell? ⟨w3.heap.size, 5, none⟩ = some (.int .i64 t) ∧ w'.cell? ⟨w3.heap.size, 6, none⟩ = some (.int .i64 z) ∧ w'.cell? ⟨w3.heap.size, 7, none⟩ = some (.int .u8 k) ∧ w'.cell? ⟨w3.heap.size, 8, none⟩ = some (.string l))
          (first | (exact ALLS.out _ hacc) | go_keep)
          (first
            | (go_at_call 9; (with_reducible refine (THE.out _).mono ?_); rintro e w4 ⟨rfl, hb4⟩; replace hacc := hacc.trans (Below.mono hb4 hacc.size))
            | (go_at_call 18; (with_reducible refine (SAM.out _).mono ?_); rintro e w5 ⟨rfl, hb5⟩; replace hacc := hacc.trans (Below.mono hb5 hacc.size))
            | (go_at_call 7; (with_reducible refine (alive5_any _).mono ?_); rintro e w6 ⟨rfl, hb6⟩; replace hacc := hacc.trans (Below.mono hb6 hacc.size)))
        all_goals
          go_wp2
          go_ret
          exact ⟨ret_bool (by simp), B3.out.trans (hacc.mono B3.out.size)⟩
  · clear hxl
    go_enter Tryd.func4, Tryd.ntmps4
    go_wp2_with (go_at_call 7; (with_reducible refine (alive5_any _).mono ?_); rintro e w2 ⟨rfl, hb2⟩)
    go_ret
    exact ⟨rfl, hb2⟩
end Go.Proofs.YtfkhemlaohkhkaaDoor
