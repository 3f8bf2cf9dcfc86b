/- WALKS OF LAYER 10, EIGHTH PART: tell. By gen_f10h.py. -/
import Derived.Test.YtjofdgjcbjdhbaaGreatDoorGf3
import Derived.Test.YtjofdgjcbjdhbaaGreatDoorA9i
import Derived.Test.YtjofdgjcbjdhbaaGreatDoorGm8
namespace Go.Proofs.YtjofdgjcbjdhbaaGreatDoor
open Go Go.RowKit
set_option maxHeartbeats 32000000
set_option maxRecDepth 100000
set_option linter.unusedVariables false
/-- A row of members that is the call's own, told by their paths. -/
def PR (w : World) (base : Nat) (v : Value) (ps : List ByteArray) : Prop := ∃ its : List It, w.ownsRow base 44 8 v its.length (its.flatMap c8) ∧ its.map It.p = ps
theorem PR.nil (w : World) (base : Nat) : PR w base (.slice none 0 0) [] := ⟨[], World.ownsRow_nil _ _ _ _, rfl⟩
theorem PR.slice {w : World} {base : Nat} {v : Value} {ps : List ByteArray} (h : PR w base v ps) : ∃ A c, v = .slice A ps.length c := by
  obtain ⟨its, h1, rfl⟩ := h
  obtain ⟨A, c, rfl, _⟩ := owns_slice h1
  exact ⟨A, c, by rw [List.length_map]⟩
theorem Oth.size10 {a : Nat} {w w' : World} (h : Oth a w w') : w.heap.size ≤ w'.heap.size := h.2.2.2.1
theorem bset8 {w W : World} {B gb : Nat} (h : Below B w W) (hB : B ≤ gb) (v0 v1 v2 v3 v4 v5 v6 v7 : Value) : Below B w ((((((((W.setCell ⟨gb, 0, none⟩ v0).setCell ⟨gb, 1, none⟩ v1).setCell ⟨gb, 2, none⟩ v2).setCell ⟨gb, 3, none⟩ v3).setCell ⟨gb, 4, none⟩ v4).setCell ⟨gb, 5, none⟩ v5).setCell ⟨gb, 6, none⟩ v6).setCell ⟨gb, 7, none⟩ v7) :=
  (((((((h.setCell (p := ⟨gb, 0, none⟩) hB _).setCell (p := ⟨gb, 1, none⟩) hB _).setCell (p := ⟨gb, 2, none⟩) hB _).setCell (p := ⟨gb, 3, none⟩) hB _).setCell (p := ⟨gb, 4, none⟩) hB _).setCell (p := ⟨gb, 5, none⟩) hB _).setCell (p := ⟨gb, 6, none⟩) hB _).setCell (p := ⟨gb, 7, none⟩) hB _
theorem row_one8 {T : TypeId} (W : World) (base : Nat) (xs : List Value) (hx : xs.length = 8) (hb : base ≤ W.heap.size) : (W.alloc (.cells xs.toArray T)).ownsRow base T 8 (.slice (some ⟨W.heap.size, 0, none⟩) 1 1) 1 xs :=
  ⟨by omega, .inr ⟨W.heap.size, 1, xs.toArray, rfl, hb, heap_alloc_new _ _, Nat.le_refl _, by decide, by show xs.length = 1 * 8; omega, List.take_of_length_le (show xs.length ≤ 1 * 8 by omega)⟩⟩
section
variable {w : World} {B a : Nat} {al nx : Value} {s : Fd.S}
theorem ftell_any10 (h : Fs w B a al nx s) (hB : B ≤ w.heap.size) (p nm l : ByteArray) (m u g t z k : Int) (hp : p.size ≤ 1000) (hnm : nm.size ≤ 1000) (hl : l.size ≤ 1000) (A : Option Addr) (n c : Nat) (d : List Int) (hd : RB w w.heap.size A n d) (hn : n ≤ 100000) (hal : s.al.length ≤ 50000) (hnl : s.nx.length ≤ 50000) (hrv : ∀ r ∈ s.al ++ s.nx, r.2.size ≤ 100000) (hct : s.ct ≤ 64) (hfr : s.fr ≤ 100000) :
    Calls Tryz.prog 63 #[.pointer (some ⟨a, 0, none⟩), .agg #[.string p, .string nm, .int .i64 m, .int .i64 u, .int .i64 g, .int .i64 t, .int .i64 z, .int .u8 k, .string l], .slice A n c] w fun e w' => ∃ v, e = .returned (.tuple #[v, .int .i64 (Fd.tellS s ⟨p, nm, l, m, u, g, t, z, k⟩ d).2.2]) ∧ PR w' w.heap.size v (Fd.tellS s ⟨p, nm, l, m, u, g, t, z, k⟩ d).2.1 ∧ (∃ al' nx', Fs w' B a al' nx' (Fd.tellS s ⟨p, nm, l, m, u, g, t, z, k⟩ d).1) ∧ Oth a w w' := by
  obtain ⟨Aa, ca, hav, hra, _⟩ := owns_rl h.hal
  subst hav
  obtain ⟨An, cn, hnv, hrn, _⟩ := owns_rl h.hnx
  subst hnv
  have HH := Lib.hid h
  have HBZ := Lib.hid hB
  have HRA := Lib.hid hra
  have HRN := Lib.hid hrn
  have hlt := h.box.lt
  have hx : Fd.tellS s ⟨p, nm, l, m, u, g, t, z, k⟩ d = if Mb.fE (s.al ++ s.nx) p nm l k m u g t d = 0 then (if s.ct = 64 then (s, [], 5) else ({ s with nx := [], ct := s.ct + 1, mrk := s.fr }, [Mb.fP (s.al ++ s.nx) p nm], 0)) else (s, [], Mb.fE (s.al ++ s.nx) p nm l k m u g t d) := rfl
  obtain ⟨R, hR⟩ : ∃ R, R = Fd.tellS s ⟨p, nm, l, m, u, g, t, z, k⟩ d := ⟨_, rfl⟩
  rw [← hR]
  rw [hx] at hR
  have JO := Lib.hid (fun (W : World) (hb : Below w.heap.size w W) => join_any10 Aa s.al.length ca An s.nx.length cn s.al s.nx W ((HRA.out.below hb).more hb.size) ((HRN.out.below hb).more hb.size) hal hnl)
  have FRO := Lib.hid (fun (W1 : World) (A1 : Option Addr) (c1 : Nat) (hr : RL W1 W1.heap.size A1 (s.al ++ s.nx).length (s.al ++ s.nx)) (ho : Below w.heap.size w W1) (W : World) (hb : Below W1.heap.size W1 W) => mfrom2_any p nm l m u g t z k A1 (s.al ++ s.nx).length c1 (s.al ++ s.nx) A n c d W ((hr.below hb).more hb.size) (by rw [List.length_append]; omega) ((hd.below (ho.trans (hb.mono ho.size))).more (ho.trans (hb.mono ho.size)).size) hn hp hnm hl hrv)
  unfold FromOk2 at FRO
  have HF := Lib.hid (fun (W : World) (hb : Below w.heap.size w W) => (h.below hb : Fs W B a (.slice Aa s.al.length ca) (.slice An s.nx.length cn) s))
  have HR := Lib.hid hR
  clear h hd hrv hra hrn hx hR
  generalize s.al ++ s.nx = RS at *
  generalize Mb.fE RS p nm l k m u g t d = E at *
  have HP0 := Lib.hid (fun (h0 : E = 0) => (show Mb.rS E (Mb.fP RS p nm) = Mb.fP RS p nm by subst h0; rfl))
  generalize Mb.rS E (Mb.fP RS p nm) = P at *
  generalize Mb.rI E (Mb.kin k) = K at *
  generalize Mb.rI E m = M at *
  generalize Mb.rI E u = U at *
  generalize Mb.rI E g = G at *
  generalize Mb.rI E t = TT at *
  generalize Mb.rS E (Mb.fL RS k l) = L at *
  obtain ⟨na, hna⟩ : ∃ na, na = s.al.length := ⟨_, rfl⟩
  obtain ⟨nn, hnn⟩ : ∃ nn, nn = s.nx.length := ⟨_, rfl⟩
  rw [← hna, ← hnn] at JO HF
  clear hna hnn hal hnl
  go_enter Tryz.func63, Tryz.ntmps63
  go_upto_region 1 with (fail)
  obtain ⟨W0, hW0⟩ : ∃ W0, W0 = w.alloc (.cells #[.string p, .string nm, .int .i64 m, .int .i64 u, .int .i64 g, .int .i64 t, .int .i64 z, .int .u8 k, .string l] 64) := ⟨_, rfl⟩
  rw [← hW0]
  have HSZ := Lib.hid (show W0.heap.size = w.heap.size + 1 by rw [hW0]; simp)
  have HB0 := Lib.hid (show Below w.heap.size w W0 by rw [hW0]; exact mb_new _ _)
  have HBX := Lib.hid (show BX W0 w.heap.size 64 #[.string p, .string nm, .int .i64 m, .int .i64 u, .int .i64 g, .int .i64 t, .int .i64 z, .int .u8 k, .string l] by rw [hW0]; exact BX.new _ _ _)
  clear hW0
  have BLW := Lib.hid (fun W (hb : Below W0.heap.size W0 W) => HB0.out.trans (hb.mono (show w.heap.size ≤ W0.heap.size by have := HSZ.out; omega)))
  obtain ⟨hb0, hhb0⟩ : ∃ hb0, hb0 = w.heap.size := ⟨_, rfl⟩
  rw [← hhb0] at HBX hlt ⊢
  have hs0 := HSZ.out
  rw [← hhb0] at hs0
  have alls : ∀ W, Below W0.heap.size W0 W → W.cell? ⟨hb0, 0, none⟩ = some (.string p) ∧ W.cell? ⟨hb0, 1, none⟩ = some (.string nm) ∧ W.cell? ⟨hb0, 2, none⟩ = some (.int .i64 m) ∧ W.cell? ⟨hb0, 3, none⟩ = some (.int .i64 u) ∧ W.cell? ⟨hb0, 4, none⟩ = some (.int .i64 g) ∧ W.cell? ⟨hb0, 5, none⟩ = some (.int .i64 t) ∧ W.cell? ⟨hb0, 6, none⟩ = some (.int .i64 z) ∧ W.cell? ⟨hb0, 7, none⟩ = some (.int .u8 k) ∧ W.cell? ⟨hb0, 8, none⟩ = some (.string l) ∧ W.cell? ⟨a, 4626, none⟩ = some (.slice Aa na ca) ∧ W.cell? ⟨a, 4627, none⟩ = some (.slice An nn cn) := fun W hW => by
    have b := HBX.out.later hW
    have q := (HF.out W (BLW.out W hW)).top
    exact ⟨b.cell rfl, b.cell rfl, b.cell rfl, b.cell rfl, b.cell rfl, b.cell rfl, b.cell rfl, b.cell rfl, b.cell rfl, q.2.2.1, q.2.2.2⟩
  have ALLS := Lib.hid alls
  clear alls
  have hneA : W0.heap.size ≠ hb0 := by omega
  have hneB : W0.heap.size ≠ a := by omega
  have hs1 : hb0 < W0.heap.size := by omega
  clear hs0 hhb0
  go_cut [8, 9] (fun v e wx => ∃ gx A8 n8 c8, v = .pointer (some ⟨gx, 0, none⟩) ∧ e = .int .i64 E ∧ Hid (BX wx gx 44 #[.string P, .int .i64 K, .int .i64 M, .int .i64 U, .int .i64 G, .int .i64 TT, .string L, .slice A8 n8 c8]) ∧ Hid (Below W0.heap.size W0 wx))
  case first =>
    have hacc : Below W0.heap.size W0 W0.drew := below_drewN (Below.refl _ _) 1
    obtain ⟨y0, y1, y2, y3, y4, y5, y6, y7, y8, y9, y10⟩ := ALLS.out _ hacc
    obtain ⟨x0, x1, x2, x3, x4, x5, x6, x7, x8, x9, x10⟩ := ALLS.out _ (Below.refl W0.heap.size W0)
    go_region_held3 (fun w' => w'.cell? ⟨hb0, 0, none⟩ = some (.string p) ∧ w'.cell? ⟨hb0, 1, none⟩ = some (.string nm) ∧ w'.cell? ⟨hb0, 2, none⟩ = some (.int .i64 m) ∧ w'.cell? ⟨hb0, 3, none⟩ = some (.int .i64 u) ∧ w'.cell? ⟨hb0, 4, none⟩ = some (.int .i64 g) ∧ w'.cell? ⟨hb0, 5, none⟩ = some (.int .i64 t) ∧ w'.cell? ⟨hb0, 6, none⟩ = some (.int .i64 z) ∧ w'.cell? ⟨hb0, 7, none⟩ = some (.int .u8 k) ∧ w'.cell? ⟨hb0, 8, none⟩ = some (.string l) ∧ w'.cell? ⟨a, 4626, none⟩ = some (.slice Aa na ca) ∧ w'.cell? ⟨a, 4627, none⟩ = some (.slice An nn cn)) (first | go_keep | (exact ALLS.out _ hacc) | (exact ALLS.out _ (hacc.alloc hacc.size _)) | (exact ALLS.out _ (mb_new W0 _).drew)) (first
      | (go_at_call 92; (with_reducible refine (JO.out _ (by first | exact BLW.out _ (below_drewN (Below.refl _ _) 1) | exact BLW.out _ (mb_new W0 _).drew)).mono ?_); rintro e w1 ⟨v1, rfl, hro1, hb1⟩; obtain ⟨A1, c1, rfl, hr1, _, _⟩ := RO.rlv hro1; (first
          | (have hh : Below W0.heap.size W0 w1 := (below_drewN (Below.refl W0.heap.size W0) 1).trans hb1; replace hacc := hh)
          | (have bz1 : BX w1 W0.heap.size 44 #[.string ⟨#[]⟩, .int .i64 0, .int .i64 0, .int .i64 0, .int .i64 0, .int .i64 0, .string ⟨#[]⟩, .slice none 0 0] := (bx_new_drew W0 _ _).later hb1; have hh : Below W0.heap.size W0 w1 := ((mb_new W0 (.cells #[.string ⟨#[]⟩, .int .i64 0, .int .i64 0, .int .i64 0, .int .i64 0, .int .i64 0, .string ⟨#[]⟩, .slice none 0 0] 44)).drew).trans (hb1.mono (by simp)); replace hacc := hh)); have FROM1 := Lib.hid (fun W hb => FRO.out w1 A1 c1 hr1 (BLW.out _ hacc) W hb); have hne1 : w1.heap.size ≠ hb0 := (by have h1 := hacc.size; omega); have hne2 : w1.heap.size ≠ a := (by have h1 := hacc.size; omega); have hw01 : W0.heap.size ≤ w1.heap.size := hacc.size; clear hr1 hb1 hro1)
      | (go_at_call 93; (with_reducible refine (FROM1.out _ (by first | exact Below.refl _ _ | exact mb_new _ _)).mono ?_); rintro e w2 ⟨A8, n8, c8, rfl, _, _, _, _, hb8⟩; (first
          | (have bz2 : BX w2 W0.heap.size 44 #[.string ⟨#[]⟩, .int .i64 0, .int .i64 0, .int .i64 0, .int .i64 0, .int .i64 0, .string ⟨#[]⟩, .slice none 0 0] := bz1.later hb8; have hbb : Below w1.heap.size w1 w2 := hb8; have z0 : w2.cell? ⟨W0.heap.size, 0, none⟩ = some (.string ⟨#[]⟩) := (bz2).cell rfl; have f0 := (bz2).free 0; have z1 : w2.cell? ⟨W0.heap.size, 1, none⟩ = some (.int .i64 0) := (bz2).cell rfl; have f1 := (bz2).free 1; have z2 : w2.cell? ⟨W0.heap.size, 2, none⟩ = some (.int .i64 0) := (bz2).cell rfl; have f2 := (bz2).free 2; have z3 : w2.cell? ⟨W0.heap.size, 3, none⟩ = some (.int .i64 0) := (bz2).cell rfl; have f3 := (bz2).free 3; have z4 : w2.cell? ⟨W0.heap.size, 4, none⟩ = some (.int .i64 0) := (bz2).cell rfl; have f4 := (bz2).free 4; have z5 : w2.cell? ⟨W0.heap.size, 5, none⟩ = some (.int .i64 0) := (bz2).cell rfl; have f5 := (bz2).free 5; have z6 : w2.cell? ⟨W0.heap.size, 6, none⟩ = some (.string ⟨#[]⟩) := (bz2).cell rfl; have f6 := (bz2).free 6; have z7 : w2.cell? ⟨W0.heap.size, 7, none⟩ = some (.slice none 0 0) := (bz2).cell rfl; have f7 := (bz2).free 7)
          | (have bz2 : BX w2 w1.heap.size 44 #[.string ⟨#[]⟩, .int .i64 0, .int .i64 0, .int .i64 0, .int .i64 0, .int .i64 0, .string ⟨#[]⟩, .slice none 0 0] := (BX.new w1 _ _).later hb8; have hbb : Below w1.heap.size w1 w2 := (mb_new w1 (.cells #[.string ⟨#[]⟩, .int .i64 0, .int .i64 0, .int .i64 0, .int .i64 0, .int .i64 0, .string ⟨#[]⟩, .slice none 0 0] 44)).trans (hb8.mono (by simp)); have z0 : w2.cell? ⟨w1.heap.size, 0, none⟩ = some (.string ⟨#[]⟩) := (bz2).cell rfl; have f0 := (bz2).free 0; have z1 : w2.cell? ⟨w1.heap.size, 1, none⟩ = some (.int .i64 0) := (bz2).cell rfl; have f1 := (bz2).free 1; have z2 : w2.cell? ⟨w1.heap.size, 2, none⟩ = some (.int .i64 0) := (bz2).cell rfl; have f2 := (bz2).free 2; have z3 : w2.cell? ⟨w1.heap.size, 3, none⟩ = some (.int .i64 0) := (bz2).cell rfl; have f3 := (bz2).free 3; have z4 : w2.cell? ⟨w1.heap.size, 4, none⟩ = some (.int .i64 0) := (bz2).cell rfl; have f4 := (bz2).free 4; have z5 : w2.cell? ⟨w1.heap.size, 5, none⟩ = some (.int .i64 0) := (bz2).cell rfl; have f5 := (bz2).free 5; have z6 : w2.cell? ⟨w1.heap.size, 6, none⟩ = some (.string ⟨#[]⟩) := (bz2).cell rfl; have f6 := (bz2).free 6; have z7 : w2.cell? ⟨w1.heap.size, 7, none⟩ = some (.slice none 0 0) := (bz2).cell rfl; have f7 := (bz2).free 7)
          | (have hbb : Below w1.heap.size w1 w2 := hb8)); replace hacc := hacc.trans (hbb.mono hw01); clear hb8))
    all_goals
      go_wp2
      go_meet
      first
        | exact ⟨_, A8, n8, c8, rfl, rfl, bz2.set8 _ _ _ _ _ _ _ _, bset8 hacc (by omega) _ _ _ _ _ _ _ _⟩
        | exact ⟨w2.heap.size, A8, n8, c8, rfl, rfl, BX.new _ _ _, hacc.alloc hacc.size _⟩
  case rest =>
    obtain ⟨gx, A8, n8, c8, rfl, rfl, BX8, HB8⟩ := hcut
    have HBC := Lib.hid (BLW.out _ HB8.out)
    have HFC := Lib.hid (HF.out _ HBC.out)
    have hB9 := HBZ.out
    clear FRO JO HF ALLS
    by_cases hE0 : E = 0
    · have hP := HP0.out hE0
      subst hE0
      have q4 := HFC.out.lo.2.2.2.2.1
      by_cases h64 : s.ct = 64
      · have h64' : (s.ct : Int) = 64 := by omega
        have HR2 := Lib.hid (show R = (s, [], 5) by rw [HR.out, if_pos rfl, if_pos h64])
        clear h64 HR
        go_wp2
        go_ret2
        rw [HR2.out]
        exact ⟨_, rfl, PR.nil _ _, ⟨_, _, HFC.out⟩, Oth.ofBelow HBC.out⟩
      · have HR2 := Lib.hid (show R = ({ s with nx := [], ct := s.ct + 1, mrk := s.fr }, [Mb.fP RS p nm], 0) by rw [HR.out, if_pos rfl, if_neg h64])
        clear HR
        have h64' : ¬ (s.ct : Int) = 64 := by omega
        have h64b : ((s.ct : Int) == 64) = false := by simp; omega
        have h64c : (s.ct : Int) + 1 ≤ 100 := by omega
        have q2 := HFC.out.lo.2.2.1
        have q3 := HFC.out.lo.2.2.2.1
        have q9 := HFC.out.top.2.2.2
        have e9 := HFC.out.box.free 4627
        have e4 := HFC.out.box.free 4
        have e3 := HFC.out.box.free 3
        have hgx := BX8.out
        have hga : gx ≠ a := by
          rintro rfl
          have h1 := HFC.out.box
          unfold BX at hgx h1
          rw [hgx] at h1
          cases h1
        have g0 : wc.cell? ⟨gx, 0, none⟩ = some (.string P) := BX8.out.cell rfl
        have g1 : wc.cell? ⟨gx, 1, none⟩ = some (.int .i64 K) := BX8.out.cell rfl
        have g2 : wc.cell? ⟨gx, 2, none⟩ = some (.int .i64 M) := BX8.out.cell rfl
        have g3 : wc.cell? ⟨gx, 3, none⟩ = some (.int .i64 U) := BX8.out.cell rfl
        have g4 : wc.cell? ⟨gx, 4, none⟩ = some (.int .i64 G) := BX8.out.cell rfl
        have g5 : wc.cell? ⟨gx, 5, none⟩ = some (.int .i64 TT) := BX8.out.cell rfl
        have g6 : wc.cell? ⟨gx, 6, none⟩ = some (.string L) := BX8.out.cell rfl
        have g7 : wc.cell? ⟨gx, 7, none⟩ = some (.slice A8 n8 c8) := BX8.out.cell rfl
        have f1 := HFC.out.set_nx (.slice none 0 0) [] (World.ownsRow_nil _ _ _ _)
        have f2 := f1.set_lo 4 (.int .i64 ((s.ct + 1 : Nat) : Int)) { s with nx := [], ct := s.ct + 1 } (by decide) rfl rfl rfl rfl rfl
        have f3 := f2.set_lo 3 (.int .i64 (s.fr : Int)) { s with nx := [], ct := s.ct + 1, mrk := s.fr } (by decide) rfl rfl rfl rfl rfl
        have hbf : Oth a w ((((wc.setCell ⟨a, 4627, none⟩ (.slice none 0 0)).setCell ⟨a, 4, none⟩ (.int .i64 ((s.ct + 1 : Nat) : Int))).setCell ⟨a, 3, none⟩ (.int .i64 (s.fr : Int)))) := (((Oth.ofBelow HBC.out).setCell 4627 _).setCell 4 _).setCell 3 _
        have F3 := Lib.hid f3
        have HBF := Lib.hid hbf
        have HPP := Lib.hid hP
        clear f1 f2 f3 hbf h64 hgx hP
        go_upto_region 9 with (fail)
        have hcast : ((s.ct : Int) + 1) = ((s.ct + 1 : Nat) : Int) := by omega
        rw [hcast]
        obtain ⟨W9, hW9⟩ : ∃ W9, W9 = ((wc.setCell ⟨a, 4627, none⟩ (.slice none 0 0)).setCell ⟨a, 4, none⟩ (.int .i64 ((s.ct + 1 : Nat) : Int))).setCell ⟨a, 3, none⟩ (.int .i64 (s.fr : Int)) := ⟨_, rfl⟩
        have hw9 : w.heap.size ≤ W9.heap.size := by rw [hW9]; have := HBC.out.size; simpa [World.setCell] using this
        rw [← hW9] at F3 HBF ⊢
        have hb9 : BX W9 gx 44 #[.string P, .int .i64 K, .int .i64 M, .int .i64 U, .int .i64 G, .int .i64 TT, .string L, .slice A8 n8 c8] := by rw [hW9]; exact ((BX8.out.other hga _).other hga _).other hga _
        clear hW9 q2 q3 q4 q9 e9 e4 e3 g0 g1 g2 g3 g4 g5 g6 g7
        have r0 : W9.cell? ⟨gx, 0, none⟩ = some (.string P) := hb9.cell rfl
        have r1 : W9.cell? ⟨gx, 1, none⟩ = some (.int .i64 K) := hb9.cell rfl
        have r2 : W9.cell? ⟨gx, 2, none⟩ = some (.int .i64 M) := hb9.cell rfl
        have r3 : W9.cell? ⟨gx, 3, none⟩ = some (.int .i64 U) := hb9.cell rfl
        have r4 : W9.cell? ⟨gx, 4, none⟩ = some (.int .i64 G) := hb9.cell rfl
        have r5 : W9.cell? ⟨gx, 5, none⟩ = some (.int .i64 TT) := hb9.cell rfl
        have r6 : W9.cell? ⟨gx, 6, none⟩ = some (.string L) := hb9.cell rfl
        have r7 : W9.cell? ⟨gx, 7, none⟩ = some (.slice A8 n8 c8) := hb9.cell rfl
        go_wp2
        go_ret2
        rw [HR2.out]
        refine ⟨_, rfl, ⟨[⟨P, L, K, M, U, G, TT, A8, n8, c8, [], 0⟩], ?_, by rw [← HPP.out]; rfl⟩, ⟨_, _, F3.out.below (mb_new _ _)⟩, HBF.out.trans (Oth.ofBelow (mb_new _ _))⟩
        exact row_one8 (T := 44) W9 w.heap.size (Go.Proofs.YtjofdgjcbjdhbaaGreatDoor.c8 ⟨P, L, K, M, U, G, TT, A8, n8, c8, [], 0⟩) rfl hw9
    · have hE' : (E != 0) = true := by simpa using hE0
      have HR2 := Lib.hid (show R = (s, [], E) by rw [HR.out, if_neg hE0])
      clear hE0 HR
      go_wp2
      go_ret2
      rw [HR2.out]
      exact ⟨_, rfl, PR.nil _ _, ⟨_, _, HFC.out⟩, Oth.ofBelow HBC.out⟩
end
end Go.Proofs.YtjofdgjcbjdhbaaGreatDoor
/- WALKS OF LAYER 10, NINTH PART: scan. By gen_f10i.py. -/
namespace Go.Proofs.YtjofdgjcbjdhbaaGreatDoor
open Go Go.RowKit
set_option maxHeartbeats 32000000
set_option maxRecDepth 100000
set_option linter.unusedVariables false
section
variable {w : World} {B a : Nat} {al nx : Value} {s : Fd.S}
theorem fscan_err {N : Nat} (h : Fs w B a al nx s) (hB : B ≤ w.heap.size) (hok : Fd.Ok N s) (he : (Fd.meas s).2 ≠ 0) :
    Calls Tryz.prog 40 #[.pointer (some ⟨a, 0, none⟩)] w fun e w' => ∃ v, e = .returned (.tuple #[v, .int .i64 (Fd.scan s).2.2]) ∧ PR w' w.heap.size v (Fd.scan s).2.1 ∧ (∃ al' nx', Fs w' B a al' nx' (Fd.scan s).1) ∧ Oth a w w' := by
  have hR : Fd.scan s = ((Fd.meas s).1, [], (Fd.meas s).2) := by unfold Fd.scan; rw [if_neg he]
  rw [hR]
  have MEA := Lib.hid (measure_any10 h hB hok)
  generalize (Fd.meas s).1 = s1 at *
  generalize (Fd.meas s).2 = E at *
  have hE : (E != 0) = true := by simpa using he
  clear he hR h
  go_enter Tryz.func40, Tryz.ntmps40
  go_wp2_with (go_at_call 58; (with_reducible refine (MEA.out).mono ?_); rintro e w1 ⟨rfl, hf1, hb1⟩; have HF1 := Lib.hid hf1; have HB1 := Lib.hid hb1; clear hf1 hb1)
  go_ret2
  exact ⟨_, rfl, PR.nil _ _, ⟨_, _, HF1.out⟩, HB1.out⟩
theorem fscan_lacks {N : Nat} (h : Fs w B a al nx s) (hB : B ≤ w.heap.size) (hok : Fd.Ok N s) (he : (Fd.meas s).2 = 0) (hl : (Fd.meas s).1.has < (Fd.meas s).1.nd) :
    Calls Tryz.prog 40 #[.pointer (some ⟨a, 0, none⟩)] w fun e w' => ∃ v, e = .returned (.tuple #[v, .int .i64 (Fd.scan s).2.2]) ∧ PR w' w.heap.size v (Fd.scan s).2.1 ∧ (∃ al' nx', Fs w' B a al' nx' (Fd.scan s).1) ∧ Oth a w w' := by
  have hR : Fd.scan s = ((Fd.meas s).1, [], 0) := by unfold Fd.scan; rw [if_pos he, if_pos hl]
  rw [hR]
  have MEA := Lib.hid (measure_any10 h hB hok)
  rw [he] at MEA
  generalize (Fd.meas s).1 = s1 at *
  have LK := Lib.hid (show decide (s1.has < s1.nd) = true by simpa using hl)
  have HBZ := Lib.hid hB
  clear he hR h hl
  go_enter Tryz.func40, Tryz.ntmps40
  go_wp2_with (first
    | (go_at_call 58; (with_reducible refine (MEA.out).mono ?_); rintro e w1 ⟨rfl, hf1, hb1⟩; have HF1 := Lib.hid hf1; have HB1 := Lib.hid hb1; clear hf1 hb1)
    | (go_at_call 39; (with_reducible refine (lacks_any10 HF1.out.top.1 HF1.out.top.2.1).mono ?_); rintro e w2 ⟨rfl, hb2⟩; have HF2 := Lib.hid (HF1.out.below hb2); have HB2 := Lib.hid (HB1.out.trans (Oth.ofBelow hb2)); rw [LK.out]; clear hb2))
  go_ret2
  exact ⟨_, rfl, PR.nil _ _, ⟨_, _, HF2.out⟩, HB2.out⟩
theorem fscan_end {N : Nat} (h : Fs w B a al nx s) (hB : B ≤ w.heap.size) (tb : ∀ W, Below B w W → Tab W) (hok : Fd.Ok N s) (hN : N ≤ 100000) (hw : s.has = s.nd) (he : (Fd.meas s).2 = 0) (hl : ¬ (Fd.meas s).1.has < (Fd.meas s).1.nd) (p nm l : ByteArray) (m u g t : Int) (z : Nat) (hhd : (Fd.meas s).1.h = ⟨p, nm, l, m, u, g, t, (z : Int), 0⟩) :
    Calls Tryz.prog 40 #[.pointer (some ⟨a, 0, none⟩)] w fun e w' => ∃ v, e = .returned (.tuple #[v, .int .i64 (Fd.scan s).2.2]) ∧ PR w' w.heap.size v (Fd.scan s).2.1 ∧ (∃ al' nx', Fs w' B a al' nx' (Fd.scan s).1) ∧ Oth a w w' := by
  obtain ⟨R, hR⟩ : ∃ R, R = Fd.scan s := ⟨_, rfl⟩
  rw [← hR]
  unfold Fd.scan at hR
  rw [if_pos he, if_neg hl, hhd] at hR
  obtain ⟨o1, o2, o3, o4⟩ := Fd.ok_meas hok hw
  obtain ⟨k1, k2⟩ := o2 he
  have MEA := Lib.hid (measure_any10 h hB hok)
  rw [he] at MEA
  have hdl := Fd.dat_len _ k1.2.1
  have hdb : Byt (Fd.dat (Fd.meas s).1) := Ar.byt_cut o1.byt _ _
  generalize (Fd.meas s).1 = s1 at *
  have HHD := Lib.hid hhd
  have HZ := Lib.hid (show z ≤ 4096 by have := k1.2.1; rw [hhd] at this; have h9 : (z : Int) ≤ 4096 := this; omega)
  have HSZ := Lib.hid (show p.size ≤ 1000 ∧ nm.size ≤ 1000 ∧ l.size ≤ 1000 by have := k1.2.2; rw [hhd] at this; exact this)
  have LK := Lib.hid (show decide (s1.has < s1.nd) = false by simpa using hl)
  have HNB := Lib.hid (show (s1.fr : Int) + s1.has ≤ 100000 by have h1 := o1.fa; have h2 := o1.an; omega)
  have HBA := Lib.hid h.ba
  have HBZ := Lib.hid hB
  have HOK := Lib.hid (Fd.ok_next o1)
  have HDL := Lib.hid hdl
  have HAL := Lib.hid (show (Fd.next s1).al.length ≤ 50000 by have := (Fd.ok_next o1).al.1; omega)
  have HNL := Lib.hid (show (Fd.next s1).nx.length ≤ 50000 by have := (Fd.ok_next o1).nx.1; omega)
  have HPL := Lib.hid (show (Rc.parse (Ar.toB (Fd.dat s1))).1.length ≤ 50000 by have := (Fd.par_ok _ hdl).1; omega)
  have HRV := Lib.hid (show ∀ r ∈ (Fd.next s1).al ++ (Fd.next s1).nx, r.2.size ≤ 100000 from fun r hr => by
    rcases List.mem_append.1 hr with h9 | h9
    · exact Nat.le_trans ((Fd.ok_next o1).al.2 r h9) (by decide)
    · exact Nat.le_trans ((Fd.ok_next o1).nx.2 r h9) (by decide))
  have HFQ := Lib.hid (show (Fd.next s1).fr ≤ 100000 by have h1 := (Fd.ok_next o1).fa; have h2 := (Fd.ok_next o1).an; omega)
  have HYB := Lib.hid hdb
  have HDN := Lib.hid (show (Fd.dat s1).length = z → z ≤ 100000 by intro _; have := HZ.out; omega)
  have TB := Lib.hid tb
  have HR := Lib.hid hR
  rw [show Fd.body (Fd.next s1) ⟨p, nm, l, m, u, g, t, (z : Int), 0⟩ (Fd.dat s1) = ((Fd.endS (Fd.next s1) (Fd.dat s1)).1, [], (Fd.endS (Fd.next s1) (Fd.dat s1)).2) from if_pos rfl] at HR
  clear h hB hok o1 o2 o3 o4 k1 k2 hl hhd tb hw he hdl hdb hR
  go_enter Tryz.func40, Tryz.ntmps40
  go_upto_region 5 with (first
    | (go_at_call 58; (with_reducible refine (MEA.out).mono ?_); rintro e w1 ⟨rfl, hf1, hb1⟩; have HF1 := Lib.hid hf1; have HB1 := Lib.hid hb1; clear hf1 hb1)
    | (go_at_call 39; (with_reducible refine (lacks_any10 HF1.out.top.1 HF1.out.top.2.1).mono ?_); rintro e w2 ⟨rfl, hb2⟩; have HF2 := Lib.hid (HF1.out.below hb2); have HB2 := Lib.hid (HB1.out.trans (Oth.ofBelow hb2)); rw [LK.out]; clear hb2)
    | (go_at_call 59; (with_reducible refine (parts_any10 HF2.out p nm l m u g t _ z HHD.out HZ.out).mono ?_); rintro e w3 ⟨rfl, hb3⟩; have HF3 := Lib.hid (HF2.out.below hb3); have HB3 := Lib.hid (HB2.out.trans (Oth.ofBelow hb3)); clear hb3))
  obtain ⟨W4, hW4⟩ : ∃ W4, W4 = w3.alloc (.cells #[.string p, .string nm, .int .i64 m, .int .i64 u, .int .i64 g, .int .i64 t, .int .i64 (z : Int), .int .u8 0, .string l] 64) := ⟨_, rfl⟩
  rw [← hW4]
  have HBX4 := Lib.hid (show BX W4 w3.heap.size 64 #[.string p, .string nm, .int .i64 m, .int .i64 u, .int .i64 g, .int .i64 t, .int .i64 (z : Int), .int .u8 0, .string l] by rw [hW4]; exact BX.new _ _ _)
  have HF4 := Lib.hid (show Fs W4 B a al nx s1 by rw [hW4]; exact HF3.out.below (mb_new _ _))
  have HB4 := Lib.hid (show Oth a w W4 by rw [hW4]; exact HB3.out.trans (Oth.ofBelow (mb_new _ _)))
  have hgba : w3.heap.size ≠ a := by have := HF3.out.box.lt; omega
  clear hW4
  generalize w3.heap.size = gb at *
  have c2 := HF4.out.lo.2.2.1
  have c15 := HF4.out.top.1
  have e2 := HF4.out.box.free 2
  have hf5 : ∀ j, Fs ((W4.drewN j).setCell ⟨a, 2, none⟩ (.int .i64 ((s1.fr + s1.has : Nat) : Int))) B a al nx { s1 with fr := s1.fr + s1.has } := fun j => (HF4.out.below (below_drewN (Below.refl _ _) j)).set_lo 2 (.int .i64 ((s1.fr + s1.has : Nat) : Int)) { s1 with fr := s1.fr + s1.has } (by decide) rfl rfl rfl rfl rfl
  have HFF := Lib.hid hf5
  have HBB := Lib.hid (fun j => ((HB4.out.trans (Oth.ofBelow (below_drewN (Below.refl _ W4) j))).setCell 2 (.int .i64 ((s1.fr + s1.has : Nat) : Int)) : Oth a w _))
  have HXX := Lib.hid (fun j => ((HBX4.out.drewN j).other hgba (.int .i64 ((s1.fr + s1.has : Nat) : Int)) : BX ((W4.drewN j).setCell ⟨a, 2, none⟩ (.int .i64 ((s1.fr + s1.has : Nat) : Int))) gb 64 #[.string p, .string nm, .int .i64 m, .int .i64 u, .int .i64 g, .int .i64 t, .int .i64 (z : Int), .int .u8 0, .string l]))
  have hsum : IntKind.i64.wrap ((s1.fr : Int) + (s1.has : Int)) = (s1.fr : Int) + (s1.has : Int) := by have := HNB.out; go_arith
  clear hf5
  go_still_tail 12, (by kernel_rfl)
  go_upto_region 6 with (fail)
  obtain ⟨W5, hW5⟩ : ∃ W5, W5 = (W4.drewN 1).setCell ⟨a, 2, none⟩ (.int .i64 ((s1.fr + s1.has : Nat) : Int)) := ⟨_, rfl⟩
  have HF5 := Lib.hid (show Fs W5 B a al nx { s1 with fr := s1.fr + s1.has } by rw [hW5]; exact HFF.out 1)
  have HB5 := Lib.hid (show Oth a w W5 by rw [hW5]; exact HBB.out 1)
  have HBX5 := Lib.hid (show BX W5 gb 64 #[.string p, .string nm, .int .i64 m, .int .i64 u, .int .i64 g, .int .i64 t, .int .i64 (z : Int), .int .u8 0, .string l] by rw [hW5]; exact HXX.out 1)
  first
    | (rw [show ((s1.fr : Int) + (s1.has : Int)) = ((s1.fr + s1.has : Nat) : Int) from rfl, show W4.drew = W4.drewN 1 from rfl, ← hW5])
    | (change Code.wp _ _ _ _ ((W4.drewN 1).setCell ⟨a, 2, none⟩ (.int .i64 ((s1.fr + s1.has : Nat) : Int))); rw [← hW5])
  clear hW5 HFF HBB HXX c2 c15 e2 hsum
  go_upto_region 7 with ((go_at_call 34; (with_reducible refine (clear_any10 HF5.out).mono ?_); rintro e w6 ⟨rfl, hf6, ho6⟩; have HF6 := Lib.hid (show Fs w6 B a al nx (Fd.next s1) from hf6); have HB6 := Lib.hid (HB5.out.trans ho6); have HX6 := Lib.hid (HBX5.out.oth ho6 hgba); clear hf6 ho6))
  have x0 : w6.cell? ⟨gb, 0, none⟩ = some (.string p) := HX6.out.cell rfl
  have x1 : w6.cell? ⟨gb, 1, none⟩ = some (.string nm) := HX6.out.cell rfl
  have x2 : w6.cell? ⟨gb, 2, none⟩ = some (.int .i64 m) := HX6.out.cell rfl
  have x3 : w6.cell? ⟨gb, 3, none⟩ = some (.int .i64 u) := HX6.out.cell rfl
  have x4 : w6.cell? ⟨gb, 4, none⟩ = some (.int .i64 g) := HX6.out.cell rfl
  have x5 : w6.cell? ⟨gb, 5, none⟩ = some (.int .i64 t) := HX6.out.cell rfl
  have x6 : w6.cell? ⟨gb, 6, none⟩ = some (.int .i64 (z : Int)) := HX6.out.cell rfl
  have x7 : w6.cell? ⟨gb, 7, none⟩ = some (.int .u8 0) := HX6.out.cell rfl
  have x8 : w6.cell? ⟨gb, 8, none⟩ = some (.string l) := HX6.out.cell rfl
  have HYA := Lib.hid (show RB w6 w6.heap.size (some ⟨a, 519, none⟩) z (Fd.dat s1) from by
    have h9 := HF6.out.buf 512 z (by have := HZ.out; omega)
    have hz9 : s1.h.z.toNat = z := by rw [HHD.out]; exact Int.toNat_natCast _
    unfold Fd.dat
    rw [hz9]
    exact h9)
  go_wp2_with (go_at_call 60; (with_reducible refine (fend_any10 HF6.out (Nat.le_trans HBZ.out HB6.out.size10) _ z _ _ HYA.out).mono ?_); rintro e w7 ⟨rfl, ⟨al7, hf7⟩, hb7⟩; have HF7 := Lib.hid hf7; have HB7 := Lib.hid (HB6.out.trans hb7); clear hf7 hb7)
  go_ret2
  rw [HR.out]
  exact ⟨_, rfl, PR.nil _ _, ⟨_, _, HF7.out⟩, HB7.out⟩
theorem fscan_wait {N : Nat} (h : Fs w B a al nx s) (hB : B ≤ w.heap.size) (tb : ∀ W, Below B w W → Tab W) (hok : Fd.Ok N s) (hN : N ≤ 100000) (hw : s.has = s.nd) (he : (Fd.meas s).2 = 0) (hl : ¬ (Fd.meas s).1.has < (Fd.meas s).1.nd) (p nm l : ByteArray) (m u g t : Int) (z : Nat) (hhd : (Fd.meas s).1.h = ⟨p, nm, l, m, u, g, t, (z : Int), 120⟩) :
    Calls Tryz.prog 40 #[.pointer (some ⟨a, 0, none⟩)] w fun e w' => ∃ v, e = .returned (.tuple #[v, .int .i64 (Fd.scan s).2.2]) ∧ PR w' w.heap.size v (Fd.scan s).2.1 ∧ (∃ al' nx', Fs w' B a al' nx' (Fd.scan s).1) ∧ Oth a w w' := by
  obtain ⟨R, hR⟩ : ∃ R, R = Fd.scan s := ⟨_, rfl⟩
  rw [← hR]
  unfold Fd.scan at hR
  rw [if_pos he, if_neg hl, hhd] at hR
  obtain ⟨o1, o2, o3, o4⟩ := Fd.ok_meas hok hw
  obtain ⟨k1, k2⟩ := o2 he
  have MEA := Lib.hid (measure_any10 h hB hok)
  rw [he] at MEA
  have hdl := Fd.dat_len _ k1.2.1
  have hdb : Byt (Fd.dat (Fd.meas s).1) := Ar.byt_cut o1.byt _ _
  generalize (Fd.meas s).1 = s1 at *
  have HHD := Lib.hid hhd
  have HZ := Lib.hid (show z ≤ 4096 by have := k1.2.1; rw [hhd] at this; have h9 : (z : Int) ≤ 4096 := this; omega)
  have HSZ := Lib.hid (show p.size ≤ 1000 ∧ nm.size ≤ 1000 ∧ l.size ≤ 1000 by have := k1.2.2; rw [hhd] at this; exact this)
  have LK := Lib.hid (show decide (s1.has < s1.nd) = false by simpa using hl)
  have HNB := Lib.hid (show (s1.fr : Int) + s1.has ≤ 100000 by have h1 := o1.fa; have h2 := o1.an; omega)
  have HBA := Lib.hid h.ba
  have HBZ := Lib.hid hB
  have HOK := Lib.hid (Fd.ok_next o1)
  have HDL := Lib.hid hdl
  have HAL := Lib.hid (show (Fd.next s1).al.length ≤ 50000 by have := (Fd.ok_next o1).al.1; omega)
  have HNL := Lib.hid (show (Fd.next s1).nx.length ≤ 50000 by have := (Fd.ok_next o1).nx.1; omega)
  have HPL := Lib.hid (show (Rc.parse (Ar.toB (Fd.dat s1))).1.length ≤ 50000 by have := (Fd.par_ok _ hdl).1; omega)
  have HRV := Lib.hid (show ∀ r ∈ (Fd.next s1).al ++ (Fd.next s1).nx, r.2.size ≤ 100000 from fun r hr => by
    rcases List.mem_append.1 hr with h9 | h9
    · exact Nat.le_trans ((Fd.ok_next o1).al.2 r h9) (by decide)
    · exact Nat.le_trans ((Fd.ok_next o1).nx.2 r h9) (by decide))
  have HFQ := Lib.hid (show (Fd.next s1).fr ≤ 100000 by have h1 := (Fd.ok_next o1).fa; have h2 := (Fd.ok_next o1).an; omega)
  have HYB := Lib.hid hdb
  have HDN := Lib.hid (show (Fd.dat s1).length = z → z ≤ 100000 by intro _; have := HZ.out; omega)
  have TB := Lib.hid tb
  have HR := Lib.hid hR
  rw [show Fd.body (Fd.next s1) ⟨p, nm, l, m, u, g, t, (z : Int), 120⟩ (Fd.dat s1) = ((Fd.waitS (Fd.next s1) (Fd.dat s1)).1, [], (Fd.waitS (Fd.next s1) (Fd.dat s1)).2) from (if_neg (show ¬ (120 : Int) = 0 by omega)).trans (if_pos rfl)] at HR
  clear h hB hok o1 o2 o3 o4 k1 k2 hl hhd tb hw he hdl hdb hR
  go_enter Tryz.func40, Tryz.ntmps40
  go_upto_region 5 with (first
    | (go_at_call 58; (with_reducible refine (MEA.out).mono ?_); rintro e w1 ⟨rfl, hf1, hb1⟩; have HF1 := Lib.hid hf1; have HB1 := Lib.hid hb1; clear hf1 hb1)
    | (go_at_call 39; (with_reducible refine (lacks_any10 HF1.out.top.1 HF1.out.top.2.1).mono ?_); rintro e w2 ⟨rfl, hb2⟩; have HF2 := Lib.hid (HF1.out.below hb2); have HB2 := Lib.hid (HB1.out.trans (Oth.ofBelow hb2)); rw [LK.out]; clear hb2)
    | (go_at_call 59; (with_reducible refine (parts_any10 HF2.out p nm l m u g t _ z HHD.out HZ.out).mono ?_); rintro e w3 ⟨rfl, hb3⟩; have HF3 := Lib.hid (HF2.out.below hb3); have HB3 := Lib.hid (HB2.out.trans (Oth.ofBelow hb3)); clear hb3))
  obtain ⟨W4, hW4⟩ : ∃ W4, W4 = w3.alloc (.cells #[.string p, .string nm, .int .i64 m, .int .i64 u, .int .i64 g, .int .i64 t, .int .i64 (z : Int), .int .u8 120, .string l] 64) := ⟨_, rfl⟩
  rw [← hW4]
  have HBX4 := Lib.hid (show BX W4 w3.heap.size 64 #[.string p, .string nm, .int .i64 m, .int .i64 u, .int .i64 g, .int .i64 t, .int .i64 (z : Int), .int .u8 120, .string l] by rw [hW4]; exact BX.new _ _ _)
  have HF4 := Lib.hid (show Fs W4 B a al nx s1 by rw [hW4]; exact HF3.out.below (mb_new _ _))
  have HB4 := Lib.hid (show Oth a w W4 by rw [hW4]; exact HB3.out.trans (Oth.ofBelow (mb_new _ _)))
  have hgba : w3.heap.size ≠ a := by have := HF3.out.box.lt; omega
  clear hW4
  generalize w3.heap.size = gb at *
  have c2 := HF4.out.lo.2.2.1
  have c15 := HF4.out.top.1
  have e2 := HF4.out.box.free 2
  have hf5 : ∀ j, Fs ((W4.drewN j).setCell ⟨a, 2, none⟩ (.int .i64 ((s1.fr + s1.has : Nat) : Int))) B a al nx { s1 with fr := s1.fr + s1.has } := fun j => (HF4.out.below (below_drewN (Below.refl _ _) j)).set_lo 2 (.int .i64 ((s1.fr + s1.has : Nat) : Int)) { s1 with fr := s1.fr + s1.has } (by decide) rfl rfl rfl rfl rfl
  have HFF := Lib.hid hf5
  have HBB := Lib.hid (fun j => ((HB4.out.trans (Oth.ofBelow (below_drewN (Below.refl _ W4) j))).setCell 2 (.int .i64 ((s1.fr + s1.has : Nat) : Int)) : Oth a w _))
  have HXX := Lib.hid (fun j => ((HBX4.out.drewN j).other hgba (.int .i64 ((s1.fr + s1.has : Nat) : Int)) : BX ((W4.drewN j).setCell ⟨a, 2, none⟩ (.int .i64 ((s1.fr + s1.has : Nat) : Int))) gb 64 #[.string p, .string nm, .int .i64 m, .int .i64 u, .int .i64 g, .int .i64 t, .int .i64 (z : Int), .int .u8 120, .string l]))
  have hsum : IntKind.i64.wrap ((s1.fr : Int) + (s1.has : Int)) = (s1.fr : Int) + (s1.has : Int) := by have := HNB.out; go_arith
  clear hf5
  go_still_tail 12, (by kernel_rfl)
  go_upto_region 6 with (fail)
  obtain ⟨W5, hW5⟩ : ∃ W5, W5 = (W4.drewN 1).setCell ⟨a, 2, none⟩ (.int .i64 ((s1.fr + s1.has : Nat) : Int)) := ⟨_, rfl⟩
  have HF5 := Lib.hid (show Fs W5 B a al nx { s1 with fr := s1.fr + s1.has } by rw [hW5]; exact HFF.out 1)
  have HB5 := Lib.hid (show Oth a w W5 by rw [hW5]; exact HBB.out 1)
  have HBX5 := Lib.hid (show BX W5 gb 64 #[.string p, .string nm, .int .i64 m, .int .i64 u, .int .i64 g, .int .i64 t, .int .i64 (z : Int), .int .u8 120, .string l] by rw [hW5]; exact HXX.out 1)
  first
    | (rw [show ((s1.fr : Int) + (s1.has : Int)) = ((s1.fr + s1.has : Nat) : Int) from rfl, show W4.drew = W4.drewN 1 from rfl, ← hW5])
    | (change Code.wp _ _ _ _ ((W4.drewN 1).setCell ⟨a, 2, none⟩ (.int .i64 ((s1.fr + s1.has : Nat) : Int))); rw [← hW5])
  clear hW5 HFF HBB HXX c2 c15 e2 hsum
  go_upto_region 7 with ((go_at_call 34; (with_reducible refine (clear_any10 HF5.out).mono ?_); rintro e w6 ⟨rfl, hf6, ho6⟩; have HF6 := Lib.hid (show Fs w6 B a al nx (Fd.next s1) from hf6); have HB6 := Lib.hid (HB5.out.trans ho6); have HX6 := Lib.hid (HBX5.out.oth ho6 hgba); clear hf6 ho6))
  have x0 : w6.cell? ⟨gb, 0, none⟩ = some (.string p) := HX6.out.cell rfl
  have x1 : w6.cell? ⟨gb, 1, none⟩ = some (.string nm) := HX6.out.cell rfl
  have x2 : w6.cell? ⟨gb, 2, none⟩ = some (.int .i64 m) := HX6.out.cell rfl
  have x3 : w6.cell? ⟨gb, 3, none⟩ = some (.int .i64 u) := HX6.out.cell rfl
  have x4 : w6.cell? ⟨gb, 4, none⟩ = some (.int .i64 g) := HX6.out.cell rfl
  have x5 : w6.cell? ⟨gb, 5, none⟩ = some (.int .i64 t) := HX6.out.cell rfl
  have x6 : w6.cell? ⟨gb, 6, none⟩ = some (.int .i64 (z : Int)) := HX6.out.cell rfl
  have x7 : w6.cell? ⟨gb, 7, none⟩ = some (.int .u8 120) := HX6.out.cell rfl
  have x8 : w6.cell? ⟨gb, 8, none⟩ = some (.string l) := HX6.out.cell rfl
  have HYA := Lib.hid (show RB w6 w6.heap.size (some ⟨a, 519, none⟩) z (Fd.dat s1) from by
    have h9 := HF6.out.buf 512 z (by have := HZ.out; omega)
    have hz9 : s1.h.z.toNat = z := by rw [HHD.out]; exact Int.toNat_natCast _
    unfold Fd.dat
    rw [hz9]
    exact h9)
  go_wp2_with (go_at_call 61; (with_reducible refine (fwait_any10 HF6.out (Nat.le_trans HBZ.out HB6.out.size10) (TB.out _ (HB6.out.low HBZ.out HBA.out)) _ z _ _ HYA.out HYB.out (by have := HZ.out; omega) (by decide) (by have := HZ.out; omega)).mono ?_); rintro e w7 ⟨rfl, ⟨nx7, hf7⟩, hb7⟩; have HF7 := Lib.hid hf7; have HB7 := Lib.hid (HB6.out.trans hb7); clear hf7 hb7)
  go_ret2
  rw [HR.out]
  exact ⟨_, rfl, PR.nil _ _, ⟨_, _, HF7.out⟩, HB7.out⟩
theorem fscan_share {N : Nat} (h : Fs w B a al nx s) (hB : B ≤ w.heap.size) (tb : ∀ W, Below B w W → Tab W) (hok : Fd.Ok N s) (hN : N ≤ 100000) (hw : s.has = s.nd) (he : (Fd.meas s).2 = 0) (hl : ¬ (Fd.meas s).1.has < (Fd.meas s).1.nd) (p nm l : ByteArray) (m u g t : Int) (z : Nat) (hhd : (Fd.meas s).1.h = ⟨p, nm, l, m, u, g, t, (z : Int), 103⟩) :
    Calls Tryz.prog 40 #[.pointer (some ⟨a, 0, none⟩)] w fun e w' => ∃ v, e = .returned (.tuple #[v, .int .i64 (Fd.scan s).2.2]) ∧ PR w' w.heap.size v (Fd.scan s).2.1 ∧ (∃ al' nx', Fs w' B a al' nx' (Fd.scan s).1) ∧ Oth a w w' := by
  obtain ⟨R, hR⟩ : ∃ R, R = Fd.scan s := ⟨_, rfl⟩
  rw [← hR]
  unfold Fd.scan at hR
  rw [if_pos he, if_neg hl, hhd] at hR
  obtain ⟨o1, o2, o3, o4⟩ := Fd.ok_meas hok hw
  obtain ⟨k1, k2⟩ := o2 he
  have MEA := Lib.hid (measure_any10 h hB hok)
  rw [he] at MEA
  have hdl := Fd.dat_len _ k1.2.1
  have hdb : Byt (Fd.dat (Fd.meas s).1) := Ar.byt_cut o1.byt _ _
  generalize (Fd.meas s).1 = s1 at *
  have HHD := Lib.hid hhd
  have HZ := Lib.hid (show z ≤ 4096 by have := k1.2.1; rw [hhd] at this; have h9 : (z : Int) ≤ 4096 := this; omega)
  have HSZ := Lib.hid (show p.size ≤ 1000 ∧ nm.size ≤ 1000 ∧ l.size ≤ 1000 by have := k1.2.2; rw [hhd] at this; exact this)
  have LK := Lib.hid (show decide (s1.has < s1.nd) = false by simpa using hl)
  have HNB := Lib.hid (show (s1.fr : Int) + s1.has ≤ 100000 by have h1 := o1.fa; have h2 := o1.an; omega)
  have HBA := Lib.hid h.ba
  have HBZ := Lib.hid hB
  have HOK := Lib.hid (Fd.ok_next o1)
  have HDL := Lib.hid hdl
  have HAL := Lib.hid (show (Fd.next s1).al.length ≤ 50000 by have := (Fd.ok_next o1).al.1; omega)
  have HNL := Lib.hid (show (Fd.next s1).nx.length ≤ 50000 by have := (Fd.ok_next o1).nx.1; omega)
  have HPL := Lib.hid (show (Rc.parse (Ar.toB (Fd.dat s1))).1.length ≤ 50000 by have := (Fd.par_ok _ hdl).1; omega)
  have HRV := Lib.hid (show ∀ r ∈ (Fd.next s1).al ++ (Fd.next s1).nx, r.2.size ≤ 100000 from fun r hr => by
    rcases List.mem_append.1 hr with h9 | h9
    · exact Nat.le_trans ((Fd.ok_next o1).al.2 r h9) (by decide)
    · exact Nat.le_trans ((Fd.ok_next o1).nx.2 r h9) (by decide))
  have HFQ := Lib.hid (show (Fd.next s1).fr ≤ 100000 by have h1 := (Fd.ok_next o1).fa; have h2 := (Fd.ok_next o1).an; omega)
  have HYB := Lib.hid hdb
  have HDN := Lib.hid (show (Fd.dat s1).length = z → z ≤ 100000 by intro _; have := HZ.out; omega)
  have TB := Lib.hid tb
  have HR := Lib.hid hR
  rw [show Fd.body (Fd.next s1) ⟨p, nm, l, m, u, g, t, (z : Int), 103⟩ (Fd.dat s1) = ((Fd.shareS (Fd.next s1) (Fd.dat s1)).1, [], (Fd.shareS (Fd.next s1) (Fd.dat s1)).2) from (if_neg (show ¬ (103 : Int) = 0 by omega)).trans ((if_neg (show ¬ (103 : Int) = 120 by omega)).trans (if_pos rfl))] at HR
  clear h hB hok o1 o2 o3 o4 k1 k2 hl hhd tb hw he hdl hdb hR
  go_enter Tryz.func40, Tryz.ntmps40
  go_upto_region 5 with (first
    | (go_at_call 58; (with_reducible refine (MEA.out).mono ?_); rintro e w1 ⟨rfl, hf1, hb1⟩; have HF1 := Lib.hid hf1; have HB1 := Lib.hid hb1; clear hf1 hb1)
    | (go_at_call 39; (with_reducible refine (lacks_any10 HF1.out.top.1 HF1.out.top.2.1).mono ?_); rintro e w2 ⟨rfl, hb2⟩; have HF2 := Lib.hid (HF1.out.below hb2); have HB2 := Lib.hid (HB1.out.trans (Oth.ofBelow hb2)); rw [LK.out]; clear hb2)
    | (go_at_call 59; (with_reducible refine (parts_any10 HF2.out p nm l m u g t _ z HHD.out HZ.out).mono ?_); rintro e w3 ⟨rfl, hb3⟩; have HF3 := Lib.hid (HF2.out.below hb3); have HB3 := Lib.hid (HB2.out.trans (Oth.ofBelow hb3)); clear hb3))
  obtain ⟨W4, hW4⟩ : ∃ W4, W4 = w3.alloc (.cells #[.string p, .string nm, .int .i64 m, .int .i64 u, .int .i64 g, .int .i64 t, .int .i64 (z : Int), .int .u8 103, .string l] 64) := ⟨_, rfl⟩
  rw [← hW4]
  have HBX4 := Lib.hid (show BX W4 w3.heap.size 64 #[.string p, .string nm, .int .i64 m, .int .i64 u, .int .i64 g, .int .i64 t, .int .i64 (z : Int), .int .u8 103, .string l] by rw [hW4]; exact BX.new _ _ _)
  have HF4 := Lib.hid (show Fs W4 B a al nx s1 by rw [hW4]; exact HF3.out.below (mb_new _ _))
  have HB4 := Lib.hid (show Oth a w W4 by rw [hW4]; exact HB3.out.trans (Oth.ofBelow (mb_new _ _)))
  have hgba : w3.heap.size ≠ a := by have := HF3.out.box.lt; omega
  clear hW4
  generalize w3.heap.size = gb at *
  have c2 := HF4.out.lo.2.2.1
  have c15 := HF4.out.top.1
  have e2 := HF4.out.box.free 2
  have hf5 : ∀ j, Fs ((W4.drewN j).setCell ⟨a, 2, none⟩ (.int .i64 ((s1.fr + s1.has : Nat) : Int))) B a al nx { s1 with fr := s1.fr + s1.has } := fun j => (HF4.out.below (below_drewN (Below.refl _ _) j)).set_lo 2 (.int .i64 ((s1.fr + s1.has : Nat) : Int)) { s1 with fr := s1.fr + s1.has } (by decide) rfl rfl rfl rfl rfl
  have HFF := Lib.hid hf5
  have HBB := Lib.hid (fun j => ((HB4.out.trans (Oth.ofBelow (below_drewN (Below.refl _ W4) j))).setCell 2 (.int .i64 ((s1.fr + s1.has : Nat) : Int)) : Oth a w _))
  have HXX := Lib.hid (fun j => ((HBX4.out.drewN j).other hgba (.int .i64 ((s1.fr + s1.has : Nat) : Int)) : BX ((W4.drewN j).setCell ⟨a, 2, none⟩ (.int .i64 ((s1.fr + s1.has : Nat) : Int))) gb 64 #[.string p, .string nm, .int .i64 m, .int .i64 u, .int .i64 g, .int .i64 t, .int .i64 (z : Int), .int .u8 103, .string l]))
  have hsum : IntKind.i64.wrap ((s1.fr : Int) + (s1.has : Int)) = (s1.fr : Int) + (s1.has : Int) := by have := HNB.out; go_arith
  clear hf5
  go_still_tail 12, (by kernel_rfl)
  go_upto_region 6 with (fail)
  obtain ⟨W5, hW5⟩ : ∃ W5, W5 = (W4.drewN 1).setCell ⟨a, 2, none⟩ (.int .i64 ((s1.fr + s1.has : Nat) : Int)) := ⟨_, rfl⟩
  have HF5 := Lib.hid (show Fs W5 B a al nx { s1 with fr := s1.fr + s1.has } by rw [hW5]; exact HFF.out 1)
  have HB5 := Lib.hid (show Oth a w W5 by rw [hW5]; exact HBB.out 1)
  have HBX5 := Lib.hid (show BX W5 gb 64 #[.string p, .string nm, .int .i64 m, .int .i64 u, .int .i64 g, .int .i64 t, .int .i64 (z : Int), .int .u8 103, .string l] by rw [hW5]; exact HXX.out 1)
  first
    | (rw [show ((s1.fr : Int) + (s1.has : Int)) = ((s1.fr + s1.has : Nat) : Int) from rfl, show W4.drew = W4.drewN 1 from rfl, ← hW5])
    | (change Code.wp _ _ _ _ ((W4.drewN 1).setCell ⟨a, 2, none⟩ (.int .i64 ((s1.fr + s1.has : Nat) : Int))); rw [← hW5])
  clear hW5 HFF HBB HXX c2 c15 e2 hsum
  go_upto_region 7 with ((go_at_call 34; (with_reducible refine (clear_any10 HF5.out).mono ?_); rintro e w6 ⟨rfl, hf6, ho6⟩; have HF6 := Lib.hid (show Fs w6 B a al nx (Fd.next s1) from hf6); have HB6 := Lib.hid (HB5.out.trans ho6); have HX6 := Lib.hid (HBX5.out.oth ho6 hgba); clear hf6 ho6))
  have x0 : w6.cell? ⟨gb, 0, none⟩ = some (.string p) := HX6.out.cell rfl
  have x1 : w6.cell? ⟨gb, 1, none⟩ = some (.string nm) := HX6.out.cell rfl
  have x2 : w6.cell? ⟨gb, 2, none⟩ = some (.int .i64 m) := HX6.out.cell rfl
  have x3 : w6.cell? ⟨gb, 3, none⟩ = some (.int .i64 u) := HX6.out.cell rfl
  have x4 : w6.cell? ⟨gb, 4, none⟩ = some (.int .i64 g) := HX6.out.cell rfl
  have x5 : w6.cell? ⟨gb, 5, none⟩ = some (.int .i64 t) := HX6.out.cell rfl
  have x6 : w6.cell? ⟨gb, 6, none⟩ = some (.int .i64 (z : Int)) := HX6.out.cell rfl
  have x7 : w6.cell? ⟨gb, 7, none⟩ = some (.int .u8 103) := HX6.out.cell rfl
  have x8 : w6.cell? ⟨gb, 8, none⟩ = some (.string l) := HX6.out.cell rfl
  have HYA := Lib.hid (show RB w6 w6.heap.size (some ⟨a, 519, none⟩) z (Fd.dat s1) from by
    have h9 := HF6.out.buf 512 z (by have := HZ.out; omega)
    have hz9 : s1.h.z.toNat = z := by rw [HHD.out]; exact Int.toNat_natCast _
    unfold Fd.dat
    rw [hz9]
    exact h9)
  go_wp2_with (go_at_call 62; (with_reducible refine (fshare_any10 HF6.out (Nat.le_trans HBZ.out HB6.out.size10) (TB.out _ (HB6.out.low HBZ.out HBA.out)) _ z _ _ HYA.out HYB.out (by have := HZ.out; omega) (by decide) (by have := HZ.out; omega) HAL.out HPL.out).mono ?_); rintro e w7 ⟨rfl, ⟨al7, hf7⟩, hb7⟩; have HF7 := Lib.hid hf7; have HB7 := Lib.hid (HB6.out.trans hb7); clear hf7 hb7)
  go_ret2
  rw [HR.out]
  exact ⟨_, rfl, PR.nil _ _, ⟨_, _, HF7.out⟩, HB7.out⟩
theorem fscan_tell {N : Nat} (h : Fs w B a al nx s) (hB : B ≤ w.heap.size) (tb : ∀ W, Below B w W → Tab W) (hok : Fd.Ok N s) (hN : N ≤ 100000) (hw : s.has = s.nd) (he : (Fd.meas s).2 = 0) (hl : ¬ (Fd.meas s).1.has < (Fd.meas s).1.nd) (p nm l : ByteArray) (m u g t : Int) (z : Nat) (k : Int) (hhd : (Fd.meas s).1.h = ⟨p, nm, l, m, u, g, t, (z : Int), k⟩) (hk : ¬ k = 0) (hk2 : ¬ k = 120) (hk3 : ¬ k = 103) :
    Calls Tryz.prog 40 #[.pointer (some ⟨a, 0, none⟩)] w fun e w' => ∃ v, e = .returned (.tuple #[v, .int .i64 (Fd.scan s).2.2]) ∧ PR w' w.heap.size v (Fd.scan s).2.1 ∧ (∃ al' nx', Fs w' B a al' nx' (Fd.scan s).1) ∧ Oth a w w' := by
  obtain ⟨R, hR⟩ : ∃ R, R = Fd.scan s := ⟨_, rfl⟩
  rw [← hR]
  unfold Fd.scan at hR
  rw [if_pos he, if_neg hl, hhd] at hR
  obtain ⟨o1, o2, o3, o4⟩ := Fd.ok_meas hok hw
  obtain ⟨k1, k2⟩ := o2 he
  have MEA := Lib.hid (measure_any10 h hB hok)
  rw [he] at MEA
  have hdl := Fd.dat_len _ k1.2.1
  have hdb : Byt (Fd.dat (Fd.meas s).1) := Ar.byt_cut o1.byt _ _
  generalize (Fd.meas s).1 = s1 at *
  have HHD := Lib.hid hhd
  have HZ := Lib.hid (show z ≤ 4096 by have := k1.2.1; rw [hhd] at this; have h9 : (z : Int) ≤ 4096 := this; omega)
  have HSZ := Lib.hid (show p.size ≤ 1000 ∧ nm.size ≤ 1000 ∧ l.size ≤ 1000 by have := k1.2.2; rw [hhd] at this; exact this)
  have LK := Lib.hid (show decide (s1.has < s1.nd) = false by simpa using hl)
  have HNB := Lib.hid (show (s1.fr : Int) + s1.has ≤ 100000 by have h1 := o1.fa; have h2 := o1.an; omega)
  have HBA := Lib.hid h.ba
  have HBZ := Lib.hid hB
  have HOK := Lib.hid (Fd.ok_next o1)
  have HDL := Lib.hid hdl
  have HAL := Lib.hid (show (Fd.next s1).al.length ≤ 50000 by have := (Fd.ok_next o1).al.1; omega)
  have HNL := Lib.hid (show (Fd.next s1).nx.length ≤ 50000 by have := (Fd.ok_next o1).nx.1; omega)
  have HPL := Lib.hid (show (Rc.parse (Ar.toB (Fd.dat s1))).1.length ≤ 50000 by have := (Fd.par_ok _ hdl).1; omega)
  have HRV := Lib.hid (show ∀ r ∈ (Fd.next s1).al ++ (Fd.next s1).nx, r.2.size ≤ 100000 from fun r hr => by
    rcases List.mem_append.1 hr with h9 | h9
    · exact Nat.le_trans ((Fd.ok_next o1).al.2 r h9) (by decide)
    · exact Nat.le_trans ((Fd.ok_next o1).nx.2 r h9) (by decide))
  have HFQ := Lib.hid (show (Fd.next s1).fr ≤ 100000 by have h1 := (Fd.ok_next o1).fa; have h2 := (Fd.ok_next o1).an; omega)
  have HYB := Lib.hid hdb
  have HDN := Lib.hid (show (Fd.dat s1).length = z → z ≤ 100000 by intro _; have := HZ.out; omega)
  have TB := Lib.hid tb
  have HR := Lib.hid hR
  rw [show Fd.body (Fd.next s1) ⟨p, nm, l, m, u, g, t, (z : Int), k⟩ (Fd.dat s1) = Fd.tellS (Fd.next s1) ⟨p, nm, l, m, u, g, t, (z : Int), k⟩ (Fd.dat s1) from (if_neg hk).trans ((if_neg hk2).trans (if_neg hk3))] at HR
  clear h hB hok o1 o2 o3 o4 k1 k2 hl hhd tb hw he hdl hdb hR
  go_enter Tryz.func40, Tryz.ntmps40
  go_upto_region 5 with (first
    | (go_at_call 58; (with_reducible refine (MEA.out).mono ?_); rintro e w1 ⟨rfl, hf1, hb1⟩; have HF1 := Lib.hid hf1; have HB1 := Lib.hid hb1; clear hf1 hb1)
    | (go_at_call 39; (with_reducible refine (lacks_any10 HF1.out.top.1 HF1.out.top.2.1).mono ?_); rintro e w2 ⟨rfl, hb2⟩; have HF2 := Lib.hid (HF1.out.below hb2); have HB2 := Lib.hid (HB1.out.trans (Oth.ofBelow hb2)); rw [LK.out]; clear hb2)
    | (go_at_call 59; (with_reducible refine (parts_any10 HF2.out p nm l m u g t _ z HHD.out HZ.out).mono ?_); rintro e w3 ⟨rfl, hb3⟩; have HF3 := Lib.hid (HF2.out.below hb3); have HB3 := Lib.hid (HB2.out.trans (Oth.ofBelow hb3)); clear hb3))
  obtain ⟨W4, hW4⟩ : ∃ W4, W4 = w3.alloc (.cells #[.string p, .string nm, .int .i64 m, .int .i64 u, .int .i64 g, .int .i64 t, .int .i64 (z : Int), .int .u8 k, .string l] 64) := ⟨_, rfl⟩
  rw [← hW4]
  have HBX4 := Lib.hid (show BX W4 w3.heap.size 64 #[.string p, .string nm, .int .i64 m, .int .i64 u, .int .i64 g, .int .i64 t, .int .i64 (z : Int), .int .u8 k, .string l] by rw [hW4]; exact BX.new _ _ _)
  have HF4 := Lib.hid (show Fs W4 B a al nx s1 by rw [hW4]; exact HF3.out.below (mb_new _ _))
  have HB4 := Lib.hid (show Oth a w W4 by rw [hW4]; exact HB3.out.trans (Oth.ofBelow (mb_new _ _)))
  have hgba : w3.heap.size ≠ a := by have := HF3.out.box.lt; omega
  clear hW4
  generalize w3.heap.size = gb at *
  have c2 := HF4.out.lo.2.2.1
  have c15 := HF4.out.top.1
  have e2 := HF4.out.box.free 2
  have hf5 : ∀ j, Fs ((W4.drewN j).setCell ⟨a, 2, none⟩ (.int .i64 ((s1.fr + s1.has : Nat) : Int))) B a al nx { s1 with fr := s1.fr + s1.has } := fun j => (HF4.out.below (below_drewN (Below.refl _ _) j)).set_lo 2 (.int .i64 ((s1.fr + s1.has : Nat) : Int)) { s1 with fr := s1.fr + s1.has } (by decide) rfl rfl rfl rfl rfl
  have HFF := Lib.hid hf5
  have HBB := Lib.hid (fun j => ((HB4.out.trans (Oth.ofBelow (below_drewN (Below.refl _ W4) j))).setCell 2 (.int .i64 ((s1.fr + s1.has : Nat) : Int)) : Oth a w _))
  have HXX := Lib.hid (fun j => ((HBX4.out.drewN j).other hgba (.int .i64 ((s1.fr + s1.has : Nat) : Int)) : BX ((W4.drewN j).setCell ⟨a, 2, none⟩ (.int .i64 ((s1.fr + s1.has : Nat) : Int))) gb 64 #[.string p, .string nm, .int .i64 m, .int .i64 u, .int .i64 g, .int .i64 t, .int .i64 (z : Int), .int .u8 k, .string l]))
  have hsum : IntKind.i64.wrap ((s1.fr : Int) + (s1.has : Int)) = (s1.fr : Int) + (s1.has : Int) := by have := HNB.out; go_arith
  clear hf5
  go_still_tail 12, (by kernel_rfl)
  go_upto_region 6 with (fail)
  obtain ⟨W5, hW5⟩ : ∃ W5, W5 = (W4.drewN 1).setCell ⟨a, 2, none⟩ (.int .i64 ((s1.fr + s1.has : Nat) : Int)) := ⟨_, rfl⟩
  have HF5 := Lib.hid (show Fs W5 B a al nx { s1 with fr := s1.fr + s1.has } by rw [hW5]; exact HFF.out 1)
  have HB5 := Lib.hid (show Oth a w W5 by rw [hW5]; exact HBB.out 1)
  have HBX5 := Lib.hid (show BX W5 gb 64 #[.string p, .string nm, .int .i64 m, .int .i64 u, .int .i64 g, .int .i64 t, .int .i64 (z : Int), .int .u8 k, .string l] by rw [hW5]; exact HXX.out 1)
  first
    | (rw [show ((s1.fr : Int) + (s1.has : Int)) = ((s1.fr + s1.has : Nat) : Int) from rfl, show W4.drew = W4.drewN 1 from rfl, ← hW5])
    | (change Code.wp _ _ _ _ ((W4.drewN 1).setCell ⟨a, 2, none⟩ (.int .i64 ((s1.fr + s1.has : Nat) : Int))); rw [← hW5])
  clear hW5 HFF HBB HXX c2 c15 e2 hsum
  go_upto_region 7 with ((go_at_call 34; (with_reducible refine (clear_any10 HF5.out).mono ?_); rintro e w6 ⟨rfl, hf6, ho6⟩; have HF6 := Lib.hid (show Fs w6 B a al nx (Fd.next s1) from hf6); have HB6 := Lib.hid (HB5.out.trans ho6); have HX6 := Lib.hid (HBX5.out.oth ho6 hgba); clear hf6 ho6))
  have x0 : w6.cell? ⟨gb, 0, none⟩ = some (.string p) := HX6.out.cell rfl
  have x1 : w6.cell? ⟨gb, 1, none⟩ = some (.string nm) := HX6.out.cell rfl
  have x2 : w6.cell? ⟨gb, 2, none⟩ = some (.int .i64 m) := HX6.out.cell rfl
  have x3 : w6.cell? ⟨gb, 3, none⟩ = some (.int .i64 u) := HX6.out.cell rfl
  have x4 : w6.cell? ⟨gb, 4, none⟩ = some (.int .i64 g) := HX6.out.cell rfl
  have x5 : w6.cell? ⟨gb, 5, none⟩ = some (.int .i64 t) := HX6.out.cell rfl
  have x6 : w6.cell? ⟨gb, 6, none⟩ = some (.int .i64 (z : Int)) := HX6.out.cell rfl
  have x7 : w6.cell? ⟨gb, 7, none⟩ = some (.int .u8 k) := HX6.out.cell rfl
  have x8 : w6.cell? ⟨gb, 8, none⟩ = some (.string l) := HX6.out.cell rfl
  have HYA := Lib.hid (show RB w6 w6.heap.size (some ⟨a, 519, none⟩) z (Fd.dat s1) from by
    have h9 := HF6.out.buf 512 z (by have := HZ.out; omega)
    have hz9 : s1.h.z.toNat = z := by rw [HHD.out]; exact Int.toNat_natCast _
    unfold Fd.dat
    rw [hz9]
    exact h9)
  go_wp2_with (go_at_call 63; (with_reducible refine (ftell_any10 HF6.out (Nat.le_trans HBZ.out HB6.out.size10) p nm l m u g t (z : Int) k HSZ.out.1 HSZ.out.2.1 HSZ.out.2.2 _ z _ _ HYA.out (by have := HZ.out; omega) HAL.out HNL.out HRV.out HOK.out.ct HFQ.out).mono ?_); rintro e w7 ⟨v7, rfl, hp7, ⟨al7, nx7, hf7⟩, hb7⟩; have HP7 := Lib.hid hp7; have HF7 := Lib.hid hf7; have HB7 := Lib.hid (HB6.out.trans hb7); have hs6 := HB6.out.size10; clear hf7 hb7 hp7)
  go_ret2
  rw [HR.out]
  refine ⟨_, rfl, ?_, ⟨_, _, HF7.out⟩, HB7.out⟩
  obtain ⟨its, i1, i2⟩ := HP7.out
  exact ⟨its, row_base i1 hs6, i2⟩
theorem fscan_any10 {N : Nat} (h : Fs w B a al nx s) (hB : B ≤ w.heap.size) (tb : ∀ W, Below B w W → Tab W) (hok : Fd.Ok N s) (hN : N ≤ 100000) (hw : s.has = s.nd) :
    Calls Tryz.prog 40 #[.pointer (some ⟨a, 0, none⟩)] w fun e w' => ∃ v, e = .returned (.tuple #[v, .int .i64 (Fd.scan s).2.2]) ∧ PR w' w.heap.size v (Fd.scan s).2.1 ∧ (∃ al' nx', Fs w' B a al' nx' (Fd.scan s).1) ∧ Oth a w w' := by
  by_cases he : (Fd.meas s).2 = 0
  · by_cases hl : (Fd.meas s).1.has < (Fd.meas s).1.nd
    · exact fscan_lacks h hB hok he hl
    · obtain ⟨o1, o2, _⟩ := Fd.ok_meas hok hw
      obtain ⟨k1, k2⟩ := o2 he
      obtain ⟨p, nm, l, m, u, g, t, z, k, hhd⟩ : ∃ p nm l m u g t z k, (Fd.meas s).1.h = ⟨p, nm, l, m, u, g, t, z, k⟩ := ⟨_, _, _, _, _, _, _, _, _, rfl⟩
      have hz0 := k1.1
      rw [hhd] at hz0
      obtain ⟨zn, rfl⟩ : ∃ zn : Nat, z = (zn : Int) := ⟨z.toNat, by have h9 : 0 ≤ z := hz0; omega⟩
      by_cases hk : k = 0
      · subst hk; exact fscan_end h hB tb hok hN hw he hl p nm l m u g t zn hhd
      · by_cases hk2 : k = 120
        · subst hk2; exact fscan_wait h hB tb hok hN hw he hl p nm l m u g t zn hhd
        · by_cases hk3 : k = 103
          · subst hk3; exact fscan_share h hB tb hok hN hw he hl p nm l m u g t zn hhd
          · exact fscan_tell h hB tb hok hN hw he hl p nm l m u g t zn k hhd hk hk2 hk3
  · exact fscan_err h hB hok he
end
end Go.Proofs.YtjofdgjcbjdhbaaGreatDoor
