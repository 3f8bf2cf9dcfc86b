/- THE WALK OF THE LAW MembFrom. By gen_l8d.py. -/
import Derived.Test.YtjhigkkkfkahdaaGreatDoorGe2
import Derived.Test.YtjhigkkkfkahdaaGreatDoorE8n
import Derived.Test.YtjhigkkkfkahdaaGreatDoorE8o
import Derived.Deep.DeepCutAuto
import Derived.Deep.RegionHeld3
import Derived.IntWalk
namespace Go.Proofs.YtjhigkkkfkahdaaGreatDoor
open Go Go.RowKit
set_option maxHeartbeats 64000000
set_option maxRecDepth 100000
set_option linter.unusedVariables false
theorem reffrom_any (p nm l : ByteArray) (m u g t z k : Int) (B : Option Addr) (nr cr : Nat) (rs : List Rc.Rec) (A : Option Addr) (n c : Nat) (xs : List Int) (w : World) (hr : RL w w.heap.size B nr rs) (hnr : nr ≤ 100000) (hxl : xs.length = n) (hn : n ≤ 100000) (hp : p.size ≤ 1000) (hnm : nm.size ≤ 1000) (hl : l.size ≤ 1000)
    (hs : ∀ r ∈ rs, r.2.size ≤ 100000) :
    Calls Tryz.prog 10 #[.agg #[.string p, .string nm, .int .i64 m, .int .i64 u, .int .i64 g, .int .i64 t, .int .i64 z, .int .u8 k, .string l], .slice B nr cr, .slice A n c] w fun e w' => e = .returned (refFrom rs p nm l m u g t z k A n c xs) ∧ Below w.heap.size w w' := by
  have kb := Mb.kin_bd k
  have kc : Mb.kin k = 0 ∨ Mb.kin k = 1 ∨ Mb.kin k = 2 ∨ Mb.kin k = 3 ∨ Mb.kin k = 4 := by omega
  rcases kc with kc | kc | kc | kc | kc
  · exact reffrom_0 p nm l m u g t z k B nr cr rs A n c xs w hr hnr hxl hn hp hnm hl hs kc
  · exact reffrom_1 p nm l m u g t z k B nr cr rs A n c xs w hr hnr hxl hn hp hnm hl hs kc
  · exact reffrom_2 p nm l m u g t z k B nr cr rs A n c xs w hr hnr hxl hn hp hnm hl hs kc
  · exact reffrom_3 p nm l m u g t z k B nr cr rs A n c xs w hr hnr hxl hn hp hnm hl hs kc
  · exact reffrom_4 p nm l m u g t z k B nr cr rs A n c xs w hr hnr hxl hn hp hnm hl hs kc
theorem refFrom_val {rs : List Rc.Rec} {p nm l : ByteArray} {m u g t z k : Int} {A : Option Addr} {n c : Nat} {xs : List Int} (hxl : xs.length = n) : ∃ A2 n2 c2, refFrom rs p nm l m u g t z k A n c xs = .tuple #[.agg #[.string (Mb.rS (Mb.fE rs p nm l k m u g t xs) (Mb.fP rs p nm)), .int .i64 (Mb.rI (Mb.fE rs p nm l k m u g t xs) (Mb.kin k)), .int .i64 (Mb.rI (Mb.fE rs p nm l k m u g t xs) m), .int .i64 (Mb.rI (Mb.fE rs p nm l k m u g t xs) u), .int .i64 (Mb.rI (Mb.fE rs p nm l k m u g t xs) g), .int .i64 (Mb.rI (Mb.fE rs p nm l k m u g t xs) t), .string (Mb.rS (Mb.fE rs p nm l k m u g t xs) (Mb.fL rs k l)), .slice A2 n2 c2], .int .i64 (Mb.fE rs p nm l k m u g t xs)] ∧
    ∀ (W : World) Bd, RB W Bd A n xs → RB W Bd A2 n2 (Mb.rX (Mb.fE rs p nm l k m u g t xs) (Mb.fX k xs)) := by
  unfold refFrom
  by_cases hE : Mb.fE rs p nm l k m u g t xs = 0
  · rw [if_pos hE, hE]
    by_cases hk : Mb.kin k = 1
    · rw [if_pos hk]
      exact ⟨A, n, c, rfl, fun W Bd h => by show RB W Bd A n (Mb.fX k xs); unfold Mb.fX; rw [if_pos hk]; exact h⟩
    · rw [if_neg hk]
      exact ⟨none, 0, 0, rfl, fun W Bd h => by show RB W Bd none 0 (Mb.fX k xs); unfold Mb.fX; rw [if_neg hk]; exact RB.nil⟩
  · rw [if_neg hE]
    refine ⟨none, 0, 0, ?_, fun W Bd h => ?_⟩
    · unfold Mb.rS Mb.rI
      simp only [if_neg hE]
    · rw [Mb.rX_bad hE]
      exact RB.nil
theorem RO.of8 {w : World} {B j : Nat} {e : TypeId} {v : Value} {l : List Rc.Rec} (h : w.ownsRow B e 2 v j (cells2 l)) (hl : l.length = j) : RO w B e v l := by
  unfold RO
  rw [hl]
  exact h
theorem text_more (L : ByteArray) : ¬ L = L ++ ⟨#[120]⟩ := fun h => by
  have := congrArg ByteArray.size h
  rw [ByteArray.size_append] at this
  have h1 : (⟨#[120]⟩ : ByteArray).size = 1 := rfl
  omega
theorem link_size (E : Int) {rs : List Rc.Rec} {k : Int} {l : ByteArray} (hv : ∀ r ∈ rs, r.2.size ≤ 1000) (hl : l.size ≤ 1000) : (Mb.rS E (Mb.fL rs k l)).size ≤ 1000 := by
  unfold Mb.rS Mb.fL
  split
  · split
    · exact Mb.told_size hv hl
    · exact Nat.zero_le _
  · exact Nat.zero_le _
theorem rx_len (E : Int) (k : Int) (xs : List Int) : (Mb.rX E (Mb.fX k xs)).length ≤ xs.length := by
  unfold Mb.rX Mb.fX
  split
  · split
    · exact Nat.le_refl _
    · exact Nat.zero_le _
  · exact Nat.zero_le _
theorem rx_byt (E : Int) (k : Int) {xs : List Int} (h : Byt xs) : Byt (Mb.rX E (Mb.fX k xs)) := by
  unfold Mb.rX Mb.fX
  split
  · split
    · exact h
    · exact Byt.nil
  · exact Byt.nil
theorem from_walk8 (p nm l : ByteArray) (m u g t z k : Int) (B : Option Addr) (nr cr : Nat) (rs : List Rc.Rec) (A : Option Addr) (n c : Nat) (xs : List Int) (w : World) (tb : Tab w) (sp : p.size ≤ maxLen) (sn : nm.size ≤ maxLen) (sl : l.size ≤ maxLen) (k0 : 0 ≤ k) (k1 : k ≤ 255) (m0 : -9223372036854775808 ≤ m) (m1 : m ≤ 9223372036854775807) (u0 : -9223372036854775808 ≤ u) (u1 : u ≤ 9223372036854775807) (g0 : -9223372036854775808 ≤ g) (g1 : g ≤ 9223372036854775807)
    (t0 : -9223372036854775808 ≤ t) (t1 : t ≤ 9223372036854775807) (z0 : -9223372036854775808 ≤ z) (z1 : z ≤ 9223372036854775807) (hr : RL w w.heap.size B nr rs) (hrc : nr ≤ cr) (hcm : cr ≤ maxLen) (ha : RB w w.heap.size A n xs) (hx : Byt xs) (hc : n ≤ c) (hc2 : c ≤ maxLen) :
    Calls Tryz.prog 3 #[.agg #[.string p, .string nm, .int .i64 m, .int .i64 u, .int .i64 g, .int .i64 t, .int .i64 z, .int .u8 k, .string l], .slice B nr cr, .slice A n c] w fun e w' => e = .returned (.bool true) ∧ Below w.heap.size w w' := by
  have AL := Lib.hid (fun W tb => alive8_any W tb)
  have TB := Lib.hid tb
  clear k0 k1 m0 m1 u0 u1 g0 g1 t0 t1 z0 z1 tb
  have HB0 := Lib.hid (mb_new w (.cells #[.string p, .string nm, .int .i64 m, .int .i64 u, .int .i64 g, .int .i64 t, .int .i64 z, .int .u8 k, .string l] 25))
  by_cases h1 : 600 < p.size
  · have h1' : (600 : Int) < p.size := by omega
    clear hr ha hx
    go_enter Tryz.func3, Tryz.ntmps3
    go_wp2_with (go_at_call 8; (with_reducible refine (AL.out _ (TB.out.on HB0.out)).mono ?_); rintro e w2 ⟨rfl, hb2⟩)
    go_ret
    exact ⟨rfl, HB0.out.trans (hb2.mono HB0.out.size)⟩
  have h1' : ¬ (600 : Int) < p.size := by omega
  by_cases h2 : 600 < nm.size
  · have h2' : (600 : Int) < nm.size := by omega
    clear hr ha hx
    go_enter Tryz.func3, Tryz.ntmps3
    go_wp2_with (go_at_call 8; (with_reducible refine (AL.out _ (TB.out.on HB0.out)).mono ?_); rintro e w2 ⟨rfl, hb2⟩)
    go_ret
    exact ⟨rfl, HB0.out.trans (hb2.mono HB0.out.size)⟩
  have h2' : ¬ (600 : Int) < nm.size := by omega
  by_cases h3 : 600 < l.size
  · have h3' : (600 : Int) < l.size := by omega
    clear hr ha hx
    go_enter Tryz.func3, Tryz.ntmps3
    go_wp2_with (go_at_call 8; (with_reducible refine (AL.out _ (TB.out.on HB0.out)).mono ?_); rintro e w2 ⟨rfl, hb2⟩)
    go_ret
    exact ⟨rfl, HB0.out.trans (hb2.mono HB0.out.size)⟩
  have h3' : ¬ (600 : Int) < l.size := by omega
  by_cases h4 : 10 < nr
  · have h4' : (10 : Int) < nr := by omega
    clear hr ha hx
    go_enter Tryz.func3, Tryz.ntmps3
    go_wp2_with (go_at_call 8; (with_reducible refine (AL.out _ (TB.out.on HB0.out)).mono ?_); rintro e w2 ⟨rfl, hb2⟩)
    go_ret
    exact ⟨rfl, HB0.out.trans (hb2.mono HB0.out.size)⟩
  have h4' : ¬ (10 : Int) < nr := by omega
  by_cases h5 : 5000 < n
  · have h5' : (5000 : Int) < n := by omega
    clear hr ha hx
    go_enter Tryz.func3, Tryz.ntmps3
    go_wp2_with (go_at_call 8; (with_reducible refine (AL.out _ (TB.out.on HB0.out)).mono ?_); rintro e w2 ⟨rfl, hb2⟩)
    go_ret
    exact ⟨rfl, HB0.out.trans (hb2.mono HB0.out.size)⟩
  have h5' : ¬ (5000 : Int) < n := by omega
  obtain ⟨i0, hi, hz0, hz1, hz2⟩ := info_parts info_rec
  have hrl := hr.1
  have hxl := ha.1
  have THE := Lib.hid @mtheirs_any
  have FRO := Lib.hid (fun (W : World) (hb : Below w.heap.size w W) (A1 : Option Addr) (c1 : Nat) (h1 : RL W W.heap.size A1 nr rs) (hv : ∀ r ∈ rs, r.2.size ≤ 1000) => mfrom_any p nm l m u g t z k A1 nr c1 rs A n c xs W h1 (by omega) ((ha.below hb).more hb.size) (by omega) (by omega) (by omega) (by omega) (fun r h => by have := hv r h; omega))
  obtain ⟨A2, n2, c2, hrf, hrb⟩ := refFrom_val (rs := rs) (p := p) (nm := nm) (l := l) (m := m) (u := u) (g := g) (t := t) (z := z) (k := k) (A := A) (n := n) (c := c) (xs := xs) hxl
  have RFR := Lib.hid (fun (W : World) (hb : Below w.heap.size w W) (hv : ∀ r ∈ rs, r.2.size ≤ 1000) => (show Calls Tryz.prog 10 #[.agg #[.string p, .string nm, .int .i64 m, .int .i64 u, .int .i64 g, .int .i64 t, .int .i64 z, .int .u8 k, .string l], .slice B nr cr, .slice A n c] W fun e w' => e = .returned (refFrom rs p nm l m u g t z k A n c xs) ∧ Below W.heap.size W w' from reffrom_any p nm l m u g t z k B nr cr rs A n c xs W ((hr.below hb).more hb.size) (by omega) hxl (by omega) (by omega) (by omega) (by omega) (fun r h => by have := hv r h; omega)))
  rw [hrf] at RFR
  have RB2 := Lib.hid (fun (W : World) (hb : Below w.heap.size w W) => hrb W W.heap.size ((ha.below hb).more hb.size))
  have hXl := rx_len (Mb.fE rs p nm l k m u g t xs) k xs
  have hXb := rx_byt (Mb.fE rs p nm l k m u g t xs) k hx
  have HLS := Lib.hid (fun hv : ∀ r ∈ rs, r.2.size ≤ 1000 => link_size (Mb.fE rs p nm l k m u g t xs) (k := k) (l := l) hv (by omega))
  clear hrf hrb
  unfold FromOk at FRO
  generalize Mb.fE rs p nm l k m u g t xs = E at *
  generalize Mb.rS E (Mb.fP rs p nm) = P at *
  generalize Mb.rI E (Mb.kin k) = K at *
  generalize Mb.rI E m = M at *
  generalize Mb.rI E u = U at *
  generalize Mb.rI E g = G at *
  generalize Mb.rI E t = TT at *
  generalize Mb.rS E (Mb.fL rs k l) = L at *
  generalize Mb.rX E (Mb.fX k xs) = X at *
  obtain ⟨LX, hLX⟩ : ∃ LX, LX = L ++ ⟨#[120]⟩ := ⟨_, rfl⟩
  have hLne : ¬ L = LX := by rw [hLX]; exact text_more L
  have SAM := Lib.hid (fun (A8 : Option Addr) (n8 c8 : Nat) (LL : ByteArray) (W : World) (h8 : RB W W.heap.size A8 n8 X) (h2 : RB W W.heap.size A2 n2 X) => msame_any P L K M U G TT A8 n8 c8 P LL K M U G TT A2 n2 c2 X X W h8 h2 hXb hXb (by have := h8.1; omega) (by have := h2.1; omega))
  have HRL := Lib.hid hr
  have HLX := Lib.hid hLX; have HLNE := Lib.hid hLne
  clear ha hx hxl hXl hXb hLX hLne
  go_enter Tryz.func3, Tryz.ntmps3
  go_upto_region 4 with (fail)
  obtain ⟨W0, hW0⟩ : ∃ W0, W0 = w.alloc (.cells #[.string p, .string nm, .int .i64 m, .int .i64 u, .int .i64 g, .int .i64 t, .int .i64 z, .int .u8 k, .string l] 25) := ⟨_, rfl⟩
  rw [← hW0] at HB0 ⊢
  have HBX := Lib.hid (show BX W0 w.heap.size 25 #[.string p, .string nm, .int .i64 m, .int .i64 u, .int .i64 g, .int .i64 t, .int .i64 z, .int .u8 k, .string l] by rw [hW0]; exact BX.new _ _ _)
  have HSZ := Lib.hid (show W0.heap.size = w.heap.size + 1 by rw [hW0]; simp)
  clear hW0
  have BLW := Lib.hid (fun W (hb : Below W0.heap.size W0 W) => HB0.out.trans (hb.mono HB0.out.size))
  go_wp2
  go_loopw [7, 44] (fun v i wr => ∃ j : Nat, j ≤ nr ∧ i = .int .i64 j ∧ Hid (∀ r ∈ rs.take j, r.2.size ≤ 1000) ∧ Hid (wr.ownsRow W0.heap.size 32 2 v j (cells2 (rs.take j))) ∧ Below W0.heap.size W0 wr) (fun _ i _ => nr - (intOf i).toNat)
  case atStart => exact ⟨0, by omega, rfl, (fun r h => by simp at h), World.ownsRow_nil _ _ _ _, Below.refl _ _⟩
  case round =>
    obtain ⟨j, hj, rfl, HV, HO, hb⟩ := hrel
    by_cases hlt : j < nr
    · have hlt' : (j : Int) < nr := by omega
      obtain ⟨b, o, kk, vv, rfl, hbl, hjl, q0, q1⟩ := (HRL.out.below (BLW.out _ hb)).at_ hlt
      have HT := Lib.hid (Rc.take_next hjl)
      clear hjl
      obtain ⟨Au, cu, rfl, hcu⟩ := owns_slice HO.out
      have HBB := Lib.hid (hb.alloc hb.size (.cells #[.string kk, .string vv] 31))
      by_cases hv : 1000 < vv.size
      · have hv' : (1000 : Int) < vv.size := by omega
        clear HT
        go_wp2_with (go_at_call 8; (with_reducible refine (AL.out _ (TB.out.on (BLW.out _ HBB.out))).mono ?_); rintro e w2 ⟨rfl, hb2⟩)
        go_ret
        exact ⟨rfl, (BLW.out _ HBB.out).trans (hb2.mono (BLW.out _ HBB.out).size)⟩
      · have hv' : ¬ (1000 : Int) < vv.size := by omega
        have HV2 := Lib.hid (show ∀ r ∈ rs.take (j + 1), r.2.size ≤ 1000 from fun r h => by
          rw [HT.out] at h
          rcases List.mem_append.1 h with h | h
          · exact HV.out r h
          · obtain rfl : r = (kk, vv) := by simpa using h
            show vv.size ≤ 1000
            omega)
        have HO2 := Lib.hid (owns_below (owns_below HO.out (Below.alloc (Below.refl _ _) (Nat.le_refl _) (.cells #[.string kk, .string vv] 31))) (Below.alloc (Below.refl _ _) (Nat.le_refl _) (.cells #[.string kk, .string vv] 32)))
        have HB2 := Lib.hid (HBB.out.alloc HBB.out.size (.cells #[.string kk, .string vv] 32))
        have NEWS := Lib.hid (news2 (wr.alloc (.cells #[.string kk, .string vv] 31)) 32 kk vv)
        rw [show (wr.alloc (.cells #[.string kk, .string vv] 31)).heap.size = wr.heap.size + 1 by simp] at NEWS
        have HJL := Lib.hid (show (cells2 (rs.take j) ++ [.string kk, .string vv]) = cells2 (rs.take (j + 1)) by rw [HT.out, cells2_app]; rfl)
        clear HT
        go_wp2_with (at_builtin; refine wpList_append_own _ rfl _ _ 29 rfl W0.heap.size 32 i0 (.agg #[.string ⟨#[]⟩, .string ⟨#[]⟩]) 2 32 Tryz.underlying29 hi hz0 hz1 hz2 rfl (by decide) (.slice Au j cu) j (cells2 (rs.take j)) rfl HO2.out ⟨wr.heap.size + 1, 0, none⟩ 1 1 [.string kk, .string vv] rfl rfl NEWS.out (two_cells kk vv) (by unfold maxLen; omega) (by omega) (by have := HB2.out.size; omega) ?_; intro v3 w3 hown3 hgrow3 hnil3; have HO3 := Lib.hid hown3; have HB3 := Lib.hid (below_app6 HB2.out (Nat.le_refl _) HO2.out hgrow3); clear hown3 hgrow3 hnil3)
        go_roundw
        case rel => exact ⟨j + 1, by omega, by go_num, HV2.out, by show World.ownsRow _ _ _ _ _ _ _; rw [← HJL.out]; exact HO3.out, HB3.out⟩
        case measure => simp [intOf]; omega
    · obtain rfl : j = nr := by omega
      have hlt' : ¬ (j : Int) < j := by omega
      have htk : rs.take j = rs := List.take_of_length_le (by omega)
      rw [htk] at HV HO
      obtain ⟨A1, c1, hv1, hr1, _, _⟩ := RO.rlv (RO.of8 HO.out hrl)
      rw [hrl] at hv1 hr1
      subst hv1
      have HBL := Lib.hid (BLW.out _ hb)
      have FRO1 := Lib.hid (FRO.out wr HBL.out A1 c1 hr1 HV.out)
      have HB1 := Lib.hid hb
      have hbx := HBX.out.later hb
      have y0 : wr.cell? ⟨w.heap.size, 0, none⟩ = some (.string p) := hbx.cell rfl
      have y1 : wr.cell? ⟨w.heap.size, 1, none⟩ = some (.string nm) := hbx.cell rfl
      have y2 : wr.cell? ⟨w.heap.size, 2, none⟩ = some (.int .i64 m) := hbx.cell rfl
      have y3 : wr.cell? ⟨w.heap.size, 3, none⟩ = some (.int .i64 u) := hbx.cell rfl
      have y4 : wr.cell? ⟨w.heap.size, 4, none⟩ = some (.int .i64 g) := hbx.cell rfl
      have y5 : wr.cell? ⟨w.heap.size, 5, none⟩ = some (.int .i64 t) := hbx.cell rfl
      have y6 : wr.cell? ⟨w.heap.size, 6, none⟩ = some (.int .i64 z) := hbx.cell rfl
      have y7 : wr.cell? ⟨w.heap.size, 7, none⟩ = some (.int .u8 k) := hbx.cell rfl
      have y8 : wr.cell? ⟨w.heap.size, 8, none⟩ = some (.string l) := hbx.cell rfl
      have hls := HLS.out HV.out
      clear htk hr1 hbx hb FRO HO
      go_upto_region 15 with (first
        | (go_at_call 9; (with_reducible refine (FRO1.out).mono ?_); rintro e w5 ⟨A8, n8, c8, rfl, hr8, hc8, hm8, hb8⟩; have HR8 := Lib.hid hr8; have HB5 := Lib.hid (HB1.out.trans (hb8.mono HB1.out.size)); have hbx5 := (HBX.out.later HB5.out).alloc (.cells #[.string P, .int .i64 K, .int .i64 M, .int .i64 U, .int .i64 G, .int .i64 TT, .string L, .slice A8 n8 c8] 35); have x0 : (w5.alloc (.cells #[.string P, .int .i64 K, .int .i64 M, .int .i64 U, .int .i64 G, .int .i64 TT, .string L, .slice A8 n8 c8] 35)).cell? ⟨w.heap.size, 0, none⟩ = some (.string p) := hbx5.cell rfl; have x1 : (w5.alloc (.cells #[.string P, .int .i64 K, .int .i64 M, .int .i64 U, .int .i64 G, .int .i64 TT, .string L, .slice A8 n8 c8] 35)).cell? ⟨w.heap.size, 1, none⟩ = some (.string nm) := hbx5.cell rfl; have x2 : (w5.alloc (.cells #[.string P, .int .i64 K, .int .i64 M, .int .i64 U, .int .i64 G, .int .i64 TT, .string L, .slice A8 n8 c8] 35)).cell? ⟨w.heap.size, 2, none⟩ = some (.int .i64 m) := hbx5.cell rfl; have x3 : (w5.alloc (.cells #[.string P, .int .i64 K, .int .i64 M, .int .i64 U, .int .i64 G, .int .i64 TT, .string L, .slice A8 n8 c8] 35)).cell? ⟨w.heap.size, 3, none⟩ = some (.int .i64 u) := hbx5.cell rfl; have x4 : (w5.alloc (.cells #[.string P, .int .i64 K, .int .i64 M, .int .i64 U, .int .i64 G, .int .i64 TT, .string L, .slice A8 n8 c8] 35)).cell? ⟨w.heap.size, 4, none⟩ = some (.int .i64 g) := hbx5.cell rfl; have x5 : (w5.alloc (.cells #[.string P, .int .i64 K, .int .i64 M, .int .i64 U, .int .i64 G, .int .i64 TT, .string L, .slice A8 n8 c8] 35)).cell? ⟨w.heap.size, 5, none⟩ = some (.int .i64 t) := hbx5.cell rfl; have x6 : (w5.alloc (.cells #[.string P, .int .i64 K, .int .i64 M, .int .i64 U, .int .i64 G, .int .i64 TT, .string L, .slice A8 n8 c8] 35)).cell? ⟨w.heap.size, 6, none⟩ = some (.int .i64 z) := hbx5.cell rfl; have x7 : (w5.alloc (.cells #[.string P, .int .i64 K, .int .i64 M, .int .i64 U, .int .i64 G, .int .i64 TT, .string L, .slice A8 n8 c8] 35)).cell? ⟨w.heap.size, 7, none⟩ = some (.int .u8 k) := hbx5.cell rfl; have x8 : (w5.alloc (.cells #[.string P, .int .i64 K, .int .i64 M, .int .i64 U, .int .i64 G, .int .i64 TT, .string L, .slice A8 n8 c8] 35)).cell? ⟨w.heap.size, 8, none⟩ = some (.string l) := hbx5.cell rfl; clear hr8 hc8 hm8 hb8 hbx5)
        | (go_at_call 10; (with_reducible refine (RFR.out _ ((BLW.out _ HB5.out).alloc (BLW.out _ HB5.out).size _) HV.out).mono ?_); rintro e w6 ⟨rfl, hb6⟩; have HB56 := Lib.hid hb6; clear hb6)
        | (go_at_call 11; (with_reducible refine (THE.out P L K M U G TT A2 n2 c2 _).mono ?_); rintro e w7 ⟨rfl, hb7⟩; have HB67 := Lib.hid hb7; clear hb7))
      rw [← HLX.out]
      obtain ⟨W9, hW9⟩ : ∃ W9, W9 = w7.alloc (.cells #[.string P, .int .i64 K, .int .i64 M, .int .i64 U, .int .i64 G, .int .i64 TT, .string LX, .slice A2 n2 c2] 35) := ⟨_, rfl⟩
      have k12 : Below w5.heap.size w5 w6 := (mb_new w5 (.cells #[.string P, .int .i64 K, .int .i64 M, .int .i64 U, .int .i64 G, .int .i64 TT, .string L, .slice A8 n8 c8] 35)).trans (HB56.out.mono (by simp))
      have k23 : Below w6.heap.size w6 w7 := (mb_new w6 (.cells #[.string P, .int .i64 K, .int .i64 M, .int .i64 U, .int .i64 G, .int .i64 TT, .string L, .slice A2 n2 c2] 42)).trans (HB67.out.mono (by simp))
      have k39 : Below w7.heap.size w7 W9 := by rw [hW9]; exact mb_new _ _
      have b1 : BX W9 w5.heap.size 35 #[.string P, .int .i64 K, .int .i64 M, .int .i64 U, .int .i64 G, .int .i64 TT, .string L, .slice A8 n8 c8] := (((BX.new w5 _ _).later HB56.out).later k23).later k39
      have b2 : BX W9 w6.heap.size 42 #[.string P, .int .i64 K, .int .i64 M, .int .i64 U, .int .i64 G, .int .i64 TT, .string L, .slice A2 n2 c2] := ((BX.new w6 _ _).later HB67.out).later k39
      have b3 : BX W9 w7.heap.size 35 #[.string P, .int .i64 K, .int .i64 M, .int .i64 U, .int .i64 G, .int .i64 TT, .string LX, .slice A2 n2 c2] := by rw [hW9]; exact BX.new _ _ _
      have c59 : Below w5.heap.size w5 W9 := k12.trans ((k23.trans (k39.mono k23.size)).mono k12.size)
      have HW9 := Lib.hid (BLW.out _ (HB5.out.trans (c59.mono HB5.out.size)))
      have SAMT := Lib.hid (fun W (hW : Below W9.heap.size W9 W) => (show Calls Tryz.prog 12 #[.agg #[.string P, .int .i64 K, .int .i64 M, .int .i64 U, .int .i64 G, .int .i64 TT, .string L, .slice A8 n8 c8], .agg #[.string P, .int .i64 K, .int .i64 M, .int .i64 U, .int .i64 G, .int .i64 TT, .string L, .slice A2 n2 c2]] W fun e w' => e = .returned (.bool true) ∧ Below W.heap.size W w' by
        have hcc := c59.trans (hW.mono c59.size)
        have hh := SAM.out A8 n8 c8 L W ((HR8.out.below hcc).more hcc.size) (RB2.out W (HW9.out.trans (hW.mono HW9.out.size)))
        rw [show sameM P L P L K M U G TT K M U G TT X X = true from by simp [sameM]] at hh
        exact hh))
      have SAMF := Lib.hid (fun W (hW : Below W9.heap.size W9 W) => (show Calls Tryz.prog 12 #[.agg #[.string P, .int .i64 K, .int .i64 M, .int .i64 U, .int .i64 G, .int .i64 TT, .string L, .slice A8 n8 c8], .agg #[.string P, .int .i64 K, .int .i64 M, .int .i64 U, .int .i64 G, .int .i64 TT, .string LX, .slice A2 n2 c2]] W fun e w' => e = .returned (.bool false) ∧ Below W.heap.size W w' by
        have hcc := c59.trans (hW.mono c59.size)
        have hh := SAM.out A8 n8 c8 LX W ((HR8.out.below hcc).more hcc.size) (RB2.out W (HW9.out.trans (hW.mono HW9.out.size)))
        rw [show sameM P L P LX K M U G TT K M U G TT X X = false from by simp [sameM, HLNE.out]] at hh
        exact hh))
      have alls : ∀ W, Below W9.heap.size W9 W → W.cell? ⟨w5.heap.size, 0, none⟩ = some (.string P) ∧ W.cell? ⟨w5.heap.size, 1, none⟩ = some (.int .i64 K) ∧ W.cell? ⟨w5.heap.size, 2, none⟩ = some (.int .i64 M) ∧ W.cell? ⟨w5.heap.size, 3, none⟩ = some (.int .i64 U) ∧ W.cell? ⟨w5.heap.size, 4, none⟩ = some (.int .i64 G) ∧ W.cell? ⟨w5.heap.size, 5, none⟩ = some (.int .i64 TT) ∧ W.cell? ⟨w5.heap.size, 6, none⟩ = some (.string L) ∧ W.cell? ⟨w5.heap.size, 7, none⟩ = some (.slice A8 n8 c8) ∧ W.cell? ⟨w6.heap.size, 0, none⟩ = some (.string P) ∧ W.cell? ⟨w6.heap.size, 1, none⟩ = some (.int .i64 K) ∧ W.cell? ⟨w6.heap.size, 2, none⟩ = some (.int .i64 M) ∧ W.cell? ⟨w6.heap.size, 3, none⟩ = some (.int .i64 U) ∧ W.cell? ⟨w6.heap.size, 4, none⟩ = some (.int .i64 G) ∧ W.cell? ⟨w6.heap.size, 5, none⟩ = some (.int .i64 TT) ∧ W.cell? ⟨w6.heap.size, 6, none⟩ = some (.string L) ∧ W.cell? ⟨w6.heap.size, 7, none⟩ = some (.slice A2 n2 c2) ∧ W.cell? ⟨w7.heap.size, 0, none⟩ = some (.string P) ∧ W.cell? ⟨w7.heap.size, 1, none⟩ = some (.int .i64 K) ∧ W.cell? ⟨w7.heap.size, 2, none⟩ = some (.int .i64 M) ∧ W.cell? ⟨w7.heap.size, 3, none⟩ = some (.int .i64 U) ∧ W.cell? ⟨w7.heap.size, 4, none⟩ = some (.int .i64 G) ∧ W.cell? ⟨w7.heap.size, 5, none⟩ = some (.int .i64 TT) ∧ W.cell? ⟨w7.heap.size, 6, none⟩ = some (.string LX) ∧ W.cell? ⟨w7.heap.size, 7, none⟩ = some (.slice A2 n2 c2) := fun W hW => by
        have d1 := b1.later hW
        have d2 := b2.later hW
        have d3 := b3.later hW
        exact ⟨d1.cell rfl, d1.cell rfl, d1.cell rfl, d1.cell rfl, d1.cell rfl, d1.cell rfl, d1.cell rfl, d1.cell rfl, d2.cell rfl, d2.cell rfl, d2.cell rfl, d2.cell rfl, d2.cell rfl, d2.cell rfl, d2.cell rfl, d2.cell rfl, d3.cell rfl, d3.cell rfl, d3.cell rfl, d3.cell rfl, d3.cell rfl, d3.cell rfl, d3.cell rfl, d3.cell rfl⟩
      have ALLS := Lib.hid alls
      have LOW := Lib.hid (fun W (h : Below W9.heap.size W9 W) => HW9.out.trans (h.mono HW9.out.size))
      rw [← hW9]
      clear hW9 alls b1 b2 b3 k12 k23 k39 c59 x0 x1 x2 x3 x4 x5 x6 x7 x8 y0 y1 y2 y3 y4 y5 y6 y7 y8
      generalize w5.heap.size = g1 at *
      generalize w6.heap.size = g2 at *
      generalize w7.heap.size = g3 at *
      have hEE : decide (E = E) = true := decide_eq_true rfl
      have hacc : Below W9.heap.size W9 W9.drew := below_drewN (Below.refl _ _) 1
      obtain ⟨y0, y1, y2, y3, y4, y5, y6, y7, y8, y9, y10, y11, y12, y13, y14, y15, y16, y17, y18, y19, y20, y21, y22, y23⟩ := ALLS.out _ hacc
      go_region_held3 (fun w' => w'.cell? ⟨g1, 0, none⟩ = some (.string P) ∧ w'.cell? ⟨g1, 1, none⟩ = some (.int .i64 K) ∧ w'.cell? ⟨g1, 2, none⟩ = some (.int .i64 M) ∧ w'.cell? ⟨g1, 3, none⟩ = some (.int .i64 U) ∧ w'.cell? ⟨g1, 4, none⟩ = some (.int .i64 G) ∧ w'.cell? ⟨g1, 5, none⟩ = some (.int .i64 TT) ∧ w'.cell? ⟨g1, 6, none⟩ = some (.string L) ∧ w'.cell? ⟨g1, 7, none⟩ = some (.slice A8 n8 c8) ∧ w'.cell? ⟨g2, 0, none⟩ = some (.string P) ∧ w'.cell? ⟨g2, 1, none⟩ = some (.int .i64 K) ∧ w'.cell? ⟨g2, 2, none⟩ = some (.int .i64 M) ∧ w'.cell? ⟨g2, 3, none⟩ = some (.int .i64 U) ∧ w'.cell? ⟨g2, 4, none⟩ = some (.int .i64 G) ∧ w'.cell? ⟨g2, 5, none⟩ = some (.int .i64 TT) ∧ w'.cell? ⟨g2, 6, none⟩ = some (.string L) ∧ w'.cell? ⟨g2, 7, none⟩ = some (.slice A2 n2 c2) ∧ w'.cell? ⟨g3, 0, none⟩ = some (.string P) ∧ w'.cell? ⟨g3, 1, none⟩ = some (.int .i64 K) ∧ w'.cell? ⟨g3, 2, none⟩ = some (.int .i64 M) ∧ w'.cell? ⟨g3, 3, none⟩ = some (.int .i64 U) ∧ w'.cell? ⟨g3, 4, none⟩ = some (.int .i64 G) ∧ w'.cell? ⟨g3, 5, none⟩ = some (.int .i64 TT) ∧ w'.cell? ⟨g3, 6, none⟩ = some (.string LX) ∧ w'.cell? ⟨g3, 7, none⟩ = some (.slice A2 n2 c2)) (first | go_keep | (exact ALLS.out _ hacc)) (first
        | (go_at_call 11; (with_reducible refine (THE.out P L K M U G TT A2 n2 c2 _).mono ?_); rintro e w10 ⟨rfl, hb10⟩; replace hacc := bthen hacc hb10)
        | (go_at_call 12; (first | (with_reducible refine (SAMT.out _ hacc).mono ?_) | (with_reducible refine (SAMF.out _ hacc).mono ?_)); rintro e w11 ⟨rfl, hb11⟩; replace hacc := bthen hacc hb11)
        | (go_at_call 8; (with_reducible refine (AL.out _ (TB.out.on (LOW.out _ hacc))).mono ?_); rintro e w12 ⟨rfl, hb12⟩; replace hacc := bthen hacc hb12))
      all_goals
        go_wp2
        go_ret
        exact ⟨ret_bool (by simp), LOW.out _ hacc⟩
end Go.Proofs.YtjhigkkkfkahdaaGreatDoor
