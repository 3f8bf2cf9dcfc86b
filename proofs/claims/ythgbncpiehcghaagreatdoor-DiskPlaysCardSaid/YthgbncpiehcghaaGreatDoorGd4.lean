/- WALKS OF THE DOCUMENT's DISK: Dark, burnt, Fuse; a disk's eight cells. -/
import Derived.Test.YthgbncpiehcghaaGreatDoorR14a
import Derived.Test.YthgbncpiehcghaaGreatDoorR13u
import Derived.Deep.RegionHeld3
import Derived.Test.YthgbncpiehcghaaGreatDoorGr2
namespace Go.Proofs.YthgbncpiehcghaaGreatDoor
set_option linter.unusedVariables false
open Go Go.RowKit Go.Maps
set_option maxRecDepth 100000
set_option maxHeartbeats 8000000
open Nt (Tr Nd WF Ps Path at_ cnt used txt Dd ap)
/-- A disk's cells. -/
abbrev RkC (A1 : Option Addr) (n1 c1 : Nat) (A2 : Option Addr) (n2 c2 : Nat) (a b : Int) (AL : Option Addr) (nL cL : Nat) (sy : Int) (fd : Bool) (lf : Int) : Array Value :=
  #[.slice A1 n1 c1, .slice A2 n2 c2, .int .i64 a, .int .i64 b, .slice AL nL cL, .int .i64 sy, .bool fd, .int .i64 lf]
abbrev Rk0 : Array Value := #[.slice none 0 0, .slice none 0 0, .int .i64 0, .int .i64 0, .slice none 0 0, .int .i64 0, .bool false, .int .i64 0]
theorem fin8 {w W : World} {r : Nat} {U : TypeId} {z0 z1 z2 z3 z4 z5 z6 z7 : Value} (hx : BX W r U #[z0, z1, z2, z3, z4, z5, z6, z7]) (hb : Below w.heap.size w W) (hr : w.heap.size ≤ r) (v0 v1 v2 v3 v4 v5 v6 v7 : Value) :
    ∃ V, ((((((((W.setCell ⟨r, 0, none⟩ v0).setCell ⟨r, 1, none⟩ v1).setCell ⟨r, 2, none⟩ v2).setCell ⟨r, 3, none⟩ v3).setCell ⟨r, 4, none⟩ v4).setCell ⟨r, 5, none⟩ v5).setCell ⟨r, 6, none⟩ v6).setCell ⟨r, 7, none⟩ v7) = V ∧ BX V r U #[v0, v1, v2, v3, v4, v5, v6, v7] ∧ Below w.heap.size w V ∧ Oth r W V :=
  ⟨_, rfl, by have h9 := ((((((((hx.set 0 v0).set 1 v1).set 2 v2).set 3 v3).set 4 v4).set 5 v5).set 6 v6).set 7 v7); simpa using h9, ((((((((hb.setCell (p := ⟨r, 0, none⟩) hr _).setCell (p := ⟨r, 1, none⟩) hr _).setCell (p := ⟨r, 2, none⟩) hr _).setCell (p := ⟨r, 3, none⟩) hr _).setCell (p := ⟨r, 4, none⟩) hr _).setCell (p := ⟨r, 5, none⟩) hr _).setCell (p := ⟨r, 6, none⟩) hr _).setCell (p := ⟨r, 7, none⟩) hr _), (((((((((Oth.refl r W).setCell 0 v0).setCell 1 v1).setCell 2 v2).setCell 3 v3).setCell 4 v4).setCell 5 v5).setCell 6 v6).setCell 7 v7)⟩
section
variable (A1 : Option Addr) (n1 c1 : Nat) (A2 : Option Addr) (n2 c2 : Nat) (a b : Int) (AL : Option Addr) (nL cL : Nat) (sy : Int) (fd : Bool) (lf : Int) (w : World)
theorem refdark_any : Calls Tryz.prog 31 #[.agg (RkC A1 n1 c1 A2 n2 c2 a b AL nL cL sy fd lf)] w fun e w' => e = .returned (.bool (fd && (lf == 0))) ∧ Below w.heap.size w w' := by
  obtain ⟨W1, hW1, hb1, hs1, x1⟩ := frame1 w (RkC A1 n1 c1 A2 n2 c2 a b AL nL cL sy fd lf) 56
  have y0 : W1.cell? ⟨w.heap.size, 6, none⟩ = some (.bool fd) := x1.cell rfl
  have y1 : W1.cell? ⟨w.heap.size, 7, none⟩ = some (.int .i64 lf) := x1.cell rfl
  have HB := Lib.hid hb1
  clear hs1 hb1 x1
  cases fd with
  | true =>
    go_enter Tryz.func31, Tryz.ntmps31
    go_wp2
    go_ret
    exact ⟨by simp, HB.out⟩
  | false =>
    go_enter Tryz.func31, Tryz.ntmps31
    go_wp2
    go_ret
    exact ⟨by simp, HB.out⟩
theorem refburnt_any (h0 : 0 ≤ lf) (h1 : lf ≤ 9223372036854775807) : Calls Tryz.prog 121 #[.agg (RkC A1 n1 c1 A2 n2 c2 a b AL nL cL sy fd lf)] w fun e w' => e = .returned (.agg (RkC A1 n1 c1 A2 n2 c2 a b AL nL cL sy fd (max (lf - 1) 0))) ∧ Below w.heap.size w w' := by
  obtain ⟨W1, hW1, hb1, hs1, x1, x2⟩ := frame2 w (RkC A1 n1 c1 A2 n2 c2 a b AL nL cL sy fd lf) 56 Rk0 56
  have hw : IntKind.i64.wrap (lf - 1) = lf - 1 := wrap_small (by omega) (by omega)
  have y0 := x1.cell (j := 0) rfl; have y1 := x1.cell (j := 1) rfl; have y2 := x1.cell (j := 2) rfl; have y3 := x1.cell (j := 3) rfl; have y4 := x1.cell (j := 4) rfl; have y5 := x1.cell (j := 5) rfl; have y6 := x1.cell (j := 6) rfl; have y7 := x1.cell (j := 7) rfl
  have f7 := x1.free 7
  have z0 := x2.cell (j := 0) rfl; have z1 := x2.cell (j := 1) rfl; have z2 := x2.cell (j := 2) rfl; have z3 := x2.cell (j := 3) rfl; have z4 := x2.cell (j := 4) rfl; have z5 := x2.cell (j := 5) rfl; have z6 := x2.cell (j := 6) rfl; have z7 := x2.cell (j := 7) rfl
  have e0 := x2.free 0; have e1 := x2.free 1; have e2 := x2.free 2; have e3 := x2.free 3; have e4 := x2.free 4; have e5 := x2.free 5; have e6 := x2.free 6; have e7 := x2.free 7
  have HX1 := Lib.hid x1
  have HX2 := Lib.hid x2
  have HB := Lib.hid hb1
  clear hs1 hb1 x1 x2
  go_enter Tryz.func121, Tryz.ntmps121
  go_wp2
  have HX3 := HX2.out.oth ((Oth.refl w.heap.size W1).setCell 7 (.int .i64 (max (lf - 1) 0))) (by omega)
  obtain ⟨V, hV, hx, hb, ho⟩ := fin8 HX3 (HB.out.setCell (p := ⟨w.heap.size, 7, none⟩) (Nat.le_refl _) (.int .i64 (max (lf - 1) 0))) (Nat.le_succ _) (.slice A1 n1 c1) (.slice A2 n2 c2) (.int .i64 a) (.int .i64 b) (.slice AL nL cL) (.int .i64 sy) (.bool fd) (.int .i64 (max (lf - 1) 0))
  rw [hV]
  have k0 := hx.cell (j := 0) rfl; have k1 := hx.cell (j := 1) rfl; have k2 := hx.cell (j := 2) rfl; have k3 := hx.cell (j := 3) rfl; have k4 := hx.cell (j := 4) rfl; have k5 := hx.cell (j := 5) rfl; have k6 := hx.cell (j := 6) rfl; have k7 := hx.cell (j := 7) rfl
  exact bodyPost_ret (v := .agg (RkC A1 n1 c1 A2 n2 c2 a b AL nL cL sy fd (max (lf - 1) 0))) (by simp [results, Tryz.f121, go_sem, k0, k1, k2, k3, k4, k5, k6, k7]) rfl ⟨rfl, hb⟩
theorem reffuse_any (n : Int) : Calls Tryz.prog 76 #[.agg (RkC A1 n1 c1 A2 n2 c2 a b AL nL cL sy fd lf), .int .i64 n] w fun e w' => e = .returned (.agg (RkC A1 n1 c1 A2 n2 c2 a b AL nL cL sy (decide (0 ≤ n)) (max n 0))) ∧ Below w.heap.size w w' := by
  obtain ⟨W1, hW1, hb1, hs1, x1, x2⟩ := frame2 w (RkC A1 n1 c1 A2 n2 c2 a b AL nL cL sy fd lf) 56 Rk0 56
  have y0 := x1.cell (j := 0) rfl; have y1 := x1.cell (j := 1) rfl; have y2 := x1.cell (j := 2) rfl; have y3 := x1.cell (j := 3) rfl; have y4 := x1.cell (j := 4) rfl; have y5 := x1.cell (j := 5) rfl; have y6 := x1.cell (j := 6) rfl; have y7 := x1.cell (j := 7) rfl
  have f6 := x1.free 6; have f7 := x1.free 7
  have z0 := x2.cell (j := 0) rfl; have z1 := x2.cell (j := 1) rfl; have z2 := x2.cell (j := 2) rfl; have z3 := x2.cell (j := 3) rfl; have z4 := x2.cell (j := 4) rfl; have z5 := x2.cell (j := 5) rfl; have z6 := x2.cell (j := 6) rfl; have z7 := x2.cell (j := 7) rfl
  have e0 := x2.free 0; have e1 := x2.free 1; have e2 := x2.free 2; have e3 := x2.free 3; have e4 := x2.free 4; have e5 := x2.free 5; have e6 := x2.free 6; have e7 := x2.free 7
  have HX2 := Lib.hid x2
  have HB := Lib.hid hb1
  obtain ⟨dn, hdn⟩ : ∃ b : Bool, decide (0 ≤ n) = b := ⟨_, rfl⟩
  rw [hdn]
  clear hs1 hb1 x1 x2
  go_enter Tryz.func76, Tryz.ntmps76
  go_wp2
  have HX3 := HX2.out.oth (((Oth.refl w.heap.size W1).setCell 6 (.bool dn)).setCell 7 (.int .i64 (max n 0))) (by omega)
  obtain ⟨V, hV, hx, hb, ho⟩ := fin8 HX3 ((HB.out.setCell (p := ⟨w.heap.size, 6, none⟩) (Nat.le_refl _) (.bool dn)).setCell (p := ⟨w.heap.size, 7, none⟩) (Nat.le_refl _) (.int .i64 (max n 0))) (Nat.le_succ _) (.slice A1 n1 c1) (.slice A2 n2 c2) (.int .i64 a) (.int .i64 b) (.slice AL nL cL) (.int .i64 sy) (.bool dn) (.int .i64 (max n 0))
  rw [hV]
  have k0 := hx.cell (j := 0) rfl; have k1 := hx.cell (j := 1) rfl; have k2 := hx.cell (j := 2) rfl; have k3 := hx.cell (j := 3) rfl; have k4 := hx.cell (j := 4) rfl; have k5 := hx.cell (j := 5) rfl; have k6 := hx.cell (j := 6) rfl; have k7 := hx.cell (j := 7) rfl
  exact bodyPost_ret (v := .agg (RkC A1 n1 c1 A2 n2 c2 a b AL nL cL sy dn (max n 0))) (by simp [results, Tryz.f76, go_sem, k0, k1, k2, k3, k4, k5, k6, k7]) rfl ⟨rfl, hb⟩
end
end Go.Proofs.YthgbncpiehcghaaGreatDoor
/- WALKS OF THE DOCUMENT's DISK: all (a tree behind deeds); a row of deeds. -/
namespace Go.Proofs.YthgbncpiehcghaaGreatDoor
set_option linter.unusedVariables false
open Go Go.RowKit Go.Maps
set_option maxRecDepth 100000
set_option maxHeartbeats 8000000
open Nt (Tr Nd WF Ps Path at_ cnt used txt Dd ap)
/-- What a deed's texts and bytes are. -/
def DdFit (y : Dd) : Prop := y.p.size ≤ 100000 ∧ y.q.size ≤ 100000 ∧ y.n ≤ y.k ∧ y.k ≤ maxLen ∧ y.n ≤ 1000000
/-- A row of the document's deeds, their bytes below B. -/
def DRow (w : World) (B : Nat) (A : Option Addr) (n : Nat) (l : List Dd) : Prop := RowOf DdC 8 60 w A n l ∧ ∀ y ∈ l, RB w B y.A y.n y.xs ∧ DdFit y
section
variable {w w' : World} {B n : Nat} {A : Option Addr} {l : List Dd}
theorem DRow.below (h : DRow w B A n l) (hB : B ≤ w.heap.size) (hb : Below w.heap.size w w') : DRow w' B A n l := ⟨h.1.below hb, fun y hy => ⟨(h.2 y hy).1.below (hb.mono hB), (h.2 y hy).2⟩⟩
theorem DRow.pre (h : DRow w B A n l) {k : Nat} (hk : k ≤ n) : DRow w B A k (l.take k) := ⟨RowOf.pre h.1 hk, fun y hy => h.2 y (List.mem_of_mem_take hy)⟩
theorem DRow.nil : DRow w B none 0 [] := ⟨⟨rfl, fun h => absurd h (Nat.lt_irrefl 0)⟩, fun y hy => by cases hy⟩
end
section
variable {w : World} {B : Nat} {A1 A2 : Option Addr} {n1 c1 n2 c2 : Nat} {T : Tr}
theorem refall_any {K : Nat} (h : RTr w B A1 n1 c1 A2 n2 c2 T) (hW : WF T K) (A : Option Addr) (n c : Nat) (l : List Dd) (hl : DRow w B A n l) (hK : K + 301 * n ≤ 90000) (hc : n ≤ c) (hcm : c ≤ maxLen) :
    Calls Tryz.prog 80 #[.agg (RvC A1 n1 c1 A2 n2 c2 T.room T.vol), .slice A n c] w fun e w' => ∃ v, e = .returned v ∧ Rv w' B v (Nt.all T l) ∧ WF (Nt.all T l) (K + 301 * n) ∧ Below w.heap.size w w' := by
  obtain ⟨W1, hW1, hb1, hs1, x1, x2⟩ := frame2 w (RvC A1 n1 c1 A2 n2 c2 T.room T.vol) 29 Rv0 29
  have hll := hl.1.1
  have hBw := h.base
  have HR0 := Lib.hid (h.below hb1)
  have HL := Lib.hid (hl.below hBw hb1)
  have HX1 := Lib.hid x1
  have HX2 := Lib.hid x2
  have HB1 := Lib.hid hb1
  have HLL := Lib.hid hll
  have HW := Lib.hid hW
  clear h hl hb1 x1 x2 hll hW
  have hs := hs1
  clear hs1
  go_enter Tryz.func80, Tryz.ntmps80
  go_wp2
  go_loopw [5] (fun i W => ∃ (j : Nat) (T' : Tr) (A1 : Option Addr) (n1 c1 : Nat) (A2 : Option Addr) (n2 c2 : Nat), j ≤ n ∧ i = .int .i64 j ∧ Hid (T' = Nt.all T (l.take j)) ∧ Hid (WF T' (K + 301 * j)) ∧ Hid (RTr W B A1 n1 c1 A2 n2 c2 T') ∧ Hid (BX W w.heap.size 29 (RvC A1 n1 c1 A2 n2 c2 T'.room T'.vol)) ∧ Hid (BX W (w.heap.size + 1) 29 Rv0) ∧ Hid (Below w.heap.size w W) ∧ Hid (DRow W B A n l)) (fun i _ => n - (intOf i).toNat)
  case atStart => exact ⟨0, T, _, _, _, _, _, _, Nat.zero_le _, rfl, rfl, HW.out, HR0.out, HX1.out, HX2.out, HB1.out, HL.out⟩
  case round =>
    revert hrel
    generalize wr = V
    intro hrel
    obtain ⟨j, T', A1, n1, c1, A2, n2, c2, hj, rfl, HT, HWF, HR, HX, HZ, HBV, HLV⟩ := hrel
    by_cases hlt : j < n
    · have hlt' : (j : Int) < n := by omega
      obtain ⟨g, o, y, rfl, hy, hc⟩ := HLV.out.1.at_ hlt
      have hyd := HLV.out.2 y (List.mem_of_getElem? hy)
      have HTN := Lib.hid (show (ap T' y).1 = Nt.all T (l.take (j + 1)) from by
        rw [HT.out, List.take_add_one, hy, Option.toList_some, Nt.all_snoc])
      have HWN := Lib.hid (HWF.out.ap y hyd.1.1)
      have KA := Lib.hid (fun W (hb : Below V.heap.size V W) => refapply_any (HR.out.below hb) HWF.out (by omega) y hyd.2.1 hyd.2.2.1 (hyd.1.below (hb.mono HR.out.base)) hyd.2.2.2.1 hyd.2.2.2.2.1 hyd.2.2.2.2.2)
      obtain ⟨kd, p, q, ma, mb, mc, md, DA, dn, dk, ds⟩ := y
      have SC := Lib.hid (fun W (hb : Below V.heap.size V W) => show W.cell? ⟨g, o + j * 8, none⟩ = some (.int .i64 kd) ∧ W.cell? ⟨g, o + j * 8 + 1, none⟩ = some (.string p) ∧ W.cell? ⟨g, o + j * 8 + 2, none⟩ = some (.string q) ∧ W.cell? ⟨g, o + j * 8 + 3, none⟩ = some (.int .i64 ma) ∧ W.cell? ⟨g, o + j * 8 + 4, none⟩ = some (.int .i64 mb) ∧ W.cell? ⟨g, o + j * 8 + 5, none⟩ = some (.int .i64 mc) ∧ W.cell? ⟨g, o + j * 8 + 6, none⟩ = some (.int .i64 md) ∧ W.cell? ⟨g, o + j * 8 + 7, none⟩ = some (.slice DA dn dk) from by
        obtain ⟨g', o', y', e', hy', hc'⟩ := (HLV.out.below HR.out.base hb).1.at_ hlt
        cases e'
        rw [hy] at hy'
        cases hy'
        exact ⟨hc' 0 _ rfl, hc' 1 _ rfl, hc' 2 _ rfl, hc' 3 _ rfl, hc' 4 _ rfl, hc' 5 _ rfl, hc' 6 _ rfl, hc' 7 _ rfl⟩)
      have hacc : Below V.heap.size V V.drew := (Below.refl _ _).drew
      have hxd := HX.out.drew
      obtain ⟨s0, s1, s2, s3, s4, s5, s6, s7⟩ := SC.out _ hacc
      have x0 := hxd.cell (j := 0) rfl; have x1 := hxd.cell (j := 1) rfl; have x2 := hxd.cell (j := 2) rfl; have x3 := hxd.cell (j := 3) rfl
      clear hc hy hyd
      go_upto_region 4 with (fail)
      go_region_law (first
        | (go_simp; go_at_call 82; (with_reducible refine (KA.out _ hacc).mono ?_); rintro e w4 ⟨v4, rfl, ⟨A3, n3, c3, A4, n4, c4, rfl, hr4⟩, hb4⟩; have hacc4 := bthen hacc hb4; have hx4 := HX.out.later hacc4; have t0 := hx4.cell (j := 0) rfl; have tf0 := hx4.free 0; have t1 := hx4.cell (j := 1) rfl; have tf1 := hx4.free 1; have t2 := hx4.cell (j := 2) rfl; have tf2 := hx4.free 2; have t3 := hx4.cell (j := 3) rfl; have tf3 := hx4.free 3))
      all_goals
        go_wp2
        obtain ⟨V7, hV7, hx7, ho7⟩ := set4b hx4 (.slice A3 n3 c3) (.slice A4 n4 c4) (.int .i64 (ap T' ⟨kd, p, q, ma, mb, mc, md, DA, dn, dk, ds⟩).1.room) (.int .i64 (ap T' ⟨kd, p, q, ma, mb, mc, md, DA, dn, dk, ds⟩).1.vol)
        rw [hV7]
        have hv4 := bthen HBV.out hacc4
        have hrs := HBV.out.size
        have h8 := hr4.oth13f ho7 hx4 hBw
        have hd8 : DRow V7 B (some ⟨g, o, none⟩) n l := by
          have h9 := HLV.out.below HR.out.base hacc4
          refine ⟨⟨h9.1.1, fun hn => ?_⟩, fun z hz => ⟨(h9.2 z hz).1.below (ho7.below hBw (Nat.le_trans hBw hv4.size)), (h9.2 z hz).2⟩⟩
          obtain ⟨b', o', e', ⟨cs', fz', hb'⟩, hc'⟩ := h9.1.2 hn
          have hne : b' ≠ w.heap.size := fun e => by
            subst e
            rw [hx4] at hb'
            cases hb'
          exact ⟨b', o', e', ⟨cs', fz', (ho7.2.2.2.2 b' (lt_of_some hb') hne).trans hb'⟩, fun j' x' hj' i' u' hu' => (World.cell?_of_block (a := ⟨b', o' + j' * 8 + i', none⟩) (ho7.2.2.2.2 b' (lt_of_some hb') hne)).trans (hc' j' x' hj' i' u' hu')⟩
        go_roundw
        case rel => exact ⟨j + 1, (ap T' ⟨kd, p, q, ma, mb, mc, md, DA, dn, dk, ds⟩).1, _, _, _, _, _, _, by omega, by go_num, HTN.out, by rw [show K + 301 * (j + 1) = K + 301 * j + 301 by omega]; exact HWN.out, h8, hx7, (HZ.out.later hacc4).oth ho7 (by omega), hv4.trans (ho7.below (Nat.le_refl _) hv4.size), hd8⟩
        case measure => simp [intOf]; omega
    · have hlt' : ¬ (j : Int) < n := by omega
      obtain rfl : j = n := by omega
      have hall : l.take j = l := List.take_of_length_le (by rw [HLL.out]; exact Nat.le_refl _)
      have hT2 := HT.out
      rw [hall] at hT2
      subst hT2
      have hxx := HX.out
      have hzz := HZ.out
      have x0 := hxx.cell (j := 0) rfl; have x1 := hxx.cell (j := 1) rfl; have x2 := hxx.cell (j := 2) rfl; have x3 := hxx.cell (j := 3) rfl
      have z0 := hzz.cell (j := 0) rfl; have z1 := hzz.cell (j := 1) rfl; have z2 := hzz.cell (j := 2) rfl; have z3 := hzz.cell (j := 3) rfl
      have zf0 := hzz.free 0; have zf1 := hzz.free 1; have zf2 := hzz.free 2; have zf3 := hzz.free 3
      clear hxx hzz hall
      go_wp2
      obtain ⟨V9, hV9, k0, k1, k2, k3, hb9, ho9⟩ := fin4 HZ.out HBV.out (Nat.le_succ _) (.slice A1 n1 c1) (.slice A2 n2 c2) (.int .i64 (Nt.all T l).room) (.int .i64 (Nt.all T l).vol)
      rw [hV9]
      refine bodyPost_ret (v := .agg (RvC A1 n1 c1 A2 n2 c2 (Nt.all T l).room (Nt.all T l).vol)) (by simp [results, Tryz.f80, go_sem, k0, k1, k2, k3]) rfl ?_
      exact ⟨_, rfl, ⟨A1, n1, c1, A2, n2, c2, rfl, HR.out.oth13f ho9 HZ.out (by omega)⟩, HWF.out, hb9⟩
end
end Go.Proofs.YthgbncpiehcghaaGreatDoor
/- WALKS OF THE DOCUMENT's DISK: View, Do. gen_r14d.py -/
namespace Go.Proofs.YthgbncpiehcghaaGreatDoor
set_option linter.unusedVariables false
open Go Go.RowKit Go.Maps
set_option maxRecDepth 100000
set_option maxHeartbeats 8000000
open Nt (Tr Nd WF Ps Path at_ cnt used txt Dd ap)
section
variable {w : World} {B : Nat} {A1 A2 : Option Addr} {n1 c1 n2 c2 : Nat} {T : Tr} {K : Nat} {AL : Option Addr} {nL cL : Nat} {L : List Dd}
theorem refview_any (h : RTr w B A1 n1 c1 A2 n2 c2 T) (hW : WF T K) (hl : DRow w B AL nL L) (hK : K + 301 * nL ≤ 90000) (hc : nL ≤ cL) (hcm : cL ≤ maxLen) (sy : Int) (fd : Bool) (lf : Int) :
    Calls Tryz.prog 27 #[.agg (RkC A1 n1 c1 A2 n2 c2 T.room T.vol AL nL cL sy fd lf)] w fun e w' => ∃ v, e = .returned v ∧ Rv w' B v (Nt.all T L) ∧ WF (Nt.all T L) (K + 301 * nL) ∧ Below w.heap.size w w' := by
  obtain ⟨W1, hW1, hb1, hs1, x1, x2⟩ := frame2 w (RkC A1 n1 c1 A2 n2 c2 T.room T.vol AL nL cL sy fd lf) 56 Rv0 29
  have KA := Lib.hid (refall_any (h.below hb1) hW AL nL cL L (hl.below h.base hb1) hK hc hcm)
  have hBw := h.base
  have y0 := (x1).cell (j := 0) rfl; have y1 := (x1).cell (j := 1) rfl; have y2 := (x1).cell (j := 2) rfl; have y3 := (x1).cell (j := 3) rfl; have y4 := (x1).cell (j := 4) rfl; have y5 := (x1).cell (j := 5) rfl; have y6 := (x1).cell (j := 6) rfl; have y7 := (x1).cell (j := 7) rfl
  have z0 := (x2).cell (j := 0) rfl; have zf0 := (x2).free 0; have z1 := (x2).cell (j := 1) rfl; have zf1 := (x2).free 1; have z2 := (x2).cell (j := 2) rfl; have zf2 := (x2).free 2; have z3 := (x2).cell (j := 3) rfl; have zf3 := (x2).free 3
  have HX2 := Lib.hid x2
  have HB1 := Lib.hid hb1
  clear h hl hb1 x1 x2 hs1 hW
  go_enter Tryz.func27, Tryz.ntmps27
  go_wp2_with (go_at_call 80; (with_reducible refine KA.out.mono ?_); rintro e w3 ⟨v, rfl, ⟨A3, n3, c3, A4, n4, c4, rfl, hr3⟩, hwf, hb3⟩; have hx3 := HX2.out.later hb3; have t0 := (hx3).cell (j := 0) rfl; have tf0 := (hx3).free 0; have t1 := (hx3).cell (j := 1) rfl; have tf1 := (hx3).free 1; have t2 := (hx3).cell (j := 2) rfl; have tf2 := (hx3).free 2; have t3 := (hx3).cell (j := 3) rfl; have tf3 := (hx3).free 3)
  obtain ⟨V9, hV9, k0, k1, k2, k3, hb9, ho9⟩ := fin4 hx3 (bthen HB1.out hb3) (Nat.le_succ _) (.slice A3 n3 c3) (.slice A4 n4 c4) (.int .i64 (Nt.all T L).room) (.int .i64 (Nt.all T L).vol)
  rw [hV9]
  refine bodyPost_ret (v := .agg (RvC A3 n3 c3 A4 n4 c4 (Nt.all T L).room (Nt.all T L).vol)) (by simp [results, Tryz.f27, go_sem, k0, k1, k2, k3]) rfl ?_
  exact ⟨_, rfl, ⟨A3, n3, c3, A4, n4, c4, rfl, hr3.oth13f ho9 hx3 (by omega)⟩, hwf, hb9⟩
abbrev Rdz : Value := .agg #[.int .i64 0, .string "".toUTF8, .string "".toUTF8, .int .i64 0, .int .i64 0, .int .i64 0, .int .i64 0, .slice none 0 0]
theorem info_rdeed : (Tryz.prog.info? 60).map (fun i => (i.zero, i.size, i.bytes)) = some (some Rdz, 8, 96) := by kernel_rfl
theorem DdC_size (x : Dd) : (DdC x).size = 8 := rfl
theorem DdC_one14 (x : Dd) : ∀ u ∈ (DdC x).toList, u.oneCell' = true := by
  intro u h
  simp at h
  rcases h with rfl | rfl | rfl | rfl | rfl | rfl | rfl | rfl <;> rfl
theorem app_rd {A : Option Addr} {n : Nat} {base : Nat} {v : Value} {l1 l : List Dd} (hown : w.ownsRow base 60 8 v l1.length (rl DdC l1)) (hr : RowOf DdC 8 60 w A n l) (c : Nat) (h9 : l1.length + n ≤ 1000000) (hb : base ≤ w.heap.size) :
    ∃ v' w', (Builtin.append_ #[54, 54] 54 #[v, .slice A n c]).run Tryz.prog w = .ok v' w' ∧ w'.ownsRow base 60 8 v' (l1.length + n) (rl DdC (l1 ++ l)) ∧ w.grownBy w' v.ownBlock ∧ (∀ k, v'.ownBlock = some k → v.ownBlock = some k ∨ w.heap.size ≤ k) := by
  obtain ⟨i0, hi, hz0, hz1, hz2⟩ := info_parts info_rdeed
  exact app_row 54 i0 Rdz 96 Tryz.underlying54 hi hz0 hz1 hz2 rfl (by decide) DdC_size DdC_one14 hown hr c (by unfold maxLen; omega) (by omega) hb
theorem app_rd0 {A : Option Addr} {n : Nat} {base : Nat} {l : List Dd} (hr : RowOf DdC 8 60 w A n l) (c : Nat) (h9 : n ≤ 1000000) (hb : base ≤ w.heap.size) :
    ∃ v' w', (Builtin.append_ #[54, 54] 54 #[.slice none 0 0, .slice A n c]).run Tryz.prog w = .ok v' w' ∧ w'.ownsRow base 60 8 v' n (rl DdC l) ∧ Below w.heap.size w w' := by
  obtain ⟨v', w', h1, h2, h3, _⟩ := app_rd (l1 := []) (World.ownsRow_nil w base 60 8) hr c (by simp; omega) hb
  refine ⟨v', w', h1, ?_, (Below.refl _ _).grown h3 (Nat.le_refl _) (by intro k h; cases h)⟩
  have h4 := h2
  rw [List.nil_append, List.length_nil, Nat.zero_add] at h4
  exact h4
theorem app_rdN {A : Option Addr} {n k : Nat} {base : Nat} {v : Value} {l1 l : List Dd} (hk : l1.length = k) (hown : w.ownsRow base 60 8 v k (rl DdC l1)) (hr : RowOf DdC 8 60 w A n l) (c : Nat) (h9 : k + n ≤ 1000000) (hb : base ≤ w.heap.size) :
    ∃ v' w', (Builtin.append_ #[54, 54] 54 #[v, .slice A n c]).run Tryz.prog w = .ok v' w' ∧ w'.ownsRow base 60 8 v' (k + n) (rl DdC (l1 ++ l)) ∧ Below base w w' := by
  subst hk
  obtain ⟨v', w', h1, h2, h3, _⟩ := app_rd hown hr c h9 hb
  exact ⟨v', w', h1, h2, (Below.refl _ _).grown h3 hb fun k h => (World.ownsRow.lt hown k h).1⟩
theorem rowof_oth14 {α : Type} {C : α → Array Value} {z : Nat} {U U' : TypeId} {w' : World} {A : Option Addr} {n r : Nat} {l : List α} {cs : Array Value} (h : RowOf C z U w A n l) (ho : Oth r w w') (hb : BX w r U' cs) (hU : U ≠ U') : RowOf C z U w' A n l :=
  ⟨h.1, fun hn => by
    obtain ⟨b', o', e', ⟨cs', fz', hb'⟩, hc'⟩ := h.2 hn
    have hne : b' ≠ r := fun e => by
      subst e
      rw [hb] at hb'
      cases hb'
      exact hU rfl
    exact ⟨b', o', e', ⟨cs', fz', (ho.2.2.2.2 b' (lt_of_some hb') hne).trans hb'⟩, fun j' x' hj' i' u' hu' => (World.cell?_of_block (a := ⟨b', o' + j' * z + i', none⟩) (ho.2.2.2.2 b' (lt_of_some hb') hne)).trans (hc' j' x' hj' i' u' hu')⟩⟩
/-- What a deed done owes. -/
def RDo (w : World) (B : Nat) (T : Tr) (L : List Dd) (sy : Int) (fd : Bool) (lf : Int) (z : Int) (e : Ending) (w' : World) : Prop :=
  ∃ A1 n1 c1 A2 n2 c2 AL nL cL, e = .returned (.tuple #[.agg (RkC A1 n1 c1 A2 n2 c2 T.room T.vol AL nL cL sy fd lf), .int .i64 z]) ∧ RTr w' B A1 n1 c1 A2 n2 c2 T ∧ DRow w' B AL nL L ∧ nL ≤ cL ∧ cL ≤ maxLen ∧ Below w.heap.size w w'
theorem refdo_any (h : RTr w B A1 n1 c1 A2 n2 c2 T) (hW : WF T K) (hl : DRow w B AL nL L) (hK : K + 301 * nL + 301 ≤ 90000) (hc : nL ≤ cL) (hcm : cL ≤ maxLen) (sy : Int) (fd : Bool) (lf : Int) (h0 : 0 ≤ lf) (h1 : lf ≤ 9223372036854775807) (y : Dd) (hd : RB w B y.A y.n y.xs) (hy : DdFit y) :
    Calls Tryz.prog 77 #[.agg (RkC A1 n1 c1 A2 n2 c2 T.room T.vol AL nL cL sy fd lf), .agg (DdC y)] w fun e w' => if fd = true ∧ lf = 0 then RDo w B T L sy fd lf 17 e w' else if (ap (Nt.all T L) y).2 ≠ 0 then RDo w B T L sy fd (max (lf - 1) 0) (ap (Nt.all T L) y).2 e w' else RDo w B T (L ++ [y]) sy fd (max (lf - 1) 0) 0 e w' := by
  obtain ⟨W1, hW1, hb1, hs1, x1, x2, x3⟩ := frame3 w (RkC A1 n1 c1 A2 n2 c2 T.room T.vol AL nL cL sy fd lf) 56 (DdC y) 60 Rk0 56
  have KD := Lib.hid (fun W => refdark_any A1 n1 c1 A2 n2 c2 T.room T.vol AL nL cL sy fd lf W)
  have KB := Lib.hid (fun W => refburnt_any A1 n1 c1 A2 n2 c2 T.room T.vol AL nL cL sy fd lf W h0 h1)
  have hBw := h.base
  have HR := Lib.hid h
  have HL := Lib.hid hl
  have HDD := Lib.hid hd
  have KV := Lib.hid (fun W (hb : Below w.heap.size w W) => refview_any (h.below hb) hW (hl.below hBw hb) (by omega) hc hcm sy fd (max (lf - 1) 0))
  have KA := Lib.hid (fun W A3 n3 c3 A4 n4 c4 (hb : Below w.heap.size w W) (hr : RTr W B A3 n3 c3 A4 n4 c4 (Nt.all T L)) (hw : WF (Nt.all T L) (K + 301 * nL)) => refapply_any hr hw (by omega) y hy.1 hy.2.1 (hd.below (hb.mono hBw)) hy.2.2.1 hy.2.2.2.1 hy.2.2.2.2)
  have HYY := Lib.hid hy
  have hLL := hl.1.1
  obtain ⟨⟨RT, z⟩, hz⟩ : ∃ r, ap (Nt.all T L) y = r := ⟨_, rfl⟩
  rw [hz]
  simp only [hz] at KA
  have HNEW := Lib.hid (show ∀ W A n, Below w.heap.size w W → RowOf DdC 8 60 W A n (L ++ [y]) → DRow W B A n (L ++ [y]) from fun W A n hb hr => ⟨hr, fun x hx => by
    rcases List.mem_append.1 hx with h1 | h1
    · exact ⟨(hl.2 x h1).1.below (hb.mono hBw), (hl.2 x h1).2⟩
    · obtain rfl := List.mem_singleton.1 h1
      exact ⟨hd.below (hb.mono hBw), hy⟩⟩)
  obtain ⟨kd, p, q, ma, mb, mc, md, DA, dn, dk, ds⟩ := y
  have y0 := (x1).cell (j := 0) rfl; have y1 := (x1).cell (j := 1) rfl; have y2 := (x1).cell (j := 2) rfl; have y3 := (x1).cell (j := 3) rfl; have y4 := (x1).cell (j := 4) rfl; have y5 := (x1).cell (j := 5) rfl; have y6 := (x1).cell (j := 6) rfl; have y7 := (x1).cell (j := 7) rfl
  have yy0 := (x1).cell (j := 0) rfl; have yyf0 := (x1).free 0; have yy1 := (x1).cell (j := 1) rfl; have yyf1 := (x1).free 1; have yy2 := (x1).cell (j := 2) rfl; have yyf2 := (x1).free 2; have yy3 := (x1).cell (j := 3) rfl; have yyf3 := (x1).free 3; have yy4 := (x1).cell (j := 4) rfl; have yyf4 := (x1).free 4; have yy5 := (x1).cell (j := 5) rfl; have yyf5 := (x1).free 5; have yy6 := (x1).cell (j := 6) rfl; have yyf6 := (x1).free 6; have yy7 := (x1).cell (j := 7) rfl; have yyf7 := (x1).free 7
  have d0 := (x2).cell (j := 0) rfl; have d1 := (x2).cell (j := 1) rfl; have d2 := (x2).cell (j := 2) rfl; have d3 := (x2).cell (j := 3) rfl; have d4 := (x2).cell (j := 4) rfl; have d5 := (x2).cell (j := 5) rfl; have d6 := (x2).cell (j := 6) rfl; have d7 := (x2).cell (j := 7) rfl
  have z0 := (x3).cell (j := 0) rfl; have zf0 := (x3).free 0; have z1 := (x3).cell (j := 1) rfl; have zf1 := (x3).free 1; have z2 := (x3).cell (j := 2) rfl; have zf2 := (x3).free 2; have z3 := (x3).cell (j := 3) rfl; have zf3 := (x3).free 3; have z4 := (x3).cell (j := 4) rfl; have zf4 := (x3).free 4; have z5 := (x3).cell (j := 5) rfl; have zf5 := (x3).free 5; have z6 := (x3).cell (j := 6) rfl; have zf6 := (x3).free 6; have z7 := (x3).cell (j := 7) rfl; have zf7 := (x3).free 7
  have HX1 := Lib.hid x1
  have HX2 := Lib.hid x2
  have HX3 := Lib.hid x3
  have HB1 := Lib.hid hb1
  have hsz1 := hs1
  clear h hl hb1 x1 x2 x3 hs1 hW hd hy hz
  by_cases hdk : fd = true ∧ lf = 0
  · simp only [if_pos hdk]
    obtain ⟨rfl, rfl⟩ := hdk
    clear hsz1
    go_enter Tryz.func77, Tryz.ntmps77
    go_wp2_with (go_at_call 31; (with_reducible refine (KD.out _).mono ?_); rintro e w2 ⟨rfl, hb2⟩; have hx1 := HX1.out.later hb2; have hx3 := HX3.out.later hb2; have a0 := (hx1).cell (j := 0) rfl; have a1 := (hx1).cell (j := 1) rfl; have a2 := (hx1).cell (j := 2) rfl; have a3 := (hx1).cell (j := 3) rfl; have a4 := (hx1).cell (j := 4) rfl; have a5 := (hx1).cell (j := 5) rfl; have a6 := (hx1).cell (j := 6) rfl; have a7 := (hx1).cell (j := 7) rfl; have b0 := (hx3).cell (j := 0) rfl; have bf0 := (hx3).free 0; have b1 := (hx3).cell (j := 1) rfl; have bf1 := (hx3).free 1; have b2 := (hx3).cell (j := 2) rfl; have bf2 := (hx3).free 2; have b3 := (hx3).cell (j := 3) rfl; have bf3 := (hx3).free 3; have b4 := (hx3).cell (j := 4) rfl; have bf4 := (hx3).free 4; have b5 := (hx3).cell (j := 5) rfl; have bf5 := (hx3).free 5; have b6 := (hx3).cell (j := 6) rfl; have bf6 := (hx3).free 6; have b7 := (hx3).cell (j := 7) rfl; have bf7 := (hx3).free 7)
    obtain ⟨V, hV, hx, hb, ho⟩ := fin8 hx3 (bthen HB1.out hb2) (by omega) (.slice A1 n1 c1) (.slice A2 n2 c2) (.int .i64 T.room) (.int .i64 T.vol) (.slice AL nL cL) (.int .i64 sy) (.bool true) (.int .i64 0)
    rw [hV]
    have k0 := (hx).cell (j := 0) rfl; have k1 := (hx).cell (j := 1) rfl; have k2 := (hx).cell (j := 2) rfl; have k3 := (hx).cell (j := 3) rfl; have k4 := (hx).cell (j := 4) rfl; have k5 := (hx).cell (j := 5) rfl; have k6 := (hx).cell (j := 6) rfl; have k7 := (hx).cell (j := 7) rfl
    refine bodyPost_ret (v := .tuple #[.agg (RkC A1 n1 c1 A2 n2 c2 T.room T.vol AL nL cL sy true 0), .int .i64 17]) (by simp [results, Tryz.f77, go_sem, k0, k1, k2, k3, k4, k5, k6, k7]) rfl ?_
    exact ⟨_, _, _, _, _, _, _, _, _, rfl, HR.out.below hb, HL.out.below hBw hb, hc, hcm, hb⟩
  · simp only [if_neg hdk]
    have hdk2 : (fd && (lf == 0)) = false := by
      cases fd with
      | false => rfl
      | true =>
        have : lf ≠ 0 := fun e => hdk ⟨rfl, e⟩
        simp [this]
    simp only [hdk2] at KD
    clear hdk hdk2
    go_enter Tryz.func77, Tryz.ntmps77
    go_upto_region 4 with (first
      | (go_at_call 121; (with_reducible refine (KB.out _).mono ?_); rintro e w3 ⟨rfl, hb3⟩; have hb23 := bthen hb2 hb3; have hx1 := HX1.out.later hb23; have cc0 := (hx1).cell (j := 0) rfl; have ccf0 := (hx1).free 0; have cc1 := (hx1).cell (j := 1) rfl; have ccf1 := (hx1).free 1; have cc2 := (hx1).cell (j := 2) rfl; have ccf2 := (hx1).free 2; have cc3 := (hx1).cell (j := 3) rfl; have ccf3 := (hx1).free 3; have cc4 := (hx1).cell (j := 4) rfl; have ccf4 := (hx1).free 4; have cc5 := (hx1).cell (j := 5) rfl; have ccf5 := (hx1).free 5; have cc6 := (hx1).cell (j := 6) rfl; have ccf6 := (hx1).free 6; have cc7 := (hx1).cell (j := 7) rfl; have ccf7 := (hx1).free 7)
      | (go_at_call 31; (with_reducible refine (KD.out _).mono ?_); rintro e w2 ⟨rfl, hb2⟩; have hx1 := HX1.out.later hb2; have a0 := (hx1).cell (j := 0) rfl; have a1 := (hx1).cell (j := 1) rfl; have a2 := (hx1).cell (j := 2) rfl; have a3 := (hx1).cell (j := 3) rfl; have a4 := (hx1).cell (j := 4) rfl; have a5 := (hx1).cell (j := 5) rfl; have a6 := (hx1).cell (j := 6) rfl; have a7 := (hx1).cell (j := 7) rfl))
    obtain ⟨V3, hV3, hxv, hbv, hov⟩ := fin8 hx1 (bthen HB1.out hb23) (Nat.le_refl _) (.slice A1 n1 c1) (.slice A2 n2 c2) (.int .i64 T.room) (.int .i64 T.vol) (.slice AL nL cL) (.int .i64 sy) (.bool fd) (.int .i64 (max (lf - 1) 0))
    rw [hV3]
    have HV1 := Lib.hid hxv
    have HV2 := Lib.hid ((HX2.out.later hb23).oth hov (by omega))
    have HV3 := Lib.hid ((HX3.out.later hb23).oth hov (by omega))
    have HBV := Lib.hid hbv
    have SS := Lib.hid (fun W (hb : Below V3.heap.size V3 W) => show W.cell? ⟨w.heap.size, 0, none⟩ = some (.slice A1 n1 c1) ∧ W.cell? ⟨w.heap.size, 1, none⟩ = some (.slice A2 n2 c2) ∧ W.cell? ⟨w.heap.size, 2, none⟩ = some (.int .i64 T.room) ∧ W.cell? ⟨w.heap.size, 3, none⟩ = some (.int .i64 T.vol) ∧ W.cell? ⟨w.heap.size, 4, none⟩ = some (.slice AL nL cL) ∧ W.cell? ⟨w.heap.size, 5, none⟩ = some (.int .i64 sy) ∧ W.cell? ⟨w.heap.size, 6, none⟩ = some (.bool fd) ∧ W.cell? ⟨w.heap.size, 7, none⟩ = some (.int .i64 (max (lf - 1) 0)) ∧ W.cell? ⟨w.heap.size + 1, 0, none⟩ = some (.int .i64 kd) ∧ W.cell? ⟨w.heap.size + 1, 1, none⟩ = some (.string p) ∧ W.cell? ⟨w.heap.size + 1, 2, none⟩ = some (.string q) ∧ W.cell? ⟨w.heap.size + 1, 3, none⟩ = some (.int .i64 ma) ∧ W.cell? ⟨w.heap.size + 1, 4, none⟩ = some (.int .i64 mb) ∧ W.cell? ⟨w.heap.size + 1, 5, none⟩ = some (.int .i64 mc) ∧ W.cell? ⟨w.heap.size + 1, 6, none⟩ = some (.int .i64 md) ∧ W.cell? ⟨w.heap.size + 1, 7, none⟩ = some (.slice DA dn dk) from ⟨(HV1.out.later hb).cell rfl, (HV1.out.later hb).cell rfl, (HV1.out.later hb).cell rfl, (HV1.out.later hb).cell rfl, (HV1.out.later hb).cell rfl, (HV1.out.later hb).cell rfl, (HV1.out.later hb).cell rfl, (HV1.out.later hb).cell rfl, (HV2.out.later hb).cell rfl, (HV2.out.later hb).cell rfl, (HV2.out.later hb).cell rfl, (HV2.out.later hb).cell rfl, (HV2.out.later hb).cell rfl, (HV2.out.later hb).cell rfl, (HV2.out.later hb).cell rfl, (HV2.out.later hb).cell rfl⟩)
    clear hx1 hb2 hb3 hb23 hov hV3 hxv hsz1
    go_cut [7] (fun v wx => v = .int .i64 z ∧ Hid (Below V3.heap.size V3 wx))
    case first =>
      have hacc : Below V3.heap.size V3 V3.drew := (Below.refl _ _).drew
      have hx0 : Below V3.heap.size V3 (V3.alloc (.cells #[.slice none 0 0, .slice none 0 0, .int .i64 0, .int .i64 0] 29)).drew := (below_new V3 _).drew
      have hbz0 : BX (V3.alloc (.cells #[.slice none 0 0, .slice none 0 0, .int .i64 0, .int .i64 0] 29)).drew V3.heap.size 29 #[.slice none 0 0, .slice none 0 0, .int .i64 0, .int .i64 0] := BX.new V3 29 _
      obtain ⟨g0, g1, g2, g3, g4, g5, g6, g7, j0, j1, j2, j3, j4, j5, j6, j7⟩ := SS.out _ hacc
      go_region_held3 (fun W => W.cell? ⟨w.heap.size, 0, none⟩ = some (.slice A1 n1 c1) ∧ W.cell? ⟨w.heap.size, 1, none⟩ = some (.slice A2 n2 c2) ∧ W.cell? ⟨w.heap.size, 2, none⟩ = some (.int .i64 T.room) ∧ W.cell? ⟨w.heap.size, 3, none⟩ = some (.int .i64 T.vol) ∧ W.cell? ⟨w.heap.size, 4, none⟩ = some (.slice AL nL cL) ∧ W.cell? ⟨w.heap.size, 5, none⟩ = some (.int .i64 sy) ∧ W.cell? ⟨w.heap.size, 6, none⟩ = some (.bool fd) ∧ W.cell? ⟨w.heap.size, 7, none⟩ = some (.int .i64 (max (lf - 1) 0)) ∧ W.cell? ⟨w.heap.size + 1, 0, none⟩ = some (.int .i64 kd) ∧ W.cell? ⟨w.heap.size + 1, 1, none⟩ = some (.string p) ∧ W.cell? ⟨w.heap.size + 1, 2, none⟩ = some (.string q) ∧ W.cell? ⟨w.heap.size + 1, 3, none⟩ = some (.int .i64 ma) ∧ W.cell? ⟨w.heap.size + 1, 4, none⟩ = some (.int .i64 mb) ∧ W.cell? ⟨w.heap.size + 1, 5, none⟩ = some (.int .i64 mc) ∧ W.cell? ⟨w.heap.size + 1, 6, none⟩ = some (.int .i64 md) ∧ W.cell? ⟨w.heap.size + 1, 7, none⟩ = some (.slice DA dn dk))
        (first | (with_reducible exact SS.out _ hacc) | (with_reducible exact SS.out _ hx0) | (with_reducible exact SS.out _ (hacc.alloc hacc.size _)) | (with_reducible exact SS.out _ (((((hacc.setCell (p := ⟨_, 0, none⟩) (Nat.le_refl _) _).setCell (p := ⟨_, 1, none⟩) (Nat.le_refl _) _).setCell (p := ⟨_, 2, none⟩) (Nat.le_refl _) _).setCell (p := ⟨_, 3, none⟩) (Nat.le_refl _) _))) | (with_reducible exact SS.out _ (((((hacc.setCell (p := ⟨_, 0, none⟩) hacc5.size _).setCell (p := ⟨_, 1, none⟩) hacc5.size _).setCell (p := ⟨_, 2, none⟩) hacc5.size _).setCell (p := ⟨_, 3, none⟩) hacc5.size _))) | (with_reducible exact SS.out _ (((((hacc.setCell (p := ⟨_, 0, none⟩) hacc6.size _).setCell (p := ⟨_, 1, none⟩) hacc6.size _).setCell (p := ⟨_, 2, none⟩) hacc6.size _).setCell (p := ⟨_, 3, none⟩) hacc6.size _))) | go_keep)
        (first
          | (go_at_call 27; (with_reducible refine (KV.out _ (hbv.trans (hacc.mono hbv.size))).mono ?_); rintro e w5 ⟨v5, rfl, ⟨A3, n3, c3, A4, n4, c4, rfl, hr5⟩, hwf5, hstep5⟩; have hacc5 := bthen hacc hstep5; replace hacc := hacc5)
          | (go_at_call 27; (with_reducible refine (KV.out _ (hbv.trans (hx0.mono hbv.size))).mono ?_); rintro e w5 ⟨v5, rfl, ⟨A3, n3, c3, A4, n4, c4, rfl, hr5⟩, hwf5, hstep5⟩; have hacc5 := bthen hx0 hstep5; replace hacc := hacc5; have bz5 := hbz0.later hstep5; have bc50 := bz5.cell (j := 0) rfl; have bf50 := bz5.free 0; have bc51 := bz5.cell (j := 1) rfl; have bf51 := bz5.free 1; have bc52 := bz5.cell (j := 2) rfl; have bf52 := bz5.free 2; have bc53 := bz5.cell (j := 3) rfl; have bf53 := bz5.free 3)
          | (go_at_call 82; (with_reducible refine (KA.out _ _ _ _ _ _ _ (hbv.trans (hacc.mono hbv.size)) hr5 hwf5).mono ?_); rintro e w6 ⟨v6, rfl, ⟨A5, n5, c5, A6, n6, c6, rfl, hr6⟩, hstep6⟩; have hacc6 := bthen hacc hstep6; replace hacc := hacc6; have bz6 := bz5.later hstep6; have bc60 := bz6.cell (j := 0) rfl; have bf60 := bz6.free 0; have bc61 := bz6.cell (j := 1) rfl; have bf61 := bz6.free 1; have bc62 := bz6.cell (j := 2) rfl; have bf62 := bz6.free 2; have bc63 := bz6.cell (j := 3) rfl; have bf63 := bz6.free 3)
          | (go_at_call 82; (with_reducible refine (KA.out _ _ _ _ _ _ _ (hbv.trans (hacc.mono hbv.size)) hr5 hwf5).mono ?_); rintro e w6 ⟨v6, rfl, ⟨A5, n5, c5, A6, n6, c6, rfl, hr6⟩, hstep6⟩; have hacc6 := bthen hacc hstep6; replace hacc := hacc6)
          | (go_at_call 82; (with_reducible refine (KA.out _ _ _ _ _ _ _ (hbv.trans ((hacc.alloc hacc.size _).mono hbv.size)) (hr5.below (below_new _ _)) hwf5).mono ?_); rintro e w6 ⟨v6, rfl, ⟨A5, n5, c5, A6, n6, c6, rfl, hr6⟩, hstep6⟩; have hacc6 := bthen (hacc.alloc hacc.size _) hstep6; replace hacc := hacc6; have bz6 := (BX.new w5 29 #[.slice none 0 0, .slice none 0 0, .int .i64 0, .int .i64 0]).later hstep6; have bc60 := bz6.cell (j := 0) rfl; have bf60 := bz6.free 0; have bc61 := bz6.cell (j := 1) rfl; have bf61 := bz6.free 1; have bc62 := bz6.cell (j := 2) rfl; have bf62 := bz6.free 2; have bc63 := bz6.cell (j := 3) rfl; have bf63 := bz6.free 3))
      all_goals
        go_wp2
        go_meet
      · exact ⟨rfl, bthen hacc6 (below_new _ _)⟩
      · exact ⟨rfl, (((((hacc6.setCell (p := ⟨_, 0, none⟩) hacc5.size _).setCell (p := ⟨_, 1, none⟩) hacc5.size _).setCell (p := ⟨_, 2, none⟩) hacc5.size _).setCell (p := ⟨_, 3, none⟩) hacc5.size _))⟩
      · exact ⟨rfl, (((((hacc6.setCell (p := ⟨_, 0, none⟩) (Nat.le_refl _) _).setCell (p := ⟨_, 1, none⟩) (Nat.le_refl _) _).setCell (p := ⟨_, 2, none⟩) (Nat.le_refl _) _).setCell (p := ⟨_, 3, none⟩) (Nat.le_refl _) _))⟩
    case rest =>
      obtain ⟨rfl, HC⟩ := hcut
      have HW1 := Lib.hid (HV1.out.later HC.out)
      have HW2 := Lib.hid (HV2.out.later HC.out)
      have HW3 := Lib.hid (HV3.out.later HC.out)
      have HBW := Lib.hid (bthen HBV.out HC.out)
      clear HV1 HV2 HV3 SS KV KA KB KD
      by_cases hz0 : z ≠ 0
      · have gz : (z != 0) = true := by simpa using hz0
        have a0 := (HW1.out).cell (j := 0) rfl; have a1 := (HW1.out).cell (j := 1) rfl; have a2 := (HW1.out).cell (j := 2) rfl; have a3 := (HW1.out).cell (j := 3) rfl; have a4 := (HW1.out).cell (j := 4) rfl; have a5 := (HW1.out).cell (j := 5) rfl; have a6 := (HW1.out).cell (j := 6) rfl; have a7 := (HW1.out).cell (j := 7) rfl
        have b0 := (HW3.out).cell (j := 0) rfl; have bf0 := (HW3.out).free 0; have b1 := (HW3.out).cell (j := 1) rfl; have bf1 := (HW3.out).free 1; have b2 := (HW3.out).cell (j := 2) rfl; have bf2 := (HW3.out).free 2; have b3 := (HW3.out).cell (j := 3) rfl; have bf3 := (HW3.out).free 3; have b4 := (HW3.out).cell (j := 4) rfl; have bf4 := (HW3.out).free 4; have b5 := (HW3.out).cell (j := 5) rfl; have bf5 := (HW3.out).free 5; have b6 := (HW3.out).cell (j := 6) rfl; have bf6 := (HW3.out).free 6; have b7 := (HW3.out).cell (j := 7) rfl; have bf7 := (HW3.out).free 7
        go_wp2
        obtain ⟨V, hV, hx, hb, ho⟩ := fin8 HW3.out HBW.out (by omega) (.slice A1 n1 c1) (.slice A2 n2 c2) (.int .i64 T.room) (.int .i64 T.vol) (.slice AL nL cL) (.int .i64 sy) (.bool fd) (.int .i64 (max (lf - 1) 0))
        rw [hV]
        have k0 := (hx).cell (j := 0) rfl; have k1 := (hx).cell (j := 1) rfl; have k2 := (hx).cell (j := 2) rfl; have k3 := (hx).cell (j := 3) rfl; have k4 := (hx).cell (j := 4) rfl; have k5 := (hx).cell (j := 5) rfl; have k6 := (hx).cell (j := 6) rfl; have k7 := (hx).cell (j := 7) rfl
        refine bodyPost_ret (v := .tuple #[.agg (RkC A1 n1 c1 A2 n2 c2 T.room T.vol AL nL cL sy fd (max (lf - 1) 0)), .int .i64 z]) (by simp [results, Tryz.f77, go_sem, k0, k1, k2, k3, k4, k5, k6, k7]) rfl ?_
        try rw [if_pos hz0]
        exact ⟨_, _, _, _, _, _, _, _, _, rfl, HR.out.below hb, HL.out.below hBw hb, hc, hcm, hb⟩
      · obtain rfl : z = 0 := by omega
        have hnL : nL ≤ 90000 := by omega
        have hD : Below wc.heap.size wc wc.drew := (Below.refl _ _).drew
        have hDx : Below wc.heap.size wc (wc.alloc (.cells #[.int .i64 kd, .string p, .string q, .int .i64 ma, .int .i64 mb, .int .i64 mc, .int .i64 md, .slice DA dn dk] 60)).drew := (below_new wc _).drew
        have hXx : BX (wc.alloc (.cells #[.int .i64 kd, .string p, .string q, .int .i64 ma, .int .i64 mb, .int .i64 mc, .int .i64 md, .slice DA dn dk] 60)).drew wc.heap.size 60 #[.int .i64 kd, .string p, .string q, .int .i64 ma, .int .i64 mb, .int .i64 mc, .int .i64 md, .slice DA dn dk] := BX.new wc _ _
        have AP1 := Lib.hid (fun W (h : Below wc.heap.size wc W) => app_rd0 (base := wc.heap.size) (HL.out.below hBw (bthen HBW.out h)).1 cL (by omega) h.size)
        have FC := Lib.hid (fun W (h : Below wc.heap.size wc W) => show W.cell? ⟨w.heap.size, 4, none⟩ = some (.slice AL nL cL) ∧ W.frozen? ⟨w.heap.size, 4, none⟩ = false ∧ W.cell? ⟨w.heap.size + 1, 0, none⟩ = some (.int .i64 kd) ∧ W.cell? ⟨w.heap.size + 1, 1, none⟩ = some (.string p) ∧ W.cell? ⟨w.heap.size + 1, 2, none⟩ = some (.string q) ∧ W.cell? ⟨w.heap.size + 1, 3, none⟩ = some (.int .i64 ma) ∧ W.cell? ⟨w.heap.size + 1, 4, none⟩ = some (.int .i64 mb) ∧ W.cell? ⟨w.heap.size + 1, 5, none⟩ = some (.int .i64 mc) ∧ W.cell? ⟨w.heap.size + 1, 6, none⟩ = some (.int .i64 md) ∧ W.cell? ⟨w.heap.size + 1, 7, none⟩ = some (.slice DA dn dk) from ⟨(HW1.out.later h).cell rfl, (HW1.out.later h).free 4, (HW2.out.later h).cell rfl, (HW2.out.later h).cell rfl, (HW2.out.later h).cell rfl, (HW2.out.later h).cell rfl, (HW2.out.later h).cell rfl, (HW2.out.later h).cell rfl, (HW2.out.later h).cell rfl, (HW2.out.later h).cell rfl⟩)
        obtain ⟨m0, m1, m2, m3, m4, m5, m6, m7, m8, m9⟩ := FC.out _ hD
        obtain ⟨o0, o1, o2, o3, o4, o5, o6, o7, o8, o9⟩ := FC.out _ hDx
        have hLn : L.length = nL := hLL
        go_upto_region 7 with (fail)
        go_cut [2] (fun v wx => v = .pointer (some ⟨w.heap.size, 0, none⟩) ∧ ∃ AL' cL', Hid (BX wx w.heap.size 56 (RkC A1 n1 c1 A2 n2 c2 T.room T.vol AL' (nL + 1) cL' sy fd (max (lf - 1) 0))) ∧ Hid (DRow wx B AL' (nL + 1) (L ++ [⟨kd, p, q, ma, mb, mc, md, DA, dn, dk, ds⟩])) ∧ nL + 1 ≤ cL' ∧ cL' ≤ maxLen ∧ Hid (BX wx (w.heap.size + 2) 56 Rk0) ∧ Hid (Below w.heap.size w wx))
        case first =>
          go_region_law (first
            | (obtain ⟨v5, w5, hr5, ho5, hb5⟩ := AP1.out _ hD; refine step_append_run14 rfl (.const (.slice none 0 0)) (.tmp 25) 54 54 rfl _ _ rfl (by simp [Act.eval]) hr5 ?_; obtain ⟨A5, c5, rfl, _, _, _⟩ := own_rowof DdC_size ho5 hLn; have HB5 := Lib.hid (hD.trans (hb5.mono hD.size)); have HO5 := Lib.hid ho5; obtain ⟨s0, s1, s2, s3, s4, s5, s6, s7, s8, s9⟩ := FC.out _ HB5.out; obtain ⟨t0, t1, t2, t3, t4, t5, t6, t7, t8, t9⟩ := FC.out _ (bthen HB5.out (below_new w5 (.cells #[.int .i64 kd, .string p, .string q, .int .i64 ma, .int .i64 mb, .int .i64 mc, .int .i64 md, .slice DA dn dk] 60))); clear hr5 ho5 hb5)
            | (obtain ⟨v5, w5, hr5, ho5, hb5⟩ := AP1.out _ hDx; refine step_append_run14 rfl (.const (.slice none 0 0)) (.tmp 25) 54 54 rfl _ _ rfl (by simp [Act.eval]) hr5 ?_; obtain ⟨A5, c5, rfl, _, _, _⟩ := own_rowof DdC_size ho5 hLn; have HB5 := Lib.hid (hDx.trans (hb5.mono hDx.size)); have HX5 := Lib.hid (hXx.later hb5); have HO5 := Lib.hid ho5; obtain ⟨s0, s1, s2, s3, s4, s5, s6, s7, s8, s9⟩ := FC.out _ HB5.out; clear hr5 ho5 hb5)
            | (obtain ⟨v6, w6, hr6, ho6, hb6⟩ := app_rdN hLn (HO5.out.alloc (.cells #[.int .i64 kd, .string p, .string q, .int .i64 ma, .int .i64 mb, .int .i64 mc, .int .i64 md, .slice DA dn dk] 60)) (rowof_one (C := DdC) (z := 8) (x := (⟨kd, p, q, ma, mb, mc, md, DA, dn, dk, ds⟩ : Dd)) (BX.new w5 60 #[.int .i64 kd, .string p, .string q, .int .i64 ma, .int .i64 mb, .int .i64 mc, .int .i64 md, .slice DA dn dk])) 1 (by omega) (by have := HB5.out.size; simp; omega); refine step_append_run14 rfl (.tmp 26) (.tmp 28) 54 54 rfl _ _ (by simp [Act.eval]) (by simp [Act.eval]) hr6 ?_; obtain ⟨A6, c6, rfl, hrow6, hc61, hc62⟩ := own_rowof DdC_size ho6 (by rw [List.length_append, hLn]; rfl); have HB6 := Lib.hid ((HB5.out.alloc HB5.out.size (.cells #[.int .i64 kd, .string p, .string q, .int .i64 ma, .int .i64 mb, .int .i64 mc, .int .i64 md, .slice DA dn dk] 60)).trans hb6); have HRW6 := Lib.hid hrow6; obtain ⟨u0, u1, u2, u3, u4, u5, u6, u7, u8, u9⟩ := FC.out _ HB6.out; clear hr6 ho6 hb6 hrow6)
            | (obtain ⟨v6, w6, hr6, ho6, hb6⟩ := app_rdN hLn HO5.out (rowof_one (C := DdC) (z := 8) (x := (⟨kd, p, q, ma, mb, mc, md, DA, dn, dk, ds⟩ : Dd)) HX5.out) 1 (by omega) HB5.out.size; refine step_append_run14 rfl (.tmp 26) (.tmp 28) 54 54 rfl _ _ (by simp [Act.eval]) (by simp [Act.eval]) hr6 ?_; obtain ⟨A6, c6, rfl, hrow6, hc61, hc62⟩ := own_rowof DdC_size ho6 (by rw [List.length_append, hLn]; rfl); have HB6 := Lib.hid (HB5.out.trans hb6); have HRW6 := Lib.hid hrow6; obtain ⟨u0, u1, u2, u3, u4, u5, u6, u7, u8, u9⟩ := FC.out _ HB6.out; clear hr6 ho6 hb6 hrow6))
          all_goals
            go_wp2
            go_meet
            have hx6 := HW1.out.later HB6.out
            have ho := (Oth.refl w.heap.size w6).setCell 4 (.slice A6 (nL + 1) c6)
            have hb6 := bthen HBW.out HB6.out
            have h9 := hx6.set 4 (.slice A6 (nL + 1) c6)
            have hbs := hb6.setCell (p := ⟨w.heap.size, 4, none⟩) (Nat.le_refl _) (.slice A6 (nL + 1) c6)
            refine ⟨rfl, A6, c6, (show BX _ _ _ _ from by simpa using h9), HNEW.out _ _ _ hbs (rowof_oth14 HRW6.out ho hx6 (by decide)), hc61, hc62, (HW3.out.later HB6.out).oth ho (by omega), hbs⟩
        case rest =>
          obtain ⟨rfl, AL', cL', HY1, HY2, hc1', hc2', HY3, HBY⟩ := hcut
          have a0 := (HY1.out).cell (j := 0) rfl; have a1 := (HY1.out).cell (j := 1) rfl; have a2 := (HY1.out).cell (j := 2) rfl; have a3 := (HY1.out).cell (j := 3) rfl; have a4 := (HY1.out).cell (j := 4) rfl; have a5 := (HY1.out).cell (j := 5) rfl; have a6 := (HY1.out).cell (j := 6) rfl; have a7 := (HY1.out).cell (j := 7) rfl
          have b0 := (HY3.out).cell (j := 0) rfl; have bf0 := (HY3.out).free 0; have b1 := (HY3.out).cell (j := 1) rfl; have bf1 := (HY3.out).free 1; have b2 := (HY3.out).cell (j := 2) rfl; have bf2 := (HY3.out).free 2; have b3 := (HY3.out).cell (j := 3) rfl; have bf3 := (HY3.out).free 3; have b4 := (HY3.out).cell (j := 4) rfl; have bf4 := (HY3.out).free 4; have b5 := (HY3.out).cell (j := 5) rfl; have bf5 := (HY3.out).free 5; have b6 := (HY3.out).cell (j := 6) rfl; have bf6 := (HY3.out).free 6; have b7 := (HY3.out).cell (j := 7) rfl; have bf7 := (HY3.out).free 7
          go_wp2
          obtain ⟨V, hV, hx, hb, ho⟩ := fin8 HY3.out HBY.out (by omega) (.slice A1 n1 c1) (.slice A2 n2 c2) (.int .i64 T.room) (.int .i64 T.vol) (.slice AL' (nL + 1) cL') (.int .i64 sy) (.bool fd) (.int .i64 (max (lf - 1) 0))
          rw [hV]
          have k0 := (hx).cell (j := 0) rfl; have k1 := (hx).cell (j := 1) rfl; have k2 := (hx).cell (j := 2) rfl; have k3 := (hx).cell (j := 3) rfl; have k4 := (hx).cell (j := 4) rfl; have k5 := (hx).cell (j := 5) rfl; have k6 := (hx).cell (j := 6) rfl; have k7 := (hx).cell (j := 7) rfl
          refine bodyPost_ret (v := .tuple #[.agg (RkC A1 n1 c1 A2 n2 c2 T.room T.vol AL' (nL + 1) cL' sy fd (max (lf - 1) 0)), .int .i64 0]) (by simp [results, Tryz.f77, go_sem, k0, k1, k2, k3, k4, k5, k6, k7]) rfl ?_
          try rw [if_neg hz0]
          exact ⟨_, _, _, _, _, _, _, _, _, rfl, HR.out.below hb, HNEW.out _ _ _ hb (rowof_oth14 HY2.out.1 ho HY3.out (by decide)), hc1', hc2', hb⟩
end
end Go.Proofs.YthgbncpiehcghaaGreatDoor
/- WALKS OF THE DOCUMENT's DISK: Sync. gen_r14e.py -/
namespace Go.Proofs.YthgbncpiehcghaaGreatDoor
set_option linter.unusedVariables false
open Go Go.RowKit Go.Maps
set_option maxRecDepth 100000
set_option maxHeartbeats 8000000
open Nt (Tr Nd WF Ps Path at_ cnt used txt Dd ap)
theorem set5d {w W : World} {r : Nat} {U : TypeId} {z0 z1 z2 z3 z4 z5 z6 z7 : Value} (hx : BX W r U #[z0, z1, z2, z3, z4, z5, z6, z7]) (hb : Below w.heap.size w W) (hr : w.heap.size ≤ r) (v0 v1 v2 v3 v4 : Value) :
    ∃ V, (((((W.setCell ⟨r, 0, none⟩ v0).setCell ⟨r, 1, none⟩ v1).setCell ⟨r, 2, none⟩ v2).setCell ⟨r, 3, none⟩ v3).setCell ⟨r, 4, none⟩ v4) = V ∧ BX V r U #[v0, v1, v2, v3, v4, z5, z6, z7] ∧ Below w.heap.size w V ∧ Oth r W V :=
  ⟨_, rfl, by have h9 := (((((hx.set 0 v0).set 1 v1).set 2 v2).set 3 v3).set 4 v4); simpa using h9, (((((hb.setCell (p := ⟨r, 0, none⟩) hr _).setCell (p := ⟨r, 1, none⟩) hr _).setCell (p := ⟨r, 2, none⟩) hr _).setCell (p := ⟨r, 3, none⟩) hr _).setCell (p := ⟨r, 4, none⟩) hr _), ((((((Oth.refl r W).setCell 0 v0).setCell 1 v1).setCell 2 v2).setCell 3 v3).setCell 4 v4)⟩
theorem set1d {w W : World} {r : Nat} {U : TypeId} {z0 z1 z2 z3 z4 z5 z6 z7 : Value} (hx : BX W r U #[z0, z1, z2, z3, z4, z5, z6, z7]) (hb : Below w.heap.size w W) (hr : w.heap.size ≤ r) (v : Value) :
    ∃ V, W.setCell ⟨r, 5, none⟩ v = V ∧ BX V r U #[z0, z1, z2, z3, z4, v, z6, z7] ∧ Below w.heap.size w V ∧ Oth r W V :=
  ⟨_, rfl, by have h9 := hx.set 5 v; simpa using h9, hb.setCell (p := ⟨r, 5, none⟩) hr _, (Oth.refl r W).setCell 5 v⟩
theorem disk14_u8 : 56 ≠ 5 := by decide
theorem RTr.oth13d {w w' : World} {B r : Nat} {A1 A2 : Option Addr} {n1 c1 n2 c2 : Nat} {T : Tr} {cs : Array Value} (h : RTr w B A1 n1 c1 A2 n2 c2 T) (ho : Oth r w w') (hb : BX w r 56 cs) (hB : B ≤ r) : RTr w' B A1 n1 c1 A2 n2 c2 T :=
  ⟨h.nodes.oth13 ho hb (by decide), h.paths.oth13 ho hb (by decide), h.cap1, h.cap2, Nat.le_trans h.base ho.2.2.2.1, fun x hx => ⟨(h.data x hx).1.below (ho.below hB h.base), (h.data x hx).2⟩⟩
section
variable {w : World} {B : Nat} {A1 A2 : Option Addr} {n1 c1 n2 c2 : Nat} {T : Tr} {K : Nat} {AL : Option Addr} {nL cL : Nat} {L : List Dd}
/-- A disk that was synced, or not. -/
def RSy (w : World) (B : Nat) (T : Tr) (L : List Dd) (sy : Int) (fd : Bool) (lf : Int) (e : Ending) (w' : World) : Prop :=
  ∃ A1 n1 c1 A2 n2 c2 AL nL cL, e = .returned (.agg (RkC A1 n1 c1 A2 n2 c2 T.room T.vol AL nL cL sy fd lf)) ∧ RTr w' B A1 n1 c1 A2 n2 c2 T ∧ DRow w' B AL nL L ∧ nL ≤ cL ∧ cL ≤ maxLen ∧ Below w.heap.size w w'
theorem refsync_any (h : RTr w B A1 n1 c1 A2 n2 c2 T) (hW : WF T K) (hl : DRow w B AL nL L) (hK : K + 301 * nL ≤ 90000) (hc : nL ≤ cL) (hcm : cL ≤ maxLen) (sy : Int) (fd : Bool) (lf : Int) (h0 : 0 ≤ lf) (h1 : lf ≤ 9223372036854775807) :
    Calls Tryz.prog 73 #[.agg (RkC A1 n1 c1 A2 n2 c2 T.room T.vol AL nL cL sy fd lf)] w fun e w' => if fd = true ∧ lf = 0 then RSy w B T L sy fd lf e w' else RSy w B (Nt.all T L) [] (wrap64 (sy + 1)) fd (max (lf - 1) 0) e w' := by
  obtain ⟨W1, hW1, hb1, hs1, x1, x2⟩ := frame2 w (RkC A1 n1 c1 A2 n2 c2 T.room T.vol AL nL cL sy fd lf) 56 Rk0 56
  have KD := Lib.hid (fun W => refdark_any A1 n1 c1 A2 n2 c2 T.room T.vol AL nL cL sy fd lf W)
  have KB := Lib.hid (fun W => refburnt_any A1 n1 c1 A2 n2 c2 T.room T.vol AL nL cL sy fd lf W h0 h1)
  have hBw := h.base
  have HR := Lib.hid h
  have HL := Lib.hid hl
  have KV := Lib.hid (fun W (hb : Below w.heap.size w W) => refview_any (h.below hb) hW (hl.below hBw hb) (by omega) hc hcm sy fd (max (lf - 1) 0))
  have y0 := (x1).cell (j := 0) rfl; have y1 := (x1).cell (j := 1) rfl; have y2 := (x1).cell (j := 2) rfl; have y3 := (x1).cell (j := 3) rfl; have y4 := (x1).cell (j := 4) rfl; have y5 := (x1).cell (j := 5) rfl; have y6 := (x1).cell (j := 6) rfl; have y7 := (x1).cell (j := 7) rfl
  have yy0 := (x1).cell (j := 0) rfl; have yyf0 := (x1).free 0; have yy1 := (x1).cell (j := 1) rfl; have yyf1 := (x1).free 1; have yy2 := (x1).cell (j := 2) rfl; have yyf2 := (x1).free 2; have yy3 := (x1).cell (j := 3) rfl; have yyf3 := (x1).free 3; have yy4 := (x1).cell (j := 4) rfl; have yyf4 := (x1).free 4; have yy5 := (x1).cell (j := 5) rfl; have yyf5 := (x1).free 5; have yy6 := (x1).cell (j := 6) rfl; have yyf6 := (x1).free 6; have yy7 := (x1).cell (j := 7) rfl; have yyf7 := (x1).free 7
  have z0 := (x2).cell (j := 0) rfl; have zf0 := (x2).free 0; have z1 := (x2).cell (j := 1) rfl; have zf1 := (x2).free 1; have z2 := (x2).cell (j := 2) rfl; have zf2 := (x2).free 2; have z3 := (x2).cell (j := 3) rfl; have zf3 := (x2).free 3; have z4 := (x2).cell (j := 4) rfl; have zf4 := (x2).free 4; have z5 := (x2).cell (j := 5) rfl; have zf5 := (x2).free 5; have z6 := (x2).cell (j := 6) rfl; have zf6 := (x2).free 6; have z7 := (x2).cell (j := 7) rfl; have zf7 := (x2).free 7
  have HX1 := Lib.hid x1
  have HX2 := Lib.hid x2
  have HB1 := Lib.hid hb1
  clear h hl hb1 x1 x2 hs1 hW
  by_cases hdk : fd = true ∧ lf = 0
  · simp only [if_pos hdk]
    obtain ⟨rfl, rfl⟩ := hdk
    go_enter Tryz.func73, Tryz.ntmps73
    go_wp2_with (go_at_call 31; (with_reducible refine (KD.out _).mono ?_); rintro e w2 ⟨rfl, hb2⟩; have hx1 := HX1.out.later hb2; have hx2 := HX2.out.later hb2; have a0 := (hx1).cell (j := 0) rfl; have a1 := (hx1).cell (j := 1) rfl; have a2 := (hx1).cell (j := 2) rfl; have a3 := (hx1).cell (j := 3) rfl; have a4 := (hx1).cell (j := 4) rfl; have a5 := (hx1).cell (j := 5) rfl; have a6 := (hx1).cell (j := 6) rfl; have a7 := (hx1).cell (j := 7) rfl; have b0 := (hx2).cell (j := 0) rfl; have bf0 := (hx2).free 0; have b1 := (hx2).cell (j := 1) rfl; have bf1 := (hx2).free 1; have b2 := (hx2).cell (j := 2) rfl; have bf2 := (hx2).free 2; have b3 := (hx2).cell (j := 3) rfl; have bf3 := (hx2).free 3; have b4 := (hx2).cell (j := 4) rfl; have bf4 := (hx2).free 4; have b5 := (hx2).cell (j := 5) rfl; have bf5 := (hx2).free 5; have b6 := (hx2).cell (j := 6) rfl; have bf6 := (hx2).free 6; have b7 := (hx2).cell (j := 7) rfl; have bf7 := (hx2).free 7)
    obtain ⟨V, hV, hx, hb, ho⟩ := fin8 hx2 (bthen HB1.out hb2) (by omega) (.slice A1 n1 c1) (.slice A2 n2 c2) (.int .i64 T.room) (.int .i64 T.vol) (.slice AL nL cL) (.int .i64 sy) (.bool true) (.int .i64 0)
    rw [hV]
    have k0 := (hx).cell (j := 0) rfl; have k1 := (hx).cell (j := 1) rfl; have k2 := (hx).cell (j := 2) rfl; have k3 := (hx).cell (j := 3) rfl; have k4 := (hx).cell (j := 4) rfl; have k5 := (hx).cell (j := 5) rfl; have k6 := (hx).cell (j := 6) rfl; have k7 := (hx).cell (j := 7) rfl
    refine bodyPost_ret (v := .agg (RkC A1 n1 c1 A2 n2 c2 T.room T.vol AL nL cL sy true 0)) (by simp [results, Tryz.f73, go_sem, k0, k1, k2, k3, k4, k5, k6, k7]) rfl ?_
    exact ⟨_, _, _, _, _, _, _, _, _, rfl, HR.out.below hb, HL.out.below hBw hb, hc, hcm, hb⟩
  · simp only [if_neg hdk]
    have hdk2 : (fd && (lf == 0)) = false := by
      cases fd with
      | false => rfl
      | true =>
        have : lf ≠ 0 := fun e => hdk ⟨rfl, e⟩
        simp [this]
    simp only [hdk2] at KD
    clear hdk hdk2
    go_enter Tryz.func73, Tryz.ntmps73
    go_upto_region 4 with (first
      | (go_at_call 121; (with_reducible refine (KB.out _).mono ?_); rintro e w3 ⟨rfl, hb3⟩; have hb23 := bthen hb2 hb3; have hx1 := HX1.out.later hb23; have cc0 := (hx1).cell (j := 0) rfl; have ccf0 := (hx1).free 0; have cc1 := (hx1).cell (j := 1) rfl; have ccf1 := (hx1).free 1; have cc2 := (hx1).cell (j := 2) rfl; have ccf2 := (hx1).free 2; have cc3 := (hx1).cell (j := 3) rfl; have ccf3 := (hx1).free 3; have cc4 := (hx1).cell (j := 4) rfl; have ccf4 := (hx1).free 4; have cc5 := (hx1).cell (j := 5) rfl; have ccf5 := (hx1).free 5; have cc6 := (hx1).cell (j := 6) rfl; have ccf6 := (hx1).free 6; have cc7 := (hx1).cell (j := 7) rfl; have ccf7 := (hx1).free 7)
      | (go_at_call 31; (with_reducible refine (KD.out _).mono ?_); rintro e w2 ⟨rfl, hb2⟩; have hx1 := HX1.out.later hb2; have a0 := (hx1).cell (j := 0) rfl; have a1 := (hx1).cell (j := 1) rfl; have a2 := (hx1).cell (j := 2) rfl; have a3 := (hx1).cell (j := 3) rfl; have a4 := (hx1).cell (j := 4) rfl; have a5 := (hx1).cell (j := 5) rfl; have a6 := (hx1).cell (j := 6) rfl; have a7 := (hx1).cell (j := 7) rfl))
    obtain ⟨V3, hV3, hxv, hbv, hov⟩ := fin8 hx1 (bthen HB1.out hb23) (Nat.le_refl _) (.slice A1 n1 c1) (.slice A2 n2 c2) (.int .i64 T.room) (.int .i64 T.vol) (.slice AL nL cL) (.int .i64 sy) (.bool fd) (.int .i64 (max (lf - 1) 0))
    rw [hV3]
    have HV1 := Lib.hid hxv
    have HV2 := Lib.hid ((HX2.out.later hb23).oth hov (by omega))
    have HBV := Lib.hid hbv
    have g0 := (hxv).cell (j := 0) rfl; have g1 := (hxv).cell (j := 1) rfl; have g2 := (hxv).cell (j := 2) rfl; have g3 := (hxv).cell (j := 3) rfl; have g4 := (hxv).cell (j := 4) rfl; have g5 := (hxv).cell (j := 5) rfl; have g6 := (hxv).cell (j := 6) rfl; have g7 := (hxv).cell (j := 7) rfl
    clear hx1 hb2 hb3 hb23 hov hV3 hxv
    go_wp2_with (go_at_call 27; (with_reducible refine (KV.out _ HBV.out).mono ?_); rintro e w5 ⟨v5, rfl, ⟨A5, n5, c5, A6, n6, c6, rfl, hr5⟩, hwf5, hb5⟩; have hx5 := HV1.out.later hb5; have t0 := (hx5).cell (j := 0) rfl; have tf0 := (hx5).free 0; have t1 := (hx5).cell (j := 1) rfl; have tf1 := (hx5).free 1; have t2 := (hx5).cell (j := 2) rfl; have tf2 := (hx5).free 2; have t3 := (hx5).cell (j := 3) rfl; have tf3 := (hx5).free 3; have t4 := (hx5).cell (j := 4) rfl; have tf4 := (hx5).free 4; have t5 := (hx5).cell (j := 5) rfl; have tf5 := (hx5).free 5; have t6 := (hx5).cell (j := 6) rfl; have tf6 := (hx5).free 6; have t7 := (hx5).cell (j := 7) rfl; have tf7 := (hx5).free 7; obtain ⟨V6, hV6, hx6, hb6, ho6⟩ := set5d hx5 (bthen HBV.out hb5) (Nat.le_refl _) (.slice A5 n5 c5) (.slice A6 n6 c6) (.int .i64 (Nt.all T L).room) (.int .i64 (Nt.all T L).vol) (.slice none 0 0); have s0 := (hx6).cell (j := 0) rfl; have s1 := (hx6).cell (j := 1) rfl; have s2 := (hx6).cell (j := 2) rfl; have s3 := (hx6).cell (j := 3) rfl; have s4 := (hx6).cell (j := 4) rfl; have s5 := (hx6).cell (j := 5) rfl; have s6 := (hx6).cell (j := 6) rfl; have s7 := (hx6).cell (j := 7) rfl; have sf5 := hx6.free 5; obtain ⟨V7, hV7, hx7, hb7, ho7⟩ := set1d hx6 hb6 (Nat.le_refl _) (.int .i64 (wrap64 (sy + 1))); have q0 := (hx7).cell (j := 0) rfl; have q1 := (hx7).cell (j := 1) rfl; have q2 := (hx7).cell (j := 2) rfl; have q3 := (hx7).cell (j := 3) rfl; have q4 := (hx7).cell (j := 4) rfl; have q5 := (hx7).cell (j := 5) rfl; have q6 := (hx7).cell (j := 6) rfl; have q7 := (hx7).cell (j := 7) rfl; have hy7 := ((HV2.out.later hb5).oth ho6 (by omega)).oth ho7 (by omega); have e0 := (hy7).cell (j := 0) rfl; have ef0 := (hy7).free 0; have e1 := (hy7).cell (j := 1) rfl; have ef1 := (hy7).free 1; have e2 := (hy7).cell (j := 2) rfl; have ef2 := (hy7).free 2; have e3 := (hy7).cell (j := 3) rfl; have ef3 := (hy7).free 3; have e4 := (hy7).cell (j := 4) rfl; have ef4 := (hy7).free 4; have e5 := (hy7).cell (j := 5) rfl; have ef5 := (hy7).free 5; have e6 := (hy7).cell (j := 6) rfl; have ef6 := (hy7).free 6; have e7 := (hy7).cell (j := 7) rfl; have ef7 := (hy7).free 7)
    obtain ⟨V9, hV9, hx9, hb9, ho9⟩ := fin8 hy7 hb7 (by omega) (.slice A5 n5 c5) (.slice A6 n6 c6) (.int .i64 (Nt.all T L).room) (.int .i64 (Nt.all T L).vol) (.slice none 0 0) (.int .i64 (wrap64 (sy + 1))) (.bool fd) (.int .i64 (max (lf - 1) 0))
    rw [hV9]
    have k0 := (hx9).cell (j := 0) rfl; have k1 := (hx9).cell (j := 1) rfl; have k2 := (hx9).cell (j := 2) rfl; have k3 := (hx9).cell (j := 3) rfl; have k4 := (hx9).cell (j := 4) rfl; have k5 := (hx9).cell (j := 5) rfl; have k6 := (hx9).cell (j := 6) rfl; have k7 := (hx9).cell (j := 7) rfl
    refine bodyPost_ret (v := .agg (RkC A5 n5 c5 A6 n6 c6 (Nt.all T L).room (Nt.all T L).vol none 0 0 (wrap64 (sy + 1)) fd (max (lf - 1) 0))) (by simp [results, Tryz.f73, go_sem, k0, k1, k2, k3, k4, k5, k6, k7]) rfl ?_
    exact ⟨_, _, _, _, _, _, _, _, _, rfl, ((hr5.oth13d ho6 hx5 hBw).oth13d ho7 hx6 hBw).oth13d ho9 hy7 (by omega), DRow.nil, Nat.le_refl _, Nat.zero_le _, hb9⟩
end
end Go.Proofs.YthgbncpiehcghaaGreatDoor
/- WALKS OF THE DOCUMENT's DISK: Crash. gen_r14f.py -/
namespace Go.Proofs.YthgbncpiehcghaaGreatDoor
set_option linter.unusedVariables false
open Go Go.RowKit Go.Maps
set_option maxRecDepth 100000
set_option maxHeartbeats 8000000
open Nt (Tr Nd WF Ps Path at_ cnt used txt Dd ap)
theorem torn_cons (y : Dd) (l : List Dd) (t : Int) : Nt.torn (y :: l) t = if (y.kd = 2 ∨ y.kd = 5) ∧ 1 ≤ min t (y.n : Int) then [y.some_ (min t (y.n : Int)).toNat] else [] := rfl
theorem set7d {w W : World} {r : Nat} {U : TypeId} {z0 z1 z2 z3 z4 z5 z6 z7 : Value} (hx : BX W r U #[z0, z1, z2, z3, z4, z5, z6, z7]) (hb : Below w.heap.size w W) (hr : w.heap.size ≤ r) (v : Value) :
    ∃ V, W.setCell ⟨r, 7, none⟩ v = V ∧ BX V r U #[z0, z1, z2, z3, z4, z5, z6, v] ∧ Below w.heap.size w V ∧ Oth r W V :=
  ⟨_, rfl, by have h9 := hx.set 7 v; simpa using h9, hb.setCell (p := ⟨r, 7, none⟩) hr _, (Oth.refl r W).setCell 7 v⟩
theorem RTr.oth13e {w w' : World} {B r : Nat} {A1 A2 : Option Addr} {n1 c1 n2 c2 : Nat} {T : Tr} {cs : Array Value} (h : RTr w B A1 n1 c1 A2 n2 c2 T) (ho : Oth r w w') (hb : BX w r 60 cs) (hB : B ≤ r) : RTr w' B A1 n1 c1 A2 n2 c2 T :=
  ⟨h.nodes.oth13 ho hb (by decide), h.paths.oth13 ho hb (by decide), h.cap1, h.cap2, Nat.le_trans h.base ho.2.2.2.1, fun x hx => ⟨(h.data x hx).1.below (ho.below hB h.base), (h.data x hx).2⟩⟩
section
variable {w : World} {B : Nat} {A1 A2 : Option Addr} {n1 c1 n2 c2 : Nat} {T : Tr} {K : Nat} {AL : Option Addr} {nL cL : Nat} {L : List Dd}
theorem refcrash_any (h : RTr w B A1 n1 c1 A2 n2 c2 T) (hW : WF T K) (hl : DRow w B AL nL L) (hK : K + 301 * nL + 301 ≤ 90000) (hc : nL ≤ cL) (hcm : cL ≤ maxLen) (sy : Int) (fd : Bool) (lf : Int) (keep t : Int) (k : Nat) (hk : min (max keep 0) (nL : Int) = (k : Int)) :
    Calls Tryz.prog 74 #[.agg (RkC A1 n1 c1 A2 n2 c2 T.room T.vol AL nL cL sy fd lf), .int .i64 keep, .int .i64 t] w fun e w' => ∃ A1 n1 c1 A2 n2 c2, e = .returned (.agg (RkC A1 n1 c1 A2 n2 c2 (Nt.all (Nt.all T (L.take k)) (Nt.torn (L.drop k) t)).room (Nt.all (Nt.all T (L.take k)) (Nt.torn (L.drop k) t)).vol none 0 0 sy false 0)) ∧ RTr w' B A1 n1 c1 A2 n2 c2 (Nt.all (Nt.all T (L.take k)) (Nt.torn (L.drop k) t)) ∧ Below w.heap.size w w' := by
  obtain ⟨W1, hW1, hb1, hs1, x1, x2⟩ := frame2 w (RkC A1 n1 c1 A2 n2 c2 T.room T.vol AL nL cL sy fd lf) 56 Rk0 56
  have hBw := h.base
  have hkn : k ≤ nL := by omega
  have hll := hl.1.1
  have KA := Lib.hid (fun W (hb : Below w.heap.size w W) => refall_any (h.below hb) hW AL k cL (L.take k) ((hl.below hBw hb).pre hkn) (by omega) (by omega) hcm)
  have HL := Lib.hid hl
  have HX1 := Lib.hid x1
  have HX2 := Lib.hid x2
  have HB1 := Lib.hid hb1
  have HLL := Lib.hid hll
  have y0 := (x1).cell (j := 0) rfl; have y1 := (x1).cell (j := 1) rfl; have y2 := (x1).cell (j := 2) rfl; have y3 := (x1).cell (j := 3) rfl; have y4 := (x1).cell (j := 4) rfl; have y5 := (x1).cell (j := 5) rfl; have y6 := (x1).cell (j := 6) rfl; have y7 := (x1).cell (j := 7) rfl
  have SS := Lib.hid (fun W (hb : Below W1.heap.size W1 W) => show W.cell? ⟨w.heap.size, 0, none⟩ = some (.slice A1 n1 c1) ∧ W.cell? ⟨w.heap.size, 1, none⟩ = some (.slice A2 n2 c2) ∧ W.cell? ⟨w.heap.size, 2, none⟩ = some (.int .i64 T.room) ∧ W.cell? ⟨w.heap.size, 3, none⟩ = some (.int .i64 T.vol) ∧ W.cell? ⟨w.heap.size, 4, none⟩ = some (.slice AL nL cL) from ⟨(HX1.out.later hb).cell rfl, (HX1.out.later hb).cell rfl, (HX1.out.later hb).cell rfl, (HX1.out.later hb).cell rfl, (HX1.out.later hb).cell rfl⟩)
  have hkc : k ≤ cL := by omega
  have hsz1 := hs1
  clear h hl hb1 x1 x2 hs1 hW hll
  go_enter Tryz.func74, Tryz.ntmps74
  go_upto_region 2 with (fail)
  go_cut [8] (fun v wx => ∃ tb A3 n3 c3 A4 n4 c4, v = .pointer (some ⟨tb, 0, none⟩) ∧ W1.heap.size ≤ tb ∧ Hid (BX wx tb 29 (RvC A3 n3 c3 A4 n4 c4 (Nt.all T (L.take k)).room (Nt.all T (L.take k)).vol)) ∧ Hid (RTr wx B A3 n3 c3 A4 n4 c4 (Nt.all T (L.take k))) ∧ Hid (WF (Nt.all T (L.take k)) (K + 301 * k)) ∧ Hid (Below W1.heap.size W1 wx))
  case first =>
    have hacc : Below W1.heap.size W1 W1.drew := (Below.refl _ _).drew
    have hx0 : Below W1.heap.size W1 (W1.alloc (.cells #[.slice none 0 0, .slice none 0 0, .int .i64 0, .int .i64 0] 29)).drew := (below_new W1 _).drew
    have hbz0 : BX (W1.alloc (.cells #[.slice none 0 0, .slice none 0 0, .int .i64 0, .int .i64 0] 29)).drew W1.heap.size 29 #[.slice none 0 0, .slice none 0 0, .int .i64 0, .int .i64 0] := BX.new W1 29 _
    obtain ⟨g0, g1, g2, g3, g4⟩ := SS.out _ hacc
    clear hsz1
    go_region_held3 (fun W => W.cell? ⟨w.heap.size, 0, none⟩ = some (.slice A1 n1 c1) ∧ W.cell? ⟨w.heap.size, 1, none⟩ = some (.slice A2 n2 c2) ∧ W.cell? ⟨w.heap.size, 2, none⟩ = some (.int .i64 T.room) ∧ W.cell? ⟨w.heap.size, 3, none⟩ = some (.int .i64 T.vol) ∧ W.cell? ⟨w.heap.size, 4, none⟩ = some (.slice AL nL cL))
      (first | (with_reducible exact SS.out _ hacc) | (with_reducible exact SS.out _ hx0) | (with_reducible exact SS.out _ (hacc.alloc hacc.size _)) | (with_reducible exact SS.out _ (((((hacc.setCell (p := ⟨_, 0, none⟩) (Nat.le_refl _) _).setCell (p := ⟨_, 1, none⟩) (Nat.le_refl _) _).setCell (p := ⟨_, 2, none⟩) (Nat.le_refl _) _).setCell (p := ⟨_, 3, none⟩) (Nat.le_refl _) _))) | go_keep)
      (first
        | (go_at_call 80; (with_reducible refine (KA.out _ (bthen HB1.out hacc)).mono ?_); rintro e w5 ⟨v5, rfl, ⟨A3, n3, c3, A4, n4, c4, rfl, hr5⟩, hwf5, hstep5⟩; have hacc5 := bthen hacc hstep5; replace hacc := hacc5)
        | (go_at_call 80; (with_reducible refine (KA.out _ (bthen HB1.out hx0)).mono ?_); rintro e w5 ⟨v5, rfl, ⟨A3, n3, c3, A4, n4, c4, rfl, hr5⟩, hwf5, hstep5⟩; have hacc5 := bthen hx0 hstep5; replace hacc := hacc5; have bz5 := hbz0.later hstep5; have bc50 := bz5.cell (j := 0) rfl; have bf50 := bz5.free 0; have bc51 := bz5.cell (j := 1) rfl; have bf51 := bz5.free 1; have bc52 := bz5.cell (j := 2) rfl; have bf52 := bz5.free 2; have bc53 := bz5.cell (j := 3) rfl; have bf53 := bz5.free 3))
    all_goals
      go_wp2
      go_meet
    · exact ⟨_, A3, n3, c3, A4, n4, c4, rfl, hacc5.size, BX.new _ _ _, hr5.below (below_new _ _), hwf5, bthen hacc5 (below_new _ _)⟩
    · obtain ⟨V7, hV7, hx7, ho7⟩ := set4b bz5 (.slice A3 n3 c3) (.slice A4 n4 c4) (.int .i64 (Nt.all T (L.take k)).room) (.int .i64 (Nt.all T (L.take k)).vol)
      rw [hV7]
      have hbw := HB1.out.size
      exact ⟨_, A3, n3, c3, A4, n4, c4, rfl, Nat.le_refl _, hx7, hr5.oth13f ho7 bz5 (by omega), hwf5, hacc5.trans (ho7.below (Nat.le_refl _) hacc5.size)⟩
  case rest =>
    obtain ⟨tb, A3, n3, c3, A4, n4, c4, rfl, htb, HT, HRT, HWT, HC⟩ := hcut
    have HBC := Lib.hid (bthen HB1.out HC.out)
    have HD1 := Lib.hid (HX1.out.later HC.out)
    have HD2 := Lib.hid (HX2.out.later HC.out)
    clear SS KA
    have hd4 := HD1.out.cell (j := 4) rfl
    by_cases hkl : k < nL
    · have hkl' : (k : Int) < nL := by omega
      obtain ⟨g, o, y, rfl, hy, hcy⟩ := ((HL.out.below hBw HBC.out).1).at_ hkl
      have hdy := HL.out.2 y (List.mem_of_getElem? hy)
      have hdr : L.drop k = y :: L.drop (k + 1) := by
        obtain ⟨hj, rfl⟩ := List.getElem?_eq_some_iff.1 hy
        exact List.drop_eq_getElem_cons hj
      obtain ⟨kd, p, q, ma, mb, mc, md, DA, dn, dk, ds⟩ := y
      have c0 : wc.cell? ⟨g, o + k * 8, none⟩ = some (.int .i64 kd) := hcy 0 _ rfl
      have cc1 : wc.cell? ⟨g, o + k * 8 + 1, none⟩ = some (.string p) := hcy 1 _ rfl
      have cc2 : wc.cell? ⟨g, o + k * 8 + 2, none⟩ = some (.string q) := hcy 2 _ rfl
      have cc3 : wc.cell? ⟨g, o + k * 8 + 3, none⟩ = some (.int .i64 ma) := hcy 3 _ rfl
      have cc4 : wc.cell? ⟨g, o + k * 8 + 4, none⟩ = some (.int .i64 mb) := hcy 4 _ rfl
      have cc5 : wc.cell? ⟨g, o + k * 8 + 5, none⟩ = some (.int .i64 mc) := hcy 5 _ rfl
      have cc6 : wc.cell? ⟨g, o + k * 8 + 6, none⟩ = some (.int .i64 md) := hcy 6 _ rfl
      have cc7 : wc.cell? ⟨g, o + k * 8 + 7, none⟩ = some (.slice DA dn dk) := hcy 7 _ rfl
      have hub := BX.new wc 60 #[.int .i64 kd, .string p, .string q, .int .i64 ma, .int .i64 mb, .int .i64 mc, .int .i64 md, .slice DA dn dk]
      have huw := below_new wc (.cells #[.int .i64 kd, .string p, .string q, .int .i64 ma, .int .i64 mb, .int .i64 mc, .int .i64 md, .slice DA dn dk] 60)
      obtain ⟨U1, hU1⟩ : ∃ X, wc.alloc (.cells #[.int .i64 kd, .string p, .string q, .int .i64 ma, .int .i64 mb, .int .i64 mc, .int .i64 md, .slice DA dn dk] 60) = X := ⟨_, rfl⟩
      rw [hU1] at hub huw
      have HQB := Lib.hid hub
      have HBU := Lib.hid huw
      have htl : tb < wc.heap.size := HT.out.lt
      have hwsz : w.heap.size + 2 ≤ wc.heap.size := by have := HC.out.size; omega
      have u0' := hub.cell (j := 0) rfl
      have u7' := hub.cell (j := 7) rfl
      clear hy hcy hub huw
      by_cases hpos : 0 < min t (dn : Int)
      · by_cases k2 : kd = 2
        · subst k2
          obtain ⟨m, hm⟩ : ∃ m : Nat, min t (dn : Int) = (m : Int) := ⟨(min t (dn : Int)).toNat, by omega⟩
          have hmdn : m ≤ dn := by omega
          have hmk : m ≤ dk := by have := hdy.2.2.2.1; simp only at this; omega
          have hmp : (0 : Int) < (m : Int) := by omega
          have KAP := Lib.hid (fun W (hb : Below w.heap.size w W) (hr : RTr W B A3 n3 c3 A4 n4 c4 (Nt.all T (L.take k))) => show Calls Tryz.prog 82 #[.agg (RvC A3 n3 c3 A4 n4 c4 (Nt.all T (L.take k)).room (Nt.all T (L.take k)).vol), .agg #[.int .i64 2, .string p, .string q, .int .i64 ma, .int .i64 mb, .int .i64 mc, .int .i64 md, .slice DA m dk]] W fun e w' => RDone W B (ap (Nt.all T (L.take k)) ((⟨2, p, q, ma, mb, mc, md, DA, dn, dk, ds⟩ : Dd).some_ m)) e w' from
            refapply_any hr HWT.out (by omega) ((⟨2, p, q, ma, mb, mc, md, DA, dn, dk, ds⟩ : Dd).some_ m) hdy.2.1 hdy.2.2.1 ((hdy.1.pre hmdn).below (hb.mono hBw)) hmk hdy.2.2.2.2.1 (by have := hdy.2.2.2.2.2; simp only at this; show m ≤ _; omega))
          have HFIN0 := Lib.hid (show Nt.all (Nt.all T (L.take k)) (Nt.torn (L.drop k) t) = (ap (Nt.all T (L.take k)) ((⟨2, p, q, ma, mb, mc, md, DA, dn, dk, ds⟩ : Dd).some_ m)).1 from by
            rw [hdr, torn_cons]
            rw [if_pos ⟨by simp, by show 1 ≤ min t (dn : Int); omega⟩, show (min t ((⟨2, p, q, ma, mb, mc, md, DA, dn, dk, ds⟩ : Dd).n : Int)).toNat = m from by show (min t (dn : Int)).toNat = m; omega]
            rfl)
          obtain ⟨⟨TT, zz⟩, hTT⟩ : ∃ X, ap (Nt.all T (L.take k)) ((⟨2, p, q, ma, mb, mc, md, DA, dn, dk, ds⟩ : Dd).some_ m) = X := ⟨_, rfl⟩
          rw [hTT] at HFIN0
          simp only [hTT] at KAP
          have HFIN := HFIN0
          clear hTT hdr hdy HFIN0
          have ux := HQB.out
          have u0 := (ux).cell (j := 0) rfl; have uf0 := (ux).free 0; have u1 := (ux).cell (j := 1) rfl; have uf1 := (ux).free 1; have u2 := (ux).cell (j := 2) rfl; have uf2 := (ux).free 2; have u3 := (ux).cell (j := 3) rfl; have uf3 := (ux).free 3; have u4 := (ux).cell (j := 4) rfl; have uf4 := (ux).free 4; have u5 := (ux).cell (j := 5) rfl; have uf5 := (ux).free 5; have u6 := (ux).cell (j := 6) rfl; have uf6 := (ux).free 6; have u7 := (ux).cell (j := 7) rfl; have uf7 := (ux).free 7
          obtain ⟨U6, hU6, hu6, hbu6, hou6⟩ := set7d ux (bthen HBC.out HBU.out) (by have := HBC.out.size; omega) (.slice DA m dk)
          have d0 := (hu6).cell (j := 0) rfl; have d1 := (hu6).cell (j := 1) rfl; have d2 := (hu6).cell (j := 2) rfl; have d3 := (hu6).cell (j := 3) rfl; have d4 := (hu6).cell (j := 4) rfl; have d5 := (hu6).cell (j := 5) rfl; have d6 := (hu6).cell (j := 6) rfl; have d7 := (hu6).cell (j := 7) rfl
          have ht6 := (HT.out.later HBU.out).oth hou6 (by omega)
          have hr6 := (HRT.out.below HBU.out).oth13e hou6 ux (by have := HBC.out.size; omega)
          have s0 := (ht6).cell (j := 0) rfl; have s1 := (ht6).cell (j := 1) rfl; have s2 := (ht6).cell (j := 2) rfl; have s3 := (ht6).cell (j := 3) rfl
          have HU6 := Lib.hid ht6
          have HR6 := Lib.hid hr6
          have HB6 := Lib.hid hbu6
          have HD16 := Lib.hid ((HD1.out.later HBU.out).oth hou6 (by have := HBC.out.size; omega))
          have HD26 := Lib.hid ((HD2.out.later HBU.out).oth hou6 (by have := HBC.out.size; omega))
          clear ux hu6 ht6 hr6 hbu6 hou6
          go_upto_region 9 with (go_at_call 82; (with_reducible refine (KAP.out _ HB6.out HR6.out).mono ?_); rintro e w7 ⟨v7, rfl, ⟨A7, n7, c7, A8, n8, c8, rfl, hr7⟩, hb7⟩; have hx7 := HU6.out.later hb7; have f0 := (hx7).cell (j := 0) rfl; have ff0 := (hx7).free 0; have f1 := (hx7).cell (j := 1) rfl; have ff1 := (hx7).free 1; have f2 := (hx7).cell (j := 2) rfl; have ff2 := (hx7).free 2; have f3 := (hx7).cell (j := 3) rfl; have ff3 := (hx7).free 3; obtain ⟨V8, hV8, hx8, ho8⟩ := set4b hx7 (.slice A7 n7 c7) (.slice A8 n8 c8) (.int .i64 TT.room) (.int .i64 TT.vol))
          have hb78 := bthen HB6.out hb7
          have hb8 := hb78.trans (ho8.below (show w.heap.size ≤ tb by omega) hb78.size)
          have hdd := (HD16.out.later hb7).oth ho8 (by omega)
          have q5 := hdd.cell (j := 5) rfl
          have hrr := (HD26.out.later hb7).oth ho8 (by omega)
          have hxx := hx8
          have x0 := (hxx).cell (j := 0) rfl; have x1 := (hxx).cell (j := 1) rfl; have x2 := (hxx).cell (j := 2) rfl; have x3 := (hxx).cell (j := 3) rfl
          have e0 := (hrr).cell (j := 0) rfl; have ef0 := (hrr).free 0; have e1 := (hrr).cell (j := 1) rfl; have ef1 := (hrr).free 1; have e2 := (hrr).cell (j := 2) rfl; have ef2 := (hrr).free 2; have e3 := (hrr).cell (j := 3) rfl; have ef3 := (hrr).free 3; have e4 := (hrr).cell (j := 4) rfl; have ef4 := (hrr).free 4; have e5 := (hrr).cell (j := 5) rfl; have ef5 := (hrr).free 5; have e6 := (hrr).cell (j := 6) rfl; have ef6 := (hrr).free 6; have e7 := (hrr).cell (j := 7) rfl; have ef7 := (hrr).free 7
          try rw [hV8]
          go_wp2
          obtain ⟨V9, hV9, hx9, hb9, ho9⟩ := fin8 hrr (hb8) (by omega) (.slice A7 n7 c7) (.slice A8 n8 c8) (.int .i64 TT.room) (.int .i64 TT.vol) (.slice none 0 0) (.int .i64 sy) (.bool false) (.int .i64 0)
          rw [hV9]
          have k0 := (hx9).cell (j := 0) rfl; have k1 := (hx9).cell (j := 1) rfl; have k2 := (hx9).cell (j := 2) rfl; have k3 := (hx9).cell (j := 3) rfl; have k4 := (hx9).cell (j := 4) rfl; have k5 := (hx9).cell (j := 5) rfl; have k6 := (hx9).cell (j := 6) rfl; have k7 := (hx9).cell (j := 7) rfl
          refine bodyPost_ret (v := .agg (RkC A7 n7 c7 A8 n8 c8 TT.room TT.vol none 0 0 sy false 0)) (by simp [results, Tryz.f74, go_sem, k0, k1, k2, k3, k4, k5, k6, k7]) rfl ?_
          rw [HFIN.out]
          exact ⟨_, _, _, _, _, _, rfl, (hr7.oth13f ho8 hx7 (by omega)).oth13d ho9 hrr (by omega), hb9⟩
        · by_cases k5 : kd = 5
          · subst k5
            obtain ⟨m, hm⟩ : ∃ m : Nat, min t (dn : Int) = (m : Int) := ⟨(min t (dn : Int)).toNat, by omega⟩
            have hmdn : m ≤ dn := by omega
            have hmk : m ≤ dk := by have := hdy.2.2.2.1; simp only at this; omega
            have hmp : (0 : Int) < (m : Int) := by omega
            have KAP := Lib.hid (fun W (hb : Below w.heap.size w W) (hr : RTr W B A3 n3 c3 A4 n4 c4 (Nt.all T (L.take k))) => show Calls Tryz.prog 82 #[.agg (RvC A3 n3 c3 A4 n4 c4 (Nt.all T (L.take k)).room (Nt.all T (L.take k)).vol), .agg #[.int .i64 5, .string p, .string q, .int .i64 ma, .int .i64 mb, .int .i64 mc, .int .i64 md, .slice DA m dk]] W fun e w' => RDone W B (ap (Nt.all T (L.take k)) ((⟨5, p, q, ma, mb, mc, md, DA, dn, dk, ds⟩ : Dd).some_ m)) e w' from
              refapply_any hr HWT.out (by omega) ((⟨5, p, q, ma, mb, mc, md, DA, dn, dk, ds⟩ : Dd).some_ m) hdy.2.1 hdy.2.2.1 ((hdy.1.pre hmdn).below (hb.mono hBw)) hmk hdy.2.2.2.2.1 (by have := hdy.2.2.2.2.2; simp only at this; show m ≤ _; omega))
            have HFIN0 := Lib.hid (show Nt.all (Nt.all T (L.take k)) (Nt.torn (L.drop k) t) = (ap (Nt.all T (L.take k)) ((⟨5, p, q, ma, mb, mc, md, DA, dn, dk, ds⟩ : Dd).some_ m)).1 from by
              rw [hdr, torn_cons]
              rw [if_pos ⟨by simp, by show 1 ≤ min t (dn : Int); omega⟩, show (min t ((⟨5, p, q, ma, mb, mc, md, DA, dn, dk, ds⟩ : Dd).n : Int)).toNat = m from by show (min t (dn : Int)).toNat = m; omega]
              rfl)
            obtain ⟨⟨TT, zz⟩, hTT⟩ : ∃ X, ap (Nt.all T (L.take k)) ((⟨5, p, q, ma, mb, mc, md, DA, dn, dk, ds⟩ : Dd).some_ m) = X := ⟨_, rfl⟩
            rw [hTT] at HFIN0
            simp only [hTT] at KAP
            have HFIN := HFIN0
            clear hTT hdr hdy HFIN0
            have ux := HQB.out
            have u0 := (ux).cell (j := 0) rfl; have uf0 := (ux).free 0; have u1 := (ux).cell (j := 1) rfl; have uf1 := (ux).free 1; have u2 := (ux).cell (j := 2) rfl; have uf2 := (ux).free 2; have u3 := (ux).cell (j := 3) rfl; have uf3 := (ux).free 3; have u4 := (ux).cell (j := 4) rfl; have uf4 := (ux).free 4; have u5 := (ux).cell (j := 5) rfl; have uf5 := (ux).free 5; have u6 := (ux).cell (j := 6) rfl; have uf6 := (ux).free 6; have u7 := (ux).cell (j := 7) rfl; have uf7 := (ux).free 7
            obtain ⟨U6, hU6, hu6, hbu6, hou6⟩ := set7d ux (bthen HBC.out HBU.out) (by have := HBC.out.size; omega) (.slice DA m dk)
            have d0 := (hu6).cell (j := 0) rfl; have d1 := (hu6).cell (j := 1) rfl; have d2 := (hu6).cell (j := 2) rfl; have d3 := (hu6).cell (j := 3) rfl; have d4 := (hu6).cell (j := 4) rfl; have d5 := (hu6).cell (j := 5) rfl; have d6 := (hu6).cell (j := 6) rfl; have d7 := (hu6).cell (j := 7) rfl
            have ht6 := (HT.out.later HBU.out).oth hou6 (by omega)
            have hr6 := (HRT.out.below HBU.out).oth13e hou6 ux (by have := HBC.out.size; omega)
            have s0 := (ht6).cell (j := 0) rfl; have s1 := (ht6).cell (j := 1) rfl; have s2 := (ht6).cell (j := 2) rfl; have s3 := (ht6).cell (j := 3) rfl
            have HU6 := Lib.hid ht6
            have HR6 := Lib.hid hr6
            have HB6 := Lib.hid hbu6
            have HD16 := Lib.hid ((HD1.out.later HBU.out).oth hou6 (by have := HBC.out.size; omega))
            have HD26 := Lib.hid ((HD2.out.later HBU.out).oth hou6 (by have := HBC.out.size; omega))
            clear ux hu6 ht6 hr6 hbu6 hou6
            go_upto_region 9 with (go_at_call 82; (with_reducible refine (KAP.out _ HB6.out HR6.out).mono ?_); rintro e w7 ⟨v7, rfl, ⟨A7, n7, c7, A8, n8, c8, rfl, hr7⟩, hb7⟩; have hx7 := HU6.out.later hb7; have f0 := (hx7).cell (j := 0) rfl; have ff0 := (hx7).free 0; have f1 := (hx7).cell (j := 1) rfl; have ff1 := (hx7).free 1; have f2 := (hx7).cell (j := 2) rfl; have ff2 := (hx7).free 2; have f3 := (hx7).cell (j := 3) rfl; have ff3 := (hx7).free 3; obtain ⟨V8, hV8, hx8, ho8⟩ := set4b hx7 (.slice A7 n7 c7) (.slice A8 n8 c8) (.int .i64 TT.room) (.int .i64 TT.vol))
            have hb78 := bthen HB6.out hb7
            have hb8 := hb78.trans (ho8.below (show w.heap.size ≤ tb by omega) hb78.size)
            have hdd := (HD16.out.later hb7).oth ho8 (by omega)
            have q5 := hdd.cell (j := 5) rfl
            have hrr := (HD26.out.later hb7).oth ho8 (by omega)
            have hxx := hx8
            have x0 := (hxx).cell (j := 0) rfl; have x1 := (hxx).cell (j := 1) rfl; have x2 := (hxx).cell (j := 2) rfl; have x3 := (hxx).cell (j := 3) rfl
            have e0 := (hrr).cell (j := 0) rfl; have ef0 := (hrr).free 0; have e1 := (hrr).cell (j := 1) rfl; have ef1 := (hrr).free 1; have e2 := (hrr).cell (j := 2) rfl; have ef2 := (hrr).free 2; have e3 := (hrr).cell (j := 3) rfl; have ef3 := (hrr).free 3; have e4 := (hrr).cell (j := 4) rfl; have ef4 := (hrr).free 4; have e5 := (hrr).cell (j := 5) rfl; have ef5 := (hrr).free 5; have e6 := (hrr).cell (j := 6) rfl; have ef6 := (hrr).free 6; have e7 := (hrr).cell (j := 7) rfl; have ef7 := (hrr).free 7
            try rw [hV8]
            go_wp2
            obtain ⟨V9, hV9, hx9, hb9, ho9⟩ := fin8 hrr (hb8) (by omega) (.slice A7 n7 c7) (.slice A8 n8 c8) (.int .i64 TT.room) (.int .i64 TT.vol) (.slice none 0 0) (.int .i64 sy) (.bool false) (.int .i64 0)
            rw [hV9]
            have k0 := (hx9).cell (j := 0) rfl; have k1 := (hx9).cell (j := 1) rfl; have k2 := (hx9).cell (j := 2) rfl; have k3 := (hx9).cell (j := 3) rfl; have k4 := (hx9).cell (j := 4) rfl; have k5 := (hx9).cell (j := 5) rfl; have k6 := (hx9).cell (j := 6) rfl; have k7 := (hx9).cell (j := 7) rfl
            refine bodyPost_ret (v := .agg (RkC A7 n7 c7 A8 n8 c8 TT.room TT.vol none 0 0 sy false 0)) (by simp [results, Tryz.f74, go_sem, k0, k1, k2, k3, k4, k5, k6, k7]) rfl ?_
            rw [HFIN.out]
            exact ⟨_, _, _, _, _, _, rfl, (hr7.oth13f ho8 hx7 (by omega)).oth13d ho9 hrr (by omega), hb9⟩
          · have gk2 : (kd == 2) = false := by simp [k2]
            have gk5 : (kd == 5) = false := by simp [k5]
            obtain ⟨TT, hTT⟩ : ∃ X, Nt.all T (L.take k) = X := ⟨_, rfl⟩
            have HFIN := Lib.hid (show Nt.all (Nt.all T (L.take k)) (Nt.torn (L.drop k) t) = TT from by rw [hdr, ← hTT, torn_cons, if_neg (by rintro ⟨e | e, _⟩; exact k2 e; exact k5 e)]; rfl)
            rw [hTT] at HT HRT
            clear hTT hdr HWT hdy
            have hdd := HD1.out.later HBU.out
            have q5 := hdd.cell (j := 5) rfl
            have hrr := HD2.out.later HBU.out
            have hxx := HT.out.later HBU.out
            have x0 := (hxx).cell (j := 0) rfl; have x1 := (hxx).cell (j := 1) rfl; have x2 := (hxx).cell (j := 2) rfl; have x3 := (hxx).cell (j := 3) rfl
            have e0 := (hrr).cell (j := 0) rfl; have ef0 := (hrr).free 0; have e1 := (hrr).cell (j := 1) rfl; have ef1 := (hrr).free 1; have e2 := (hrr).cell (j := 2) rfl; have ef2 := (hrr).free 2; have e3 := (hrr).cell (j := 3) rfl; have ef3 := (hrr).free 3; have e4 := (hrr).cell (j := 4) rfl; have ef4 := (hrr).free 4; have e5 := (hrr).cell (j := 5) rfl; have ef5 := (hrr).free 5; have e6 := (hrr).cell (j := 6) rfl; have ef6 := (hrr).free 6; have e7 := (hrr).cell (j := 7) rfl; have ef7 := (hrr).free 7
            go_wp2
            obtain ⟨V9, hV9, hx9, hb9, ho9⟩ := fin8 hrr (bthen HBC.out HBU.out) (by omega) (.slice A3 n3 c3) (.slice A4 n4 c4) (.int .i64 TT.room) (.int .i64 TT.vol) (.slice none 0 0) (.int .i64 sy) (.bool false) (.int .i64 0)
            rw [hV9]
            have k0 := (hx9).cell (j := 0) rfl; have k1 := (hx9).cell (j := 1) rfl; have k2 := (hx9).cell (j := 2) rfl; have k3 := (hx9).cell (j := 3) rfl; have k4 := (hx9).cell (j := 4) rfl; have k5 := (hx9).cell (j := 5) rfl; have k6 := (hx9).cell (j := 6) rfl; have k7 := (hx9).cell (j := 7) rfl
            refine bodyPost_ret (v := .agg (RkC A3 n3 c3 A4 n4 c4 TT.room TT.vol none 0 0 sy false 0)) (by simp [results, Tryz.f74, go_sem, k0, k1, k2, k3, k4, k5, k6, k7]) rfl ?_
            rw [HFIN.out]
            exact ⟨_, _, _, _, _, _, rfl, (HRT.out.below HBU.out).oth13d ho9 hrr (by omega), hb9⟩
      · obtain ⟨TT, hTT⟩ : ∃ X, Nt.all T (L.take k) = X := ⟨_, rfl⟩
        have HFIN := Lib.hid (show Nt.all (Nt.all T (L.take k)) (Nt.torn (L.drop k) t) = TT from by rw [hdr, ← hTT, torn_cons, if_neg (by rintro ⟨_, e⟩; apply hpos; have e : 1 ≤ min t (dn : Int) := e; omega)]; rfl)
        rw [hTT] at HT HRT
        clear hTT hdr HWT hdy
        have hdd := HD1.out.later HBU.out
        have q5 := hdd.cell (j := 5) rfl
        have hrr := HD2.out.later HBU.out
        have hxx := HT.out.later HBU.out
        have x0 := (hxx).cell (j := 0) rfl; have x1 := (hxx).cell (j := 1) rfl; have x2 := (hxx).cell (j := 2) rfl; have x3 := (hxx).cell (j := 3) rfl
        have e0 := (hrr).cell (j := 0) rfl; have ef0 := (hrr).free 0; have e1 := (hrr).cell (j := 1) rfl; have ef1 := (hrr).free 1; have e2 := (hrr).cell (j := 2) rfl; have ef2 := (hrr).free 2; have e3 := (hrr).cell (j := 3) rfl; have ef3 := (hrr).free 3; have e4 := (hrr).cell (j := 4) rfl; have ef4 := (hrr).free 4; have e5 := (hrr).cell (j := 5) rfl; have ef5 := (hrr).free 5; have e6 := (hrr).cell (j := 6) rfl; have ef6 := (hrr).free 6; have e7 := (hrr).cell (j := 7) rfl; have ef7 := (hrr).free 7
        go_wp2
        obtain ⟨V9, hV9, hx9, hb9, ho9⟩ := fin8 hrr (bthen HBC.out HBU.out) (by omega) (.slice A3 n3 c3) (.slice A4 n4 c4) (.int .i64 TT.room) (.int .i64 TT.vol) (.slice none 0 0) (.int .i64 sy) (.bool false) (.int .i64 0)
        rw [hV9]
        have k0 := (hx9).cell (j := 0) rfl; have k1 := (hx9).cell (j := 1) rfl; have k2 := (hx9).cell (j := 2) rfl; have k3 := (hx9).cell (j := 3) rfl; have k4 := (hx9).cell (j := 4) rfl; have k5 := (hx9).cell (j := 5) rfl; have k6 := (hx9).cell (j := 6) rfl; have k7 := (hx9).cell (j := 7) rfl
        refine bodyPost_ret (v := .agg (RkC A3 n3 c3 A4 n4 c4 TT.room TT.vol none 0 0 sy false 0)) (by simp [results, Tryz.f74, go_sem, k0, k1, k2, k3, k4, k5, k6, k7]) rfl ?_
        rw [HFIN.out]
        exact ⟨_, _, _, _, _, _, rfl, (HRT.out.below HBU.out).oth13d ho9 hrr (by omega), hb9⟩
    · have hkl' : ¬ (k : Int) < nL := by omega
      have hdr : L.drop k = [] := List.drop_eq_nil_of_le (by rw [HLL.out]; omega)
      obtain ⟨TT, hTT⟩ : ∃ X, Nt.all T (L.take k) = X := ⟨_, rfl⟩
      have HFIN := Lib.hid (show Nt.all (Nt.all T (L.take k)) (Nt.torn (L.drop k) t) = TT from by rw [hdr, ← hTT]; rfl)
      rw [hTT] at HT HRT
      clear hdr hTT HWT
      have hdd := HD1.out
      have q5 := hdd.cell (j := 5) rfl
      have hrr := HD2.out
      have hxx := HT.out
      have x0 := (hxx).cell (j := 0) rfl; have x1 := (hxx).cell (j := 1) rfl; have x2 := (hxx).cell (j := 2) rfl; have x3 := (hxx).cell (j := 3) rfl
      have e0 := (hrr).cell (j := 0) rfl; have ef0 := (hrr).free 0; have e1 := (hrr).cell (j := 1) rfl; have ef1 := (hrr).free 1; have e2 := (hrr).cell (j := 2) rfl; have ef2 := (hrr).free 2; have e3 := (hrr).cell (j := 3) rfl; have ef3 := (hrr).free 3; have e4 := (hrr).cell (j := 4) rfl; have ef4 := (hrr).free 4; have e5 := (hrr).cell (j := 5) rfl; have ef5 := (hrr).free 5; have e6 := (hrr).cell (j := 6) rfl; have ef6 := (hrr).free 6; have e7 := (hrr).cell (j := 7) rfl; have ef7 := (hrr).free 7
      go_wp2
      obtain ⟨V9, hV9, hx9, hb9, ho9⟩ := fin8 hrr (HBC.out) (by omega) (.slice A3 n3 c3) (.slice A4 n4 c4) (.int .i64 TT.room) (.int .i64 TT.vol) (.slice none 0 0) (.int .i64 sy) (.bool false) (.int .i64 0)
      rw [hV9]
      have k0 := (hx9).cell (j := 0) rfl; have k1 := (hx9).cell (j := 1) rfl; have k2 := (hx9).cell (j := 2) rfl; have k3 := (hx9).cell (j := 3) rfl; have k4 := (hx9).cell (j := 4) rfl; have k5 := (hx9).cell (j := 5) rfl; have k6 := (hx9).cell (j := 6) rfl; have k7 := (hx9).cell (j := 7) rfl
      refine bodyPost_ret (v := .agg (RkC A3 n3 c3 A4 n4 c4 TT.room TT.vol none 0 0 sy false 0)) (by simp [results, Tryz.f74, go_sem, k0, k1, k2, k3, k4, k5, k6, k7]) rfl ?_
      rw [HFIN.out]
      exact ⟨_, _, _, _, _, _, rfl, (HRT.out).oth13d ho9 hrr (by omega), hb9⟩
end
end Go.Proofs.YthgbncpiehcghaaGreatDoor
