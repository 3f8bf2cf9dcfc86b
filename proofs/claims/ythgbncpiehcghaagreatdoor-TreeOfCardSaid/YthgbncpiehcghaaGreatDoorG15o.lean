/- WALKS OF LAYER 15, FIFTEENTH PART: a tree, and the document's, behind deeds. gen_g15o.py -/
import Derived.Test.YthgbncpiehcghaaGreatDoorGw2
import Derived.Test.YthgbncpiehcghaaGreatDoorR14a
import Derived.Test.YthgbncpiehcghaaGreatDoorGa2
import Derived.Test.YthgbncpiehcghaaGreatDoorN14q
import Derived.Test.YthgbncpiehcghaaGreatDoorGm2
import Derived.Test.YthgbncpiehcghaaGreatDoorS14
namespace Go.Proofs.YthgbncpiehcghaaGreatDoor
set_option linter.unusedVariables false
open Go Go.RowKit Go.Maps
set_option maxRecDepth 100000
set_option maxHeartbeats 8000000
open Nt (Tr Nd WF Ps Path at_ cnt used txt Mm Dd ap)
theorem tree13_not {cs : Array Value} {fz : Nat × Nat} : ¬ TreeObj (.cells cs 29 fz) := by
  rintro (⟨_, _, h⟩ | ⟨_, _, _, h, h1 | h1⟩)
  · cases h
  · cases h; cases h1
  · cases h; cases h1
theorem deed14_not {cs : Array Value} {fz : Nat × Nat} : ¬ TreeObj (.cells cs 60 fz) := by
  rintro (⟨_, _, h⟩ | ⟨_, _, _, h, h1 | h1⟩)
  · cases h
  · cases h; cases h1
  · cases h; cases h1
theorem node13_not {cs : Array Value} {fz : Nat × Nat} : ¬ TreeObj (.cells cs 114 fz) := by
  rintro (⟨_, _, h⟩ | ⟨_, _, _, h, h1 | h1⟩)
  · cases h
  · cases h; cases h1
  · cases h; cases h1
theorem at13_not {cs : Array Value} {fz : Nat × Nat} : ¬ TreeObj (.cells cs 45 fz) := by
  rintro (⟨_, _, h⟩ | ⟨_, _, _, h, h1 | h1⟩)
  · cases h
  · cases h; cases h1
  · cases h; cases h1
section
variable {w0 w w' : World} {tb K r : Nat} {T : Tr} {U : TypeId} {cs : Array Value}
theorem At.oth (h : At w0 w tb T K) (ho : Oth r w w') (hb : BX w r U cs) (hU : ¬ TreeObj (.cells cs U (0, 0))) (hr : w0.heap.size ≤ r) : At w0 w' tb T K := by
  obtain ⟨F, ad, mb, hF, hR⟩ := h.rep
  refine ⟨h.wf, h.low.trans (ho.below hr h.low.size), _, ad, mb, fun k hk => ⟨(hF k (hR.fm hk)).1, Nat.lt_of_lt_of_le (hF k (hR.fm hk)).2 ho.2.2.2.1⟩, hR.min.kept fun k hk hl => ho.2.2.2.2 k hl ?_⟩
  rintro rfl
  obtain ⟨o, h1, h2⟩ := hR.min.sort hk
  rw [hb] at h1
  cases h1
  exact hU h2
theorem At.drew (h : At w0 w tb T K) : At w0 w.drew tb T K := h.later (Below.refl _ _).drew
theorem At.rebase {v : World} (h : At w0 w tb T K) (hb : Below v.heap.size v w0) : At v w tb T K :=
  let ⟨F, ad, mb, hF, hR⟩ := h.rep
  ⟨h.wf, hb.trans (h.low.mono hb.size), F, ad, mb, fun k hk => ⟨Nat.le_trans hb.size (hF k hk).1, (hF k hk).2⟩, hR⟩
theorem at_apply15 (h : At w0 w tb T K) (hK : K ≤ 90000) (y : Dd) (hp : y.p.size ≤ 100000) (hq : y.q.size ≤ 100000) (hd : RB w w.heap.size y.A y.n y.xs) (hn : y.n ≤ 1000000) :
    Calls Tryz.prog 81 #[.pointer (some ⟨tb, 0, none⟩), .agg (DdC y)] w fun e w' => e = .returned (.int .i64 (ap T y).2) ∧ At w0 w' tb (ap T y).1 (K + 301) ∧ KeepX TreeObj w w' ∧ Below w0.heap.size w w' := by
  obtain ⟨F, ad, mb, hF, hR⟩ := h.rep
  refine (apply_done h.wf (by omega) hR.min y hp hq hd hn).mono ?_
  intro e w' hdn
  have hk := hdn.2.2
  have hx : KeepX TreeObj w w' := KeepX.ofKeep hk fun k hk2 => hR.min.sort hk2
  have hl : Below w0.heap.size w w' := hk.below (fun k hk => (hF k (hR.fm hk)).1) h.low.size
  obtain ⟨rfl, ha⟩ := h.of_done (fun k hk => hF k (hR.fm hk)) (h.wf.ap y hd.1) hdn
  exact ⟨rfl, ha, hx, hl⟩
theorem set4b {a : Nat} {c0 c1 c2 c3 : Value} (hx : BX w a U #[c0, c1, c2, c3]) (v0 v1 v2 v3 : Value) :
    ∃ V, (((w.setCell ⟨a, 0, none⟩ v0).setCell ⟨a, 1, none⟩ v1).setCell ⟨a, 2, none⟩ v2).setCell ⟨a, 3, none⟩ v3 = V ∧ BX V a U #[v0, v1, v2, v3] ∧ Oth a w V :=
  ⟨_, rfl, by have h9 := (((hx.set 0 v0).set 1 v1).set 2 v2).set 3 v3; simpa using h9, ((((Oth.refl a w).setCell 0 v0).setCell 1 v1).setCell 2 v2).setCell 3 v3⟩
end
/-- What grown owes. -/
def Grown (w : World) (e : Ending) (w' : World) : Prop := ∃ tb T K A1 n1 c1 A2 n2 c2 ok, e = .returned (.tuple #[.pointer (some ⟨tb, 0, none⟩), .agg (RvC A1 n1 c1 A2 n2 c2 T.room T.vol), .bool ok]) ∧ At w w' tb T K ∧ K ≤ 13000 ∧ RTr w' w.heap.size A1 n1 c1 A2 n2 c2 T ∧ Nt.Mok T ∧ Nt.Bok T
theorem lgrown_any (A : Option Addr) (n c : Nat) (l : List Dd) (w : World) (hl : QL w w.heap.size A n l) (hc : n ≤ c) (hc2 : c ≤ maxLen) (hy : ∀ y ∈ l, DdOk y) :
    Calls Tryz.prog 34 #[.slice A n c] w fun e w' => Grown w e w' := by
  obtain ⟨W0, hW0, hb0, hs0, x0⟩ := frame1 w Rv0 29
  have KN := Lib.hid (at_new W0 40 20000 (by decide) (by decide))
  have KR := Lib.hid (fun W (h : Below W0.heap.size W0 W) => refnew_any W w.heap.size (Nat.le_trans hb0.size h.size) 40 20000)
  have HL := Lib.hid hl
  have HY := Lib.hid hy
  have HB0 := Lib.hid hb0
  have HX0 := Lib.hid x0
  have hnl : l.length = n := hl.1.1
  have HNL := Lib.hid hnl
  obtain ⟨m, hm⟩ : ∃ m : Nat, min n 40 = m := ⟨_, rfl⟩
  have hm40 : m ≤ 40 ∧ m ≤ n := by omega
  have hmi : min (n : Int) 40 = m := by omega
  have hmc : m ≤ c := by omega
  clear hl hy hb0 x0 hnl
  go_enter Tryz.func34, Tryz.ntmps34
  go_upto_region 4 with (first
    | (go_at_call 8; (with_reducible refine (KR.out _ h1.low).mono ?_); rintro e w2 ⟨v2, rfl, ⟨A1, n1, c1, A2, n2, c2, rfl, hr2⟩, hb2⟩; have HR2 := Lib.hid hr2; have H1 := Lib.hid (h1.later hb2); have HBB := Lib.hid hb2; have H1B := Lib.hid h1.low; clear hr2 h1)
    | (go_at_call 7; (with_reducible refine KN.out.mono ?_); rintro e w1 ⟨tb, rfl, h1⟩))
  have hrb : w.heap.size < w2.heap.size := by
    have h8 := H1.out.low.size
    omega
  obtain ⟨rb, hrbe⟩ : ∃ rb, w2.heap.size = rb := ⟨_, rfl⟩
  have hV0 := BX.new w2 29 (RvC A1 n1 c1 A2 n2 c2 (Nt.new 40 20000).room (Nt.new 40 20000).vol)
  have hbV := below_new w2 (.cells (RvC A1 n1 c1 A2 n2 c2 (Nt.new 40 20000).room (Nt.new 40 20000).vol) 29)
  obtain ⟨V0, hVe⟩ : ∃ V, w2.alloc (.cells (RvC A1 n1 c1 A2 n2 c2 (Nt.new 40 20000).room (Nt.new 40 20000).vol) 29) = V := ⟨_, rfl⟩
  rw [hVe] at hV0 hbV ⊢
  rw [hrbe] at hV0 hrb ⊢
  have HA0 := Lib.hid ((H1.out.later hbV).rebase HB0.out)
  have HT0 := Lib.hid (HR2.out.below hbV)
  have HZ0 := Lib.hid ((HX0.out.later (bthen H1B.out HBB.out)).later hbV)
  have HV0 := Lib.hid hV0
  have HRB := Lib.hid hrb
  have g0 : ¬ m < 0 := by omega
  clear hVe hrbe hV0 hbV hrb HR2 H1 HBB HX0 H1B hW0 hs0 hmi
  go_wp2
  go_loopw [20] (fun i W => ∃ (j : Nat) (T : Tr) (A1 : Option Addr) (n1 c1 : Nat) (A2 : Option Addr) (n2 c2 : Nat), j ≤ m ∧ i = .int .i64 j ∧ Hid (At w W tb T (1 + 301 * j)) ∧ Hid (RTr W w.heap.size A1 n1 c1 A2 n2 c2 T) ∧ Hid (BX W rb 29 (RvC A1 n1 c1 A2 n2 c2 T.room T.vol)) ∧ Hid (BX W w.heap.size 29 Rv0) ∧ Hid (Nt.Mok T ∧ Nt.Bok T)) (fun i _ => m - (intOf i).toNat)
  case atStart => exact ⟨0, Nt.new 40 20000, _, _, _, _, _, _, Nat.zero_le _, rfl, HA0.out, HT0.out, HV0.out, HZ0.out, Nt.Mok.new _ _, Nt.Bok.new _ _⟩
  case round =>
    obtain ⟨j, T, A1, n1, c1, A2, n2, c2, hj, rfl, HA, HT, HX, HZ, HM⟩ := hrel
    by_cases hlt : j < m
    · have hlt' : (j : Int) < m := by omega
      obtain ⟨b, o, y, rfl, hbB, hyj, hrb, hcl⟩ := (HL.out.below HA.out.low).at_ (show j < n by omega)
      have hyo := HY.out y (List.mem_of_getElem? hyj)
      obtain ⟨kd, p, q, a, b', c', d, DA, dn, dk, ds⟩ := y
      have z0 : wr.cell? ⟨b, o + j * 8, none⟩ = some (.int .i64 kd) := hcl 0 _ rfl
      have z1 : wr.cell? ⟨b, o + j * 8 + 1, none⟩ = some (.string p) := hcl 1 _ rfl
      have z2 : wr.cell? ⟨b, o + j * 8 + 2, none⟩ = some (.string q) := hcl 2 _ rfl
      have z3 : wr.cell? ⟨b, o + j * 8 + 3, none⟩ = some (.int .i64 a) := hcl 3 _ rfl
      have z4 : wr.cell? ⟨b, o + j * 8 + 4, none⟩ = some (.int .i64 b') := hcl 4 _ rfl
      have z5 : wr.cell? ⟨b, o + j * 8 + 5, none⟩ = some (.int .i64 c') := hcl 5 _ rfl
      have z6 : wr.cell? ⟨b, o + j * 8 + 6, none⟩ = some (.int .i64 d) := hcl 6 _ rfl
      have z7 : wr.cell? ⟨b, o + j * 8 + 7, none⟩ = some (.slice DA dn dk) := hcl 7 _ rfl
      have hx1 := BX.new wr 60 #[.int .i64 kd, .string p, .string q, .int .i64 a, .int .i64 b', .int .i64 c', .int .i64 d, .slice DA dn dk]
      have hb1 := below_new wr (.cells #[.int .i64 kd, .string p, .string q, .int .i64 a, .int .i64 b', .int .i64 c', .int .i64 d, .slice DA dn dk] 60)
      obtain ⟨V1, hV1⟩ : ∃ V, wr.alloc (.cells #[.int .i64 kd, .string p, .string q, .int .i64 a, .int .i64 b', .int .i64 c', .int .i64 d, .slice DA dn dk] 60) = V := ⟨_, rfl⟩
      rw [hV1] at hx1 hb1
      have s0 := (hx1).cell (j := 0) rfl; have s1 := (hx1).cell (j := 1) rfl; have s2 := (hx1).cell (j := 2) rfl; have s3 := (hx1).cell (j := 3) rfl; have s4 := (hx1).cell (j := 4) rfl; have s5 := (hx1).cell (j := 5) rfl; have s6 := (hx1).cell (j := 6) rfl; have s7 := (hx1).cell (j := 7) rfl
      have HA1 := Lib.hid (HA.out.later hb1)
      have HT1 := Lib.hid (HT.out.below hb1)
      have HX1 := Lib.hid (HX.out.later hb1)
      have HZ1 := Lib.hid (HZ.out.later hb1)
      have HX9 := Lib.hid hx1
      have hds : RB V1 w.heap.size DA dn ds := hrb.below (hb1.mono HA.out.low.size)
      have HDS := Lib.hid hds
      have hdl := hds.1
      have HDO := Lib.hid hyo
      have HSZ := Lib.hid HA.out.low.size
      clear hcl hx1 hb1 hds hrb hyo hyj
      by_cases hp : 400 < p.size
      · have gp : (400 : Int) < p.size := by omega
        have hXX := HX1.out
        have hZZ := HZ1.out
        have xa0 := (hXX).cell (j := 0) rfl; have xa1 := (hXX).cell (j := 1) rfl; have xa2 := (hXX).cell (j := 2) rfl; have xa3 := (hXX).cell (j := 3) rfl
        have za0 := (hZZ).cell (j := 0) rfl; have zaf0 := (hZZ).free 0; have za1 := (hZZ).cell (j := 1) rfl; have zaf1 := (hZZ).free 1; have za2 := (hZZ).cell (j := 2) rfl; have zaf2 := (hZZ).free 2; have za3 := (hZZ).cell (j := 3) rfl; have zaf3 := (hZZ).free 3
        have hdx : BX V1.drew rb 29 (RvC A1 n1 c1 A2 n2 c2 T.room T.vol) := hXX
        have hdz : BX V1.drew w.heap.size 29 Rv0 := hZZ
        have xb0 := (hdx).cell (j := 0) rfl; have xb1 := (hdx).cell (j := 1) rfl; have xb2 := (hdx).cell (j := 2) rfl; have xb3 := (hdx).cell (j := 3) rfl
        have zb0 := (hdz).cell (j := 0) rfl; have zbf0 := (hdz).free 0; have zb1 := (hdz).cell (j := 1) rfl; have zbf1 := (hdz).free 1; have zb2 := (hdz).cell (j := 2) rfl; have zbf2 := (hdz).free 2; have zb3 := (hdz).cell (j := 3) rfl; have zbf3 := (hdz).free 3
        clear hXX hZZ hdx hdz
        go_upto_region 8 with (fail)
        go_region
        all_goals
          go_wp2
          obtain ⟨W9, hW9, k0, k1, k2, k3, hb9, ho9⟩ := fin4 HZ1.out HA1.out.low (Nat.le_refl _) (.slice A1 n1 c1) (.slice A2 n2 c2) (.int .i64 T.room) (.int .i64 T.vol)
          rw [hW9]
          have k0 : W9.drew.cell? ⟨w.heap.size, 0, none⟩ = some (.slice A1 n1 c1) := k0
          have k1 : W9.drew.cell? ⟨w.heap.size, 1, none⟩ = some (.slice A2 n2 c2) := k1
          have k2 : W9.drew.cell? ⟨w.heap.size, 2, none⟩ = some (.int .i64 T.room) := k2
          have k3 : W9.drew.cell? ⟨w.heap.size, 3, none⟩ = some (.int .i64 T.vol) := k3
          refine bodyPost_ret (v := .tuple #[.pointer (some ⟨tb, 0, none⟩), .agg (RvC A1 n1 c1 A2 n2 c2 T.room T.vol), .bool false]) (by simp [results, Tryz.f34, go_sem, k0, k1, k2, k3]) rfl ?_
          refine ⟨tb, T, 1 + 301 * j, _, _, _, _, _, _, _, rfl, (HA1.out.oth ho9 HZ1.out tree13_not (Nat.le_refl _)).drew, by omega, ?_, HM.out.1, HM.out.2⟩
          exact (HT1.out.oth13f ho9 HZ1.out (Nat.le_refl _)).below (Below.refl _ _).drew
      · have gp : ¬ (400 : Int) < p.size := by omega
        by_cases hq : 400 < q.size
        · have gq : (400 : Int) < q.size := by omega
          have hXX := HX1.out
          have hZZ := HZ1.out
          have xa0 := (hXX).cell (j := 0) rfl; have xa1 := (hXX).cell (j := 1) rfl; have xa2 := (hXX).cell (j := 2) rfl; have xa3 := (hXX).cell (j := 3) rfl
          have za0 := (hZZ).cell (j := 0) rfl; have zaf0 := (hZZ).free 0; have za1 := (hZZ).cell (j := 1) rfl; have zaf1 := (hZZ).free 1; have za2 := (hZZ).cell (j := 2) rfl; have zaf2 := (hZZ).free 2; have za3 := (hZZ).cell (j := 3) rfl; have zaf3 := (hZZ).free 3
          have hdx : BX V1.drew rb 29 (RvC A1 n1 c1 A2 n2 c2 T.room T.vol) := hXX
          have hdz : BX V1.drew w.heap.size 29 Rv0 := hZZ
          have xb0 := (hdx).cell (j := 0) rfl; have xb1 := (hdx).cell (j := 1) rfl; have xb2 := (hdx).cell (j := 2) rfl; have xb3 := (hdx).cell (j := 3) rfl
          have zb0 := (hdz).cell (j := 0) rfl; have zbf0 := (hdz).free 0; have zb1 := (hdz).cell (j := 1) rfl; have zbf1 := (hdz).free 1; have zb2 := (hdz).cell (j := 2) rfl; have zbf2 := (hdz).free 2; have zb3 := (hdz).cell (j := 3) rfl; have zbf3 := (hdz).free 3
          clear hXX hZZ hdx hdz
          go_upto_region 8 with (fail)
          go_region
          all_goals
            go_wp2
            obtain ⟨W9, hW9, k0, k1, k2, k3, hb9, ho9⟩ := fin4 HZ1.out HA1.out.low (Nat.le_refl _) (.slice A1 n1 c1) (.slice A2 n2 c2) (.int .i64 T.room) (.int .i64 T.vol)
            rw [hW9]
            have k0 : W9.drew.cell? ⟨w.heap.size, 0, none⟩ = some (.slice A1 n1 c1) := k0
            have k1 : W9.drew.cell? ⟨w.heap.size, 1, none⟩ = some (.slice A2 n2 c2) := k1
            have k2 : W9.drew.cell? ⟨w.heap.size, 2, none⟩ = some (.int .i64 T.room) := k2
            have k3 : W9.drew.cell? ⟨w.heap.size, 3, none⟩ = some (.int .i64 T.vol) := k3
            refine bodyPost_ret (v := .tuple #[.pointer (some ⟨tb, 0, none⟩), .agg (RvC A1 n1 c1 A2 n2 c2 T.room T.vol), .bool false]) (by simp [results, Tryz.f34, go_sem, k0, k1, k2, k3]) rfl ?_
            refine ⟨tb, T, 1 + 301 * j, _, _, _, _, _, _, _, rfl, (HA1.out.oth ho9 HZ1.out tree13_not (Nat.le_refl _)).drew, by omega, ?_, HM.out.1, HM.out.2⟩
            exact (HT1.out.oth13f ho9 HZ1.out (Nat.le_refl _)).below (Below.refl _ _).drew
        · have gq : ¬ (400 : Int) < q.size := by omega
          by_cases hn : 4200 < dn
          · have gn : (4200 : Int) < dn := by omega
            have hXX := HX1.out
            have hZZ := HZ1.out
            have xa0 := (hXX).cell (j := 0) rfl; have xa1 := (hXX).cell (j := 1) rfl; have xa2 := (hXX).cell (j := 2) rfl; have xa3 := (hXX).cell (j := 3) rfl
            have za0 := (hZZ).cell (j := 0) rfl; have zaf0 := (hZZ).free 0; have za1 := (hZZ).cell (j := 1) rfl; have zaf1 := (hZZ).free 1; have za2 := (hZZ).cell (j := 2) rfl; have zaf2 := (hZZ).free 2; have za3 := (hZZ).cell (j := 3) rfl; have zaf3 := (hZZ).free 3
            have hdx : BX V1.drew rb 29 (RvC A1 n1 c1 A2 n2 c2 T.room T.vol) := hXX
            have hdz : BX V1.drew w.heap.size 29 Rv0 := hZZ
            have xb0 := (hdx).cell (j := 0) rfl; have xb1 := (hdx).cell (j := 1) rfl; have xb2 := (hdx).cell (j := 2) rfl; have xb3 := (hdx).cell (j := 3) rfl
            have zb0 := (hdz).cell (j := 0) rfl; have zbf0 := (hdz).free 0; have zb1 := (hdz).cell (j := 1) rfl; have zbf1 := (hdz).free 1; have zb2 := (hdz).cell (j := 2) rfl; have zbf2 := (hdz).free 2; have zb3 := (hdz).cell (j := 3) rfl; have zbf3 := (hdz).free 3
            clear hXX hZZ hdx hdz
            go_upto_region 8 with (fail)
            go_region
            all_goals
              go_wp2
              obtain ⟨W9, hW9, k0, k1, k2, k3, hb9, ho9⟩ := fin4 HZ1.out HA1.out.low (Nat.le_refl _) (.slice A1 n1 c1) (.slice A2 n2 c2) (.int .i64 T.room) (.int .i64 T.vol)
              rw [hW9]
              have k0 : W9.drew.cell? ⟨w.heap.size, 0, none⟩ = some (.slice A1 n1 c1) := k0
              have k1 : W9.drew.cell? ⟨w.heap.size, 1, none⟩ = some (.slice A2 n2 c2) := k1
              have k2 : W9.drew.cell? ⟨w.heap.size, 2, none⟩ = some (.int .i64 T.room) := k2
              have k3 : W9.drew.cell? ⟨w.heap.size, 3, none⟩ = some (.int .i64 T.vol) := k3
              refine bodyPost_ret (v := .tuple #[.pointer (some ⟨tb, 0, none⟩), .agg (RvC A1 n1 c1 A2 n2 c2 T.room T.vol), .bool false]) (by simp [results, Tryz.f34, go_sem, k0, k1, k2, k3]) rfl ?_
              refine ⟨tb, T, 1 + 301 * j, _, _, _, _, _, _, _, rfl, (HA1.out.oth ho9 HZ1.out tree13_not (Nat.le_refl _)).drew, by omega, ?_, HM.out.1, HM.out.2⟩
              exact (HT1.out.oth13f ho9 HZ1.out (Nat.le_refl _)).below (Below.refl _ _).drew
          · have gn : ¬ (4200 : Int) < dn := by omega
            have hK : 1 + 301 * j ≤ 90000 := by omega
            have KAP := Lib.hid (show Calls Tryz.prog 81 #[.pointer (some ⟨tb, 0, none⟩), .agg #[.int .i64 kd, .string p, .string q, .int .i64 a, .int .i64 b', .int .i64 c', .int .i64 d, .slice DA dn dk]] V1 fun e w' => e = .returned (.int .i64 (ap T ⟨kd, p, q, a, b', c', d, DA, dn, dk, ds⟩).2) ∧ At w w' tb (ap T ⟨kd, p, q, a, b', c', d, DA, dn, dk, ds⟩).1 (1 + 301 * j + 301) ∧ KeepX TreeObj V1 w' ∧ Below w.heap.size V1 w' from
              at_apply15 HA1.out hK ⟨kd, p, q, a, b', c', d, DA, dn, dk, ds⟩ (by show p.size ≤ _; omega) (by show q.size ≤ _; omega) (HDS.out.more HA1.out.low.size) (by show dn ≤ _; omega))
            have KRA := Lib.hid (fun W (hk : KeepX TreeObj V1 W) (hb : Below w.heap.size V1 W) => show Calls Tryz.prog 82 #[.agg (RvC A1 n1 c1 A2 n2 c2 T.room T.vol), .agg #[.int .i64 kd, .string p, .string q, .int .i64 a, .int .i64 b', .int .i64 c', .int .i64 d, .slice DA dn dk]] W fun e w' => RDone W w.heap.size (ap T ⟨kd, p, q, a, b', c', d, DA, dn, dk, ds⟩) e w' from
              refapply_any (HT1.out.keptX hk hb (fun _ _ => node13_not) (fun _ _ => at13_not)) HA1.out.wf (by omega) ⟨kd, p, q, a, b', c', d, DA, dn, dk, ds⟩ (by show p.size ≤ _; omega) (by show q.size ≤ _; omega) (HDS.out.below hb) HDO.out.2.2.2.2.2.2.2.2.1 HDO.out.2.2.2.2.2.2.2.2.2 (by show dn ≤ _; omega))
            have HM2 : Hid (Nt.Mok (ap T ⟨kd, p, q, a, b', c', d, DA, dn, dk, ds⟩).1 ∧ Nt.Bok (ap T ⟨kd, p, q, a, b', c', d, DA, dn, dk, ds⟩).1) := ⟨HM.out.1.ap HA1.out.wf _, HM.out.2.ap HA1.out.wf _ HDO.out.2.2.2.2.2.2.2.1⟩
            generalize ap T ⟨kd, p, q, a, b', c', d, DA, dn, dk, ds⟩ = R at *
            obtain ⟨T2, z⟩ := R
            clear hp hq hn
            go_wp2_with (first
              | (go_at_call 82; (with_reducible refine (KRA.out _ HK5.out HL5.out).mono ?_); rintro e w6 ⟨v6, rfl, ⟨A3, n3, c3, A4, n4, c4, rfl, hr6⟩, hb6⟩; have hx6 := HX5.out.later hb6; have t0 := (hx6).cell (j := 0) rfl; have tf0 := (hx6).free 0; have t1 := (hx6).cell (j := 1) rfl; have tf1 := (hx6).free 1; have t2 := (hx6).cell (j := 2) rfl; have tf2 := (hx6).free 2; have t3 := (hx6).cell (j := 3) rfl; have tf3 := (hx6).free 3; obtain ⟨V7, hV7, hx7, ho7⟩ := set4b hx6 (.slice A3 n3 c3) (.slice A4 n4 c4) (.int .i64 T2.room) (.int .i64 T2.vol); have HA7 := Lib.hid ((HA5.out.later hb6).oth ho7 hx6 tree13_not (Nat.le_of_lt HRB.out)); have HT7 := Lib.hid (hr6.oth13f ho7 hx6 (Nat.le_of_lt HRB.out)); have HX7 := Lib.hid hx7; have HZ7 := Lib.hid ((HZ5.out.later hb6).oth ho7 (by have := HRB.out; omega)); clear hr6 hx6 hx7 ho7)
              | (go_at_call 81; (with_reducible refine KAP.out.mono ?_); rintro e w5 ⟨rfl, ha5, hk5, hl5⟩; have HA5 := Lib.hid ha5; have HK5 := Lib.hid hk5; have HL5 := Lib.hid hl5; have HX5 := Lib.hid (HX1.out.keptX hk5 tree13_not); have HZ5 := Lib.hid (HZ1.out.keptX hk5 tree13_not); have r0 := (HX5.out).cell (j := 0) rfl; have r1 := (HX5.out).cell (j := 1) rfl; have r2 := (HX5.out).cell (j := 2) rfl; have r3 := (HX5.out).cell (j := 3) rfl; have hy5 := HX9.out.keptX hk5 deed14_not; have y0 := (hy5).cell (j := 0) rfl; have y1 := (hy5).cell (j := 1) rfl; have y2 := (hy5).cell (j := 2) rfl; have y3 := (hy5).cell (j := 3) rfl; have y4 := (hy5).cell (j := 4) rfl; have y5 := (hy5).cell (j := 5) rfl; have y6 := (hy5).cell (j := 6) rfl; have y7 := (hy5).cell (j := 7) rfl; clear ha5 hk5 hl5 hy5))
            go_roundw
            case rel => exact ⟨j + 1, T2, _, _, _, _, _, _, by omega, by go_num, by have := HA7.out; rwa [show 1 + 301 * j + 301 = 1 + 301 * (j + 1) by omega] at this, HT7.out, HX7.out, HZ7.out, HM2.out⟩
            case measure => simp [intOf]; omega
    · have hlt' : ¬ (j : Int) < m := by omega
      have hK : 1 + 301 * j ≤ 13000 := by omega
      have hXX := HX.out
      have hZZ := HZ.out
      have xa0 := (hXX).cell (j := 0) rfl; have xa1 := (hXX).cell (j := 1) rfl; have xa2 := (hXX).cell (j := 2) rfl; have xa3 := (hXX).cell (j := 3) rfl
      have za0 := (hZZ).cell (j := 0) rfl; have zaf0 := (hZZ).free 0; have za1 := (hZZ).cell (j := 1) rfl; have zaf1 := (hZZ).free 1; have za2 := (hZZ).cell (j := 2) rfl; have zaf2 := (hZZ).free 2; have za3 := (hZZ).cell (j := 3) rfl; have zaf3 := (hZZ).free 3
      have hdx : BX wr.drew rb 29 (RvC A1 n1 c1 A2 n2 c2 T.room T.vol) := hXX
      have hdz : BX wr.drew w.heap.size 29 Rv0 := hZZ
      have xb0 := (hdx).cell (j := 0) rfl; have xb1 := (hdx).cell (j := 1) rfl; have xb2 := (hdx).cell (j := 2) rfl; have xb3 := (hdx).cell (j := 3) rfl
      have zb0 := (hdz).cell (j := 0) rfl; have zbf0 := (hdz).free 0; have zb1 := (hdz).cell (j := 1) rfl; have zbf1 := (hdz).free 1; have zb2 := (hdz).cell (j := 2) rfl; have zbf2 := (hdz).free 2; have zb3 := (hdz).cell (j := 3) rfl; have zbf3 := (hdz).free 3
      clear hXX hZZ hdx hdz
      go_upto_region 12 with (fail)
      go_region
      all_goals
        go_wp2
        obtain ⟨W9, hW9, k0, k1, k2, k3, hb9, ho9⟩ := fin4 HZ.out HA.out.low (Nat.le_refl _) (.slice A1 n1 c1) (.slice A2 n2 c2) (.int .i64 T.room) (.int .i64 T.vol)
        rw [hW9]
        have k0 : W9.drew.cell? ⟨w.heap.size, 0, none⟩ = some (.slice A1 n1 c1) := k0
        have k1 : W9.drew.cell? ⟨w.heap.size, 1, none⟩ = some (.slice A2 n2 c2) := k1
        have k2 : W9.drew.cell? ⟨w.heap.size, 2, none⟩ = some (.int .i64 T.room) := k2
        have k3 : W9.drew.cell? ⟨w.heap.size, 3, none⟩ = some (.int .i64 T.vol) := k3
        refine bodyPost_ret (v := .tuple #[.pointer (some ⟨tb, 0, none⟩), .agg (RvC A1 n1 c1 A2 n2 c2 T.room T.vol), .bool true]) (by simp [results, Tryz.f34, go_sem, k0, k1, k2, k3]) rfl ?_
        refine ⟨tb, T, 1 + 301 * j, _, _, _, _, _, _, _, rfl, (HA.out.oth ho9 HZ.out tree13_not (Nat.le_refl _)).drew, by omega, ?_, HM.out.1, HM.out.2⟩
        exact (HT.out.oth13f ho9 HZ.out (Nat.le_refl _)).below (Below.refl _ _).drew
end Go.Proofs.YthgbncpiehcghaaGreatDoor
