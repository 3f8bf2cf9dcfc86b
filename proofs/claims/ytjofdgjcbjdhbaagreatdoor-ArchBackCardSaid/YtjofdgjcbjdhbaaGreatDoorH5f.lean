/- WALKS OF LAYER 5, SIXTH PART: the reference's Lay. By gen_h5f.py. -/
import Derived.Test.YtjofdgjcbjdhbaaGreatDoorH5a
import Derived.Test.YtjofdgjcbjdhbaaGreatDoorAz
import Derived.Test.YtjofdgjcbjdhbaaGreatDoorGm5
import Derived.Test.YtjofdgjcbjdhbaaGreatDoorGb8
import Derived.Test.YtjofdgjcbjdhbaaGreatDoorGv2
import Derived.StillTailTactics
namespace Go.Proofs.YtjofdgjcbjdhbaaGreatDoor
open Go.RowKit
set_option maxHeartbeats 6400000
set_option maxRecDepth 100000
theorem OB.own {w : World} {B : Nat} {v : Value} {xs : List Int} {n : Nat} (h : OB w B 5 v xs) (hl : xs.length = n) (hn : 0 < n) :
    ∃ g c, v = .slice (some ⟨g, 0, none⟩) n c ∧ g < w.heap.size ∧ n ≤ c ∧ c ≤ maxLen ∧ OBn w B 5 (.slice (some ⟨g, 0, none⟩) n c) n xs := by
  have h1 := h.obn
  rw [hl] at h1
  obtain ⟨g, c, cur, rfl, _, hg, _, hc, hcm, _, _⟩ := h1.shape hn
  exact ⟨g, c, rfl, hg, hc, hcm, h1⟩
theorem below_undrew {B : Nat} {w w' : World} (h : Below B w.drew w') : Below B w w' := ⟨h.os, h.tape, h.output, h.size, h.block⟩
theorem OBn.own {w : World} {B : Nat} {v : Value} {xs : List Int} {n : Nat} (h : OBn w B 5 v n xs) (hn : 0 < n) :
    ∃ g c, v = .slice (some ⟨g, 0, none⟩) n c ∧ g < w.heap.size ∧ n ≤ c ∧ c ≤ maxLen ∧ OBn w B 5 (.slice (some ⟨g, 0, none⟩) n c) n xs := by
  obtain ⟨g, c, cur, rfl, _, hg, _, hc, hcm, _, _⟩ := h.shape hn
  exact ⟨g, c, rfl, hg, hc, hcm, h⟩
theorem OBn.past {w w' : World} {B g g2 n c : Nat} {xs : List Int} (h : OBn w B 5 (.slice (some ⟨g, 0, none⟩) n c) n xs) (hg : w.grownBy w' (some g2)) (hne : g ≠ g2) : OBn w' B 5 (.slice (some ⟨g, 0, none⟩) n c) n xs :=
  h.kept fun k hk => by
    obtain rfl : g = k := by simpa [Value.ownBlock] using hk
    exact hg.block g h.at_.2 (fun e => hne (by simpa using e))
theorem OBn.news {w : World} {B g n c : Nat} {xs : List Int} (h : OBn w B 5 (.slice (some ⟨g, 0, none⟩) n c) n xs) : ∀ j u, (xs.map (Value.int .u8))[j]? = some u → w.cell? ((⟨g, 0, none⟩ : Addr).add j) = some u := World.ownsRow.cells h rfl

theorem refhlay_any (p nm l : ByteArray) (m u g t z k : Int) (w : World) (hp : p.size ≤ 1000000) (hn : nm.size ≤ 1000000) (hl : l.size ≤ 1000000) (hk0 : 0 ≤ k) (hk1 : k ≤ 255)
    (m0 : -9223372036854775808 ≤ m) (m1 : m ≤ 9223372036854775807) (u0 : -9223372036854775808 ≤ u) (u1 : u ≤ 9223372036854775807) (g0 : -9223372036854775808 ≤ g) (g1 : g ≤ 9223372036854775807) (t0 : -9223372036854775808 ≤ t) (t1 : t ≤ 9223372036854775807) (z0 : -9223372036854775808 ≤ z) (z1 : z ≤ 9223372036854775807) :
    Calls Tryz.prog 45 #[.agg #[.string p, .string nm, .int .i64 m, .int .i64 u, .int .i64 g, .int .i64 t, .int .i64 z, .int .u8 k, .string l]] w fun e w' => ∃ v, e = .returned (.tuple #[v, .int .i64 (Hh.layS p nm l m u g t z k).2]) ∧ OB w' w.heap.size 5 v (Hh.layS p nm l m u g t z k).1 ∧ Below w.heap.size w w' := by
  obtain ⟨i0, hi, hz0, hz1, hz2⟩ := info_parts info_u8
  have ist := fun W => refhist_any k W
  by_cases hk : Hh.isT k = true
  · rw [hk] at ist
    have IST := Lib.hid ist; clear ist
    have cp := fun W => refput_any2 p 155 W hp
    have cn := fun W => refput_any2 nm 100 W hn
    have cl := fun W => refput_any2 l 100 W hl
    have lp := (Hh.len_putT p 155).2
    have ln := (Hh.len_putT nm 100).2
    have ll := (Hh.len_putT l 100).2
    have eP := Hh.layS_p p nm l m u g t z k hk
    have eN := Hh.layS_n p nm l m u g t z k hk
    have eL := Hh.layS_l p nm l m u g t z k hk
    have eA := Hh.layS_at p nm l m u g t z k hk
    have eE := Hh.layS_end p nm l m u g t z k hk
    have bp := Sf.byt_putS p 155
    have bn := Sf.byt_putS nm 100
    have bl := Sf.byt_putS l 100
    rw [show (((155 : Nat) : Int)) = 155 from rfl] at lp
    rw [show (((100 : Nat) : Int)) = 100 from rfl] at ln ll
    generalize Hh.layS p nm l m u g t z k = R at *
    generalize Sf.putS p 155 = F0 at *
    generalize Sf.putS nm 100 = F1 at *
    generalize Sf.putS l 100 = F2 at *
    obtain ⟨ps, pe⟩ := F0
    obtain ⟨ns, ne⟩ := F1
    obtain ⟨ls, le⟩ := F2
    simp only at cp cn cl lp ln ll eP eN eL eA eE bp bn bl
    have CP := Lib.hid cp; have CN := Lib.hid cn; have CL := Lib.hid cl
    have hcell : ∀ W, Below (w.heap.size + 1) (w.alloc (.cells #[.string p, .string nm, .int .i64 m, .int .i64 u, .int .i64 g, .int .i64 t, .int .i64 z, .int .u8 k, .string l] 91)) W → BX W w.heap.size 91 #[.string p, .string nm, .int .i64 m, .int .i64 u, .int .i64 g, .int .i64 t, .int .i64 z, .int .u8 k, .string l] := fun W hb => (BX.new w _ _).below hb (by omega)
    have HC := Lib.hid hcell
    clear cp cn cl hcell
    by_cases h0 : pe = 0
    · subst h0
      have HPL := Lib.hid (lp rfl)
      clear lp
      by_cases h1 : ne = 0
      · subst h1
        have HNL := Lib.hid (ln rfl)
        clear ln
        by_cases h2 : le = 0
        · subst h2
          have HLL := Lib.hid (ll rfl)
          clear ll
          have eA := eA rfl rfl rfl
          have eE := eE rfl rfl rfl
          have EA := Lib.hid eA; have EE := Lib.hid eE; have BP := Lib.hid bp; have BN := Lib.hid bn; have BL := Lib.hid bl
          clear eA eE eP eN eL bp bn bl
          go_enter Tryz.func45, Tryz.ntmps45
          go_wp2_with (first
            | (go_at_call 68; (with_reducible refine (IST.out _).mono ?_); rintro e w1 ⟨rfl, rfl⟩)
            | (go_at_call 69; (with_reducible refine (CP.out _).mono ?_); rintro e w1 ⟨v0, rfl, o0, b0⟩; obtain ⟨y0, c0, rfl, k0, j0, x0, own0⟩ := o0.own HPL.out (by omega); have hb0 : Below (w.heap.size + 1) (w.alloc (.cells #[.string p, .string nm, .int .i64 m, .int .i64 u, .int .i64 g, .int .i64 t, .int .i64 z, .int .u8 k, .string l] 91)) w1 := ((Below.refl _ _).trans (b0.mono (by simp))); have q1 : w1.cell? ⟨w.heap.size, 1, none⟩ = some (.string nm) := (HC.out _ hb0).cell rfl; have HB0 := Lib.hid hb0; have OW0 := Lib.hid own0; clear hb0 own0 o0)
            | (go_at_call 69; (with_reducible refine (CN.out _).mono ?_); rintro e w2 ⟨v1, rfl, o1, b1⟩; obtain ⟨y1, c1, rfl, k1, j1, x1, own1⟩ := o1.own HNL.out (by omega); have hb1 : Below (w.heap.size + 1) (w.alloc (.cells #[.string p, .string nm, .int .i64 m, .int .i64 u, .int .i64 g, .int .i64 t, .int .i64 z, .int .u8 k, .string l] 91)) w2 := (HB0.out.trans (b1.mono (by have := HB0.out.size; simp at this; omega))); have q8 : w2.cell? ⟨w.heap.size, 8, none⟩ = some (.string l) := (HC.out _ hb1).cell rfl; have HB1 := Lib.hid hb1; have OW1 := Lib.hid own1; clear hb1 own1 o1)
            | (go_at_call 69; (with_reducible refine (CL.out _).mono ?_); rintro e w3 ⟨v2, rfl, o2, b2⟩; obtain ⟨y2, c2, rfl, k2, j2, x2, own2⟩ := o2.own HLL.out (by omega); have hb2 : Below (w.heap.size + 1) (w.alloc (.cells #[.string p, .string nm, .int .i64 m, .int .i64 u, .int .i64 g, .int .i64 t, .int .i64 z, .int .u8 k, .string l] 91)) w3 := (HB1.out.trans (b2.mono (by have := HB1.out.size; simp at this; omega))); have q2 : w3.cell? ⟨w.heap.size, 2, none⟩ = some (.int .i64 m) := (HC.out _ hb2).cell rfl; have q3 : w3.cell? ⟨w.heap.size, 3, none⟩ = some (.int .i64 u) := (HC.out _ hb2).cell rfl; have q4 : w3.cell? ⟨w.heap.size, 4, none⟩ = some (.int .i64 g) := (HC.out _ hb2).cell rfl; have q6 : w3.cell? ⟨w.heap.size, 6, none⟩ = some (.int .i64 z) := (HC.out _ hb2).cell rfl; have q5 : w3.cell? ⟨w.heap.size, 5, none⟩ = some (.int .i64 t) := (HC.out _ hb2).cell rfl; have q7 : w3.cell? ⟨w.heap.size, 7, none⟩ = some (.int .u8 k) := (HC.out _ hb2).cell rfl; have HB2 := Lib.hid hb2; have OW2 := Lib.hid own2; clear hb2 own2 o2)
            | (at_builtin; refine wpList_append_own _ rfl _ _ 25 rfl (w3.heap.size + 1 + 1) 5 i0 (.int .u8 0) 1 1 Tryz.underlying25 hi hz0 hz1 hz2 rfl (by decide) (.slice none 0 0) 0 [] rfl (World.ownsRow_nil _ _ _ _) ⟨y1, 0, none⟩ 100 c1 (ns.map (Value.int .u8)) rfl (by simp [HNL.out]) ((((OW1.out.later b2).alloc _).alloc _).news) (u8_cells _) (by unfold maxLen; omega) (by omega) (by simp) ?_; intro v3 w4 hown4 hgrow4 hnil4))
          have o4 : OB w4 (w3.heap.size + 1 + 1) 5 v3 (ns ++ Hh.fcat m u g z t 0) := by
            rw [Hh.fcat_zero, List.append_nil]
            exact OBn.ob (n := 100) (by unfold OBn; simpa using hown4)
          have hbw : Below (w3.heap.size + 1 + 1) ((w3.alloc (.cells #[.int .i64 m, .int .i64 u, .int .i64 g, .int .i64 z, .int .i64 t] 2)).alloc (.cells #[.int .i64 8, .int .i64 8, .int .i64 8, .int .i64 12, .int .i64 12] 3)) w4 := (Below.refl _ _).grown hgrow4 (by simp) (by intro k hk; simp [Value.ownBlock] at hk)
          have rows : ∀ W, Below (w3.heap.size + 1 + 1) ((w3.alloc (.cells #[.int .i64 m, .int .i64 u, .int .i64 g, .int .i64 z, .int .i64 t] 2)).alloc (.cells #[.int .i64 8, .int .i64 8, .int .i64 8, .int .i64 12, .int .i64 12] 3)) W → BX W w3.heap.size 2 #[.int .i64 m, .int .i64 u, .int .i64 g, .int .i64 z, .int .i64 t] ∧ BX W (w3.heap.size + 1) 3 #[.int .i64 8, .int .i64 8, .int .i64 8, .int .i64 12, .int .i64 12] ∧ BX W w.heap.size 91 #[.string p, .string nm, .int .i64 m, .int .i64 u, .int .i64 g, .int .i64 t, .int .i64 z, .int .u8 k, .string l] := fun W hW => by
            refine ⟨((BX.new w3 _ _).alloc _).below hW (by omega), ?_, ((((HC.out _ HB2.out).alloc _).alloc _).below hW (by have := HB2.out.size; simp at this; omega))⟩
            have h := (BX.new (w3.alloc (.cells #[.int .i64 m, .int .i64 u, .int .i64 g, .int .i64 z, .int .i64 t] 2)) 3 #[.int .i64 8, .int .i64 8, .int .i64 8, .int .i64 12, .int .i64 12]).below hW (by simp)
            simpa using h
          have ROWS := Lib.hid rows
          have at5 : ∀ (W : World) (j : Nat), j < 5 → Below (w3.heap.size + 1 + 1) ((w3.alloc (.cells #[.int .i64 m, .int .i64 u, .int .i64 g, .int .i64 z, .int .i64 t] 2)).alloc (.cells #[.int .i64 8, .int .i64 8, .int .i64 8, .int .i64 12, .int .i64 12] 3)) W → W.cell? ⟨w3.heap.size, j, none⟩ = some (.int .i64 ((Hh.nl m u g z t).getD j 0)) ∧ W.cell? ⟨w3.heap.size + 1, j, none⟩ = some (.int .i64 (Hh.wl.getD j 0)) ∧
              -9223372036854775808 ≤ (Hh.nl m u g z t).getD j 0 ∧ (Hh.nl m u g z t).getD j 0 ≤ 9223372036854775807 := fun W j hj hW => by
            obtain ⟨r1, r2, _⟩ := rows W hW
            match j, hj with
            | 0, _ => exact ⟨r1.cell rfl, r2.cell rfl, m0, m1⟩
            | 1, _ => exact ⟨r1.cell rfl, r2.cell rfl, u0, u1⟩
            | 2, _ => exact ⟨r1.cell rfl, r2.cell rfl, g0, g1⟩
            | 3, _ => exact ⟨r1.cell rfl, r2.cell rfl, z0, z1⟩
            | 4, _ => exact ⟨r1.cell rfl, r2.cell rfl, t0, t1⟩
          have AT5 := Lib.hid at5
          have fl := fun j => Nf.len_putS ((Hh.nl m u g z t).getD j 0) (Hh.wl.getD j 0)
          have FL := Lib.hid fl
          have fpos := Hh.fld_pos m u g z t m0 m1 u0 u1 g0 g1 t0 t1 z0 z1
          have FPOS := Lib.hid fpos
          clear rows at5 fl fpos hown4 hgrow4 hnil4
          go_loopw [10, 11] (fun ov iv wr => ∃ j : Nat, j ≤ 5 ∧ iv = .int .i64 j ∧ OB wr (w3.heap.size + 1 + 1) 5 ov (ns ++ Hh.fcat m u g z t j) ∧ Below (w3.heap.size + 1 + 1) ((w3.alloc (.cells #[.int .i64 m, .int .i64 u, .int .i64 g, .int .i64 z, .int .i64 t] 2)).alloc (.cells #[.int .i64 8, .int .i64 8, .int .i64 8, .int .i64 12, .int .i64 12] 3)) wr ∧ Hid (∀ i, i < j → (Hh.fld m u g z t i).2 = 0)) (fun _ i _ => 5 - (intOf i).toNat)
          case atStart => exact ⟨0, by omega, rfl, o4, hbw, fun i hi => absurd hi (by omega)⟩
          case round =>
            obtain ⟨j, hj, rfl, ho, hbel, HOK⟩ := hrel
            by_cases hlt : j < 5
            · obtain ⟨cN, cW, bn0, bn1⟩ := AT5.out _ j hlt hbel
              have hfl := FL.out j
              have put := fun W => refput_any _ (Hh.wl.getD j 0) W bn0 bn1
              have hfc := Hh.fcat_succ m u g z t j
              have hfe := EA.out j hlt HOK
              have hpos := FPOS.out j hlt
              unfold Hh.fld at hfe hpos
              have hfd : Hh.fld m u g z t j = Nf.putS ((Hh.nl m u g z t).getD j 0) (Hh.wl.getD j 0) := rfl
              have hlc := Hh.len_fcat m u g z t j
              rw [hfd] at hfc
              generalize (Hh.nl m u g z t).getD j 0 = nj at *
              generalize Hh.wl.getD j 0 = wj at *
              generalize Nf.putS nj wj = F at *
              obtain ⟨fs, fe⟩ := F
              simp only at put hfl hfe hpos hfc
              generalize hFJ : Hh.fcat m u g z t j = FJ at *
              have hxl : (ns ++ FJ).length ≤ 160 := by have := HNL.out; simp; omega
              have hxp : 0 < (ns ++ FJ).length := by have := HNL.out; simp; omega
              generalize hXS : ns ++ FJ = XS at *
              obtain ⟨N, hN⟩ : ∃ N, XS.length = N := ⟨_, rfl⟩
              obtain ⟨go, co, rfl, hgo, hco, hcom, hown⟩ := ho.own hN (by omega)
              obtain ⟨L, hL⟩ : ∃ L, fs.length = L := ⟨_, rfl⟩
              rw [hN] at hxl hxp
              rw [hL] at hfl hpos
              have PUT := Lib.hid put; have HFC := Lib.hid hfc; have HFE := Lib.hid hfe; have HFD := Lib.hid hfd; have HO := Lib.hid hown; have HXS := Lib.hid hXS; have HN := Lib.hid hN; have HL := Lib.hid hL
              clear put hfc hfe hfd ho hlc bn0 bn1 hown hXS hN hL hFJ
              by_cases h5 : fe = 0
              · subst h5
                have hps : 0 < L := hpos rfl
                clear hpos
                go_wp2
                go_region_law (go_simp; go_at_call 70; (with_reducible refine (PUT.out _).mono ?_); rintro e w5 ⟨vf, rfl, of, bf⟩)
                all_goals
                  obtain ⟨gf, cf, rfl, hgf, hcf, hcfm, hfown⟩ := of.own HL.out hps
                  have bf := below_undrew bf
                  have ho5 : OBn w5 (w3.heap.size + 1 + 1) 5 (.slice (some ⟨go, 0, none⟩) N co) N XS := HO.out.later bf
                  have hb5 : Below (w3.heap.size + 1 + 1) ((w3.alloc (.cells #[.int .i64 m, .int .i64 u, .int .i64 g, .int .i64 z, .int .i64 t] 2)).alloc (.cells #[.int .i64 8, .int .i64 8, .int .i64 8, .int .i64 12, .int .i64 12] 3)) w5 := hbel.trans (bf.mono (by have := hbel.size; simp at this; simpa using this))
                  have HO5 := Lib.hid ho5; have HF5 := Lib.hid hfown; have HB5 := Lib.hid hb5
                  clear ho5 hfown hb5 of
                  go_wp2_with (at_builtin; refine wpList_append_own _ rfl _ _ 25 rfl (w3.heap.size + 1 + 1) 5 i0 (.int .u8 0) 1 1 Tryz.underlying25 hi hz0 hz1 hz2 rfl (by decide) (.slice (some ⟨go, 0, none⟩) N co) N (XS.map (Value.int .u8)) rfl HO5.out ⟨gf, 0, none⟩ L cf (fs.map (Value.int .u8)) rfl (by simp [HL.out]) HF5.out.news (u8_cells _) (by unfold maxLen; omega) (by omega) (by have := HB5.out.size; simp at this; simpa using this) ?_; intro v6 w6 hown6 hgrow6 hnil6)
                  go_roundw
                  case rel =>
                    refine ⟨j + 1, by omega, by go_num, ?_, below_app HB5.out (by simp) HO5.out hgrow6, fun i hi => ?_⟩
                    · rw [HFC.out, ← List.append_assoc, HXS.out]
                      exact OBn.ob (n := N + L) (by unfold OBn; simpa using hown6)
                    · by_cases hij : i < j
                      · exact HOK i hij
                      · obtain rfl : i = j := by omega
                        rw [HFD.out]
                  case measure => simp [intOf]; omega
              · have e := HFE.out h5
                have hgg : (fe != 0) = true := by simp [h5]
                have HE := Lib.hid e
                clear e h5 hpos
                go_wp2
                go_region_law (go_simp; go_at_call 70; (with_reducible refine (PUT.out _).mono ?_); rintro e w5 ⟨vf, rfl, of, bf⟩)
                all_goals
                  go_wp2
                  go_ret2
                  rw [HE.out]
                  refine ⟨_, rfl, OB.nil _ _ _, ?_⟩
                  have bf := below_undrew bf
                  have s1 := HB2.out.size
                  have s2 := hbel.size
                  simp at s1 s2
                  exact ((((Below.refl _ w).alloc (Nat.le_refl _) _).trans (HB2.out.mono (by omega))).alloc (by omega) _ |>.alloc (by simp; omega) _).trans (hbel.mono (by omega)) |>.trans (bf.mono (by simp; omega))
            · obtain rfl : j = 5 := by omega
              have eE := EE.out (fun i hi => HOK i hi)
              have hl5 := Hh.fcat_five_len m u g z t m0 m1 u0 u1 g0 g1 t0 t1 z0 z1 (fun i hi => HOK i hi)
              have z8 := Hh.zero8
              have bz8 := Nf.byt_putS 0 8
              have bf5 := Hh.byt_fcat m u g z t 5
              rw [Hh.whole_of] at eE
              have zp := fun W => refput_any 0 8 W (by omega) (by omega)
              have bel := fun W => refhbel_any p nm l m u g t z k W
              generalize Nf.putS 0 8 = F8 at *
              obtain ⟨Z8, e8⟩ := F8
              simp only at z8 bz8 zp eE
              obtain ⟨rfl, hz8⟩ := z8
              generalize Hh.fcat m u g z t 5 = FJ at *
              generalize Hh.bel m u g z = bl at *
              have hx0 : (ns ++ FJ).length = 148 := by have := HNL.out; simp; omega
              obtain ⟨X0, hX0⟩ : ∃ X, X = ns ++ FJ := ⟨_, rfl⟩
              obtain ⟨X1, hX1⟩ : ∃ X, X = X0 ++ List.replicate 8 0 := ⟨_, rfl⟩
              obtain ⟨X2, hX2⟩ : ∃ X, X = X1 ++ [k] := ⟨_, rfl⟩
              obtain ⟨X3, hX3⟩ : ∃ X, X = X2 ++ ls := ⟨_, rfl⟩
              obtain ⟨X4, hX4⟩ : ∃ X, X = X3 ++ Hh.magic := ⟨_, rfl⟩
              obtain ⟨X5, hX5⟩ : ∃ X, X = X4 ++ List.replicate 64 0 := ⟨_, rfl⟩
              obtain ⟨X6, hX6⟩ : ∃ X, X = X5 ++ Z8 := ⟨_, rfl⟩
              obtain ⟨X7, hX7⟩ : ∃ X, X = X6 ++ Z8 := ⟨_, rfl⟩
              obtain ⟨X8, hX8⟩ : ∃ X, X = X7 ++ ps := ⟨_, rfl⟩
              obtain ⟨X9, hX9⟩ : ∃ X, X = X8 ++ List.replicate 12 0 := ⟨_, rfl⟩
              have byX : Byt X9 := by
                rw [hX9, hX8, hX7, hX6, hX5, hX4, hX3, hX2, hX1, hX0]
                exact Byt.append (Byt.append (Byt.append (Byt.append (Byt.append (Byt.append (Byt.append (Byt.append (Byt.append (Byt.append BN.out bf5) (Sf.byt_rep _)) (Hh.byt_mem' (by simp [hk0, hk1]))) BL.out) (Hh.byt_mem' (by decide))) (Sf.byt_rep _)) bz8) bz8) BP.out) (Sf.byt_rep _)
              have lX : X9.length = 512 := by
                have a1 := HNL.out; have a2 := HPL.out; have a3 := HLL.out
                rw [hX9, hX8, hX7, hX6, hX5, hX4, hX3, hX2, hX1, hX0]
                simp [Hh.magic]
                omega
              rw [← hX0, ← hX1, ← hX2, ← hX3, ← hX4, ← hX5, ← hX6, ← hX7, ← hX8, ← hX9] at eE
              rw [← hX0] at hx0 ho
              obtain ⟨g0', c0', rfl, hg0, hc0, hm0, ow0⟩ := ho.own hx0 (by omega)
              have HZ8 := Lib.hid hz8; have BYX := Lib.hid byX; have LX := Lib.hid lX; have EE := Lib.hid eE; have ZP := Lib.hid zp; have OW0' := Lib.hid ow0
              clear hz8 byX lX eE zp ow0 hx0 hl5 bz8 bf5
              have HX0 := Lib.hid hX0; have HX1 := Lib.hid hX1; have HX2 := Lib.hid hX2; have HX3 := Lib.hid hX3; have HX4 := Lib.hid hX4; have HX5 := Lib.hid hX5; have HX6 := Lib.hid hX6; have HX7 := Lib.hid hX7; have HX8 := Lib.hid hX8; have HX9 := Lib.hid hX9; clear hX0 hX1 hX2 hX3 hX4 hX5 hX6 hX7 hX8 hX9
              have src : ∀ W, Below (w3.heap.size + 1 + 1) ((w3.alloc (.cells #[.int .i64 m, .int .i64 u, .int .i64 g, .int .i64 z, .int .i64 t] 2)).alloc (.cells #[.int .i64 8, .int .i64 8, .int .i64 8, .int .i64 12, .int .i64 12] 3)) W → OBn W w2.heap.size 5 (.slice (some ⟨y2, 0, none⟩) 100 c2) 100 ls ∧ OBn W (w.alloc (.cells #[.string p, .string nm, .int .i64 m, .int .i64 u, .int .i64 g, .int .i64 t, .int .i64 z, .int .u8 k, .string l] 91)).heap.size 5 (.slice (some ⟨y0, 0, none⟩) 155 c0) 155 ps ∧ BX W w.heap.size 91 #[.string p, .string nm, .int .i64 m, .int .i64 u, .int .i64 g, .int .i64 t, .int .i64 z, .int .u8 k, .string l] := fun W hW => by
                have a := ((OW2.out.alloc (.cells #[.int .i64 m, .int .i64 u, .int .i64 g, .int .i64 z, .int .i64 t] 2)).alloc (.cells #[.int .i64 8, .int .i64 8, .int .i64 8, .int .i64 12, .int .i64 12] 3))
                have b := (((((OW0.out.later b1).later b2).alloc (.cells #[.int .i64 m, .int .i64 u, .int .i64 g, .int .i64 z, .int .i64 t] 2)).alloc (.cells #[.int .i64 8, .int .i64 8, .int .i64 8, .int .i64 12, .int .i64 12] 3)))
                exact ⟨a.later (by simpa using hW), b.later (by simpa using hW), (ROWS.out W hW).2.2⟩
              have SRC := Lib.hid src
              have r3 := (ROWS.out _ hbel).2.2
              have rc0 : wr.cell? ⟨w.heap.size, 0, none⟩ = some (.string p) := r3.cell rfl
              have rc1 : wr.cell? ⟨w.heap.size, 1, none⟩ = some (.string nm) := r3.cell rfl
              have rc2 : wr.cell? ⟨w.heap.size, 2, none⟩ = some (.int .i64 m) := r3.cell rfl
              have rc3 : wr.cell? ⟨w.heap.size, 3, none⟩ = some (.int .i64 u) := r3.cell rfl
              have rc4 : wr.cell? ⟨w.heap.size, 4, none⟩ = some (.int .i64 g) := r3.cell rfl
              have rc5 : wr.cell? ⟨w.heap.size, 5, none⟩ = some (.int .i64 t) := r3.cell rfl
              have rc6 : wr.cell? ⟨w.heap.size, 6, none⟩ = some (.int .i64 z) := r3.cell rfl
              have rc7 : wr.cell? ⟨w.heap.size, 7, none⟩ = some (.int .u8 k) := r3.cell rfl
              have rc8 : wr.cell? ⟨w.heap.size, 8, none⟩ = some (.string l) := r3.cell rfl
              have HBEL := Lib.hid hbel
              clear src r3 hbel
              cases bl
              · have ee : R = Hs.putS X9 := EE.out
                have EE2 := Lib.hid ee; clear ee EE
                have BELC := Lib.hid bel; clear bel
                go_wp2_with (first
                  | (go_at_call 71; (with_reducible refine (BELC.out _).mono ?_); rintro e wb ⟨rfl, bb⟩
                     have ow0x := OW0'.out.later bb
                     have hb0' : Below (w3.heap.size + 1 + 1) ((w3.alloc (.cells #[.int .i64 m, .int .i64 u, .int .i64 g, .int .i64 z, .int .i64 t] 2)).alloc (.cells #[.int .i64 8, .int .i64 8, .int .i64 8, .int .i64 12, .int .i64 12] 3)) wb := HBEL.out.trans (bb.mono (by have := HBEL.out.size; simp at this; simpa using this))
                     have HB0' := Lib.hid hb0'
                     have ow0 : OBn wb (w3.heap.size + 1 + 1) 5 (.slice (some ⟨g0', 0, none⟩) 148 c0') 148 X0 := ow0x
                     obtain ⟨v1, u1, rr1, or1, gr1⟩ := run_append_own_zeros (P := Tryz.prog) wb (w3.heap.size + 1 + 1) 25 3 25 5 i0 .i64 .i64 Tryz.underlying25 Tryz.underlying3 hi hz0 hz1 hz2 g0' 148 c0' X0 ow0 8 (by omega) (by omega) (by have := HB0'.out.size; simp at this; simpa using this)
                     have hb1' := below_app HB0'.out (by simp) ow0 gr1
                     have RR1 := Lib.hid rr1; have HB1' := Lib.hid hb1'
                     have or1' : OBn u1 (w3.heap.size + 1 + 1) 5 v1 156 X1 := by rw [HX1.out]; exact or1
                     obtain ⟨g1, c1', rfl, hg1, hc1, hm1, ow1⟩ := or1'.own (by omega)
                     have cc7 : u1.cell? ⟨w.heap.size, 7, none⟩ = some (.int .u8 k) := (SRC.out _ HB1'.out).2.2.cell rfl)
                  | (at_builtin; refine Lib.wpList_append_run _ rfl _ _ 25 3 rfl (.slice (some ⟨g0', 0, none⟩) 148 c0') (.int .i64 8) rfl rfl _ u1 RR1.out ?_)
                  | (at_builtin; refine wpList_append_own _ rfl _ _ 25 rfl (w3.heap.size + 1 + 1) 5 i0 (.int .u8 0) 1 1 Tryz.underlying25 hi hz0 hz1 hz2 rfl (by decide) (.slice (some ⟨g1, 0, none⟩) 156 c1') 156 (X1.map (Value.int .u8)) rfl (ow1.alloc _) ⟨u1.heap.size, 0, none⟩ 1 1 ([.int .u8 k]) rfl (by simp) (World.news_of_block (heap_alloc_new _ _)) (u8_cells [k]) (by unfold maxLen; omega) (by omega) (by have := HB1'.out.size; simp at this; first | omega | (simp; omega)) ?_; intro v2 u2 hown2 hgrow2 hnil2
                     have hb2' := below_app (HB1'.out.alloc (by have := HB1'.out.size; simp at this; omega) _) (by simp) (ow1.alloc _) hgrow2
                     have HB2' := Lib.hid hb2'
                     have oo2 : OBn u2 (w3.heap.size + 1 + 1) 5 v2 157 X2 := by rw [HX2.out]; unfold OBn; simpa using hown2
                     obtain ⟨g2, c2', rfl, hg2, hc2, hm2, ow2⟩ := oo2.own (by omega)
                     )
                  | (at_builtin; refine wpList_append_own _ rfl _ _ 25 rfl (w3.heap.size + 1 + 1) 5 i0 (.int .u8 0) 1 1 Tryz.underlying25 hi hz0 hz1 hz2 rfl (by decide) (.slice (some ⟨g2, 0, none⟩) 157 c2') 157 (X2.map (Value.int .u8)) rfl ow2 ⟨y2, 0, none⟩ 100 c2 (ls.map (Value.int .u8)) rfl (by simp [HLL.out]) ((SRC.out _ HB2'.out).1.news) (u8_cells _) (by unfold maxLen; omega) (by omega) (by have := HB2'.out.size; simp at this; first | omega | (simp; omega)) ?_; intro v3 u3 hown3 hgrow3 hnil3
                     have hb3' := below_app HB2'.out (by simp) ow2 hgrow3
                     have HB3' := Lib.hid hb3'
                     have oo3 : OBn u3 (w3.heap.size + 1 + 1) 5 v3 257 X3 := by rw [HX3.out]; unfold OBn; simpa using hown3
                     obtain ⟨g3, c3', rfl, hg3, hc3, hm3, ow3⟩ := oo3.own (by omega)
                     )
                  | (at_builtin; refine wpList_append_own _ rfl _ _ 25 rfl (w3.heap.size + 1 + 1) 5 i0 (.int .u8 0) 1 1 Tryz.underlying25 hi hz0 hz1 hz2 rfl (by decide) (.slice (some ⟨g3, 0, none⟩) 257 c3') 257 (X3.map (Value.int .u8)) rfl (ow3.alloc _) ⟨u3.heap.size, 0, none⟩ 8 8 (Hh.magic.map (Value.int .u8)) rfl (by decide) (World.news_of_block (heap_alloc_new _ _)) (u8_cells _) (by unfold maxLen; omega) (by omega) (by have := HB3'.out.size; simp at this; first | omega | (simp; omega)) ?_; intro v4 u4 hown4 hgrow4 hnil4
                     have hb4' := below_app (HB3'.out.alloc (by have := HB3'.out.size; simp at this; omega) _) (by simp) (ow3.alloc _) hgrow4
                     have HB4' := Lib.hid hb4'
                     have oo4 : OBn u4 (w3.heap.size + 1 + 1) 5 v4 265 X4 := by rw [HX4.out]; unfold OBn; simpa using hown4
                     obtain ⟨g4, c4', rfl, hg4, hc4, hm4, ow4⟩ := oo4.own (by omega)
                     obtain ⟨v5, u5, rr5, or5, gr5⟩ := run_append_own_zeros (P := Tryz.prog) u4 (w3.heap.size + 1 + 1) 25 3 25 5 i0 .i64 .i64 Tryz.underlying25 Tryz.underlying3 hi hz0 hz1 hz2 g4 265 c4' X4 ow4 64 (by omega) (by omega) (by have := HB4'.out.size; simp at this; simpa using this)
                     have hb5' := below_app HB4'.out (by simp) ow4 gr5
                     have RR5 := Lib.hid rr5; have HB5' := Lib.hid hb5'
                     have or5' : OBn u5 (w3.heap.size + 1 + 1) 5 v5 329 X5 := by rw [HX5.out]; exact or5
                     obtain ⟨g5, c5', rfl, hg5, hc5, hm5, ow5⟩ := or5'.own (by omega)
                     )
                  | (at_builtin; refine Lib.wpList_append_run _ rfl _ _ 25 3 rfl (.slice (some ⟨g4, 0, none⟩) 265 c4') (.int .i64 64) rfl rfl _ u5 RR5.out ?_)
                  | (go_at_call 70; (with_reducible refine (ZP.out _).mono ?_); rintro e uz ⟨vz, rfl, oz, bz⟩
                     obtain ⟨gz, cz, rfl, hgz, hcz, hmz, owz⟩ := oz.own HZ8.out (by omega)
                     have hbz' : Below (w3.heap.size + 1 + 1) ((w3.alloc (.cells #[.int .i64 m, .int .i64 u, .int .i64 g, .int .i64 z, .int .i64 t] 2)).alloc (.cells #[.int .i64 8, .int .i64 8, .int .i64 8, .int .i64 12, .int .i64 12] 3)) uz := HB5'.out.trans (bz.mono (by have := HB5'.out.size; simp at this; simpa using this))
                     have HBZ' := Lib.hid hbz'
                     have ow5z := ow5.later bz)
                  | (at_builtin; refine wpList_append_own _ rfl _ _ 25 rfl (w3.heap.size + 1 + 1) 5 i0 (.int .u8 0) 1 1 Tryz.underlying25 hi hz0 hz1 hz2 rfl (by decide) (.slice (some ⟨g5, 0, none⟩) 329 c5') 329 (X5.map (Value.int .u8)) rfl ow5z ⟨gz, 0, none⟩ 8 cz (Z8.map (Value.int .u8)) rfl (by simp [HZ8.out]) (owz.news) (u8_cells _) (by unfold maxLen; omega) (by omega) (by have := HBZ'.out.size; simp at this; first | omega | (simp; omega)) ?_; intro v6 u6 hown6 hgrow6 hnil6
                     have hb6' := below_app HBZ'.out (by simp) ow5z hgrow6
                     have HB6' := Lib.hid hb6'
                     have oo6 : OBn u6 (w3.heap.size + 1 + 1) 5 v6 337 X6 := by rw [HX6.out]; unfold OBn; simpa using hown6
                     obtain ⟨g6, c6', rfl, hg6, hc6, hm6, ow6⟩ := oo6.own (by omega)
                     have owz6 := (owz.past (g2 := g5) hgrow6 (by have a1 := owz.at_.1; have a2 : g5 < u5.heap.size := hg5; omega)).news)
                  | (at_builtin; refine wpList_append_own _ rfl _ _ 25 rfl (w3.heap.size + 1 + 1) 5 i0 (.int .u8 0) 1 1 Tryz.underlying25 hi hz0 hz1 hz2 rfl (by decide) (.slice (some ⟨g6, 0, none⟩) 337 c6') 337 (X6.map (Value.int .u8)) rfl ow6 ⟨gz, 0, none⟩ 8 cz (Z8.map (Value.int .u8)) rfl (by simp [HZ8.out]) owz6 (u8_cells _) (by unfold maxLen; omega) (by omega) (by have := HB6'.out.size; simp at this; first | omega | (simp; omega)) ?_; intro v7 u7 hown7 hgrow7 hnil7
                     have hb7' := below_app HB6'.out (by simp) ow6 hgrow7
                     have HB7' := Lib.hid hb7'
                     have oo7 : OBn u7 (w3.heap.size + 1 + 1) 5 v7 345 X7 := by rw [HX7.out]; unfold OBn; simpa using hown7
                     obtain ⟨g7, c7', rfl, hg7, hc7, hm7, ow7⟩ := oo7.own (by omega)
                     )
                  | (at_builtin; refine wpList_append_own _ rfl _ _ 25 rfl (w3.heap.size + 1 + 1) 5 i0 (.int .u8 0) 1 1 Tryz.underlying25 hi hz0 hz1 hz2 rfl (by decide) (.slice (some ⟨g7, 0, none⟩) 345 c7') 345 (X7.map (Value.int .u8)) rfl ow7 ⟨y0, 0, none⟩ 155 c0 (ps.map (Value.int .u8)) rfl (by simp [HPL.out]) ((SRC.out _ HB7'.out).2.1.news) (u8_cells _) (by unfold maxLen; omega) (by omega) (by have := HB7'.out.size; simp at this; first | omega | (simp; omega)) ?_; intro v8 u8 hown8 hgrow8 hnil8
                     have hb8' := below_app HB7'.out (by simp) ow7 hgrow8
                     have HB8' := Lib.hid hb8'
                     have oo8 : OBn u8 (w3.heap.size + 1 + 1) 5 v8 500 X8 := by rw [HX8.out]; unfold OBn; simpa using hown8
                     obtain ⟨g8, c8', rfl, hg8, hc8, hm8, ow8⟩ := oo8.own (by omega)
                     obtain ⟨v9, u9, rr9, or9, gr9⟩ := run_append_own_zeros (P := Tryz.prog) u8 (w3.heap.size + 1 + 1) 25 3 25 5 i0 .i64 .i64 Tryz.underlying25 Tryz.underlying3 hi hz0 hz1 hz2 g8 500 c8' X8 ow8 12 (by omega) (by omega) (by have := HB8'.out.size; simp at this; simpa using this)
                     have hb9' := below_app HB8'.out (by simp) ow8 gr9
                     have RR9 := Lib.hid rr9; have HB9' := Lib.hid hb9'
                     have or9' : OBn u9 (w3.heap.size + 1 + 1) 5 v9 512 X9 := by rw [HX9.out]; exact or9
                     obtain ⟨g9, c9', rfl, hg9, hc9, hm9, ow9⟩ := or9'.own (by omega)
                     have hr9 : RB u9 u9.heap.size (some ⟨g9, 0, none⟩) 512 X9 := by
                       obtain ⟨A9, c9'', e9, hr, _, _⟩ := ow9.ob.rb
                       rw [LX.out] at e9 hr
                       cases e9
                       exact hr
                     )
                  | (at_builtin; refine Lib.wpList_append_run _ rfl _ _ 25 3 rfl (.slice (some ⟨g8, 0, none⟩) 500 c8') (.int .i64 12) rfl rfl _ u9 RR9.out ?_)
                  | (go_at_call 72; (with_reducible refine (refhput_any _ 512 c9' X9 _ hr9 BYX.out (by omega) (by omega) (by omega)).mono ?_); rintro e ue ⟨ve, rfl, oe, be⟩))
                go_ret2
                rw [EE2.out]
                have hY : (Hs.putS X9).2 = 0 := by unfold Hs.putS; rw [if_pos LX.out]
                have s1 := HB2.out.size
                have s2 := HB9'.out.size
                simp at s1 s2
                refine ⟨_, ret_vi hY.symm, oe.base (by omega), ?_⟩
                exact ((((Below.refl _ w).alloc (Nat.le_refl _) _).trans (HB2.out.mono (by omega))).alloc (by omega) _ |>.alloc (by simp; omega) _).trans (HB9'.out.mono (by omega)) |>.trans (be.mono (by omega))
              · have ee : R = ([], 10) := EE.out
                have EE2 := Lib.hid ee; clear ee EE
                have BELC := Lib.hid bel; clear bel
                go_wp2_with (go_at_call 71; (with_reducible refine (BELC.out _).mono ?_); rintro e wb ⟨rfl, bb⟩)
                go_ret2
                rw [EE2.out]
                refine ⟨_, rfl, OB.nil _ _ _, ?_⟩
                have s1 := HB2.out.size
                have s2 := HBEL.out.size
                simp at s1 s2
                exact ((((Below.refl _ w).alloc (Nat.le_refl _) _).trans (HB2.out.mono (by omega))).alloc (by omega) _ |>.alloc (by simp; omega) _).trans (HBEL.out.mono (by omega)) |>.trans (bb.mono (by omega))
        · have e := eL rfl rfl h2
          have hgg : (le != 0) = true := by simp [h2]
          rw [e]
          clear e eP eN eL eA eE h2 bp bn bl
          go_enter Tryz.func45, Tryz.ntmps45
          go_wp2_with (first
            | (go_at_call 68; (with_reducible refine (IST.out _).mono ?_); rintro e w1 ⟨rfl, rfl⟩)
            | (go_at_call 69; (with_reducible refine (CP.out _).mono ?_); rintro e w1 ⟨v0, rfl, o0, b0⟩; obtain ⟨y0, c0, rfl, k0, j0, x0, own0⟩ := o0.own HPL.out (by omega); have hb0 : Below (w.heap.size + 1) (w.alloc (.cells #[.string p, .string nm, .int .i64 m, .int .i64 u, .int .i64 g, .int .i64 t, .int .i64 z, .int .u8 k, .string l] 91)) w1 := ((Below.refl _ _).trans (b0.mono (by simp))); have q1 : w1.cell? ⟨w.heap.size, 1, none⟩ = some (.string nm) := (HC.out _ hb0).cell rfl; have HB0 := Lib.hid hb0; have OW0 := Lib.hid own0; clear hb0 own0 o0)
            | (go_at_call 69; (with_reducible refine (CN.out _).mono ?_); rintro e w2 ⟨v1, rfl, o1, b1⟩; obtain ⟨y1, c1, rfl, k1, j1, x1, own1⟩ := o1.own HNL.out (by omega); have hb1 : Below (w.heap.size + 1) (w.alloc (.cells #[.string p, .string nm, .int .i64 m, .int .i64 u, .int .i64 g, .int .i64 t, .int .i64 z, .int .u8 k, .string l] 91)) w2 := (HB0.out.trans (b1.mono (by have := HB0.out.size; simp at this; omega))); have q8 : w2.cell? ⟨w.heap.size, 8, none⟩ = some (.string l) := (HC.out _ hb1).cell rfl; have HB1 := Lib.hid hb1; have OW1 := Lib.hid own1; clear hb1 own1 o1)
            | (go_at_call 69; (with_reducible refine (CL.out _).mono ?_); rintro e w3 ⟨v2, rfl, o2, b2⟩))
          go_ret2
          exact ⟨_, rfl, OB.nil _ _ _, ((Below.refl _ w).alloc (Nat.le_refl _) _).trans (HB1.out.mono (by omega)) |>.trans (b2.mono (by have := HB1.out.size; simp at this; omega))⟩
      · have e := eN rfl h1
        have hgg : (ne != 0) = true := by simp [h1]
        rw [e]
        clear e eP eN eL eA eE h1 bp bn bl
        go_enter Tryz.func45, Tryz.ntmps45
        go_wp2_with (first
          | (go_at_call 68; (with_reducible refine (IST.out _).mono ?_); rintro e w1 ⟨rfl, rfl⟩)
          | (go_at_call 69; (with_reducible refine (CP.out _).mono ?_); rintro e w1 ⟨v0, rfl, o0, b0⟩; obtain ⟨y0, c0, rfl, k0, j0, x0, own0⟩ := o0.own HPL.out (by omega); have hb0 : Below (w.heap.size + 1) (w.alloc (.cells #[.string p, .string nm, .int .i64 m, .int .i64 u, .int .i64 g, .int .i64 t, .int .i64 z, .int .u8 k, .string l] 91)) w1 := ((Below.refl _ _).trans (b0.mono (by simp))); have q1 : w1.cell? ⟨w.heap.size, 1, none⟩ = some (.string nm) := (HC.out _ hb0).cell rfl; have HB0 := Lib.hid hb0; have OW0 := Lib.hid own0; clear hb0 own0 o0)
          | (go_at_call 69; (with_reducible refine (CN.out _).mono ?_); rintro e w2 ⟨v1, rfl, o1, b1⟩))
        go_ret2
        exact ⟨_, rfl, OB.nil _ _ _, ((Below.refl _ w).alloc (Nat.le_refl _) _).trans (HB0.out.mono (by omega)) |>.trans (b1.mono (by have := HB0.out.size; simp at this; omega))⟩
    · have e := eP h0
      have hgg : (pe != 0) = true := by simp [h0]
      rw [e]
      clear e eP eN eL eA eE h0 bp bn bl
      go_enter Tryz.func45, Tryz.ntmps45
      go_wp2_with (first
        | (go_at_call 68; (with_reducible refine (IST.out _).mono ?_); rintro e w1 ⟨rfl, rfl⟩)
        | (go_at_call 69; (with_reducible refine (CP.out _).mono ?_); rintro e w1 ⟨v0, rfl, o0, b0⟩))
      go_ret2
      exact ⟨_, rfl, OB.nil _ _ _, ((Below.refl _ w).alloc (Nat.le_refl _) _).trans (b0.mono (by simp))⟩
  · have e : Hh.layS p nm l m u g t z k = ([], 11) := by unfold Hh.layS; rw [if_neg hk]
    rw [e]
    have hk2 : Hh.isT k = false := by simpa using hk
    rw [hk2] at ist
    have IST := Lib.hid ist; clear ist hk hk2 e
    go_enter Tryz.func45, Tryz.ntmps45
    go_wp2_with (go_at_call 68; (with_reducible refine (IST.out _).mono ?_); rintro e w1 ⟨rfl, rfl⟩)
    go_ret2
    exact ⟨_, rfl, OB.nil _ _ _, (Below.refl _ _).alloc (Nat.le_refl _) _⟩
end Go.Proofs.YtjofdgjcbjdhbaaGreatDoor
