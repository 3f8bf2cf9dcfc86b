/- THE LAW 'DigestParts' walked. -/
import Derived.Test.YtfggknplekiaoaaDoorL12c
namespace Go.Proofs.YtfggknplekiaoaaDoor
open Go Go.RowKit
set_option maxHeartbeats 8000000
set_option maxRecDepth 100000
set_option linter.unusedVariables false
theorem Dp.rowAt {w W : World} {Z n c : Nat} {A : Option Addr} {X Y : List Int} (h : Dp w W Z (.slice A n c) X Y) : n = X.length ∧ RB W W.heap.size A n X ∧ n ≤ c ∧ c ≤ maxLen := by
  obtain ⟨A', c', e, hr, h1, h2⟩ := h.row
  cases e
  exact ⟨rfl, hr, h1, h2⟩
theorem digestparts_walk (A : Option Addr) (m c : Nat) (l : List Pc) (A2 : Option Addr) (n2 c2 : Nat) (ys : List Int) (w : World) (kt : KT w) (ht : HT w) (hl : PL w w.heap.size A m l) (hc : m ≤ c) (hc2 : c ≤ maxLen) (hr : RB w w.heap.size A2 n2 ys) (hy : Byt ys) (hd : n2 ≤ c2) (hd2 : c2 ≤ maxLen) :
    Calls Tryd.prog 4 #[.slice A m c, .slice A2 n2 c2] w fun e w' => e = .returned (.bool true) ∧ Below w.heap.size w w' := by
  have AL := Lib.hid fun (W : World) (hW : Below w.heap.size w W) => alive12_any W (kt.on hW) (ht.on hW)
  by_cases hm : m ≤ 20
  · by_cases hn : n2 ≤ 500
    · have hm' : ¬ (20 : Int) < m := by omega
      have hn' : ¬ (500 : Int) < n2 := by omega
      have hg25 : Tryd.prog.eqGuardType Tryd.prog.depth 25 = false := by kernel_rfl
      obtain ⟨i0, hi, hz0, hz1, hz2⟩ := info_parts info_u8
      have KTH := Lib.hid kt; have HTH := Lib.hid ht; have HL := Lib.hid hl; have HR := Lib.hid hr; have HY := Lib.hid hy; have HD := Lib.hid hd; have HD2 := Lib.hid hd2
      have nw := Lib.hid (new_any w ht)
      clear kt ht hl hr hy hd hd2
      go_enter Tryd.func4, Tryd.ntmps4
      go_upto_region 5 with (go_at_call 9; (with_reducible refine nw.out.mono ?_); rintro e w1 ⟨rfl, hs1, hb1⟩; have D1 := Lib.hid (⟨hb1, hs1, World.ownsRow_nil _ _ _ _, Nat.le_refl _, Byt.nil, Byt.nil⟩ : Dp w w1 w.heap.size (.slice none 0 0) [] []); clear hs1 hb1)
      go_wp2
      go_loopw [5, 22] (fun v i wr => ∃ k : Nat, k ≤ m ∧ i = .int .i64 k ∧ (∀ p ∈ l.take k, p.xs.length ≤ 300) ∧ Dp w wr w.heap.size v (flat (l.take k)) (flat (l.take k))) (fun _ i _ => m - (intOf i).toNat)
      case atStart => exact ⟨0, by omega, rfl, by simp, by simpa [flat] using D1.out⟩
      case round =>
        obtain ⟨k, hk, rfl, hs, hdp⟩ := hrel
        have hfl := flat_len hs
        clear D1 nw
        by_cases hlt : k < m
        · obtain ⟨p, b, o, hp, hmem, hA, hbB, hcell, hrp, hyp, hcp, hcp2⟩ := HL.out.at_ hlt
          subst hA
          have hfs : flat (l.take (k + 1)) = flat (l.take k) ++ p.xs := by rw [take_snocP hp, flat_snoc]
          have hts := take_snocP hp
          obtain ⟨pA, pn, pc, pxs⟩ := p
          dsimp only at hcell hrp hyp hcp hcp2 hfs
          have hpl := hrp.1
          have hcw : _ := (hdp.b.cell (p := ⟨b, o + k, none⟩) hbB).trans hcell
          have hkm : (k : Int) < (m : Int) := by omega
          by_cases h300 : pn ≤ 300
          · have h300' : ¬ (300 : Int) < pn := by omega
            have HS2 := Lib.hid (show ∀ p ∈ l.take (k + 1), p.xs.length ≤ 300 from fun p hp => by
              rw [hts] at hp
              rcases List.mem_append.1 hp with h | h
              · exact hs p h
              · obtain rfl : p = _ := by simpa using h
                show pxs.length ≤ 300
                omega)
            clear hs hts hmem hp
            generalize flat (l.take k) = X at *
            obtain ⟨X2, hX2⟩ : ∃ X2, X ++ pxs = X2 := ⟨_, rfl⟩
            have hxl2 : X2.length = X.length + pn := by rw [← hX2, List.length_append, hpl]
            obtain ⟨N2, hN2⟩ : ∃ N2, X2.length = N2 := ⟨_, rfl⟩
            have hN2b : N2 ≤ 10000 := by omega
            obtain ⟨OS, hOS⟩ : ∃ OS, ((Dg.of X2).map vb).toArray = OS := ⟨_, rfl⟩
            have eqs := eq_sum (Dg.of X2) rfl
            rw [hOS] at eqs
            have WR := Lib.hid (show Calls Tryd.prog 10 #[.pointer (some ⟨w.heap.size, 0, none⟩), .slice pA pn pc] wr fun e w' => e = .returned (.tuple #[]) ∧ Dp w w' w.heap.size _ X X2 from by rw [← hX2]; exact dp_write KTH.out hdp hrp hyp hcp hcp2 (by omega))
            have SM := Lib.hid (show ∀ W v, Dp w W w.heap.size v X2 X2 → Calls Tryd.prog 11 #[.pointer (some ⟨w.heap.size, 0, none⟩)] W fun e w' => e = .returned (.agg OS) ∧ Dp w w' w.heap.size v X2 X2 from fun W v h => by rw [← hOS]; exact dp_sum KTH.out h (by omega))
            have OF := Lib.hid (show ∀ W A n c, Dp w W w.heap.size (.slice A n c) X2 X2 → Calls Tryd.prog 7 #[.slice A n c] W fun e w' => e = .returned (.agg OS) ∧ Dp w w' w.heap.size (.slice A n c) X2 X2 from fun W A n c h => by
              obtain ⟨h1, h2, h3, h4⟩ := h.rowAt
              rw [← hOS]
              exact dp_of KTH.out HTH.out h h2 h.bx h3 h4 (by omega))
            have LN := Lib.hid (show ∀ W v, Dp w W w.heap.size v X2 X2 → Calls Tryd.prog 12 #[.pointer (some ⟨w.heap.size, 0, none⟩)] W fun e w' => e = .returned (.int .u64 (N2 : Int)) ∧ W = w' from fun W v h => by rw [← hN2]; exact dp_len h)
            have wn : IntKind.u64.wrap (N2 : Int) = (N2 : Int) := by rw [IntKind.wrap_u64]; omega
            have HRP := Lib.hid hrp; have HYP := Lib.hid hyp; have HPL := Lib.hid hpl; have HX2 := Lib.hid hX2; have HN2 := Lib.hid hN2; have HXL := Lib.hid hxl2; have HFS := Lib.hid hfs; have HDP := Lib.hid hdp
            clear hrp hyp hpl hX2 hN2 hxl2 hOS hcell hfs hdp hfl
            go_wp2_with (first
              | (go_at_call 10; (with_reducible refine WR.out.mono ?_); rintro e w2 ⟨rfl, hd2⟩; have HD2' := Lib.hid hd2; clear hd2)
              | (at_builtin; obtain ⟨v3, w3, hrun, hown, hgrow⟩ := run_append_rb (P := Tryd.prog) (w.heap.size + 1) w.heap.size 22 22 5 i0 Tryd.underlying22 hi hz0 hz1 hz2 _ X.length X HD2'.out.o pA pn pc pxs (HRP.out.below HD2'.out.b) (by have := HXL.out; have := HN2.out; omega) (BX.lt HD2'.out.s.1)
                 have hd3 := HD2'.out.grown HYP.out (by rw [HPL.out]; exact hown) hgrow
                 rw [HX2.out] at hd3
                 obtain ⟨A3, c3, rfl, hra3, hc3, hm3⟩ := hd3.row
                 rw [HN2.out] at hd3 hrun
                 refine Lib.wpList_append_run _ rfl _ _ 22 22 rfl _ (.slice pA pn pc) rfl rfl _ _ hrun ?_
                 have HD3 := Lib.hid hd3
                 clear hrun hown hgrow hd3 hra3 hc3 hm3)
              | (go_at_call 11; (with_reducible refine (SM.out _ _ HD3.out).mono ?_); rintro e w4 ⟨rfl, hd4⟩; have HD4 := Lib.hid hd4; clear hd4)
              | (go_at_call 7; (with_reducible refine (OF.out _ _ _ _ HD4.out).mono ?_); rintro e w5 ⟨rfl, hd5⟩; have HD5 := Lib.hid hd5; clear hd5)
              | (go_at_call 12; (with_reducible refine (LN.out _ _ HD5.out).mono ?_); rintro e w6 ⟨rfl, rfl⟩))
            go_roundw
            case rel => exact ⟨k + 1, by omega, by go_num, HS2.out, by rw [HFS.out, HX2.out]; exact HD5.out⟩
            case measure => simp [intOf]; omega
          · have h300' : (300 : Int) < pn := by omega
            have hacc := hdp.b
            clear hdp hs hts hmem hp hfs hcell hrp hyp
            go_wp2_with (go_at_call 6; (with_reducible refine (AL.out _ hacc).mono ?_); rintro e w3 ⟨rfl, hb3⟩; replace hacc := bthen hacc hb3; clear hb3)
            go_ret
            exact ⟨rfl, hacc⟩
        · have e : k = m := by omega
          subst e
          generalize flat (l.take k) = X at *
          rename_i v22
          have HX0 := Lib.hid hdp
          obtain ⟨A1, c1, hv, hr1, hc1, hm1⟩ := hdp.row
          have hyl := HR.out.1
          obtain ⟨N, hN⟩ : ∃ N, X.length = N := ⟨_, rfl⟩
          have hNb : N ≤ 6000 := by omega
          rw [hN] at hv hr1 hc1
          subst hv
          obtain ⟨Y, hY⟩ : ∃ Y, X ++ ys = Y := ⟨_, rfl⟩
          obtain ⟨M, hM⟩ : ∃ M, Y.length = M := ⟨_, rfl⟩
          have hMb : M = N + n2 := by rw [← hM, ← hY, List.length_append, hN, hyl]
          obtain ⟨OX, hOX⟩ : ∃ OS, ((Dg.of X).map vb).toArray = OS := ⟨_, rfl⟩
          obtain ⟨OY, hOY⟩ : ∃ OS, ((Dg.of Y).map vb).toArray = OS := ⟨_, rfl⟩
          have eqx := eq_sum (Dg.of X) rfl
          have eqy := eq_sum (Dg.of Y) rfl
          rw [hOX] at eqx
          rw [hOY] at eqy
          have CL := Lib.hid (dp_clone HX0.out)
          generalize hZ : wr.heap.size = Z2 at *
          have W2 := Lib.hid (show ∀ W, Dq w W w.heap.size Z2 (.slice A1 N c1) X X X → Calls Tryd.prog 10 #[.pointer (some ⟨Z2, 0, none⟩), .slice A2 n2 c2] W fun e w' => e = .returned (.tuple #[]) ∧ Dq w w' w.heap.size Z2 (.slice A1 N c1) X X Y from fun W h => by rw [← hY]; exact dq_write2 KTH.out h HR.out HY.out HD.out HD2.out (by omega))
          have S2a := Lib.hid (show ∀ W, Dq w W w.heap.size Z2 (.slice A1 N c1) X X Y → Calls Tryd.prog 11 #[.pointer (some ⟨Z2, 0, none⟩)] W fun e w' => e = .returned (.agg OY) ∧ Dq w w' w.heap.size Z2 (.slice A1 N c1) X X Y from fun W h => by rw [← hOY]; exact dq_sum2 KTH.out h (by omega))
          have S1a := Lib.hid (show ∀ W, Dq w W w.heap.size Z2 (.slice A1 N c1) X X Y → Calls Tryd.prog 11 #[.pointer (some ⟨w.heap.size, 0, none⟩)] W fun e w' => e = .returned (.agg OX) ∧ Dq w w' w.heap.size Z2 (.slice A1 N c1) X X Y from fun W h => by rw [← hOX]; exact dq_sum1 KTH.out h (by omega))
          have W1 := Lib.hid (show ∀ W, Dq w W w.heap.size Z2 (.slice A1 N c1) X X Y → Calls Tryd.prog 10 #[.pointer (some ⟨w.heap.size, 0, none⟩), .slice A2 n2 c2] W fun e w' => e = .returned (.tuple #[]) ∧ Dq w w' w.heap.size Z2 (.slice A1 N c1) X Y Y from fun W h => by have := dq_write1 KTH.out h HR.out HY.out HD.out HD2.out (by omega); rw [hY] at this; exact this)
          have S1b := Lib.hid (show ∀ W, Dq w W w.heap.size Z2 (.slice A1 N c1) X Y Y → Calls Tryd.prog 11 #[.pointer (some ⟨w.heap.size, 0, none⟩)] W fun e w' => e = .returned (.agg OY) ∧ Dq w w' w.heap.size Z2 (.slice A1 N c1) X Y Y from fun W h => by rw [← hOY]; exact dq_sum1 KTH.out h (by omega))
          have S2b := Lib.hid (show ∀ W, Dq w W w.heap.size Z2 (.slice A1 N c1) X Y Y → Calls Tryd.prog 11 #[.pointer (some ⟨Z2, 0, none⟩)] W fun e w' => e = .returned (.agg OY) ∧ Dq w w' w.heap.size Z2 (.slice A1 N c1) X Y Y from fun W h => by rw [← hOY]; exact dq_sum2 KTH.out h (by omega))
          have OFX := Lib.hid (show ∀ W, Dq w W w.heap.size Z2 (.slice A1 N c1) X X Y → Calls Tryd.prog 7 #[.slice A1 N c1] W fun e w' => e = .returned (.agg OX) ∧ Dq w w' w.heap.size Z2 (.slice A1 N c1) X X Y from fun W h => by obtain ⟨h1, h2, h3, h4⟩ := h.p.rowAt; rw [← hOX]; exact dq_of KTH.out HTH.out h h2 h.p.bx h3 h4 (by omega))
          have OFY := Lib.hid (show ∀ W A c, Dq w W w.heap.size Z2 (.slice A1 N c1) X X Y → RB W W.heap.size A M Y → M ≤ c → c ≤ maxLen → Calls Tryd.prog 7 #[.slice A M c] W fun e w' => e = .returned (.agg OY) ∧ Dq w w' w.heap.size Z2 (.slice A1 N c1) X X Y from fun W A c h hr h3 h4 => by rw [← hOY]; exact dq_of KTH.out HTH.out h hr h.byy h3 h4 (by omega))
          have LN1 := Lib.hid (show ∀ W, Dq w W w.heap.size Z2 (.slice A1 N c1) X Y Y → Calls Tryd.prog 12 #[.pointer (some ⟨w.heap.size, 0, none⟩)] W fun e w' => e = .returned (.int .u64 (M : Int)) ∧ W = w' from fun W h => by rw [← hM]; exact len_any12 W h.p.s)
          have LN2 := Lib.hid (show ∀ W, Dq w W w.heap.size Z2 (.slice A1 N c1) X Y Y → Calls Tryd.prog 12 #[.pointer (some ⟨Z2, 0, none⟩)] W fun e w' => e = .returned (.int .u64 (M : Int)) ∧ W = w' from fun W h => by rw [← hM]; exact len_any12 W h.s)
          have HN := Lib.hid hN; have HHY := Lib.hid hY; have HM := Lib.hid hM; have HMB := Lib.hid hMb
          clear hdp hr1 hyl hY hM hMb hOX hOY hN hs hfl HX0 hc1 hm1 hZ
          go_wp2_with (first
            | (go_at_call 13; (with_reducible refine (CL.out).mono ?_); rintro e w2 ⟨rfl, hd2⟩; have Q1 := Lib.hid hd2; clear hd2)
            | (go_at_call 10; (with_reducible refine (W2.out _ Q1.out).mono ?_); rintro e w2 ⟨rfl, hd2⟩; have Q2 := Lib.hid hd2; clear hd2)
            | (go_at_call 11; (with_reducible refine (S2a.out _ Q2.out).mono ?_); rintro e w2 ⟨rfl, hd2⟩; have Q3 := Lib.hid hd2; clear hd2)
            | (at_builtin; obtain ⟨v3, w3, hrun, hown, hgrow⟩ := run_append_rb (P := Tryd.prog) w2.heap.size w2.heap.size 22 22 5 i0 Tryd.underlying22 hi hz0 hz1 hz2 (.slice none 0 0) 0 [] (World.ownsRow_nil _ _ _ _) A1 N c1 X Q3.out.p.rowAt.2.1 (by omega) (Nat.le_refl _)
               refine Lib.wpList_append_run _ rfl _ _ 22 22 rfl (.slice none 0 0) (.slice A1 N c1) rfl rfl _ _ hrun ?_
               have hb3 := (Below.refl _ w2).grown hgrow (Nat.le_refl _) (by intro k hk; simp [Value.ownBlock] at hk)
               have O3 : Hid (OBn w3 w2.heap.size 5 v3 N X) := Lib.hid (by simpa using hown)
               have B3 := Lib.hid hb3
               clear hrun hown hgrow hb3)
            | (at_builtin; obtain ⟨v4, w4, hrun, hown, hgrow⟩ := run_append_rb (P := Tryd.prog) w2.heap.size w.heap.size 22 22 5 i0 Tryd.underlying22 hi hz0 hz1 hz2 v3 N X O3.out A2 n2 c2 ys (HR.out.below (Q3.out.later B3.out).p.b) (by omega) B3.out.size
               have hb4 := below_app B3.out (Nat.le_refl _) O3.out hgrow
               rw [HHY.out, ← HMB.out] at hown
               obtain ⟨A4, c4, rfl, hr4, hc4, hm4⟩ := hown.slice
               refine Lib.wpList_append_run _ rfl _ _ 22 22 rfl v3 (.slice A2 n2 c2) rfl rfl _ _ hrun ?_
               have Q4 := Lib.hid (Q3.out.later hb4)
               have R4 := Lib.hid hr4
               clear hrun hown hgrow hb4 hr4)
            | (go_at_call 7; (with_reducible refine (OFY.out _ _ _ Q4.out R4.out hc4 hm4).mono ?_); rintro e w2 ⟨rfl, hd2⟩; have Q5 := Lib.hid hd2; clear hd2)
            | (go_at_call 11; (with_reducible refine (S1a.out _ Q5.out).mono ?_); rintro e w2 ⟨rfl, hd2⟩; have Q6 := Lib.hid hd2; clear hd2)
            | (go_at_call 7; (with_reducible refine (OFX.out _ Q6.out).mono ?_); rintro e w2 ⟨rfl, hd2⟩; have Q7 := Lib.hid hd2; clear hd2)
            | (go_at_call 10; (with_reducible refine (W1.out _ Q7.out).mono ?_); rintro e w2 ⟨rfl, hd2⟩; have Q8 := Lib.hid hd2; clear hd2)
            | (go_at_call 11; (with_reducible refine (S1b.out _ Q8.out).mono ?_); rintro e w2 ⟨rfl, hd2⟩; have Q9 := Lib.hid hd2; clear hd2)
            | (go_at_call 11; (with_reducible refine (S2b.out _ Q9.out).mono ?_); rintro e w2 ⟨rfl, hd2⟩; have Q10 := Lib.hid hd2; clear hd2)
            | (go_at_call 12; (with_reducible refine (LN1.out _ Q10.out).mono ?_); rintro e w9 ⟨rfl, rfl⟩)
            | (go_at_call 12; (with_reducible refine (LN2.out _ Q10.out).mono ?_); rintro e w9 ⟨rfl, rfl⟩)
            | (go_at_call 6; (with_reducible refine (AL.out _ Q10.out.p.b).mono ?_); rintro e w9 ⟨rfl, hb9⟩; have B9 := Lib.hid (bthen Q10.out.p.b hb9); clear hb9))
          go_ret
          exact ⟨rfl, B9.out⟩
    · have hm' : ¬ (20 : Int) < m := by omega
      have hn' : (500 : Int) < n2 := by omega
      have hacc : Below w.heap.size w w := Below.refl _ _
      clear hl hr hy
      go_enter Tryd.func4, Tryd.ntmps4
      go_wp2_with (go_at_call 6; (with_reducible refine (AL.out _ hacc).mono ?_); rintro e w3 ⟨rfl, hb3⟩; replace hacc := bthen hacc hb3; clear hb3)
      go_ret
      exact ⟨rfl, hacc⟩
  · have hm' : (20 : Int) < m := by omega
    have hacc : Below w.heap.size w w := Below.refl _ _
    clear hl hr hy
    go_enter Tryd.func4, Tryd.ntmps4
    go_wp2_with (go_at_call 6; (with_reducible refine (AL.out _ hacc).mono ?_); rintro e w3 ⟨rfl, hb3⟩; replace hacc := bthen hacc hb3; clear hb3)
    go_ret
    exact ⟨rfl, hacc⟩
end Go.Proofs.YtfggknplekiaoaaDoor
