/- THE WALK OF 'NodeKept'. -/
import Derived.Test.YtbianfjennnofaaDoorL13b
import Derived.Test.YtbianfjennnofaaDoorGwk
import Derived.Test.YtbianfjennnofaaDoorGm14
namespace Go.Proofs.YtbianfjennnofaaDoor
set_option linter.unusedVariables false
open Go Go.RowKit Go.Maps
set_option maxRecDepth 100000
set_option maxHeartbeats 8000000
open Nt (Tr Nd WF Ps Path at_ cnt used txt)
theorem fit_stp {T : Tr} {K : Nat} (h : WF T K) (kd : Int) (p q : ByteArray) (a b c d : Int) (A : Option Addr) (n k : Nat) (xs : List Int) (hn : xs.length = n) : Nt.Fit T (stp T kd p q a b c d A n k xs).1 := by
  unfold stp
  split
  · exact Nt.Fit.mk' h rfl
  · split
    · exact Nt.Fit.mk' h hn
    · split
      · exact Nt.Fit.mk' h rfl
      · split
        · exact Nt.Fit.lnk' h _ _
        · split
          · exact Nt.Fit.wr' h _ _ _ _ _ hn
          · split
            · exact Nt.Fit.st' h _ _ _ _ _
            · split
              · exact Nt.Fit.rm' _
              · split
                · exact Nt.Fit.clr' _
                · exact Nt.Fit.rn' _ _
theorem at_clone2 {w0 w : World} {tb K : Nat} {T : Tr} (h : At w0 w tb T K) (hK : K ≤ 100000) :
    Calls Tryd.prog 13 #[.pointer (some ⟨tb, 0, none⟩)] w fun e w' => ∃ tb', e = .returned (.pointer (some ⟨tb', 0, none⟩)) ∧ At w w' tb' T K ∧ Below w.heap.size w w' := by
  obtain ⟨F, ad, mb, hF, hR⟩ := h.rep
  refine (tclone_any h.wf hK hR).mono ?_
  rintro e w' ⟨tb', rfl, hl, ⟨ad', mb', hR'⟩, hb⟩
  refine ⟨tb', rfl, ⟨h.wf, hb, _, ad', mb', ?_, hR'⟩, hb⟩
  rintro k (h1 | h1)
  · exact h1.elim
  · exact h1
theorem SL.one {w : World} {g : Nat} {y : Sp} {U : TypeId} (h : BX w g U y.cs) (hd : RB w w.heap.size y.A y.n y.xs) : SL w w.heap.size (some ⟨g, 0, none⟩) 1 [y] := by
  refine ⟨⟨rfl, fun _ => ⟨g, 0, rfl, h.lt, fun j z hz i u hu => ?_⟩⟩, fun z hz => ?_⟩
  · match j, hz with
    | 0, hz =>
      obtain rfl : y = z := by simpa using hz
      rw [show 0 + 0 * 8 + i = i from by omega]
      exact h.cell hu
  · obtain rfl : z = y := by simpa using hz
    exact hd
theorem wk_root {w0 w : World} {tb K : Nat} {T : Tr} (h : At w0 w tb T K) (hK : K ≤ 100000) :
    Calls Tryd.prog 11 #[.pointer (some ⟨tb, 0, none⟩), .string ⟨#[]⟩, .int .i64 0] w fun e w' => e = .returned (.tuple #[.int .i64 (wk T 51 ⟨#[]⟩).1, .int .i64 (wk T 51 ⟨#[]⟩).2, .bool true]) ∧ Below w.heap.size w w' :=
  wk_any hK 51 0 [] 0 w rfl h.wf.root h
theorem kept_any13 (A : Option Addr) (n k : Nat) (l : List Sp) (y : Sp) (w : World) (hl : SL w w.heap.size A n l) (hk : n ≤ k) (hm : k ≤ maxLen) (hd : RB w w.heap.size y.A y.n y.xs) :
    Calls Tryd.prog 3 #[.slice A n k, .agg y.cs] w fun e w' => e = .returned (.bool true) ∧ Below w.heap.size w w' := by
  obtain ⟨kd, p, q, a, b, c, d, A1, n1, k1, xs1⟩ := y
  have hal := alive_any
  have hb0 := below_new w (.cells (StC kd p q a b c d A1 n1 k1) 27)
  have hx0 := BX.new w 27 (StC kd p q a b c d A1 n1 k1)
  have hcs : Sp.cs ⟨kd, p, q, a, b, c, d, A1, n1, k1, xs1⟩ = StC kd p q a b c d A1 n1 k1 := rfl
  rw [hcs]
  obtain ⟨W1, hW1⟩ : ∃ W, w.alloc (.cells (StC kd p q a b c d A1 n1 k1) 27) = W := ⟨_, rfl⟩
  have hs1 : W1.heap.size = w.heap.size + 1 := by rw [← hW1]; simp
  rw [hW1] at hb0 hx0
  have kn := Lib.hid (at_new W1 30 9000 (by decide) (by decide))
  have kf := Lib.hid (fun W (h : Below w.heap.size w W) => far_any A n k w.heap.size l W (hl.below h) h.size hk hm)
  have kx := Lib.hid (fun W g (h : Below w.heap.size w W) (hx : BX W g 27 (StC kd p q a b c d A1 n1 k1)) => far_any (some ⟨g, 0, none⟩) 1 1 W.heap.size [⟨kd, p, q, a, b, c, d, A1, n1, k1, xs1⟩] W (SL.one hx ((hd.below h).more h.size)) (Nat.le_refl _) (by decide) (by decide))
  have ks := Lib.hid (fun W => short_any A n k W hk hm)
  have BXX := Lib.hid (fun W (h : Below W1.heap.size W1 W) => hx0.later h)
  have HB0 := Lib.hid hb0
  have HD := Lib.hid hd
  have HS1 := Lib.hid hs1
  by_cases hfar : (l.take 40).any Sp.far = true
  · rw [hfar] at kf
    clear hfar hl hd hb0 hx0 hs1 hcs
    go_enter Tryd.func3, Tryd.ntmps3
    go_wp2_with (first
      | (go_at_call 8; refine (hal _).mono ?_; rintro e w9 ⟨rfl, hb9⟩)
      | (go_at_call 7; refine (kf.out _ hb1).mono ?_; rintro e w2 ⟨rfl, hb2⟩)
      | (go_at_call 6; refine kn.out.mono ?_; rintro e w1 ⟨tb, rfl, h0⟩; replace h0 := Lib.hid h0; have hb1 := HB0.out.trans (h0.out.low.mono (by have := HS1.out; omega))))
    go_ret
    exact ⟨rfl, bthen (bthen hb1 hb2) hb9⟩
  · have hfar' : (l.take 40).any Sp.far = false := by simpa using hfar
    rw [hfar'] at kf
    have hxf : ([⟨kd, p, q, a, b, c, d, A1, n1, k1, xs1⟩] : List Sp).take 40 = [⟨kd, p, q, a, b, c, d, A1, n1, k1, xs1⟩] := rfl
    rw [hxf] at kx
    by_cases hfx : ([⟨kd, p, q, a, b, c, d, A1, n1, k1, xs1⟩] : List Sp).any Sp.far = true
    · rw [hfx] at kx
      clear hfar hfar' hl hd hb0 hx0 hs1 hcs hfx hxf
      go_enter Tryd.func3, Tryd.ntmps3
      go_wp2_with (first
        | (go_at_call 8; refine (hal _).mono ?_; rintro e w9 ⟨rfl, hb9⟩)
        | (go_at_call 7; refine (kx.out _ _ (bthen hb1 hb2b) hbn).mono ?_; rintro e w3 ⟨rfl, hb3⟩)
        | (go_at_call 7; refine (kf.out _ hb1).mono ?_; rintro e w2 ⟨rfl, hb2⟩; have hbx := BXX.out w2 (h0.out.low.trans (hb2.mono h0.out.low.size)); have z0 : w2.cell? ⟨w.heap.size, 0, none⟩ = some (.int .u8 kd) := (hbx).cell rfl; have z1 : w2.cell? ⟨w.heap.size, 1, none⟩ = some (.string p) := (hbx).cell rfl; have z2 : w2.cell? ⟨w.heap.size, 2, none⟩ = some (.string q) := (hbx).cell rfl; have z3 : w2.cell? ⟨w.heap.size, 3, none⟩ = some (.int .i64 a) := (hbx).cell rfl; have z4 : w2.cell? ⟨w.heap.size, 4, none⟩ = some (.int .i64 b) := (hbx).cell rfl; have z5 : w2.cell? ⟨w.heap.size, 5, none⟩ = some (.int .i64 c) := (hbx).cell rfl; have z6 : w2.cell? ⟨w.heap.size, 6, none⟩ = some (.int .i64 d) := (hbx).cell rfl; have z7 : w2.cell? ⟨w.heap.size, 7, none⟩ = some (.slice A1 n1 k1) := (hbx).cell rfl; have hb2b := bthen hb2 (below_new w2 (.cells (StC kd p q a b c d A1 n1 k1) 27)); have hbn := BX.new w2 27 (StC kd p q a b c d A1 n1 k1))
        | (go_at_call 6; refine kn.out.mono ?_; rintro e w1 ⟨tb, rfl, h0⟩; replace h0 := Lib.hid h0; have hb1 := HB0.out.trans (h0.out.low.mono (by have := HS1.out; omega))))
      go_ret
      exact ⟨rfl, bthen (bthen (bthen hb1 hb2b) hb3) hb9⟩
    · have hfx' : ([⟨kd, p, q, a, b, c, d, A1, n1, k1, xs1⟩] : List Sp).any Sp.far = false := by simpa using hfx
      rw [hfx'] at kx
      have hbx3 : p.size ≤ 400 ∧ q.size ≤ 400 ∧ n1 ≤ 4200 := by
        simp only [List.any_cons, List.any_nil, Bool.or_false, Sp.far, Bool.or_eq_false_iff, decide_eq_false_iff_not] at hfx'
        omega
      have hN40 : min n 40 ≤ 40 := by omega
      have hM := hl.take (k := min n 40) (by omega)
      have hll := hl.1.1
      have htk : l.take (min n 40) = l.take 40 := by
        by_cases h : n ≤ 40
        · rw [List.take_of_length_le (by omega), List.take_of_length_le (by omega)]
        · rw [show min n 40 = 40 from by omega]
      rw [htk] at hM
      generalize l.take 40 = M at *
      generalize min n 40 = N at *
      have HM := Lib.hid hM
      have HFAR := Lib.hid hfar'
      clear hfar hfar' hM htk hll hl hfx hfx' hxf hd hb0 hx0 hs1 hcs
      go_enter Tryd.func3, Tryd.ntmps3
      go_wp2_with (first
        | (go_at_call 9; refine (ks.out _).mono ?_; rintro e w4 ⟨rfl, rfl⟩)
        | (go_at_call 7; refine (kx.out _ _ (bthen hb1 hb2b) hbn).mono ?_; rintro e w3 ⟨rfl, hb3⟩)
        | (go_at_call 7; refine (kf.out _ hb1).mono ?_; rintro e w2 ⟨rfl, hb2⟩; have hbx := BXX.out w2 (h0.out.low.trans (hb2.mono h0.out.low.size)); have z0 : w2.cell? ⟨w.heap.size, 0, none⟩ = some (.int .u8 kd) := (hbx).cell rfl; have z1 : w2.cell? ⟨w.heap.size, 1, none⟩ = some (.string p) := (hbx).cell rfl; have z2 : w2.cell? ⟨w.heap.size, 2, none⟩ = some (.string q) := (hbx).cell rfl; have z3 : w2.cell? ⟨w.heap.size, 3, none⟩ = some (.int .i64 a) := (hbx).cell rfl; have z4 : w2.cell? ⟨w.heap.size, 4, none⟩ = some (.int .i64 b) := (hbx).cell rfl; have z5 : w2.cell? ⟨w.heap.size, 5, none⟩ = some (.int .i64 c) := (hbx).cell rfl; have z6 : w2.cell? ⟨w.heap.size, 6, none⟩ = some (.int .i64 d) := (hbx).cell rfl; have z7 : w2.cell? ⟨w.heap.size, 7, none⟩ = some (.slice A1 n1 k1) := (hbx).cell rfl; have hb2b := bthen hb2 (below_new w2 (.cells (StC kd p q a b c d A1 n1 k1) 27)); have hbn := BX.new w2 27 (StC kd p q a b c d A1 n1 k1))
        | (go_at_call 6; refine kn.out.mono ?_; rintro e w1 ⟨tb, rfl, h0⟩; replace h0 := Lib.hid h0; have hb1 := HB0.out.trans (h0.out.low.mono (by have := HS1.out; omega))))
      have hbl := Lib.hid (bthen hb2b hb3)
      have h1 := Lib.hid (h0.out.later hbl.out)
      go_loopw [49] (fun i W => ∃ (j : Nat) (T : Tr), j ≤ N ∧ i = .int .i64 j ∧ Hid (At W1 W tb T (1 + 301 * j)) ∧ Hid (T.Fits ∧ T.room = 30 ∧ T.vol = 9000)) (fun i _ => N - (intOf i).toNat)
      case atStart => exact ⟨0, Nt.new 30 9000, Nat.zero_le _, rfl, h1, Nt.fits_new _ _, rfl, rfl⟩
      case round =>
        obtain ⟨j, T, hj, rfl, HT, HF⟩ := hrel
        have hbw := Lib.hid (HB0.out.trans (HT.out.low.mono (by have := HS1.out; omega)))
        by_cases hlt : j < N
        · have hlt' : (j : Int) < N := by omega
          obtain ⟨g, o, y, rfl, hg, hy, hrb, hc⟩ := (HM.out.below hbw.out).at_ hlt
          obtain ⟨kd', p', q', ma, mb, mc, md, A', n', k', xs'⟩ := y
          have c0 : wr.cell? ⟨g, o + j * 8, none⟩ = some (.int .u8 kd') := hc 0 _ rfl
          have c1 : wr.cell? ⟨g, o + j * 8 + 1, none⟩ = some (.string p') := hc 1 _ rfl
          have c2 : wr.cell? ⟨g, o + j * 8 + 2, none⟩ = some (.string q') := hc 2 _ rfl
          have c3 : wr.cell? ⟨g, o + j * 8 + 3, none⟩ = some (.int .i64 ma) := hc 3 _ rfl
          have c4 : wr.cell? ⟨g, o + j * 8 + 4, none⟩ = some (.int .i64 mb) := hc 4 _ rfl
          have c5 : wr.cell? ⟨g, o + j * 8 + 5, none⟩ = some (.int .i64 mc) := hc 5 _ rfl
          have c6 : wr.cell? ⟨g, o + j * 8 + 6, none⟩ = some (.int .i64 md) := hc 6 _ rfl
          have c7 : wr.cell? ⟨g, o + j * 8 + 7, none⟩ = some (.slice A' n' k') := hc 7 _ rfl
          have hfy : Sp.far ⟨kd', p', q', ma, mb, mc, md, A', n', k', xs'⟩ = false := by
            have := HFAR.out
            rw [List.any_eq_false] at this
            simpa using this _ (List.mem_of_getElem? hy)
          have hb4 : p'.size ≤ 400 ∧ q'.size ≤ 400 ∧ n' ≤ 4200 := by
            simp only [Sp.far, Bool.or_eq_false_iff, decide_eq_false_iff_not] at hfy
            omega
          have hacc := below_new wr (.cells (StC kd' p' q' ma mb mc md A' n' k') 27)
          have hbox := Lib.hid (BX.new wr 27 (StC kd' p' q' ma mb mc md A' n' k'))
          have BXR := Lib.hid (fun W (h : Below (wr.alloc (.cells (StC kd' p' q' ma mb mc md A' n' k') 27)).heap.size (wr.alloc (.cells (StC kd' p' q' ma mb mc md A' n' k') 27)) W) => hbox.out.later h)
          have ku := Lib.hid (fun W (h : Below wr.heap.size wr W) => at_used (HT.out.later h))
          have kw := Lib.hid (fun W (h : Below wr.heap.size wr W) => wk_root (HT.out.later h) (by omega))
          have ka := Lib.hid (fun W (h : Below wr.heap.size wr W) => act_at (HT.out.later h) (by omega) kd' p' q' (by omega) (by omega) ma mb mc md A' n' k' xs' ((hrb.below (h.mono hbw.out.size)).more (by have := HS1.out; omega)) (by omega))
          have HE := Lib.hid (fun h => stp_err (T := T) (kd := kd') (p := p') (q := q') (a := ma) (b := mb) (c := mc) (d := md) (A := A') (n := n') (k := k') (xs := xs') h)
          have HFS := Lib.hid (fit_stp HT.out.wf kd' p' q' ma mb mc md A' n' k' xs' hrb.1)
          obtain ⟨⟨T2, z⟩, hT2⟩ : ∃ r, stp T kd' p' q' ma mb mc md A' n' k' xs' = r := ⟨_, rfl⟩
          rw [hT2] at ka HE HFS
          have HUN : T.usedN ≤ 30 := by have := HF.out.1.1; have := HF.out.2.1; omega
          have HUB : T.usedB ≤ 9000 := by have := HF.out.1.2; have := HF.out.2.2; omega
          obtain ⟨uN, huN⟩ : ∃ u : Int, ((T.usedN : Nat) : Int) = u := ⟨_, rfl⟩
          obtain ⟨uB, huB⟩ : ∃ u : Int, ((T.usedB : Nat) : Int) = u := ⟨_, rfl⟩
          have hg30 : ¬ (30 : Int) < uN := by omega
          have hg9k : ¬ (9000 : Int) < uB := by omega
          rw [huN, huB] at ku
          obtain ⟨⟨p1, p2⟩, hp12⟩ : ∃ r, wk T 51 ⟨#[]⟩ = r := ⟨_, rfl⟩
          rw [hp12] at kw
          have HFIT2 := Lib.hid (show T2.Fits ∧ T2.room = 30 ∧ T2.vol = 9000 from ⟨HFS.out.2.2 HF.out.1, HFS.out.1.trans HF.out.2.1, HFS.out.2.1.trans HF.out.2.2⟩)
          have HuN := Lib.hid huN
          have HuB := Lib.hid huB
          have H12 := Lib.hid hp12
          clear hc hy hfy hrb hT2 huN huB hp12 HUN HUB
          by_cases hz : z = 0
          · subst hz
            go_wp2_with (first
              | (go_at_call 12; refine (ka.out _ (bthen (bthen hacc hb5) hb6)).mono ?_; rintro e w7 ⟨rfl, h7⟩)
              | (go_at_call 11; refine (kw.out _ (bthen hacc hb5)).mono ?_; rintro e w6 ⟨rfl, hb6⟩; have hby := BXR.out w6 (bthen hb5 hb6); have y0 : w6.cell? ⟨wr.heap.size, 0, none⟩ = some (.int .u8 kd') := hby.cell rfl; have y1 : w6.cell? ⟨wr.heap.size, 1, none⟩ = some (.string p') := hby.cell rfl; have y2 : w6.cell? ⟨wr.heap.size, 2, none⟩ = some (.string q') := hby.cell rfl; have y3 : w6.cell? ⟨wr.heap.size, 3, none⟩ = some (.int .i64 ma) := hby.cell rfl; have y4 : w6.cell? ⟨wr.heap.size, 4, none⟩ = some (.int .i64 mb) := hby.cell rfl; have y5 : w6.cell? ⟨wr.heap.size, 5, none⟩ = some (.int .i64 mc) := hby.cell rfl; have y6 : w6.cell? ⟨wr.heap.size, 6, none⟩ = some (.int .i64 md) := hby.cell rfl; have y7 : w6.cell? ⟨wr.heap.size, 7, none⟩ = some (.slice A' n' k') := hby.cell rfl)
              | (go_at_call 10; refine (ku.out _ hacc).mono ?_; rintro e w5 ⟨rfl, hb5⟩))
            go_roundw
            case rel => exact ⟨j + 1, T2, by omega, by go_num, by rw [show 1 + 301 * (j + 1) = 1 + 301 * j + 301 from by omega]; exact h7, HFIT2⟩
            case measure => simp [intOf]; omega
          · obtain rfl := HE.out hz
            have gz : (z != 0) = true := by simp [hz]
            clear hz
            have ku2 := Lib.hid (fun W (h : At W1 W tb T2 (1 + 301 * j + 301)) => at_used h)
            have kw2 := Lib.hid (fun W (h : At W1 W tb T2 (1 + 301 * j + 301)) => wk_root h (by omega))
            rw [HuN.out, HuB.out] at ku2
            rw [H12.out] at kw2
            go_wp2_with (first
              | (go_at_call 11; refine (kw2.out _ (h7.later hb8)).mono ?_; rintro e w9 ⟨rfl, hb9⟩)
              | (go_at_call 10; refine (ku2.out _ h7).mono ?_; rintro e w8 ⟨rfl, hb8⟩)
              | (go_at_call 12; refine (ka.out _ (bthen (bthen hacc hb5) hb6)).mono ?_; rintro e w7 ⟨rfl, h7⟩)
              | (go_at_call 11; refine (kw.out _ (bthen hacc hb5)).mono ?_; rintro e w6 ⟨rfl, hb6⟩; have hby := BXR.out w6 (bthen hb5 hb6); have y0 : w6.cell? ⟨wr.heap.size, 0, none⟩ = some (.int .u8 kd') := hby.cell rfl; have y1 : w6.cell? ⟨wr.heap.size, 1, none⟩ = some (.string p') := hby.cell rfl; have y2 : w6.cell? ⟨wr.heap.size, 2, none⟩ = some (.string q') := hby.cell rfl; have y3 : w6.cell? ⟨wr.heap.size, 3, none⟩ = some (.int .i64 ma) := hby.cell rfl; have y4 : w6.cell? ⟨wr.heap.size, 4, none⟩ = some (.int .i64 mb) := hby.cell rfl; have y5 : w6.cell? ⟨wr.heap.size, 5, none⟩ = some (.int .i64 mc) := hby.cell rfl; have y6 : w6.cell? ⟨wr.heap.size, 6, none⟩ = some (.int .i64 md) := hby.cell rfl; have y7 : w6.cell? ⟨wr.heap.size, 7, none⟩ = some (.slice A' n' k') := hby.cell rfl)
              | (go_at_call 10; refine (ku.out _ hacc).mono ?_; rintro e w5 ⟨rfl, hb5⟩))
            go_roundw
            case rel => exact ⟨j + 1, T2, by omega, by go_num, by rw [show 1 + 301 * (j + 1) = 1 + 301 * j + 301 from by omega]; exact h7.later (bthen hb8 hb9), HFIT2⟩
            case measure => simp [intOf]; omega
        · have hlt' : ¬ (j : Int) < N := by omega
          have kc := Lib.hid (at_clone2 HT.out (by omega))
          have ku := Lib.hid (fun W (h : Below wr.heap.size wr W) => at_used (HT.out.later h))
          have kw := Lib.hid (fun W (h : Below wr.heap.size wr W) => wk_root (HT.out.later h) (by omega))
          have ka := Lib.hid (fun W tb' (h : At wr W tb' T (1 + 301 * j)) => act_at h (by omega) kd p q (by omega) (by omega) a b c d A1 n1 k1 xs1 (((HD.out.below hbw.out).more hbw.out.size).below h.low) (by omega))
          have kr := Lib.hid (fun W tb' T' (h : At wr W tb' T' (1 + 301 * j + 301)) => at_clear h (by omega) p (by omega))
          have BXR := Lib.hid (fun W (h : Below wr.heap.size wr W) => BXX.out W (HT.out.low.trans (h.mono HT.out.low.size)))
          obtain ⟨uN, huN⟩ : ∃ u : Int, ((T.usedN : Nat) : Int) = u := ⟨_, rfl⟩
          obtain ⟨uB, huB⟩ : ∃ u : Int, ((T.usedB : Nat) : Int) = u := ⟨_, rfl⟩
          rw [huN, huB] at ku
          obtain ⟨⟨p1, p2⟩, hp12⟩ : ∃ r, wk T 51 ⟨#[]⟩ = r := ⟨_, rfl⟩
          rw [hp12] at kw
          clear huN huB hp12
          go_wp2_with (first
            | (go_at_call 8; refine (hal _).mono ?_; rintro e w12 ⟨rfl, hb12⟩)
            | (go_at_call 11; refine (kw.out _ (bthen h9.low hb10)).mono ?_; rintro e w11 ⟨rfl, hb11⟩)
            | (go_at_call 10; refine (ku.out _ h9.low).mono ?_; rintro e w10 ⟨rfl, hb10⟩)
            | (go_at_call 14; refine (kr.out _ _ _ h8).mono ?_; rintro e w9 ⟨rfl, h9⟩)
            | (go_at_call 12; refine (ka.out _ _ (hc5.later (bthen hb6 hb7))).mono ?_; rintro e w8 ⟨rfl, h8⟩; have hbv := BXR.out w8 h8.low; have v1 : w8.cell? ⟨w.heap.size, 1, none⟩ = some (.string p) := hbv.cell rfl)
            | (go_at_call 11; refine (kw.out _ (bthen hb5 hb6)).mono ?_; rintro e w7 ⟨rfl, hb7⟩; have hby := BXR.out w7 (bthen (bthen hb5 hb6) hb7); have x0 : w7.cell? ⟨w.heap.size, 0, none⟩ = some (.int .u8 kd) := (hby).cell rfl; have x1 : w7.cell? ⟨w.heap.size, 1, none⟩ = some (.string p) := (hby).cell rfl; have x2 : w7.cell? ⟨w.heap.size, 2, none⟩ = some (.string q) := (hby).cell rfl; have x3 : w7.cell? ⟨w.heap.size, 3, none⟩ = some (.int .i64 a) := (hby).cell rfl; have x4 : w7.cell? ⟨w.heap.size, 4, none⟩ = some (.int .i64 b) := (hby).cell rfl; have x5 : w7.cell? ⟨w.heap.size, 5, none⟩ = some (.int .i64 c) := (hby).cell rfl; have x6 : w7.cell? ⟨w.heap.size, 6, none⟩ = some (.int .i64 d) := (hby).cell rfl; have x7 : w7.cell? ⟨w.heap.size, 7, none⟩ = some (.slice A1 n1 k1) := (hby).cell rfl)
            | (go_at_call 10; refine (ku.out _ hb5).mono ?_; rintro e w6 ⟨rfl, hb6⟩)
            | (go_at_call 13; refine kc.out.mono ?_; rintro e w5 ⟨tb2, rfl, hc5, hb5⟩))
          go_ret
          exact ⟨rfl, bthen (bthen (bthen hbw.out h9.low) hb10) (bthen hb11 hb12)⟩
theorem nodekept_walk (A : Option Addr) (n k : Nat) (l : List Sp) (kd : Int) (p q : ByteArray) (a b c d : Int) (A1 : Option Addr) (n1 k1 : Nat) (xs1 : List Int) (w : World) (hl : SL w w.heap.size A n l) (hk : n ≤ k) (hm : k ≤ maxLen) (_ok : ∀ y ∈ l, y.ok)
    (_h0 : 0 ≤ kd ∧ kd ≤ 255) (_h1 : p.size ≤ maxLen) (_h2 : q.size ≤ maxLen) (_h3 : -9223372036854775808 ≤ a ∧ a ≤ 9223372036854775807) (_h4 : -9223372036854775808 ≤ b ∧ b ≤ 9223372036854775807) (_h5 : -9223372036854775808 ≤ c ∧ c ≤ 9223372036854775807) (_h6 : -9223372036854775808 ≤ d ∧ d ≤ 9223372036854775807) (_h7 : RB w w.heap.size A1 n1 xs1) (_h8 : Byt xs1) (_h9 : n1 ≤ k1) (_h10 : k1 ≤ maxLen) :
    Calls Tryd.prog 3 #[.slice A n k, .agg (StC kd p q a b c d A1 n1 k1)] w fun e w' => e = .returned (.bool true) ∧ Below w.heap.size w w' := kept_any13 A n k l ⟨kd, p, q, a, b, c, d, A1, n1, k1, xs1⟩ w hl hk hm _h7
end Go.Proofs.YtbianfjennnofaaDoor
