/- WALKS OF LAYER 12, THE PROGRAM, SEVENTH PART: Write. -/
import Derived.Test.YtfggknplekiaoaaDoorG12f
namespace Go.Proofs.YtfggknplekiaoaaDoor
open Go Go.RowKit
set_option maxHeartbeats 8000000
set_option maxRecDepth 100000
set_option linter.unusedVariables false
theorem Oth.drewN {a : Nat} {w w' : World} (h : Oth a w w') (n : Nat) : Oth a w (w'.drewN n) := h
theorem SX.later {w w' : World} {a n : Nat} {wl : List Nat} {rl : List Int} (h : SX w a wl rl n) (hb : Below w.heap.size w w') : SX w' a wl rl n := ⟨BX.later h.1 hb, h.2⟩
theorem SX.drewN_later {w w' : World} {a n : Nat} {wl : List Nat} {rl : List Int} (h : SX w a wl rl n) (k : Nat) (hb : Below (w.drewN k).heap.size (w.drewN k) w') : SX w' a wl rl n := SX.later (w := w.drewN k) h hb
theorem wpAny_seq_from {P : Program} {md : Region.Mode} {ops : Array Oper} {Q : Exit → Act → World → Prop} {listed : Array Bool} {a : Act} {w : World} (k g : Nat) (hz : ops.size = k + g) (hB : Region.seqB md ops g k listed = true) (h : wpList P ops Q (ops.toList.drop k) a w) : wpAny P md ops Q g listed a w := by
  have hl : (ops.toList.drop k).length = g := by rw [List.length_drop, Array.length_toList, hz]; omega
  have := wpAny_of_seq (P := P) (md := md) (Q' := Q) (ops.toList.drop k) k listed a w (fun j => by rw [List.getElem?_drop, Array.getElem?_toList]) (by rw [hl]; exact hB) h
  rwa [hl] at this
theorem oth_sets {Z : Nat} : ∀ (vs : List Value) (o : Nat) {w w' : World}, Oth Z w w' → Oth Z w (w'.setCells Z o vs)
  | [], _, _, _, h => h
  | v :: vs, o, _, _, h => oth_sets vs (o + 1) (h.setCell o v)
/-- What a pass over the bytes owes. -/
theorem write_any (Z : Nat) (A : Option Addr) (n c : Nat) (xs ys : List Int) (w : World) (kt : ∀ W, Oth Z w W → KT W) (hs : SX w Z (Dg.sw xs).l (Dg.rest xs) xs.length) (hx : Byt xs) (hr : RN w Z A n ys) (hy : Byt ys) (hc : n ≤ c) (hc2 : c ≤ maxLen) (hn : xs.length + n ≤ 100000) :
    Calls Tryd.prog 10 #[.pointer (some ⟨Z, 0, none⟩), .slice A n c] w fun e w' => e = .returned (.tuple #[]) ∧ SX w' Z (Dg.sw (xs ++ ys)).l (Dg.rest (xs ++ ys)) (xs ++ ys).length ∧ Oth Z w w' := by
  have im := Lib.hid (isMade_any Z w hs.made)
  have KTH := Lib.hid kt
  have HSX := Lib.hid hs
  have HX := Lib.hid hx; have HR := Lib.hid hr; have HY := Lib.hid hy
  have HN := Lib.hid hn
  have hyl := hr.1
  have HYL := Lib.hid hyl
  clear kt hs hx hr hy hn hyl
  go_enter Tryd.func10, Tryd.ntmps10
  go_wp2_with (go_at_call 19; (with_reducible refine (im.out).mono ?_); rintro e w1 ⟨rfl, rfl⟩)
  go_loopw [1] (fun v wr => ∃ (k m c' : Nat) (A' : Option Addr), k + m = n ∧ v = .slice A' m c' ∧ m ≤ c' ∧ c' ≤ maxLen ∧ SX wr Z (Dg.sw (xs ++ ys.take k)).l (Dg.rest (xs ++ ys.take k)) (xs ++ ys.take k).length ∧ RN wr Z A' m (ys.drop k) ∧ Oth Z w wr) (fun v _ => lenV v)
  case atStart => exact ⟨0, n, c, A, by omega, rfl, hc, hc2, by simpa using HSX.out, by simpa using HR.out, Oth.refl _ _⟩
  case round =>
    obtain ⟨k, m, c', A', hkm, rfl, hm, hc2', hs, hr, ho⟩ := hrel
    clear HSX HR im
    by_cases hm0 : m = 0
    · subst hm0
      obtain rfl : k = n := by omega
      rw [List.take_of_length_le (by rw [HYL.out]; exact Nat.le_refl _)] at hs
      have HS := Lib.hid hs; have HO := Lib.hid ho
      clear hs hr ho
      go_wp2
      refine bodyPost_end (v := .tuple #[]) (by simp [results, Tryd.f10, go_sem]) rfl ⟨rfl, HS.out, HO.out⟩
    · have hxk : Byt (xs ++ ys.take k) := HX.out.append (fun j => by
        by_cases h : j < k
        · have := HY.out j; simpa [List.getD_eq_getElem?_getD, List.getElem?_take, h] using this
        · simp [List.getD_eq_getElem?_getD, List.getElem?_take, h])
      have hyk : Byt (ys.drop k) := HY.out.drop k
      have hxl : (xs ++ ys.take k).length + m ≤ 100000 := by have := HN.out; have := HYL.out; rw [List.length_append, List.length_take]; omega
      have hdl : (ys.drop k).length = m := hr.1
      obtain ⟨X, hX⟩ : ∃ X, xs ++ ys.take k = X := ⟨_, rfl⟩
      obtain ⟨Y, hY⟩ : ∃ X, ys.drop k = X := ⟨_, rfl⟩
      have hjoin : ∀ t, xs ++ ys.take (k + t) = X ++ Y.take t := fun t => by rw [← hX, ← hY, List.append_assoc, List.take_add]
      have hdrop : ∀ t, ys.drop (k + t) = Y.drop t := fun t => by rw [← hY, List.drop_drop]
      have HJ := Lib.hid hjoin; have HD := Lib.hid hdrop
      rw [hX] at hs hxk hxl
      rw [hY] at hr hyk hdl
      clear hX hY hjoin hdrop
      obtain ⟨N, hN⟩ : ∃ N, X.length = N := ⟨_, rfl⟩
      obtain ⟨q, hq⟩ : ∃ q, N % 64 = q := ⟨_, rfl⟩
      obtain ⟨t, ht⟩ : ∃ t, min (64 - q) m = t := ⟨_, rfl⟩
      rw [hN] at hs hxl
      have hq64 : q < 64 := by omega
      have hpl := Dg.put_len X Y t (by omega) (by rw [hN]; omega)
      have hpb := Dg.put_byt t (by omega) hxk hyk
      have hpi := Dg.put_in X Y t (by omega)
      have hpf := Dg.put_full X Y t (by omega)
      have hput : Dg.put X Y t = (Dg.rest X).take q ++ Y.take t ++ (Dg.rest X).drop (q + (Y.take t).length) := by
        unfold Dg.put
        rw [hN, hq, List.length_take, show min t Y.length = t from by omega]
      have hsp := scs_splice (wl := (Dg.sw X).l) (rl := Dg.rest X) (n := N) rfl (Dg.rest_len X) q (Y.take t) (by rw [List.length_take]; omega)
      rw [← hput] at hsp
      rw [hN, hq] at hpi hpf
      have hst := Dg.sw_ok X
      generalize Dg.put X Y t = R at *
      generalize Dg.rest X = R0 at *
      generalize Dg.sw X = st at *
      have HSP := Lib.hid hsp
      have HTL := Lib.hid (show ((Y.take t).map vb).length = t by rw [List.length_map, List.length_take]; omega)
      have HFL := Lib.hid (scs_len (m := true) (n := N) hs.2.1 hs.2.2)
      have cn := hs.cnt
      have HS := Lib.hid hs; have HR := Lib.hid hr; have HO := Lib.hid ho
      have cq : ((N : Int)) % 64 = (q : Int) := by omega
      have cq2 : ((N : Int)).tmod 64 = (q : Int) := by rw [Int.tmod_eq_emod_of_nonneg (by omega)]; omega
      have hq1 : ¬ 64 = q := by omega
      have hq2 : (q : Int) ≤ 64 := by omega
      have hmpos : (0 : Int) < (m : Int) := by omega
      have src : 0 < ((Y.take t).map vb).length → ∃ ad, A' = some ad ∧ ∀ j v, ((Y.take t).map vb)[j]? = some v → wr.drew.cell? (ad.add j) = some v := fun h0 => by
        rw [HTL.out] at h0
        obtain ⟨b, o, rfl, hb, hz, hcell⟩ := hr.2 (by omega)
        refine ⟨_, rfl, fun j v hj => ?_⟩
        have hjl := (List.getElem?_eq_some_iff.1 hj).1
        rw [HTL.out] at hjl
        rw [Lib.add_plain]
        have h1 : wr.cell? ⟨b, o + j, none⟩ = some v := by
          rw [hcell j (by omega), ← hj]
          simp [vb, hjl, List.getD_eq_getElem?_getD, List.getElem?_eq_getElem (show j < Y.length by omega)]
        exact h1
      have SRC := Lib.hid src
      have HPI := Lib.hid hpi; have HPF := Lib.hid hpf; have HPL := Lib.hid hpl; have HPB := Lib.hid hpb; have HST := Lib.hid hst; have HHN := Lib.hid hN
      have HTM : Hid (min (64 - q) m = t) := ht
      clear hs hr ho hpi hpf hpl hpb hsp hput src hst hN hdl hxk hyk ht hq
      go_upto_region 2 with (fail)
      go_still_tail 10, (by kernel_rfl)
      repeat still_step
      refine wpList_copy_keep rfl (.tmp 19) (.tmp 20) 22 22 rfl 5 Tryd.underlying22 (by kernel_rfl) (some ⟨Z, 9 + q, none⟩) A' (64 - q) (64 - q) m c' rfl rfl Z (9 + q) (scs true st.l R0 N) 43 HS.out.1 ((Y.take t).map vb) (by rw [HTL.out, ← HTM.out]; exact Nat.min_comm _ _) (fun h0 => ⟨rfl, SRC.out h0⟩) (by rw [HTL.out, HFL.out]; have := HTM.out; omega) (vb_one _) ?_
      intro w2 hw2 ho2
      rw [HTL.out]
      rw [HSP.out] at hw2
      have ho3 : Oth Z w w2 := HO.out.trans ho2.out
      have hr3 : RN w2 Z A' m Y := HR.out.oth ho2.out
      have hs3 : SX w2 Z st.l R N := ⟨hw2.out, rfl, HPL.out⟩
      obtain ⟨N2, hN2⟩ : ∃ N2, N + t = N2 := ⟨_, rfl⟩
      have hs4 := hs3.setn N2
      have ho4 := ho3.setCell 73 (.int .u64 (N2 : Int))
      have hr4 : RN (w2.setCell ⟨Z, 73, none⟩ (.int .u64 (N2 : Int))) Z A' m Y := hr3.oth (Oth.setCell (Oth.refl _ _) _ _)
      have cn2 := hs3.cnt
      have fn2 := BX.free hs3.1 73
      have htm : t ≤ m := by have := HTM.out; omega
      have htq : q + t ≤ 64 := by have := HTM.out; omega
      have t1 : IntKind.u64.wrap (t : Int) = (t : Int) := by rw [IntKind.wrap_u64]; omega
      have t2 : IntKind.u64.wrap ((N : Int) + (t : Int)) = (N2 : Int) := by rw [IntKind.wrap_u64]; omega
      have htp : 0 < t := by have := HTM.out; omega
      have hmt : t = m ∨ q + t = 64 := by have := HTM.out; omega
      have HXN : Hid ((X ++ Y.take t).length = N2) := by show _ = _; rw [List.length_append, List.length_take, HHN.out, hr3.1]; omega
      have HS4 := Lib.hid hs4; have HO4 := Lib.hid ho4; have HR3 := Lib.hid hr3
      have HFIN := Lib.hid (show ∀ (A2 : Option Addr) (c2 : Nat) (W : World), SX W Z (Dg.sw (X ++ Y.take t)).l (Dg.rest (X ++ Y.take t)) N2 → RN W Z A2 (m - t) (Y.drop t) → Oth Z w W → m - t ≤ c2 → c2 ≤ maxLen → ∃ (k' m' c'' : Nat) (A'' : Option Addr), k' + m' = n ∧ Value.slice A2 (m - t) c2 = .slice A'' m' c'' ∧ m' ≤ c'' ∧ c'' ≤ maxLen ∧ SX W Z (Dg.sw (xs ++ ys.take k')).l (Dg.rest (xs ++ ys.take k')) (xs ++ ys.take k').length ∧ RN W Z A'' m' (ys.drop k') ∧ Oth Z w W from fun A2 c2 W h1 h2 h3 h4 h5 =>
        ⟨k + t, m - t, c2, A2, by omega, rfl, h4, h5, by rw [HJ.out, HXN.out]; exact h1, by rw [HD.out]; exact h2, h3⟩)
      clear hs3 ho3 hr3 hs4 ho4 hr4 HSP HTL HFL SRC HS HR HO hw2 ho2 cn HXN HJ HD
      go_upto_region 3 with (fail)
      go_cut [1] (fun v wx => ∃ (A2 : Option Addr) (c2 : Nat), v = .slice A2 (m - t) c2 ∧ RN w2 Z A2 (m - t) (Y.drop t) ∧ m - t ≤ c2 ∧ c2 ≤ maxLen ∧ w2 = wx)
      case first =>
        by_cases hct : c' = t
        · subst hct
          have hd0 : m = c' := by omega
          subst hd0
          go_wp2
          go_meet
          exact ⟨A', 0, by simp, ⟨by rw [List.length_drop, HR3.out.1], fun h => absurd h (by omega)⟩, by omega, Nat.zero_le _, rfl⟩
        · have htc : t ≤ c' := by omega
          go_wp2
          go_meet
          exact ⟨_, c' - t, rfl, HR3.out.add htm, by omega, by omega, rfl⟩
      case rest =>
        obtain ⟨A2, c2, rfl, hr5, hmc2, hc22, rfl⟩ := hcut
        have HR5 := Lib.hid (hr5.oth (Oth.setCell (Oth.refl Z w2) 73 (.int .u64 (N2 : Int))))
        have HF2 := Lib.hid (show ∀ W, SX W Z (Dg.sw (X ++ Y.take t)).l (Dg.rest (X ++ Y.take t)) N2 → RN W Z A2 (m - t) (Y.drop t) → Oth Z w W → _ from fun W h1 h2 h3 => HFIN.out A2 c2 W h1 h2 h3 hmc2 hc22)
        have hlt : m - t < m := by omega
        clear hr5 HFIN HR3
        by_cases hqt : q + t = 64
        · obtain ⟨e1, e2⟩ := HPF.out hqt
          have m2 : ((N2 : Int)).tmod 64 = 0 := by rw [Int.tmod_eq_emod_of_nonneg (by omega)]; omega
          have m3 : ((N2 : Int)) % 64 = 0 := by omega
          rw [e1, e2] at HF2
          obtain ⟨RL, hRL⟩ : ∃ RL, R.map vb = RL := ⟨_, rfl⟩
          have tirl : (Tryd.prog.info? 41).map (·.size) = some RL.length := by rw [← hRL, List.length_map, HPL.out]; kernel_rfl
          have bh := Lib.hid (show ∀ W, KT W → Calls Tryd.prog 20 #[.agg #[.int .u32 (st.a : Int), .int .u32 (st.b : Int), .int .u32 (st.c : Int), .int .u32 (st.d : Int), .int .u32 (st.e : Int), .int .u32 (st.f : Int), .int .u32 (st.g : Int), .int .u32 (st.h : Int)], .agg RL.toArray] W fun e w' => e = .returned (.agg ((Dg.cmp st R).l.map vw).toArray) ∧ Below W.heap.size W w' from fun W k => by rw [← hRL]; exact behind_any st R W k HST.out HPL.out HPB.out)
          generalize Dg.cmp st R = cm at *
          have bh2 := Lib.hid (show ∀ W, KT W → Calls Tryd.prog 20 #[.agg #[.int .u32 (st.a : Int), .int .u32 (st.b : Int), .int .u32 (st.c : Int), .int .u32 (st.d : Int), .int .u32 (st.e : Int), .int .u32 (st.f : Int), .int .u32 (st.g : Int), .int .u32 (st.h : Int)], .agg RL.toArray] W fun e w' => e = .returned (.agg #[.int .u32 (cm.a : Int), .int .u32 (cm.b : Int), .int .u32 (cm.c : Int), .int .u32 (cm.d : Int), .int .u32 (cm.e : Int), .int .u32 (cm.f : Int), .int .u32 (cm.g : Int), .int .u32 (cm.h : Int)]) ∧ Below W.heap.size W w' from bh.out)
          have RLH := Lib.hid hRL
          have hN2b : N2 ≤ 200000 := by omega
          have KT3 := Lib.hid (show KT ((w2.setCell ⟨Z, 73, none⟩ (.int .u64 (N2 : Int))).drew) from KTH.out _ (HO4.out.drewN 1))
          clear HPI HPF hN2 cq cq2 e1 e2 hRL bh hmt
          go_upto_region 6 with (fail)
          generalize w2.setCell ⟨Z, 73, none⟩ (.int .u64 (N2 : Int)) = W3 at *
          clear cn2 fn2
          have prd : W3.drew.rangeAt Z 9 RL := by rw [← RLH.out]; exact HS4.out.left
          have p0 : W3.cell? ⟨Z, 1, none⟩ = some (.int .u32 (st.a : Int)) := HS4.out.words 0 _ rfl; have p1 : W3.cell? ⟨Z, 2, none⟩ = some (.int .u32 (st.b : Int)) := HS4.out.words 1 _ rfl; have p2 : W3.cell? ⟨Z, 3, none⟩ = some (.int .u32 (st.c : Int)) := HS4.out.words 2 _ rfl; have p3 : W3.cell? ⟨Z, 4, none⟩ = some (.int .u32 (st.d : Int)) := HS4.out.words 3 _ rfl; have p4 : W3.cell? ⟨Z, 5, none⟩ = some (.int .u32 (st.e : Int)) := HS4.out.words 4 _ rfl; have p5 : W3.cell? ⟨Z, 6, none⟩ = some (.int .u32 (st.f : Int)) := HS4.out.words 5 _ rfl; have p6 : W3.cell? ⟨Z, 7, none⟩ = some (.int .u32 (st.g : Int)) := HS4.out.words 6 _ rfl; have p7 : W3.cell? ⟨Z, 8, none⟩ = some (.int .u32 (st.h : Int)) := HS4.out.words 7 _ rfl
          go_cut [0] (fun v wx => v = .pointer (some ⟨Z, 0, none⟩) ∧ SX wx Z cm.l R N2 ∧ Oth Z W3 wx)
          case first =>
            refine wp_region_any (by kernel_rfl) ?_
            change wpAny _ _ _ _ _ _ _ (World.drew _)
            refine wpAny_take (i := 0) (oi := { dst := some 40, op := Op.move (Operand.tmp 0), type := 30, pos := "digest.go:75", after := #[], guard := none }) (v := .pointer (some ⟨Z, 0, none⟩)) rfl (by kernel_rfl) (by kernel_rfl) (by kernel_rfl) (fun _ _ _ h => h) (Or.inl ⟨by rfl, fun w => by go_simp⟩) ?_
            simp only [Act.put, List.setIfInBounds_toArray, List.set_cons_zero, List.set_cons_succ]
            refine wpAny_take (i := 1) (oi := { dst := some 41, op := Op.move (Operand.tmp 0), type := 30, pos := "digest.go:75", after := #[], guard := none }) (v := .pointer (some ⟨Z, 0, none⟩)) rfl (by kernel_rfl) (by kernel_rfl) (by kernel_rfl) (fun _ _ _ h => h) (Or.inl ⟨by rfl, fun w => by go_simp⟩) ?_
            simp only [Act.put, List.setIfInBounds_toArray, List.set_cons_zero, List.set_cons_succ]
            refine wpAny_take (i := 2) (oi := { dst := some 42, op := Op.nilCheck (Operand.tmp 41), type := 0, pos := "digest.go:75", after := #[{ on := 1, ground := Ground.data }], guard := none }) (v := .pointer (some ⟨Z, 0, none⟩)) rfl (by kernel_rfl) (by kernel_rfl) (by kernel_rfl) (fun _ _ _ h => h) (Or.inl ⟨by rfl, fun w => by go_simp⟩) ?_
            simp only [Act.put, List.setIfInBounds_toArray, List.set_cons_zero, List.set_cons_succ]
            refine wpAny_take (i := 3) (oi := { dst := some 43, op := Op.fieldAddr 43 (Operand.tmp 42) 1, type := 0, pos := "digest.go:75", after := #[{ on := 2, ground := Ground.data }], guard := none }) (v := .pointer (some ⟨Z, 1, none⟩)) rfl (by kernel_rfl) (by kernel_rfl) (by kernel_rfl) (fun _ _ _ h => h) (Or.inl ⟨by rfl, fun w => by go_simp⟩) ?_
            simp only [Act.put, List.setIfInBounds_toArray, List.set_cons_zero, List.set_cons_succ]
            refine wpAny_take (i := 5) (oi := { dst := some 45, op := Op.move (Operand.tmp 0), type := 30, pos := "digest.go:75", after := #[], guard := none }) (v := .pointer (some ⟨Z, 0, none⟩)) rfl (by kernel_rfl) (by kernel_rfl) (by kernel_rfl) (fun _ _ _ h => h) (Or.inl ⟨by rfl, fun w => by go_simp⟩) ?_
            simp only [Act.put, List.setIfInBounds_toArray, List.set_cons_zero, List.set_cons_succ]
            refine wpAny_take (i := 6) (oi := { dst := some 46, op := Op.nilCheck (Operand.tmp 45), type := 0, pos := "digest.go:75", after := #[{ on := 5, ground := Ground.data }], guard := none }) (v := .pointer (some ⟨Z, 0, none⟩)) rfl (by kernel_rfl) (by kernel_rfl) (by kernel_rfl) (fun _ _ _ h => h) (Or.inl ⟨by rfl, fun w => by go_simp⟩) ?_
            simp only [Act.put, List.setIfInBounds_toArray, List.set_cons_zero, List.set_cons_succ]
            refine wpAny_take (i := 7) (oi := { dst := some 47, op := Op.fieldAddr 43 (Operand.tmp 46) 2, type := 0, pos := "digest.go:75", after := #[{ on := 6, ground := Ground.data }], guard := none }) (v := .pointer (some ⟨Z, 9, none⟩)) rfl (by kernel_rfl) (by kernel_rfl) (by kernel_rfl) (fun _ _ _ h => h) (Or.inl ⟨by rfl, fun w => by go_simp⟩) ?_
            simp only [Act.put, List.setIfInBounds_toArray, List.set_cons_zero, List.set_cons_succ]
            refine wpAny_ready (rs := [4, 8]) (by kernel_rfl) (by simp) ?_
            refine AllReady.cons (o := { dst := some 44, op := Op.load 40 (Operand.tmp 43), type := 40, pos := "digest.go:75", after := #[{ on := 3, ground := Ground.data }], guard := none }) rfl (fun K hK => ?_) ?_
            · go_simp
              refine hK _ _ ?_
              clear hK K
              try simp only [Act.put]
              refine wpAny_ready (rs := [8]) (by kernel_rfl) (by simp) ?_
              refine AllReady.cons (o := { dst := some 48, op := Op.load 41 (Operand.tmp 47), type := 41, pos := "digest.go:75", after := #[{ on := 7, ground := Ground.data }], guard := none }) rfl (fun K hK => ?_) AllReady.nil
              rw [if_pos (by rfl)]
              refine wp_load_mid 41 (.tmp 47) rfl Z 9 rfl RL _ prd Tryd.underlying41 rfl tirl ?_
              refine hK _ _ ?_
              clear hK K
              try simp only [Act.put]
              refine wpAny_seq_from 9 4 rfl (by kernel_rfl) ?_
              try simp only [List.drop_succ_cons, List.drop_zero]
              go_wp2_with (first
                | (go_at_call 20; (with_reducible refine (bh2.out _ KT3.out).mono ?_); rintro e w4 ⟨rfl, hb4⟩; have HB4 := Lib.hid hb4; have HX4 := Lib.hid (SX.later (w := W3.drew) HS4.out hb4); have g0 : w4.cell? ⟨Z, 1, none⟩ = some (.int .u32 (st.a : Int)) := HX4.out.words 0 _ rfl; have g1 : w4.cell? ⟨Z, 2, none⟩ = some (.int .u32 (st.b : Int)) := HX4.out.words 1 _ rfl; have g2 : w4.cell? ⟨Z, 3, none⟩ = some (.int .u32 (st.c : Int)) := HX4.out.words 2 _ rfl; have g3 : w4.cell? ⟨Z, 4, none⟩ = some (.int .u32 (st.d : Int)) := HX4.out.words 3 _ rfl; have g4 : w4.cell? ⟨Z, 5, none⟩ = some (.int .u32 (st.e : Int)) := HX4.out.words 4 _ rfl; have g5 : w4.cell? ⟨Z, 6, none⟩ = some (.int .u32 (st.f : Int)) := HX4.out.words 5 _ rfl; have g6 : w4.cell? ⟨Z, 7, none⟩ = some (.int .u32 (st.g : Int)) := HX4.out.words 6 _ rfl; have g7 : w4.cell? ⟨Z, 8, none⟩ = some (.int .u32 (st.h : Int)) := HX4.out.words 7 _ rfl; have k0 := BX.free HX4.out.1 1; have k1 := BX.free HX4.out.1 2; have k2 := BX.free HX4.out.1 3; have k3 := BX.free HX4.out.1 4; have k4 := BX.free HX4.out.1 5; have k5 := BX.free HX4.out.1 6; have k6 := BX.free HX4.out.1 7; have k7 := BX.free HX4.out.1 8; clear hb4))
              go_meet
              exact ⟨rfl, HX4.out.setw (wl' := cm.l) rfl, (((((((((Oth.ofBelow (a := Z) HB4.out).setCell _ _).setCell _ _).setCell _ _).setCell _ _).setCell _ _).setCell _ _).setCell _ _).setCell _ _)⟩
            · refine AllReady.cons (o := { dst := some 48, op := Op.load 41 (Operand.tmp 47), type := 41, pos := "digest.go:75", after := #[{ on := 7, ground := Ground.data }], guard := none }) rfl (fun K hK => ?_) AllReady.nil
              rw [if_pos (by rfl)]
              refine wp_load_mid 41 (.tmp 47) rfl Z 9 rfl RL _ prd Tryd.underlying41 rfl tirl ?_
              refine hK _ _ ?_
              clear hK K
              try simp only [Act.put]
              refine wpAny_ready (rs := [4]) (by kernel_rfl) (by simp) ?_
              refine AllReady.cons (o := { dst := some 44, op := Op.load 40 (Operand.tmp 43), type := 40, pos := "digest.go:75", after := #[{ on := 3, ground := Ground.data }], guard := none }) rfl (fun K hK => ?_) AllReady.nil
              go_simp
              refine hK _ _ ?_
              clear hK K
              try simp only [Act.put]
              refine wpAny_seq_from 9 4 rfl (by kernel_rfl) ?_
              try simp only [List.drop_succ_cons, List.drop_zero]
              go_wp2_with (first
                | (go_at_call 20; (with_reducible refine (bh2.out _ KT3.out).mono ?_); rintro e w4 ⟨rfl, hb4⟩; have HB4 := Lib.hid hb4; have HX4 := Lib.hid (SX.later (w := W3.drew) HS4.out hb4); have g0 : w4.cell? ⟨Z, 1, none⟩ = some (.int .u32 (st.a : Int)) := HX4.out.words 0 _ rfl; have g1 : w4.cell? ⟨Z, 2, none⟩ = some (.int .u32 (st.b : Int)) := HX4.out.words 1 _ rfl; have g2 : w4.cell? ⟨Z, 3, none⟩ = some (.int .u32 (st.c : Int)) := HX4.out.words 2 _ rfl; have g3 : w4.cell? ⟨Z, 4, none⟩ = some (.int .u32 (st.d : Int)) := HX4.out.words 3 _ rfl; have g4 : w4.cell? ⟨Z, 5, none⟩ = some (.int .u32 (st.e : Int)) := HX4.out.words 4 _ rfl; have g5 : w4.cell? ⟨Z, 6, none⟩ = some (.int .u32 (st.f : Int)) := HX4.out.words 5 _ rfl; have g6 : w4.cell? ⟨Z, 7, none⟩ = some (.int .u32 (st.g : Int)) := HX4.out.words 6 _ rfl; have g7 : w4.cell? ⟨Z, 8, none⟩ = some (.int .u32 (st.h : Int)) := HX4.out.words 7 _ rfl; have k0 := BX.free HX4.out.1 1; have k1 := BX.free HX4.out.1 2; have k2 := BX.free HX4.out.1 3; have k3 := BX.free HX4.out.1 4; have k4 := BX.free HX4.out.1 5; have k5 := BX.free HX4.out.1 6; have k6 := BX.free HX4.out.1 7; have k7 := BX.free HX4.out.1 8; clear hb4))
              go_meet
              exact ⟨rfl, HX4.out.setw (wl' := cm.l) rfl, (((((((((Oth.ofBelow (a := Z) HB4.out).setCell _ _).setCell _ _).setCell _ _).setCell _ _).setCell _ _).setCell _ _).setCell _ _).setCell _ _)⟩
          case rest =>
            obtain ⟨rfl, hs6, ho6⟩ := hcut
            have HS6 := Lib.hid hs6; have HO6 := Lib.hid (HO4.out.trans ho6); have HR6 := Lib.hid (HR5.out.oth ho6)
            clear hs6 ho6 HS4 HO4 HR5
            obtain ⟨ZS, hZS⟩ : ∃ ZS : List Value, (List.replicate 64 (0 : Int)).map vb = ZS := ⟨_, rfl⟩
            have hzl : ZS.length = 64 := by rw [← hZS]; rfl
            have HZS := Lib.hid hZS
            have HONE := Lib.hid (show ∀ v ∈ ZS, v.oneCell' = true by rw [← hZS]; exact vb_one _)
            have HTH := Lib.hid (show wc.there Z 9 ZS.toArray.size by rw [List.size_toArray, hzl]; exact HS6.out.lthere)
            have HTI := Lib.hid (show (Tryd.prog.info? 41).map (·.size) = some ZS.toArray.size by rw [List.size_toArray, hzl]; kernel_rfl)
            have HS7 := Lib.hid (show SX (wc.setCells Z 9 ZS.toArray.toList) Z cm.l (List.replicate 64 0) N2 by rw [← hZS]; exact HS6.out.setl (rl' := List.replicate 64 0) rfl)
            have HO7 := Lib.hid (oth_sets ZS.toArray.toList 9 HO6.out)
            have HR7 := Lib.hid (HR6.out.oth (oth_sets ZS.toArray.toList 9 (Oth.refl Z wc)))
            clear hZS hzl HS6 HO6 HR6
            go_upto_region 7 with (fail)
            refine wp_region_lit ?_
            refine wpList_plain rfl (fun K hK => ?_)
            go_simp
            refine hK _ _ ?_
            clear hK K
            refine wpList_build_to rfl 41 #[] rfl ZS.toArray (by rw [← HZS.out]; kernel_rfl) ?_
            try simp only [Act.put]
            refine wpList_plain rfl (fun K hK => ?_)
            go_simp
            refine hK _ _ ?_
            clear hK K
            refine wpList_plain rfl (fun K hK => ?_)
            go_simp
            refine hK _ _ ?_
            clear hK K
            refine wpList_store_mid rfl 41 (.tmp 55) (.tmp 53) rfl Z 9 ZS.toArray rfl rfl HTH.out HTI.out (all_oneCell_toArray HONE.out) ?_
            try simp only [Act.put]
            refine wpList_nil ?_
            clear HZS HTH HTI HONE
            generalize wc.setCells Z 9 ZS.toArray.toList = W8 at *
            go_wp2
            go_roundw
            case rel => exact HF2.out _ HS7.out HR7.out HO7.out
            case measure => simp only [lenV]; omega
        · obtain ⟨e1, e2⟩ := HPI.out (by omega)
          obtain ⟨r, hr⟩ : ∃ r, N2 % 64 = r := ⟨_, rfl⟩
          have hr0 : r ≠ 0 := by omega
          have m2 : ((N2 : Int)).tmod 64 = (r : Int) := by rw [Int.tmod_eq_emod_of_nonneg (by omega)]; omega
          have m3 : ((N2 : Int)) % 64 = (r : Int) := by omega
          have m4 : ((r : Int) == 0) = false := by simp; omega
          have m5 : ¬ (r : Int) = 0 := by omega
          rw [e1, e2] at HF2
          have hN2b : N2 ≤ 200000 := by omega
          clear hmt HPI HPF hN2 hr cq cq2 e1 e2
          go_wp2
          go_roundw
          case rel => exact HF2.out _ HS4.out HR5.out HO4.out
          case measure => simp only [lenV]; omega
end Go.Proofs.YtfggknplekiaoaaDoor
