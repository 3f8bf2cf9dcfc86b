/- WALKS OF LAYER 13, FIFTEENTH PART: Rename. -/
import Derived.Test.YtbianfjennnofaaGreatDoorG13n
import Derived.Test.YtbianfjennnofaaGreatDoorGy1
namespace Go.Proofs.YtbianfjennnofaaGreatDoor
set_option linter.unusedVariables false
open Go Go.RowKit Go.Maps
set_option maxRecDepth 100000
set_option maxHeartbeats 16000000
open Nt (Tr Nd WF Ps Path at_ cnt used)
section
variable {F : Nat → Prop} {K tb : Nat} {w w' : World} {T : Tr} {ad mb : Nat → Nat}
theorem eqp_nil (w : World) (a : Nat) : (binOp .eql 87 (.pointer none) (.pointer (some ⟨a, 0, none⟩))).run Tryz.prog w = .ok (.bool false) w := by
  have h : ∀ d : Nat, (Op.equalIn (d + 1) 87 (.pointer none) (.pointer (some ⟨a, 0, none⟩))).run Tryz.prog w = .ok false w := fun d => by
    simp [Op.equalIn, run_underlying Tryz.underlying87]
  simp only [binOp]
  simp [Op.equal, Op.maxDepth, h 9999]
theorem rename_any (hW : WF T K) (hK : K ≤ 100000) (hR : RepP F K w tb T ad mb) (f t : ByteArray) (hp : f.size ≤ 100000) (hp2 : t.size ≤ 100000) :
    Calls Tryz.prog 47 #[.pointer (some ⟨tb, 0, none⟩), .string f, .string t] w fun e w' => Done F K w w' tb (T.rn f t) e := by
  obtain ⟨rf, hrf⟩ := Pp.last_ex f f.size (Nat.le_refl _)
  obtain ⟨rt, hrt⟩ := Pp.last_ex t t.size (Nat.le_refl _)
  have HR := Lib.hid hR
  have kf := Lib.hid (fun W (h : RepP F K W tb T ad mb) => find_any hW h f (by omega))
  have kto := Lib.hid (fun W (h : RepP F K W tb T ad mb) => placeOf_any hW h t (by omega) rt hrt)
  have kfo := Lib.hid (fun W (h : RepP F K W tb T ad mb) => placeOf_any hW h f (by omega) rf hrf)
  have ku := Lib.hid (fun W => under_any t f W (by omega) hp)
  have kt := Lib.hid (fun W (h : RepP F K W tb T ad mb) => show W.cell? ⟨tb, 0, none⟩ = some (.pointer (some ⟨ad 0, 0, none⟩)) from h.tree.cell rfl)
  have hrn : T.rn f t = if T.rnE f t = 0 then (T.rn1 (Pp.pieces f) (Pp.pieces t), 0) else if T.rnE f t = -1 then (T, 0) else (T, T.rnE f t) := rfl
  rw [hrn]
  clear hrn
  by_cases hc : (T.find f).2 = 0
  · have hj := (hW.find_ok hc).2
    have hfd : T.find f = ((T.find f).1, 0) := by rw [← hc]
    have hroot := hW.find_root hc
    by_cases h0 : f.size = 0
    · have hE : T.rnE f t = 1 := by unfold Tr.rnE; rw [if_neg (by simp [hc]), if_pos (hroot.2 h0)]
      rw [hE, if_neg (by decide), if_neg (by decide)]
      rw [hroot.2 h0] at hfd hj
      rw [hfd] at kf
      simp only [fv, if_pos, ptrv] at kf
      have kq := Lib.hid (fun W (h : RepP F K W tb T ad mb) => eqp_same W (ad 0))
      clear hE hroot hfd hc
      go_enter Tryz.func47, Tryz.ntmps47
      go_wp2_with (go_at_call 66; refine (kf.out _ HR.out).mono ?_; rintro e w1 ⟨rfl, hb1⟩; have hR1 := Lib.hid (HR.out.later hb1); have t0 := kt.out w1 hR1.out; have eq0 := kq.out w1 hR1.out)
      go_ret
      exact Done.err HR.out hb1 1
    · obtain ⟨hpe, qf, yf, mf, e1, hyf, hmf, hkf, e2, e3, hn⟩ := found_place hW hc h0 hrf
      have hn0 : (T.find f).1 ≠ 0 := fun e => h0 (hroot.1 e)
      have hEE : T.rnE f t = if T.parE t ≠ 0 then T.parE t else match at_ T.paths (Pp.pieces t) with
          | some k => if k = (T.find f).1 then -1 else if (T.nd (T.find f).1).kind = 4 then 7 else if (T.nd k).kind = 4 then 13 else 0
          | none => if (T.nd (T.find f).1).kind = 4 then (if Pp.pieces f <+: Pp.pieces t then 1 else 0) else 0 := by
        unfold Tr.rnE
        rw [if_neg (by simp [hc]), if_neg hn0]
        rfl
      rw [e2, e3, hpe] at kfo
      rw [hfd] at kf
      rw [e1] at hn
      generalize (T.find f).1 = n at *
      simp only [fv, if_pos, ptrv] at kf
      have kq := Lib.hid (fun W (h : RepP F K W tb T ad mb) => show (binOp .eql 87 (.pointer (some ⟨ad n, 0, none⟩)) (.pointer (some ⟨ad 0, 0, none⟩))).run Tryz.prog W = .ok (.bool false) W from by
        have := h.eqp hn hW.root
        rw [decide_eq_false hn0] at this
        exact this)
      by_cases hpt : T.parE t = 0
      · obtain ⟨h1, q, x, m, e4, hx, hm, hk, e5⟩ := hW.par_ok hpt
        have e6 : baseS t rt = x := by
          have := base_last hrt
          rw [e4, List.dropLast_concat] at this
          simpa using (List.append_cancel_left this).symm
        rw [if_neg (by simp [hpt])] at hEE
        rw [hpt, e4, List.dropLast_concat, e5, e6] at kto
        have hfu : (restV t f).2 = true ↔ ∃ v, v ≠ [] ∧ Pp.pieces t = Pp.pieces f ++ v := Nt.rest_iff h0
        rw [e1, e4] at hEE hfu ⊢
        have hxl : x.size ≤ 60 := Nt.nm_le hx
        have hyl : yf.size ≤ 60 := Nt.nm_le hyf
        have kpn := Lib.hid (fun W (h : RepP F K W tb T ad mb) => pnode_any W (ad m) (mb m) K (T.nd m) _ _ x (h.dir hm hk) (h.map _ _ hm hk).2 (by unfold maxLen; omega))
        have kc := Lib.hid (fun W (h : RepP F K W tb T ad mb) => pclear_any W (ad mf) (mb mf) K (T.nd mf) _ _ yf (h.dir hmf hkf) (h.map _ _ hmf hkf).2 (by unfold maxLen; omega))
        have hM1 := Lib.hid (fun W V (h : RepP F K W tb T ad mb) (hm5 : MapAt V (mb mf) K (fun s => if s = yf then none else (at_ T.paths (qf ++ [s])).map ad)) (ho : Oth (mb mf) W V) => h.maps.turn h hW hmf hkf (Nat.le_refl _) (o := none) hm5 ho)
        have kp := Lib.hid (fun W V (h : RepP F K W tb T ad mb) (ho : Oth (mb mf) W V) (hM : MapsAt V K T ad mb (fun d s => if d ++ [s] = qf ++ [yf] then none else at_ T.paths (d ++ [s]))) => pput_any V (ad m) (mb m) K (ad n) (T.nd m) _ _ x ((h.dir hm hk).oth ho (h.ne_map hm hmf hkf)) (hM q m hm hk) (by omega) (by omega))
        have hM2 := Lib.hid (fun W V U (h : RepP F K W tb T ad mb) (ho : Oth (mb mf) W V) (hM : MapsAt V K T ad mb (fun d s => if d ++ [s] = qf ++ [yf] then none else at_ T.paths (d ++ [s]))) (hm6 : MapAt U (mb m) (K + 1) (fun s => if s = x then some (ad n) else ((if q ++ [s] = qf ++ [yf] then none else at_ T.paths (q ++ [s])) : Option Nat).map ad)) (ho6 : Oth (mb m) V U) => hM.turn h hW hm hk (Nat.le_succ K) (o := some n) hm6 ho6)
        have hDD := Lib.hid (fun W V U (h : RepP F K W tb T ad mb) (ho : Oth (mb mf) W V) (ho6 : Oth (mb m) V U) => show DS U U tb T ad mb T.paths from
          ⟨(h.tree.oth ho (h.tree_map hmf hkf)).oth ho6 (h.tree_map hm hk), fun p j hj => ((h.node p j hj).1.oth ho (h.ne_map hj hmf hkf)).oth ho6 (h.ne_map hj hm hk), Keep.refl _ _⟩)
        have hpn := Lib.hid (fun W (a : Nat) cs (h : RepP F K W tb T ad mb) (hx : BX W a 136 cs) => (h.map _ _ hmf hkf).2.ne_bx hx)
        obtain ⟨kn, hkn⟩ : ∃ kn, (T.nd n).kind = kn := ⟨_, rfl⟩
        have kk := Lib.hid (fun W (h : RepP F K W tb T ad mb) => show W.cell? ⟨ad n, 0, none⟩ = some (.int .i64 kn) from by rw [← hkn]; exact (h.node _ _ hn).1.cell rfl)
        cases ha : at_ T.paths (q ++ [x]) with
        | none =>
          rw [ha] at hEE kpn
          replace kpn : Hid (∀ W (h : RepP F K W tb T ad mb), Calls Tryz.prog 86 #[.agg #[.pointer (some ⟨ad m, 0, none⟩), .string x]] W fun e w' => e = .returned (.pointer none) ∧ Below W.heap.size W w') := kpn
          have hnob : ∀ r k, (r, k) ∈ T.paths → ¬ (q ++ [x]) <+: r := by
            rintro r k hr ⟨u, rfl⟩
            by_cases hu : u = []
            · subst hu
              rw [List.append_nil] at hr
              exact Nt.at_none ha _ hr
            · obtain ⟨j, h1, _⟩ := hW.pre u (q ++ [x]) k hu hr
              exact Nt.at_none ha _ h1
          have HN := Lib.hid hnob
          have kqn := Lib.hid (fun W => eqp_nil W (ad n))
          simp only at hEE
          by_cases hk4 : kn = 4
          · rw [if_pos (by rw [hkn]; exact hk4)] at hEE
            have g4 : (kn == 4) = true := by simp [hk4]
            by_cases hpre : (qf ++ [yf]) <+: (q ++ [x])
            · rw [if_pos hpre] at hEE
              have hE := hEE
              have hu : (restV t f).2 = true := by
                obtain ⟨v, hv⟩ := hpre
                refine hfu.2 ⟨v, fun e => ?_, hv.symm⟩
                subst e
                rw [List.append_nil] at hv
                rw [hv] at hn
                exact Nt.at_none ha _ hn
              rw [hu] at ku
              rw [hE, if_neg (by decide), if_neg (by decide)]
              clear hE hEE hroot hfd hc hn0 hpe hpt ha hnob hkn hk4 hfu hu hpre
              go_enter Tryz.func47, Tryz.ntmps47
              go_wp2_with (first
                        | (go_at_call 87; refine (ku.out _).mono ?_; rintro e w' ⟨rfl, rfl⟩)
                        | (go_at_call 86; refine (kpn.out _ hR2.out).mono ?_; rintro e w3 ⟨rfl, hb3⟩; have hR3 := Lib.hid (hR2.out.later hb3); have t1 := kk.out w3 hR3.out; have hpl := Lib.hid ((BX.new w2 136 #[.pointer (some ⟨ad m, 0, none⟩), .string x]).later hb3); have eqn := kqn.out w3)
                        | (go_at_call 85; refine (kto.out _ hR1.out).mono ?_; rintro e w2 ⟨⟨v, rfl, hv, _⟩, hb2⟩; obtain rfl := hv (by simp); have hR2 := Lib.hid ((hR1.out.later hb2).later (below_new w2 (.cells #[.pointer (some ⟨ad m, 0, none⟩), .string x] 136))))
                        | (go_at_call 66; refine (kf.out _ HR.out).mono ?_; rintro e w1 ⟨rfl, hb1⟩; have hR1 := Lib.hid (HR.out.later hb1); have t0 := kt.out w1 hR1.out; have eq0 := kq.out w1 hR1.out))
              go_ret
              exact Done.err HR.out (bthen (bthen (bthen hb1 hb2) (below_new w2 (.cells #[.pointer (some ⟨ad m, 0, none⟩), .string x] 136))) hb3) 1
            · rw [if_neg hpre] at hEE
              have hE := hEE
              have hu : (restV t f).2 = false := by
                cases h : (restV t f).2 with
                | false => rfl
                | true =>
                  obtain ⟨v, _, hv⟩ := hfu.1 h
                  exact absurd ⟨v, hv.symm⟩ hpre
              rw [hu] at ku
              have hV := Lib.hid (Nt.Mv.ok hW hn (by simp) rfl hx hm hk (fun k hk => by rw [ha] at hk; cases hk) (fun _ => hpre))
              rw [hE, if_pos rfl]
              clear hE hEE hroot hfd hc hn0 hpe hpt ha hnob hkn hk4 hfu hu hpre
              go_enter Tryz.func47, Tryz.ntmps47
              go_wp2_with (first
                        | (go_at_call 82; refine (kp.out _ _ hR4.out ho5 hM5.out).mono ?_; rintro e w6 ⟨rfl, hm6, ho6⟩)
                        | (go_at_call 88; refine (kc.out _ hR4.out).mono ?_; rintro e w5 ⟨rfl, hm5, ho5⟩; have hM5 := Lib.hid (hM1.out _ _ hR4.out hm5 ho5); have hp5 := Lib.hid (hp4.out.oth ho5 (hpn.out _ _ _ hR4.out hp4.out)); have p0 : w5.cell? ⟨w2.heap.size, 0, none⟩ = some (.pointer (some ⟨ad m, 0, none⟩)) := hp5.out.cell rfl; have p1 : w5.cell? ⟨w2.heap.size, 1, none⟩ = some (.string x) := hp5.out.cell rfl)
                        | (go_at_call 85; refine (kfo.out _ hR3.out).mono ?_; rintro e w4 ⟨⟨v, rfl, hv, _⟩, hb4⟩; obtain rfl := hv (by simp); have hR4 := Lib.hid ((hR3.out.later hb4).later (below_new w4 (.cells #[.pointer (some ⟨ad mf, 0, none⟩), .string yf] 136))); have hp4 := Lib.hid ((hpl.out.later hb4).later (below_new w4 (.cells #[.pointer (some ⟨ad mf, 0, none⟩), .string yf] 136))))
                        | (go_at_call 87; refine (ku.out _).mono ?_; rintro e w' ⟨rfl, rfl⟩)
                        | (go_at_call 86; refine (kpn.out _ hR2.out).mono ?_; rintro e w3 ⟨rfl, hb3⟩; have hR3 := Lib.hid (hR2.out.later hb3); have t1 := kk.out w3 hR3.out; have hpl := Lib.hid ((BX.new w2 136 #[.pointer (some ⟨ad m, 0, none⟩), .string x]).later hb3); have eqn := kqn.out w3)
                        | (go_at_call 85; refine (kto.out _ hR1.out).mono ?_; rintro e w2 ⟨⟨v, rfl, hv, _⟩, hb2⟩; obtain rfl := hv (by simp); have hR2 := Lib.hid ((hR1.out.later hb2).later (below_new w2 (.cells #[.pointer (some ⟨ad m, 0, none⟩), .string x] 136))))
                        | (go_at_call 66; refine (kf.out _ HR.out).mono ?_; rintro e w1 ⟨rfl, hb1⟩; have hR1 := Lib.hid (HR.out.later hb1); have t0 := kt.out w1 hR1.out; have eq0 := kq.out w1 hR1.out))
              go_ret
              have hB := bthen (bthen (bthen (bthen hb1 hb2) (below_new w2 (.cells #[.pointer (some ⟨ad m, 0, none⟩), .string x] 136))) hb3) (bthen hb4 (below_new w4 (.cells #[.pointer (some ⟨ad mf, 0, none⟩), .string yf] 136)))
              have hM6 := hM2.out _ _ _ hR4.out ho5 hM5.out hm6 ho6
              have hD6 := hDD.out _ _ _ hR4.out ho5 ho6
              have hK6 : Keep F _ w6 := (Keep.ofOth ho5 (hR.map _ _ hmf hkf).1).trans (Keep.ofOth ho6 (hR.map _ _ hm hk).1)
              have hcut : Nt.cut T.paths (q ++ [x]) = T.paths := List.filter_eq_self.2 fun z hz => by
                have : ¬ (q ++ [x]) <+: z.1 := fun h => HN.out _ _ hz h
                simpa using this
              refine ⟨rfl, ⟨ad, mb, (hR4.out.renamed (w2 := w6) hW hV.out hM6 (by rw [hcut]; exact hD6)).weak (Grow.self F _ _) (by omega)⟩, Keep.fresh hB hK6 fun _ _ h => h⟩
          · rw [if_neg (by rw [hkn]; exact hk4)] at hEE
            have hE := hEE
            have g4 : (kn == 4) = false := by simp [hk4]
            have hV := Lib.hid (Nt.Mv.ok hW hn (by simp) rfl hx hm hk (fun k hk => by rw [ha] at hk; cases hk) (fun h => absurd (hkn.symm.trans h) hk4))
            rw [hE, if_pos rfl]
            clear hE hEE hroot hfd hc hn0 hpe hpt ha hnob hkn hk4 hfu
            go_enter Tryz.func47, Tryz.ntmps47
            go_wp2_with (first
                      | (go_at_call 82; refine (kp.out _ _ hR4.out ho5 hM5.out).mono ?_; rintro e w6 ⟨rfl, hm6, ho6⟩)
                      | (go_at_call 88; refine (kc.out _ hR4.out).mono ?_; rintro e w5 ⟨rfl, hm5, ho5⟩; have hM5 := Lib.hid (hM1.out _ _ hR4.out hm5 ho5); have hp5 := Lib.hid (hp4.out.oth ho5 (hpn.out _ _ _ hR4.out hp4.out)); have p0 : w5.cell? ⟨w2.heap.size, 0, none⟩ = some (.pointer (some ⟨ad m, 0, none⟩)) := hp5.out.cell rfl; have p1 : w5.cell? ⟨w2.heap.size, 1, none⟩ = some (.string x) := hp5.out.cell rfl)
                      | (go_at_call 85; refine (kfo.out _ hR3.out).mono ?_; rintro e w4 ⟨⟨v, rfl, hv, _⟩, hb4⟩; obtain rfl := hv (by simp); have hR4 := Lib.hid ((hR3.out.later hb4).later (below_new w4 (.cells #[.pointer (some ⟨ad mf, 0, none⟩), .string yf] 136))); have hp4 := Lib.hid ((hpl.out.later hb4).later (below_new w4 (.cells #[.pointer (some ⟨ad mf, 0, none⟩), .string yf] 136))))
                      | (go_at_call 86; refine (kpn.out _ hR2.out).mono ?_; rintro e w3 ⟨rfl, hb3⟩; have hR3 := Lib.hid (hR2.out.later hb3); have t1 := kk.out w3 hR3.out; have hpl := Lib.hid ((BX.new w2 136 #[.pointer (some ⟨ad m, 0, none⟩), .string x]).later hb3); have eqn := kqn.out w3)
                      | (go_at_call 85; refine (kto.out _ hR1.out).mono ?_; rintro e w2 ⟨⟨v, rfl, hv, _⟩, hb2⟩; obtain rfl := hv (by simp); have hR2 := Lib.hid ((hR1.out.later hb2).later (below_new w2 (.cells #[.pointer (some ⟨ad m, 0, none⟩), .string x] 136))))
                      | (go_at_call 66; refine (kf.out _ HR.out).mono ?_; rintro e w1 ⟨rfl, hb1⟩; have hR1 := Lib.hid (HR.out.later hb1); have t0 := kt.out w1 hR1.out; have eq0 := kq.out w1 hR1.out))
            go_ret
            have hB := bthen (bthen (bthen (bthen hb1 hb2) (below_new w2 (.cells #[.pointer (some ⟨ad m, 0, none⟩), .string x] 136))) hb3) (bthen hb4 (below_new w4 (.cells #[.pointer (some ⟨ad mf, 0, none⟩), .string yf] 136)))
            have hM6 := hM2.out _ _ _ hR4.out ho5 hM5.out hm6 ho6
            have hD6 := hDD.out _ _ _ hR4.out ho5 ho6
            have hK6 : Keep F _ w6 := (Keep.ofOth ho5 (hR.map _ _ hmf hkf).1).trans (Keep.ofOth ho6 (hR.map _ _ hm hk).1)
            have hcut : Nt.cut T.paths (q ++ [x]) = T.paths := List.filter_eq_self.2 fun z hz => by
              have : ¬ (q ++ [x]) <+: z.1 := fun h => HN.out _ _ hz h
              simpa using this
            refine ⟨rfl, ⟨ad, mb, (hR4.out.renamed (w2 := w6) hW hV.out hM6 (by rw [hcut]; exact hD6)).weak (Grow.self F _ _) (by omega)⟩, Keep.fresh hB hK6 fun _ _ h => h⟩
        | some k =>
          have hkT := Nt.at_mem ha
          rw [ha] at hEE kpn
          replace kpn : Hid (∀ W (h : RepP F K W tb T ad mb), Calls Tryz.prog 86 #[.agg #[.pointer (some ⟨ad m, 0, none⟩), .string x]] W fun e w' => e = .returned (.pointer (some ⟨ad k, 0, none⟩)) ∧ Below W.heap.size W w') := kpn
          have kqn := Lib.hid (fun W (h : RepP F K W tb T ad mb) => h.eqp hkT hn)
          simp only at hEE
          by_cases hkn2 : k = n
          · rw [if_pos hkn2] at hEE
            rw [decide_eq_true hkn2] at kqn
            rw [hEE, if_neg (by decide), if_pos rfl]
            clear hEE hroot hfd hc hn0 hpe hpt ha hkn hkn2 hfu
            go_enter Tryz.func47, Tryz.ntmps47
            go_wp2_with (first
          | (go_at_call 86; refine (kpn.out _ hR2.out).mono ?_; rintro e w3 ⟨rfl, hb3⟩; have hR3 := Lib.hid (hR2.out.later hb3); have t1 := kk.out w3 hR3.out; have hpl := Lib.hid ((BX.new w2 136 #[.pointer (some ⟨ad m, 0, none⟩), .string x]).later hb3); have eqn := kqn.out w3 hR3.out)
          | (go_at_call 85; refine (kto.out _ hR1.out).mono ?_; rintro e w2 ⟨⟨v, rfl, hv, _⟩, hb2⟩; obtain rfl := hv (by simp); have hR2 := Lib.hid ((hR1.out.later hb2).later (below_new w2 (.cells #[.pointer (some ⟨ad m, 0, none⟩), .string x] 136))))
          | (go_at_call 66; refine (kf.out _ HR.out).mono ?_; rintro e w1 ⟨rfl, hb1⟩; have hR1 := Lib.hid (HR.out.later hb1); have t0 := kt.out w1 hR1.out; have eq0 := kq.out w1 hR1.out))
            go_ret
            exact Done.err HR.out (bthen (bthen (bthen hb1 hb2) (below_new w2 (.cells #[.pointer (some ⟨ad m, 0, none⟩), .string x] 136))) hb3) 0
          · rw [if_neg hkn2] at hEE
            rw [decide_eq_false hkn2] at kqn
            by_cases hk4 : kn = 4
            · rw [if_pos (by rw [hkn]; exact hk4)] at hEE
              have hE := hEE
              have g4 : (kn == 4) = true := by simp [hk4]
              rw [hE, if_neg (by decide), if_neg (by decide)]
              clear hE hEE hroot hfd hc hn0 hpe hpt ha hkn hk4 hkn2 hfu
              go_enter Tryz.func47, Tryz.ntmps47
              go_wp2_with (first
                        | (go_at_call 86; refine (kpn.out _ hR2.out).mono ?_; rintro e w3 ⟨rfl, hb3⟩; have hR3 := Lib.hid (hR2.out.later hb3); have t1 := kk.out w3 hR3.out; have hpl := Lib.hid ((BX.new w2 136 #[.pointer (some ⟨ad m, 0, none⟩), .string x]).later hb3); have eqn := kqn.out w3 hR3.out)
                        | (go_at_call 85; refine (kto.out _ hR1.out).mono ?_; rintro e w2 ⟨⟨v, rfl, hv, _⟩, hb2⟩; obtain rfl := hv (by simp); have hR2 := Lib.hid ((hR1.out.later hb2).later (below_new w2 (.cells #[.pointer (some ⟨ad m, 0, none⟩), .string x] 136))))
                        | (go_at_call 66; refine (kf.out _ HR.out).mono ?_; rintro e w1 ⟨rfl, hb1⟩; have hR1 := Lib.hid (HR.out.later hb1); have t0 := kt.out w1 hR1.out; have eq0 := kq.out w1 hR1.out))
              go_ret
              exact Done.err HR.out (bthen (bthen (bthen hb1 hb2) (below_new w2 (.cells #[.pointer (some ⟨ad m, 0, none⟩), .string x] 136))) hb3) 7
            · rw [if_neg (by rw [hkn]; exact hk4)] at hEE
              have g4 : (kn == 4) = false := by simp [hk4]
              obtain ⟨kb, hkb⟩ : ∃ kb, (T.nd k).kind = kb := ⟨_, rfl⟩
              have kkb := Lib.hid (fun W (h : RepP F K W tb T ad mb) => show W.cell? ⟨ad k, 0, none⟩ = some (.int .i64 kb) from by rw [← hkb]; exact (h.node _ _ hkT).1.cell rfl)
              by_cases hk5 : kb = 4
              · rw [if_pos (by rw [hkb]; exact hk5)] at hEE
                have hE := hEE
                have g5 : (kb == 4) = true := by simp [hk5]
                rw [hE, if_neg (by decide), if_neg (by decide)]
                clear hE hEE hroot hfd hc hn0 hpe hpt ha hkn hk4 hkn2 hfu hkb hk5
                go_enter Tryz.func47, Tryz.ntmps47
                go_wp2_with (first
                          | (go_at_call 86; refine (kpn.out _ hR2.out).mono ?_; rintro e w3 ⟨rfl, hb3⟩; have hR3 := Lib.hid (hR2.out.later hb3); have t1 := kk.out w3 hR3.out; have hpl := Lib.hid ((BX.new w2 136 #[.pointer (some ⟨ad m, 0, none⟩), .string x]).later hb3); have eqn := kqn.out w3 hR3.out; have t2 := kkb.out w3 hR3.out)
                          | (go_at_call 85; refine (kto.out _ hR1.out).mono ?_; rintro e w2 ⟨⟨v, rfl, hv, _⟩, hb2⟩; obtain rfl := hv (by simp); have hR2 := Lib.hid ((hR1.out.later hb2).later (below_new w2 (.cells #[.pointer (some ⟨ad m, 0, none⟩), .string x] 136))))
                          | (go_at_call 66; refine (kf.out _ HR.out).mono ?_; rintro e w1 ⟨rfl, hb1⟩; have hR1 := Lib.hid (HR.out.later hb1); have t0 := kt.out w1 hR1.out; have eq0 := kq.out w1 hR1.out))
                go_ret
                exact Done.err HR.out (bthen (bthen (bthen hb1 hb2) (below_new w2 (.cells #[.pointer (some ⟨ad m, 0, none⟩), .string x] 136))) hb3) 13
              · rw [if_neg (by rw [hkb]; exact hk5)] at hEE
                have hE := hEE
                have g5 : (kb == 4) = false := by simp [hk5]
                have hV := Lib.hid (Nt.Mv.ok hW hn (by simp) rfl hx hm hk (fun j hj => by rw [ha] at hj; cases hj; exact ⟨hkn2, by rw [hkn]; exact hk4, by rw [hkb]; exact hk5⟩) (fun h => absurd (hkn.symm.trans h) hk4))
                have kd := Lib.hid (fun W V U (h : RepP F K W tb T ad mb) (ho : Oth (mb mf) W V) (ho6 : Oth (mb m) V U) => drop_any (w := U) hW hK hkT (by simp) (hDD.out W V U h ho ho6) h.inj (fun d j hd hkd hu => absurd hkd (hV.out.leaf d j hd hu).2.2))
                rw [hE, if_pos rfl]
                clear hE hEE hroot hfd hc hn0 hpe hpt ha hkn hk4 hkn2 hfu hkb hk5
                go_enter Tryz.func47, Tryz.ntmps47
                go_wp2_with (first
                          | (go_at_call 89; refine (kd.out _ _ _ hR4.out ho5 ho6).mono ?_; rintro e w7 ⟨rfl, hd7⟩)
                          | (go_at_call 82; refine (kp.out _ _ hR4.out ho5 hM5.out).mono ?_; rintro e w6 ⟨rfl, hm6, ho6⟩)
                          | (go_at_call 88; refine (kc.out _ hR4.out).mono ?_; rintro e w5 ⟨rfl, hm5, ho5⟩; have hM5 := Lib.hid (hM1.out _ _ hR4.out hm5 ho5); have hp5 := Lib.hid (hp4.out.oth ho5 (hpn.out _ _ _ hR4.out hp4.out)); have p0 : w5.cell? ⟨w2.heap.size, 0, none⟩ = some (.pointer (some ⟨ad m, 0, none⟩)) := hp5.out.cell rfl; have p1 : w5.cell? ⟨w2.heap.size, 1, none⟩ = some (.string x) := hp5.out.cell rfl)
                          | (go_at_call 85; refine (kfo.out _ hR3.out).mono ?_; rintro e w4 ⟨⟨v, rfl, hv, _⟩, hb4⟩; obtain rfl := hv (by simp); have hR4 := Lib.hid ((hR3.out.later hb4).later (below_new w4 (.cells #[.pointer (some ⟨ad mf, 0, none⟩), .string yf] 136))); have hp4 := Lib.hid ((hpl.out.later hb4).later (below_new w4 (.cells #[.pointer (some ⟨ad mf, 0, none⟩), .string yf] 136))))
                          | (go_at_call 86; refine (kpn.out _ hR2.out).mono ?_; rintro e w3 ⟨rfl, hb3⟩; have hR3 := Lib.hid (hR2.out.later hb3); have t1 := kk.out w3 hR3.out; have hpl := Lib.hid ((BX.new w2 136 #[.pointer (some ⟨ad m, 0, none⟩), .string x]).later hb3); have eqn := kqn.out w3 hR3.out; have t2 := kkb.out w3 hR3.out)
                          | (go_at_call 85; refine (kto.out _ hR1.out).mono ?_; rintro e w2 ⟨⟨v, rfl, hv, _⟩, hb2⟩; obtain rfl := hv (by simp); have hR2 := Lib.hid ((hR1.out.later hb2).later (below_new w2 (.cells #[.pointer (some ⟨ad m, 0, none⟩), .string x] 136))))
                          | (go_at_call 66; refine (kf.out _ HR.out).mono ?_; rintro e w1 ⟨rfl, hb1⟩; have hR1 := Lib.hid (HR.out.later hb1); have t0 := kt.out w1 hR1.out; have eq0 := kq.out w1 hR1.out))
                go_ret
                have hB := bthen (bthen (bthen (bthen hb1 hb2) (below_new w2 (.cells #[.pointer (some ⟨ad m, 0, none⟩), .string x] 136))) hb3) (bthen hb4 (below_new w4 (.cells #[.pointer (some ⟨ad mf, 0, none⟩), .string yf] 136)))
                have hM6 := hM2.out _ _ _ hR4.out ho5 hM5.out hm6 ho6
                have hD6 := hDD.out _ _ _ hR4.out ho5 ho6
                have hK6 : Keep F _ w6 := (Keep.ofOth ho5 (hR.map _ _ hmf hkf).1).trans (Keep.ofOth ho6 (hR.map _ _ hm hk).1)
                refine ⟨rfl, ⟨ad, mb, (hR4.out.renamed hW hV.out (hM6.ds hD6 hd7) hd7).weak (Grow.self F _ _) (by omega)⟩, Keep.fresh hB (hK6.trans (hd7.keep.weak ?_)) fun _ _ h => h⟩
                rintro k (rfl | ⟨a, b, h1, rfl⟩)
                · exact hR.ftree
                · exact (hR.node _ _ h1).2
      · rw [if_pos hpt] at hEE
        have hne1 : T.rnE f t ≠ 0 := by rw [hEE]; exact hpt
        have hne2 : T.parE t ≠ -1 := by
          intro e
          unfold Tr.parE at e
          by_cases h1 : Nt.isP t = true
          · rw [if_pos h1] at e
            simp only at e
            have := Nt.fnd_err (T := T) (Pp.pieces t).dropLast [] 0
            split at e
            · omega
            · split at e <;> omega
          · rw [if_neg h1] at e
            omega
        rw [if_neg hne1, if_neg (by rw [hEE]; exact hne2), hEE]
        generalize T.parE t = z at *
        have g : (z != 0) = true := by simp [hpt]
        have HZ := Lib.hid hpt
        clear hEE hroot hfd hc hn0 hpe hpt hne1 hne2
        go_enter Tryz.func47, Tryz.ntmps47
        go_wp2_with (first
          | (go_at_call 85; refine (kto.out _ hR1.out).mono ?_; rintro e w2 ⟨⟨v, rfl, _, hv⟩, hb2⟩; obtain rfl := hv HZ.out)
          | (go_at_call 66; refine (kf.out _ HR.out).mono ?_; rintro e w1 ⟨rfl, hb1⟩; have hR1 := Lib.hid (HR.out.later hb1); have t0 := kt.out w1 hR1.out; have eq0 := kq.out w1 hR1.out))
        go_ret
        exact Done.err HR.out (bthen (bthen hb1 hb2) (below_new w2 _)) z
  · have hE : T.rnE f t = (T.find f).2 := by unfold Tr.rnE; rw [if_pos hc]
    have hne : (T.find f).2 ≠ -1 := by
      unfold Tr.find
      split
      · decide
      · split
        · have := Nt.fnd_err (T := T) (Pp.pieces f) [] 0
          omega
        · decide
    rw [hE, if_neg hc, if_neg hne]
    generalize T.find f = x at *
    obtain ⟨j, z⟩ := x
    simp only at hc kf ⊢
    simp only [fv, if_neg hc, ptrv] at kf
    have g : (z != 0) = true := by simp [hc]
    clear hE hc hne
    go_enter Tryz.func47, Tryz.ntmps47
    go_wp2_with (go_at_call 66; refine (kf.out _ HR.out).mono ?_; rintro e w1 ⟨rfl, hb1⟩)
    go_ret
    exact Done.err HR.out hb1 z
end
end Go.Proofs.YtbianfjennnofaaGreatDoor
