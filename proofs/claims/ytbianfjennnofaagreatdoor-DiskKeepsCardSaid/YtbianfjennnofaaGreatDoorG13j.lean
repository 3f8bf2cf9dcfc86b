/- WALKS OF LAYER 13, TENTH PART: Sym. -/
import Derived.Test.YtbianfjennnofaaGreatDoorG13i
namespace Go.Proofs.YtbianfjennnofaaGreatDoor
set_option linter.unusedVariables false
open Go Go.RowKit Go.Maps
set_option maxRecDepth 100000
set_option maxHeartbeats 1000000
open Nt (Tr Nd WF Ps Path at_ cnt used)
section
variable {F : Nat → Prop} {K tb : Nat} {w w' : World} {T : Tr} {ad mb : Nat → Nat}
theorem sym_any (hW : WF T K) (hK : K ≤ 100000) (hR : RepP F K w tb T ad mb) (p : ByteArray) (hp : p.size ≤ 1000000) (a b c d : Int) (l : ByteArray) (hl : l.size ≤ 1000000) :
    Calls Tryz.prog 55 #[.pointer (some ⟨tb, 0, none⟩), .string p, .agg #[.int .i64 a, .int .i64 b, .int .i64 c, .int .i64 d], .string l] w fun e w' => Done F K w w' tb (T.mk' p ⟨3, a, b, c, d, l, none, 0, 0, []⟩) e := by
  obtain ⟨r, hr⟩ := Pp.last_ex p p.size (Nat.le_refl _)
  have HR := Lib.hid hR
  have kn := Lib.hid (fun W (h : RepP F K W tb T ad mb) => newPlace_any hW h p hp r hr)
  have km := Lib.hid (fun W => meta_any W a b c d)
  have ki := Lib.hid (fun W => str_byte_any l 0 W)
  rw [show ((0 : Int).toNat.toUInt8) = (0 : UInt8) from rfl] at ki
  have kr := Lib.hid (fun W (h : RepP F K W tb T ad mb) => rroom_any hW hK h 1 0)
  have hb0 := Lib.hid (below_new w (.cells #[.int .i64 a, .int .i64 b, .int .i64 c, .int .i64 d] 72))
  have hB0 := Lib.hid (BX.new w 72 #[.int .i64 a, .int .i64 b, .int .i64 c, .int .i64 d])
  have hE0 := isEmpty_eq l
  have hE1 := byte0_iff l
  by_cases hf : T.fresh p = 0
  · obtain ⟨q, y, m, e1, hy, hm, hk, e2, e3⟩ := place_ok hW hf hr
    rw [e2, e3, hf] at kn
    by_cases hmt : Nt.metaOk a b c d = true
    · rw [hmt] at km
      by_cases hl0 : l.size = 0
      · have hli : Nt.linkE l = 3 := by unfold Nt.linkE; rw [if_pos hl0]
        have g1 : l.toList.isEmpty = true := by rw [hE0]; simp [hl0]
        have hE : T.mk' p ⟨3, a, b, c, d, l, none, 0, 0, []⟩ = (T, 3) := by
          have : T.mkE p ⟨3, a, b, c, d, l, none, 0, 0, []⟩ = 3 := by unfold Tr.mkE; rw [if_neg (by simp [hf]), if_neg (by simp [hmt]), if_neg (by simp), if_pos (by simp [hli]), hli]
          unfold Tr.mk'
          rw [this, if_neg (by decide)]
        rw [hE]
        clear hE hli hE0 hE1 hl0 hmt hf
        go_enter Tryz.func55, Tryz.ntmps55
        go_wp2_with (first
                  | (go_at_call 78; refine (kn.out _ (HR.out.later hb0.out)).mono ?_; rintro e w1 ⟨⟨v, rfl, hv, _⟩, hb1⟩; obtain rfl := hv rfl; have hbx := Lib.hid ((hB0.out.later hb1).alloc (.cells #[.pointer (some ⟨ad m, 0, none⟩), .string y] 136)); have q0 := (hbx.out.cell (j := 0) (v := .int .i64 a) rfl); have q1 := (hbx.out.cell (j := 1) (v := .int .i64 b) rfl); have q2 := (hbx.out.cell (j := 2) (v := .int .i64 c) rfl); have q3 := (hbx.out.cell (j := 3) (v := .int .i64 d) rfl))
                  | (go_at_call 79; refine (km.out _).mono ?_; rintro e w2 ⟨rfl, hb2⟩)
                  | (go_at_call 100; refine (ki.out _).mono ?_; rintro e w' ⟨rfl, rfl⟩))
        go_ret
        exact Done.err HR.out (bthen (bthen (bthen hb0.out hb1) (below_new w1 _)) hb2) 3
      · have g1 : l.toList.isEmpty = false := by rw [hE0]; simp [hl0]
        by_cases hz : (0 : UInt8) ∈ l.data.toList
        · have hli : Nt.linkE l = 3 := by unfold Nt.linkE; rw [if_neg hl0, if_pos hz]
          generalize Lib.indexByte l.data.toList 0 = ix at *
          have g2 : 0 ≤ ix := by
            rcases Int.lt_or_le ix 0 with h | h
            · exact absurd hz (hE1.1 h)
            · exact h
          have hE : T.mk' p ⟨3, a, b, c, d, l, none, 0, 0, []⟩ = (T, 3) := by
            have : T.mkE p ⟨3, a, b, c, d, l, none, 0, 0, []⟩ = 3 := by unfold Tr.mkE; rw [if_neg (by simp [hf]), if_neg (by simp [hmt]), if_neg (by simp), if_pos (by simp [hli]), hli]
            unfold Tr.mk'
            rw [this, if_neg (by decide)]
          rw [hE]
          clear hE hli hE0 hE1 hl0 hmt hf hz
          go_enter Tryz.func55, Tryz.ntmps55
          go_wp2_with (first
                    | (go_at_call 78; refine (kn.out _ (HR.out.later hb0.out)).mono ?_; rintro e w1 ⟨⟨v, rfl, hv, _⟩, hb1⟩; obtain rfl := hv rfl; have hbx := Lib.hid ((hB0.out.later hb1).alloc (.cells #[.pointer (some ⟨ad m, 0, none⟩), .string y] 136)); have q0 := (hbx.out.cell (j := 0) (v := .int .i64 a) rfl); have q1 := (hbx.out.cell (j := 1) (v := .int .i64 b) rfl); have q2 := (hbx.out.cell (j := 2) (v := .int .i64 c) rfl); have q3 := (hbx.out.cell (j := 3) (v := .int .i64 d) rfl))
                    | (go_at_call 79; refine (km.out _).mono ?_; rintro e w2 ⟨rfl, hb2⟩)
                    | (go_at_call 100; refine (ki.out _).mono ?_; rintro e w' ⟨rfl, rfl⟩))
          go_ret
          exact Done.err HR.out (bthen (bthen (bthen hb0.out hb1) (below_new w1 _)) hb2) 3
        · generalize Lib.indexByte l.data.toList 0 = ix at *
          have g2 : ix < 0 := hE1.2 hz
          by_cases hbig : l.size ≤ 300
          · have hli : Nt.linkE l = 0 := by unfold Nt.linkE; rw [if_neg hl0, if_neg hz, if_neg (by omega)]
            have g3 : ¬ (300 : Int) < l.size := by omega
            by_cases hro : T.roomy 1 0 = true
            · rw [hro] at kr
              have hx : Nd.ok ⟨3, a, b, c, d, l, none, 0, 0, []⟩ := ⟨.inr (.inl rfl), rfl, Nat.zero_le _, fun _ => rfl, fun h => absurd rfl h⟩
              have hE : T.mk' p ⟨3, a, b, c, d, l, none, 0, 0, []⟩ = (T.mk1 p ⟨3, a, b, c, d, l, none, 0, 0, []⟩, 0) := by
                have : T.mkE p ⟨3, a, b, c, d, l, none, 0, 0, []⟩ = 0 := by unfold Tr.mkE; rw [if_neg (by simp [hf]), if_neg (by simp [hmt]), if_neg (by simp), if_neg (by simp [hli]), if_neg (by simp [hro])]
                unfold Tr.mk'
                rw [this, if_pos rfl]
              rw [hE]
              have kc := Lib.hid (fun W => sclone_any l W hl)
              have HF := Lib.hid hf
              clear hE hro hmt hf hli hE0 hE1 hl0 hz hbig
              go_enter Tryz.func55, Tryz.ntmps55
              go_wp2_with (first
          | (go_at_call 78; refine (kn.out _ (HR.out.later hb0.out)).mono ?_; rintro e w1 ⟨⟨v, rfl, hv, _⟩, hb1⟩; obtain rfl := hv rfl; have hbx := Lib.hid ((hB0.out.later hb1).alloc (.cells #[.pointer (some ⟨ad m, 0, none⟩), .string y] 136)); have q0 := (hbx.out.cell (j := 0) (v := .int .i64 a) rfl); have q1 := (hbx.out.cell (j := 1) (v := .int .i64 b) rfl); have q2 := (hbx.out.cell (j := 2) (v := .int .i64 c) rfl); have q3 := (hbx.out.cell (j := 3) (v := .int .i64 d) rfl))
          | (go_at_call 79; refine (km.out _).mono ?_; rintro e w2 ⟨rfl, hb2⟩)
          | (go_at_call 100; refine (ki.out _).mono ?_; rintro e w' ⟨rfl, rfl⟩)
          | (go_at_call 80; refine (kr.out _ ((((HR.out.later hb0.out).later hb1).later (below_new w1 _)).later hb2)).mono ?_; rintro e w3 ⟨rfl, hb3⟩))
              have hR3 := Lib.hid (((((HR.out.later hb0.out).later hb1).later (below_new w1 _)).later hb2).later hb3)
              have hB3 := Lib.hid (bthen (bthen (bthen (bthen hb0.out hb1) (below_new w1 _)) hb2) hb3)
              have hme := Lib.hid ((hbx.out.later hb2).later hb3)
              have hpl := Lib.hid (((BX.new w1 136 #[.pointer (some ⟨ad m, 0, none⟩), .string y]).later hb2).later hb3)
              have hwlt : Hid (w.heap.size < w3.heap.size) := hme.out.lt
              have hw1lt : Hid (w1.heap.size < w3.heap.size) := hpl.out.lt
              have hlow : Hid (w.heap.size ≤ w1.heap.size) := (bthen hb0.out hb1).size
              clear hbx q0 q1 q2 q3 hb1 hb2 hb3 hv kn km kr ki
              have ALLS := Lib.hid (fun (V : World) (h : Below w3.heap.size w3 V) => show V.cell? ⟨w.heap.size, 0, none⟩ = some (.int .i64 a) ∧ V.cell? ⟨w.heap.size, 1, none⟩ = some (.int .i64 b) ∧ V.cell? ⟨w.heap.size, 2, none⟩ = some (.int .i64 c) ∧ V.cell? ⟨w.heap.size, 3, none⟩ = some (.int .i64 d) ∧ V.cell? ⟨w1.heap.size, 0, none⟩ = some (.pointer (some ⟨ad m, 0, none⟩)) ∧ V.cell? ⟨w1.heap.size, 1, none⟩ = some (.string y) from
                ⟨(hme.out.later h).cell rfl, (hme.out.later h).cell rfl, (hme.out.later h).cell rfl, (hme.out.later h).cell rfl, (hpl.out.later h).cell rfl, (hpl.out.later h).cell rfl⟩)
              have hacc : Below w3.heap.size w3 w3 := Below.refl _ _
              obtain ⟨y0, y1, y2, y3, y4, y5⟩ := ALLS.out w3 hacc
              have hml := Lib.hid (hR.node _ _ hm).1.lt
              have hmb := Lib.hid (hR.map _ _ hm hk).2.lt
              have htl := Lib.hid hR.tree.lt
              have hcm := Lib.hid (fun (V : World) (h : Below w3.heap.size w3 V) => show ad m ≠ V.heap.size from by have := hml.out; have := hwlt.out; have := h.size; omega)
              have hne1 := Lib.hid (fun (z : Nat) (h : w3.heap.size ≤ z) => show ¬ (w.heap.size = mb m ∨ w.heap.size = z ∨ w.heap.size = tb) from by have := hwlt.out; have := hmb.out; have := htl.out; omega)
              have hne2 := Lib.hid (fun (z : Nat) (h : w3.heap.size ≤ z) => show ¬ (w1.heap.size = mb m ∨ w1.heap.size = z ∨ w1.heap.size = tb) from by have := hw1lt.out; have := hlow.out; have := hmb.out; have := htl.out; omega)
              have KEEPS := Lib.hid (fun (U V : World) (z : Nat) (hz : w3.heap.size ≤ z) (h : Below w3.heap.size w3 U) (g : Keep (fun k => k = mb m ∨ k = z ∨ k = tb) U V) => show V.cell? ⟨w.heap.size, 0, none⟩ = some (.int .i64 a) ∧ V.cell? ⟨w.heap.size, 1, none⟩ = some (.int .i64 b) ∧ V.cell? ⟨w.heap.size, 2, none⟩ = some (.int .i64 c) ∧ V.cell? ⟨w.heap.size, 3, none⟩ = some (.int .i64 d) ∧ V.cell? ⟨w1.heap.size, 0, none⟩ = some (.pointer (some ⟨ad m, 0, none⟩)) ∧ V.cell? ⟨w1.heap.size, 1, none⟩ = some (.string y) from
                ⟨((hme.out.later h).keepK g (hne1.out _ hz)).cell rfl, ((hme.out.later h).keepK g (hne1.out _ hz)).cell rfl, ((hme.out.later h).keepK g (hne1.out _ hz)).cell rfl, ((hme.out.later h).keepK g (hne1.out _ hz)).cell rfl, ((hpl.out.later h).keepK g (hne2.out _ hz)).cell rfl, ((hpl.out.later h).keepK g (hne2.out _ hz)).cell rfl⟩)
              have ka := Lib.hid (fun (V : World) (h : Below w3.heap.size w3 V) => show Calls Tryz.prog 81 _ (V.alloc (.cells #[.int .i64 3, .int .i64 a, .int .i64 b, .int .i64 c, .int .i64 d, .string l, .string ⟨#[]⟩, .map none, .int .i64 0] 91)) _ from radd_any hW hK (hR3.out.later (h.alloc h.size (.cells (NC ⟨3, a, b, c, d, l, none, 0, 0, []⟩ none 0) 91))) hm hk hy hx V.heap.size none (BX.new V 91 (NC ⟨3, a, b, c, d, l, none, 0, 0, []⟩ none 0)) (hcm.out V h))
              go_region_held3 (fun V => V.cell? ⟨w.heap.size, 0, none⟩ = some (.int .i64 a) ∧ V.cell? ⟨w.heap.size, 1, none⟩ = some (.int .i64 b) ∧ V.cell? ⟨w.heap.size, 2, none⟩ = some (.int .i64 c) ∧ V.cell? ⟨w.heap.size, 3, none⟩ = some (.int .i64 d) ∧ V.cell? ⟨w1.heap.size, 0, none⟩ = some (.pointer (some ⟨ad m, 0, none⟩)) ∧ V.cell? ⟨w1.heap.size, 1, none⟩ = some (.string y))
                (first | go_keep | (exact ALLS.out _ hacc) | (exact ALLS.out _ (hacc.alloc hacc.size _)) | (exact KEEPS.out _ _ _ hacc.size (hacc.alloc hacc.size _) g4))
                (first
                  | (go_at_call 101; (with_reducible refine (kc.out _).mono ?_); rintro e wna ⟨rfl, hbna⟩; replace hacc : Below w3.heap.size w3 wna := hacc.drew.trans (Below.mono hbna (Nat.le_refl _)))
                  | (go_at_call 81; (with_reducible refine (ka.out wna hacc).mono ?_); rintro e wz ⟨rfl, g1, g2, g3, g4⟩))
              all_goals
                go_wp2
                go_ret
                have hB4 := bthen hB3.out (hacc.alloc hacc.size (.cells (NC ⟨3, a, b, c, d, l, none, 0, 0, []⟩ none 0) 91))
                have hsz3 := hB3.out.size
                have hsz4 := hacc.size
                have hb1 := hml.out
                have hb2 := hmb.out
                have hb3 := htl.out
                refine ⟨rfl, ⟨_, _, hR.made hW HF.out hx e1 hm hk (c := wna.heap.size) (b := wna.heap.size) (by omega) (by omega) g1 g2 (fun h => by simp at h) g3 (fun k hk1 hk2 hk3 => (g4.block k (Nat.lt_of_lt_of_le hk1 hB4.size) (by omega)).trans (hB4.block k hk1)) (Nat.le_trans hB4.size g4.size)⟩, Keep.fresh hB4 g4 fun k hk1 hk2 => ?_⟩
                rcases hk2 with rfl | rfl | rfl
                · exact (hR.map _ _ hm hk).1
                · omega
                · exact hR.ftree
            · have hro' : T.roomy 1 0 = false := by cases h : T.roomy 1 0 with | false => rfl | true => exact absurd h hro
              rw [hro'] at kr
              have hE : T.mk' p ⟨3, a, b, c, d, l, none, 0, 0, []⟩ = (T, 14) := by
                have : T.mkE p ⟨3, a, b, c, d, l, none, 0, 0, []⟩ = 14 := by unfold Tr.mkE; rw [if_neg (by simp [hf]), if_neg (by simp [hmt]), if_neg (by simp), if_neg (by simp [hli]), if_pos (by simp [hro'])]
                unfold Tr.mk'
                rw [this, if_neg (by decide)]
              rw [hE]
              clear hE hli hE0 hE1 hl0 hmt hf hz hbig hro hro'
              go_enter Tryz.func55, Tryz.ntmps55
              go_wp2_with (first
                        | (go_at_call 78; refine (kn.out _ (HR.out.later hb0.out)).mono ?_; rintro e w1 ⟨⟨v, rfl, hv, _⟩, hb1⟩; obtain rfl := hv rfl; have hbx := Lib.hid ((hB0.out.later hb1).alloc (.cells #[.pointer (some ⟨ad m, 0, none⟩), .string y] 136)); have q0 := (hbx.out.cell (j := 0) (v := .int .i64 a) rfl); have q1 := (hbx.out.cell (j := 1) (v := .int .i64 b) rfl); have q2 := (hbx.out.cell (j := 2) (v := .int .i64 c) rfl); have q3 := (hbx.out.cell (j := 3) (v := .int .i64 d) rfl))
                        | (go_at_call 79; refine (km.out _).mono ?_; rintro e w2 ⟨rfl, hb2⟩)
                        | (go_at_call 100; refine (ki.out _).mono ?_; rintro e w' ⟨rfl, rfl⟩)
                        | (go_at_call 80; refine (kr.out _ ((((HR.out.later hb0.out).later hb1).later (below_new w1 _)).later hb2)).mono ?_; rintro e w3 ⟨rfl, hb3⟩))
              go_ret
              exact Done.err HR.out (bthen (bthen (bthen (bthen hb0.out hb1) (below_new w1 _)) hb2) hb3) 14
          · have hli : Nt.linkE l = 10 := by unfold Nt.linkE; rw [if_neg hl0, if_neg hz, if_pos (by omega)]
            have g3 : (300 : Int) < l.size := by omega
            have hE : T.mk' p ⟨3, a, b, c, d, l, none, 0, 0, []⟩ = (T, 10) := by
              have : T.mkE p ⟨3, a, b, c, d, l, none, 0, 0, []⟩ = 10 := by unfold Tr.mkE; rw [if_neg (by simp [hf]), if_neg (by simp [hmt]), if_neg (by simp), if_pos (by simp [hli]), hli]
              unfold Tr.mk'
              rw [this, if_neg (by decide)]
            rw [hE]
            clear hE hli hE0 hE1 hl0 hmt hf hz hbig
            go_enter Tryz.func55, Tryz.ntmps55
            go_wp2_with (first
                      | (go_at_call 78; refine (kn.out _ (HR.out.later hb0.out)).mono ?_; rintro e w1 ⟨⟨v, rfl, hv, _⟩, hb1⟩; obtain rfl := hv rfl; have hbx := Lib.hid ((hB0.out.later hb1).alloc (.cells #[.pointer (some ⟨ad m, 0, none⟩), .string y] 136)); have q0 := (hbx.out.cell (j := 0) (v := .int .i64 a) rfl); have q1 := (hbx.out.cell (j := 1) (v := .int .i64 b) rfl); have q2 := (hbx.out.cell (j := 2) (v := .int .i64 c) rfl); have q3 := (hbx.out.cell (j := 3) (v := .int .i64 d) rfl))
                      | (go_at_call 79; refine (km.out _).mono ?_; rintro e w2 ⟨rfl, hb2⟩)
                      | (go_at_call 100; refine (ki.out _).mono ?_; rintro e w' ⟨rfl, rfl⟩))
            go_ret
            exact Done.err HR.out (bthen (bthen (bthen hb0.out hb1) (below_new w1 _)) hb2) 10
    · have hmt' : Nt.metaOk a b c d = false := by cases h : Nt.metaOk a b c d with | false => rfl | true => exact absurd h hmt
      rw [hmt'] at km
      have hE : T.mk' p ⟨3, a, b, c, d, l, none, 0, 0, []⟩ = (T, 10) := by
        have : T.mkE p ⟨3, a, b, c, d, l, none, 0, 0, []⟩ = 10 := by unfold Tr.mkE; rw [if_neg (by simp [hf]), if_pos (by simp [hmt'])]
        unfold Tr.mk'
        rw [this, if_neg (by decide)]
      rw [hE]
      clear hE hE0 hE1 hmt hmt' hf
      go_enter Tryz.func55, Tryz.ntmps55
      go_wp2_with (first
                | (go_at_call 78; refine (kn.out _ (HR.out.later hb0.out)).mono ?_; rintro e w1 ⟨⟨v, rfl, hv, _⟩, hb1⟩; obtain rfl := hv rfl; have hbx := Lib.hid ((hB0.out.later hb1).alloc (.cells #[.pointer (some ⟨ad m, 0, none⟩), .string y] 136)); have q0 := (hbx.out.cell (j := 0) (v := .int .i64 a) rfl); have q1 := (hbx.out.cell (j := 1) (v := .int .i64 b) rfl); have q2 := (hbx.out.cell (j := 2) (v := .int .i64 c) rfl); have q3 := (hbx.out.cell (j := 3) (v := .int .i64 d) rfl))
                | (go_at_call 79; refine (km.out _).mono ?_; rintro e w2 ⟨rfl, hb2⟩)
                | (go_at_call 100; refine (ki.out _).mono ?_; rintro e w' ⟨rfl, rfl⟩))
      go_ret
      exact Done.err HR.out (bthen (bthen (bthen hb0.out hb1) (below_new w1 _)) hb2) 10
  · have hE : T.mk' p ⟨3, a, b, c, d, l, none, 0, 0, []⟩ = (T, T.fresh p) := by
      have : T.mkE p ⟨3, a, b, c, d, l, none, 0, 0, []⟩ = T.fresh p := by unfold Tr.mkE; rw [if_pos hf]
      unfold Tr.mk'
      rw [this, if_neg hf]
    rw [hE]
    generalize T.fresh p = z at *
    have g : (z != 0) = true := by simp [hf]
    have HF := Lib.hid hf; clear hf hE hE0 hE1
    go_enter Tryz.func55, Tryz.ntmps55
    go_wp2_with (go_at_call 78; refine (kn.out _ (HR.out.later hb0.out)).mono ?_; rintro e w1 ⟨⟨v, rfl, _, hv⟩, hb1⟩; obtain rfl := hv HF.out)
    go_ret
    exact Done.err HR.out (bthen (bthen hb0.out hb1) (below_new w1 _)) z
end
end Go.Proofs.YtbianfjennnofaaGreatDoor
