/- WALKS OF LAYER 13, NINTH PART: Create. -/
import Derived.Test.YtbianfjennnofaaGreatDoorG13h
namespace Go.Proofs.YtbianfjennnofaaGreatDoor
set_option linter.unusedVariables false
open Go Go.RowKit Go.Maps
set_option maxRecDepth 100000
set_option maxHeartbeats 1000000
open Nt (Tr Nd WF Ps Path at_ cnt used)
section
variable {F : Nat → Prop} {K tb : Nat} {w w' : World} {T : Tr} {ad mb : Nat → Nat}
theorem create_any (hW : WF T K) (hK : K ≤ 100000) (hR : RepP F K w tb T ad mb) (p : ByteArray) (hp : p.size ≤ 1000000) (a b c d : Int) (A : Option Addr) (n k : Nat) (xs : List Int) (hd : RB w w.heap.size A n xs) (hn : n ≤ 1000000) :
    Calls Tryz.prog 41 #[.pointer (some ⟨tb, 0, none⟩), .string p, .agg #[.int .i64 a, .int .i64 b, .int .i64 c, .int .i64 d], .slice A n k] w fun e w' => Done F K w w' tb (T.mk' p ⟨1, a, b, c, d, ⟨#[]⟩, A, n, k, xs⟩) e := by
  obtain ⟨r, hr⟩ := Pp.last_ex p p.size (Nat.le_refl _)
  have HR := Lib.hid hR
  have kn := Lib.hid (fun W (h : RepP F K W tb T ad mb) => newPlace_any hW h p hp r hr)
  have km := Lib.hid (fun W => meta_any W a b c d)
  have kr := Lib.hid (fun W (h : RepP F K W tb T ad mb) => rroom_any hW hK h 1 n)
  have hb0 := Lib.hid (below_new w (.cells #[.int .i64 a, .int .i64 b, .int .i64 c, .int .i64 d] 72))
  have hB0 := Lib.hid (BX.new w 72 #[.int .i64 a, .int .i64 b, .int .i64 c, .int .i64 d])
  by_cases hf : T.fresh p = 0
  · obtain ⟨q, y, m, e1, hy, hm, hk, e2, e3⟩ := place_ok hW hf hr
    rw [e2, e3, hf] at kn
    by_cases hmt : Nt.metaOk a b c d = true
    · rw [hmt] at km
      by_cases hbig : n ≤ 4096
      · have g4 : ¬ (4096 : Int) < n := by omega
        by_cases hro : T.roomy 1 n = true
        · rw [hro] at kr
          have hx : Nd.ok ⟨1, a, b, c, d, ⟨#[]⟩, A, n, k, xs⟩ := ⟨.inl rfl, hd.1, hbig, fun h => absurd rfl h, fun _ => rfl⟩
          have hE : T.mk' p ⟨1, a, b, c, d, ⟨#[]⟩, A, n, k, xs⟩ = (T.mk1 p ⟨1, a, b, c, d, ⟨#[]⟩, A, n, k, xs⟩, 0) := by
            have : T.mkE p ⟨1, a, b, c, d, ⟨#[]⟩, A, n, k, xs⟩ = 0 := by unfold Tr.mkE; rw [if_neg (by simp [hf]), if_neg (by simp [hmt]), if_neg (by simp; omega), if_neg (by simp), if_neg (by simp [hro])]
            unfold Tr.mk'
            rw [this, if_pos rfl]
          rw [hE]
          have hxl := hd.1
          have HXL := Lib.hid hxl
          have ka := Lib.hid (fun W (h : RepP F K W tb T ad mb) z (hc : BX W z 91 (NC ⟨1, a, b, c, d, ⟨#[]⟩, A, n, k, xs⟩ none 0)) (hz : ad m ≠ z) => radd_any hW hK h hm hk hy hx z none hc hz)
          have HD := Lib.hid hd
          have hml := Lib.hid (hR.node _ _ hm).1.lt
          have hmb := Lib.hid (hR.map _ _ hm hk).2.lt
          have htl := Lib.hid hR.tree.lt
          have HF := Lib.hid hf
          clear hE hro hmt hf hbig hxl
          go_enter Tryz.func41, Tryz.ntmps41
          go_wp2_with (first
          | (go_at_call 78; refine (kn.out _ (HR.out.later hb0.out)).mono ?_; rintro e w1 ⟨⟨v, rfl, hv, _⟩, hb1⟩; obtain rfl := hv rfl; have hbx := Lib.hid ((hB0.out.later hb1).alloc (.cells #[.pointer (some ⟨ad m, 0, none⟩), .string y] 136)); have q0 := (hbx.out.cell (j := 0) (v := .int .i64 a) rfl); have q1 := (hbx.out.cell (j := 1) (v := .int .i64 b) rfl); have q2 := (hbx.out.cell (j := 2) (v := .int .i64 c) rfl); have q3 := (hbx.out.cell (j := 3) (v := .int .i64 d) rfl))
          | (go_at_call 79; refine (km.out _).mono ?_; rintro e w2 ⟨rfl, hb2⟩)
          | (go_at_call 80; refine (kr.out _ ((((HR.out.later hb0.out).later hb1).later (below_new w1 _)).later hb2)).mono ?_; rintro e w3 ⟨rfl, hb3⟩; have hR3 := Lib.hid (((((HR.out.later hb0.out).later hb1).later (below_new w1 _)).later hb2).later hb3); have hB3 := Lib.hid (bthen (bthen (bthen (bthen hb0.out hb1) (below_new w1 _)) hb2) hb3); have hme := Lib.hid ((hbx.out.later hb2).later hb3); have hpl := Lib.hid (((BX.new w1 136 #[.pointer (some ⟨ad m, 0, none⟩), .string y]).later hb2).later hb3); have s0 : w3.cell? ⟨w.heap.size, 0, none⟩ = some (.int .i64 a) := hme.out.cell rfl; have s1 : w3.cell? ⟨w.heap.size, 1, none⟩ = some (.int .i64 b) := hme.out.cell rfl; have s2 : w3.cell? ⟨w.heap.size, 2, none⟩ = some (.int .i64 c) := hme.out.cell rfl; have s3 : w3.cell? ⟨w.heap.size, 3, none⟩ = some (.int .i64 d) := hme.out.cell rfl; have p0 : w3.cell? ⟨w1.heap.size, 0, none⟩ = some (.pointer (some ⟨ad m, 0, none⟩)) := hpl.out.cell rfl; have p1 : w3.cell? ⟨w1.heap.size, 1, none⟩ = some (.string y) := hpl.out.cell rfl; have hcv := (HD.out.below hB3.out).conv k; have hl3 := Lib.hid (Nat.lt_of_lt_of_le hml.out hB3.out.size))
          | (go_at_call 81; refine (ka.out _ (hR3.out.later (below_new w3 _)) w3.heap.size (BX.new w3 91 (NC ⟨1, a, b, c, d, ⟨#[]⟩, A, n, k, xs⟩ none 0)) (Nat.ne_of_lt hl3.out)).mono ?_; rintro e wz ⟨rfl, g1, g2, g3, g4⟩))
          go_ret
          have hB4 := bthen hB3.out (below_new w3 (.cells (NC ⟨1, a, b, c, d, ⟨#[]⟩, A, n, k, xs⟩ none 0) 91))
          have hsz3 := hB3.out.size
          have hb1 := hml.out
          have hb2 := hmb.out
          have hb3 := htl.out
          refine ⟨rfl, ⟨_, _, hR.made hW HF.out hx e1 hm hk (c := w3.heap.size) (b := w3.heap.size) (by omega) (by omega) g1 g2 (fun h => by simp at h) g3 (fun k hk1 hk2 hk3 => (g4.block k (Nat.lt_of_lt_of_le hk1 hB4.size) (by omega)).trans (hB4.block k hk1)) (Nat.le_trans hB4.size g4.size)⟩, Keep.fresh hB4 g4 fun k hk1 hk2 => ?_⟩
          rcases hk2 with rfl | rfl | rfl
          · exact (hR.map _ _ hm hk).1
          · omega
          · exact hR.ftree
        · have hro' : T.roomy 1 n = false := by cases h : T.roomy 1 n with | false => rfl | true => exact absurd h hro
          rw [hro'] at kr
          have hE : T.mk' p ⟨1, a, b, c, d, ⟨#[]⟩, A, n, k, xs⟩ = (T, 14) := by
            have : T.mkE p ⟨1, a, b, c, d, ⟨#[]⟩, A, n, k, xs⟩ = 14 := by unfold Tr.mkE; rw [if_neg (by simp [hf]), if_neg (by simp [hmt]), if_neg (by simp; omega), if_neg (by simp), if_pos (by simp [hro'])]
            unfold Tr.mk'
            rw [this, if_neg (by decide)]
          rw [hE]
          clear hE hro hro' hmt hf
          go_enter Tryz.func41, Tryz.ntmps41
          go_wp2_with (first
            | (go_at_call 78; refine (kn.out _ (HR.out.later hb0.out)).mono ?_; rintro e w1 ⟨⟨v, rfl, hv, _⟩, hb1⟩; obtain rfl := hv rfl; have hbx := Lib.hid ((hB0.out.later hb1).alloc (.cells #[.pointer (some ⟨ad m, 0, none⟩), .string y] 136)); have q0 := (hbx.out.cell (j := 0) (v := .int .i64 a) rfl); have q1 := (hbx.out.cell (j := 1) (v := .int .i64 b) rfl); have q2 := (hbx.out.cell (j := 2) (v := .int .i64 c) rfl); have q3 := (hbx.out.cell (j := 3) (v := .int .i64 d) rfl))
            | (go_at_call 79; refine (km.out _).mono ?_; rintro e w2 ⟨rfl, hb2⟩)
            | (go_at_call 80; refine (kr.out _ ((((HR.out.later hb0.out).later hb1).later (below_new w1 _)).later hb2)).mono ?_; rintro e w3 ⟨rfl, hb3⟩; have hR3 := Lib.hid (((((HR.out.later hb0.out).later hb1).later (below_new w1 _)).later hb2).later hb3); have hB3 := Lib.hid (bthen (bthen (bthen (bthen hb0.out hb1) (below_new w1 _)) hb2) hb3); have hme := Lib.hid ((hbx.out.later hb2).later hb3); have hpl := Lib.hid (((BX.new w1 136 #[.pointer (some ⟨ad m, 0, none⟩), .string y]).later hb2).later hb3); have s0 : w3.cell? ⟨w.heap.size, 0, none⟩ = some (.int .i64 a) := hme.out.cell rfl; have s1 : w3.cell? ⟨w.heap.size, 1, none⟩ = some (.int .i64 b) := hme.out.cell rfl; have s2 : w3.cell? ⟨w.heap.size, 2, none⟩ = some (.int .i64 c) := hme.out.cell rfl; have s3 : w3.cell? ⟨w.heap.size, 3, none⟩ = some (.int .i64 d) := hme.out.cell rfl; have p0 : w3.cell? ⟨w1.heap.size, 0, none⟩ = some (.pointer (some ⟨ad m, 0, none⟩)) := hpl.out.cell rfl; have p1 : w3.cell? ⟨w1.heap.size, 1, none⟩ = some (.string y) := hpl.out.cell rfl))
          go_ret
          exact Done.err HR.out hB3.out 14
      · have g4 : (4096 : Int) < n := by omega
        have hE : T.mk' p ⟨1, a, b, c, d, ⟨#[]⟩, A, n, k, xs⟩ = (T, 10) := by
          have : T.mkE p ⟨1, a, b, c, d, ⟨#[]⟩, A, n, k, xs⟩ = 10 := by unfold Tr.mkE; rw [if_neg (by simp [hf]), if_neg (by simp [hmt]), if_pos (by simp; omega)]
          unfold Tr.mk'
          rw [this, if_neg (by decide)]
        rw [hE]
        clear hE hmt hf
        go_enter Tryz.func41, Tryz.ntmps41
        go_wp2_with (first
          | (go_at_call 78; refine (kn.out _ (HR.out.later hb0.out)).mono ?_; rintro e w1 ⟨⟨v, rfl, hv, _⟩, hb1⟩; obtain rfl := hv rfl; have hbx := Lib.hid ((hB0.out.later hb1).alloc (.cells #[.pointer (some ⟨ad m, 0, none⟩), .string y] 136)); have q0 := (hbx.out.cell (j := 0) (v := .int .i64 a) rfl); have q1 := (hbx.out.cell (j := 1) (v := .int .i64 b) rfl); have q2 := (hbx.out.cell (j := 2) (v := .int .i64 c) rfl); have q3 := (hbx.out.cell (j := 3) (v := .int .i64 d) rfl))
          | (go_at_call 79; refine (km.out _).mono ?_; rintro e w2 ⟨rfl, hb2⟩))
        go_ret
        exact Done.err HR.out (bthen (bthen (bthen hb0.out hb1) (below_new w1 _)) hb2) 10
    · have hmt' : Nt.metaOk a b c d = false := by cases h : Nt.metaOk a b c d with | false => rfl | true => exact absurd h hmt
      rw [hmt'] at km
      have hE : T.mk' p ⟨1, a, b, c, d, ⟨#[]⟩, A, n, k, xs⟩ = (T, 10) := by
        have : T.mkE p ⟨1, a, b, c, d, ⟨#[]⟩, A, n, k, xs⟩ = 10 := by unfold Tr.mkE; rw [if_neg (by simp [hf]), if_pos (by simp [hmt'])]
        unfold Tr.mk'
        rw [this, if_neg (by decide)]
      rw [hE]
      clear hE hmt hmt' hf
      go_enter Tryz.func41, Tryz.ntmps41
      go_wp2_with (first
        | (go_at_call 78; refine (kn.out _ (HR.out.later hb0.out)).mono ?_; rintro e w1 ⟨⟨v, rfl, hv, _⟩, hb1⟩; obtain rfl := hv rfl; have hbx := Lib.hid ((hB0.out.later hb1).alloc (.cells #[.pointer (some ⟨ad m, 0, none⟩), .string y] 136)); have q0 := (hbx.out.cell (j := 0) (v := .int .i64 a) rfl); have q1 := (hbx.out.cell (j := 1) (v := .int .i64 b) rfl); have q2 := (hbx.out.cell (j := 2) (v := .int .i64 c) rfl); have q3 := (hbx.out.cell (j := 3) (v := .int .i64 d) rfl))
        | (go_at_call 79; refine (km.out _).mono ?_; rintro e w2 ⟨rfl, hb2⟩))
      go_ret
      exact Done.err HR.out (bthen (bthen (bthen hb0.out hb1) (below_new w1 _)) hb2) 10
  · have hE : T.mk' p ⟨1, a, b, c, d, ⟨#[]⟩, A, n, k, xs⟩ = (T, T.fresh p) := by
      have : T.mkE p ⟨1, a, b, c, d, ⟨#[]⟩, A, n, k, xs⟩ = T.fresh p := by unfold Tr.mkE; rw [if_pos hf]
      unfold Tr.mk'
      rw [this, if_neg hf]
    rw [hE]
    generalize T.fresh p = z at *
    have g : (z != 0) = true := by simp [hf]
    have HF := Lib.hid hf; clear hf hE
    go_enter Tryz.func41, Tryz.ntmps41
    go_wp2_with (go_at_call 78; refine (kn.out _ (HR.out.later hb0.out)).mono ?_; rintro e w1 ⟨⟨v, rfl, _, hv⟩, hb1⟩; obtain rfl := hv HF.out)
    go_ret
    exact Done.err HR.out (bthen (bthen hb0.out hb1) (below_new w1 _)) z
end
end Go.Proofs.YtbianfjennnofaaGreatDoor
