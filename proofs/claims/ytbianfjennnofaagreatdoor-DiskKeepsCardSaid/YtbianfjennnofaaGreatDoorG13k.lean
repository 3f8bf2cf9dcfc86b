/- WALKS OF LAYER 13, ELEVENTH PART: Link, Set, Write. -/
import Derived.Test.YtbianfjennnofaaGreatDoorG13j
namespace Go.Proofs.YtbianfjennnofaaGreatDoor
set_option linter.unusedVariables false
open Go Go.RowKit Go.Maps
set_option maxRecDepth 100000
set_option maxHeartbeats 1000000
open Nt (Tr Nd WF Ps Path at_ cnt used)
section
variable {F : Nat → Prop} {K tb : Nat} {w w' : World} {T : Tr} {ad mb : Nat → Nat}
theorem Keep.grow {v : World} (h1 : Below w.heap.size w v) (h2 : Keep F v w') : Keep F w w' := Keep.fresh h1 h2 fun _ _ h => h
theorem link_any (hW : WF T K) (hK : K ≤ 100000) (hR : RepP F K w tb T ad mb) (p old : ByteArray) (hp : p.size ≤ 1000000) (ho : old.size ≤ 1000000) :
    Calls Tryz.prog 42 #[.pointer (some ⟨tb, 0, none⟩), .string p, .string old] w fun e w' => Done F K w w' tb (T.lnk p old) e := by
  obtain ⟨r, hr⟩ := Pp.last_ex p p.size (Nat.le_refl _)
  have HR := Lib.hid hR
  have kn := Lib.hid (fun W (h : RepP F K W tb T ad mb) => newPlace_any hW h p hp r hr)
  have kf := Lib.hid (fun W (h : RepP F K W tb T ad mb) => find_any hW h old ho)
  by_cases hf : T.fresh p = 0
  · obtain ⟨q, y, m, e1, hy, hm, hk, e2, e3⟩ := place_ok hW hf hr
    rw [e2, e3, hf] at kn
    by_cases hc : (T.find old).2 = 0
    · have hj := (hW.find_ok hc).2
      have hfd : T.find old = ((T.find old).1, 0) := by rw [← hc]
      have hlE : T.lnk p old = if (T.nd (T.find old).1).kind ≠ 1 then (T, 11) else (T.lnk1 p (T.find old).1, 0) := by
        have : T.lnkE p old = if (T.nd (T.find old).1).kind ≠ 1 then 11 else 0 := by unfold Tr.lnkE; rw [if_neg (by simp [hf]), if_neg (by simp [hc])]
        unfold Tr.lnk
        rw [this]
        by_cases hk1 : (T.nd (T.find old).1).kind ≠ 1
        · rw [if_pos hk1, if_pos hk1, if_neg (by decide)]
        · rw [if_neg hk1, if_neg hk1, if_pos rfl]
      rw [hlE]
      rw [hfd] at kf
      generalize (T.find old).1 = j at *
      clear hlE hfd hc
      simp only [fv, if_pos, ptrv] at kf
      by_cases hk1 : (T.nd j).kind = 1
      · rw [if_neg (by simp [hk1])]
        have hjb := Lib.hid (fun W (h : RepP F K W tb T ad mb) => show W.cell? ⟨ad j, 0, none⟩ = some (.int .i64 1) from by rw [← hk1]; exact (h.node _ _ hj).1.cell rfl)
        have hyl : y.size ≤ 1000000 := by have := Nt.nm_le hy; omega
        have kp := Lib.hid (fun W (h : RepP F K W tb T ad mb) => pput_any W (ad m) (mb m) K (ad j) (T.nd m) _ _ y (h.dir hm hk) (h.map _ _ hm hk).2 (by omega) hyl)
        have hleaf := Lib.hid (fun W (h : RepP F K W tb T ad mb) => h.leaf hj (by omega))
        have hnb := Lib.hid (hR.ne_map hj hm hk)
        obtain ⟨C, hC⟩ : ∃ C, cnt T.paths j = C := ⟨_, rfl⟩
        have hcl : C ≤ K := by rw [← hC]; exact Nat.le_trans (Nt.cnt_le _ _) hW.many
        have ew : IntKind.i64.wrap ((C : Int) + 1) = (C + 1 : Nat) := by rw [wrap_small (by omega) (by omega)]; omega
        rw [hC] at hleaf
        have HC := Lib.hid hC
        have HK1 := Lib.hid hk1
        have HF := Lib.hid hf
        clear hC hk1 hf
        go_enter Tryz.func42, Tryz.ntmps42
        go_wp2_with (first
          | (go_at_call 78; refine (kn.out _ HR.out).mono ?_; rintro e w1 ⟨⟨v, rfl, hv, _⟩, hb1⟩; obtain rfl := hv rfl)
          | (go_at_call 66; refine (kf.out _ ((HR.out.later hb1).later (below_new w1 _))).mono ?_; rintro e w2 ⟨rfl, hb2⟩; have hR2 := Lib.hid (((HR.out.later hb1).later (below_new w1 _)).later hb2); have d0 := hjb.out w2 hR2.out; have hpl := Lib.hid ((BX.new w1 136 #[.pointer (some ⟨ad m, 0, none⟩), .string y]).later hb2); have p0 : w2.cell? ⟨w1.heap.size, 0, none⟩ = some (.pointer (some ⟨ad m, 0, none⟩)) := hpl.out.cell rfl; have p1 : w2.cell? ⟨w1.heap.size, 1, none⟩ = some (.string y) := hpl.out.cell rfl)
          | (go_at_call 82; refine (kp.out _ hR2.out).mono ?_; rintro e w3 ⟨rfl, hm3, ho3⟩; have hl3 := Lib.hid ((hleaf.out w2 hR2.out).oth ho3 hnb.out); have z0 : w3.cell? ⟨ad j, 8, none⟩ = some (.int .i64 C) := hl3.out.cell rfl; have z1 := hl3.out.free 8))
        go_ret
        have hB2 := bthen (bthen hb1 (below_new w1 _)) hb2
        have hml := (hR.node _ _ hm).1.lt
        have hjl := (hR.node _ _ hj).1.lt
        refine ⟨rfl, ⟨ad, mb, (hR.linked hW HF.out e1 hm hk hj HK1.out (hm3.setCell (a := ⟨ad j, 8, none⟩) (fun e => hnb.out e.symm) _) (w' := w3.setCell ⟨ad j, 8, none⟩ (.int .i64 ((C : Int) + 1))) ?_ ?_).weak (Grow.self F _ _) (Nat.le_refl _)⟩, ?_⟩
        · have := hl3.out.set 8 (.int .i64 ((C + 1 : Nat) : Int))
          rw [HC.out]
          exact this
        · intro k h1 h2 h3
          rw [heap_setCell_other _ _ _ _ h3]
          exact (ho3.2.2.2.2 k (Nat.lt_of_lt_of_le h1 hB2.size) h2).trans (hB2.block k h1)
        · exact (Keep.grow hB2 (Keep.ofOth ho3 (hR.map _ _ hm hk).1)).trans (Keep.ofOth ((Oth.refl (ad j) w3).setCell 8 _) (hR.node _ _ hj).2)
      · rw [if_pos (by simp [hk1])]
        obtain ⟨kd, hkk⟩ : ∃ kd, (T.nd j).kind = kd := ⟨_, rfl⟩
        have hjb := Lib.hid (fun W (h : RepP F K W tb T ad mb) => show W.cell? ⟨ad j, 0, none⟩ = some (.int .i64 kd) from by rw [← hkk]; exact (h.node _ _ hj).1.cell rfl)
        rw [hkk] at hk1
        have g : (kd != 1) = true := by simp [hk1]
        clear hkk hk1 hf
        go_enter Tryz.func42, Tryz.ntmps42
        go_wp2_with (first
          | (go_at_call 78; refine (kn.out _ HR.out).mono ?_; rintro e w1 ⟨⟨v, rfl, hv, _⟩, hb1⟩; obtain rfl := hv rfl)
          | (go_at_call 66; refine (kf.out _ ((HR.out.later hb1).later (below_new w1 _))).mono ?_; rintro e w2 ⟨rfl, hb2⟩; have hR2 := Lib.hid (((HR.out.later hb1).later (below_new w1 _)).later hb2); have d0 := hjb.out w2 hR2.out))
        go_ret
        exact Done.err HR.out (bthen (bthen hb1 (below_new w1 _)) hb2) 11
    · have hE : T.lnk p old = (T, (T.find old).2) := by
        have : T.lnkE p old = (T.find old).2 := by unfold Tr.lnkE; rw [if_neg (by simp [hf]), if_pos hc]
        unfold Tr.lnk
        rw [this, if_neg hc]
      rw [hE]
      generalize T.find old = x at *
      obtain ⟨j, c⟩ := x
      simp only at hc kf ⊢
      simp only [fv, if_neg hc, ptrv] at kf
      have g : (c != 0) = true := by simp [hc]
      clear hE hc hf
      go_enter Tryz.func42, Tryz.ntmps42
      go_wp2_with (first
        | (go_at_call 78; refine (kn.out _ HR.out).mono ?_; rintro e w1 ⟨⟨v, rfl, hv, _⟩, hb1⟩; obtain rfl := hv rfl)
        | (go_at_call 66; refine (kf.out _ ((HR.out.later hb1).later (below_new w1 _))).mono ?_; rintro e w2 ⟨rfl, hb2⟩))
      go_ret
      exact Done.err HR.out (bthen (bthen hb1 (below_new w1 _)) hb2) c
  · have hE : T.lnk p old = (T, T.fresh p) := by
      have : T.lnkE p old = T.fresh p := by unfold Tr.lnkE; rw [if_pos hf]
      unfold Tr.lnk
      rw [this, if_neg hf]
    rw [hE]
    generalize T.fresh p = z at *
    have g : (z != 0) = true := by simp [hf]
    have HF := Lib.hid hf; clear hf hE
    go_enter Tryz.func42, Tryz.ntmps42
    go_wp2_with (go_at_call 78; refine (kn.out _ HR.out).mono ?_; rintro e w1 ⟨⟨v, rfl, _, hv⟩, hb1⟩; obtain rfl := hv HF.out)
    go_ret
    exact Done.err HR.out (bthen hb1 (below_new w1 _)) z
theorem set_any (hW : WF T K) (hK : K ≤ 100000) (hR : RepP F K w tb T ad mb) (p : ByteArray) (hp : p.size ≤ 1000000) (a b c d : Int) :
    Calls Tryz.prog 57 #[.pointer (some ⟨tb, 0, none⟩), .string p, .agg #[.int .i64 a, .int .i64 b, .int .i64 c, .int .i64 d]] w fun e w' => Done F K w w' tb (T.st p a b c d) e := by
  have HR := Lib.hid hR
  have kf := Lib.hid (fun W (h : RepP F K W tb T ad mb) => find_any hW h p hp)
  have km := Lib.hid (fun W => meta_any W a b c d)
  have hb0 := Lib.hid (below_new w (.cells #[.int .i64 a, .int .i64 b, .int .i64 c, .int .i64 d] 72))
  have hB0 := Lib.hid (BX.new w 72 #[.int .i64 a, .int .i64 b, .int .i64 c, .int .i64 d])
  by_cases hc : (T.find p).2 = 0
  · have hj := (hW.find_ok hc).2
    have hfd : T.find p = ((T.find p).1, 0) := by rw [← hc]
    have hE : T.st p a b c d = if Nt.metaOk a b c d = false then (T, 10) else (T.st1 (T.find p).1 a b c d, 0) := by
      have : T.stE p a b c d = if Nt.metaOk a b c d = false then 10 else 0 := by unfold Tr.stE; rw [if_neg (by simp [hc])]
      unfold Tr.st
      rw [this]
      by_cases hm : Nt.metaOk a b c d = false
      · rw [if_pos hm, if_pos hm, if_neg (by decide)]
      · rw [if_neg hm, if_neg hm, if_pos rfl]
    rw [hE]
    rw [hfd] at kf
    generalize (T.find p).1 = j at *
    clear hE hfd hc
    simp only [fv, if_pos, ptrv] at kf
    by_cases hmt : Nt.metaOk a b c d = true
    · rw [hmt] at km
      rw [if_neg (by simp [hmt])]
      have hjn := Lib.hid (fun W (h : RepP F K W tb T ad mb) => (h.node _ _ hj).1)
      clear hmt
      go_enter Tryz.func57, Tryz.ntmps57
      go_wp2_with (first
        | (go_at_call 66; refine (kf.out _ (HR.out.later hb0.out)).mono ?_; rintro e w1 ⟨rfl, hb1⟩; have hbx := Lib.hid (hB0.out.later hb1); have q0 : w1.cell? ⟨w.heap.size, 0, none⟩ = some (.int .i64 a) := hbx.out.cell rfl; have q1 : w1.cell? ⟨w.heap.size, 1, none⟩ = some (.int .i64 b) := hbx.out.cell rfl; have q2 : w1.cell? ⟨w.heap.size, 2, none⟩ = some (.int .i64 c) := hbx.out.cell rfl; have q3 : w1.cell? ⟨w.heap.size, 3, none⟩ = some (.int .i64 d) := hbx.out.cell rfl)
        | (go_at_call 79; refine (km.out _).mono ?_; rintro e w2 ⟨rfl, hb2⟩; have hR2 := Lib.hid (((HR.out.later hb0.out).later hb1).later hb2); have hbx2 := Lib.hid (hbx.out.later hb2); have r0 : w2.cell? ⟨w.heap.size, 0, none⟩ = some (.int .i64 a) := hbx2.out.cell rfl; have r1 : w2.cell? ⟨w.heap.size, 1, none⟩ = some (.int .i64 b) := hbx2.out.cell rfl; have r2 : w2.cell? ⟨w.heap.size, 2, none⟩ = some (.int .i64 c) := hbx2.out.cell rfl; have r3 : w2.cell? ⟨w.heap.size, 3, none⟩ = some (.int .i64 d) := hbx2.out.cell rfl; have hn2 := Lib.hid (hjn.out w2 hR2.out); have z1 : w2.cell? ⟨ad j, 1, none⟩ = some (.int .i64 (T.nd j).mode) := hn2.out.cell rfl; have z2 : w2.cell? ⟨ad j, 2, none⟩ = some (.int .i64 (T.nd j).uid) := hn2.out.cell rfl; have z3 : w2.cell? ⟨ad j, 3, none⟩ = some (.int .i64 (T.nd j).gid) := hn2.out.cell rfl; have z4 : w2.cell? ⟨ad j, 4, none⟩ = some (.int .i64 (T.nd j).mtime) := hn2.out.cell rfl; have f1 := hn2.out.free 1; have f2 := hn2.out.free 2; have f3 := hn2.out.free 3; have f4 := hn2.out.free 4))
      go_ret
      have hB2 := bthen (bthen hb0.out hb1) hb2
      have hjl := (hR.node _ _ hj).1.lt
      have hnt := hR.ne_tree hj
      have hx := (((hn2.out.set 1 (.int .i64 a)).set 2 (.int .i64 b)).set 3 (.int .i64 c)).set 4 (.int .i64 d)
      have hu : ∀ f : Nd → Nat, (∀ x y : Nd, x.xs = y.xs → f x = f y) → used (T.st1 j a b c d).paths f (T.st1 j a b c d).nodes = used T.paths f T.nodes := fun f hfx => Nt.used_set0 f T.nodes _ (hW.lt _ _ hj) (hfx _ _ rfl)
      refine ⟨rfl, ⟨ad, mb, (hR.withed (x := { T.nd j with mode := a, uid := b, gid := c, mtime := d }) hW hj rfl hx ?_ ?_).weak (Grow.self F _ _) (by omega)⟩, ?_⟩
      · have e2 : (T.with_ j { T.nd j with mode := a, uid := b, gid := c, mtime := d }).usedN = T.usedN := hu _ fun _ _ _ => rfl
        have e3 : (T.with_ j { T.nd j with mode := a, uid := b, gid := c, mtime := d }).usedB = T.usedB := hu _ fun x y h => by rw [h]
        rw [e2, e3]
        exact (((hR2.out.tree.other hnt.symm _).other hnt.symm _).other hnt.symm _).other hnt.symm _
      · intro k h1 h2 h3
        rw [heap_setCell_other _ _ _ _ h2, heap_setCell_other _ _ _ _ h2, heap_setCell_other _ _ _ _ h2, heap_setCell_other _ _ _ _ h2]
        exact hB2.block k h1
      · exact Keep.grow hB2 (Keep.ofOth (((((Oth.refl (ad j) w2).setCell 1 _).setCell 2 _).setCell 3 _).setCell 4 _) (hR.node _ _ hj).2)
    · have hmt' : Nt.metaOk a b c d = false := by cases h : Nt.metaOk a b c d with | false => rfl | true => exact absurd h hmt
      rw [hmt'] at km
      rw [if_pos hmt']
      clear hmt hmt'
      go_enter Tryz.func57, Tryz.ntmps57
      go_wp2_with (first
        | (go_at_call 66; refine (kf.out _ (HR.out.later hb0.out)).mono ?_; rintro e w1 ⟨rfl, hb1⟩; have hbx := Lib.hid (hB0.out.later hb1); have q0 : w1.cell? ⟨w.heap.size, 0, none⟩ = some (.int .i64 a) := hbx.out.cell rfl; have q1 : w1.cell? ⟨w.heap.size, 1, none⟩ = some (.int .i64 b) := hbx.out.cell rfl; have q2 : w1.cell? ⟨w.heap.size, 2, none⟩ = some (.int .i64 c) := hbx.out.cell rfl; have q3 : w1.cell? ⟨w.heap.size, 3, none⟩ = some (.int .i64 d) := hbx.out.cell rfl)
        | (go_at_call 79; refine (km.out _).mono ?_; rintro e w2 ⟨rfl, hb2⟩))
      go_ret
      exact Done.err HR.out (bthen (bthen hb0.out hb1) hb2) 10
  · have hE : T.st p a b c d = (T, (T.find p).2) := by
      have : T.stE p a b c d = (T.find p).2 := by unfold Tr.stE; rw [if_pos hc]
      unfold Tr.st
      rw [this, if_neg hc]
    rw [hE]
    generalize T.find p = x at *
    obtain ⟨j, z⟩ := x
    simp only at hc kf ⊢
    simp only [fv, if_neg hc, ptrv] at kf
    have g : (z != 0) = true := by simp [hc]
    clear hE hc
    go_enter Tryz.func57, Tryz.ntmps57
    go_wp2_with (first
      | (go_at_call 66; refine (kf.out _ (HR.out.later hb0.out)).mono ?_; rintro e w1 ⟨rfl, hb1⟩))
    go_ret
    exact Done.err HR.out (bthen hb0.out hb1) z
end
end Go.Proofs.YtbianfjennnofaaGreatDoor
