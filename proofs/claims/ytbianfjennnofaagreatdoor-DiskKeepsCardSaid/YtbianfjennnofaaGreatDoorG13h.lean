/- WALKS OF LAYER 13, EIGHTH PART: Mkdir, Create, Sym. -/
import Derived.Test.YtbianfjennnofaaGreatDoorN13c
namespace Go.Proofs.YtbianfjennnofaaGreatDoor
set_option linter.unusedVariables false
open Go Go.RowKit Go.Maps
set_option maxRecDepth 100000
set_option maxHeartbeats 1000000
open Nt (Tr Nd WF Ps Path at_ cnt used)
/-- A call at a tree is done: its error, and what the tree is then. -/
def Done (F : Nat → Prop) (K : Nat) (w w' : World) (tb : Nat) (r : Tr × Int) (e : Ending) : Prop := e = .returned (.int .i64 r.2) ∧ Rep (Grow F w w') (K + 301) w' tb r.1 ∧ Keep F w w'
section
variable {F : Nat → Prop} {K tb : Nat} {w w' : World} {T : Tr} {ad mb : Nat → Nat}
theorem Done.err (hR : RepP F K w tb T ad mb) (hb : Below w.heap.size w w') (c : Int) : Done F K w w' tb (T, c) (.returned (.int .i64 c)) :=
  ⟨rfl, ⟨ad, mb, (hR.later hb).weak (Grow.self F w w') (by omega)⟩, Keep.ofBelow hb⟩
theorem BX.keepK {G : Nat → Prop} {a : Nat} {U : TypeId} {cs : Array Value} (h : BX w a U cs) (hk : Keep G w w') (hn : ¬ G a) : BX w' a U cs := (hk.block a h.lt hn).trans h
theorem Keep.fresh {G : Nat → Prop} {v : World} (h1 : Below w.heap.size w v) (h2 : Keep G v w') (hG : ∀ k, k < w.heap.size → G k → F k) : Keep F w w' :=
  ⟨h2.os.trans h1.os, h2.tape.trans h1.tape, h2.output.trans h1.output, Nat.le_trans h1.size h2.size, fun k hk hn => (h2.block k (Nat.lt_of_lt_of_le hk h1.size) fun e => hn (hG k hk e)).trans (h1.block k hk)⟩
theorem usedN_le (hW : WF T K) : T.usedN ≤ K := Nat.le_trans (Nt.used_le _ _ 1 fun _ _ => Nat.le_refl _) (by have := hW.few; omega)
theorem usedB_le (hW : WF T K) : T.usedB ≤ K * 4096 := Nat.le_trans (Nt.used_le _ _ 4096 fun x hx => by have := hW.kinds x hx; unfold Nd.ok at this; omega) (Nat.mul_le_mul_right _ hW.few)
theorem place_ok (hW : WF T K) {p : ByteArray} {r : Int} (hf : T.fresh p = 0) (hr : Pp.IsLast p p.size r) :
    ∃ q y m, Pp.pieces p = q ++ [y] ∧ Pp.Nm y ∧ (q, m) ∈ T.paths ∧ (T.nd m).kind = 4 ∧ (T.fnd [] 0 (Pp.pieces p).dropLast).1 = m ∧ baseS p r = y := by
  obtain ⟨h1, q, y, m, e1, hy, hm, hk, e2⟩ := hW.par_ok (hW.fresh_ok hf).1
  refine ⟨q, y, m, e1, hy, hm, hk, by rw [e1, List.dropLast_concat, e2], ?_⟩
  have := base_last hr
  rw [e1, List.dropLast_concat] at this
  simpa using (List.append_cancel_left this).symm
theorem radd_any (hW : WF T K) (hK : K ≤ 100000) (hR : RepP F K w tb T ad mb) {q : Path} {m : Nat} (hm : (q, m) ∈ T.paths) (hk : (T.nd m).kind = 4) {y : ByteArray} (hy : Pp.Nm y) {x : Nd} (hx : x.ok) (c : Nat) (mv : Option Nat)
    (hc : BX w c 91 (NC x mv 0)) (hcm : ad m ≠ c) :
    Calls Tryz.prog 81 #[.pointer (some ⟨tb, 0, none⟩), .agg #[.pointer (some ⟨ad m, 0, none⟩), .string y], .pointer (some ⟨c, 0, none⟩)] w fun e w' => e = .returned (.tuple #[]) ∧
      MapAt w' (mb m) (K + 1) (fun s => if s = y then some c else (at_ T.paths (q ++ [s])).map ad) ∧ BX w' c 91 (NC x mv (1 : Nat)) ∧ BX w' tb 95 (TC T (ad 0) (T.usedN + 1) (T.usedB + x.xs.length)) ∧
      Keep (fun k => k = mb m ∨ k = c ∨ k = tb) w w' := by
  have h1 := usedN_le hW
  have h2 := usedB_le hW
  have h3 := Nt.nm_le hy
  have h4 := hx.2.1
  have h5 := hx.2.2.1
  exact add_any w tb (ad m) (mb m) c K (T.nd m) x _ 0 mv _ y _ _ _ _ _ hR.tree (hR.dir hm hk) (hR.map _ _ hm hk).2 hc hcm (by omega) (by omega) (by omega) (by omega) (by omega)
theorem rroom_any (hW : WF T K) (hK : K ≤ 100000) (hR : RepP F K w tb T ad mb) (n m : Int) :
    Calls Tryz.prog 80 #[.pointer (some ⟨tb, 0, none⟩), .int .i64 n, .int .i64 m] w fun e w' => e = .returned (.bool (T.roomy n m)) ∧ Below w.heap.size w w' := by
  have h1 := usedN_le hW
  have h2 := usedB_le hW
  have h3 := hW.rms
  exact room_any w tb _ T.room T.vol T.usedN T.usedB n m hR.tree rfl rfl rfl rfl ⟨h3.1.1, h3.1.2⟩ ⟨h3.2.1, h3.2.2⟩ (by omega) (by omega)
theorem newDir_at (w : World) (z : Nat) (hz : w.heap.size = z) (p q r s : Int) :
    Calls Tryz.prog 39 #[.agg #[.int .i64 p, .int .i64 q, .int .i64 r, .int .i64 s]] w fun e w' => e = .returned (.pointer (some ⟨z + 2, 0, none⟩)) ∧ BX w' (z + 2) 91 (NC ⟨4, p, q, r, s, ⟨#[]⟩, none, 0, 0, []⟩ (some (z + 1)) 0) ∧
      MapAt w' (z + 1) 0 (fun _ => none) ∧ Below w.heap.size w w' ∧ w'.heap.size = z + 3 := by
  subst hz
  exact newDir_any w p q r s
theorem mkdir_any (hW : WF T K) (hK : K ≤ 100000) (hR : RepP F K w tb T ad mb) (p : ByteArray) (hp : p.size ≤ 1000000) (a b c d : Int) :
    Calls Tryz.prog 40 #[.pointer (some ⟨tb, 0, none⟩), .string p, .agg #[.int .i64 a, .int .i64 b, .int .i64 c, .int .i64 d]] w fun e w' => Done F K w w' tb (T.mk' p ⟨4, a, b, c, d, ⟨#[]⟩, none, 0, 0, []⟩) e := by
  obtain ⟨r, hr⟩ := Pp.last_ex p p.size (Nat.le_refl _)
  have HR := Lib.hid hR
  have kn := Lib.hid (fun W (h : RepP F K W tb T ad mb) => newPlace_any hW h p hp r hr)
  have km := Lib.hid (fun W => meta_any W a b c d)
  have kr := Lib.hid (fun W (h : RepP F K W tb T ad mb) => rroom_any hW hK h 1 0)
  have hb0 := Lib.hid (below_new w (.cells #[.int .i64 a, .int .i64 b, .int .i64 c, .int .i64 d] 72))
  have hB0 := Lib.hid (BX.new w 72 #[.int .i64 a, .int .i64 b, .int .i64 c, .int .i64 d])
  by_cases hf : T.fresh p = 0
  · obtain ⟨q, y, m, e1, hy, hm, hk, e2, e3⟩ := place_ok hW hf hr
    rw [e2, e3, hf] at kn
    by_cases hmt : Nt.metaOk a b c d = true
    · rw [hmt] at km
      by_cases hro : T.roomy 1 0 = true
      · rw [hro] at kr
        have hx : Nd.ok ⟨4, a, b, c, d, ⟨#[]⟩, none, 0, 0, []⟩ := ⟨.inr (.inr rfl), rfl, Nat.zero_le _, fun _ => rfl, fun _ => rfl⟩
        have hE : T.mk' p ⟨4, a, b, c, d, ⟨#[]⟩, none, 0, 0, []⟩ = (T.mk1 p ⟨4, a, b, c, d, ⟨#[]⟩, none, 0, 0, []⟩, 0) := by
          have : T.mkE p ⟨4, a, b, c, d, ⟨#[]⟩, none, 0, 0, []⟩ = 0 := by unfold Tr.mkE; rw [if_neg (by simp [hf]), if_neg (by simp [hmt]), if_neg (by simp), if_neg (by simp), if_neg (by simp [hro])]
          unfold Tr.mk'
          rw [this, if_pos rfl]
        rw [hE]
        have kd := Lib.hid (fun W s (e : W.heap.size = s) => newDir_at W s e a b c d)
        have HF := Lib.hid hf
        clear hE hro hmt hf
        go_enter Tryz.func40, Tryz.ntmps40
        go_wp2_with (first
          | (go_at_call 78; refine (kn.out _ (HR.out.later hb0.out)).mono ?_; rintro e w1 ⟨⟨v, rfl, hv, _⟩, hb1⟩; obtain rfl := hv rfl; have hbx := Lib.hid ((hB0.out.later hb1).alloc (.cells #[.pointer (some ⟨ad m, 0, none⟩), .string y] 136)); have q0 := (hbx.out.cell (j := 0) (v := .int .i64 a) rfl); have q1 := (hbx.out.cell (j := 1) (v := .int .i64 b) rfl); have q2 := (hbx.out.cell (j := 2) (v := .int .i64 c) rfl); have q3 := (hbx.out.cell (j := 3) (v := .int .i64 d) rfl))
          | (go_at_call 79; refine (km.out _).mono ?_; rintro e w2 ⟨rfl, hb2⟩)
          | (go_at_call 80; refine (kr.out _ ((((HR.out.later hb0.out).later hb1).later (below_new w1 _)).later hb2)).mono ?_; rintro e w3 ⟨rfl, hb3⟩))
        have hR3 := Lib.hid (((((HR.out.later hb0.out).later hb1).later (below_new w1 _)).later hb2).later hb3)
        have hB3 := Lib.hid (bthen (bthen (bthen (bthen hb0.out hb1) (below_new w1 _)) hb2) hb3)
        have hme := Lib.hid ((hbx.out.later hb2).later hb3)
        have hpl := Lib.hid (((BX.new w1 136 #[.pointer (some ⟨ad m, 0, none⟩), .string y]).later hb2).later hb3)
        have hwlt : Hid (w.heap.size < w3.heap.size) := hme.out.lt
        have hw1lt : Hid (w1.heap.size < w3.heap.size) := hpl.out.lt
        have hlow : Hid (w.heap.size ≤ w1.heap.size) := (bthen hb0.out hb1).size
        clear hbx q0 q1 q2 q3 hb1 hb2 hb3 hv kn km kr
        have ALLS := Lib.hid (fun (V : World) (h : Below w3.heap.size w3 V) => show V.cell? ⟨w.heap.size, 0, none⟩ = some (.int .i64 a) ∧ V.cell? ⟨w.heap.size, 1, none⟩ = some (.int .i64 b) ∧ V.cell? ⟨w.heap.size, 2, none⟩ = some (.int .i64 c) ∧ V.cell? ⟨w.heap.size, 3, none⟩ = some (.int .i64 d) ∧ V.cell? ⟨w1.heap.size, 0, none⟩ = some (.pointer (some ⟨ad m, 0, none⟩)) ∧ V.cell? ⟨w1.heap.size, 1, none⟩ = some (.string y) from
          ⟨(hme.out.later h).cell rfl, (hme.out.later h).cell rfl, (hme.out.later h).cell rfl, (hme.out.later h).cell rfl, (hpl.out.later h).cell rfl, (hpl.out.later h).cell rfl⟩)
        have HDS := Lib.hid (show w3.drew.heap.size = w3.heap.size from rfl)
        have hacc : Below w3.heap.size w3 w3 := Below.refl _ _
        obtain ⟨y0, y1, y2, y3, y4, y5⟩ := ALLS.out w3 hacc
        have hml := Lib.hid (hR.node _ _ hm).1.lt
        have hmb := Lib.hid (hR.map _ _ hm hk).2.lt
        have htl := Lib.hid hR.tree.lt
        have hcm : Hid (ad m ≠ w3.heap.size + 2) := by have := hml.out; have := hwlt.out; show ad m ≠ w3.heap.size + 2; omega
        have hne1 : Hid (¬ (w.heap.size = mb m ∨ w.heap.size = w3.heap.size + 2 ∨ w.heap.size = tb)) := by have := hwlt.out; have := hmb.out; have := htl.out; show ¬ _; omega
        have hne2 : Hid (¬ (w1.heap.size = mb m ∨ w1.heap.size = w3.heap.size + 2 ∨ w1.heap.size = tb)) := by have := hw1lt.out; have := hlow.out; have := hmb.out; have := htl.out; show ¬ _; omega
        have KEEPS := Lib.hid (fun (U V : World) (h : Below w3.heap.size w3 U) (g : Keep (fun k => k = mb m ∨ k = w3.heap.size + 2 ∨ k = tb) U V) => show V.cell? ⟨w.heap.size, 0, none⟩ = some (.int .i64 a) ∧ V.cell? ⟨w.heap.size, 1, none⟩ = some (.int .i64 b) ∧ V.cell? ⟨w.heap.size, 2, none⟩ = some (.int .i64 c) ∧ V.cell? ⟨w.heap.size, 3, none⟩ = some (.int .i64 d) ∧ V.cell? ⟨w1.heap.size, 0, none⟩ = some (.pointer (some ⟨ad m, 0, none⟩)) ∧ V.cell? ⟨w1.heap.size, 1, none⟩ = some (.string y) from
          ⟨((hme.out.later h).keepK g hne1.out).cell rfl, ((hme.out.later h).keepK g hne1.out).cell rfl, ((hme.out.later h).keepK g hne1.out).cell rfl, ((hme.out.later h).keepK g hne1.out).cell rfl, ((hpl.out.later h).keepK g hne2.out).cell rfl, ((hpl.out.later h).keepK g hne2.out).cell rfl⟩)
        go_region_held3 (fun V => V.cell? ⟨w.heap.size, 0, none⟩ = some (.int .i64 a) ∧ V.cell? ⟨w.heap.size, 1, none⟩ = some (.int .i64 b) ∧ V.cell? ⟨w.heap.size, 2, none⟩ = some (.int .i64 c) ∧ V.cell? ⟨w.heap.size, 3, none⟩ = some (.int .i64 d) ∧ V.cell? ⟨w1.heap.size, 0, none⟩ = some (.pointer (some ⟨ad m, 0, none⟩)) ∧ V.cell? ⟨w1.heap.size, 1, none⟩ = some (.string y))
          (first | go_keep | (exact ALLS.out _ hacc) | (exact KEEPS.out _ _ hacc g4))
          (first
            | (go_at_call 39; (with_reducible refine (kd.out _ _ HDS.out).mono ?_); rintro e wn ⟨rfl, hn1, hn2, hbn, hsz⟩; replace hacc : Below w3.heap.size w3 wn := hacc.drew.trans (Below.mono hbn (Nat.le_refl _)))
            | (go_at_call 81; (with_reducible refine (radd_any hW hK (hR3.out.later hacc) hm hk hy hx _ _ hn1 hcm.out).mono ?_); rintro e wz ⟨rfl, g1, g2, g3, g4⟩))
        all_goals
          go_wp2
          go_ret
          have hB4 := bthen hB3.out hacc
          have hsz3 := hB3.out.size
          have hb1 := hml.out
          have hb2 := hmb.out
          have hb3 := htl.out
          refine ⟨rfl, ⟨_, _, hR.made hW HF.out hx e1 hm hk (c := w3.heap.size + 2) (b := w3.heap.size + 1) (by omega) (by omega) g1 g2 (fun _ => hn2.of_block (g4.block _ hn2.lt (by omega))) g3 (fun k hk1 hk2 hk3 => (g4.block k (Nat.lt_of_lt_of_le hk1 hB4.size) (by omega)).trans (hB4.block k hk1)) (Nat.le_trans hB4.size g4.size)⟩, Keep.fresh hB4 g4 fun k hk1 hk2 => ?_⟩
          rcases hk2 with rfl | rfl | rfl
          · exact (hR.map _ _ hm hk).1
          · omega
          · exact hR.ftree
      · have hro' : T.roomy 1 0 = false := by cases h : T.roomy 1 0 with | false => rfl | true => exact absurd h hro
        rw [hro'] at kr
        have hE : T.mk' p ⟨4, a, b, c, d, ⟨#[]⟩, none, 0, 0, []⟩ = (T, 14) := by
          have : T.mkE p ⟨4, a, b, c, d, ⟨#[]⟩, none, 0, 0, []⟩ = 14 := by unfold Tr.mkE; rw [if_neg (by simp [hf]), if_neg (by simp [hmt]), if_neg (by simp), if_neg (by simp), if_pos (by simp [hro'])]
          unfold Tr.mk'
          rw [this, if_neg (by decide)]
        rw [hE]
        clear hE hro hro' hmt hf
        go_enter Tryz.func40, Tryz.ntmps40
        go_wp2_with (first
          | (go_at_call 78; refine (kn.out _ (HR.out.later hb0.out)).mono ?_; rintro e w1 ⟨⟨v, rfl, hv, _⟩, hb1⟩; obtain rfl := hv rfl; have hbx := Lib.hid ((hB0.out.later hb1).alloc (.cells #[.pointer (some ⟨ad m, 0, none⟩), .string y] 136)); have q0 := (hbx.out.cell (j := 0) (v := .int .i64 a) rfl); have q1 := (hbx.out.cell (j := 1) (v := .int .i64 b) rfl); have q2 := (hbx.out.cell (j := 2) (v := .int .i64 c) rfl); have q3 := (hbx.out.cell (j := 3) (v := .int .i64 d) rfl))
          | (go_at_call 79; refine (km.out _).mono ?_; rintro e w2 ⟨rfl, hb2⟩)
          | (go_at_call 80; refine (kr.out _ ((((HR.out.later hb0.out).later hb1).later (below_new w1 _)).later hb2)).mono ?_; rintro e w3 ⟨rfl, hb3⟩))
        go_ret
        exact Done.err HR.out (bthen (bthen (bthen (bthen hb0.out hb1) (below_new w1 _)) hb2) hb3) 14
    · have hmt' : Nt.metaOk a b c d = false := by cases h : Nt.metaOk a b c d with | false => rfl | true => exact absurd h hmt
      rw [hmt'] at km
      have hE : T.mk' p ⟨4, a, b, c, d, ⟨#[]⟩, none, 0, 0, []⟩ = (T, 10) := by
        have : T.mkE p ⟨4, a, b, c, d, ⟨#[]⟩, none, 0, 0, []⟩ = 10 := by unfold Tr.mkE; rw [if_neg (by simp [hf]), if_pos (by simp [hmt'])]
        unfold Tr.mk'
        rw [this, if_neg (by decide)]
      rw [hE]
      clear hE hmt hmt' hf
      go_enter Tryz.func40, Tryz.ntmps40
      go_wp2_with (first
          | (go_at_call 78; refine (kn.out _ (HR.out.later hb0.out)).mono ?_; rintro e w1 ⟨⟨v, rfl, hv, _⟩, hb1⟩; obtain rfl := hv rfl; have hbx := Lib.hid ((hB0.out.later hb1).alloc (.cells #[.pointer (some ⟨ad m, 0, none⟩), .string y] 136)); have q0 := (hbx.out.cell (j := 0) (v := .int .i64 a) rfl); have q1 := (hbx.out.cell (j := 1) (v := .int .i64 b) rfl); have q2 := (hbx.out.cell (j := 2) (v := .int .i64 c) rfl); have q3 := (hbx.out.cell (j := 3) (v := .int .i64 d) rfl))
          | (go_at_call 79; refine (km.out _).mono ?_; rintro e w2 ⟨rfl, hb2⟩))
      go_ret
      exact Done.err HR.out (bthen (bthen (bthen hb0.out hb1) (below_new w1 _)) hb2) 10
  · have hE : T.mk' p ⟨4, a, b, c, d, ⟨#[]⟩, none, 0, 0, []⟩ = (T, T.fresh p) := by
      have : T.mkE p ⟨4, a, b, c, d, ⟨#[]⟩, none, 0, 0, []⟩ = T.fresh p := by unfold Tr.mkE; rw [if_pos hf]
      unfold Tr.mk'
      rw [this, if_neg hf]
    rw [hE]
    generalize T.fresh p = z at *
    have g : (z != 0) = true := by simp [hf]
    have HF := Lib.hid hf; clear hf hE
    go_enter Tryz.func40, Tryz.ntmps40
    go_wp2_with (go_at_call 78; refine (kn.out _ (HR.out.later hb0.out)).mono ?_; rintro e w1 ⟨⟨v, rfl, _, hv⟩, hb1⟩; obtain rfl := hv HF.out)
    go_ret
    exact Done.err HR.out (bthen (bthen hb0.out hb1) (below_new w1 _)) z
end
end Go.Proofs.YtbianfjennnofaaGreatDoor
