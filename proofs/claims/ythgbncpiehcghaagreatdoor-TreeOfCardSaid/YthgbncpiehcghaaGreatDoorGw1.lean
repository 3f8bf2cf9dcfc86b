/- WALKS OF LAYER 15, SECOND PART: Set, with the tree's own blocks; firstOf. -/
import Derived.Test.YthgbncpiehcghaaGreatDoorG15a
import Derived.Laws.BitsAllLaws
import Derived.Test.YthgbncpiehcghaaGreatDoorGn2
import Derived.Test.YthgbncpiehcghaaGreatDoorR13j
import Derived.RangeFuncBox
namespace Go.Proofs.YthgbncpiehcghaaGreatDoor
set_option linter.unusedVariables false
open Go Go.RowKit Go.Maps
set_option maxRecDepth 100000
set_option maxHeartbeats 4000000
open Nt (Tr Nd WF Ps Path at_ cnt used txt Mm)
section
variable {F : Nat → Prop} {K tb : Nat} {w w' : World} {T : Tr} {ad mb : Nat → Nat}
/-- Set, where the path is there and the numbers may be: the tree stands in its own blocks. -/
theorem set_same (hW : WF T K) (hK : K ≤ 100000) (hR : RepP F K w tb T ad mb) (p : ByteArray) (hp : p.size ≤ 1000000) (a b c d : Int) {j : Nat} (hfd : T.find p = (j, 0)) (hmt : Nt.metaOk a b c d = true) :
    Calls Tryz.prog 61 #[.pointer (some ⟨tb, 0, none⟩), .string p, .agg #[.int .i64 a, .int .i64 b, .int .i64 c, .int .i64 d]] w fun e w' => e = .returned (.int .i64 0) ∧ RepP F K w' tb (T.st1 j a b c d) ad mb ∧ Keep (fun k => k = ad j) w w' := by
  have HR := Lib.hid hR
  have kf := Lib.hid (fun W (h : RepP F K W tb T ad mb) => find_any hW h p hp)
  have km := Lib.hid (fun W => meta_any W a b c d)
  have hb0 := Lib.hid (below_new w (.cells #[.int .i64 a, .int .i64 b, .int .i64 c, .int .i64 d] 72))
  have hB0 := Lib.hid (BX.new w 72 #[.int .i64 a, .int .i64 b, .int .i64 c, .int .i64 d])
  have hc : (T.find p).2 = 0 := by rw [hfd]
  have hj : (Nt.nms p, j) ∈ T.paths := by have := (hW.find_ok hc).2; rwa [hfd] at this
  rw [hfd] at kf
  clear hfd hc
  simp only [fv, if_pos, ptrv] at kf
  rw [hmt] at km
  have hjn := Lib.hid (fun W (h : RepP F K W tb T ad mb) => (h.node _ _ hj).1)
  clear hmt
  go_enter Tryz.func61, Tryz.ntmps61
  go_wp2_with (first
    | (go_at_call 69; refine (kf.out _ (HR.out.later hb0.out)).mono ?_; rintro e w1 ⟨rfl, hb1⟩; have hbx := Lib.hid (hB0.out.later hb1); have q0 : w1.cell? ⟨w.heap.size, 0, none⟩ = some (.int .i64 a) := hbx.out.cell rfl; have q1 : w1.cell? ⟨w.heap.size, 1, none⟩ = some (.int .i64 b) := hbx.out.cell rfl; have q2 : w1.cell? ⟨w.heap.size, 2, none⟩ = some (.int .i64 c) := hbx.out.cell rfl; have q3 : w1.cell? ⟨w.heap.size, 3, none⟩ = some (.int .i64 d) := hbx.out.cell rfl)
    | (go_at_call 96; refine (km.out _).mono ?_; rintro e w2 ⟨rfl, hb2⟩; have hR2 := Lib.hid (((HR.out.later hb0.out).later hb1).later hb2); have hbx2 := Lib.hid (hbx.out.later hb2); have r0 : w2.cell? ⟨w.heap.size, 0, none⟩ = some (.int .i64 a) := hbx2.out.cell rfl; have r1 : w2.cell? ⟨w.heap.size, 1, none⟩ = some (.int .i64 b) := hbx2.out.cell rfl; have r2 : w2.cell? ⟨w.heap.size, 2, none⟩ = some (.int .i64 c) := hbx2.out.cell rfl; have r3 : w2.cell? ⟨w.heap.size, 3, none⟩ = some (.int .i64 d) := hbx2.out.cell rfl; have hn2 := Lib.hid (hjn.out w2 hR2.out); have z1 : w2.cell? ⟨ad j, 1, none⟩ = some (.int .i64 (T.nd j).mode) := hn2.out.cell rfl; have z2 : w2.cell? ⟨ad j, 2, none⟩ = some (.int .i64 (T.nd j).uid) := hn2.out.cell rfl; have z3 : w2.cell? ⟨ad j, 3, none⟩ = some (.int .i64 (T.nd j).gid) := hn2.out.cell rfl; have z4 : w2.cell? ⟨ad j, 4, none⟩ = some (.int .i64 (T.nd j).mtime) := hn2.out.cell rfl; have f1 := hn2.out.free 1; have f2 := hn2.out.free 2; have f3 := hn2.out.free 3; have f4 := hn2.out.free 4))
  go_ret
  have hB2 := bthen (bthen hb0.out hb1) hb2
  have hjl := (hR.node _ _ hj).1.lt
  have hnt := hR.ne_tree hj
  have hx := (((hn2.out.set 1 (.int .i64 a)).set 2 (.int .i64 b)).set 3 (.int .i64 c)).set 4 (.int .i64 d)
  have hu : ∀ f : Nd → Nat, (∀ x y : Nd, x.xs = y.xs → f x = f y) → used (T.st1 j a b c d).paths f (T.st1 j a b c d).nodes = used T.paths f T.nodes := fun f hfx => Nt.used_set0 f T.nodes _ (hW.lt _ _ hj) (hfx _ _ rfl)
  refine ⟨rfl, hR.withed (x := { T.nd j with mode := a, uid := b, gid := c, mtime := d }) hW hj rfl hx ?_ ?_, ?_⟩
  · have e2 : (T.with_ j { T.nd j with mode := a, uid := b, gid := c, mtime := d }).usedN = T.usedN := hu _ fun _ _ _ => rfl
    have e3 : (T.with_ j { T.nd j with mode := a, uid := b, gid := c, mtime := d }).usedB = T.usedB := hu _ fun x y h => by rw [h]
    rw [e2, e3]
    exact (((hR2.out.tree.other hnt.symm _).other hnt.symm _).other hnt.symm _).other hnt.symm _
  · intro k h1 h2 h3
    rw [heap_setCell_other _ _ _ _ h2, heap_setCell_other _ _ _ _ h2, heap_setCell_other _ _ _ _ h2, heap_setCell_other _ _ _ _ h2]
    exact hB2.block k h1
  · exact Keep.grow hB2 (Keep.ofOth (((((Oth.refl (ad j) w2).setCell 1 _).setCell 2 _).setCell 3 _).setCell 4 _) rfl)
end
theorem fl_all : ((List.range 4096).all fun n => decide (bits .xor .i64 (n : Int) 1 ≠ (n : Int)) && decide (0 ≤ bits .xor .i64 (n : Int) 1) && decide (bits .xor .i64 (n : Int) 1 ≤ 4095)) = true := by decide +kernel
abbrev fl (a : Int) : Int := bits .xor .i64 a 1
theorem fl_ok {a : Int} (h0 : 0 ≤ a) (h1 : a ≤ 4095) : fl a ≠ a ∧ 0 ≤ fl a ∧ fl a ≤ 4095 := by
  obtain ⟨n, rfl⟩ : ∃ n : Nat, a = n := ⟨a.toNat, by omega⟩
  have h := List.all_eq_true.1 fl_all n (by rw [List.mem_range]; omega)
  simp only [Bool.and_eq_true, decide_eq_true_eq] at h
  exact ⟨h.1.1, h.1.2, h.2⟩
section
variable {F : Nat → Prop} {K tb : Nat} {w w' : World} {T M : Tr} {S : Ps} {ad mb : Nat → Nat}
theorem firstOf_any (hW : WF T K) (hK : K ≤ 100000) (hM : Nt.Marks T M S fl) (hT : Nt.Mok T) (hR : RepP F K w tb M ad mb) (p : ByteArray) (hp : p.size ≤ 1000000) (q : Path) {n : Nat} (hf : T.find p = (n, 0)) (hc : 1 < cnt T.paths n) (hS : S.length ≤ 100000) :
    Calls Tryz.prog 86 #[.pointer (some ⟨tb, 0, none⟩), .string p, .agg #[.int .i64 (T.nd n).mode, .int .i64 (T.nd n).uid, .int .i64 (T.nd n).gid, .int .i64 (T.nd n).mtime], .int .i64 (S.length : Nat)] w fun e w' => e = .returned (.int .i64 (Nt.fst (S ++ [(q, n)]) n : Nat)) ∧ ∃ M', Nt.Marks T M' (S ++ [(q, n)]) fl ∧ RepP F K w' tb M' ad mb ∧ Keep (fun k => k = ad n) w w' := by
  have hWM := hM.wf hW
  have hfM : M.find p = (n, 0) := (hM.find p).trans hf
  have hpn : (Nt.nms p, n) ∈ T.paths := by
    have := (hW.find_ok (p := p) (by rw [hf])).2
    rwa [hf] at this
  have hlt := hW.lt _ _ hpn
  have hmo := hT.nd hlt
  have hmr : 0 ≤ (T.nd n).mode ∧ (T.nd n).mode ≤ 4095 := by
    unfold Nt.metaOk at hmo
    simp only [Bool.and_eq_true, decide_eq_true_eq] at hmo
    omega
  have hfl := fl_ok hmr.1 hmr.2
  obtain ⟨a, b, c, d, hnd, hcase⟩ := hM.node n
  obtain ⟨W1, hW1, hb1, hs1, x1⟩ := frame1 w #[.int .i64 (T.nd n).mode, .int .i64 (T.nd n).uid, .int .i64 (T.nd n).gid, .int .i64 (T.nd n).mtime] 72
  have kg := get_any hWM hK (hR.later hb1) p hp
  have hinf : ∀ vd, infoV M p vd = .agg #[.int .i64 (T.nd n).kind, .int .i64 a, .int .i64 b, .int .i64 c, .int .i64 d, .string (T.nd n).link, vd, .int .i64 (cnt T.paths n : Nat)] := fun vd => by
    unfold infoV
    rw [hfM]
    simp only [if_true]
    rw [hnd, hM.paths]
  simp only [hinf, hfM] at kg
  obtain ⟨mo, hmo2⟩ : ∃ x, (T.nd n).mode = x := ⟨_, rfl⟩
  rw [hmo2] at hmr hfl hcase hW1 x1 ⊢
  have CF := Lib.hid (fun W (h : Below W1.heap.size W1 W) => show W.cell? ⟨w.heap.size, 0, none⟩ = some (.int .i64 mo) from (x1.later h).cell rfl)
  have KG := Lib.hid kg
  have HB := Lib.hid hb1
  have HR := Lib.hid hR
  have HM := Lib.hid hM
  obtain ⟨cn, hcn⟩ : ∃ x : Int, ((cnt T.paths n : Nat) : Int) = x := ⟨_, rfl⟩
  rw [hcn] at KG
  obtain ⟨xl, hxl⟩ : ∃ x, (M.nd n).xs.length = x := ⟨_, rfl⟩
  rw [hxl] at KG
  clear hxl
  generalize (T.nd n).kind = kd at *
  generalize (T.nd n).link = lk at *
  generalize (T.nd n).uid = ui at *
  generalize (T.nd n).gid = gi at *
  generalize (T.nd n).mtime = mt at *
  by_cases hin : Nt.fst S n < S.length
  · rw [if_pos ⟨hc, hin⟩] at hcase
    obtain ⟨rfl, rfl⟩ := hcase
    obtain ⟨r, hr⟩ := Nt.fst_lt.1 hin
    have hres : Nt.fst (S ++ [(q, n)]) n = Nt.fst S n := Nt.fst_app ⟨r, hr⟩ _
    have g : (fl mo != mo) = true := by simp [hfl.1]
    have HRES := Lib.hid hres
    have HSK := Lib.hid (hM.skip (q := q) (n := n) fun _ => ⟨r, hr⟩)
    obtain ⟨fm, hfm⟩ : ∃ x, fl mo = x := ⟨_, rfl⟩
    rw [hfm] at KG g
    clear hfl hres hr hin hM hR hWM hfM hnd hinf hb1 x1 kg hmr hfm hcn hmo hmo2 hf hpn hlt
    go_enter Tryz.func86, Tryz.ntmps86
    go_wp2_with (go_at_call 41; (with_reducible refine KG.out.mono ?_); rintro e w2 ⟨vd, rfl, hvd, hb2⟩; obtain ⟨A7, c7, rfl⟩ := row_slice (hvd trivial); clear hvd; have q0 := CF.out _ hb2; have q1 := CF.out _ (bthen hb2 (below_new w2 (.cells #[.int .i64 kd, .int .i64 fm, .int .i64 b, .int .i64 c, .int .i64 ((Nt.fst S n : Nat) : Int), .string lk, .slice A7 xl c7, .int .i64 cn] 92))))
    go_ret
    refine ⟨ret_int (by rw [HRES.out]), M, HSK.out, ?_, ?_⟩
    · exact ((HR.out.later HB.out).later hb2).later (below_new w2 _)
    · exact Keep.ofBelow (bthen (bthen HB.out hb2) (below_new w2 _))
  · rw [if_neg (fun h => hin h.2)] at hcase
    subst hcase
    have hno : ¬ ∃ r, (r, n) ∈ S := fun h => hin (Nt.fst_lt.2 h)
    have hres : Nt.fst (S ++ [(q, n)]) n = S.length := Nt.fst_new hno q
    have hok : Nt.metaOk (fl a) 0 0 (S.length : Nat) = true := by
      unfold Nt.metaOk
      simp only [Bool.and_eq_true, decide_eq_true_eq]
      omega
    have ks := Lib.hid (fun W (h : RepP F K W tb M ad mb) => set_same hWM hK h p hp (fl a) 0 0 (S.length : Nat) hfM hok)
    have HMK := Lib.hid (by have := hM.mark (q := q) hlt hc hno 0 0; rwa [hmo2] at this : Nt.Marks T (M.st1 n (fl a) 0 0 (S.length : Nat)) (S ++ [(q, n)]) fl)
    have HRES := Lib.hid hres
    clear hfl hres hin hM hR hWM hfM hnd hinf hb1 x1 kg hmr hcn hmo hmo2 hf hpn hlt hno hok
    go_enter Tryz.func86, Tryz.ntmps86
    go_wp2_with (first
      | (go_at_call 61; (with_reducible refine (ks.out _ HR3.out).mono ?_); rintro e w4 ⟨rfl, hR4, hk4⟩)
      | (go_at_call 41; (with_reducible refine KG.out.mono ?_); rintro e w2 ⟨vd, rfl, hvd, hb2⟩; obtain ⟨A7, c7, rfl⟩ := row_slice (hvd trivial); clear hvd; have q0 := CF.out _ hb2; have q1 := CF.out _ (bthen hb2 (below_new w2 (.cells #[.int .i64 kd, .int .i64 a, .int .i64 b, .int .i64 c, .int .i64 d, .string lk, .slice A7 xl c7, .int .i64 cn] 92))); have HR3 := Lib.hid (((HR.out.later HB.out).later hb2).later (below_new w2 (.cells #[.int .i64 kd, .int .i64 a, .int .i64 b, .int .i64 c, .int .i64 d, .string lk, .slice A7 xl c7, .int .i64 cn] 92)))))
    go_ret
    refine ⟨ret_int (by rw [HRES.out]), _, HMK.out, hR4, ?_⟩
    exact Keep.grow (bthen (bthen HB.out hb2) (below_new w2 _)) hk4
end
end Go.Proofs.YthgbncpiehcghaaGreatDoor
/- WALKS OF LAYER 15, THIRD PART: what a list's walk holds between two rounds. -/
namespace Go.Proofs.YthgbncpiehcghaaGreatDoor
set_option linter.unusedVariables false
open Go Go.RowKit Go.Maps
set_option maxRecDepth 100000
set_option maxHeartbeats 4000000
open Nt (Tr Nd WF Ps Path at_ cnt used txt Mm)
/-- What lies in no cells. -/
def NoCells (o : Obj) : Prop := o.isCells = false
theorem grown_cells {B : Nat} {W W' : World} {row : Option Nat} (hg : W.grownBy W' row) (hr : ∀ r, row = some r → B ≤ r ∧ ∃ o : Obj, W.heap[r]? = some o ∧ o.isCells = false) : KeepX NoCells W W' ∧ ∀ k, k < B → k < W.heap.size → W'.heap[k]? = W.heap[k]? :=
  ⟨⟨hg.os, hg.tape, hg.output, hg.size, fun k o hk hn => (hg.block k (lt_of_some hk) fun e => by
    obtain ⟨_, o', h1, h2⟩ := hr k e.symm
    rw [hk] at h1
    cases h1
    exact hn h2).trans hk⟩, fun k hk hl => hg.block k hl fun e => by have := (hr k e.symm).1; omega⟩
theorem no_cells {cs : Array Value} {T : TypeId} {fz : Nat × Nat} : ¬ NoCells (.cells cs T fz) := fun h => by cases h
theorem boxed_keptX {X : Obj → Prop} {w w' : World} {B : Nat} {t : TypeId} {v : Value} (h : Boxed w B t v) (hk : KeepX X w w') (hX : ¬ X (.cells #[v] t (0, 0))) : Boxed w' B t v := hk.block B _ h hX
theorem boxed_below {w w' : World} {B : Nat} {t : TypeId} {v : Value} (h : Boxed w B t v) (hb : Below w.heap.size w w') : Boxed w' B t v := (hb.block B (lt_of_some h)).trans h
/-- WHAT A LIST's WALK HOLDS when the paths pre have come: the list so far, and the tree of marks. -/
def ListI (T : Tr) (K : Nat) (P : Path) (G : Nat → Prop) (mtb : Nat) (ad mb : Nat → Nat) (base b8 : Nat) (pre : List Path) (W : World) : Prop :=
  ∃ v L M, Boxed W b8 81 v ∧ W.ownsRow base 102 8 v L.length (rl MmC L) ∧ (∀ x ∈ L, MmD W x) ∧ L.map erm = (Nt.mms T (pre.map (Nt.un T P))).map erm ∧ Nt.Marks T M (pre.map (Nt.un T P)) fl ∧ RepP G K W mtb M ad mb
section
variable {T : Tr} {K : Nat} {P : Path} {G : Nat → Prop} {mtb : Nat} {ad mb : Nat → Nat} {base b8 : Nat} {pre : List Path} {W W' : World}
theorem ListI.below (h : ListI T K P G mtb ad mb base b8 pre W) (hb : Below W.heap.size W W') : ListI T K P G mtb ad mb base b8 pre W' := by
  obtain ⟨v, L, M, h1, h2, h3, h4, h5, h6⟩ := h
  exact ⟨v, L, M, boxed_below h1 hb, own_keep13 h2 fun k hk => hb.block k (World.ownsRow.lt h2 k hk).2, fun x hx => (h3 x hx).below hb, h4, h5, h6.later hb⟩
theorem ListI.own {B : Nat} (hG : ∀ k, G k → k < B) : OwnFrom B (ListI T K P G mtb ad mb base b8) := by
  rintro pre W W' row ⟨v, L, M, h1, h2, h3, h4, h5, h6⟩ hg hr
  obtain ⟨hk, hl⟩ := grown_cells hg hr
  exact ⟨v, L, M, boxed_keptX h1 hk no_cells, own_keptX h2 hk (fun _ _ => no_cells), fun x hx => (h3 x hx).keptX hk fun cs fz => no_cells, h4, h5, h6.kept fun k hF hlt => hl k (hG k hF) hlt⟩
end
theorem boxed_from {β : Type} (B0 B : Nat) (t : TypeId) (f : β → Value) : OwnFrom B (fun s W => Boxed W B0 t (f s)) := Own.from (boxed_own B0 t f) B
theorem boxed_down {w w' : World} {B : Nat} {t : TypeId} {v : Value} (h : Boxed w B t v) (hb : Below w.heap.size w w') : Boxed w' B t v := boxed_below h hb
/-- An object laid in a block's place. -/
theorem KeepX.putObj {X : Obj → Prop} {W : World} {l : Nat} {o : Obj} (h : W.heap[l]? = some o) (hX : X o) (o' : Obj) : KeepX X W (W.putObj l o') := by
  refine ⟨rfl, rfl, rfl, by simp, fun k o2 hk hno => ?_⟩
  by_cases e : k = l
  · subst e
    rw [h] at hk
    cases hk
    exact absurd hX hno
  · exact (World.putObj_heap_other e).trans hk
theorem MRow.keptX {X : Obj → Prop} {w w' : World} {A : Option Addr} {n : Nat} {l : List Mm} (h : MRow w A n l) (hk : KeepX X w w') (hX : NoU8 X) (hm : ∀ cs fz, ¬ X (.cells cs 102 fz)) : MRow w' A n l := ⟨h.1.keptX hk hm, fun x hx => (h.2 x hx).keptX hk hX⟩
/-- The boxes of a list's results, and what lies in no cells. -/
def EndObj (o : Obj) : Prop := NoCells o ∨ ∃ cs T fz, o = .cells cs T fz ∧ (T = 81 ∨ T = 41)
theorem end_u8 : NoU8 EndObj := by
  rintro cs fz (h | ⟨_, _, _, h, h1⟩)
  · exact no_cells h
  · cases h
    rcases h1 with h1 | h1 <;> cases h1
theorem end_mm : ∀ cs fz, ¬ EndObj (.cells cs 102 fz) := by
  rintro cs fz (h | ⟨_, _, _, h, h1⟩)
  · exact no_cells h
  · cases h
    rcases h1 with h1 | h1 <;> cases h1
/-- What is not a round's. -/
theorem round_no {cs : Array Value} {T : TypeId} {fz : Nat × Nat} (h1 : T ≠ 108 ∧ T ≠ 112) (h2 : T ≠ 81 ∧ T ≠ 41 ∧ T ≠ 102 ∧ T ≠ 92) : ¬ RoundObj (.cells cs T fz) := by
  rintro (h | ⟨_, h⟩ | ⟨_, _, _, h, h3⟩)
  · rcases h with ⟨_, _, h⟩ | ⟨_, _, _, h, h3 | h3⟩
    · cases h
    · cases h; exact h1.1 h3
    · cases h; exact h1.2 h3
  · cases h
  · cases h
    rcases h3 with h3 | h3 | h3 | h3
    · exact h2.1 h3
    · exact h2.2.1 h3
    · exact h2.2.2.1 h3
    · exact h2.2.2.2 h3
/-- An append by its run, in a plain region within a fence. -/
theorem append_in15 {F : Fence} {n : Nat} {P : Program} {w : World} {ops : Array Oper} {rest : List Oper} {o : Oper} {a : Act} {Q : Exit → Act → World → Prop} (hgd : o.guard = none) (s x : Operand) (t tn : TypeId)
    (ho : o.op = .call { callee := .builtin .append, args := #[s, x], argTypes := #[t, tn] }) (vs vx : Value) (hs : a.eval s = vs) (hx : a.eval x = vx) {v' : Value} {w' : World}
    (hr : (Builtin.append_ #[t, tn] o.type #[vs, vx]).run P w = .ok v' w') (h : wpListIn F n P ops Q rest (a.put o.dst v') w') : wpListIn F n P ops Q (o :: rest) a w := by
  refine wpListIn_plain hgd fun K hK => ?_
  unfold Oper.wpIn
  refine ⟨by simp [Oper.about, ho, resolve, Target.leads, Sem.run_pure], ?_⟩
  rw [Oper.semAt_plain F _ _ (by rw [ho]; intro c hc'; cases hc')]
  simp [execOp, ho, resolve, invoke, builtin, hs, hx, hr, Result.andThen]
  exact hK _ _ h
theorem keeps_x15 {X : Obj → Prop} {W W' : World} (h : KeepX X W W') (hX : ∀ o, X o → o.isCells = true) : KeepsOthers W W' :=
  ⟨h.size, fun k o hk ho => h.block k o hk fun hx => by have := hX o hx; rw [ho] at this; cases this⟩
theorem keeps_below15 {W W' : World} (h : Below W.heap.size W W') : KeepsOthers W W' := ⟨h.size, fun k o hk ho => (h.block k (lt_of_some hk)).trans hk⟩
/-- The boxes of a list's call. -/
def Bxs (w : World) (tb mtb b6 : Nat) (p : ByteArray) (W : World) : Prop :=
  Boxed W w.heap.size 24 (.pointer (some ⟨tb, 0, none⟩)) ∧ Boxed W (w.heap.size + 1) 9 (.string p) ∧ Boxed W (w.heap.size + 1 + 1) 81 (.slice none 0 0) ∧ Boxed W (w.heap.size + 1 + 1 + 1) 41 (.int .i64 0) ∧ Boxed W b6 24 (.pointer (some ⟨mtb, 0, none⟩))
/-- A tree's nodes, and rows of members. -/
def NmObj (o : Obj) : Prop := ∃ cs T fz, o = .cells cs T fz ∧ (T = 108 ∨ T = 102)
theorem nm_no {cs : Array Value} {T : TypeId} {fz : Nat × Nat} (h : T ≠ 108 ∧ T ≠ 102) : ¬ NmObj (.cells cs T fz) := by
  rintro ⟨_, _, _, e, h1 | h1⟩
  · cases e; exact h.1 h1
  · cases e; exact h.2 h1
theorem nm_u8 : NoU8 NmObj := fun cs fz => nm_no ⟨by decide, by decide⟩
theorem nm_cells : ∀ o, NmObj o → o.isCells = true := by
  rintro o ⟨_, _, _, rfl, _⟩
  rfl
theorem nm_round : ∀ o, NmObj o → RoundObj o := by
  rintro o ⟨cs, T, fz, rfl, rfl | rfl⟩
  · exact .inl (.inr ⟨_, _, _, rfl, .inl rfl⟩)
  · exact .inr (.inr ⟨_, _, _, rfl, .inr (.inr (.inl rfl))⟩)
theorem Bxs.keptX {w : World} {tb mtb b6 : Nat} {p : ByteArray} {W W' : World} (h : Bxs w tb mtb b6 p W) (hk : KeepX NmObj W W') : Bxs w tb mtb b6 p W' :=
  ⟨boxed_keptX h.1 hk (nm_no ⟨by decide, by decide⟩), boxed_keptX h.2.1 hk (nm_no ⟨by decide, by decide⟩), boxed_keptX h.2.2.1 hk (nm_no ⟨by decide, by decide⟩), boxed_keptX h.2.2.2.1 hk (nm_no ⟨by decide, by decide⟩), boxed_keptX h.2.2.2.2 hk (nm_no ⟨by decide, by decide⟩)⟩
/-- ALL THAT A ROUND OWES that lays a member more. -/
theorem round_end {w : World} {T M' : Tr} {K : Nat} {P : Path} {G : Nat → Prop} {mtb tb b6 b5 base : Nat} {ad mb : Nat → Nat} {p : ByteArray} {pre : List Path} {q : Path} {W WD W9 : World} {v v' : Value} {L : List Mm} {m : Mm}
    (hB : Bxs w tb mtb b6 p W) (hv : Boxed W b5 81 v) (hdat : ∀ x ∈ L, MmD W x) (hlow : Below w.heap.size w W)
    (hD : KeepX NmObj W WD) (hown : WD.ownsRow base 102 8 v L.length (rl MmC L)) (hbase : w.heap.size ≤ base) (hlowD : Below w.heap.size W WD)
    (hm : MmD WD m) (hmarks : Nt.Marks T M' ((pre ++ [q]).map (Nt.un T P)) fl) (hrep : RepP G K WD mtb M' ad mb) (hG : ∀ k, G k → k < base ∧ k ≠ b5) (hb5 : w.heap.size + 1 + 1 + 1 < b5 ∧ b5 < base) (hb6 : b6 ≠ b5)
    (hmap : L.map erm ++ [erm m] = (Nt.mms T ((pre ++ [q]).map (Nt.un T P))).map erm) (hown9 : W9.ownsRow base 102 8 v' (L.length + 1) (rl MmC (L ++ [m]))) (hgr : WD.grownBy W9 v.ownBlock) :
    Boxed W9 b5 81 v ∧ KeepsOthers W (W9.setCell ⟨b5, 0, none⟩ v') ∧ Kp15 w.heap.size W (W9.setCell ⟨b5, 0, none⟩ v') ∧ Bxs w tb mtb b6 p (W9.setCell ⟨b5, 0, none⟩ v') ∧ ListI T K P G mtb ad mb base b5 (pre ++ [q]) (W9.setCell ⟨b5, 0, none⟩ v') ∧ Below w.heap.size w (W9.setCell ⟨b5, 0, none⟩ v') ∧ W.heap.size ≤ (W9.setCell ⟨b5, 0, none⟩ v').heap.size := by
  have kg : KeepX NmObj WD W9 := KeepX.ofGrown hgr fun a ha => by
    rcases hown.2 with ⟨e, _⟩ | ⟨g, cap, cur, e, _, hg, _⟩
    · rw [e] at ha; cases ha
    · rw [e] at ha
      obtain rfl : g = a := by simpa [Value.ownBlock] using ha
      exact ⟨_, hg, _, _, _, rfl, .inr rfl⟩
  have k9 : KeepX NmObj W W9 := hD.trans kg
  have b9 : Boxed W9 b5 81 v := boxed_keptX hv k9 (nm_no ⟨by decide, by decide⟩)
  have hset : KeepX (fun o => o = .cells #[v] 81 (0, 0)) W9 (W9.setCell ⟨b5, 0, none⟩ v') := KeepX.setCell (X := fun o => o = .cells #[v] 81 (0, 0)) b9 rfl v'
  have hsetr : KeepX RoundObj W9 (W9.setCell ⟨b5, 0, none⟩ v') := hset.weak fun o h => by subst h; exact .inr (.inr ⟨_, _, _, rfl, .inl rfl⟩)
  have low9 : Below w.heap.size W W9 := hlowD.trans (((Below.refl w.heap.size WD).grown hgr (by have := hD.size; have := hlow.size; omega) fun k hk => Nat.le_trans hbase (World.ownsRow.lt hown k hk).1))
  have low10 : Below w.heap.size W (W9.setCell ⟨b5, 0, none⟩ v') := low9.setCell (p := ⟨b5, 0, none⟩) (by simp; omega) _
  have hB9 := hB.keptX k9
  refine ⟨b9, (keeps_x15 k9 nm_cells).trans (KeepsOthers.setCell _ _ _), ⟨low10, (k9.weak nm_round).trans hsetr⟩, ⟨hB9.1.other (by omega) _, hB9.2.1.other (by omega) _, hB9.2.2.1.other (by omega) _, hB9.2.2.2.1.other (by omega) _, hB9.2.2.2.2.other hb6 _⟩, ?_, hlow.trans low10, ?_⟩
  · refine ⟨v', L ++ [m], M', b9.set v', ?_, fun x hx => ?_, by rw [List.map_append]; exact hmap, hmarks, hrep.kept fun k hk hl => ?_⟩
    · rw [List.length_append]
      exact own_keptX hown9 hset (fun cs fz e => by cases e)
    · rcases List.mem_append.1 hx with h1 | h1
      · exact ((hdat x h1).keptX k9 nm_u8).keptX hset (fun cs fz e => by cases e)
      · obtain rfl : x = m := by simpa using h1
        exact (hm.keptX kg nm_u8).keptX hset (fun cs fz e => by cases e)
    · obtain ⟨h1, h2⟩ := hG k hk
      rw [heap_setCell_other _ _ _ _ h2]
      exact hgr.block k hl fun e => by have := (World.ownsRow.lt hown k e.symm).1; omega
  · have h1 := k9.size
    have h2 := (KeepsOthers.setCell W9 ⟨b5, 0, none⟩ v').size
    omega
/-- The bytes that Get answers. -/
theorem bytes15 {w : World} {A : Option Addr} {c base : Nat} {xs : List Int} (hx : Byt xs) {n : Nat} (hn : xs.length = n) (h : w.ownsRow base 5 1 (.slice A n c) n (Lib.strCells (strOfNums xs))) : RBT w A n xs ∧ n ≤ c ∧ c ≤ maxLen := by
  subst hn
  have e : Lib.strCells (strOfNums xs) = xs.map (Value.int .u8) := by
    unfold Lib.strCells
    rw [Sf.data_strOfNums, List.map_map]
    refine List.map_congr_left fun x hm => ?_
    obtain ⟨j, hj, rfl⟩ := List.getElem_of_mem hm
    have := hx j
    simp only [List.getD, List.getElem?_eq_getElem hj, Option.getD_some] at this
    simp only [Function.comp]
    congr 1
    simp only [UInt8.toNat_ofNat']
    omega
  rw [e] at h
  have h2 : OBn w base 5 (.slice A xs.length c) xs.length xs := h
  obtain ⟨A', c', e', _, h3, h4⟩ := h2.slice
  cases e'
  exact ⟨h2.rbt, h3, h4⟩
end Go.Proofs.YthgbncpiehcghaaGreatDoor
