/- WALKS OF LAYER 13, SIXTH PART: a place is put, cleared; a new Dir; a node is added. -/
import Derived.Test.YthgbncpiehcghaaGreatDoorG13e
import Derived.Test.YthgbncpiehcghaaGreatDoorShelf
import Derived.StillTailTactics
import Derived.Test.YthgbncpiehcghaaGreatDoorGn4
namespace Go.Proofs.YthgbncpiehcghaaGreatDoor
set_option linter.unusedVariables false
open Go Go.RowKit Go.Maps
set_option maxRecDepth 100000
set_option maxHeartbeats 1000000
open Nt (Tr Nd WF Ps Path at_ cnt used)
theorem sclone_any (s : ByteArray) (w : World) (hs : s.size ≤ 1000000) : Calls Tryz.prog 112 #[.string s] w fun e w' => e = .returned (.string s) ∧ Below w.heap.size w w' := by
  have k := Lib.hid (fun W => Tryz.stringslite_Clone s W (by omega))
  go_enter Tryz.func112, Tryz.ntmps112
  go_wp2_with (go_at_call 138; refine (k.out _).mono ?_; rintro e w1 ⟨rfl, hb⟩)
  go_ret
  exact ⟨rfl, hb⟩
/-- 'delete(m, s)' at the operation. -/
theorem wpList_delete13 {w : World} {ops : Array Oper} {rest : List Oper} {o : Oper} {a : Act} {Q : Exit → Act → World → Prop}
    (hg : o.guard = none) (m x : Operand) (hop : o.op = Op.call { callee := Callee.builtin Builtin.delete, args := #[m, x], argTypes := #[106, 9] })
    (b n : Nat) (f : ByteArray → Option Nat) (s : ByteArray) (hm : a.eval m = .map (some b)) (hx : a.eval x = .string s) (h : MapAt w b n f) (hs : s.size ≤ maxLen)
    (hK : ∀ w', MapAt w' b n (fun x => if x = s then none else f x) → w.mapTurned w' b → wpList Tryz.prog ops Q rest (a.put o.dst (.tuple #[])) w') :
    wpList Tryz.prog ops Q (o :: rest) a w := by
  refine wpList_plain hg fun K' hK' => ?_
  obtain ⟨w', hrun, r1, r2⟩ := h.del hs o.type
  unfold Oper.wp
  simp [execOp, hop, resolve, invoke, builtin, hm, hx, hrun, Result.andThen]
  exact hK' _ _ (hK w' r1 r2)
theorem wpList_update13 {w : World} {ops : Array Oper} {rest : List Oper} {o : Oper} {a : Act} {Q : Exit → Act → World → Prop}
    (hg : o.guard = none) (m x v : Operand) (hop : o.op = Op.mapUpdate 106 m x v)
    (b n : Nat) (f : ByteArray → Option Nat) (s : ByteArray) (c : Nat) (hm : a.eval m = .map (some b)) (hx : a.eval x = .string s) (hv : a.eval v = .pointer (some ⟨c, 0, none⟩)) (h : MapAt w b n f) (hn : n < maxLen) (hs : s.size ≤ maxLen)
    (hK : ∀ w', MapAt w' b (n + 1) (fun x => if x = s then some c else f x) → w.mapTurned w' b → wpList Tryz.prog ops Q rest (a.put o.dst undef) w') :
    wpList Tryz.prog ops Q (o :: rest) a w := by
  refine wpList_plain hg fun K' hK' => ?_
  obtain ⟨w', hrun, r1, r2⟩ := h.put hn hs c
  unfold Oper.wp
  simp [execOp, hop, hm, hx, hv, hrun, Result.andThen]
  exact hK' _ _ (hK w' r1 r2)
theorem pclear_any (w : World) (a b n : Nat) (x : Nd) (k : Int) (f : ByteArray → Option Nat) (s : ByteArray) (hx : BX w a 108 (NC x (some b) k)) (hm : MapAt w b n f) (hs : s.size ≤ maxLen) :
    Calls Tryz.prog 92 #[.agg #[.pointer (some ⟨a, 0, none⟩), .string s]] w fun e w' => e = .returned (.tuple #[]) ∧ MapAt w' b n (fun x => if x = s then none else f x) ∧ Oth b w w' := by
  have hx' := Lib.hid (hx.alloc (.cells #[.pointer (some ⟨a, 0, none⟩), .string s] 159))
  have hm' := Lib.hid (hm.alloc (.cells #[.pointer (some ⟨a, 0, none⟩), .string s] 159))
  have d7 : (w.alloc (.cells #[.pointer (some ⟨a, 0, none⟩), .string s] 159)).cell? ⟨a, 7, none⟩ = some (.map (some b)) := hx'.out.cell rfl
  have hb0 := Lib.hid (below_new w (.cells #[.pointer (some ⟨a, 0, none⟩), .string s] 159))
  have hB := Lib.hid (BX.new w 159 #[.pointer (some ⟨a, 0, none⟩), .string s])
  have q0 : (w.alloc (.cells #[.pointer (some ⟨a, 0, none⟩), .string s] 159)).cell? ⟨w.heap.size, 0, none⟩ = some (.pointer (some ⟨a, 0, none⟩)) := hB.out.cell rfl
  have q1 : (w.alloc (.cells #[.pointer (some ⟨a, 0, none⟩), .string s] 159)).cell? ⟨w.heap.size, 1, none⟩ = some (.string s) := hB.out.cell rfl
  clear hx hm
  go_enter Tryz.func92, Tryz.ntmps92
  go_wp2
  generalize w.alloc (.cells #[.pointer (some ⟨a, 0, none⟩), .string s] 159) = W at *
  go_still_tail 7, (by kernel_rfl)
  change wpList _ _ _ _ _ W.drew
  refine wpList_delete13 rfl _ _ rfl b n f s rfl rfl (hm'.out.drewN 1) hs ?_
  intro w1 hm1 ht
  go_wp2
  refine bodyPost_end (v := .tuple #[]) (by simp [results, Tryz.f92, go_sem]) rfl ?_
  exact ⟨rfl, hm1, (Oth.ofBelow (below_drewN hb0.out 1)).trans (mturn_oth ht)⟩
theorem pput_any (w : World) (a b n c : Nat) (x : Nd) (k : Int) (f : ByteArray → Option Nat) (s : ByteArray) (hx : BX w a 108 (NC x (some b) k)) (hm : MapAt w b n f) (hn : n < 1000000) (hs : s.size ≤ 1000000) :
    Calls Tryz.prog 93 #[.agg #[.pointer (some ⟨a, 0, none⟩), .string s], .pointer (some ⟨c, 0, none⟩)] w fun e w' => e = .returned (.tuple #[]) ∧ MapAt w' b (n + 1) (fun x => if x = s then some c else f x) ∧ Oth b w w' := by
  have kc := Lib.hid (fun W => sclone_any s W hs)
  have hx' := Lib.hid (hx.alloc (.cells #[.pointer (some ⟨a, 0, none⟩), .string s] 159))
  have hm' := Lib.hid (hm.alloc (.cells #[.pointer (some ⟨a, 0, none⟩), .string s] 159))
  have hb0 := Lib.hid (below_new w (.cells #[.pointer (some ⟨a, 0, none⟩), .string s] 159))
  have hB := Lib.hid (BX.new w 159 #[.pointer (some ⟨a, 0, none⟩), .string s])
  have hsm : s.size ≤ maxLen := by unfold maxLen; omega
  have hnm : n < maxLen := by unfold maxLen; omega
  clear hx hm
  go_enter Tryz.func93, Tryz.ntmps93
  go_wp2
  have hws := World.size_alloc w (.cells #[.pointer (some ⟨a, 0, none⟩), .string s] 159)
  generalize w.alloc (.cells #[.pointer (some ⟨a, 0, none⟩), .string s] 159) = W at *
  have ALLS := Lib.hid (fun (V : World) (h : Below W.heap.size W V) => show V.cell? ⟨w.heap.size, 0, none⟩ = some (.pointer (some ⟨a, 0, none⟩)) ∧ V.cell? ⟨w.heap.size, 1, none⟩ = some (.string s) ∧ V.cell? ⟨a, 7, none⟩ = some (.map (some b)) from
    ⟨(hB.out.later h).cell rfl, (hB.out.later h).cell rfl, (hx'.out.later h).cell rfl⟩)
  have n1 := Lib.hid (hm'.out.ne_bx hB.out)
  have n2 := Lib.hid (hm'.out.ne_bx hx'.out)
  have hacc : Below W.heap.size W W := Below.refl _ _
  obtain ⟨y0, y1, y2⟩ := ALLS.out W hacc
  go_region_held3 (fun V => V.cell? ⟨w.heap.size, 0, none⟩ = some (.pointer (some ⟨a, 0, none⟩)) ∧ V.cell? ⟨w.heap.size, 1, none⟩ = some (.string s) ∧ V.cell? ⟨a, 7, none⟩ = some (.map (some b)))
    (first | go_keep | (exact ALLS.out _ hacc) | (exact ⟨((hB.out.later hacc).oth (mturn_oth htz) n1.out).cell rfl, ((hB.out.later hacc).oth (mturn_oth htz) n1.out).cell rfl, ((hx'.out.later hacc).oth (mturn_oth htz) n2.out).cell rfl⟩))
    (first | (go_at_call 112; (with_reducible refine (kc.out _).mono ?_); rintro e wna ⟨rfl, hbna⟩; replace hacc : Below W.heap.size W wna := hacc.drew.trans (Below.mono hbna (Nat.le_refl _)); obtain ⟨wz, hrun, hmz, htz⟩ := (hm'.out.later hacc).put hnm hsm c))
  all_goals
    go_wp2
    refine bodyPost_end (v := .tuple #[]) (by simp [results, Tryz.f93, go_sem]) rfl ?_
    exact ⟨rfl, hmz, (Oth.ofBelow (bthen hb0.out hacc)).trans (mturn_oth htz)⟩
end Go.Proofs.YthgbncpiehcghaaGreatDoor
/- WALKS OF LAYER 13, SEVENTH PART: a new Dir; a node is added. -/
namespace Go.Proofs.YthgbncpiehcghaaGreatDoor
set_option linter.unusedVariables false
open Go Go.RowKit Go.Maps
set_option maxRecDepth 100000
set_option maxHeartbeats 1000000
open Nt (Tr Nd WF Ps Path at_ cnt used)
theorem son_size (xs : List Int) : (strOfNums xs).size = xs.length := by simp [strOfNums, ByteArray.size]
theorem newDir_any (w : World) (p q r s : Int) :
    Calls Tryz.prog 47 #[.agg #[.int .i64 p, .int .i64 q, .int .i64 r, .int .i64 s]] w fun e w' => e = .returned (.pointer (some ⟨w.heap.size + 2, 0, none⟩)) ∧ BX w' (w.heap.size + 2) 108 (NC ⟨4, p, q, r, s, ⟨#[]⟩, none, 0, 0, []⟩ (some (w.heap.size + 1)) 0) ∧
      MapAt w' (w.heap.size + 1) 0 (fun _ => none) ∧ Below w.heap.size w w' ∧ w'.heap.size = w.heap.size + 3 := by
  have hmm := @run_makeMap Tryz.prog
  have hm := MapAt.made (w.alloc (.cells #[.int .i64 p, .int .i64 q, .int .i64 r, .int .i64 s] 72))
  have hb := (bthen (below_new w (.cells #[.int .i64 p, .int .i64 q, .int .i64 r, .int .i64 s] 72)) (below_new _ (.map #[] 0)))
  have HM := Lib.hid hm; have HB := Lib.hid hb; clear hm hb
  go_enter Tryz.func47, Tryz.ntmps47
  go_wp2
  go_ret
  refine ⟨by simp, ?_, ?_, bthen HB.out (below_new _ _), by simp⟩
  · have := BX.new ((w.alloc (.cells #[.int .i64 p, .int .i64 q, .int .i64 r, .int .i64 s] 72)).alloc (.map #[] 0)) 108 (NC ⟨4, p, q, r, s, ⟨#[]⟩, none, 0, 0, []⟩ (some (w.heap.size + 1)) 0)
    simp only [World.size_alloc] at this
    exact this
  · have := HM.out
    simp only [World.size_alloc] at this
    exact this.alloc _
theorem bx_type {w : World} {a T U : Nat} {cs ds : Array Value} (h : BX w a T cs) (k : BX w a U ds) : T = U := by
  unfold BX at h k
  rw [h] at k
  cases k
  rfl
theorem bx_ne {w : World} {a b T U : Nat} {cs ds : Array Value} (h : BX w a T cs) (k : BX w b U ds) (hT : T ≠ U) : a ≠ b := fun e => hT (bx_type h (e ▸ k))
/-- A new node at a place. -/
theorem add_any (w : World) (tb a b c n : Nat) (x y : Nd) (k k0 : Int) (mv : Option Nat) (f : ByteArray → Option Nat) (s : ByteArray) (rt : Value) (r v : Int) (u z : Nat)
    (ht : BX w tb 112 #[rt, .int .i64 r, .int .i64 v, .int .i64 u, .int .i64 z]) (hx : BX w a 108 (NC x (some b) k)) (hm : MapAt w b n f) (hc : BX w c 108 (NC y mv k0)) (hac : a ≠ c)
    (hn : n < 1000000) (hs : s.size ≤ 1000000) (hu : u ≤ 1000000000000) (hz : z ≤ 1000000000000) (hy : y.xs.length ≤ 1000000) :
    Calls Tryz.prog 98 #[.pointer (some ⟨tb, 0, none⟩), .agg #[.pointer (some ⟨a, 0, none⟩), .string s], .pointer (some ⟨c, 0, none⟩)] w fun e w' => e = .returned (.tuple #[]) ∧ MapAt w' b (n + 1) (fun x => if x = s then some c else f x) ∧
      BX w' c 108 (NC y mv 1) ∧ BX w' tb 112 #[rt, .int .i64 r, .int .i64 v, .int .i64 (u + 1 : Nat), .int .i64 (z + y.xs.length : Nat)] ∧ Keep (fun k => k = b ∨ k = c ∨ k = tb) w w' := by
  have e1 : IntKind.i64.wrap ((u : Int) + 1) = (u + 1 : Nat) := by rw [wrap_small (by omega) (by omega)]; omega
  have e2 : IntKind.i64.wrap ((z : Int) + (y.xs.length : Int)) = (z + y.xs.length : Nat) := by rw [wrap_small (by omega) (by omega)]; omega
  have esz := son_size y.xs
  have nct := Lib.hid (bx_ne hc ht (by decide))
  have nbt := Lib.hid (hm.ne_bx ht)
  have nbc := Lib.hid (hm.ne_bx hc)
  have hx' := Lib.hid (hx.alloc (.cells #[.pointer (some ⟨a, 0, none⟩), .string s] 159))
  have hm' := Lib.hid (hm.alloc (.cells #[.pointer (some ⟨a, 0, none⟩), .string s] 159))
  have hc' := Lib.hid (hc.alloc (.cells #[.pointer (some ⟨a, 0, none⟩), .string s] 159))
  have ht' := Lib.hid (ht.alloc (.cells #[.pointer (some ⟨a, 0, none⟩), .string s] 159))
  have hb0 := Lib.hid (below_new w (.cells #[.pointer (some ⟨a, 0, none⟩), .string s] 159))
  have kp := Lib.hid (fun W (h1 : BX W a 108 (NC x (some b) k)) (h2 : MapAt W b n f) => pput_any W a b n c x k f s h1 h2 hn hs)
  obtain ⟨D, hD⟩ : ∃ D, strOfNums y.xs = D := ⟨_, rfl⟩
  obtain ⟨L, hL⟩ : ∃ L, y.xs.length = L := ⟨_, rfl⟩
  have hq : NC y mv k0 = #[.int .i64 y.kind, .int .i64 y.mode, .int .i64 y.uid, .int .i64 y.gid, .int .i64 y.mtime, .string y.link, .string D, .map mv, .int .i64 k0] := by rw [← hD]
  have hq1 : NC y mv 1 = #[.int .i64 y.kind, .int .i64 y.mode, .int .i64 y.uid, .int .i64 y.gid, .int .i64 y.mtime, .string y.link, .string D, .map mv, .int .i64 1] := by rw [← hD]
  rw [hq] at hc'
  rw [hq1]
  rw [hD] at esz
  rw [hL] at e2 esz
  rw [hL]
  clear hx hm hc ht hq hq1 hD hL hac
  go_enter Tryz.func98, Tryz.ntmps98
  go_wp2_with (go_at_call 93; refine (kp.out _ hx'.out hm'.out).mono ?_; rintro e w1 ⟨rfl, hm1, ho1⟩; have hc1 := Lib.hid (hc'.out.oth ho1 (fun e => nbc.out e)); have ht1 := Lib.hid (ht'.out.oth ho1 (fun e => nbt.out e)); have y0 := hc1.out.free 8; have y1 : w1.cell? ⟨c, 8, none⟩ = some (.int .i64 k0) := hc1.out.cell rfl; have y2 := ht1.out.free 3; have y3 : w1.cell? ⟨tb, 3, none⟩ = some (.int .i64 u) := ht1.out.cell rfl)
  have hc2 := Lib.hid ((hc1.out.set 8 (.int .i64 1)).other (b := tb) (j := 3) nct.out (.int .i64 ((u : Int) + 1)))
  have ht2 := Lib.hid ((ht1.out.other (b := c) (j := 8) (fun e => nct.out e.symm) (.int .i64 1)).set 3 (.int .i64 ((u : Int) + 1)))
  have hm2 := Lib.hid ((hm1.setCell (a := ⟨c, 8, none⟩) (fun e => nbc.out e.symm) (.int .i64 1)).setCell (a := ⟨tb, 3, none⟩) (fun e => nbt.out e.symm) (.int .i64 ((u : Int) + 1)))
  have hk2 : Hid (Keep (fun k => k = b ∨ k = c ∨ k = tb) w ((w1.setCell ⟨c, 8, none⟩ (.int .i64 1)).setCell ⟨tb, 3, none⟩ (.int .i64 ((u : Int) + 1)))) :=
    (((Keep.ofBelow hb0.out).trans (Keep.ofOth ho1 (.inl rfl))).trans (Keep.ofOth ((Oth.refl c w1).setCell 8 _) (.inr (.inl rfl)))).trans (Keep.ofOth ((Oth.refl tb _).setCell 3 _) (.inr (.inr rfl)))
  clear y0 y1 y2 y3 hm1
  generalize (w1.setCell ⟨c, 8, none⟩ (.int .i64 1)).setCell ⟨tb, 3, none⟩ (.int .i64 ((u : Int) + 1)) = W2 at *
  have z4 : W2.cell? ⟨tb, 4, none⟩ = some (.int .i64 z) := ht2.out.cell rfl
  have z6 : W2.cell? ⟨c, 6, none⟩ = some (.string D) := hc2.out.cell rfl
  go_still_tail 14, (by kernel_rfl)
  change wpList _ _ _ _ _ W2.drew
  have f4 : W2.drew.frozen? ⟨tb, 4, none⟩ = false := ht2.out.free 4
  have z4' : W2.drew.cell? ⟨tb, 4, none⟩ = some (.int .i64 z) := z4
  go_wp2
  refine bodyPost_end (v := .tuple #[]) (by simp [results, Tryz.f98, go_sem]) rfl ?_
  refine ⟨rfl, (hm2.out.drewN 1).setCell (a := ⟨tb, 4, none⟩) (fun e => nbt.out e.symm) _, (hc2.out.drewN 1).other nct.out _, ?_, ?_⟩
  · have := (ht2.out.drewN 1).set 4 (.int .i64 ((z + L : Nat) : Int))
    exact this
  · exact (hk2.out.trans (Keep.ofBelow (below_drewN (Below.refl _ W2) 1))).trans (Keep.ofOth ((Oth.refl tb _).setCell 4 _) (.inr (.inr rfl)))
end Go.Proofs.YthgbncpiehcghaaGreatDoor
/- A TREE OF FILES IN MEMORY, SECOND PART: what each operation makes of it. No Go text is named. -/
namespace Go.Proofs.YthgbncpiehcghaaGreatDoor
set_option linter.unusedVariables false
open Go Go.RowKit
set_option maxRecDepth 100000
open Nt (Tr Nd WF Ps Path at_ cnt used)
section
variable {F : Nat → Prop} {K tb : Nat} {w w' : World} {T : Tr} {ad mb : Nat → Nat}
theorem RepP.ne_tree (h : RepP F K w tb T ad mb) {p : Path} {n : Nat} (hm : (p, n) ∈ T.paths) : ad n ≠ tb := bx_ne (h.node p n hm).1 h.tree (by decide)
theorem RepP.ne_map (h : RepP F K w tb T ad mb) {p q : Path} {n m : Nat} (hn : (p, n) ∈ T.paths) (hm : (q, m) ∈ T.paths) (hk : (T.nd m).kind = 4) : ad n ≠ mb m := (h.map q m hm hk).2.ne_bx (h.node p n hn).1
theorem RepP.tree_map (h : RepP F K w tb T ad mb) {q : Path} {m : Nat} (hm : (q, m) ∈ T.paths) (hk : (T.nd m).kind = 4) : tb ≠ mb m := (h.map q m hm hk).2.ne_bx h.tree
/-- A new node. -/
theorem RepP.made (hR : RepP F K w tb T ad mb) (hW : WF T K) {p : ByteArray} (hf : T.fresh p = 0) {x : Nd} (hx : x.ok) {q : Path} {y : ByteArray} {m : Nat} (e1 : Pp.pieces p = q ++ [y]) (hm : (q, m) ∈ T.paths) (hk : (T.nd m).kind = 4)
    {c b : Nat} (hcw : w.heap.size ≤ c) (hbw : w.heap.size ≤ b) (hmap : MapAt w' (mb m) (K + 1) (fun s => if s = y then some c else (at_ T.paths (q ++ [s])).map ad))
    (hnode : BX w' c 108 (NC x (if x.kind = 4 then some b else none) (1 : Nat))) (hnew : x.kind = 4 → MapAt w' b 0 (fun _ => none))
    (htree : BX w' tb 112 (TC T (ad 0) (T.usedN + 1) (T.usedB + x.xs.length)))
    (hs : ∀ k, k < w.heap.size → k ≠ mb m → k ≠ tb → w'.heap[k]? = w.heap[k]?) (hsz : w.heap.size ≤ w'.heap.size) :
    RepP (Grow F w w') (K + 301) w' tb (T.mk1 p x) (fun n => if n = T.nodes.length then c else ad n) (fun n => if n = T.nodes.length then b else mb n) := by
  obtain ⟨hpar, hat⟩ := hW.fresh_ok hf
  have hL := hW.pos
  have mem : ∀ {r : Path} {n : Nat}, (r, n) ∈ (T.mk1 p x).paths ↔ (r, n) ∈ T.paths ∨ (r = q ++ [y] ∧ n = T.nodes.length) := fun {r n} => by
    show (r, n) ∈ T.paths ++ [(Pp.pieces p, T.nodes.length)] ↔ _
    rw [List.mem_append, e1]
    simp
  have old : ∀ {r : Path} {n : Nat}, (r, n) ∈ T.paths → n ≠ T.nodes.length := fun {r n} hn => by have := hW.lt _ _ hn; omega
  have ond : ∀ {r : Path} {n : Nat}, (r, n) ∈ T.paths → (T.mk1 p x).nd n = T.nd n := fun {r n} hn => by rw [Nt.nd_mk1, if_neg (old hn)]
  have oc : ∀ {r : Path} {n : Nat}, (r, n) ∈ T.paths → cnt (T.mk1 p x).paths n = cnt T.paths n := fun {r n} hn => by
    show cnt (T.paths ++ [(_, T.nodes.length)]) n = _
    rw [Nt.cnt_app, Nt.cnt_one, if_neg fun e => old hn e.symm, Nat.add_zero]
  have onode : ∀ {r : Path} {n : Nat}, (r, n) ∈ T.paths → w'.heap[ad n]? = w.heap[ad n]? := fun {r n} hn => hs _ (hR.node _ _ hn).1.lt (hR.ne_map hn hm hk) (hR.ne_tree hn)
  have hat' : ∀ r, at_ (T.mk1 p x).paths r = if r = q ++ [y] then some T.nodes.length else at_ T.paths r := fun r => by
    show at_ (T.paths ++ [(Pp.pieces p, T.nodes.length)]) r = _
    rw [Nt.at_snoc hat, e1]
  have hnl : ∀ r n, at_ T.paths r = some n → n ≠ T.nodes.length := fun r n h => old (Nt.at_mem h)
  have hnF : ∀ {k : Nat}, w.heap.size ≤ k → k < w'.heap.size → Grow F w w' k := fun h1 h2 => .inr ⟨h1, h2⟩
  refine ⟨?_, .inl hR.ftree, ?_, ?_, ?_, ?_⟩
  · have e2 : (T.mk1 p x).usedN = T.usedN + 1 := Nt.used_new _ _ _ _ hL hW.lt
    have e3 : (T.mk1 p x).usedB = T.usedB + x.xs.length := Nt.used_new _ _ _ _ hL hW.lt
    rw [e2, e3, if_neg (by omega)]
    exact htree
  · intro r n hr
    rcases mem.1 hr with h1 | ⟨rfl, rfl⟩
    · rw [if_neg (old h1), ond h1, oc h1]
      have : mbv (T.mk1 p x) (fun n => if n = T.nodes.length then b else mb n) n = mbv T mb n := by unfold mbv; rw [ond h1]; simp only [if_neg (old h1)]
      rw [this]
      exact ⟨(onode h1).trans (hR.node _ _ h1).1, .inl (hR.node _ _ h1).2⟩
    · rw [if_pos rfl, Nt.nd_mk1, if_pos rfl]
      have e2 : mbv (T.mk1 p x) (fun n => if n = T.nodes.length then b else mb n) T.nodes.length = if x.kind = 4 then some b else none := by unfold mbv; rw [Nt.nd_mk1, if_pos rfl]; simp only [if_pos]
      have e3 : cnt (T.mk1 p x).paths T.nodes.length = 1 := by
        show cnt (T.paths ++ [(_, T.nodes.length)]) _ = 1
        rw [Nt.cnt_app, Nt.cnt_one, if_pos rfl]
        have : ¬ 0 < cnt T.paths T.nodes.length := fun h => by
          obtain ⟨r, hr⟩ := Nt.cnt_pos.1 h
          exact old hr rfl
        omega
      rw [e2, e3]
      exact ⟨hnode, hnF hcw hnode.lt⟩
  · intro r1 r2 n1 n2 h1 h2 e
    rcases mem.1 h1 with a1 | ⟨_, rfl⟩ <;> rcases mem.1 h2 with a2 | ⟨_, rfl⟩
    · simp only [if_neg (old a1), if_neg (old a2)] at e
      exact hR.inj _ _ _ _ a1 a2 e
    · simp only [if_neg (old a1), if_pos] at e
      have := (hR.node _ _ a1).1.lt
      omega
    · simp only [if_neg (old a2), if_pos] at e
      have := (hR.node _ _ a2).1.lt
      omega
    · rfl
  · intro r n hr hk4
    rcases mem.1 hr with h1 | ⟨rfl, rfl⟩
    · rw [ond h1] at hk4
      rw [if_neg (old h1)]
      refine ⟨.inl (hR.map _ _ h1 hk4).1, ?_⟩
      by_cases e : n = m
      · subst e
        have hrq : r = q := hW.one _ _ _ h1 hm (by rw [hk]; decide)
        subst hrq
        refine (hmap.mono (by omega)).cong fun s _ => ?_
        rw [hat' (r ++ [s])]
        by_cases es : s = y
        · subst es; simp
        · rw [if_neg es, if_neg fun e => es (by simpa using List.append_cancel_left e)]
          cases ha : at_ T.paths (r ++ [s]) with
          | none => rfl
          | some j => simp only [Option.map_some]; rw [if_neg (hnl _ _ ha)]
      · have hsame : w'.heap[mb n]? = w.heap[mb n]? := hs _ (hR.map _ _ h1 hk4).2.lt (fun e2 => e (hR.minj _ _ _ _ h1 hm hk4 hk e2)) (fun e2 => hR.tree_map h1 hk4 e2.symm)
        refine (((hR.map _ _ h1 hk4).2.of_block hsame).mono (by omega)).cong fun s _ => ?_
        rw [hat' (r ++ [s])]
        have hne : r ++ [s] ≠ q ++ [y] := fun e2 => by
          obtain ⟨e3, _⟩ := List.append_inj' e2 rfl
          subst e3
          exact e (Nt.nodup_one hW.nodup h1 hm)
        rw [if_neg hne]
        cases ha : at_ T.paths (r ++ [s]) with
        | none => rfl
        | some j => simp only [Option.map_some]; rw [if_neg (hnl _ _ ha)]
    · rw [Nt.nd_mk1, if_pos rfl] at hk4
      rw [if_pos rfl]
      refine ⟨hnF hbw (hnew hk4).lt, ((hnew hk4).mono (by omega)).cong fun s _ => ?_⟩
      rw [hat' (q ++ [y] ++ [s])]
      have : at_ T.paths (q ++ [y] ++ [s]) = none := by
        cases ha : at_ T.paths (q ++ [y] ++ [s]) with
        | none => rfl
        | some j =>
          obtain ⟨_, _, m', h5, _⟩ := hW.up _ _ _ (Nt.at_mem ha)
          rw [e1] at hat
          exact absurd h5 (Nt.at_none hat m')
      rw [if_neg (by simp), this]
      rfl
  · intro r1 r2 n1 n2 h1 h2 k1 k2 e
    rcases mem.1 h1 with a1 | ⟨_, rfl⟩ <;> rcases mem.1 h2 with a2 | ⟨_, rfl⟩
    · rw [ond a1] at k1
      rw [ond a2] at k2
      simp only [if_neg (old a1), if_neg (old a2)] at e
      exact hR.minj _ _ _ _ a1 a2 k1 k2 e
    · rw [ond a1] at k1
      simp only [if_neg (old a1), if_pos] at e
      have := (hR.map _ _ a1 k1).2.lt
      omega
    · rw [ond a2] at k2
      simp only [if_neg (old a2), if_pos] at e
      have := (hR.map _ _ a2 k2).2.lt
      omega
    · rfl
/-- A path more. -/
theorem RepP.linked (hR : RepP F K w tb T ad mb) (hW : WF T K) {p : ByteArray} (hf : T.fresh p = 0) {q r0 : Path} {y : ByteArray} {m j : Nat} (e1 : Pp.pieces p = q ++ [y]) (hm : (q, m) ∈ T.paths) (hk : (T.nd m).kind = 4)
    (hj : (r0, j) ∈ T.paths) (hk1 : (T.nd j).kind = 1)
    (hmap : MapAt w' (mb m) (K + 1) (fun s => if s = y then some (ad j) else (at_ T.paths (q ++ [s])).map ad))
    (hnode : BX w' (ad j) 108 (NC (T.nd j) none (cnt T.paths j + 1 : Nat)))
    (hs : ∀ k, k < w.heap.size → k ≠ mb m → k ≠ ad j → w'.heap[k]? = w.heap[k]?) :
    RepP F (K + 301) w' tb (T.lnk1 p j) ad mb := by
  obtain ⟨hpar, hat⟩ := hW.fresh_ok hf
  have mem : ∀ {r : Path} {n : Nat}, (r, n) ∈ (T.lnk1 p j).paths ↔ (r, n) ∈ T.paths ∨ (r = q ++ [y] ∧ n = j) := fun {r n} => by
    show (r, n) ∈ T.paths ++ [(Pp.pieces p, j)] ↔ _
    rw [List.mem_append, e1]
    simp
  have live : ∀ {r : Path} {n : Nat}, (r, n) ∈ (T.lnk1 p j).paths → ∃ r', (r', n) ∈ T.paths := fun {r n} h => (mem.1 h).elim (fun h => ⟨_, h⟩) fun h => ⟨r0, h.2 ▸ hj⟩
  have hat' : ∀ r, at_ (T.lnk1 p j).paths r = if r = q ++ [y] then some j else at_ T.paths r := fun r => by
    show at_ (T.paths ++ [(Pp.pieces p, j)]) r = _
    rw [Nt.at_snoc hat, e1]
  have oc : ∀ n, cnt (T.lnk1 p j).paths n = cnt T.paths n + (if j = n then 1 else 0) := fun n => by
    show cnt (T.paths ++ [(_, j)]) n = _
    rw [Nt.cnt_app, Nt.cnt_one]
  have usame : ∀ f : Nd → Nat, used (T.lnk1 p j).paths f T.nodes = used T.paths f T.nodes := fun f => Nt.used_same f T.nodes fun i _ _ => by
    rw [oc]
    by_cases e : j = i
    · subst e
      have := Nt.cnt_pos.2 ⟨_, hj⟩
      omega
    · rw [if_neg e]
      omega
  refine ⟨?_, hR.ftree, ?_, ?_, ?_, ?_⟩
  · have e2 : (T.lnk1 p j).usedN = T.usedN := usame _
    have e3 : (T.lnk1 p j).usedB = T.usedB := usame _
    rw [e2, e3]
    exact (hs _ hR.tree.lt (hR.tree_map hm hk) fun e => hR.ne_tree hj e.symm).trans hR.tree
  · intro r n hr
    obtain ⟨r', hr'⟩ := live hr
    refine ⟨?_, (hR.node _ _ hr').2⟩
    rw [oc]
    by_cases e : j = n
    · subst e
      rw [if_pos rfl]
      have : mbv (T.lnk1 p j) mb j = none := by
        show (if (T.nd j).kind = 4 then some (mb j) else none) = none
        rw [if_neg (by omega)]
      rw [this]
      exact hnode
    · rw [if_neg e]
      exact (hs _ (hR.node _ _ hr').1.lt (hR.ne_map hr' hm hk) (fun e2 => e (hR.inj _ _ _ _ hr' hj e2).symm)).trans (hR.node _ _ hr').1
  · intro r1 r2 n1 n2 h1 h2 e
    obtain ⟨a, ha⟩ := live h1
    obtain ⟨b, hb⟩ := live h2
    exact hR.inj _ _ _ _ ha hb e
  · intro r n hr hk4
    replace hk4 : (T.nd n).kind = 4 := hk4
    rcases mem.1 hr with h1 | ⟨_, rfl⟩
    · refine ⟨(hR.map _ _ h1 hk4).1, ?_⟩
      by_cases e : n = m
      · subst e
        have hrq : r = q := hW.one _ _ _ h1 hm (by rw [hk]; decide)
        subst hrq
        refine (hmap.mono (by omega)).cong fun s _ => ?_
        rw [hat' (r ++ [s])]
        by_cases es : s = y
        · subst es; simp
        · rw [if_neg es, if_neg fun e => es (by simpa using List.append_cancel_left e)]
      · have hsame : w'.heap[mb n]? = w.heap[mb n]? := hs _ (hR.map _ _ h1 hk4).2.lt (fun e2 => e (hR.minj _ _ _ _ h1 hm hk4 hk e2)) (fun e2 => hR.ne_map hj h1 hk4 e2.symm)
        refine (((hR.map _ _ h1 hk4).2.of_block hsame).mono (by omega)).cong fun s _ => ?_
        rw [hat' (r ++ [s])]
        have hne : r ++ [s] ≠ q ++ [y] := fun e2 => by
          obtain ⟨e3, _⟩ := List.append_inj' e2 rfl
          subst e3
          exact e (Nt.nodup_one hW.nodup h1 hm)
        rw [if_neg hne]
    · omega
  · intro r1 r2 n1 n2 h1 h2 k1 k2 e
    obtain ⟨a, ha⟩ := live h1
    obtain ⟨b, hb⟩ := live h2
    exact hR.minj _ _ _ _ ha hb k1 k2 e
/-- Another node in a node's place. -/
theorem RepP.withed (hR : RepP F K w tb T ad mb) (hW : WF T K) {r0 : Path} {j : Nat} {x : Nd} (hj : (r0, j) ∈ T.paths) (hk : x.kind = (T.nd j).kind)
    (hnode : BX w' (ad j) 108 (NC x (mbv T mb j) (cnt T.paths j : Nat))) (htree : BX w' tb 112 (TC T (ad 0) (T.with_ j x).usedN (T.with_ j x).usedB))
    (hs : ∀ k, k < w.heap.size → k ≠ ad j → k ≠ tb → w'.heap[k]? = w.heap[k]?) : RepP F K w' tb (T.with_ j x) ad mb := by
  have hjl := hW.lt _ _ hj
  have hkk : ∀ n, ((T.with_ j x).nd n).kind = (T.nd n).kind := fun n => by
    rw [Nt.nd_with hjl]
    by_cases e : n = j
    · subst e; rw [if_pos rfl, hk]
    · rw [if_neg e]
  refine ⟨htree, hR.ftree, ?_, hR.inj, ?_, ?_⟩
  · intro r n hr
    replace hr : (r, n) ∈ T.paths := hr
    refine ⟨?_, (hR.node _ _ hr).2⟩
    have hmv : mbv (T.with_ j x) mb n = mbv T mb n := by unfold mbv; rw [hkk]
    rw [hmv, Nt.nd_with hjl]
    by_cases e : n = j
    · subst e
      rw [if_pos rfl]
      exact hnode
    · rw [if_neg e]
      exact (hs _ (hR.node _ _ hr).1.lt (fun e2 => e (hR.inj _ _ _ _ hr hj e2)) (hR.ne_tree hr)).trans (hR.node _ _ hr).1
  · intro r n hr hk4
    rw [hkk] at hk4
    replace hr : (r, n) ∈ T.paths := hr
    exact ⟨(hR.map _ _ hr hk4).1, (hR.map _ _ hr hk4).2.of_block (hs _ (hR.map _ _ hr hk4).2.lt (fun e2 => hR.ne_map hj hr hk4 e2.symm) (fun e2 => hR.tree_map hr hk4 e2.symm))⟩
  · intro r1 r2 n1 n2 h1 h2 k1 k2 e
    rw [hkk] at k1 k2
    exact hR.minj _ _ _ _ h1 h2 k1 k2 e
end
end Go.Proofs.YthgbncpiehcghaaGreatDoor
/- WALKS OF LAYER 13, EIGHTH PART: Mkdir, Create, Sym. -/
namespace Go.Proofs.YthgbncpiehcghaaGreatDoor
set_option linter.unusedVariables false
open Go Go.RowKit Go.Maps
set_option maxRecDepth 100000
set_option maxHeartbeats 1000000
open Nt (Tr Nd WF Ps Path at_ cnt used)
/-- A call at a tree is done: its error, and what the tree is then. -/
def Done (F : Nat → Prop) (K : Nat) (w w' : World) (tb : Nat) (r : Tr × Int) (e : Ending) : Prop := e = .returned (.int .i64 r.2) ∧ Rep (Grow F w w') (K + 301) w' tb r.1 ∧ Keep F w w'
section
variable {F : Nat → Prop} {K tb : Nat} {w w' : World} {T : Tr} {ad mb : Nat → Nat}
theorem Done.err (hR : RepP F K w tb T ad mb) (hb : Below w.heap.size w w') (c : Int) : Done F K w w' tb (T, c) (.returned (.int .i64 c)) :=
  ⟨rfl, ⟨ad, mb, (hR.later hb).weak (Grow.self F w w') (by omega)⟩, Keep.ofBelow hb⟩
theorem BX.keepK {G : Nat → Prop} {a : Nat} {U : TypeId} {cs : Array Value} (h : BX w a U cs) (hk : Keep G w w') (hn : ¬ G a) : BX w' a U cs := (hk.block a h.lt hn).trans h
theorem Keep.fresh {G : Nat → Prop} {v : World} (h1 : Below w.heap.size w v) (h2 : Keep G v w') (hG : ∀ k, k < w.heap.size → G k → F k) : Keep F w w' :=
  ⟨h2.os.trans h1.os, h2.tape.trans h1.tape, h2.output.trans h1.output, Nat.le_trans h1.size h2.size, fun k hk hn => (h2.block k (Nat.lt_of_lt_of_le hk h1.size) fun e => hn (hG k hk e)).trans (h1.block k hk)⟩
theorem usedN_le (hW : WF T K) : T.usedN ≤ K := Nat.le_trans (Nt.used_le _ _ 1 fun _ _ => Nat.le_refl _) (by have := hW.few; omega)
theorem usedB_le (hW : WF T K) : T.usedB ≤ K * 4096 := Nat.le_trans (Nt.used_le _ _ 4096 fun x hx => by have := hW.kinds x hx; unfold Nd.ok at this; omega) (Nat.mul_le_mul_right _ hW.few)
theorem place_ok (hW : WF T K) {p : ByteArray} {r : Int} (hf : T.fresh p = 0) (hr : Pp.IsLast p p.size r) :
    ∃ q y m, Pp.pieces p = q ++ [y] ∧ Pp.Nm y ∧ (q, m) ∈ T.paths ∧ (T.nd m).kind = 4 ∧ (T.fnd [] 0 (Pp.pieces p).dropLast).1 = m ∧ baseS p r = y := by
  obtain ⟨h1, q, y, m, e1, hy, hm, hk, e2⟩ := hW.par_ok (hW.fresh_ok hf).1
  refine ⟨q, y, m, e1, hy, hm, hk, by rw [e1, List.dropLast_concat, e2], ?_⟩
  have := base_last hr
  rw [e1, List.dropLast_concat] at this
  simpa using (List.append_cancel_left this).symm
theorem radd_any (hW : WF T K) (hK : K ≤ 100000) (hR : RepP F K w tb T ad mb) {q : Path} {m : Nat} (hm : (q, m) ∈ T.paths) (hk : (T.nd m).kind = 4) {y : ByteArray} (hy : Pp.Nm y) {x : Nd} (hx : x.ok) (c : Nat) (mv : Option Nat)
    (hc : BX w c 108 (NC x mv 0)) (hcm : ad m ≠ c) :
    Calls Tryz.prog 98 #[.pointer (some ⟨tb, 0, none⟩), .agg #[.pointer (some ⟨ad m, 0, none⟩), .string y], .pointer (some ⟨c, 0, none⟩)] w fun e w' => e = .returned (.tuple #[]) ∧
      MapAt w' (mb m) (K + 1) (fun s => if s = y then some c else (at_ T.paths (q ++ [s])).map ad) ∧ BX w' c 108 (NC x mv (1 : Nat)) ∧ BX w' tb 112 (TC T (ad 0) (T.usedN + 1) (T.usedB + x.xs.length)) ∧
      Keep (fun k => k = mb m ∨ k = c ∨ k = tb) w w' := by
  have h1 := usedN_le hW
  have h2 := usedB_le hW
  have h3 := Nt.nm_le hy
  have h4 := hx.2.1
  have h5 := hx.2.2.1
  exact add_any w tb (ad m) (mb m) c K (T.nd m) x _ 0 mv _ y _ _ _ _ _ hR.tree (hR.dir hm hk) (hR.map _ _ hm hk).2 hc hcm (by omega) (by omega) (by omega) (by omega) (by omega)
theorem rroom_any (hW : WF T K) (hK : K ≤ 100000) (hR : RepP F K w tb T ad mb) (n m : Int) :
    Calls Tryz.prog 97 #[.pointer (some ⟨tb, 0, none⟩), .int .i64 n, .int .i64 m] w fun e w' => e = .returned (.bool (T.roomy n m)) ∧ Below w.heap.size w w' := by
  have h1 := usedN_le hW
  have h2 := usedB_le hW
  have h3 := hW.rms
  exact room_any w tb _ T.room T.vol T.usedN T.usedB n m hR.tree rfl rfl rfl rfl ⟨h3.1.1, h3.1.2⟩ ⟨h3.2.1, h3.2.2⟩ (by omega) (by omega)
theorem newDir_at (w : World) (z : Nat) (hz : w.heap.size = z) (p q r s : Int) :
    Calls Tryz.prog 47 #[.agg #[.int .i64 p, .int .i64 q, .int .i64 r, .int .i64 s]] w fun e w' => e = .returned (.pointer (some ⟨z + 2, 0, none⟩)) ∧ BX w' (z + 2) 108 (NC ⟨4, p, q, r, s, ⟨#[]⟩, none, 0, 0, []⟩ (some (z + 1)) 0) ∧
      MapAt w' (z + 1) 0 (fun _ => none) ∧ Below w.heap.size w w' ∧ w'.heap.size = z + 3 := by
  subst hz
  exact newDir_any w p q r s
theorem mkdir_any (hW : WF T K) (hK : K ≤ 100000) (hR : RepP F K w tb T ad mb) (p : ByteArray) (hp : p.size ≤ 1000000) (a b c d : Int) :
    Calls Tryz.prog 44 #[.pointer (some ⟨tb, 0, none⟩), .string p, .agg #[.int .i64 a, .int .i64 b, .int .i64 c, .int .i64 d]] w fun e w' => Done F K w w' tb (T.mk' p ⟨4, a, b, c, d, ⟨#[]⟩, none, 0, 0, []⟩) e := by
  obtain ⟨r, hr⟩ := Pp.last_ex p p.size (Nat.le_refl _)
  have HR := Lib.hid hR
  have kn := Lib.hid (fun W (h : RepP F K W tb T ad mb) => newPlace_any hW h p hp r hr)
  have km := Lib.hid (fun W => meta_any W a b c d)
  have kr := Lib.hid (fun W (h : RepP F K W tb T ad mb) => rroom_any hW hK h 1 0)
  have hb0 := Lib.hid (below_new w (.cells #[.int .i64 a, .int .i64 b, .int .i64 c, .int .i64 d] 72))
  have hB0 := Lib.hid (BX.new w 72 #[.int .i64 a, .int .i64 b, .int .i64 c, .int .i64 d])
  by_cases hf : T.fresh p = 0
  · obtain ⟨q, y, m, e1, hy, hm, hk, e2, e3⟩ := place_ok hW hf hr
    rw [e2, e3, hf] at kn
    by_cases hmt : Nt.metaOk a b c d = true
    · rw [hmt] at km
      by_cases hro : T.roomy 1 0 = true
      · rw [hro] at kr
        have hx : Nd.ok ⟨4, a, b, c, d, ⟨#[]⟩, none, 0, 0, []⟩ := ⟨.inr (.inr rfl), rfl, Nat.zero_le _, fun _ => rfl, fun _ => rfl⟩
        have hE : T.mk' p ⟨4, a, b, c, d, ⟨#[]⟩, none, 0, 0, []⟩ = (T.mk1 p ⟨4, a, b, c, d, ⟨#[]⟩, none, 0, 0, []⟩, 0) := by
          have : T.mkE p ⟨4, a, b, c, d, ⟨#[]⟩, none, 0, 0, []⟩ = 0 := by unfold Tr.mkE; rw [if_neg (by simp [hf]), if_neg (by simp [hmt]), if_neg (by simp), if_neg (by simp), if_neg (by simp [hro])]
          unfold Tr.mk'
          rw [this, if_pos rfl]
        rw [hE]
        have kd := Lib.hid (fun W s (e : W.heap.size = s) => newDir_at W s e a b c d)
        have HF := Lib.hid hf
        clear hE hro hmt hf
        go_enter Tryz.func44, Tryz.ntmps44
        go_wp2_with (first
          | (go_at_call 95; refine (kn.out _ (HR.out.later hb0.out)).mono ?_; rintro e w1 ⟨⟨v, rfl, hv, _⟩, hb1⟩; obtain rfl := hv rfl; have hbx := Lib.hid ((hB0.out.later hb1).alloc (.cells #[.pointer (some ⟨ad m, 0, none⟩), .string y] 159)); have q0 := (hbx.out.cell (j := 0) (v := .int .i64 a) rfl); have q1 := (hbx.out.cell (j := 1) (v := .int .i64 b) rfl); have q2 := (hbx.out.cell (j := 2) (v := .int .i64 c) rfl); have q3 := (hbx.out.cell (j := 3) (v := .int .i64 d) rfl))
          | (go_at_call 96; refine (km.out _).mono ?_; rintro e w2 ⟨rfl, hb2⟩)
          | (go_at_call 97; refine (kr.out _ ((((HR.out.later hb0.out).later hb1).later (below_new w1 _)).later hb2)).mono ?_; rintro e w3 ⟨rfl, hb3⟩))
        have hR3 := Lib.hid (((((HR.out.later hb0.out).later hb1).later (below_new w1 _)).later hb2).later hb3)
        have hB3 := Lib.hid (bthen (bthen (bthen (bthen hb0.out hb1) (below_new w1 _)) hb2) hb3)
        have hme := Lib.hid ((hbx.out.later hb2).later hb3)
        have hpl := Lib.hid (((BX.new w1 159 #[.pointer (some ⟨ad m, 0, none⟩), .string y]).later hb2).later hb3)
        have hwlt : Hid (w.heap.size < w3.heap.size) := hme.out.lt
        have hw1lt : Hid (w1.heap.size < w3.heap.size) := hpl.out.lt
        have hlow : Hid (w.heap.size ≤ w1.heap.size) := (bthen hb0.out hb1).size
        clear hbx q0 q1 q2 q3 hb1 hb2 hb3 hv kn km kr
        have ALLS := Lib.hid (fun (V : World) (h : Below w3.heap.size w3 V) => show V.cell? ⟨w.heap.size, 0, none⟩ = some (.int .i64 a) ∧ V.cell? ⟨w.heap.size, 1, none⟩ = some (.int .i64 b) ∧ V.cell? ⟨w.heap.size, 2, none⟩ = some (.int .i64 c) ∧ V.cell? ⟨w.heap.size, 3, none⟩ = some (.int .i64 d) ∧ V.cell? ⟨w1.heap.size, 0, none⟩ = some (.pointer (some ⟨ad m, 0, none⟩)) ∧ V.cell? ⟨w1.heap.size, 1, none⟩ = some (.string y) from
          ⟨(hme.out.later h).cell rfl, (hme.out.later h).cell rfl, (hme.out.later h).cell rfl, (hme.out.later h).cell rfl, (hpl.out.later h).cell rfl, (hpl.out.later h).cell rfl⟩)
        have HDS := Lib.hid (show w3.drew.heap.size = w3.heap.size from rfl)
        have hacc : Below w3.heap.size w3 w3 := Below.refl _ _
        obtain ⟨y0, y1, y2, y3, y4, y5⟩ := ALLS.out w3 hacc
        have hml := Lib.hid (hR.node _ _ hm).1.lt
        have hmb := Lib.hid (hR.map _ _ hm hk).2.lt
        have htl := Lib.hid hR.tree.lt
        have hcm : Hid (ad m ≠ w3.heap.size + 2) := by have := hml.out; have := hwlt.out; show ad m ≠ w3.heap.size + 2; omega
        have hne1 : Hid (¬ (w.heap.size = mb m ∨ w.heap.size = w3.heap.size + 2 ∨ w.heap.size = tb)) := by have := hwlt.out; have := hmb.out; have := htl.out; show ¬ _; omega
        have hne2 : Hid (¬ (w1.heap.size = mb m ∨ w1.heap.size = w3.heap.size + 2 ∨ w1.heap.size = tb)) := by have := hw1lt.out; have := hlow.out; have := hmb.out; have := htl.out; show ¬ _; omega
        have KEEPS := Lib.hid (fun (U V : World) (h : Below w3.heap.size w3 U) (g : Keep (fun k => k = mb m ∨ k = w3.heap.size + 2 ∨ k = tb) U V) => show V.cell? ⟨w.heap.size, 0, none⟩ = some (.int .i64 a) ∧ V.cell? ⟨w.heap.size, 1, none⟩ = some (.int .i64 b) ∧ V.cell? ⟨w.heap.size, 2, none⟩ = some (.int .i64 c) ∧ V.cell? ⟨w.heap.size, 3, none⟩ = some (.int .i64 d) ∧ V.cell? ⟨w1.heap.size, 0, none⟩ = some (.pointer (some ⟨ad m, 0, none⟩)) ∧ V.cell? ⟨w1.heap.size, 1, none⟩ = some (.string y) from
          ⟨((hme.out.later h).keepK g hne1.out).cell rfl, ((hme.out.later h).keepK g hne1.out).cell rfl, ((hme.out.later h).keepK g hne1.out).cell rfl, ((hme.out.later h).keepK g hne1.out).cell rfl, ((hpl.out.later h).keepK g hne2.out).cell rfl, ((hpl.out.later h).keepK g hne2.out).cell rfl⟩)
        go_region_held3 (fun V => V.cell? ⟨w.heap.size, 0, none⟩ = some (.int .i64 a) ∧ V.cell? ⟨w.heap.size, 1, none⟩ = some (.int .i64 b) ∧ V.cell? ⟨w.heap.size, 2, none⟩ = some (.int .i64 c) ∧ V.cell? ⟨w.heap.size, 3, none⟩ = some (.int .i64 d) ∧ V.cell? ⟨w1.heap.size, 0, none⟩ = some (.pointer (some ⟨ad m, 0, none⟩)) ∧ V.cell? ⟨w1.heap.size, 1, none⟩ = some (.string y))
          (first | go_keep | (exact ALLS.out _ hacc) | (exact KEEPS.out _ _ hacc g4))
          (first
            | (go_at_call 47; (with_reducible refine (kd.out _ _ HDS.out).mono ?_); rintro e wn ⟨rfl, hn1, hn2, hbn, hsz⟩; replace hacc : Below w3.heap.size w3 wn := hacc.drew.trans (Below.mono hbn (Nat.le_refl _)))
            | (go_at_call 98; (with_reducible refine (radd_any hW hK (hR3.out.later hacc) hm hk hy hx _ _ hn1 hcm.out).mono ?_); rintro e wz ⟨rfl, g1, g2, g3, g4⟩))
        all_goals
          go_wp2
          go_ret
          have hB4 := bthen hB3.out hacc
          have hsz3 := hB3.out.size
          have hb1 := hml.out
          have hb2 := hmb.out
          have hb3 := htl.out
          refine ⟨rfl, ⟨_, _, hR.made hW HF.out hx e1 hm hk (c := w3.heap.size + 2) (b := w3.heap.size + 1) (by omega) (by omega) g1 g2 (fun _ => hn2.of_block (g4.block _ hn2.lt (by omega))) g3 (fun k hk1 hk2 hk3 => (g4.block k (Nat.lt_of_lt_of_le hk1 hB4.size) (by omega)).trans (hB4.block k hk1)) (Nat.le_trans hB4.size g4.size)⟩, Keep.fresh hB4 g4 fun k hk1 hk2 => ?_⟩
          rcases hk2 with rfl | rfl | rfl
          · exact (hR.map _ _ hm hk).1
          · omega
          · exact hR.ftree
      · have hro' : T.roomy 1 0 = false := by cases h : T.roomy 1 0 with | false => rfl | true => exact absurd h hro
        rw [hro'] at kr
        have hE : T.mk' p ⟨4, a, b, c, d, ⟨#[]⟩, none, 0, 0, []⟩ = (T, 14) := by
          have : T.mkE p ⟨4, a, b, c, d, ⟨#[]⟩, none, 0, 0, []⟩ = 14 := by unfold Tr.mkE; rw [if_neg (by simp [hf]), if_neg (by simp [hmt]), if_neg (by simp), if_neg (by simp), if_pos (by simp [hro'])]
          unfold Tr.mk'
          rw [this, if_neg (by decide)]
        rw [hE]
        clear hE hro hro' hmt hf
        go_enter Tryz.func44, Tryz.ntmps44
        go_wp2_with (first
          | (go_at_call 95; refine (kn.out _ (HR.out.later hb0.out)).mono ?_; rintro e w1 ⟨⟨v, rfl, hv, _⟩, hb1⟩; obtain rfl := hv rfl; have hbx := Lib.hid ((hB0.out.later hb1).alloc (.cells #[.pointer (some ⟨ad m, 0, none⟩), .string y] 159)); have q0 := (hbx.out.cell (j := 0) (v := .int .i64 a) rfl); have q1 := (hbx.out.cell (j := 1) (v := .int .i64 b) rfl); have q2 := (hbx.out.cell (j := 2) (v := .int .i64 c) rfl); have q3 := (hbx.out.cell (j := 3) (v := .int .i64 d) rfl))
          | (go_at_call 96; refine (km.out _).mono ?_; rintro e w2 ⟨rfl, hb2⟩)
          | (go_at_call 97; refine (kr.out _ ((((HR.out.later hb0.out).later hb1).later (below_new w1 _)).later hb2)).mono ?_; rintro e w3 ⟨rfl, hb3⟩))
        go_ret
        exact Done.err HR.out (bthen (bthen (bthen (bthen hb0.out hb1) (below_new w1 _)) hb2) hb3) 14
    · have hmt' : Nt.metaOk a b c d = false := by cases h : Nt.metaOk a b c d with | false => rfl | true => exact absurd h hmt
      rw [hmt'] at km
      have hE : T.mk' p ⟨4, a, b, c, d, ⟨#[]⟩, none, 0, 0, []⟩ = (T, 10) := by
        have : T.mkE p ⟨4, a, b, c, d, ⟨#[]⟩, none, 0, 0, []⟩ = 10 := by unfold Tr.mkE; rw [if_neg (by simp [hf]), if_pos (by simp [hmt'])]
        unfold Tr.mk'
        rw [this, if_neg (by decide)]
      rw [hE]
      clear hE hmt hmt' hf
      go_enter Tryz.func44, Tryz.ntmps44
      go_wp2_with (first
          | (go_at_call 95; refine (kn.out _ (HR.out.later hb0.out)).mono ?_; rintro e w1 ⟨⟨v, rfl, hv, _⟩, hb1⟩; obtain rfl := hv rfl; have hbx := Lib.hid ((hB0.out.later hb1).alloc (.cells #[.pointer (some ⟨ad m, 0, none⟩), .string y] 159)); have q0 := (hbx.out.cell (j := 0) (v := .int .i64 a) rfl); have q1 := (hbx.out.cell (j := 1) (v := .int .i64 b) rfl); have q2 := (hbx.out.cell (j := 2) (v := .int .i64 c) rfl); have q3 := (hbx.out.cell (j := 3) (v := .int .i64 d) rfl))
          | (go_at_call 96; refine (km.out _).mono ?_; rintro e w2 ⟨rfl, hb2⟩))
      go_ret
      exact Done.err HR.out (bthen (bthen (bthen hb0.out hb1) (below_new w1 _)) hb2) 10
  · have hE : T.mk' p ⟨4, a, b, c, d, ⟨#[]⟩, none, 0, 0, []⟩ = (T, T.fresh p) := by
      have : T.mkE p ⟨4, a, b, c, d, ⟨#[]⟩, none, 0, 0, []⟩ = T.fresh p := by unfold Tr.mkE; rw [if_pos hf]
      unfold Tr.mk'
      rw [this, if_neg hf]
    rw [hE]
    generalize T.fresh p = z at *
    have g : (z != 0) = true := by simp [hf]
    have HF := Lib.hid hf; clear hf hE
    go_enter Tryz.func44, Tryz.ntmps44
    go_wp2_with (go_at_call 95; refine (kn.out _ (HR.out.later hb0.out)).mono ?_; rintro e w1 ⟨⟨v, rfl, _, hv⟩, hb1⟩; obtain rfl := hv HF.out)
    go_ret
    exact Done.err HR.out (bthen (bthen hb0.out hb1) (below_new w1 _)) z
end
end Go.Proofs.YthgbncpiehcghaaGreatDoor
/- WALKS OF LAYER 13, NINTH PART: Create. -/
namespace Go.Proofs.YthgbncpiehcghaaGreatDoor
set_option linter.unusedVariables false
open Go Go.RowKit Go.Maps
set_option maxRecDepth 100000
set_option maxHeartbeats 1000000
open Nt (Tr Nd WF Ps Path at_ cnt used)
section
variable {F : Nat → Prop} {K tb : Nat} {w w' : World} {T : Tr} {ad mb : Nat → Nat}
theorem create_any (hW : WF T K) (hK : K ≤ 100000) (hR : RepP F K w tb T ad mb) (p : ByteArray) (hp : p.size ≤ 1000000) (a b c d : Int) (A : Option Addr) (n k : Nat) (xs : List Int) (hd : RB w w.heap.size A n xs) (hn : n ≤ 1000000) :
    Calls Tryz.prog 48 #[.pointer (some ⟨tb, 0, none⟩), .string p, .agg #[.int .i64 a, .int .i64 b, .int .i64 c, .int .i64 d], .slice A n k] w fun e w' => Done F K w w' tb (T.mk' p ⟨1, a, b, c, d, ⟨#[]⟩, A, n, k, xs⟩) e := by
  obtain ⟨r, hr⟩ := Pp.last_ex p p.size (Nat.le_refl _)
  have HR := Lib.hid hR
  have kn := Lib.hid (fun W (h : RepP F K W tb T ad mb) => newPlace_any hW h p hp r hr)
  have km := Lib.hid (fun W => meta_any W a b c d)
  have kr := Lib.hid (fun W (h : RepP F K W tb T ad mb) => rroom_any hW hK h 1 n)
  have hb0 := Lib.hid (below_new w (.cells #[.int .i64 a, .int .i64 b, .int .i64 c, .int .i64 d] 72))
  have hB0 := Lib.hid (BX.new w 72 #[.int .i64 a, .int .i64 b, .int .i64 c, .int .i64 d])
  by_cases hf : T.fresh p = 0
  · obtain ⟨q, y, m, e1, hy, hm, hk, e2, e3⟩ := place_ok hW hf hr
    rw [e2, e3, hf] at kn
    by_cases hmt : Nt.metaOk a b c d = true
    · rw [hmt] at km
      by_cases hbig : n ≤ 4096
      · have g4 : ¬ (4096 : Int) < n := by omega
        by_cases hro : T.roomy 1 n = true
        · rw [hro] at kr
          have hx : Nd.ok ⟨1, a, b, c, d, ⟨#[]⟩, A, n, k, xs⟩ := ⟨.inl rfl, hd.1, hbig, fun h => absurd rfl h, fun _ => rfl⟩
          have hE : T.mk' p ⟨1, a, b, c, d, ⟨#[]⟩, A, n, k, xs⟩ = (T.mk1 p ⟨1, a, b, c, d, ⟨#[]⟩, A, n, k, xs⟩, 0) := by
            have : T.mkE p ⟨1, a, b, c, d, ⟨#[]⟩, A, n, k, xs⟩ = 0 := by unfold Tr.mkE; rw [if_neg (by simp [hf]), if_neg (by simp [hmt]), if_neg (by simp; omega), if_neg (by simp), if_neg (by simp [hro])]
            unfold Tr.mk'
            rw [this, if_pos rfl]
          rw [hE]
          have hxl := hd.1
          have HXL := Lib.hid hxl
          have ka := Lib.hid (fun W (h : RepP F K W tb T ad mb) z (hc : BX W z 108 (NC ⟨1, a, b, c, d, ⟨#[]⟩, A, n, k, xs⟩ none 0)) (hz : ad m ≠ z) => radd_any hW hK h hm hk hy hx z none hc hz)
          have HD := Lib.hid hd
          have hml := Lib.hid (hR.node _ _ hm).1.lt
          have hmb := Lib.hid (hR.map _ _ hm hk).2.lt
          have htl := Lib.hid hR.tree.lt
          have HF := Lib.hid hf
          clear hE hro hmt hf hbig hxl
          go_enter Tryz.func48, Tryz.ntmps48
          go_wp2_with (first
          | (go_at_call 95; refine (kn.out _ (HR.out.later hb0.out)).mono ?_; rintro e w1 ⟨⟨v, rfl, hv, _⟩, hb1⟩; obtain rfl := hv rfl; have hbx := Lib.hid ((hB0.out.later hb1).alloc (.cells #[.pointer (some ⟨ad m, 0, none⟩), .string y] 159)); have q0 := (hbx.out.cell (j := 0) (v := .int .i64 a) rfl); have q1 := (hbx.out.cell (j := 1) (v := .int .i64 b) rfl); have q2 := (hbx.out.cell (j := 2) (v := .int .i64 c) rfl); have q3 := (hbx.out.cell (j := 3) (v := .int .i64 d) rfl))
          | (go_at_call 96; refine (km.out _).mono ?_; rintro e w2 ⟨rfl, hb2⟩)
          | (go_at_call 97; refine (kr.out _ ((((HR.out.later hb0.out).later hb1).later (below_new w1 _)).later hb2)).mono ?_; rintro e w3 ⟨rfl, hb3⟩; have hR3 := Lib.hid (((((HR.out.later hb0.out).later hb1).later (below_new w1 _)).later hb2).later hb3); have hB3 := Lib.hid (bthen (bthen (bthen (bthen hb0.out hb1) (below_new w1 _)) hb2) hb3); have hme := Lib.hid ((hbx.out.later hb2).later hb3); have hpl := Lib.hid (((BX.new w1 159 #[.pointer (some ⟨ad m, 0, none⟩), .string y]).later hb2).later hb3); have s0 : w3.cell? ⟨w.heap.size, 0, none⟩ = some (.int .i64 a) := hme.out.cell rfl; have s1 : w3.cell? ⟨w.heap.size, 1, none⟩ = some (.int .i64 b) := hme.out.cell rfl; have s2 : w3.cell? ⟨w.heap.size, 2, none⟩ = some (.int .i64 c) := hme.out.cell rfl; have s3 : w3.cell? ⟨w.heap.size, 3, none⟩ = some (.int .i64 d) := hme.out.cell rfl; have p0 : w3.cell? ⟨w1.heap.size, 0, none⟩ = some (.pointer (some ⟨ad m, 0, none⟩)) := hpl.out.cell rfl; have p1 : w3.cell? ⟨w1.heap.size, 1, none⟩ = some (.string y) := hpl.out.cell rfl; have hcv := (HD.out.below hB3.out).conv k; have hl3 := Lib.hid (Nat.lt_of_lt_of_le hml.out hB3.out.size))
          | (go_at_call 98; refine (ka.out _ (hR3.out.later (below_new w3 _)) w3.heap.size (BX.new w3 108 (NC ⟨1, a, b, c, d, ⟨#[]⟩, A, n, k, xs⟩ none 0)) (Nat.ne_of_lt hl3.out)).mono ?_; rintro e wz ⟨rfl, g1, g2, g3, g4⟩))
          go_ret
          have hB4 := bthen hB3.out (below_new w3 (.cells (NC ⟨1, a, b, c, d, ⟨#[]⟩, A, n, k, xs⟩ none 0) 108))
          have hsz3 := hB3.out.size
          have hb1 := hml.out
          have hb2 := hmb.out
          have hb3 := htl.out
          refine ⟨rfl, ⟨_, _, hR.made hW HF.out hx e1 hm hk (c := w3.heap.size) (b := w3.heap.size) (by omega) (by omega) g1 g2 (fun h => by simp at h) g3 (fun k hk1 hk2 hk3 => (g4.block k (Nat.lt_of_lt_of_le hk1 hB4.size) (by omega)).trans (hB4.block k hk1)) (Nat.le_trans hB4.size g4.size)⟩, Keep.fresh hB4 g4 fun k hk1 hk2 => ?_⟩
          rcases hk2 with rfl | rfl | rfl
          · exact (hR.map _ _ hm hk).1
          · omega
          · exact hR.ftree
        · have hro' : T.roomy 1 n = false := by cases h : T.roomy 1 n with | false => rfl | true => exact absurd h hro
          rw [hro'] at kr
          have hE : T.mk' p ⟨1, a, b, c, d, ⟨#[]⟩, A, n, k, xs⟩ = (T, 14) := by
            have : T.mkE p ⟨1, a, b, c, d, ⟨#[]⟩, A, n, k, xs⟩ = 14 := by unfold Tr.mkE; rw [if_neg (by simp [hf]), if_neg (by simp [hmt]), if_neg (by simp; omega), if_neg (by simp), if_pos (by simp [hro'])]
            unfold Tr.mk'
            rw [this, if_neg (by decide)]
          rw [hE]
          clear hE hro hro' hmt hf
          go_enter Tryz.func48, Tryz.ntmps48
          go_wp2_with (first
            | (go_at_call 95; refine (kn.out _ (HR.out.later hb0.out)).mono ?_; rintro e w1 ⟨⟨v, rfl, hv, _⟩, hb1⟩; obtain rfl := hv rfl; have hbx := Lib.hid ((hB0.out.later hb1).alloc (.cells #[.pointer (some ⟨ad m, 0, none⟩), .string y] 159)); have q0 := (hbx.out.cell (j := 0) (v := .int .i64 a) rfl); have q1 := (hbx.out.cell (j := 1) (v := .int .i64 b) rfl); have q2 := (hbx.out.cell (j := 2) (v := .int .i64 c) rfl); have q3 := (hbx.out.cell (j := 3) (v := .int .i64 d) rfl))
            | (go_at_call 96; refine (km.out _).mono ?_; rintro e w2 ⟨rfl, hb2⟩)
            | (go_at_call 97; refine (kr.out _ ((((HR.out.later hb0.out).later hb1).later (below_new w1 _)).later hb2)).mono ?_; rintro e w3 ⟨rfl, hb3⟩; have hR3 := Lib.hid (((((HR.out.later hb0.out).later hb1).later (below_new w1 _)).later hb2).later hb3); have hB3 := Lib.hid (bthen (bthen (bthen (bthen hb0.out hb1) (below_new w1 _)) hb2) hb3); have hme := Lib.hid ((hbx.out.later hb2).later hb3); have hpl := Lib.hid (((BX.new w1 159 #[.pointer (some ⟨ad m, 0, none⟩), .string y]).later hb2).later hb3); have s0 : w3.cell? ⟨w.heap.size, 0, none⟩ = some (.int .i64 a) := hme.out.cell rfl; have s1 : w3.cell? ⟨w.heap.size, 1, none⟩ = some (.int .i64 b) := hme.out.cell rfl; have s2 : w3.cell? ⟨w.heap.size, 2, none⟩ = some (.int .i64 c) := hme.out.cell rfl; have s3 : w3.cell? ⟨w.heap.size, 3, none⟩ = some (.int .i64 d) := hme.out.cell rfl; have p0 : w3.cell? ⟨w1.heap.size, 0, none⟩ = some (.pointer (some ⟨ad m, 0, none⟩)) := hpl.out.cell rfl; have p1 : w3.cell? ⟨w1.heap.size, 1, none⟩ = some (.string y) := hpl.out.cell rfl))
          go_ret
          exact Done.err HR.out hB3.out 14
      · have g4 : (4096 : Int) < n := by omega
        have hE : T.mk' p ⟨1, a, b, c, d, ⟨#[]⟩, A, n, k, xs⟩ = (T, 10) := by
          have : T.mkE p ⟨1, a, b, c, d, ⟨#[]⟩, A, n, k, xs⟩ = 10 := by unfold Tr.mkE; rw [if_neg (by simp [hf]), if_neg (by simp [hmt]), if_pos (by simp; omega)]
          unfold Tr.mk'
          rw [this, if_neg (by decide)]
        rw [hE]
        clear hE hmt hf
        go_enter Tryz.func48, Tryz.ntmps48
        go_wp2_with (first
          | (go_at_call 95; refine (kn.out _ (HR.out.later hb0.out)).mono ?_; rintro e w1 ⟨⟨v, rfl, hv, _⟩, hb1⟩; obtain rfl := hv rfl; have hbx := Lib.hid ((hB0.out.later hb1).alloc (.cells #[.pointer (some ⟨ad m, 0, none⟩), .string y] 159)); have q0 := (hbx.out.cell (j := 0) (v := .int .i64 a) rfl); have q1 := (hbx.out.cell (j := 1) (v := .int .i64 b) rfl); have q2 := (hbx.out.cell (j := 2) (v := .int .i64 c) rfl); have q3 := (hbx.out.cell (j := 3) (v := .int .i64 d) rfl))
          | (go_at_call 96; refine (km.out _).mono ?_; rintro e w2 ⟨rfl, hb2⟩))
        go_ret
        exact Done.err HR.out (bthen (bthen (bthen hb0.out hb1) (below_new w1 _)) hb2) 10
    · have hmt' : Nt.metaOk a b c d = false := by cases h : Nt.metaOk a b c d with | false => rfl | true => exact absurd h hmt
      rw [hmt'] at km
      have hE : T.mk' p ⟨1, a, b, c, d, ⟨#[]⟩, A, n, k, xs⟩ = (T, 10) := by
        have : T.mkE p ⟨1, a, b, c, d, ⟨#[]⟩, A, n, k, xs⟩ = 10 := by unfold Tr.mkE; rw [if_neg (by simp [hf]), if_pos (by simp [hmt'])]
        unfold Tr.mk'
        rw [this, if_neg (by decide)]
      rw [hE]
      clear hE hmt hmt' hf
      go_enter Tryz.func48, Tryz.ntmps48
      go_wp2_with (first
        | (go_at_call 95; refine (kn.out _ (HR.out.later hb0.out)).mono ?_; rintro e w1 ⟨⟨v, rfl, hv, _⟩, hb1⟩; obtain rfl := hv rfl; have hbx := Lib.hid ((hB0.out.later hb1).alloc (.cells #[.pointer (some ⟨ad m, 0, none⟩), .string y] 159)); have q0 := (hbx.out.cell (j := 0) (v := .int .i64 a) rfl); have q1 := (hbx.out.cell (j := 1) (v := .int .i64 b) rfl); have q2 := (hbx.out.cell (j := 2) (v := .int .i64 c) rfl); have q3 := (hbx.out.cell (j := 3) (v := .int .i64 d) rfl))
        | (go_at_call 96; refine (km.out _).mono ?_; rintro e w2 ⟨rfl, hb2⟩))
      go_ret
      exact Done.err HR.out (bthen (bthen (bthen hb0.out hb1) (below_new w1 _)) hb2) 10
  · have hE : T.mk' p ⟨1, a, b, c, d, ⟨#[]⟩, A, n, k, xs⟩ = (T, T.fresh p) := by
      have : T.mkE p ⟨1, a, b, c, d, ⟨#[]⟩, A, n, k, xs⟩ = T.fresh p := by unfold Tr.mkE; rw [if_pos hf]
      unfold Tr.mk'
      rw [this, if_neg hf]
    rw [hE]
    generalize T.fresh p = z at *
    have g : (z != 0) = true := by simp [hf]
    have HF := Lib.hid hf; clear hf hE
    go_enter Tryz.func48, Tryz.ntmps48
    go_wp2_with (go_at_call 95; refine (kn.out _ (HR.out.later hb0.out)).mono ?_; rintro e w1 ⟨⟨v, rfl, _, hv⟩, hb1⟩; obtain rfl := hv HF.out)
    go_ret
    exact Done.err HR.out (bthen (bthen hb0.out hb1) (below_new w1 _)) z
end
end Go.Proofs.YthgbncpiehcghaaGreatDoor
/- WALKS OF LAYER 13, TENTH PART: Sym. -/
namespace Go.Proofs.YthgbncpiehcghaaGreatDoor
set_option linter.unusedVariables false
open Go Go.RowKit Go.Maps
set_option maxRecDepth 100000
set_option maxHeartbeats 1000000
open Nt (Tr Nd WF Ps Path at_ cnt used)
section
variable {F : Nat → Prop} {K tb : Nat} {w w' : World} {T : Tr} {ad mb : Nat → Nat}
theorem sym_any (hW : WF T K) (hK : K ≤ 100000) (hR : RepP F K w tb T ad mb) (p : ByteArray) (hp : p.size ≤ 1000000) (a b c d : Int) (l : ByteArray) (hl : l.size ≤ 1000000) :
    Calls Tryz.prog 59 #[.pointer (some ⟨tb, 0, none⟩), .string p, .agg #[.int .i64 a, .int .i64 b, .int .i64 c, .int .i64 d], .string l] w fun e w' => Done F K w w' tb (T.mk' p ⟨3, a, b, c, d, l, none, 0, 0, []⟩) e := by
  obtain ⟨r, hr⟩ := Pp.last_ex p p.size (Nat.le_refl _)
  have HR := Lib.hid hR
  have kn := Lib.hid (fun W (h : RepP F K W tb T ad mb) => newPlace_any hW h p hp r hr)
  have km := Lib.hid (fun W => meta_any W a b c d)
  have ki := Lib.hid (fun W => str_byte_any l 0 W)
  rw [show ((0 : Int).toNat.toUInt8) = (0 : UInt8) from rfl] at ki
  have kr := Lib.hid (fun W (h : RepP F K W tb T ad mb) => rroom_any hW hK h 1 0)
  have hb0 := Lib.hid (below_new w (.cells #[.int .i64 a, .int .i64 b, .int .i64 c, .int .i64 d] 72))
  have hB0 := Lib.hid (BX.new w 72 #[.int .i64 a, .int .i64 b, .int .i64 c, .int .i64 d])
  have hE0 := isEmpty_eq l
  have hE1 := byte0_iff l
  by_cases hf : T.fresh p = 0
  · obtain ⟨q, y, m, e1, hy, hm, hk, e2, e3⟩ := place_ok hW hf hr
    rw [e2, e3, hf] at kn
    by_cases hmt : Nt.metaOk a b c d = true
    · rw [hmt] at km
      by_cases hl0 : l.size = 0
      · have hli : Nt.linkE l = 3 := by unfold Nt.linkE; rw [if_pos hl0]
        have g1 : l.toList.isEmpty = true := by rw [hE0]; simp [hl0]
        have hE : T.mk' p ⟨3, a, b, c, d, l, none, 0, 0, []⟩ = (T, 3) := by
          have : T.mkE p ⟨3, a, b, c, d, l, none, 0, 0, []⟩ = 3 := by unfold Tr.mkE; rw [if_neg (by simp [hf]), if_neg (by simp [hmt]), if_neg (by simp), if_pos (by simp [hli]), hli]
          unfold Tr.mk'
          rw [this, if_neg (by decide)]
        rw [hE]
        clear hE hli hE0 hE1 hl0 hmt hf
        go_enter Tryz.func59, Tryz.ntmps59
        go_wp2_with (first
                  | (go_at_call 95; refine (kn.out _ (HR.out.later hb0.out)).mono ?_; rintro e w1 ⟨⟨v, rfl, hv, _⟩, hb1⟩; obtain rfl := hv rfl; have hbx := Lib.hid ((hB0.out.later hb1).alloc (.cells #[.pointer (some ⟨ad m, 0, none⟩), .string y] 159)); have q0 := (hbx.out.cell (j := 0) (v := .int .i64 a) rfl); have q1 := (hbx.out.cell (j := 1) (v := .int .i64 b) rfl); have q2 := (hbx.out.cell (j := 2) (v := .int .i64 c) rfl); have q3 := (hbx.out.cell (j := 3) (v := .int .i64 d) rfl))
                  | (go_at_call 96; refine (km.out _).mono ?_; rintro e w2 ⟨rfl, hb2⟩)
                  | (go_at_call 111; refine (ki.out _).mono ?_; rintro e w' ⟨rfl, rfl⟩))
        go_ret
        exact Done.err HR.out (bthen (bthen (bthen hb0.out hb1) (below_new w1 _)) hb2) 3
      · have g1 : l.toList.isEmpty = false := by rw [hE0]; simp [hl0]
        by_cases hz : (0 : UInt8) ∈ l.data.toList
        · have hli : Nt.linkE l = 3 := by unfold Nt.linkE; rw [if_neg hl0, if_pos hz]
          generalize Lib.indexByte l.data.toList 0 = ix at *
          have g2 : 0 ≤ ix := by
            rcases Int.lt_or_le ix 0 with h | h
            · exact absurd hz (hE1.1 h)
            · exact h
          have hE : T.mk' p ⟨3, a, b, c, d, l, none, 0, 0, []⟩ = (T, 3) := by
            have : T.mkE p ⟨3, a, b, c, d, l, none, 0, 0, []⟩ = 3 := by unfold Tr.mkE; rw [if_neg (by simp [hf]), if_neg (by simp [hmt]), if_neg (by simp), if_pos (by simp [hli]), hli]
            unfold Tr.mk'
            rw [this, if_neg (by decide)]
          rw [hE]
          clear hE hli hE0 hE1 hl0 hmt hf hz
          go_enter Tryz.func59, Tryz.ntmps59
          go_wp2_with (first
                    | (go_at_call 95; refine (kn.out _ (HR.out.later hb0.out)).mono ?_; rintro e w1 ⟨⟨v, rfl, hv, _⟩, hb1⟩; obtain rfl := hv rfl; have hbx := Lib.hid ((hB0.out.later hb1).alloc (.cells #[.pointer (some ⟨ad m, 0, none⟩), .string y] 159)); have q0 := (hbx.out.cell (j := 0) (v := .int .i64 a) rfl); have q1 := (hbx.out.cell (j := 1) (v := .int .i64 b) rfl); have q2 := (hbx.out.cell (j := 2) (v := .int .i64 c) rfl); have q3 := (hbx.out.cell (j := 3) (v := .int .i64 d) rfl))
                    | (go_at_call 96; refine (km.out _).mono ?_; rintro e w2 ⟨rfl, hb2⟩)
                    | (go_at_call 111; refine (ki.out _).mono ?_; rintro e w' ⟨rfl, rfl⟩))
          go_ret
          exact Done.err HR.out (bthen (bthen (bthen hb0.out hb1) (below_new w1 _)) hb2) 3
        · generalize Lib.indexByte l.data.toList 0 = ix at *
          have g2 : ix < 0 := hE1.2 hz
          by_cases hbig : l.size ≤ 300
          · have hli : Nt.linkE l = 0 := by unfold Nt.linkE; rw [if_neg hl0, if_neg hz, if_neg (by omega)]
            have g3 : ¬ (300 : Int) < l.size := by omega
            by_cases hro : T.roomy 1 0 = true
            · rw [hro] at kr
              have hx : Nd.ok ⟨3, a, b, c, d, l, none, 0, 0, []⟩ := ⟨.inr (.inl rfl), rfl, Nat.zero_le _, fun _ => rfl, fun h => absurd rfl h⟩
              have hE : T.mk' p ⟨3, a, b, c, d, l, none, 0, 0, []⟩ = (T.mk1 p ⟨3, a, b, c, d, l, none, 0, 0, []⟩, 0) := by
                have : T.mkE p ⟨3, a, b, c, d, l, none, 0, 0, []⟩ = 0 := by unfold Tr.mkE; rw [if_neg (by simp [hf]), if_neg (by simp [hmt]), if_neg (by simp), if_neg (by simp [hli]), if_neg (by simp [hro])]
                unfold Tr.mk'
                rw [this, if_pos rfl]
              rw [hE]
              have kc := Lib.hid (fun W => sclone_any l W hl)
              have HF := Lib.hid hf
              clear hE hro hmt hf hli hE0 hE1 hl0 hz hbig
              go_enter Tryz.func59, Tryz.ntmps59
              go_wp2_with (first
          | (go_at_call 95; refine (kn.out _ (HR.out.later hb0.out)).mono ?_; rintro e w1 ⟨⟨v, rfl, hv, _⟩, hb1⟩; obtain rfl := hv rfl; have hbx := Lib.hid ((hB0.out.later hb1).alloc (.cells #[.pointer (some ⟨ad m, 0, none⟩), .string y] 159)); have q0 := (hbx.out.cell (j := 0) (v := .int .i64 a) rfl); have q1 := (hbx.out.cell (j := 1) (v := .int .i64 b) rfl); have q2 := (hbx.out.cell (j := 2) (v := .int .i64 c) rfl); have q3 := (hbx.out.cell (j := 3) (v := .int .i64 d) rfl))
          | (go_at_call 96; refine (km.out _).mono ?_; rintro e w2 ⟨rfl, hb2⟩)
          | (go_at_call 111; refine (ki.out _).mono ?_; rintro e w' ⟨rfl, rfl⟩)
          | (go_at_call 97; refine (kr.out _ ((((HR.out.later hb0.out).later hb1).later (below_new w1 _)).later hb2)).mono ?_; rintro e w3 ⟨rfl, hb3⟩))
              have hR3 := Lib.hid (((((HR.out.later hb0.out).later hb1).later (below_new w1 _)).later hb2).later hb3)
              have hB3 := Lib.hid (bthen (bthen (bthen (bthen hb0.out hb1) (below_new w1 _)) hb2) hb3)
              have hme := Lib.hid ((hbx.out.later hb2).later hb3)
              have hpl := Lib.hid (((BX.new w1 159 #[.pointer (some ⟨ad m, 0, none⟩), .string y]).later hb2).later hb3)
              have hwlt : Hid (w.heap.size < w3.heap.size) := hme.out.lt
              have hw1lt : Hid (w1.heap.size < w3.heap.size) := hpl.out.lt
              have hlow : Hid (w.heap.size ≤ w1.heap.size) := (bthen hb0.out hb1).size
              clear hbx q0 q1 q2 q3 hb1 hb2 hb3 hv kn km kr ki
              have ALLS := Lib.hid (fun (V : World) (h : Below w3.heap.size w3 V) => show V.cell? ⟨w.heap.size, 0, none⟩ = some (.int .i64 a) ∧ V.cell? ⟨w.heap.size, 1, none⟩ = some (.int .i64 b) ∧ V.cell? ⟨w.heap.size, 2, none⟩ = some (.int .i64 c) ∧ V.cell? ⟨w.heap.size, 3, none⟩ = some (.int .i64 d) ∧ V.cell? ⟨w1.heap.size, 0, none⟩ = some (.pointer (some ⟨ad m, 0, none⟩)) ∧ V.cell? ⟨w1.heap.size, 1, none⟩ = some (.string y) from
                ⟨(hme.out.later h).cell rfl, (hme.out.later h).cell rfl, (hme.out.later h).cell rfl, (hme.out.later h).cell rfl, (hpl.out.later h).cell rfl, (hpl.out.later h).cell rfl⟩)
              have hacc : Below w3.heap.size w3 w3 := Below.refl _ _
              obtain ⟨y0, y1, y2, y3, y4, y5⟩ := ALLS.out w3 hacc
              have hml := Lib.hid (hR.node _ _ hm).1.lt
              have hmb := Lib.hid (hR.map _ _ hm hk).2.lt
              have htl := Lib.hid hR.tree.lt
              have hcm := Lib.hid (fun (V : World) (h : Below w3.heap.size w3 V) => show ad m ≠ V.heap.size from by have := hml.out; have := hwlt.out; have := h.size; omega)
              have hne1 := Lib.hid (fun (z : Nat) (h : w3.heap.size ≤ z) => show ¬ (w.heap.size = mb m ∨ w.heap.size = z ∨ w.heap.size = tb) from by have := hwlt.out; have := hmb.out; have := htl.out; omega)
              have hne2 := Lib.hid (fun (z : Nat) (h : w3.heap.size ≤ z) => show ¬ (w1.heap.size = mb m ∨ w1.heap.size = z ∨ w1.heap.size = tb) from by have := hw1lt.out; have := hlow.out; have := hmb.out; have := htl.out; omega)
              have KEEPS := Lib.hid (fun (U V : World) (z : Nat) (hz : w3.heap.size ≤ z) (h : Below w3.heap.size w3 U) (g : Keep (fun k => k = mb m ∨ k = z ∨ k = tb) U V) => show V.cell? ⟨w.heap.size, 0, none⟩ = some (.int .i64 a) ∧ V.cell? ⟨w.heap.size, 1, none⟩ = some (.int .i64 b) ∧ V.cell? ⟨w.heap.size, 2, none⟩ = some (.int .i64 c) ∧ V.cell? ⟨w.heap.size, 3, none⟩ = some (.int .i64 d) ∧ V.cell? ⟨w1.heap.size, 0, none⟩ = some (.pointer (some ⟨ad m, 0, none⟩)) ∧ V.cell? ⟨w1.heap.size, 1, none⟩ = some (.string y) from
                ⟨((hme.out.later h).keepK g (hne1.out _ hz)).cell rfl, ((hme.out.later h).keepK g (hne1.out _ hz)).cell rfl, ((hme.out.later h).keepK g (hne1.out _ hz)).cell rfl, ((hme.out.later h).keepK g (hne1.out _ hz)).cell rfl, ((hpl.out.later h).keepK g (hne2.out _ hz)).cell rfl, ((hpl.out.later h).keepK g (hne2.out _ hz)).cell rfl⟩)
              have ka := Lib.hid (fun (V : World) (h : Below w3.heap.size w3 V) => show Calls Tryz.prog 98 _ (V.alloc (.cells #[.int .i64 3, .int .i64 a, .int .i64 b, .int .i64 c, .int .i64 d, .string l, .string ⟨#[]⟩, .map none, .int .i64 0] 108)) _ from radd_any hW hK (hR3.out.later (h.alloc h.size (.cells (NC ⟨3, a, b, c, d, l, none, 0, 0, []⟩ none 0) 108))) hm hk hy hx V.heap.size none (BX.new V 108 (NC ⟨3, a, b, c, d, l, none, 0, 0, []⟩ none 0)) (hcm.out V h))
              go_region_held3 (fun V => V.cell? ⟨w.heap.size, 0, none⟩ = some (.int .i64 a) ∧ V.cell? ⟨w.heap.size, 1, none⟩ = some (.int .i64 b) ∧ V.cell? ⟨w.heap.size, 2, none⟩ = some (.int .i64 c) ∧ V.cell? ⟨w.heap.size, 3, none⟩ = some (.int .i64 d) ∧ V.cell? ⟨w1.heap.size, 0, none⟩ = some (.pointer (some ⟨ad m, 0, none⟩)) ∧ V.cell? ⟨w1.heap.size, 1, none⟩ = some (.string y))
                (first | go_keep | (exact ALLS.out _ hacc) | (exact ALLS.out _ (hacc.alloc hacc.size _)) | (exact KEEPS.out _ _ _ hacc.size (hacc.alloc hacc.size _) g4))
                (first
                  | (go_at_call 112; (with_reducible refine (kc.out _).mono ?_); rintro e wna ⟨rfl, hbna⟩; replace hacc : Below w3.heap.size w3 wna := hacc.drew.trans (Below.mono hbna (Nat.le_refl _)))
                  | (go_at_call 98; (with_reducible refine (ka.out wna hacc).mono ?_); rintro e wz ⟨rfl, g1, g2, g3, g4⟩))
              all_goals
                go_wp2
                go_ret
                have hB4 := bthen hB3.out (hacc.alloc hacc.size (.cells (NC ⟨3, a, b, c, d, l, none, 0, 0, []⟩ none 0) 108))
                have hsz3 := hB3.out.size
                have hsz4 := hacc.size
                have hb1 := hml.out
                have hb2 := hmb.out
                have hb3 := htl.out
                refine ⟨rfl, ⟨_, _, hR.made hW HF.out hx e1 hm hk (c := wna.heap.size) (b := wna.heap.size) (by omega) (by omega) g1 g2 (fun h => by simp at h) g3 (fun k hk1 hk2 hk3 => (g4.block k (Nat.lt_of_lt_of_le hk1 hB4.size) (by omega)).trans (hB4.block k hk1)) (Nat.le_trans hB4.size g4.size)⟩, Keep.fresh hB4 g4 fun k hk1 hk2 => ?_⟩
                rcases hk2 with rfl | rfl | rfl
                · exact (hR.map _ _ hm hk).1
                · omega
                · exact hR.ftree
            · have hro' : T.roomy 1 0 = false := by cases h : T.roomy 1 0 with | false => rfl | true => exact absurd h hro
              rw [hro'] at kr
              have hE : T.mk' p ⟨3, a, b, c, d, l, none, 0, 0, []⟩ = (T, 14) := by
                have : T.mkE p ⟨3, a, b, c, d, l, none, 0, 0, []⟩ = 14 := by unfold Tr.mkE; rw [if_neg (by simp [hf]), if_neg (by simp [hmt]), if_neg (by simp), if_neg (by simp [hli]), if_pos (by simp [hro'])]
                unfold Tr.mk'
                rw [this, if_neg (by decide)]
              rw [hE]
              clear hE hli hE0 hE1 hl0 hmt hf hz hbig hro hro'
              go_enter Tryz.func59, Tryz.ntmps59
              go_wp2_with (first
                        | (go_at_call 95; refine (kn.out _ (HR.out.later hb0.out)).mono ?_; rintro e w1 ⟨⟨v, rfl, hv, _⟩, hb1⟩; obtain rfl := hv rfl; have hbx := Lib.hid ((hB0.out.later hb1).alloc (.cells #[.pointer (some ⟨ad m, 0, none⟩), .string y] 159)); have q0 := (hbx.out.cell (j := 0) (v := .int .i64 a) rfl); have q1 := (hbx.out.cell (j := 1) (v := .int .i64 b) rfl); have q2 := (hbx.out.cell (j := 2) (v := .int .i64 c) rfl); have q3 := (hbx.out.cell (j := 3) (v := .int .i64 d) rfl))
                        | (go_at_call 96; refine (km.out _).mono ?_; rintro e w2 ⟨rfl, hb2⟩)
                        | (go_at_call 111; refine (ki.out _).mono ?_; rintro e w' ⟨rfl, rfl⟩)
                        | (go_at_call 97; refine (kr.out _ ((((HR.out.later hb0.out).later hb1).later (below_new w1 _)).later hb2)).mono ?_; rintro e w3 ⟨rfl, hb3⟩))
              go_ret
              exact Done.err HR.out (bthen (bthen (bthen (bthen hb0.out hb1) (below_new w1 _)) hb2) hb3) 14
          · have hli : Nt.linkE l = 10 := by unfold Nt.linkE; rw [if_neg hl0, if_neg hz, if_pos (by omega)]
            have g3 : (300 : Int) < l.size := by omega
            have hE : T.mk' p ⟨3, a, b, c, d, l, none, 0, 0, []⟩ = (T, 10) := by
              have : T.mkE p ⟨3, a, b, c, d, l, none, 0, 0, []⟩ = 10 := by unfold Tr.mkE; rw [if_neg (by simp [hf]), if_neg (by simp [hmt]), if_neg (by simp), if_pos (by simp [hli]), hli]
              unfold Tr.mk'
              rw [this, if_neg (by decide)]
            rw [hE]
            clear hE hli hE0 hE1 hl0 hmt hf hz hbig
            go_enter Tryz.func59, Tryz.ntmps59
            go_wp2_with (first
                      | (go_at_call 95; refine (kn.out _ (HR.out.later hb0.out)).mono ?_; rintro e w1 ⟨⟨v, rfl, hv, _⟩, hb1⟩; obtain rfl := hv rfl; have hbx := Lib.hid ((hB0.out.later hb1).alloc (.cells #[.pointer (some ⟨ad m, 0, none⟩), .string y] 159)); have q0 := (hbx.out.cell (j := 0) (v := .int .i64 a) rfl); have q1 := (hbx.out.cell (j := 1) (v := .int .i64 b) rfl); have q2 := (hbx.out.cell (j := 2) (v := .int .i64 c) rfl); have q3 := (hbx.out.cell (j := 3) (v := .int .i64 d) rfl))
                      | (go_at_call 96; refine (km.out _).mono ?_; rintro e w2 ⟨rfl, hb2⟩)
                      | (go_at_call 111; refine (ki.out _).mono ?_; rintro e w' ⟨rfl, rfl⟩))
            go_ret
            exact Done.err HR.out (bthen (bthen (bthen hb0.out hb1) (below_new w1 _)) hb2) 10
    · have hmt' : Nt.metaOk a b c d = false := by cases h : Nt.metaOk a b c d with | false => rfl | true => exact absurd h hmt
      rw [hmt'] at km
      have hE : T.mk' p ⟨3, a, b, c, d, l, none, 0, 0, []⟩ = (T, 10) := by
        have : T.mkE p ⟨3, a, b, c, d, l, none, 0, 0, []⟩ = 10 := by unfold Tr.mkE; rw [if_neg (by simp [hf]), if_pos (by simp [hmt'])]
        unfold Tr.mk'
        rw [this, if_neg (by decide)]
      rw [hE]
      clear hE hE0 hE1 hmt hmt' hf
      go_enter Tryz.func59, Tryz.ntmps59
      go_wp2_with (first
                | (go_at_call 95; refine (kn.out _ (HR.out.later hb0.out)).mono ?_; rintro e w1 ⟨⟨v, rfl, hv, _⟩, hb1⟩; obtain rfl := hv rfl; have hbx := Lib.hid ((hB0.out.later hb1).alloc (.cells #[.pointer (some ⟨ad m, 0, none⟩), .string y] 159)); have q0 := (hbx.out.cell (j := 0) (v := .int .i64 a) rfl); have q1 := (hbx.out.cell (j := 1) (v := .int .i64 b) rfl); have q2 := (hbx.out.cell (j := 2) (v := .int .i64 c) rfl); have q3 := (hbx.out.cell (j := 3) (v := .int .i64 d) rfl))
                | (go_at_call 96; refine (km.out _).mono ?_; rintro e w2 ⟨rfl, hb2⟩)
                | (go_at_call 111; refine (ki.out _).mono ?_; rintro e w' ⟨rfl, rfl⟩))
      go_ret
      exact Done.err HR.out (bthen (bthen (bthen hb0.out hb1) (below_new w1 _)) hb2) 10
  · have hE : T.mk' p ⟨3, a, b, c, d, l, none, 0, 0, []⟩ = (T, T.fresh p) := by
      have : T.mkE p ⟨3, a, b, c, d, l, none, 0, 0, []⟩ = T.fresh p := by unfold Tr.mkE; rw [if_pos hf]
      unfold Tr.mk'
      rw [this, if_neg hf]
    rw [hE]
    generalize T.fresh p = z at *
    have g : (z != 0) = true := by simp [hf]
    have HF := Lib.hid hf; clear hf hE hE0 hE1
    go_enter Tryz.func59, Tryz.ntmps59
    go_wp2_with (go_at_call 95; refine (kn.out _ (HR.out.later hb0.out)).mono ?_; rintro e w1 ⟨⟨v, rfl, _, hv⟩, hb1⟩; obtain rfl := hv HF.out)
    go_ret
    exact Done.err HR.out (bthen (bthen hb0.out hb1) (below_new w1 _)) z
end
end Go.Proofs.YthgbncpiehcghaaGreatDoor
/- WALKS OF LAYER 13, ELEVENTH PART: Link, Set, Write. -/
namespace Go.Proofs.YthgbncpiehcghaaGreatDoor
set_option linter.unusedVariables false
open Go Go.RowKit Go.Maps
set_option maxRecDepth 100000
set_option maxHeartbeats 1000000
open Nt (Tr Nd WF Ps Path at_ cnt used)
section
variable {F : Nat → Prop} {K tb : Nat} {w w' : World} {T : Tr} {ad mb : Nat → Nat}
theorem Keep.grow {v : World} (h1 : Below w.heap.size w v) (h2 : Keep F v w') : Keep F w w' := Keep.fresh h1 h2 fun _ _ h => h
theorem link_any (hW : WF T K) (hK : K ≤ 100000) (hR : RepP F K w tb T ad mb) (p old : ByteArray) (hp : p.size ≤ 1000000) (ho : old.size ≤ 1000000) :
    Calls Tryz.prog 49 #[.pointer (some ⟨tb, 0, none⟩), .string p, .string old] w fun e w' => Done F K w w' tb (T.lnk p old) e := by
  obtain ⟨r, hr⟩ := Pp.last_ex p p.size (Nat.le_refl _)
  have HR := Lib.hid hR
  have kn := Lib.hid (fun W (h : RepP F K W tb T ad mb) => newPlace_any hW h p hp r hr)
  have kf := Lib.hid (fun W (h : RepP F K W tb T ad mb) => find_any hW h old ho)
  by_cases hf : T.fresh p = 0
  · obtain ⟨q, y, m, e1, hy, hm, hk, e2, e3⟩ := place_ok hW hf hr
    rw [e2, e3, hf] at kn
    by_cases hc : (T.find old).2 = 0
    · have hj := (hW.find_ok hc).2
      have hfd : T.find old = ((T.find old).1, 0) := by rw [← hc]
      have hlE : T.lnk p old = if (T.nd (T.find old).1).kind ≠ 1 then (T, 11) else (T.lnk1 p (T.find old).1, 0) := by
        have : T.lnkE p old = if (T.nd (T.find old).1).kind ≠ 1 then 11 else 0 := by unfold Tr.lnkE; rw [if_neg (by simp [hf]), if_neg (by simp [hc])]
        unfold Tr.lnk
        rw [this]
        by_cases hk1 : (T.nd (T.find old).1).kind ≠ 1
        · rw [if_pos hk1, if_pos hk1, if_neg (by decide)]
        · rw [if_neg hk1, if_neg hk1, if_pos rfl]
      rw [hlE]
      rw [hfd] at kf
      generalize (T.find old).1 = j at *
      clear hlE hfd hc
      simp only [fv, if_pos, ptrv] at kf
      by_cases hk1 : (T.nd j).kind = 1
      · rw [if_neg (by simp [hk1])]
        have hjb := Lib.hid (fun W (h : RepP F K W tb T ad mb) => show W.cell? ⟨ad j, 0, none⟩ = some (.int .i64 1) from by rw [← hk1]; exact (h.node _ _ hj).1.cell rfl)
        have hyl : y.size ≤ 1000000 := by have := Nt.nm_le hy; omega
        have kp := Lib.hid (fun W (h : RepP F K W tb T ad mb) => pput_any W (ad m) (mb m) K (ad j) (T.nd m) _ _ y (h.dir hm hk) (h.map _ _ hm hk).2 (by omega) hyl)
        have hleaf := Lib.hid (fun W (h : RepP F K W tb T ad mb) => h.leaf hj (by omega))
        have hnb := Lib.hid (hR.ne_map hj hm hk)
        obtain ⟨C, hC⟩ : ∃ C, cnt T.paths j = C := ⟨_, rfl⟩
        have hcl : C ≤ K := by rw [← hC]; exact Nat.le_trans (Nt.cnt_le _ _) hW.many
        have ew : IntKind.i64.wrap ((C : Int) + 1) = (C + 1 : Nat) := by rw [wrap_small (by omega) (by omega)]; omega
        rw [hC] at hleaf
        have HC := Lib.hid hC
        have HK1 := Lib.hid hk1
        have HF := Lib.hid hf
        clear hC hk1 hf
        go_enter Tryz.func49, Tryz.ntmps49
        go_wp2_with (first
          | (go_at_call 95; refine (kn.out _ HR.out).mono ?_; rintro e w1 ⟨⟨v, rfl, hv, _⟩, hb1⟩; obtain rfl := hv rfl)
          | (go_at_call 69; refine (kf.out _ ((HR.out.later hb1).later (below_new w1 _))).mono ?_; rintro e w2 ⟨rfl, hb2⟩; have hR2 := Lib.hid (((HR.out.later hb1).later (below_new w1 _)).later hb2); have d0 := hjb.out w2 hR2.out; have hpl := Lib.hid ((BX.new w1 159 #[.pointer (some ⟨ad m, 0, none⟩), .string y]).later hb2); have p0 : w2.cell? ⟨w1.heap.size, 0, none⟩ = some (.pointer (some ⟨ad m, 0, none⟩)) := hpl.out.cell rfl; have p1 : w2.cell? ⟨w1.heap.size, 1, none⟩ = some (.string y) := hpl.out.cell rfl)
          | (go_at_call 93; refine (kp.out _ hR2.out).mono ?_; rintro e w3 ⟨rfl, hm3, ho3⟩; have hl3 := Lib.hid ((hleaf.out w2 hR2.out).oth ho3 hnb.out); have z0 : w3.cell? ⟨ad j, 8, none⟩ = some (.int .i64 C) := hl3.out.cell rfl; have z1 := hl3.out.free 8))
        go_ret
        have hB2 := bthen (bthen hb1 (below_new w1 _)) hb2
        have hml := (hR.node _ _ hm).1.lt
        have hjl := (hR.node _ _ hj).1.lt
        refine ⟨rfl, ⟨ad, mb, (hR.linked hW HF.out e1 hm hk hj HK1.out (hm3.setCell (a := ⟨ad j, 8, none⟩) (fun e => hnb.out e.symm) _) (w' := w3.setCell ⟨ad j, 8, none⟩ (.int .i64 ((C : Int) + 1))) ?_ ?_).weak (Grow.self F _ _) (Nat.le_refl _)⟩, ?_⟩
        · have := hl3.out.set 8 (.int .i64 ((C + 1 : Nat) : Int))
          rw [HC.out]
          exact this
        · intro k h1 h2 h3
          rw [heap_setCell_other _ _ _ _ h3]
          exact (ho3.2.2.2.2 k (Nat.lt_of_lt_of_le h1 hB2.size) h2).trans (hB2.block k h1)
        · exact (Keep.grow hB2 (Keep.ofOth ho3 (hR.map _ _ hm hk).1)).trans (Keep.ofOth ((Oth.refl (ad j) w3).setCell 8 _) (hR.node _ _ hj).2)
      · rw [if_pos (by simp [hk1])]
        obtain ⟨kd, hkk⟩ : ∃ kd, (T.nd j).kind = kd := ⟨_, rfl⟩
        have hjb := Lib.hid (fun W (h : RepP F K W tb T ad mb) => show W.cell? ⟨ad j, 0, none⟩ = some (.int .i64 kd) from by rw [← hkk]; exact (h.node _ _ hj).1.cell rfl)
        rw [hkk] at hk1
        have g : (kd != 1) = true := by simp [hk1]
        clear hkk hk1 hf
        go_enter Tryz.func49, Tryz.ntmps49
        go_wp2_with (first
          | (go_at_call 95; refine (kn.out _ HR.out).mono ?_; rintro e w1 ⟨⟨v, rfl, hv, _⟩, hb1⟩; obtain rfl := hv rfl)
          | (go_at_call 69; refine (kf.out _ ((HR.out.later hb1).later (below_new w1 _))).mono ?_; rintro e w2 ⟨rfl, hb2⟩; have hR2 := Lib.hid (((HR.out.later hb1).later (below_new w1 _)).later hb2); have d0 := hjb.out w2 hR2.out))
        go_ret
        exact Done.err HR.out (bthen (bthen hb1 (below_new w1 _)) hb2) 11
    · have hE : T.lnk p old = (T, (T.find old).2) := by
        have : T.lnkE p old = (T.find old).2 := by unfold Tr.lnkE; rw [if_neg (by simp [hf]), if_pos hc]
        unfold Tr.lnk
        rw [this, if_neg hc]
      rw [hE]
      generalize T.find old = x at *
      obtain ⟨j, c⟩ := x
      simp only at hc kf ⊢
      simp only [fv, if_neg hc, ptrv] at kf
      have g : (c != 0) = true := by simp [hc]
      clear hE hc hf
      go_enter Tryz.func49, Tryz.ntmps49
      go_wp2_with (first
        | (go_at_call 95; refine (kn.out _ HR.out).mono ?_; rintro e w1 ⟨⟨v, rfl, hv, _⟩, hb1⟩; obtain rfl := hv rfl)
        | (go_at_call 69; refine (kf.out _ ((HR.out.later hb1).later (below_new w1 _))).mono ?_; rintro e w2 ⟨rfl, hb2⟩))
      go_ret
      exact Done.err HR.out (bthen (bthen hb1 (below_new w1 _)) hb2) c
  · have hE : T.lnk p old = (T, T.fresh p) := by
      have : T.lnkE p old = T.fresh p := by unfold Tr.lnkE; rw [if_pos hf]
      unfold Tr.lnk
      rw [this, if_neg hf]
    rw [hE]
    generalize T.fresh p = z at *
    have g : (z != 0) = true := by simp [hf]
    have HF := Lib.hid hf; clear hf hE
    go_enter Tryz.func49, Tryz.ntmps49
    go_wp2_with (go_at_call 95; refine (kn.out _ HR.out).mono ?_; rintro e w1 ⟨⟨v, rfl, _, hv⟩, hb1⟩; obtain rfl := hv HF.out)
    go_ret
    exact Done.err HR.out (bthen hb1 (below_new w1 _)) z
theorem set_any (hW : WF T K) (hK : K ≤ 100000) (hR : RepP F K w tb T ad mb) (p : ByteArray) (hp : p.size ≤ 1000000) (a b c d : Int) :
    Calls Tryz.prog 61 #[.pointer (some ⟨tb, 0, none⟩), .string p, .agg #[.int .i64 a, .int .i64 b, .int .i64 c, .int .i64 d]] w fun e w' => Done F K w w' tb (T.st p a b c d) e := by
  have HR := Lib.hid hR
  have kf := Lib.hid (fun W (h : RepP F K W tb T ad mb) => find_any hW h p hp)
  have km := Lib.hid (fun W => meta_any W a b c d)
  have hb0 := Lib.hid (below_new w (.cells #[.int .i64 a, .int .i64 b, .int .i64 c, .int .i64 d] 72))
  have hB0 := Lib.hid (BX.new w 72 #[.int .i64 a, .int .i64 b, .int .i64 c, .int .i64 d])
  by_cases hc : (T.find p).2 = 0
  · have hj := (hW.find_ok hc).2
    have hfd : T.find p = ((T.find p).1, 0) := by rw [← hc]
    have hE : T.st p a b c d = if Nt.metaOk a b c d = false then (T, 10) else (T.st1 (T.find p).1 a b c d, 0) := by
      have : T.stE p a b c d = if Nt.metaOk a b c d = false then 10 else 0 := by unfold Tr.stE; rw [if_neg (by simp [hc])]
      unfold Tr.st
      rw [this]
      by_cases hm : Nt.metaOk a b c d = false
      · rw [if_pos hm, if_pos hm, if_neg (by decide)]
      · rw [if_neg hm, if_neg hm, if_pos rfl]
    rw [hE]
    rw [hfd] at kf
    generalize (T.find p).1 = j at *
    clear hE hfd hc
    simp only [fv, if_pos, ptrv] at kf
    by_cases hmt : Nt.metaOk a b c d = true
    · rw [hmt] at km
      rw [if_neg (by simp [hmt])]
      have hjn := Lib.hid (fun W (h : RepP F K W tb T ad mb) => (h.node _ _ hj).1)
      clear hmt
      go_enter Tryz.func61, Tryz.ntmps61
      go_wp2_with (first
        | (go_at_call 69; refine (kf.out _ (HR.out.later hb0.out)).mono ?_; rintro e w1 ⟨rfl, hb1⟩; have hbx := Lib.hid (hB0.out.later hb1); have q0 : w1.cell? ⟨w.heap.size, 0, none⟩ = some (.int .i64 a) := hbx.out.cell rfl; have q1 : w1.cell? ⟨w.heap.size, 1, none⟩ = some (.int .i64 b) := hbx.out.cell rfl; have q2 : w1.cell? ⟨w.heap.size, 2, none⟩ = some (.int .i64 c) := hbx.out.cell rfl; have q3 : w1.cell? ⟨w.heap.size, 3, none⟩ = some (.int .i64 d) := hbx.out.cell rfl)
        | (go_at_call 96; refine (km.out _).mono ?_; rintro e w2 ⟨rfl, hb2⟩; have hR2 := Lib.hid (((HR.out.later hb0.out).later hb1).later hb2); have hbx2 := Lib.hid (hbx.out.later hb2); have r0 : w2.cell? ⟨w.heap.size, 0, none⟩ = some (.int .i64 a) := hbx2.out.cell rfl; have r1 : w2.cell? ⟨w.heap.size, 1, none⟩ = some (.int .i64 b) := hbx2.out.cell rfl; have r2 : w2.cell? ⟨w.heap.size, 2, none⟩ = some (.int .i64 c) := hbx2.out.cell rfl; have r3 : w2.cell? ⟨w.heap.size, 3, none⟩ = some (.int .i64 d) := hbx2.out.cell rfl; have hn2 := Lib.hid (hjn.out w2 hR2.out); have z1 : w2.cell? ⟨ad j, 1, none⟩ = some (.int .i64 (T.nd j).mode) := hn2.out.cell rfl; have z2 : w2.cell? ⟨ad j, 2, none⟩ = some (.int .i64 (T.nd j).uid) := hn2.out.cell rfl; have z3 : w2.cell? ⟨ad j, 3, none⟩ = some (.int .i64 (T.nd j).gid) := hn2.out.cell rfl; have z4 : w2.cell? ⟨ad j, 4, none⟩ = some (.int .i64 (T.nd j).mtime) := hn2.out.cell rfl; have f1 := hn2.out.free 1; have f2 := hn2.out.free 2; have f3 := hn2.out.free 3; have f4 := hn2.out.free 4))
      go_ret
      have hB2 := bthen (bthen hb0.out hb1) hb2
      have hjl := (hR.node _ _ hj).1.lt
      have hnt := hR.ne_tree hj
      have hx := (((hn2.out.set 1 (.int .i64 a)).set 2 (.int .i64 b)).set 3 (.int .i64 c)).set 4 (.int .i64 d)
      have hu : ∀ f : Nd → Nat, (∀ x y : Nd, x.xs = y.xs → f x = f y) → used (T.st1 j a b c d).paths f (T.st1 j a b c d).nodes = used T.paths f T.nodes := fun f hfx => Nt.used_set0 f T.nodes _ (hW.lt _ _ hj) (hfx _ _ rfl)
      refine ⟨rfl, ⟨ad, mb, (hR.withed (x := { T.nd j with mode := a, uid := b, gid := c, mtime := d }) hW hj rfl hx ?_ ?_).weak (Grow.self F _ _) (by omega)⟩, ?_⟩
      · have e2 : (T.with_ j { T.nd j with mode := a, uid := b, gid := c, mtime := d }).usedN = T.usedN := hu _ fun _ _ _ => rfl
        have e3 : (T.with_ j { T.nd j with mode := a, uid := b, gid := c, mtime := d }).usedB = T.usedB := hu _ fun x y h => by rw [h]
        rw [e2, e3]
        exact (((hR2.out.tree.other hnt.symm _).other hnt.symm _).other hnt.symm _).other hnt.symm _
      · intro k h1 h2 h3
        rw [heap_setCell_other _ _ _ _ h2, heap_setCell_other _ _ _ _ h2, heap_setCell_other _ _ _ _ h2, heap_setCell_other _ _ _ _ h2]
        exact hB2.block k h1
      · exact Keep.grow hB2 (Keep.ofOth (((((Oth.refl (ad j) w2).setCell 1 _).setCell 2 _).setCell 3 _).setCell 4 _) (hR.node _ _ hj).2)
    · have hmt' : Nt.metaOk a b c d = false := by cases h : Nt.metaOk a b c d with | false => rfl | true => exact absurd h hmt
      rw [hmt'] at km
      rw [if_pos hmt']
      clear hmt hmt'
      go_enter Tryz.func61, Tryz.ntmps61
      go_wp2_with (first
        | (go_at_call 69; refine (kf.out _ (HR.out.later hb0.out)).mono ?_; rintro e w1 ⟨rfl, hb1⟩; have hbx := Lib.hid (hB0.out.later hb1); have q0 : w1.cell? ⟨w.heap.size, 0, none⟩ = some (.int .i64 a) := hbx.out.cell rfl; have q1 : w1.cell? ⟨w.heap.size, 1, none⟩ = some (.int .i64 b) := hbx.out.cell rfl; have q2 : w1.cell? ⟨w.heap.size, 2, none⟩ = some (.int .i64 c) := hbx.out.cell rfl; have q3 : w1.cell? ⟨w.heap.size, 3, none⟩ = some (.int .i64 d) := hbx.out.cell rfl)
        | (go_at_call 96; refine (km.out _).mono ?_; rintro e w2 ⟨rfl, hb2⟩))
      go_ret
      exact Done.err HR.out (bthen (bthen hb0.out hb1) hb2) 10
  · have hE : T.st p a b c d = (T, (T.find p).2) := by
      have : T.stE p a b c d = (T.find p).2 := by unfold Tr.stE; rw [if_pos hc]
      unfold Tr.st
      rw [this, if_neg hc]
    rw [hE]
    generalize T.find p = x at *
    obtain ⟨j, z⟩ := x
    simp only at hc kf ⊢
    simp only [fv, if_neg hc, ptrv] at kf
    have g : (z != 0) = true := by simp [hc]
    clear hE hc
    go_enter Tryz.func61, Tryz.ntmps61
    go_wp2_with (first
      | (go_at_call 69; refine (kf.out _ (HR.out.later hb0.out)).mono ?_; rintro e w1 ⟨rfl, hb1⟩))
    go_ret
    exact Done.err HR.out (bthen hb0.out hb1) z
end
end Go.Proofs.YthgbncpiehcghaaGreatDoor
/- WALKS OF LAYER 13, TWELFTH PART: Write. -/
namespace Go.Proofs.YthgbncpiehcghaaGreatDoor
set_option linter.unusedVariables false
open Go Go.RowKit Go.Maps
set_option maxRecDepth 100000
set_option maxHeartbeats 1000000
open Nt (Tr Nd WF Ps Path at_ cnt used)
theorem RB.aside13 {w : World} {B n a : Nat} {A : Option Addr} {xs : List Int} (h : RB w B A n xs) (hne : 0 < n → ∀ b o, A = some ⟨b, o, none⟩ → b ≠ a) (j : Nat) (v : Value) : RB (w.setCell ⟨a, j, none⟩ v) B A n xs :=
  ⟨h.1, fun hn => by
    obtain ⟨b, o, e, hlt, hc⟩ := h.2 hn
    refine ⟨b, o, e, hlt, fun k hk => ?_⟩
    have := hne hn b o e
    have h1 := hc k hk
    unfold World.cell? at h1 ⊢
    rw [heap_setCell_other _ _ _ _ this]
    exact h1⟩
theorem RB.apart13 {w : World} {B n a : Nat} {A : Option Addr} {xs : List Int} {T : TypeId} {cs : Array Value} (h : RB w B A n xs) (hb : BX w a T cs) (hcs : ∀ (i : Nat) x, cs[i]? ≠ some (.int .u8 x)) : 0 < n → ∀ b o, A = some ⟨b, o, none⟩ → b ≠ a := fun hn b o e hba => by
  subst hba
  obtain ⟨b2, o2, e2, _, hc⟩ := h.2 hn
  rw [e] at e2
  cases e2
  have h0 := hc 0 hn
  unfold BX at hb
  rw [show o + 0 = o from rfl, cell_of_row w b o cs T (0, 0) hb] at h0
  exact hcs o _ h0
section
variable {F : Nat → Prop} {K tb : Nat} {w w' : World} {T : Tr} {ad mb : Nat → Nat}
theorem write_gen (hW : WF T K) (hK : K ≤ 100000) (hR : RepP F K w tb T ad mb) (p : ByteArray) (hp : p.size ≤ 1000000) (A : Option Addr) (n k : Nat) (xs : List Int) (B : Nat) (hd : RB w B A n xs) (hB : B ≤ w.heap.size) (hne : 0 < n → ∀ b o, A = some ⟨b, o, none⟩ → b ≠ tb) (hn : n ≤ 1000000) :
    Calls Tryz.prog 60 #[.pointer (some ⟨tb, 0, none⟩), .string p, .slice A n k] w fun e w' => Done F K w w' tb (T.wr p A n k xs) e := by
  have HR := Lib.hid hR
  have kf := Lib.hid (fun W (h : RepP F K W tb T ad mb) => find_any hW h p hp)
  by_cases hc : (T.find p).2 = 0
  · have hj := (hW.find_ok hc).2
    have hfd : T.find p = ((T.find p).1, 0) := by rw [← hc]
    have hE : ∀ j, T.find p = (j, 0) → T.wrE p n = if (T.nd j).kind = 4 then 13 else if (T.nd j).kind = 3 then 11 else if 4096 < n then 10 else if T.roomy 0 ((n : Int) - (T.nd j).n) = false then 14 else 0 := fun j e => by unfold Tr.wrE; rw [e, if_neg (by simp)]
    have hE2 : ∀ j, T.find p = (j, 0) → T.wr p A n k xs = if T.wrE p n = 0 then (T.wr1 j A n k xs, 0) else (T, T.wrE p n) := fun j e => by unfold Tr.wr; rw [e]
    have hE := hE _ hfd
    have hE2 := hE2 _ hfd
    rw [hfd] at kf
    generalize (T.find p).1 = j at *
    clear hfd hc
    simp only [fv, if_pos, ptrv] at kf
    have hjl := hW.lt _ _ hj
    have hok := hW.ndok hjl
    rw [hE2]
    clear hE2
    obtain ⟨kd, hkk⟩ : ∃ kd, (T.nd j).kind = kd := ⟨_, rfl⟩
    have hjb := Lib.hid (fun W (h : RepP F K W tb T ad mb) => show W.cell? ⟨ad j, 0, none⟩ = some (.int .i64 kd) from by rw [← hkk]; exact (h.node _ _ hj).1.cell rfl)
    by_cases hk4 : kd = 4
    · subst hk4
      rw [if_pos hkk] at hE
      rw [hE, if_neg (by decide)]
      clear hE hkk
      go_enter Tryz.func60, Tryz.ntmps60
      go_wp2_with (go_at_call 69; refine (kf.out _ HR.out).mono ?_; rintro e w1 ⟨rfl, hb1⟩; have d0 := hjb.out w1 (HR.out.later hb1))
      go_ret
      exact Done.err HR.out hb1 13
    · rw [if_neg (by rw [hkk]; exact hk4)] at hE
      have g4 : (kd == 4) = false := by simp [hk4]
      by_cases hk3 : kd = 3
      · subst hk3
        rw [if_pos hkk] at hE
        rw [hE, if_neg (by decide)]
        clear hE hkk hk4
        go_enter Tryz.func60, Tryz.ntmps60
        go_wp2_with (go_at_call 69; refine (kf.out _ HR.out).mono ?_; rintro e w1 ⟨rfl, hb1⟩; have d0 := hjb.out w1 (HR.out.later hb1))
        go_ret
        exact Done.err HR.out hb1 11
      · rw [if_neg (by rw [hkk]; exact hk3)] at hE
        have g3 : (kd == 3) = false := by simp [hk3]
        have hk1 : (T.nd j).kind = 1 := by have := hok.1; omega
        by_cases hbig : n ≤ 4096
        · have gb : ¬ (4096 : Int) < n := by omega
          rw [if_neg (by omega)] at hE
          have kr := Lib.hid (fun W (h : RepP F K W tb T ad mb) => rroom_any hW hK h 0 ((n : Int) - (T.nd j).n))
          have hon := hok.2.1
          have hoz := hok.2.2.1
          obtain ⟨D, hD⟩ : ∃ D, strOfNums (T.nd j).xs = D := ⟨_, rfl⟩
          have hDs : D.size = (T.nd j).n := by rw [← hD, son_size, hon]
          have hjd := Lib.hid (fun W (h : RepP F K W tb T ad mb) => show W.cell? ⟨ad j, 6, none⟩ = some (.string D) from by rw [← hD]; exact (h.node _ _ hj).1.cell rfl)
          have hjn := Lib.hid (fun W (h : RepP F K W tb T ad mb) => (h.node _ _ hj).1)
          have hnt := Lib.hid (hR.ne_tree hj)
          have hub := usedB_le hW
          have hul := Nt.used_set (R := T.paths) (fun x : Nd => x.xs.length) T.nodes { T.nd j with A := A, n := n, c := k, xs := xs } hjl (fun e => by subst e; have := hW.rootk; omega) (Nt.cnt_pos.2 ⟨_, hj⟩)
          obtain ⟨N, hN⟩ : ∃ N, (T.nd j).n = N := ⟨_, rfl⟩
          rw [hN] at kr hDs hE hon hoz
          obtain ⟨M, hM⟩ : ∃ M : Int, (n : Int) - N = M := ⟨_, rfl⟩
          have hM1 : IntKind.i64.wrap ((n : Int) - N) = M := by rw [wrap_small (by omega) (by omega), hM]
          have hDs' : (D.size : Int) = N := by omega
          rw [hM] at kr hE
          have hxl := hd.1
          by_cases hro : T.roomy 0 M = true
          · rw [hro] at kr
            rw [if_neg (by simp [hro])] at hE
            rw [hE, if_pos rfl]
            have hUB : ((T.wr1 j A n k xs).usedB : Int) = T.usedB + M := by
              have e1 : (T.wr1 j A n k xs).usedB = used T.paths (fun x => x.xs.length) (T.nodes.set j { T.nd j with A := A, n := n, c := k, xs := xs }) := rfl
              have e2 : (T.nodes.getD j Nd.zero).xs.length = N := hon
              have e3 : T.usedB = used T.paths (fun x => x.xs.length) T.nodes := rfl
              simp only [e2] at hul
              rw [hxl, ← e1, ← e3] at hul
              omega
            have hUN : (T.wr1 j A n k xs).usedN = T.usedN := Nt.used_set0 _ T.nodes _ hjl rfl
            have HUB := hUB
            have HDD := Lib.hid hD
            obtain ⟨V, hV⟩ : ∃ V : Int, (T.usedB : Int) = V := ⟨_, rfl⟩
            obtain ⟨U, hU⟩ : ∃ U : Int, V + M = U := ⟨_, rfl⟩
            have hM2 : IntKind.i64.wrap (V + M) = U := by rw [wrap_small (by omega) (by omega), hU]
            rw [hV, hU] at HUB
            have hT4 := Lib.hid (fun W (h : RepP F K W tb T ad mb) => show W.cell? ⟨tb, 4, none⟩ = some (.int .i64 V) from by rw [← hV]; exact h.tree.cell rfl)
            have hCV := Lib.hid (fun W (h : Below w.heap.size w W) => ((hd.below (h.mono hB)).aside13 hne 4 (.int .i64 U)).conv k)
            have HUB := Lib.hid HUB
            clear hE hro hU hM hkk hk4 hk3 hul hub hDs hD hbig hxl hN hon hoz hUB hV hok
            go_enter Tryz.func60, Tryz.ntmps60
            go_wp2_with (first
              | (go_at_call 69; refine (kf.out _ HR.out).mono ?_; rintro e w1 ⟨rfl, hb1⟩; have d0 := hjb.out w1 (HR.out.later hb1); have d6 := hjd.out w1 (HR.out.later hb1))
              | (go_at_call 97; refine (kr.out _ (HR.out.later hb1)).mono ?_; rintro e w2 ⟨rfl, hb2⟩; have hR2 := Lib.hid ((HR.out.later hb1).later hb2); have t4 := hT4.out w2 hR2.out; have tf := hR2.out.tree.free 4; have hn2 := Lib.hid ((hjn.out w2 hR2.out).other hnt.out (.int .i64 U) (j := 4)); have hcv := hCV.out w2 (bthen hb1 hb2); have n6 : (w2.setCell ⟨tb, 4, none⟩ (.int .i64 U)).cell? ⟨ad j, 6, none⟩ = some (.string (strOfNums (T.nd j).xs)) := hn2.out.cell rfl; have nf := hn2.out.free 6))
            go_ret
            have hB2 := bthen hb1 hb2
            have hm4 : mbv T mb j = none := by unfold mbv; rw [if_neg (by omega)]
            refine ⟨rfl, ⟨ad, mb, (hR.withed (w' := (w2.setCell ⟨tb, 4, none⟩ (.int .i64 U)).setCell ⟨ad j, 6, none⟩ (.string (strOfNums xs))) (x := { T.nd j with A := A, n := n, c := k, xs := xs }) hW hj rfl (hn2.out.set 6 (.string (strOfNums xs))) ?_ ?_).weak (Grow.self F _ _) (by omega)⟩, ?_⟩
            · have e2 : (T.with_ j { T.nd j with A := A, n := n, c := k, xs := xs }).usedN = T.usedN := hUN
              have e3 : ((T.with_ j { T.nd j with A := A, n := n, c := k, xs := xs }).usedB : Int) = U := HUB.out
              have ht := (hR2.out.tree.set 4 (.int .i64 U)).other (b := ad j) (j := 6) hnt.out.symm (.string (strOfNums xs))
              show BX _ tb 112 #[_, _, _, .int .i64 ((T.with_ j { T.nd j with A := A, n := n, c := k, xs := xs }).usedN : Nat), .int .i64 ((T.with_ j { T.nd j with A := A, n := n, c := k, xs := xs }).usedB : Nat)]
              rw [e2, e3]
              exact ht
            · intro i h1 h2 h3
              rw [heap_setCell_other _ _ _ _ h2, heap_setCell_other _ _ _ _ h3]
              exact hB2.block i h1
            · exact (Keep.grow hB2 (Keep.ofOth ((Oth.refl tb w2).setCell 4 _) hR.ftree)).trans (Keep.ofOth ((Oth.refl (ad j) _).setCell 6 _) (hR.node _ _ hj).2)
          · have hro' : T.roomy 0 M = false := by cases h : T.roomy 0 M with | false => rfl | true => exact absurd h hro
            rw [hro'] at kr
            rw [if_pos hro'] at hE
            rw [hE, if_neg (by decide)]
            clear hE hro hro' hM hkk hk4 hk3 hul hub hDs hD hbig hxl hN hon hoz hok
            go_enter Tryz.func60, Tryz.ntmps60
            go_wp2_with (first
              | (go_at_call 69; refine (kf.out _ HR.out).mono ?_; rintro e w1 ⟨rfl, hb1⟩; have d0 := hjb.out w1 (HR.out.later hb1); have d6 := hjd.out w1 (HR.out.later hb1))
              | (go_at_call 97; refine (kr.out _ (HR.out.later hb1)).mono ?_; rintro e w2 ⟨rfl, hb2⟩))
            go_ret
            exact Done.err HR.out (bthen hb1 hb2) 14
        · have gb : (4096 : Int) < n := by omega
          rw [if_pos (by omega)] at hE
          rw [hE, if_neg (by decide)]
          clear hE hkk hk4 hk3 hbig
          go_enter Tryz.func60, Tryz.ntmps60
          go_wp2_with (go_at_call 69; refine (kf.out _ HR.out).mono ?_; rintro e w1 ⟨rfl, hb1⟩; have d0 := hjb.out w1 (HR.out.later hb1))
          go_ret
          exact Done.err HR.out hb1 10
  · have hE : T.wr p A n k xs = (T, (T.find p).2) := by
      have : T.wrE p n = (T.find p).2 := by unfold Tr.wrE; rw [if_pos hc]
      unfold Tr.wr
      rw [this, if_neg hc]
    rw [hE]
    generalize T.find p = x at *
    obtain ⟨j, z⟩ := x
    simp only at hc kf ⊢
    simp only [fv, if_neg hc, ptrv] at kf
    have g : (z != 0) = true := by simp [hc]
    clear hE hc
    go_enter Tryz.func60, Tryz.ntmps60
    go_wp2_with (go_at_call 69; refine (kf.out _ HR.out).mono ?_; rintro e w1 ⟨rfl, hb1⟩)
    go_ret
    exact Done.err HR.out hb1 z
theorem write_any (hW : WF T K) (hK : K ≤ 100000) (hR : RepP F K w tb T ad mb) (p : ByteArray) (hp : p.size ≤ 1000000) (A : Option Addr) (n k : Nat) (xs : List Int) (B : Nat) (hd : RB w B A n xs) (hB : B ≤ w.heap.size) (hBt : B ≤ tb) (hn : n ≤ 1000000) :
    Calls Tryz.prog 60 #[.pointer (some ⟨tb, 0, none⟩), .string p, .slice A n k] w fun e w' => Done F K w w' tb (T.wr p A n k xs) e :=
  write_gen hW hK hR p hp A n k xs B hd hB (fun h0 b o e => by
    obtain ⟨b2, o2, e2, hlt, _⟩ := hd.2 h0
    rw [e] at e2
    cases e2
    omega) hn
end
end Go.Proofs.YthgbncpiehcghaaGreatDoor
