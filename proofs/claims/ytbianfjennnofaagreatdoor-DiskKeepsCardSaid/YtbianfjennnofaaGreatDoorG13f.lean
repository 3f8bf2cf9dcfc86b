/- WALKS OF LAYER 13, SIXTH PART: a place is put, cleared; a new Dir; a node is added. -/
import Derived.Test.YtbianfjennnofaaGreatDoorG13e
import Derived.Test.YtbianfjennnofaaGreatDoorShelf
import Derived.StillTailTactics
namespace Go.Proofs.YtbianfjennnofaaGreatDoor
set_option linter.unusedVariables false
open Go Go.RowKit Go.Maps
set_option maxRecDepth 100000
set_option maxHeartbeats 1000000
open Nt (Tr Nd WF Ps Path at_ cnt used)
theorem sclone_any (s : ByteArray) (w : World) (hs : s.size ≤ 1000000) : Calls Tryz.prog 101 #[.string s] w fun e w' => e = .returned (.string s) ∧ Below w.heap.size w w' := by
  have k := Lib.hid (fun W => Tryz.stringslite_Clone s W (by omega))
  go_enter Tryz.func101, Tryz.ntmps101
  go_wp2_with (go_at_call 120; refine (k.out _).mono ?_; rintro e w1 ⟨rfl, hb⟩)
  go_ret
  exact ⟨rfl, hb⟩
/-- 'delete(m, s)' at the operation. -/
theorem wpList_delete13 {w : World} {ops : Array Oper} {rest : List Oper} {o : Oper} {a : Act} {Q : Exit → Act → World → Prop}
    (hg : o.guard = none) (m x : Operand) (hop : o.op = Op.call { callee := Callee.builtin Builtin.delete, args := #[m, x], argTypes := #[89, 9] })
    (b n : Nat) (f : ByteArray → Option Nat) (s : ByteArray) (hm : a.eval m = .map (some b)) (hx : a.eval x = .string s) (h : MapAt w b n f) (hs : s.size ≤ maxLen)
    (hK : ∀ w', MapAt w' b n (fun x => if x = s then none else f x) → w.mapTurned w' b → wpList Tryz.prog ops Q rest (a.put o.dst (.tuple #[])) w') :
    wpList Tryz.prog ops Q (o :: rest) a w := by
  refine wpList_plain hg fun K' hK' => ?_
  obtain ⟨w', hrun, r1, r2⟩ := h.del hs o.type
  unfold Oper.wp
  simp [execOp, hop, resolve, invoke, builtin, hm, hx, hrun, Result.andThen]
  exact hK' _ _ (hK w' r1 r2)
theorem wpList_update13 {w : World} {ops : Array Oper} {rest : List Oper} {o : Oper} {a : Act} {Q : Exit → Act → World → Prop}
    (hg : o.guard = none) (m x v : Operand) (hop : o.op = Op.mapUpdate 89 m x v)
    (b n : Nat) (f : ByteArray → Option Nat) (s : ByteArray) (c : Nat) (hm : a.eval m = .map (some b)) (hx : a.eval x = .string s) (hv : a.eval v = .pointer (some ⟨c, 0, none⟩)) (h : MapAt w b n f) (hn : n < maxLen) (hs : s.size ≤ maxLen)
    (hK : ∀ w', MapAt w' b (n + 1) (fun x => if x = s then some c else f x) → w.mapTurned w' b → wpList Tryz.prog ops Q rest (a.put o.dst undef) w') :
    wpList Tryz.prog ops Q (o :: rest) a w := by
  refine wpList_plain hg fun K' hK' => ?_
  obtain ⟨w', hrun, r1, r2⟩ := h.put hn hs c
  unfold Oper.wp
  simp [execOp, hop, hm, hx, hv, hrun, Result.andThen]
  exact hK' _ _ (hK w' r1 r2)
theorem pclear_any (w : World) (a b n : Nat) (x : Nd) (k : Int) (f : ByteArray → Option Nat) (s : ByteArray) (hx : BX w a 91 (NC x (some b) k)) (hm : MapAt w b n f) (hs : s.size ≤ maxLen) :
    Calls Tryz.prog 88 #[.agg #[.pointer (some ⟨a, 0, none⟩), .string s]] w fun e w' => e = .returned (.tuple #[]) ∧ MapAt w' b n (fun x => if x = s then none else f x) ∧ Oth b w w' := by
  have hx' := Lib.hid (hx.alloc (.cells #[.pointer (some ⟨a, 0, none⟩), .string s] 136))
  have hm' := Lib.hid (hm.alloc (.cells #[.pointer (some ⟨a, 0, none⟩), .string s] 136))
  have d7 : (w.alloc (.cells #[.pointer (some ⟨a, 0, none⟩), .string s] 136)).cell? ⟨a, 7, none⟩ = some (.map (some b)) := hx'.out.cell rfl
  have hb0 := Lib.hid (below_new w (.cells #[.pointer (some ⟨a, 0, none⟩), .string s] 136))
  have hB := Lib.hid (BX.new w 136 #[.pointer (some ⟨a, 0, none⟩), .string s])
  have q0 : (w.alloc (.cells #[.pointer (some ⟨a, 0, none⟩), .string s] 136)).cell? ⟨w.heap.size, 0, none⟩ = some (.pointer (some ⟨a, 0, none⟩)) := hB.out.cell rfl
  have q1 : (w.alloc (.cells #[.pointer (some ⟨a, 0, none⟩), .string s] 136)).cell? ⟨w.heap.size, 1, none⟩ = some (.string s) := hB.out.cell rfl
  clear hx hm
  go_enter Tryz.func88, Tryz.ntmps88
  go_wp2
  generalize w.alloc (.cells #[.pointer (some ⟨a, 0, none⟩), .string s] 136) = W at *
  go_still_tail 7, (by kernel_rfl)
  change wpList _ _ _ _ _ W.drew
  refine wpList_delete13 rfl _ _ rfl b n f s rfl rfl (hm'.out.drewN 1) hs ?_
  intro w1 hm1 ht
  go_wp2
  refine bodyPost_end (v := .tuple #[]) (by simp [results, Tryz.f88, go_sem]) rfl ?_
  exact ⟨rfl, hm1, (Oth.ofBelow (below_drewN hb0.out 1)).trans (mturn_oth ht)⟩
theorem pput_any (w : World) (a b n c : Nat) (x : Nd) (k : Int) (f : ByteArray → Option Nat) (s : ByteArray) (hx : BX w a 91 (NC x (some b) k)) (hm : MapAt w b n f) (hn : n < 1000000) (hs : s.size ≤ 1000000) :
    Calls Tryz.prog 82 #[.agg #[.pointer (some ⟨a, 0, none⟩), .string s], .pointer (some ⟨c, 0, none⟩)] w fun e w' => e = .returned (.tuple #[]) ∧ MapAt w' b (n + 1) (fun x => if x = s then some c else f x) ∧ Oth b w w' := by
  have kc := Lib.hid (fun W => sclone_any s W hs)
  have hx' := Lib.hid (hx.alloc (.cells #[.pointer (some ⟨a, 0, none⟩), .string s] 136))
  have hm' := Lib.hid (hm.alloc (.cells #[.pointer (some ⟨a, 0, none⟩), .string s] 136))
  have hb0 := Lib.hid (below_new w (.cells #[.pointer (some ⟨a, 0, none⟩), .string s] 136))
  have hB := Lib.hid (BX.new w 136 #[.pointer (some ⟨a, 0, none⟩), .string s])
  have hsm : s.size ≤ maxLen := by unfold maxLen; omega
  have hnm : n < maxLen := by unfold maxLen; omega
  clear hx hm
  go_enter Tryz.func82, Tryz.ntmps82
  go_wp2
  have hws := World.size_alloc w (.cells #[.pointer (some ⟨a, 0, none⟩), .string s] 136)
  generalize w.alloc (.cells #[.pointer (some ⟨a, 0, none⟩), .string s] 136) = W at *
  have ALLS := Lib.hid (fun (V : World) (h : Below W.heap.size W V) => show V.cell? ⟨w.heap.size, 0, none⟩ = some (.pointer (some ⟨a, 0, none⟩)) ∧ V.cell? ⟨w.heap.size, 1, none⟩ = some (.string s) ∧ V.cell? ⟨a, 7, none⟩ = some (.map (some b)) from
    ⟨(hB.out.later h).cell rfl, (hB.out.later h).cell rfl, (hx'.out.later h).cell rfl⟩)
  have n1 := Lib.hid (hm'.out.ne_bx hB.out)
  have n2 := Lib.hid (hm'.out.ne_bx hx'.out)
  have hacc : Below W.heap.size W W := Below.refl _ _
  obtain ⟨y0, y1, y2⟩ := ALLS.out W hacc
  go_region_held3 (fun V => V.cell? ⟨w.heap.size, 0, none⟩ = some (.pointer (some ⟨a, 0, none⟩)) ∧ V.cell? ⟨w.heap.size, 1, none⟩ = some (.string s) ∧ V.cell? ⟨a, 7, none⟩ = some (.map (some b)))
    (first | go_keep | (exact ALLS.out _ hacc) | (exact ⟨((hB.out.later hacc).oth (mturn_oth htz) n1.out).cell rfl, ((hB.out.later hacc).oth (mturn_oth htz) n1.out).cell rfl, ((hx'.out.later hacc).oth (mturn_oth htz) n2.out).cell rfl⟩))
    (first | (go_at_call 101; (with_reducible refine (kc.out _).mono ?_); rintro e wna ⟨rfl, hbna⟩; replace hacc : Below W.heap.size W wna := hacc.drew.trans (Below.mono hbna (Nat.le_refl _)); obtain ⟨wz, hrun, hmz, htz⟩ := (hm'.out.later hacc).put hnm hsm c))
  all_goals
    go_wp2
    refine bodyPost_end (v := .tuple #[]) (by simp [results, Tryz.f82, go_sem]) rfl ?_
    exact ⟨rfl, hmz, (Oth.ofBelow (bthen hb0.out hacc)).trans (mturn_oth htz)⟩
end Go.Proofs.YtbianfjennnofaaGreatDoor
