/- A MAP FROM NODES TO NODES IN MEMORY, as a list of pairs. No Go text is named. -/
import Derived.Test.YtbianfjennnofaaGreatDoorN13e
namespace Go.Proofs.YtbianfjennnofaaGreatDoor
set_option linter.unusedVariables false
open Go Go.RowKit
set_option maxRecDepth 100000
open Nt (Tr Nd WF Ps Path at_ cnt used)
/-- What a is mapped to. -/
def assoc : List (Nat × Nat) → Nat → Option Nat
  | [], _ => none
  | x :: r, a => if a = x.1 then some x.2 else assoc r a
abbrev pt (b : Nat) : Value := .pointer (some ⟨b, 0, none⟩)
/-- BLOCK b IS A MAP OF THE PAIRS l. -/
def PM (w : World) (b : Nat) (l : List (Nat × Nat)) : Prop := ∃ es clock, w.heap[b]? = some (.map es clock) ∧ es.toList.map (fun e => (e.key, e.val)) = l.map (fun x => (pt x.1, pt x.2))
theorem info_nd : (Tryz.prog.info? 91).map (·.size) = some 9 := by kernel_rfl
section
variable {w w' : World} {b a c : Nat} {l : List (Nat × Nat)}
theorem PM.made (w : World) : PM (w.alloc (.map #[] 0)) w.heap.size [] := ⟨#[], 0, heap_alloc_new w _, rfl⟩
theorem PM.of_block (h : PM w b l) (hb : w'.heap[b]? = w.heap[b]?) : PM w' b l := let ⟨es, k, h1, h2⟩ := h; ⟨es, k, hb.trans h1, h2⟩
theorem PM.lt (h : PM w b l) : b < w.heap.size := let ⟨_, _, h1, _⟩ := h; (Array.getElem?_eq_some_iff.1 h1).1
theorem PM.ne_bx (h : PM w b l) {d : Nat} {U : TypeId} {cs : Array Value} (hx : BX w d U cs) : d ≠ b := by
  rintro rfl
  obtain ⟨es, k, h1, _⟩ := h
  unfold BX at hx
  rw [h1] at hx
  cases hx
theorem PM.setCell (h : PM w b l) {d : Addr} (hd : b ≠ d.block) (u : Value) : PM (w.setCell d u) b l := h.of_block (Below.heap_setCell _ _ _ _ hd)
theorem PM.alloc (h : PM w b l) (o : Obj) : PM (w.alloc o) b l := h.of_block (Below.heap_alloc _ _ _ h.lt)
theorem PM.later (h : PM w b l) (hb : Below w.heap.size w w') : PM w' b l := h.of_block (hb.block b h.lt)
theorem PM.oth (h : PM w b l) {d : Nat} (ho : Oth d w w') (hne : b ≠ d) : PM w' b l := h.of_block (ho.2.2.2.2 b h.lt hne)
theorem equal_ptr {U V : TypeId} {cs ds : Array Value} (h : BX w a U cs) (k : BX w c V ds) : (Op.equal 87 (pt a) (pt c)).run Tryz.prog w = .ok (decide (a = c)) w := by
  obtain ⟨ji, hji, hjs⟩ : ∃ j, Tryz.prog.info? 91 = some j ∧ j.size ≠ 0 := by
    have := info_nd
    cases e : Tryz.prog.info? 91 with
    | none => rw [e] at this; cases this
    | some j =>
      rw [e] at this
      simp at this
      exact ⟨j, rfl, by omega⟩
  by_cases e : a = c
  · subst e
    rw [decide_eq_true rfl]
    have h : ∀ d : Nat, (Op.equalIn (d + 1) 87 (pt a) (pt a)).run Tryz.prog w = .ok true w := fun d => by
      simp [Op.equalIn, run_underlying Tryz.underlying87, sizeOf, typeInfo, hji, run_sameAddr_same]
    simp [Op.equal, Op.maxDepth, h 9999]
  · rw [decide_eq_false e]
    have hne : (⟨a, 0, none⟩ : Addr) ≠ ⟨c, 0, none⟩ := fun e2 => e (by cases e2; rfl)
    have h : ∀ d : Nat, (Op.equalIn (d + 1) 87 (pt a) (pt c)).run Tryz.prog w = .ok false w := fun d => by
      simp [Op.equalIn, run_underlying Tryz.underlying87, sizeOf, typeInfo, hji, hjs, run_sameAddr_other w hne h k]
    simp [Op.equal, Op.maxDepth, h 9999]
theorem find_ask (ha : ∃ U cs, BX w a U cs) : ∀ (es : List MapEntry) (l : List (Nat × Nat)) (i : Nat), es.map (fun e => (e.key, e.val)) = l.map (fun x => (pt x.1, pt x.2)) → (∀ x ∈ l, ∃ U cs, BX w x.1 U cs) →
    ∃ j, (Instr.findAsking 87 (pt a) es i).run Tryz.prog w = .ok ((assoc l a).map fun c => (j, pt c)) w
  | [], [], i, _, _ => ⟨0, by simp [Instr.findAsking, assoc]⟩
  | [], x :: l, i, h, _ => by simp at h
  | e :: es, [], i, h, _ => by simp at h
  | e :: es, x :: l, i, h, hb => by
    simp only [List.map_cons, List.cons.injEq, Prod.mk.injEq] at h
    obtain ⟨⟨h1, h2⟩, h3⟩ := h
    obtain ⟨U, cs, ha'⟩ := ha
    obtain ⟨V, ds, hx⟩ := hb x (by simp)
    have heq := equal_ptr ha' hx
    obtain ⟨j, hj⟩ := find_ask ⟨U, cs, ha'⟩ es l (i + 1) h3 fun y hy => hb y (List.mem_cons_of_mem _ hy)
    by_cases e2 : a = x.1
    · refine ⟨i, ?_⟩
      rw [decide_eq_true e2] at heq
      subst e2
      simp [Instr.findAsking, h1, heq, assoc, h2]
    · refine ⟨j, ?_⟩
      rw [decide_eq_false e2] at heq
      simp [Instr.findAsking, h1, heq, assoc, e2, hj, Result.andThen]
theorem find_key (ha : ∃ U cs, BX w a U cs) {es : List MapEntry} (h : es.map (fun e => (e.key, e.val)) = l.map (fun x => (pt x.1, pt x.2))) (hb : ∀ x ∈ l, ∃ U cs, BX w x.1 U cs) :
    ∃ j, (Instr.findKey 87 (pt a) es).run Tryz.prog w = .ok ((assoc l a).map fun c => (j, pt c)) w := by
  obtain ⟨j, hj⟩ := find_ask (w := w) (a := a) ha es l 0 h hb
  cases es with
  | nil =>
    cases l with
    | nil => exact ⟨0, by simp [Instr.findKey, run_underlying Tryz.underlying87, Instr.findNow, assoc]⟩
    | cons x l => simp at h
  | cons e es =>
    refine ⟨j, ?_⟩
    have hn : Instr.findNow (.pointer 91) (pt a) (e :: es) 0 = none := by
      unfold Instr.findNow
      simp [Instr.sameNow]
    simp [Instr.findKey, run_underlying Tryz.underlying87, hn, hj]
theorem check_ptr (w : World) (em : Bool) (a : Nat) : (Instr.checkKey em 10000 87 (pt a)).run Tryz.prog w = .ok () w := by
  have h : ∀ d : Nat, (Instr.checkKey em (d + 1) 87 (pt a)).run Tryz.prog w = .ok () w := fun d => by
    simp [Instr.checkKey, run_underlying Tryz.underlying87]
  exact h 9999
theorem PM.look (h : PM w b l) (ha : ∃ U cs, BX w a U cs) (hb : ∀ x ∈ l, ∃ U cs, BX w x.1 U cs) :
    (Instr.lookup 167 (.map (some b)) (pt a) true).run Tryz.prog w = .ok (.tuple #[ptrv (assoc l a), .bool (assoc l a).isSome]) w := by
  obtain ⟨es, clock, h1, h2⟩ := h
  obtain ⟨j, hj⟩ := find_key (w := w) (a := a) ha h2 hb
  cases e : assoc l a with
  | none =>
    rw [e] at hj
    simp [Instr.lookup, run_underlying Tryz.underlying167, MapKept.run_getObj_map h1, check_ptr, hj, ptrv, Result.andThen]
  | some c =>
    rw [e] at hj
    simp [Instr.lookup, run_underlying Tryz.underlying167, MapKept.run_getObj_map h1, check_ptr, hj, ptrv, Result.andThen]
theorem PM.put (h : PM w b l) (ha : ∃ U cs, BX w a U cs) (hb : ∀ x ∈ l, ∃ U cs, BX w x.1 U cs) (hn : assoc l a = none) (c : Nat) :
    ∃ w', (Instr.mapUpdate 167 (.map (some b)) (pt a) (pt c)).run Tryz.prog w = .ok () w' ∧ PM w' b (l ++ [(a, c)]) ∧ Oth b w w' ∧ w'.heap.size = w.heap.size := by
  obtain ⟨es, clock, h1, h2⟩ := h
  obtain ⟨j, hj⟩ := find_key (w := w) (a := a) ha h2 hb
  rw [hn] at hj
  refine ⟨Go.ChangeMaps.setBlock w b (.map (es.push ⟨pt a, pt c, clock⟩) (clock + 1)), ?_, ⟨_, _, Go.ChangeMaps.heap_setBlock_same h1 _, by simp [h2]⟩, ⟨rfl, rfl, rfl, by simp [Go.ChangeMaps.setBlock], fun i _ hi => Go.ChangeMaps.heap_setBlock_other h1 _ hi⟩, by simp [Go.ChangeMaps.setBlock]⟩
  simp [Instr.mapUpdate, run_underlying Tryz.underlying167, MapKept.run_getObj_map h1, check_ptr, hj, MapKept.run_setObj_map _ h1, Result.andThen, Go.ChangeMaps.setBlock]
end
end Go.Proofs.YtbianfjennnofaaGreatDoor
