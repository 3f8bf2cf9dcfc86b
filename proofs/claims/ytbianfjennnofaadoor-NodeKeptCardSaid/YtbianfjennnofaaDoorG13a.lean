/- WALKS OF LAYER 13, FIRST PART: a Dir's names, rising; small functions. -/
import Derived.Test.YtbianfjennnofaaDoorIter
import Derived.Test.YtbianfjennnofaaDoorN13
namespace Go.Proofs.YtbianfjennnofaaDoor
set_option linter.unusedVariables false
open Go Go.RowKit Go.Maps Go.Sort Go.Shelf
set_option maxRecDepth 100000
set_option maxHeartbeats 1000000
/-- A node's cells. -/
abbrev NC (x : Nt.Nd) (mv : Option Nat) (k : Int) : Array Value :=
  #[.int .i64 x.kind, .int .i64 x.mode, .int .i64 x.uid, .int .i64 x.gid, .int .i64 x.mtime, .string x.link, .string (strOfNums x.xs), .map mv, .int .i64 k]
theorem os_of_keys {w : World} {base : Nat} {v : Value} {ss : List (List UInt8)} (h : w.ownsRow base 9 1 v ss.length ((ss.mergeSort (fun x y => decide (x ≤ y))).map encStr)) :
    OS w base v ((ss.mergeSort (fun x y => decide (x ≤ y))).map fun l : List UInt8 => (⟨l.toArray⟩ : ByteArray)) := by
  unfold OS
  rw [List.length_map, List.length_mergeSort, List.map_map]
  exact h
theorem rising_any (w : World) (a b n : Nat) (x : Nt.Nd) (k : Int) (f : ByteArray → Option Nat) (hx : BX w a 61 (NC x (some b) k)) (hm : MapAt w b n f) (hn : n ≤ 1000000) :
    Calls Tryd.prog 33 #[.pointer (some ⟨a, 0, none⟩)] w fun e w' => ∃ v L, e = .returned v ∧ Kids L f ∧ OS w' w.heap.size v L ∧ Below w.heap.size w w' := by
  obtain ⟨D, h1, h2⟩ := hm
  have c7 := hx.cell (j := 7) rfl
  have hsz := Nat.le_trans h1.size_le hn
  have hmax : Maps.size D ≤ maxLen := by unfold maxLen; omega
  have hbytes : Maps.size D * 16 ≤ 140737488355328 := by omega
  refine (callsIn_wide (n := 6)).1 ?_
  have hfK : Fence.wide.fn 49 := trivial
  have hfS : Fence.wide.fn 48 := trivial
  refine callsIn_of_wp Tryd.func33 rfl trivial ?_ rfl
  simp only [Tryd.ntmps33, List.size_toArray, List.length_cons, List.length_nil, Nat.reduceAdd, Nat.reduceSub, Array.replicate_succ, Array.replicate_zero, List.push_toArray, List.append_toArray, List.nil_append, List.cons_append]
  clear hsz
  gi_wp2_with (first
    | (gi_at_call 49; refine (Tryd.maps_Keys_49 _ _).mono ?_; rintro e w' ⟨rfl, rfl⟩)
    | (gi_at_call 48; refine (Tryd.slices_Sorted_keys_48_49 b n D RV w h1 hmax hbytes).mono ?_; rintro e w' ⟨v, ss, rfl, hS, hrow, hnil, hb⟩))
  go_ret
  exact ⟨v, _, rfl, MapAt.kids h1 h2 hS, os_of_keys (ownsRow_base_a hrow (by simp)), ((Below.refl _ w).alloc (Nat.le_refl _) _).trans (hb.mono (by simp))⟩
theorem rising_nil (w : World) (a : Nat) (x : Nt.Nd) (k : Int) (hx : BX w a 61 (NC x none k)) :
    Calls Tryd.prog 33 #[.pointer (some ⟨a, 0, none⟩)] w fun e w' => ∃ v, e = .returned v ∧ OS w' w.heap.size v [] ∧ Below w.heap.size w w' := by
  have c7 := hx.cell (j := 7) rfl
  refine (callsIn_wide (n := 6)).1 ?_
  have hfK : Fence.wide.fn 49 := trivial
  have hfS : Fence.wide.fn 48 := trivial
  refine callsIn_of_wp Tryd.func33 rfl trivial ?_ rfl
  simp only [Tryd.ntmps33, List.size_toArray, List.length_cons, List.length_nil, Nat.reduceAdd, Nat.reduceSub, Array.replicate_succ, Array.replicate_zero, List.push_toArray, List.append_toArray, List.nil_append, List.cons_append]
  gi_wp2_with (first
    | (gi_at_call 49; refine (Tryd.maps_Keys_49 _ _).mono ?_; rintro e w' ⟨rfl, rfl⟩)
    | (gi_at_call 48; refine (Tryd.slices_Sorted_keys_nil_48_49 w).mono ?_; rintro e w' ⟨v, ss, rfl, hS, hrow, hnil, hb⟩))
  go_ret
  subst hS
  have hrow' : w'.ownsRow (w.alloc (Obj.cells #[Value.map none] 59)).heap.size 9 1 v 0 [] := by simpa using hrow
  exact ⟨v, rfl, row_more hrow' (by simp), ((Below.refl _ w).alloc (Nat.le_refl _) _).trans (hb.mono (by simp))⟩
end Go.Proofs.YtbianfjennnofaaDoor
