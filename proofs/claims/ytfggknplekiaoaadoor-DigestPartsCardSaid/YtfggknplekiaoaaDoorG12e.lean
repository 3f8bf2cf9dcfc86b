/- WALKS OF LAYER 12, THE PROGRAM, FIFTH PART: what a state is of its bytes; where it stands in memory; bytes beside a box. -/
import Derived.Test.YtfggknplekiaoaaDoorG12c
import Derived.Test.YtfggknplekiaoaaDoorG12d
namespace Go.Proofs.YtfggknplekiaoaaDoor
open Go Go.RowKit
set_option maxHeartbeats 2000000
set_option maxRecDepth 100000
set_option linter.unusedVariables false
namespace Dg
theorem hb_append (s : St) : ∀ (k : Nat) (b c : List Int), 64 * k ≤ b.length → hb s k (b ++ c) = hb s k b
  | 0, _, _, _ => rfl
  | k + 1, b, c, h => by
    show hb (cmp s ((b ++ c).take 64)) k ((b ++ c).drop 64) = hb (cmp s (b.take 64)) k (b.drop 64)
    rw [List.take_append_of_le_length (by omega), List.drop_append_of_le_length (by omega), hb_append _ k _ _ (by rw [List.length_drop]; omega)]
/-- The words behind the whole blocks of xs; what is left, and noughts. -/
def sw (xs : List Int) : St := hb H (xs.length / 64) xs
def rest (xs : List Int) : List Int := xs.drop (64 * (xs.length / 64)) ++ List.replicate (64 - xs.length % 64) 0
theorem sw_ok (xs : List Int) : (sw xs).ok := hb_ok H_ok _ _
theorem rest_len (xs : List Int) : (rest xs).length = 64 := by unfold rest; rw [List.length_append, List.length_drop, List.length_replicate]; omega
theorem rest_byt {xs : List Int} (h : Byt xs) : Byt (rest xs) := by
  unfold rest
  refine (h.drop _).append ?_
  intro j
  rw [List.getD_eq_getElem?_getD, List.getElem?_replicate]
  split <;> decide
theorem sw_nil : sw [] = H := rfl
theorem rest_nil : rest [] = List.replicate 64 0 := rfl
/-- The rest behind t bytes more. -/
def put (xs ys : List Int) (t : Nat) : List Int := (rest xs).take (xs.length % 64) ++ ys.take t ++ (rest xs).drop (xs.length % 64 + t)
theorem rest_take (xs : List Int) : (rest xs).take (xs.length % 64) = xs.drop (64 * (xs.length / 64)) := by
  unfold rest
  rw [List.take_append_of_le_length (by rw [List.length_drop]; omega), List.take_of_length_le (by rw [List.length_drop]; omega)]
theorem rest_drop (xs : List Int) (t : Nat) : (rest xs).drop (xs.length % 64 + t) = List.replicate (64 - xs.length % 64 - t) 0 := by
  unfold rest
  rw [List.drop_append, List.drop_eq_nil_of_le (by rw [List.length_drop]; omega), List.nil_append, List.length_drop, List.drop_replicate]
  congr 1
  omega
theorem put_eq (xs ys : List Int) (t : Nat) (ht : t ≤ ys.length) : put xs ys t = (xs ++ ys.take t).drop (64 * (xs.length / 64)) ++ List.replicate (64 - xs.length % 64 - t) 0 := by
  unfold put
  rw [rest_take, rest_drop, List.drop_append_of_le_length (by omega)]
theorem put_len (xs ys : List Int) (t : Nat) (ht : t ≤ ys.length) (h : xs.length % 64 + t ≤ 64) : (put xs ys t).length = 64 := by
  rw [put_eq xs ys t ht, List.length_append, List.length_drop, List.length_append, List.length_take, List.length_replicate]
  omega
theorem put_byt {xs ys : List Int} (t : Nat) (ht : t ≤ ys.length) (hx : Byt xs) (hy : Byt ys) : Byt (put xs ys t) := by
  rw [put_eq xs ys t ht]
  refine Byt.append (Byt.drop (hx.append (fun j => ?_)) _) (fun j => ?_)
  · by_cases h : j < t
    · have := hy j; simpa [List.getD_eq_getElem?_getD, List.getElem?_take, h] using this
    · simp [List.getD_eq_getElem?_getD, List.getElem?_take, h]
  · rw [List.getD_eq_getElem?_getD, List.getElem?_replicate]
    split <;> decide
/-- Fewer than a block. -/
theorem put_in (xs ys : List Int) (t : Nat) (ht : t ≤ ys.length) (h : xs.length % 64 + t < 64) : rest (xs ++ ys.take t) = put xs ys t ∧ sw (xs ++ ys.take t) = sw xs := by
  have hl : (xs ++ ys.take t).length = xs.length + t := by rw [List.length_append, List.length_take]; omega
  have hd : (xs.length + t) / 64 = xs.length / 64 := by omega
  constructor
  · rw [put_eq xs ys t ht]
    unfold rest
    rw [hl, hd]
    congr 2
    omega
  · unfold sw
    rw [hl, hd, hb_append _ _ _ _ (by omega)]
/-- A whole block. -/
theorem put_full (xs ys : List Int) (t : Nat) (ht : t ≤ ys.length) (h : xs.length % 64 + t = 64) : rest (xs ++ ys.take t) = List.replicate 64 0 ∧ sw (xs ++ ys.take t) = cmp (sw xs) (put xs ys t) := by
  have hl : (xs ++ ys.take t).length = xs.length + t := by rw [List.length_append, List.length_take]; omega
  have hd : (xs.length + t) / 64 = xs.length / 64 + 1 := by omega
  constructor
  · unfold rest
    rw [hl, hd, List.drop_eq_nil_of_le (by rw [hl]; omega), List.nil_append]
    congr 1
    omega
  · unfold sw
    rw [hl, hd, hb_snoc, hb_append _ _ _ _ (by omega), put_eq xs ys t ht, show 64 - xs.length % 64 - t = 0 from by omega, List.replicate_zero, List.append_nil, List.take_of_length_le (by rw [List.length_drop, hl]; omega)]
theorem sw_fill (xs : List Int) : out (sw (xs ++ tail xs.length)) = of xs := by
  rw [← fill_tail]
  rfl
theorem tail_byt (n : Nat) : Byt (tail n) := by
  have h := fill_byt (xs := List.replicate n 0) (fun j => by rw [List.getD_eq_getElem?_getD, List.getElem?_replicate]; split <;> decide)
  rw [fill_tail] at h
  have := h.drop n
  rw [List.drop_append_of_le_length (by simp), List.drop_eq_nil_of_le (by simp), List.nil_append, List.length_replicate] at this
  exact this
end Dg
/-- A state's cells. -/
def scs (m : Bool) (wl : List Nat) (rl : List Int) (n : Nat) : List Value := [.bool m] ++ (wl.map vw ++ (rl.map vb ++ [.int .u64 n]))
theorem scs_len {m : Bool} {wl : List Nat} {rl : List Int} {n : Nat} (h1 : wl.length = 8) (h2 : rl.length = 64) : (scs m wl rl n).length = 74 := by
  unfold scs
  simp [h1, h2]
/-- A STATE IN MEMORY: the box a. -/
def SX (w : World) (a : Nat) (wl : List Nat) (rl : List Int) (n : Nat) : Prop := BX w a 43 (scs true wl rl n).toArray ∧ wl.length = 8 ∧ rl.length = 64
section
variable {w w' : World} {a B : Nat} {wl wl' : List Nat} {rl rl' : List Int} {n : Nat}
theorem SX.made (h : SX w a wl rl n) : w.cell? ⟨a, 0, none⟩ = some (.bool true) := BX.cell h.1 rfl
theorem SX.cnt (h : SX w a wl rl n) : w.cell? ⟨a, 73, none⟩ = some (.int .u64 n) := by
  refine BX.cell h.1 ?_
  rw [List.getElem?_toArray]
  unfold scs
  rw [List.getElem?_append_right (by simp), List.getElem?_append_right (by simp [h.2.1]), List.getElem?_append_right (by simp [h.2.1, h.2.2])]
  simp [h.2.1, h.2.2]
theorem SX.words (h : SX w a wl rl n) : w.rangeAt a 1 (wl.map vw) := fun j v hj => by
  have hl := (List.getElem?_eq_some_iff.1 hj).1
  refine BX.cell h.1 ?_
  rw [List.getElem?_toArray]
  unfold scs
  rw [List.getElem?_append_right (by simp), List.getElem?_append_left (by simpa using hl)]
  simpa using hj
theorem SX.left (h : SX w a wl rl n) : w.rangeAt a 9 (rl.map vb) := fun j v hj => by
  have hl := (List.getElem?_eq_some_iff.1 hj).1
  refine BX.cell h.1 ?_
  rw [List.getElem?_toArray]
  unfold scs
  have hw8 : (wl.map vw).length = 8 := by rw [List.length_map]; exact h.2.1
  have h1 : ([Value.bool true] : List Value).length = 1 := rfl
  have e : 9 + j - ([Value.bool true] : List Value).length - (wl.map vw).length = j := by omega
  rw [List.getElem?_append_right (by omega), List.getElem?_append_right (by omega), e, List.getElem?_append_left (by simpa using hl)]
  exact hj
theorem SX.all (h : SX w a wl rl n) : w.rangeAt a 0 (scs true wl rl n) := fun j v hj => by
  rw [Nat.zero_add]
  exact BX.cell h.1 (by rw [List.getElem?_toArray]; exact hj)
theorem there_in {l : List Value} {T : TypeId} {o m : Nat} (h : BX w a T l.toArray) (hm : o + m ≤ l.length) : w.there a o m := fun j hj => by
  refine ⟨?_, BX.free h _⟩
  rw [BX.cell h (v := l[o + j]'(by omega)) (by rw [List.getElem?_toArray, List.getElem?_eq_getElem])]
  rfl
theorem SX.wthere (h : SX w a wl rl n) : w.there a 1 8 := there_in h.1 (by rw [scs_len h.2.1 h.2.2]; omega)
theorem SX.lthere (h : SX w a wl rl n) : w.there a 9 64 := there_in h.1 (by rw [scs_len h.2.1 h.2.2]; omega)
theorem SX.setn (h : SX w a wl rl n) (m : Nat) : SX (w.setCell ⟨a, 73, none⟩ (.int .u64 m)) a wl rl m := by
  refine ⟨?_, h.2⟩
  have := BX.set h.1 73 (.int .u64 m)
  rw [List.setIfInBounds_toArray] at this
  have e : (scs true wl rl n).set 73 (.int .u64 m) = scs true wl rl m := by
    unfold scs
    rw [List.set_append_right _ _ (by simp), List.set_append_right _ _ (by simp [h.2.1]), List.set_append_right _ _ (by simp [h.2.1, h.2.2])]
    simp [h.2.1, h.2.2]
  rwa [e] at this
theorem SX.setw (h : SX w a wl rl n) (hl : wl'.length = 8) : SX (w.setCells a 1 (wl'.map vw)) a wl' rl n := by
  refine ⟨?_, hl, h.2.2⟩
  have h0 : BX w a 43 ([Value.bool true] ++ wl.map vw ++ (rl.map vb ++ [Value.int .u64 n])).toArray := by rw [List.append_assoc]; exact h.1
  have := bx_sets (wl'.map vw) w [Value.bool true] (wl.map vw) _ h0 (by simp [hl, h.2.1])
  rw [List.append_assoc] at this
  exact this
theorem SX.setl (h : SX w a wl rl n) (hl : rl'.length = 64) : SX (w.setCells a 9 (rl'.map vb)) a wl rl' n := by
  refine ⟨?_, h.2.1, hl⟩
  have h0 : BX w a 43 (([Value.bool true] ++ wl.map vw) ++ rl.map vb ++ [Value.int .u64 n]).toArray := by rw [List.append_assoc, List.append_assoc]; exact h.1
  have := bx_sets (rl'.map vb) w ([Value.bool true] ++ wl.map vw) (rl.map vb) _ h0 (by simp [hl, h.2.2])
  rw [List.append_assoc, List.append_assoc, show ([Value.bool true] ++ wl.map vw).length = 9 by simp [h.2.1]] at this
  exact this
theorem scs_splice (h1 : wl.length = 8) (h2 : rl.length = 64) (k : Nat) (zs : List Int) (hk : k + zs.length ≤ 64) : splice (scs true wl rl n) (9 + k) (zs.map vb) = scs true wl (rl.take k ++ zs ++ rl.drop (k + zs.length)) n := by
  have e1 : ∀ r : List Int, scs true wl r n = ([Value.bool true] ++ wl.map vw) ++ (r.map vb ++ [Value.int .u64 n]) := fun r => by unfold scs; rw [List.append_assoc]
  have hf : ([Value.bool true] ++ wl.map vw).length = 9 := by simp [h1]
  unfold splice
  rw [e1, e1]
  generalize [Value.bool true] ++ wl.map vw = pre at *
  rw [List.take_append, List.drop_append, hf, show 9 + k - 9 = k by omega, List.length_map, show 9 + k + zs.length - 9 = k + zs.length by omega, List.take_of_length_le (by omega), List.drop_eq_nil_of_le (show pre.length ≤ 9 + k + zs.length by omega), List.take_append_of_le_length (by simp; omega), List.drop_append_of_le_length (by simp; omega)]
  simp only [List.map_append, List.map_take, List.map_drop, List.append_assoc, List.nil_append]
end
end Go.Proofs.YtfggknplekiaoaaDoor
