/- WALKS OF LAYER 13, FIRST PART: a Dir's names, rising; small functions. -/
import Derived.Test.YthgbncpiehcghaaGreatDoorIter
import Derived.Test.YthgbncpiehcghaaGreatDoorN13
namespace Go.Proofs.YthgbncpiehcghaaGreatDoor
set_option linter.unusedVariables false
open Go Go.RowKit Go.Maps Go.Sort Go.Shelf
set_option maxRecDepth 100000
set_option maxHeartbeats 1000000
/-- A node's cells. -/
abbrev NC (x : Nt.Nd) (mv : Option Nat) (k : Int) : Array Value :=
  #[.int .i64 x.kind, .int .i64 x.mode, .int .i64 x.uid, .int .i64 x.gid, .int .i64 x.mtime, .string x.link, .string (strOfNums x.xs), .map mv, .int .i64 k]
theorem os_of_keys {w : World} {base : Nat} {v : Value} {ss : List (List UInt8)} (h : w.ownsRow base 9 1 v ss.length ((ss.mergeSort (fun x y => decide (x ≤ y))).map encStr)) :
    OS w base v ((ss.mergeSort (fun x y => decide (x ≤ y))).map fun l : List UInt8 => (⟨l.toArray⟩ : ByteArray)) := by
  unfold OS
  rw [List.length_map, List.length_mergeSort, List.map_map]
  exact h
theorem rising_any (w : World) (a b n : Nat) (x : Nt.Nd) (k : Int) (f : ByteArray → Option Nat) (hx : BX w a 108 (NC x (some b) k)) (hm : MapAt w b n f) (hn : n ≤ 1000000) :
    Calls Tryz.prog 100 #[.pointer (some ⟨a, 0, none⟩)] w fun e w' => ∃ v L, e = .returned v ∧ Kids L f ∧ OS w' w.heap.size v L ∧ Below w.heap.size w w' := by
  obtain ⟨D, h1, h2⟩ := hm
  have c7 := hx.cell (j := 7) rfl
  have hsz := Nat.le_trans h1.size_le hn
  have hmax : Maps.size D ≤ maxLen := by unfold maxLen; omega
  have hbytes : Maps.size D * 16 ≤ 140737488355328 := by omega
  refine (callsIn_wide (n := 6)).1 ?_
  have hfK : Fence.wide.fn 134 := trivial
  have hfS : Fence.wide.fn 133 := trivial
  refine callsIn_of_wp Tryz.func100 rfl trivial ?_ rfl
  simp only [Tryz.ntmps100, List.size_toArray, List.length_cons, List.length_nil, Nat.reduceAdd, Nat.reduceSub, Array.replicate_succ, Array.replicate_zero, List.push_toArray, List.append_toArray, List.nil_append, List.cons_append]
  clear hsz
  gi_wp2_with (first
    | (gi_at_call 134; refine (Tryz.maps_Keys_134 _ _).mono ?_; rintro e w' ⟨rfl, rfl⟩)
    | (gi_at_call 133; refine (Tryz.slices_Sorted_keys_133_134 b n D RV w h1 hmax hbytes).mono ?_; rintro e w' ⟨v, ss, rfl, hS, hrow, hnil, hb⟩))
  go_ret
  exact ⟨v, _, rfl, MapAt.kids h1 h2 hS, os_of_keys (ownsRow_base_a hrow (by simp)), ((Below.refl _ w).alloc (Nat.le_refl _) _).trans (hb.mono (by simp))⟩
theorem rising_nil (w : World) (a : Nat) (x : Nt.Nd) (k : Int) (hx : BX w a 108 (NC x none k)) :
    Calls Tryz.prog 100 #[.pointer (some ⟨a, 0, none⟩)] w fun e w' => ∃ v, e = .returned v ∧ OS w' w.heap.size v [] ∧ Below w.heap.size w w' := by
  have c7 := hx.cell (j := 7) rfl
  refine (callsIn_wide (n := 6)).1 ?_
  have hfK : Fence.wide.fn 134 := trivial
  have hfS : Fence.wide.fn 133 := trivial
  refine callsIn_of_wp Tryz.func100 rfl trivial ?_ rfl
  simp only [Tryz.ntmps100, List.size_toArray, List.length_cons, List.length_nil, Nat.reduceAdd, Nat.reduceSub, Array.replicate_succ, Array.replicate_zero, List.push_toArray, List.append_toArray, List.nil_append, List.cons_append]
  gi_wp2_with (first
    | (gi_at_call 134; refine (Tryz.maps_Keys_134 _ _).mono ?_; rintro e w' ⟨rfl, rfl⟩)
    | (gi_at_call 133; refine (Tryz.slices_Sorted_keys_nil_133_134 w).mono ?_; rintro e w' ⟨v, ss, rfl, hS, hrow, hnil, hb⟩))
  go_ret
  subst hS
  have hrow' : w'.ownsRow (w.alloc (Obj.cells #[Value.map none] 106)).heap.size 9 1 v 0 [] := by simpa using hrow
  exact ⟨v, rfl, row_more hrow' (by simp), ((Below.refl _ w).alloc (Nat.le_refl _) _).trans (hb.mono (by simp))⟩
end Go.Proofs.YthgbncpiehcghaaGreatDoor
/- A TREE OF FILES IN MEMORY. No Go text is named. -/
namespace Go.Proofs.YthgbncpiehcghaaGreatDoor
set_option linter.unusedVariables false
open Go Go.RowKit
set_option maxRecDepth 100000
open Nt (Tr Nd WF Ps Path at_ cnt used)
/-- A tree's cells. -/
abbrev TC (T : Tr) (a : Nat) (u v : Nat) : Array Value := #[.pointer (some ⟨a, 0, none⟩), .int .i64 T.room, .int .i64 T.vol, .int .i64 (u : Nat), .int .i64 (v : Nat)]
/-- A Dir has names. -/
def mbv (T : Tr) (mb : Nat → Nat) (n : Nat) : Option Nat := if (T.nd n).kind = 4 then some (mb n) else none
/-- THE BLOCK tb IS THE TREE T: node n stands in block ad n, its names in block mb n; all in blocks of F. -/
structure RepP (F : Nat → Prop) (K : Nat) (w : World) (tb : Nat) (T : Tr) (ad mb : Nat → Nat) : Prop where
  tree : BX w tb 112 (TC T (ad 0) T.usedN T.usedB)
  ftree : F tb
  node : ∀ p n, (p, n) ∈ T.paths → BX w (ad n) 108 (NC (T.nd n) (mbv T mb n) (cnt T.paths n : Nat)) ∧ F (ad n)
  inj : ∀ p q n m, (p, n) ∈ T.paths → (q, m) ∈ T.paths → ad n = ad m → n = m
  map : ∀ p n, (p, n) ∈ T.paths → (T.nd n).kind = 4 → F (mb n) ∧ MapAt w (mb n) K (fun s => (at_ T.paths (p ++ [s])).map ad)
  minj : ∀ p q n m, (p, n) ∈ T.paths → (q, m) ∈ T.paths → (T.nd n).kind = 4 → (T.nd m).kind = 4 → mb n = mb m → n = m
def Rep (F : Nat → Prop) (K : Nat) (w : World) (tb : Nat) (T : Tr) : Prop := ∃ ad mb, RepP F K w tb T ad mb
/-- ALL THAT WAS THERE STANDS AS IT DID, but for blocks of F. -/
structure Keep (F : Nat → Prop) (w w' : World) : Prop where
  os : w'.os = w.os
  tape : w'.tape = w.tape
  output : w'.output = w.output
  size : w.heap.size ≤ w'.heap.size
  block : ∀ k, k < w.heap.size → ¬ F k → w'.heap[k]? = w.heap[k]?
/-- F and what is new. -/
def Grow (F : Nat → Prop) (w w' : World) : Nat → Prop := fun k => F k ∨ (w.heap.size ≤ k ∧ k < w'.heap.size)
section
variable {F G : Nat → Prop} {K tb B : Nat} {w w' w2 : World} {T : Tr} {ad mb : Nat → Nat}
theorem Keep.refl (F : Nat → Prop) (w : World) : Keep F w w := ⟨rfl, rfl, rfl, Nat.le_refl _, fun _ _ _ => rfl⟩
theorem Keep.trans (h : Keep F w w') (k : Keep F w' w2) : Keep F w w2 :=
  ⟨k.os.trans h.os, k.tape.trans h.tape, k.output.trans h.output, Nat.le_trans h.size k.size, fun i hi hn => (k.block i (Nat.lt_of_lt_of_le hi h.size) hn).trans (h.block i hi hn)⟩
theorem Keep.then (h : Keep F w w') (k : Keep (Grow F w w') w' w2) : Keep F w w2 :=
  ⟨k.os.trans h.os, k.tape.trans h.tape, k.output.trans h.output, Nat.le_trans h.size k.size, fun i hi hn => (k.block i (Nat.lt_of_lt_of_le hi h.size) (fun e => e.elim hn fun e => by omega)).trans (h.block i hi hn)⟩
theorem Keep.ofBelow (h : Below w.heap.size w w') : Keep F w w' := ⟨h.os, h.tape, h.output, h.size, fun k hk _ => h.block k hk⟩
theorem Keep.ofOth {a : Nat} (h : Oth a w w') (ha : F a) : Keep F w w' := ⟨h.1, h.2.1, h.2.2.1, h.2.2.2.1, fun k hk hn => h.2.2.2.2 k hk fun e => hn (e ▸ ha)⟩
theorem Keep.below (h : Keep F w w') (hF : ∀ k, F k → B ≤ k) (hB : B ≤ w.heap.size) : Below B w w' := ⟨h.os, h.tape, h.output, h.size, fun k hk => h.block k (by omega) fun e => by have := hF k e; omega⟩
theorem Keep.weak (h : Keep F w w') (hF : ∀ k, F k → G k) : Keep G w w' := ⟨h.os, h.tape, h.output, h.size, fun k hk hn => h.block k hk fun e => hn (hF k e)⟩
theorem Grow.self (F : Nat → Prop) (w w' : World) : ∀ k, F k → Grow F w w' k := fun k h => .inl h
theorem Grow.grow (hs : w.heap.size ≤ w'.heap.size) (hs2 : w'.heap.size ≤ w2.heap.size) : ∀ k, Grow (Grow F w w') w' w2 k → Grow F w w2 k := by
  rintro k ((h | ⟨h1, h2⟩) | ⟨h1, h2⟩)
  · exact .inl h
  · exact .inr ⟨h1, by omega⟩
  · exact .inr ⟨by omega, h2⟩
theorem Grow.low (hF : ∀ k, F k → B ≤ k) (hB : B ≤ w.heap.size) : ∀ k, Grow F w w' k → B ≤ k := by
  rintro k (h | ⟨h1, h2⟩)
  · exact hF k h
  · omega
theorem RepP.weak (h : RepP F K w tb T ad mb) (hF : ∀ k, F k → G k) {K' : Nat} (hK : K ≤ K') : RepP G K' w tb T ad mb :=
  ⟨h.tree, hF _ h.ftree, fun p n hm => ⟨(h.node p n hm).1, hF _ (h.node p n hm).2⟩, h.inj, fun p n hm hk => ⟨hF _ (h.map p n hm hk).1, (h.map p n hm hk).2.mono hK⟩, h.minj⟩
/-- Blocks of F stand as they did. -/
theorem RepP.kept (h : RepP F K w tb T ad mb) (hk : ∀ k, F k → k < w.heap.size → w'.heap[k]? = w.heap[k]?) : RepP F K w' tb T ad mb :=
  ⟨(hk _ h.ftree h.tree.lt).trans h.tree, h.ftree, fun p n hm => ⟨(hk _ (h.node p n hm).2 (h.node p n hm).1.lt).trans (h.node p n hm).1, (h.node p n hm).2⟩, h.inj,
    fun p n hm hk4 => ⟨(h.map p n hm hk4).1, (h.map p n hm hk4).2.of_block (hk _ (h.map p n hm hk4).1 (h.map p n hm hk4).2.lt)⟩, h.minj⟩
theorem RepP.later (h : RepP F K w tb T ad mb) (hb : Below w.heap.size w w') : RepP F K w' tb T ad mb := h.kept fun k _ hl => hb.block k hl
theorem RepP.beside (h : RepP F K w tb T ad mb) (hb : Keep G w w') (hG : ∀ k, F k → ¬ G k) : RepP F K w' tb T ad mb := h.kept fun k hF hl => hb.block k hl (hG k hF)
theorem Rep.weak (h : Rep F K w tb T) (hF : ∀ k, F k → G k) {K' : Nat} (hK : K ≤ K') : Rep G K' w tb T := let ⟨ad, mb, h⟩ := h; ⟨ad, mb, h.weak hF hK⟩
theorem Rep.later (h : Rep F K w tb T) (hb : Below w.heap.size w w') : Rep F K w' tb T := let ⟨ad, mb, h⟩ := h; ⟨ad, mb, h.later hb⟩
theorem Rep.beside (h : Rep F K w tb T) (hb : Keep G w w') (hG : ∀ k, F k → ¬ G k) : Rep F K w' tb T := let ⟨ad, mb, h⟩ := h; ⟨ad, mb, h.beside hb hG⟩
/-- The root. -/
theorem RepP.root (h : RepP F K w tb T ad mb) (hW : WF T K) : BX w (ad 0) 108 (NC (T.nd 0) (some (mb 0)) (cnt T.paths 0 : Nat)) := by
  have := (h.node _ _ hW.root).1
  unfold mbv at this
  rwa [if_pos hW.rootk] at this
theorem RepP.dir (h : RepP F K w tb T ad mb) {p : Path} {n : Nat} (hm : (p, n) ∈ T.paths) (hk : (T.nd n).kind = 4) : BX w (ad n) 108 (NC (T.nd n) (some (mb n)) (cnt T.paths n : Nat)) := by
  have := (h.node _ _ hm).1
  unfold mbv at this
  rwa [if_pos hk] at this
theorem RepP.leaf (h : RepP F K w tb T ad mb) {p : Path} {n : Nat} (hm : (p, n) ∈ T.paths) (hk : (T.nd n).kind ≠ 4) : BX w (ad n) 108 (NC (T.nd n) none (cnt T.paths n : Nat)) := by
  have := (h.node _ _ hm).1
  unfold mbv at this
  rwa [if_neg hk] at this
end
end Go.Proofs.YthgbncpiehcghaaGreatDoor
/- WALKS OF LAYER 13, SECOND PART: is it made, may numbers be, is there room. -/
namespace Go.Proofs.YthgbncpiehcghaaGreatDoor
set_option linter.unusedVariables false
open Go Go.RowKit
set_option maxRecDepth 100000
set_option maxHeartbeats 1000000
open Nt (Tr Nd WF Ps Path at_ cnt used)
theorem wrap_small {x : Int} (h1 : -9223372036854775808 ≤ x) (h2 : x ≤ 9223372036854775807) : IntKind.i64.wrap x = x := by
  rw [IntKind.wrap_i64]
  omega
theorem made_none (w : World) : Calls Tryz.prog 65 #[.pointer none] w fun e w' => e = .returned (.bool false) ∧ w = w' := by
  go_enter Tryz.func65, Tryz.ntmps65
  go_wp2
  go_ret
  exact ⟨rfl, rfl⟩
theorem made_no (w : World) (tb : Nat) (cs : Array Value) (hx : BX w tb 112 cs) (h0 : cs[0]? = some (.pointer none)) : Calls Tryz.prog 65 #[.pointer (some ⟨tb, 0, none⟩)] w fun e w' => e = .returned (.bool false) ∧ w = w' := by
  have c0 := hx.cell h0
  go_enter Tryz.func65, Tryz.ntmps65
  go_wp2
  go_ret
  exact ⟨rfl, rfl⟩
theorem made_any (w : World) (tb : Nat) (cs : Array Value) (a : Nat) (hx : BX w tb 112 cs) (h0 : cs[0]? = some (.pointer (some ⟨a, 0, none⟩))) : Calls Tryz.prog 65 #[.pointer (some ⟨tb, 0, none⟩)] w fun e w' => e = .returned (.bool true) ∧ w = w' := by
  have c0 := hx.cell h0
  go_enter Tryz.func65, Tryz.ntmps65
  go_wp2
  go_ret
  exact ⟨rfl, rfl⟩
theorem within_any (w : World) (n a b : Int) : Calls Tryz.prog 131 #[.int .i64 n, .int .i64 a, .int .i64 b] w fun e w' => e = .returned (.bool (decide (a ≤ n) && decide (n ≤ b))) ∧ w = w' := by
  by_cases h1 : a ≤ n
  · by_cases h2 : n ≤ b
    · go_enter Tryz.func131, Tryz.ntmps131
      go_wp2
      go_ret
      exact ⟨ret_bool (by simp [h1, h2]), rfl⟩
    · go_enter Tryz.func131, Tryz.ntmps131
      go_wp2
      go_ret
      exact ⟨ret_bool (by simp [h2]), rfl⟩
  · go_enter Tryz.func131, Tryz.ntmps131
    go_wp2
    go_ret
    exact ⟨ret_bool (by rw [decide_eq_false (by omega)]; rfl), rfl⟩
theorem meta_any (w : World) (a b c d : Int) : Calls Tryz.prog 96 #[.agg #[.int .i64 a, .int .i64 b, .int .i64 c, .int .i64 d]] w fun e w' => e = .returned (.bool (Nt.metaOk a b c d)) ∧ Below w.heap.size w w' := by
  have k1 := Lib.hid (fun W => within_any W a 0 4095)
  have k2 := Lib.hid (fun W => within_any W b 0 1099511627775)
  have k3 := Lib.hid (fun W => within_any W c 0 1099511627775)
  have k4 := Lib.hid (fun W => within_any W d (-1125899906842624) 1125899906842624)
  have hE : Nt.metaOk a b c d = ((decide (0 ≤ a) && decide (a ≤ 4095)) && ((decide (0 ≤ b) && decide (b ≤ 1099511627775)) && ((decide (0 ≤ c) && decide (c ≤ 1099511627775)) && (decide (-1125899906842624 ≤ d) && decide (d ≤ 1125899906842624))))) := by
    unfold Nt.metaOk
    simp only [Bool.and_assoc]
  rw [hE]
  clear hE
  generalize (decide (0 ≤ a) && decide (a ≤ 4095)) = b1 at *
  generalize (decide (0 ≤ b) && decide (b ≤ 1099511627775)) = b2 at *
  generalize (decide (0 ≤ c) && decide (c ≤ 1099511627775)) = b3 at *
  generalize (decide (-1125899906842624 ≤ d) && decide (d ≤ 1125899906842624)) = b4 at *
  have hB : ∀ W : World, Below w.heap.size w W → True := fun _ _ => trivial
  have hb0 : Below w.heap.size w (w.alloc (.cells #[.int .i64 a, .int .i64 b, .int .i64 c, .int .i64 d] 72)) := (Below.refl _ w).alloc (Nat.le_refl _) _
  cases b1 <;> cases b2 <;> cases b3
  all_goals
    go_enter Tryz.func96, Tryz.ntmps96
    go_wp2_with (first | (go_at_call 131; (first | (with_reducible refine (k1.out _).mono ?_) | (with_reducible refine (k2.out _).mono ?_) | (with_reducible refine (k3.out _).mono ?_) | (with_reducible refine (k4.out _).mono ?_)); rintro e w' ⟨rfl, rfl⟩))
    go_ret
    exact ⟨ret_bool (by simp), hb0⟩
/-- hasRoom: room and used are of small numbers. -/
theorem room_any (w : World) (tb : Nat) (cs : Array Value) (r v u b n m : Int) (hx : BX w tb 112 cs) (h1 : cs[1]? = some (.int .i64 r)) (h2 : cs[2]? = some (.int .i64 v)) (h3 : cs[3]? = some (.int .i64 u)) (h4 : cs[4]? = some (.int .i64 b))
    (hr : 0 ≤ r ∧ r ≤ 9223372036854775807) (hv : 0 ≤ v ∧ v ≤ 9223372036854775807) (hu : 0 ≤ u ∧ u ≤ 1000000000000) (hb : 0 ≤ b ∧ b ≤ 1000000000000) :
    Calls Tryz.prog 97 #[.pointer (some ⟨tb, 0, none⟩), .int .i64 n, .int .i64 m] w fun e w' => e = .returned (.bool (decide (u + n ≤ r) && decide (b + m ≤ v))) ∧ Below w.heap.size w w' := by
  have c1 := hx.cell h1
  have c2 := hx.cell h2
  have c3 := hx.cell h3
  have c4 := hx.cell h4
  have hE : (decide (u + n ≤ r) && decide (b + m ≤ v)) = (decide (n ≤ r - u) && decide (m ≤ v - b)) := by
    rw [Bool.eq_iff_iff]
    simp only [Bool.and_eq_true, decide_eq_true_eq]
    omega
  rw [hE]
  clear hE
  have w1 : IntKind.i64.wrap (r - u) = r - u := wrap_small (by omega) (by omega)
  have w2 : IntKind.i64.wrap (v - b) = v - b := wrap_small (by omega) (by omega)
  obtain ⟨q, hq⟩ : ∃ q, r - u = q := ⟨_, rfl⟩
  obtain ⟨p, hp⟩ : ∃ p, v - b = p := ⟨_, rfl⟩
  rw [hq] at w1
  rw [hp] at w2
  rw [hq, hp]
  have W1 : IntKind.i64.wrap (r - u) = q := by rw [hq]; exact w1
  have W2 : IntKind.i64.wrap (v - b) = p := by rw [hp]; exact w2
  clear hq hp hr hv hu hb w1 w2
  obtain ⟨g1, e1⟩ : ∃ g, decide (n ≤ q) = g := ⟨_, rfl⟩
  obtain ⟨g2, e2⟩ : ∃ g, decide (m ≤ p) = g := ⟨_, rfl⟩
  rw [e1, e2]
  cases g1
  · go_enter Tryz.func97, Tryz.ntmps97
    go_wp2
    go_quiet (fail)
    go_wp2
    go_ret
    exact ⟨rfl, below_drewN (Below.refl _ w) _⟩
  · go_enter Tryz.func97, Tryz.ntmps97
    go_wp2
    go_quiet (fail)
    go_wp2
    go_ret
    exact ⟨ret_bool (by simp), below_drewN (Below.refl _ w) _⟩
end Go.Proofs.YthgbncpiehcghaaGreatDoor
/- WALKS OF LAYER 13, THIRD PART: finding. -/
namespace Go.Proofs.YthgbncpiehcghaaGreatDoor
set_option linter.unusedVariables false
open Go Go.RowKit
set_option maxRecDepth 100000
set_option maxHeartbeats 1000000
open Nt (Tr Nd WF Ps Path at_ cnt used)
section
variable {F : Nat → Prop} {K tb : Nat} {T : Tr} {ad mb : Nat → Nat}
/-- What a call that finds hands back. -/
abbrev fv (ad : Nat → Nat) (x : Nat × Int) : Value := ptrv (if x.2 = 0 then some (ad x.1) else none)
theorem fnd_step {q : Path} {m : Nat} {L : Path} {k : Nat} {x : ByteArray} (hx : L[k]? = some x) : T.fnd q m (L.drop k) = if (T.nd m).kind ≠ 4 then (0, 12) else match at_ T.paths (q ++ [x]) with
    | none => (0, 6)
    | some j => T.fnd (q ++ [x]) j (L.drop (k + 1)) := by
  obtain ⟨hk, e⟩ := List.getElem?_eq_some_iff.1 hx
  rw [List.drop_eq_getElem_cons hk, e]
  rfl
theorem find_any {w : World} (hW : WF T K) (hR : RepP F K w tb T ad mb) (p : ByteArray) (hp : p.size ≤ 1000000) :
    Calls Tryz.prog 69 #[.pointer (some ⟨tb, 0, none⟩), .string p] w fun e w' => e = .returned (.tuple #[fv ad (T.find p), .int .i64 (T.find p).2]) ∧ Below w.heap.size w w' := by
  have km := Lib.hid (fun W (hx : BX W tb 112 (TC T (ad 0) T.usedN T.usedB)) => made_any W tb _ (ad 0) hx rfl)
  have c0 : w.cell? ⟨tb, 0, none⟩ = some (.pointer (some ⟨ad 0, 0, none⟩)) := hR.tree.cell rfl
  have hX := Lib.hid hR.tree
  by_cases h0 : p.size = 0
  · obtain rfl := size_zero.1 h0
    rw [show T.find ⟨#[]⟩ = (0, 0) from rfl]
    go_enter Tryz.func69, Tryz.ntmps69
    go_wp2_with (first | (go_at_call 65; refine (km.out _ hX.out).mono ?_; rintro e w' ⟨rfl, rfl⟩))
    go_ret2
    exact ⟨rfl, Below.refl _ _⟩
  · have g0 : p.toList.isEmpty = false := by rw [isEmpty_eq]; simp [h0]
    have kp := Lib.hid (fun W => parts_any p W hp)
    by_cases h1 : Nt.isP p = true
    · obtain ⟨h300, hN⟩ := Nt.isP_iff.1 h1
      have hE := Pp.parts_yes h300 hN
      rw [hE] at kp
      have hF : T.find p = T.fnd [] 0 (Pp.pieces p) := by unfold Tr.find; rw [if_neg h0, if_pos h1]
      rw [hF]
      have hLl : (Pp.pieces p).length ≤ 1000 := by have := Pp.pieces_len p; omega
      clear hE hF
      generalize Pp.pieces p = L at *
      have HN := Lib.hid hN
      clear h0 h1 h300 hN
      go_enter Tryz.func69, Tryz.ntmps69
      go_wp2_with (first | (go_at_call 65; refine (km.out _ hX.out).mono ?_; rintro e w' ⟨rfl, rfl⟩) | (go_at_call 116; refine (kp.out _).mono ?_; rintro e w1 ⟨v, rfl, ho, hb⟩; obtain ⟨A, c, rfl, hr, hlc, hcm⟩ := ho.rt; replace c0 : w1.cell? ⟨tb, 0, none⟩ = some (.pointer (some ⟨ad 0, 0, none⟩)) := (hX.out.later hb).cell rfl))
      have hR1 := Lib.hid (hR.later hb)
      go_loop [8, 38] (fun n i => ∃ (k m : Nat) (q : Path), n = .pointer (some ⟨ad m, 0, none⟩) ∧ i = .int .i64 k ∧ k ≤ L.length ∧ Hid ((q, m) ∈ T.paths) ∧ Hid (T.fnd [] 0 L = T.fnd q m (L.drop k))) (fun _ i => L.length - (intOf i).toNat)
      case atStart => exact ⟨0, 0, [], rfl, rfl, by omega, hW.root, rfl⟩
      case round =>
        obtain ⟨k, m, q, rfl, rfl, hk, HM, HE⟩ := hrel
        by_cases hlt : k < L.length
        · have hlt' : (k : Int) < L.length := by omega
          obtain ⟨b, x, rfl, hx, hcell⟩ := hr.at_ hlt
          have hst := Lib.hid (fnd_step (T := T) (q := q) (m := m) hx)
          have hxm := Lib.hid (HN.out x (List.mem_of_getElem? hx))
          have HX := Lib.hid hx; clear hx
          by_cases hkd : (T.nd m).kind = 4
          · have hd := Lib.hid (hR1.out.dir HM.out hkd)
            have d0 : w1.cell? ⟨ad m, 0, none⟩ = some (.int .i64 4) := by rw [← hkd]; exact hd.out.cell rfl
            have d7 : w1.cell? ⟨ad m, 7, none⟩ = some (.map (some (mb m))) := hd.out.cell rfl
            have hl := (hR1.out.map _ _ HM.out hkd).2.look_ok (s := x) (by have := Nt.nm_le hxm.out; unfold maxLen; omega)
            have HK := Lib.hid hkd; clear hkd
            cases ha : at_ T.paths (q ++ [x]) with
            | none =>
              rw [ha] at hl
              have HA := Lib.hid ha; clear ha
              have HR : Hid (T.fnd [] 0 L = (0, 6)) := by
                show _ = _
                rw [HE.out, hst.out, if_neg (by simp [HK.out]), HA.out]
              go_wp2
              go_ret2
              exact ⟨by rw [HR.out]; rfl, hb⟩
            | some j =>
              rw [ha] at hl
              have HR : Hid (T.fnd [] 0 L = T.fnd (q ++ [x]) j (L.drop (k + 1))) := by
                show _ = _
                rw [HE.out, hst.out, if_neg (by simp [HK.out]), ha]
              have HJ : Hid ((q ++ [x], j) ∈ T.paths) := Nt.at_mem ha
              clear ha
              replace hl : (Instr.lookup 106 (.map (some (mb m))) (.string x) true).run Tryz.prog w1 = .ok (.tuple #[.pointer (some ⟨ad j, 0, none⟩), .bool true]) w1 := hl
              go_wp2
              go_round
              case rel => exact ⟨k + 1, j, q ++ [x], rfl, by go_num, by omega, HJ, HR⟩
              case measure => simp [intOf]; omega
          · have hd := Lib.hid (hR1.out.leaf HM.out hkd)
            have d0 : w1.cell? ⟨ad m, 0, none⟩ = some (.int .i64 (T.nd m).kind) := hd.out.cell rfl
            have HR : Hid (T.fnd [] 0 L = (0, 12)) := by
              show _ = _
              rw [HE.out, hst.out, if_pos hkd]
            obtain ⟨kd, hkk⟩ : ∃ kd, (T.nd m).kind = kd := ⟨_, rfl⟩
            rw [hkk] at d0 hkd
            have g : (kd != 4) = true := by simp [hkd]
            have HKK := Lib.hid hkk
            clear hkk hkd
            go_wp2
            go_ret2
            exact ⟨by rw [HR.out]; rfl, hb⟩
        · have e : k = L.length := by omega
          subst e
          have HR : Hid (T.fnd [] 0 L = (m, 0)) := by
            show _ = _
            rw [HE.out, List.drop_length]
            rfl
          go_wp2
          go_ret2
          exact ⟨by rw [HR.out]; rfl, hb⟩
    · have hF : T.find p = (0, 8) := by unfold Tr.find; rw [if_neg h0, if_neg h1]
      have hE : Pp.partsS p = ([], 8) := by
        unfold Pp.partsS
        rw [if_neg fun h => h1 (Nt.isP_iff.2 h)]
      rw [hE] at kp
      rw [hF]
      clear hE hF h0 h1
      go_enter Tryz.func69, Tryz.ntmps69
      go_wp2_with (first | (go_at_call 65; refine (km.out _ hX.out).mono ?_; rintro e w' ⟨rfl, rfl⟩) | (go_at_call 116; refine (kp.out _).mono ?_; rintro e w1 ⟨v, rfl, ho, hb⟩))
      go_ret2
      exact ⟨rfl, hb⟩
/-- The text of a path's parent. -/
theorem par_text {p : ByteArray} {r : Int} (hr : Pp.IsLast p p.size r) : ((Pp.pieces p).dropLast = [] ∧ (parentS p r).size = 0 ∧ baseS p r = p ∧ Pp.pieces p = [p]) ∨ (Pp.pieces (parentS p r) = (Pp.pieces p).dropLast ∧ (Pp.pieces p) = (Pp.pieces p).dropLast ++ [baseS p r] ∧ (Pp.pieces p).dropLast ≠ []) := by
  by_cases h0 : r = -1
  · subst h0
    have e := Pp.pieces_none hr
    left
    refine ⟨by rw [e]; rfl, ?_, ?_, e⟩
    · unfold parentS
      rw [Pp.extract_size]
      have : (max (-1 : Int) 0).toNat = 0 := by decide
      omega
    · unfold baseS
      exact Pp.ext_all p
  · have hb := last_bd hr
    obtain ⟨i, rfl⟩ : ∃ i : Nat, r = i := ⟨r.toNat, by omega⟩
    obtain ⟨hi, e1, e2⟩ := Pp.pieces_parent hr
    right
    have ep : parentS p i = p.extract 0 i := by unfold parentS; rw [show (max (i : Int) 0).toNat = i by omega]
    have eb : baseS p i = p.extract (i + 1) p.size := by unfold baseS; rw [show ((i : Int) + 1).toNat = i + 1 by omega]
    rw [ep, eb, e2, List.dropLast_concat]
    exact ⟨rfl, rfl, Pp.pieces_ne _⟩
theorem find_par {p : ByteArray} {r : Int} (hr : Pp.IsLast p p.size r) (h1 : Nt.isP p = true) : T.find (parentS p r) = T.fnd [] 0 (Pp.pieces p).dropLast := by
  obtain ⟨h300, hN⟩ := Nt.isP_iff.1 h1
  rcases par_text hr with ⟨e1, e2, _, _⟩ | ⟨e1, e2, e3⟩
  · unfold Tr.find
    rw [if_pos e2, e1]
    rfl
  · have hs : 0 < (parentS p r).size := by
      have := Nt.txt_pos e3 (fun x hx => hN x (List.dropLast_subset _ hx))
      rw [← e1, Nt.txt_pieces] at this
      exact this
    have hle : (parentS p r).size ≤ p.size := by unfold parentS; rw [Pp.extract_size]; omega
    unfold Tr.find
    rw [if_neg (by omega), if_pos (Nt.isP_iff.2 ⟨by omega, fun x hx => hN x (List.dropLast_subset _ (e1 ▸ hx))⟩), e1]
theorem base_last {p : ByteArray} {r : Int} (hr : Pp.IsLast p p.size r) : Pp.pieces p = (Pp.pieces p).dropLast ++ [baseS p r] := by
  rcases par_text hr with ⟨e1, e2, e3, e4⟩ | ⟨_, e2, _⟩
  · rw [e1, e3, e4]; rfl
  · exact e2
end
end Go.Proofs.YthgbncpiehcghaaGreatDoor
/- WALKS OF LAYER 13, FOURTH PART: places. -/
namespace Go.Proofs.YthgbncpiehcghaaGreatDoor
set_option linter.unusedVariables false
open Go Go.RowKit
set_option maxRecDepth 100000
set_option maxHeartbeats 1000000
open Nt (Tr Nd WF Ps Path at_ cnt used)
section
variable {F : Nat → Prop} {K tb : Nat} {T : Tr} {ad mb : Nat → Nat}
abbrev noPlace : Value := .agg #[.pointer none, .string ⟨#[]⟩]
theorem placeOf_any {w : World} (hW : WF T K) (hR : RepP F K w tb T ad mb) (p : ByteArray) (hp : p.size ≤ 1000000) (r : Int) (hr : Pp.IsLast p p.size r) :
    Calls Tryz.prog 89 #[.pointer (some ⟨tb, 0, none⟩), .string p] w fun e w' =>
      (∃ v, e = .returned (.tuple #[v, .int .i64 (T.parE p)]) ∧ (T.parE p = 0 → v = .agg #[.pointer (some ⟨ad (T.fnd [] 0 (Pp.pieces p).dropLast).1, 0, none⟩), .string (baseS p r)]) ∧ (T.parE p ≠ 0 → v = noPlace)) ∧ Below w.heap.size w w' := by
  have km := Lib.hid (fun W (hx : BX W tb 112 (TC T (ad 0) T.usedN T.usedB)) => made_any W tb _ (ad 0) hx rfl)
  have hX := Lib.hid hR.tree
  have hRH := Lib.hid hR
  have ky := Lib.hid (fun W => may_any p W hp)
  have kp := Lib.hid (fun W => parent_any p W hp r hr)
  have kb := Lib.hid (fun W => base_any p W hp r hr)
  have HB := Lib.hid (BX.new w 159 #[.pointer none, .string ⟨#[]⟩])
  have hb0 : Below w.heap.size w (w.alloc (.cells #[.pointer none, .string ⟨#[]⟩] 159)) := (Below.refl _ w).alloc (Nat.le_refl _) _
  have HB0 := Lib.hid hb0
  have hps : (parentS p r).size ≤ 1000000 := by unfold parentS; rw [Pp.extract_size]; omega
  by_cases h1 : Nt.isP p = true
  · have hfp := find_par (T := T) hr h1
    have kf := Lib.hid (fun W (h : RepP F K W tb T ad mb) => find_any hW h (parentS p r) hps)
    rw [hfp] at kf
    rw [show ((Pp.partsS p).2 == 0) = true from h1] at ky
    have hpe : T.parE p = if (T.fnd [] 0 (Pp.pieces p).dropLast).2 ≠ 0 then (T.fnd [] 0 (Pp.pieces p).dropLast).2 else if (T.nd (T.fnd [] 0 (Pp.pieces p).dropLast).1).kind ≠ 4 then 12 else 0 := by
      unfold Tr.parE; rw [if_pos h1]
    have hsome := hW.fnd_some (Pp.pieces p).dropLast [] 0 (T.fnd [] 0 (Pp.pieces p).dropLast).1 hW.root
    rw [hpe]
    generalize parentS p r = pp at *
    generalize baseS p r = bb at *
    generalize T.fnd [] 0 (Pp.pieces p).dropLast = x at *
    obtain ⟨m, c⟩ := x
    simp only at hsome hpe kf ⊢
    clear hfp hpe h1
    by_cases hc : c = 0
    · subst hc
      have hm := Lib.hid (hsome.1 rfl)
      clear hsome
      simp only [fv, if_pos, ptrv] at kf
      rw [if_neg (by simp)]
      by_cases hk : (T.nd m).kind = 4
      · have HD := Lib.hid (fun W (h : RepP F K W tb T ad mb) => show W.cell? ⟨ad m, 0, none⟩ = some (.int .i64 4) by rw [← hk]; exact (h.dir hm.out hk).cell rfl)
        rw [if_neg (by simp [hk])]
        clear hk
        go_enter Tryz.func89, Tryz.ntmps89
        go_wp2_with (first
          | (go_at_call 65; refine (km.out _ (hX.out.alloc _)).mono ?_; rintro e w' ⟨rfl, rfl⟩)
          | (go_at_call 128; refine (ky.out _).mono ?_; rintro e w1 ⟨rfl, hb1⟩)
          | (go_at_call 129; refine (kp.out _).mono ?_; rintro e w' ⟨rfl, rfl⟩)
          | (go_at_call 69; refine (kf.out _ ((hRH.out.later HB0.out).later hb1)).mono ?_; rintro e w2 ⟨rfl, hb2⟩; have d0 := HD.out w2 (((hRH.out.later HB0.out).later hb1).later hb2); have hbx := Lib.hid ((HB.out.later hb1).later hb2); have q0 : w2.cell? ⟨w.heap.size, 0, none⟩ = some (.pointer none) := hbx.out.cell rfl; have q1 : w2.cell? ⟨w.heap.size, 1, none⟩ = some (.string ⟨#[]⟩) := hbx.out.cell rfl; have f0 := hbx.out.free 0; have f1 := hbx.out.free 1)
          | (go_at_call 130; refine (kb.out _).mono ?_; rintro e w' ⟨rfl, rfl⟩))
        refine bodyPost_ret (v := .tuple #[.agg #[.pointer (some ⟨ad m, 0, none⟩), .string bb], .int .i64 0]) (by simp [results, Tryz.f89, go_sem, q0, q1]) rfl ?_
        exact ⟨⟨_, rfl, fun _ => rfl, fun h => absurd rfl h⟩, ((bthen (bthen hb0 hb1) hb2).setCell (p := ⟨w.heap.size, 0, none⟩) (by simp) _).setCell (p := ⟨w.heap.size, 1, none⟩) (by simp) _⟩
      · have HD := Lib.hid (fun W (h : RepP F K W tb T ad mb) => show W.cell? ⟨ad m, 0, none⟩ = some (.int .i64 (T.nd m).kind) from (h.leaf hm.out hk).cell rfl)
        rw [if_pos hk]
        obtain ⟨kd, hkk⟩ : ∃ kd, (T.nd m).kind = kd := ⟨_, rfl⟩
        rw [hkk] at HD hk
        have g : (kd != 4) = true := by simp [hk]
        clear hkk hk
        go_enter Tryz.func89, Tryz.ntmps89
        go_wp2_with (first
          | (go_at_call 65; refine (km.out _ (hX.out.alloc _)).mono ?_; rintro e w' ⟨rfl, rfl⟩)
          | (go_at_call 128; refine (ky.out _).mono ?_; rintro e w1 ⟨rfl, hb1⟩)
          | (go_at_call 129; refine (kp.out _).mono ?_; rintro e w' ⟨rfl, rfl⟩)
          | (go_at_call 69; refine (kf.out _ ((hRH.out.later HB0.out).later hb1)).mono ?_; rintro e w2 ⟨rfl, hb2⟩; have d0 := HD.out w2 (((hRH.out.later HB0.out).later hb1).later hb2); have hbx := Lib.hid ((HB.out.later hb1).later hb2); have q0 : w2.cell? ⟨w.heap.size, 0, none⟩ = some (.pointer none) := hbx.out.cell rfl; have q1 : w2.cell? ⟨w.heap.size, 1, none⟩ = some (.string ⟨#[]⟩) := hbx.out.cell rfl; have f0 := hbx.out.free 0; have f1 := hbx.out.free 1)
          | (go_at_call 130; refine (kb.out _).mono ?_; rintro e w' ⟨rfl, rfl⟩))
        refine bodyPost_ret (v := .tuple #[noPlace, .int .i64 12]) (by simp [results, Tryz.f89, go_sem, q0, q1]) rfl ?_
        exact ⟨⟨_, rfl, fun h => absurd h (by decide), fun _ => rfl⟩, ((bthen (bthen hb0 hb1) hb2).setCell (p := ⟨w.heap.size, 0, none⟩) (by simp) _).setCell (p := ⟨w.heap.size, 1, none⟩) (by simp) _⟩
    · clear hsome
      simp only [fv, if_neg hc, ptrv] at kf
      rw [if_pos hc]
      have g : (c != 0) = true := by simp [hc]
      have HC := Lib.hid hc; clear hc
      go_enter Tryz.func89, Tryz.ntmps89
      go_wp2_with (first
          | (go_at_call 65; refine (km.out _ (hX.out.alloc _)).mono ?_; rintro e w' ⟨rfl, rfl⟩)
          | (go_at_call 128; refine (ky.out _).mono ?_; rintro e w1 ⟨rfl, hb1⟩)
          | (go_at_call 129; refine (kp.out _).mono ?_; rintro e w' ⟨rfl, rfl⟩)
          | (go_at_call 69; refine (kf.out _ ((hRH.out.later HB0.out).later hb1)).mono ?_; rintro e w2 ⟨rfl, hb2⟩; have hbx := Lib.hid ((HB.out.later hb1).later hb2); have q0 : w2.cell? ⟨w.heap.size, 0, none⟩ = some (.pointer none) := hbx.out.cell rfl; have q1 : w2.cell? ⟨w.heap.size, 1, none⟩ = some (.string ⟨#[]⟩) := hbx.out.cell rfl; have f0 := hbx.out.free 0; have f1 := hbx.out.free 1)
          | (go_at_call 130; refine (kb.out _).mono ?_; rintro e w' ⟨rfl, rfl⟩))
      refine bodyPost_ret (v := .tuple #[noPlace, .int .i64 c]) (by simp [results, Tryz.f89, go_sem, q0, q1]) rfl ?_
      exact ⟨⟨_, rfl, fun h => absurd h HC.out, fun _ => rfl⟩, ((bthen (bthen hb0 hb1) hb2).setCell (p := ⟨w.heap.size, 0, none⟩) (by simp) _).setCell (p := ⟨w.heap.size, 1, none⟩) (by simp) _⟩
  · have hpe : T.parE p = 8 := by unfold Tr.parE; rw [if_neg h1]
    rw [show ((Pp.partsS p).2 == 0) = false by cases e : ((Pp.partsS p).2 == 0) with | false => rfl | true => exact absurd e h1] at ky
    rw [hpe]
    clear hpe h1
    go_enter Tryz.func89, Tryz.ntmps89
    go_wp2_with (first
      | (go_at_call 65; refine (km.out _ (hX.out.alloc _)).mono ?_; rintro e w' ⟨rfl, rfl⟩)
      | (go_at_call 128; refine (ky.out _).mono ?_; rintro e w1 ⟨rfl, hb1⟩; have hbx := Lib.hid (HB.out.later hb1); have q0 : w1.cell? ⟨w.heap.size, 0, none⟩ = some (.pointer none) := hbx.out.cell rfl; have q1 : w1.cell? ⟨w.heap.size, 1, none⟩ = some (.string ⟨#[]⟩) := hbx.out.cell rfl; have f0 := hbx.out.free 0; have f1 := hbx.out.free 1))
    refine bodyPost_ret (v := .tuple #[noPlace, .int .i64 8]) (by simp [results, Tryz.f89, go_sem, q0, q1]) rfl ?_
    exact ⟨⟨_, rfl, fun h => absurd h (by decide), fun _ => rfl⟩, ((bthen hb0 hb1).setCell (p := ⟨w.heap.size, 0, none⟩) (by simp) _).setCell (p := ⟨w.heap.size, 1, none⟩) (by simp) _⟩
end
end Go.Proofs.YthgbncpiehcghaaGreatDoor
