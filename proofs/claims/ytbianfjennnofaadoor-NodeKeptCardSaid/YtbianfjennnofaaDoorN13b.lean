/- A TREE OF FILES IN MEMORY. No Go text is named. -/
import Derived.Test.YtbianfjennnofaaDoorG13a
namespace Go.Proofs.YtbianfjennnofaaDoor
set_option linter.unusedVariables false
open Go Go.RowKit
set_option maxRecDepth 100000
open Nt (Tr Nd WF Ps Path at_ cnt used)
/-- A tree's cells. -/
abbrev TC (T : Tr) (a : Nat) (u v : Nat) : Array Value := #[.pointer (some ⟨a, 0, none⟩), .int .i64 T.room, .int .i64 T.vol, .int .i64 (u : Nat), .int .i64 (v : Nat)]
/-- A Dir has names. -/
def mbv (T : Tr) (mb : Nat → Nat) (n : Nat) : Option Nat := if (T.nd n).kind = 4 then some (mb n) else none
/-- THE BLOCK tb IS THE TREE T: node n stands in block ad n, its names in block mb n; all in blocks of F. -/
structure RepP (F : Nat → Prop) (K : Nat) (w : World) (tb : Nat) (T : Tr) (ad mb : Nat → Nat) : Prop where
  tree : BX w tb 49 (TC T (ad 0) T.usedN T.usedB)
  ftree : F tb
  node : ∀ p n, (p, n) ∈ T.paths → BX w (ad n) 61 (NC (T.nd n) (mbv T mb n) (cnt T.paths n : Nat)) ∧ F (ad n)
  inj : ∀ p q n m, (p, n) ∈ T.paths → (q, m) ∈ T.paths → ad n = ad m → n = m
  map : ∀ p n, (p, n) ∈ T.paths → (T.nd n).kind = 4 → F (mb n) ∧ MapAt w (mb n) K (fun s => (at_ T.paths (p ++ [s])).map ad)
  minj : ∀ p q n m, (p, n) ∈ T.paths → (q, m) ∈ T.paths → (T.nd n).kind = 4 → (T.nd m).kind = 4 → mb n = mb m → n = m
def Rep (F : Nat → Prop) (K : Nat) (w : World) (tb : Nat) (T : Tr) : Prop := ∃ ad mb, RepP F K w tb T ad mb
/-- ALL THAT WAS THERE STANDS AS IT DID, but for blocks of F. -/
structure Keep (F : Nat → Prop) (w w' : World) : Prop where
  os : w'.os = w.os
  tape : w'.tape = w.tape
  output : w'.output = w.output
  size : w.heap.size ≤ w'.heap.size
  block : ∀ k, k < w.heap.size → ¬ F k → w'.heap[k]? = w.heap[k]?
/-- F and what is new. -/
def Grow (F : Nat → Prop) (w w' : World) : Nat → Prop := fun k => F k ∨ (w.heap.size ≤ k ∧ k < w'.heap.size)
section
variable {F G : Nat → Prop} {K tb B : Nat} {w w' w2 : World} {T : Tr} {ad mb : Nat → Nat}
theorem Keep.refl (F : Nat → Prop) (w : World) : Keep F w w := ⟨rfl, rfl, rfl, Nat.le_refl _, fun _ _ _ => rfl⟩
theorem Keep.trans (h : Keep F w w') (k : Keep F w' w2) : Keep F w w2 :=
  ⟨k.os.trans h.os, k.tape.trans h.tape, k.output.trans h.output, Nat.le_trans h.size k.size, fun i hi hn => (k.block i (Nat.lt_of_lt_of_le hi h.size) hn).trans (h.block i hi hn)⟩
theorem Keep.then (h : Keep F w w') (k : Keep (Grow F w w') w' w2) : Keep F w w2 :=
  ⟨k.os.trans h.os, k.tape.trans h.tape, k.output.trans h.output, Nat.le_trans h.size k.size, fun i hi hn => (k.block i (Nat.lt_of_lt_of_le hi h.size) (fun e => e.elim hn fun e => by omega)).trans (h.block i hi hn)⟩
theorem Keep.ofBelow (h : Below w.heap.size w w') : Keep F w w' := ⟨h.os, h.tape, h.output, h.size, fun k hk _ => h.block k hk⟩
theorem Keep.ofOth {a : Nat} (h : Oth a w w') (ha : F a) : Keep F w w' := ⟨h.1, h.2.1, h.2.2.1, h.2.2.2.1, fun k hk hn => h.2.2.2.2 k hk fun e => hn (e ▸ ha)⟩
theorem Keep.below (h : Keep F w w') (hF : ∀ k, F k → B ≤ k) (hB : B ≤ w.heap.size) : Below B w w' := ⟨h.os, h.tape, h.output, h.size, fun k hk => h.block k (by omega) fun e => by have := hF k e; omega⟩
theorem Keep.weak (h : Keep F w w') (hF : ∀ k, F k → G k) : Keep G w w' := ⟨h.os, h.tape, h.output, h.size, fun k hk hn => h.block k hk fun e => hn (hF k e)⟩
theorem Grow.self (F : Nat → Prop) (w w' : World) : ∀ k, F k → Grow F w w' k := fun k h => .inl h
theorem Grow.grow (hs : w.heap.size ≤ w'.heap.size) (hs2 : w'.heap.size ≤ w2.heap.size) : ∀ k, Grow (Grow F w w') w' w2 k → Grow F w w2 k := by
  rintro k ((h | ⟨h1, h2⟩) | ⟨h1, h2⟩)
  · exact .inl h
  · exact .inr ⟨h1, by omega⟩
  · exact .inr ⟨by omega, h2⟩
theorem Grow.low (hF : ∀ k, F k → B ≤ k) (hB : B ≤ w.heap.size) : ∀ k, Grow F w w' k → B ≤ k := by
  rintro k (h | ⟨h1, h2⟩)
  · exact hF k h
  · omega
theorem RepP.weak (h : RepP F K w tb T ad mb) (hF : ∀ k, F k → G k) {K' : Nat} (hK : K ≤ K') : RepP G K' w tb T ad mb :=
  ⟨h.tree, hF _ h.ftree, fun p n hm => ⟨(h.node p n hm).1, hF _ (h.node p n hm).2⟩, h.inj, fun p n hm hk => ⟨hF _ (h.map p n hm hk).1, (h.map p n hm hk).2.mono hK⟩, h.minj⟩
/-- Blocks of F stand as they did. -/
theorem RepP.kept (h : RepP F K w tb T ad mb) (hk : ∀ k, F k → k < w.heap.size → w'.heap[k]? = w.heap[k]?) : RepP F K w' tb T ad mb :=
  ⟨(hk _ h.ftree h.tree.lt).trans h.tree, h.ftree, fun p n hm => ⟨(hk _ (h.node p n hm).2 (h.node p n hm).1.lt).trans (h.node p n hm).1, (h.node p n hm).2⟩, h.inj,
    fun p n hm hk4 => ⟨(h.map p n hm hk4).1, (h.map p n hm hk4).2.of_block (hk _ (h.map p n hm hk4).1 (h.map p n hm hk4).2.lt)⟩, h.minj⟩
theorem RepP.later (h : RepP F K w tb T ad mb) (hb : Below w.heap.size w w') : RepP F K w' tb T ad mb := h.kept fun k _ hl => hb.block k hl
theorem RepP.beside (h : RepP F K w tb T ad mb) (hb : Keep G w w') (hG : ∀ k, F k → ¬ G k) : RepP F K w' tb T ad mb := h.kept fun k hF hl => hb.block k hl (hG k hF)
theorem Rep.weak (h : Rep F K w tb T) (hF : ∀ k, F k → G k) {K' : Nat} (hK : K ≤ K') : Rep G K' w tb T := let ⟨ad, mb, h⟩ := h; ⟨ad, mb, h.weak hF hK⟩
theorem Rep.later (h : Rep F K w tb T) (hb : Below w.heap.size w w') : Rep F K w' tb T := let ⟨ad, mb, h⟩ := h; ⟨ad, mb, h.later hb⟩
theorem Rep.beside (h : Rep F K w tb T) (hb : Keep G w w') (hG : ∀ k, F k → ¬ G k) : Rep F K w' tb T := let ⟨ad, mb, h⟩ := h; ⟨ad, mb, h.beside hb hG⟩
/-- The root. -/
theorem RepP.root (h : RepP F K w tb T ad mb) (hW : WF T K) : BX w (ad 0) 61 (NC (T.nd 0) (some (mb 0)) (cnt T.paths 0 : Nat)) := by
  have := (h.node _ _ hW.root).1
  unfold mbv at this
  rwa [if_pos hW.rootk] at this
theorem RepP.dir (h : RepP F K w tb T ad mb) {p : Path} {n : Nat} (hm : (p, n) ∈ T.paths) (hk : (T.nd n).kind = 4) : BX w (ad n) 61 (NC (T.nd n) (some (mb n)) (cnt T.paths n : Nat)) := by
  have := (h.node _ _ hm).1
  unfold mbv at this
  rwa [if_pos hk] at this
theorem RepP.leaf (h : RepP F K w tb T ad mb) {p : Path} {n : Nat} (hm : (p, n) ∈ T.paths) (hk : (T.nd n).kind ≠ 4) : BX w (ad n) 61 (NC (T.nd n) none (cnt T.paths n : Nat)) := by
  have := (h.node _ _ hm).1
  unfold mbv at this
  rwa [if_neg hk] at this
end
end Go.Proofs.YtbianfjennnofaaDoor
