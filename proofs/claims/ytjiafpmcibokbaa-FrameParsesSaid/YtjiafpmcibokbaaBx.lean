/- BLOCKS OF SEVERAL CELLS (a struct in a variable), what a call keeps but one block, and a copy that says what it keeps. Plain theorems; no Go text is named. -/
import Derived.Test.YtjiafpmcibokbaaBase
import Derived.Laws.CopyOwn
import Derived.Laws.Rows
namespace Go.Proofs.Ytjiafpmcibokbaa
open Go.RowKit
/-- THE BLOCK a HOLDS THE CELLS cs (of type T), none of them frozen. -/
def BX (w : World) (a : Nat) (T : TypeId) (cs : Array Value) : Prop := w.heap[a]? = some (.cells cs T (0, 0))
/-- ALL THAT WAS THERE STANDS AS IT DID, but for block a. -/
def Oth (a : Nat) (w w' : World) : Prop :=
  w'.os = w.os ∧ w'.tape = w.tape ∧ w'.output = w.output ∧ w.heap.size ≤ w'.heap.size ∧ ∀ k, k < w.heap.size → k ≠ a → w'.heap[k]? = w.heap[k]?
section
variable {w w' w2 : World} {a b B j : Nat} {T : TypeId} {cs : Array Value} {v : Value}
theorem BX.lt (h : BX w a T cs) : a < w.heap.size := by
  rcases Nat.lt_or_ge a w.heap.size with h' | h'
  · exact h'
  · unfold BX at h
    rw [Array.getElem?_eq_none h'] at h
    cases h
theorem BX.cell (h : BX w a T cs) (hj : cs[j]? = some v) : w.cell? ⟨a, j, none⟩ = some v := by
  unfold BX at h
  simp [World.cell?, h, hj]
theorem BX.free (h : BX w a T cs) (j : Nat) : w.frozen? ⟨a, j, none⟩ = false := frozen_of_row w a j cs T h
theorem BX.set (h : BX w a T cs) (j : Nat) (v : Value) : BX (w.setCell ⟨a, j, none⟩ v) a T (cs.setIfInBounds j v) := heap_setCell_same w a j cs T v h
theorem BX.other (h : BX w a T cs) (hne : a ≠ b) (v : Value) : BX (w.setCell ⟨b, j, none⟩ v) a T cs := by
  unfold BX
  rw [heap_setCell_other w ⟨b, j, none⟩ a v hne]
  exact h
theorem BX.new (w : World) (T : TypeId) (cs : Array Value) : BX (w.alloc (.cells cs T)) w.heap.size T cs := heap_alloc_new _ _
theorem BX.alloc (h : BX w a T cs) (o : Obj) : BX (w.alloc o) a T cs := (heap_alloc_old _ _ h.lt).trans h
theorem BX.drew (h : BX w a T cs) : BX w.drew a T cs := h
theorem BX.drewN (h : BX w a T cs) (n : Nat) : BX (w.drewN n) a T cs := h
theorem BX.below (h : BX w a T cs) (hb : Below B w w') (hB : a < B) : BX w' a T cs := (hb.block a hB).trans h
theorem BX.later (h : BX w a T cs) (hb : Below w.heap.size w w') : BX w' a T cs := h.below hb h.lt
theorem BX.oth (h : BX w a T cs) (ho : Oth b w w') (hne : a ≠ b) : BX w' a T cs := (ho.2.2.2.2 a h.lt hne).trans h
theorem Oth.refl (a : Nat) (w : World) : Oth a w w := ⟨rfl, rfl, rfl, Nat.le_refl _, fun _ _ _ => rfl⟩
theorem Oth.trans {c d e : World} (h : Oth a c d) (k : Oth a d e) : Oth a c e :=
  ⟨k.1.trans h.1, k.2.1.trans h.2.1, k.2.2.1.trans h.2.2.1, Nat.le_trans h.2.2.2.1 k.2.2.2.1, fun i hi hn => (k.2.2.2.2 i (Nat.lt_of_lt_of_le hi h.2.2.2.1) hn).trans (h.2.2.2.2 i hi hn)⟩
theorem Oth.ofBelow (h : Below w.heap.size w w') : Oth a w w' := ⟨h.os, h.tape, h.output, h.size, fun k hk _ => h.block k hk⟩
theorem Oth.below (h : Oth a w w') (hB : B ≤ a) (hs : B ≤ w.heap.size) : Below B w w' := ⟨h.1, h.2.1, h.2.2.1, h.2.2.2.1, fun k hk => h.2.2.2.2 k (by omega) (by omega)⟩
theorem Oth.setCell (h : Oth a w w') (j : Nat) (v : Value) : Oth a w (w'.setCell ⟨a, j, none⟩ v) :=
  h.trans ⟨rfl, rfl, rfl, by simp [World.setCell], fun k _ hn => heap_setCell_other _ _ _ _ hn⟩
theorem Oth.rb {A : Option Addr} {n : Nat} {xs : List Int} (h : Oth a w w') (hr : RB w B A n xs) (hB : B ≤ a) (hs : B ≤ w.heap.size) : RB w' B A n xs := hr.below (h.below hB hs)
end
theorem OBn.kept {w w' : World} {base n : Nat} {e : TypeId} {v : Value} {xs : List Int} (h : OBn w base e v n xs) (hk : ∀ k, v.ownBlock = some k → w'.heap[k]? = w.heap[k]?) : OBn w' base e v n xs := by
  refine ⟨h.1, ?_⟩
  rcases h.2 with hl | ⟨g, cap, cur, rfl, hbg, hg, h1, h2, h3, h4⟩
  · exact .inl hl
  · exact .inr ⟨g, cap, cur, rfl, hbg, (hk g rfl).trans hg, h1, h2, h3, h4⟩
theorem OBn.beside {w : World} {base n g c a j : Nat} {e : TypeId} {xs : List Int} (h : OBn w base e (.slice (some ⟨g, 0, none⟩) n c) n xs) (hne : a ≠ g) (v : Value) :
    OBn (w.setCell ⟨a, j, none⟩ v) base e (.slice (some ⟨g, 0, none⟩) n c) n xs :=
  h.kept fun k hk => by
    obtain rfl : g = k := by simpa [Value.ownBlock] using hk
    exact heap_setCell_other w ⟨a, j, none⟩ g v (fun e => hne e.symm)
theorem OB.base {w : World} {B B' : Nat} {e : TypeId} {v : Value} {xs : List Int} (h : OB w B e v xs) (hB : B' ≤ B) : OB w B' e v xs := by
  refine ⟨h.1, ?_⟩
  rcases h.2 with hl | ⟨g, cap, cur, rfl, hbg, hg, h1, h2, h3, h4⟩
  · exact .inl hl
  · exact .inr ⟨g, cap, cur, rfl, Nat.le_trans hB hbg, hg, h1, h2, h3, h4⟩
/-- AS 'wpList_copy_splice', and each other block stays. -/
theorem wpList_copy_keep {P : Program} {w : World} {ops : Array Oper} {rest : List Oper} {o : Oper} {a : Act} {Q : Exit → Act → World → Prop} (hgd : o.guard = none) (d s : Operand) (dT sT : TypeId)
    (ho : o.op = .call { callee := .builtin .copy, args := #[d, s], argTypes := #[dT, sT] }) (elem : TypeId) (hu : P.underlying dT = some (.slice elem)) (hsz : (P.info? elem).map (·.size) = some 1)
    (dp sp : Option Addr) (dLen dCap sLen sCap : Nat) (hd : a.eval d = .slice dp dLen dCap) (hs : a.eval s = .slice sp sLen sCap)
    (g off : Nat) (cur : List Value) (t : TypeId) (hg : w.heap[g]? = some (.cells cur.toArray t (0, 0))) (cs : List Value) (hn : cs.length = Nat.min sLen dLen)
    (hpos : 0 < cs.length → dp = some ⟨g, off, none⟩ ∧ ∃ ad, sp = some ad ∧ ∀ j v, cs[j]? = some v → w.cell? (ad.add j) = some v)
    (hfit : off + cs.length ≤ cur.length) (h1 : ∀ v ∈ cs, v.oneCell' = true)
    (h : ∀ w', Hid (w'.heap[g]? = some (.cells (splice cur off cs).toArray t (0, 0))) → Hid (Oth g w w') → wpList P ops Q rest (a.put o.dst (goInt cs.length)) w') :
    wpList P ops Q (o :: rest) a w := by
  by_cases h0 : cs.length = 0
  · obtain rfl : cs = [] := List.eq_nil_of_length_eq_zero h0
    refine wpList_copy_nothing hgd d s dT sT ho elem hu hsz dp sp dLen dCap sLen sCap hd hs (by simpa using hn.symm) ?_
    exact h w (show _ = _ by simpa [splice] using hg) (Oth.refl _ _)
  · obtain ⟨rfl, ad, rfl, hsrc⟩ := hpos (by omega)
    refine wpList_copy_own hgd d s dT sT ho elem hu hsz g off dLen dCap ad sLen sCap hd hs cur.toArray t hg cs hn hsrc (by simpa using hfit) h1 ?_
    refine h _ (show _ = _ by simpa [splice] using setRow_heap w g _ _ t _ hg) ?_
    exact ⟨rfl, rfl, rfl, by simp [World.setRow], fun k _ hk => setRow_other w g k _ hk⟩
end Go.Proofs.Ytjiafpmcibokbaa
