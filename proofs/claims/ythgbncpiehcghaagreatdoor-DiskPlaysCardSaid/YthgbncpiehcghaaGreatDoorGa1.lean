/- A DISK IN MEMORY: sorts of blocks, a tree's own blocks, deeds in a row. -/
import Derived.Test.YthgbncpiehcghaaGreatDoorGu1
import Derived.Test.YthgbncpiehcghaaGreatDoorGs2
import Derived.Test.YthgbncpiehcghaaGreatDoorGy3
import Derived.Test.YthgbncpiehcghaaGreatDoorAp
import Derived.Test.YthgbncpiehcghaaGreatDoorY4f
import Derived.Deep.RegionHeld3
namespace Go.Proofs.YthgbncpiehcghaaGreatDoor
set_option linter.unusedVariables false
open Go Go.RowKit Go.Maps
set_option maxRecDepth 100000
set_option maxHeartbeats 1000000
open Nt (Tr Nd WF Ps Path at_ cnt used Dd Dk ap)
/-- ALL THAT WAS THERE, AND IS OF NO SORT OF X, STANDS AS IT DID. -/
structure KeepX (X : Obj → Prop) (w w' : World) : Prop where
  os : w'.os = w.os
  tape : w'.tape = w.tape
  output : w'.output = w.output
  size : w.heap.size ≤ w'.heap.size
  block : ∀ (k : Nat) (o : Obj), w.heap[k]? = some o → ¬ X o → w'.heap[k]? = some o
/-- A tree's sorts of blocks. -/
def TreeObj (o : Obj) : Prop := (∃ es c, o = .map es c) ∨ ∃ cs T fz, o = .cells cs T fz ∧ (T = 108 ∨ T = 112)
/-- A disk's. -/
def DiskObj (o : Obj) : Prop := TreeObj o ∨ ∃ cs T fz, o = .cells cs T fz ∧ (T = 135 ∨ T = 74)
section
variable {X Y : Obj → Prop} {w w' w2 : World} {B n : Nat}
theorem KeepX.refl (X : Obj → Prop) (w : World) : KeepX X w w := ⟨rfl, rfl, rfl, Nat.le_refl _, fun _ _ h _ => h⟩
theorem KeepX.trans (h : KeepX X w w') (k : KeepX X w' w2) : KeepX X w w2 :=
  ⟨k.os.trans h.os, k.tape.trans h.tape, k.output.trans h.output, Nat.le_trans h.size k.size, fun i o hi hn => k.block i o (h.block i o hi hn) hn⟩
theorem lt_of_some {k : Nat} {o : Obj} (h : w.heap[k]? = some o) : k < w.heap.size := (Array.getElem?_eq_some_iff.1 h).1
theorem KeepX.ofBelow (h : Below w.heap.size w w') : KeepX X w w' := ⟨h.os, h.tape, h.output, h.size, fun k o hk _ => (h.block k (lt_of_some hk)).trans hk⟩
theorem KeepX.weak (h : KeepX X w w') (hX : ∀ o, X o → Y o) : KeepX Y w w' := ⟨h.os, h.tape, h.output, h.size, fun k o hk hn => h.block k o hk fun e => hn (hX o e)⟩
theorem KeepX.ofKeep {F : Nat → Prop} (h : Keep F w w') (hF : ∀ k, F k → ∃ o, w.heap[k]? = some o ∧ X o) : KeepX X w w' :=
  ⟨h.os, h.tape, h.output, h.size, fun k o hk hn => (h.block k (lt_of_some hk) fun hf => by
    obtain ⟨o', h1, h2⟩ := hF k hf
    rw [hk] at h1
    cases h1
    exact hn h2).trans hk⟩
theorem KeepX.ofOth {a : Nat} (h : Oth a w w') {o : Obj} (ha : w.heap[a]? = some o) (hX : X o) : KeepX X w w' :=
  ⟨h.1, h.2.1, h.2.2.1, h.2.2.2.1, fun k o' hk hn => (h.2.2.2.2 k (lt_of_some hk) fun e => by
    subst e
    rw [ha] at hk
    cases hk
    exact hn hX).trans hk⟩
theorem KeepX.ofGrown {v : Value} (h : w.grownBy w' v.ownBlock) (hX : ∀ a, v.ownBlock = some a → ∃ o, w.heap[a]? = some o ∧ X o) : KeepX X w w' :=
  ⟨h.os, h.tape, h.output, h.size, fun k o hk hn => (h.block k (lt_of_some hk) fun e => by
    obtain ⟨o', h1, h2⟩ := hX k e.symm
    rw [hk] at h1
    cases h1
    exact hn h2).trans hk⟩
theorem KeepX.setCell {a j : Nat} {o : Obj} (ha : w.heap[a]? = some o) (hX : X o) (v : Value) : KeepX X w (w.setCell ⟨a, j, none⟩ v) := KeepX.ofOth ((Oth.refl a w).setCell j v) ha hX
/-- X has no block of bytes. -/
def NoU8 (X : Obj → Prop) : Prop := ∀ cs fz, ¬ X (.cells cs 5 fz)
theorem tree_u8 : NoU8 TreeObj := by
  rintro cs fz (⟨_, _, h⟩ | ⟨_, _, _, h, h1 | h1⟩)
  · cases h
  · cases h; cases h1
  · cases h; cases h1
theorem disk_u8 : NoU8 DiskObj := by
  rintro cs fz (h | ⟨_, _, _, h, h1 | h1⟩)
  · exact tree_u8 _ _ h
  · cases h; cases h1
  · cases h; cases h1
theorem BX.keptX {a : Nat} {U : TypeId} {cs : Array Value} (h : BX w a U cs) (hk : KeepX X w w') (hn : ¬ X (.cells cs U (0, 0))) : BX w' a U cs := hk.block a _ h hn
theorem own_keptX {base size m : Nat} {e : TypeId} {v : Value} {xs : List Value} (h : w.ownsRow base e size v m xs) (hk : KeepX X w w') (hX : ∀ cs fz, ¬ X (.cells cs e fz)) : w'.ownsRow base e size v m xs :=
  own_keep13 h fun k hk2 => by
    rcases h.2 with ⟨e1, _⟩ | ⟨g, cap, cur, e1, _, hg, _⟩
    · subst e1; cases hk2
    · subst e1
      obtain rfl : g = k := by simpa [Value.ownBlock] using hk2
      rw [hg]
      exact hk.block g _ hg (hX _ _)
end
/-- A tree's own blocks. -/
def Fm (T : Tr) (tb : Nat) (ad mb : Nat → Nat) (k : Nat) : Prop := k = tb ∨ ∃ p n, (p, n) ∈ T.paths ∧ (k = ad n ∨ ((T.nd n).kind = 4 ∧ k = mb n))
section
variable {F : Nat → Prop} {K tb : Nat} {w w' : World} {T : Tr} {ad mb : Nat → Nat}
theorem RepP.min (h : RepP F K w tb T ad mb) : RepP (Fm T tb ad mb) K w tb T ad mb :=
  ⟨h.tree, .inl rfl, fun p n hp => ⟨(h.node p n hp).1, .inr ⟨p, n, hp, .inl rfl⟩⟩, h.inj, fun p n hp hk => ⟨.inr ⟨p, n, hp, .inr ⟨hk, rfl⟩⟩, (h.map p n hp hk).2⟩, h.minj⟩
theorem RepP.fm (h : RepP F K w tb T ad mb) {k : Nat} (hk : Fm T tb ad mb k) : F k := by
  rcases hk with rfl | ⟨p, n, hp, rfl | ⟨h4, rfl⟩⟩
  · exact h.ftree
  · exact (h.node p n hp).2
  · exact (h.map p n hp h4).1
theorem RepP.sort (h : RepP F K w tb T ad mb) {k : Nat} (hk : Fm T tb ad mb k) : ∃ o, w.heap[k]? = some o ∧ TreeObj o := by
  rcases hk with rfl | ⟨p, n, hp, rfl | ⟨h4, rfl⟩⟩
  · exact ⟨_, h.tree, .inr ⟨_, _, _, rfl, .inr rfl⟩⟩
  · exact ⟨_, (h.node p n hp).1, .inr ⟨_, _, _, rfl, .inl rfl⟩⟩
  · obtain ⟨D, ⟨es, clock, h1, _⟩, _⟩ := (h.map p n hp h4).2
    exact ⟨_, h1, .inl ⟨_, _, rfl⟩⟩
theorem RepP.lt (h : RepP F K w tb T ad mb) {k : Nat} (hk : Fm T tb ad mb k) : k < w.heap.size := by
  obtain ⟨o, h1, _⟩ := h.sort hk
  exact lt_of_some h1
theorem RepP.er (h : RepP F K w tb T ad mb) : RepP F K w tb T.er ad mb := by
  have hk : ∀ n, (T.er.nd n).kind = (T.nd n).kind := fun n => by rw [Nt.nd_er]; rfl
  refine ⟨?_, h.ftree, fun p n hp => ?_, h.inj, fun p n hp h4 => h.map p n hp (by rw [← hk]; exact h4), fun p q n m h1 h2 h3 h4 => h.minj p q n m h1 h2 (by rw [← hk]; exact h3) (by rw [← hk]; exact h4)⟩
  · have := h.tree
    rwa [← Nt.usedN_er (T := T), ← Nt.usedB_er (T := T)] at this
  · have h1 := h.node p n hp
    have e : mbv T.er mb n = mbv T mb n := by unfold mbv; rw [hk]
    rw [e, Nt.nd_er]
    exact h1
theorem Fm.er {k : Nat} : Fm T.er tb ad mb k ↔ Fm T tb ad mb k := by
  have hk : ∀ n, (T.er.nd n).kind = (T.nd n).kind := fun n => by rw [Nt.nd_er]; rfl
  unfold Fm
  simp only [hk]
  exact Iff.rfl
end
/-- A deed's cells. -/
abbrev DdC (y : Dd) : Array Value := #[.int .i64 y.kd, .string y.p, .string y.q, .int .i64 y.a, .int .i64 y.b, .int .i64 y.c, .int .i64 y.d, .slice y.A y.n y.k]
def ddL (l : List Dd) : List Value := l.flatMap fun y => (DdC y).toList
/-- BYTES READ, of the sort of bytes. -/
structure RBT (w : World) (A : Option Addr) (n : Nat) (xs : List Int) : Prop where
  rb : RB w w.heap.size A n xs
  ty : 0 < n → ∃ b o cs fz, A = some ⟨b, o, none⟩ ∧ w.heap[b]? = some (.cells cs 5 fz)
section
variable {w w' : World} {A : Option Addr} {n : Nat} {xs : List Int} {X : Obj → Prop}
theorem RBT.keptX (h : RBT w A n xs) (hk : KeepX X w w') (hX : NoU8 X) : RBT w' A n xs := by
  refine ⟨⟨h.rb.1, fun hn => ?_⟩, fun hn => ?_⟩
  · obtain ⟨b, o, e, hlt, hc⟩ := h.rb.2 hn
    obtain ⟨b', o', cs, fz, e', ht⟩ := h.ty hn
    rw [e] at e'
    cases e'
    have h3 := hk.block b _ ht (hX _ _)
    exact ⟨b, o, e, Nat.lt_of_lt_of_le hlt hk.size, fun i hi => (World.cell?_of_block (a := ⟨b, o + i, none⟩) (h3.trans ht.symm)).trans (hc i hi)⟩
  · obtain ⟨b', o', cs, fz, e', ht⟩ := h.ty hn
    exact ⟨b', o', cs, fz, e', hk.block b' _ ht (hX _ _)⟩
theorem RBT.below (h : RBT w A n xs) (hb : Below w.heap.size w w') : RBT w' A n xs := RBT.keptX (X := fun _ => False) h (KeepX.ofBelow hb) fun _ _ h => h
theorem RBT.pre (h : RBT w A n xs) {k : Nat} (hk : k ≤ n) : RBT w A k (xs.take k) := ⟨h.rb.pre hk, fun hn => h.ty (by omega)⟩
theorem RBT.set {a : Nat} {U : TypeId} {cs : Array Value} (h : RBT w A n xs) (hb : BX w a U cs) (hU : U ≠ 5) (j : Nat) (v : Value) : RBT (w.setCell ⟨a, j, none⟩ v) A n xs :=
  h.keptX (KeepX.setCell (X := fun o => ∃ cs fz, o = .cells cs U fz) hb ⟨_, _, rfl⟩ v) (by rintro cs fz ⟨_, _, e⟩; cases e; exact hU rfl)
theorem OBn.rbt {base c : Nat} (h : OBn w base 5 (.slice A n c) n xs) : RBT w A n xs := by
  obtain ⟨A', c', e, hr, _⟩ := h.slice
  cases e
  refine ⟨hr, fun hn => ?_⟩
  rcases h.2 with ⟨_, h1⟩ | ⟨g, cap, cur, e1, _, hg, _⟩
  · omega
  · cases e1
    exact ⟨g, 0, _, _, rfl, hg⟩
end
/-- A deed's bytes are there; its sizes. -/
structure DOk (w : World) (y : Dd) : Prop where
  rbt : RBT w y.A y.n y.xs
  cap : y.n ≤ y.k ∧ y.k ≤ maxLen
  small : y.p.size ≤ 1000 ∧ y.q.size ≤ 1000 ∧ y.n ≤ 5000
section
variable {w w' : World} {y : Dd} {l : List Dd}
theorem DOk.rb (h : DOk w y) : RB w w.heap.size y.A y.n y.xs := h.rbt.rb
theorem DOk.below (h : DOk w y) (hb : Below w.heap.size w w') : DOk w' y := ⟨h.rbt.below hb, h.cap, h.small⟩
theorem DOk.keptX {X : Obj → Prop} (h : DOk w y) (hk : KeepX X w w') (hX : NoU8 X) : DOk w' y := ⟨h.rbt.keptX hk hX, h.cap, h.small⟩
theorem ddL_len (l : List Dd) : (ddL l).length = l.length * 8 := by
  unfold ddL
  induction l with
  | nil => rfl
  | cons y r ih => rw [List.flatMap_cons, List.length_append, ih]; show 8 + r.length * 8 = (r.length + 1) * 8; omega
theorem ddL_app (l m : List Dd) : ddL (l ++ m) = ddL l ++ ddL m := by unfold ddL; rw [List.flatMap_append]
theorem ddL_at {l : List Dd} {j i : Nat} {y : Dd} {v : Value} (hj : l[j]? = some y) (hi : (DdC y)[i]? = some v) : (ddL l)[j * 8 + i]? = some v := by
  have hi8 : i < 8 := (Array.getElem?_eq_some_iff.1 hi).1
  induction l generalizing j with
  | nil => simp at hj
  | cons z r ih =>
    unfold ddL
    rw [List.flatMap_cons]
    rcases j with _ | j
    · obtain rfl : z = y := by simpa using hj
      rw [List.getElem?_append_left (by show 0 * 8 + i < 8; omega), show 0 * 8 + i = i from by omega]
      simpa using hi
    · rw [List.getElem?_append_right (by show 8 ≤ _; omega)]
      show (ddL r)[(j + 1) * 8 + i - 8]? = _
      rw [show (j + 1) * 8 + i - 8 = j * 8 + i from by omega]
      exact ih (by simpa using hj)
theorem ddL_one : ∀ u ∈ ddL l, u.oneCell' = true := by
  intro u hu
  unfold ddL at hu
  rw [List.mem_flatMap] at hu
  obtain ⟨y, _, h⟩ := hu
  simp at h
  rcases h with rfl | rfl | rfl | rfl | rfl | rfl | rfl | rfl <;> rfl
end
/-- A ROW OF DEEDS, of the sort of deeds, with their bytes. -/
def DL (w : World) (A : Option Addr) (n : Nat) (l : List Dd) : Prop :=
  l.length = n ∧ (0 < n → ∃ b o, A = some ⟨b, o, none⟩ ∧ (∃ cs fz, w.heap[b]? = some (.cells cs 74 fz)) ∧ ∀ (j : Nat) y, l[j]? = some y → ∀ (i : Nat) u, (DdC y)[i]? = some u → w.cell? ⟨b, o + j * 8 + i, none⟩ = some u) ∧ ∀ y ∈ l, DOk w y
section
variable {w w' : World} {A : Option Addr} {n : Nat} {l : List Dd}
theorem deed_tree {cs : Array Value} {fz : Nat × Nat} : ¬ TreeObj (.cells cs 74 fz) := by
  rintro (⟨_, _, h⟩ | ⟨_, _, _, h, h1 | h1⟩)
  · cases h
  · cases h; cases h1
  · cases h; cases h1
theorem diskd_tree {cs : Array Value} {fz : Nat × Nat} : ¬ TreeObj (.cells cs 135 fz) := by
  rintro (⟨_, _, h⟩ | ⟨_, _, _, h, h1 | h1⟩)
  · cases h
  · cases h; cases h1
  · cases h; cases h1
theorem DL.nil : DL w A 0 [] := ⟨rfl, fun h => absurd h (by omega), fun y hy => (by cases hy)⟩
theorem DL.kept {X : Obj → Prop} (h : DL w A n l) (hk : KeepX X w w') (hX : NoU8 X) (hd : ∀ cs fz, ¬ X (.cells cs 74 fz)) : DL w' A n l :=
  ⟨h.1, fun hn => by
    obtain ⟨b, o, e, ⟨cs, fz, hb⟩, hc⟩ := h.2.1 hn
    have h3 := hk.block b _ hb (hd _ _)
    exact ⟨b, o, e, ⟨cs, fz, h3⟩, fun j y hj i u hu => (World.cell?_of_block (a := ⟨b, o + j * 8 + i, none⟩) (h3.trans hb.symm)).trans (hc j y hj i u hu)⟩, fun y hy => (h.2.2 y hy).keptX hk hX⟩
theorem DL.below (h : DL w A n l) (hb : Below w.heap.size w w') : DL w' A n l :=
  DL.kept (X := fun _ => False) h (KeepX.ofBelow hb) (fun _ _ h => h) fun _ _ h => h
theorem DL.at_ (h : DL w A n l) {j : Nat} (hj : j < n) : ∃ b o y, A = some ⟨b, o, none⟩ ∧ l[j]? = some y ∧ DOk w y ∧ ∀ (i : Nat) u, (DdC y)[i]? = some u → w.cell? ⟨b, o + j * 8 + i, none⟩ = some u := by
  obtain ⟨b, o, e, _, hc⟩ := h.2.1 (by omega)
  have hl : j < l.length := by rw [h.1]; exact hj
  exact ⟨b, o, l[j], e, List.getElem?_eq_getElem hl, h.2.2 _ (List.getElem_mem hl), hc j _ (List.getElem?_eq_getElem hl)⟩
theorem own_dl {base : Nat} {v : Value} (h : w.ownsRow base 74 8 v l.length (ddL l)) (hd : ∀ y ∈ l, DOk w y) : ∃ A c, v = .slice A l.length c ∧ DL w A l.length l ∧ l.length ≤ c ∧ c ≤ maxLen := by
  rcases h.2 with ⟨e, h0⟩ | ⟨g, cap, cur, e, _, hg, h1, h2, h3, h4⟩
  · refine ⟨none, 0, by rw [e, h0], ⟨rfl, fun hn => absurd hn (by omega), hd⟩, by omega, by decide⟩
  · refine ⟨_, cap, e, ⟨rfl, fun _ => ⟨g, 0, rfl, ⟨_, _, hg⟩, fun j y hj i u hu => ?_⟩, hd⟩, h1, h2⟩
    have e1 := ddL_at hj hu
    rw [← h4, List.getElem?_take] at e1
    split at e1
    · rw [cell_of_row w g _ cur _ _ hg, show 0 + j * 8 + i = j * 8 + i from by omega]
      simpa using e1
    · cases e1
theorem DL.pre {k : Nat} (h : DL w A n l) (hk : k ≤ n) : DL w A k (l.take k) :=
  ⟨by rw [List.length_take, h.1]; omega, (fun hn => by
    obtain ⟨b, o, e, hb, hc⟩ := h.2.1 (by omega)
    refine ⟨b, o, e, hb, fun j x hj i v hv => hc j x ?_ i v hv⟩
    rw [List.getElem?_take] at hj
    split at hj
    · exact hj
    · cases hj), fun y hy => h.2.2 y (List.mem_of_mem_take hy)⟩
theorem DL.suf {k b o : Nat} (h : DL w (some ⟨b, o, none⟩) n l) (hk : k < n) : DL w (some ⟨b, o + k * 8, none⟩) (n - k) (l.drop k) :=
  ⟨by rw [List.length_drop, h.1], fun hn => by
    obtain ⟨b', o', e, hb, hc⟩ := h.2.1 (by omega)
    cases e
    refine ⟨b, o + k * 8, rfl, hb, fun j x hj i v hv => ?_⟩
    rw [List.getElem?_drop] at hj
    have := hc _ x hj i v hv
    rw [show o + k * 8 + j * 8 + i = o + (k + j) * 8 + i from by omega]
    exact this, fun y hy => h.2.2 y (List.mem_of_mem_drop hy)⟩
end
end Go.Proofs.YthgbncpiehcghaaGreatDoor
/- THE DOCUMENT's TREE IN MEMORY. No Go text is named. -/
namespace Go.Proofs.YthgbncpiehcghaaGreatDoor
set_option linter.unusedVariables false
open Go Go.RowKit Go.Maps
set_option maxRecDepth 100000
set_option maxHeartbeats 1000000
open Nt (Tr Nd WF Ps Path at_ cnt used txt)
/-- A node's cells; a path's. -/
abbrev NdC (x : Nd) : Array Value := #[.int .i64 x.kind, .int .i64 x.mode, .int .i64 x.uid, .int .i64 x.gid, .int .i64 x.mtime, .string x.link, .slice x.A x.n x.c]
abbrev AtC (x : ByteArray × Nat) : Array Value := #[.string x.1, .int .i64 (x.2 : Nat)]
/-- A row of elements of z cells each, of sort U. -/
def RowOf {α : Type} (C : α → Array Value) (z : Nat) (U : TypeId) (w : World) (A : Option Addr) (n : Nat) (l : List α) : Prop :=
  l.length = n ∧ (0 < n → ∃ b o, A = some ⟨b, o, none⟩ ∧ (∃ cs fz, w.heap[b]? = some (.cells cs U fz)) ∧ ∀ (j : Nat) x, l[j]? = some x → ∀ (i : Nat) u, (C x)[i]? = some u → w.cell? ⟨b, o + j * z + i, none⟩ = some u)
section
variable {α : Type} {C : α → Array Value} {z : Nat} {U : TypeId} {w w' : World} {A : Option Addr} {n : Nat} {l : List α}
theorem RowOf.keptX {X : Obj → Prop} (h : RowOf C z U w A n l) (hk : KeepX X w w') (hX : ∀ cs fz, ¬ X (.cells cs U fz)) : RowOf C z U w' A n l :=
  ⟨h.1, fun hn => by
    obtain ⟨b, o, e, ⟨cs, fz, hb⟩, hc⟩ := h.2 hn
    have h3 := hk.block b _ hb (hX _ _)
    exact ⟨b, o, e, ⟨cs, fz, h3⟩, fun j x hj i u hu => (World.cell?_of_block (a := ⟨b, o + j * z + i, none⟩) (h3.trans hb.symm)).trans (hc j x hj i u hu)⟩⟩
theorem RowOf.below (h : RowOf C z U w A n l) (hb : Below w.heap.size w w') : RowOf C z U w' A n l := RowOf.keptX (X := fun _ => False) h (KeepX.ofBelow hb) fun _ _ h => h
theorem RowOf.at_ (h : RowOf C z U w A n l) {j : Nat} (hj : j < n) : ∃ b o x, A = some ⟨b, o, none⟩ ∧ l[j]? = some x ∧ ∀ (i : Nat) u, (C x)[i]? = some u → w.cell? ⟨b, o + j * z + i, none⟩ = some u := by
  obtain ⟨b, o, e, _, hc⟩ := h.2 (by omega)
  have hl : j < l.length := by rw [h.1]; exact hj
  exact ⟨b, o, l[j], e, List.getElem?_eq_getElem hl, hc j _ (List.getElem?_eq_getElem hl)⟩
end
abbrev NRow := RowOf NdC 7 114
abbrev ARow := RowOf AtC 2 45
/-- The paths as texts. -/
def tps (R : Ps) : List (ByteArray × Nat) := R.map fun x => (txt x.1, x.2)
abbrev RvC (A1 : Option Addr) (n1 c1 : Nat) (A2 : Option Addr) (n2 c2 : Nat) (a b : Int) : Array Value := #[.slice A1 n1 c1, .slice A2 n2 c2, .int .i64 a, .int .i64 b]
/-- THE DOCUMENT's TREE T, its nodes' bytes below B. -/
structure RTr (w : World) (B : Nat) (A1 : Option Addr) (n1 c1 : Nat) (A2 : Option Addr) (n2 c2 : Nat) (T : Tr) : Prop where
  nodes : NRow w A1 n1 T.nodes
  paths : ARow w A2 n2 (tps T.paths)
  cap1 : n1 ≤ c1 ∧ c1 ≤ 9223372036854775807
  cap2 : n2 ≤ c2 ∧ c2 ≤ 9223372036854775807
  base : B ≤ w.heap.size
  data : ∀ x ∈ T.nodes, RB w B x.A x.n x.xs ∧ x.n ≤ x.c ∧ x.c ≤ maxLen
section
variable {w w' : World} {B : Nat} {A1 A2 : Option Addr} {n1 c1 n2 c2 : Nat} {T : Tr}
theorem RTr.below (h : RTr w B A1 n1 c1 A2 n2 c2 T) (hb : Below w.heap.size w w') : RTr w' B A1 n1 c1 A2 n2 c2 T :=
  ⟨h.nodes.below hb, h.paths.below hb, h.cap1, h.cap2, Nat.le_trans h.base hb.size, fun x hx => ⟨(h.data x hx).1.below (hb.mono h.base), (h.data x hx).2⟩⟩
theorem RTr.keptX {X : Obj → Prop} (h : RTr w B A1 n1 c1 A2 n2 c2 T) (hk : KeepX X w w') (hb : Below B w w') (h1 : ∀ cs fz, ¬ X (.cells cs 114 fz)) (h2 : ∀ cs fz, ¬ X (.cells cs 45 fz)) : RTr w' B A1 n1 c1 A2 n2 c2 T :=
  ⟨h.nodes.keptX hk h1, h.paths.keptX hk h2, h.cap1, h.cap2, Nat.le_trans h.base hk.size, fun x hx => ⟨(h.data x hx).1.below hb, (h.data x hx).2⟩⟩
theorem RTr.len1 (h : RTr w B A1 n1 c1 A2 n2 c2 T) : T.nodes.length = n1 := h.nodes.1
theorem RTr.len2 (h : RTr w B A1 n1 c1 A2 n2 c2 T) : T.paths.length = n2 := by
  have := h.paths.1
  unfold tps at this
  rwa [List.length_map] at this
end
/-- Where a text stands; -1: nowhere. -/
def plc (L : List (ByteArray × Nat)) (p : ByteArray) : Int := match L.findIdx? (fun x => decide (x.1 = p)) with
  | some i => i
  | none => -1
theorem plc_no {L : List (ByteArray × Nat)} {p : ByteArray} (h : ∀ x ∈ L, x.1 ≠ p) : plc L p = -1 := by
  unfold plc
  rw [List.findIdx?_eq_none_iff.2 fun x hx => by simpa using h x hx]
theorem plc_at {L : List (ByteArray × Nat)} {p : ByteArray} {j : Nat} {x : ByteArray × Nat} (hj : L[j]? = some x) (hx : x.1 = p) (h : ∀ i y, i < j → L[i]? = some y → y.1 ≠ p) : plc L p = j := by
  unfold plc
  obtain ⟨hl, he⟩ := List.getElem?_eq_some_iff.1 hj
  rw [show L.findIdx? (fun x => decide (x.1 = p)) = some j from List.findIdx?_eq_some_iff_getElem.2 ⟨hl, by simpa [he] using hx, fun i hi => by
    have := h i L[i] hi (List.getElem?_eq_getElem (by omega))
    simpa using this⟩]
/-- What stands there is what the path leads to. -/
theorem plc_some {R : Ps} {K : Nat} {T : Tr} (hW : WF T K) {P : Path} (hP : ∀ x ∈ P, Pp.Nm x) {k : Nat} (h : at_ T.paths P = some k) : ∃ j : Nat, plc (tps T.paths) (txt P) = j ∧ (tps T.paths)[j]? = some (txt P, k) := by
  have hm := Nt.at_mem h
  obtain ⟨j, hj, he⟩ := List.getElem_of_mem hm
  have e : (tps T.paths)[j]? = some (txt P, k) := by
    unfold tps
    rw [List.getElem?_map, List.getElem?_eq_getElem hj, he]
    rfl
  refine ⟨j, plc_at e rfl fun i y hi hy ht => ?_, e⟩
  unfold tps at hy
  rw [List.getElem?_map] at hy
  obtain ⟨hil, hie⟩ : ∃ h : i < T.paths.length, y = (txt T.paths[i].1, T.paths[i].2) := by
    have hil : i < T.paths.length := by omega
    rw [List.getElem?_eq_getElem hil] at hy
    exact ⟨hil, (by simpa using hy.symm)⟩
  rw [hie] at ht
  have hN := hW.names T.paths[i].1 T.paths[i].2 (List.getElem_mem hil)
  have h2 := Nt.txt_inj hN hP ht
  have hnd := hW.nodup
  have h4 := List.pairwise_iff_getElem.1 hnd i j (by rw [List.length_map]; exact hil) (by rw [List.length_map]; exact hj) hi
  rw [List.getElem_map, List.getElem_map, he, h2] at h4
  exact h4 rfl
theorem plc_none {K : Nat} {T : Tr} (hW : WF T K) {P : Path} (hP : ∀ x ∈ P, Pp.Nm x) (h : at_ T.paths P = none) : plc (tps T.paths) (txt P) = -1 := by
  refine plc_no fun x hx e => ?_
  obtain ⟨y, hy, rfl⟩ := List.mem_map.1 hx
  obtain ⟨q, m⟩ := y
  have := Nt.txt_inj (hW.names q m hy) hP e
  subst this
  exact Nt.at_none h m hy
end Go.Proofs.YthgbncpiehcghaaGreatDoor
/- WALKS OF THE DOCUMENT's TREE, FIRST PART: place, links, live, Used, room. -/
namespace Go.Proofs.YthgbncpiehcghaaGreatDoor
set_option linter.unusedVariables false
open Go Go.RowKit Go.Maps
set_option maxRecDepth 100000
set_option maxHeartbeats 4000000
open Nt (Tr Nd WF Ps Path at_ cnt used txt)
section
variable {w : World} {B : Nat} {A1 A2 : Option Addr} {n1 c1 n2 c2 : Nat} {T : Tr}
theorem refplace_any (h : RTr w B A1 n1 c1 A2 n2 c2 T) (a b : Int) (p : ByteArray) :
    Calls Tryz.prog 68 #[.agg (RvC A1 n1 c1 A2 n2 c2 a b), .string p] w fun e w' => e = .returned (.int .i64 (plc (tps T.paths) p)) ∧ Below w.heap.size w w' := by
  have hb := below_new w (.cells (RvC A1 n1 c1 A2 n2 c2 a b) 29)
  obtain ⟨W1, hW1⟩ : ∃ W, w.alloc (.cells (RvC A1 n1 c1 A2 n2 c2 a b) 29) = W := ⟨_, rfl⟩
  have hx : BX W1 w.heap.size 29 (RvC A1 n1 c1 A2 n2 c2 a b) := by rw [← hW1]; exact BX.new _ _ _
  have z1 : W1.cell? ⟨w.heap.size, 1, none⟩ = some (.slice A2 n2 c2) := hx.cell rfl
  rw [hW1] at hb
  have HR := Lib.hid (h.paths.below hb)
  have hcap := h.cap2
  have HB := Lib.hid hb
  have hl2 : (tps T.paths).length = n2 := h.paths.1
  obtain ⟨L, hL⟩ : ∃ L, tps T.paths = L := ⟨_, rfl⟩
  rw [hL] at HR hl2 ⊢
  obtain ⟨r, hr⟩ : ∃ r, plc L p = r := ⟨_, rfl⟩
  rw [hr]
  have HPL := Lib.hid hr
  have HL2 := Lib.hid hl2
  clear h hb hx hL hr hl2
  go_enter Tryz.func68, Tryz.ntmps68
  go_wp2
  go_loopw [5] (fun i W => ∃ j : Nat, j ≤ n2 ∧ i = .int .i64 j ∧ W1 = W ∧ Hid (∀ i y, i < j → L[i]? = some y → y.1 ≠ p)) (fun i _ => n2 - (intOf i).toNat)
  case atStart => exact ⟨0, Nat.zero_le _, rfl, rfl, fun i y hi => (by omega)⟩
  case round =>
    obtain ⟨j, hj, rfl, rfl, HN⟩ := hrel
    by_cases hlt : j < n2
    · have hlt' : (j : Int) < n2 := by omega
      obtain ⟨g, o, x, rfl, hx, hc⟩ := HR.out.at_ hlt
      obtain ⟨s, m⟩ := x
      have c0 : W1.cell? ⟨g, o + j * 2, none⟩ = some (.string s) := hc 0 _ rfl
      have HX := Lib.hid hx
      clear hc hx
      by_cases hs : s = p
      · subst hs
        have g0 : (s.toList == s.toList) = true := by simp
        go_wp2
        go_ret
        have h1 := plc_at HX.out rfl HN.out
        rw [HPL.out] at h1
        refine ⟨?_, HB.out⟩
        show Ending.returned (.int .i64 (j : Int)) = _
        rw [h1]
      · have g0 : (s.toList == p.toList) = false := by rw [Pp.toList_eq]; simp [hs]
        have HS := Lib.hid hs
        clear hs
        go_wp2
        go_roundw
        case rel => exact ⟨j + 1, by omega, by go_num, trivial, fun i y hi hy => by
          by_cases e : i = j
          · subst e
            rw [HX.out] at hy
            cases hy
            exact HS.out
          · exact HN.out i y (by omega) hy⟩
        case measure => simp [intOf]; omega
    · have hlt' : ¬ (j : Int) < n2 := by omega
      go_wp2
      go_ret
      have h1 := plc_no (L := L) (p := p) fun y hy => by
        obtain ⟨i, hi, he⟩ := List.getElem_of_mem hy
        exact HN.out i y (by have := HL2.out; omega) (by rw [List.getElem?_eq_getElem hi, he])
      rw [HPL.out] at h1
      refine ⟨?_, HB.out⟩
      show Ending.returned (.int .i64 (-1)) = _
      rw [h1]
theorem tps_at {R : Ps} {j : Nat} {x : ByteArray × Nat} (h : (tps R)[j]? = some x) : ∃ P, R[j]? = some (P, x.2) ∧ x.1 = txt P := by
  unfold tps at h
  rw [List.getElem?_map] at h
  cases e : R[j]? with
  | none => rw [e] at h; cases h
  | some y =>
    rw [e] at h
    obtain rfl : (txt y.1, y.2) = x := by simpa using h
    exact ⟨y.1, rfl, rfl⟩
theorem cnt_take {R : Ps} {j m : Nat} {y : Path × Nat} (h : R[j]? = some y) : cnt (R.take (j + 1)) m = cnt (R.take j) m + if y.2 = m then 1 else 0 := by
  rw [List.take_add_one, h, Option.toList_some, Nt.cnt_app, Nt.cnt_one]
theorem reflinks_any (h : RTr w B A1 n1 c1 A2 n2 c2 T) (a b : Int) (m : Nat) :
    Calls Tryz.prog 113 #[.agg (RvC A1 n1 c1 A2 n2 c2 a b), .int .i64 (m : Nat)] w fun e w' => e = .returned (.int .i64 (cnt T.paths m : Nat)) ∧ Below w.heap.size w w' := by
  have hb := below_new w (.cells (RvC A1 n1 c1 A2 n2 c2 a b) 29)
  obtain ⟨W1, hW1⟩ : ∃ W, w.alloc (.cells (RvC A1 n1 c1 A2 n2 c2 a b) 29) = W := ⟨_, rfl⟩
  have hx : BX W1 w.heap.size 29 (RvC A1 n1 c1 A2 n2 c2 a b) := by rw [← hW1]; exact BX.new _ _ _
  have z1 : W1.cell? ⟨w.heap.size, 1, none⟩ = some (.slice A2 n2 c2) := hx.cell rfl
  rw [hW1] at hb
  have HR := Lib.hid (h.paths.below hb)
  have hcap := h.cap2
  have HB := Lib.hid hb
  have HL2 := Lib.hid h.len2
  clear h hb hx
  obtain ⟨mi, hmi⟩ : ∃ mi : Int, ((m : Nat) : Int) = mi := ⟨_, rfl⟩
  rw [hmi]
  have HMI := Lib.hid hmi
  clear hmi
  go_enter Tryz.func113, Tryz.ntmps113
  go_wp2
  go_loopw [5, 6] (fun k i W => ∃ j : Nat, j ≤ n2 ∧ k = .int .i64 (cnt (T.paths.take j) m : Nat) ∧ i = .int .i64 j ∧ W1 = W) (fun _ i _ => n2 - (intOf i).toNat)
  case atStart => exact ⟨0, Nat.zero_le _, rfl, rfl, rfl⟩
  case round =>
    obtain ⟨j, hj, rfl, rfl, rfl⟩ := hrel
    by_cases hlt : j < n2
    · have hlt' : (j : Int) < n2 := by omega
      obtain ⟨g, o, x, rfl, hx, hc⟩ := HR.out.at_ hlt
      obtain ⟨P, hP, _⟩ := tps_at hx
      obtain ⟨s, q⟩ := x
      have c1' : W1.cell? ⟨g, o + j * 2 + 1, none⟩ = some (.int .i64 (q : Nat)) := hc 1 _ rfl
      have hst := cnt_take (m := m) hP
      have hle : cnt (T.paths.take j) m ≤ j := Nat.le_trans (Nt.cnt_le _ _) (by rw [List.length_take]; omega)
      obtain ⟨k, hk⟩ : ∃ k, cnt (T.paths.take j) m = k := ⟨_, rfl⟩
      rw [hk] at hst hle ⊢
      obtain ⟨qi, hqi⟩ : ∃ qi : Int, ((q : Nat) : Int) = qi := ⟨_, rfl⟩
      rw [hqi] at c1'
      have HST := Lib.hid hst
      clear hc hx hP hk
      by_cases hq : q = m
      · have g0 : (qi == mi) = true := by rw [← hqi, ← HMI.out, hq]; simp
        have HQ := Lib.hid hq
        clear hq hqi hst
        go_wp2
        go_roundw
        case rel => exact ⟨j + 1, by omega, by rw [HST.out, if_pos HQ.out]; go_num, by go_num, trivial⟩
        case measure => simp [intOf]; omega
      · have g0 : (qi == mi) = false := by rw [← hqi, ← HMI.out]; simp; omega
        have HQ := Lib.hid hq
        clear hq hqi hst
        go_wp2
        go_roundw
        case rel => exact ⟨j + 1, by omega, by rw [HST.out, if_neg HQ.out]; rfl, by go_num, trivial⟩
        case measure => simp [intOf]; omega
    · have hlt' : ¬ (j : Int) < n2 := by omega
      go_wp2
      go_ret
      refine ⟨?_, HB.out⟩
      show Ending.returned (.int .i64 ((cnt (T.paths.take j) m : Nat) : Int)) = _
      rw [List.take_of_length_le (by have := HL2.out; omega)]
theorem reflive_any (h : RTr w B A1 n1 c1 A2 n2 c2 T) (a b : Int) (m : Nat) :
    Calls Tryz.prog 66 #[.agg (RvC A1 n1 c1 A2 n2 c2 a b), .int .i64 (m : Nat)] w fun e w' => e = .returned (.bool (decide (cnt T.paths m ≠ 0))) ∧ Below w.heap.size w w' := by
  have hb := below_new w (.cells (RvC A1 n1 c1 A2 n2 c2 a b) 29)
  have kl := Lib.hid (reflinks_any (h.below hb) a b m)
  have HB := Lib.hid hb
  obtain ⟨k, hk⟩ : ∃ k, cnt T.paths m = k := ⟨_, rfl⟩
  rw [hk] at kl ⊢
  clear h hb hk
  go_enter Tryz.func66, Tryz.ntmps66
  go_wp2_with (go_at_call 113; (with_reducible refine kl.out.mono ?_); rintro e w1 ⟨rfl, hb1⟩)
  go_ret
  refine ⟨?_, bthen HB.out hb1⟩
  refine ret_bool ?_
  by_cases h0 : k = 0
  · subst h0; rfl
  · have h1 : (0 : Int) < k := by omega
    have h2 : 0 < k := by omega
    simp [h0, h2]
theorem sum_le13 (T : Tr) (f : Nd → Nat) (b : Nat) (hf : ∀ x ∈ T.nodes, f x ≤ b) (hz : f Nd.zero ≤ b) (j : Nat) : Nt.sum (fun i => if i = 0 then 0 else if cnt T.paths i = 0 then 0 else f (T.nodes.getD i Nd.zero)) j ≤ j * b := by
  refine Nt.sum_le fun i hi => ?_
  split
  · omega
  · split
    · omega
    · by_cases h : i < T.nodes.length
      · have : T.nodes.getD i Nd.zero ∈ T.nodes := by simp [List.getD, h]
        exact hf _ this
      · have : T.nodes.getD i Nd.zero = Nd.zero := by simp [List.getD, Nat.le_of_not_lt h]
        rw [this]
        exact hz
theorem refused_any {K : Nat} (h : RTr w B A1 n1 c1 A2 n2 c2 T) (hW : WF T K) (hK : K ≤ 100000) (a b : Int) :
    Calls Tryz.prog 16 #[.agg (RvC A1 n1 c1 A2 n2 c2 a b)] w fun e w' => e = .returned (.tuple #[.int .i64 (T.usedN : Nat), .int .i64 (T.usedB : Nat)]) ∧ Below w.heap.size w w' := by
  have hb := below_new w (.cells (RvC A1 n1 c1 A2 n2 c2 a b) 29)
  obtain ⟨W1, hW1⟩ : ∃ W, w.alloc (.cells (RvC A1 n1 c1 A2 n2 c2 a b) 29) = W := ⟨_, rfl⟩
  have hx : BX W1 w.heap.size 29 (RvC A1 n1 c1 A2 n2 c2 a b) := by rw [← hW1]; exact BX.new _ _ _
  rw [hW1] at hb
  have hr1 := h.below hb
  have HR := Lib.hid hr1
  have hcap := h.cap1
  have HB := Lib.hid hb
  have hn1 := h.len1
  have hpos := hW.pos
  have hfew := hW.few
  have ALLS := Lib.hid (fun W (hh : Below W1.heap.size W1 W) => show W.cell? ⟨w.heap.size, 0, none⟩ = some (.slice A1 n1 c1) ∧ W.cell? ⟨w.heap.size, 1, none⟩ = some (.slice A2 n2 c2) ∧ W.cell? ⟨w.heap.size, 2, none⟩ = some (.int .i64 a) ∧ W.cell? ⟨w.heap.size, 3, none⟩ = some (.int .i64 b) from
    ⟨(hx.later hh).cell rfl, (hx.later hh).cell rfl, (hx.later hh).cell rfl, (hx.later hh).cell rfl⟩)
  have kl := Lib.hid (fun W (hh : Below W1.heap.size W1 W) j => reflive_any (hr1.below hh) a b j)
  obtain ⟨gN, hgN⟩ : ∃ g : Nat → Nat, g = fun i => if i = 0 then 0 else if cnt T.paths i = 0 then 0 else (fun _ => 1) (T.nodes.getD i Nd.zero) := ⟨_, rfl⟩
  obtain ⟨gB, hgB⟩ : ∃ g : Nat → Nat, g = fun i => if i = 0 then 0 else if cnt T.paths i = 0 then 0 else (fun x : Nd => x.xs.length) (T.nodes.getD i Nd.zero) := ⟨_, rfl⟩
  have hsN : ∀ j, Nt.sum gN j ≤ j * 1 := fun j => by rw [hgN]; exact sum_le13 T _ 1 (fun _ _ => Nat.le_refl _) (Nat.le_refl _) j
  have hsB : ∀ j, Nt.sum gB j ≤ j * 4096 := fun j => by rw [hgB]; exact sum_le13 T (fun x : Nd => x.xs.length) 4096 (fun x hx => by have := hW.kinds x hx; unfold Nt.Nd.ok at this; show x.xs.length ≤ 4096; omega) (by decide) j
  have hUN : T.usedN = Nt.sum gN n1 := by rw [hgN, ← hn1]; rfl
  have hUB : T.usedB = Nt.sum gB n1 := by rw [hgB, ← hn1]; rfl
  rw [hUN, hUB]
  have HGN := Lib.hid hgN
  have HGB := Lib.hid hgB
  have HSN := Lib.hid hsN
  have HSB := Lib.hid hsB
  have HW := Lib.hid hW
  rw [hn1] at hpos hfew
  have HN1 := Lib.hid hn1
  clear h hb hx hr1 hgN hgB hsN hsB hUN hUB hW hn1
  go_enter Tryz.func16, Tryz.ntmps16
  go_wp2
  clear hW1
  go_loopw [4, 5, 6] (fun x y i W => ∃ j : Nat, 1 ≤ j ∧ j ≤ n1 ∧ x = .int .i64 (Nt.sum gN j : Nat) ∧ y = .int .i64 (Nt.sum gB j : Nat) ∧ i = .int .i64 j ∧ Hid (Below W1.heap.size W1 W)) (fun _ _ i _ => n1 - (intOf i).toNat)
  case atStart => exact ⟨1, Nat.le_refl _, hpos, by rw [HGN.out]; rfl, by rw [HGB.out]; rfl, rfl, Below.refl _ _⟩
  case round =>
    obtain ⟨j, hj1, hj, rfl, rfl, rfl, HBW⟩ := hrel
    obtain ⟨y0, y1, y2, y3⟩ := ALLS.out _ HBW.out
    by_cases hlt : j < n1
    · have hlt' : (j : Int) < n1 := by omega
      obtain ⟨g, o, x, rfl, hx, hc⟩ := ((HR.out.below HBW.out).nodes).at_ hlt
      have hdat := (HR.out.data x (List.mem_of_getElem? hx)).1.1
      obtain ⟨kd, md, ud, gd, td, lk, A, n, c, xs⟩ := x
      have hc6 : wr.cell? ⟨g, o + j * 7 + 6, none⟩ = some (.slice A n c) := hc 6 _ rfl
      have hgd : T.nodes.getD j Nd.zero = ⟨kd, md, ud, gd, td, lk, A, n, c, xs⟩ := by simp [List.getD, hx]
      have hn4 : n ≤ 4096 := by
        have := HW.out.kinds _ (List.mem_of_getElem? hx)
        exact this.2.2.1
      have kj := Lib.hid (kl.out _ HBW.out j)
      have hst : Nt.sum gN (j + 1) = Nt.sum gN j + gN j := rfl
      have hst2 : Nt.sum gB (j + 1) = Nt.sum gB j + gB j := rfl
      have hbN := HSN.out j
      have hbB := HSB.out j
      have hxl : xs.length = n := hdat
      obtain ⟨sN, hsN⟩ : ∃ s, Nt.sum gN j = s := ⟨_, rfl⟩
      obtain ⟨sB, hsB⟩ : ∃ s, Nt.sum gB j = s := ⟨_, rfl⟩
      rw [hsN] at hst hbN ⊢
      rw [hsB] at hst2 hbB ⊢
      by_cases h0 : cnt T.paths j = 0
      · have e1 : gN j = 0 := by rw [HGN.out]; simp [h0]
        have e2 : gB j = 0 := by rw [HGB.out]; simp [h0]
        rw [e1] at hst
        rw [e2] at hst2
        have HST := Lib.hid hst
        have HST2 := Lib.hid hst2
        rw [h0] at kj
        clear hc hx hdat hgd hst hst2 hsN hsB e1 e2 h0 hxl
        go_wp2_with (go_at_call 66; (with_reducible refine kj.out.mono ?_); rintro e w3 ⟨rfl, hb3⟩)
        go_roundw
        case rel => exact ⟨j + 1, by omega, by omega, by rw [HST.out]; rfl, by rw [HST2.out]; rfl, by go_num, bthen HBW.out hb3⟩
        case measure => simp [intOf]; omega
      · have e1 : gN j = 1 := by rw [HGN.out]; simp [h0]; omega
        have e2 : gB j = n := by
          rw [HGB.out]
          simp only [hgd]
          rw [if_neg (by omega), if_neg h0, hxl]
        rw [e1] at hst
        rw [e2] at hst2
        have HST := Lib.hid hst
        have HST2 := Lib.hid hst2
        have hd0 : decide (cnt T.paths j ≠ 0) = true := by simp [h0]
        rw [hd0] at kj
        have HC6 := Lib.hid (fun W (hh : Below wr.heap.size wr W) => show W.cell? ⟨g, o + j * 7 + 6, none⟩ = some (.slice A n c) from by
          have h1 := HR.out.below (bthen HBW.out hh)
          obtain ⟨g', o', x', e', hx', hc'⟩ := h1.nodes.at_ hlt
          cases e'
          rw [hx] at hx'
          cases hx'
          exact hc' 6 _ rfl)
        clear hc hx hdat hgd hst hst2 hsN hsB e1 e2 h0 hxl hd0 hc6
        go_wp2_with (go_at_call 66; (with_reducible refine kj.out.mono ?_); rintro e w3 ⟨rfl, hb3⟩; obtain ⟨x0, x1, x2, x3⟩ := ALLS.out _ (bthen HBW.out hb3); have x6 := HC6.out _ hb3)
        go_roundw
        case rel => exact ⟨j + 1, by omega, by omega, by rw [HST.out]; go_num, by rw [HST2.out]; go_num, by go_num, bthen HBW.out hb3⟩
        case measure => simp [intOf]; omega
    · have hlt' : ¬ (j : Int) < n1 := by omega
      obtain rfl : j = n1 := by omega
      go_wp2
      go_ret2
      exact ⟨rfl, bthen HB.out HBW.out⟩
theorem refroom_any {K : Nat} (h : RTr w B A1 n1 c1 A2 n2 c2 T) (hW : WF T K) (hK : K ≤ 100000) (a b : Int) (ha : -9223372036854775808 + 1000000000 ≤ a ∧ a ≤ 9223372036854775807 - 1000000000) (hb0 : -9223372036854775808 + 1000000000 ≤ b ∧ b ≤ 9223372036854775807 - 1000000000) :
    Calls Tryz.prog 104 #[.agg (RvC A1 n1 c1 A2 n2 c2 T.room T.vol), .int .i64 a, .int .i64 b] w fun e w' => e = .returned (.bool (T.roomy a b)) ∧ Below w.heap.size w w' := by
  have hb := below_new w (.cells (RvC A1 n1 c1 A2 n2 c2 T.room T.vol) 29)
  obtain ⟨W1, hW1⟩ : ∃ W, w.alloc (.cells (RvC A1 n1 c1 A2 n2 c2 T.room T.vol) 29) = W := ⟨_, rfl⟩
  have hx : BX W1 w.heap.size 29 (RvC A1 n1 c1 A2 n2 c2 T.room T.vol) := by rw [← hW1]; exact BX.new _ _ _
  rw [hW1] at hb
  have ku := Lib.hid (refused_any (h.below hb) hW hK T.room T.vol)
  have hu1 : T.usedN ≤ K * 1 := Nat.le_trans (Nt.used_le _ _ 1 fun _ _ => Nat.le_refl _) (Nat.mul_le_mul_right _ hW.few)
  have hu2 : T.usedB ≤ K * 4096 := Nat.le_trans (Nt.used_le _ _ 4096 fun x hx => by have := hW.kinds x hx; unfold Nt.Nd.ok at this; omega) (Nat.mul_le_mul_right _ hW.few)
  have hE : T.roomy a b = (decide (((T.usedN : Nat) : Int) + a ≤ T.room) && decide (((T.usedB : Nat) : Int) + b ≤ T.vol)) := rfl
  rw [hE]
  obtain ⟨uN, huN⟩ : ∃ u : Int, ((T.usedN : Nat) : Int) = u := ⟨_, rfl⟩
  obtain ⟨uB, huB⟩ : ∃ u : Int, ((T.usedB : Nat) : Int) = u := ⟨_, rfl⟩
  have hw1 : wrap64 (uN + a) = uN + a := by unfold wrap64; omega
  have hw2 : wrap64 (uB + b) = uB + b := by unfold wrap64; omega
  rw [huN, huB] at ku ⊢
  have ALLS := Lib.hid (fun W (hh : Below W1.heap.size W1 W) => show W.cell? ⟨w.heap.size, 2, none⟩ = some (.int .i64 T.room) ∧ W.cell? ⟨w.heap.size, 3, none⟩ = some (.int .i64 T.vol) from ⟨(hx.later hh).cell rfl, (hx.later hh).cell rfl⟩)
  have HB := Lib.hid hb
  have y0 : W1.cell? ⟨w.heap.size, 0, none⟩ = some (.slice A1 n1 c1) := hx.cell rfl
  have y1 : W1.cell? ⟨w.heap.size, 1, none⟩ = some (.slice A2 n2 c2) := hx.cell rfl
  have y2 : W1.cell? ⟨w.heap.size, 2, none⟩ = some (.int .i64 T.room) := hx.cell rfl
  have y3 : W1.cell? ⟨w.heap.size, 3, none⟩ = some (.int .i64 T.vol) := hx.cell rfl
  clear h hb hx hu1 hu2 hE huN huB hW
  by_cases h1 : uN + a ≤ T.room
  · by_cases h2 : uB + b ≤ T.vol
    · go_enter Tryz.func104, Tryz.ntmps104
      go_wp2_with (go_at_call 16; (with_reducible refine ku.out.mono ?_); rintro e w2 ⟨rfl, hb2⟩; obtain ⟨x2, x3⟩ := ALLS.out _ hb2)
      go_ret
      exact ⟨ret_bool (by simp [h1, h2]), bthen HB.out hb2⟩
    · go_enter Tryz.func104, Tryz.ntmps104
      go_wp2_with (go_at_call 16; (with_reducible refine ku.out.mono ?_); rintro e w2 ⟨rfl, hb2⟩; obtain ⟨x2, x3⟩ := ALLS.out _ hb2)
      go_ret
      exact ⟨ret_bool (by simp; intro _; omega), bthen HB.out hb2⟩
  · go_enter Tryz.func104, Tryz.ntmps104
    go_wp2_with (go_at_call 16; (with_reducible refine ku.out.mono ?_); rintro e w2 ⟨rfl, hb2⟩; obtain ⟨x2, x3⟩ := ALLS.out _ hb2)
    go_ret
    exact ⟨ret_bool (by simp; intro _; omega), bthen HB.out hb2⟩
end
end Go.Proofs.YthgbncpiehcghaaGreatDoor
/- WALKS OF THE DOCUMENT's TREE, SECOND PART: Find. -/
namespace Go.Proofs.YthgbncpiehcghaaGreatDoor
set_option linter.unusedVariables false
open Go Go.RowKit Go.Maps
set_option maxRecDepth 100000
set_option maxHeartbeats 4000000
open Nt (Tr Nd WF Ps Path at_ cnt used txt)
theorem join_txt {P : Path} {x : ByteArray} (hP : ∀ y ∈ P, Pp.Nm y) (hx : Pp.Nm x) : joinS (txt P) x = txt (P ++ [x]) := by
  have hx1 := Nt.nm_pos hx
  unfold joinS
  by_cases h : P = []
  · subst h
    rw [if_pos (show (txt []).size = 0 from rfl)]
    rfl
  · have := Nt.txt_pos h hP
    rw [if_neg (by omega), if_neg (by omega), Nt.txt_snoc P x h]
theorem take_one {α : Type} {l : List α} {j : Nat} {x : α} (h : l[j]? = some x) : l.take (j + 1) = l.take j ++ [x] ∧ l.drop j = x :: l.drop (j + 1) := by
  obtain ⟨hl, he⟩ := List.getElem?_eq_some_iff.1 h
  exact ⟨by rw [List.take_add_one, h]; rfl, by rw [List.drop_eq_getElem_cons hl, he]⟩
theorem fnd_cons {T : Tr} {pre : Path} {m : Nat} {x : ByteArray} {r : Path} (hk : (T.nd m).kind = 4) : T.fnd pre m (x :: r) = match at_ T.paths (pre ++ [x]) with
    | none => (0, 6)
    | some k => T.fnd (pre ++ [x]) k r := by
  show (if (T.nd m).kind ≠ 4 then _ else _) = _
  rw [if_neg (by simp [hk])]
  rfl
theorem fnd_bad {T : Tr} {pre : Path} {m : Nat} {x : ByteArray} {r : Path} (hk : (T.nd m).kind ≠ 4) : T.fnd pre m (x :: r) = (0, 12) := by
  show (if (T.nd m).kind ≠ 4 then _ else _) = _
  rw [if_pos hk]
section
variable {w : World} {B : Nat} {A1 A2 : Option Addr} {n1 c1 n2 c2 : Nat} {T : Tr}
theorem reffind_any {K : Nat} (h : RTr w B A1 n1 c1 A2 n2 c2 T) (hW : WF T K) (hK : K ≤ 100000) (a b : Int) (p : ByteArray) (hp : p.size ≤ 1000000) :
    Calls Tryz.prog 17 #[.agg (RvC A1 n1 c1 A2 n2 c2 a b), .string p] w fun e w' => e = .returned (.tuple #[.int .i64 ((T.find p).1 : Nat), .int .i64 (T.find p).2]) ∧ Below w.heap.size w w' := by
  have hb := below_new w (.cells (RvC A1 n1 c1 A2 n2 c2 a b) 29)
  obtain ⟨W1, hW1⟩ : ∃ W, w.alloc (.cells (RvC A1 n1 c1 A2 n2 c2 a b) 29) = W := ⟨_, rfl⟩
  have hx : BX W1 w.heap.size 29 (RvC A1 n1 c1 A2 n2 c2 a b) := by rw [← hW1]; exact BX.new _ _ _
  rw [hW1] at hb
  have hr1 := h.below hb
  have HB := Lib.hid hb
  have HR := Lib.hid hr1
  by_cases h0 : p.size = 0
  · have hf : T.find p = (0, 0) := by unfold Tr.find; rw [if_pos h0]
    rw [hf]
    obtain rfl := size_zero.1 h0
    clear h hb hx hr1 hW hf h0
    go_enter Tryz.func17, Tryz.ntmps17
    go_wp2
    go_ret2
    exact ⟨rfl, HB.out⟩
  · have ge : p.toList.isEmpty = false := by rw [isEmpty_eq]; simp [h0]
    have kp := Lib.hid (fun W => refparts_any p W hp)
    by_cases hP : Nt.isP p = true
    · have hf : T.find p = T.fnd [] 0 (Pp.pieces p) := by unfold Tr.find; rw [if_neg h0, if_pos hP]
      obtain ⟨hp300, hNm⟩ := Nt.isP_iff.1 hP
      have hparts : Pp.partsS p = (Pp.pieces p, 0) := Pp.parts_yes hp300 hNm
      rw [hparts] at kp
      rw [hf]
      have hplen := Pp.pieces_len p
      obtain ⟨L, hL⟩ : ∃ L, Pp.pieces p = L := ⟨_, rfl⟩
      rw [hL] at kp hNm hf hplen ⊢
      obtain ⟨R, hR⟩ : ∃ R, T.fnd [] 0 L = R := ⟨_, rfl⟩
      rw [hR]
      have HRR := Lib.hid hR
      have HNM := Lib.hid hNm
      have HWF := Lib.hid hW
      have ALLS := Lib.hid (fun W (hh : Below W1.heap.size W1 W) => show W.cell? ⟨w.heap.size, 0, none⟩ = some (.slice A1 n1 c1) ∧ W.cell? ⟨w.heap.size, 1, none⟩ = some (.slice A2 n2 c2) ∧ W.cell? ⟨w.heap.size, 2, none⟩ = some (.int .i64 a) ∧ W.cell? ⟨w.heap.size, 3, none⟩ = some (.int .i64 b) from
        ⟨(hx.later hh).cell rfl, (hx.later hh).cell rfl, (hx.later hh).cell rfl, (hx.later hh).cell rfl⟩)
      have kpl := Lib.hid (fun W (hh : Below W1.heap.size W1 W) q => refplace_any (hr1.below hh) a b q)
      clear h hb hx hr1 hW hf h0 hP hR hNm hparts hL
      go_enter Tryz.func17, Tryz.ntmps17
      go_wp2_with (go_at_call 67; (with_reducible refine (kp.out _).mono ?_); rintro e w2 ⟨v, rfl, ho, hb2⟩; obtain ⟨A6, c6, rfl, hrt, hl6, hm6⟩ := ho.rt; clear ho)
      have hll : L.length ≤ 301 := by omega
      have HRT := Lib.hid hrt
      have HB2 := Lib.hid hb2
      clear hrt hb2
      go_loopw [8, 9] (fun s i W => ∃ (j m : Nat), j ≤ L.length ∧ s = .string (txt (L.take j)) ∧ i = .int .i64 j ∧ Hid (T.fnd (L.take j) m (L.drop j) = R ∧ (L.take j, m) ∈ T.paths ∧ (j < L.length → (T.nd m).kind = 4) ∧ Below w2.heap.size w2 W)) (fun _ i _ => L.length - (intOf i).toNat)
      case atStart => exact ⟨0, 0, Nat.zero_le _, rfl, rfl, HRR.out, HWF.out.root, fun _ => HWF.out.rootk, Below.refl _ _⟩
      case round =>
        obtain ⟨j, m, hj, rfl, rfl, HI⟩ := hrel
        have hbw : Below W1.heap.size W1 wr := bthen HB2.out HI.out.2.2.2
        by_cases hlt : j < L.length
        · have hlt' : (j : Int) < L.length := by omega
          obtain ⟨g, x, rfl, hx, hcx⟩ := (HRT.out.below HI.out.2.2.2).at_ hlt
          obtain ⟨ht1, ht2⟩ := take_one hx
          have hxN : Pp.Nm x := HNM.out x (List.mem_of_getElem? hx)
          have hpN : ∀ y ∈ L.take j, Pp.Nm y := fun y hy => HNM.out y (List.mem_of_mem_take hy)
          have hpN2 : ∀ y ∈ L.take (j + 1), Pp.Nm y := fun y hy => HNM.out y (List.mem_of_mem_take hy)
          have hk4 := HI.out.2.2.1 hlt
          have hI := HI.out.1
          rw [ht2, fnd_cons hk4, ← ht1] at hI
          have hsz : (txt (L.take j)).size ≤ 1000000 := by have := HWF.out.long _ _ HI.out.2.1; omega
          have kj := Lib.hid (fun W => refjoin_any4 (txt (L.take j)) x W (by have := Nt.nm_le hxN; omega) hsz)
          rw [join_txt hpN hxN, ← ht1] at kj
          have kq := Lib.hid (kpl.out wr hbw (txt (L.take (j + 1))))
          have CF := Lib.hid (fun W (hh : Below wr.heap.size wr W) => ALLS.out W (bthen hbw hh))
          obtain ⟨y0, y1, y2, y3⟩ := ALLS.out wr hbw
          obtain ⟨S, hS⟩ : ∃ S, txt (L.take (j + 1)) = S := ⟨_, rfl⟩
          cases hat : at_ T.paths (L.take (j + 1)) with
          | none =>
            rw [hat] at hI
            rw [plc_none HWF.out hpN2 hat] at kq
            have HI2 := Lib.hid hI
            rw [hS] at kj kq
            clear hI hat hS ht1 ht2 hx hxN hpN hpN2 hk4
            go_wp2_with (first
              | (go_at_call 68; (with_reducible refine kq.out.mono ?_); rintro e w4 ⟨rfl, hb4⟩)
              | (go_at_call 45; (with_reducible refine (kj.out _).mono ?_); rintro e w3 ⟨rfl, rfl⟩))
            go_ret2
            refine ⟨?_, bthen (bthen HB.out hbw) hb4⟩
            rw [← HI2.out]
            rfl
          | some k =>
            rw [hat] at hI
            obtain ⟨j2, hj2, he2⟩ := plc_some (R := T.paths) HWF.out hpN2 hat
            rw [hj2] at kq
            have HI2 := Lib.hid hI
            have HAT := Lib.hid (Nt.at_mem hat)
            have hkn : k < n1 := by rw [← HR.out.len1]; exact HWF.out.lt _ _ (Nt.at_mem hat)
            have hj2n : j2 < n2 := by
              have h1 := (List.getElem?_eq_some_iff.1 he2).1
              rw [HR.out.paths.1] at h1
              exact h1
            obtain ⟨ki, hki⟩ : ∃ ki : Int, ((k : Nat) : Int) = ki := ⟨_, rfl⟩
            obtain ⟨kk, hkk⟩ : ∃ kk, (T.nd k).kind = kk := ⟨_, rfl⟩
            have PF := Lib.hid (fun W (hh : Below wr.heap.size wr W) => show ∃ g2 o2 g1 o1, A2 = some ⟨g2, o2, none⟩ ∧ A1 = some ⟨g1, o1, none⟩ ∧ W.cell? ⟨g2, o2 + j2 * 2 + 1, none⟩ = some (.int .i64 ki) ∧ W.cell? ⟨g1, o1 + k * 7, none⟩ = some (.int .i64 kk) from by
              have h1 := HR.out.below (bthen hbw hh)
              obtain ⟨g2, o2, x2, e2, hx2, hc2⟩ := h1.paths.at_ hj2n
              obtain ⟨g1, o1, x1, e1, hx1, hc1⟩ := h1.nodes.at_ hkn
              rw [he2] at hx2
              cases hx2
              have e3 : T.nd k = x1 := by unfold Tr.nd; simp [List.getD, hx1]
              refine ⟨g2, o2, g1, o1, e2, e1, ?_, ?_⟩
              · rw [← hki]; exact hc2 1 _ rfl
              · rw [← hkk, e3]; exact hc1 0 _ rfl)
            rw [hS] at kj kq
            have HS := Lib.hid hS
            have HKK := Lib.hid hkk
            have HT1 := Lib.hid ht1
            clear hI hat hS ht1 ht2 hx hxN hpN hpN2 hk4 hkk hj2 he2
            obtain ⟨g2, o2, g1, o1, eA2, eA1, _, _⟩ := PF.out wr (Below.refl _ _)
            subst eA2 eA1
            have PF2 := Lib.hid (fun W (hh : Below wr.heap.size wr W) => show W.cell? ⟨g2, o2 + j2 * 2 + 1, none⟩ = some (.int .i64 ki) ∧ W.cell? ⟨g1, o1 + k * 7, none⟩ = some (.int .i64 kk) from by
              obtain ⟨g2', o2', g1', o1', e2, e1, h1, h2⟩ := PF.out W hh
              cases e2
              cases e1
              exact ⟨h1, h2⟩)
            have hj2i : (j2 : Int) < n2 := by omega
            have hki0 : 0 ≤ ki := by omega
            have hki1 : ki < n1 := by omega
            have hkt : ki.toNat = k := by omega
            have hc1' := HR.out.cap1
            have hc2' := HR.out.cap2
            clear PF hki hkn hj2n
            by_cases hl1 : j + 1 < L.length
            · have hl1' : (j : Int) + 1 < L.length := by omega
              have hwj : IntKind.i64.wrap ((j : Int) + 1) = (j : Int) + 1 := wrap_small (by omega) (by omega)
              by_cases h44 : kk = 4
              · have g4 : (kk != 4) = false := by simp [h44]
                have H44 := Lib.hid h44
                clear h44
                go_wp2_with (first
                  | (go_at_call 68; (with_reducible refine kq.out.mono ?_); rintro e w4 ⟨rfl, hb4⟩; obtain ⟨q1, q2⟩ := PF2.out _ hb4; obtain ⟨x0, x1, x2, x3⟩ := CF.out _ hb4)
                  | (go_at_call 45; (with_reducible refine (kj.out _).mono ?_); rintro e w3 ⟨rfl, rfl⟩))
                go_quiet (fail)
                go_wp2
                go_roundw
                case rel => exact ⟨j + 1, k, by omega, by rw [HS.out], by go_num, HI2.out, HAT.out, fun _ => HKK.out.trans H44.out, below_drewN (bthen HI.out.2.2.2 hb4) _⟩
                case measure => simp [intOf]; omega
              · have g4 : (kk != 4) = true := by simp [h44]
                have H44 := Lib.hid h44
                clear h44
                go_wp2_with (first
                  | (go_at_call 68; (with_reducible refine kq.out.mono ?_); rintro e w4 ⟨rfl, hb4⟩; obtain ⟨q1, q2⟩ := PF2.out _ hb4; obtain ⟨x0, x1, x2, x3⟩ := CF.out _ hb4)
                  | (go_at_call 45; (with_reducible refine (kj.out _).mono ?_); rintro e w3 ⟨rfl, rfl⟩))
                go_quiet (fail)
                go_wp2
                go_ret2
                refine ⟨?_, bthen (bthen HB.out hbw) (below_drewN hb4 _)⟩
                have h9 := HI2.out
                rw [List.drop_eq_getElem_cons hl1, fnd_bad (by rw [HKK.out]; exact H44.out)] at h9
                rw [← h9]
                rfl
            · have hl1' : ¬ (j : Int) + 1 < L.length := by omega
              have hwj : IntKind.i64.wrap ((j : Int) + 1) = (j : Int) + 1 := wrap_small (by omega) (by omega)
              go_wp2_with (first
                | (go_at_call 68; (with_reducible refine kq.out.mono ?_); rintro e w4 ⟨rfl, hb4⟩; obtain ⟨q1, q2⟩ := PF2.out _ hb4; obtain ⟨x0, x1, x2, x3⟩ := CF.out _ hb4)
                | (go_at_call 45; (with_reducible refine (kj.out _).mono ?_); rintro e w3 ⟨rfl, rfl⟩))
              have hdl : decide ((j : Int) + 1 < L.length) = false := by simp; omega
              have hdm : ¬ (j : Int) + 1 < L.length := by omega
              go_quiet (fail)
              go_wp2
              go_roundw
              case rel => exact ⟨j + 1, k, by omega, by rw [HS.out], by go_num, HI2.out, HAT.out, fun h => absurd h hl1, below_drewN (bthen HI.out.2.2.2 hb4) _⟩
              case measure => simp [intOf]; omega
        · have hlt' : ¬ (j : Int) < L.length := by omega
          obtain rfl : j = L.length := by omega
          have hI := HI.out.1
          rw [List.drop_length, List.take_length] at hI
          have hIm := HI.out.2.1
          rw [List.take_length] at hIm
          have hat := (HWF.out.atI).2 hIm
          obtain ⟨j2, hj2, he2⟩ := plc_some (R := T.paths) HWF.out HNM.out hat
          have kq := Lib.hid (fun W (hh : Below wr.heap.size wr W) => kpl.out W (bthen hbw hh) (txt L))
          rw [hj2] at kq
          rw [List.take_length]
          have hj2n : j2 < n2 := by
            have h1 := (List.getElem?_eq_some_iff.1 he2).1
            rw [HR.out.paths.1] at h1
            exact h1
          obtain ⟨ki, hki⟩ : ∃ ki : Int, ((m : Nat) : Int) = ki := ⟨_, rfl⟩
          obtain ⟨g2, o2, x2, e2, hx2, hc2⟩ := (HR.out.below hbw).paths.at_ hj2n
          subst e2
          have PF := Lib.hid (fun W (hh : Below wr.heap.size wr W) => show W.cell? ⟨w.heap.size, 0, none⟩ = some (.slice A1 n1 c1) ∧ W.cell? ⟨w.heap.size, 1, none⟩ = some (.slice (some ⟨g2, o2, none⟩) n2 c2) ∧ W.cell? ⟨w.heap.size, 2, none⟩ = some (.int .i64 a) ∧ W.cell? ⟨w.heap.size, 3, none⟩ = some (.int .i64 b) ∧ W.cell? ⟨g2, o2 + j2 * 2 + 1, none⟩ = some (.int .i64 ki) from by
            obtain ⟨x0, x1, x2', x3⟩ := ALLS.out W (bthen hbw hh)
            obtain ⟨g2', o2', y2, e2', hy2, hd2⟩ := (HR.out.below (bthen hbw hh)).paths.at_ hj2n
            cases e2'
            rw [he2] at hy2
            cases hy2
            exact ⟨x0, x1, x2', x3, by rw [← hki]; exact hd2 1 _ rfl⟩)
          have hj2i : (j2 : Int) < n2 := by omega
          have HI2 := Lib.hid hI
          have HKI := Lib.hid hki
          have hc2' := HR.out.cap2
          obtain ⟨S, hS⟩ : ∃ S, txt L = S := ⟨_, rfl⟩
          rw [hS] at kq ⊢
          clear hI hIm hat hj2 he2 hx2 hc2 hS hki hj2n
          have hacc : Below wr.heap.size wr wr := Below.refl _ _
          obtain ⟨y0, y1, y2, y3, y4⟩ := PF.out _ hacc
          go_wp2
          replace hacc : Below wr.heap.size wr wr.drew := hacc.drew
          go_region_held3 (fun W => W.cell? ⟨w.heap.size, 0, none⟩ = some (.slice A1 n1 c1) ∧ W.cell? ⟨w.heap.size, 1, none⟩ = some (.slice (some ⟨g2, o2, none⟩) n2 c2) ∧ W.cell? ⟨w.heap.size, 2, none⟩ = some (.int .i64 a) ∧ W.cell? ⟨w.heap.size, 3, none⟩ = some (.int .i64 b) ∧ W.cell? ⟨g2, o2 + j2 * 2 + 1, none⟩ = some (.int .i64 ki))
            (first | go_keep | (exact PF.out _ hacc))
            (first | (go_at_call 68; (with_reducible refine (kq.out _ hacc).mono ?_); rintro e w4 ⟨rfl, hb4⟩; replace hacc := bthen hacc hb4))
          all_goals
            go_wp2
            go_ret2
            refine ⟨?_, bthen (bthen HB.out hbw) hacc⟩
            rw [← HI2.out, ← HKI.out]
            rfl
    · have hf : T.find p = (0, 8) := by unfold Tr.find; rw [if_neg h0, if_neg hP]
      have hparts : (Pp.partsS p).2 = 8 := by
        unfold Nt.isP at hP
        unfold Pp.partsS at hP ⊢
        split
        · rename_i h1
          rw [if_pos h1] at hP
          exact absurd rfl hP
        · rfl
      rw [hparts] at kp
      rw [hf]
      clear h hb hx hr1 hW hf h0 hP hparts
      go_enter Tryz.func17, Tryz.ntmps17
      go_wp2_with (go_at_call 67; (with_reducible refine (kp.out _).mono ?_); rintro e w2 ⟨v, rfl, ho, hb2⟩; obtain ⟨A6, c6, rfl, hrt, hl6, hm6⟩ := ho.rt; clear ho)
      go_ret2
      exact ⟨rfl, bthen HB.out hb2⟩
end
end Go.Proofs.YthgbncpiehcghaaGreatDoor
/- WALKS OF THE DOCUMENT's TREE, THIRD PART: parent, fresh. -/
namespace Go.Proofs.YthgbncpiehcghaaGreatDoor
set_option linter.unusedVariables false
open Go Go.RowKit Go.Maps
set_option maxRecDepth 100000
set_option maxHeartbeats 4000000
open Nt (Tr Nd WF Ps Path at_ cnt used txt)
/-- Node n of the document's tree is there. -/
theorem RTr.kind {w : World} {B : Nat} {A1 A2 : Option Addr} {n1 c1 n2 c2 : Nat} {T : Tr} (h : RTr w B A1 n1 c1 A2 n2 c2 T) {n : Nat} (hn : n < n1) : ∃ g o, A1 = some ⟨g, o, none⟩ ∧ ∀ (i : Nat) u, (NdC (T.nd n))[i]? = some u → w.cell? ⟨g, o + n * 7 + i, none⟩ = some u := by
  obtain ⟨g, o, x, e, hx, hc⟩ := h.nodes.at_ hn
  have e3 : T.nd n = x := by unfold Tr.nd; simp [List.getD, hx]
  exact ⟨g, o, e, by rw [e3]; exact hc⟩
section
variable {w : World} {B : Nat} {A1 A2 : Option Addr} {n1 c1 n2 c2 : Nat} {T : Tr}
theorem refpar_any {K : Nat} (h : RTr w B A1 n1 c1 A2 n2 c2 T) (hW : WF T K) (hK : K ≤ 100000) (a b : Int) (p : ByteArray) (hp : p.size ≤ 1000000) :
    Calls Tryz.prog 108 #[.agg (RvC A1 n1 c1 A2 n2 c2 a b), .string p] w fun e w' => e = .returned (.int .i64 (T.parE p)) ∧ Below w.heap.size w w' := by
  have hb := below_new w (.cells (RvC A1 n1 c1 A2 n2 c2 a b) 29)
  obtain ⟨W1, hW1⟩ : ∃ W, w.alloc (.cells (RvC A1 n1 c1 A2 n2 c2 a b) 29) = W := ⟨_, rfl⟩
  have hx : BX W1 w.heap.size 29 (RvC A1 n1 c1 A2 n2 c2 a b) := by rw [← hW1]; exact BX.new _ _ _
  rw [hW1] at hb
  have hr1 := h.below hb
  have HB := Lib.hid hb
  have HR := Lib.hid hr1
  have kp := Lib.hid (fun W => refparts_any p W hp)
  have hcap := h.cap1
  by_cases hP : Nt.isP p = true
  · obtain ⟨r, hr⟩ := Pp.last_ex p p.size (Nat.le_refl _)
    obtain ⟨hp300, hNm⟩ := Nt.isP_iff.1 hP
    have hparts : Pp.partsS p = (Pp.pieces p, 0) := Pp.parts_yes hp300 hNm
    rw [hparts] at kp
    have hE : T.parE p = if (T.fnd [] 0 (Pp.pieces p).dropLast).2 ≠ 0 then (T.fnd [] 0 (Pp.pieces p).dropLast).2 else if (T.nd (T.fnd [] 0 (Pp.pieces p).dropLast).1).kind ≠ 4 then 12 else 0 := by
      unfold Tr.parE
      rw [if_pos hP]
    have hps : (parentS p r).size ≤ 1000000 := by unfold parentS; rw [Pp.extract_size]; omega
    rw [hE, ← find_par hr hP]
    have hlt : (T.find (parentS p r)).2 = 0 → (T.find (parentS p r)).1 < n1 := fun h0 => by rw [← h.len1]; exact hW.lt _ _ (hW.find_ok h0).2
    have kpa := Lib.hid (fun W => refparent_any p W hp r hr)
    have kf := Lib.hid (fun W (hh : Below W1.heap.size W1 W) => reffind_any (hr1.below hh) hW hK a b (parentS p r) hps)
    have CF := Lib.hid (fun W (hh : Below W1.heap.size W1 W) => show W.cell? ⟨w.heap.size, 0, none⟩ = some (.slice A1 n1 c1) ∧ W.cell? ⟨w.heap.size, 1, none⟩ = some (.slice A2 n2 c2) ∧ W.cell? ⟨w.heap.size, 2, none⟩ = some (.int .i64 a) ∧ W.cell? ⟨w.heap.size, 3, none⟩ = some (.int .i64 b) from
      ⟨(hx.later hh).cell rfl, (hx.later hh).cell rfl, (hx.later hh).cell rfl, (hx.later hh).cell rfl⟩)
    generalize parentS p r = pp at *
    obtain ⟨⟨m, z⟩, hmz⟩ : ∃ x, T.find pp = x := ⟨_, rfl⟩
    rw [hmz] at kf hlt ⊢
    have HLT := Lib.hid hlt
    obtain ⟨Z, hZ⟩ : ∃ Z, (if z ≠ 0 then z else if (T.nd m).kind ≠ 4 then 12 else 0) = Z := ⟨_, rfl⟩
    have HZZ := Lib.hid hZ
    replace hZ : (if (m, z).2 ≠ 0 then (m, z).2 else if (T.nd (m, z).1).kind ≠ 4 then 12 else 0) = Z := hZ
    rw [hZ]
    clear hZ
    clear h hb hx hr1 hW hP hE hparts hNm hr hmz hlt
    go_enter Tryz.func108, Tryz.ntmps108
    go_wp2_with (go_at_call 67; (with_reducible refine (kp.out _).mono ?_); rintro e w2 ⟨v, rfl, ho, hb2⟩; obtain ⟨A6, c6, rfl, hrt, hl6, hm6⟩ := ho.rt; clear ho)
    have hacc : Below W1.heap.size W1 w2.drew := hb2.drew
    obtain ⟨y0, y1, y2, y3⟩ := CF.out _ hacc
    go_region_held3 (fun W => W.cell? ⟨w.heap.size, 0, none⟩ = some (.slice A1 n1 c1) ∧ W.cell? ⟨w.heap.size, 1, none⟩ = some (.slice A2 n2 c2) ∧ W.cell? ⟨w.heap.size, 2, none⟩ = some (.int .i64 a) ∧ W.cell? ⟨w.heap.size, 3, none⟩ = some (.int .i64 b))
      (first | go_keep | (exact CF.out _ hacc))
      (first
        | (go_at_call 17; (with_reducible refine (kf.out _ hacc).mono ?_); rintro e w4 ⟨rfl, hb4⟩; replace hacc := bthen hacc hb4)
        | (go_at_call 136; (with_reducible refine (kpa.out _).mono ?_); rintro e w3 ⟨rfl, rfl⟩))
    obtain ⟨x0, x1, x2, x3⟩ := CF.out _ hacc
    by_cases hz : z = 0
    · subst hz
      have hl := HLT.out rfl
      obtain ⟨g1, o1, nd, rfl, hnd, hcn⟩ := (HR.out.below hacc).nodes.at_ hl
      have e3 : T.nd m = nd := by unfold Tr.nd; simp [List.getD, hnd]
      obtain ⟨kk, hkk⟩ : ∃ kk : Int, nd.kind = kk := ⟨_, rfl⟩
      have q1 : w4.cell? ⟨g1, o1 + m * 7, none⟩ = some (.int .i64 kk) := by rw [← hkk]; exact hcn 0 _ rfl
      have E3 := Lib.hid (e3.symm ▸ hkk : (T.nd m).kind = kk)
      have hm0 : (0 : Int) ≤ m := by omega
      have hm1 : (m : Int) < n1 := by omega
      have hmt : ((m : Int)).toNat = m := by omega
      clear e3 hkk hnd hcn hl
      by_cases h4 : kk = 4
      · have g4 : (kk != 4) = false := by simp [h4]
        have H4 := Lib.hid h4
        clear h4
        go_wp2
        go_ret
        refine ⟨?_, bthen HB.out hacc⟩
        rw [← HZZ.out, E3.out]; simp [H4.out]
      · have g4 : (kk != 4) = true := by simp [h4]
        have H4 := Lib.hid h4
        clear h4
        go_wp2
        go_ret
        refine ⟨?_, bthen HB.out hacc⟩
        rw [← HZZ.out, E3.out]; simp [H4.out]
    · have gz : (z != 0) = true := by simp [hz]
      have HZ := Lib.hid hz
      clear hz
      go_wp2
      go_ret
      refine ⟨?_, bthen HB.out hacc⟩
      rw [← HZZ.out]; simp [HZ.out]
  · have hf : T.parE p = 8 := by unfold Tr.parE; rw [if_neg hP]
    have hparts : (Pp.partsS p).2 = 8 := by
      unfold Nt.isP at hP
      unfold Pp.partsS at hP ⊢
      split
      · rename_i h1
        rw [if_pos h1] at hP
        exact absurd rfl hP
      · rfl
    rw [hparts] at kp
    rw [hf]
    clear h hb hx hr1 hW hf hP hparts
    go_enter Tryz.func108, Tryz.ntmps108
    go_wp2_with (go_at_call 67; (with_reducible refine (kp.out _).mono ?_); rintro e w2 ⟨v, rfl, ho, hb2⟩; obtain ⟨A6, c6, rfl, hrt, hl6, hm6⟩ := ho.rt; clear ho)
    go_ret
    exact ⟨rfl, bthen HB.out hb2⟩
/-- Where a path that may be lies: its place in the document's row. -/
theorem place_is {K : Nat} {T : Tr} (hW : WF T K) {p : ByteArray} (hP : Nt.isP p = true) : (plc (tps T.paths) p < 0 ↔ at_ T.paths (Pp.pieces p) = none) := by
  obtain ⟨_, hNm⟩ := Nt.isP_iff.1 hP
  have ht : txt (Pp.pieces p) = p := Nt.txt_pieces p
  cases hat : at_ T.paths (Pp.pieces p) with
  | none =>
    have h1 := plc_none hW hNm hat
    rw [ht] at h1
    simp [h1]
  | some k =>
    obtain ⟨j, hj, _⟩ := plc_some (R := T.paths) hW hNm hat
    rw [ht] at hj
    rw [hj]
    simp
theorem reffresh_any {K : Nat} (h : RTr w B A1 n1 c1 A2 n2 c2 T) (hW : WF T K) (hK : K ≤ 100000) (a b : Int) (p : ByteArray) (hp : p.size ≤ 1000000) :
    Calls Tryz.prog 101 #[.agg (RvC A1 n1 c1 A2 n2 c2 a b), .string p] w fun e w' => e = .returned (.int .i64 (T.fresh p)) ∧ Below w.heap.size w w' := by
  have hb := below_new w (.cells (RvC A1 n1 c1 A2 n2 c2 a b) 29)
  obtain ⟨W1, hW1⟩ : ∃ W, w.alloc (.cells (RvC A1 n1 c1 A2 n2 c2 a b) 29) = W := ⟨_, rfl⟩
  have hx : BX W1 w.heap.size 29 (RvC A1 n1 c1 A2 n2 c2 a b) := by rw [← hW1]; exact BX.new _ _ _
  rw [hW1] at hb
  have hr1 := h.below hb
  have HB := Lib.hid hb
  have kpa := Lib.hid (refpar_any hr1 hW hK a b p hp)
  have kpl := Lib.hid (fun W (hh : Below W1.heap.size W1 W) => refplace_any (hr1.below hh) a b p)
  have CF := Lib.hid (fun W (hh : Below W1.heap.size W1 W) => show W.cell? ⟨w.heap.size, 0, none⟩ = some (.slice A1 n1 c1) ∧ W.cell? ⟨w.heap.size, 1, none⟩ = some (.slice A2 n2 c2) ∧ W.cell? ⟨w.heap.size, 2, none⟩ = some (.int .i64 a) ∧ W.cell? ⟨w.heap.size, 3, none⟩ = some (.int .i64 b) from
    ⟨(hx.later hh).cell rfl, (hx.later hh).cell rfl, (hx.later hh).cell rfl, (hx.later hh).cell rfl⟩)
  obtain ⟨y0, y1, y2, y3⟩ := CF.out _ (Below.refl _ _)
  obtain ⟨z, hz⟩ : ∃ z, T.parE p = z := ⟨_, rfl⟩
  rw [hz] at kpa
  by_cases h0 : z = 0
  · subst h0
    have hP : Nt.isP p = true := by
      by_cases hP : Nt.isP p = true
      · exact hP
      · unfold Tr.parE at hz
        rw [if_neg hP] at hz
        exact absurd hz (by decide)
    have hpi := place_is hW hP
    obtain ⟨k, hk⟩ : ∃ k, plc (tps T.paths) p = k := ⟨_, rfl⟩
    rw [hk] at kpl hpi
    by_cases hk0 : k < 0
    · have hf : T.fresh p = 0 := by
        unfold Tr.fresh
        rw [hz, if_neg (by simp), hpi.1 hk0]
        rfl
      rw [hf]
      have gk : ¬ 0 ≤ k := by omega
      clear h hb hx hr1 hW hz hf hpi hk hP hk0
      go_enter Tryz.func101, Tryz.ntmps101
      go_wp2_with (first
        | (go_at_call 108; (with_reducible refine kpa.out.mono ?_); rintro e w2 ⟨rfl, hb2⟩; obtain ⟨x0, x1, x2, x3⟩ := CF.out _ hb2)
        | (go_at_call 68; (with_reducible refine (kpl.out _ hb2).mono ?_); rintro e w3 ⟨rfl, hb3⟩))
      go_ret
      exact ⟨rfl, bthen (bthen HB.out hb2) hb3⟩
    · have hf : T.fresh p = 7 := by
        unfold Tr.fresh
        rw [hz, if_neg (by simp)]
        cases hat : at_ T.paths (Pp.pieces p) with
        | none => exact absurd (hpi.2 hat) hk0
        | some _ => rfl
      rw [hf]
      have gk : 0 ≤ k := by omega
      clear h hb hx hr1 hW hz hf hpi hk hP hk0
      go_enter Tryz.func101, Tryz.ntmps101
      go_wp2_with (first
        | (go_at_call 108; (with_reducible refine kpa.out.mono ?_); rintro e w2 ⟨rfl, hb2⟩; obtain ⟨x0, x1, x2, x3⟩ := CF.out _ hb2)
        | (go_at_call 68; (with_reducible refine (kpl.out _ hb2).mono ?_); rintro e w3 ⟨rfl, hb3⟩))
      go_ret
      exact ⟨rfl, bthen (bthen HB.out hb2) hb3⟩
  · have hf : T.fresh p = z := by
      unfold Tr.fresh
      rw [hz, if_pos h0]
    rw [hf]
    have gz : (z != 0) = true := by simp [h0]
    clear h hb hx hr1 hW hz hf h0
    go_enter Tryz.func101, Tryz.ntmps101
    go_wp2_with (go_at_call 108; (with_reducible refine kpa.out.mono ?_); rintro e w2 ⟨rfl, hb2⟩)
    go_ret
    exact ⟨rfl, bthen HB.out hb2⟩
end
end Go.Proofs.YthgbncpiehcghaaGreatDoor
