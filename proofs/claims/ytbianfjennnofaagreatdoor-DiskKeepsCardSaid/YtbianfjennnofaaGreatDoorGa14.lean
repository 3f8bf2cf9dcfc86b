/- A DISK IN MEMORY: sorts of blocks, a tree's own blocks, deeds in a row. -/
import Derived.Test.YtbianfjennnofaaGreatDoorG13u
import Derived.Test.YtbianfjennnofaaGreatDoorG13l
import Derived.Test.YtbianfjennnofaaGreatDoorGy1
import Derived.Test.YtbianfjennnofaaGreatDoorAp
import Derived.Test.YtbianfjennnofaaGreatDoorG13o
import Derived.Test.YtbianfjennnofaaGreatDoorG13n
import Derived.Test.YtbianfjennnofaaGreatDoorB7b
import Derived.Test.YtbianfjennnofaaGreatDoorG13f
import Derived.Deep.RegionHeld3
import Derived.StillTailTactics
import Derived.Test.YtbianfjennnofaaGreatDoorG13s
namespace Go.Proofs.YtbianfjennnofaaGreatDoor
set_option linter.unusedVariables false
open Go Go.RowKit Go.Maps
set_option maxRecDepth 100000
set_option maxHeartbeats 1000000
open Nt (Tr Nd WF Ps Path at_ cnt used Dd Dk ap)
/-- ALL THAT WAS THERE, AND IS OF NO SORT OF X, STANDS AS IT DID. -/
structure KeepX (X : Obj → Prop) (w w' : World) : Prop where
  os : w'.os = w.os
  tape : w'.tape = w.tape
  output : w'.output = w.output
  size : w.heap.size ≤ w'.heap.size
  block : ∀ (k : Nat) (o : Obj), w.heap[k]? = some o → ¬ X o → w'.heap[k]? = some o
/-- A tree's sorts of blocks. -/
def TreeObj (o : Obj) : Prop := (∃ es c, o = .map es c) ∨ ∃ cs T fz, o = .cells cs T fz ∧ (T = 91 ∨ T = 95)
/-- A disk's. -/
def DiskObj (o : Obj) : Prop := TreeObj o ∨ ∃ cs T fz, o = .cells cs T fz ∧ (T = 83 ∨ T = 74)
section
variable {X Y : Obj → Prop} {w w' w2 : World} {B n : Nat}
theorem KeepX.refl (X : Obj → Prop) (w : World) : KeepX X w w := ⟨rfl, rfl, rfl, Nat.le_refl _, fun _ _ h _ => h⟩
theorem KeepX.trans (h : KeepX X w w') (k : KeepX X w' w2) : KeepX X w w2 :=
  ⟨k.os.trans h.os, k.tape.trans h.tape, k.output.trans h.output, Nat.le_trans h.size k.size, fun i o hi hn => k.block i o (h.block i o hi hn) hn⟩
theorem lt_of_some {k : Nat} {o : Obj} (h : w.heap[k]? = some o) : k < w.heap.size := (Array.getElem?_eq_some_iff.1 h).1
theorem KeepX.ofBelow (h : Below w.heap.size w w') : KeepX X w w' := ⟨h.os, h.tape, h.output, h.size, fun k o hk _ => (h.block k (lt_of_some hk)).trans hk⟩
theorem KeepX.weak (h : KeepX X w w') (hX : ∀ o, X o → Y o) : KeepX Y w w' := ⟨h.os, h.tape, h.output, h.size, fun k o hk hn => h.block k o hk fun e => hn (hX o e)⟩
theorem KeepX.ofKeep {F : Nat → Prop} (h : Keep F w w') (hF : ∀ k, F k → ∃ o, w.heap[k]? = some o ∧ X o) : KeepX X w w' :=
  ⟨h.os, h.tape, h.output, h.size, fun k o hk hn => (h.block k (lt_of_some hk) fun hf => by
    obtain ⟨o', h1, h2⟩ := hF k hf
    rw [hk] at h1
    cases h1
    exact hn h2).trans hk⟩
theorem KeepX.ofOth {a : Nat} (h : Oth a w w') {o : Obj} (ha : w.heap[a]? = some o) (hX : X o) : KeepX X w w' :=
  ⟨h.1, h.2.1, h.2.2.1, h.2.2.2.1, fun k o' hk hn => (h.2.2.2.2 k (lt_of_some hk) fun e => by
    subst e
    rw [ha] at hk
    cases hk
    exact hn hX).trans hk⟩
theorem KeepX.ofGrown {v : Value} (h : w.grownBy w' v.ownBlock) (hX : ∀ a, v.ownBlock = some a → ∃ o, w.heap[a]? = some o ∧ X o) : KeepX X w w' :=
  ⟨h.os, h.tape, h.output, h.size, fun k o hk hn => (h.block k (lt_of_some hk) fun e => by
    obtain ⟨o', h1, h2⟩ := hX k e.symm
    rw [hk] at h1
    cases h1
    exact hn h2).trans hk⟩
theorem KeepX.setCell {a j : Nat} {o : Obj} (ha : w.heap[a]? = some o) (hX : X o) (v : Value) : KeepX X w (w.setCell ⟨a, j, none⟩ v) := KeepX.ofOth ((Oth.refl a w).setCell j v) ha hX
/-- X has no block of bytes. -/
def NoU8 (X : Obj → Prop) : Prop := ∀ cs fz, ¬ X (.cells cs 5 fz)
theorem tree_u8 : NoU8 TreeObj := by
  rintro cs fz (⟨_, _, h⟩ | ⟨_, _, _, h, h1 | h1⟩)
  · cases h
  · cases h; cases h1
  · cases h; cases h1
theorem disk_u8 : NoU8 DiskObj := by
  rintro cs fz (h | ⟨_, _, _, h, h1 | h1⟩)
  · exact tree_u8 _ _ h
  · cases h; cases h1
  · cases h; cases h1
theorem BX.keptX {a : Nat} {U : TypeId} {cs : Array Value} (h : BX w a U cs) (hk : KeepX X w w') (hn : ¬ X (.cells cs U (0, 0))) : BX w' a U cs := hk.block a _ h hn
theorem own_keptX {base size m : Nat} {e : TypeId} {v : Value} {xs : List Value} (h : w.ownsRow base e size v m xs) (hk : KeepX X w w') (hX : ∀ cs fz, ¬ X (.cells cs e fz)) : w'.ownsRow base e size v m xs :=
  own_keep13 h fun k hk2 => by
    rcases h.2 with ⟨e1, _⟩ | ⟨g, cap, cur, e1, _, hg, _⟩
    · subst e1; cases hk2
    · subst e1
      obtain rfl : g = k := by simpa [Value.ownBlock] using hk2
      rw [hg]
      exact hk.block g _ hg (hX _ _)
end
/-- A tree's own blocks. -/
def Fm (T : Tr) (tb : Nat) (ad mb : Nat → Nat) (k : Nat) : Prop := k = tb ∨ ∃ p n, (p, n) ∈ T.paths ∧ (k = ad n ∨ ((T.nd n).kind = 4 ∧ k = mb n))
section
variable {F : Nat → Prop} {K tb : Nat} {w w' : World} {T : Tr} {ad mb : Nat → Nat}
theorem RepP.min (h : RepP F K w tb T ad mb) : RepP (Fm T tb ad mb) K w tb T ad mb :=
  ⟨h.tree, .inl rfl, fun p n hp => ⟨(h.node p n hp).1, .inr ⟨p, n, hp, .inl rfl⟩⟩, h.inj, fun p n hp hk => ⟨.inr ⟨p, n, hp, .inr ⟨hk, rfl⟩⟩, (h.map p n hp hk).2⟩, h.minj⟩
theorem RepP.fm (h : RepP F K w tb T ad mb) {k : Nat} (hk : Fm T tb ad mb k) : F k := by
  rcases hk with rfl | ⟨p, n, hp, rfl | ⟨h4, rfl⟩⟩
  · exact h.ftree
  · exact (h.node p n hp).2
  · exact (h.map p n hp h4).1
theorem RepP.sort (h : RepP F K w tb T ad mb) {k : Nat} (hk : Fm T tb ad mb k) : ∃ o, w.heap[k]? = some o ∧ TreeObj o := by
  rcases hk with rfl | ⟨p, n, hp, rfl | ⟨h4, rfl⟩⟩
  · exact ⟨_, h.tree, .inr ⟨_, _, _, rfl, .inr rfl⟩⟩
  · exact ⟨_, (h.node p n hp).1, .inr ⟨_, _, _, rfl, .inl rfl⟩⟩
  · obtain ⟨D, ⟨es, clock, h1, _⟩, _⟩ := (h.map p n hp h4).2
    exact ⟨_, h1, .inl ⟨_, _, rfl⟩⟩
theorem RepP.lt (h : RepP F K w tb T ad mb) {k : Nat} (hk : Fm T tb ad mb k) : k < w.heap.size := by
  obtain ⟨o, h1, _⟩ := h.sort hk
  exact lt_of_some h1
theorem RepP.er (h : RepP F K w tb T ad mb) : RepP F K w tb T.er ad mb := by
  have hk : ∀ n, (T.er.nd n).kind = (T.nd n).kind := fun n => by rw [Nt.nd_er]; rfl
  refine ⟨?_, h.ftree, fun p n hp => ?_, h.inj, fun p n hp h4 => h.map p n hp (by rw [← hk]; exact h4), fun p q n m h1 h2 h3 h4 => h.minj p q n m h1 h2 (by rw [← hk]; exact h3) (by rw [← hk]; exact h4)⟩
  · have := h.tree
    rwa [← Nt.usedN_er (T := T), ← Nt.usedB_er (T := T)] at this
  · have h1 := h.node p n hp
    have e : mbv T.er mb n = mbv T mb n := by unfold mbv; rw [hk]
    rw [e, Nt.nd_er]
    exact h1
theorem Fm.er {k : Nat} : Fm T.er tb ad mb k ↔ Fm T tb ad mb k := by
  have hk : ∀ n, (T.er.nd n).kind = (T.nd n).kind := fun n => by rw [Nt.nd_er]; rfl
  unfold Fm
  simp only [hk]
  exact Iff.rfl
end
/-- A deed's cells. -/
abbrev DdC (y : Dd) : Array Value := #[.int .i64 y.kd, .string y.p, .string y.q, .int .i64 y.a, .int .i64 y.b, .int .i64 y.c, .int .i64 y.d, .slice y.A y.n y.k]
def ddL (l : List Dd) : List Value := l.flatMap fun y => (DdC y).toList
/-- BYTES READ, of the sort of bytes. -/
structure RBT (w : World) (A : Option Addr) (n : Nat) (xs : List Int) : Prop where
  rb : RB w w.heap.size A n xs
  ty : 0 < n → ∃ b o cs fz, A = some ⟨b, o, none⟩ ∧ w.heap[b]? = some (.cells cs 5 fz)
section
variable {w w' : World} {A : Option Addr} {n : Nat} {xs : List Int} {X : Obj → Prop}
theorem RBT.keptX (h : RBT w A n xs) (hk : KeepX X w w') (hX : NoU8 X) : RBT w' A n xs := by
  refine ⟨⟨h.rb.1, fun hn => ?_⟩, fun hn => ?_⟩
  · obtain ⟨b, o, e, hlt, hc⟩ := h.rb.2 hn
    obtain ⟨b', o', cs, fz, e', ht⟩ := h.ty hn
    rw [e] at e'
    cases e'
    have h3 := hk.block b _ ht (hX _ _)
    exact ⟨b, o, e, Nat.lt_of_lt_of_le hlt hk.size, fun i hi => (World.cell?_of_block (a := ⟨b, o + i, none⟩) (h3.trans ht.symm)).trans (hc i hi)⟩
  · obtain ⟨b', o', cs, fz, e', ht⟩ := h.ty hn
    exact ⟨b', o', cs, fz, e', hk.block b' _ ht (hX _ _)⟩
theorem RBT.below (h : RBT w A n xs) (hb : Below w.heap.size w w') : RBT w' A n xs := RBT.keptX (X := fun _ => False) h (KeepX.ofBelow hb) fun _ _ h => h
theorem RBT.pre (h : RBT w A n xs) {k : Nat} (hk : k ≤ n) : RBT w A k (xs.take k) := ⟨h.rb.pre hk, fun hn => h.ty (by omega)⟩
theorem RBT.set {a : Nat} {U : TypeId} {cs : Array Value} (h : RBT w A n xs) (hb : BX w a U cs) (hU : U ≠ 5) (j : Nat) (v : Value) : RBT (w.setCell ⟨a, j, none⟩ v) A n xs :=
  h.keptX (KeepX.setCell (X := fun o => ∃ cs fz, o = .cells cs U fz) hb ⟨_, _, rfl⟩ v) (by rintro cs fz ⟨_, _, e⟩; cases e; exact hU rfl)
theorem OBn.rbt {base c : Nat} (h : OBn w base 5 (.slice A n c) n xs) : RBT w A n xs := by
  obtain ⟨A', c', e, hr, _⟩ := h.slice
  cases e
  refine ⟨hr, fun hn => ?_⟩
  rcases h.2 with ⟨_, h1⟩ | ⟨g, cap, cur, e1, _, hg, _⟩
  · omega
  · cases e1
    exact ⟨g, 0, _, _, rfl, hg⟩
end
/-- A deed's bytes are there; its sizes. -/
structure DOk (w : World) (y : Dd) : Prop where
  rbt : RBT w y.A y.n y.xs
  cap : y.n ≤ y.k ∧ y.k ≤ maxLen
  small : y.p.size ≤ 1000 ∧ y.q.size ≤ 1000 ∧ y.n ≤ 5000
section
variable {w w' : World} {y : Dd} {l : List Dd}
theorem DOk.rb (h : DOk w y) : RB w w.heap.size y.A y.n y.xs := h.rbt.rb
theorem DOk.below (h : DOk w y) (hb : Below w.heap.size w w') : DOk w' y := ⟨h.rbt.below hb, h.cap, h.small⟩
theorem DOk.keptX {X : Obj → Prop} (h : DOk w y) (hk : KeepX X w w') (hX : NoU8 X) : DOk w' y := ⟨h.rbt.keptX hk hX, h.cap, h.small⟩
theorem ddL_len (l : List Dd) : (ddL l).length = l.length * 8 := by
  unfold ddL
  induction l with
  | nil => rfl
  | cons y r ih => rw [List.flatMap_cons, List.length_append, ih]; show 8 + r.length * 8 = (r.length + 1) * 8; omega
theorem ddL_app (l m : List Dd) : ddL (l ++ m) = ddL l ++ ddL m := by unfold ddL; rw [List.flatMap_append]
theorem ddL_at {l : List Dd} {j i : Nat} {y : Dd} {v : Value} (hj : l[j]? = some y) (hi : (DdC y)[i]? = some v) : (ddL l)[j * 8 + i]? = some v := by
  have hi8 : i < 8 := (Array.getElem?_eq_some_iff.1 hi).1
  induction l generalizing j with
  | nil => simp at hj
  | cons z r ih =>
    unfold ddL
    rw [List.flatMap_cons]
    rcases j with _ | j
    · obtain rfl : z = y := by simpa using hj
      rw [List.getElem?_append_left (by show 0 * 8 + i < 8; omega), show 0 * 8 + i = i from by omega]
      simpa using hi
    · rw [List.getElem?_append_right (by show 8 ≤ _; omega)]
      show (ddL r)[(j + 1) * 8 + i - 8]? = _
      rw [show (j + 1) * 8 + i - 8 = j * 8 + i from by omega]
      exact ih (by simpa using hj)
theorem ddL_one : ∀ u ∈ ddL l, u.oneCell' = true := by
  intro u hu
  unfold ddL at hu
  rw [List.mem_flatMap] at hu
  obtain ⟨y, _, h⟩ := hu
  simp at h
  rcases h with rfl | rfl | rfl | rfl | rfl | rfl | rfl | rfl <;> rfl
end
/-- A ROW OF DEEDS, of the sort of deeds, with their bytes. -/
def DL (w : World) (A : Option Addr) (n : Nat) (l : List Dd) : Prop :=
  l.length = n ∧ (0 < n → ∃ b o, A = some ⟨b, o, none⟩ ∧ (∃ cs fz, w.heap[b]? = some (.cells cs 74 fz)) ∧ ∀ (j : Nat) y, l[j]? = some y → ∀ (i : Nat) u, (DdC y)[i]? = some u → w.cell? ⟨b, o + j * 8 + i, none⟩ = some u) ∧ ∀ y ∈ l, DOk w y
section
variable {w w' : World} {A : Option Addr} {n : Nat} {l : List Dd}
theorem deed_tree {cs : Array Value} {fz : Nat × Nat} : ¬ TreeObj (.cells cs 74 fz) := by
  rintro (⟨_, _, h⟩ | ⟨_, _, _, h, h1 | h1⟩)
  · cases h
  · cases h; cases h1
  · cases h; cases h1
theorem diskd_tree {cs : Array Value} {fz : Nat × Nat} : ¬ TreeObj (.cells cs 83 fz) := by
  rintro (⟨_, _, h⟩ | ⟨_, _, _, h, h1 | h1⟩)
  · cases h
  · cases h; cases h1
  · cases h; cases h1
theorem DL.nil : DL w A 0 [] := ⟨rfl, fun h => absurd h (by omega), fun y hy => (by cases hy)⟩
theorem DL.kept {X : Obj → Prop} (h : DL w A n l) (hk : KeepX X w w') (hX : NoU8 X) (hd : ∀ cs fz, ¬ X (.cells cs 74 fz)) : DL w' A n l :=
  ⟨h.1, fun hn => by
    obtain ⟨b, o, e, ⟨cs, fz, hb⟩, hc⟩ := h.2.1 hn
    have h3 := hk.block b _ hb (hd _ _)
    exact ⟨b, o, e, ⟨cs, fz, h3⟩, fun j y hj i u hu => (World.cell?_of_block (a := ⟨b, o + j * 8 + i, none⟩) (h3.trans hb.symm)).trans (hc j y hj i u hu)⟩, fun y hy => (h.2.2 y hy).keptX hk hX⟩
theorem DL.below (h : DL w A n l) (hb : Below w.heap.size w w') : DL w' A n l :=
  DL.kept (X := fun _ => False) h (KeepX.ofBelow hb) (fun _ _ h => h) fun _ _ h => h
theorem DL.at_ (h : DL w A n l) {j : Nat} (hj : j < n) : ∃ b o y, A = some ⟨b, o, none⟩ ∧ l[j]? = some y ∧ DOk w y ∧ ∀ (i : Nat) u, (DdC y)[i]? = some u → w.cell? ⟨b, o + j * 8 + i, none⟩ = some u := by
  obtain ⟨b, o, e, _, hc⟩ := h.2.1 (by omega)
  have hl : j < l.length := by rw [h.1]; exact hj
  exact ⟨b, o, l[j], e, List.getElem?_eq_getElem hl, h.2.2 _ (List.getElem_mem hl), hc j _ (List.getElem?_eq_getElem hl)⟩
theorem own_dl {base : Nat} {v : Value} (h : w.ownsRow base 74 8 v l.length (ddL l)) (hd : ∀ y ∈ l, DOk w y) : ∃ A c, v = .slice A l.length c ∧ DL w A l.length l ∧ l.length ≤ c ∧ c ≤ maxLen := by
  rcases h.2 with ⟨e, h0⟩ | ⟨g, cap, cur, e, _, hg, h1, h2, h3, h4⟩
  · refine ⟨none, 0, by rw [e, h0], ⟨rfl, fun hn => absurd hn (by omega), hd⟩, by omega, by decide⟩
  · refine ⟨_, cap, e, ⟨rfl, fun _ => ⟨g, 0, rfl, ⟨_, _, hg⟩, fun j y hj i u hu => ?_⟩, hd⟩, h1, h2⟩
    have e1 := ddL_at hj hu
    rw [← h4, List.getElem?_take] at e1
    split at e1
    · rw [cell_of_row w g _ cur _ _ hg, show 0 + j * 8 + i = j * 8 + i from by omega]
      simpa using e1
    · cases e1
theorem DL.pre {k : Nat} (h : DL w A n l) (hk : k ≤ n) : DL w A k (l.take k) :=
  ⟨by rw [List.length_take, h.1]; omega, (fun hn => by
    obtain ⟨b, o, e, hb, hc⟩ := h.2.1 (by omega)
    refine ⟨b, o, e, hb, fun j x hj i v hv => hc j x ?_ i v hv⟩
    rw [List.getElem?_take] at hj
    split at hj
    · exact hj
    · cases hj), fun y hy => h.2.2 y (List.mem_of_mem_take hy)⟩
theorem DL.suf {k b o : Nat} (h : DL w (some ⟨b, o, none⟩) n l) (hk : k < n) : DL w (some ⟨b, o + k * 8, none⟩) (n - k) (l.drop k) :=
  ⟨by rw [List.length_drop, h.1], fun hn => by
    obtain ⟨b', o', e, hb, hc⟩ := h.2.1 (by omega)
    cases e
    refine ⟨b, o + k * 8, rfl, hb, fun j x hj i v hv => ?_⟩
    rw [List.getElem?_drop] at hj
    have := hc _ x hj i v hv
    rw [show o + k * 8 + j * 8 + i = o + (k + j) * 8 + i from by omega]
    exact this, fun y hy => h.2.2 y (List.mem_of_mem_drop hy)⟩
end
end Go.Proofs.YtbianfjennnofaaGreatDoor
/- WALKS OF LAYER 14, FIRST PART: Apply. -/
namespace Go.Proofs.YtbianfjennnofaaGreatDoor
set_option linter.unusedVariables false
open Go Go.RowKit Go.Maps
set_option maxRecDepth 100000
set_option maxHeartbeats 8000000
open Nt (Tr Nd WF Ps Path at_ cnt used Dd Dk ap)
theorem Done.frame14 {F : Nat → Prop} {K tb : Nat} {w w1 w' : World} {r : Tr × Int} {e : Ending} (hb : Below w.heap.size w w1) (hd : Done F K w1 w' tb r e) : Done F K w w' tb r e := by
  obtain ⟨h1, ⟨ad, mb, h2⟩, h3⟩ := hd
  refine ⟨h1, ⟨ad, mb, h2.weak ?_ (Nat.le_refl _)⟩, Keep.grow hb h3⟩
  rintro k (h | h)
  · exact .inl h
  · exact .inr ⟨Nat.le_trans hb.size h.1, h.2⟩
theorem tc_u8 {a : Nat} {x y u v : Int} : ∀ (i : Nat) z, (#[.pointer (some ⟨a, 0, none⟩), .int .i64 x, .int .i64 y, .int .i64 u, .int .i64 v] : Array Value)[i]? ≠ some (.int .u8 z) := by
  intro i z
  rcases i with _ | _ | _ | _ | _ | i <;> simp
theorem apply_done {F : Nat → Prop} {w : World} {tb K : Nat} {T : Tr} {ad mb : Nat → Nat} (hW : WF T K) (hK : K ≤ 100000) (hR : RepP F K w tb T ad mb) (y : Dd) (hp0 : y.p.size ≤ 100000) (hq0 : y.q.size ≤ 100000) (hd0 : RB w w.heap.size y.A y.n y.xs) (hn0 : y.n ≤ 1000000) :
    Calls Tryz.prog 37 #[.pointer (some ⟨tb, 0, none⟩), .agg (DdC y)] w fun e w' => Done F K w w' tb (ap T y) e := by
  obtain ⟨kd, p, q, a, b, c, d, A, n, k, xs⟩ := y
  have hp : p.size ≤ 100000 := hp0
  have hq : q.size ≤ 100000 := hq0
  have hd : RB w w.heap.size A n xs := hd0
  have hn : n ≤ 1000000 := hn0
  clear hp0 hq0 hd0 hn0
  have hb := below_new w (.cells (DdC ⟨kd, p, q, a, b, c, d, A, n, k, xs⟩) 74)
  have HA := hR.later hb
  have HR2 : RB (w.alloc (.cells (DdC ⟨kd, p, q, a, b, c, d, A, n, k, xs⟩) 74)) (w.alloc (.cells (DdC ⟨kd, p, q, a, b, c, d, A, n, k, xs⟩) 74)).heap.size A n xs := (hd.below hb).more hb.size
  have HB := Lib.hid hb
  unfold ap
  dsimp only
  by_cases h1 : kd = 1
  · subst h1
    rw [if_pos rfl]
    have kk := Lib.hid (mkdir_any hW hK HA p (by omega) a b c d)
    clear hW hR hb HA HR2 hd
    go_enter Tryz.func37, Tryz.ntmps37
    go_wp2_with (go_at_call 40; refine kk.out.mono ?_; rintro e w1 ⟨rfl, h1⟩)
    go_ret
    exact Done.frame14 HB.out ⟨rfl, h1⟩
  by_cases h2 : kd = 2
  · subst h2
    rw [if_neg (by decide), if_pos rfl]
    have kk := Lib.hid (create_any hW hK HA p (by omega) a b c d A n k xs HR2 hn)
    clear hW hR hb HA HR2 hd
    go_enter Tryz.func37, Tryz.ntmps37
    go_wp2_with (go_at_call 41; refine kk.out.mono ?_; rintro e w1 ⟨rfl, h1⟩)
    go_ret
    exact Done.frame14 HB.out ⟨rfl, h1⟩
  by_cases h3 : kd = 3
  · subst h3
    rw [if_neg (by decide), if_neg (by decide), if_pos rfl]
    have kk := Lib.hid (sym_any hW hK HA p (by omega) a b c d q (by omega))
    clear hW hR hb HA HR2 hd
    go_enter Tryz.func37, Tryz.ntmps37
    go_wp2_with (go_at_call 55; refine kk.out.mono ?_; rintro e w1 ⟨rfl, h1⟩)
    go_ret
    exact Done.frame14 HB.out ⟨rfl, h1⟩
  by_cases h4 : kd = 4
  · subst h4
    rw [if_neg (by decide), if_neg (by decide), if_neg (by decide), if_pos rfl]
    have kk := Lib.hid (link_any hW hK HA p q (by omega) (by omega))
    clear hW hR hb HA HR2 hd
    go_enter Tryz.func37, Tryz.ntmps37
    go_wp2_with (go_at_call 42; refine kk.out.mono ?_; rintro e w1 ⟨rfl, h1⟩)
    go_ret
    exact Done.frame14 HB.out ⟨rfl, h1⟩
  by_cases h5 : kd = 5
  · subst h5
    rw [if_neg (by decide), if_neg (by decide), if_neg (by decide), if_neg (by decide), if_pos rfl]
    have kk := Lib.hid (write_gen hW hK HA p (by omega) A n k xs _ HR2 (Nat.le_refl _) (RB.apart13 HR2 HA.tree tc_u8) hn)
    clear hW hR hb HA HR2 hd
    go_enter Tryz.func37, Tryz.ntmps37
    go_wp2_with (go_at_call 56; refine kk.out.mono ?_; rintro e w1 ⟨rfl, h1⟩)
    go_ret
    exact Done.frame14 HB.out ⟨rfl, h1⟩
  by_cases h6 : kd = 6
  · subst h6
    rw [if_neg (by decide), if_neg (by decide), if_neg (by decide), if_neg (by decide), if_neg (by decide), if_pos rfl]
    have kk := Lib.hid (set_any hW hK HA p (by omega) a b c d)
    clear hW hR hb HA HR2 hd
    go_enter Tryz.func37, Tryz.ntmps37
    go_wp2_with (go_at_call 57; refine kk.out.mono ?_; rintro e w1 ⟨rfl, h1⟩)
    go_ret
    exact Done.frame14 HB.out ⟨rfl, h1⟩
  by_cases h7 : kd = 7
  · subst h7
    rw [if_neg (by decide), if_neg (by decide), if_neg (by decide), if_neg (by decide), if_neg (by decide), if_neg (by decide), if_pos rfl]
    have kk := Lib.hid (remove_any hW hK HA p (by omega))
    clear hW hR hb HA HR2 hd
    go_enter Tryz.func37, Tryz.ntmps37
    go_wp2_with (go_at_call 45; refine kk.out.mono ?_; rintro e w1 ⟨rfl, h1⟩)
    go_ret
    exact Done.frame14 HB.out ⟨rfl, h1⟩
  by_cases h8 : kd = 8
  · subst h8
    rw [if_neg (by decide), if_neg (by decide), if_neg (by decide), if_neg (by decide), if_neg (by decide), if_neg (by decide), if_neg (by decide), if_pos rfl]
    have kk := Lib.hid (clear_any hW hK HA p (by omega))
    clear hW hR hb HA HR2 hd
    go_enter Tryz.func37, Tryz.ntmps37
    go_wp2_with (go_at_call 58; refine kk.out.mono ?_; rintro e w1 ⟨rfl, h1⟩)
    go_ret
    exact Done.frame14 HB.out ⟨rfl, h1⟩
  by_cases h9 : kd = 9
  · subst h9
    rw [if_neg (by decide), if_neg (by decide), if_neg (by decide), if_neg (by decide), if_neg (by decide), if_neg (by decide), if_neg (by decide), if_neg (by decide), if_pos rfl]
    have kk := Lib.hid (rename_any hW hK HA p q hp hq)
    clear hW hR hb HA HR2 hd
    go_enter Tryz.func37, Tryz.ntmps37
    go_wp2_with (go_at_call 47; refine kk.out.mono ?_; rintro e w1 ⟨rfl, h1⟩)
    go_ret
    exact Done.frame14 HB.out ⟨rfl, h1⟩
  rw [if_neg h1, if_neg h2, if_neg h3, if_neg h4, if_neg h5, if_neg h6, if_neg h7, if_neg h8, if_neg h9]
  have g1 : (kd == 1) = false := by simp [h1]
  have g2 : (kd == 2) = false := by simp [h2]
  have g3 : (kd == 3) = false := by simp [h3]
  have g4 : (kd == 4) = false := by simp [h4]
  have g5 : (kd == 5) = false := by simp [h5]
  have g6 : (kd == 6) = false := by simp [h6]
  have g7 : (kd == 7) = false := by simp [h7]
  have g8 : (kd == 8) = false := by simp [h8]
  have g9 : (kd == 9) = false := by simp [h9]
  have HR := Lib.hid hR
  clear hW hR hb HA HR2 hd
  go_enter Tryz.func37, Tryz.ntmps37
  go_wp2
  go_ret
  exact Done.err HR.out HB.out 1
end Go.Proofs.YtbianfjennnofaaGreatDoor
/- WALKS OF LAYER 14, SECOND PART: a disk's small methods. -/
namespace Go.Proofs.YtbianfjennnofaaGreatDoor
set_option linter.unusedVariables false
open Go Go.RowKit Go.Maps
set_option maxRecDepth 100000
set_option maxHeartbeats 4000000
open Nt (Tr Nd WF Ps Path at_ cnt used Dd Dk ap)
/-- A disk's cells. -/
abbrev DkC (dt vt : Nat) (v : Value) (sy fu : Int) : Array Value := #[.pointer (some ⟨dt, 0, none⟩), .pointer (some ⟨vt, 0, none⟩), v, .int .i64 sy, .int .i64 fu]
section
variable {w : World} {db dt vt : Nat} {v : Value} {sy fu : Int}
theorem dmade_any (h : BX w db 83 (DkC dt vt v sy fu)) : Calls Tryz.prog 71 #[.pointer (some ⟨db, 0, none⟩)] w fun e w' => e = .returned (.bool true) ∧ w = w' := by
  have c0 : w.cell? ⟨db, 0, none⟩ = some (.pointer (some ⟨dt, 0, none⟩)) := h.cell rfl
  clear h
  go_enter Tryz.func71, Tryz.ntmps71
  go_wp2
  go_ret
  exact ⟨rfl, rfl⟩
theorem ddark_any (h : BX w db 83 (DkC dt vt v sy fu)) : Calls Tryz.prog 30 #[.pointer (some ⟨db, 0, none⟩)] w fun e w' => e = .returned (.bool (fu == 0)) ∧ w = w' := by
  have c4 : w.cell? ⟨db, 4, none⟩ = some (.int .i64 fu) := h.cell rfl
  have k := Lib.hid (dmade_any h)
  clear h
  go_enter Tryz.func30, Tryz.ntmps30
  go_wp2_with (go_at_call 71; refine k.out.mono ?_; rintro e w1 ⟨rfl, rfl⟩)
  go_ret
  exact ⟨rfl, rfl⟩
theorem dsyncs_any (h : BX w db 83 (DkC dt vt v sy fu)) : Calls Tryz.prog 29 #[.pointer (some ⟨db, 0, none⟩)] w fun e w' => e = .returned (.int .i64 sy) ∧ w = w' := by
  have c3 : w.cell? ⟨db, 3, none⟩ = some (.int .i64 sy) := h.cell rfl
  have k := Lib.hid (dmade_any h)
  clear h
  go_enter Tryz.func29, Tryz.ntmps29
  go_wp2_with (go_at_call 71; refine k.out.mono ?_; rintro e w1 ⟨rfl, rfl⟩)
  go_ret
  exact ⟨rfl, rfl⟩
theorem dfuse_any (h : BX w db 83 (DkC dt vt v sy fu)) (n : Int) : Calls Tryz.prog 38 #[.pointer (some ⟨db, 0, none⟩), .int .i64 n] w fun e w' => e = .returned (.tuple #[]) ∧ BX w' db 83 (DkC dt vt v sy n) ∧ Oth db w w' := by
  have c4 : w.cell? ⟨db, 4, none⟩ = some (.int .i64 fu) := h.cell rfl
  have f4 := h.free 4
  have k := Lib.hid (dmade_any h)
  have H := Lib.hid h
  clear h
  go_enter Tryz.func38, Tryz.ntmps38
  go_wp2_with (go_at_call 71; refine k.out.mono ?_; rintro e w1 ⟨rfl, rfl⟩)
  refine bodyPost_end (v := .tuple #[]) (by simp [results, Tryz.f38, go_sem]) rfl ?_
  exact ⟨rfl, H.out.set 4 _, (Oth.refl _ _).setCell _ _⟩
theorem dburn_any (h : BX w db 83 (DkC dt vt v sy fu)) (h63 : fu ≤ 9223372036854775807) : Calls Tryz.prog 74 #[.pointer (some ⟨db, 0, none⟩)] w fun e w' => e = .returned (.tuple #[]) ∧ BX w' db 83 (DkC dt vt v sy (Nt.burn fu)) ∧ Oth db w w' := by
  have c4 : w.cell? ⟨db, 4, none⟩ = some (.int .i64 fu) := h.cell rfl
  have f4 := h.free 4
  have H := Lib.hid h
  clear h
  unfold Nt.burn
  by_cases h0 : 0 < fu
  · rw [if_pos h0]
    have hw : wrap64 (fu - 1) = fu - 1 := by unfold wrap64; omega
    go_enter Tryz.func74, Tryz.ntmps74
    go_wp2
    refine bodyPost_end (v := .tuple #[]) (by simp [results, Tryz.f74, go_sem]) rfl ?_
    exact ⟨rfl, H.out.set 4 _, (Oth.refl _ _).setCell _ _⟩
  · rw [if_neg h0]
    go_enter Tryz.func74, Tryz.ntmps74
    go_wp2
    refine bodyPost_end (v := .tuple #[]) (by simp [results, Tryz.f74, go_sem]) rfl ?_
    exact ⟨rfl, H.out, Oth.refl _ _⟩
end
end Go.Proofs.YtbianfjennnofaaGreatDoor
/- WALKS OF LAYER 14, THIRD PART: a deed is copied. -/
namespace Go.Proofs.YtbianfjennnofaaGreatDoor
set_option linter.unusedVariables false
open Go Go.RowKit Go.Maps
set_option maxRecDepth 100000
set_option maxHeartbeats 4000000
open Nt (Tr Nd WF Ps Path at_ cnt used Dd Dk ap)
abbrev Dz : Array Value := #[.int .i64 0, .string ⟨#[]⟩, .string ⟨#[]⟩, .int .i64 0, .int .i64 0, .int .i64 0, .int .i64 0, .slice none 0 0]
theorem dd_u8 {y : Dd} : ∀ (i : Nat) z, (DdC y)[i]? ≠ some (.int .u8 z) := by
  intro i z
  rcases i with _ | _ | _ | _ | _ | _ | _ | _ | i <;> simp
theorem dz_u8 : ∀ (i : Nat) z, Dz[i]? ≠ some (.int .u8 z) := by
  intro i z
  rcases i with _ | _ | _ | _ | _ | _ | _ | _ | i <;> simp
theorem BX.set8' {w : World} {a : Nat} {T : TypeId} {z0 z1 z2 z3 z4 z5 z6 z7 : Value} (h : BX w a T #[z0, z1, z2, z3, z4, z5, z6, z7]) (v0 v1 v2 v3 v4 v5 v6 v7 : Value) : BX ((((((((w.setCell ⟨a, 0, none⟩ v0).setCell ⟨a, 1, none⟩ v1).setCell ⟨a, 2, none⟩ v2).setCell ⟨a, 3, none⟩ v3).setCell ⟨a, 4, none⟩ v4).setCell ⟨a, 5, none⟩ v5).setCell ⟨a, 6, none⟩ v6).setCell ⟨a, 7, none⟩ v7) a T #[v0, v1, v2, v3, v4, v5, v6, v7] := by
  have h8 := ((((((((((((((((h).set 0 v0)).set 1 v1)).set 2 v2)).set 3 v3)).set 4 v4)).set 5 v5)).set 6 v6)).set 7 v7)
  simpa using h8
theorem RBT.set8' {w : World} {a n : Nat} {A : Option Addr} {xs : List Int} {T : TypeId} {cs : Array Value} (h : RBT w A n xs) (hb : BX w a T cs) (hT : T ≠ 5) (v0 v1 v2 v3 v4 v5 v6 v7 : Value) : RBT ((((((((w.setCell ⟨a, 0, none⟩ v0).setCell ⟨a, 1, none⟩ v1).setCell ⟨a, 2, none⟩ v2).setCell ⟨a, 3, none⟩ v3).setCell ⟨a, 4, none⟩ v4).setCell ⟨a, 5, none⟩ v5).setCell ⟨a, 6, none⟩ v6).setCell ⟨a, 7, none⟩ v7) A n xs :=
  (((((((h.set hb hT 0 v0).set (hb.set 0 v0) hT 1 v1).set ((hb.set 0 v0).set 1 v1) hT 2 v2).set (((hb.set 0 v0).set 1 v1).set 2 v2) hT 3 v3).set ((((hb.set 0 v0).set 1 v1).set 2 v2).set 3 v3) hT 4 v4).set (((((hb.set 0 v0).set 1 v1).set 2 v2).set 3 v3).set 4 v4) hT 5 v5).set ((((((hb.set 0 v0).set 1 v1).set 2 v2).set 3 v3).set 4 v4).set 5 v5) hT 6 v6).set (((((((hb.set 0 v0).set 1 v1).set 2 v2).set 3 v3).set 4 v4).set 5 v5).set 6 v6) hT 7 v7
theorem below_set8' {w w' : World} {B a : Nat} (h : Below B w w') (ha : B ≤ a) (v0 v1 v2 v3 v4 v5 v6 v7 : Value) : Below B w ((((((((w'.setCell ⟨a, 0, none⟩ v0).setCell ⟨a, 1, none⟩ v1).setCell ⟨a, 2, none⟩ v2).setCell ⟨a, 3, none⟩ v3).setCell ⟨a, 4, none⟩ v4).setCell ⟨a, 5, none⟩ v5).setCell ⟨a, 6, none⟩ v6).setCell ⟨a, 7, none⟩ v7) :=
  (((((((h.setCell (p := ⟨a, 0, none⟩) ha v0).setCell (p := ⟨a, 1, none⟩) ha v1).setCell (p := ⟨a, 2, none⟩) ha v2).setCell (p := ⟨a, 3, none⟩) ha v3).setCell (p := ⟨a, 4, none⟩) ha v4).setCell (p := ⟨a, 5, none⟩) ha v5).setCell (p := ⟨a, 6, none⟩) ha v6).setCell (p := ⟨a, 7, none⟩) ha v7
theorem copied14_any (y : Dd) (w : World) (hd0 : RB w w.heap.size y.A y.n y.xs) (hp0 : y.p.size ≤ 1000000) (hq0 : y.q.size ≤ 1000000) (hn0 : y.n ≤ 1000000) :
    Calls Tryz.prog 72 #[.agg (DdC y)] w fun e w' => ∃ A' k', e = .returned (.agg (DdC { y with A := A', k := k' })) ∧ RBT w' A' y.n y.xs ∧ y.n ≤ k' ∧ k' ≤ maxLen ∧ Below w.heap.size w w' := by
  obtain ⟨kd, p, q, a, b, c, d, A, n, k, xs⟩ := y
  have hd : RB w w.heap.size A n xs := hd0
  have hp : p.size ≤ 1000000 := hp0
  have hq : q.size ≤ 1000000 := hq0
  have hn : n ≤ 1000000 := hn0
  clear hd0 hp0 hq0 hn0
  have hb0 := bthen (below_new w (.cells (DdC ⟨kd, p, q, a, b, c, d, A, n, k, xs⟩) 74)) (below_new _ (.cells Dz 74))
  obtain ⟨W2, hW2⟩ : ∃ W, (w.alloc (.cells (DdC ⟨kd, p, q, a, b, c, d, A, n, k, xs⟩) 74)).alloc (.cells Dz 74) = W := ⟨_, rfl⟩
  have hbx : BX W2 w.heap.size 74 (DdC ⟨kd, p, q, a, b, c, d, A, n, k, xs⟩) := by rw [← hW2]; exact (BX.new _ _ _).alloc _
  have hbz : BX W2 (w.heap.size + 1) 74 Dz := by
    rw [← hW2]
    have := BX.new (w.alloc (.cells (DdC ⟨kd, p, q, a, b, c, d, A, n, k, xs⟩) 74)) 74 Dz
    rwa [show (w.alloc (.cells (DdC ⟨kd, p, q, a, b, c, d, A, n, k, xs⟩) 74)).heap.size = w.heap.size + 1 from by simp] at this
  have hs2 : W2.heap.size = w.heap.size + 2 := by rw [← hW2]; simp
  rw [hW2] at hb0
  have BXX := Lib.hid (fun W (h : Below W2.heap.size W2 W) => show W.cell? ⟨w.heap.size, 1, none⟩ = some (.string p) ∧ W.cell? ⟨w.heap.size, 2, none⟩ = some (.string q) ∧ W.cell? ⟨w.heap.size, 7, none⟩ = some (.slice A n k) ∧ W.frozen? ⟨w.heap.size, 1, none⟩ = false ∧ W.frozen? ⟨w.heap.size, 2, none⟩ = false ∧ W.frozen? ⟨w.heap.size, 7, none⟩ = false from
    ⟨(hbx.later h).cell rfl, (hbx.later h).cell rfl, (hbx.later h).cell rfl, (hbx.later h).free 1, (hbx.later h).free 2, (hbx.later h).free 7⟩)
  have kp := Lib.hid (fun W => sclone_any p W (by omega))
  have kq := Lib.hid (fun W => sclone_any q W (by omega))
  have kbc := Lib.hid (fun W (h : Below W2.heap.size W2 W) => bclone_any A n k xs W (((hd.below hb0).below (h.mono (by have := hb0.size; omega))).more (Nat.le_trans hb0.size h.size)) (by omega))
  have hacc : Below W2.heap.size W2 W2.drew := (Below.refl _ _).drew
  obtain ⟨q1, q2, q7, f1, f2, f7⟩ := BXX.out _ hacc
  have HBX := Lib.hid hbx
  have HBZ := Lib.hid hbz
  have HB0 := Lib.hid hb0
  have HS2 := Lib.hid hs2
  clear hd hbx hbz hb0 hs2
  go_enter Tryz.func72, Tryz.ntmps72
  go_upto_region 1 with (fail)
  go_cut [11] (fun v wx => ∃ A3 c3, v = .slice A3 n c3 ∧ n ≤ c3 ∧ c3 ≤ maxLen ∧ Hid (BX wx w.heap.size 74 #[.int .i64 kd, .string p, .string q, .int .i64 a, .int .i64 b, .int .i64 c, .int .i64 d, .slice A3 n c3]) ∧ Hid (BX wx (w.heap.size + 1) 74 Dz) ∧ Hid (RBT wx A3 n xs) ∧ Hid (Below w.heap.size w wx))
  case first =>
    go_region_law (first
      | (go_simp; go_at_call 108; (with_reducible refine (kbc.out _ hacc).mono ?_); rintro e w3 ⟨v3, rfl, ho3, hb3⟩; obtain ⟨A3, c3, rfl, _, hn3, hm3⟩ := ho3.slice; have hr3 := ho3.rbt; replace hacc := bthen hacc hb3; obtain ⟨q1, q2, q7, f1, f2, f7⟩ := BXX.out _ hacc)
      | (go_simp; go_at_call 101; (with_reducible refine (kp.out _).mono ?_); rintro e w4 ⟨rfl, hb4⟩; (try replace hr3 := hr3.below hb4); replace hacc := bthen hacc hb4; obtain ⟨q1, q2, q7, f1, f2, f7⟩ := BXX.out _ hacc)
      | (go_simp; go_at_call 101; (with_reducible refine (kq.out _).mono ?_); rintro e w5 ⟨rfl, hb5⟩; (try replace hr3 := hr3.below hb5); replace hacc := bthen hacc hb5; obtain ⟨q1, q2, q7, f1, f2, f7⟩ := BXX.out _ hacc))
    all_goals
      have h1 := (((HBX.out.later hacc).set 1 (.string p)).set 2 (.string q)).set 7 (.slice A3 n c3)
      have h2 := (((HBZ.out.later hacc).other (b := w.heap.size) (j := 1) (by omega) (.string p)).other (b := w.heap.size) (j := 2) (by omega) (.string q)).other (b := w.heap.size) (j := 7) (by omega) (.slice A3 n c3)
      have h3 := ((hr3.set (HBX.out.later hacc) (by decide) 1 (.string p)).set ((HBX.out.later hacc).set 1 (.string p)) (by decide) 2 (.string q)).set (((HBX.out.later hacc).set 1 (.string p)).set 2 (.string q)) (by decide) 7 (.slice A3 n c3)
      have h4 := ((((HB0.out.trans (hacc.mono HB0.out.size))).setCell (p := ⟨w.heap.size, 1, none⟩) (Nat.le_refl _) (.string p)).setCell (p := ⟨w.heap.size, 2, none⟩) (Nat.le_refl _) (.string q)).setCell (p := ⟨w.heap.size, 7, none⟩) (Nat.le_refl _) (.slice A3 n c3)
      go_wp2
      go_meet
      exact ⟨A3, c3, rfl, hn3, hm3, h1, h2, h3, h4⟩
  case rest =>
    obtain ⟨A3, c3, rfl, hn3, hm3, H1, H2, H3, H4⟩ := hcut
    have h1 := H1.out
    have h2 := H2.out
    have z0 := h1.cell (j := 0) (v := .int .i64 kd) rfl
    have z1 := h1.cell (j := 1) (v := .string p) rfl
    have z2 := h1.cell (j := 2) (v := .string q) rfl
    have z3 := h1.cell (j := 3) (v := .int .i64 a) rfl
    have z4 := h1.cell (j := 4) (v := .int .i64 b) rfl
    have z5 := h1.cell (j := 5) (v := .int .i64 c) rfl
    have z6 := h1.cell (j := 6) (v := .int .i64 d) rfl
    have z7 := h1.cell (j := 7) (v := .slice A3 n c3) rfl
    have g0 := h2.cell (j := 0) (v := .int .i64 0) rfl
    have e0 := h2.free 0
    have g1 := h2.cell (j := 1) (v := .string ⟨#[]⟩) rfl
    have e1 := h2.free 1
    have g2 := h2.cell (j := 2) (v := .string ⟨#[]⟩) rfl
    have e2 := h2.free 2
    have g3 := h2.cell (j := 3) (v := .int .i64 0) rfl
    have e3 := h2.free 3
    have g4 := h2.cell (j := 4) (v := .int .i64 0) rfl
    have e4 := h2.free 4
    have g5 := h2.cell (j := 5) (v := .int .i64 0) rfl
    have e5 := h2.free 5
    have g6 := h2.cell (j := 6) (v := .int .i64 0) rfl
    have e6 := h2.free 6
    have g7 := h2.cell (j := 7) (v := .slice none 0 0) rfl
    have e7 := h2.free 7
    have h5 := h2.set8' (.int .i64 kd) (.string p) (.string q) (.int .i64 a) (.int .i64 b) (.int .i64 c) (.int .i64 d) (.slice A3 n c3)
    have r0 := h5.cell (j := 0) (v := .int .i64 kd) rfl
    have r1 := h5.cell (j := 1) (v := .string p) rfl
    have r2 := h5.cell (j := 2) (v := .string q) rfl
    have r3 := h5.cell (j := 3) (v := .int .i64 a) rfl
    have r4 := h5.cell (j := 4) (v := .int .i64 b) rfl
    have r5 := h5.cell (j := 5) (v := .int .i64 c) rfl
    have r6 := h5.cell (j := 6) (v := .int .i64 d) rfl
    have r7 := h5.cell (j := 7) (v := .slice A3 n c3) rfl
    have HSZ := Lib.hid (show w.heap.size ≤ wc.heap.size from H4.out.size)
    clear h1 h2 h5
    go_wp2
    refine bodyPost_ret (v := .agg #[.int .i64 kd, .string p, .string q, .int .i64 a, .int .i64 b, .int .i64 c, .int .i64 d, .slice A3 n c3]) (by simp [results, Tryz.f72, go_sem, r0, r1, r2, r3, r4, r5, r6, r7]) rfl ?_
    exact ⟨A3, c3, rfl, H3.out.set8' H2.out (by decide) _ _ _ _ _ _ _ _, hn3, hm3, below_set8' H4.out (Nat.le_succ _) _ _ _ _ _ _ _ _⟩
end Go.Proofs.YtbianfjennnofaaGreatDoor
/- A DISK IN MEMORY, SECOND PART: its two trees, its row of deeds; what a call at one of them keeps. -/
namespace Go.Proofs.YtbianfjennnofaaGreatDoor
set_option linter.unusedVariables false
open Go Go.RowKit Go.Maps
set_option maxRecDepth 100000
set_option maxHeartbeats 1000000
open Nt (Tr Nd WF Ps Path at_ cnt used Dd Dk ap)
theorem own_shape14 {w : World} {B size n : Nat} {e : TypeId} {v : Value} {xs : List Value} (h : w.ownsRow B e size v n xs) : ∃ A c, v = .slice A n c := by
  rcases h.2 with ⟨h1, h2⟩ | ⟨g, cap, cur, h1, _⟩
  · subst h2
    exact ⟨_, _, h1⟩
  · exact ⟨_, _, h1⟩
/-- Where a disk's history begins: below w0 all stands; since wS all stands but for O and what is new. -/
structure Bs where
  w0 : World
  wS : World
  O : Nat → Prop
abbrev Bs.heap (b : Bs) := b.w0.heap
instance : Coe Bs World := ⟨Bs.w0⟩
abbrev Bs.of (w : World) : Bs := ⟨w, w, fun _ => False⟩
theorem Keep.push {O F : Nat → Prop} {wS w w' : World} (h : Keep O wS w) (hk : Keep F w w') (hF : ∀ k, F k → O k ∨ wS.heap.size ≤ k) : Keep O wS w' :=
  ⟨hk.os.trans h.os, hk.tape.trans h.tape, hk.output.trans h.output, Nat.le_trans h.size hk.size, fun k hl hn => (hk.block k (Nat.lt_of_lt_of_le hl h.size) fun hf => (hF k hf).elim hn fun e => by omega).trans (h.block k hl hn)⟩
structure DM (w0 : Bs) (w : World) (db dt vt : Nat) (D V : Tr) (v : Value) (l : List Dd) (sy fu : Int) (K : Nat) (ad mb ad' mb' : Nat → Nat) : Prop where
  low : Below w0.heap.size w0 w
  box : BX w db 83 (DkC dt vt v sy fu)
  dlow : w0.heap.size ≤ db
  repD : RepP (Fm D dt ad mb) K w dt D ad mb
  repV : RepP (Fm V vt ad' mb') K w vt V ad' mb'
  lowD : ∀ k, Fm D dt ad mb k → w0.heap.size ≤ k
  lowV : ∀ k, Fm V vt ad' mb' k → w0.heap.size ≤ k
  apart : ∀ k, Fm D dt ad mb k → ¬ Fm V vt ad' mb' k
  row : w.ownsRow w0.heap.size 74 8 v l.length (ddL l)
  data : ∀ y ∈ l, DOk w y
  since : Keep w0.O w0.wS w
  own : ∀ k, (k = db ∨ Fm D dt ad mb k ∨ Fm V vt ad' mb' k ∨ v.ownBlock = some k) → w0.O k ∨ w0.wS.heap.size ≤ k
section
variable {w0 : Bs} {w w' : World} {db dt vt K : Nat} {D V : Tr} {v : Value} {l : List Dd} {sy fu : Int} {ad mb ad' mb' : Nat → Nat} {r : Tr × Int} {e : Ending}
theorem DM.later (h : DM w0 w db dt vt D V v l sy fu K ad mb ad' mb') (hb : Below w.heap.size w w') : DM w0 w' db dt vt D V v l sy fu K ad mb ad' mb' :=
  ⟨h.low.trans (hb.mono h.low.size), h.box.later hb, h.dlow, h.repD.later hb, h.repV.later hb, h.lowD, h.lowV, h.apart, own_keep13 h.row fun k hk => hb.block k (World.ownsRow.lt h.row k hk).2, fun y hy => (h.data y hy).below hb, h.since.trans (Keep.ofBelow hb), h.own⟩
theorem DM.more (h : DM w0 w db dt vt D V v l sy fu K ad mb ad' mb') {K' : Nat} (hK : K ≤ K') : DM w0 w db dt vt D V v l sy fu K' ad mb ad' mb' :=
  ⟨h.low, h.box, h.dlow, h.repD.weak (fun _ h => h) hK, h.repV.weak (fun _ h => h) hK, h.lowD, h.lowV, h.apart, h.row, h.data, h.since, h.own⟩
theorem DM.ne (h : DM w0 w db dt vt D V v l sy fu K ad mb ad' mb') : (∀ k, Fm D dt ad mb k → k ≠ db) ∧ (∀ k, Fm V vt ad' mb' k → k ≠ db) ∧ (∀ k, v.ownBlock = some k → k ≠ db ∧ ¬ Fm D dt ad mb k ∧ ¬ Fm V vt ad' mb' k) := by
  have hbx := h.box
  have hrow : ∀ k, v.ownBlock = some k → ∃ cs, w.heap[k]? = some (.cells cs 74 (0, 0)) := fun k hk => by
    rcases h.row.2 with ⟨e1, _⟩ | ⟨g, cap, cur, e1, _, hg, _⟩
    · rw [e1] at hk; cases hk
    · rw [e1] at hk
      obtain rfl : g = k := by simpa [Value.ownBlock] using hk
      exact ⟨_, hg⟩
  unfold BX at hbx
  refine ⟨?_, ?_, ?_⟩
  · rintro k hk rfl
    obtain ⟨o, h1, h2⟩ := h.repD.sort hk
    rw [hbx] at h1; cases h1
    exact diskd_tree h2
  · rintro k hk rfl
    obtain ⟨o, h1, h2⟩ := h.repV.sort hk
    rw [hbx] at h1; cases h1
    exact diskd_tree h2
  · intro k hk
    obtain ⟨cs, hc⟩ := hrow k hk
    refine ⟨?_, ?_, ?_⟩
    · rintro rfl
      rw [hbx] at hc; cases hc
    · intro hf
      obtain ⟨o, h1, h2⟩ := h.repD.sort hf
      rw [hc] at h1; cases h1
      exact deed_tree h2
    · intro hf
      obtain ⟨o, h1, h2⟩ := h.repV.sort hf
      rw [hc] at h1; cases h1
      exact deed_tree h2
/-- A call at the durable tree is done. -/
theorem DM.durable (h : DM w0 w db dt vt D V v l sy fu K ad mb ad' mb') (hd : Done (Fm D dt ad mb) K w w' dt r e) : e = .returned (.int .i64 r.2) ∧ KeepX TreeObj w w' ∧ ∃ ad2 mb2, DM w0 w' db dt vt r.1.er V v l sy fu (K + 301) ad2 mb2 ad' mb' := by
  obtain ⟨rfl, ⟨ad2, mb2, hR2⟩, hk⟩ := hd
  have hX : KeepX TreeObj w w' := KeepX.ofKeep hk fun k hk2 => h.repD.sort hk2
  refine ⟨rfl, hX, ad2, mb2, h.low.trans (hk.below h.lowD h.low.size), h.box.keptX hX diskd_tree, h.dlow, hR2.er.min, (h.repV.kept fun k hF hl => hk.block k hl fun e => h.apart k e hF).weak (fun _ h => h) (by omega), ?_, h.lowV, ?_, own_keptX h.row hX fun _ _ => deed_tree, fun y hy => (h.data y hy).keptX hX tree_u8, h.since.push hk fun k hk2 => h.own k (.inr (.inl hk2)), ?_⟩
  · intro k hk2
    rcases hR2.fm (Fm.er.1 hk2) with h1 | h1
    · exact h.lowD k h1
    · exact Nat.le_trans h.low.size h1.1
  · intro k hk2 hk3
    rcases hR2.fm (Fm.er.1 hk2) with h1 | h1
    · exact h.apart k h1 hk3
    · have := h.repV.lt hk3
      omega
  · intro k hk3
    rcases hk3 with h1 | h1 | h1 | h1
    · exact h.own k (.inl h1)
    · rcases hR2.fm (Fm.er.1 h1) with h2 | h2
      · exact h.own k (.inr (.inl h2))
      · exact .inr (Nat.le_trans h.since.size h2.1)
    · exact h.own k (.inr (.inr (.inl h1)))
    · exact h.own k (.inr (.inr (.inr h1)))
/-- A call at the view is done. -/
theorem DM.viewed (h : DM w0 w db dt vt D V v l sy fu K ad mb ad' mb') (hd : Done (Fm V vt ad' mb') K w w' vt r e) : e = .returned (.int .i64 r.2) ∧ KeepX TreeObj w w' ∧ ∃ ad2 mb2, DM w0 w' db dt vt D r.1.er v l sy fu (K + 301) ad mb ad2 mb2 := by
  obtain ⟨rfl, ⟨ad2, mb2, hR2⟩, hk⟩ := hd
  have hX : KeepX TreeObj w w' := KeepX.ofKeep hk fun k hk2 => h.repV.sort hk2
  refine ⟨rfl, hX, ad2, mb2, h.low.trans (hk.below h.lowV h.low.size), h.box.keptX hX diskd_tree, h.dlow, (h.repD.kept fun k hF hl => hk.block k hl fun e => h.apart k hF e).weak (fun _ h => h) (by omega), hR2.er.min, h.lowD, ?_, ?_, own_keptX h.row hX fun _ _ => deed_tree, fun y hy => (h.data y hy).keptX hX tree_u8, h.since.push hk fun k hk2 => h.own k (.inr (.inr (.inl hk2))), ?_⟩
  · intro k hk2
    rcases hR2.fm (Fm.er.1 hk2) with h1 | h1
    · exact h.lowV k h1
    · exact Nat.le_trans h.low.size h1.1
  · intro k hk2 hk3
    rcases hR2.fm (Fm.er.1 hk3) with h1 | h1
    · exact h.apart k hk2 h1
    · have := h.repD.lt hk2
      omega
  · intro k hk3
    rcases hk3 with h1 | h1 | h1 | h1
    · exact h.own k (.inl h1)
    · exact h.own k (.inr (.inl h1))
    · rcases hR2.fm (Fm.er.1 h1) with h2 | h2
      · exact h.own k (.inr (.inr (.inl h2)))
      · exact .inr (Nat.le_trans h.since.size h2.1)
    · exact h.own k (.inr (.inr (.inr h1)))
theorem disk_obj {cs : Array Value} {fz : Nat × Nat} : DiskObj (.cells cs 83 fz) := .inr ⟨_, _, _, rfl, .inl rfl⟩
theorem deed_obj {cs : Array Value} {fz : Nat × Nat} : DiskObj (.cells cs 74 fz) := .inr ⟨_, _, _, rfl, .inr rfl⟩
/-- The disk's own block alone is turned. -/
theorem DM.turned (h : DM w0 w db dt vt D V v l sy fu K ad mb ad' mb') {sy2 fu2 : Int} (hb : BX w' db 83 (DkC dt vt v sy2 fu2)) (ho : Oth db w w') : DM w0 w' db dt vt D V v l sy2 fu2 K ad mb ad' mb' :=
  ⟨h.low.trans (ho.below h.dlow h.low.size), hb, h.dlow, h.repD.kept fun k hF hl => ho.2.2.2.2 k hl (h.ne.1 k hF), h.repV.kept fun k hF hl => ho.2.2.2.2 k hl (h.ne.2.1 k hF), h.lowD, h.lowV, h.apart,
    own_keep13 h.row fun k hk => ho.2.2.2.2 k (World.ownsRow.lt h.row k hk).2 (h.ne.2.2 k hk).1, fun y hy => (h.data y hy).keptX (KeepX.ofOth (X := fun o => o = .cells (DkC dt vt v sy fu) 83 (0, 0)) ho h.box rfl) (fun cs fz e => by cases e), h.since.push (Keep.ofOth ho rfl : Keep (fun k => k = db) w w') fun k e => h.own k (.inl e), h.own⟩
/-- Nothing waits any more. -/
theorem DM.empty (h : DM w0 w db dt vt D V v l sy fu K ad mb ad' mb') {sy2 fu2 : Int} (hb : BX w' db 83 (DkC dt vt (.slice none 0 0) sy2 fu2)) (ho : Oth db w w') : DM w0 w' db dt vt D V (.slice none 0 0) [] sy2 fu2 K ad mb ad' mb' :=
  ⟨h.low.trans (ho.below h.dlow h.low.size), hb, h.dlow, h.repD.kept fun k hF hl => ho.2.2.2.2 k hl (h.ne.1 k hF), h.repV.kept fun k hF hl => ho.2.2.2.2 k hl (h.ne.2.1 k hF), h.lowD, h.lowV, h.apart,
    World.ownsRow_nil _ _ _ _, fun y hy => (by cases hy), h.since.push (Keep.ofOth ho rfl : Keep (fun k => k = db) w w') fun k e => h.own k (.inl e), fun k hk => by
      rcases hk with h1 | h1 | h1 | h1
      · exact h.own k (.inl h1)
      · exact h.own k (.inr (.inl h1))
      · exact h.own k (.inr (.inr (.inl h1)))
      · cases h1⟩
/-- The view is a new tree. -/
theorem DM.anew (h : DM w0 w db dt vt D V v l sy fu K ad mb ad' mb') {G : Nat → Prop} {vt2 : Nat} {V2 : Tr} {ad2 mb2 : Nat → Nat} {W : World} (hb0 : Below w.heap.size w W) (hR : RepP G K W vt2 V2 ad2 mb2) (hG : ∀ k, G k → w.heap.size ≤ k) (hb : BX w' db 83 (DkC dt vt2 v sy fu)) (ho : Oth db W w') : DM w0 w' db dt vt2 D V2 v l sy fu K ad mb ad2 mb2 := by
  have hl := h.later hb0
  have hm := hR.min
  have hdb : db < w.heap.size := h.box.lt
  refine ⟨hl.low.trans (ho.below h.dlow hl.low.size), hb, h.dlow, hl.repD.kept fun k hF hl2 => ho.2.2.2.2 k hl2 (h.ne.1 k hF), hm.kept fun k hF hl2 => ho.2.2.2.2 k hl2 fun e => by have := hG k (hR.fm hF); omega, h.lowD, fun k hk => Nat.le_trans h.low.size (hG k (hR.fm hk)), fun k hk hk2 => by have := h.repD.lt hk; have := hG k (hR.fm hk2); omega,
    own_keep13 hl.row fun k hk => ho.2.2.2.2 k (World.ownsRow.lt hl.row k hk).2 (hl.ne.2.2 k hk).1, fun y hy => (hl.data y hy).keptX (KeepX.ofOth (X := fun o => o = .cells (DkC dt vt v sy fu) 83 (0, 0)) ho hl.box rfl) (fun cs fz e => by cases e), (h.since.trans (Keep.ofBelow hb0)).push (Keep.ofOth ho rfl : Keep (fun k => k = db) W w') (fun k e => h.own k (.inl e)), fun k hk => by
      rcases hk with h1 | h1 | h1 | h1
      · exact h.own k (.inl h1)
      · exact h.own k (.inr (.inl h1))
      · exact .inr (Nat.le_trans h.since.size (hG k (hR.fm h1)))
      · exact h.own k (.inr (.inr (.inr h1)))⟩
end
end Go.Proofs.YtbianfjennnofaaGreatDoor
/- WALKS OF LAYER 14, FOURTH PART: keep, each. -/
namespace Go.Proofs.YtbianfjennnofaaGreatDoor
set_option linter.unusedVariables false
open Go Go.RowKit Go.Maps
set_option maxRecDepth 100000
set_option maxHeartbeats 4000000
open Nt (Tr Nd WF Ps Path at_ cnt used Dd Dk ap)
section
variable {w0 : Bs} {w : World} {db dt vt K : Nat} {D V : Tr} {v : Value} {l : List Dd} {sy fu : Int} {ad mb ad' mb' : Nat → Nat}
theorem ap_erT {T : Tr} {y : Dd} (hT : T.er = T) : (ap T y).1.er = (ap T y.er).1 ∧ (ap T y).2 = (ap T y.er).2 := by
  have h := Nt.ap_er T y
  rw [hT] at h
  rw [h]
  exact ⟨rfl, rfl⟩
theorem keep14_any (h : DM w0 w db dt vt D V v l sy fu K ad mb ad' mb') (hW : WF D K) (hK : K ≤ 100000) (hE : D.er = D) (y : Dd) (hy : DOk w y) :
    Calls Tryz.prog 76 #[.pointer (some ⟨db, 0, none⟩), .agg (DdC y)] w fun e w' => e = .returned (.tuple #[]) ∧ KeepX TreeObj w w' ∧ ∃ ad2 mb2, DM w0 w' db dt vt (ap D y.er).1 V v l sy fu (K + 301) ad2 mb2 ad' mb' := by
  have hb := below_new w (.cells (DdC y) 74)
  obtain ⟨W1, hW1⟩ : ∃ W, w.alloc (.cells (DdC y) 74) = W := ⟨_, rfl⟩
  have hbx : BX W1 w.heap.size 74 (DdC y) := by rw [← hW1]; exact BX.new _ _ _
  rw [hW1] at hb
  have h1 := h.later (hb.drew)
  have hy1 := hy.below hb.drew
  have ka := Lib.hid (apply_done hW hK h1.repD y (by have := hy.small; omega) (by have := hy.small; omega) hy1.rb (by have := hy.small; omega))
  have HD := Lib.hid (fun W e (hd : Done (Fm D dt ad mb) K W1.drew W dt (ap D y) e) => h1.durable hd)
  have HKB := Lib.hid (show KeepX TreeObj w W1.drew from KeepX.ofBelow hb.drew)
  have HAP := Lib.hid (ap_erT (y := y) hE)
  obtain ⟨kd, p, q, a, b, c, d, A, n, k, xs⟩ := y
  have c0 : W1.cell? ⟨db, 0, none⟩ = some (.pointer (some ⟨dt, 0, none⟩)) := (h.box.later hb).cell rfl
  have z0 : W1.cell? ⟨w.heap.size, 0, none⟩ = some (.int .i64 kd) := hbx.cell rfl
  have z1 : W1.cell? ⟨w.heap.size, 1, none⟩ = some (.string p) := hbx.cell rfl
  have z2 : W1.cell? ⟨w.heap.size, 2, none⟩ = some (.string q) := hbx.cell rfl
  have z3 : W1.cell? ⟨w.heap.size, 3, none⟩ = some (.int .i64 a) := hbx.cell rfl
  have z4 : W1.cell? ⟨w.heap.size, 4, none⟩ = some (.int .i64 b) := hbx.cell rfl
  have z5 : W1.cell? ⟨w.heap.size, 5, none⟩ = some (.int .i64 c) := hbx.cell rfl
  have z6 : W1.cell? ⟨w.heap.size, 6, none⟩ = some (.int .i64 d) := hbx.cell rfl
  have z7 : W1.cell? ⟨w.heap.size, 7, none⟩ = some (.slice A n k) := hbx.cell rfl
  clear h hy hb h1 hy1 hW hbx
  go_enter Tryz.func76, Tryz.ntmps76
  go_wp2
  go_still_tail 5, (by kernel_rfl)
  change wpList _ _ _ _ _ W1.drew
  go_wp2_with (go_at_call 37; refine ka.out.mono ?_; rintro e w2 hd2; obtain ⟨rfl, hx2, ad2, mb2, hm2⟩ := HD.out _ _ hd2)
  refine bodyPost_end (v := .tuple #[]) (by simp [results, Tryz.f76, go_sem]) rfl ?_
  rw [HAP.out.1] at hm2
  exact ⟨rfl, HKB.out.trans hx2, ad2, mb2, hm2⟩
abbrev keepV (db : Nat) : Value := .func (.func 76) #[.pointer (some ⟨db, 0, none⟩)] #[]
theorem all_take (T : Tr) {l : List Dd} {j : Nat} {y : Dd} (h : l[j]? = some y) : Nt.all T ((l.take (j + 1)).map Dd.er) = (ap (Nt.all T ((l.take j).map Dd.er)) y.er).1 := by
  rw [List.take_add_one, h, Option.toList_some, List.map_append, Nt.all_app]
  rfl
theorem er_er (y : Dd) : y.er.er = y.er := rfl
theorem each14_any (h : DM w0 w db dt vt D V v l sy fu K ad mb ad' mb') (hW : WF D K) (hE : D.er = D) (A : Option Addr) (n c : Nat) (ls : List Dd) (hl : DL w A n ls) (hc : n ≤ c ∧ c ≤ maxLen) (hK : K + 301 * n ≤ 100000) :
    Calls Tryz.prog 75 #[.slice A n c, keepV db] w fun e w' => e = .returned (.tuple #[]) ∧ KeepX TreeObj w w' ∧ ∃ ad2 mb2, DM w0 w' db dt vt (Nt.all D (ls.map Dd.er)) V v l sy fu (K + 301 * n) ad2 mb2 ad' mb' := by
  have hll := hl.1
  have HL := Lib.hid hl
  have H := Lib.hid h
  have HW := Lib.hid hW
  have HE := Lib.hid hE
  clear h hl hW hE
  go_enter Tryz.func75, Tryz.ntmps75
  go_wp2
  go_loopw [8] (fun i W => ∃ (j : Nat) (ad2 mb2 : Nat → Nat), j ≤ n ∧ i = .int .i64 j ∧ Hid (DM w0 W db dt vt (Nt.all D ((ls.take j).map Dd.er)) V v l sy fu (K + 301 * j) ad2 mb2 ad' mb') ∧ Hid (KeepX TreeObj w W)) (fun i _ => n - (intOf i).toNat)
  case atStart => exact ⟨0, ad, mb, Nat.zero_le _, rfl, H.out, KeepX.refl _ _⟩
  case round =>
    obtain ⟨j, ad2, mb2, hj, rfl, HM, HX⟩ := hrel
    by_cases hlt : j < n
    · have hlt' : (j : Int) < n := by omega
      obtain ⟨b, o, y, rfl, hy, hok, hcs⟩ := (HL.out.kept HX.out tree_u8 fun _ _ => deed_tree).at_ hlt
      have hb := below_new wr (.cells (DdC y) 74)
      have hbx := BX.new wr 74 (DdC y)
      have hWT : WF (Nt.all D ((ls.take j).map Dd.er)) (K + 301 * j) := by
        have h1 := Nt.WF.all (K := K) (l := (ls.take j).map Dd.er) HW.out fun z hz => by
          obtain ⟨x, hx, rfl⟩ := List.mem_map.1 hz
          exact (HL.out.2.2 x (List.mem_of_mem_take hx)).rb.1
        rw [List.length_map, List.length_take, hll, Nat.min_eq_left (by omega)] at h1
        exact h1
      have hET : (Nt.all D ((ls.take j).map Dd.er)).er = Nt.all D ((ls.take j).map Dd.er) := Nt.er_all HE.out fun z hz => by
        obtain ⟨x, hx, rfl⟩ := List.mem_map.1 hz
        rfl
      have kk := Lib.hid (keep14_any (HM.out.later hb) hWT (by omega) hET y (hok.below hb))
      have HST := Lib.hid (all_take D hy)
      have HXB := Lib.hid (HX.out.trans (KeepX.ofBelow hb))
      obtain ⟨kd, p, q, a, b', c', d, A', n', k', xs'⟩ := y
      have c0 : wr.cell? ⟨b, o + j * 8, none⟩ = some (.int .i64 kd) := hcs 0 _ rfl
      have c1 : wr.cell? ⟨b, o + j * 8 + 1, none⟩ = some (.string p) := hcs 1 _ rfl
      have c2 : wr.cell? ⟨b, o + j * 8 + 2, none⟩ = some (.string q) := hcs 2 _ rfl
      have c3 : wr.cell? ⟨b, o + j * 8 + 3, none⟩ = some (.int .i64 a) := hcs 3 _ rfl
      have c4 : wr.cell? ⟨b, o + j * 8 + 4, none⟩ = some (.int .i64 b') := hcs 4 _ rfl
      have c5 : wr.cell? ⟨b, o + j * 8 + 5, none⟩ = some (.int .i64 c') := hcs 5 _ rfl
      have c6 : wr.cell? ⟨b, o + j * 8 + 6, none⟩ = some (.int .i64 d) := hcs 6 _ rfl
      have c7 : wr.cell? ⟨b, o + j * 8 + 7, none⟩ = some (.slice A' n' k') := hcs 7 _ rfl
      clear hcs hy hok hb hWT hET hbx
      go_wp2_with (go_at_call 76; refine kk.out.mono ?_; rintro e w2 ⟨rfl, hx2, ad3, mb3, hm2⟩)
      rw [← HST.out] at hm2
      go_roundw
      case rel => exact ⟨j + 1, ad3, mb3, by omega, by go_num, by rw [show K + 301 * (j + 1) = K + 301 * j + 301 from by omega]; exact hm2, HXB.out.trans hx2⟩
      case measure => simp [intOf]; omega
    · have hlt' : ¬ (j : Int) < n := by omega
      obtain rfl : j = n := by omega
      go_wp2
      refine bodyPost_end (v := .tuple #[]) (by simp [results, Tryz.f75, go_sem]) rfl ?_
      have hm := HM.out
      rw [List.take_of_length_le (by omega)] at hm
      exact ⟨rfl, HX.out, ad2, mb2, hm⟩
end
end Go.Proofs.YtbianfjennnofaaGreatDoor
/- WALKS OF LAYER 14, FIFTH PART: tear, New, View, Durable. -/
namespace Go.Proofs.YtbianfjennnofaaGreatDoor
set_option linter.unusedVariables false
open Go Go.RowKit Go.Maps
set_option maxRecDepth 100000
set_option maxHeartbeats 4000000
open Nt (Tr Nd WF Ps Path at_ cnt used Dd Dk ap)
theorem DL.single {w : World} {g : Nat} {y : Dd} (h : BX w g 74 (DdC y)) (hd : DOk w y) : DL w (some ⟨g, 0, none⟩) 1 [y] := by
  refine ⟨rfl, fun _ => ⟨g, 0, rfl, ⟨_, _, h⟩, fun j z hz i u hu => ?_⟩, fun z hz => ?_⟩
  · match j, hz with
    | 0, hz =>
      obtain rfl : y = z := by simpa using hz
      rw [show 0 + 0 * 8 + i = i from by omega]
      exact h.cell hu
  · obtain rfl : z = y := by simpa using hz
    exact hd
theorem BX.new1 (w : World) (o : Obj) (T : TypeId) (cs : Array Value) : BX ((w.alloc o).alloc (.cells cs T)) (w.heap.size + 1) T cs := by
  have h := BX.new (w.alloc o) T cs
  rwa [show (w.alloc o).heap.size = w.heap.size + 1 from by simp] at h
theorem tear14_any (A : Option Addr) (n c : Nat) (ls : List Dd) (t : Int) (w : World) (hl : DL w A n ls) (hc : n ≤ c ∧ c ≤ maxLen) :
    Calls Tryz.prog 77 #[.slice A n c, .int .i64 t] w fun e w' => ∃ A' m c', e = .returned (.slice A' m c') ∧ ∃ ls', Hid (DL w' A' m ls' ∧ m ≤ c' ∧ c' ≤ maxLen ∧ ls'.map Dd.er = Nt.torn (ls.map Dd.er) t ∧ m ≤ 1 ∧ Below w.heap.size w w') := by
  have hll := hl.1
  by_cases h0 : n = 0
  · subst h0
    obtain rfl : ls = [] := List.eq_nil_of_length_eq_zero hll
    clear hl hll
    go_enter Tryz.func77, Tryz.ntmps77
    go_wp2
    go_ret
    exact ⟨none, 0, 0, rfl, [], DL.nil, Nat.le_refl _, by decide, rfl, Nat.zero_le _, Below.refl _ _⟩
  · obtain ⟨b, o, y, rfl, hy, hok, hcs⟩ := hl.at_ (j := 0) (by omega)
    obtain ⟨r, hr⟩ : ∃ r, ls = y :: r := by
      cases ls with
      | nil => simp at hy
      | cons z r =>
        have e : z = y := by simpa using hy
        exact ⟨r, by rw [e]⟩
    have hn0 : ((n : Int) == 0) = false := by simp [h0]
    have hn1 : (0 : Int) < n := by omega
    have hbx := BX.new w 74 (DdC y)
    have HB := Lib.hid (below_new w (.cells (DdC y) 74))
    have HOK := Lib.hid hok
    obtain ⟨kd, p, q, a, b', c', d, A', n', k', xs'⟩ := y
    have c0 : w.cell? ⟨b, o, none⟩ = some (.int .i64 kd) := by have := hcs 0 _ rfl; simpa using this
    have c1 : w.cell? ⟨b, o + 1, none⟩ = some (.string p) := by have := hcs 1 _ rfl; simpa using this
    have c2 : w.cell? ⟨b, o + 2, none⟩ = some (.string q) := by have := hcs 2 _ rfl; simpa using this
    have c3 : w.cell? ⟨b, o + 3, none⟩ = some (.int .i64 a) := by have := hcs 3 _ rfl; simpa using this
    have c4 : w.cell? ⟨b, o + 4, none⟩ = some (.int .i64 b') := by have := hcs 4 _ rfl; simpa using this
    have c5 : w.cell? ⟨b, o + 5, none⟩ = some (.int .i64 c') := by have := hcs 5 _ rfl; simpa using this
    have c6 : w.cell? ⟨b, o + 6, none⟩ = some (.int .i64 d) := by have := hcs 6 _ rfl; simpa using this
    have c7 : w.cell? ⟨b, o + 7, none⟩ = some (.slice A' n' k') := by have := hcs 7 _ rfl; simpa using this
    have hcap : n' ≤ k' ∧ k' ≤ 9223372036854775807 := hok.cap
    obtain ⟨m, hm⟩ : ∃ m : Int, min t (n' : Int) = m := ⟨_, rfl⟩
    have hmn : m ≤ n' := by omega
    have htorn : Nt.torn (ls.map Dd.er) t = if (kd = 2 ∨ kd = 5) ∧ 1 ≤ m then [Dd.er (Nt.Dd.some_ ⟨kd, p, q, a, b', c', d, A', n', k', xs'⟩ m.toNat)] else [] := by
      rw [hr, ← hm]
      rfl
    obtain ⟨LT, hLT⟩ : ∃ LT, Nt.torn (ls.map Dd.er) t = LT := ⟨_, rfl⟩
    rw [hLT] at htorn ⊢
    have HT := Lib.hid htorn
    clear htorn hr hy hcs hl hok hLT
    by_cases hk : kd = 2 ∨ kd = 5
    · by_cases h1 : m < 1
      · have HT2 : Hid (LT = []) := by
          show LT = []
          rw [HT.out, if_neg (by omega)]
        rcases hk with rfl | rfl
        · go_enter Tryz.func77, Tryz.ntmps77
          go_wp2
          go_ret
          exact ⟨none, 0, 0, rfl, [], DL.nil, Nat.le_refl _, by decide, HT2.out.symm, Nat.zero_le _, HB.out⟩
        · go_enter Tryz.func77, Tryz.ntmps77
          go_wp2
          go_ret
          exact ⟨none, 0, 0, rfl, [], DL.nil, Nat.le_refl _, by decide, HT2.out.symm, Nat.zero_le _, HB.out⟩
      · have HT2 : Hid (LT = [Dd.er (Nt.Dd.some_ ⟨kd, p, q, a, b', c', d, A', n', k', xs'⟩ m.toNat)]) := by
          show LT = _
          rw [HT.out, if_pos ⟨hk, by omega⟩]
        obtain ⟨m, rfl⟩ : ∃ j : Nat, m = j := ⟨m.toNat, by omega⟩
        have hmn' : m ≤ n' := by omega
        have hok2 : k' ≤ maxLen := HOK.out.cap.2
        rcases hk with rfl | rfl
        · have HB2 := Lib.hid (bthen (below_new w (.cells #[.int .i64 2, .string p, .string q, .int .i64 a, .int .i64 b', .int .i64 c', .int .i64 d, .slice A' m k'] 74)) (below_new _ (.cells #[.int .i64 2, .string p, .string q, .int .i64 a, .int .i64 b', .int .i64 c', .int .i64 d, .slice A' m k'] 74)))
          have HX2 := Lib.hid (BX.new1 w (.cells #[.int .i64 2, .string p, .string q, .int .i64 a, .int .i64 b', .int .i64 c', .int .i64 d, .slice A' m k'] 74) 74 #[.int .i64 2, .string p, .string q, .int .i64 a, .int .i64 b', .int .i64 c', .int .i64 d, .slice A' m k'])
          have HO2 : Hid (DOk ((w.alloc (.cells #[.int .i64 2, .string p, .string q, .int .i64 a, .int .i64 b', .int .i64 c', .int .i64 d, .slice A' m k'] 74)).alloc (.cells #[.int .i64 2, .string p, .string q, .int .i64 a, .int .i64 b', .int .i64 c', .int .i64 d, .slice A' m k'] 74)) (Nt.Dd.some_ ⟨2, p, q, a, b', c', d, A', n', k', xs'⟩ m)) :=
            ⟨(HOK.out.rbt.pre hmn').below HB2.out, ⟨by show m ≤ k'; omega, hok2⟩, HOK.out.small.1, HOK.out.small.2.1, by have := HOK.out.small.2.2; show m ≤ 5000; have e : n' ≤ 5000 := this; omega⟩
          go_enter Tryz.func77, Tryz.ntmps77
          go_wp2
          go_ret
          exact ⟨some ⟨w.heap.size + 1, 0, none⟩, 1, 1, rfl, [Nt.Dd.some_ ⟨2, p, q, a, b', c', d, A', n', k', xs'⟩ m], DL.single HX2.out HO2.out, Nat.le_refl _, by decide, by rw [HT2.out]; rfl, Nat.le_refl _, HB2.out⟩
        · have HB2 := Lib.hid (bthen (below_new w (.cells #[.int .i64 5, .string p, .string q, .int .i64 a, .int .i64 b', .int .i64 c', .int .i64 d, .slice A' m k'] 74)) (below_new _ (.cells #[.int .i64 5, .string p, .string q, .int .i64 a, .int .i64 b', .int .i64 c', .int .i64 d, .slice A' m k'] 74)))
          have HX2 := Lib.hid (BX.new1 w (.cells #[.int .i64 5, .string p, .string q, .int .i64 a, .int .i64 b', .int .i64 c', .int .i64 d, .slice A' m k'] 74) 74 #[.int .i64 5, .string p, .string q, .int .i64 a, .int .i64 b', .int .i64 c', .int .i64 d, .slice A' m k'])
          have HO2 : Hid (DOk ((w.alloc (.cells #[.int .i64 5, .string p, .string q, .int .i64 a, .int .i64 b', .int .i64 c', .int .i64 d, .slice A' m k'] 74)).alloc (.cells #[.int .i64 5, .string p, .string q, .int .i64 a, .int .i64 b', .int .i64 c', .int .i64 d, .slice A' m k'] 74)) (Nt.Dd.some_ ⟨5, p, q, a, b', c', d, A', n', k', xs'⟩ m)) :=
            ⟨(HOK.out.rbt.pre hmn').below HB2.out, ⟨by show m ≤ k'; omega, hok2⟩, HOK.out.small.1, HOK.out.small.2.1, by have := HOK.out.small.2.2; show m ≤ 5000; have e : n' ≤ 5000 := this; omega⟩
          go_enter Tryz.func77, Tryz.ntmps77
          go_wp2
          go_ret
          exact ⟨some ⟨w.heap.size + 1, 0, none⟩, 1, 1, rfl, [Nt.Dd.some_ ⟨5, p, q, a, b', c', d, A', n', k', xs'⟩ m], DL.single HX2.out HO2.out, Nat.le_refl _, by decide, by rw [HT2.out]; rfl, Nat.le_refl _, HB2.out⟩
    · have HT2 : Hid (LT = []) := by
        show LT = []
        rw [HT.out, if_neg (fun h => hk h.1)]
      have g2 : (kd != 2) = true := by simp; omega
      have g5 : (kd != 5) = true := by simp; omega
      clear hk
      go_enter Tryz.func77, Tryz.ntmps77
      go_wp2
      go_ret
      exact ⟨none, 0, 0, rfl, [], DL.nil, Nat.le_refl _, by decide, HT2.out.symm, Nat.zero_le _, HB.out⟩
end Go.Proofs.YtbianfjennnofaaGreatDoor
/- WALKS OF LAYER 14, SIXTH PART: New, View, Durable, Waits. -/
namespace Go.Proofs.YtbianfjennnofaaGreatDoor
set_option linter.unusedVariables false
open Go Go.RowKit Go.Maps
set_option maxRecDepth 100000
set_option maxHeartbeats 4000000
open Nt (Tr Nd WF Ps Path at_ cnt used Dd Dk ap)
theorem new14_any (a b : Int) (w : World) : Calls Tryz.prog 19 #[.int .i64 a, .int .i64 b] w fun e w' => ∃ db, e = .returned (.pointer (some ⟨db, 0, none⟩)) ∧ ∃ dt vt ad mb ad' mb', DM (Bs.of w) w' db dt vt (Nt.new a b) (Nt.new a b) (.slice none 0 0) [] 0 (-1) 1 ad mb ad' mb' := by
  have kn := Lib.hid (fun W => new_any W a b)
  go_enter Tryz.func19, Tryz.ntmps19
  go_wp2_with (first
    | (go_at_call 7; refine (kn.out w1).mono ?_; rintro e w2 ⟨rfl, hr2, hb2⟩)
    | (go_at_call 7; refine (kn.out w).mono ?_; rintro e w1 ⟨rfl, hr1, hb1⟩))
  go_ret
  obtain ⟨ad, mb, hR1⟩ := hr1
  obtain ⟨ad', mb', hR2⟩ := hr2
  have hb12 := bthen hb1 hb2
  have hb3 := below_new w2 (.cells (DkC (w.heap.size + 3) (w1.heap.size + 3) (.slice none 0 0) 0 (-1)) 83)
  have hbx := BX.new w2 83 (DkC (w.heap.size + 3) (w1.heap.size + 3) (.slice none 0 0) 0 (-1))
  have g1 : ∀ k, Fm (Nt.new a b) (w.heap.size + 3) ad mb k → w.heap.size ≤ k ∧ k < w1.heap.size := fun k hk => (hR1.fm hk).resolve_left id
  have g2 : ∀ k, Fm (Nt.new a b) (w1.heap.size + 3) ad' mb' k → w1.heap.size ≤ k ∧ k < w2.heap.size := fun k hk => (hR2.fm hk).resolve_left id
  refine ⟨_, rfl, w.heap.size + 3, w1.heap.size + 3, ad, mb, ad', mb', bthen hb12 hb3, hbx, hb12.size, (hR1.later (bthen hb2 hb3)).min, (hR2.later hb3).min, fun k hk => (g1 k hk).1, fun k hk => Nat.le_trans hb1.size (g2 k hk).1, fun k h1 h2 => ?_, World.ownsRow_nil _ _ _ _, fun y hy => (by cases hy), Keep.ofBelow (bthen hb12 hb3), fun k hk => .inr ?_⟩
  rotate_left
  · rcases hk with h1 | h1 | h1 | h1
    · subst h1; exact hb12.size
    · exact (g1 k h1).1
    · exact Nat.le_trans hb1.size (g2 k h1).1
    · cases h1
  have := (g1 k h1).2
  have := (g2 k h2).1
  omega
theorem clone14 {F : Nat → Prop} {w : World} {tb K : Nat} {T : Tr} {ad mb : Nat → Nat} (hR : RepP F K w tb T ad mb) (hW : WF T K) (hK : K ≤ 100000) :
    Calls Tryz.prog 46 #[.pointer (some ⟨tb, 0, none⟩)] w fun e w' => ∃ tb', e = .returned (.pointer (some ⟨tb', 0, none⟩)) ∧ At w w' tb' T K ∧ Below w.heap.size w w' := by
  refine (tclone_any hW hK hR).mono ?_
  rintro e w' ⟨tb', rfl, hl, ⟨ad', mb', hR'⟩, hb⟩
  refine ⟨tb', rfl, ⟨hW, hb, _, ad', mb', ?_, hR'⟩, hb⟩
  rintro k (h1 | h1)
  · exact h1.elim
  · exact h1
section
variable {w0 : Bs} {w : World} {db dt vt K : Nat} {D V : Tr} {v : Value} {l : List Dd} {sy fu : Int} {ad mb ad' mb' : Nat → Nat}
theorem view14_any (h : DM w0 w db dt vt D V v l sy fu K ad mb ad' mb') (hW : WF V K) (hK : K ≤ 100000) :
    Calls Tryz.prog 26 #[.pointer (some ⟨db, 0, none⟩)] w fun e w' => ∃ tb, e = .returned (.pointer (some ⟨tb, 0, none⟩)) ∧ At w w' tb V K ∧ Below w.heap.size w w' := by
  have km := Lib.hid (dmade_any h.box)
  have kc := Lib.hid (clone14 h.repV hW hK)
  have c1 : w.cell? ⟨db, 1, none⟩ = some (.pointer (some ⟨vt, 0, none⟩)) := h.box.cell rfl
  clear h hW
  go_enter Tryz.func26, Tryz.ntmps26
  go_wp2_with (first
    | (go_at_call 46; refine kc.out.mono ?_; rintro e w2 ⟨tb, rfl, ha, hb⟩)
    | (go_at_call 71; refine km.out.mono ?_; rintro e w1 ⟨rfl, rfl⟩))
  go_ret
  exact ⟨tb, rfl, ha, hb⟩
theorem durable14_any (h : DM w0 w db dt vt D V v l sy fu K ad mb ad' mb') (hW : WF D K) (hK : K ≤ 100000) :
    Calls Tryz.prog 28 #[.pointer (some ⟨db, 0, none⟩)] w fun e w' => ∃ tb, e = .returned (.pointer (some ⟨tb, 0, none⟩)) ∧ At w w' tb D K ∧ Below w.heap.size w w' := by
  have km := Lib.hid (dmade_any h.box)
  have kc := Lib.hid (clone14 h.repD hW hK)
  have c1 : w.cell? ⟨db, 0, none⟩ = some (.pointer (some ⟨dt, 0, none⟩)) := h.box.cell rfl
  clear h hW
  go_enter Tryz.func28, Tryz.ntmps28
  go_wp2_with (first
    | (go_at_call 46; refine kc.out.mono ?_; rintro e w2 ⟨tb, rfl, ha, hb⟩)
    | (go_at_call 71; refine km.out.mono ?_; rintro e w1 ⟨rfl, rfl⟩))
  go_ret
  exact ⟨tb, rfl, ha, hb⟩
end
end Go.Proofs.YtbianfjennnofaaGreatDoor
/- A SLICE OF THE DOCUMENT's DEEDS, read. No Go text is named. -/
namespace Go.Proofs.YtbianfjennnofaaGreatDoor
set_option linter.unusedVariables false
open Go Go.RowKit
set_option maxRecDepth 100000
open Nt (Dd)
/-- A slice of deeds, in blocks below B, with their bytes. -/
def QL (w : World) (B : Nat) (A : Option Addr) (n : Nat) (l : List Dd) : Prop :=
  (l.length = n ∧ (0 < n → ∃ b o, A = some ⟨b, o, none⟩ ∧ b < B ∧ ∀ (j : Nat) y, l[j]? = some y → ∀ (i : Nat) u, (DdC y)[i]? = some u → w.cell? ⟨b, o + j * 8 + i, none⟩ = some u)) ∧ ∀ y ∈ l, RB w B y.A y.n y.xs
section
variable {w w' : World} {B n : Nat} {A : Option Addr} {l : List Dd}
theorem QL.below (h : QL w B A n l) (hb : Below B w w') : QL w' B A n l :=
  ⟨⟨h.1.1, fun hn => by
    obtain ⟨b, o, e, hlt, hc⟩ := h.1.2 hn
    exact ⟨b, o, e, hlt, fun j x hj i v hv => (hb.cell (p := ⟨b, o + j * 8 + i, none⟩) hlt).trans (hc j x hj i v hv)⟩⟩, fun y hy => (h.2 y hy).below hb⟩
theorem QL.nil : QL w B A 0 [] := ⟨⟨rfl, fun h => absurd h (by omega)⟩, fun y hy => by cases hy⟩
theorem QL.at_ (h : QL w B A n l) {j : Nat} (hj : j < n) : ∃ b o y, A = some ⟨b, o, none⟩ ∧ b < B ∧ l[j]? = some y ∧ RB w B y.A y.n y.xs ∧ ∀ (i : Nat) u, (DdC y)[i]? = some u → w.cell? ⟨b, o + j * 8 + i, none⟩ = some u := by
  obtain ⟨b, o, e, hlt, hc⟩ := h.1.2 (by omega)
  have hl : j < l.length := by rw [h.1.1]; exact hj
  exact ⟨b, o, l[j], e, hlt, List.getElem?_eq_getElem hl, h.2 _ (List.getElem_mem hl), hc j _ (List.getElem?_eq_getElem hl)⟩
end
end Go.Proofs.YtbianfjennnofaaGreatDoor
