/- ROWS OF POINTERS; A TREE WHOSE PATHS ARE COUNTED AWAY. No Go text is named. -/
import Derived.Test.YtbianfjennnofaaGreatDoorN13c
import Derived.Test.YtbianfjennnofaaGreatDoorGn4
import Derived.Deep.LoopGhost
namespace Go.Proofs.YtbianfjennnofaaGreatDoor
set_option linter.unusedVariables false
open Go Go.RowKit
set_option maxRecDepth 100000
open Nt (Tr Nd WF Ps Path at_ cnt used)
theorem own_block13 {w : World} {B size n : Nat} {e : TypeId} {v : Value} {xs : List Value} (h : w.ownsRow B e size v n xs) {k : Nat} (hk : v.ownBlock = some k) : ∃ cs, w.heap[k]? = some (.cells cs e (0, 0)) := by
  rcases h.2 with ⟨rfl, _⟩ | ⟨g, cap, cur, rfl, _, hg, _⟩
  · simp [Value.ownBlock] at hk
  · obtain rfl : g = k := by simpa [Value.ownBlock] using hk
    exact ⟨cur, hg⟩
theorem own_apart13 {w : World} {B B' size size' n n' : Nat} {e e' : TypeId} {v v' : Value} {xs ys : List Value} (h : w.ownsRow B e size v n xs) (h2 : w.ownsRow B' e' size' v' n' ys) (hne : e ≠ e') {k : Nat} (hk : v.ownBlock = some k) : v'.ownBlock ≠ some k := fun hk' => by
  obtain ⟨c1, h1⟩ := own_block13 h hk
  obtain ⟨c2, h3⟩ := own_block13 h2 hk'
  rw [h1] at h3
  cases h3
  exact hne rfl
theorem own_keep13 {w w' : World} {B size n : Nat} {e : TypeId} {v : Value} {xs : List Value} (h : w.ownsRow B e size v n xs) (hk : ∀ k, v.ownBlock = some k → w'.heap[k]? = w.heap[k]?) : w'.ownsRow B e size v n xs := by
  refine ⟨h.1, ?_⟩
  rcases h.2 with hl | ⟨g, cap, cur, rfl, hbg, hg, h1, h2, h3, h4⟩
  · exact .inl hl
  · exact .inr ⟨g, cap, cur, rfl, hbg, (hk g rfl).trans hg, h1, h2, h3, h4⟩
theorem own_other13 {w w' : World} {B B' size size' n n' : Nat} {e e' : TypeId} {v v' : Value} {xs ys : List Value} (h : w.ownsRow B e size v n xs) (h2 : w.ownsRow B' e' size' v' n' ys) (hne : e ≠ e') (hg : w.grownBy w' v'.ownBlock) : w'.ownsRow B e size v n xs :=
  own_keep13 h fun k hk => hg.block k (World.ownsRow.lt h k hk).2 (own_apart13 h h2 hne hk).symm
/-- THE SLICE VALUE v IS THE CALL's OWN AND HOLDS POINTERS TO THE BLOCKS L. -/
def PR (w : World) (base : Nat) (v : Value) (L : List Nat) : Prop := w.ownsRow base 87 1 v L.length (L.map fun b => Value.pointer (some ⟨b, 0, none⟩))
section
variable {w w' : World} {base : Nat} {v : Value} {L : List Nat}
theorem PR.shape (h : PR w base v L) (h0 : 0 < L.length) : ∃ g c, v = .slice (some ⟨g, 0, none⟩) L.length c ∧ base ≤ g ∧ g < w.heap.size ∧ L.length ≤ c ∧ c ≤ maxLen := by
  have hh := h
  rcases h.2 with ⟨_, h1⟩ | ⟨g, cap, cur, rfl, hb, hg, hnc, hcm, _⟩
  · omega
  · exact ⟨g, cap, rfl, hb, (World.ownsRow.lt hh g rfl).2, hnc, hcm⟩
theorem PR.slice (h : PR w base v L) : ∃ A c, v = .slice A L.length c := row_slice h
theorem PR.cell {g c n : Nat} (h : PR w base (.slice (some ⟨g, 0, none⟩) n c) L) {j b : Nat} (hj : L[j]? = some b) : w.cell? ⟨g, j, none⟩ = some (.pointer (some ⟨b, 0, none⟩)) := by
  have hjl := (List.getElem?_eq_some_iff.1 hj).1
  have hl : n = L.length := by
    rcases h.2 with ⟨h1, _⟩ | ⟨_, _, _, h1, _⟩
    · cases h1
    · cases h1; rfl
  subst hl
  have := World.ownsRow.cellAt (show World.ownsRow _ _ _ _ _ _ _ from h) j (by simpa using hjl)
  rw [this]
  simp [hj]
theorem PR.cut {g c n k : Nat} (h : PR w base (.slice (some ⟨g, 0, none⟩) n c) L) (hk : k ≤ n) : PR w base (.slice (some ⟨g, 0, none⟩) k c) (L.take k) := by
  have hl : n = L.length := by
    rcases h.2 with ⟨h1, _⟩ | ⟨_, _, _, h1, _⟩
    · cases h1
    · cases h1; rfl
  rcases h.2 with ⟨h1, _⟩ | ⟨g', cap, cur, h1, hb, hg, hnc, hcm, hcs, htake⟩
  · cases h1
  · cases h1
    have hlen : (L.take k).length = k := by rw [List.length_take]; omega
    refine ⟨by simp, .inr ⟨g, c, cur, by rw [hlen], hb, hg, by rw [hlen]; omega, hcm, hcs, ?_⟩⟩
    rw [hlen, Nat.mul_one, List.map_take, ← htake, List.take_take]
    congr 1
    omega
theorem PR.one (w : World) (b : Nat) (hb : base ≤ w.heap.size) : PR (w.alloc (.cells #[.pointer (some ⟨b, 0, none⟩)] 87)) base (.slice (some ⟨w.heap.size, 0, none⟩) 1 1) [b] :=
  ⟨rfl, .inr ⟨w.heap.size, 1, _, rfl, hb, heap_alloc_new w _, Nat.le_refl _, by unfold maxLen; omega, rfl, rfl⟩⟩
theorem PR.later (h : PR w base v L) (hb : Below w.heap.size w w') : PR w' base v L := own_keep13 h fun k hk => hb.block k (World.ownsRow.lt h k hk).2
theorem PR.setCell (h : PR w base v L) {a : Addr} (ha : a.block < base) (u : Value) : PR (w.setCell a u) base v L := own_keep13 h fun k hk => Below.heap_setCell _ _ _ _ (by have := (World.ownsRow.lt h k hk).1; omega)
theorem ptr_cells (b : Nat) : ∀ u ∈ [Value.pointer (some ⟨b, 0, none⟩)], u.oneCell' = true := by
  intro u hu
  obtain rfl : u = Value.pointer (some ⟨b, 0, none⟩) := by simpa using hu
  rfl
end
theorem info_node : (Tryz.prog.info? 87).map (fun i => (i.zero, i.size, i.bytes)) = some (some (.pointer none), 1, 8) := by kernel_rfl
theorem OS.rt13 {w : World} {base n c : Nat} {A : Option Addr} {xs : List ByteArray} (h : OS w base (.slice A n c) xs) : RT w w.heap.size A n xs := by
  obtain ⟨A', c', e, hr, _⟩ := h.rt
  cases e
  exact hr
theorem below_grow13 {B : Nat} {a W w2 : World} {size n : Nat} {e : TypeId} {v : Value} {xs : List Value} {o : Obj} (hb : Below B a W) (hB : B ≤ W.heap.size) (ho : W.ownsRow B e size v n xs) (hg : (W.alloc o).grownBy w2 v.ownBlock) : Below B a w2 :=
  (hb.alloc hB o).grown hg (by simp; omega) fun k hk => (World.ownsRow.lt ho k hk).1
theorem PR.snoc {w : World} {base n : Nat} {v : Value} {L : List Nat} {b : Nat} (h : w.ownsRow base 87 1 v n (L.map (fun b => Value.pointer (some ⟨b, 0, none⟩)) ++ [.pointer (some ⟨b, 0, none⟩)])) : PR w base v (L ++ [b]) := by
  have e := h.1
  simp at e
  subst e
  unfold PR
  simpa using h
/-- WHAT STANDS WHILE PATHS ARE COUNTED AWAY: the counts are those of R; all else is as it was in w. -/
structure DS (w wr : World) (tb : Nat) (T : Tr) (ad mb : Nat → Nat) (R : Ps) : Prop where
  tree : BX wr tb 95 (TC T (ad 0) (used R (fun _ => 1) T.nodes) (used R (fun x => x.xs.length) T.nodes))
  node : ∀ p n, (p, n) ∈ T.paths → BX wr (ad n) 91 (NC (T.nd n) (mbv T mb n) (cnt R n : Nat))
  keep : Keep (fun k => k = tb ∨ ∃ p n, (p, n) ∈ T.paths ∧ k = ad n) w wr
section
variable {w wr w2 : World} {tb K : Nat} {T : Tr} {ad mb : Nat → Nat} {R : Ps}
theorem DS.low (h : DS w wr tb T ad mb R) (h0 : DS w w tb T ad mb T.paths) (hb : Below w.heap.size wr w2) : DS w w2 tb T ad mb R :=
  ⟨(hb.block _ h0.tree.lt).trans h.tree, fun p n hm => (hb.block _ (h0.node p n hm).lt).trans (h.node p n hm),
    ⟨hb.os.trans h.keep.os, hb.tape.trans h.keep.tape, hb.output.trans h.keep.output, Nat.le_trans h.keep.size hb.size, fun k hk hn => (hb.block k hk).trans (h.keep.block k hk hn)⟩⟩
/-- A Dir's names stand. -/
theorem DS.map (h : DS w wr tb T ad mb R) (h0 : DS w w tb T ad mb T.paths) {b : Nat} {f : ByteArray → Option Nat} (hm : MapAt w b K f) : MapAt wr b K f := by
  refine hm.of_block (h.keep.block b hm.lt ?_)
  rintro (rfl | ⟨p, n, h1, rfl⟩)
  · exact hm.ne_bx h0.tree rfl
  · exact hm.ne_bx (h0.node p n h1) rfl
theorem DS.popA (h : DS w wr tb T ad mb R) (hW : WF T K) (hinj : ∀ p q n m, (p, n) ∈ T.paths → (q, m) ∈ T.paths → ad n = ad m → n = m) (hd : (R.map (·.1)).Nodup) (hsub : ∀ x ∈ R, x ∈ T.paths) {q : Path} {n : Nat} (hq : (q, n) ∈ R) (hq0 : q ≠ [])
    {c : Nat} (hc : cnt R n = c + 2) : DS w (wr.setCell ⟨ad n, 8, none⟩ (.int .i64 (c + 1 : Nat))) tb T ad mb (R.filter (fun x => decide (x.1 ≠ q))) := by
  have hqT := hsub _ hq
  have hn0 : n ≠ 0 := fun e => hq0 (hW.zero (e ▸ hqT))
  have hnl := hW.lt _ _ hqT
  have hcd := Nt.cnt_drop hd hq
  have hnt : ad n ≠ tb := bx_ne (h.node _ _ hqT) h.tree (by decide)
  have hcn : cnt (R.filter (fun x => decide (x.1 ≠ q))) n = c + 1 := by have := hcd n; rw [if_pos rfl] at this; omega
  refine ⟨?_, ?_, h.keep.trans (Keep.ofOth ((Oth.refl (ad n) wr).setCell 8 _) (.inr ⟨_, _, hqT, rfl⟩))⟩
  · have hu : ∀ f : Nd → Nat, used (R.filter (fun x => decide (x.1 ≠ q))) f T.nodes = used R f T.nodes := fun f => by
      have := Nt.used_drop hd f T.nodes hq hnl hn0
      rw [if_neg (by omega)] at this
      omega
    rw [hu, hu]
    exact h.tree.other hnt.symm _
  · intro p m hm
    by_cases e : m = n
    · subst e
      rw [hcn]
      exact (h.node p m hm).set 8 _
    · have : cnt (R.filter (fun x => decide (x.1 ≠ q))) m = cnt R m := by have := hcd m; rw [if_neg fun e2 => e e2.symm] at this; omega
      rw [this]
      exact (h.node p m hm).other (fun e2 => e (hinj _ _ _ _ hm hqT e2)) _
theorem DS.popB (h : DS w wr tb T ad mb R) (hW : WF T K) (hinj : ∀ p q n m, (p, n) ∈ T.paths → (q, m) ∈ T.paths → ad n = ad m → n = m) (hd : (R.map (·.1)).Nodup) (hsub : ∀ x ∈ R, x ∈ T.paths) {q : Path} {n : Nat} (hq : (q, n) ∈ R) (hq0 : q ≠ [])
    (hc : cnt R n = 1) {u v : Nat} (hu : used R (fun _ => 1) T.nodes = u + 1) (hv : used R (fun x => x.xs.length) T.nodes = v + (T.nd n).xs.length) (j : Nat) :
    DS w ((((wr.setCell ⟨ad n, 8, none⟩ (.int .i64 0)).setCell ⟨tb, 3, none⟩ (.int .i64 (u : Nat))).drewN j).setCell ⟨tb, 4, none⟩ (.int .i64 (v : Nat))) tb T ad mb (R.filter (fun x => decide (x.1 ≠ q))) := by
  have hqT := hsub _ hq
  have hn0 : n ≠ 0 := fun e => hq0 (hW.zero (e ▸ hqT))
  have hnl := hW.lt _ _ hqT
  have hcd := Nt.cnt_drop hd hq
  have hnt : ad n ≠ tb := bx_ne (h.node _ _ hqT) h.tree (by decide)
  have hcn : cnt (R.filter (fun x => decide (x.1 ≠ q))) n = 0 := by have := hcd n; rw [if_pos rfl] at this; omega
  have hk1 : Keep (fun k => k = tb ∨ ∃ p n, (p, n) ∈ T.paths ∧ k = ad n) w ((wr.setCell ⟨ad n, 8, none⟩ (.int .i64 0)).setCell ⟨tb, 3, none⟩ (.int .i64 (u : Nat))) :=
    (h.keep.trans (Keep.ofOth ((Oth.refl (ad n) wr).setCell 8 _) (.inr ⟨_, _, hqT, rfl⟩))).trans (Keep.ofOth ((Oth.refl tb _).setCell 3 _) (.inl rfl))
  refine ⟨?_, ?_, (hk1.trans (Keep.ofBelow (below_drewN (Below.refl _ _) j))).trans (Keep.ofOth ((Oth.refl tb _).setCell 4 _) (.inl rfl))⟩
  · have e1 := Nt.used_drop hd (fun _ => 1) T.nodes hq hnl hn0
    have e2 := Nt.used_drop hd (fun x => x.xs.length) T.nodes hq hnl hn0
    rw [if_pos hc] at e1 e2
    have e3 : T.nodes.getD n Nd.zero = T.nd n := rfl
    rw [e3] at e2
    have e4 : used (R.filter (fun x => decide (x.1 ≠ q))) (fun _ => 1) T.nodes = u := by omega
    have e5 : used (R.filter (fun x => decide (x.1 ≠ q))) (fun x => x.xs.length) T.nodes = v := by omega
    rw [e4, e5]
    exact (((h.tree.other hnt.symm _).set 3 _).drewN j).set 4 _
  · intro p m hm
    have hmt : ad m ≠ tb := bx_ne (h.node _ _ hm) h.tree (by decide)
    by_cases e : m = n
    · subst e
      rw [hcn]
      exact ((((h.node p m hm).set 8 _).other hnt _).drewN j).other hnt _
    · have : cnt (R.filter (fun x => decide (x.1 ≠ q))) m = cnt R m := by have := hcd m; rw [if_neg fun e2 => e e2.symm] at this; omega
      rw [this]
      exact ((((h.node p m hm).other (fun e2 => e (hinj _ _ _ _ hm hqT e2)) _).other hmt _).drewN j).other hmt _
end
end Go.Proofs.YtbianfjennnofaaGreatDoor
