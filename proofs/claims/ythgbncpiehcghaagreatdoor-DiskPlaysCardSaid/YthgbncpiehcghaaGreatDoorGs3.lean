/- ROWS OF POINTERS; A TREE WHOSE PATHS ARE COUNTED AWAY. No Go text is named. -/
import Derived.Test.YthgbncpiehcghaaGreatDoorGs2
import Derived.Test.YthgbncpiehcghaaGreatDoorGn4
import Derived.Deep.LoopGhost
import Derived.StillTailTactics
namespace Go.Proofs.YthgbncpiehcghaaGreatDoor
set_option linter.unusedVariables false
open Go Go.RowKit
set_option maxRecDepth 100000
open Nt (Tr Nd WF Ps Path at_ cnt used)
theorem own_block13 {w : World} {B size n : Nat} {e : TypeId} {v : Value} {xs : List Value} (h : w.ownsRow B e size v n xs) {k : Nat} (hk : v.ownBlock = some k) : ∃ cs, w.heap[k]? = some (.cells cs e (0, 0)) := by
  rcases h.2 with ⟨rfl, _⟩ | ⟨g, cap, cur, rfl, _, hg, _⟩
  · simp [Value.ownBlock] at hk
  · obtain rfl : g = k := by simpa [Value.ownBlock] using hk
    exact ⟨cur, hg⟩
theorem own_apart13 {w : World} {B B' size size' n n' : Nat} {e e' : TypeId} {v v' : Value} {xs ys : List Value} (h : w.ownsRow B e size v n xs) (h2 : w.ownsRow B' e' size' v' n' ys) (hne : e ≠ e') {k : Nat} (hk : v.ownBlock = some k) : v'.ownBlock ≠ some k := fun hk' => by
  obtain ⟨c1, h1⟩ := own_block13 h hk
  obtain ⟨c2, h3⟩ := own_block13 h2 hk'
  rw [h1] at h3
  cases h3
  exact hne rfl
theorem own_keep13 {w w' : World} {B size n : Nat} {e : TypeId} {v : Value} {xs : List Value} (h : w.ownsRow B e size v n xs) (hk : ∀ k, v.ownBlock = some k → w'.heap[k]? = w.heap[k]?) : w'.ownsRow B e size v n xs := by
  refine ⟨h.1, ?_⟩
  rcases h.2 with hl | ⟨g, cap, cur, rfl, hbg, hg, h1, h2, h3, h4⟩
  · exact .inl hl
  · exact .inr ⟨g, cap, cur, rfl, hbg, (hk g rfl).trans hg, h1, h2, h3, h4⟩
theorem own_other13 {w w' : World} {B B' size size' n n' : Nat} {e e' : TypeId} {v v' : Value} {xs ys : List Value} (h : w.ownsRow B e size v n xs) (h2 : w.ownsRow B' e' size' v' n' ys) (hne : e ≠ e') (hg : w.grownBy w' v'.ownBlock) : w'.ownsRow B e size v n xs :=
  own_keep13 h fun k hk => hg.block k (World.ownsRow.lt h k hk).2 (own_apart13 h h2 hne hk).symm
/-- THE SLICE VALUE v IS THE CALL's OWN AND HOLDS POINTERS TO THE BLOCKS L. -/
def PR (w : World) (base : Nat) (v : Value) (L : List Nat) : Prop := w.ownsRow base 104 1 v L.length (L.map fun b => Value.pointer (some ⟨b, 0, none⟩))
section
variable {w w' : World} {base : Nat} {v : Value} {L : List Nat}
theorem PR.shape (h : PR w base v L) (h0 : 0 < L.length) : ∃ g c, v = .slice (some ⟨g, 0, none⟩) L.length c ∧ base ≤ g ∧ g < w.heap.size ∧ L.length ≤ c ∧ c ≤ maxLen := by
  have hh := h
  rcases h.2 with ⟨_, h1⟩ | ⟨g, cap, cur, rfl, hb, hg, hnc, hcm, _⟩
  · omega
  · exact ⟨g, cap, rfl, hb, (World.ownsRow.lt hh g rfl).2, hnc, hcm⟩
theorem PR.slice (h : PR w base v L) : ∃ A c, v = .slice A L.length c := row_slice h
theorem PR.cell {g c n : Nat} (h : PR w base (.slice (some ⟨g, 0, none⟩) n c) L) {j b : Nat} (hj : L[j]? = some b) : w.cell? ⟨g, j, none⟩ = some (.pointer (some ⟨b, 0, none⟩)) := by
  have hjl := (List.getElem?_eq_some_iff.1 hj).1
  have hl : n = L.length := by
    rcases h.2 with ⟨h1, _⟩ | ⟨_, _, _, h1, _⟩
    · cases h1
    · cases h1; rfl
  subst hl
  have := World.ownsRow.cellAt (show World.ownsRow _ _ _ _ _ _ _ from h) j (by simpa using hjl)
  rw [this]
  simp [hj]
theorem PR.cut {g c n k : Nat} (h : PR w base (.slice (some ⟨g, 0, none⟩) n c) L) (hk : k ≤ n) : PR w base (.slice (some ⟨g, 0, none⟩) k c) (L.take k) := by
  have hl : n = L.length := by
    rcases h.2 with ⟨h1, _⟩ | ⟨_, _, _, h1, _⟩
    · cases h1
    · cases h1; rfl
  rcases h.2 with ⟨h1, _⟩ | ⟨g', cap, cur, h1, hb, hg, hnc, hcm, hcs, htake⟩
  · cases h1
  · cases h1
    have hlen : (L.take k).length = k := by rw [List.length_take]; omega
    refine ⟨by simp, .inr ⟨g, c, cur, by rw [hlen], hb, hg, by rw [hlen]; omega, hcm, hcs, ?_⟩⟩
    rw [hlen, Nat.mul_one, List.map_take, ← htake, List.take_take]
    congr 1
    omega
theorem PR.one (w : World) (b : Nat) (hb : base ≤ w.heap.size) : PR (w.alloc (.cells #[.pointer (some ⟨b, 0, none⟩)] 104)) base (.slice (some ⟨w.heap.size, 0, none⟩) 1 1) [b] :=
  ⟨rfl, .inr ⟨w.heap.size, 1, _, rfl, hb, heap_alloc_new w _, Nat.le_refl _, by unfold maxLen; omega, rfl, rfl⟩⟩
theorem PR.later (h : PR w base v L) (hb : Below w.heap.size w w') : PR w' base v L := own_keep13 h fun k hk => hb.block k (World.ownsRow.lt h k hk).2
theorem PR.setCell (h : PR w base v L) {a : Addr} (ha : a.block < base) (u : Value) : PR (w.setCell a u) base v L := own_keep13 h fun k hk => Below.heap_setCell _ _ _ _ (by have := (World.ownsRow.lt h k hk).1; omega)
theorem ptr_cells (b : Nat) : ∀ u ∈ [Value.pointer (some ⟨b, 0, none⟩)], u.oneCell' = true := by
  intro u hu
  obtain rfl : u = Value.pointer (some ⟨b, 0, none⟩) := by simpa using hu
  rfl
end
theorem info_node : (Tryz.prog.info? 104).map (fun i => (i.zero, i.size, i.bytes)) = some (some (.pointer none), 1, 8) := by kernel_rfl
theorem OS.rt13 {w : World} {base n c : Nat} {A : Option Addr} {xs : List ByteArray} (h : OS w base (.slice A n c) xs) : RT w w.heap.size A n xs := by
  obtain ⟨A', c', e, hr, _⟩ := h.rt
  cases e
  exact hr
theorem below_grow13 {B : Nat} {a W w2 : World} {size n : Nat} {e : TypeId} {v : Value} {xs : List Value} {o : Obj} (hb : Below B a W) (hB : B ≤ W.heap.size) (ho : W.ownsRow B e size v n xs) (hg : (W.alloc o).grownBy w2 v.ownBlock) : Below B a w2 :=
  (hb.alloc hB o).grown hg (by simp; omega) fun k hk => (World.ownsRow.lt ho k hk).1
theorem PR.snoc {w : World} {base n : Nat} {v : Value} {L : List Nat} {b : Nat} (h : w.ownsRow base 104 1 v n (L.map (fun b => Value.pointer (some ⟨b, 0, none⟩)) ++ [.pointer (some ⟨b, 0, none⟩)])) : PR w base v (L ++ [b]) := by
  have e := h.1
  simp at e
  subst e
  unfold PR
  simpa using h
/-- WHAT STANDS WHILE PATHS ARE COUNTED AWAY: the counts are those of R; all else is as it was in w. -/
structure DS (w wr : World) (tb : Nat) (T : Tr) (ad mb : Nat → Nat) (R : Ps) : Prop where
  tree : BX wr tb 112 (TC T (ad 0) (used R (fun _ => 1) T.nodes) (used R (fun x => x.xs.length) T.nodes))
  node : ∀ p n, (p, n) ∈ T.paths → BX wr (ad n) 108 (NC (T.nd n) (mbv T mb n) (cnt R n : Nat))
  keep : Keep (fun k => k = tb ∨ ∃ p n, (p, n) ∈ T.paths ∧ k = ad n) w wr
section
variable {w wr w2 : World} {tb K : Nat} {T : Tr} {ad mb : Nat → Nat} {R : Ps}
theorem DS.low (h : DS w wr tb T ad mb R) (h0 : DS w w tb T ad mb T.paths) (hb : Below w.heap.size wr w2) : DS w w2 tb T ad mb R :=
  ⟨(hb.block _ h0.tree.lt).trans h.tree, fun p n hm => (hb.block _ (h0.node p n hm).lt).trans (h.node p n hm),
    ⟨hb.os.trans h.keep.os, hb.tape.trans h.keep.tape, hb.output.trans h.keep.output, Nat.le_trans h.keep.size hb.size, fun k hk hn => (hb.block k hk).trans (h.keep.block k hk hn)⟩⟩
/-- A Dir's names stand. -/
theorem DS.map (h : DS w wr tb T ad mb R) (h0 : DS w w tb T ad mb T.paths) {b : Nat} {f : ByteArray → Option Nat} (hm : MapAt w b K f) : MapAt wr b K f := by
  refine hm.of_block (h.keep.block b hm.lt ?_)
  rintro (rfl | ⟨p, n, h1, rfl⟩)
  · exact hm.ne_bx h0.tree rfl
  · exact hm.ne_bx (h0.node p n h1) rfl
theorem DS.popA (h : DS w wr tb T ad mb R) (hW : WF T K) (hinj : ∀ p q n m, (p, n) ∈ T.paths → (q, m) ∈ T.paths → ad n = ad m → n = m) (hd : (R.map (·.1)).Nodup) (hsub : ∀ x ∈ R, x ∈ T.paths) {q : Path} {n : Nat} (hq : (q, n) ∈ R) (hq0 : q ≠ [])
    {c : Nat} (hc : cnt R n = c + 2) : DS w (wr.setCell ⟨ad n, 8, none⟩ (.int .i64 (c + 1 : Nat))) tb T ad mb (R.filter (fun x => decide (x.1 ≠ q))) := by
  have hqT := hsub _ hq
  have hn0 : n ≠ 0 := fun e => hq0 (hW.zero (e ▸ hqT))
  have hnl := hW.lt _ _ hqT
  have hcd := Nt.cnt_drop hd hq
  have hnt : ad n ≠ tb := bx_ne (h.node _ _ hqT) h.tree (by decide)
  have hcn : cnt (R.filter (fun x => decide (x.1 ≠ q))) n = c + 1 := by have := hcd n; rw [if_pos rfl] at this; omega
  refine ⟨?_, ?_, h.keep.trans (Keep.ofOth ((Oth.refl (ad n) wr).setCell 8 _) (.inr ⟨_, _, hqT, rfl⟩))⟩
  · have hu : ∀ f : Nd → Nat, used (R.filter (fun x => decide (x.1 ≠ q))) f T.nodes = used R f T.nodes := fun f => by
      have := Nt.used_drop hd f T.nodes hq hnl hn0
      rw [if_neg (by omega)] at this
      omega
    rw [hu, hu]
    exact h.tree.other hnt.symm _
  · intro p m hm
    by_cases e : m = n
    · subst e
      rw [hcn]
      exact (h.node p m hm).set 8 _
    · have : cnt (R.filter (fun x => decide (x.1 ≠ q))) m = cnt R m := by have := hcd m; rw [if_neg fun e2 => e e2.symm] at this; omega
      rw [this]
      exact (h.node p m hm).other (fun e2 => e (hinj _ _ _ _ hm hqT e2)) _
theorem DS.popB (h : DS w wr tb T ad mb R) (hW : WF T K) (hinj : ∀ p q n m, (p, n) ∈ T.paths → (q, m) ∈ T.paths → ad n = ad m → n = m) (hd : (R.map (·.1)).Nodup) (hsub : ∀ x ∈ R, x ∈ T.paths) {q : Path} {n : Nat} (hq : (q, n) ∈ R) (hq0 : q ≠ [])
    (hc : cnt R n = 1) {u v : Nat} (hu : used R (fun _ => 1) T.nodes = u + 1) (hv : used R (fun x => x.xs.length) T.nodes = v + (T.nd n).xs.length) (j : Nat) :
    DS w ((((wr.setCell ⟨ad n, 8, none⟩ (.int .i64 0)).setCell ⟨tb, 3, none⟩ (.int .i64 (u : Nat))).drewN j).setCell ⟨tb, 4, none⟩ (.int .i64 (v : Nat))) tb T ad mb (R.filter (fun x => decide (x.1 ≠ q))) := by
  have hqT := hsub _ hq
  have hn0 : n ≠ 0 := fun e => hq0 (hW.zero (e ▸ hqT))
  have hnl := hW.lt _ _ hqT
  have hcd := Nt.cnt_drop hd hq
  have hnt : ad n ≠ tb := bx_ne (h.node _ _ hqT) h.tree (by decide)
  have hcn : cnt (R.filter (fun x => decide (x.1 ≠ q))) n = 0 := by have := hcd n; rw [if_pos rfl] at this; omega
  have hk1 : Keep (fun k => k = tb ∨ ∃ p n, (p, n) ∈ T.paths ∧ k = ad n) w ((wr.setCell ⟨ad n, 8, none⟩ (.int .i64 0)).setCell ⟨tb, 3, none⟩ (.int .i64 (u : Nat))) :=
    (h.keep.trans (Keep.ofOth ((Oth.refl (ad n) wr).setCell 8 _) (.inr ⟨_, _, hqT, rfl⟩))).trans (Keep.ofOth ((Oth.refl tb _).setCell 3 _) (.inl rfl))
  refine ⟨?_, ?_, (hk1.trans (Keep.ofBelow (below_drewN (Below.refl _ _) j))).trans (Keep.ofOth ((Oth.refl tb _).setCell 4 _) (.inl rfl))⟩
  · have e1 := Nt.used_drop hd (fun _ => 1) T.nodes hq hnl hn0
    have e2 := Nt.used_drop hd (fun x => x.xs.length) T.nodes hq hnl hn0
    rw [if_pos hc] at e1 e2
    have e3 : T.nodes.getD n Nd.zero = T.nd n := rfl
    rw [e3] at e2
    have e4 : used (R.filter (fun x => decide (x.1 ≠ q))) (fun _ => 1) T.nodes = u := by omega
    have e5 : used (R.filter (fun x => decide (x.1 ≠ q))) (fun x => x.xs.length) T.nodes = v := by omega
    rw [e4, e5]
    exact (((h.tree.other hnt.symm _).set 3 _).drewN j).set 4 _
  · intro p m hm
    have hmt : ad m ≠ tb := bx_ne (h.node _ _ hm) h.tree (by decide)
    by_cases e : m = n
    · subst e
      rw [hcn]
      exact ((((h.node p m hm).set 8 _).other hnt _).drewN j).other hnt _
    · have : cnt (R.filter (fun x => decide (x.1 ≠ q))) m = cnt R m := by have := hcd m; rw [if_neg fun e2 => e e2.symm] at this; omega
      rw [this]
      exact ((((h.node p m hm).other (fun e2 => e (hinj _ _ _ _ hm hqT e2)) _).other hmt _).drewN j).other hmt _
end
end Go.Proofs.YthgbncpiehcghaaGreatDoor
/- WALKS OF LAYER 13, THIRTEENTH PART: drop. -/
namespace Go.Proofs.YthgbncpiehcghaaGreatDoor
set_option linter.unusedVariables false
open Go Go.RowKit Go.Maps
set_option maxRecDepth 100000
set_option maxHeartbeats 1000000
open Nt (Tr Nd WF Ps Path at_ cnt used)
section
variable {F : Nat → Prop} {K tb : Nat} {w w' : World} {T : Tr} {ad mb : Nat → Nat}
/-- A node's names, rising, whatever it is. -/
theorem rising_tree (hW : WF T K) (hK : K ≤ 100000) {q : Path} {n : Nat} (hq : (q, n) ∈ T.paths) {k : Int} (hx : BX w (ad n) 108 (NC (T.nd n) (mbv T mb n) k)) (hm : (T.nd n).kind = 4 → MapAt w (mb n) K (fun s => (at_ T.paths (q ++ [s])).map ad)) :
    Calls Tryz.prog 100 #[.pointer (some ⟨ad n, 0, none⟩)] w fun e w' => ∃ v L, e = .returned v ∧ (L.Pairwise (fun x y => Pp.lt x y = true) ∧ ∀ s, s ∈ L ↔ (at_ T.paths (q ++ [s])).isSome = true) ∧ OS w' w.heap.size v L ∧ Below w.heap.size w w' := by
  by_cases hk : (T.nd n).kind = 4
  · have e : mbv T mb n = some (mb n) := by unfold mbv; rw [if_pos hk]
    rw [e] at hx
    refine (rising_any w (ad n) (mb n) K (T.nd n) k _ hx (hm hk) (by omega)).mono ?_
    rintro e w' ⟨v, L, rfl, ⟨h1, h2⟩, h3, h4⟩
    refine ⟨v, L, rfl, ⟨h1, fun s => ?_⟩, h3, h4⟩
    rw [h2, Option.isSome_map]
    constructor
    · exact fun h => h.2
    · intro h
      refine ⟨?_, h⟩
      obtain ⟨j, hj⟩ := Option.isSome_iff_exists.1 h
      have := Nt.nm_le (hW.up q s j (Nt.at_mem hj)).2.1
      unfold maxLen; omega
  · have e : mbv T mb n = none := by unfold mbv; rw [if_neg hk]
    rw [e] at hx
    refine (rising_nil w (ad n) (T.nd n) k hx).mono ?_
    rintro e w' ⟨v, rfl, h3, h4⟩
    refine ⟨v, [], rfl, ⟨List.Pairwise.nil, fun s => ?_⟩, h3, h4⟩
    constructor
    · intro h; cases h
    · intro h
      obtain ⟨j, hj⟩ := Option.isSome_iff_exists.1 h
      obtain ⟨_, _, m, h5, h6⟩ := hW.up q s j (Nt.at_mem hj)
      rw [Nt.nodup_one hW.nodup hq h5] at hk
      exact absurd h6 hk
/-- The node that stands at a name under q. -/
def kidN (T : Tr) (q : Path) (s : ByteArray) : Nat := (at_ T.paths (q ++ [s])).getD 0
theorem lt_nodup {L : List ByteArray} (h : L.Pairwise (fun x y => Pp.lt x y = true)) : L.Nodup := h.imp fun {a b} hab e => by
  subst e
  rw [Pp.lt_irrefl] at hab
  cases hab
theorem len_sub {α : Type} [DecidableEq α] : ∀ {S l : List α}, S.Nodup → (∀ x ∈ S, x ∈ l) → S.length ≤ l.length
  | [], l, _, _ => Nat.zero_le _
  | x :: S, l, hd, hs => by
    rw [List.nodup_cons] at hd
    have hx := hs x (by simp)
    have := len_sub (S := S) (l := l.erase x) hd.2 fun y hy => (List.mem_erase_of_ne fun e => hd.1 (by rw [← e]; exact hy)).2 (hs y (List.mem_cons_of_mem _ hy))
    rw [List.length_erase_of_mem hx] at this
    have := List.length_pos_of_mem hx
    simp only [List.length_cons]
    omega
theorem ac_len {S : List Path} {R : Ps} (hA : Nt.AC S) (hs : ∀ p ∈ S, ∃ n, (p, n) ∈ R) : S.length ≤ R.length := by
  have h1 : S.Nodup := hA.imp fun {a b} h e => h.1 (by rw [e]; exact List.prefix_refl _)
  have := len_sub h1 (l := R.map (·.1)) fun p hp => by
    obtain ⟨n, hn⟩ := hs p hp
    exact List.mem_map.2 ⟨_, hn, rfl⟩
  rwa [List.length_map] at this
theorem drop_any (hW : WF T K) (hK : K ≤ 100000) {P0 : Path} {n0 : Nat} (h0 : (P0, n0) ∈ T.paths) (hne : P0 ≠ []) (hD : DS w w tb T ad mb T.paths) (hinj : ∀ p q n m, (p, n) ∈ T.paths → (q, m) ∈ T.paths → ad n = ad m → n = m)
    (hmap : ∀ d n, (d, n) ∈ T.paths → (T.nd n).kind = 4 → P0 <+: d → MapAt w (mb n) K (fun s => (at_ T.paths (d ++ [s])).map ad)) :
    Calls Tryz.prog 94 #[.pointer (some ⟨tb, 0, none⟩), .pointer (some ⟨ad n0, 0, none⟩)] w fun e w' => e = .returned (.tuple #[]) ∧ DS w w' tb T ad mb (Nt.cut T.paths P0) := by
  obtain ⟨i0, hi, hz0, hz1, hz2⟩ := info_parts info_node
  have HD0 := Lib.hid hD
  have hDst : Hid (DS w (w.alloc (.cells #[.pointer (some ⟨ad n0, 0, none⟩)] 104)) tb T ad mb (Nt.rem T.paths P0 [P0])) := by
    rw [Nt.rem_start]
    exact hD.low hD (below_new w _)
  have hPR := PR.one (base := w.heap.size) w (ad n0) (Nat.le_refl _)
  have hmany := hW.many
  have HPR := Lib.hid hPR
  clear hPR
  go_enter Tryz.func94, Tryz.ntmps94
  go_wp2
  go_loopg [1, 4] T.paths.length (fun k n v wr => ∃ S : Ps, True ∧ PR wr w.heap.size v (S.map fun x => ad x.2) ∧ Hid (∀ x ∈ S, x ∈ T.paths ∧ P0 <+: x.1) ∧ Hid (Nt.AC (S.map (·.1))) ∧ Hid (DS w wr tb T ad mb (Nt.rem T.paths P0 (S.map (·.1)))) ∧ Hid (k = (Nt.rem T.paths P0 (S.map (·.1))).length))
  case atStart =>
    refine ⟨[(P0, n0)], trivial, HPR.out, ?_, ?_, hDst, ?_⟩
    · intro x hx
      obtain rfl : x = (P0, n0) := by simpa using hx
      exact ⟨h0, List.prefix_refl _⟩
    · exact List.pairwise_singleton _ _
    · show _ = _
      rw [List.map_cons, List.map_nil, Nt.rem_start]
  case round =>
    obtain ⟨S, -, hpr, HS, HA, HD, HG⟩ := hrel
    rcases List.eq_nil_or_concat S with rfl | ⟨S1, ⟨q, n⟩, rfl⟩
    · obtain ⟨A, c, rfl⟩ := hpr.slice
      simp only [List.map_nil, List.length_nil] at hpr HD ⊢
      have HD2 : Hid (DS w wr tb T ad mb (Nt.cut T.paths P0)) := by rw [← Nt.rem_end]; exact HD
      go_wp2
      refine bodyPost_end (v := .tuple #[]) (by simp [results, Tryz.f94, go_sem]) rfl ?_
      exact ⟨rfl, HD2.out⟩
    · rw [List.concat_eq_append] at hpr HS HA HD HG
      obtain ⟨g, c, rfl, hgb, hgl, hlc, hcm⟩ := hpr.shape (by simp)
      obtain ⟨N, hN⟩ : ∃ N, S1.length = N := ⟨_, rfl⟩
      have hlen : ((S1 ++ [(q, n)]).map fun x => ad x.2).length = N + 1 := by simp [hN]
      rw [hlen] at hpr hlc ⊢
      have hcell := hpr.cell (j := N) (b := ad n) (by simp [← hN])
      have hcut := Lib.hid (hpr.cut (k := N) (by omega))
      obtain ⟨hqT, hqu⟩ := HS.out (q, n) (by simp)
      have hq0 : q ≠ [] := fun e => hne (List.prefix_nil.1 (e ▸ hqu))
      have hAC := HA.out
      rw [List.map_append, List.map_cons, List.map_nil] at hAC HD HG
      obtain ⟨R, hRR⟩ : ∃ R, Nt.rem T.paths P0 (S1.map (·.1) ++ [q]) = R := ⟨_, rfl⟩
      have hRd : (R.map (·.1)).Nodup := by rw [← hRR]; exact Nt.rem_nodup hW.nodup _ _
      have hRs : ∀ x ∈ R, x ∈ T.paths := fun x hx => by rw [← hRR] at hx; exact (Nt.mem_rem.1 hx).1
      have hRq : (q, n) ∈ R := by rw [← hRR]; exact Nt.mem_rem.2 ⟨hqT, .inr ⟨q, by simp, List.prefix_refl _⟩⟩
      have hRp := fun (L : List ByteArray) (hL : ∀ s, s ∈ L ↔ (at_ T.paths (q ++ [s])).isSome = true) => Nt.rem_pop hW hqT hqu hAC hL
      rw [hRR] at HD HG hRp
      have htk : (List.map (fun x : Path × Nat => ad x.2) (S1 ++ [(q, n)])).take N = S1.map fun x => ad x.2 := by rw [← hN, List.map_append, List.take_left' (by simp)]
      rw [htk] at hcut
      have HDW := Lib.hid (fun W (hb : Below w.heap.size wr W) => HD.out.low HD0.out hb)
      have kr := Lib.hid (fun W (h : DS w W tb T ad mb R) => rising_tree hW hK hqT (h.node _ _ hqT) (fun hk => h.map HD0.out (hmap _ _ hqT hk hqu)))
      have hHRR := Lib.hid hRR
      have hS1T : ∀ p ∈ S1.map (·.1), ∃ n, (p, n) ∈ T.paths := fun p hp => by
        obtain ⟨x, hx, rfl⟩ := List.mem_map.1 hp
        exact ⟨x.2, (HS.out x (List.mem_append_left _ hx)).1⟩
      have hNb : N ≤ 100000 := by
        have := ac_len hAC (R := T.paths) fun p hp => by
          rcases List.mem_append.1 hp with h | h
          · exact hS1T p h
          · obtain rfl : p = q := by simpa using h
            exact ⟨n, hqT⟩
        simp at this
        omega
      have HS1T := Lib.hid hS1T
      clear hS1T
      have HN := Lib.hid hN
      have HC1 := Lib.hid hAC
      have HRs := Lib.hid hRs
      have HRp := Lib.hid hRp
      have HRd := Lib.hid hRd
      have hlow := Lib.hid HD.out.keep.size
      clear htk hpr hlen hRR hAC HA hRs hRp hRd HPR hDst hN
      go_wp2
      go_quiet (fail)
      go_wp2_with (go_at_call 100; refine (kr.out _ (HDW.out _ (below_drewN (Below.refl _ wr) nq |>.mono hlow.out))).mono ?_; rintro e w1 ⟨vn, L, rfl, ⟨hL1, hL2⟩, ho, hb1⟩; obtain ⟨An, cn, rfl, _, hlcn, hcmn⟩ := ho.rt)
      have ho1 : OS w1 w.heap.size (.slice An L.length cn) L := row_more ho hlow.out
      have hb2 : Below w.heap.size wr w1 := (below_drewN (Below.refl _ wr) nq).trans (hb1.mono hlow.out)
      have hp1 : PR w1 w.heap.size (.slice (some ⟨g, 0, none⟩) N c) (S1.map fun x => ad x.2) := hcut.out.later ((below_drewN (Below.refl _ wr) nq).trans hb1)
      have HAC2 := Lib.hid (HC1.out.pop (lt_nodup hL1))
      have hkid := Lib.hid (fun s (hs : s ∈ L) => show at_ T.paths (q ++ [s]) = some (kidN T q s) from by
        obtain ⟨j, hj⟩ := Option.isSome_iff_exists.1 ((hL2 s).1 hs)
        unfold kidN
        rw [hj]
        rfl)
      have hNL : N + L.length ≤ 100000 := by
        have := ac_len HAC2.out (R := T.paths) fun p hp => by
          rcases List.mem_append.1 hp with h | h
          · exact HS1T.out p h
          · obtain ⟨s, hs, rfl⟩ := List.mem_map.1 h
            exact ⟨_, Nt.at_mem (hkid.out s hs)⟩
        have := HN.out
        simp at *
        omega
      have HL2 := Lib.hid hL2
      have HL1 := Lib.hid hL1
      have HP1 := Lib.hid hp1
      have HO1 := Lib.hid ho1
      have hN2 := HN.out
      clear hL1 hL2 ho hp1 ho1 hb1 hcell
      go_loopw [4, 26] (fun v i W => ∃ k : Nat, k ≤ L.length ∧ i = .int .i64 k ∧ PR W w.heap.size v ((S1.map fun x => ad x.2) ++ (L.take k).map fun s => ad (kidN T q s)) ∧ Hid (OS W w.heap.size (.slice An L.length cn) L) ∧ Below w.heap.size wr W) (fun _ i _ => L.length - (intOf i).toNat)
      case atStart => exact ⟨0, Nat.zero_le _, rfl, by simpa using HP1.out, HO1.out, hb2⟩
      case round =>
        obtain ⟨k, hk, rfl, hpk, hok, hbk⟩ := hrel
        obtain ⟨Av, cv, rfl⟩ := hpk.slice
        have hlk : ((S1.map fun x => ad x.2) ++ (L.take k).map fun s => ad (kidN T q s)).length = N + k := by simp [hN2]; omega
        rw [hlk] at hpk ⊢
        by_cases hlt : k < L.length
        · have hlt' : (k : Int) < L.length := by omega
          obtain ⟨b, x, rfl, hx, hcx⟩ := hok.out.rt13.at_ hlt
          have hxL := List.mem_of_getElem? hx
          have hj := hkid.out x hxL
          have hnm := (hW.up _ _ _ (Nt.at_mem hj)).2.1
          have hkd : (T.nd n).kind = 4 := by
            obtain ⟨_, _, m, h5, h6⟩ := hW.up _ _ _ (Nt.at_mem hj)
            rw [Nt.nodup_one hW.nodup hqT h5]
            exact h6
          have hds := HDW.out wr hbk
          have d7 : wr.cell? ⟨ad n, 7, none⟩ = some (.map (some (mb n))) := by
            have := (hds.node _ _ hqT).cell (j := 7) (v := .map (mbv T mb n)) rfl
            rw [this]
            unfold mbv
            rw [if_pos hkd]
          have hlook := (hds.map HD0.out (hmap _ _ hqT hkd hqu)).look (s := x) (by have := Nt.nm_le hnm; unfold maxLen; omega)
          rw [hj] at hlook
          obtain ⟨J, hJ⟩ : ∃ J, kidN T q x = J := ⟨_, rfl⟩
          rw [hJ] at hlook
          replace hlook : (Instr.lookup 106 (.map (some (mb n))) (.string x) false).run Tryz.prog wr = .ok (.pointer (some ⟨ad J, 0, none⟩)) wr := hlook
          have hpk' := Lib.hid hpk
          have hsz := Nat.le_trans hlow.out hbk.size
          have htake : Hid ((L.take (k + 1)).map (fun s => ad (kidN T q s)) = (L.take k).map (fun s => ad (kidN T q s)) ++ [ad J]) := by
            show _ = _
            rw [List.take_add_one, hx, List.map_append, ← hJ]
            rfl
          have hown0 : Hid (wr.ownsRow w.heap.size 104 1 (.slice Av (N + k) cv) (N + k) (((S1.map fun x => ad x.2) ++ (L.take k).map fun s => ad (kidN T q s)).map fun b => Value.pointer (some ⟨b, 0, none⟩))) := by
            have := hpk
            unfold PR at this
            rw [hlk] at this
            exact this
          clear hx hj hnm hkd hds hJ hlk hpk hxL
          go_wp2_with (at_builtin; refine wpList_append_own _ rfl _ _ 185 rfl w.heap.size 104 i0 (.pointer none) 1 8 Tryz.underlying185 hi hz0 hz1 hz2 rfl (by decide) _ _ _ rfl (hown0.out.alloc _) ⟨wr.heap.size, 0, none⟩ 1 1 [.pointer (some ⟨ad J, 0, none⟩)] rfl rfl (cell_one_new _ _ _) (ptr_cells _) (by unfold maxLen; omega) (by omega) (by simp; omega) ?_; intro v2 w3 hown2 hgrow2 _)
          go_roundw
          case rel =>
            refine ⟨k + 1, by omega, by go_num, ?_, ?_, below_grow13 hbk hsz hown0.out hgrow2⟩
            · rw [htake.out, ← List.append_assoc]
              exact PR.snoc (by simpa using hown2)
            · exact own_other13 (World.ownsRow.alloc hok.out _) (World.ownsRow.alloc hown0.out _) (by decide) hgrow2
          case measure => simp [intOf]; omega
        · have e : k = L.length := by omega
          subst e
          rw [List.take_length] at hpk
          have hds := HDW.out wr hbk
          have hR' := HRp.out L HL2.out
          have hS' : (S1 ++ L.map fun s => (q ++ [s], kidN T q s)).map (·.1) = S1.map (·.1) ++ L.map fun s => q ++ [s] := by
            rw [List.map_append, List.map_map]; rfl
          have hS2 : (S1 ++ L.map fun s => (q ++ [s], kidN T q s)).map (fun x => ad x.2) = (S1.map fun x => ad x.2) ++ L.map fun s => ad (kidN T q s) := by
            rw [List.map_append, List.map_map]; rfl
          have hmem : ∀ x ∈ S1 ++ L.map (fun s => (q ++ [s], kidN T q s)), x ∈ T.paths ∧ P0 <+: x.1 := fun x hx => by
            rcases List.mem_append.1 hx with h | h
            · exact HS.out x (List.mem_append_left _ h)
            · obtain ⟨s, hs, rfl⟩ := List.mem_map.1 h
              exact ⟨Nt.at_mem (hkid.out s hs), hqu.trans (List.prefix_append _ _)⟩
          have hlen2 := Nt.len_drop HRd.out hRq
          have hnd := hds.node _ _ hqT
          have hn0 : n ≠ 0 := fun e => hq0 (hW.zero (e ▸ hqT))
          have hnl := hW.lt _ _ hqT
          have hnlow := (HD0.out.node _ _ hqT).lt
          have htlow := HD0.out.tree.lt
          have hnt : ad n ≠ tb := bx_ne hnd hds.tree (by decide)
          have hcl := Nt.cnt_le R n
          have hRl : R.length ≤ K := Nat.le_trans (by rw [← hHRR.out]; exact List.length_filter_le _ _) hmany
          have HPK := Lib.hid hpk
          have HREL := Lib.hid (fun (W : World) (hpW : PR W w.heap.size (.slice Av (N + L.length) cv) ((S1.map fun x => ad x.2) ++ L.map fun s => ad (kidN T q s))) (hdW : DS w W tb T ad mb (R.filter (fun x => decide (x.1 ≠ q)))) =>
            show ∃ S : Ps, True ∧ PR W w.heap.size (.slice Av (N + L.length) cv) (S.map fun x => ad x.2) ∧ Hid (∀ x ∈ S, x ∈ T.paths ∧ P0 <+: x.1) ∧ Hid (Nt.AC (S.map (·.1))) ∧ Hid (DS w W tb T ad mb (Nt.rem T.paths P0 (S.map (·.1)))) ∧ Hid ((R.filter (fun x => decide (x.1 ≠ q))).length = (Nt.rem T.paths P0 (S.map (·.1))).length) from
              ⟨S1 ++ L.map fun s => (q ++ [s], kidN T q s), trivial, by rw [hS2]; exact hpW, hmem, by rw [hS']; exact HAC2.out, by rw [hS', hR']; exact hdW, by show _ = _; rw [hS', hR']⟩)
          obtain ⟨C, hC⟩ : ∃ C, cnt R n = C + 1 := ⟨cnt R n - 1, by have := Nt.cnt_pos.2 ⟨_, hRq⟩; omega⟩
          clear hpk hS' hS2 hmem hR'
          rcases C with _ | C
          · have e1 := Nt.used_drop HRd.out (fun _ => 1) T.nodes hRq hnl hn0
            have e2 := Nt.used_drop HRd.out (fun x => x.xs.length) T.nodes hRq hnl hn0
            rw [if_pos hC] at e1 e2
            have e3 : T.nodes.getD n Nd.zero = T.nd n := rfl
            rw [e3] at e2
            have b1 : used R (fun _ => 1) T.nodes ≤ K := Nat.le_trans (Nt.used_le _ _ 1 fun _ _ => Nat.le_refl _) (by have := hW.few; omega)
            have b2 : used R (fun x => x.xs.length) T.nodes ≤ K * 4096 := Nat.le_trans (Nt.used_le _ _ 4096 fun x hx => by have := hW.kinds x hx; unfold Nd.ok at this; omega) (Nat.mul_le_mul_right _ hW.few)
            obtain ⟨u, hu⟩ : ∃ u, used (R.filter (fun x => decide (x.1 ≠ q))) (fun _ => 1) T.nodes = u := ⟨_, rfl⟩
            obtain ⟨v, hv⟩ : ∃ v, used (R.filter (fun x => decide (x.1 ≠ q))) (fun x => x.xs.length) T.nodes = v := ⟨_, rfl⟩
            rw [hu] at e1
            rw [hv] at e2
            have HP := Lib.hid (fun j => hds.popB hW hinj HRd.out HRs.out hRq hq0 hC e1 e2 j)
            obtain ⟨D, hD⟩ : ∃ D, strOfNums (T.nd n).xs = D := ⟨_, rfl⟩
            have hDs := son_size (T.nd n).xs
            rw [hD] at hDs
            obtain ⟨U, hU⟩ : ∃ U : Int, ((u + 1 : Nat) : Int) = U := ⟨_, rfl⟩
            obtain ⟨U', hU'⟩ : ∃ U' : Int, (u : Int) = U' := ⟨_, rfl⟩
            obtain ⟨V, hV⟩ : ∃ V : Int, ((v + (T.nd n).xs.length : Nat) : Int) = V := ⟨_, rfl⟩
            obtain ⟨V', hV'⟩ : ∃ V' : Int, (v : Int) = V' := ⟨_, rfl⟩
            have w1 : IntKind.i64.wrap (U - 1) = U' := by rw [wrap_small (by omega) (by omega)]; omega
            have w2 : IntKind.i64.wrap (V - (D.size : Int)) = V' := by rw [wrap_small (by omega) (by omega)]; omega
            have c8 : wr.cell? ⟨ad n, 8, none⟩ = some (.int .i64 1) := by have := hnd.cell (j := 8) (v := .int .i64 (cnt R n : Nat)) rfl; rw [this, hC]; rfl
            have f8 := hnd.free 8
            have hnd1 := Lib.hid (hnd.set 8 (.int .i64 0))
            have htr1 := Lib.hid (hds.tree.other (b := ad n) (j := 8) hnt.symm (.int .i64 0))
            have t3 : (wr.setCell ⟨ad n, 8, none⟩ (.int .i64 0)).cell? ⟨tb, 3, none⟩ = some (.int .i64 U) := by rw [← hU, ← e1]; exact htr1.out.cell rfl
            have g3 := htr1.out.free 3
            have t4 : ((wr.setCell ⟨ad n, 8, none⟩ (.int .i64 0)).setCell ⟨tb, 3, none⟩ (.int .i64 U')).cell? ⟨tb, 4, none⟩ = some (.int .i64 V) := by rw [← hV, ← e2]; exact (htr1.out.set 3 (.int .i64 U')).cell rfl
            have g4 := (htr1.out.set 3 (.int .i64 U')).free 4
            have n6 : ((wr.setCell ⟨ad n, 8, none⟩ (.int .i64 0)).setCell ⟨tb, 3, none⟩ (.int .i64 U')).cell? ⟨ad n, 6, none⟩ = some (.string D) := by rw [← hD]; exact (hnd1.out.other (b := tb) (j := 3) hnt (.int .i64 U')).cell rfl
            rw [hU', hV'] at HP
            have HPK2 := Lib.hid (fun j => (((HPK.out.setCell (a := ⟨ad n, 8, none⟩) hnlow (.int .i64 0)).setCell (a := ⟨tb, 3, none⟩) htlow (.int .i64 U')).later (below_drewN (Below.refl _ _) j)).setCell (a := ⟨tb, 4, none⟩) htlow (.int .i64 V'))
            have HGK := Lib.hid (show (R.filter (fun x => decide (x.1 ≠ q))).length < gk from by rw [HG.out, hlen2]; omega)
            clear hds hnd e1 e2 hU hU' hV hV' hDs hu hv hC hlen2 hD b1 b2 hnl hn0
            go_wp2
            have HPW := Lib.hid (show DS w ((((wr.setCell ⟨ad n, 8, none⟩ (.int .i64 0)).setCell ⟨tb, 3, none⟩ (.int .i64 U')).drew).setCell ⟨tb, 4, none⟩ (.int .i64 V')) tb T ad mb (R.filter (fun x => decide (x.1 ≠ q))) from HP.out 1)
            have HPKW := Lib.hid (show PR ((((wr.setCell ⟨ad n, 8, none⟩ (.int .i64 0)).setCell ⟨tb, 3, none⟩ (.int .i64 U')).drew).setCell ⟨tb, 4, none⟩ (.int .i64 V')) w.heap.size (.slice Av (N + L.length) cv) ((S1.map fun x => ad x.2) ++ L.map fun s => ad (kidN T q s)) from HPK2.out 1)
            clear HP HPK2 c8 f8 t3 g3 hnd1 htr1
            generalize (wr.setCell ⟨ad n, 8, none⟩ (.int .i64 0)).setCell ⟨tb, 3, none⟩ (.int .i64 U') = W2 at *
            go_still_tail 14, (by kernel_rfl)
            change wpList _ _ _ _ _ W2.drew
            have g4' : W2.drew.frozen? ⟨tb, 4, none⟩ = false := g4
            go_wp2
            go_roundg ((R.filter (fun x => decide (x.1 ≠ q))).length)
            case measure => exact HGK.out
            case rel => exact HREL.out _ HPKW.out HPW.out
          · obtain ⟨M, hM⟩ : ∃ M : Int, ((C + 1 + 1 : Nat) : Int) = M := ⟨_, rfl⟩
            obtain ⟨M', hM'⟩ : ∃ M' : Int, ((C + 1 : Nat) : Int) = M' := ⟨_, rfl⟩
            have w1 : IntKind.i64.wrap (M - 1) = M' := by rw [wrap_small (by omega) (by omega)]; omega
            have c8 : wr.cell? ⟨ad n, 8, none⟩ = some (.int .i64 M) := by have := hnd.cell (j := 8) (v := .int .i64 (cnt R n : Nat)) rfl; rw [this, hC, hM]
            have f8 := hnd.free 8
            have gz : (M' == 0) = false := by simp; omega
            have HP := Lib.hid (hds.popA hW hinj HRd.out HRs.out hRq hq0 (c := C) hC)
            rw [hM'] at HP
            have HPK2 := Lib.hid (HPK.out.setCell (a := ⟨ad n, 8, none⟩) hnlow (.int .i64 M'))
            have HGK := Lib.hid (show (R.filter (fun x => decide (x.1 ≠ q))).length < gk from by rw [HG.out, hlen2]; omega)
            clear hds hnd hM hM' hC hlen2 hnl hn0
            go_wp2
            go_roundg ((R.filter (fun x => decide (x.1 ≠ q))).length)
            case measure => exact HGK.out
            case rel => exact HREL.out _ HPK2.out HP.out
end
end Go.Proofs.YthgbncpiehcghaaGreatDoor
/- A TREE OF FILES IN MEMORY, THIRD PART: paths that go, and that become others. No Go text is named. -/
namespace Go.Proofs.YthgbncpiehcghaaGreatDoor
set_option linter.unusedVariables false
open Go Go.RowKit
set_option maxRecDepth 100000
open Nt (Tr Nd WF Ps Path at_ cnt used)
/-- Each Dir's names are g's. -/
def MapsAt (w : World) (K : Nat) (T : Tr) (ad mb : Nat → Nat) (g : Path → ByteArray → Option Nat) : Prop := ∀ d m, (d, m) ∈ T.paths → (T.nd m).kind = 4 → MapAt w (mb m) K (fun s => (g d s).map ad)
section
variable {F : Nat → Prop} {K K' tb : Nat} {w w' w2 w3 : World} {T : Tr} {ad mb : Nat → Nat} {g : Path → ByteArray → Option Nat}
theorem RepP.maps (h : RepP F K w tb T ad mb) : MapsAt w K T ad mb (fun d s => at_ T.paths (d ++ [s])) := fun d m hm hk => (h.map d m hm hk).2
theorem RepP.ds (h : RepP F K w tb T ad mb) : DS w w tb T ad mb T.paths := ⟨h.tree, fun p n hm => (h.node p n hm).1, Keep.refl _ _⟩
theorem RepP.ds_oth (h : RepP F K w tb T ad mb) {q : Path} {m : Nat} (hm : (q, m) ∈ T.paths) (hk : (T.nd m).kind = 4) (ho : Oth (mb m) w w') : DS w' w' tb T ad mb T.paths :=
  ⟨h.tree.oth ho (h.tree_map hm hk), fun p n hn => (h.node p n hn).1.oth ho (h.ne_map hn hm hk), Keep.refl _ _⟩
theorem MapsAt.turn (h : MapsAt w K T ad mb g) (hR : RepP F K' w2 tb T ad mb) (hW : WF T K') {q : Path} {m : Nat} {y : ByteArray} {o : Option Nat} (hm : (q, m) ∈ T.paths) (hk : (T.nd m).kind = 4) {L : Nat} (hL : K ≤ L)
    (hmap : MapAt w' (mb m) L (fun s => if s = y then o.map ad else (g q s).map ad)) (ho : Oth (mb m) w w') : MapsAt w' L T ad mb (fun d s => if d ++ [s] = q ++ [y] then o else g d s) := by
  intro d n hn hkn
  by_cases e : n = m
  · subst e
    obtain rfl : d = q := hW.one _ _ _ hn hm (by rw [hk]; decide)
    refine hmap.cong fun s _ => ?_
    by_cases es : s = y
    · subst es; simp
    · have e3 : ¬ d ++ [s] = d ++ [y] := fun e => es (by simpa using List.append_cancel_left e)
      simp only [if_neg es, if_neg e3]
  · refine (((h d n hn hkn).oth ho fun e2 => e (hR.minj _ _ _ _ hn hm hkn hk e2)).mono hL).cong fun s _ => ?_
    have e3 : ¬ d ++ [s] = q ++ [y] := fun e2 => by
      obtain ⟨rfl, _⟩ := List.append_inj' e2 rfl
      exact e (Nt.nodup_one hW.nodup hn hm)
    simp only [if_neg e3]
theorem MapsAt.ds (h : MapsAt w K T ad mb g) (hD0 : DS w w tb T ad mb T.paths) {R : Ps} (hD : DS w w' tb T ad mb R) : MapsAt w' K T ad mb g := fun d m hm hk => hD.map hD0 (h d m hm hk)
/-- All under a path is gone. -/
theorem RepP.cleared (hR : RepP F K w tb T ad mb) (hW : WF T K) {q : Path} {y : ByteArray} {m : Nat} (hm : (q, m) ∈ T.paths) (hk : (T.nd m).kind = 4)
    (hmap : MapAt w2 (mb m) K (fun s => if s = y then none else (at_ T.paths (q ++ [s])).map ad)) (ho : Oth (mb m) w w2) (hD : DS w2 w3 tb T ad mb (Nt.cut T.paths (q ++ [y]))) : RepP F K w3 tb (T.clr1 (q ++ [y])) ad mb := by
  have hD0 := hR.ds_oth hm hk ho
  have hM := (hR.maps.turn hR hW hm hk (Nat.le_refl _) (o := none) hmap ho).ds hD0 hD
  have old : ∀ {r : Path} {n : Nat}, (r, n) ∈ (T.clr1 (q ++ [y])).paths → (r, n) ∈ T.paths := fun h => (Nt.mem_cut.1 h).1
  refine ⟨hD.tree, hR.ftree, fun r n hr => ⟨hD.node _ _ (old hr), (hR.node _ _ (old hr)).2⟩, fun a b c d h1 h2 e => hR.inj _ _ _ _ (old h1) (old h2) e, ?_, fun a b c d h1 h2 k1 k2 e => hR.minj _ _ _ _ (old h1) (old h2) k1 k2 e⟩
  intro r n hr hkn
  refine ⟨(hR.map _ _ (old hr) hkn).1, (hM r n (old hr) hkn).cong fun s _ => ?_⟩
  have : at_ (T.clr1 (q ++ [y])).paths (r ++ [s]) = if r ++ [s] = q ++ [y] then none else at_ T.paths (r ++ [s]) := by
    show at_ (Nt.cut T.paths (q ++ [y])) (r ++ [s]) = _
    rw [Nt.at_cut]
    by_cases e : r ++ [s] = q ++ [y]
    · rw [if_pos e, if_pos (e ▸ List.prefix_refl _)]
    · rw [if_neg e, if_neg]
      intro h
      rcases List.prefix_concat_iff.1 h with h1 | h1
      · exact e h1.symm
      · exact (Nt.mem_cut.1 hr).2 h1
  rw [this]
/-- A path is another one. -/
theorem RepP.renamed (hR : RepP F K w tb T ad mb) (hW : WF T K) {f t : Path} {n : Nat} (hV : Nt.Mv T f t n)
    (hM : MapsAt w3 (K + 1) T ad mb (fun d s => if d ++ [s] = t then some n else if d ++ [s] = f then none else at_ T.paths (d ++ [s]))) (hD : DS w2 w3 tb T ad mb (Nt.cut T.paths t)) : RepP F (K + 301) w3 tb (T.rn1 f t) ad mb := by
  have hnd := Nt.rn_nodup hW hV
  have hat := hW.rn_at hV hnd
  have live : ∀ {r : Path} {k : Nat}, (r, k) ∈ (T.rn1 f t).paths → ∃ r', (r', k) ∈ T.paths := fun h => by
    rcases (Nt.rn_mem hV).1 h with ⟨s, _, h1⟩ | ⟨h1, _, _⟩ <;> exact ⟨_, h1⟩
  have hc : ∀ k, cnt (T.rn1 f t).paths k = cnt (Nt.cut T.paths t) k := fun k => Nt.cnt_map (R := Nt.cut T.paths t) (f := Nt.mv f t) (fun x => by unfold Nt.mv; split <;> rfl) k
  have hu : ∀ h : Nd → Nat, used (T.rn1 f t).paths h T.nodes = used (Nt.cut T.paths t) h T.nodes := fun h => Nt.used_same h _ fun i _ _ => by rw [hc]
  refine ⟨?_, hR.ftree, ?_, ?_, ?_, ?_⟩
  · have e1 : (T.rn1 f t).usedN = used (Nt.cut T.paths t) (fun _ => 1) T.nodes := hu _
    have e2 : (T.rn1 f t).usedB = used (Nt.cut T.paths t) (fun x => x.xs.length) T.nodes := hu _
    rw [e1, e2]
    exact hD.tree
  · intro r k hr
    obtain ⟨r', hr'⟩ := live hr
    rw [hc]
    exact ⟨hD.node _ _ hr', (hR.node _ _ hr').2⟩
  · intro a b c d h1 h2 e
    obtain ⟨a', ha⟩ := live h1
    obtain ⟨b', hb⟩ := live h2
    exact hR.inj _ _ _ _ ha hb e
  · intro r k hr hkk
    replace hkk : (T.nd k).kind = 4 := hkk
    rcases (Nt.rn_mem hV).1 hr with ⟨u, rfl, h1⟩ | ⟨h1, h2, h3⟩
    · refine ⟨(hR.map _ _ h1 hkk).1, ((hM _ _ h1 hkk).mono (by omega)).cong fun s _ => ?_⟩
      have e1 : f ++ u ++ [s] ≠ t := fun e => hV.ft (by rw [← e, List.append_assoc]; exact List.prefix_append _ _)
      have e2 : f ++ u ++ [s] ≠ f := fun e => by
        have := congrArg List.length e
        simp at this
      simp only [if_neg e1, if_neg e2]
      have e3 : at_ (T.rn1 f t).paths (t ++ u ++ [s]) = at_ T.paths (f ++ u ++ [s]) := by
        rw [hat, if_pos (by rw [List.append_assoc]; exact List.prefix_append _ _), List.append_assoc, List.drop_left, List.append_assoc]
      rw [e3]
    · refine ⟨(hR.map _ _ h1 hkk).1, ((hM _ _ h1 hkk).mono (by omega)).cong fun s _ => ?_⟩
      rw [hat]
      dsimp only
      by_cases e1 : r ++ [s] = t
      · rw [if_pos e1, if_pos (by rw [e1]; exact List.prefix_refl _), ← e1, List.drop_length, List.append_nil, hW.atI.2 hV.here]
      · rw [if_neg e1, if_neg fun h => (List.prefix_concat_iff.1 h).elim (fun h => e1 h.symm) h3]
        by_cases e2 : r ++ [s] = f
        · rw [if_pos e2, if_pos (by rw [e2]; exact List.prefix_refl _)]
        · rw [if_neg e2, if_neg fun h => (List.prefix_concat_iff.1 h).elim (fun h => e2 h.symm) h2]
  · intro a b c d h1 h2 k1 k2 e
    obtain ⟨a', ha⟩ := live h1
    obtain ⟨b', hb⟩ := live h2
    exact hR.minj _ _ _ _ ha hb k1 k2 e
end
end Go.Proofs.YthgbncpiehcghaaGreatDoor
/- A MAP FROM NODES TO NODES IN MEMORY, as a list of pairs. No Go text is named. -/
namespace Go.Proofs.YthgbncpiehcghaaGreatDoor
set_option linter.unusedVariables false
open Go Go.RowKit
set_option maxRecDepth 100000
open Nt (Tr Nd WF Ps Path at_ cnt used)
/-- What a is mapped to. -/
def assoc : List (Nat × Nat) → Nat → Option Nat
  | [], _ => none
  | x :: r, a => if a = x.1 then some x.2 else assoc r a
abbrev pt (b : Nat) : Value := .pointer (some ⟨b, 0, none⟩)
/-- BLOCK b IS A MAP OF THE PAIRS l. -/
def PM (w : World) (b : Nat) (l : List (Nat × Nat)) : Prop := ∃ es clock, w.heap[b]? = some (.map es clock) ∧ es.toList.map (fun e => (e.key, e.val)) = l.map (fun x => (pt x.1, pt x.2))
theorem info_nd : (Tryz.prog.info? 108).map (·.size) = some 9 := by kernel_rfl
section
variable {w w' : World} {b a c : Nat} {l : List (Nat × Nat)}
theorem PM.made (w : World) : PM (w.alloc (.map #[] 0)) w.heap.size [] := ⟨#[], 0, heap_alloc_new w _, rfl⟩
theorem PM.of_block (h : PM w b l) (hb : w'.heap[b]? = w.heap[b]?) : PM w' b l := let ⟨es, k, h1, h2⟩ := h; ⟨es, k, hb.trans h1, h2⟩
theorem PM.lt (h : PM w b l) : b < w.heap.size := let ⟨_, _, h1, _⟩ := h; (Array.getElem?_eq_some_iff.1 h1).1
theorem PM.ne_bx (h : PM w b l) {d : Nat} {U : TypeId} {cs : Array Value} (hx : BX w d U cs) : d ≠ b := by
  rintro rfl
  obtain ⟨es, k, h1, _⟩ := h
  unfold BX at hx
  rw [h1] at hx
  cases hx
theorem PM.setCell (h : PM w b l) {d : Addr} (hd : b ≠ d.block) (u : Value) : PM (w.setCell d u) b l := h.of_block (Below.heap_setCell _ _ _ _ hd)
theorem PM.alloc (h : PM w b l) (o : Obj) : PM (w.alloc o) b l := h.of_block (Below.heap_alloc _ _ _ h.lt)
theorem PM.later (h : PM w b l) (hb : Below w.heap.size w w') : PM w' b l := h.of_block (hb.block b h.lt)
theorem PM.oth (h : PM w b l) {d : Nat} (ho : Oth d w w') (hne : b ≠ d) : PM w' b l := h.of_block (ho.2.2.2.2 b h.lt hne)
theorem equal_ptr {U V : TypeId} {cs ds : Array Value} (h : BX w a U cs) (k : BX w c V ds) : (Op.equal 104 (pt a) (pt c)).run Tryz.prog w = .ok (decide (a = c)) w := by
  obtain ⟨ji, hji, hjs⟩ : ∃ j, Tryz.prog.info? 108 = some j ∧ j.size ≠ 0 := by
    have := info_nd
    cases e : Tryz.prog.info? 108 with
    | none => rw [e] at this; cases this
    | some j =>
      rw [e] at this
      simp at this
      exact ⟨j, rfl, by omega⟩
  by_cases e : a = c
  · subst e
    rw [decide_eq_true rfl]
    have h : ∀ d : Nat, (Op.equalIn (d + 1) 104 (pt a) (pt a)).run Tryz.prog w = .ok true w := fun d => by
      simp [Op.equalIn, run_underlying Tryz.underlying104, sizeOf, typeInfo, hji, run_sameAddr_same]
    simp [Op.equal, Op.maxDepth, h 9999]
  · rw [decide_eq_false e]
    have hne : (⟨a, 0, none⟩ : Addr) ≠ ⟨c, 0, none⟩ := fun e2 => e (by cases e2; rfl)
    have h : ∀ d : Nat, (Op.equalIn (d + 1) 104 (pt a) (pt c)).run Tryz.prog w = .ok false w := fun d => by
      simp [Op.equalIn, run_underlying Tryz.underlying104, sizeOf, typeInfo, hji, hjs, run_sameAddr_other w hne h k]
    simp [Op.equal, Op.maxDepth, h 9999]
theorem find_ask (ha : ∃ U cs, BX w a U cs) : ∀ (es : List MapEntry) (l : List (Nat × Nat)) (i : Nat), es.map (fun e => (e.key, e.val)) = l.map (fun x => (pt x.1, pt x.2)) → (∀ x ∈ l, ∃ U cs, BX w x.1 U cs) →
    ∃ j, (Instr.findAsking 104 (pt a) es i).run Tryz.prog w = .ok ((assoc l a).map fun c => (j, pt c)) w
  | [], [], i, _, _ => ⟨0, by simp [Instr.findAsking, assoc]⟩
  | [], x :: l, i, h, _ => by simp at h
  | e :: es, [], i, h, _ => by simp at h
  | e :: es, x :: l, i, h, hb => by
    simp only [List.map_cons, List.cons.injEq, Prod.mk.injEq] at h
    obtain ⟨⟨h1, h2⟩, h3⟩ := h
    obtain ⟨U, cs, ha'⟩ := ha
    obtain ⟨V, ds, hx⟩ := hb x (by simp)
    have heq := equal_ptr ha' hx
    obtain ⟨j, hj⟩ := find_ask ⟨U, cs, ha'⟩ es l (i + 1) h3 fun y hy => hb y (List.mem_cons_of_mem _ hy)
    by_cases e2 : a = x.1
    · refine ⟨i, ?_⟩
      rw [decide_eq_true e2] at heq
      subst e2
      simp [Instr.findAsking, h1, heq, assoc, h2]
    · refine ⟨j, ?_⟩
      rw [decide_eq_false e2] at heq
      simp [Instr.findAsking, h1, heq, assoc, e2, hj, Result.andThen]
theorem find_key (ha : ∃ U cs, BX w a U cs) {es : List MapEntry} (h : es.map (fun e => (e.key, e.val)) = l.map (fun x => (pt x.1, pt x.2))) (hb : ∀ x ∈ l, ∃ U cs, BX w x.1 U cs) :
    ∃ j, (Instr.findKey 104 (pt a) es).run Tryz.prog w = .ok ((assoc l a).map fun c => (j, pt c)) w := by
  obtain ⟨j, hj⟩ := find_ask (w := w) (a := a) ha es l 0 h hb
  cases es with
  | nil =>
    cases l with
    | nil => exact ⟨0, by simp [Instr.findKey, run_underlying Tryz.underlying104, Instr.findNow, assoc]⟩
    | cons x l => simp at h
  | cons e es =>
    refine ⟨j, ?_⟩
    have hn : Instr.findNow (.pointer 108) (pt a) (e :: es) 0 = none := by
      unfold Instr.findNow
      simp [Instr.sameNow]
    simp [Instr.findKey, run_underlying Tryz.underlying104, hn, hj]
theorem check_ptr (w : World) (em : Bool) (a : Nat) : (Instr.checkKey em 10000 104 (pt a)).run Tryz.prog w = .ok () w := by
  have h : ∀ d : Nat, (Instr.checkKey em (d + 1) 104 (pt a)).run Tryz.prog w = .ok () w := fun d => by
    simp [Instr.checkKey, run_underlying Tryz.underlying104]
  exact h 9999
theorem PM.look (h : PM w b l) (ha : ∃ U cs, BX w a U cs) (hb : ∀ x ∈ l, ∃ U cs, BX w x.1 U cs) :
    (Instr.lookup 184 (.map (some b)) (pt a) true).run Tryz.prog w = .ok (.tuple #[ptrv (assoc l a), .bool (assoc l a).isSome]) w := by
  obtain ⟨es, clock, h1, h2⟩ := h
  obtain ⟨j, hj⟩ := find_key (w := w) (a := a) ha h2 hb
  cases e : assoc l a with
  | none =>
    rw [e] at hj
    simp [Instr.lookup, run_underlying Tryz.underlying184, MapKept.run_getObj_map h1, check_ptr, hj, ptrv, Result.andThen]
  | some c =>
    rw [e] at hj
    simp [Instr.lookup, run_underlying Tryz.underlying184, MapKept.run_getObj_map h1, check_ptr, hj, ptrv, Result.andThen]
theorem PM.put (h : PM w b l) (ha : ∃ U cs, BX w a U cs) (hb : ∀ x ∈ l, ∃ U cs, BX w x.1 U cs) (hn : assoc l a = none) (c : Nat) :
    ∃ w', (Instr.mapUpdate 184 (.map (some b)) (pt a) (pt c)).run Tryz.prog w = .ok () w' ∧ PM w' b (l ++ [(a, c)]) ∧ Oth b w w' ∧ w'.heap.size = w.heap.size := by
  obtain ⟨es, clock, h1, h2⟩ := h
  obtain ⟨j, hj⟩ := find_key (w := w) (a := a) ha h2 hb
  rw [hn] at hj
  refine ⟨Go.ChangeMaps.setBlock w b (.map (es.push ⟨pt a, pt c, clock⟩) (clock + 1)), ?_, ⟨_, _, Go.ChangeMaps.heap_setBlock_same h1 _, by simp [h2]⟩, ⟨rfl, rfl, rfl, by simp [Go.ChangeMaps.setBlock], fun i _ hi => Go.ChangeMaps.heap_setBlock_other h1 _ hi⟩, by simp [Go.ChangeMaps.setBlock]⟩
  simp [Instr.mapUpdate, run_underlying Tryz.underlying184, MapKept.run_getObj_map h1, check_ptr, hj, MapKept.run_setObj_map _ h1, Result.andThen, Go.ChangeMaps.setBlock]
end
end Go.Proofs.YthgbncpiehcghaaGreatDoor
/- A TREE WHILE IT IS COPIED. No Go text is named. -/
namespace Go.Proofs.YthgbncpiehcghaaGreatDoor
set_option linter.unusedVariables false
open Go Go.RowKit
set_option maxRecDepth 100000
open Nt (Tr Nd WF Ps Path at_ cnt used)
/-- A node's names in a copy. -/
def cnv (T : Tr) (mb nm : Nat → Nat) (Dn : List Nat) (n : Nat) : Option Nat := if (T.nd n).kind = 4 then some (if n ∈ Dn then nm n else mb n) else none
/-- L: the nodes that are copied, to blocks c; S: Dirs that wait; Dn: Dirs whose names are copied, in maps nm; X: a Dir that is under way. -/
structure CS (w W : World) (K : Nat) (T : Tr) (ad mb c nm : Nat → Nat) (L S Dn : List Nat) (X : Nat → Prop) (v : Value) : Prop where
  low : Below w.heap.size w W
  pm : PM W w.heap.size (L.map fun n => (ad n, c n))
  cbx : BX W (w.heap.size + 1) 184 #[.map (some w.heap.size)]
  dbx : BX W (w.heap.size + 2) 185 #[v]
  pr : PR W w.heap.size v (S.map c)
  live : ∀ n ∈ L, ∃ p, (p, n) ∈ T.paths
  nodup : L.Nodup
  sub : ∀ n ∈ S, n ∈ L ∧ (T.nd n).kind = 4 ∧ n ∉ Dn ∧ ¬ X n
  subd : ∀ n ∈ Dn, n ∈ L ∧ (T.nd n).kind = 4 ∧ ¬ X n
  snd : S.Nodup
  dnd : Dn.Nodup
  cover : ∀ n ∈ L, (T.nd n).kind = 4 → n ∈ Dn ∨ n ∈ S ∨ X n
  inj : ∀ n ∈ L, ∀ m ∈ L, c n = c m → n = m
  new : ∀ n ∈ L, w.heap.size ≤ c n
  node : ∀ n ∈ L, BX W (c n) 108 (NC (T.nd n) (cnv T mb nm Dn n) (cnt T.paths n : Nat))
  done : ∀ p n, (p, n) ∈ T.paths → n ∈ Dn → w.heap.size ≤ nm n ∧ MapAt W (nm n) K (fun s => (at_ T.paths (p ++ [s])).map c) ∧ ∀ s j, (p ++ [s], j) ∈ T.paths → j ∈ L
  nminj : ∀ n ∈ Dn, ∀ m ∈ Dn, nm n = nm m → n = m
section
variable {w W W' : World} {F : Nat → Prop} {K tb : Nat} {T : Tr} {ad mb c nm : Nat → Nat} {L S Dn : List Nat} {X Y : Nat → Prop} {v : Value}
theorem CS.weakX (h : CS w W K T ad mb c nm L S Dn X v) (hX : ∀ n, X n ↔ Y n) : CS w W K T ad mb c nm L S Dn Y v :=
  ⟨h.low, h.pm, h.cbx, h.dbx, h.pr, h.live, h.nodup, fun n hn => let ⟨a, b, d, e⟩ := h.sub n hn; ⟨a, b, d, fun f => e ((hX n).2 f)⟩, fun n hn => let ⟨a, b, e⟩ := h.subd n hn; ⟨a, b, fun f => e ((hX n).2 f)⟩, h.snd, h.dnd,
    fun n hn hk => (h.cover n hn hk).imp id fun e => e.imp id (hX n).1, h.inj, h.new, h.node, h.done, h.nminj⟩
/-- New blocks, and nothing else. -/
theorem CS.later (h : CS w W K T ad mb c nm L S Dn X v) (hb : Below W.heap.size W W') : CS w W' K T ad mb c nm L S Dn X v :=
  ⟨h.low.trans (hb.mono h.low.size), h.pm.later hb, h.cbx.later hb, h.dbx.later hb, h.pr.later hb, h.live, h.nodup, h.sub, h.subd, h.snd, h.dnd, h.cover, h.inj, h.new, fun n hn => (h.node n hn).later hb,
    fun p n hp hn => let ⟨a, b, d⟩ := h.done p n hp hn; ⟨a, b.later hb, d⟩, h.nminj⟩
/-- A map beside them has turned. -/
theorem CS.beside (h : CS w W K T ad mb c nm L S Dn X v) {b : Nat} (ho : Oth b W W') (hb : w.heap.size ≤ b) (h0 : b ≠ w.heap.size) (hbx : ∀ a U cs, BX W a U cs → a ≠ b) (hnm : ∀ n ∈ Dn, nm n ≠ b) : CS w W' K T ad mb c nm L S Dn X v :=
  ⟨h.low.trans (ho.below hb h.low.size), h.pm.oth ho (fun e => h0 e.symm), h.cbx.oth ho (hbx _ _ _ h.cbx), h.dbx.oth ho (hbx _ _ _ h.dbx), own_keep13 h.pr (fun k hk => ho.2.2.2.2 k (World.ownsRow.lt h.pr k hk).2 (by
      obtain ⟨cs, hcs⟩ := own_block13 h.pr hk
      exact hbx k _ cs hcs)), h.live, h.nodup, h.sub, h.subd, h.snd, h.dnd, h.cover, h.inj, h.new, fun n hn => (h.node n hn).oth ho (hbx _ _ _ (h.node n hn)),
    fun p n hp hn => let ⟨a, e, d⟩ := h.done p n hp hn; ⟨a, e.oth ho (hnm n hn), d⟩, h.nminj⟩
theorem CS.assoc (h : CS w W K T ad mb c nm L S Dn X v) (hR : RepP F K w tb T ad mb) {p : Path} {n : Nat} (hn : (p, n) ∈ T.paths) : assoc (L.map fun n => (ad n, c n)) (ad n) = if n ∈ L then some (c n) else none := by
  have hl := h.live
  have : ∀ L : List Nat, (∀ n ∈ L, ∃ p, (p, n) ∈ T.paths) → Go.Proofs.YthgbncpiehcghaaGreatDoor.assoc (L.map fun n => (ad n, c n)) (ad n) = if n ∈ L then some (c n) else none := fun L => by
    induction L with
    | nil => intro _; simp [Go.Proofs.YthgbncpiehcghaaGreatDoor.assoc]
    | cons m L ih =>
      intro hl
      rw [List.map_cons, Go.Proofs.YthgbncpiehcghaaGreatDoor.assoc]
      obtain ⟨q, hq⟩ := hl m (by simp)
      by_cases e : n = m
      · subst e; simp
      · rw [if_neg fun e2 => e (hR.inj _ _ _ _ hn hq e2), ih fun x hx => hl x (List.mem_cons_of_mem _ hx)]
        simp [e]
  exact this L hl
theorem CS.old (h : CS w W K T ad mb c nm L S Dn X v) (hR : RepP F K w tb T ad mb) : RepP F K W tb T ad mb := hR.kept fun k hF hl => h.low.block k hl
theorem CS.keys (h : CS w W K T ad mb c nm L S Dn X v) (hR : RepP F K w tb T ad mb) : ∀ x ∈ L.map (fun n => (ad n, c n)), ∃ U cs, BX W x.1 U cs := fun x hx => by
  obtain ⟨n, hn, rfl⟩ := List.mem_map.1 hx
  obtain ⟨p, hp⟩ := h.live n hn
  exact ⟨_, _, ((h.old hR).node p n hp).1⟩
/-- A node more. -/
theorem CS.add (h : CS w W K T ad mb c nm L S Dn X v) (hR : RepP F K w tb T ad mb) {p : Path} {n : Nat} (hn : (p, n) ∈ T.paths) (hnL : n ∉ L) (hnX : ¬ X n)
    (ho : Oth w.heap.size (W.alloc (.cells (NC (T.nd n) (mbv T mb n) (cnt T.paths n : Nat)) 108)) W') (hpm : PM W' w.heap.size ((L.map fun n => (ad n, c n)) ++ [(ad n, W.heap.size)])) :
    CS w W' K T ad mb (fun m => if m = n then W.heap.size else c m) nm (L ++ [n]) S Dn (fun m => X m ∨ m = n) v := by
  have hb0 := below_new W (.cells (NC (T.nd n) (mbv T mb n) (cnt T.paths n : Nat)) 108)
  have h1 := h.later hb0
  have hnS : n ∉ S := fun e => hnL (h.sub n e).1
  have hnD : n ∉ Dn := fun e => hnL (h.subd n e).1
  have hcm : ∀ m ∈ L, (if m = n then W.heap.size else c m) = c m := fun m hm => by rw [if_neg (fun e : m = n => hnL (e ▸ hm))]
  have hcl : ∀ m ∈ L, c m < W.heap.size := fun m hm => (h.node m hm).lt
  have hsz := h.low.size
  have hbx : ∀ a U cs, BX (W.alloc (.cells (NC (T.nd n) (mbv T mb n) (cnt T.paths n : Nat)) 108)) a U cs → a ≠ w.heap.size := fun a U cs hx => h1.pm.ne_bx hx
  have hcong : ∀ l : List Nat, (∀ m ∈ l, m ∈ L) → l.map (fun m => if m = n then W.heap.size else c m) = l.map c := fun l hl => List.map_congr_left fun m hm => hcm m (hl m hm)
  refine ⟨h1.low.trans (ho.below (Nat.le_refl _) h1.low.size), ?_, h1.cbx.oth ho (by omega), h1.dbx.oth ho (by omega), ?_, ?_, ?_, ?_, ?_, h.snd, h.dnd, ?_, ?_, ?_, ?_, ?_, h.nminj⟩
  · rw [List.map_append, List.map_cons, List.map_nil, if_pos rfl]
    have : L.map (fun m => (ad m, if m = n then W.heap.size else c m)) = L.map fun m => (ad m, c m) := List.map_congr_left fun m hm => by rw [hcm m hm]
    rw [this]
    exact hpm
  · rw [hcong S fun m hm => (h.sub m hm).1]
    exact own_keep13 h1.pr fun k hk => ho.2.2.2.2 k (World.ownsRow.lt h1.pr k hk).2 (by
      obtain ⟨cs, hcs⟩ := own_block13 h1.pr hk
      exact hbx k _ cs hcs)
  · intro m hm
    rcases List.mem_append.1 hm with h2 | h2
    · exact h.live m h2
    · obtain rfl : m = n := by simpa using h2
      exact ⟨p, hn⟩
  · rw [List.nodup_append]
    refine ⟨h.nodup, by simp, ?_⟩
    intro a ha b hb e
    obtain rfl : b = n := by simpa using hb
    exact hnL (e ▸ ha)
  · intro m hm
    obtain ⟨a, b, d, e⟩ := h.sub m hm
    exact ⟨List.mem_append_left _ a, b, d, fun f => f.elim e fun f => hnS (f ▸ hm)⟩
  · intro m hm
    obtain ⟨a, b, e⟩ := h.subd m hm
    exact ⟨List.mem_append_left _ a, b, fun f => f.elim e fun f => hnD (f ▸ hm)⟩
  · intro m hm hk
    rcases List.mem_append.1 hm with h2 | h2
    · exact (h.cover m h2 hk).imp id fun e => e.imp id .inl
    · obtain rfl : m = n := by simpa using h2
      exact .inr (.inr (.inr rfl))
  · intro a ha b hb e
    rcases List.mem_append.1 ha with h2 | h2 <;> rcases List.mem_append.1 hb with h3 | h3
    · rw [hcm a h2, hcm b h3] at e
      exact h.inj a h2 b h3 e
    · obtain rfl : b = n := by simpa using h3
      rw [hcm a h2, if_pos rfl] at e
      have := hcl a h2
      omega
    · obtain rfl : a = n := by simpa using h2
      rw [hcm b h3, if_pos rfl] at e
      have := hcl b h3
      omega
    · obtain rfl : a = n := by simpa using h2
      obtain rfl : b = a := by simpa using h3
      rfl
  · intro m hm
    rcases List.mem_append.1 hm with h2 | h2
    · rw [hcm m h2]; exact h.new m h2
    · obtain rfl : m = n := by simpa using h2
      rw [if_pos rfl]; exact hsz
  · intro m hm
    rcases List.mem_append.1 hm with h2 | h2
    · rw [hcm m h2]
      exact (h1.node m h2).oth ho (hbx _ _ _ (h1.node m h2))
    · obtain rfl : m = n := by simpa using h2
      rw [if_pos rfl]
      have e1 : cnv T mb nm Dn m = mbv T mb m := by unfold cnv mbv; rw [if_neg hnD]
      rw [e1]
      have hx := BX.new W 108 (NC (T.nd m) (mbv T mb m) (cnt T.paths m : Nat))
      exact hx.oth ho (hbx _ _ _ hx)
  · intro q m hq hm
    obtain ⟨a, b, d⟩ := h1.done q m hq hm
    have hne : nm m ≠ w.heap.size := by
      intro e
      rw [e] at b
      obtain ⟨D, ⟨es, k, h5, Fx, _⟩, _⟩ := b
      obtain ⟨es2, k2, h6, h7⟩ := h1.pm
      rw [h5] at h6
      cases h6
      have hml := (h.subd m hm).1
      have hlen := congrArg List.length h7
      simp at hlen
      have hpos : 0 < L.length := List.length_pos_of_mem hml
      obtain ⟨e0, he0⟩ : ∃ e0, e0 ∈ es.toList := by
        rcases es with ⟨_ | ⟨e0, r⟩⟩
        · simp at hlen; omega
        · exact ⟨e0, by simp⟩
      obtain ⟨y, hy⟩ := Fx.reads e0 he0
      have hkey := WideElems.rd_key hy
      obtain ⟨x, hx, hx2, _⟩ := Maps.keyOf_str Tryz.underlying9 hkey
      have : (e0.key, e0.val) ∈ (L.map fun n => (ad n, c n)).map (fun x => (pt x.1, pt x.2)) := by
        rw [← h7]
        exact List.mem_map.2 ⟨e0, he0, rfl⟩
      obtain ⟨z, _, hz⟩ := List.mem_map.1 this
      have h8 := congrArg Prod.fst hz
      simp only at h8
      rw [hx] at h8
      cases h8
    refine ⟨a, (b.oth ho hne).cong fun s _ => ?_, fun s j hj => List.mem_append_left _ (d s j hj)⟩
    cases ha : at_ T.paths (q ++ [s]) with
    | none => rfl
    | some j =>
      simp only [Option.map_some]
      rw [hcm j (d s j (Nt.at_mem ha))]
/-- All blocks but rows of pointers stand as they did. -/
structure KeepRow (W W' : World) : Prop where
  os : W'.os = W.os
  tape : W'.tape = W.tape
  output : W'.output = W.output
  size : W.heap.size ≤ W'.heap.size
  block : ∀ k, k < W.heap.size → (∀ cs, W.heap[k]? ≠ some (.cells cs 104 (0, 0))) → W'.heap[k]? = W.heap[k]?
theorem KeepRow.refl (W : World) : KeepRow W W := ⟨rfl, rfl, rfl, Nat.le_refl _, fun _ _ _ => rfl⟩
theorem KeepRow.grown {base : Nat} {l : List Nat} {o : Obj} (hp : PR W base v l) (hg : (W.alloc o).grownBy W' v.ownBlock) : KeepRow W W' :=
  ⟨hg.os, hg.tape, hg.output, by have := hg.size; simp at this; omega, fun k hk hn => (hg.block k (by simp; omega) fun e => by
    obtain ⟨cs, hcs⟩ := own_block13 hp e.symm
    exact hn cs hcs).trans (Below.heap_alloc _ _ _ hk)⟩
theorem BX.row {a : Nat} {U : TypeId} {cs : Array Value} (h : BX W a U cs) (hk : KeepRow W W') (hU : U ≠ 104) : BX W' a U cs :=
  (hk.block a h.lt fun ds e => by
    unfold BX at h
    rw [h] at e
    cases e
    exact hU rfl).trans h
theorem MapAt.row {b n : Nat} {f : ByteArray → Option Nat} (h : MapAt W b n f) (hk : KeepRow W W') : MapAt W' b n f := h.of_block (hk.block b h.lt fun ds e => by
  obtain ⟨D, ⟨es, k, h1, _⟩, _⟩ := h
  rw [h1] at e
  cases e)
theorem PM.row {b : Nat} {l : List (Nat × Nat)} (h : PM W b l) (hk : KeepRow W W') : PM W' b l := h.of_block (hk.block b h.lt fun ds e => by
  obtain ⟨es, k, h1, _⟩ := h
  rw [h1] at e
  cases e)
/-- Other Dirs wait. -/
theorem CS.queue (h : CS w W K T ad mb c nm L S Dn X v) (hk : KeepRow W W') (hb : Below w.heap.size w W') {S2 : List Nat} {v2 : Value} (hp : PR W' w.heap.size v2 (S2.map c))
    (hsub : ∀ n ∈ S2, n ∈ L ∧ (T.nd n).kind = 4 ∧ n ∉ Dn ∧ ¬ Y n) (hsd : ∀ n ∈ Dn, ¬ Y n) (hnd : S2.Nodup) (hc : ∀ n ∈ L, (T.nd n).kind = 4 → n ∈ Dn ∨ n ∈ S2 ∨ Y n) :
    CS w (W'.setCell ⟨w.heap.size + 2, 0, none⟩ v2) K T ad mb c nm L S2 Dn Y v2 := by
  have hd := h.dbx.row hk (by decide)
  have hne : ∀ a U cs, BX W' a U cs → U ≠ 185 → a ≠ w.heap.size + 2 := fun a U cs hx hU => bx_ne hx hd hU
  refine ⟨hb.setCell (by simp) _, (h.pm.row hk).setCell (by simp) _, (h.cbx.row hk (by decide)).other (by omega) _, hd.set 0 v2, ?_, h.live, h.nodup, hsub, fun n hn => ⟨(h.subd n hn).1, (h.subd n hn).2.1, hsd n hn⟩, hnd, h.dnd, hc, h.inj, h.new, ?_, ?_, h.nminj⟩
  · refine own_keep13 hp fun k hk2 => heap_setCell_other _ _ _ _ ?_
    obtain ⟨cs, hcs⟩ := own_block13 hp hk2
    exact bx_ne (show BX W' k _ cs from hcs) hd (by decide)
  · exact fun n hn => ((h.node n hn).row hk (by decide)).other (hne _ _ _ ((h.node n hn).row hk (by decide)) (by decide)) _
  · intro p n hp2 hn
    obtain ⟨a, b, d⟩ := h.done p n hp2 hn
    exact ⟨a, (b.row hk).setCell (a := ⟨w.heap.size + 2, 0, none⟩) (fun e => (b.row hk).ne_bx hd e.symm) _, d⟩
/-- A Dir's names are copied. -/
theorem CS.finish (h : CS w W K T ad mb c nm L S Dn X v) (hW : WF T K) {p : Path} {d nb : Nat} (hX : ∀ n, X n ↔ n = d) (hp : (p, d) ∈ T.paths) (hd : d ∈ L) (hk : (T.nd d).kind = 4) (hdD : d ∉ Dn) (hdS : d ∉ S) (hnb : w.heap.size ≤ nb)
    (hm : MapAt W nb K (fun s => (at_ T.paths (p ++ [s])).map c)) (hn : ∀ m ∈ Dn, nm m ≠ nb) (hin : ∀ s j, (p ++ [s], j) ∈ T.paths → j ∈ L) :
    CS w (W.setCell ⟨c d, 7, none⟩ (.map (some nb))) K T ad mb c (fun m => if m = d then nb else nm m) L S (Dn ++ [d]) (fun _ => False) v := by
  have hx := h.node d hd
  have hcd := h.new d hd
  have hne : ∀ a U cs, BX W a U cs → U ≠ 108 → a ≠ c d := fun a U cs hy hU => bx_ne hy hx hU
  have hnm : ∀ m ∈ Dn, (if m = d then nb else nm m) = nm m := fun m hm => by rw [if_neg (fun e : m = d => hdD (e ▸ hm))]
  refine ⟨h.low.setCell hcd _, h.pm.setCell (fun e => h.pm.ne_bx hx e.symm) _, h.cbx.other (hne _ _ _ h.cbx (by decide)) _, h.dbx.other (hne _ _ _ h.dbx (by decide)) _, ?_, h.live, h.nodup, ?_, ?_, h.snd, ?_, ?_, h.inj, h.new, ?_, ?_, ?_⟩
  · refine own_keep13 h.pr fun k hk2 => heap_setCell_other _ _ _ _ ?_
    obtain ⟨cs, hcs⟩ := own_block13 h.pr hk2
    exact hne _ _ cs hcs (by decide)
  · intro n hnS
    obtain ⟨a, b, e, f⟩ := h.sub n hnS
    exact ⟨a, b, fun g => (List.mem_append.1 g).elim e fun g => f ((hX n).2 (by simpa using g)), fun g => g⟩
  · intro n hnD
    rcases List.mem_append.1 hnD with h2 | h2
    · obtain ⟨a, b, _⟩ := h.subd n h2
      exact ⟨a, b, fun g => g⟩
    · obtain rfl : n = d := by simpa using h2
      exact ⟨hd, hk, fun g => g⟩
  · rw [List.nodup_append]
    refine ⟨h.dnd, by simp, ?_⟩
    intro a ha b hb e
    obtain rfl : b = d := by simpa using hb
    exact hdD (e ▸ ha)
  · intro n hnL hkn
    rcases h.cover n hnL hkn with h2 | h2 | h2
    · exact .inl (List.mem_append_left _ h2)
    · exact .inr (.inl h2)
    · exact .inl (List.mem_append_right _ (by simp [(hX n).1 h2]))
  · intro n hnL
    by_cases e : n = d
    · subst e
      have e1 : cnv T mb (fun m => if m = n then nb else nm m) (Dn ++ [n]) n = some nb := by unfold cnv; rw [if_pos hk]; simp
      rw [e1]
      exact hx.set 7 (.map (some nb))
    · have e1 : cnv T mb (fun m => if m = d then nb else nm m) (Dn ++ [d]) n = cnv T mb nm Dn n := by unfold cnv; simp [e]
      rw [e1]
      exact (h.node n hnL).other (fun e2 => e (h.inj n hnL d hd e2)) _
  · intro q n hq hnD
    rcases List.mem_append.1 hnD with h2 | h2
    · obtain ⟨a, b, f⟩ := h.done q n hq h2
      rw [hnm n h2]
      exact ⟨a, b.setCell (a := ⟨c d, 7, none⟩) (fun e => b.ne_bx hx e.symm) _, f⟩
    · obtain rfl : n = d := by simpa using h2
      rw [if_pos rfl]
      obtain rfl : q = p := hW.one _ _ _ hq hp (by rw [hk]; decide)
      exact ⟨hnb, hm.setCell (a := ⟨c n, 7, none⟩) (fun e => hm.ne_bx hx e.symm) _, hin⟩
  · intro n hnD m hmD e
    rcases List.mem_append.1 hnD with h2 | h2 <;> rcases List.mem_append.1 hmD with h3 | h3
    · rw [hnm n h2, hnm m h3] at e
      exact h.nminj n h2 m h3 e
    · obtain rfl : m = d := by simpa using h3
      rw [hnm n h2, if_pos rfl] at e
      exact absurd e (hn n h2)
    · obtain rfl : n = d := by simpa using h2
      rw [hnm m h3, if_pos rfl] at e
      exact absurd e.symm (hn m h3)
    · obtain rfl : n = d := by simpa using h2
      obtain rfl : m = n := by simpa using h3
      rfl
/-- At the beginning. -/
theorem CS.start {W0 : World} (hlow : Below w.heap.size w W0) (hpm : PM W0 w.heap.size []) (hc : BX W0 (w.heap.size + 1) 184 #[.map (some w.heap.size)]) (hd : BX W0 (w.heap.size + 2) 185 #[.slice none 0 0]) :
    CS w W0 K T ad mb (fun _ => 0) (fun _ => 0) [] [] [] (fun _ => False) (.slice none 0 0) :=
  ⟨hlow, hpm, hc, hd, World.ownsRow_nil _ _ _ _, by simp, by simp, by simp, by simp, by simp, by simp, by simp, by simp, by simp, by simp, by simp, by simp⟩
/-- At the end. -/
theorem CS.rep (h : CS w W K T ad mb c nm L [] Dn (fun _ => False) v) (hW : WF T K) (h0 : 0 ∈ L) {tb' : Nat} (ht : BX W tb' 112 (TC T (c 0) T.usedN T.usedB)) (htl : w.heap.size ≤ tb') : Rep (Grow (fun _ => False) w W) K W tb' T := by
  have hall : ∀ p n, (p, n) ∈ T.paths → n ∈ L := Nt.all_copied hW h0 fun d n s j hd hk hn hj => by
    have hnD : n ∈ Dn := by
      rcases h.cover n hn hk with h2 | h2 | h2
      · exact h2
      · cases h2
      · exact h2.elim
    exact (h.done d n hd hnD).2.2 s j hj
  have hdir : ∀ p n, (p, n) ∈ T.paths → (T.nd n).kind = 4 → n ∈ Dn := fun p n hn hk => by
    rcases h.cover n (hall p n hn) hk with h2 | h2 | h2
    · exact h2
    · cases h2
    · exact h2.elim
  refine ⟨c, nm, ht, .inr ⟨htl, ht.lt⟩, ?_, ?_, ?_, ?_⟩
  · intro p n hn
    have hx := h.node n (hall p n hn)
    have e : cnv T mb nm Dn n = mbv T nm n := by
      unfold cnv mbv
      by_cases hk : (T.nd n).kind = 4
      · rw [if_pos hk, if_pos hk, if_pos (hdir p n hn hk)]
      · rw [if_neg hk, if_neg hk]
    rw [e] at hx
    exact ⟨hx, .inr ⟨h.new n (hall p n hn), hx.lt⟩⟩
  · exact fun p q n m hn hm e => h.inj n (hall p n hn) m (hall q m hm) e
  · intro p n hn hk
    obtain ⟨a, b, _⟩ := h.done p n hn (hdir p n hn hk)
    exact ⟨.inr ⟨a, b.lt⟩, b⟩
  · exact fun p q n m hn hm k1 k2 e => h.nminj n (hdir p n hn k1) m (hdir q m hm k2) e
end
end Go.Proofs.YthgbncpiehcghaaGreatDoor
