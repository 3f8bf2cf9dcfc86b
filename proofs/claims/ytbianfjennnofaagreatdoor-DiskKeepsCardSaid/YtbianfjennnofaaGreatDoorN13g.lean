/- A TREE WHILE IT IS COPIED. No Go text is named. -/
import Derived.Test.YtbianfjennnofaaGreatDoorN13f
import Derived.Test.YtbianfjennnofaaGreatDoorGn4
namespace Go.Proofs.YtbianfjennnofaaGreatDoor
set_option linter.unusedVariables false
open Go Go.RowKit
set_option maxRecDepth 100000
open Nt (Tr Nd WF Ps Path at_ cnt used)
/-- A node's names in a copy. -/
def cnv (T : Tr) (mb nm : Nat → Nat) (Dn : List Nat) (n : Nat) : Option Nat := if (T.nd n).kind = 4 then some (if n ∈ Dn then nm n else mb n) else none
/-- L: the nodes that are copied, to blocks c; S: Dirs that wait; Dn: Dirs whose names are copied, in maps nm; X: a Dir that is under way. -/
structure CS (w W : World) (K : Nat) (T : Tr) (ad mb c nm : Nat → Nat) (L S Dn : List Nat) (X : Nat → Prop) (v : Value) : Prop where
  low : Below w.heap.size w W
  pm : PM W w.heap.size (L.map fun n => (ad n, c n))
  cbx : BX W (w.heap.size + 1) 167 #[.map (some w.heap.size)]
  dbx : BX W (w.heap.size + 2) 168 #[v]
  pr : PR W w.heap.size v (S.map c)
  live : ∀ n ∈ L, ∃ p, (p, n) ∈ T.paths
  nodup : L.Nodup
  sub : ∀ n ∈ S, n ∈ L ∧ (T.nd n).kind = 4 ∧ n ∉ Dn ∧ ¬ X n
  subd : ∀ n ∈ Dn, n ∈ L ∧ (T.nd n).kind = 4 ∧ ¬ X n
  snd : S.Nodup
  dnd : Dn.Nodup
  cover : ∀ n ∈ L, (T.nd n).kind = 4 → n ∈ Dn ∨ n ∈ S ∨ X n
  inj : ∀ n ∈ L, ∀ m ∈ L, c n = c m → n = m
  new : ∀ n ∈ L, w.heap.size ≤ c n
  node : ∀ n ∈ L, BX W (c n) 91 (NC (T.nd n) (cnv T mb nm Dn n) (cnt T.paths n : Nat))
  done : ∀ p n, (p, n) ∈ T.paths → n ∈ Dn → w.heap.size ≤ nm n ∧ MapAt W (nm n) K (fun s => (at_ T.paths (p ++ [s])).map c) ∧ ∀ s j, (p ++ [s], j) ∈ T.paths → j ∈ L
  nminj : ∀ n ∈ Dn, ∀ m ∈ Dn, nm n = nm m → n = m
section
variable {w W W' : World} {F : Nat → Prop} {K tb : Nat} {T : Tr} {ad mb c nm : Nat → Nat} {L S Dn : List Nat} {X Y : Nat → Prop} {v : Value}
theorem CS.weakX (h : CS w W K T ad mb c nm L S Dn X v) (hX : ∀ n, X n ↔ Y n) : CS w W K T ad mb c nm L S Dn Y v :=
  ⟨h.low, h.pm, h.cbx, h.dbx, h.pr, h.live, h.nodup, fun n hn => let ⟨a, b, d, e⟩ := h.sub n hn; ⟨a, b, d, fun f => e ((hX n).2 f)⟩, fun n hn => let ⟨a, b, e⟩ := h.subd n hn; ⟨a, b, fun f => e ((hX n).2 f)⟩, h.snd, h.dnd,
    fun n hn hk => (h.cover n hn hk).imp id fun e => e.imp id (hX n).1, h.inj, h.new, h.node, h.done, h.nminj⟩
/-- New blocks, and nothing else. -/
theorem CS.later (h : CS w W K T ad mb c nm L S Dn X v) (hb : Below W.heap.size W W') : CS w W' K T ad mb c nm L S Dn X v :=
  ⟨h.low.trans (hb.mono h.low.size), h.pm.later hb, h.cbx.later hb, h.dbx.later hb, h.pr.later hb, h.live, h.nodup, h.sub, h.subd, h.snd, h.dnd, h.cover, h.inj, h.new, fun n hn => (h.node n hn).later hb,
    fun p n hp hn => let ⟨a, b, d⟩ := h.done p n hp hn; ⟨a, b.later hb, d⟩, h.nminj⟩
/-- A map beside them has turned. -/
theorem CS.beside (h : CS w W K T ad mb c nm L S Dn X v) {b : Nat} (ho : Oth b W W') (hb : w.heap.size ≤ b) (h0 : b ≠ w.heap.size) (hbx : ∀ a U cs, BX W a U cs → a ≠ b) (hnm : ∀ n ∈ Dn, nm n ≠ b) : CS w W' K T ad mb c nm L S Dn X v :=
  ⟨h.low.trans (ho.below hb h.low.size), h.pm.oth ho (fun e => h0 e.symm), h.cbx.oth ho (hbx _ _ _ h.cbx), h.dbx.oth ho (hbx _ _ _ h.dbx), own_keep13 h.pr (fun k hk => ho.2.2.2.2 k (World.ownsRow.lt h.pr k hk).2 (by
      obtain ⟨cs, hcs⟩ := own_block13 h.pr hk
      exact hbx k _ cs hcs)), h.live, h.nodup, h.sub, h.subd, h.snd, h.dnd, h.cover, h.inj, h.new, fun n hn => (h.node n hn).oth ho (hbx _ _ _ (h.node n hn)),
    fun p n hp hn => let ⟨a, e, d⟩ := h.done p n hp hn; ⟨a, e.oth ho (hnm n hn), d⟩, h.nminj⟩
theorem CS.assoc (h : CS w W K T ad mb c nm L S Dn X v) (hR : RepP F K w tb T ad mb) {p : Path} {n : Nat} (hn : (p, n) ∈ T.paths) : assoc (L.map fun n => (ad n, c n)) (ad n) = if n ∈ L then some (c n) else none := by
  have hl := h.live
  have : ∀ L : List Nat, (∀ n ∈ L, ∃ p, (p, n) ∈ T.paths) → Go.Proofs.YtbianfjennnofaaGreatDoor.assoc (L.map fun n => (ad n, c n)) (ad n) = if n ∈ L then some (c n) else none := fun L => by
    induction L with
    | nil => intro _; simp [Go.Proofs.YtbianfjennnofaaGreatDoor.assoc]
    | cons m L ih =>
      intro hl
      rw [List.map_cons, Go.Proofs.YtbianfjennnofaaGreatDoor.assoc]
      obtain ⟨q, hq⟩ := hl m (by simp)
      by_cases e : n = m
      · subst e; simp
      · rw [if_neg fun e2 => e (hR.inj _ _ _ _ hn hq e2), ih fun x hx => hl x (List.mem_cons_of_mem _ hx)]
        simp [e]
  exact this L hl
theorem CS.old (h : CS w W K T ad mb c nm L S Dn X v) (hR : RepP F K w tb T ad mb) : RepP F K W tb T ad mb := hR.kept fun k hF hl => h.low.block k hl
theorem CS.keys (h : CS w W K T ad mb c nm L S Dn X v) (hR : RepP F K w tb T ad mb) : ∀ x ∈ L.map (fun n => (ad n, c n)), ∃ U cs, BX W x.1 U cs := fun x hx => by
  obtain ⟨n, hn, rfl⟩ := List.mem_map.1 hx
  obtain ⟨p, hp⟩ := h.live n hn
  exact ⟨_, _, ((h.old hR).node p n hp).1⟩
/-- A node more. -/
theorem CS.add (h : CS w W K T ad mb c nm L S Dn X v) (hR : RepP F K w tb T ad mb) {p : Path} {n : Nat} (hn : (p, n) ∈ T.paths) (hnL : n ∉ L) (hnX : ¬ X n)
    (ho : Oth w.heap.size (W.alloc (.cells (NC (T.nd n) (mbv T mb n) (cnt T.paths n : Nat)) 91)) W') (hpm : PM W' w.heap.size ((L.map fun n => (ad n, c n)) ++ [(ad n, W.heap.size)])) :
    CS w W' K T ad mb (fun m => if m = n then W.heap.size else c m) nm (L ++ [n]) S Dn (fun m => X m ∨ m = n) v := by
  have hb0 := below_new W (.cells (NC (T.nd n) (mbv T mb n) (cnt T.paths n : Nat)) 91)
  have h1 := h.later hb0
  have hnS : n ∉ S := fun e => hnL (h.sub n e).1
  have hnD : n ∉ Dn := fun e => hnL (h.subd n e).1
  have hcm : ∀ m ∈ L, (if m = n then W.heap.size else c m) = c m := fun m hm => by rw [if_neg (fun e : m = n => hnL (e ▸ hm))]
  have hcl : ∀ m ∈ L, c m < W.heap.size := fun m hm => (h.node m hm).lt
  have hsz := h.low.size
  have hbx : ∀ a U cs, BX (W.alloc (.cells (NC (T.nd n) (mbv T mb n) (cnt T.paths n : Nat)) 91)) a U cs → a ≠ w.heap.size := fun a U cs hx => h1.pm.ne_bx hx
  have hcong : ∀ l : List Nat, (∀ m ∈ l, m ∈ L) → l.map (fun m => if m = n then W.heap.size else c m) = l.map c := fun l hl => List.map_congr_left fun m hm => hcm m (hl m hm)
  refine ⟨h1.low.trans (ho.below (Nat.le_refl _) h1.low.size), ?_, h1.cbx.oth ho (by omega), h1.dbx.oth ho (by omega), ?_, ?_, ?_, ?_, ?_, h.snd, h.dnd, ?_, ?_, ?_, ?_, ?_, h.nminj⟩
  · rw [List.map_append, List.map_cons, List.map_nil, if_pos rfl]
    have : L.map (fun m => (ad m, if m = n then W.heap.size else c m)) = L.map fun m => (ad m, c m) := List.map_congr_left fun m hm => by rw [hcm m hm]
    rw [this]
    exact hpm
  · rw [hcong S fun m hm => (h.sub m hm).1]
    exact own_keep13 h1.pr fun k hk => ho.2.2.2.2 k (World.ownsRow.lt h1.pr k hk).2 (by
      obtain ⟨cs, hcs⟩ := own_block13 h1.pr hk
      exact hbx k _ cs hcs)
  · intro m hm
    rcases List.mem_append.1 hm with h2 | h2
    · exact h.live m h2
    · obtain rfl : m = n := by simpa using h2
      exact ⟨p, hn⟩
  · rw [List.nodup_append]
    refine ⟨h.nodup, by simp, ?_⟩
    intro a ha b hb e
    obtain rfl : b = n := by simpa using hb
    exact hnL (e ▸ ha)
  · intro m hm
    obtain ⟨a, b, d, e⟩ := h.sub m hm
    exact ⟨List.mem_append_left _ a, b, d, fun f => f.elim e fun f => hnS (f ▸ hm)⟩
  · intro m hm
    obtain ⟨a, b, e⟩ := h.subd m hm
    exact ⟨List.mem_append_left _ a, b, fun f => f.elim e fun f => hnD (f ▸ hm)⟩
  · intro m hm hk
    rcases List.mem_append.1 hm with h2 | h2
    · exact (h.cover m h2 hk).imp id fun e => e.imp id .inl
    · obtain rfl : m = n := by simpa using h2
      exact .inr (.inr (.inr rfl))
  · intro a ha b hb e
    rcases List.mem_append.1 ha with h2 | h2 <;> rcases List.mem_append.1 hb with h3 | h3
    · rw [hcm a h2, hcm b h3] at e
      exact h.inj a h2 b h3 e
    · obtain rfl : b = n := by simpa using h3
      rw [hcm a h2, if_pos rfl] at e
      have := hcl a h2
      omega
    · obtain rfl : a = n := by simpa using h2
      rw [hcm b h3, if_pos rfl] at e
      have := hcl b h3
      omega
    · obtain rfl : a = n := by simpa using h2
      obtain rfl : b = a := by simpa using h3
      rfl
  · intro m hm
    rcases List.mem_append.1 hm with h2 | h2
    · rw [hcm m h2]; exact h.new m h2
    · obtain rfl : m = n := by simpa using h2
      rw [if_pos rfl]; exact hsz
  · intro m hm
    rcases List.mem_append.1 hm with h2 | h2
    · rw [hcm m h2]
      exact (h1.node m h2).oth ho (hbx _ _ _ (h1.node m h2))
    · obtain rfl : m = n := by simpa using h2
      rw [if_pos rfl]
      have e1 : cnv T mb nm Dn m = mbv T mb m := by unfold cnv mbv; rw [if_neg hnD]
      rw [e1]
      have hx := BX.new W 91 (NC (T.nd m) (mbv T mb m) (cnt T.paths m : Nat))
      exact hx.oth ho (hbx _ _ _ hx)
  · intro q m hq hm
    obtain ⟨a, b, d⟩ := h1.done q m hq hm
    have hne : nm m ≠ w.heap.size := by
      intro e
      rw [e] at b
      obtain ⟨D, ⟨es, k, h5, Fx, _⟩, _⟩ := b
      obtain ⟨es2, k2, h6, h7⟩ := h1.pm
      rw [h5] at h6
      cases h6
      have hml := (h.subd m hm).1
      have hlen := congrArg List.length h7
      simp at hlen
      have hpos : 0 < L.length := List.length_pos_of_mem hml
      obtain ⟨e0, he0⟩ : ∃ e0, e0 ∈ es.toList := by
        rcases es with ⟨_ | ⟨e0, r⟩⟩
        · simp at hlen; omega
        · exact ⟨e0, by simp⟩
      obtain ⟨y, hy⟩ := Fx.reads e0 he0
      have hkey := WideElems.rd_key hy
      obtain ⟨x, hx, hx2, _⟩ := Maps.keyOf_str Tryz.underlying9 hkey
      have : (e0.key, e0.val) ∈ (L.map fun n => (ad n, c n)).map (fun x => (pt x.1, pt x.2)) := by
        rw [← h7]
        exact List.mem_map.2 ⟨e0, he0, rfl⟩
      obtain ⟨z, _, hz⟩ := List.mem_map.1 this
      have h8 := congrArg Prod.fst hz
      simp only at h8
      rw [hx] at h8
      cases h8
    refine ⟨a, (b.oth ho hne).cong fun s _ => ?_, fun s j hj => List.mem_append_left _ (d s j hj)⟩
    cases ha : at_ T.paths (q ++ [s]) with
    | none => rfl
    | some j =>
      simp only [Option.map_some]
      rw [hcm j (d s j (Nt.at_mem ha))]
/-- All blocks but rows of pointers stand as they did. -/
structure KeepRow (W W' : World) : Prop where
  os : W'.os = W.os
  tape : W'.tape = W.tape
  output : W'.output = W.output
  size : W.heap.size ≤ W'.heap.size
  block : ∀ k, k < W.heap.size → (∀ cs, W.heap[k]? ≠ some (.cells cs 87 (0, 0))) → W'.heap[k]? = W.heap[k]?
theorem KeepRow.refl (W : World) : KeepRow W W := ⟨rfl, rfl, rfl, Nat.le_refl _, fun _ _ _ => rfl⟩
theorem KeepRow.grown {base : Nat} {l : List Nat} {o : Obj} (hp : PR W base v l) (hg : (W.alloc o).grownBy W' v.ownBlock) : KeepRow W W' :=
  ⟨hg.os, hg.tape, hg.output, by have := hg.size; simp at this; omega, fun k hk hn => (hg.block k (by simp; omega) fun e => by
    obtain ⟨cs, hcs⟩ := own_block13 hp e.symm
    exact hn cs hcs).trans (Below.heap_alloc _ _ _ hk)⟩
theorem BX.row {a : Nat} {U : TypeId} {cs : Array Value} (h : BX W a U cs) (hk : KeepRow W W') (hU : U ≠ 87) : BX W' a U cs :=
  (hk.block a h.lt fun ds e => by
    unfold BX at h
    rw [h] at e
    cases e
    exact hU rfl).trans h
theorem MapAt.row {b n : Nat} {f : ByteArray → Option Nat} (h : MapAt W b n f) (hk : KeepRow W W') : MapAt W' b n f := h.of_block (hk.block b h.lt fun ds e => by
  obtain ⟨D, ⟨es, k, h1, _⟩, _⟩ := h
  rw [h1] at e
  cases e)
theorem PM.row {b : Nat} {l : List (Nat × Nat)} (h : PM W b l) (hk : KeepRow W W') : PM W' b l := h.of_block (hk.block b h.lt fun ds e => by
  obtain ⟨es, k, h1, _⟩ := h
  rw [h1] at e
  cases e)
/-- Other Dirs wait. -/
theorem CS.queue (h : CS w W K T ad mb c nm L S Dn X v) (hk : KeepRow W W') (hb : Below w.heap.size w W') {S2 : List Nat} {v2 : Value} (hp : PR W' w.heap.size v2 (S2.map c))
    (hsub : ∀ n ∈ S2, n ∈ L ∧ (T.nd n).kind = 4 ∧ n ∉ Dn ∧ ¬ Y n) (hsd : ∀ n ∈ Dn, ¬ Y n) (hnd : S2.Nodup) (hc : ∀ n ∈ L, (T.nd n).kind = 4 → n ∈ Dn ∨ n ∈ S2 ∨ Y n) :
    CS w (W'.setCell ⟨w.heap.size + 2, 0, none⟩ v2) K T ad mb c nm L S2 Dn Y v2 := by
  have hd := h.dbx.row hk (by decide)
  have hne : ∀ a U cs, BX W' a U cs → U ≠ 168 → a ≠ w.heap.size + 2 := fun a U cs hx hU => bx_ne hx hd hU
  refine ⟨hb.setCell (by simp) _, (h.pm.row hk).setCell (by simp) _, (h.cbx.row hk (by decide)).other (by omega) _, hd.set 0 v2, ?_, h.live, h.nodup, hsub, fun n hn => ⟨(h.subd n hn).1, (h.subd n hn).2.1, hsd n hn⟩, hnd, h.dnd, hc, h.inj, h.new, ?_, ?_, h.nminj⟩
  · refine own_keep13 hp fun k hk2 => heap_setCell_other _ _ _ _ ?_
    obtain ⟨cs, hcs⟩ := own_block13 hp hk2
    exact bx_ne (show BX W' k _ cs from hcs) hd (by decide)
  · exact fun n hn => ((h.node n hn).row hk (by decide)).other (hne _ _ _ ((h.node n hn).row hk (by decide)) (by decide)) _
  · intro p n hp2 hn
    obtain ⟨a, b, d⟩ := h.done p n hp2 hn
    exact ⟨a, (b.row hk).setCell (a := ⟨w.heap.size + 2, 0, none⟩) (fun e => (b.row hk).ne_bx hd e.symm) _, d⟩
/-- A Dir's names are copied. -/
theorem CS.finish (h : CS w W K T ad mb c nm L S Dn X v) (hW : WF T K) {p : Path} {d nb : Nat} (hX : ∀ n, X n ↔ n = d) (hp : (p, d) ∈ T.paths) (hd : d ∈ L) (hk : (T.nd d).kind = 4) (hdD : d ∉ Dn) (hdS : d ∉ S) (hnb : w.heap.size ≤ nb)
    (hm : MapAt W nb K (fun s => (at_ T.paths (p ++ [s])).map c)) (hn : ∀ m ∈ Dn, nm m ≠ nb) (hin : ∀ s j, (p ++ [s], j) ∈ T.paths → j ∈ L) :
    CS w (W.setCell ⟨c d, 7, none⟩ (.map (some nb))) K T ad mb c (fun m => if m = d then nb else nm m) L S (Dn ++ [d]) (fun _ => False) v := by
  have hx := h.node d hd
  have hcd := h.new d hd
  have hne : ∀ a U cs, BX W a U cs → U ≠ 91 → a ≠ c d := fun a U cs hy hU => bx_ne hy hx hU
  have hnm : ∀ m ∈ Dn, (if m = d then nb else nm m) = nm m := fun m hm => by rw [if_neg (fun e : m = d => hdD (e ▸ hm))]
  refine ⟨h.low.setCell hcd _, h.pm.setCell (fun e => h.pm.ne_bx hx e.symm) _, h.cbx.other (hne _ _ _ h.cbx (by decide)) _, h.dbx.other (hne _ _ _ h.dbx (by decide)) _, ?_, h.live, h.nodup, ?_, ?_, h.snd, ?_, ?_, h.inj, h.new, ?_, ?_, ?_⟩
  · refine own_keep13 h.pr fun k hk2 => heap_setCell_other _ _ _ _ ?_
    obtain ⟨cs, hcs⟩ := own_block13 h.pr hk2
    exact hne _ _ cs hcs (by decide)
  · intro n hnS
    obtain ⟨a, b, e, f⟩ := h.sub n hnS
    exact ⟨a, b, fun g => (List.mem_append.1 g).elim e fun g => f ((hX n).2 (by simpa using g)), fun g => g⟩
  · intro n hnD
    rcases List.mem_append.1 hnD with h2 | h2
    · obtain ⟨a, b, _⟩ := h.subd n h2
      exact ⟨a, b, fun g => g⟩
    · obtain rfl : n = d := by simpa using h2
      exact ⟨hd, hk, fun g => g⟩
  · rw [List.nodup_append]
    refine ⟨h.dnd, by simp, ?_⟩
    intro a ha b hb e
    obtain rfl : b = d := by simpa using hb
    exact hdD (e ▸ ha)
  · intro n hnL hkn
    rcases h.cover n hnL hkn with h2 | h2 | h2
    · exact .inl (List.mem_append_left _ h2)
    · exact .inr (.inl h2)
    · exact .inl (List.mem_append_right _ (by simp [(hX n).1 h2]))
  · intro n hnL
    by_cases e : n = d
    · subst e
      have e1 : cnv T mb (fun m => if m = n then nb else nm m) (Dn ++ [n]) n = some nb := by unfold cnv; rw [if_pos hk]; simp
      rw [e1]
      exact hx.set 7 (.map (some nb))
    · have e1 : cnv T mb (fun m => if m = d then nb else nm m) (Dn ++ [d]) n = cnv T mb nm Dn n := by unfold cnv; simp [e]
      rw [e1]
      exact (h.node n hnL).other (fun e2 => e (h.inj n hnL d hd e2)) _
  · intro q n hq hnD
    rcases List.mem_append.1 hnD with h2 | h2
    · obtain ⟨a, b, f⟩ := h.done q n hq h2
      rw [hnm n h2]
      exact ⟨a, b.setCell (a := ⟨c d, 7, none⟩) (fun e => b.ne_bx hx e.symm) _, f⟩
    · obtain rfl : n = d := by simpa using h2
      rw [if_pos rfl]
      obtain rfl : q = p := hW.one _ _ _ hq hp (by rw [hk]; decide)
      exact ⟨hnb, hm.setCell (a := ⟨c n, 7, none⟩) (fun e => hm.ne_bx hx e.symm) _, hin⟩
  · intro n hnD m hmD e
    rcases List.mem_append.1 hnD with h2 | h2 <;> rcases List.mem_append.1 hmD with h3 | h3
    · rw [hnm n h2, hnm m h3] at e
      exact h.nminj n h2 m h3 e
    · obtain rfl : m = d := by simpa using h3
      rw [hnm n h2, if_pos rfl] at e
      exact absurd e (hn n h2)
    · obtain rfl : n = d := by simpa using h2
      rw [hnm m h3, if_pos rfl] at e
      exact absurd e.symm (hn m h3)
    · obtain rfl : n = d := by simpa using h2
      obtain rfl : m = n := by simpa using h3
      rfl
/-- At the beginning. -/
theorem CS.start {W0 : World} (hlow : Below w.heap.size w W0) (hpm : PM W0 w.heap.size []) (hc : BX W0 (w.heap.size + 1) 167 #[.map (some w.heap.size)]) (hd : BX W0 (w.heap.size + 2) 168 #[.slice none 0 0]) :
    CS w W0 K T ad mb (fun _ => 0) (fun _ => 0) [] [] [] (fun _ => False) (.slice none 0 0) :=
  ⟨hlow, hpm, hc, hd, World.ownsRow_nil _ _ _ _, by simp, by simp, by simp, by simp, by simp, by simp, by simp, by simp, by simp, by simp, by simp, by simp⟩
/-- At the end. -/
theorem CS.rep (h : CS w W K T ad mb c nm L [] Dn (fun _ => False) v) (hW : WF T K) (h0 : 0 ∈ L) {tb' : Nat} (ht : BX W tb' 95 (TC T (c 0) T.usedN T.usedB)) (htl : w.heap.size ≤ tb') : Rep (Grow (fun _ => False) w W) K W tb' T := by
  have hall : ∀ p n, (p, n) ∈ T.paths → n ∈ L := Nt.all_copied hW h0 fun d n s j hd hk hn hj => by
    have hnD : n ∈ Dn := by
      rcases h.cover n hn hk with h2 | h2 | h2
      · exact h2
      · cases h2
      · exact h2.elim
    exact (h.done d n hd hnD).2.2 s j hj
  have hdir : ∀ p n, (p, n) ∈ T.paths → (T.nd n).kind = 4 → n ∈ Dn := fun p n hn hk => by
    rcases h.cover n (hall p n hn) hk with h2 | h2 | h2
    · exact h2
    · cases h2
    · exact h2.elim
  refine ⟨c, nm, ht, .inr ⟨htl, ht.lt⟩, ?_, ?_, ?_, ?_⟩
  · intro p n hn
    have hx := h.node n (hall p n hn)
    have e : cnv T mb nm Dn n = mbv T nm n := by
      unfold cnv mbv
      by_cases hk : (T.nd n).kind = 4
      · rw [if_pos hk, if_pos hk, if_pos (hdir p n hn hk)]
      · rw [if_neg hk, if_neg hk]
    rw [e] at hx
    exact ⟨hx, .inr ⟨h.new n (hall p n hn), hx.lt⟩⟩
  · exact fun p q n m hn hm e => h.inj n (hall p n hn) m (hall q m hm) e
  · intro p n hn hk
    obtain ⟨a, b, _⟩ := h.done p n hn (hdir p n hn hk)
    exact ⟨.inr ⟨a, b.lt⟩, b⟩
  · exact fun p q n m hn hm k1 k2 e => h.nminj n (hdir p n hn k1) m (hdir q m hm k2) e
end
end Go.Proofs.YtbianfjennnofaaGreatDoor
