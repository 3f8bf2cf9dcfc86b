/- WALKS OF LAYER 13, SEVENTEENTH PART: a node is copied. -/
import Derived.Test.YthgbncpiehcghaaGreatDoorGs3
import Derived.StillTailTactics
import Derived.Test.YthgbncpiehcghaaGreatDoorGy3
namespace Go.Proofs.YthgbncpiehcghaaGreatDoor
set_option linter.unusedVariables false
open Go Go.RowKit Go.Maps
set_option maxRecDepth 100000
set_option maxHeartbeats 4000000
open Nt (Tr Nd WF Ps Path at_ cnt used)
/-- What a copying keeps: all but the map of copies, the variable of Dirs that wait, and rows of pointers. -/
structure KeepC (B : Nat) (W W' : World) : Prop where
  size : W.heap.size ≤ W'.heap.size
  block : ∀ k, k < W.heap.size → k ≠ B → k ≠ B + 2 → (∀ cs, W.heap[k]? ≠ some (.cells cs 104 (0, 0))) → W'.heap[k]? = W.heap[k]?
section
variable {w W W' : World} {F : Nat → Prop} {K tb : Nat} {T : Tr} {ad mb c nm : Nat → Nat} {L S Dn : List Nat} {X : Nat → Prop} {v : Value}
theorem copied_any (hW : WF T K) (hK : K ≤ 100000) (hR : RepP F K w tb T ad mb) {p : Path} {n : Nat} (hn : (p, n) ∈ T.paths) (h : CS w W K T ad mb c nm L S Dn X v) (hX : ∀ m, X m → m ∈ L) :
    Calls Tryz.prog 127 #[.pointer (some ⟨ad n, 0, none⟩), .pointer (some ⟨w.heap.size + 1, 0, none⟩), .pointer (some ⟨w.heap.size + 2, 0, none⟩)] W fun e W' => ∃ c' L' S' v', e = .returned (.pointer (some ⟨c' n, 0, none⟩)) ∧ CS w W' K T ad mb c' nm L' S' Dn X v' ∧ n ∈ L' ∧ (∀ m ∈ L, m ∈ L' ∧ c' m = c m) ∧ KeepC w.heap.size W W' := by
  obtain ⟨i0, hi, hz0, hz1, hz2⟩ := info_parts info_node
  have hlk := h.pm.look (a := ad n) ⟨_, _, ((h.old hR).node p n hn).1⟩ (h.keys hR)
  rw [h.assoc hR hn] at hlk
  have c1 : W.cell? ⟨w.heap.size + 1, 0, none⟩ = some (.map (some w.heap.size)) := h.cbx.cell rfl
  by_cases hnL : n ∈ L
  · rw [if_pos hnL] at hlk
    replace hlk : (Instr.lookup 184 (.map (some w.heap.size)) (.pointer (some ⟨ad n, 0, none⟩)) true).run Tryz.prog W = .ok (.tuple #[.pointer (some ⟨c n, 0, none⟩), .bool true]) W := hlk
    have H := Lib.hid h
    have HL := Lib.hid hnL
    clear hnL
    go_enter Tryz.func127, Tryz.ntmps127
    go_wp2
    go_ret
    exact ⟨c, L, S, v, rfl, H.out, HL.out, fun m hm => ⟨hm, rfl⟩, Nat.le_refl _, fun _ _ _ _ _ => rfl⟩
  · rw [if_neg hnL] at hlk
    replace hlk : (Instr.lookup 184 (.map (some w.heap.size)) (.pointer (some ⟨ad n, 0, none⟩)) true).run Tryz.prog W = .ok (.tuple #[.pointer none, .bool false]) W := hlk
    have hnd := ((h.old hR).node p n hn).1
    have hnX : ¬ X n := fun e => hnL (hX n e)
    have hb1 := below_new W (.cells (NC (T.nd n) (mbv T mb n) (cnt T.paths n : Nat)) 108)
    have h1 := h.later hb1
    obtain ⟨W2, hrun, hpm2, ho2, hs2⟩ := h1.pm.put (a := ad n) ⟨_, _, ((h1.old hR).node p n hn).1⟩ (h1.keys hR) (by rw [h1.assoc hR hn, if_neg hnL]) W.heap.size
    have hA := Lib.hid (h.add hR hn hnL hnX ho2 hpm2)
    have hWne : W.heap.size ≠ w.heap.size := by have := h.pm.lt; omega
    have hnew := (BX.new W 108 (NC (T.nd n) (mbv T mb n) (cnt T.paths n : Nat))).oth ho2 hWne
    obtain ⟨D, hD⟩ : ∃ D, strOfNums (T.nd n).xs = D := ⟨_, rfl⟩
    obtain ⟨kd, hkd⟩ : ∃ kd, (T.nd n).kind = kd := ⟨_, rfl⟩
    obtain ⟨a1, ha1⟩ : ∃ a, (T.nd n).mode = a := ⟨_, rfl⟩
    obtain ⟨a2, ha2⟩ : ∃ a, (T.nd n).uid = a := ⟨_, rfl⟩
    obtain ⟨a3, ha3⟩ : ∃ a, (T.nd n).gid = a := ⟨_, rfl⟩
    obtain ⟨a4, ha4⟩ : ∃ a, (T.nd n).mtime = a := ⟨_, rfl⟩
    obtain ⟨a5, ha5⟩ : ∃ a, (T.nd n).link = a := ⟨_, rfl⟩
    obtain ⟨a8, ha8⟩ : ∃ a : Int, ((cnt T.paths n : Nat) : Int) = a := ⟨_, rfl⟩
    obtain ⟨mv, hmv⟩ : ∃ mv, mbv T mb n = mv := ⟨_, rfl⟩
    simp only [NC, pt, hD, hkd, ha1, ha2, ha3, ha4, ha5, ha8, hmv] at hnd hrun hnew
    have s0 : W.cell? ⟨ad n, 0, none⟩ = some (.int .i64 kd) := hnd.cell rfl
    have s1 : W.cell? ⟨ad n, 1, none⟩ = some (.int .i64 a1) := hnd.cell rfl
    have s2 : W.cell? ⟨ad n, 2, none⟩ = some (.int .i64 a2) := hnd.cell rfl
    have s3 : W.cell? ⟨ad n, 3, none⟩ = some (.int .i64 a3) := hnd.cell rfl
    have s4 : W.cell? ⟨ad n, 4, none⟩ = some (.int .i64 a4) := hnd.cell rfl
    have s5 : W.cell? ⟨ad n, 5, none⟩ = some (.string a5) := hnd.cell rfl
    have s6 : W.cell? ⟨ad n, 6, none⟩ = some (.string D) := hnd.cell rfl
    have s7 : W.cell? ⟨ad n, 7, none⟩ = some (.map mv) := hnd.cell rfl
    have s8 : W.cell? ⟨ad n, 8, none⟩ = some (.int .i64 a8) := hnd.cell rfl
    have hnl := hnd.lt
    have c1' : (W.alloc (.cells #[.int .i64 kd, .int .i64 a1, .int .i64 a2, .int .i64 a3, .int .i64 a4, .string a5, .string D, .map mv, .int .i64 a8] 108)).cell? ⟨w.heap.size + 1, 0, none⟩ = some (.map (some w.heap.size)) := (h.cbx.alloc _).cell rfl
    have n0 : W2.cell? ⟨W.heap.size, 0, none⟩ = some (.int .i64 kd) := hnew.cell rfl
    have d0 : W2.cell? ⟨w.heap.size + 2, 0, none⟩ = some v := hA.out.dbx.cell rfl
    have df := hA.out.dbx.free 0
    have HKEEP : Hid (KeepC w.heap.size W W2) := ⟨by rw [hs2]; simp, fun k hk h2 h3 _ => (ho2.2.2.2.2 k (by simp; omega) h2).trans (Below.heap_alloc _ _ _ hk)⟩
    have H := Lib.hid h
    have HNL := Lib.hid hnL
    have HNX := Lib.hid hnX
    by_cases hk4 : kd = 4
    · have g : (kd == 4) = true := by simp [hk4]
      have hkn : (T.nd n).kind = 4 := by rw [hkd]; exact hk4
      have hnS : n ∉ S := fun e => hnL (h.sub n e).1
      have hnD : n ∉ Dn := fun e => hnL (h.subd n e).1
      obtain ⟨Av, cv, hve⟩ := hA.out.pr.slice
      obtain ⟨N, hN⟩ : ∃ N, (S.map fun m => if m = n then W.heap.size else c m).length = N := ⟨_, rfl⟩
      rw [hN] at hve
      subst hve
      have hNb : N ≤ 100000 := by
        have h5 : S.length ≤ (T.paths.map (·.2)).length := len_sub h.snd fun m hm => by
          obtain ⟨q, hq⟩ := h.live m (h.sub m hm).1
          exact List.mem_map.2 ⟨_, hq, rfl⟩
        have := hW.many
        simp at h5 hN
        omega
      have hown : Hid (W2.ownsRow w.heap.size 104 1 (.slice Av N cv) N ((S.map fun m => if m = n then W.heap.size else c m).map fun b => Value.pointer (some ⟨b, 0, none⟩))) := by
        have := hA.out.pr
        unfold PR at this
        rw [hN] at this
        exact this
      have hwl : w.heap.size ≤ W2.heap.size := hA.out.low.size
      have HQ := Lib.hid (fun (W3 : World) (v2 : Value) (hg : (W2.alloc (.cells #[.pointer (some ⟨W.heap.size, 0, none⟩)] 104)).grownBy W3 (Value.slice Av N cv).ownBlock) (hp : PR W3 w.heap.size v2 ((S ++ [n]).map fun m => if m = n then W.heap.size else c m)) =>
        hA.out.queue (Y := X) (KeepRow.grown hA.out.pr hg) (hA.out.low.trans (below_grow13 (Below.refl w.heap.size W2) hwl hown.out hg)) hp
          (fun m hm => by
            rcases List.mem_append.1 hm with h6 | h6
            · obtain ⟨a, b, d, e⟩ := hA.out.sub m h6
              exact ⟨a, b, d, fun f => e (.inl f)⟩
            · obtain rfl : m = n := by simpa using h6
              exact ⟨by simp, hkn, hnD, hnX⟩)
          (fun m hm => fun f => (hA.out.subd m hm).2.2 (.inl f))
          (by
            rw [List.nodup_append]
            refine ⟨h.snd, by simp, ?_⟩
            intro a ha b hb e
            obtain rfl : b = n := by simpa using hb
            exact hnS (e ▸ ha))
          (fun m hm hk => by
            rcases hA.out.cover m hm hk with h6 | h6 | h6 | h6
            · exact .inl h6
            · exact .inr (.inl (List.mem_append_left _ h6))
            · exact .inr (.inr h6)
            · exact .inr (.inl (List.mem_append_right _ (by simp [h6])))))
      have HK3 := Lib.hid (fun (W3 : World) (v2 : Value) (hg : (W2.alloc (.cells #[.pointer (some ⟨W.heap.size, 0, none⟩)] 104)).grownBy W3 (Value.slice Av N cv).ownBlock) => show KeepC w.heap.size W (W3.setCell ⟨w.heap.size + 2, 0, none⟩ v2) from
        ⟨Nat.le_trans HKEEP.out.size (by have := (KeepRow.grown hA.out.pr hg).size; simpa [World.setCell] using this), fun k hk h2 h3 h4 => by
          rw [heap_setCell_other _ _ _ _ h3]
          have e1 := HKEEP.out.block k hk h2 h3 h4
          exact ((KeepRow.grown hA.out.pr hg).block k (Nat.lt_of_lt_of_le hk HKEEP.out.size) fun cs => by rw [e1]; exact h4 cs).trans e1⟩)
      have HDQ := Lib.hid (fun (W3 : World) (hg : (W2.alloc (.cells #[.pointer (some ⟨W.heap.size, 0, none⟩)] 104)).grownBy W3 (Value.slice Av N cv).ownBlock) => hA.out.dbx.row (KeepRow.grown hA.out.pr hg) (by decide))
      have HSN := Lib.hid (show ((S ++ [n]).map fun m => if m = n then W.heap.size else c m) = (S.map fun m => if m = n then W.heap.size else c m) ++ [W.heap.size] from by simp)
      clear hk4 hkd ha1 ha2 ha3 ha4 ha5 ha8 hmv hD hnL hnX hnd hnew h h1 hb1 hpm2 ho2 hs2 hWne hkn hnS hnD hN
      go_enter Tryz.func127, Tryz.ntmps127
      go_wp2_with (at_builtin; refine wpList_append_own _ rfl _ _ 185 rfl w.heap.size 104 i0 (.pointer none) 1 8 Tryz.underlying185 hi hz0 hz1 hz2 rfl (by decide) _ _ _ rfl (hown.out.alloc _) ⟨W2.heap.size, 0, none⟩ 1 1 [.pointer (some ⟨W.heap.size, 0, none⟩)] rfl rfl (cell_one_new _ _ _) (ptr_cells _) (by unfold maxLen; omega) (by omega) (by simp; omega) ?_; intro v2 w3 hown2 hgrow2 _; obtain ⟨g', cap', rfl⟩ := ownsRow_succ hown2; have hd3 := Lib.hid (HDQ.out w3 hgrow2); have e0 : w3.cell? ⟨w.heap.size + 2, 0, none⟩ = some (.slice Av N cv) := hd3.out.cell rfl; have e1 := hd3.out.free 0)
      go_ret
      refine ⟨_, L ++ [n], S ++ [n], _, ?_, HQ.out w3 _ hgrow2 (by rw [HSN.out]; exact PR.snoc (by simpa using hown2)), by simp, fun m hm => ⟨List.mem_append_left _ hm, by rw [if_neg (fun e : m = n => HNL.out (e ▸ hm))]⟩, HK3.out w3 _ hgrow2⟩
      show Ending.returned (.pointer (some ⟨W.heap.size, 0, none⟩)) = .returned (.pointer (some ⟨(if n = n then W.heap.size else c n), 0, none⟩))
      rw [if_pos rfl]
    · have g : (kd == 4) = false := by simp [hk4]
      have HFIN : Hid (CS w W2 K T ad mb (fun m => if m = n then W.heap.size else c m) nm (L ++ [n]) S Dn X v) := by
        have h2 := hA.out
        exact ⟨h2.low, h2.pm, h2.cbx, h2.dbx, h2.pr, h2.live, h2.nodup, fun m hm => let ⟨a, b, d, e⟩ := h2.sub m hm; ⟨a, b, d, fun f => e (.inl f)⟩, fun m hm => let ⟨a, b, e⟩ := h2.subd m hm; ⟨a, b, fun f => e (.inl f)⟩, h2.snd, h2.dnd,
          fun m hm hk => (h2.cover m hm hk).imp id fun e => e.imp id fun e => e.elim id fun e => absurd hk (by rw [e, hkd]; exact hk4), h2.inj, h2.new, h2.node, h2.done, h2.nminj⟩
      clear hk4 hkd ha1 ha2 ha3 ha4 ha5 ha8 hmv hD hnL hnX hnd hnew h h1 hb1 hpm2 ho2 hs2 hWne
      go_enter Tryz.func127, Tryz.ntmps127
      go_wp2
      go_ret
      refine ⟨_, L ++ [n], S, v, ?_, HFIN.out, by simp, fun m hm => ⟨List.mem_append_left _ hm, by rw [if_neg (fun e : m = n => HNL.out (e ▸ hm))]⟩, HKEEP.out⟩
      show Ending.returned (.pointer (some ⟨W.heap.size, 0, none⟩)) = .returned (.pointer (some ⟨(if n = n then W.heap.size else c n), 0, none⟩))
      rw [if_pos rfl]
end
end Go.Proofs.YthgbncpiehcghaaGreatDoor
/- WALKS OF LAYER 13, EIGHTEENTH PART: a tree is copied. -/
namespace Go.Proofs.YthgbncpiehcghaaGreatDoor
set_option linter.unusedVariables false
open Go Go.RowKit Go.Maps
set_option maxRecDepth 100000
set_option maxHeartbeats 8000000
open Nt (Tr Nd WF Ps Path at_ cnt used)
section
variable {w W W' : World} {F : Nat → Prop} {K tb : Nat} {T : Tr} {ad mb c nm : Nat → Nat} {L S Dn : List Nat} {X : Nat → Prop} {v : Value}
theorem KeepC.map {B b n : Nat} {f : ByteArray → Option Nat} (hk : KeepC B W W') (h : MapAt W b n f) (h1 : b ≠ B) (h2 : b ≠ B + 2) : MapAt W' b n f := h.of_block (hk.block b h.lt h1 h2 fun ds e => by
  obtain ⟨D, ⟨es, k, h1, _⟩, _⟩ := h
  rw [h1] at e
  cases e)
theorem KeepC.os {B base : Nat} {l : List (Nat × Nat)} {cs : Array Value} {v : Value} {xs : List ByteArray} (hk : KeepC B W W') (h : OS W base v xs) (h1 : PM W B l) (h2 : BX W (B + 2) 185 cs) : OS W' base v xs := own_keep13 h fun k hb => by
  obtain ⟨ds, hds⟩ := own_block13 h hb
  have hx : BX W k 9 ds := hds
  exact hk.block k hx.lt (h1.ne_bx hx) (bx_ne hx h2 (by decide)) fun es e => by
    unfold BX at hx
    rw [hx] at e
    cases e
theorem os_oth {base b n : Nat} {f : ByteArray → Option Nat} {v : Value} {xs : List ByteArray} (h : OS W base v xs) (hm : MapAt W b n f) (ho : Oth b W W') : OS W' base v xs := own_keep13 h fun k hb => by
  obtain ⟨ds, hds⟩ := own_block13 h hb
  have hx : BX W k 9 ds := hds
  exact ho.2.2.2.2 k hx.lt (hm.ne_bx hx)
theorem CS.few (h : CS w W K T ad mb c nm L S Dn X v) (hW : WF T K) : S.length ≤ K := by
  have h5 : S.length ≤ (T.paths.map (·.2)).length := len_sub h.snd fun m hm => by
    obtain ⟨q, hq⟩ := h.live m (h.sub m hm).1
    exact List.mem_map.2 ⟨_, hq, rfl⟩
  have := hW.many
  simp at h5
  omega
theorem kids_len (hW : WF T K) (hK : K ≤ 100000) {p : Path} {Lk : List ByteArray} (h1 : Lk.Pairwise (fun x y => Pp.lt x y = true)) (h2 : ∀ s ∈ Lk, (at_ T.paths (p ++ [s])).isSome = true) : Lk.length ≤ K := by
  have hnd : (Lk.map fun s => (p ++ [s], kidN T p s)).Nodup := by
    refine List.pairwise_map.2 ((lt_nodup h1).imp fun {a b} hab e => hab ?_)
    have := congrArg Prod.fst e
    simpa using this
  have := len_sub hnd (l := T.paths) fun x hx => by
    obtain ⟨s, hs, rfl⟩ := List.mem_map.1 hx
    obtain ⟨j, hj⟩ := Option.isSome_iff_exists.1 (h2 s hs)
    unfold kidN
    rw [hj]
    exact Nt.at_mem hj
  have h3 := hW.many
  rw [List.length_map] at this
  omega
/-- What a copied Dir has under the names of L. -/
def tkf (T : Tr) (p : Path) (c : Nat → Nat) (L : List ByteArray) (s : ByteArray) : Option Nat := if L.any (fun x => decide (x = s)) = true then (at_ T.paths (p ++ [s])).map c else none
theorem tkf_mem {p : Path} {L : List ByteArray} {s : ByteArray} (h : s ∈ L) : tkf T p c L s = (at_ T.paths (p ++ [s])).map c := if_pos (List.any_eq_true.2 ⟨s, h, by simp⟩)
theorem tkf_not {p : Path} {L : List ByteArray} {s : ByteArray} (h : s ∉ L) : tkf T p c L s = none := if_neg fun e => by
  obtain ⟨x, hx, he⟩ := List.any_eq_true.1 e
  exact h (by rw [← of_decide_eq_true he]; exact hx)
theorem CS.dlen (h : CS w W K T ad mb c nm L S Dn X v) (hW : WF T K) : Dn.length ≤ T.nodes.length := by
  have h5 := len_sub h.dnd (l := List.range T.nodes.length) fun m hm => by
    obtain ⟨q, hq⟩ := h.live m (h.subd m hm).1
    exact List.mem_range.2 (hW.lt _ _ hq)
  rwa [List.length_range] at h5
theorem clone_any (hW : WF T K) (hK : K ≤ 100000) (hR : RepP F K w tb T ad mb) :
    Calls Tryz.prog 88 #[.pointer (some ⟨ad 0, 0, none⟩)] w fun e w' => ∃ c nm L Dn v, e = .returned (.pointer (some ⟨c 0, 0, none⟩)) ∧ CS w w' K T ad mb c nm L [] Dn (fun _ => False) v ∧ 0 ∈ L := by
  have hmm := @run_makeMap Tryz.prog
  have hmf : ∀ (fn : Fn) (first cap : Array Value) (w : World), (Instr.makeFunc fn first cap).run Tryz.prog w = .ok (.func fn first cap) w := fun _ _ _ _ => rfl
  have hpm := PM.made w
  have hb1 := bthen (bthen (below_new w (.map #[] 0)) (below_new _ (.cells #[.map (some w.heap.size)] 184))) (below_new _ (.cells #[.slice none 0 0] 185))
  have hst : Hid (CS w (((w.alloc (.map #[] 0)).alloc (.cells #[.map (some w.heap.size)] 184)).alloc (.cells #[.slice none 0 0] 185)) K T ad mb (fun _ => 0) (fun _ => 0) [] [] [] (fun _ => False) (.slice none 0 0)) := by
    refine CS.start hb1 ((hpm.alloc _).alloc _) ?_ ?_
    · have := BX.new (w.alloc (.map #[] 0)) 184 #[.map (some w.heap.size)]
      simp only [World.size_alloc] at this
      exact this.alloc _
    · have := BX.new ((w.alloc (.map #[] 0)).alloc (.cells #[.map (some w.heap.size)] 184)) 185 #[.slice none 0 0]
      simp only [World.size_alloc] at this
      exact this
  have kc0 := Lib.hid (copied_any hW hK hR hW.root hst.out (fun m h => h.elim))
  clear hpm hb1
  go_enter Tryz.func88, Tryz.ntmps88
  go_wp2_with (go_at_call 127; refine kc0.out.mono ?_; rintro e w1 ⟨c1, L1, S1, v1, rfl, hc1, h01, _, _⟩)
  obtain ⟨C0, hC0⟩ : ∃ C0, c1 0 = C0 := ⟨_, rfl⟩
  rw [hC0]
  have HC1 := Lib.hid hc1
  have HC0 := Lib.hid hC0
  clear hc1 hC0
  go_loopg [7] (T.nodes.length) (fun k x wr => ∃ c nm L S Dn v, Hid (CS w wr K T ad mb c nm L S Dn (fun _ => False) v) ∧ Hid (0 ∈ L) ∧ Hid (c 0 = C0) ∧ Hid (k + Dn.length = T.nodes.length))
  case atStart =>
    exact ⟨c1, fun _ => 0, L1, S1, [], v1, HC1, Lib.hid h01, HC0, Lib.hid rfl⟩
  case round =>
    obtain ⟨c, nm, L, S, Dn, v, HC, H0, HCC, HG⟩ := hrel
    rcases List.eq_nil_or_concat S with rfl | ⟨S1, d, rfl⟩
    · obtain ⟨A, cc, hve⟩ := HC.out.pr.slice
      simp only [List.map_nil, List.length_nil] at hve
      subst hve
      have d0 : wr.cell? ⟨w.heap.size + 1 + 1, 0, none⟩ = some (.slice A 0 cc) := HC.out.dbx.cell rfl
      go_wp2
      go_ret
      exact ⟨c, nm, L, Dn, _, by rw [HCC.out]; rfl, HC.out, H0.out⟩
    · rw [List.concat_eq_append] at HC
      obtain ⟨g, cc, rfl, hgb, hgl, hlc, hcm⟩ := HC.out.pr.shape (by simp)
      obtain ⟨N, hN⟩ : ∃ N, S1.length = N := ⟨_, rfl⟩
      have hlen : ((S1 ++ [d]).map c).length = N + 1 := by simp [hN]
      have hfew := HC.out.few hW
      have hNb : N ≤ 100000 := by simp at hfew; omega
      rw [hlen] at HC hlc
      have hcell := HC.out.pr.cell (j := N) (b := c d) (by simp [← hN])
      have hcut := HC.out.pr.cut (k := N) (by omega)
      have htk : ((S1 ++ [d]).map c).take N = S1.map c := by rw [← hN, List.map_append, List.take_left' (by simp)]
      rw [htk] at hcut
      obtain ⟨hdL, hdk, hdD, -⟩ := HC.out.sub d (by simp)
      have hsnd := HC.out.snd
      rw [List.nodup_append] at hsnd
      have hdS : d ∉ S1 := fun e => hsnd.2.2 d e d (by simp) rfl
      obtain ⟨p, hp⟩ := HC.out.live d hdL
      have HC1 := Lib.hid (show CS w (wr.setCell ⟨w.heap.size + 2, 0, none⟩ (.slice (some ⟨g, 0, none⟩) N cc)) K T ad mb c nm L S1 Dn (fun m => m = d) (.slice (some ⟨g, 0, none⟩) N cc) from
        HC.out.queue (KeepRow.refl wr) HC.out.low hcut
          (fun n hn => by
            obtain ⟨a, b, e, -⟩ := HC.out.sub n (List.mem_append_left _ hn)
            exact ⟨a, b, e, fun f => hdS (f ▸ hn)⟩)
          (fun n hn f => hdD (f ▸ hn)) hsnd.1
          (fun n hn hk => by
            rcases HC.out.cover n hn hk with h2 | h2 | h2
            · exact .inl h2
            · rcases List.mem_append.1 h2 with h3 | h3
              · exact .inr (.inl h3)
              · exact .inr (.inr (by simpa using h3))
            · exact h2.elim))
      have d0 : wr.cell? ⟨w.heap.size + 1 + 1, 0, none⟩ = some (.slice (some ⟨g, 0, none⟩) (N + 1) cc) := HC.out.dbx.cell rfl
      have df : wr.frozen? ⟨w.heap.size + 1 + 1, 0, none⟩ = false := HC.out.dbx.free 0
      have hlow := Lib.hid HC1.out.low.size
      have HDL := Lib.hid hdL
      have HDK := Lib.hid hdk
      have HDD := Lib.hid hdD
      have HDS := Lib.hid hdS
      have HPD := Lib.hid hp
      clear hcut htk hsnd hdL hdk hdD hdS hp hlen hfew hN kc0 HC0 h01
      obtain ⟨WM, hWM⟩ : ∃ WM, (wr.setCell ⟨w.heap.size + 1 + 1, 0, none⟩ (.slice (some ⟨g, 0, none⟩) N cc)).alloc (.map #[] 0) = WM := ⟨_, rfl⟩
      have hszM : wr.heap.size + 1 = WM.heap.size := by rw [← hWM]; simp [World.setCell]
      have HCM := Lib.hid (show CS w WM K T ad mb c nm L S1 Dn (fun m => m = d) (.slice (some ⟨g, 0, none⟩) N cc) from by rw [← hWM]; exact HC1.out.later (below_new _ _))
      have hmapM := Lib.hid (show MapAt WM wr.heap.size 0 (fun _ => none) from by
        rw [← hWM]
        have := MapAt.made (wr.setCell ⟨w.heap.size + 1 + 1, 0, none⟩ (.slice (some ⟨g, 0, none⟩) N cc))
        simpa [World.setCell] using this)
      have hbig : w.heap.size + 2 < wr.heap.size := HC.out.dbx.lt
      have hnmM := Lib.hid (show ∀ n ∈ Dn, nm n ≠ wr.heap.size from fun n hn e => by
        obtain ⟨q, hq⟩ := HC.out.live n (HC.out.subd n hn).1
        have := (HC.out.done q n hq hn).2.1.lt
        omega)
      have kr := Lib.hid (rising_any WM (c d) (mb d) K (T.nd d) _ _ (by
        have := HCM.out.node d HDL.out
        unfold cnv at this
        rw [if_pos HDK.out, if_neg HDD.out] at this
        exact this) ((HCM.out.old hR).map p d HPD.out HDK.out).2 (by omega))
      have hMs : (wr.setCell ⟨w.heap.size + 1 + 1, 0, none⟩ (.slice (some ⟨g, 0, none⟩) N cc)).heap.size = wr.heap.size := by simp [World.setCell]
      go_wp2_with (go_at_call 100; rw [hWM])
      refine kr.out.mono ?_
      rintro e w2 ⟨vn, Lk, rfl, ⟨hL1, hL2⟩, ho, hb1⟩
      obtain ⟨An, cn, rfl, _, hlcn, hcmn⟩ := ho.rt
      go_wp2
      have HC2 := Lib.hid (HCM.out.later hb1)
      have HM2 := Lib.hid (hmapM.out.later hb1)
      have HO2 := Lib.hid (row_more ho (by omega : w.heap.size ≤ WM.heap.size))
      have HL2 := Lib.hid hL2
      have HL1 := Lib.hid hL1
      have hLkK := kids_len hW hK hL1 fun s hs => by have := ((hL2 s).1 hs).2; rwa [Option.isSome_map] at this
      obtain ⟨nb, hnb⟩ : ∃ nb, wr.heap.size = nb := ⟨_, rfl⟩
      rw [hnb] at HM2 hnmM hbig ⊢
      clear hL1 hL2 ho hb1 kr HC HC1 HCM hmapM d0 df hcell hMs hszM hWM
      go_loopw [34] (fun i W => ∃ (k : Nat) (c' : Nat → Nat) (L' S' : List Nat) (v' : Value), k ≤ Lk.length ∧ i = .int .i64 k ∧ Hid (CS w W K T ad mb c' nm L' S' Dn (fun m => m = d) v') ∧ Hid (0 ∈ L' ∧ c' 0 = C0 ∧ d ∈ L' ∧ c' d = c d) ∧ Hid (MapAt W nb k (tkf T p c' (Lk.take k))) ∧ Hid (OS W w.heap.size (.slice An Lk.length cn) Lk) ∧ Hid (∀ s ∈ Lk.take k, ∀ j, (p ++ [s], j) ∈ T.paths → j ∈ L')) (fun i _ => Lk.length - (intOf i).toNat)
      case atStart =>
        exact ⟨0, c, L, S1, _, Nat.zero_le _, rfl, HC2, Lib.hid ⟨H0.out, HCC.out, HDL.out, rfl⟩, Lib.hid (HM2.out.cong fun s _ => (tkf_not (by simp)).symm), HO2, Lib.hid (by simp)⟩
      case round =>
        obtain ⟨k, c', L', S', v', hk, rfl, HC, HB, HM, HO, HIN⟩ := hrel
        by_cases hlt : k < Lk.length
        · have hlt' : (k : Int) < Lk.length := by omega
          obtain ⟨b, x, rfl, hx, hcx⟩ := HO.out.rt13.at_ hlt
          have hxL := List.mem_of_getElem? hx
          have h6 := ((HL2.out x).1 hxL).2
          simp only [Option.isSome_map] at h6
          obtain ⟨j, hj⟩ := Option.isSome_iff_exists.1 h6
          have hnm := (hW.up _ _ _ (Nt.at_mem hj)).2.1
          have hxm : x.size ≤ maxLen := by have := Nt.nm_le hnm; unfold maxLen; omega
          obtain ⟨h0', hc0', hd', hcd'⟩ := HB.out
          have d7 : wr.cell? ⟨c d, 7, none⟩ = some (.map (some (mb d))) := by
            have := (HC.out.node d hd').cell (j := 7) (v := .map (cnv T mb nm Dn d)) rfl
            unfold cnv at this
            rw [if_pos HDK.out, if_neg HDD.out, hcd'] at this
            exact this
          have hlook := ((HC.out.old hR).map p d HPD.out HDK.out).2.look (s := x) hxm
          rw [hj] at hlook
          replace hlook : (Instr.lookup 106 (.map (some (mb d))) (.string x) false).run Tryz.prog wr = .ok (.pointer (some ⟨ad j, 0, none⟩)) wr := hlook
          have kc := Lib.hid (copied_any hW hK hR (Nt.at_mem hj) HC.out (fun m h => by rw [h]; exact hd'))
          have HX := Lib.hid hx
          have HJ := Lib.hid hj
          clear hx hj hnm h6 hxL
          clear HL1 HO2 HC2 HM2
          go_wp2_with (go_at_call 127; refine kc.out.mono ?_; rintro e w3 ⟨c3, L3, S3, v3, rfl, hc3, hj3, hk3, hkc⟩; obtain ⟨C3, hC3⟩ : ∃ C3, c3 j = C3 := ⟨_, rfl⟩; rw [hC3]; have hm3 := hkc.map HM.out (by omega) (by omega); obtain ⟨w4, hrun, hm4, ht4⟩ := hm3.put (s := x) (by unfold maxLen; omega) hxm C3; have HC3 := Lib.hid hc3; have HKC := Lib.hid hkc; have HK3 := Lib.hid hk3; have HM4 := Lib.hid hm4; have HT4 := Lib.hid ht4; have HJ3 := Lib.hid hj3; have HCC3 := Lib.hid hC3; clear hc3 hkc hk3 hm4 ht4 hj3 hC3)
          go_roundw
          case rel =>
            have htk : Lk.take (k + 1) = Lk.take k ++ [x] := by rw [List.take_add_one, HX.out]; rfl
            refine ⟨k + 1, c3, L3, S3, v3, by omega, by go_num, ?_, ?_, ?_, ?_, ?_⟩
            · exact Lib.hid (HC3.out.beside (mturn_oth HT4.out) (by omega) (by omega) (fun a U cs hx => hm3.ne_bx hx) hnmM.out)
            · exact Lib.hid ⟨(HK3.out 0 h0').1, by rw [(HK3.out 0 h0').2, hc0'], (HK3.out d hd').1, by rw [(HK3.out d hd').2, hcd']⟩
            · refine Lib.hid (HM4.out.cong fun s _ => ?_)
              rw [htk]
              by_cases e : s = x
              · subst e
                rw [if_pos rfl, tkf_mem (by simp), HJ.out, Option.map_some, HCC3.out]
              · rw [if_neg e]
                by_cases e2 : s ∈ Lk.take k
                · rw [tkf_mem e2, tkf_mem (List.mem_append_left _ e2)]
                  cases ha : at_ T.paths (p ++ [s]) with
                  | none => rfl
                  | some m => rw [Option.map_some, Option.map_some, (HK3.out m (HIN.out s e2 m (Nt.at_mem ha))).2]
                · rw [tkf_not e2, tkf_not fun e3 => (List.mem_append.1 e3).elim e2 fun e4 => e (by simpa using e4)]
            · exact Lib.hid (os_oth (HKC.out.os HO.out HC.out.pm HC.out.dbx) hm3 (mturn_oth HT4.out))
            · refine Lib.hid fun s hs m hm => ?_
              rw [htk] at hs
              rcases List.mem_append.1 hs with e | e
              · exact (HK3.out m (HIN.out s e m hm)).1
              · obtain rfl : s = x := by simpa using e
                rw [Nt.nodup_one hW.nodup hm (Nt.at_mem HJ.out)]
                exact HJ3.out
          case measure => simp [intOf]; omega
        · have e : k = Lk.length := by omega
          subst e
          obtain ⟨h0', hc0', hd', hcd'⟩ := HB.out
          have hnd := HC.out.node d hd'
          rw [hcd'] at hnd
          have f7 := hnd.free 7
          have c7 : wr.cell? ⟨c d, 7, none⟩ = some (.map (cnv T mb nm Dn d)) := hnd.cell rfl
          have hmem : ∀ s j, (p ++ [s], j) ∈ T.paths → s ∈ Lk := fun s j hj => (HL2.out s).2 ⟨by
            have := Nt.nm_le (hW.up _ _ _ hj).2.1
            unfold maxLen; omega, by
            rw [Option.isSome_map]
            rw [(Nt.at_iff hW.nodup).2 hj]
            rfl⟩
          have hfin := HC.out.finish hW (nb := nb) (fun _ => Iff.rfl) HPD.out hd' HDK.out HDD.out (fun f => (HC.out.sub d f).2.2.2 rfl) (by omega)
            ((HM.out.mono hLkK).cong fun s hs => by
              rw [List.take_length]
              by_cases e2 : s ∈ Lk
              · exact tkf_mem e2
              · rw [tkf_not e2]
                cases ha : at_ T.paths (p ++ [s]) with
                | none => rfl
                | some m => exact absurd (hmem s m (Nt.at_mem ha)) e2) hnmM.out
            (fun s j hj => HIN.out s (by rw [List.take_length]; exact hmem s j hj) j hj)
          rw [hcd'] at hfin
          have hdl := hfin.dlen hW
          have hg := HG.out
          rw [List.length_append] at hdl
          simp only [List.length_cons, List.length_nil] at hdl
          have HF := Lib.hid hfin
          clear hfin hnd
          go_wp2
          go_roundg (gk - 1)
          case measure => omega
          case rel => exact ⟨c', _, L', S', Dn ++ [d], v', HF, Lib.hid h0', Lib.hid hc0', Lib.hid (by rw [List.length_append]; simp only [List.length_cons, List.length_nil]; omega)⟩
end
end Go.Proofs.YthgbncpiehcghaaGreatDoor
/- WALKS OF LAYER 13, FOURTEENTH PART: Clear, Remove. -/
namespace Go.Proofs.YthgbncpiehcghaaGreatDoor
set_option linter.unusedVariables false
open Go Go.RowKit Go.Maps
set_option maxRecDepth 100000
set_option maxHeartbeats 1000000
open Nt (Tr Nd WF Ps Path at_ cnt used)
section
variable {F : Nat → Prop} {K tb : Nat} {w w' : World} {T : Tr} {ad mb : Nat → Nat}
theorem eqp_same (w : World) (a : Nat) : (binOp .eql 104 (.pointer (some ⟨a, 0, none⟩)) (.pointer (some ⟨a, 0, none⟩))).run Tryz.prog w = .ok (.bool true) w :=
  run_eql_ptr_same (te := 108) w _ Tryz.underlying104 rfl
theorem eqp_other {a b U V : Nat} {cs ds : Array Value} (h : BX w a U cs) (k : BX w b V ds) (hne : a ≠ b) : (binOp .eql 104 (.pointer (some ⟨a, 0, none⟩)) (.pointer (some ⟨b, 0, none⟩))).run Tryz.prog w = .ok (.bool false) w :=
  run_eql_ptr_other (te := 108) w Tryz.underlying104 rfl (by decide) (fun e => hne (by cases e; rfl)) h k
theorem RepP.eqp (h : RepP F K w tb T ad mb) {p q : Path} {n m : Nat} (hn : (p, n) ∈ T.paths) (hm : (q, m) ∈ T.paths) :
    (binOp .eql 104 (.pointer (some ⟨ad n, 0, none⟩)) (.pointer (some ⟨ad m, 0, none⟩))).run Tryz.prog w = .ok (.bool (decide (n = m))) w := by
  by_cases e : n = m
  · subst e
    rw [decide_eq_true rfl]
    exact eqp_same w _
  · rw [decide_eq_false e]
    exact eqp_other (h.node _ _ hn).1 (h.node _ _ hm).1 fun e2 => e (h.inj _ _ _ _ hn hm e2)
/-- A path that is there, and not the root's: its place. -/
theorem found_place (hW : WF T K) {p : ByteArray} {r : Int} (hc : (T.find p).2 = 0) (h0 : p.size ≠ 0) (hr : Pp.IsLast p p.size r) :
    T.parE p = 0 ∧ ∃ q y m, Pp.pieces p = q ++ [y] ∧ Pp.Nm y ∧ (q, m) ∈ T.paths ∧ (T.nd m).kind = 4 ∧ (T.fnd [] 0 (Pp.pieces p).dropLast).1 = m ∧ baseS p r = y ∧ (Pp.pieces p, (T.find p).1) ∈ T.paths := by
  obtain ⟨h1, h2⟩ := hW.find_ok hc
  have h1 : Nt.isP p = true := h1.resolve_left h0
  rw [Nt.nms_isP h1] at h2
  have e1 := base_last hr
  obtain ⟨q, hq⟩ : ∃ q, (Pp.pieces p).dropLast = q := ⟨_, rfl⟩
  rw [hq] at e1
  rw [e1] at h2 ⊢
  obtain ⟨_, hy, m, hm, hk⟩ := hW.up _ _ _ h2
  have hf := (hW.fnd_some q [] 0 m hW.root).2 hm
  refine ⟨?_, q, baseS p r, m, rfl, hy, hm, hk, by rw [List.dropLast_concat, hf], rfl, h2⟩
  unfold Tr.parE
  rw [if_pos h1, hq, hf]
  simp [hk]
theorem clear_any (hW : WF T K) (hK : K ≤ 100000) (hR : RepP F K w tb T ad mb) (p : ByteArray) (hp : p.size ≤ 1000000) :
    Calls Tryz.prog 62 #[.pointer (some ⟨tb, 0, none⟩), .string p] w fun e w' => Done F K w w' tb (T.clr p) e := by
  obtain ⟨r, hr⟩ := Pp.last_ex p p.size (Nat.le_refl _)
  have HR := Lib.hid hR
  have kf := Lib.hid (fun W (h : RepP F K W tb T ad mb) => find_any hW h p hp)
  have ko := Lib.hid (fun W (h : RepP F K W tb T ad mb) => placeOf_any hW h p hp r hr)
  by_cases hc : (T.find p).2 = 0
  · have hj := (hW.find_ok hc).2
    have hfd : T.find p = ((T.find p).1, 0) := by rw [← hc]
    have hroot := hW.find_root hc
    by_cases h0 : p.size = 0
    · have hE : T.clr p = (T, 1) := by
        have : T.clrE p = 1 := by unfold Tr.clrE; rw [if_neg (by simp [hc]), if_pos h0]
        unfold Tr.clr
        rw [this, if_neg (by decide)]
      rw [hE]
      rw [hroot.2 h0] at hfd hj
      rw [hfd] at kf
      simp only [fv, if_pos, ptrv] at kf
      have kq := Lib.hid (fun W (h : RepP F K W tb T ad mb) => eqp_same W (ad 0))
      have kt := Lib.hid (fun W (h : RepP F K W tb T ad mb) => show W.cell? ⟨tb, 0, none⟩ = some (.pointer (some ⟨ad 0, 0, none⟩)) from h.tree.cell rfl)
      clear hE hroot hfd hc
      go_enter Tryz.func62, Tryz.ntmps62
      go_wp2_with (go_at_call 69; refine (kf.out _ HR.out).mono ?_; rintro e w1 ⟨rfl, hb1⟩; have t0 := kt.out w1 (HR.out.later hb1); have eq0 := kq.out w1 (HR.out.later hb1))
      go_ret
      exact Done.err HR.out hb1 1
    · obtain ⟨hpe, q, y, m, e1, hy, hm, hk, e2, e3, hn⟩ := found_place hW hc h0 hr
      have hE : T.clr p = (T.clr1 (q ++ [y]), 0) := by
        have : T.clrE p = 0 := by unfold Tr.clrE; rw [if_neg (by simp [hc]), if_neg h0]
        unfold Tr.clr
        rw [this, if_pos rfl, e1]
      rw [hE]
      rw [e2, e3, hpe] at ko
      have hn0 : (T.find p).1 ≠ 0 := fun e => h0 (hroot.1 e)
      rw [hfd] at kf
      rw [e1] at hn
      generalize (T.find p).1 = n at *
      simp only [fv, if_pos, ptrv] at kf
      have kq := Lib.hid (fun W (h : RepP F K W tb T ad mb) => show (binOp .eql 104 (.pointer (some ⟨ad n, 0, none⟩)) (.pointer (some ⟨ad 0, 0, none⟩))).run Tryz.prog W = .ok (.bool false) W from by
        have := h.eqp hn hW.root
        rw [decide_eq_false hn0] at this
        exact this)
      have kt := Lib.hid (fun W (h : RepP F K W tb T ad mb) => show W.cell? ⟨tb, 0, none⟩ = some (.pointer (some ⟨ad 0, 0, none⟩)) from h.tree.cell rfl)
      have kc := Lib.hid (fun W (h : RepP F K W tb T ad mb) => pclear_any W (ad m) (mb m) K (T.nd m) _ _ y (h.dir hm hk) (h.map _ _ hm hk).2 (by have := Nt.nm_le hy; unfold maxLen; omega))
      have kd := Lib.hid (fun W V (h : RepP F K W tb T ad mb) (ho : Oth (mb m) W V) => drop_any (w := V) hW hK hn (by simp) (h.ds_oth hm hk ho) h.inj (fun d j hd hkd hu => (h.map d j hd hkd).2.oth ho fun e4 => by
        have e5 := h.minj _ _ _ _ hd hm hkd hk e4
        subst e5
        obtain rfl : d = q := hW.one _ _ _ hd hm (by rw [hk]; decide)
        have := hu.length_le
        simp at this
        omega))
      clear hE hroot hfd hc h0 hpe e1 e2 e3 hj
      go_enter Tryz.func62, Tryz.ntmps62
      go_wp2_with (first
        | (go_at_call 69; refine (kf.out _ HR.out).mono ?_; rintro e w1 ⟨rfl, hb1⟩; have hR1 := Lib.hid (HR.out.later hb1); have t0 := kt.out w1 hR1.out; have eq0 := kq.out w1 hR1.out)
        | (go_at_call 89; refine (ko.out _ hR1.out).mono ?_; rintro e w2 ⟨⟨v, rfl, hv, _⟩, hb2⟩; obtain rfl := hv (by simp); have hR2 := Lib.hid ((hR1.out.later hb2).later (below_new w2 (.cells #[.pointer (some ⟨ad m, 0, none⟩), .string y] 159))))
        | (go_at_call 92; refine (kc.out _ hR2.out).mono ?_; rintro e w3 ⟨rfl, hm3, ho3⟩)
        | (go_at_call 94; refine (kd.out _ _ hR2.out ho3).mono ?_; rintro e w4 ⟨rfl, hd4⟩))
      go_ret
      have hB := bthen (bthen hb1 hb2) (below_new w2 (.cells #[.pointer (some ⟨ad m, 0, none⟩), .string y] 159))
      refine ⟨rfl, ⟨ad, mb, (hR2.out.cleared hW hm hk (hm3.cong fun s _ => ?_) ho3 hd4).weak (Grow.self F _ _) (by omega)⟩, Keep.fresh hB ((Keep.ofOth (F := fun k => F k) ho3 (hR.map _ _ hm hk).1).trans (hd4.keep.weak ?_)) fun _ _ h => h⟩
      · rfl
      · rintro k (rfl | ⟨a, b, h1, rfl⟩)
        · exact hR.ftree
        · exact (hR.node _ _ h1).2
  · have hE : T.clr p = (T, (T.find p).2) := by
      have : T.clrE p = (T.find p).2 := by unfold Tr.clrE; rw [if_pos hc]
      unfold Tr.clr
      rw [this, if_neg hc]
    rw [hE]
    generalize T.find p = x at *
    obtain ⟨j, z⟩ := x
    simp only at hc kf ⊢
    simp only [fv, if_neg hc, ptrv] at kf
    have g : (z != 0) = true := by simp [hc]
    clear hE hc
    go_enter Tryz.func62, Tryz.ntmps62
    go_wp2_with (go_at_call 69; refine (kf.out _ HR.out).mono ?_; rintro e w1 ⟨rfl, hb1⟩)
    go_ret
    exact Done.err HR.out hb1 z
theorem Done.pre {W : World} {r : Tr × Int} {e : Ending} (hb : Below w.heap.size w W) (h : Done F K W w' tb r e) : Done F K w w' tb r e := by
  obtain ⟨h1, h2, h3⟩ := h
  refine ⟨h1, h2.weak (fun k hk => ?_) (Nat.le_refl _), Keep.fresh hb h3 fun _ _ h => h⟩
  rcases hk with h | ⟨h4, h5⟩
  · exact .inl h
  · exact .inr ⟨Nat.le_trans hb.size h4, h5⟩
theorem noKids_iff {R : Ps} {p : Path} : Nt.noKids R p = true ↔ ∀ s n, (p ++ [s], n) ∉ R := by
  unfold Nt.noKids
  rw [List.all_eq_true]
  constructor
  · intro h s n hm
    have := h _ hm
    simp at this
  · rintro h ⟨a, n⟩ hm
    simp only [decide_eq_true_eq]
    rintro ⟨h1, h2⟩
    rw [← List.dropLast_concat_getLast h1, h2] at hm
    exact h _ _ hm
/-- How many names a node has. -/
theorem RepP.len (hR : RepP F K w tb T ad mb) (hW : WF T K) {q : Path} {n : Nat} (hq : (q, n) ∈ T.paths) (ty : TypeId) :
    ∃ k : Nat, (Builtin.len_ #[106] ty #[.map (mbv T mb n)]).run Tryz.prog w = .ok (.int .i64 k) w ∧ (k = 0 ↔ Nt.noKids T.paths q = true) := by
  by_cases hk : (T.nd n).kind = 4
  · have e : mbv T mb n = some (mb n) := by unfold mbv; rw [if_pos hk]
    rw [e]
    obtain ⟨k, h1, h2⟩ := (hR.map _ _ hq hk).2.len ty
    refine ⟨k, h1, h2.trans ?_⟩
    rw [noKids_iff]
    constructor
    · intro h s j hj
      have := h s (by have := Nt.nm_le (hW.up _ _ _ hj).2.1; unfold maxLen; omega)
      rw [hW.atI.2 hj] at this
      cases this
    · intro h s _
      cases ha : at_ T.paths (q ++ [s]) with
      | none => rfl
      | some j => exact absurd (Nt.at_mem ha) (h s j)
  · have e : mbv T mb n = none := by unfold mbv; rw [if_neg hk]
    rw [e]
    refine ⟨0, Maps.len_nil Tryz.underlying106 ty, ?_⟩
    rw [noKids_iff]
    refine ⟨fun _ s j hj => ?_, fun _ => rfl⟩
    obtain ⟨_, _, m, h5, h6⟩ := hW.up q s j hj
    rw [Nt.nodup_one hW.nodup hq h5] at hk
    exact absurd h6 hk
theorem remove_any (hW : WF T K) (hK : K ≤ 100000) (hR : RepP F K w tb T ad mb) (p : ByteArray) (hp : p.size ≤ 1000000) :
    Calls Tryz.prog 51 #[.pointer (some ⟨tb, 0, none⟩), .string p] w fun e w' => Done F K w w' tb (T.rm p) e := by
  have HR := Lib.hid hR
  have kf := Lib.hid (fun W (h : RepP F K W tb T ad mb) => find_any hW h p hp)
  have kl := Lib.hid (fun W (h : RepP F K W tb T ad mb) => clear_any hW hK h p hp)
  by_cases hc : (T.find p).2 = 0
  · have hj := (hW.find_ok hc).2
    have hfd : T.find p = ((T.find p).1, 0) := by rw [← hc]
    have hroot := hW.find_root hc
    by_cases h0 : p.size = 0
    · have hE : T.rm p = (T, 1) := by
        have h1 : T.clrE p = 1 := by unfold Tr.clrE; rw [if_neg (by simp [hc]), if_pos h0]
        have : T.rmE p = 1 := by unfold Tr.rmE; rw [h1, if_pos (by decide)]
        unfold Tr.rm
        rw [this, if_neg (by decide)]
      rw [hE]
      rw [hroot.2 h0] at hfd hj
      rw [hfd] at kf
      simp only [fv, if_pos, ptrv] at kf
      have kq := Lib.hid (fun W (h : RepP F K W tb T ad mb) => eqp_same W (ad 0))
      have kt := Lib.hid (fun W (h : RepP F K W tb T ad mb) => show W.cell? ⟨tb, 0, none⟩ = some (.pointer (some ⟨ad 0, 0, none⟩)) from h.tree.cell rfl)
      clear hE hroot hfd hc
      go_enter Tryz.func51, Tryz.ntmps51
      go_wp2_with (go_at_call 69; refine (kf.out _ HR.out).mono ?_; rintro e w1 ⟨rfl, hb1⟩; have t0 := kt.out w1 (HR.out.later hb1); have eq0 := kq.out w1 (HR.out.later hb1))
      go_ret
      exact Done.err HR.out hb1 1
    · have hce : T.clrE p = 0 := by unfold Tr.clrE; rw [if_neg (by simp [hc]), if_neg h0]
      have hn0 : (T.find p).1 ≠ 0 := fun e => h0 (hroot.1 e)
      have hE : T.rm p = if Nt.noKids T.paths (Nt.nms p) = false then (T, 18) else T.clr p := by
        have h2 : T.rmE p = if Nt.noKids T.paths (Nt.nms p) = false then 18 else 0 := by unfold Tr.rmE; rw [if_neg (by simp [hce])]
        unfold Tr.rm Tr.clr
        rw [h2, hce]
        by_cases h : Nt.noKids T.paths (Nt.nms p) = false
        · rw [if_pos h, if_pos h, if_neg (by decide)]
        · rw [if_neg h, if_neg h, if_pos rfl]
      rw [hE]
      rw [hfd] at kf
      generalize (T.find p).1 = n at *
      simp only [fv, if_pos, ptrv] at kf
      have kq := Lib.hid (fun W (h : RepP F K W tb T ad mb) => show (binOp .eql 104 (.pointer (some ⟨ad n, 0, none⟩)) (.pointer (some ⟨ad 0, 0, none⟩))).run Tryz.prog W = .ok (.bool false) W from by
        have := h.eqp hj hW.root
        rw [decide_eq_false hn0] at this
        exact this)
      have kt := Lib.hid (fun W (h : RepP F K W tb T ad mb) => show W.cell? ⟨tb, 0, none⟩ = some (.pointer (some ⟨ad 0, 0, none⟩)) from h.tree.cell rfl)
      have k7 := Lib.hid (fun W (h : RepP F K W tb T ad mb) => show W.cell? ⟨ad n, 7, none⟩ = some (.map (mbv T mb n)) from (h.node _ _ hj).1.cell rfl)
      have kn := Lib.hid (fun W (h : RepP F K W tb T ad mb) => h.len hW hj 3)
      generalize mbv T mb n = mv at *
      by_cases hnk : Nt.noKids T.paths (Nt.nms p) = true
      · rw [if_neg (by simp [hnk])]
        have knz := Lib.hid (fun W (h : RepP F K W tb T ad mb) => show (Builtin.len_ #[106] 3 #[.map mv]).run Tryz.prog W = .ok (.int .i64 0) W from by
          obtain ⟨k, h1, h2⟩ := kn.out W h
          rw [h2.2 hnk] at h1
          exact h1)
        clear hE hroot hfd hc h0 hce hn0 hnk
        go_enter Tryz.func51, Tryz.ntmps51
        go_wp2_with (first
          | (go_at_call 69; refine (kf.out _ HR.out).mono ?_; rintro e w1 ⟨rfl, hb1⟩; have hR1 := Lib.hid (HR.out.later hb1); have t0 := kt.out w1 hR1.out; have eq0 := kq.out w1 hR1.out; have t7 := k7.out w1 hR1.out; have ln := knz.out w1 hR1.out)
          | (go_at_call 62; refine (kl.out _ hR1.out).mono ?_; rintro e w2 ⟨rfl, hd1, hd2⟩))
        go_ret
        exact Done.pre hb1 ⟨rfl, hd1, hd2⟩
      · have hnk' : Nt.noKids T.paths (Nt.nms p) = false := by cases h : Nt.noKids T.paths (Nt.nms p) with | false => rfl | true => exact absurd h hnk
        rw [if_pos hnk']
        have knz := Lib.hid (fun W (h : RepP F K W tb T ad mb) => show ∃ k : Nat, (Builtin.len_ #[106] 3 #[.map mv]).run Tryz.prog W = .ok (.int .i64 k) W ∧ (0 : Int) < k from by
          obtain ⟨k, h1, h2⟩ := kn.out W h
          refine ⟨k, h1, ?_⟩
          have : k ≠ 0 := fun e => hnk (h2.1 e)
          omega)
        clear hE hroot hfd hc h0 hce hn0 hnk hnk'
        go_enter Tryz.func51, Tryz.ntmps51
        go_wp2_with (first
          | (go_at_call 69; refine (kf.out _ HR.out).mono ?_; rintro e w1 ⟨rfl, hb1⟩; have hR1 := Lib.hid (HR.out.later hb1); have t0 := kt.out w1 hR1.out; have eq0 := kq.out w1 hR1.out; have t7 := k7.out w1 hR1.out; obtain ⟨kk, ln, lz⟩ := knz.out w1 hR1.out))
        go_ret
        exact Done.err HR.out hb1 18
  · have hE : T.rm p = (T, (T.find p).2) := by
      have h1 : T.clrE p = (T.find p).2 := by unfold Tr.clrE; rw [if_pos hc]
      have : T.rmE p = (T.find p).2 := by unfold Tr.rmE; rw [h1, if_pos hc]
      unfold Tr.rm
      rw [this, if_neg hc]
    rw [hE]
    generalize T.find p = x at *
    obtain ⟨j, z⟩ := x
    simp only at hc kf ⊢
    simp only [fv, if_neg hc, ptrv] at kf
    have g : (z != 0) = true := by simp [hc]
    clear hE hc
    go_enter Tryz.func51, Tryz.ntmps51
    go_wp2_with (go_at_call 69; refine (kf.out _ HR.out).mono ?_; rintro e w1 ⟨rfl, hb1⟩)
    go_ret
    exact Done.err HR.out hb1 z
end
end Go.Proofs.YthgbncpiehcghaaGreatDoor
/- WALKS OF LAYER 13, FIFTEENTH PART: Rename. -/
namespace Go.Proofs.YthgbncpiehcghaaGreatDoor
set_option linter.unusedVariables false
open Go Go.RowKit Go.Maps
set_option maxRecDepth 100000
set_option maxHeartbeats 16000000
open Nt (Tr Nd WF Ps Path at_ cnt used)
section
variable {F : Nat → Prop} {K tb : Nat} {w w' : World} {T : Tr} {ad mb : Nat → Nat}
theorem eqp_nil (w : World) (a : Nat) : (binOp .eql 104 (.pointer none) (.pointer (some ⟨a, 0, none⟩))).run Tryz.prog w = .ok (.bool false) w := by
  have h : ∀ d : Nat, (Op.equalIn (d + 1) 104 (.pointer none) (.pointer (some ⟨a, 0, none⟩))).run Tryz.prog w = .ok false w := fun d => by
    simp [Op.equalIn, run_underlying Tryz.underlying104]
  simp only [binOp]
  simp [Op.equal, Op.maxDepth, h 9999]
theorem rename_any (hW : WF T K) (hK : K ≤ 100000) (hR : RepP F K w tb T ad mb) (f t : ByteArray) (hp : f.size ≤ 100000) (hp2 : t.size ≤ 100000) :
    Calls Tryz.prog 42 #[.pointer (some ⟨tb, 0, none⟩), .string f, .string t] w fun e w' => Done F K w w' tb (T.rn f t) e := by
  obtain ⟨rf, hrf⟩ := Pp.last_ex f f.size (Nat.le_refl _)
  obtain ⟨rt, hrt⟩ := Pp.last_ex t t.size (Nat.le_refl _)
  have HR := Lib.hid hR
  have kf := Lib.hid (fun W (h : RepP F K W tb T ad mb) => find_any hW h f (by omega))
  have kto := Lib.hid (fun W (h : RepP F K W tb T ad mb) => placeOf_any hW h t (by omega) rt hrt)
  have kfo := Lib.hid (fun W (h : RepP F K W tb T ad mb) => placeOf_any hW h f (by omega) rf hrf)
  have ku := Lib.hid (fun W => under_any t f W (by omega) hp)
  have kt := Lib.hid (fun W (h : RepP F K W tb T ad mb) => show W.cell? ⟨tb, 0, none⟩ = some (.pointer (some ⟨ad 0, 0, none⟩)) from h.tree.cell rfl)
  have hrn : T.rn f t = if T.rnE f t = 0 then (T.rn1 (Pp.pieces f) (Pp.pieces t), 0) else if T.rnE f t = -1 then (T, 0) else (T, T.rnE f t) := rfl
  rw [hrn]
  clear hrn
  by_cases hc : (T.find f).2 = 0
  · have hj := (hW.find_ok hc).2
    have hfd : T.find f = ((T.find f).1, 0) := by rw [← hc]
    have hroot := hW.find_root hc
    by_cases h0 : f.size = 0
    · have hE : T.rnE f t = 1 := by unfold Tr.rnE; rw [if_neg (by simp [hc]), if_pos (hroot.2 h0)]
      rw [hE, if_neg (by decide), if_neg (by decide)]
      rw [hroot.2 h0] at hfd hj
      rw [hfd] at kf
      simp only [fv, if_pos, ptrv] at kf
      have kq := Lib.hid (fun W (h : RepP F K W tb T ad mb) => eqp_same W (ad 0))
      clear hE hroot hfd hc
      go_enter Tryz.func42, Tryz.ntmps42
      go_wp2_with (go_at_call 69; refine (kf.out _ HR.out).mono ?_; rintro e w1 ⟨rfl, hb1⟩; have hR1 := Lib.hid (HR.out.later hb1); have t0 := kt.out w1 hR1.out; have eq0 := kq.out w1 hR1.out)
      go_ret
      exact Done.err HR.out hb1 1
    · obtain ⟨hpe, qf, yf, mf, e1, hyf, hmf, hkf, e2, e3, hn⟩ := found_place hW hc h0 hrf
      have hn0 : (T.find f).1 ≠ 0 := fun e => h0 (hroot.1 e)
      have hEE : T.rnE f t = if T.parE t ≠ 0 then T.parE t else match at_ T.paths (Pp.pieces t) with
          | some k => if k = (T.find f).1 then -1 else if (T.nd (T.find f).1).kind = 4 then 7 else if (T.nd k).kind = 4 then 13 else 0
          | none => if (T.nd (T.find f).1).kind = 4 then (if Pp.pieces f <+: Pp.pieces t then 1 else 0) else 0 := by
        unfold Tr.rnE
        rw [if_neg (by simp [hc]), if_neg hn0]
        rfl
      rw [e2, e3, hpe] at kfo
      rw [hfd] at kf
      rw [e1] at hn
      generalize (T.find f).1 = n at *
      simp only [fv, if_pos, ptrv] at kf
      have kq := Lib.hid (fun W (h : RepP F K W tb T ad mb) => show (binOp .eql 104 (.pointer (some ⟨ad n, 0, none⟩)) (.pointer (some ⟨ad 0, 0, none⟩))).run Tryz.prog W = .ok (.bool false) W from by
        have := h.eqp hn hW.root
        rw [decide_eq_false hn0] at this
        exact this)
      by_cases hpt : T.parE t = 0
      · obtain ⟨h1, q, x, m, e4, hx, hm, hk, e5⟩ := hW.par_ok hpt
        have e6 : baseS t rt = x := by
          have := base_last hrt
          rw [e4, List.dropLast_concat] at this
          simpa using (List.append_cancel_left this).symm
        rw [if_neg (by simp [hpt])] at hEE
        rw [hpt, e4, List.dropLast_concat, e5, e6] at kto
        have hfu : (restV t f).2 = true ↔ ∃ v, v ≠ [] ∧ Pp.pieces t = Pp.pieces f ++ v := Nt.rest_iff h0
        rw [e1, e4] at hEE hfu ⊢
        have hxl : x.size ≤ 60 := Nt.nm_le hx
        have hyl : yf.size ≤ 60 := Nt.nm_le hyf
        have kpn := Lib.hid (fun W (h : RepP F K W tb T ad mb) => pnode_any W (ad m) (mb m) K (T.nd m) _ _ x (h.dir hm hk) (h.map _ _ hm hk).2 (by unfold maxLen; omega))
        have kc := Lib.hid (fun W (h : RepP F K W tb T ad mb) => pclear_any W (ad mf) (mb mf) K (T.nd mf) _ _ yf (h.dir hmf hkf) (h.map _ _ hmf hkf).2 (by unfold maxLen; omega))
        have hM1 := Lib.hid (fun W V (h : RepP F K W tb T ad mb) (hm5 : MapAt V (mb mf) K (fun s => if s = yf then none else (at_ T.paths (qf ++ [s])).map ad)) (ho : Oth (mb mf) W V) => h.maps.turn h hW hmf hkf (Nat.le_refl _) (o := none) hm5 ho)
        have kp := Lib.hid (fun W V (h : RepP F K W tb T ad mb) (ho : Oth (mb mf) W V) (hM : MapsAt V K T ad mb (fun d s => if d ++ [s] = qf ++ [yf] then none else at_ T.paths (d ++ [s]))) => pput_any V (ad m) (mb m) K (ad n) (T.nd m) _ _ x ((h.dir hm hk).oth ho (h.ne_map hm hmf hkf)) (hM q m hm hk) (by omega) (by omega))
        have hM2 := Lib.hid (fun W V U (h : RepP F K W tb T ad mb) (ho : Oth (mb mf) W V) (hM : MapsAt V K T ad mb (fun d s => if d ++ [s] = qf ++ [yf] then none else at_ T.paths (d ++ [s]))) (hm6 : MapAt U (mb m) (K + 1) (fun s => if s = x then some (ad n) else ((if q ++ [s] = qf ++ [yf] then none else at_ T.paths (q ++ [s])) : Option Nat).map ad)) (ho6 : Oth (mb m) V U) => hM.turn h hW hm hk (Nat.le_succ K) (o := some n) hm6 ho6)
        have hDD := Lib.hid (fun W V U (h : RepP F K W tb T ad mb) (ho : Oth (mb mf) W V) (ho6 : Oth (mb m) V U) => show DS U U tb T ad mb T.paths from
          ⟨(h.tree.oth ho (h.tree_map hmf hkf)).oth ho6 (h.tree_map hm hk), fun p j hj => ((h.node p j hj).1.oth ho (h.ne_map hj hmf hkf)).oth ho6 (h.ne_map hj hm hk), Keep.refl _ _⟩)
        have hpn := Lib.hid (fun W (a : Nat) cs (h : RepP F K W tb T ad mb) (hx : BX W a 159 cs) => (h.map _ _ hmf hkf).2.ne_bx hx)
        obtain ⟨kn, hkn⟩ : ∃ kn, (T.nd n).kind = kn := ⟨_, rfl⟩
        have kk := Lib.hid (fun W (h : RepP F K W tb T ad mb) => show W.cell? ⟨ad n, 0, none⟩ = some (.int .i64 kn) from by rw [← hkn]; exact (h.node _ _ hn).1.cell rfl)
        cases ha : at_ T.paths (q ++ [x]) with
        | none =>
          rw [ha] at hEE kpn
          replace kpn : Hid (∀ W (h : RepP F K W tb T ad mb), Calls Tryz.prog 90 #[.agg #[.pointer (some ⟨ad m, 0, none⟩), .string x]] W fun e w' => e = .returned (.pointer none) ∧ Below W.heap.size W w') := kpn
          have hnob : ∀ r k, (r, k) ∈ T.paths → ¬ (q ++ [x]) <+: r := by
            rintro r k hr ⟨u, rfl⟩
            by_cases hu : u = []
            · subst hu
              rw [List.append_nil] at hr
              exact Nt.at_none ha _ hr
            · obtain ⟨j, h1, _⟩ := hW.pre u (q ++ [x]) k hu hr
              exact Nt.at_none ha _ h1
          have HN := Lib.hid hnob
          have kqn := Lib.hid (fun W => eqp_nil W (ad n))
          simp only at hEE
          by_cases hk4 : kn = 4
          · rw [if_pos (by rw [hkn]; exact hk4)] at hEE
            have g4 : (kn == 4) = true := by simp [hk4]
            by_cases hpre : (qf ++ [yf]) <+: (q ++ [x])
            · rw [if_pos hpre] at hEE
              have hE := hEE
              have hu : (restV t f).2 = true := by
                obtain ⟨v, hv⟩ := hpre
                refine hfu.2 ⟨v, fun e => ?_, hv.symm⟩
                subst e
                rw [List.append_nil] at hv
                rw [hv] at hn
                exact Nt.at_none ha _ hn
              rw [hu] at ku
              rw [hE, if_neg (by decide), if_neg (by decide)]
              clear hE hEE hroot hfd hc hn0 hpe hpt ha hnob hkn hk4 hfu hu hpre
              go_enter Tryz.func42, Tryz.ntmps42
              go_wp2_with (first
                        | (go_at_call 91; refine (ku.out _).mono ?_; rintro e w' ⟨rfl, rfl⟩)
                        | (go_at_call 90; refine (kpn.out _ hR2.out).mono ?_; rintro e w3 ⟨rfl, hb3⟩; have hR3 := Lib.hid (hR2.out.later hb3); have t1 := kk.out w3 hR3.out; have hpl := Lib.hid ((BX.new w2 159 #[.pointer (some ⟨ad m, 0, none⟩), .string x]).later hb3); have eqn := kqn.out w3)
                        | (go_at_call 89; refine (kto.out _ hR1.out).mono ?_; rintro e w2 ⟨⟨v, rfl, hv, _⟩, hb2⟩; obtain rfl := hv (by simp); have hR2 := Lib.hid ((hR1.out.later hb2).later (below_new w2 (.cells #[.pointer (some ⟨ad m, 0, none⟩), .string x] 159))))
                        | (go_at_call 69; refine (kf.out _ HR.out).mono ?_; rintro e w1 ⟨rfl, hb1⟩; have hR1 := Lib.hid (HR.out.later hb1); have t0 := kt.out w1 hR1.out; have eq0 := kq.out w1 hR1.out))
              go_ret
              exact Done.err HR.out (bthen (bthen (bthen hb1 hb2) (below_new w2 (.cells #[.pointer (some ⟨ad m, 0, none⟩), .string x] 159))) hb3) 1
            · rw [if_neg hpre] at hEE
              have hE := hEE
              have hu : (restV t f).2 = false := by
                cases h : (restV t f).2 with
                | false => rfl
                | true =>
                  obtain ⟨v, _, hv⟩ := hfu.1 h
                  exact absurd ⟨v, hv.symm⟩ hpre
              rw [hu] at ku
              have hV := Lib.hid (Nt.Mv.ok hW hn (by simp) rfl hx hm hk (fun k hk => by rw [ha] at hk; cases hk) (fun _ => hpre))
              rw [hE, if_pos rfl]
              clear hE hEE hroot hfd hc hn0 hpe hpt ha hnob hkn hk4 hfu hu hpre
              go_enter Tryz.func42, Tryz.ntmps42
              go_wp2_with (first
                        | (go_at_call 93; refine (kp.out _ _ hR4.out ho5 hM5.out).mono ?_; rintro e w6 ⟨rfl, hm6, ho6⟩)
                        | (go_at_call 92; refine (kc.out _ hR4.out).mono ?_; rintro e w5 ⟨rfl, hm5, ho5⟩; have hM5 := Lib.hid (hM1.out _ _ hR4.out hm5 ho5); have hp5 := Lib.hid (hp4.out.oth ho5 (hpn.out _ _ _ hR4.out hp4.out)); have p0 : w5.cell? ⟨w2.heap.size, 0, none⟩ = some (.pointer (some ⟨ad m, 0, none⟩)) := hp5.out.cell rfl; have p1 : w5.cell? ⟨w2.heap.size, 1, none⟩ = some (.string x) := hp5.out.cell rfl)
                        | (go_at_call 89; refine (kfo.out _ hR3.out).mono ?_; rintro e w4 ⟨⟨v, rfl, hv, _⟩, hb4⟩; obtain rfl := hv (by simp); have hR4 := Lib.hid ((hR3.out.later hb4).later (below_new w4 (.cells #[.pointer (some ⟨ad mf, 0, none⟩), .string yf] 159))); have hp4 := Lib.hid ((hpl.out.later hb4).later (below_new w4 (.cells #[.pointer (some ⟨ad mf, 0, none⟩), .string yf] 159))))
                        | (go_at_call 91; refine (ku.out _).mono ?_; rintro e w' ⟨rfl, rfl⟩)
                        | (go_at_call 90; refine (kpn.out _ hR2.out).mono ?_; rintro e w3 ⟨rfl, hb3⟩; have hR3 := Lib.hid (hR2.out.later hb3); have t1 := kk.out w3 hR3.out; have hpl := Lib.hid ((BX.new w2 159 #[.pointer (some ⟨ad m, 0, none⟩), .string x]).later hb3); have eqn := kqn.out w3)
                        | (go_at_call 89; refine (kto.out _ hR1.out).mono ?_; rintro e w2 ⟨⟨v, rfl, hv, _⟩, hb2⟩; obtain rfl := hv (by simp); have hR2 := Lib.hid ((hR1.out.later hb2).later (below_new w2 (.cells #[.pointer (some ⟨ad m, 0, none⟩), .string x] 159))))
                        | (go_at_call 69; refine (kf.out _ HR.out).mono ?_; rintro e w1 ⟨rfl, hb1⟩; have hR1 := Lib.hid (HR.out.later hb1); have t0 := kt.out w1 hR1.out; have eq0 := kq.out w1 hR1.out))
              go_ret
              have hB := bthen (bthen (bthen (bthen hb1 hb2) (below_new w2 (.cells #[.pointer (some ⟨ad m, 0, none⟩), .string x] 159))) hb3) (bthen hb4 (below_new w4 (.cells #[.pointer (some ⟨ad mf, 0, none⟩), .string yf] 159)))
              have hM6 := hM2.out _ _ _ hR4.out ho5 hM5.out hm6 ho6
              have hD6 := hDD.out _ _ _ hR4.out ho5 ho6
              have hK6 : Keep F _ w6 := (Keep.ofOth ho5 (hR.map _ _ hmf hkf).1).trans (Keep.ofOth ho6 (hR.map _ _ hm hk).1)
              have hcut : Nt.cut T.paths (q ++ [x]) = T.paths := List.filter_eq_self.2 fun z hz => by
                have : ¬ (q ++ [x]) <+: z.1 := fun h => HN.out _ _ hz h
                simpa using this
              refine ⟨rfl, ⟨ad, mb, (hR4.out.renamed (w2 := w6) hW hV.out hM6 (by rw [hcut]; exact hD6)).weak (Grow.self F _ _) (by omega)⟩, Keep.fresh hB hK6 fun _ _ h => h⟩
          · rw [if_neg (by rw [hkn]; exact hk4)] at hEE
            have hE := hEE
            have g4 : (kn == 4) = false := by simp [hk4]
            have hV := Lib.hid (Nt.Mv.ok hW hn (by simp) rfl hx hm hk (fun k hk => by rw [ha] at hk; cases hk) (fun h => absurd (hkn.symm.trans h) hk4))
            rw [hE, if_pos rfl]
            clear hE hEE hroot hfd hc hn0 hpe hpt ha hnob hkn hk4 hfu
            go_enter Tryz.func42, Tryz.ntmps42
            go_wp2_with (first
                      | (go_at_call 93; refine (kp.out _ _ hR4.out ho5 hM5.out).mono ?_; rintro e w6 ⟨rfl, hm6, ho6⟩)
                      | (go_at_call 92; refine (kc.out _ hR4.out).mono ?_; rintro e w5 ⟨rfl, hm5, ho5⟩; have hM5 := Lib.hid (hM1.out _ _ hR4.out hm5 ho5); have hp5 := Lib.hid (hp4.out.oth ho5 (hpn.out _ _ _ hR4.out hp4.out)); have p0 : w5.cell? ⟨w2.heap.size, 0, none⟩ = some (.pointer (some ⟨ad m, 0, none⟩)) := hp5.out.cell rfl; have p1 : w5.cell? ⟨w2.heap.size, 1, none⟩ = some (.string x) := hp5.out.cell rfl)
                      | (go_at_call 89; refine (kfo.out _ hR3.out).mono ?_; rintro e w4 ⟨⟨v, rfl, hv, _⟩, hb4⟩; obtain rfl := hv (by simp); have hR4 := Lib.hid ((hR3.out.later hb4).later (below_new w4 (.cells #[.pointer (some ⟨ad mf, 0, none⟩), .string yf] 159))); have hp4 := Lib.hid ((hpl.out.later hb4).later (below_new w4 (.cells #[.pointer (some ⟨ad mf, 0, none⟩), .string yf] 159))))
                      | (go_at_call 90; refine (kpn.out _ hR2.out).mono ?_; rintro e w3 ⟨rfl, hb3⟩; have hR3 := Lib.hid (hR2.out.later hb3); have t1 := kk.out w3 hR3.out; have hpl := Lib.hid ((BX.new w2 159 #[.pointer (some ⟨ad m, 0, none⟩), .string x]).later hb3); have eqn := kqn.out w3)
                      | (go_at_call 89; refine (kto.out _ hR1.out).mono ?_; rintro e w2 ⟨⟨v, rfl, hv, _⟩, hb2⟩; obtain rfl := hv (by simp); have hR2 := Lib.hid ((hR1.out.later hb2).later (below_new w2 (.cells #[.pointer (some ⟨ad m, 0, none⟩), .string x] 159))))
                      | (go_at_call 69; refine (kf.out _ HR.out).mono ?_; rintro e w1 ⟨rfl, hb1⟩; have hR1 := Lib.hid (HR.out.later hb1); have t0 := kt.out w1 hR1.out; have eq0 := kq.out w1 hR1.out))
            go_ret
            have hB := bthen (bthen (bthen (bthen hb1 hb2) (below_new w2 (.cells #[.pointer (some ⟨ad m, 0, none⟩), .string x] 159))) hb3) (bthen hb4 (below_new w4 (.cells #[.pointer (some ⟨ad mf, 0, none⟩), .string yf] 159)))
            have hM6 := hM2.out _ _ _ hR4.out ho5 hM5.out hm6 ho6
            have hD6 := hDD.out _ _ _ hR4.out ho5 ho6
            have hK6 : Keep F _ w6 := (Keep.ofOth ho5 (hR.map _ _ hmf hkf).1).trans (Keep.ofOth ho6 (hR.map _ _ hm hk).1)
            have hcut : Nt.cut T.paths (q ++ [x]) = T.paths := List.filter_eq_self.2 fun z hz => by
              have : ¬ (q ++ [x]) <+: z.1 := fun h => HN.out _ _ hz h
              simpa using this
            refine ⟨rfl, ⟨ad, mb, (hR4.out.renamed (w2 := w6) hW hV.out hM6 (by rw [hcut]; exact hD6)).weak (Grow.self F _ _) (by omega)⟩, Keep.fresh hB hK6 fun _ _ h => h⟩
        | some k =>
          have hkT := Nt.at_mem ha
          rw [ha] at hEE kpn
          replace kpn : Hid (∀ W (h : RepP F K W tb T ad mb), Calls Tryz.prog 90 #[.agg #[.pointer (some ⟨ad m, 0, none⟩), .string x]] W fun e w' => e = .returned (.pointer (some ⟨ad k, 0, none⟩)) ∧ Below W.heap.size W w') := kpn
          have kqn := Lib.hid (fun W (h : RepP F K W tb T ad mb) => h.eqp hkT hn)
          simp only at hEE
          by_cases hkn2 : k = n
          · rw [if_pos hkn2] at hEE
            rw [decide_eq_true hkn2] at kqn
            rw [hEE, if_neg (by decide), if_pos rfl]
            clear hEE hroot hfd hc hn0 hpe hpt ha hkn hkn2 hfu
            go_enter Tryz.func42, Tryz.ntmps42
            go_wp2_with (first
          | (go_at_call 90; refine (kpn.out _ hR2.out).mono ?_; rintro e w3 ⟨rfl, hb3⟩; have hR3 := Lib.hid (hR2.out.later hb3); have t1 := kk.out w3 hR3.out; have hpl := Lib.hid ((BX.new w2 159 #[.pointer (some ⟨ad m, 0, none⟩), .string x]).later hb3); have eqn := kqn.out w3 hR3.out)
          | (go_at_call 89; refine (kto.out _ hR1.out).mono ?_; rintro e w2 ⟨⟨v, rfl, hv, _⟩, hb2⟩; obtain rfl := hv (by simp); have hR2 := Lib.hid ((hR1.out.later hb2).later (below_new w2 (.cells #[.pointer (some ⟨ad m, 0, none⟩), .string x] 159))))
          | (go_at_call 69; refine (kf.out _ HR.out).mono ?_; rintro e w1 ⟨rfl, hb1⟩; have hR1 := Lib.hid (HR.out.later hb1); have t0 := kt.out w1 hR1.out; have eq0 := kq.out w1 hR1.out))
            go_ret
            exact Done.err HR.out (bthen (bthen (bthen hb1 hb2) (below_new w2 (.cells #[.pointer (some ⟨ad m, 0, none⟩), .string x] 159))) hb3) 0
          · rw [if_neg hkn2] at hEE
            rw [decide_eq_false hkn2] at kqn
            by_cases hk4 : kn = 4
            · rw [if_pos (by rw [hkn]; exact hk4)] at hEE
              have hE := hEE
              have g4 : (kn == 4) = true := by simp [hk4]
              rw [hE, if_neg (by decide), if_neg (by decide)]
              clear hE hEE hroot hfd hc hn0 hpe hpt ha hkn hk4 hkn2 hfu
              go_enter Tryz.func42, Tryz.ntmps42
              go_wp2_with (first
                        | (go_at_call 90; refine (kpn.out _ hR2.out).mono ?_; rintro e w3 ⟨rfl, hb3⟩; have hR3 := Lib.hid (hR2.out.later hb3); have t1 := kk.out w3 hR3.out; have hpl := Lib.hid ((BX.new w2 159 #[.pointer (some ⟨ad m, 0, none⟩), .string x]).later hb3); have eqn := kqn.out w3 hR3.out)
                        | (go_at_call 89; refine (kto.out _ hR1.out).mono ?_; rintro e w2 ⟨⟨v, rfl, hv, _⟩, hb2⟩; obtain rfl := hv (by simp); have hR2 := Lib.hid ((hR1.out.later hb2).later (below_new w2 (.cells #[.pointer (some ⟨ad m, 0, none⟩), .string x] 159))))
                        | (go_at_call 69; refine (kf.out _ HR.out).mono ?_; rintro e w1 ⟨rfl, hb1⟩; have hR1 := Lib.hid (HR.out.later hb1); have t0 := kt.out w1 hR1.out; have eq0 := kq.out w1 hR1.out))
              go_ret
              exact Done.err HR.out (bthen (bthen (bthen hb1 hb2) (below_new w2 (.cells #[.pointer (some ⟨ad m, 0, none⟩), .string x] 159))) hb3) 7
            · rw [if_neg (by rw [hkn]; exact hk4)] at hEE
              have g4 : (kn == 4) = false := by simp [hk4]
              obtain ⟨kb, hkb⟩ : ∃ kb, (T.nd k).kind = kb := ⟨_, rfl⟩
              have kkb := Lib.hid (fun W (h : RepP F K W tb T ad mb) => show W.cell? ⟨ad k, 0, none⟩ = some (.int .i64 kb) from by rw [← hkb]; exact (h.node _ _ hkT).1.cell rfl)
              by_cases hk5 : kb = 4
              · rw [if_pos (by rw [hkb]; exact hk5)] at hEE
                have hE := hEE
                have g5 : (kb == 4) = true := by simp [hk5]
                rw [hE, if_neg (by decide), if_neg (by decide)]
                clear hE hEE hroot hfd hc hn0 hpe hpt ha hkn hk4 hkn2 hfu hkb hk5
                go_enter Tryz.func42, Tryz.ntmps42
                go_wp2_with (first
                          | (go_at_call 90; refine (kpn.out _ hR2.out).mono ?_; rintro e w3 ⟨rfl, hb3⟩; have hR3 := Lib.hid (hR2.out.later hb3); have t1 := kk.out w3 hR3.out; have hpl := Lib.hid ((BX.new w2 159 #[.pointer (some ⟨ad m, 0, none⟩), .string x]).later hb3); have eqn := kqn.out w3 hR3.out; have t2 := kkb.out w3 hR3.out)
                          | (go_at_call 89; refine (kto.out _ hR1.out).mono ?_; rintro e w2 ⟨⟨v, rfl, hv, _⟩, hb2⟩; obtain rfl := hv (by simp); have hR2 := Lib.hid ((hR1.out.later hb2).later (below_new w2 (.cells #[.pointer (some ⟨ad m, 0, none⟩), .string x] 159))))
                          | (go_at_call 69; refine (kf.out _ HR.out).mono ?_; rintro e w1 ⟨rfl, hb1⟩; have hR1 := Lib.hid (HR.out.later hb1); have t0 := kt.out w1 hR1.out; have eq0 := kq.out w1 hR1.out))
                go_ret
                exact Done.err HR.out (bthen (bthen (bthen hb1 hb2) (below_new w2 (.cells #[.pointer (some ⟨ad m, 0, none⟩), .string x] 159))) hb3) 13
              · rw [if_neg (by rw [hkb]; exact hk5)] at hEE
                have hE := hEE
                have g5 : (kb == 4) = false := by simp [hk5]
                have hV := Lib.hid (Nt.Mv.ok hW hn (by simp) rfl hx hm hk (fun j hj => by rw [ha] at hj; cases hj; exact ⟨hkn2, by rw [hkn]; exact hk4, by rw [hkb]; exact hk5⟩) (fun h => absurd (hkn.symm.trans h) hk4))
                have kd := Lib.hid (fun W V U (h : RepP F K W tb T ad mb) (ho : Oth (mb mf) W V) (ho6 : Oth (mb m) V U) => drop_any (w := U) hW hK hkT (by simp) (hDD.out W V U h ho ho6) h.inj (fun d j hd hkd hu => absurd hkd (hV.out.leaf d j hd hu).2.2))
                rw [hE, if_pos rfl]
                clear hE hEE hroot hfd hc hn0 hpe hpt ha hkn hk4 hkn2 hfu hkb hk5
                go_enter Tryz.func42, Tryz.ntmps42
                go_wp2_with (first
                          | (go_at_call 94; refine (kd.out _ _ _ hR4.out ho5 ho6).mono ?_; rintro e w7 ⟨rfl, hd7⟩)
                          | (go_at_call 93; refine (kp.out _ _ hR4.out ho5 hM5.out).mono ?_; rintro e w6 ⟨rfl, hm6, ho6⟩)
                          | (go_at_call 92; refine (kc.out _ hR4.out).mono ?_; rintro e w5 ⟨rfl, hm5, ho5⟩; have hM5 := Lib.hid (hM1.out _ _ hR4.out hm5 ho5); have hp5 := Lib.hid (hp4.out.oth ho5 (hpn.out _ _ _ hR4.out hp4.out)); have p0 : w5.cell? ⟨w2.heap.size, 0, none⟩ = some (.pointer (some ⟨ad m, 0, none⟩)) := hp5.out.cell rfl; have p1 : w5.cell? ⟨w2.heap.size, 1, none⟩ = some (.string x) := hp5.out.cell rfl)
                          | (go_at_call 89; refine (kfo.out _ hR3.out).mono ?_; rintro e w4 ⟨⟨v, rfl, hv, _⟩, hb4⟩; obtain rfl := hv (by simp); have hR4 := Lib.hid ((hR3.out.later hb4).later (below_new w4 (.cells #[.pointer (some ⟨ad mf, 0, none⟩), .string yf] 159))); have hp4 := Lib.hid ((hpl.out.later hb4).later (below_new w4 (.cells #[.pointer (some ⟨ad mf, 0, none⟩), .string yf] 159))))
                          | (go_at_call 90; refine (kpn.out _ hR2.out).mono ?_; rintro e w3 ⟨rfl, hb3⟩; have hR3 := Lib.hid (hR2.out.later hb3); have t1 := kk.out w3 hR3.out; have hpl := Lib.hid ((BX.new w2 159 #[.pointer (some ⟨ad m, 0, none⟩), .string x]).later hb3); have eqn := kqn.out w3 hR3.out; have t2 := kkb.out w3 hR3.out)
                          | (go_at_call 89; refine (kto.out _ hR1.out).mono ?_; rintro e w2 ⟨⟨v, rfl, hv, _⟩, hb2⟩; obtain rfl := hv (by simp); have hR2 := Lib.hid ((hR1.out.later hb2).later (below_new w2 (.cells #[.pointer (some ⟨ad m, 0, none⟩), .string x] 159))))
                          | (go_at_call 69; refine (kf.out _ HR.out).mono ?_; rintro e w1 ⟨rfl, hb1⟩; have hR1 := Lib.hid (HR.out.later hb1); have t0 := kt.out w1 hR1.out; have eq0 := kq.out w1 hR1.out))
                go_ret
                have hB := bthen (bthen (bthen (bthen hb1 hb2) (below_new w2 (.cells #[.pointer (some ⟨ad m, 0, none⟩), .string x] 159))) hb3) (bthen hb4 (below_new w4 (.cells #[.pointer (some ⟨ad mf, 0, none⟩), .string yf] 159)))
                have hM6 := hM2.out _ _ _ hR4.out ho5 hM5.out hm6 ho6
                have hD6 := hDD.out _ _ _ hR4.out ho5 ho6
                have hK6 : Keep F _ w6 := (Keep.ofOth ho5 (hR.map _ _ hmf hkf).1).trans (Keep.ofOth ho6 (hR.map _ _ hm hk).1)
                refine ⟨rfl, ⟨ad, mb, (hR4.out.renamed hW hV.out (hM6.ds hD6 hd7) hd7).weak (Grow.self F _ _) (by omega)⟩, Keep.fresh hB (hK6.trans (hd7.keep.weak ?_)) fun _ _ h => h⟩
                rintro k (rfl | ⟨a, b, h1, rfl⟩)
                · exact hR.ftree
                · exact (hR.node _ _ h1).2
      · rw [if_pos hpt] at hEE
        have hne1 : T.rnE f t ≠ 0 := by rw [hEE]; exact hpt
        have hne2 : T.parE t ≠ -1 := by
          intro e
          unfold Tr.parE at e
          by_cases h1 : Nt.isP t = true
          · rw [if_pos h1] at e
            simp only at e
            have := Nt.fnd_err (T := T) (Pp.pieces t).dropLast [] 0
            split at e
            · omega
            · split at e <;> omega
          · rw [if_neg h1] at e
            omega
        rw [if_neg hne1, if_neg (by rw [hEE]; exact hne2), hEE]
        generalize T.parE t = z at *
        have g : (z != 0) = true := by simp [hpt]
        have HZ := Lib.hid hpt
        clear hEE hroot hfd hc hn0 hpe hpt hne1 hne2
        go_enter Tryz.func42, Tryz.ntmps42
        go_wp2_with (first
          | (go_at_call 89; refine (kto.out _ hR1.out).mono ?_; rintro e w2 ⟨⟨v, rfl, _, hv⟩, hb2⟩; obtain rfl := hv HZ.out)
          | (go_at_call 69; refine (kf.out _ HR.out).mono ?_; rintro e w1 ⟨rfl, hb1⟩; have hR1 := Lib.hid (HR.out.later hb1); have t0 := kt.out w1 hR1.out; have eq0 := kq.out w1 hR1.out))
        go_ret
        exact Done.err HR.out (bthen (bthen hb1 hb2) (below_new w2 _)) z
  · have hE : T.rnE f t = (T.find f).2 := by unfold Tr.rnE; rw [if_pos hc]
    have hne : (T.find f).2 ≠ -1 := by
      unfold Tr.find
      split
      · decide
      · split
        · have := Nt.fnd_err (T := T) (Pp.pieces f) [] 0
          omega
        · decide
    rw [hE, if_neg hc, if_neg hne]
    generalize T.find f = x at *
    obtain ⟨j, z⟩ := x
    simp only at hc kf ⊢
    simp only [fv, if_neg hc, ptrv] at kf
    have g : (z != 0) = true := by simp [hc]
    clear hE hc hne
    go_enter Tryz.func42, Tryz.ntmps42
    go_wp2_with (go_at_call 69; refine (kf.out _ HR.out).mono ?_; rintro e w1 ⟨rfl, hb1⟩)
    go_ret
    exact Done.err HR.out hb1 z
end
end Go.Proofs.YthgbncpiehcghaaGreatDoor
