/- WALKS OF LAYER 13, SEVENTEENTH PART: a node is copied. -/
import Derived.Test.YtbianfjennnofaaGreatDoorN13g
namespace Go.Proofs.YtbianfjennnofaaGreatDoor
set_option linter.unusedVariables false
open Go Go.RowKit Go.Maps
set_option maxRecDepth 100000
set_option maxHeartbeats 4000000
open Nt (Tr Nd WF Ps Path at_ cnt used)
/-- What a copying keeps: all but the map of copies, the variable of Dirs that wait, and rows of pointers. -/
structure KeepC (B : Nat) (W W' : World) : Prop where
  size : W.heap.size ≤ W'.heap.size
  block : ∀ k, k < W.heap.size → k ≠ B → k ≠ B + 2 → (∀ cs, W.heap[k]? ≠ some (.cells cs 87 (0, 0))) → W'.heap[k]? = W.heap[k]?
section
variable {w W W' : World} {F : Nat → Prop} {K tb : Nat} {T : Tr} {ad mb c nm : Nat → Nat} {L S Dn : List Nat} {X : Nat → Prop} {v : Value}
theorem copied_any (hW : WF T K) (hK : K ≤ 100000) (hR : RepP F K w tb T ad mb) {p : Path} {n : Nat} (hn : (p, n) ∈ T.paths) (h : CS w W K T ad mb c nm L S Dn X v) (hX : ∀ m, X m → m ∈ L) :
    Calls Tryz.prog 112 #[.pointer (some ⟨ad n, 0, none⟩), .pointer (some ⟨w.heap.size + 1, 0, none⟩), .pointer (some ⟨w.heap.size + 2, 0, none⟩)] W fun e W' => ∃ c' L' S' v', e = .returned (.pointer (some ⟨c' n, 0, none⟩)) ∧ CS w W' K T ad mb c' nm L' S' Dn X v' ∧ n ∈ L' ∧ (∀ m ∈ L, m ∈ L' ∧ c' m = c m) ∧ KeepC w.heap.size W W' := by
  obtain ⟨i0, hi, hz0, hz1, hz2⟩ := info_parts info_node
  have hlk := h.pm.look (a := ad n) ⟨_, _, ((h.old hR).node p n hn).1⟩ (h.keys hR)
  rw [h.assoc hR hn] at hlk
  have c1 : W.cell? ⟨w.heap.size + 1, 0, none⟩ = some (.map (some w.heap.size)) := h.cbx.cell rfl
  by_cases hnL : n ∈ L
  · rw [if_pos hnL] at hlk
    replace hlk : (Instr.lookup 167 (.map (some w.heap.size)) (.pointer (some ⟨ad n, 0, none⟩)) true).run Tryz.prog W = .ok (.tuple #[.pointer (some ⟨c n, 0, none⟩), .bool true]) W := hlk
    have H := Lib.hid h
    have HL := Lib.hid hnL
    clear hnL
    go_enter Tryz.func112, Tryz.ntmps112
    go_wp2
    go_ret
    exact ⟨c, L, S, v, rfl, H.out, HL.out, fun m hm => ⟨hm, rfl⟩, Nat.le_refl _, fun _ _ _ _ _ => rfl⟩
  · rw [if_neg hnL] at hlk
    replace hlk : (Instr.lookup 167 (.map (some w.heap.size)) (.pointer (some ⟨ad n, 0, none⟩)) true).run Tryz.prog W = .ok (.tuple #[.pointer none, .bool false]) W := hlk
    have hnd := ((h.old hR).node p n hn).1
    have hnX : ¬ X n := fun e => hnL (hX n e)
    have hb1 := below_new W (.cells (NC (T.nd n) (mbv T mb n) (cnt T.paths n : Nat)) 91)
    have h1 := h.later hb1
    obtain ⟨W2, hrun, hpm2, ho2, hs2⟩ := h1.pm.put (a := ad n) ⟨_, _, ((h1.old hR).node p n hn).1⟩ (h1.keys hR) (by rw [h1.assoc hR hn, if_neg hnL]) W.heap.size
    have hA := Lib.hid (h.add hR hn hnL hnX ho2 hpm2)
    have hWne : W.heap.size ≠ w.heap.size := by have := h.pm.lt; omega
    have hnew := (BX.new W 91 (NC (T.nd n) (mbv T mb n) (cnt T.paths n : Nat))).oth ho2 hWne
    obtain ⟨D, hD⟩ : ∃ D, strOfNums (T.nd n).xs = D := ⟨_, rfl⟩
    obtain ⟨kd, hkd⟩ : ∃ kd, (T.nd n).kind = kd := ⟨_, rfl⟩
    obtain ⟨a1, ha1⟩ : ∃ a, (T.nd n).mode = a := ⟨_, rfl⟩
    obtain ⟨a2, ha2⟩ : ∃ a, (T.nd n).uid = a := ⟨_, rfl⟩
    obtain ⟨a3, ha3⟩ : ∃ a, (T.nd n).gid = a := ⟨_, rfl⟩
    obtain ⟨a4, ha4⟩ : ∃ a, (T.nd n).mtime = a := ⟨_, rfl⟩
    obtain ⟨a5, ha5⟩ : ∃ a, (T.nd n).link = a := ⟨_, rfl⟩
    obtain ⟨a8, ha8⟩ : ∃ a : Int, ((cnt T.paths n : Nat) : Int) = a := ⟨_, rfl⟩
    obtain ⟨mv, hmv⟩ : ∃ mv, mbv T mb n = mv := ⟨_, rfl⟩
    simp only [NC, pt, hD, hkd, ha1, ha2, ha3, ha4, ha5, ha8, hmv] at hnd hrun hnew
    have s0 : W.cell? ⟨ad n, 0, none⟩ = some (.int .i64 kd) := hnd.cell rfl
    have s1 : W.cell? ⟨ad n, 1, none⟩ = some (.int .i64 a1) := hnd.cell rfl
    have s2 : W.cell? ⟨ad n, 2, none⟩ = some (.int .i64 a2) := hnd.cell rfl
    have s3 : W.cell? ⟨ad n, 3, none⟩ = some (.int .i64 a3) := hnd.cell rfl
    have s4 : W.cell? ⟨ad n, 4, none⟩ = some (.int .i64 a4) := hnd.cell rfl
    have s5 : W.cell? ⟨ad n, 5, none⟩ = some (.string a5) := hnd.cell rfl
    have s6 : W.cell? ⟨ad n, 6, none⟩ = some (.string D) := hnd.cell rfl
    have s7 : W.cell? ⟨ad n, 7, none⟩ = some (.map mv) := hnd.cell rfl
    have s8 : W.cell? ⟨ad n, 8, none⟩ = some (.int .i64 a8) := hnd.cell rfl
    have hnl := hnd.lt
    have c1' : (W.alloc (.cells #[.int .i64 kd, .int .i64 a1, .int .i64 a2, .int .i64 a3, .int .i64 a4, .string a5, .string D, .map mv, .int .i64 a8] 91)).cell? ⟨w.heap.size + 1, 0, none⟩ = some (.map (some w.heap.size)) := (h.cbx.alloc _).cell rfl
    have n0 : W2.cell? ⟨W.heap.size, 0, none⟩ = some (.int .i64 kd) := hnew.cell rfl
    have d0 : W2.cell? ⟨w.heap.size + 2, 0, none⟩ = some v := hA.out.dbx.cell rfl
    have df := hA.out.dbx.free 0
    have HKEEP : Hid (KeepC w.heap.size W W2) := ⟨by rw [hs2]; simp, fun k hk h2 h3 _ => (ho2.2.2.2.2 k (by simp; omega) h2).trans (Below.heap_alloc _ _ _ hk)⟩
    have H := Lib.hid h
    have HNL := Lib.hid hnL
    have HNX := Lib.hid hnX
    by_cases hk4 : kd = 4
    · have g : (kd == 4) = true := by simp [hk4]
      have hkn : (T.nd n).kind = 4 := by rw [hkd]; exact hk4
      have hnS : n ∉ S := fun e => hnL (h.sub n e).1
      have hnD : n ∉ Dn := fun e => hnL (h.subd n e).1
      obtain ⟨Av, cv, hve⟩ := hA.out.pr.slice
      obtain ⟨N, hN⟩ : ∃ N, (S.map fun m => if m = n then W.heap.size else c m).length = N := ⟨_, rfl⟩
      rw [hN] at hve
      subst hve
      have hNb : N ≤ 100000 := by
        have h5 : S.length ≤ (T.paths.map (·.2)).length := len_sub h.snd fun m hm => by
          obtain ⟨q, hq⟩ := h.live m (h.sub m hm).1
          exact List.mem_map.2 ⟨_, hq, rfl⟩
        have := hW.many
        simp at h5 hN
        omega
      have hown : Hid (W2.ownsRow w.heap.size 87 1 (.slice Av N cv) N ((S.map fun m => if m = n then W.heap.size else c m).map fun b => Value.pointer (some ⟨b, 0, none⟩))) := by
        have := hA.out.pr
        unfold PR at this
        rw [hN] at this
        exact this
      have hwl : w.heap.size ≤ W2.heap.size := hA.out.low.size
      have HQ := Lib.hid (fun (W3 : World) (v2 : Value) (hg : (W2.alloc (.cells #[.pointer (some ⟨W.heap.size, 0, none⟩)] 87)).grownBy W3 (Value.slice Av N cv).ownBlock) (hp : PR W3 w.heap.size v2 ((S ++ [n]).map fun m => if m = n then W.heap.size else c m)) =>
        hA.out.queue (Y := X) (KeepRow.grown hA.out.pr hg) (hA.out.low.trans (below_grow13 (Below.refl w.heap.size W2) hwl hown.out hg)) hp
          (fun m hm => by
            rcases List.mem_append.1 hm with h6 | h6
            · obtain ⟨a, b, d, e⟩ := hA.out.sub m h6
              exact ⟨a, b, d, fun f => e (.inl f)⟩
            · obtain rfl : m = n := by simpa using h6
              exact ⟨by simp, hkn, hnD, hnX⟩)
          (fun m hm => fun f => (hA.out.subd m hm).2.2 (.inl f))
          (by
            rw [List.nodup_append]
            refine ⟨h.snd, by simp, ?_⟩
            intro a ha b hb e
            obtain rfl : b = n := by simpa using hb
            exact hnS (e ▸ ha))
          (fun m hm hk => by
            rcases hA.out.cover m hm hk with h6 | h6 | h6 | h6
            · exact .inl h6
            · exact .inr (.inl (List.mem_append_left _ h6))
            · exact .inr (.inr h6)
            · exact .inr (.inl (List.mem_append_right _ (by simp [h6])))))
      have HK3 := Lib.hid (fun (W3 : World) (v2 : Value) (hg : (W2.alloc (.cells #[.pointer (some ⟨W.heap.size, 0, none⟩)] 87)).grownBy W3 (Value.slice Av N cv).ownBlock) => show KeepC w.heap.size W (W3.setCell ⟨w.heap.size + 2, 0, none⟩ v2) from
        ⟨Nat.le_trans HKEEP.out.size (by have := (KeepRow.grown hA.out.pr hg).size; simpa [World.setCell] using this), fun k hk h2 h3 h4 => by
          rw [heap_setCell_other _ _ _ _ h3]
          have e1 := HKEEP.out.block k hk h2 h3 h4
          exact ((KeepRow.grown hA.out.pr hg).block k (Nat.lt_of_lt_of_le hk HKEEP.out.size) fun cs => by rw [e1]; exact h4 cs).trans e1⟩)
      have HDQ := Lib.hid (fun (W3 : World) (hg : (W2.alloc (.cells #[.pointer (some ⟨W.heap.size, 0, none⟩)] 87)).grownBy W3 (Value.slice Av N cv).ownBlock) => hA.out.dbx.row (KeepRow.grown hA.out.pr hg) (by decide))
      have HSN := Lib.hid (show ((S ++ [n]).map fun m => if m = n then W.heap.size else c m) = (S.map fun m => if m = n then W.heap.size else c m) ++ [W.heap.size] from by simp)
      clear hk4 hkd ha1 ha2 ha3 ha4 ha5 ha8 hmv hD hnL hnX hnd hnew h h1 hb1 hpm2 ho2 hs2 hWne hkn hnS hnD hN
      go_enter Tryz.func112, Tryz.ntmps112
      go_wp2_with (at_builtin; refine wpList_append_own _ rfl _ _ 168 rfl w.heap.size 87 i0 (.pointer none) 1 8 Tryz.underlying168 hi hz0 hz1 hz2 rfl (by decide) _ _ _ rfl (hown.out.alloc _) ⟨W2.heap.size, 0, none⟩ 1 1 [.pointer (some ⟨W.heap.size, 0, none⟩)] rfl rfl (cell_one_new _ _ _) (ptr_cells _) (by unfold maxLen; omega) (by omega) (by simp; omega) ?_; intro v2 w3 hown2 hgrow2 _; obtain ⟨g', cap', rfl⟩ := ownsRow_succ hown2; have hd3 := Lib.hid (HDQ.out w3 hgrow2); have e0 : w3.cell? ⟨w.heap.size + 2, 0, none⟩ = some (.slice Av N cv) := hd3.out.cell rfl; have e1 := hd3.out.free 0)
      go_ret
      refine ⟨_, L ++ [n], S ++ [n], _, ?_, HQ.out w3 _ hgrow2 (by rw [HSN.out]; exact PR.snoc (by simpa using hown2)), by simp, fun m hm => ⟨List.mem_append_left _ hm, by rw [if_neg (fun e : m = n => HNL.out (e ▸ hm))]⟩, HK3.out w3 _ hgrow2⟩
      show Ending.returned (.pointer (some ⟨W.heap.size, 0, none⟩)) = .returned (.pointer (some ⟨(if n = n then W.heap.size else c n), 0, none⟩))
      rw [if_pos rfl]
    · have g : (kd == 4) = false := by simp [hk4]
      have HFIN : Hid (CS w W2 K T ad mb (fun m => if m = n then W.heap.size else c m) nm (L ++ [n]) S Dn X v) := by
        have h2 := hA.out
        exact ⟨h2.low, h2.pm, h2.cbx, h2.dbx, h2.pr, h2.live, h2.nodup, fun m hm => let ⟨a, b, d, e⟩ := h2.sub m hm; ⟨a, b, d, fun f => e (.inl f)⟩, fun m hm => let ⟨a, b, e⟩ := h2.subd m hm; ⟨a, b, fun f => e (.inl f)⟩, h2.snd, h2.dnd,
          fun m hm hk => (h2.cover m hm hk).imp id fun e => e.imp id fun e => e.elim id fun e => absurd hk (by rw [e, hkd]; exact hk4), h2.inj, h2.new, h2.node, h2.done, h2.nminj⟩
      clear hk4 hkd ha1 ha2 ha3 ha4 ha5 ha8 hmv hD hnL hnX hnd hnew h h1 hb1 hpm2 ho2 hs2 hWne
      go_enter Tryz.func112, Tryz.ntmps112
      go_wp2
      go_ret
      refine ⟨_, L ++ [n], S, v, ?_, HFIN.out, by simp, fun m hm => ⟨List.mem_append_left _ hm, by rw [if_neg (fun e : m = n => HNL.out (e ▸ hm))]⟩, HKEEP.out⟩
      show Ending.returned (.pointer (some ⟨W.heap.size, 0, none⟩)) = .returned (.pointer (some ⟨(if n = n then W.heap.size else c n), 0, none⟩))
      rw [if_pos rfl]
end
end Go.Proofs.YtbianfjennnofaaGreatDoor
