/- 'append(out, make([]byte, m)...)' where out is a row of bytes of the call's own. Plain theorems; no Go text is named. -/
import Derived.Test.YtjiafpmcibokbaaBx
import Derived.Lib.AppendZeros
namespace Go.Proofs.Ytjiafpmcibokbaa
open Go.RowKit
theorem zeroCells_list (m : Nat) : (Builtin.zeroCells #[Value.int .u8 0] m).toList = (List.replicate m (0 : Int)).map (Value.int .u8) := by
  apply List.ext_getElem
  · simp [Builtin.zeroCells]
  · intro i h1 h2
    simp [Builtin.zeroCells, Nat.mod_one]
theorem zeros_one (m : Nat) : ∀ u ∈ (List.replicate m (0 : Int)).map (Value.int .u8), u.oneCell' = true := by
  intro u hu
  obtain ⟨x, _, rfl⟩ := List.mem_map.1 hu
  rfl
/-- m noughts behind a row of the call's own. -/
theorem run_append_own_zeros {P : Program} (w : World) (base : Nat) (t tn ty e : TypeId) (i : TypeInfo) (k kn : IntKind) (ht : P.underlying t = some (.slice e)) (htn : P.underlying tn = some (.int kn)) (hi : P.info? e = some i) (hz : i.zero = some (.int .u8 0))
    (hs : i.size = 1) (hby : i.bytes = 1) (g n cap : Nat) (xs : List Int) (h : OBn w base e (.slice (some ⟨g, 0, none⟩) n cap) n xs) (m : Nat) (h0 : 0 < m) (hm : n + m ≤ 1000000) (hbase : base ≤ w.heap.size) :
    ∃ v' w', (Builtin.append_ #[t, tn] ty #[.slice (some ⟨g, 0, none⟩) n cap, .int k m]).run P w = .ok v' w' ∧ OBn w' base e v' (n + m) (xs ++ List.replicate m 0) ∧ w.grownBy w' (some g) := by
  have hxl := h.len
  have hw : IntKind.i64.wrap (m : Int) = m := by rw [IntKind.wrap_i64]; omega
  have h48 : ¬ (281474976710656 < (m : Int)) := by omega
  have hneg : ¬ ((m : Int) < 0) := by omega
  have hm0 : ¬ (m = 0) := by omega
  obtain ⟨hlen, h2⟩ := h
  rcases h2 with ⟨hh, _⟩ | ⟨g', cap', cur, hv, hb, hg, hnc, hcm, hcs, htake⟩
  · cases hh
  · cases hv
    have hzl := zeroCells_list m
    have hz1 := zeros_one m
    have hzlen : ((List.replicate m (0 : Int)).map (Value.int .u8)).length = m := by simp
    have hzc : (Value.int IntKind.u8 0).cells = #[Value.int .u8 0] := rfl
    have hxs : (xs ++ List.replicate m 0).map (Value.int .u8) = xs.map (Value.int .u8) ++ (List.replicate m (0 : Int)).map (Value.int .u8) := List.map_append
    unfold OBn World.ownsRow
    rw [hxs]
    generalize (List.replicate m (0 : Int)).map (Value.int .u8) = Zs at *
    have hXl : (xs.map (Value.int .u8)).length = n := by simp [hxl]
    have htk : cur.toList.take n = xs.map (Value.int .u8) := by simpa using htake
    generalize xs.map (Value.int .u8) = Xs at *
    by_cases hroom : n + m ≤ cap
    · have hfit : n + Zs.length ≤ cur.size := by omega
      have hst := run_storeCells_at P g n e Zs 0 cur w hg (by simpa using hfit) hz1
      simp only [Nat.add_zero] at hst
      refine ⟨.slice (some ⟨g, 0, none⟩) (n + m) cap, w.setRow g (cur.toList.take n ++ Zs ++ cur.toList.drop (n + Zs.length)).toArray, ?_, ⟨by simp; omega, .inr ⟨g, cap, _, rfl, hb, setRow_heap w g cur _ e _ hg, hroom, hcm, ?_, ?_⟩⟩, ⟨rfl, rfl, rfl, by simp, fun k _ hk => setRow_other w g k _ (fun e => hk (by simp [e]))⟩⟩
      · have hst' : (storeCells ((⟨g, 0, none⟩ : Addr).add n) (Builtin.zeroCells #[Value.int .u8 0] m).toList).run P w = .ok () (w.setRow g (cur.toList.take n ++ Zs ++ cur.toList.drop (n + Zs.length)).toArray) := by
          rw [hzl, Addr.add_lit, Nat.zero_add]
          exact hst
        simp [Builtin.append_, run_underlying ht, run_underlying htn, sizeOf, typeInfo, zeroValue, hi, hz, hs, hby, asInt, asIntOf, hw, hneg, hm0, h48, hroom, hzc, hst']
      · simp; omega
      · simp only [htk, Nat.mul_one]
        rw [show n + m = (Xs ++ Zs).length from by simp; omega]
        exact List.take_left
    · have holds : ∀ j u, Xs[j]? = some u → w.drew.cell? ((⟨g, 0, none⟩ : Addr).add j) = some u := fun j u hj => by
        rw [Addr.add_lit]
        show w.cell? _ = _
        rw [Nat.zero_add, cell_of_row w g j cur e (0, 0) hg]
        rw [← htk, List.getElem?_take] at hj
        split at hj
        · simpa using hj
        · cases hj
      have hfo := run_firstCells_some (P := P) w.drew 1 n ⟨g, 0, none⟩ n cap Xs (by omega) holds
      have h63 : ¬ (9223372036854775807 < (n : Int) + (m : Int)) := by omega
      have hfit := growslice_fits (need := n + m) (old := cap) (bytes := 1) (by omega) (by omega)
      have h48' : ¬ (281474976710656 < Builtin.nextslicecap (n + m) cap) := by omega
      have hge := grownCap_ge w (n + m) cap e
      have hcm2 : grownCap w (n + m) cap e ≤ maxLen := grownCap_le_maxLen w (n + m) cap e (by unfold maxLen; omega)
      refine ⟨.slice (some ⟨w.heap.size, 0, none⟩) (n + m) (grownCap w (n + m) cap e), w.drew.alloc (.cells (Xs.toArray ++ Builtin.zeroCells #[Value.int .u8 0] m ++ Builtin.zeroCells #[Value.int .u8 0] (grownCap w (n + m) cap e - (n + m))) e), ?_, ⟨by simp; omega, .inr ⟨w.heap.size, _, _, rfl, hbase, heap_alloc_new w.drew _, hge, hcm2, ?_, ?_⟩⟩, ⟨rfl, rfl, rfl, by simp, fun _ hk _ => heap_alloc_old w.drew _ hk⟩⟩
      · simp [Builtin.append_, run_underlying ht, run_underlying htn, sizeOf, typeInfo, zeroValue, hi, hz, hs, hby, asInt, asIntOf, hw, hneg, hm0, h48, hroom, hzc, h63, h48', Question.forced, hfo, newRow, grownCap]
      · simp [size_zeroCells]; omega
      · simp only [Array.toList_append, hzl, Nat.mul_one]
        rw [show n + m = (Xs ++ Zs).length from by simp; omega]
        exact List.take_left
end Go.Proofs.Ytjiafpmcibokbaa
