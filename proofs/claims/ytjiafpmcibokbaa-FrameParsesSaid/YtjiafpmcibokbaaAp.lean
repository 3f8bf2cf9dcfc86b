/- AN APPEND ONTO A ROW OF BYTES OF THE CALL's OWN, nil or not, OF A SLICE THAT READS SO, nil or not; and of noughts. Plain theorems; no Go text is named. -/
import Derived.Test.YtjiafpmcibokbaaAz
import Derived.Test.YtjiafpmcibokbaaOb
import Derived.Laws.OwnMore
namespace Go.Proofs.Ytjiafpmcibokbaa
open Go.RowKit
set_option linter.unusedVariables false
theorem RB.src7 {w : World} {B n : Nat} {A : Option Addr} {xs : List Int} (h : RB w B A n xs) (hn : 0 < n) : ∃ ad, A = some ad ∧ ∀ j v, (xs.map (Value.int .u8))[j]? = some v → w.cell? (ad.add j) = some v := by
  obtain ⟨b, o, rfl, _, _⟩ := h.at_ hn
  exact ⟨_, rfl, h.news⟩
theorem RB.none0 {w : World} {B n : Nat} {A : Option Addr} {xs : List Int} (h : RB w B A n xs) (hn : n = 0) : xs = [] := List.eq_nil_of_length_eq_zero (by rw [h.1, hn])
theorem OBn.slice {w : World} {base n : Nat} {e : TypeId} {v : Value} {xs : List Int} (h : OBn w base e v n xs) : ∃ A c, v = .slice A n c ∧ RB w w.heap.size A n xs ∧ n ≤ c ∧ c ≤ maxLen := by
  obtain ⟨A, c, e, hr, h1, h2⟩ := h.ob.rb
  have hl := h.len
  subst hl
  exact ⟨A, c, e, hr, h1, h2⟩
theorem run_append_none7 {P : Program} {w : World} (base : Nat) (t ty e : TypeId) (i : TypeInfo) (size : Nat) (ht : P.underlying t = some (.slice e)) (hi : P.info? e = some i)
    (v : Value) (n : Nat) (xs : List Value) (hown : w.ownsRow base e size v n xs) (A : Option Addr) (c : Nat) :
    (Builtin.append_ #[t, t] ty #[v, .slice A 0 c]).run P w = .ok v w := by
  rcases hown.2 with ⟨rfl, rfl⟩ | ⟨g, cap, cur, rfl, _, _, hnc, _⟩
  · cases A <;> simp [Builtin.append_, run_underlying ht, sizeOf, typeInfo, hi, Builtin.lenOf, Builtin.firstCells, loadCells, loadCellsFrom]
  · cases A <;> simp [Builtin.append_, run_underlying ht, sizeOf, typeInfo, hi, Builtin.lenOf, Builtin.firstCells, hnc, storeCells, loadCells, loadCellsFrom]
/-- 'append(own, b...)': b reads as ys. -/
theorem run_append_rb {P : Program} {w : World} (base B : Nat) (t ty e : TypeId) (i : TypeInfo) (ht : P.underlying t = some (.slice e)) (hi : P.info? e = some i) (hz : i.zero = some (.int .u8 0)) (hs : i.size = 1) (hby : i.bytes = 1)
    (v : Value) (n : Nat) (xs : List Int) (h : OBn w base e v n xs) (A : Option Addr) (m c : Nat) (ys : List Int) (hr : RB w B A m ys) (hm : n + m ≤ 1000000) (hbase : base ≤ w.heap.size) :
    ∃ v' w', (Builtin.append_ #[t, t] ty #[v, .slice A m c]).run P w = .ok v' w' ∧ OBn w' base e v' (n + m) (xs ++ ys) ∧ w.grownBy w' v.ownBlock := by
  by_cases h0 : m = 0
  · subst h0
    obtain rfl := hr.none0 rfl
    exact ⟨v, w, run_append_none7 base t ty e i 1 ht hi v n _ h A c, by simpa using h, ⟨rfl, rfl, rfl, Nat.le_refl _, fun k _ _ => rfl⟩⟩
  · obtain ⟨ad, rfl, hn⟩ := hr.src7 (by omega)
    obtain ⟨v', w', h1, h2, h3, _⟩ := run_append_own (P := P) (w := w) base t ty e i (.int .u8 0) 1 1 ht hi hz hs hby rfl (by decide) v n _ h ad m c (ys.map (Value.int .u8)) (by simp [hr.1]) hn (u8_cells _) (by unfold maxLen; omega) (by omega) hbase
    exact ⟨v', w', h1, by unfold OBn; simpa using h2, h3⟩
/-- 'append(own, make([]byte, m)...)'. -/
theorem run_append_zeros7 {P : Program} {w : World} (base : Nat) (t tn ty e : TypeId) (i : TypeInfo) (k kn : IntKind) (ht : P.underlying t = some (.slice e)) (htn : P.underlying tn = some (.int kn)) (hi : P.info? e = some i) (hz : i.zero = some (.int .u8 0))
    (hs : i.size = 1) (hby : i.bytes = 1) (v : Value) (n : Nat) (xs : List Int) (h : OBn w base e v n xs) (m : Nat) (h0 : 0 < m) (hm : n + m ≤ 1000000) (hbase : base ≤ w.heap.size) :
    ∃ v' w', (Builtin.append_ #[t, tn] ty #[v, .int k m]).run P w = .ok v' w' ∧ OBn w' base e v' (n + m) (xs ++ List.replicate m 0) ∧ w.grownBy w' v.ownBlock := by
  rcases h.2 with ⟨rfl, rfl⟩ | ⟨g, cap, cur, rfl, _⟩
  · have hx : xs = [] := List.eq_nil_of_length_eq_zero h.len
    subst hx
    have hr := Lib.run_append_nil_zeros (P := P) w t tn ty e i (.int .u8 0) k kn ht htn hi hz m h0 (by omega) (by omega) (by rw [hby]; omega)
    refine ⟨_, _, hr, ?_, ?_⟩
    · have hge := grownCap_ge w m 0 e
      have hcm : grownCap w m 0 e ≤ maxLen := grownCap_le_maxLen w m 0 e (by unfold maxLen; omega)
      have hzc : (Value.int IntKind.u8 0).cells = #[Value.int .u8 0] := rfl
      rw [Nat.zero_add, List.nil_append]
      refine ⟨by simp, .inr ⟨w.heap.size, grownCap w m 0 e, Builtin.zeroCells (Value.int .u8 0).cells m ++ Builtin.zeroCells (Value.int .u8 0).cells (grownCap w m 0 e - m), rfl, hbase, ?_, hge, hcm, ?_, ?_⟩⟩
      · exact heap_alloc_new w.drew _
      · rw [hzc]; simp [size_zeroCells]; omega
      · rw [hzc, Array.toList_append, zeroCells_list, zeroCells_list]
        simp
    · exact ⟨rfl, rfl, rfl, by simp, fun k hk _ => heap_alloc_old w.drew _ hk⟩
  · have := run_append_own_zeros (P := P) w base t tn ty e i k kn ht htn hi hz hs hby g n cap xs h m h0 hm hbase
    simpa [Value.ownBlock] using this
end Go.Proofs.Ytjiafpmcibokbaa
