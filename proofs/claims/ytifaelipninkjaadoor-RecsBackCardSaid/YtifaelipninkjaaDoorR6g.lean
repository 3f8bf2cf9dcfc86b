/- WALKS OF LAYER 6, SEVENTH PART: theirs, far, same of the laws. -/
import Derived.Test.YtifaelipninkjaaDoorR6f
namespace Go.Proofs.YtifaelipninkjaaDoor
open Go Go.RowKit
set_option linter.unusedVariables false
set_option maxHeartbeats 1000000
def cells2 (l : List Rc.Rec) : List Value := l.flatMap fun r => [.string r.1, .string r.2]
theorem cells2_app (a b : List Rc.Rec) : cells2 (a ++ b) = cells2 a ++ cells2 b := by simp [cells2]
theorem cells2_len (l : List Rc.Rec) : (cells2 l).length = l.length * 2 := by
  induction l with
  | nil => rfl
  | cons r t ih => simp [cells2] at ih ⊢; omega
theorem cells2_at {l : List Rc.Rec} {j : Nat} {r : Rc.Rec} (h : l[j]? = some r) : (cells2 l)[j * 2]? = some (.string r.1) ∧ (cells2 l)[j * 2 + 1]? = some (.string r.2) := by
  induction l generalizing j with
  | nil => simp at h
  | cons x t ih =>
    have e : cells2 (x :: t) = .string x.1 :: .string x.2 :: cells2 t := by simp [cells2]
    cases j with
    | zero =>
      obtain rfl : x = r := by simpa using h
      rw [e]; exact ⟨rfl, rfl⟩
    | succ j =>
      have := ih (j := j) (by simpa using h)
      rw [e, show (j + 1) * 2 = j * 2 + 1 + 1 by omega, show j * 2 + 1 + 1 + 1 = (j * 2 + 1) + 1 + 1 by omega]
      simpa using this
/-- THE SLICE VALUE v IS THE CALL's OWN AND HOLDS THE RECORDS l. -/
def RO (w : World) (base : Nat) (e : TypeId) (v : Value) (l : List Rc.Rec) : Prop := w.ownsRow base e 2 v l.length (cells2 l)
/-- THE SLICE VALUE v READS AS THE RECORDS l. -/
def RLV (w : World) (v : Value) (l : List Rc.Rec) : Prop := ∃ A c, v = .slice A l.length c ∧ RL w w.heap.size A l.length l ∧ l.length ≤ c ∧ c ≤ maxLen
theorem RLV.later {w w' : World} {v : Value} {l : List Rc.Rec} (h : RLV w v l) (hb : Below w.heap.size w w') : RLV w' v l := by
  obtain ⟨A, c, e, h1, h2, h3⟩ := h
  exact ⟨A, c, e, (h1.below hb).more hb.size, h2, h3⟩
theorem RO.rlv {w : World} {base : Nat} {e : TypeId} {v : Value} {l : List Rc.Rec} (h : RO w base e v l) : RLV w v l := by
  have hh := h
  rcases h.2 with ⟨rfl, h0⟩ | ⟨g, cap, cur, rfl, hb, hg, hnc, hcm, hcs, htake⟩
  · have : l = [] := List.eq_nil_of_length_eq_zero h0
    subst this
    exact ⟨none, 0, rfl, RL.nil, Nat.le_refl _, Nat.zero_le _⟩
  · refine ⟨_, cap, rfl, ⟨rfl, fun hn => ⟨g, 0, rfl, (World.ownsRow.lt hh g rfl).2, fun j r hj => ?_⟩⟩, hnc, hcm⟩
    obtain ⟨e0, e1⟩ := cells2_at hj
    have hjl := (List.getElem?_eq_some_iff.1 hj).1
    have hcl := cells2_len l
    have a0 := World.ownsRow.cellAt hh (j * 2) (by omega)
    have a1 := World.ownsRow.cellAt hh (j * 2 + 1) (by omega)
    rw [Nat.zero_add]
    rw [a0, a1]
    exact ⟨e0, e1⟩
/-- A new block with one record's cells. -/
theorem news2 (w : World) (e : TypeId) (k v : ByteArray) : ∀ (j : Nat) u, [Value.string k, Value.string v][j]? = some u → (w.alloc (.cells #[.string k, .string v] e)).cell? ((⟨w.heap.size, 0, none⟩ : Addr).add j) = some u := by
  intro j u hj
  rw [Lib.add_plain, Nat.zero_add]
  have : j = 0 ∨ j = 1 := by
    have := (List.getElem?_eq_some_iff.1 hj).1
    simp at this
    omega
  rcases this with rfl | rfl
  · obtain rfl : Value.string k = u := by simpa using hj
    exact (BX.new w e _).cell rfl
  · obtain rfl : Value.string v = u := by simpa using hj
    exact (BX.new w e _).cell rfl
theorem two_cells (k v : ByteArray) : ∀ u ∈ [Value.string k, Value.string v], u.oneCell' = true := by
  intro u hu
  have : u = .string k ∨ u = .string v := by simpa using hu
  rcases this with rfl | rfl <;> rfl
theorem RO.snoc {w : World} {base n : Nat} {e : TypeId} {u : Value} {l : List Rc.Rec} {k v : ByteArray} (h : w.ownsRow base e 2 u (n + 1) (cells2 l ++ [.string k, .string v])) (hn : l.length = n) : RO w base e u (l ++ [(k, v)]) := by
  unfold RO
  rw [cells2_app, List.length_append, hn]
  exact h
theorem info_rec : (Tryd.prog.info? 39).map (fun i => (i.zero, i.size, i.bytes)) = some (some (.agg #[.string ⟨#[]⟩, .string ⟨#[]⟩]), 2, 32) := by kernel_rfl
set_option maxRecDepth 100000 in
theorem theirs_any (A : Option Addr) (n c : Nat) (l : List Rc.Rec) (w : World) (hl : RL w w.heap.size A n l) (hn : n ≤ 100000) :
    Calls Tryd.prog 9 #[.slice A n c] w fun e w' => ∃ u, e = .returned u ∧ RO w' w.heap.size 39 u l ∧ Below w.heap.size w w' := by
  obtain ⟨i0, hi, hz0, hz1, hz2⟩ := info_parts info_rec
  have hll := hl.1
  go_enter Tryd.func9, Tryd.ntmps9
  go_wp2
  go_loopw [3, 8] (fun u i wr => ∃ j : Nat, j ≤ n ∧ i = .int .i64 j ∧ Hid (RO wr w.heap.size 39 u (l.take j)) ∧ Below w.heap.size w wr) (fun _ i _ => n - (intOf i).toNat)
  case atStart => exact ⟨0, by omega, rfl, World.ownsRow_nil _ _ _ _, Below.refl _ _⟩
  case round =>
    obtain ⟨j, hj, rfl, HO, hb⟩ := hrel
    have hlj : (l.take j).length = j := by rw [List.length_take]; omega
    by_cases hlt : j < n
    · have hlt' : (j : Int) < n := by omega
      obtain ⟨b, o, k, v, rfl, hbl, hjl, q0, q1⟩ := (hl.below hb).at_ hlt
      have HT := Lib.hid (Rc.take_next hjl)
      clear hjl
      obtain ⟨Au, cu, rfl, hcu⟩ := owns_slice HO.out
      rw [hlj] at hcu ⊢
      have ho2 : World.ownsRow ((wr.alloc (.cells #[.string k, .string v] 37)).alloc (.cells #[.string k, .string v] 39)) w.heap.size 39 2 (.slice Au j cu) j (cells2 (l.take j)) := by
        have h1 := HO.out
        unfold RO at h1
        rw [hlj] at h1
        exact owns_below (owns_below h1 (Below.alloc (Below.refl _ _) (Nat.le_refl _) _)) (Below.alloc (Below.refl _ _) (Nat.le_refl _) _)
      have HO2 := Lib.hid ho2; clear ho2
      have HB2 := Lib.hid ((hb.alloc hb.size (.cells #[.string k, .string v] 37)).alloc (by have := hb.size; simp; omega) (.cells #[.string k, .string v] 39))
      have HLJ := Lib.hid hlj; clear hlj
      have NEWS := Lib.hid (news2 (wr.alloc (.cells #[.string k, .string v] 37)) 39 k v)
      rw [show (wr.alloc (.cells #[.string k, .string v] 37)).heap.size = wr.heap.size + 1 by simp] at NEWS
      go_wp2_with (at_builtin; refine wpList_append_own _ rfl _ _ 29 rfl w.heap.size 39 i0 (.agg #[.string ⟨#[]⟩, .string ⟨#[]⟩]) 2 32 Tryd.underlying29 hi hz0 hz1 hz2 rfl (by decide) (.slice Au j cu) j (cells2 (l.take j)) rfl HO2.out ⟨wr.heap.size + 1, 0, none⟩ 1 1 [.string k, .string v] rfl rfl NEWS.out (two_cells k v) (by unfold maxLen; omega) (by omega) (by have := HB2.out.size; omega) ?_; intro v3 w3 hown3 hgrow3 hnil3; have HO3 := Lib.hid (RO.snoc hown3 HLJ.out); have HB3 := Lib.hid (below_app6 HB2.out (Nat.le_refl _) HO2.out hgrow3); clear hown3 hgrow3 hnil3)
      go_roundw
      case rel => exact ⟨j + 1, by omega, by go_num, by show RO _ _ _ _ _; rw [HT.out]; exact HO3.out, HB3.out⟩
      case measure => simp [intOf]; omega
    · have htk : l.take j = l := List.take_of_length_le (by omega)
      have HR := Lib.hid HO.out
      rw [htk] at HR
      have hlt' : ¬ (j : Int) < n := by omega
      go_wp2
      go_ret
      exact ⟨_, rfl, HR.out, hb⟩
/-- Whether there is too much. -/
def farB (l : List Rc.Rec) : Bool := (l.take 10).any (fun r => decide (3000 < r.1.size) || decide (3000 < r.2.size)) || decide (10 < l.length)
set_option maxRecDepth 100000 in
theorem far_any (A : Option Addr) (n c : Nat) (l : List Rc.Rec) (w : World) (hl : RL w w.heap.size A n l) (hc : n ≤ c) (hc2 : c ≤ maxLen) :
    Calls Tryd.prog 6 #[.slice A n c] w fun e w' => e = .returned (.bool (farB l)) ∧ Below w.heap.size w w' := by
  have hll := hl.1
  unfold maxLen at hc2
  obtain ⟨m, hm⟩ : ∃ m : Nat, m = min n 10 := ⟨_, rfl⟩
  have hmi : min (n : Int) 10 = (m : Int) := by omega
  have hmn : m ≤ n := by omega
  have hmc : m ≤ c := by omega
  go_enter Tryd.func6, Tryd.ntmps6
  go_wp2
  go_loopw [11] (fun i wr => ∃ j : Nat, j ≤ m ∧ i = .int .i64 j ∧ Hid ((l.take j).any (fun r => decide (3000 < r.1.size) || decide (3000 < r.2.size)) = false) ∧ Below w.heap.size w wr) (fun i _ => m - (intOf i).toNat)
  case atStart => exact ⟨0, by omega, rfl, rfl, Below.refl _ _⟩
  case round =>
    obtain ⟨j, hj, rfl, HF, hb⟩ := hrel
    by_cases hlt : j < m
    · have hlt' : (j : Int) < m := by omega
      obtain ⟨b, o, k, v, rfl, hbl, hjl, q0, q1⟩ := (hl.below hb).at_ (show j < n by omega)
      have HT := Lib.hid (Rc.take_next hjl)
      clear hjl
      have hb2 := Lib.hid (hb.alloc hb.size (.cells #[.string k, .string v] 37))
      have hfar : (3000 < k.size ∨ 3000 < v.size) → farB l = true := fun h => by
        unfold farB
        have : (l.take 10).any (fun r => decide (3000 < r.1.size) || decide (3000 < r.2.size)) = true := by
          rw [List.any_eq_true]
          refine ⟨(k, v), ?_, by simpa using h⟩
          have h1 : (k, v) ∈ l.take (j + 1) := by rw [HT.out]; simp
          exact List.take_subset_take_left _ (show j + 1 ≤ 10 by omega) h1
        rw [this]; rfl
      have HFAR := Lib.hid hfar; clear hfar
      by_cases h1 : 3000 < k.size
      · have h1' : (3000 : Int) < k.size := by omega
        have E := Lib.hid (HFAR.out (.inl h1))
        go_wp2
        go_ret
        exact ⟨ret_bool (by rw [E.out]), hb2.out⟩
      · have h1' : ¬ (3000 : Int) < k.size := by omega
        by_cases h2 : 3000 < v.size
        · have h2' : (3000 : Int) < v.size := by omega
          have E := Lib.hid (HFAR.out (.inr h2))
          go_wp2
          go_ret
          exact ⟨ret_bool (by rw [E.out]), hb2.out⟩
        · have h2' : ¬ (3000 : Int) < v.size := by omega
          have HX := Lib.hid (show (l.take (j + 1)).any (fun r => decide (3000 < r.1.size) || decide (3000 < r.2.size)) = false by rw [HT.out, List.any_append, HF.out]; simp; omega)
          go_wp2
          go_roundw
          case rel => exact ⟨j + 1, by omega, by go_num, HX.out, hb2.out⟩
          case measure => simp [intOf]; omega
    · have hjm : j = m := by omega
      subst hjm
      have hlt' : ¬ (j : Int) < j := by omega
      have e : farB l = decide ((10 : Int) < n) := by
        unfold farB
        have h2 : l.take 10 = l.take j := by
          by_cases h : n ≤ 10
          · rw [List.take_of_length_le (by omega), List.take_of_length_le (by omega)]
          · rw [show j = 10 by omega]
        rw [h2, HF.out, Bool.false_or, decide_eq_decide]
        omega
      have E := Lib.hid e
      clear e
      go_wp2
      go_ret
      exact ⟨ret_bool (by rw [E.out]), hb⟩
end Go.Proofs.YtifaelipninkjaaDoor
