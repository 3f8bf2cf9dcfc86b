/- A SLICE OF THE LAW's STEPS (LAYER 14), opened. -/
import Derived.Test.YthgbncpiehcghaaGreatDoorS14
import Derived.Test.YthgbncpiehcghaaGreatDoorGt2
namespace Go.Proofs.YthgbncpiehcghaaGreatDoor
set_option linter.unusedVariables false
open Go.ChangeShapes Go.WideShapes Go.RowKit Go.Deep
open Go.ChangeMaps (open_string shut_string)
open Nt (Dd)
instance : Inhabited Sq := ⟨⟨0, ⟨0, ⟨#[]⟩, ⟨#[]⟩, 0, 0, 0, 0, none, 0, 0, []⟩, 0, 0⟩⟩
def Sq.ok (x : Sq) : Prop := (0 ≤ x.wh ∧ x.wh ≤ 255) ∧ DdOk x.y ∧ (-9223372036854775808 ≤ x.kp ∧ x.kp ≤ 9223372036854775807) ∧ (-9223372036854775808 ≤ x.tn ∧ x.tn ≤ 9223372036854775807)
set_option maxRecDepth 100000 in
theorem sqCells14 {H : Type} {enc : TypeId × Value → H} {W : World} {fuel : Nat} {c0 c1 c2 c3 c4 c5 c6 c7 c8 c9 c10 : Value} {x : DataW H × List MemPlace} (hf : DataW.trod enc Tryz.prog W 0 (fun _ => true) true fuel 62 [c0, c1, c2, c3, c4, c5, c6, c7, c8, c9, c10] = some x) :
    ∃ y : Sq, #[c0, c1, c2, c3, c4, c5, c6, c7, c8, c9, c10] = y.cs ∧ RB W W.heap.size y.y.A y.y.n y.y.xs ∧ y.ok := by
  obtain ⟨ys, n, _, _, _, hl, hy⟩ := DataW.trod_struct Tryz.underlying62 hf
  have hl5 : ys.length = 4 := hl
  have fld : ∀ (i : Nat) (T : TypeId) (off cnt : Nat) (f : Field), (#[f] : Array Field).size = 1 → T = f.type → off = f.offset → cnt = Tryz.prog.cellsOf T → DataW.trod enc Tryz.prog W 0 (fun _ => true) true n f.type (([c0, c1, c2, c3, c4, c5, c6, c7, c8, c9, c10].drop f.offset).take (Tryz.prog.cellsOf f.type)) = ys[i]? →
      DataW.trod enc Tryz.prog W 0 (fun _ => true) true n T (([c0, c1, c2, c3, c4, c5, c6, c7, c8, c9, c10].drop off).take cnt) = ys[i]? := fun i T off cnt f _ h1 h2 h3 h => by
    subst h1
    subst h2
    subst h3
    exact h
  have e0 := fld 0 5 0 1 _ rfl rfl rfl (by kernel_rfl) (hy 0 _ rfl)
  have e1 := fld 1 60 1 8 _ rfl rfl rfl (by kernel_rfl) (hy 1 _ rfl)
  have e2 := fld 2 3 9 1 _ rfl rfl rfl (by kernel_rfl) (hy 2 _ rfl)
  have e3 := fld 3 3 10 1 _ rfl rfl rfl (by kernel_rfl) (hy 3 _ rfl)
  simp only [List.drop_zero, List.drop_succ_cons, List.take_succ_cons, List.take_zero] at e0 e1 e2 e3
  rw [List.getElem?_eq_getElem (by omega)] at e0 e1 e2 e3
  obtain ⟨k, hk, _, bk⟩ := DataW.trod_int Tryz.underlying5 e0
  obtain ⟨y, hye, hyr, hyo⟩ := deedCells14 e1
  obtain ⟨kp, hkp, _, bkp⟩ := DataW.trod_int Tryz.underlying3 e2
  obtain ⟨tn, htn, _, btn⟩ := DataW.trod_int Tryz.underlying3 e3
  have wk : 0 ≤ k ∧ k ≤ 255 := by simpa [Lit.wf, IntKind.min, IntKind.max, IntKind.signed, IntKind.bits] using bk
  have wp : -9223372036854775808 ≤ kp ∧ kp ≤ 9223372036854775807 := by simpa [Lit.wf, IntKind.min, IntKind.max, IntKind.signed, IntKind.bits] using bkp
  have wt : -9223372036854775808 ≤ tn ∧ tn ≤ 9223372036854775807 := by simpa [Lit.wf, IntKind.min, IntKind.max, IntKind.signed, IntKind.bits] using btn
  refine ⟨⟨k, y, kp, tn⟩, ?_, hyr, wk, hyo, wp, wt⟩
  unfold Sq.cs SqC
  simp_all
theorem openedSteps14 {H : Type} {enc : TypeId × Value → H} {W : World} {fuel : Nat} {v : Value} {x : DataW H × List MemPlace} (hf : DataW.trod enc Tryz.prog W 0 (fun _ => true) true fuel 51 [v] = some x) :
    ∃ a len cap its, v = .slice a len cap ∧ QS W W.heap.size a len its ∧ len ≤ cap ∧ cap ≤ maxLen ∧ ∀ y ∈ its, y.ok := by
  rcases open_slice Tryz.underlying51 hf with ⟨hcs, _⟩ | ⟨a, len, cap, m, n, D, Pl, hcs, hb, hl, hm, hmm, _, hx⟩
  · obtain rfl : v = .slice none 0 0 := by simpa using hcs
    exact ⟨none, 0, 0, [], rfl, QS.nil, Nat.le_refl _, Nat.zero_le _, fun y hy => by cases hy⟩
  · obtain rfl : v = .slice (some a) len cap := by simpa using hcs
    have hlm : len ≤ m := by rw [hmm]; split <;> omega
    have each : ∀ i, i < len → ∃ y : Sq, (∀ (j : Nat) u, y.cs[j]? = some u → W.cell? (a.add (i * 11 + j)) = some u) ∧ RB W W.heap.size y.y.A y.y.n y.y.xs ∧ y.ok := by
      intro i hi
      obtain ⟨cs', h1, h2⟩ := hx i (by omega)
      rw [show Tryz.prog.cellsOf 62 = 11 by kernel_rfl] at h1
      obtain ⟨_, hlen, hcell⟩ := World.cells?_some h1
      obtain ⟨c0, c1, c2, c3, c4, c5, c6, c7, c8, c9, c10, rfl⟩ : ∃ c0 c1 c2 c3 c4 c5 c6 c7 c8 c9 c10, cs' = [c0, c1, c2, c3, c4, c5, c6, c7, c8, c9, c10] := by
        match cs', hlen with
        | [c0, c1, c2, c3, c4, c5, c6, c7, c8, c9, c10], _ => exact ⟨_, _, _, _, _, _, _, _, _, _, _, rfl⟩
      obtain ⟨y, hy, hr⟩ := sqCells14 h2
      refine ⟨y, fun j u hj => ?_, hr⟩
      rw [← hy] at hj
      have hj8 : j < 11 := (Array.getElem?_eq_some_iff.1 hj).1
      have e := hcell j hj8
      rw [add_add] at e
      rw [e]
      simpa using hj
    obtain ⟨q, hq⟩ := choose_lt each
    refine ⟨some a, len, cap, (List.range len).map q, rfl, ⟨⟨by simp, fun hn => ?_⟩, fun y hy => ?_⟩, hl, hm, fun y hy => ?_⟩
    · obtain ⟨b, o, s⟩ := a
      have h0 := (hq 0 hn).1 0 _ rfl
      have hs : s = none := by have := World.cell?_spot h0; simpa [Addr.add] using this
      subst hs
      have hadd : ∀ j, ((⟨b, o, none⟩ : Addr).add j) = ⟨b, o + j, none⟩ := fun j => by
        unfold Addr.add
        by_cases h0 : j = 0 <;> simp [h0]
      refine ⟨b, o, rfl, ?_, fun j y hj i u hu => ?_⟩
      · have := World.block_lt_of_cell? W _ h0
        simpa [Addr.add] using this
      · have hjl : j < len := by have := (List.getElem?_eq_some_iff.1 hj).1; simpa using this
        have hr : y = q j := by
          rw [List.getElem?_map, List.getElem?_range hjl] at hj
          exact (Option.some.inj hj).symm
        subst hr
        have h := (hq j hjl).1 i u hu
        rw [hadd, ← Nat.add_assoc] at h
        exact h
    · obtain ⟨i, hi, rfl⟩ := List.mem_map.1 hy
      exact (hq i (List.mem_range.1 hi)).2.1
    · obtain ⟨i, hi, rfl⟩ := List.mem_map.1 hy
      exact (hq i (List.mem_range.1 hi)).2.2
end Go.Proofs.YthgbncpiehcghaaGreatDoor
