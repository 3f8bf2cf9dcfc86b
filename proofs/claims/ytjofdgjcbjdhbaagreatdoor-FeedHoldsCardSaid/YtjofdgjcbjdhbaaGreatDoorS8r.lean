/- AN ARGUMENT THAT IS A SLICE OF RECORDS, opened. -/
import Derived.Test.YtjofdgjcbjdhbaaGreatDoorGr6
import Derived.Test.YtjofdgjcbjdhbaaGreatDoorChecked
import Derived.Deep.SlicePairs
import Derived.ChangeSame
namespace Go.Proofs.YtjofdgjcbjdhbaaGreatDoor
open Go.ChangeShapes Go.WideShapes Go.RowKit Go.Deep
set_option linter.unusedVariables false
def textOf : Value → ByteArray
  | .string s => s
  | _ => ByteArray.empty
theorem opened_recs {H : Type} {enc : TypeId × Value → H} {W : World} {fuel : Nat} {v : Value} {x : DataW H × List MemPlace} (hf : DataW.trod enc Tryz.prog W 0 (fun _ => true) true fuel 86 [v] = some x) :
    ∃ a len cap l, v = .slice a len cap ∧ RL W W.heap.size a len l ∧ len ≤ cap ∧ cap ≤ maxLen := by
  rcases open_slice_pairs Tryz.underlying86 Tryz.underlying113 (by kernel_rfl) (by kernel_rfl) (by kernel_rfl) (by kernel_rfl) (by kernel_rfl) hf with ⟨hcs, _⟩ | ⟨a, len, cap, m, n, V0, V1, D0, D1, P0, P1, hcs, _, hl, hm, hmm, _, hi⟩
  · obtain rfl : v = .slice none 0 0 := by simpa using hcs
    exact ⟨none, 0, 0, [], rfl, RL.nil, Nat.le_refl _, Nat.zero_le _⟩
  · obtain rfl : v = .slice (some a) len cap := by simpa using hcs
    have hlm : len ≤ m := by rw [hmm]; split <;> omega
    have each : ∀ i, i < len → W.cell? (a.add (i * 2)) = some (.string (textOf (V0 i))) ∧ W.cell? (a.add (i * 2 + 1)) = some (.string (textOf (V1 i))) := fun i hil => by
      obtain ⟨c0, c1, t0, t1⟩ := hi i (by omega)
      obtain ⟨s0, e0, _⟩ := DataW.trod_string Tryz.underlying9 t0
      obtain ⟨s1, e1, _⟩ := DataW.trod_string Tryz.underlying9 t1
      have e0' : V0 i = .string s0 := by simpa using e0
      have e1' : V1 i = .string s1 := by simpa using e1
      rw [c0, c1, e0', e1']
      exact ⟨rfl, rfl⟩
    refine ⟨some a, len, cap, (List.range len).map fun i => (textOf (V0 i), textOf (V1 i)), rfl, ⟨by simp, fun hn => ?_⟩, hl, hm⟩
    obtain ⟨b, o, s⟩ := a
    have h0 := (each 0 hn).1
    have hs : s = none := by have := World.cell?_spot h0; simpa [Addr.add] using this
    subst hs
    have hadd : ∀ j, ((⟨b, o, none⟩ : Addr).add j) = ⟨b, o + j, none⟩ := fun j => by
      unfold Addr.add
      by_cases h0 : j = 0 <;> simp [h0]
    refine ⟨b, o, rfl, ?_, fun j r hj => ?_⟩
    · have := World.block_lt_of_cell? W _ h0
      simpa [Addr.add] using this
    · have hjl : j < len := by have := (List.getElem?_eq_some_iff.1 hj).1; simpa using this
      have hr : r = (textOf (V0 j), textOf (V1 j)) := by
        rw [List.getElem?_map, List.getElem?_range hjl] at hj
        exact (Option.some.inj hj).symm
      subst hr
      have h := each j hjl
      rw [hadd, hadd] at h
      exact h
end Go.Proofs.YtjofdgjcbjdhbaaGreatDoor
