/- AN ARGUMENT THAT IS A SLICE OF 16-BIT NUMBERS, opened. -/
import Derived.Test.YtjofdgjcbjdhbaaGreatDoorGf5
import Derived.Test.YtjofdgjcbjdhbaaGreatDoorS9
namespace Go.Proofs.YtjofdgjcbjdhbaaGreatDoor
open Go.ChangeShapes Go.WideShapes Go.RowKit Go.Deep
set_option linter.unusedVariables false
theorem hr_open {w : World} {x : Addr} {l c : Nat} {zs : List Int} (hl : l ≤ c) (hz : zs.length = c) (hcell : ∀ i, i < zs.length → w.cell? (x.add i) = some (.int .u16 (zs.getD i 0))) (hw : ∀ n ∈ zs, (Lit.int .u16 n).wf = true) : HR w w.heap.size (some x) l (zs.take l) := by
  refine ⟨by rw [List.length_take]; omega, fun j => ?_, fun hn => ?_⟩
  · by_cases hj : j < l
    · by_cases hj2 : j < zs.length
      · have h1 := hw zs[j] (List.getElem_mem hj2)
        have h2 : 0 ≤ zs[j] ∧ zs[j] ≤ 65535 := by simpa [Lit.wf, IntKind.min, IntKind.max, IntKind.signed, IntKind.bits] using h1
        simpa [List.getD_eq_getElem?_getD, List.getElem?_take, hj, List.getElem?_eq_getElem hj2] using h2
      · simp [List.getD_eq_getElem?_getD, hj, List.getElem?_eq_none (Nat.le_of_not_lt hj2)]
    · simp [List.getD_eq_getElem?_getD, List.getElem?_take, hj]
  · have h0 := hcell 0 (by omega)
    obtain ⟨b, o, s⟩ := x
    have hs : s = none := by have := World.cell?_spot h0; simpa [Addr.add] using this
    subst hs
    refine ⟨b, o, rfl, ?_, fun j hj => ?_⟩
    · have := World.block_lt_of_cell? w _ h0
      simpa [Addr.add] using this
    · have h := hcell j (by omega)
      rw [Lib.add_plain] at h
      rw [h]
      simp [List.getD, hj]
theorem HR.nil {w : World} {B : Nat} : HR w B none 0 [] := ⟨rfl, fun j => by simp, fun h => absurd h (by omega)⟩
theorem opened_u16s {H : Type} {enc : TypeId × Value → H} {W : World} {fuel : Nat} {v : Value} {x : DataW H × List MemPlace} (hf : DataW.trod enc Tryz.prog W 0 (fun _ => true) true fuel 55 [v] = some x) :
    ∃ a len cap zs, v = .slice a len cap ∧ HR W W.heap.size a len zs ∧ len ≤ cap ∧ cap ≤ maxLen := by
  rcases open_ints Tryz.underlying55 Tryz.underlying51 (by kernel_rfl) hf with ⟨hcs, _⟩ | ⟨x, l, c, zs, hcs, _, hl, hm, hz, _, hcell, hwz⟩
  · obtain rfl : v = .slice none 0 0 := by simpa using hcs
    exact ⟨none, 0, 0, [], rfl, HR.nil, Nat.le_refl _, Nat.zero_le _⟩
  · obtain rfl : v = .slice (some x) l c := by simpa using hcs
    exact ⟨some x, l, c, zs.take l, rfl, hr_open hl (by simpa using hz) hcell hwz, hl, hm⟩
end Go.Proofs.YtjofdgjcbjdhbaaGreatDoor
