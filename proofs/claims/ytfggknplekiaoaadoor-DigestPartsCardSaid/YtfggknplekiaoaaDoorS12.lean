/- AN ARGUMENT THAT IS A SLICE OF SLICES OF BYTES, opened to its parts. -/
import Derived.Test.YtfggknplekiaoaaDoorPl
import Derived.Test.YtfggknplekiaoaaDoorCm
import Derived.Deep.Matrix
import Derived.ChangeSame
namespace Go.Proofs.YtfggknplekiaoaaDoor
open Go.ChangeShapes Go.WideShapes Go.RowKit Go.Deep
set_option linter.unusedVariables false
theorem opened_parts {H : Type} {enc : TypeId × Value → H} {W : World} {fuel : Nat} {v : Value} {x : DataW H × List MemPlace} (hf : DataW.trod enc Tryd.prog W 0 (fun _ => true) true fuel 29 [v] = some x) :
    ∃ a len cap l, v = .slice a len cap ∧ PL W W.heap.size a len l ∧ len ≤ cap ∧ cap ≤ maxLen := by
  rcases open_int_rows Tryd.underlying29 Tryd.underlying22 Tryd.underlying5 (by kernel_rfl) (by kernel_rfl) hf with ⟨hcs, _⟩ | ⟨a, len, cap, A, L, C, Z, hcs, _, hl, hm, _, hr⟩
  · obtain rfl : v = .slice none 0 0 := by simpa using hcs
    exact ⟨none, 0, 0, [], rfl, ⟨rfl, fun h => absurd h (by omega), by simp⟩, Nat.le_refl _, Nat.zero_le _⟩
  · obtain rfl : v = .slice (some a) len cap := by simpa using hcs
    refine ⟨some a, len, cap, (List.range len).map fun r => ⟨A r, L r, C r, (Z r).take (L r)⟩, rfl, ⟨by simp, fun hn => ?_, ?_⟩, hl, hm⟩
    · have h0 := (hr 0 (by omega)).1
      obtain ⟨b, o, s⟩ := a
      have hs : s = none := by have := World.cell?_spot h0; simpa [Addr.add] using this
      subst hs
      have hadd : ∀ j, ((⟨b, o, none⟩ : Addr).add j) = ⟨b, o + j, none⟩ := fun j => by
        unfold Addr.add
        by_cases h0 : j = 0 <;> simp [h0]
      refine ⟨b, o, rfl, ?_, fun j p hj => ?_⟩
      · have := World.block_lt_of_cell? W _ h0
        simpa [Addr.add] using this
      · have hjl : j < len := by have := (List.getElem?_eq_some_iff.1 hj).1; simpa using this
        rw [List.getElem?_map, List.getElem?_range hjl] at hj
        obtain rfl := Option.some.inj hj
        have h := (hr j (by omega)).1
        rw [hadd] at h
        exact h
    · intro p hp
      obtain ⟨r, hrm, rfl⟩ := List.mem_map.1 hp
      have hrl : r < len := List.mem_range.1 hrm
      obtain ⟨_, h1, h2, h3, h4, h5, h6⟩ := hr r (by omega)
      refine ⟨?_, byt_open h4 _, h1, h2⟩
      show RB W W.heap.size (A r) (L r) ((Z r).take (L r))
      cases hA : A r with
      | none =>
        have h0 : L r = 0 := by have := h5 hA; omega
        rw [h0]
        exact RB.nil
      | some a' =>
        obtain ⟨_, hc⟩ := h6 a' hA
        exact rb_open h1 h3 fun i hi => hc i (by omega)
end Go.Proofs.YtfggknplekiaoaaDoor
