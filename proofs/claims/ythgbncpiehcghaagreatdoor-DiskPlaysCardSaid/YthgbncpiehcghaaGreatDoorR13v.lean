/- A ROW OF A TYPE THAT IS NOT KNOWN; the bytes that a tree's Get answers. -/
import Derived.Test.YthgbncpiehcghaaGreatDoorGa1
import Derived.Test.YthgbncpiehcghaaGreatDoorGn2
import Derived.Test.YthgbncpiehcghaaGreatDoorAz
namespace Go.Proofs.YthgbncpiehcghaaGreatDoor
set_option linter.unusedVariables false
open Go Go.RowKit Go.Maps
set_option maxRecDepth 100000
set_option maxHeartbeats 4000000
/-- A row whose block's type is not known. -/
def RowW {α : Type} (C : α → Array Value) (z : Nat) (w : World) (A : Option Addr) (n : Nat) (l : List α) : Prop :=
  l.length = n ∧ (0 < n → ∃ b o, A = some ⟨b, o, none⟩ ∧ b < w.heap.size ∧ ∀ (j : Nat) x, l[j]? = some x → ∀ (i : Nat) u, (C x)[i]? = some u → w.cell? ⟨b, o + j * z + i, none⟩ = some u)
section
variable {α : Type} {C : α → Array Value} {z : Nat} {U : TypeId} {w w' : World} {A : Option Addr} {n : Nat} {l : List α}
theorem RowOf.weak (h : RowOf C z U w A n l) : RowW C z w A n l :=
  ⟨h.1, fun hn => by
    obtain ⟨b, o, e, ⟨cs, fz, hb⟩, hc⟩ := h.2 hn
    exact ⟨b, o, e, lt_of_some hb, hc⟩⟩
theorem RowW.below (h : RowW C z w A n l) (hb : Below w.heap.size w w') : RowW C z w' A n l :=
  ⟨h.1, fun hn => by
    obtain ⟨b, o, e, hlt, hc⟩ := h.2 hn
    exact ⟨b, o, e, Nat.lt_of_lt_of_le hlt hb.size, fun j x hj i v hv => (hb.cell (p := ⟨b, o + j * z + i, none⟩) hlt).trans (hc j x hj i v hv)⟩⟩
theorem RowW.at_ (h : RowW C z w A n l) {j : Nat} (hj : j < n) : ∃ b o x, A = some ⟨b, o, none⟩ ∧ l[j]? = some x ∧ ∀ (i : Nat) u, (C x)[i]? = some u → w.cell? ⟨b, o + j * z + i, none⟩ = some u := by
  obtain ⟨b, o, e, _, hc⟩ := h.2 (by omega)
  have hl : j < l.length := by rw [h.1]; exact hj
  exact ⟨b, o, l[j], e, List.getElem?_eq_getElem hl, hc j _ (List.getElem?_eq_getElem hl)⟩
end
/-- The bytes that Get answers. -/
theorem bytes15 {w : World} {A : Option Addr} {c base : Nat} {xs : List Int} (hx : Byt xs) {n : Nat} (hn : xs.length = n) (h : w.ownsRow base 5 1 (.slice A n c) n (Lib.strCells (strOfNums xs))) : RBT w A n xs ∧ n ≤ c ∧ c ≤ maxLen := by
  subst hn
  have e : Lib.strCells (strOfNums xs) = xs.map (Value.int .u8) := by
    unfold Lib.strCells
    rw [Sf.data_strOfNums, List.map_map]
    refine List.map_congr_left fun x hm => ?_
    obtain ⟨j, hj, rfl⟩ := List.getElem_of_mem hm
    have := hx j
    simp only [List.getD, List.getElem?_eq_getElem hj, Option.getD_some] at this
    simp only [Function.comp]
    congr 1
    simp only [UInt8.toNat_ofNat']
    omega
  rw [e] at h
  have h2 : OBn w base 5 (.slice A xs.length c) xs.length xs := h
  obtain ⟨A', c', e', _, h3, h4⟩ := h2.slice
  cases e'
  exact ⟨h2.rbt, h3, h4⟩
end Go.Proofs.YthgbncpiehcghaaGreatDoor
