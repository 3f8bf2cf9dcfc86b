/- A SLICE OF THE DOCUMENT's DEEDS, read. No Go text is named. -/
import Derived.Test.YthgbncpiehcghaaGreatDoorGa1
namespace Go.Proofs.YthgbncpiehcghaaGreatDoor
set_option linter.unusedVariables false
open Go Go.RowKit
set_option maxRecDepth 100000
open Nt (Dd)
/-- A slice of deeds, in blocks below B, with their bytes. -/
def QL (w : World) (B : Nat) (A : Option Addr) (n : Nat) (l : List Dd) : Prop :=
  (l.length = n ∧ (0 < n → ∃ b o, A = some ⟨b, o, none⟩ ∧ b < B ∧ ∀ (j : Nat) y, l[j]? = some y → ∀ (i : Nat) u, (DdC y)[i]? = some u → w.cell? ⟨b, o + j * 8 + i, none⟩ = some u)) ∧ ∀ y ∈ l, RB w B y.A y.n y.xs
section
variable {w w' : World} {B n : Nat} {A : Option Addr} {l : List Dd}
theorem QL.below (h : QL w B A n l) (hb : Below B w w') : QL w' B A n l :=
  ⟨⟨h.1.1, fun hn => by
    obtain ⟨b, o, e, hlt, hc⟩ := h.1.2 hn
    exact ⟨b, o, e, hlt, fun j x hj i v hv => (hb.cell (p := ⟨b, o + j * 8 + i, none⟩) hlt).trans (hc j x hj i v hv)⟩⟩, fun y hy => (h.2 y hy).below hb⟩
theorem QL.nil : QL w B A 0 [] := ⟨⟨rfl, fun h => absurd h (by omega)⟩, fun y hy => by cases hy⟩
theorem QL.at_ (h : QL w B A n l) {j : Nat} (hj : j < n) : ∃ b o y, A = some ⟨b, o, none⟩ ∧ b < B ∧ l[j]? = some y ∧ RB w B y.A y.n y.xs ∧ ∀ (i : Nat) u, (DdC y)[i]? = some u → w.cell? ⟨b, o + j * 8 + i, none⟩ = some u := by
  obtain ⟨b, o, e, hlt, hc⟩ := h.1.2 (by omega)
  have hl : j < l.length := by rw [h.1.1]; exact hj
  exact ⟨b, o, l[j], e, hlt, List.getElem?_eq_getElem hl, h.2 _ (List.getElem_mem hl), hc j _ (List.getElem?_eq_getElem hl)⟩
end
end Go.Proofs.YthgbncpiehcghaaGreatDoor
