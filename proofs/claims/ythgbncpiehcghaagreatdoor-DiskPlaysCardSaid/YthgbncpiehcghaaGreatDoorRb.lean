/- WHAT A LOOP OVER A FUNCTION's CALLER OWES: boxes and rows beside stores. Plain theorems; no Go text is named. -/
import Derived.Test.YthgbncpiehcghaaGreatDoorGf1
import Derived.RangeFuncNested
import Derived.RangeFuncBound
import Derived.Maps.AppendAt
namespace Go.Proofs.YthgbncpiehcghaaGreatDoor
set_option linter.unusedVariables false
open Go Go.RowKit
set_option maxHeartbeats 1000000
theorem box_other {W : World} {B B' : Nat} {t : TypeId} {v v' : Value} (h : Boxed W B t v) (hne : B ≠ B') : Boxed (W.setCell ⟨B', 0, none⟩ v') B t v :=
  h.kept (grownBy_setCell' W B' v') (fun e => hne (by cases e; rfl))
theorem own_other {W : World} {base size k B : Nat} {e : TypeId} {v u : Value} {xs : List Value} (h : W.ownsRow base e size v k xs) (hB : B < base) : (W.setCell ⟨B, 0, none⟩ u).ownsRow base e size v k xs :=
  h.kept (grownBy_setCell' W B u) (.inr fun e' => by have := (h.lt B e').1; omega)
theorem row_more {w : World} {base base' size k : Nat} {e : TypeId} {v : Value} {xs : List Value} (h : w.ownsRow base e size v k xs) (hb : base' ≤ base) : w.ownsRow base' e size v k xs := by
  refine ⟨h.1, ?_⟩
  rcases h.2 with h0 | ⟨g, cap, cur, h1, h2, h3⟩
  · exact .inl h0
  · exact .inr ⟨g, cap, cur, h1, by omega, h3⟩
theorem row_slice {w : World} {base size k : Nat} {e : TypeId} {v : Value} {xs : List Value} (h : w.ownsRow base e size v k xs) : ∃ A c, v = .slice A k c := by
  rcases h.2 with ⟨rfl, rfl⟩ | ⟨g, cap, cur, rfl, _⟩
  · exact ⟨none, 0, rfl⟩
  · exact ⟨_, _, rfl⟩
/-- 'out = append(out, ..)' where out's box lies below the blocks of its row, and other boxes do. -/
theorem box_append {W w1 : World} {n₀ n₁ B : Nat} {t e : TypeId} {size : Nat} {v v' : Value} {k m : Nat} {xs ys : List Value} {tmp : Obj}
    (hv : Boxed W B t v) (hte : t ≠ e) (hrow : W.ownsRow n₀ e size v k xs) (hn : n₁ ≤ W.heap.size) (hB : n₁ ≤ B) (hle : n₁ ≤ n₀)
    (hown' : w1.ownsRow n₀ e size v' m ys) (hgrow : (W.alloc tmp).grownBy w1 v.ownBlock) :
    Boxed w1 B t v ∧ Boxed (w1.setCell ⟨B, 0, none⟩ v') B t v' ∧ (w1.setCell ⟨B, 0, none⟩ v').ownsRow n₀ e size v' m ys ∧ KeepsOthers W (w1.setCell ⟨B, 0, none⟩ v') ∧ Below n₁ W (w1.setCell ⟨B, 0, none⟩ v') ∧
      (∀ B' t' u, Boxed W B' t' u → B' < n₀ → B' ≠ B → Boxed (w1.setCell ⟨B, 0, none⟩ v') B' t' u) ∧ W.heap.size ≤ (w1.setCell ⟨B, 0, none⟩ v').heap.size := by
  obtain ⟨a, b, c, d, f⟩ := hv.appended hte (row_more hrow hle) hn hB (row_more hown' hle) hgrow
  refine ⟨a, b, hown'.kept (grownBy_setCell' w1 B v') (.inr (a.not_row hte hown').symm), d, f, fun B' t' u h hlt hne => ?_, d.size⟩
  refine Boxed.other ((h.alloc tmp).kept hgrow (fun e' => ?_)) hne _
  have := (hrow.lt B' e'.symm).1
  omega
theorem ownFrom_size {β : Type} (B c : Nat) : OwnFrom B (fun (_ : β) W => c ≤ W.heap.size) := fun _ _ _ _ hs hg _ => Nat.le_trans hs hg.size
end Go.Proofs.YthgbncpiehcghaaGreatDoor
