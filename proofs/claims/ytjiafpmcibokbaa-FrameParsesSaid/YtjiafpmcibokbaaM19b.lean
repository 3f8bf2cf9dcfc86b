/- LAYER 19, plain, second part: a frame's fields out of bytes. -/
import Derived.Test.YtjiafpmcibokbaaR19e
namespace Go.Proofs.Ytjiafpmcibokbaa
open Go Go.RowKit
set_option linter.unusedVariables false
namespace Fm
/-- A frame without its places. -/
def er (f : Fr) : Fr := { f with A := none, n := 0, c := 0, RA := none, m := 0, rc := 0 }
def mayP (f : Fr) : Int := mayE f.k f.xs.length f.rs.length f.cd (rise f.off f.rs)
def need (k : Int) : Nat := if k = 1 ∨ k = 5 then 40 else if k = 3 then 9 else if k = 7 then 1 else 8
def rgsOf : Nat → List Int → List (Nat × Nat)
  | 0, _ => []
  | n + 1, b => (ofL (b.take 8), ofL ((b.drop 8).take 8)) :: rgsOf n (b.drop 16)
theorem rgsOf_snoc : ∀ (j : Nat) (b : List Int), rgsOf (j + 1) b = rgsOf j b ++ [(ofL ((b.drop (16 * j)).take 8), ofL ((b.drop (16 * j + 8)).take 8))]
  | 0, b => by simp [rgsOf]
  | j + 1, b => by
    have h := rgsOf_snoc j (b.drop 16)
    rw [rgsOf, h, rgsOf, List.cons_append, List.drop_drop, List.drop_drop, show 16 + 16 * j = 16 * (j + 1) by omega, show 16 + (16 * j + 8) = 16 * (j + 1) + 8 by omega]
theorem rgsOf_len : ∀ (j : Nat) (b : List Int), (rgsOf j b).length = j
  | 0, _ => rfl
  | j + 1, b => by simp [rgsOf, rgsOf_len j]
theorem ofL_lt8 {xs : List Int} (hb : Byt xs) (h : xs.length ≤ 8) : ofL xs < 18446744073709551616 :=
  Nat.lt_of_lt_of_le (ofL_lt xs.length xs hb rfl) (Nat.le_trans (Nat.pow_le_pow_right (by decide) h) (by decide))
theorem Byt.dropF {xs : List Int} (h : Byt xs) (k : Nat) : Byt (xs.drop k) := fun j => by have := h (k + j); simpa [List.getD_eq_getElem?_getD, List.getElem?_drop] using this
theorem rgsOf_lt : ∀ {j : Nat} {b : List Int}, Byt b → ∀ p ∈ rgsOf j b, p.1 < 18446744073709551616 ∧ p.2 < 18446744073709551616
  | 0, _, _, p, hp => by simp [rgsOf] at hp
  | j + 1, b, hb, p, hp => by
    rw [rgsOf, List.mem_cons] at hp
    rcases hp with rfl | hp
    · exact ⟨ofL_lt8 (Ck.Byt.take hb 8) (by rw [List.length_take]; omega), ofL_lt8 (Ck.Byt.take (Byt.dropF hb 8) 8) (by rw [List.length_take]; omega)⟩
    · exact rgsOf_lt (Byt.dropF hb 16) p hp
/-- What a frame's fields tell. -/
def getF (k : Int) (tok : List Int) (s r : Nat) (b : List Int) : Fr :=
  if k = 1 ∨ k = 5 then { mk3 k tok s r with tot := ofL (b.take 8), sum := (b.drop 8).take 32 }
  else if k = 2 then { mk3 k tok s r with off := ofL b }
  else if k = 3 then { mk3 k tok s r with off := ofL (b.take 8), xs := b.drop 8 }
  else if k = 4 then { mk3 k tok s r with off := ofL (b.take 8), rs := rgsOf ((b.length - 8) / 16) (b.drop 8) }
  else if k = 6 then { mk3 k tok s r with tot := ofL b }
  else { mk3 k tok s r with cd := b.getD 0 0 }
def fieldsP (k : Int) (tok : List Int) (s r : Nat) (b : List Int) : Fr × Int :=
  if b.length < need k ∨ (k = 4 ∧ b.length % 16 ≠ 8) then (nul, 4)
  else if need k < b.length ∧ k ≠ 3 ∧ k ≠ 4 then (nul, 3)
  else (getF k tok s r b, mayP (getF k tok s r b))
/-- The first j of 32 bytes, noughts behind. -/
def part8 (l : List Int) (j : Nat) : List Int := l.take j ++ List.replicate (32 - j) 0
theorem part8_len {l : List Int} {j : Nat} (h : 32 ≤ l.length) (hj : j ≤ 32) : (part8 l j).length = 32 := by unfold part8; rw [List.length_append, List.length_take, List.length_replicate]; omega
theorem part8_set {b : List Int} {j : Nat} (h : 32 ≤ (b.drop 8).length) (hj : j < 32) : (part8 (b.drop 8) j).set j (b.getD (8 + j) 0) = part8 (b.drop 8) (j + 1) := by
  unfold part8
  rw [List.set_append_right _ _ (by rw [List.length_take]; omega), List.length_take, show j - min j (b.drop 8).length = 0 from by omega, show 32 - j = (32 - (j + 1)) + 1 from by omega, List.replicate_succ, List.set_cons_zero]
  rw [List.take_add_one, show (b.drop 8)[j]? = some (b.getD (8 + j) 0) from by rw [List.getElem?_drop]; rw [List.length_drop] at h; simp [List.getD_eq_getElem?_getD, show 8 + j < b.length from by omega]]
  simp
theorem may_er {g : Fr} (hn : g.xs.length = g.n) (hm : g.rs.length = g.m) : may g = mayP (er g) := by
  unfold may mayP er
  simp only
  rw [hn, hm]
end Fm
end Go.Proofs.Ytjiafpmcibokbaa
