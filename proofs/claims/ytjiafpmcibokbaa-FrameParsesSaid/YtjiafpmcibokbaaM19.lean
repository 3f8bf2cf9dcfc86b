/- LAYER 19, plain: numbers in bytes, the highest first; ranges that rise; frames. No Go text is named. -/
import Derived.Test.YtjiafpmcibokbaaM11
namespace Go.Proofs.Ytjiafpmcibokbaa
open Go Go.RowKit
namespace Fm
/-- n in w bytes, the highest first. -/
def num : Nat → Nat → List Int
  | 0, _ => []
  | w + 1, n => num w (n / 256) ++ [((n % 256 : Nat) : Int)]
/-- The number of bytes. -/
def ofL (xs : List Int) : Nat := xs.foldl (fun n b => 256 * n + b.toNat) 0
theorem num_len : ∀ (w n : Nat), (num w n).length = w
  | 0, _ => rfl
  | w + 1, n => by simp [num, num_len w]
theorem num_byt : ∀ (w n : Nat), Byt (num w n)
  | 0, _ => Byt.nil
  | w + 1, n => (num_byt w _).append (Byt.cons (by omega) Byt.nil)
theorem ofL_snoc (xs : List Int) (x : Int) : ofL (xs ++ [x]) = 256 * ofL xs + x.toNat := by simp [ofL]
theorem ofL_num : ∀ (w n : Nat), n < 256 ^ w → ofL (num w n) = n
  | 0, n, h => by simp at h; subst h; rfl
  | w + 1, n, h => by
    rw [num, ofL_snoc, ofL_num w _ (by rw [Nat.pow_succ] at h; omega)]
    simp
    omega
theorem ofL_lt : ∀ (k : Nat) (xs : List Int), Byt xs → xs.length = k → ofL xs < 256 ^ k
  | 0, xs, _, h => by simp at h; subst h; decide
  | k + 1, xs, hb, h => by
    obtain ⟨ys, y, rfl⟩ : ∃ ys y, xs = ys ++ [y] := ⟨xs.dropLast, xs.getLast (by intro e; subst e; simp at h), (List.dropLast_concat_getLast _).symm⟩
    have hl : ys.length = k := by simpa using h
    have hy : Byt ys := fun j => by
      have := hb j
      by_cases hj : j < ys.length
      · simpa [List.getD_eq_getElem?_getD, List.getElem?_append, hj] using this
      · simp [List.getD_eq_getElem?_getD, List.getElem?_eq_none (Nat.le_of_not_lt hj)]
    have h1 := ofL_lt k ys hy hl
    have h2 := hb ys.length
    simp [List.getD_eq_getElem?_getD] at h2
    rw [ofL_snoc, Nat.pow_succ]
    omega
theorem num_ofL : ∀ (k : Nat) (xs : List Int), Byt xs → xs.length = k → num k (ofL xs) = xs
  | 0, xs, _, h => by simp at h; subst h; rfl
  | k + 1, xs, hb, h => by
    obtain ⟨ys, y, rfl⟩ : ∃ ys y, xs = ys ++ [y] := ⟨xs.dropLast, xs.getLast (by intro e; subst e; simp at h), (List.dropLast_concat_getLast _).symm⟩
    have hl : ys.length = k := by simpa using h
    have hy : Byt ys := fun j => by
      have := hb j
      by_cases hj : j < ys.length
      · simpa [List.getD_eq_getElem?_getD, List.getElem?_append, hj] using this
      · simp [List.getD_eq_getElem?_getD, List.getElem?_eq_none (Nat.le_of_not_lt hj)]
    have h2 := hb ys.length
    simp [List.getD_eq_getElem?_getD] at h2
    rw [ofL_snoc, num, show (256 * ofL ys + y.toNat) / 256 = ofL ys by omega, num_ofL k ys hy hl, show (((256 * ofL ys + y.toNat) % 256 : Nat) : Int) = y by omega]
theorem num_front : ∀ (t n : Nat), num (t + 1) n = ((n / 256 ^ t % 256 : Nat) : Int) :: num t n
  | 0, n => by simp [num]
  | t + 1, n => by
    have h := num_front t (n / 256)
    rw [num, h, num, List.cons_append, Nat.div_div_eq_div_mul, Nat.pow_succ, Nat.mul_comm 256 (256 ^ t)]
theorem set_front (m : Nat) (l : List Int) (x : Int) : (List.replicate (m + 1) 0 ++ l).set m x = List.replicate m 0 ++ x :: l := by
  rw [List.replicate_succ', List.append_assoc, List.set_append_right _ _ (by simp)]
  simp
/-- The last t bytes are laid. -/
def part (W t n : Nat) : List Int := List.replicate (W - t) 0 ++ num t n
theorem part_none (W n : Nat) : part W 0 n = List.replicate W 0 := by simp [part, num]
theorem part_all (W n : Nat) : part W W n = num W n := by simp [part]
theorem part_set {W t n : Nat} (h : t < W) : (part W t n).set (W - t - 1) ((n / 256 ^ t % 256 : Nat) : Int) = part W (t + 1) n := by
  obtain ⟨m, hm⟩ : ∃ m, W - t = m + 1 := ⟨W - t - 1, by omega⟩
  unfold part
  rw [num_front, hm, show m + 1 - 1 = m from rfl, set_front, show W - (t + 1) = m by omega]
/-- Do ranges rise above o? -/
def rise (o : Nat) : List (Nat × Nat) → Bool
  | [] => true
  | (a, b) :: l => if a ≤ o ∨ b ≤ a then false else rise b l
end Fm
end Go.Proofs.Ytjiafpmcibokbaa
