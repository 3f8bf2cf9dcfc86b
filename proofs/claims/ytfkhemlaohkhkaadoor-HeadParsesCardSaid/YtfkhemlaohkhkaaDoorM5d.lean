/- PLAIN MATHEMATICS OF LAYER 5, FOURTH PART: the errors of what is read, one behind the other. No Go text is named. -/
import Derived.Test.YtfkhemlaohkhkaaDoorM5b
namespace Go.Proofs.YtfkhemlaohkhkaaDoor
open Go.RowKit
namespace Hh
def frl : List Nat := [100, 108, 116, 124, 136]
def tol : List Nat := [108, 116, 124, 136, 148]
/-- The number of a field that is read, with the error's number. -/
def gld (xs : List Int) (j : Nat) : Int × Int := Nf.getS (sub xs (frl.getD j 0) (tol.getD j 0 - frl.getD j 0))
theorem ends (j : Nat) (hj : j < 5) : frl.getD j 0 + 8 ≤ tol.getD j 0 ∧ tol.getD j 0 ≤ 148 := by
  match j, hj with
  | 0, _ => decide
  | 1, _ => decide
  | 2, _ => decide
  | 3, _ => decide
  | 4, _ => decide
theorem parE_m (xs : List Int) (hc : Hs.checkS xs = 0) (hm : ¬ sub xs 257 8 = magic) : parE xs = 3 := by
  unfold parE; rw [if_pos hc, if_neg hm]
theorem parE_c (xs : List Int) (hc : Hs.checkS xs ≠ 0) : parE xs = Hs.checkS xs := by
  unfold parE; rw [if_neg hc]
theorem parE_p (xs : List Int) (hc : Hs.checkS xs = 0) (hm : sub xs 257 8 = magic) (h0 : (Sf.getS (sub xs 345 155)).2 ≠ 0) : parE xs = (Sf.getS (sub xs 345 155)).2 := by
  unfold parE; rw [if_pos hc, if_pos hm, if_neg h0]
theorem parE_n (xs : List Int) (hc : Hs.checkS xs = 0) (hm : sub xs 257 8 = magic) (h0 : (Sf.getS (sub xs 345 155)).2 = 0) (h1 : (Sf.getS (sub xs 0 100)).2 ≠ 0) : parE xs = (Sf.getS (sub xs 0 100)).2 := by
  unfold parE; rw [if_pos hc, if_pos hm, if_pos h0, if_neg h1]
theorem parE_l (xs : List Int) (hc : Hs.checkS xs = 0) (hm : sub xs 257 8 = magic) (h0 : (Sf.getS (sub xs 345 155)).2 = 0) (h1 : (Sf.getS (sub xs 0 100)).2 = 0) (h2 : (Sf.getS (sub xs 157 100)).2 ≠ 0) : parE xs = (Sf.getS (sub xs 157 100)).2 := by
  unfold parE; rw [if_pos hc, if_pos hm, if_pos h0, if_pos h1, if_neg h2]
theorem parE_at (xs : List Int) (hc : Hs.checkS xs = 0) (hm : sub xs 257 8 = magic) (h0 : (Sf.getS (sub xs 345 155)).2 = 0) (h1 : (Sf.getS (sub xs 0 100)).2 = 0) (h2 : (Sf.getS (sub xs 157 100)).2 = 0)
    (j : Nat) (hj : j < 5) (ok : ∀ i, i < j → (gld xs i).2 = 0) (he : (gld xs j).2 ≠ 0) : parE xs = (gld xs j).2 := by
  unfold parE
  rw [if_pos hc, if_pos hm, if_pos h0, if_pos h1, if_pos h2]
  match j, hj, ok, he with
  | 0, _, ok, he => rw [if_neg (show ¬ (Nf.getS (sub xs 100 8)).2 = 0 from he)]; rfl
  | 1, _, ok, he => rw [if_pos (show (Nf.getS (sub xs 100 8)).2 = 0 from ok 0 (by omega)), if_neg (show ¬ (Nf.getS (sub xs 108 8)).2 = 0 from he)]; rfl
  | 2, _, ok, he => rw [if_pos (show (Nf.getS (sub xs 100 8)).2 = 0 from ok 0 (by omega)), if_pos (show (Nf.getS (sub xs 108 8)).2 = 0 from ok 1 (by omega)), if_neg (show ¬ (Nf.getS (sub xs 116 8)).2 = 0 from he)]; rfl
  | 3, _, ok, he => rw [if_pos (show (Nf.getS (sub xs 100 8)).2 = 0 from ok 0 (by omega)), if_pos (show (Nf.getS (sub xs 108 8)).2 = 0 from ok 1 (by omega)), if_pos (show (Nf.getS (sub xs 116 8)).2 = 0 from ok 2 (by omega)), if_neg (show ¬ (Nf.getS (sub xs 124 12)).2 = 0 from he)]; rfl
  | 4, _, ok, he => rw [if_pos (show (Nf.getS (sub xs 100 8)).2 = 0 from ok 0 (by omega)), if_pos (show (Nf.getS (sub xs 108 8)).2 = 0 from ok 1 (by omega)), if_pos (show (Nf.getS (sub xs 116 8)).2 = 0 from ok 2 (by omega)), if_pos (show (Nf.getS (sub xs 124 12)).2 = 0 from ok 3 (by omega)), if_neg (show ¬ (Nf.getS (sub xs 136 12)).2 = 0 from he)]; rfl
theorem parE_end (xs : List Int) (hc : Hs.checkS xs = 0) (hm : sub xs 257 8 = magic) (h0 : (Sf.getS (sub xs 345 155)).2 = 0) (h1 : (Sf.getS (sub xs 0 100)).2 = 0) (h2 : (Sf.getS (sub xs 157 100)).2 = 0)
    (ok : ∀ i, i < 5 → (gld xs i).2 = 0) : parE xs = if isT (kindOf xs) = true then if bel (gld xs 0).1 (gld xs 1).1 (gld xs 2).1 (gld xs 3).1 = true then 10 else 0 else 11 := by
  unfold parE
  rw [if_pos hc, if_pos hm, if_pos h0, if_pos h1, if_pos h2, if_pos (show (Nf.getS (sub xs 100 8)).2 = 0 from ok 0 (by omega)), if_pos (show (Nf.getS (sub xs 108 8)).2 = 0 from ok 1 (by omega)), if_pos (show (Nf.getS (sub xs 116 8)).2 = 0 from ok 2 (by omega)), if_pos (show (Nf.getS (sub xs 124 12)).2 = 0 from ok 3 (by omega)), if_pos (show (Nf.getS (sub xs 136 12)).2 = 0 from ok 4 (by omega))]
  rfl
theorem parV_bad (xs : List Int) (h : parE xs ≠ 0) : parV xs = hdr ⟨#[]⟩ ⟨#[]⟩ ⟨#[]⟩ 0 0 0 0 0 0 := by
  unfold parV; rw [if_neg h]
theorem parV_ok (xs : List Int) (h : parE xs = 0) : parV xs = hdr (strOfNums (Sf.getS (sub xs 345 155)).1) (strOfNums (Sf.getS (sub xs 0 100)).1) (strOfNums (Sf.getS (sub xs 157 100)).1) (gld xs 0).1 (gld xs 1).1 (gld xs 2).1 (gld xs 4).1 (gld xs 3).1 (kindOf xs) := by
  unfold parV; rw [if_pos h]; rfl
/-- The cells of the five numbers, j of them read. -/
def arr5 (xs : List Int) (j : Nat) : Array Value := #[.int .i64 (if 0 < j then (gld xs 0).1 else 0), .int .i64 (if 1 < j then (gld xs 1).1 else 0), .int .i64 (if 2 < j then (gld xs 2).1 else 0), .int .i64 (if 3 < j then (gld xs 3).1 else 0), .int .i64 (if 4 < j then (gld xs 4).1 else 0)]
theorem arr5_set (xs : List Int) (j : Nat) (hj : j < 5) : (arr5 xs j).setIfInBounds j (.int .i64 (gld xs j).1) = arr5 xs (j + 1) := by
  match j, hj with
  | 0, _ => rfl
  | 1, _ => rfl
  | 2, _ => rfl
  | 3, _ => rfl
  | 4, _ => rfl
theorem arr5_get (xs : List Int) (j i : Nat) (hi : i < 5) : ∃ v, (arr5 xs j)[i]? = some v := by
  match i, hi with
  | 0, _ => exact ⟨_, rfl⟩
  | 1, _ => exact ⟨_, rfl⟩
  | 2, _ => exact ⟨_, rfl⟩
  | 3, _ => exact ⟨_, rfl⟩
  | 4, _ => exact ⟨_, rfl⟩
end Hh
end Go.Proofs.YtfkhemlaohkhkaaDoor
