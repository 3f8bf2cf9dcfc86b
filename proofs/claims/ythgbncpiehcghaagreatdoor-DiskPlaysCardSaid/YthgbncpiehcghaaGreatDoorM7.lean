/- PLAIN MATHEMATICS OF LAYER 7 (blocks): how many, what is there. No Go text is named. -/
import Derived.Test.YthgbncpiehcghaaGreatDoorBase
namespace Go.Proofs.YthgbncpiehcghaaGreatDoor
open Go.RowKit
set_option linter.unusedVariables false
namespace Bk
/-- How many blocks n bytes need. -/
def cnt (n : Int) : Int := if n < 1 then 0 else if n % 512 = 0 then n / 512 else n / 512 + 1
/-- How many bytes fill n up. -/
def pad (n : Int) : Int := if n < 1 then 0 else if n % 512 = 0 then 0 else 512 - n % 512
theorem td {n : Int} (h : 0 ≤ n) : n.tdiv 512 = n / 512 := Int.tdiv_eq_ediv_of_nonneg h
theorem tm {n : Int} (h : 0 ≤ n) : n.tmod 512 = n % 512 := Int.tmod_eq_emod_of_nonneg h
theorem cnt_low {n : Int} (h : n < 1) : cnt n = 0 := if_pos h
theorem cnt_whole {n : Int} (h : 1 ≤ n) (k : n % 512 = 0) : cnt n = n / 512 := by unfold cnt; rw [if_neg (by omega), if_pos k]
theorem cnt_more {n : Int} (h : 1 ≤ n) (k : n % 512 ≠ 0) : cnt n = n / 512 + 1 := by unfold cnt; rw [if_neg (by omega), if_neg k]
theorem pad_low {n : Int} (h : n < 1) : pad n = 0 := if_pos h
theorem pad_whole {n : Int} (h : 1 ≤ n) (k : n % 512 = 0) : pad n = 0 := by unfold pad; rw [if_neg (by omega), if_pos k]
theorem pad_more {n : Int} (h : 1 ≤ n) (k : n % 512 ≠ 0) : pad n = 512 - n % 512 := by unfold pad; rw [if_neg (by omega), if_neg k]
theorem pad_bd (n : Int) : 0 ≤ pad n ∧ pad n < 512 := by unfold pad; split <;> (try split) <;> omega
theorem pad_cnt {n : Int} (h : 0 ≤ n) : n + pad n = 512 * cnt n := by unfold pad cnt; split <;> (try split) <;> omega
theorem cnt_bd {n : Int} (h : n ≤ 9223372036854775807) : 0 ≤ cnt n ∧ cnt n ≤ 18014398509481984 := by unfold cnt; split <;> (try split) <;> omega
/-- What 'has' answers: whether so many bytes have all blocks that z of them need. -/
def err (n : Nat) (z : Int) : Int := if z < 0 then 1 else if ((n / 512 : Nat) : Int) < cnt z then 4 else 0
/-- Filled up. -/
def fill (xs : List Int) : List Int := xs ++ List.replicate (pad xs.length).toNat 0
/-- The bytes that were filled up. -/
def open_ (xs : List Int) (z : Int) : List Int := if err xs.length z = 0 then xs.take z.toNat else []
/-- Whether what fills up is 0. -/
def clean (xs : List Int) (z : Int) : Bool := err xs.length z == 0 && (List.range (pad z).toNat).all fun j => xs.getD (z.toNat + j) 0 == 0
theorem err_arg {n : Nat} {z : Int} (h : z < 0) : err n z = 1 := if_pos h
theorem err_end {n : Nat} {z : Int} (h : 0 ≤ z) (k : ((n / 512 : Nat) : Int) < cnt z) : err n z = 4 := by unfold err; rw [if_neg (by omega), if_pos k]
theorem err_ok {n : Nat} {z : Int} (h : 0 ≤ z) (k : ¬ ((n / 512 : Nat) : Int) < cnt z) : err n z = 0 := by unfold err; rw [if_neg (by omega), if_neg k]
theorem err_three (n : Nat) (z : Int) : err n z = 0 ∨ err n z = 1 ∨ err n z = 4 := by unfold err; split <;> (try split) <;> simp
/-- Where it is there: how many there are. -/
theorem err_zero {n : Nat} {z : Int} (h : err n z = 0) : 0 ≤ z ∧ z + pad z ≤ n := by
  unfold err at h
  split at h
  · cases h
  · split at h
    · cases h
    · have := pad_cnt (n := z) (by omega)
      omega
theorem clean_err {xs : List Int} {z : Int} (h : err xs.length z ≠ 0) : clean xs z = false := by unfold clean; simp [h]
theorem clean_bad {xs : List Int} {z : Int} {j : Nat} (hj : (j : Int) < pad z) (h : xs.getD (z.toNat + j) 0 ≠ 0) : clean xs z = false := by
  unfold clean
  rw [Bool.and_eq_false_iff]
  right
  rw [List.all_eq_false]
  exact ⟨j, List.mem_range.2 (by omega), by simpa using h⟩
theorem clean_yes {xs : List Int} {z : Int} (h0 : err xs.length z = 0) (h : ∀ j : Nat, (j : Int) < pad z → xs.getD (z.toNat + j) 0 = 0) : clean xs z = true := by
  unfold clean
  rw [Bool.and_eq_true]
  refine ⟨by simp [h0], List.all_eq_true.2 fun j hj => ?_⟩
  have := List.mem_range.1 hj
  exact beq_iff_eq.2 (h j (by omega))
end Bk
end Go.Proofs.YthgbncpiehcghaaGreatDoor
