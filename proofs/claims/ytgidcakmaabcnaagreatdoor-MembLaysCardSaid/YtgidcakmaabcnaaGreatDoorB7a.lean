/- WALKS OF LAYER 7 (blocks), FIRST PART: how many blocks, how many bytes fill up; what is there; a copy; filled up. -/
import Derived.Test.YtgidcakmaabcnaaGreatDoorCm
import Derived.Test.YtgidcakmaabcnaaGreatDoorOb
namespace Go.Proofs.YtgidcakmaabcnaaGreatDoor
open Go.RowKit
set_option maxHeartbeats 400000
set_option maxRecDepth 100000
set_option linter.unusedVariables false
namespace Bk
/-- How many blocks n bytes need. -/
def cnt (n : Int) : Int := if n < 1 then 0 else if n % 512 = 0 then n / 512 else n / 512 + 1
/-- How many bytes fill n up. -/
def pad (n : Int) : Int := if n < 1 then 0 else if n % 512 = 0 then 0 else 512 - n % 512
theorem td {n : Int} (h : 0 ≤ n) : n.tdiv 512 = n / 512 := Int.tdiv_eq_ediv_of_nonneg h
theorem tm {n : Int} (h : 0 ≤ n) : n.tmod 512 = n % 512 := Int.tmod_eq_emod_of_nonneg h
theorem cnt_low {n : Int} (h : n < 1) : cnt n = 0 := if_pos h
theorem cnt_whole {n : Int} (h : 1 ≤ n) (k : n % 512 = 0) : cnt n = n / 512 := by unfold cnt; rw [if_neg (by omega), if_pos k]
theorem cnt_more {n : Int} (h : 1 ≤ n) (k : n % 512 ≠ 0) : cnt n = n / 512 + 1 := by unfold cnt; rw [if_neg (by omega), if_neg k]
theorem pad_low {n : Int} (h : n < 1) : pad n = 0 := if_pos h
theorem pad_whole {n : Int} (h : 1 ≤ n) (k : n % 512 = 0) : pad n = 0 := by unfold pad; rw [if_neg (by omega), if_pos k]
theorem pad_more {n : Int} (h : 1 ≤ n) (k : n % 512 ≠ 0) : pad n = 512 - n % 512 := by unfold pad; rw [if_neg (by omega), if_neg k]
theorem pad_bd (n : Int) : 0 ≤ pad n ∧ pad n < 512 := by unfold pad; split <;> (try split) <;> omega
theorem pad_cnt {n : Int} (h : 0 ≤ n) : n + pad n = 512 * cnt n := by unfold pad cnt; split <;> (try split) <;> omega
theorem cnt_bd {n : Int} (h : n ≤ 9223372036854775807) : 0 ≤ cnt n ∧ cnt n ≤ 18014398509481984 := by unfold cnt; split <;> (try split) <;> omega
end Bk
theorem pad_any (n : Int) (w : World) (h0 : -9223372036854775808 ≤ n) (h1 : n ≤ 9223372036854775807) :
    Calls Tryz.prog 79 #[.int .i64 n] w fun e w' => e = .returned (.int .i64 (Bk.pad n)) ∧ w = w' := by
  by_cases h : n < 1
  · have E := Lib.hid (Bk.pad_low h)
    go_enter Tryz.func79, Tryz.ntmps79
    go_wp2
    go_ret
    exact ⟨ret_int E.out.symm, rfl⟩
  · have t2 := Bk.tm (n := n) (by omega)
    have t3' : IntKind.i64.wrap (n % 512) = n % 512 := IntWalk.i64_in _ (by omega)
    by_cases k : n % 512 = 0
    · have E := Lib.hid (Bk.pad_whole (by omega) k)
      go_enter Tryz.func79, Tryz.ntmps79
      go_wp2
      go_ret
      exact ⟨ret_int E.out.symm, rfl⟩
    · have E := Lib.hid (Bk.pad_more (by omega) k)
      have t3 : (n % 512 == 0) = false := by simp [k]
      have t5 : IntKind.i64.wrap (512 - n % 512) = 512 - n % 512 := IntWalk.i64_in _ (by omega)
      clear k
      go_enter Tryz.func79, Tryz.ntmps79
      go_wp2
      go_ret
      exact ⟨ret_int E.out.symm, rfl⟩
end Go.Proofs.YtgidcakmaabcnaaGreatDoor
