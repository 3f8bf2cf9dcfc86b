/- WALKS OF LAYER 7 (blocks), FIRST PART: how many blocks, how many bytes fill up; what is there; a copy; filled up. -/
import Derived.Test.YtlgfinlgghcgnaaGreatDoorCm
import Derived.Test.YtlgfinlgghcgnaaGreatDoorOb
import Derived.Test.YtlgfinlgghcgnaaGreatDoorM7
namespace Go.Proofs.YtlgfinlgghcgnaaGreatDoor
open Go.RowKit
set_option maxHeartbeats 400000
set_option maxRecDepth 100000
set_option linter.unusedVariables false
theorem pad_any (n : Int) (w : World) (h0 : -9223372036854775808 ≤ n) (h1 : n ≤ 9223372036854775807) :
    Calls Tryz.prog 257 #[.int .i64 n] w fun e w' => e = .returned (.int .i64 (Bk.pad n)) ∧ w = w' := by
  by_cases h : n < 1
  · have E := Lib.hid (Bk.pad_low h)
    go_enter Tryz.func257, Tryz.ntmps257
    go_wp2
    go_ret
    exact ⟨ret_int E.out.symm, rfl⟩
  · have t2 := Bk.tm (n := n) (by omega)
    have t3' : IntKind.i64.wrap (n % 512) = n % 512 := IntWalk.i64_in _ (by omega)
    by_cases k : n % 512 = 0
    · have E := Lib.hid (Bk.pad_whole (by omega) k)
      go_enter Tryz.func257, Tryz.ntmps257
      go_wp2
      go_ret
      exact ⟨ret_int E.out.symm, rfl⟩
    · have E := Lib.hid (Bk.pad_more (by omega) k)
      have t3 : (n % 512 == 0) = false := by simp [k]
      have t5 : IntKind.i64.wrap (512 - n % 512) = 512 - n % 512 := IntWalk.i64_in _ (by omega)
      clear k
      go_enter Tryz.func257, Tryz.ntmps257
      go_wp2
      go_ret
      exact ⟨ret_int E.out.symm, rfl⟩
end Go.Proofs.YtlgfinlgghcgnaaGreatDoor
