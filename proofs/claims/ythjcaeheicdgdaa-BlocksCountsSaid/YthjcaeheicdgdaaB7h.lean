/- THE WALK OF THE LAW BlocksCounts. -/
import Derived.Test.YthjcaeheicdgdaaB7g
namespace Go.Proofs.Ythjcaeheicdgdaa
open Go.RowKit
set_option maxHeartbeats 1600000
set_option maxRecDepth 100000
set_option linter.unusedVariables false
theorem counts_walk (n : Int) (w : World) (h0 : -9223372036854775808 ≤ n) (h1 : n ≤ 9223372036854775807) :
    Calls Try.prog 3 #[.int .i64 n] w fun e w' => e = .returned (.bool true) ∧ Below w.heap.size w w' := by
  have al := Lib.hid alive_any
  by_cases hb : (1152921504606846976 : Int) < n
  · go_enter Try.func3, Try.ntmps3
    go_wp2_with (go_at_call 6; (with_reducible refine (al.out _).mono ?_); rintro e w' ⟨rfl, hb⟩)
    go_ret
    exact ⟨rfl, hb⟩
  · have c1 := Lib.hid (fun W => count_any n W h0 h1)
    have c2 := Lib.hid (fun W => refcount_any n W h0 h1)
    have pd := Lib.hid (fun W => pad_any n W h0 h1)
    by_cases hl : n < 1
    · rw [Bk.cnt_low hl] at c1 c2
      rw [Bk.pad_low hl] at pd
      go_enter Try.func3, Try.ntmps3
      go_wp2_with (first | (go_at_call 6; (with_reducible refine (al.out _).mono ?_); rintro e w' ⟨rfl, hb⟩) | (go_at_call 8; (with_reducible refine (c1.out _).mono ?_); rintro e w' ⟨rfl, rfl⟩) | (go_at_call 7; (with_reducible refine (c2.out _).mono ?_); rintro e w' ⟨rfl, rfl⟩) | (go_at_call 9; (with_reducible refine (pd.out _).mono ?_); rintro e w' ⟨rfl, rfl⟩))
      go_ret
      exact ⟨rfl, hb⟩
    · have e := Bk.pad_cnt (n := n) (by omega)
      have b1 := Bk.pad_bd n
      generalize Bk.cnt n = q at *
      generalize Bk.pad n = p at *
      have hl2 : 1 ≤ n := by omega
      have s1 : IntKind.i64.wrap (512 * q) = 512 * q := IntWalk.i64_in _ (by omega)
      have s2 : IntKind.i64.wrap (512 * q - n) = p := by rw [IntWalk.i64_in _ (by omega)]; omega
      have s3 : IntKind.i64.wrap p = p := IntWalk.i64_in _ (by omega)
      clear e
      go_enter Try.func3, Try.ntmps3
      go_wp2_with (first | (go_at_call 6; (with_reducible refine (al.out _).mono ?_); rintro e w' ⟨rfl, hb⟩) | (go_at_call 8; (with_reducible refine (c1.out _).mono ?_); rintro e w' ⟨rfl, rfl⟩) | (go_at_call 7; (with_reducible refine (c2.out _).mono ?_); rintro e w' ⟨rfl, rfl⟩) | (go_at_call 9; (with_reducible refine (pd.out _).mono ?_); rintro e w' ⟨rfl, rfl⟩))
      go_ret
      exact ⟨rfl, hb⟩
end Go.Proofs.Ythjcaeheicdgdaa
