/- WALKS OF LAYER 7, SECOND PART: what is there; a copy; filled up; opened; clean; the end; and the reference's. -/
import Derived.Test.YthgbncpiehcghaaGreatDoorB7a
import Derived.Test.YthgbncpiehcghaaGreatDoorAp
namespace Go.Proofs.YthgbncpiehcghaaGreatDoor
open Go.RowKit
set_option maxHeartbeats 400000
set_option maxRecDepth 100000
set_option linter.unusedVariables false
theorem bclone_any (A : Option Addr) (n c : Nat) (xs : List Int) (w : World) (ha : RB w w.heap.size A n xs) (hn : n ≤ 1000000) :
    Calls Tryz.prog 122 #[.slice A n c] w fun e w' => ∃ v, e = .returned v ∧ OBn w' w.heap.size 5 v n xs ∧ Below w.heap.size w w' := by
  obtain ⟨i0, hi, hz0, hz1, hz2⟩ := info_parts info_u8
  have q22 : ∀ (w : World) (a : Option Addr) (n c n' c' : Nat), (binOp .eql 36 (.slice a n c) (.slice none n' c')).run Tryz.prog w = .ok (.bool a.isNone) w := fun w a n c n' c' => Lib.run_eql_slice_nil w _ _ a n c n' c' Tryz.underlying36
  cases A with
  | none =>
    have h0 : n = 0 := by
      rcases Nat.eq_zero_or_pos n with h | h
      · exact h
      · obtain ⟨_, _, e, _⟩ := ha.2 h
        cases e
    have hx := ha.none0 h0
    subst hx h0
    clear ha
    go_enter Tryz.func122, Tryz.ntmps122
    go_wp2
    go_ret
    exact ⟨_, rfl, World.ownsRow_nil _ _ _ _, Below.refl _ _⟩
  | some a =>
    have hal : RB (w.alloc (.cells #[] 5)) w.heap.size (some a) n xs := ha.alloc (Nat.le_refl _) _
    have HAL := Lib.hid hal
    clear hal ha
    go_enter Tryz.func122, Tryz.ntmps122
    go_wp2_with (at_builtin; obtain ⟨v', w1, hrun, hown, hgrow⟩ := run_append_rb (P := Tryz.prog) w.heap.size w.heap.size 36 36 5 i0 Tryz.underlying36 hi hz0 hz1 hz2 _ 0 [] (World.ownsRow_made w #[] 0 (Nat.le_refl _) (Nat.zero_le _) rfl) (some a) n c xs HAL.out (by omega) (by simp); refine Lib.wpList_append_run _ rfl _ _ 36 36 rfl _ _ rfl rfl _ _ hrun ?_)
    go_ret
    refine ⟨v', rfl, by simpa using hown, ?_⟩
    exact ((Below.refl _ w).alloc (Nat.le_refl _) _).grown hgrow (by simp) (by intro k hk; simp [Value.ownBlock] at hk; omega)
end Go.Proofs.YthgbncpiehcghaaGreatDoor
