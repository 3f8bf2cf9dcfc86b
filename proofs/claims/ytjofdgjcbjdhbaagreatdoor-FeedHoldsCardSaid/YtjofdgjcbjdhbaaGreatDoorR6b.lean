/- WALKS OF LAYER 6, SECOND PART: recs.May, body, Len, One; the reference's May, digits, One. -/
import Derived.Test.YtjofdgjcbjdhbaaGreatDoorR6a
import Derived.Test.YtjofdgjcbjdhbaaGreatDoorGn6
import Derived.Lib.AppendIntMem
namespace Go.Proofs.YtjofdgjcbjdhbaaGreatDoor
open Go Go.RowKit
set_option linter.unusedVariables false
set_option maxHeartbeats 1000000
/-- THE TABLE OF POWERS OF TEN, as the program's text lays it. -/
def Tab (w : World) : Prop := Lib.TabIs Tryz.prog w "internal/strconv.uint64pow10" .u64 Lib.pow10Tab
theorem Tab.on {w w' : World} (h : Tab w) (hb : Below w.heap.size w w') : Tab w' := Lib.tabBelow_of_tabIs h w' hb
theorem itoa_any (n : Nat) (hn : n ≤ 1000000) (w : World) (tb : Tab w) :
    Calls Tryz.prog 141 #[.int .i64 n] w fun e w' => e = .returned (.string (Rc.S (Lib.decDigits n))) ∧ Below w.heap.size w w' := by
  refine (Tryz.strconv_Itoa n (by omega) (by omega) w tb).mono ?_
  rintro e w' ⟨rfl, k, os, rfl⟩
  exact ⟨by rw [Lib.itoa_nonneg]; rfl, Lib.below_grow _ _ (Nat.le_refl _) _ _⟩
theorem empty_iff (s : ByteArray) : s.toList.isEmpty = decide (s.size = 0) := by
  rw [Lib.toList_data]
  cases h : s.data.toList with
  | nil => have := Rc.size_eq s; rw [h] at this; simp at this; simp [this]
  | cons a l => have := Rc.size_eq s; rw [h] at this; simp at this; simp [this]
set_option maxRecDepth 100000 in
theorem isKey_any (s : ByteArray) (w : World) :
    Calls Tryz.prog 160 #[.string s] w fun e w' => e = .returned (.bool (Rc.kOk s.data.toList)) ∧ Below w.heap.size w w' := by
  have hemp := empty_iff s
  by_cases h0 : s.size = 0
  · rw [decide_eq_true h0] at hemp
    have hk : Rc.kOk s.data.toList = false := by unfold Rc.kOk; rw [← Rc.size_eq, h0]; rfl
    rw [hk]
    clear hk
    go_enter Tryz.func160, Tryz.ntmps160
    go_wp2
    go_ret
    exact ⟨rfl, Below.refl _ _⟩
  · rw [decide_eq_false h0] at hemp
    by_cases h1 : s.size ≤ 60
    · have hk : Rc.kOk s.data.toList = !(s.data.toList.any Rc.bad) := by unfold Rc.kOk; rw [← Rc.size_eq, decide_eq_true (by omega), decide_eq_true h1]; rfl
      have K := Lib.hid (hasany_any s (by omega))
      rw [hk]
      clear hk
      generalize s.data.toList.any Rc.bad = b at *
      have h1' : (s.size : Int) ≤ 60 := by omega
      go_enter Tryz.func160, Tryz.ntmps160
      go_wp2_with (go_at_call 176; (with_reducible refine (K.out _).mono ?_); rintro e w' ⟨rfl, hb⟩)
      go_ret
      exact ⟨rfl, hb⟩
    · have hk : Rc.kOk s.data.toList = false := by unfold Rc.kOk; rw [← Rc.size_eq, decide_eq_false h1]; simp
      have h1' : ¬ (s.size : Int) ≤ 60 := by omega
      rw [hk]
      clear hk
      go_enter Tryz.func160, Tryz.ntmps160
      go_wp2
      go_ret
      exact ⟨rfl, Below.refl _ _⟩
end Go.Proofs.YtjofdgjcbjdhbaaGreatDoor
