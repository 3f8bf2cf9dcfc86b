/- WALKS OF LAYER 5, FIRST PART: the small calls of head, of its reference and of the laws. -/
import Derived.Test.YtjofdgjcbjdhbaaGreatDoorCm
import Derived.Test.YtjofdgjcbjdhbaaGreatDoorGm5
import Derived.Test.YtjofdgjcbjdhbaaGreatDoorGv2
import Derived.Laws.StructEq
namespace Go.Proofs.YtjofdgjcbjdhbaaGreatDoor
open Go.RowKit
set_option maxHeartbeats 400000
set_option maxRecDepth 100000
theorem hist_any (k : Int) (w : World) : Calls Tryz.prog 110 #[.int .u8 k] w fun e w' => e = .returned (.bool (Hh.isT k)) ∧ w = w' := by
  by_cases h0 : k = 48
  · subst h0
    go_enter Tryz.func110, Tryz.ntmps110
    go_wp2
    go_ret
    exact ⟨rfl, rfl⟩
  by_cases h1 : k = 49
  · subst h1
    go_enter Tryz.func110, Tryz.ntmps110
    go_wp2
    go_ret
    exact ⟨rfl, rfl⟩
  by_cases h2 : k = 50
  · subst h2
    go_enter Tryz.func110, Tryz.ntmps110
    go_wp2
    go_ret
    exact ⟨rfl, rfl⟩
  by_cases h3 : k = 53
  · subst h3
    go_enter Tryz.func110, Tryz.ntmps110
    go_wp2
    go_ret
    exact ⟨rfl, rfl⟩
  by_cases h4 : k = 120
  · subst h4
    go_enter Tryz.func110, Tryz.ntmps110
    go_wp2
    go_ret
    exact ⟨rfl, rfl⟩
  by_cases h5 : k = 103
  · subst h5
    go_enter Tryz.func110, Tryz.ntmps110
    go_wp2
    go_ret
    exact ⟨rfl, rfl⟩
  have e : Hh.isT k = false := by simp [Hh.isT, h0, h1, h2, h3, h4, h5]
  rw [e]
  have e0 : (k == 48) = false := by simp [h0]
  have e1 : (k == 49) = false := by simp [h1]
  have e2 : (k == 50) = false := by simp [h2]
  have e3 : (k == 53) = false := by simp [h3]
  have e4 : (k == 120) = false := by simp [h4]
  have e5 : (k == 103) = false := by simp [h5]
  clear e h0 h1 h2 h3 h4 h5
  go_enter Tryz.func110, Tryz.ntmps110
  go_wp2
  go_ret
  exact ⟨rfl, rfl⟩
theorem refhist_any (k : Int) (w : World) : Calls Tryz.prog 68 #[.int .u8 k] w fun e w' => e = .returned (.bool (Hh.isT k)) ∧ w = w' := by
  go_enter Tryz.func68, Tryz.ntmps68
  go_wp2
  all_goals
    go_ret
    refine ⟨ret_bool ?_, rfl⟩
    simp_all [Hh.isT]
theorem hrd_any (k : Int) (w : World) : Calls Tryz.prog 109 #[.int .u8 k] w fun e w' => e = .returned (.int .u8 (Hh.rd k)) ∧ w = w' := by
  by_cases h : k = 0
  · subst h
    go_enter Tryz.func109, Tryz.ntmps109
    go_wp2
    go_ret
    exact ⟨rfl, rfl⟩
  · have e : Hh.rd k = k := by unfold Hh.rd; rw [if_neg h]
    rw [e]
    have e0 : (k == 0) = false := by simp [h]
    clear e h
    go_enter Tryz.func109, Tryz.ntmps109
    go_wp2
    go_ret
    exact ⟨rfl, rfl⟩
theorem hbel_any (p nm l : ByteArray) (m u g t z k : Int) (w : World) : Calls Tryz.prog 111 #[.agg #[.string p, .string nm, .int .i64 m, .int .i64 u, .int .i64 g, .int .i64 t, .int .i64 z, .int .u8 k, .string l]] w fun e w' => e = .returned (.bool (Hh.bel m u g z)) ∧ Below w.heap.size w w' := by
  have e : Hh.bel m u g z = (decide (m < 0) || decide (u < 0) || decide (g < 0) || decide (z < 0)) := rfl
  rw [e]
  clear e
  go_enter Tryz.func111, Tryz.ntmps111
  go_wp2
  all_goals
    go_ret
    refine ⟨ret_bool ?_, (Below.refl _ _).alloc (Nat.le_refl _) _⟩
    simp_all
theorem refhbel_any (p nm l : ByteArray) (m u g t z k : Int) (w : World) : Calls Tryz.prog 71 #[.agg #[.string p, .string nm, .int .i64 m, .int .i64 u, .int .i64 g, .int .i64 t, .int .i64 z, .int .u8 k, .string l]] w fun e w' => e = .returned (.bool (Hh.bel m u g z)) ∧ Below w.heap.size w w' := by
  have e : Hh.bel m u g z = (decide (m < 0) || decide (u < 0) || decide (g < 0) || decide (z < 0)) := rfl
  rw [e]
  clear e
  go_enter Tryz.func71, Tryz.ntmps71
  go_wp2
  all_goals
    go_ret
    refine ⟨ret_bool ?_, (Below.refl _ _).alloc (Nat.le_refl _) _⟩
    simp_all
theorem dec600 (n : Nat) : decide ((600 : Int) < n) = decide (600 < n) := decide_eq_decide.2 (by omega)
theorem hpath_any (p nm l : ByteArray) (m u g t z k : Int) (w : World) (hp : p.size ≤ 1000000) (hn : nm.size ≤ 1000000) :
    Calls Tryz.prog 126 #[.agg #[.string p, .string nm, .int .i64 m, .int .i64 u, .int .i64 g, .int .i64 t, .int .i64 z, .int .u8 k, .string l]] w fun e w' => e = .returned (.string (if p.size = 0 then nm else p ++ ⟨#[47]⟩ ++ nm)) ∧ Below w.heap.size w w' := by
  have c := fun W => join_any p nm W hp hn
  generalize (if p.size = 0 then nm else p ++ ⟨#[47]⟩ ++ nm) = r at *
  have C := Lib.hid c; clear c
  go_enter Tryz.func126, Tryz.ntmps126
  go_wp2_with (go_at_call 151; (with_reducible refine (C.out _).mono ?_); rintro e w' ⟨rfl, rfl⟩)
  go_ret
  exact ⟨rfl, (Below.refl _ _).alloc (Nat.le_refl _) _⟩
theorem toList_ne {a b : ByteArray} (h : ¬ a.toList = b.toList) : ¬ a = b := fun e => h (by rw [e])
theorem toList_eq' {a b : ByteArray} (h : a.toList = b.toList) : a = b := by
  rw [ByteArray.toList_eq, ByteArray.toList_eq] at h
  exact ByteArray.ext (Array.toList_inj.1 h)
theorem toList_iff (a b : ByteArray) : (a.toList = b.toList) = (a = b) := propext ⟨toList_eq', fun h => by rw [h]⟩
end Go.Proofs.YtjofdgjcbjdhbaaGreatDoor
