/- WALKS OF LAYER 8, FIRST PART: the small calls of memb, of its reference and of the laws. -/
import Derived.Test.YtjhigkkkfkahdaaGreatDoorM8
import Derived.Test.YtjhigkkkfkahdaaGreatDoorGv2
import Derived.Test.YtjhigkkkfkahdaaGreatDoorGy2
import Derived.Test.YtjhigkkkfkahdaaGreatDoorGr6
import Derived.Test.YtjhigkkkfkahdaaGreatDoorBx
import Derived.Laws.StructEq
namespace Go.Proofs.YtjhigkkkfkahdaaGreatDoor
open Go Go.RowKit
set_option maxHeartbeats 1600000
set_option maxRecDepth 100000
set_option linter.unusedVariables false
theorem mtype_any (k : Int) (w : World) : Calls Tryz.prog 28 #[.int .i64 k] w fun e w' => e = .returned (.int .u8 (Mb.typ k)) ∧ w = w' := by
  by_cases h1 : k = 1
  · subst h1
    go_enter Tryz.func28, Tryz.ntmps28
    go_wp2
    go_ret
    exact ⟨rfl, rfl⟩
  by_cases h2 : k = 2
  · subst h2
    go_enter Tryz.func28, Tryz.ntmps28
    go_wp2
    go_ret
    exact ⟨rfl, rfl⟩
  by_cases h3 : k = 3
  · subst h3
    go_enter Tryz.func28, Tryz.ntmps28
    go_wp2
    go_ret
    exact ⟨rfl, rfl⟩
  by_cases h4 : k = 4
  · subst h4
    go_enter Tryz.func28, Tryz.ntmps28
    go_wp2
    go_ret
    exact ⟨rfl, rfl⟩
  have e : Mb.typ k = 0 := by unfold Mb.typ; rw [if_neg h1, if_neg h2, if_neg h3, if_neg h4]
  rw [e]
  have e1 : (k == 1) = false := by simp [h1]
  have e2 : (k == 2) = false := by simp [h2]
  have e3 : (k == 3) = false := by simp [h3]
  have e4 : (k == 4) = false := by simp [h4]
  clear e h1 h2 h3 h4
  go_enter Tryz.func28, Tryz.ntmps28
  go_wp2
  go_ret
  exact ⟨rfl, rfl⟩
theorem mkind_any (k : Int) (w : World) : Calls Tryz.prog 29 #[.int .u8 k] w fun e w' => e = .returned (.int .i64 (Mb.kin k)) ∧ w = w' := by
  by_cases h1 : k = 48
  · subst h1
    go_enter Tryz.func29, Tryz.ntmps29
    go_wp2
    go_ret
    exact ⟨rfl, rfl⟩
  by_cases h2 : k = 49
  · subst h2
    go_enter Tryz.func29, Tryz.ntmps29
    go_wp2
    go_ret
    exact ⟨rfl, rfl⟩
  by_cases h3 : k = 50
  · subst h3
    go_enter Tryz.func29, Tryz.ntmps29
    go_wp2
    go_ret
    exact ⟨rfl, rfl⟩
  by_cases h4 : k = 53
  · subst h4
    go_enter Tryz.func29, Tryz.ntmps29
    go_wp2
    go_ret
    exact ⟨rfl, rfl⟩
  have e : Mb.kin k = 0 := by unfold Mb.kin; rw [if_neg h1, if_neg h2, if_neg h3, if_neg h4]
  rw [e]
  have e1 : (k == 48) = false := by simp [h1]
  have e2 : (k == 49) = false := by simp [h2]
  have e3 : (k == 50) = false := by simp [h3]
  have e4 : (k == 53) = false := by simp [h4]
  clear e h1 h2 h3 h4
  go_enter Tryz.func29, Tryz.ntmps29
  go_wp2
  go_ret
  exact ⟨rfl, rfl⟩
theorem refmtype_any (k : Int) (w : World) (k0 : -9223372036854775808 ≤ k) (k1 : k ≤ 9223372036854775807) :
    Calls Tryz.prog 58 #[.int .i64 k] w fun e w' => e = .returned (.int .u8 (Mb.typ k)) ∧ Below w.heap.size w w' := by
  by_cases h : 1 ≤ k ∧ k ≤ 4
  · have : k = 1 ∨ k = 2 ∨ k = 3 ∨ k = 4 := by omega
    rcases this with rfl | rfl | rfl | rfl
    all_goals
      go_enter Tryz.func58, Tryz.ntmps58
      go_wp2
      go_ret
      exact ⟨rfl, (Below.refl _ _).alloc (Nat.le_refl _) _⟩
  · have e : Mb.typ k = 0 := by unfold Mb.typ; rw [if_neg (by omega), if_neg (by omega), if_neg (by omega), if_neg (by omega)]
    rw [e]
    clear e
    by_cases h1 : k < 1
    · clear h
      go_enter Tryz.func58, Tryz.ntmps58
      go_wp2
      go_ret
      exact ⟨rfl, Below.refl _ _⟩
    · have h2 : 4 < k := by omega
      clear h
      go_enter Tryz.func58, Tryz.ntmps58
      go_wp2
      go_ret
      exact ⟨rfl, Below.refl _ _⟩
theorem kin_here {k c : Int} (h1 : 1 ≤ k) (h4 : k ≤ 4) (h : Mb.typ k = c) : Mb.kin c = k := by rw [← h]; exact (Mb.typ_is h1 h4).2.2.2
theorem kin_none {c : Int} (h : ∀ k, 1 ≤ k → k ≤ 4 → Mb.typ k ≠ c) : Mb.kin c = 0 := by
  have h1 := h 1 (by omega) (by omega)
  have h2 := h 2 (by omega) (by omega)
  have h3 := h 3 (by omega) (by omega)
  have h4 := h 4 (by omega) (by omega)
  simp only [show Mb.typ 1 = 48 from rfl, show Mb.typ 2 = 49 from rfl, show Mb.typ 3 = 50 from rfl, show Mb.typ 4 = 53 from rfl] at h1 h2 h3 h4
  unfold Mb.kin
  rw [if_neg (fun e => h1 e.symm), if_neg (fun e => h2 e.symm), if_neg (fun e => h3 e.symm), if_neg (fun e => h4 e.symm)]
theorem refmkind_any (c : Int) (w : World) : Calls Tryz.prog 36 #[.int .u8 c] w fun e w' => e = .returned (.int .i64 (Mb.kin c)) ∧ Below w.heap.size w w' := by
  go_enter Tryz.func36, Tryz.ntmps36
  go_wp2
  go_loopw [3] (fun i wr => ∃ j : Nat, 1 ≤ j ∧ j ≤ 5 ∧ i = .int .i64 j ∧ Hid (∀ q : Int, 1 ≤ q → q < j → Mb.typ q ≠ c) ∧ Below w.heap.size w wr) (fun i _ => 5 - (intOf i).toNat)
  case atStart => exact ⟨1, by omega, by omega, rfl, (show ∀ q : Int, 1 ≤ q → q < 1 → Mb.typ q ≠ c from fun q a b => absurd b (by omega)), Below.refl _ _⟩
  case round =>
    obtain ⟨j, h1, h5, rfl, HQ, hb⟩ := hrel
    by_cases hj : j ≤ 4
    · have hj' : (j : Int) ≤ 4 := by omega
      have ct := fun W => refmtype_any (j : Int) W (by omega) (by omega)
      by_cases ht : Mb.typ (j : Int) = c
      · have e := kin_here (by omega) hj' ht
        have E := Lib.hid e
        rw [ht] at ct
        have CT := Lib.hid ct
        clear e ct ht
        go_wp2_with (go_at_call 58; (with_reducible refine (CT.out _).mono ?_); rintro e w2 ⟨rfl, hb2⟩)
        go_ret
        exact ⟨by rw [E.out]; rfl, bthen hb hb2⟩
      · have hx := HQ.out
        have HN := Lib.hid (show ∀ q : Int, 1 ≤ q → q < ((j + 1 : Nat) : Int) → Mb.typ q ≠ c from fun q a b => by
          by_cases hq : q = j
          · rw [hq]; exact ht
          · exact hx q a (by omega))
        generalize Mb.typ (j : Int) = tt at *
        have g : (tt == c) = false := by simp [ht]
        have CT := Lib.hid ct
        clear hx ht ct
        go_wp2_with (go_at_call 58; (with_reducible refine (CT.out _).mono ?_); rintro e w2 ⟨rfl, hb2⟩)
        go_roundw
        case rel => exact ⟨j + 1, by omega, by omega, by go_num, HN.out, bthen hb hb2⟩
        case measure => simp [intOf]; omega
    · have hj' : ¬ (j : Int) ≤ 4 := by omega
      have E := Lib.hid (kin_none (c := c) fun k a b => HQ.out k a (by omega))
      go_wp2
      go_ret
      exact ⟨by rw [E.out]; rfl, hb⟩
theorem mwithin_any (z a b : Int) (w : World) : Calls Tryz.prog 82 #[.int .i64 z, .int .i64 a, .int .i64 b] w fun e w' => e = .returned (.bool (decide (a ≤ z) && decide (z ≤ b))) ∧ w = w' := by
  by_cases h1 : a ≤ z
  · by_cases h2 : z ≤ b
    · go_enter Tryz.func82, Tryz.ntmps82
      go_wp2
      go_ret
      refine ⟨ret_bool ?_, rfl⟩
      simp [h1, h2]
    · go_enter Tryz.func82, Tryz.ntmps82
      go_wp2
      go_ret
      refine ⟨ret_bool ?_, rfl⟩
      simp [h2]
  · go_enter Tryz.func82, Tryz.ntmps82
    go_wp2
    go_ret
    refine ⟨ret_bool ?_, rfl⟩
    simp
    try omega
theorem mmeta_any (m u g t : Int) (w : World) : Calls Tryz.prog 56 #[.agg #[.int .i64 m, .int .i64 u, .int .i64 g, .int .i64 t]] w fun e w' => e = .returned (.bool (Mb.numOk m u g t)) ∧ Below w.heap.size w w' := by
  have e : Mb.numOk m u g t = ((decide (0 ≤ m) && decide (m ≤ 4095)) && ((decide (0 ≤ u) && decide (u ≤ 1099511627775)) && ((decide (0 ≤ g) && decide (g ≤ 1099511627775)) && (decide (-1125899906842624 ≤ t) && decide (t ≤ 1125899906842624))))) := by
    unfold Mb.numOk
    simp only [Bool.and_assoc]
  have cm := fun W => mwithin_any m 0 4095 W
  have cu := fun W => mwithin_any u 0 1099511627775 W
  have cg := fun W => mwithin_any g 0 1099511627775 W
  have ct := fun W => mwithin_any t (-1125899906842624) 1125899906842624 W
  rw [e]
  clear e
  generalize (decide (0 ≤ m) && decide (m ≤ 4095)) = bm at *
  generalize (decide (0 ≤ u) && decide (u ≤ 1099511627775)) = bu at *
  generalize (decide (0 ≤ g) && decide (g ≤ 1099511627775)) = bg at *
  generalize (decide (-1125899906842624 ≤ t) && decide (t ≤ 1125899906842624)) = bt at *
  have CM := Lib.hid cm; have CU := Lib.hid cu; have CG := Lib.hid cg; have CT := Lib.hid ct
  clear cm cu cg ct
  go_enter Tryz.func56, Tryz.ntmps56
  cases bm <;> cases bu <;> cases bg
  all_goals
    go_wp2_with (first
      | (go_at_call 82; (with_reducible refine (CM.out _).mono ?_); rintro e w1 ⟨rfl, rfl⟩)
      | (go_at_call 82; (with_reducible refine (CU.out _).mono ?_); rintro e w1 ⟨rfl, rfl⟩)
      | (go_at_call 82; (with_reducible refine (CG.out _).mono ?_); rintro e w1 ⟨rfl, rfl⟩)
      | (go_at_call 82; (with_reducible refine (CT.out _).mono ?_); rintro e w1 ⟨rfl, rfl⟩))
    go_ret
    exact ⟨rfl, (Below.refl _ _).alloc (Nat.le_refl _) _⟩
theorem refmmeta_any (m u g t : Int) (w : World) : Calls Tryz.prog 60 #[.agg #[.int .i64 m, .int .i64 u, .int .i64 g, .int .i64 t]] w fun e w' => e = .returned (.bool (Mb.numOk m u g t)) ∧ Below w.heap.size w w' := by
  have e : Mb.numOk m u g t = (decide (0 ≤ m) && decide (m ≤ 4095) && decide (0 ≤ u) && decide (u ≤ 1099511627775) && decide (0 ≤ g) && decide (g ≤ 1099511627775) && decide (-1125899906842624 ≤ t) && decide (t ≤ 1125899906842624)) := rfl
  rw [e]
  clear e
  go_enter Tryz.func60, Tryz.ntmps60
  go_wp2
  all_goals
    go_ret
    refine ⟨ret_bool ?_, (Below.refl _ _).alloc (Nat.le_refl _) _⟩
    simp_all
    try omega
theorem mfirst_any (s : ByteArray) (w : World) (hs : s.size ≤ 1000000) : Calls Tryz.prog 66 #[.string s] w fun e w' => e = .returned (.string (Mb.first s)) ∧ w = w' := by
  by_cases h : s.size ≤ 100
  · have e := Lib.hid (Mb.first_all h)
    have h' : min (s.size : Int) 100 = s.size := by omega
    have x : s.extract 0 s.size = s := Pp.ext_all s
    have h2 : (s.size : Int) ≤ 100 := by omega
    go_enter Tryz.func66, Tryz.ntmps66
    go_wp2
    go_ret
    refine ⟨?_, rfl⟩
    rw [e.out]
    first | rfl | (rw [x]) | simp [x]
  · have e := Lib.hid (show Mb.first s = s.extract 0 100 by unfold Mb.first; rw [show min s.size 100 = 100 by omega])
    have h' : min (s.size : Int) 100 = 100 := by omega
    have h2 : ¬ (s.size : Int) ≤ 100 := by omega
    have h3 : (100 : Nat) ≤ s.size := by omega
    go_enter Tryz.func66, Tryz.ntmps66
    go_wp2
    go_ret
    exact ⟨by rw [e.out]; rfl, rfl⟩
end Go.Proofs.YtjhigkkkfkahdaaGreatDoor
