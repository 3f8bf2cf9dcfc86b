/- WALKS OF LAYER 13, TWENTY-THIRD PART: act, on a tree that nobody made. -/
import Derived.Test.YtihaeggeeeihnaaDoorG13v
namespace Go.Proofs.YtihaeggeeeihnaaDoor
set_option linter.unusedVariables false
open Go Go.RowKit Go.Maps
set_option maxRecDepth 100000
set_option maxHeartbeats 8000000
/-- A step's cells. -/
abbrev StC (kd : Int) (p q : ByteArray) (a b c d : Int) (A : Option Addr) (n k : Nat) : Array Value := #[.int .u8 kd, .string p, .string q, .int .i64 a, .int .i64 b, .int .i64 c, .int .i64 d, .slice A n k]
theorem act_nob {w : World} {V : Value} (h : Nob w V) (kd : Int) (p q : ByteArray) (a b c d : Int) (A : Option Addr) (n k : Nat) :
    Calls Tryd.prog 12 #[V, .agg (StC kd p q a b c d A n k)] w fun e w' => e = .returned (.int .i64 2) ∧ Below w.heap.size w w' := by
  have hb := bthen (below_new w (.cells (StC kd p q a b c d A n k) 27)) (below_new _ (.cells #[.int .i64 a, .int .i64 b, .int .i64 c, .int .i64 d] 51))
  have HB := Lib.hid hb
  have HN := Lib.hid (h.later hb)
  obtain ⟨r, hr⟩ : ∃ r, kd.tmod 10 = r := ⟨_, rfl⟩
  by_cases h0 : r = 0
  · subst h0
    have g0 : (kd.tmod 10 == 0) = true := by simp [hr]
    have kk := Lib.hid (mkdir_nob HN.out p a b c d)
    clear h hb hr
    go_enter Tryd.func12, Tryd.ntmps12
    go_wp2_with (go_at_call 19; refine kk.out.mono ?_; rintro e w1 ⟨rfl, hb1⟩)
    go_ret
    exact ⟨rfl, bthen HB.out hb1⟩
  by_cases h1 : r = 1
  · subst h1
    have g1 : (kd.tmod 10 == 1) = true := by simp [hr]
    have g0 : (kd.tmod 10 == 0) = false := by simp [hr]
    have kk := Lib.hid (create_nob HN.out p a b c d A n k)
    clear h hb hr
    go_enter Tryd.func12, Tryd.ntmps12
    go_wp2_with (go_at_call 20; refine kk.out.mono ?_; rintro e w1 ⟨rfl, hb1⟩)
    go_ret
    exact ⟨rfl, bthen HB.out hb1⟩
  by_cases h2 : r = 2
  · subst h2
    have g2 : (kd.tmod 10 == 2) = true := by simp [hr]
    have g0 : (kd.tmod 10 == 0) = false := by simp [hr]
    have g1 : (kd.tmod 10 == 1) = false := by simp [hr]
    have kk := Lib.hid (sym_nob HN.out p a b c d q)
    clear h hb hr
    go_enter Tryd.func12, Tryd.ntmps12
    go_wp2_with (go_at_call 25; refine kk.out.mono ?_; rintro e w1 ⟨rfl, hb1⟩)
    go_ret
    exact ⟨rfl, bthen HB.out hb1⟩
  by_cases h3 : r = 3
  · subst h3
    have g3 : (kd.tmod 10 == 3) = true := by simp [hr]
    have g0 : (kd.tmod 10 == 0) = false := by simp [hr]
    have g1 : (kd.tmod 10 == 1) = false := by simp [hr]
    have g2 : (kd.tmod 10 == 2) = false := by simp [hr]
    have kk := Lib.hid (link_nob HN.out p q)
    clear h hb hr
    go_enter Tryd.func12, Tryd.ntmps12
    go_wp2_with (go_at_call 21; refine kk.out.mono ?_; rintro e w1 ⟨rfl, hb1⟩)
    go_ret
    exact ⟨rfl, bthen HB.out hb1⟩
  by_cases h4 : r = 4
  · subst h4
    have g4 : (kd.tmod 10 == 4) = true := by simp [hr]
    have g0 : (kd.tmod 10 == 0) = false := by simp [hr]
    have g1 : (kd.tmod 10 == 1) = false := by simp [hr]
    have g2 : (kd.tmod 10 == 2) = false := by simp [hr]
    have g3 : (kd.tmod 10 == 3) = false := by simp [hr]
    have kk := Lib.hid (write_nob HN.out p A n k)
    clear h hb hr
    go_enter Tryd.func12, Tryd.ntmps12
    go_wp2_with (go_at_call 26; refine kk.out.mono ?_; rintro e w1 ⟨rfl, hb1⟩)
    go_ret
    exact ⟨rfl, bthen HB.out hb1⟩
  by_cases h5 : r = 5
  · subst h5
    have g5 : (kd.tmod 10 == 5) = true := by simp [hr]
    have g0 : (kd.tmod 10 == 0) = false := by simp [hr]
    have g1 : (kd.tmod 10 == 1) = false := by simp [hr]
    have g2 : (kd.tmod 10 == 2) = false := by simp [hr]
    have g3 : (kd.tmod 10 == 3) = false := by simp [hr]
    have g4 : (kd.tmod 10 == 4) = false := by simp [hr]
    have kk := Lib.hid (set_nob HN.out p a b c d)
    clear h hb hr
    go_enter Tryd.func12, Tryd.ntmps12
    go_wp2_with (go_at_call 27; refine kk.out.mono ?_; rintro e w1 ⟨rfl, hb1⟩)
    go_ret
    exact ⟨rfl, bthen HB.out hb1⟩
  by_cases h6 : r = 6
  · subst h6
    have g6 : (kd.tmod 10 == 6) = true := by simp [hr]
    have g0 : (kd.tmod 10 == 0) = false := by simp [hr]
    have g1 : (kd.tmod 10 == 1) = false := by simp [hr]
    have g2 : (kd.tmod 10 == 2) = false := by simp [hr]
    have g3 : (kd.tmod 10 == 3) = false := by simp [hr]
    have g4 : (kd.tmod 10 == 4) = false := by simp [hr]
    have g5 : (kd.tmod 10 == 5) = false := by simp [hr]
    have kk := Lib.hid (remove_nob HN.out p)
    clear h hb hr
    go_enter Tryd.func12, Tryd.ntmps12
    go_wp2_with (go_at_call 22; refine kk.out.mono ?_; rintro e w1 ⟨rfl, hb1⟩)
    go_ret
    exact ⟨rfl, bthen HB.out hb1⟩
  by_cases h7 : r = 7
  · subst h7
    have g7 : (kd.tmod 10 == 7) = true := by simp [hr]
    have g0 : (kd.tmod 10 == 0) = false := by simp [hr]
    have g1 : (kd.tmod 10 == 1) = false := by simp [hr]
    have g2 : (kd.tmod 10 == 2) = false := by simp [hr]
    have g3 : (kd.tmod 10 == 3) = false := by simp [hr]
    have g4 : (kd.tmod 10 == 4) = false := by simp [hr]
    have g5 : (kd.tmod 10 == 5) = false := by simp [hr]
    have g6 : (kd.tmod 10 == 6) = false := by simp [hr]
    have kk := Lib.hid (clear_nob HN.out p)
    clear h hb hr
    go_enter Tryd.func12, Tryd.ntmps12
    go_wp2_with (go_at_call 14; refine kk.out.mono ?_; rintro e w1 ⟨rfl, hb1⟩)
    go_ret
    exact ⟨rfl, bthen HB.out hb1⟩
  have g0 : (kd.tmod 10 == 0) = false := by simp [hr, h0]
  have g1 : (kd.tmod 10 == 1) = false := by simp [hr, h1]
  have g2 : (kd.tmod 10 == 2) = false := by simp [hr, h2]
  have g3 : (kd.tmod 10 == 3) = false := by simp [hr, h3]
  have g4 : (kd.tmod 10 == 4) = false := by simp [hr, h4]
  have g5 : (kd.tmod 10 == 5) = false := by simp [hr, h5]
  have g6 : (kd.tmod 10 == 6) = false := by simp [hr, h6]
  have g7 : (kd.tmod 10 == 7) = false := by simp [hr, h7]
  have kk := Lib.hid (rename_nob HN.out p q)
  clear h hb hr
  go_enter Tryd.func12, Tryd.ntmps12
  go_wp2_with (go_at_call 23; refine kk.out.mono ?_; rintro e w1 ⟨rfl, hb1⟩)
  go_ret
  exact ⟨rfl, bthen HB.out hb1⟩
end Go.Proofs.YtihaeggeeeihnaaDoor
