/- LAYER 19, the document's answers, second part: far, may. gen_r19b.py -/
import Derived.Test.YtjiafpmcibokbaaN19
namespace Go.Proofs.Ytjiafpmcibokbaa
open Go Go.RowKit
set_option maxHeartbeats 2000000
set_option maxRecDepth 100000
set_option linter.unusedVariables false
attribute [-go_sem] loadCellsFrom storeCells Instr.build
attribute [local go_sem] storeCells_one
namespace Fm
def far (f : Fr) : Bool := decide (600 < f.n) || decide (20 < f.m)
def mayE (k : Int) (n m : Nat) (cd : Int) (ri : Bool) : Int := if k < 1 ∨ 7 < k then 11 else if k = 3 ∧ n = 0 then 4 else if k = 3 ∧ 256 < n then 10 else if k = 4 ∧ 4 < m then 5 else if (k = 4 ∧ ri = false) ∨ (k = 7 ∧ (cd < 1 ∨ 99 < cd)) then 3 else 0
def may (f : Fr) : Int := mayE f.k f.n f.m f.cd (rise f.off f.rs)
end Fm
theorem far_any19 (f : Fm.Fr) (w : World) (hl : f.ln) :
    Calls Try.prog 7 #[.agg (Fm.FC f)] w fun e w' => e = .returned (.bool (Fm.far f)) ∧ Below w.heap.size w w' := by
  have hb := FB.of (BX.new w 31 (Fm.FC f)) hl
  obtain ⟨_, _, _, _, _, c53, c54, _, _, _, _, _⟩ := hb
  have HB := Lib.hid ((Below.refl w.heap.size w).alloc (Nat.le_refl _) (.cells (Fm.FC f) 31))
  obtain ⟨Z, hZ⟩ : ∃ Z, Fm.far f = Z := ⟨_, rfl⟩
  rw [hZ]
  unfold Fm.far at hZ
  have HZ := Lib.hid hZ
  clear hZ
  by_cases h1 : 600 < f.n
  · have E : Hid (Z = true) := show _ = _ by rw [← HZ.out]; simp [h1]
    have h1' : (600 : Int) < f.n := by omega
    go_enter Try.func7, Try.ntmps7
    go_wp2
    all_goals (go_ret; exact ⟨by rw [E.out]; rfl, HB.out⟩)
  · have E : Hid (Z = decide (20 < f.m)) := show _ = _ by rw [← HZ.out]; simp [h1]
    have h1' : ¬ (600 : Int) < f.n := by omega
    by_cases h2 : 20 < f.m
    · have h2' : (20 : Int) < f.m := by omega
      go_enter Try.func7, Try.ntmps7
      go_wp2
      all_goals (go_ret; exact ⟨by rw [E.out, decide_eq_true h2]; rfl, HB.out⟩)
    · have h2' : ¬ (20 : Int) < f.m := by omega
      go_enter Try.func7, Try.ntmps7
      go_wp2
      all_goals (go_ret; exact ⟨by rw [E.out, decide_eq_false h2]; rfl, HB.out⟩)
theorem refmay_any19 (f : Fm.Fr) (w : World) (hl : f.ln) (hr : RG w w.heap.size f.RA f.m f.rs) (hm : f.m ≤ 1000000) :
    Calls Try.prog 27 #[.agg (Fm.FC f)] w fun e w' => e = .returned (.int .i64 (Fm.may f)) ∧ Below w.heap.size w w' := by
  have hb := FB.of (BX.new w 31 (Fm.FC f)) hl
  obtain ⟨c0, _, _, c19, _, c53, c54, c55, _, _, _, _⟩ := hb
  have HB := Lib.hid ((Below.refl w.heap.size w).alloc (Nat.le_refl _) (.cells (Fm.FC f) 31))
  have RI := Lib.hid (refrise_any f.off f.RA f.m f.rc f.rs _ ((hr.below HB.out).more HB.out.size) hm)
  unfold Fm.may
  obtain ⟨ri, hri⟩ : ∃ ri, Fm.rise f.off f.rs = ri := ⟨_, rfl⟩
  rw [hri] at RI ⊢
  generalize f.k = k at *
  generalize f.n = n at *
  generalize f.m = m at *
  generalize f.cd = cd at *
  obtain ⟨Z, hZ⟩ : ∃ Z, Fm.mayE k n m cd ri = Z := ⟨_, rfl⟩
  rw [hZ]
  have HZ := Lib.hid hZ
  clear hZ hr hri
  by_cases h1 : k < 1
  · have E : Hid (Z = 11) := show _ = _ by rw [← HZ.out]; unfold Fm.mayE; (try simp) <;> (try simp [h1]) <;> (try omega)
    go_enter Try.func27, Try.ntmps27
    go_wp2
    all_goals (go_ret; exact ⟨by rw [E.out]; rfl, HB.out⟩)
  by_cases h2 : 7 < k
  · have E : Hid (Z = 11) := show _ = _ by rw [← HZ.out]; unfold Fm.mayE; (try simp) <;> (try simp [h2]) <;> (try omega)
    go_enter Try.func27, Try.ntmps27
    go_wp2
    all_goals (go_ret; exact ⟨by rw [E.out]; rfl, HB.out⟩)
  by_cases h3 : k = 3
  · subst h3
    by_cases n0 : n = 0
    · subst n0
      have E : Hid (Z = 4) := show _ = _ by rw [← HZ.out]; unfold Fm.mayE; (try simp) <;> (try simp []) <;> (try omega)
      go_enter Try.func27, Try.ntmps27
      go_wp2
      all_goals (go_ret; exact ⟨by rw [E.out]; rfl, HB.out⟩)
    · have n0' : ¬ (n : Int) = 0 := by omega
      by_cases n1 : 256 < n
      · have n1' : (256 : Int) < n := by omega
        have E : Hid (Z = 10) := show _ = _ by rw [← HZ.out]; unfold Fm.mayE; (try simp) <;> (try simp [n0, n1]) <;> (try omega)
        go_enter Try.func27, Try.ntmps27
        go_wp2
        all_goals (go_ret; exact ⟨by rw [E.out]; rfl, HB.out⟩)
      · have n1' : ¬ (256 : Int) < n := by omega
        have E : Hid (Z = 0) := show _ = _ by rw [← HZ.out]; unfold Fm.mayE; (try simp) <;> (try simp [n0, n1]) <;> (try omega)
        go_enter Try.func27, Try.ntmps27
        go_wp2
        all_goals (go_ret; exact ⟨by rw [E.out]; rfl, HB.out⟩)
  by_cases h4 : k = 4
  · subst h4
    by_cases m4 : 4 < m
    · have m4' : (4 : Int) < m := by omega
      have E : Hid (Z = 5) := show _ = _ by rw [← HZ.out]; unfold Fm.mayE; (try simp) <;> (try simp [m4]) <;> (try omega)
      go_enter Try.func27, Try.ntmps27
      go_wp2
      all_goals (go_ret; exact ⟨by rw [E.out]; rfl, HB.out⟩)
    · have m4' : ¬ (4 : Int) < m := by omega
      cases ri
      · have E : Hid (Z = 3) := show _ = _ by rw [← HZ.out]; unfold Fm.mayE; (try simp) <;> (try simp [m4]) <;> (try omega)
        go_enter Try.func27, Try.ntmps27
        go_wp2_with (go_at_call 17; (with_reducible refine RI.out.mono ?_); rintro e w1 ⟨rfl, nr, rfl⟩)
        all_goals (go_ret; exact ⟨by rw [E.out]; rfl, below_drewN HB.out _⟩)
      · have E : Hid (Z = 0) := show _ = _ by rw [← HZ.out]; unfold Fm.mayE; (try simp) <;> (try simp [m4]) <;> (try omega)
        go_enter Try.func27, Try.ntmps27
        go_wp2_with (go_at_call 17; (with_reducible refine RI.out.mono ?_); rintro e w1 ⟨rfl, nr, rfl⟩)
        all_goals (go_ret; exact ⟨by rw [E.out]; rfl, below_drewN HB.out _⟩)
  by_cases h7 : k = 7
  · subst h7
    by_cases d1 : cd < 1
    · have E : Hid (Z = 3) := show _ = _ by rw [← HZ.out]; unfold Fm.mayE; (try simp) <;> (try simp [d1]) <;> (try omega)
      go_enter Try.func27, Try.ntmps27
      go_wp2
      all_goals (go_ret; exact ⟨by rw [E.out]; rfl, HB.out⟩)
    · by_cases d2 : 99 < cd
      · have E : Hid (Z = 3) := show _ = _ by rw [← HZ.out]; unfold Fm.mayE; (try simp) <;> (try simp [d2]) <;> (try omega)
        go_enter Try.func27, Try.ntmps27
        go_wp2
        all_goals (go_ret; exact ⟨by rw [E.out]; rfl, HB.out⟩)
      · have E : Hid (Z = 0) := show _ = _ by rw [← HZ.out]; unfold Fm.mayE; (try simp) <;> (try simp [d1, d2]) <;> (try omega)
        go_enter Try.func27, Try.ntmps27
        go_wp2
        all_goals (go_ret; exact ⟨by rw [E.out]; rfl, HB.out⟩)
  · have E : Hid (Z = 0) := show _ = _ by rw [← HZ.out]; unfold Fm.mayE; (try simp) <;> (try simp [h1, h2, h3, h4, h7]) <;> (try omega)
    go_enter Try.func27, Try.ntmps27
    go_wp2
    all_goals (go_ret; exact ⟨by rw [E.out]; rfl, HB.out⟩)
end Go.Proofs.Ytjiafpmcibokbaa
