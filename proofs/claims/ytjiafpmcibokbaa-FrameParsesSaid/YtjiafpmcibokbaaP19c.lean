/- LAYER 19, frame, third part: may, fieldsOf. gen_p19c.py -/
import Derived.Test.YtjiafpmcibokbaaP19b
namespace Go.Proofs.Ytjiafpmcibokbaa
open Go Go.RowKit
set_option maxHeartbeats 2000000
set_option maxRecDepth 100000
set_option linter.unusedVariables false
attribute [-go_sem] loadCellsFrom storeCells Instr.build
attribute [local go_sem] storeCells_one
theorem may_any19 (f : Fm.Fr) (w : World) (hl : f.ln) (hr : RG w w.heap.size f.RA f.m f.rs) (hm : f.m ≤ 1000000) :
    Calls Try.prog 22 #[.agg (Fm.FC f)] w fun e w' => e = .returned (.int .i64 (Fm.may f)) ∧ Below w.heap.size w w' := by
  have bF := BX.new w 42 (Fm.FC f)
  have hb := FB.of bF hl
  obtain ⟨c0, _, _, c19, _, c53, c54, c55, _, _, _, _⟩ := hb
  have HB := Lib.hid ((Below.refl w.heap.size w).alloc (Nat.le_refl _) (.cells (Fm.FC f) 42))
  have RI := Lib.hid (rise_any19 f.off f.RA f.m f.rc f.rs _ ((hr.below HB.out).more HB.out.size) hm)
  have LT := Lib.hid (fun W (h : Below (w.alloc (.cells (Fm.FC f) 42)).heap.size (w.alloc (.cells (Fm.FC f) 42)) W) => (FB.of (bF.later h) hl).c0)
  have LB := Lib.hid (fun W (h : Below (w.alloc (.cells (Fm.FC f) 42)).heap.size (w.alloc (.cells (Fm.FC f) 42)) W) => HB.out.trans (h.mono HB.out.size))
  clear bF
  unfold Fm.may
  obtain ⟨ri, hri⟩ : ∃ ri, Fm.rise f.off f.rs = ri := ⟨_, rfl⟩
  rw [hri] at RI ⊢
  generalize f.k = k at *
  generalize f.n = n at *
  generalize f.m = m at *
  generalize f.cd = cd at *
  obtain ⟨Z, hZ⟩ : ∃ Z, Fm.mayE k n m cd ri = Z := ⟨_, rfl⟩
  rw [hZ]
  have HZ := Lib.hid hZ
  clear hZ hr hri
  by_cases h1 : k < 1
  · have E : Hid (Z = 11) := show _ = _ by rw [← HZ.out]; unfold Fm.mayE; (try simp) <;> (try simp [h1]) <;> (try omega)
    have K17 : Fm.isk k = false := by unfold Fm.isk; (try decide) <;> (try (simp; omega))
    go_enter Try.func22, Try.ntmps22
    go_wp2_with (go_at_call 42; (with_reducible refine (iskind_any19 _ _).mono ?_); rintro e w0 ⟨rfl, rfl⟩)
    all_goals (go_ret; exact ⟨by rw [E.out]; rfl, HB.out⟩)
  by_cases h2 : 7 < k
  · have E : Hid (Z = 11) := show _ = _ by rw [← HZ.out]; unfold Fm.mayE; (try simp) <;> (try simp [h2]) <;> (try omega)
    have K17 : Fm.isk k = false := by unfold Fm.isk; (try decide) <;> (try (simp; omega))
    go_enter Try.func22, Try.ntmps22
    go_wp2_with (go_at_call 42; (with_reducible refine (iskind_any19 _ _).mono ?_); rintro e w0 ⟨rfl, rfl⟩)
    all_goals (go_ret; exact ⟨by rw [E.out]; rfl, HB.out⟩)
  by_cases h3 : k = 3
  · subst h3
    by_cases n0 : n = 0
    · subst n0
      have E : Hid (Z = 4) := show _ = _ by rw [← HZ.out]; unfold Fm.mayE; (try simp) <;> (try simp []) <;> (try omega)
      have K17 : Fm.isk (3 : Int) = true := by unfold Fm.isk; (try decide) <;> (try (simp; omega))
      go_enter Try.func22, Try.ntmps22
      go_wp2_with (go_at_call 42; (with_reducible refine (iskind_any19 _ _).mono ?_); rintro e w0 ⟨rfl, rfl⟩)
      all_goals (go_ret; exact ⟨by rw [E.out]; rfl, HB.out⟩)
    · have n0' : ¬ (n : Int) = 0 := by omega
      by_cases n1 : 256 < n
      · have n1' : (256 : Int) < n := by omega
        have E : Hid (Z = 10) := show _ = _ by rw [← HZ.out]; unfold Fm.mayE; (try simp) <;> (try simp [n0, n1]) <;> (try omega)
        have K17 : Fm.isk (3 : Int) = true := by unfold Fm.isk; (try decide) <;> (try (simp; omega))
        go_enter Try.func22, Try.ntmps22
        go_wp2_with (go_at_call 42; (with_reducible refine (iskind_any19 _ _).mono ?_); rintro e w0 ⟨rfl, rfl⟩)
        all_goals (go_ret; exact ⟨by rw [E.out]; rfl, HB.out⟩)
      · have n1' : ¬ (256 : Int) < n := by omega
        have E : Hid (Z = 0) := show _ = _ by rw [← HZ.out]; unfold Fm.mayE; (try simp) <;> (try simp [n0, n1]) <;> (try omega)
        have K17 : Fm.isk (3 : Int) = true := by unfold Fm.isk; (try decide) <;> (try (simp; omega))
        go_enter Try.func22, Try.ntmps22
        go_wp2_with (go_at_call 42; (with_reducible refine (iskind_any19 _ _).mono ?_); rintro e w0 ⟨rfl, rfl⟩)
        all_goals (go_ret; exact ⟨by rw [E.out]; rfl, HB.out⟩)
  by_cases h4 : k = 4
  · subst h4
    by_cases m4 : 4 < m
    · have m4' : (4 : Int) < m := by omega
      have E : Hid (Z = 5) := show _ = _ by rw [← HZ.out]; unfold Fm.mayE; (try simp) <;> (try simp [m4]) <;> (try omega)
      have K17 : Fm.isk (4 : Int) = true := by unfold Fm.isk; (try decide) <;> (try (simp; omega))
      go_enter Try.func22, Try.ntmps22
      go_wp2_with (go_at_call 42; (with_reducible refine (iskind_any19 _ _).mono ?_); rintro e w0 ⟨rfl, rfl⟩)
      all_goals (go_ret; exact ⟨by rw [E.out]; rfl, HB.out⟩)
    · have m4' : ¬ (4 : Int) < m := by omega
      cases ri
      · have E : Hid (Z = 3) := show _ = _ by rw [← HZ.out]; unfold Fm.mayE; (try simp) <;> (try simp [m4]) <;> (try omega)
        have K17 : Fm.isk (4 : Int) = true := by unfold Fm.isk; (try decide) <;> (try (simp; omega))
        go_enter Try.func22, Try.ntmps22
        go_wp2_with (first | (go_at_call 42; (with_reducible refine (iskind_any19 _ _).mono ?_); rintro e w0 ⟨rfl, rfl⟩) | (go_at_call 16; (with_reducible refine RI.out.mono ?_); rintro e w1 ⟨rfl, hb1⟩; have d0 := LT.out _ hb1; have HB1 := Lib.hid (LB.out _ hb1); clear hb1))
        all_goals (go_ret; exact ⟨by rw [E.out]; rfl, HB1.out⟩)
      · have E : Hid (Z = 0) := show _ = _ by rw [← HZ.out]; unfold Fm.mayE; (try simp) <;> (try simp [m4]) <;> (try omega)
        have K17 : Fm.isk (4 : Int) = true := by unfold Fm.isk; (try decide) <;> (try (simp; omega))
        go_enter Try.func22, Try.ntmps22
        go_wp2_with (first | (go_at_call 42; (with_reducible refine (iskind_any19 _ _).mono ?_); rintro e w0 ⟨rfl, rfl⟩) | (go_at_call 16; (with_reducible refine RI.out.mono ?_); rintro e w1 ⟨rfl, hb1⟩; have d0 := LT.out _ hb1; have HB1 := Lib.hid (LB.out _ hb1); clear hb1))
        all_goals (go_ret; exact ⟨by rw [E.out]; rfl, HB1.out⟩)
  by_cases h7 : k = 7
  · subst h7
    by_cases d1 : cd < 1
    · have E : Hid (Z = 3) := show _ = _ by rw [← HZ.out]; unfold Fm.mayE; (try simp) <;> (try simp [d1]) <;> (try omega)
      have K17 : Fm.isk (7 : Int) = true := by unfold Fm.isk; (try decide) <;> (try (simp; omega))
      go_enter Try.func22, Try.ntmps22
      go_wp2_with (go_at_call 42; (with_reducible refine (iskind_any19 _ _).mono ?_); rintro e w0 ⟨rfl, rfl⟩)
      all_goals (go_ret; exact ⟨by rw [E.out]; rfl, HB.out⟩)
    · by_cases d2 : 99 < cd
      · have E : Hid (Z = 3) := show _ = _ by rw [← HZ.out]; unfold Fm.mayE; (try simp) <;> (try simp [d2]) <;> (try omega)
        have K17 : Fm.isk (7 : Int) = true := by unfold Fm.isk; (try decide) <;> (try (simp; omega))
        go_enter Try.func22, Try.ntmps22
        go_wp2_with (go_at_call 42; (with_reducible refine (iskind_any19 _ _).mono ?_); rintro e w0 ⟨rfl, rfl⟩)
        all_goals (go_ret; exact ⟨by rw [E.out]; rfl, HB.out⟩)
      · have E : Hid (Z = 0) := show _ = _ by rw [← HZ.out]; unfold Fm.mayE; (try simp) <;> (try simp [d1, d2]) <;> (try omega)
        have K17 : Fm.isk (7 : Int) = true := by unfold Fm.isk; (try decide) <;> (try (simp; omega))
        go_enter Try.func22, Try.ntmps22
        go_wp2_with (go_at_call 42; (with_reducible refine (iskind_any19 _ _).mono ?_); rintro e w0 ⟨rfl, rfl⟩)
        all_goals (go_ret; exact ⟨by rw [E.out]; rfl, HB.out⟩)
  · have E : Hid (Z = 0) := show _ = _ by rw [← HZ.out]; unfold Fm.mayE; (try simp) <;> (try simp [h1, h2, h3, h4, h7]) <;> (try omega)
    have K17 : Fm.isk k = true := by unfold Fm.isk; (try decide) <;> (try (simp; omega))
    go_enter Try.func22, Try.ntmps22
    go_wp2_with (go_at_call 42; (with_reducible refine (iskind_any19 _ _).mono ?_); rintro e w0 ⟨rfl, rfl⟩)
    all_goals (go_ret; exact ⟨by rw [E.out]; rfl, HB.out⟩)
/-- A kind's fields, by their numbers. -/
def Fm.fl (k : Int) : List Int := if k = 1 ∨ k = 5 then [1, 2] else if k = 2 then [0] else if k = 3 then [0, 3] else if k = 4 then [0, 4] else if k = 6 then [1] else if k = 7 then [5] else []
theorem Fm.fl_in {k : Int} {j : Nat} (h : j < (Fm.fl k).length) : 0 ≤ (Fm.fl k).getD j 0 ∧ (Fm.fl k).getD j 0 ≤ 5 := by
  unfold Fm.fl at h ⊢
  split at h
  · rename_i e; rw [if_pos e]; have : j = 0 ∨ j = 1 := by simp at h; omega
    rcases this with rfl | rfl <;> simp
  rename_i e; rw [if_neg e]
  split at h
  · rename_i e; rw [if_pos e]; have : j = 0 := by simp at h; omega
    subst this; simp
  rename_i e; rw [if_neg e]
  split at h
  · rename_i e; rw [if_pos e]; have : j = 0 ∨ j = 1 := by simp at h; omega
    rcases this with rfl | rfl <;> simp
  rename_i e; rw [if_neg e]
  split at h
  · rename_i e; rw [if_pos e]; have : j = 0 ∨ j = 1 := by simp at h; omega
    rcases this with rfl | rfl <;> simp
  rename_i e; rw [if_neg e]
  split at h
  · rename_i e; rw [if_pos e]; have : j = 0 := by simp at h; omega
    subst this; simp
  rename_i e; rw [if_neg e]
  split at h
  · rename_i e; rw [if_pos e]; have : j = 0 := by simp at h; omega
    subst this; simp
  · simp at h
/-- A slice of fields. -/
def IL (w : World) (A : Option Addr) (n : Nat) (l : List Int) : Prop :=
  l.length = n ∧ (0 < n → ∃ b cs, A = some ⟨b, 0, none⟩ ∧ BX w b 69 cs ∧ ∀ j, j < n → cs[j]? = some (.int .i64 (l.getD j 0)))
theorem IL.ku {w w' : World} {A : Option Addr} {n : Nat} {l : List Int} (h : IL w A n l) (hk : KU w w') : IL w' A n l :=
  ⟨h.1, fun hn => by
    obtain ⟨b, cs, e, hb, hc⟩ := h.2 hn
    exact ⟨b, cs, e, hk _ _ _ (by decide) hb, hc⟩⟩
theorem IL.later {w w' : World} {A : Option Addr} {n : Nat} {l : List Int} (h : IL w A n l) (hb : Below w.heap.size w w') : IL w' A n l := h.ku ((KU.refl w).ofBelow hb)
theorem IL.oth {w w' : World} {A : Option Addr} {n a : Nat} {l : List Int} {T : TypeId} {cs : Array Value} (h : IL w A n l) (ho : Oth a w w') (hx : BX w a T cs) (hT : T ≠ 69) : IL w' A n l :=
  ⟨h.1, fun hn => by
    obtain ⟨b, cs, e, hb, hc⟩ := h.2 hn
    exact ⟨b, cs, e, hb.oth ho (fun e => by subst e; unfold BX at hb hx; rw [hb] at hx; cases hx; exact hT rfl), hc⟩⟩
theorem IL.at_ {w : World} {A : Option Addr} {n j : Nat} {l : List Int} (h : IL w A n l) (hj : j < n) : ∃ b, A = some ⟨b, 0, none⟩ ∧ w.cell? ⟨b, 0 + j, none⟩ = some (.int .i64 (l.getD j 0)) := by
  obtain ⟨b, cs, e, hb, hc⟩ := h.2 (by omega)
  exact ⟨b, e, by rw [Nat.zero_add]; exact hb.cell (hc j hj)⟩
theorem il_one (w : World) (x : Int) : IL (w.alloc (.cells #[.int .i64 x] 69)) (some ⟨w.heap.size, 0, none⟩) 1 [x] := by
  refine ⟨rfl, fun _ => ⟨w.heap.size, #[.int .i64 x], rfl, BX.new w _ _, ?_⟩⟩
  intro j hj
  obtain rfl : j = 0 := by omega
  rfl
theorem il_two (w : World) (x y : Int) : IL (w.alloc (.cells #[.int .i64 x, .int .i64 y] 69)) (some ⟨w.heap.size, 0, none⟩) 2 [x, y] := by
  refine ⟨rfl, fun _ => ⟨w.heap.size, #[.int .i64 x, .int .i64 y], rfl, BX.new w _ _, ?_⟩⟩
  intro j hj
  have : j = 0 ∨ j = 1 := by omega
  rcases this with rfl | rfl <;> rfl
theorem fieldsof_any19 (k : Int) (w : World) :
    Calls Try.prog 24 #[.int .i64 k] w fun e w' => ∃ A n c, e = .returned (.slice A n c) ∧ IL w' A n (Fm.fl k) ∧ n ≤ 2 ∧ Below w.heap.size w w' := by
  by_cases h1 : k = 1
  · subst h1
    go_enter Try.func24, Try.ntmps24
    go_wp2
    go_ret
    exact ⟨_, _, _, rfl, by show IL _ _ _ [1, 2]; exact il_two w _ _, by omega, (Below.refl _ w).alloc (Nat.le_refl _) _⟩
  by_cases h5 : k = 5
  · subst h5
    go_enter Try.func24, Try.ntmps24
    go_wp2
    go_ret
    exact ⟨_, _, _, rfl, by show IL _ _ _ [1, 2]; exact il_two w _ _, by omega, (Below.refl _ w).alloc (Nat.le_refl _) _⟩
  by_cases h2 : k = 2
  · subst h2
    go_enter Try.func24, Try.ntmps24
    go_wp2
    go_ret
    exact ⟨_, _, _, rfl, by show IL _ _ _ [0]; exact il_one w _, by omega, (Below.refl _ w).alloc (Nat.le_refl _) _⟩
  by_cases h3 : k = 3
  · subst h3
    go_enter Try.func24, Try.ntmps24
    go_wp2
    go_ret
    exact ⟨_, _, _, rfl, by show IL _ _ _ [0, 3]; exact il_two w _ _, by omega, (Below.refl _ w).alloc (Nat.le_refl _) _⟩
  by_cases h4 : k = 4
  · subst h4
    go_enter Try.func24, Try.ntmps24
    go_wp2
    go_ret
    exact ⟨_, _, _, rfl, by show IL _ _ _ [0, 4]; exact il_two w _ _, by omega, (Below.refl _ w).alloc (Nat.le_refl _) _⟩
  by_cases h6 : k = 6
  · subst h6
    go_enter Try.func24, Try.ntmps24
    go_wp2
    go_ret
    exact ⟨_, _, _, rfl, by show IL _ _ _ [1]; exact il_one w _, by omega, (Below.refl _ w).alloc (Nat.le_refl _) _⟩
  by_cases h7 : k = 7
  · subst h7
    go_enter Try.func24, Try.ntmps24
    go_wp2
    go_ret
    exact ⟨_, _, _, rfl, by show IL _ _ _ [5]; exact il_one w _, by omega, (Below.refl _ w).alloc (Nat.le_refl _) _⟩
  have E : Hid (Fm.fl k = []) := show _ = _ by simp [Fm.fl, h1, h2, h3, h4, h5, h6, h7]
  go_enter Try.func24, Try.ntmps24
  go_wp2
  go_ret
  exact ⟨none, 0, 0, rfl, by rw [E.out]; exact ⟨rfl, fun h => absurd h (Nat.lt_irrefl 0)⟩, by omega, Below.refl _ _⟩
end Go.Proofs.Ytjiafpmcibokbaa
