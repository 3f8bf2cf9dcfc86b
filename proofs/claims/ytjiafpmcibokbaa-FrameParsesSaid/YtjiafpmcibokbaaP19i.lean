/- LAYER 19, frame, ninth part: Same. gen_p19i.py -/
import Derived.Test.YtjiafpmcibokbaaP19c
import Derived.Test.YtjiafpmcibokbaaR19d
namespace Go.Proofs.Ytjiafpmcibokbaa
open Go Go.RowKit
set_option maxHeartbeats 2000000
set_option maxRecDepth 100000
set_option linter.unusedVariables false
attribute [-go_sem] loadCellsFrom storeCells Instr.build
attribute [local go_sem] storeCells_one
theorem same_any19 (f g : Fm.Fr) (w : World) (hl : f.ln) (hg : g.ln) (rf : RG w w.heap.size f.RA f.m f.rs) (rg : RG w w.heap.size g.RA g.m g.rs) (df : RB w w.heap.size f.A f.n f.xs) (dg : RB w w.heap.size g.A g.n g.xs) (hm : f.m ≤ 1000000) (hn : f.n ≤ 1000000) (hm2 : g.m ≤ 1000000) (hn2 : g.n ≤ 1000000) :
    Calls Try.prog 13 #[.agg (Fm.FC f), .agg (Fm.FC g)] w fun e w' => e = .returned (.bool (Fm.same f g)) ∧ Below w.heap.size w w' := by
  have B0 : Below w.heap.size w ((w.alloc (.cells (Fm.FC f) 42)).alloc (.cells (Fm.FC g) 42)) := ((Below.refl _ w).alloc (Nat.le_refl _) _).alloc (by simp) _
  have bF : BX ((w.alloc (.cells (Fm.FC f) 42)).alloc (.cells (Fm.FC g) 42)) w.heap.size 42 (Fm.FC f) := (BX.new w _ _).alloc _
  have bG : BX ((w.alloc (.cells (Fm.FC f) 42)).alloc (.cells (Fm.FC g) 42)) (w.heap.size + 1) 42 (Fm.FC g) := by
    have h := BX.new (w.alloc (.cells (Fm.FC f) 42)) 42 (Fm.FC g)
    simpa using h
  obtain ⟨Z, hZ⟩ : ∃ Z, Fm.same f g = Z := ⟨_, rfl⟩
  rw [hZ]
  have HZ := Lib.hid hZ
  clear hZ
  have et := fun W => eq_bytes (t := 37) (n := 16) (by kernel_rfl) f.tok g.tok hl.1 hg.1 W
  have es := fun W => eq_bytes (t := 39) (n := 32) (by kernel_rfl) f.sum g.sum hl.2 hg.2 W
  go_enter Try.func13, Try.ntmps13
  go_upto_region 1 with (fail)
  change Code.wp _ _ _ _ ((w.alloc (.cells (Fm.FC f) 42)).alloc (.cells (Fm.FC g) 42))
  generalize ((w.alloc (.cells (Fm.FC f) 42)).alloc (.cells (Fm.FC g) 42)) = W1 at *
  have q1 := FB.of bF hl
  have q2 := FB.of bG hg
  obtain ⟨a0, a17, a18, a19, a20, a53, a54, a55, ltk, lep1, lsm, _⟩ := q1
  obtain ⟨b0, b17, b18, b19, b20, b53, b54, b55, btk, lep2, bsm, _⟩ := q2
  have SD := Lib.hid (fun W (h : Below W1.heap.size W1 W) => slequal_any f.A g.A f.n g.n f.c g.c f.xs g.xs W ((df.below (bthen' B0 h)).more (bthen' B0 h).size) ((dg.below (bthen' B0 h)).more (bthen' B0 h).size) hn hn2)
  have SR := Lib.hid (fun W (h : Below W1.heap.size W1 W) => rgequal_any19 f.RA g.RA f.m g.m f.rc g.rc f.rs g.rs W ((rf.below (bthen' B0 h)).more (bthen' B0 h).size) ((rg.below (bthen' B0 h)).more (bthen' B0 h).size) hm hm2)
  have FF := Lib.hid (fun W (h : Below W1.heap.size W1 W) => And.intro (FB.of (bF.later h) hl) (FB.of (bG.later h) hg))
  have HB0 := Lib.hid B0
  have H0 := Lib.hid (Below.refl W1.heap.size W1)
  clear B0 bF bG rf rg df dg
  by_cases hk : f.k = g.k
  rotate_left
  · have EZ : Hid (Z = false) := show _ = _ by
      rw [← HZ.out]
      unfold Fm.same
      rw [decide_eq_false_iff_not]
      intro h
      exact hk (by first | exact h.1 | exact h.2.1 | exact h.2.2.1 | exact h.2.2.2.1 | exact h.2.2.2.2.1 | exact h.2.2.2.2.2.1 | exact h.2.2.2.2.2.2.1 | exact h.2.2.2.2.2.2.2.1 | exact h.2.2.2.2.2.2.2.2.1 | exact h.2.2.2.2.2.2.2.2.2)
    go_wp2
    go_ret
    exact ⟨by rw [EZ.out]; rfl, HB0.out⟩
  by_cases ht : f.tok = g.tok
  rotate_left
  · have EZ : Hid (Z = false) := show _ = _ by
      rw [← HZ.out]
      unfold Fm.same
      rw [decide_eq_false_iff_not]
      intro h
      exact ht (by first | exact h.1 | exact h.2.1 | exact h.2.2.1 | exact h.2.2.2.1 | exact h.2.2.2.2.1 | exact h.2.2.2.2.2.1 | exact h.2.2.2.2.2.2.1 | exact h.2.2.2.2.2.2.2.1 | exact h.2.2.2.2.2.2.2.2.1 | exact h.2.2.2.2.2.2.2.2.2)
    go_wp2
    go_ret
    exact ⟨by rw [EZ.out]; rfl, HB0.out⟩
  have HTK := Lib.hid ht
  have et' := fun W => (et W).trans (by rw [decide_eq_true HTK.out])
  clear ht et
  by_cases h17 : f.s = g.s
  rotate_left
  · have EZ : Hid (Z = false) := show _ = _ by
      rw [← HZ.out]
      unfold Fm.same
      rw [decide_eq_false_iff_not]
      intro h
      exact h17 (by first | exact h.1 | exact h.2.1 | exact h.2.2.1 | exact h.2.2.2.1 | exact h.2.2.2.2.1 | exact h.2.2.2.2.2.1 | exact h.2.2.2.2.2.2.1 | exact h.2.2.2.2.2.2.2.1 | exact h.2.2.2.2.2.2.2.2.1 | exact h.2.2.2.2.2.2.2.2.2)
    have h17' : ¬ ((f.s : Nat) : Int) = (g.s : Nat) := by omega
    go_wp2
    go_ret
    exact ⟨by rw [EZ.out]; rfl, HB0.out⟩
  have h17' : ((f.s : Nat) : Int) = (g.s : Nat) := by omega
  by_cases h18 : f.r = g.r
  rotate_left
  · have EZ : Hid (Z = false) := show _ = _ by
      rw [← HZ.out]
      unfold Fm.same
      rw [decide_eq_false_iff_not]
      intro h
      exact h18 (by first | exact h.1 | exact h.2.1 | exact h.2.2.1 | exact h.2.2.2.1 | exact h.2.2.2.2.1 | exact h.2.2.2.2.2.1 | exact h.2.2.2.2.2.2.1 | exact h.2.2.2.2.2.2.2.1 | exact h.2.2.2.2.2.2.2.2.1 | exact h.2.2.2.2.2.2.2.2.2)
    have h18' : ¬ ((f.r : Nat) : Int) = (g.r : Nat) := by omega
    go_wp2
    go_ret
    exact ⟨by rw [EZ.out]; rfl, HB0.out⟩
  have h18' : ((f.r : Nat) : Int) = (g.r : Nat) := by omega
  by_cases h19 : f.off = g.off
  rotate_left
  · have EZ : Hid (Z = false) := show _ = _ by
      rw [← HZ.out]
      unfold Fm.same
      rw [decide_eq_false_iff_not]
      intro h
      exact h19 (by first | exact h.1 | exact h.2.1 | exact h.2.2.1 | exact h.2.2.2.1 | exact h.2.2.2.2.1 | exact h.2.2.2.2.2.1 | exact h.2.2.2.2.2.2.1 | exact h.2.2.2.2.2.2.2.1 | exact h.2.2.2.2.2.2.2.2.1 | exact h.2.2.2.2.2.2.2.2.2)
    have h19' : ¬ ((f.off : Nat) : Int) = (g.off : Nat) := by omega
    go_wp2
    go_ret
    exact ⟨by rw [EZ.out]; rfl, HB0.out⟩
  have h19' : ((f.off : Nat) : Int) = (g.off : Nat) := by omega
  by_cases h20 : f.tot = g.tot
  rotate_left
  · have EZ : Hid (Z = false) := show _ = _ by
      rw [← HZ.out]
      unfold Fm.same
      rw [decide_eq_false_iff_not]
      intro h
      exact h20 (by first | exact h.1 | exact h.2.1 | exact h.2.2.1 | exact h.2.2.2.1 | exact h.2.2.2.2.1 | exact h.2.2.2.2.2.1 | exact h.2.2.2.2.2.2.1 | exact h.2.2.2.2.2.2.2.1 | exact h.2.2.2.2.2.2.2.2.1 | exact h.2.2.2.2.2.2.2.2.2)
    have h20' : ¬ ((f.tot : Nat) : Int) = (g.tot : Nat) := by omega
    go_wp2
    go_ret
    exact ⟨by rw [EZ.out]; rfl, HB0.out⟩
  have h20' : ((f.tot : Nat) : Int) = (g.tot : Nat) := by omega
  by_cases hs : f.sum = g.sum
  rotate_left
  · have EZ : Hid (Z = false) := show _ = _ by
      rw [← HZ.out]
      unfold Fm.same
      rw [decide_eq_false_iff_not]
      intro h
      exact hs (by first | exact h.1 | exact h.2.1 | exact h.2.2.1 | exact h.2.2.2.1 | exact h.2.2.2.2.1 | exact h.2.2.2.2.2.1 | exact h.2.2.2.2.2.2.1 | exact h.2.2.2.2.2.2.2.1 | exact h.2.2.2.2.2.2.2.2.1 | exact h.2.2.2.2.2.2.2.2.2)
    go_wp2
    go_ret
    exact ⟨by rw [EZ.out]; rfl, HB0.out⟩
  have HSM := Lib.hid hs
  have es' := fun W => (es W).trans (by rw [decide_eq_true HSM.out])
  clear hs es
  by_cases hx : f.xs = g.xs
  rotate_left
  · have EZ : Hid (Z = false) := show _ = _ by
      rw [← HZ.out]
      unfold Fm.same
      rw [decide_eq_false_iff_not]
      intro h
      exact hx (by first | exact h.1 | exact h.2.1 | exact h.2.2.1 | exact h.2.2.2.1 | exact h.2.2.2.2.1 | exact h.2.2.2.2.2.1 | exact h.2.2.2.2.2.2.1 | exact h.2.2.2.2.2.2.2.1 | exact h.2.2.2.2.2.2.2.2.1 | exact h.2.2.2.2.2.2.2.2.2)
    have DX := Lib.hid (decide_eq_false hx)
    clear hx
    go_wp2_with (go_at_call 30; (with_reducible refine (SD.out _ H0.out).mono ?_); rintro e w5 ⟨rfl, hb⟩; rw [DX.out]; have HB5 := Lib.hid (bthen' HB0.out hb); have H5 := Lib.hid hb; obtain ⟨fa, fb⟩ := FF.out _ hb; obtain ⟨_, _, _, _, _, _, x54, x55, _, _, _, _⟩ := fa; obtain ⟨_, _, _, _, _, _, y54, y55, _, _, _, _⟩ := fb; clear hb)
    go_ret
    exact ⟨by rw [EZ.out]; rfl, HB5.out⟩
  have DX := Lib.hid (decide_eq_true hx)
  have HX := Lib.hid hx
  clear hx
  by_cases hr : f.rs = g.rs
  rotate_left
  · have EZ : Hid (Z = false) := show _ = _ by
      rw [← HZ.out]
      unfold Fm.same
      rw [decide_eq_false_iff_not]
      intro h
      exact hr (by first | exact h.1 | exact h.2.1 | exact h.2.2.1 | exact h.2.2.2.1 | exact h.2.2.2.2.1 | exact h.2.2.2.2.2.1 | exact h.2.2.2.2.2.2.1 | exact h.2.2.2.2.2.2.2.1 | exact h.2.2.2.2.2.2.2.2.1 | exact h.2.2.2.2.2.2.2.2.2)
    have DR := Lib.hid (decide_eq_false hr)
    clear hr
    go_wp2_with (first | (go_at_call 30; (with_reducible refine (SD.out _ H0.out).mono ?_); rintro e w5 ⟨rfl, hb⟩; rw [DX.out]; have HB5 := Lib.hid (bthen' HB0.out hb); have H5 := Lib.hid hb; obtain ⟨fa, fb⟩ := FF.out _ hb; obtain ⟨_, _, _, _, _, _, x54, x55, _, _, _, _⟩ := fa; obtain ⟨_, _, _, _, _, _, y54, y55, _, _, _, _⟩ := fb; clear hb) | (go_at_call 31; (with_reducible refine (SR.out _ H5.out).mono ?_); rintro e w6 ⟨rfl, hb⟩; rw [DR.out]; have HB6 := Lib.hid (bthen' HB5.out hb); obtain ⟨fa, fb⟩ := FF.out _ (bthen' H5.out hb H0.out.size); obtain ⟨_, _, _, _, _, _, _, z55, _, _, _, _⟩ := fa; obtain ⟨_, _, _, _, _, _, _, u55, _, _, _, _⟩ := fb; clear hb))
    go_ret
    exact ⟨by rw [EZ.out]; rfl, HB6.out⟩
  have DR := Lib.hid (decide_eq_true hr)
  have HR := Lib.hid hr
  clear hr
  by_cases h55 : f.cd = g.cd
  rotate_left
  · have EZ : Hid (Z = false) := show _ = _ by
      rw [← HZ.out]
      unfold Fm.same
      rw [decide_eq_false_iff_not]
      intro h
      exact h55 (by first | exact h.1 | exact h.2.1 | exact h.2.2.1 | exact h.2.2.2.1 | exact h.2.2.2.2.1 | exact h.2.2.2.2.2.1 | exact h.2.2.2.2.2.2.1 | exact h.2.2.2.2.2.2.2.1 | exact h.2.2.2.2.2.2.2.2.1 | exact h.2.2.2.2.2.2.2.2.2)
    have gz : (f.cd == g.cd) = false := by simpa using h55
    go_wp2_with (first | (go_at_call 30; (with_reducible refine (SD.out _ H0.out).mono ?_); rintro e w5 ⟨rfl, hb⟩; rw [DX.out]; have HB5 := Lib.hid (bthen' HB0.out hb); have H5 := Lib.hid hb; obtain ⟨fa, fb⟩ := FF.out _ hb; obtain ⟨_, _, _, _, _, _, x54, x55, _, _, _, _⟩ := fa; obtain ⟨_, _, _, _, _, _, y54, y55, _, _, _, _⟩ := fb; clear hb) | (go_at_call 31; (with_reducible refine (SR.out _ H5.out).mono ?_); rintro e w6 ⟨rfl, hb⟩; rw [DR.out]; have HB6 := Lib.hid (bthen' HB5.out hb); obtain ⟨fa, fb⟩ := FF.out _ (bthen' H5.out hb H0.out.size); obtain ⟨_, _, _, _, _, _, _, z55, _, _, _, _⟩ := fa; obtain ⟨_, _, _, _, _, _, _, u55, _, _, _, _⟩ := fb; clear hb))
    go_ret
    exact ⟨by rw [EZ.out]; rfl, HB6.out⟩
  have EZ : Hid (Z = true) := show _ = _ by
    rw [← HZ.out]
    unfold Fm.same
    simp [HR.out, hk, HTK.out, h17, h18, h19, h20, HSM.out, h55, HX.out]
  go_wp2_with (first | (go_at_call 30; (with_reducible refine (SD.out _ H0.out).mono ?_); rintro e w5 ⟨rfl, hb⟩; rw [DX.out]; have HB5 := Lib.hid (bthen' HB0.out hb); have H5 := Lib.hid hb; obtain ⟨fa, fb⟩ := FF.out _ hb; obtain ⟨_, _, _, _, _, _, x54, x55, _, _, _, _⟩ := fa; obtain ⟨_, _, _, _, _, _, y54, y55, _, _, _, _⟩ := fb; clear hb) | (go_at_call 31; (with_reducible refine (SR.out _ H5.out).mono ?_); rintro e w6 ⟨rfl, hb⟩; rw [DR.out]; have HB6 := Lib.hid (bthen' HB5.out hb); obtain ⟨fa, fb⟩ := FF.out _ (bthen' H5.out hb H0.out.size); obtain ⟨_, _, _, _, _, _, _, z55, _, _, _, _⟩ := fa; obtain ⟨_, _, _, _, _, _, _, u55, _, _, _, _⟩ := fb; clear hb))
  go_ret
  exact ⟨by rw [EZ.out]; rfl, HB6.out⟩
end Go.Proofs.Ytjiafpmcibokbaa
