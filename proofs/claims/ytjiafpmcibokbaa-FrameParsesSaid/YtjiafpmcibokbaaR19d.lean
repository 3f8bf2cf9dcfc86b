/- LAYER 19, the document's answers, fourth part: Same. gen_r19d.py -/
import Derived.Test.YtjiafpmcibokbaaR19b
import Derived.Test.YtjiafpmcibokbaaN19b
import Derived.Test.YtjiafpmcibokbaaCm
namespace Go.Proofs.Ytjiafpmcibokbaa
open Go Go.RowKit
set_option maxHeartbeats 4000000
set_option maxRecDepth 100000
set_option linter.unusedVariables false
attribute [-go_sem] loadCellsFrom storeCells Instr.build
attribute [local go_sem] storeCells_one
namespace Fm
def same (f g : Fr) : Bool := decide (f.rs = g.rs ∧ f.k = g.k ∧ f.tok = g.tok ∧ f.s = g.s ∧ f.r = g.r ∧ f.off = g.off ∧ f.tot = g.tot ∧ f.sum = g.sum ∧ f.cd = g.cd ∧ f.xs = g.xs)
end Fm
theorem rg_pair {w : World} {B : Nat} {A : Option Addr} {m : Nat} {l : List (Nat × Nat)} (h : RG w B A m l) {j : Nat} (hj : j < m) : ∃ b o p, A = some ⟨b, o, none⟩ ∧ b < B ∧ l[j]? = some p ∧ ∀ W, Below B w W → (loadCellsFrom ⟨b, o + j * 2, none⟩ 0 2 #[]).run Try.prog W = .ok #[.int .u64 (p.1 : Int), .int .u64 (p.2 : Int)] W := by
  obtain ⟨b, o, p, e, hb, hp, _, _, c1, c2⟩ := h.at_ hj
  refine ⟨b, o, p, e, hb, hp, fun W hW => ?_⟩
  have d1 : W.cell? ⟨b, o + j * 2, none⟩ = some (.int .u64 (p.1 : Int)) := (hW.cell (p := ⟨b, o + j * 2, none⟩) hb).trans c1
  have d2 : W.cell? ⟨b, o + j * 2 + 1, none⟩ = some (.int .u64 (p.2 : Int)) := (hW.cell (p := ⟨b, o + j * 2 + 1, none⟩) hb).trans c2
  have := run_loadCells_list (P := Try.prog) W ⟨b, o + j * 2, none⟩ [.int .u64 (p.1 : Int), .int .u64 (p.2 : Int)] (fun i v hv => by
    rcases (by have := (List.getElem?_eq_some_iff.1 hv).1; simp at this; omega : i = 0 ∨ i = 1) with rfl | rfl
    · simp at hv; subst hv; simpa [Addr.add] using d1
    · simp at hv; subst hv; simpa [Addr.add] using d2)
  simpa [loadCells] using this
theorem refsame_any19 (f g : Fm.Fr) (w : World) (hl : f.ln) (hg : g.ln) (rf : RG w w.heap.size f.RA f.m f.rs) (rg : RG w w.heap.size g.RA g.m g.rs) (df : RB w w.heap.size f.A f.n f.xs) (dg : RB w w.heap.size g.A g.n g.xs) (hm : f.m ≤ 1000000) (hn : f.n ≤ 1000000) (hm2 : g.m ≤ 1000000) (hn2 : g.n ≤ 1000000) :
    Calls Try.prog 21 #[.agg (Fm.FC f), .agg (Fm.FC g)] w fun e w' => e = .returned (.bool (Fm.same f g)) ∧ Below w.heap.size w w' := by
  have B0 : Below w.heap.size w ((w.alloc (.cells (Fm.FC f) 31)).alloc (.cells (Fm.FC g) 31)) := ((Below.refl _ w).alloc (Nat.le_refl _) _).alloc (by simp) _
  have bF : BX ((w.alloc (.cells (Fm.FC f) 31)).alloc (.cells (Fm.FC g) 31)) w.heap.size 31 (Fm.FC f) := (BX.new w _ _).alloc _
  have bG : BX ((w.alloc (.cells (Fm.FC f) 31)).alloc (.cells (Fm.FC g) 31)) (w.heap.size + 1) 31 (Fm.FC g) := by
    have h := BX.new (w.alloc (.cells (Fm.FC f) 31)) 31 (Fm.FC g)
    simpa using h
  obtain ⟨Z, hZ⟩ : ∃ Z, Fm.same f g = Z := ⟨_, rfl⟩
  rw [hZ]
  have HZ := Lib.hid hZ
  clear hZ
  have et := fun W => eq_bytes Try.underlying22 f.tok g.tok hl.1 hg.1 W
  have es := fun W => eq_bytes Try.underlying27 f.sum g.sum hl.2 hg.2 W
  have HRF := Lib.hid rf.1.1
  have HRG := Lib.hid rg.1.1
  go_enter Try.func21, Try.ntmps21
  go_upto_region 1 with (fail)
  generalize (w.alloc (.cells (Fm.FC f) 31)).alloc (.cells (Fm.FC g) 31) = W1 at *
  have q1 := FB.of bF hl
  have q2 := FB.of bG hg
  obtain ⟨a0, a17, a18, a19, a20, a53, a54, a55, ltk, lep1, lsm, _⟩ := q1
  obtain ⟨b0, b17, b18, b19, b20, b53, b54, b55, btk, lep2, bsm, _⟩ := q2
  have SM := Lib.hid (fun W (h : Below W1.heap.size W1 W) => same_any f.A g.A f.n g.n f.c g.c f.xs g.xs W ((df.below (bthen' B0 h)).more (bthen' B0 h).size) ((dg.below (bthen' B0 h)).more (bthen' B0 h).size) hn hn2)
  have HB0 := Lib.hid B0
  by_cases hm0 : f.m = g.m
  · rw [← hm0] at b54 rg hm2
    have HGM := Lib.hid (HRG.out.trans hm0.symm)
    clear hm0 HRG
    generalize f.RA = RA1 at *
    generalize g.RA = RA2 at *
    go_wp2
    go_loopw [4, 5] (fun _ i W => ∃ j : Nat, j ≤ f.m ∧ i = .int .i64 j ∧ Hid (f.rs.take j = g.rs.take j) ∧ ∃ n, W = W1.drewN n) (fun _ i _ => f.m - (intOf i).toNat)
    case atStart => exact ⟨0, Nat.zero_le _, rfl, rfl, 0, rfl⟩
    case round =>
      obtain ⟨j, hj, rfl, HT, nw, rfl⟩ := hrel
      by_cases hlt : j < f.m
      · have hlt' : (j : Int) < f.m := by omega
        obtain ⟨b1, o1, p1, rfl, hb1, hp1, l1⟩ := rg_pair rf hlt
        obtain ⟨b2, o2, p2, rfl, hb2, hp2, l2⟩ := rg_pair rg hlt
        have m1 := fun n => l1 (W1.drewN n) (below_drewN B0 n)
        have m2 := fun n => l2 (W1.drewN n) (below_drewN B0 n)
        clear l1 l2 et es SM
        have TK1 := Lib.hid (List.take_add_one (l := f.rs) (i := j))
        have TK2 := Lib.hid (List.take_add_one (l := g.rs) (i := j))
        have HP1 := Lib.hid hp1
        have HP2 := Lib.hid hp2
        clear hp1 hp2
        obtain ⟨x1, y1⟩ := p1
        obtain ⟨x2, y2⟩ := p2
        by_cases hx : x1 = x2 ∧ y1 = y2
        · obtain ⟨rfl, rfl⟩ := hx
          go_wp2
          go_quiet (fail)
          go_wp2
          go_roundw
          case rel => exact ⟨j + 1, by omega, by go_num, by show _ = _; rw [TK1.out, TK2.out, HT.out, HP1.out, HP2.out], by first | exact ⟨_, rfl⟩ | (rw [World.drewN_drewN]; exact ⟨_, rfl⟩)⟩
          case measure => simp [intOf]; omega
        · have EZ : Hid (Z = false) := show _ = _ by
            rw [← HZ.out]
            unfold Fm.same
            rw [decide_eq_false_iff_not]
            intro h
            have h1 := HP1.out
            rw [h.1, HP2.out] at h1
            cases h1
            exact hx ⟨rfl, rfl⟩
          by_cases hx1 : x1 = x2
          · subst hx1
            have hy : ¬ (y1 : Int) = y2 := by omega
            go_wp2
            go_quiet (fail)
            go_wp2
            go_ret
            exact ⟨by rw [EZ.out]; rfl, below_drewN (below_drewN HB0.out _) _⟩
          · have hx1' : ¬ (x1 : Int) = x2 := by omega
            go_wp2
            go_quiet (fail)
            go_wp2
            go_ret
            exact ⟨by rw [EZ.out]; rfl, below_drewN (below_drewN HB0.out _) _⟩
      · obtain rfl : j = f.m := by omega
        have hrs : f.rs = g.rs := by
          have h := HT.out
          rwa [List.take_of_length_le (by rw [HRF.out]; exact Nat.le_refl _), List.take_of_length_le (by rw [HGM.out]; exact Nat.le_refl _)] at h
        have ltk := (FB.of (bF.drewN nw) hl).ltok
        have lep1 := (FB.of (bF.drewN nw) hl).lep
        have lsm := (FB.of (bF.drewN nw) hl).lsum
        have btk := (FB.of (bG.drewN nw) hg).ltok
        have lep2 := (FB.of (bG.drewN nw) hg).lep
        have bsm := (FB.of (bG.drewN nw) hg).lsum
        have SM2 := Lib.hid (SM.out (W1.drewN nw) (below_drewN (Below.refl _ _) _))
        have HS := Lib.hid hrs
        clear SM hrs
        by_cases hk : f.k = g.k
        rotate_left
        · have EZ : Hid (Z = false) := show _ = _ by
            rw [← HZ.out]
            unfold Fm.same
            rw [decide_eq_false_iff_not]
            intro h
            exact hk (by first | exact h.1 | exact h.2.1 | exact h.2.2.1 | exact h.2.2.2.1 | exact h.2.2.2.2.1 | exact h.2.2.2.2.2.1 | exact h.2.2.2.2.2.2.1 | exact h.2.2.2.2.2.2.2.1 | exact h.2.2.2.2.2.2.2.2.1)
          go_wp2
          go_ret
          exact ⟨by rw [EZ.out]; rfl, below_drewN HB0.out _⟩
        by_cases ht : f.tok = g.tok
        rotate_left
        · have EZ : Hid (Z = false) := show _ = _ by
            rw [← HZ.out]
            unfold Fm.same
            rw [decide_eq_false_iff_not]
            intro h
            exact ht (by first | exact h.1 | exact h.2.1 | exact h.2.2.1 | exact h.2.2.2.1 | exact h.2.2.2.2.1 | exact h.2.2.2.2.2.1 | exact h.2.2.2.2.2.2.1 | exact h.2.2.2.2.2.2.2.1 | exact h.2.2.2.2.2.2.2.2.1)
          go_wp2
          go_ret
          exact ⟨by rw [EZ.out]; rfl, below_drewN HB0.out _⟩
        have HTK := Lib.hid ht
        have et' := fun W => (et W).trans (by rw [decide_eq_true HTK.out])
        clear ht et
        by_cases h17 : f.s = g.s
        rotate_left
        · have EZ : Hid (Z = false) := show _ = _ by
            rw [← HZ.out]
            unfold Fm.same
            rw [decide_eq_false_iff_not]
            intro h
            exact h17 (by first | exact h.1 | exact h.2.1 | exact h.2.2.1 | exact h.2.2.2.1 | exact h.2.2.2.2.1 | exact h.2.2.2.2.2.1 | exact h.2.2.2.2.2.2.1 | exact h.2.2.2.2.2.2.2.1 | exact h.2.2.2.2.2.2.2.2.1)
          have h17' : ¬ ((f.s : Nat) : Int) = (g.s : Nat) := by omega
          go_wp2
          go_ret
          exact ⟨by rw [EZ.out]; rfl, below_drewN HB0.out _⟩
        have h17' : ((f.s : Nat) : Int) = (g.s : Nat) := by omega
        by_cases h18 : f.r = g.r
        rotate_left
        · have EZ : Hid (Z = false) := show _ = _ by
            rw [← HZ.out]
            unfold Fm.same
            rw [decide_eq_false_iff_not]
            intro h
            exact h18 (by first | exact h.1 | exact h.2.1 | exact h.2.2.1 | exact h.2.2.2.1 | exact h.2.2.2.2.1 | exact h.2.2.2.2.2.1 | exact h.2.2.2.2.2.2.1 | exact h.2.2.2.2.2.2.2.1 | exact h.2.2.2.2.2.2.2.2.1)
          have h18' : ¬ ((f.r : Nat) : Int) = (g.r : Nat) := by omega
          go_wp2
          go_ret
          exact ⟨by rw [EZ.out]; rfl, below_drewN HB0.out _⟩
        have h18' : ((f.r : Nat) : Int) = (g.r : Nat) := by omega
        by_cases h19 : f.off = g.off
        rotate_left
        · have EZ : Hid (Z = false) := show _ = _ by
            rw [← HZ.out]
            unfold Fm.same
            rw [decide_eq_false_iff_not]
            intro h
            exact h19 (by first | exact h.1 | exact h.2.1 | exact h.2.2.1 | exact h.2.2.2.1 | exact h.2.2.2.2.1 | exact h.2.2.2.2.2.1 | exact h.2.2.2.2.2.2.1 | exact h.2.2.2.2.2.2.2.1 | exact h.2.2.2.2.2.2.2.2.1)
          have h19' : ¬ ((f.off : Nat) : Int) = (g.off : Nat) := by omega
          go_wp2
          go_ret
          exact ⟨by rw [EZ.out]; rfl, below_drewN HB0.out _⟩
        have h19' : ((f.off : Nat) : Int) = (g.off : Nat) := by omega
        by_cases h20 : f.tot = g.tot
        rotate_left
        · have EZ : Hid (Z = false) := show _ = _ by
            rw [← HZ.out]
            unfold Fm.same
            rw [decide_eq_false_iff_not]
            intro h
            exact h20 (by first | exact h.1 | exact h.2.1 | exact h.2.2.1 | exact h.2.2.2.1 | exact h.2.2.2.2.1 | exact h.2.2.2.2.2.1 | exact h.2.2.2.2.2.2.1 | exact h.2.2.2.2.2.2.2.1 | exact h.2.2.2.2.2.2.2.2.1)
          have h20' : ¬ ((f.tot : Nat) : Int) = (g.tot : Nat) := by omega
          go_wp2
          go_ret
          exact ⟨by rw [EZ.out]; rfl, below_drewN HB0.out _⟩
        have h20' : ((f.tot : Nat) : Int) = (g.tot : Nat) := by omega
        by_cases hs : f.sum = g.sum
        rotate_left
        · have EZ : Hid (Z = false) := show _ = _ by
            rw [← HZ.out]
            unfold Fm.same
            rw [decide_eq_false_iff_not]
            intro h
            exact hs (by first | exact h.1 | exact h.2.1 | exact h.2.2.1 | exact h.2.2.2.1 | exact h.2.2.2.2.1 | exact h.2.2.2.2.2.1 | exact h.2.2.2.2.2.2.1 | exact h.2.2.2.2.2.2.2.1 | exact h.2.2.2.2.2.2.2.2.1)
          go_wp2
          go_ret
          exact ⟨by rw [EZ.out]; rfl, below_drewN HB0.out _⟩
        have HSM := Lib.hid hs
        have es' := fun W => (es W).trans (by rw [decide_eq_true HSM.out])
        clear hs es
        by_cases h55 : f.cd = g.cd
        rotate_left
        · have EZ : Hid (Z = false) := show _ = _ by
            rw [← HZ.out]
            unfold Fm.same
            rw [decide_eq_false_iff_not]
            intro h
            exact h55 (by first | exact h.1 | exact h.2.1 | exact h.2.2.1 | exact h.2.2.2.1 | exact h.2.2.2.2.1 | exact h.2.2.2.2.2.1 | exact h.2.2.2.2.2.2.1 | exact h.2.2.2.2.2.2.2.1 | exact h.2.2.2.2.2.2.2.2.1)
          go_wp2
          go_ret
          exact ⟨by rw [EZ.out]; rfl, below_drewN HB0.out _⟩
        have EZ : Hid (Z = decide (f.xs = g.xs)) := show _ = _ by
          rw [← HZ.out]
          unfold Fm.same
          simp [HS.out, hk, HTK.out, h17, h18, h19, h20, HSM.out, h55]
        generalize decide (f.xs = g.xs) = dx at *
        go_wp2_with (go_at_call 12; (with_reducible refine SM2.out.mono ?_); rintro e w5 ⟨rfl, hb⟩; have HB5 := Lib.hid (bthen' (below_drewN HB0.out _) hb); clear hb)
        go_ret
        exact ⟨by rw [EZ.out]; rfl, HB5.out⟩
  · have hm0' : ¬ (f.m : Int) = g.m := by omega
    have EZ : Hid (Z = false) := show _ = _ by
      rw [← HZ.out]
      unfold Fm.same
      rw [decide_eq_false_iff_not]
      intro h
      exact hm0 (by rw [← HRF.out, ← HRG.out, h.1])
    go_wp2
    go_ret
    exact ⟨by rw [EZ.out]; rfl, HB0.out⟩
end Go.Proofs.Ytjiafpmcibokbaa
