/- PLAIN MATHEMATICS OF LAYER 5, FIFTH PART: what is laid is read. No Go text is named. -/
import Derived.Test.YtfkhemlaohkhkaaDoorM5b
namespace Go.Proofs.YtfkhemlaohkhkaaDoor
open Go.RowKit
namespace Hh
theorem getD_sub (xs : List Int) (a n j : Nat) (hj : j < n) : (sub xs a n).getD j 0 = xs.getD (a + j) 0 := by
  simp [sub, List.getD, hj]
theorem sub_put (W : List Int) (h : W.length = 512) (a n : Nat) (ha : a + n ≤ 148 ∨ 156 ≤ a) (hn : a + n ≤ 512) : sub (Hs.putS W).1 a n = sub W a n := by
  have l1 := Hs.len_put W h
  have e1 : (sub (Hs.putS W).1 a n).length = n := len_sub (by omega)
  have e2 : (sub W a n).length = n := len_sub (by omega)
  apply List.ext_getElem (by omega)
  intro i h1 h2
  have a1 := getD_sub (Hs.putS W).1 a n i (by omega)
  have a2 := getD_sub W a n i (by omega)
  have a3 := Hs.getD_put W h (a + i) (by omega)
  rw [a3] at a1
  have g : ∀ (l : List Int) (k : Nat) (hk : k < l.length), l.getD k 0 = l[k] := fun l k hk => by simp [List.getD, hk]
  rw [g _ _ h1] at a1
  rw [g _ _ h2] at a2
  rw [a1, a2]
theorem sub_flat (S : List (List Int)) (i a n : Nat) (ha : (S.take i).flatten.length = a) (hn : (S.getD i []).length = n) (hi : i < S.length) : sub S.flatten a n = S.getD i [] := by
  have e : S = S.take i ++ (S.getD i [] :: S.drop (i + 1)) := by
    simp [List.getD, hi]
  generalize S.getD i [] = Y at *
  generalize S.take i = A at *
  generalize S.drop (i + 1) = D at *
  rw [e]
  subst ha
  subst hn
  simp only [sub, List.flatten_append, List.flatten_cons]
  rw [List.drop_left]
  exact List.take_left
theorem isT_ne {k : Int} (h : isT k = true) : rd k = k := by
  unfold rd
  split
  · rename_i h0
    subst h0
    simp [isT] at h
  · rfl
theorem isT_byt {k : Int} (h : isT k = true) : 0 ≤ k ∧ k ≤ 255 := by
  simp only [isT, Bool.or_eq_true, beq_iff_eq] at h
  omega
def segs (ns ms us gs zs ts : List Int) (k : Int) (ls os ps : List Int) : List (List Int) := [ns, ms, us, gs, zs, ts, List.replicate 8 0, [k], ls, magic, List.replicate 64 0, os, os, ps, List.replicate 12 0]
theorem whole_segs (ns ms us gs zs ts : List Int) (k : Int) (ls os ps : List Int) : whole ns ms us gs zs ts k ls os ps = (segs ns ms us gs zs ts k ls os ps).flatten := by
  simp only [whole, segs, List.flatten_cons, List.flatten_nil, List.append_nil, List.append_assoc]
theorem layS_zero (p nm l : ByteArray) (m u g t z k : Int) (h : (layS p nm l m u g t z k).2 = 0) : isT k = true ∧ (Sf.putS p 155).2 = 0 ∧ (Sf.putS nm 100).2 = 0 ∧ (Sf.putS l 100).2 = 0 ∧ (Nf.putS m 8).2 = 0 ∧ (Nf.putS u 8).2 = 0 ∧ (Nf.putS g 8).2 = 0 ∧ (Nf.putS z 12).2 = 0 ∧ (Nf.putS t 12).2 = 0 ∧ bel m u g z = false ∧
    layS p nm l m u g t z k = Hs.putS (whole (Sf.putS nm 100).1 (Nf.putS m 8).1 (Nf.putS u 8).1 (Nf.putS g 8).1 (Nf.putS z 12).1 (Nf.putS t 12).1 k (Sf.putS l 100).1 (Nf.putS 0 8).1 (Sf.putS p 155).1) := by
  unfold layS at *
  by_cases c0 : isT k = true
  · rw [if_pos c0] at h ⊢
    by_cases c1 : (Sf.putS p 155).2 = 0
    · rw [if_pos c1] at h ⊢
      by_cases c2 : (Sf.putS nm 100).2 = 0
      · rw [if_pos c2] at h ⊢
        by_cases c3 : (Sf.putS l 100).2 = 0
        · rw [if_pos c3] at h ⊢
          by_cases c4 : (Nf.putS m 8).2 = 0
          · rw [if_pos c4] at h ⊢
            by_cases c5 : (Nf.putS u 8).2 = 0
            · rw [if_pos c5] at h ⊢
              by_cases c6 : (Nf.putS g 8).2 = 0
              · rw [if_pos c6] at h ⊢
                by_cases c7 : (Nf.putS z 12).2 = 0
                · rw [if_pos c7] at h ⊢
                  by_cases c8 : (Nf.putS t 12).2 = 0
                  · rw [if_pos c8] at h ⊢
                    by_cases c9 : bel m u g z = true
                    · rw [if_pos c9] at h; exact absurd h (by decide)
                    · rw [if_neg c9] at h ⊢
                      exact ⟨c0, c1, c2, c3, c4, c5, c6, c7, c8, by simpa using c9, rfl⟩
                  · rw [if_neg c8] at h; exact absurd h c8
                · rw [if_neg c7] at h; exact absurd h c7
              · rw [if_neg c6] at h; exact absurd h c6
            · rw [if_neg c5] at h; exact absurd h c5
          · rw [if_neg c4] at h; exact absurd h c4
        · rw [if_neg c3] at h; exact absurd h c3
      · rw [if_neg c2] at h; exact absurd h c2
    · rw [if_neg c1] at h; exact absurd h c1
  · rw [if_neg c0] at h; exact absurd h (by decide)
set_option maxRecDepth 100000 in
theorem back (p nm l : ByteArray) (m u g t z k : Int) (m0 : -9223372036854775808 ≤ m) (m1 : m ≤ 9223372036854775807) (u0 : -9223372036854775808 ≤ u) (u1 : u ≤ 9223372036854775807) (g0 : -9223372036854775808 ≤ g) (g1 : g ≤ 9223372036854775807)
    (t0 : -9223372036854775808 ≤ t) (t1 : t ≤ 9223372036854775807) (z0 : -9223372036854775808 ≤ z) (z1 : z ≤ 9223372036854775807) (h : (layC p nm l m u g t z k).2 = 0) :
    parE (layC p nm l m u g t z k).1 = 0 ∧ parV (layC p nm l m u g t z k).1 = hdr p nm l m u g t z k ∧ (layC p nm l m u g t z k).1.length = 512 ∧ Byt (layC p nm l m u g t z k).1 ∧ (layC p nm l m u g t z k).1.getD 156 0 = k := by
  rw [lay_eq p nm l m u g t z k m0 m1 u0 u1 g0 g1 t0 t1 z0 z1] at h ⊢
  obtain ⟨c0, c1, c2, c3, c4, c5, c6, c7, c8, c9, e⟩ := layS_zero p nm l m u g t z k h
  rw [e]
  clear e h
  obtain ⟨P1, P2, P3⟩ := Sf.put_back p 155 c1
  obtain ⟨N1, N2, N3⟩ := Sf.put_back nm 100 c2
  obtain ⟨L1, L2, L3⟩ := Sf.put_back l 100 c3
  obtain ⟨M1, M2⟩ := Nf.put_good m 8 m0 m1 c4
  obtain ⟨U1, U2⟩ := Nf.put_good u 8 u0 u1 c5
  obtain ⟨G1, G2⟩ := Nf.put_good g 8 g0 g1 c6
  obtain ⟨Z1, Z2⟩ := Nf.put_good z 12 z0 z1 c7
  obtain ⟨T1, T2⟩ := Nf.put_good t 12 t0 t1 c8
  have bM := Nf.byt_putS m 8
  have bU := Nf.byt_putS u 8
  have bG := Nf.byt_putS g 8
  have bZ := Nf.byt_putS z 12
  have bT := Nf.byt_putS t 12
  have bO := Nf.byt_putS 0 8
  have z8 := zero8
  generalize (Sf.putS p 155).1 = ps at *
  generalize (Sf.putS nm 100).1 = ns at *
  generalize (Sf.putS l 100).1 = ls at *
  generalize (Nf.putS m 8).1 = ms at *
  generalize (Nf.putS u 8).1 = us at *
  generalize (Nf.putS g 8).1 = gs at *
  generalize (Nf.putS z 12).1 = zs at *
  generalize (Nf.putS t 12).1 = ts at *
  generalize (Nf.putS 0 8).1 = os at *
  have lp : ps.length = 155 := by omega
  have ln : ns.length = 100 := by omega
  have ll : ls.length = 100 := by omega
  have lm : ms.length = 8 := by omega
  have lu : us.length = 8 := by omega
  have lg : gs.length = 8 := by omega
  have lz : zs.length = 12 := by omega
  have lt : ts.length = 12 := by omega
  have lo : os.length = 8 := z8.2
  have hk := isT_byt c0
  have hl := len_whole ns ms us gs zs ts ls os ps k ln lm lu lg lz lt ll lo lp
  have hb : Byt (whole ns ms us gs zs ts k ls os ps) := by
    unfold whole
    exact Byt.append (Byt.append (Byt.append (Byt.append (Byt.append (Byt.append (Byt.append (Byt.append (Byt.append (Byt.append (Byt.append (Byt.append (Byt.append (Byt.append N2 bM) bU) bG) bZ) bT) (Sf.byt_rep _)) (byt_mem' (by simpa using hk))) L2) (byt_mem' (by decide))) (Sf.byt_rep _)) bO) bO) P2) (Sf.byt_rep _)
  have sg : ∀ (i a n : Nat) (Y : List Int), (((segs ns ms us gs zs ts k ls os ps).take i).flatten.length = a) → ((segs ns ms us gs zs ts k ls os ps).getD i [] = Y) → Y.length = n → i < 15 → (a + n ≤ 148 ∨ 156 ≤ a) → a + n ≤ 512 →
      sub (Hs.putS (whole ns ms us gs zs ts k ls os ps)).1 a n = Y := fun i a n Y h1 h2 h3 h4 h5 h6 => by
    rw [sub_put _ hl a n h5 h6, whole_segs]
    rw [sub_flat _ i a n h1 (by rw [h2, h3]) h4, h2]
  have s0 := sg 0 0 100 ns (by simp [segs]) rfl ln (by omega) (by omega) (by omega)
  have s1 := sg 1 100 8 ms (by simp [segs, *]) rfl lm (by omega) (by omega) (by omega)
  have s2 := sg 2 108 8 us (by simp [segs, *]) rfl lu (by omega) (by omega) (by omega)
  have s3 := sg 3 116 8 gs (by simp [segs, *]) rfl lg (by omega) (by omega) (by omega)
  have s4 := sg 4 124 12 zs (by simp [segs, *]) rfl lz (by omega) (by omega) (by omega)
  have s5 := sg 5 136 12 ts (by simp [segs, *]) rfl lt (by omega) (by omega) (by omega)
  have s7 := sg 7 156 1 [k] (by simp [segs, *]) rfl rfl (by omega) (by omega) (by omega)
  have s8 := sg 8 157 100 ls (by simp [segs, *]) rfl ll (by omega) (by omega) (by omega)
  have s9 := sg 9 257 8 magic (by simp [segs, *]) rfl rfl (by omega) (by omega) (by omega)
  have s13 := sg 13 345 155 ps (by simp [segs, *, magic]) rfl lp (by omega) (by omega) (by omega)
  have hc := Hs.check_put _ hl hb
  have hy := Hs.len_put _ hl
  have hyb := Hs.byt_put _ hb
  generalize (Hs.putS (whole ns ms us gs zs ts k ls os ps)).1 = Y at *
  have hk7 : Y.getD 156 0 = k := by
    have := getD_sub Y 156 1 0 (by omega)
    rw [s7] at this
    exact this.symm
  have hkk : kindOf Y = k := by unfold kindOf; rw [hk7]; exact isT_ne c0
  have pe : parE Y = 0 := by
    unfold parE
    rw [hc, s9, s13, s0, s8, s1, s2, s3, s4, s5, P3, N3, L3, M2, U2, G2, Z2, T2, hkk, c0, c9]
    simp
  refine ⟨pe, ?_, hy, hyb, hk7⟩
  unfold parV
  rw [if_pos pe, s13, s0, s8, s1, s2, s3, s4, s5, P3, N3, L3, M2, U2, G2, Z2, T2, hkk, Sf.str_nums, Sf.str_nums, Sf.str_nums]
end Hh
end Go.Proofs.YtfkhemlaohkhkaaDoor
