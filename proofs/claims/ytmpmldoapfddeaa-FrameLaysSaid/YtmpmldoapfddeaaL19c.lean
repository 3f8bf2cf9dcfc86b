/- THE WALK OF THE LAW FrameBack. gen_l19c.py -/
import Derived.Test.YtmpmldoapfddeaaL19d
import Derived.Test.YtmpmldoapfddeaaP19h
import Derived.Test.YtmpmldoapfddeaaR19d
namespace Go.Proofs.Ytmpmldoapfddeaa
open Go Go.RowKit
set_option maxHeartbeats 4000000
set_option maxRecDepth 100000
set_option linter.unusedVariables false
attribute [-go_sem] loadCellsFrom storeCells Instr.build
attribute [local go_sem] storeCells_one
namespace Fm
theorem getF_fit {k : Int} {tok : List Int} {s r : Nat} {b : List Int} (hb : Byt b) (hl : (getF k tok s r b).off = 0 ∨ b.length ≤ 8 ∨ 8 < b.length) (h2 : k = 2 ∨ k = 6 → b.length ≤ 8) :
    (getF k tok s r b).off < 18446744073709551616 ∧ (getF k tok s r b).tot < 18446744073709551616 ∧ (getF k tok s r b).xs.length ≤ b.length ∧ (getF k tok s r b).rs.length ≤ b.length := by
  have t8 : ofL (b.take 8) < 18446744073709551616 := ofL_lt8 (Ck.Byt.take hb 8) (by rw [List.length_take]; omega)
  unfold getF
  split
  · exact ⟨(by decide : 0 < 18446744073709551616), t8, Nat.zero_le _, Nat.zero_le _⟩
  split
  · rename_i h; exact ⟨ofL_lt8 hb (h2 (.inl h)), (by decide : 0 < 18446744073709551616), Nat.zero_le _, Nat.zero_le _⟩
  split
  · exact ⟨t8, (by decide : 0 < 18446744073709551616), by show (b.drop 8).length ≤ _; rw [List.length_drop]; omega, Nat.zero_le _⟩
  split
  · exact ⟨t8, (by decide : 0 < 18446744073709551616), Nat.zero_le _, by show (rgsOf _ _).length ≤ _; rw [rgsOf_len]; omega⟩
  split
  · rename_i h; exact ⟨(by decide : 0 < 18446744073709551616), ofL_lt8 hb (h2 (.inr h)), Nat.zero_le _, Nat.zero_le _⟩
  · exact ⟨(by decide : 0 < 18446744073709551616), (by decide : 0 < 18446744073709551616), Nat.zero_le _, Nat.zero_le _⟩
/-- What is parsed may be laid. -/
theorem parse_fit {b : List Int} (hb : Byt b) (h : (parse b).2 = 0) : (parse b).1.s < 4294967296 ∧ (parse b).1.r < 4294967296 ∧ (parse b).1.off < 18446744073709551616 ∧ (parse b).1.tot < 18446744073709551616 ∧ (parse b).1.xs.length ≤ b.length ∧ (parse b).1.rs.length ≤ b.length := by
  unfold parse at h ⊢
  by_cases he : Ck.err b = 0
  rotate_left
  · rw [if_pos he] at h
    exact absurd h he
  rw [if_neg (by rw [he]; simp)] at h ⊢
  have hbo : Byt (Ck.open_ b) := by
    unfold Ck.open_
    rw [if_pos he]
    exact Ck.Byt.take hb _
  have hol : (Ck.open_ b).length ≤ b.length := by
    unfold Ck.open_
    rw [if_pos he, List.length_take]
    omega
  generalize Ck.open_ b = o at *
  unfold pars at h ⊢
  by_cases h1 : o.length < 28
  · rw [if_pos h1] at h; cases h
  by_cases h2 : o.getD 0 0 ≠ 84 ∨ o.getD 1 0 ≠ 87
  · rw [if_neg h1, if_pos h2] at h; cases h
  by_cases h3 : o.getD 2 0 < 1 ∨ 7 < o.getD 2 0
  · rw [if_neg h1, if_neg h2, if_pos h3] at h; cases h
  by_cases h4 : o.getD 3 0 ≠ (((ofL ((o.drop 20).take 4)) % 4 + (ofL ((o.drop 24).take 4)) % 4) % 4 : Nat)
  · rw [if_neg h1, if_neg h2, if_neg h3, if_pos h4] at h; cases h
  rw [if_neg h1, if_neg h2, if_neg h3, if_neg h4] at h ⊢
  by_cases h5 : (fieldsP (o.getD 2 0) ((o.drop 4).take 16) (ofL ((o.drop 20).take 4)) (ofL ((o.drop 24).take 4)) (o.drop 28)).2 ≠ 0
  · rw [if_pos h5] at h; exact absurd h h5
  rw [if_neg h5] at h ⊢
  obtain ⟨f1, f2, f3, f4, f5, f6, f7⟩ := flds_fields (Byt.dropF hbo 28) (by omega) h
  rw [f1]
  have l28 : (o.drop 28).length ≤ b.length := by rw [List.length_drop]; omega
  have hk8 : o.getD 2 0 = 2 ∨ o.getD 2 0 = 6 → (o.drop 28).length ≤ 8 := fun hk => by
    unfold fieldsP at h
    have hn : need (o.getD 2 0) = 8 := by rcases hk with e | e <;> rw [e] <;> rfl
    by_cases q1 : (o.drop 28).length < need (o.getD 2 0) ∨ (o.getD 2 0 = 4 ∧ (o.drop 28).length % 16 ≠ 8)
    · rw [if_pos q1] at h; cases h
    by_cases q2 : need (o.getD 2 0) < (o.drop 28).length ∧ o.getD 2 0 ≠ 3 ∧ o.getD 2 0 ≠ 4
    · rw [if_neg q1, if_pos q2] at h; cases h
    · rw [hn] at q2
      omega
  have hg := getF_fit (tok := (o.drop 4).take 16) (s := ofL ((o.drop 20).take 4)) (r := ofL ((o.drop 24).take 4)) (Byt.dropF hbo 28) (by omega) hk8
  refine ⟨?_, ?_, hg.1, hg.2.1, Nat.le_trans hg.2.2.1 l28, Nat.le_trans hg.2.2.2 l28⟩
  · show (getF _ _ _ _ _).s < _
    rw [f6]
    exact ofL_lt 4 _ (Ck.Byt.take (Byt.dropF hbo 20) 4) (by rw [List.length_take, List.length_drop]; omega)
  · show (getF _ _ _ _ _).r < _
    rw [f7]
    exact ofL_lt 4 _ (Ck.Byt.take (Byt.dropF hbo 24) 4) (by rw [List.length_take, List.length_drop]; omega)
theorem sealed_front {xs ys : List Int} (h : Ck.sealed xs = ys) (hb : Byt ys) : Byt xs := by
  have : xs = ys.take xs.length := by rw [← h]; unfold Ck.sealed; simp
  rw [this]
  exact Ck.Byt.take hb _
theorem er_bare_moved (f : Fr) (A : Option Addr) (c : Nat) : er (bare { f with RA := A, rc := c }) = er (bare f) := by
  unfold bare
  (repeat' split) <;> first | rfl | contradiction
end Fm
theorem frameback_walk (f k : Fm.Fr) (B : Option Addr) (n c : Nat) (xs : List Int) (w : World) (hf : FrOk w f) (hk : FrOk w k) (hb : RB w w.heap.size B n xs) (hy : Byt xs) (hn : n ≤ c) (hc : c ≤ maxLen) :
    Calls Try.prog 5 #[.agg (Fm.FC f), .agg (Fm.FC k), .slice B n c] w fun e w' => e = .returned (.bool true) ∧ Below w.heap.size w w' := by
  have al := Lib.hid alive_any19
  have LF := Lib.hid hf.fit.ln
  have LK := Lib.hid hk.fit.ln
  have hb1 := Below.alloc (Below.refl w.heap.size w) (Nat.le_refl _) (.cells (Fm.FC f) 31)
  have hb2 := hb1.alloc (by simp) (.cells (Fm.FC k) 31)
  have bF : BX ((w.alloc (.cells (Fm.FC f) 31)).alloc (.cells (Fm.FC k) 31)) w.heap.size 31 (Fm.FC f) := (BX.new w 31 (Fm.FC f)).alloc _
  have bK : BX ((w.alloc (.cells (Fm.FC f) 31)).alloc (.cells (Fm.FC k) 31)) (w.heap.size + 1) 31 (Fm.FC k) := by
    have h := BX.new (w.alloc (.cells (Fm.FC f) 31)) 31 (Fm.FC k)
    rw [World.size_alloc] at h
    exact h
  obtain ⟨W, hW⟩ : ∃ W, (w.alloc (.cells (Fm.FC f) 31)).alloc (.cells (Fm.FC k) 31) = W := ⟨_, rfl⟩
  rw [hW] at hb2 bF bK
  have HB := Lib.hid hb2
  have OKF := Lib.hid (hf.below hb2)
  have OKK := Lib.hid (hk.below hb2)
  have RBX := Lib.hid ((hb.below hb2).more hb2.size)
  have hxl : xs.length = n := hb.1
  have HXL := Lib.hid hxl
  have HY := Lib.hid hy
  have HNC := Lib.hid (And.intro hn hc)
  have FK := Lib.hid (fun W2 (h : Below W.heap.size W W2) => And.intro (load_any19 LF.out (bF.later h)) (load_any19 LK.out (bK.later h)))
  have la := load_any19 LF.out bF
  have lk := load_any19 LK.out bK
  have FA := Lib.hid (far_any19 f W LF.out)
  have FA2 := Lib.hid (fun W => far_any19 k W LK.out)
  have H0 := Lib.hid (Below.refl W.heap.size W)
  clear hb1 hb2 bF bK hxl hb
  by_cases hfar : Fm.far f = true
  · rw [hfar] at FA
    go_enter Try.func5, Try.ntmps5
    go_wp2_with (first
      | (go_at_call 7; (with_reducible refine FA.out.mono ?_); rintro e w1 ⟨rfl, h1⟩; obtain ⟨lf1, lk1⟩ := FK.out _ h1; have H1 := Lib.hid h1; clear h1)
      | (go_at_call 8; (with_reducible refine (al.out _).mono ?_); rintro e w9 ⟨rfl, h9⟩; have H9 := Lib.hid (bthen' HB.out (bthen' H1.out h9)); clear h9))
    go_ret
    exact ⟨rfl, H9.out⟩
  have hfar' : Fm.far f = false := by simpa using hfar
  rw [hfar'] at FA
  obtain ⟨hn6, hm2⟩ := Fm.far_false hfar'
  clear hfar hfar'
  by_cases hfar : Fm.far k = true
  · rw [hfar] at FA2
    go_enter Try.func5, Try.ntmps5
    go_wp2_with (first
      | (go_at_call 7; (with_reducible refine FA.out.mono ?_); rintro e w1 ⟨rfl, h1⟩; obtain ⟨lf1, lk1⟩ := FK.out _ h1; have H1 := Lib.hid h1; clear h1)
      | (go_at_call 7; (with_reducible refine (FA2.out _).mono ?_); rintro e w2 ⟨rfl, h2⟩; obtain ⟨lf2, lk2⟩ := FK.out _ (bthen' H1.out h2); have H2 := Lib.hid (bthen' H1.out h2); clear h2)
      | (go_at_call 8; (with_reducible refine (al.out _).mono ?_); rintro e w9 ⟨rfl, h9⟩; have H9 := Lib.hid (bthen' HB.out (bthen' H2.out h9)); clear h9))
    go_ret
    exact ⟨rfl, H9.out⟩
  have hfar' : Fm.far k = false := by simpa using hfar
  rw [hfar'] at FA2
  obtain ⟨kn6, km2⟩ := Fm.far_false hfar'
  clear hfar hfar'
  by_cases h1000 : 1000 < n
  · have h1000' : (1000 : Int) < n := by omega
    go_enter Try.func5, Try.ntmps5
    go_wp2_with (first
      | (go_at_call 7; (with_reducible refine FA.out.mono ?_); rintro e w1 ⟨rfl, h1⟩; obtain ⟨lf1, lk1⟩ := FK.out _ h1; have H1 := Lib.hid h1; clear h1)
      | (go_at_call 7; (with_reducible refine (FA2.out _).mono ?_); rintro e w2 ⟨rfl, h2⟩; obtain ⟨lf2, lk2⟩ := FK.out _ (bthen' H1.out h2); have H2 := Lib.hid (bthen' H1.out h2); clear h2)
      | (go_at_call 8; (with_reducible refine (al.out _).mono ?_); rintro e w9 ⟨rfl, h9⟩; have H9 := Lib.hid (bthen' HB.out (bthen' H2.out h9)); clear h9))
    go_ret
    exact ⟨rfl, H9.out⟩
  have h1000' : ¬ (1000 : Int) < n := by omega
  have THF := Lib.hid (fun W1 (h : Below W.heap.size W W1) => theirs_any19 f W1 LF.out (OKF.out.below h).rg (by omega))
  have THK := Lib.hid (fun W1 (h : Below W.heap.size W W1) => theirs_any19 k W1 LK.out (OKK.out.below h).rg (by omega))
  obtain ⟨S, hS⟩ : ∃ S, Fm.same f k = S := ⟨_, rfl⟩
  have SAM := Lib.hid (fun W1 A c A' c' (h : Below W.heap.size W W1) (hr : RG W1 W1.heap.size A f.m f.rs) (hr' : RG W1 W1.heap.size A' k.m k.rs) => same_any19 { f with RA := A, rc := c } { k with RA := A', rc := c' } W1 LF.out LK.out hr hr' (OKF.out.below h).rb (OKK.out.below h).rb (by show f.m ≤ 1000000; omega) (by show f.n ≤ 1000000; omega) (by show k.m ≤ 1000000; omega) (by show k.n ≤ 1000000; omega))
  have ES := Lib.hid (show ∀ A c A' c', Fm.same { f with RA := A, rc := c } { k with RA := A', rc := c' } = S from fun A c A' c' => hS)
  have RSM := Lib.hid (fun W1 (h : Below W.heap.size W W1) => refsame_any19 f k W1 LF.out LK.out (OKF.out.below h).rg (OKK.out.below h).rg (OKF.out.below h).rb (OKK.out.below h).rb (by omega) (by omega) (by omega) (by omega))
  rw [hS] at RSM
  have gS : (S != S) = false := by simp
  clear hS
  go_enter Try.func5, Try.ntmps5
  go_upto_region 3 with (first
    | (go_at_call 7; (with_reducible refine FA.out.mono ?_); rintro e w1 ⟨rfl, h1⟩; obtain ⟨lf1, lk1⟩ := FK.out _ h1; have H1 := Lib.hid h1; clear h1)
    | (go_at_call 7; (with_reducible refine (FA2.out _).mono ?_); rintro e w2 ⟨rfl, h2⟩; obtain ⟨lf2, lk2⟩ := FK.out _ (bthen' H1.out h2); have H2 := Lib.hid (bthen' H1.out h2); clear h2))
  go_cut [35] (fun v wx => v = .bool false ∧ Hid (Below W.heap.size W wx))
  case first =>
    have hacc : Below W.heap.size W w2 := H2.out
    go_region_held3 (fun w' => (loadCellsFrom ⟨w.heap.size, 0, none⟩ 0 56 #[]).run Try.prog w' = .ok (Fm.FC f) w' ∧ (loadCellsFrom ⟨w.heap.size + 1, 0, none⟩ 0 56 #[]).run Try.prog w' = .ok (Fm.FC k) w') (first | (exact FK.out _ hacc) | (exact FK.out _ hacc.drew) | go_keep) (first
      | (go_at_call 10; (with_reducible refine (THF.out _ (by first | exact hacc | exact hacc.drew)).mono ?_); rintro e w3 ⟨A3, c3, rfl, hr3, _, _, h3⟩; have RF3 := Lib.hid hr3; (try replace RK3 := Lib.hid ((RK3.out.below h3).more h3.size)); replace hacc := bthen' (by first | exact hacc | exact hacc.drew) h3; clear hr3 h3)
      | (go_at_call 10; (with_reducible refine (THK.out _ (by first | exact hacc | exact hacc.drew)).mono ?_); rintro e w4 ⟨A4, c4, rfl, hr4, _, _, h4⟩; have RK3 := Lib.hid hr4; (try replace RF3 := Lib.hid ((RF3.out.below h4).more h4.size)); replace hacc := bthen' (by first | exact hacc | exact hacc.drew) h4; clear hr4 h4)
      | (go_at_call 13; (with_reducible refine (SAM.out _ A3 c3 A4 c4 hacc RF3.out RK3.out).mono ?_); rintro e w5 ⟨rfl, h5⟩; rw [ES.out]; replace hacc := bthen' hacc h5; clear h5)
      | (go_at_call 21; (with_reducible refine (RSM.out _ (by first | exact hacc | exact hacc.drew)).mono ?_); rintro e w6 ⟨rfl, h6⟩; (try replace RF3 := Lib.hid ((RF3.out.below h6).more h6.size)); (try replace RK3 := Lib.hid ((RK3.out.below h6).more h6.size)); replace hacc := bthen' (by first | exact hacc | exact hacc.drew) h6; clear h6))
    all_goals (
      try go_wp2
      go_meet
      exact ⟨rfl, hacc⟩)
  case rest =>
    obtain ⟨rfl, H3⟩ := hcut
    obtain ⟨lf3, lk3⟩ := FK.out _ H3.out
    obtain ⟨Z, hZ⟩ : ∃ Z, Fm.may f = Z := ⟨_, rfl⟩
    have LY := Lib.hid (fun W1 A c (h : Below W.heap.size W W1) (hr : RG W1 W1.heap.size A f.m f.rs) => lay_any19 { f with RA := A, rc := c } W1 (Fm.fit_moved OKF.out.fit A c) hr (OKF.out.below h).rb (by show f.m ≤ 10000; omega) (by show f.n ≤ 200000; omega) (fun e => OKF.out.byt e))
    have EM := Lib.hid (show ∀ A c, Fm.may { f with RA := A, rc := c } = Z from fun A c => by rw [← hZ]; rfl)
    have HBL := Lib.hid (Fm.body_len19 OKF.out.fit hm2 hn6)
    have HZ := Lib.hid hZ
    obtain ⟨ys, hys⟩ : ∃ ys, Fm.body f = ys := ⟨_, rfl⟩
    have EB := Lib.hid (show ∀ A c, Fm.body { f with RA := A, rc := c } = ys from fun A c => hys)
    rw [hys] at HBL
    have HYS := Lib.hid hys
    clear hZ hys la lk
    obtain ⟨nu, NU0⟩ : ∃ g, Hid (Fm.nul = g) := ⟨_, rfl⟩
    have NL := Lib.hid (show nu.ln by rw [← NU0.out]; exact Fm.nul_ln)
    have NDD := Lib.hid (show ∀ W, DD W nu by rw [← NU0.out]; exact fun W => (da_none W 0 _ _ _ _).dd)
    have NER := Lib.hid (show Fm.er nu = nu ∧ nu.n = 0 ∧ nu.m = 0 by rw [← NU0.out]; exact ⟨rfl, rfl, rfl⟩)
    have bn : ∀ W, (Instr.build 42 #[]).run Try.prog W = .ok (.agg (Fm.FC nu)) W := fun W => by rw [← NU0.out]; exact run_build (P := Try.prog) W 42 #[] _ built_nulp
    have NB := Lib.hid (show nu.m ≤ 1000000 ∧ nu.n ≤ 1000000 by rw [NER.out.2.2, NER.out.2.1]; omega)
    have BN := Lib.hid (fun W g (dd : DD W g) (he : Fm.er g = nu) => show g.m ≤ 1000000 ∧ g.n ≤ 1000000 by
      have h1 := dd.2.1.1
      have h2 : g.rs = nu.rs := congrArg (·.rs) he
      have h3 := dd.1.1.1
      have h4 : g.xs = nu.xs := congrArg (·.xs) he
      have h5 := (NDD.out W).2.1.1
      have h6 := (NDD.out W).1.1.1
      have h7 := NB.out
      rw [h2] at h1
      rw [h4] at h3
      omega)
    have SM2 := Lib.hid (fun W g h (lg : g.ln) (lh : h.ln) (dd : DD W g) (dh : DD W h) (b1 : g.m ≤ 1000000) (b2 : g.n ≤ 1000000) (b3 : h.m ≤ 1000000) (b4 : h.n ≤ 1000000) => same_any19 g h W lg lh dd.2 dh.2 dd.1.1 dh.1.1 b1 b2 b3 b4)
    go_upto_if 43 with (first
      | (go_at_call 10; (with_reducible refine (THF.out _ H3.out).mono ?_); rintro e w4 ⟨A4, c4, rfl, hr4, _, _, h4⟩; have HR4 := Lib.hid hr4; have H4 := Lib.hid (bthen' H3.out h4); clear hr4 h4)
      | (go_at_call 9; (with_reducible refine (LY.out _ A4 c4 H4.out HR4.out).mono ?_); rintro e w5 ⟨v5, rfl, ho5, hv5, h5⟩; rw [EM.out] at ho5 hv5 ⊢; rw [EB.out] at ho5; have HO5 := Lib.hid (ho5 : Z = 0 → _); have HV5 := Lib.hid hv5; have H5 := Lib.hid (bthen' H4.out h5); obtain ⟨lf5, lk5⟩ := FK.out _ H5.out; clear ho5 hv5 h5))
    go_cut [9] (fun _ wx => Hid (Below W.heap.size W wx))
    case first =>
      by_cases hz : Z = 0
      rotate_left
      · have gz : (Z == 0) = false := by simpa using hz
        go_wp2
        go_meet
        exact H5.out
      subst hz
      have ho := HO5.out rfl
      obtain ⟨A6, c6, e6, hr6, hc6, hm6⟩ := ho.slice
      have E6 := Lib.hid e6
      have YB := Lib.hid (show Byt (Ck.sealed ys) by rw [← HYS.out]; exact Ck.sealed_byt (OKF.out.byt HZ.out))
      have PA := Lib.hid (parse_any19 A6 _ c6 (Ck.sealed ys) w5 hr6 YB.out hc6 hm6 (by have := HBL.out; omega))
      have PP := Lib.hid (show Fm.parse (Ck.sealed ys) = (Fm.er (Fm.bare f), 0) by rw [← HYS.out]; exact Fm.parse_lay OKF.out.fit HZ.out)
      rw [PP.out] at PA
      have BA := Lib.hid (fun W1 A c (h : Below W.heap.size W W1) (hr : RG W1 W1.heap.size A f.m f.rs) => bare_any19 { f with RA := A, rc := c } W1 LF.out hr (OKF.out.below h).rb (by show f.m ≤ 10000; omega) (by show f.n ≤ 200000; omega))
      have BE := Lib.hid (fun A c => Fm.er_bare_moved f A c)
      have BLN := Lib.hid (show (Fm.bare f).xs.length ≤ 600 ∧ (Fm.bare f).rs.length ≤ 20 by
        have h1 := OKF.out.fit.n
        have h2 := OKF.out.fit.m
        unfold Fm.bare
        (repeat' split) <;> exact ⟨by first | (show f.xs.length ≤ 600; omega) | exact Nat.zero_le _, by first | (show f.rs.length ≤ 20; omega) | exact Nat.zero_le _⟩)
      have BM := Lib.hid (fun W g (dd : DD W g) (he : Fm.er g = Fm.er (Fm.bare f)) => show g.m ≤ 1000000 ∧ g.n ≤ 1000000 by
        have h1 := dd.2.1.1
        have h2 : g.rs = (Fm.bare f).rs := congrArg (·.rs) he
        have h3 := dd.1.1.1
        have h4 : g.xs = (Fm.bare f).xs := congrArg (·.xs) he
        have h5 := BLN.out
        rw [h2] at h1
        rw [h4] at h3
        omega)
      clear ho hr6 e6
      rw [E6.out]
      go_upto_region 8 with (go_at_call 19; (with_reducible refine PA.out.mono ?_); rintro e w6 ⟨g6, e6, rfl, he6, lg6, dd6, h6⟩; obtain ⟨he7, rfl⟩ := Prod.mk.inj he6; have HE6 := Lib.hid he7; have LG6 := Lib.hid lg6; have H6 := Lib.hid (bthen' H5.out h6); have st6 := fun (cc : Array Value) (hcc : cc.size = 56) => run_storeCells_new (P := Try.prog) w6 42 cc (Fm.FC g6) (by rw [Fm.FC_size LG6.out]; kernel_rfl) (by rw [Fm.FC_size LG6.out]; exact hcc) (Fm.FC_one _); have szg := Fm.FC_size LG6.out; have hbf := Below.alloc (Below.refl w6.heap.size w6) (Nat.le_refl _) (.cells (Fm.FC g6) 42); have BG7 := Lib.hid (BX.new w6 42 (Fm.FC g6)); have H7 := Lib.hid (bthen' H6.out hbf); have DD7 := Lib.hid (dd6.later hbf); clear he6 he7 lg6 dd6 h6 hbf)
      change Code.wp _ _ _ _ (w6.alloc (.cells (Fm.FC g6) 42))
      generalize hw7 : w6.alloc (.cells (Fm.FC g6) 42) = w7 at *
      have FG := Lib.hid (fun W2 (h : Below w7.heap.size w7 W2) => And.intro (FK.out W2 (bthen' H7.out h)).1 (load_any19 LG6.out (BG7.out.later h)))
      have hacc : Below w7.heap.size w7 w7 := Below.refl _ _
      clear hw7 st6
      go_region_held3 (fun w' => (loadCellsFrom ⟨w.heap.size, 0, none⟩ 0 56 #[]).run Try.prog w' = .ok (Fm.FC f) w' ∧ (loadCellsFrom ⟨w6.heap.size, 0, none⟩ 0 56 #[]).run Try.prog w' = .ok (Fm.FC g6) w') (first | (exact FG.out _ hacc) | (exact FG.out _ hacc.drew) | go_keep) (first
        | (go_at_call 10; (with_reducible refine (THF.out _ (bthen' H7.out (by first | exact hacc | exact hacc.drew))).mono ?_); rintro e w8 ⟨A8, c8, rfl, hr8, _, _, h8⟩; have HR8 := Lib.hid hr8; replace hacc := bthen' (by first | exact hacc | exact hacc.drew) h8; clear hr8 h8)
        | (go_at_call 14; (with_reducible refine (BA.out _ A8 c8 (bthen' H7.out hacc) HR8.out).mono ?_); rintro e w9 ⟨g9, rfl, he9, lg9, dd9, h9⟩; have HE9 := Lib.hid (he9.trans (BE.out A8 c8)); have LG9 := Lib.hid lg9; have DD9 := Lib.hid dd9; replace hacc := bthen' hacc h9; clear he9 lg9 dd9 h9)
        | (go_at_call 13; (with_reducible refine (SM2.out _ g6 g9 LG6.out LG9.out (DD7.out.later hacc) DD9.out (BM.out _ _ DD7.out HE6.out).1 (BM.out _ _ DD7.out HE6.out).2 (BM.out _ _ DD9.out HE9.out).1 (BM.out _ _ DD9.out HE9.out).2).mono ?_); rintro e w10 ⟨rfl, h10⟩; rw [Fm.same_er (HE6.out.trans HE9.out.symm)]; replace hacc := bthen' hacc h10; clear h10))
      all_goals (
        go_wp2
        rw [← E6.out]
        go_meet
        exact bthen' H7.out hacc)
    case rest =>
      have HW := Lib.hid hcut
      clear hcut lf3 lk3 lf5 lk5 HO5 HV5
      have PB := Lib.hid (parse_any19 B n c xs wc ((RBX.out.below HW.out).more HW.out.size) HY.out HNC.out.1 HNC.out.2 (by omega))
      obtain ⟨G, q, hq⟩ : ∃ G q, Fm.parse xs = (G, q) := ⟨_, _, rfl⟩
      rw [hq] at PB
      by_cases hq0 : q ≠ 0
      · have HGN := Lib.hid (show G = nu by rw [← NU0.out]; have h := Fm.parse_none (b := xs) (by rw [hq]; exact hq0); rw [hq] at h; exact h)
        have gq : (q != 0) = true := by simpa using hq0
        clear hq
        go_wp2_with (first
          | (go_at_call 19; (with_reducible refine PB.out.mono ?_); rintro e w6 ⟨g6, e6, rfl, he6, lg6, dd6, h6⟩; obtain ⟨he7, rfl⟩ := Prod.mk.inj he6; have HE6 := Lib.hid (he7.trans HGN.out); have LG6 := Lib.hid lg6; have H6 := Lib.hid (bthen' HW.out h6); have st6 := fun (cc : Array Value) (hcc : cc.size = 56) => run_storeCells_new (P := Try.prog) w6 42 cc (Fm.FC g6) (by rw [Fm.FC_size LG6.out]; kernel_rfl) (by rw [Fm.FC_size LG6.out]; exact hcc) (Fm.FC_one _); have szg := Fm.FC_size LG6.out; have hbf := Below.alloc (Below.refl w6.heap.size w6) (Nat.le_refl _) (.cells (Fm.FC g6) 42); have lg7 := load_any19 LG6.out (BX.new w6 42 (Fm.FC g6)); have H7 := Lib.hid (bthen' H6.out hbf); have DD7 := Lib.hid (dd6.later hbf); clear he6 he7 lg6 dd6 h6 hbf)
          | (go_at_call 13; (with_reducible refine (SM2.out _ g6 nu LG6.out NL.out DD7.out (NDD.out _) (BN.out _ _ DD7.out HE6.out).1 (BN.out _ _ DD7.out HE6.out).2 NB.out.1 NB.out.2).mono ?_); rintro e w8 ⟨rfl, h8⟩; rw [Fm.same_er (HE6.out.trans NER.out.1.symm)]; have H8 := Lib.hid (bthen' H7.out h8); clear h8)
          | (go_at_call 8; (with_reducible refine (al.out _).mono ?_); rintro e w9 ⟨rfl, h9⟩; have H9 := Lib.hid (bthen' HB.out (bthen' H8.out h9)); clear h9))
        go_ret
        exact ⟨rfl, H9.out⟩
      have hq1 : q = 0 := by omega
      subst hq1
      have h2 : (Fm.parse xs).2 = 0 := by rw [hq]
      have LP := Lib.hid (Fm.lay_parse HY.out h2)
      have PF := Lib.hid (Fm.parse_fit HY.out h2)
      rw [hq] at LP PF
      simp only at LP PF
      clear h2 hq
      have LY2 := Lib.hid (fun W1 g (lg : g.ln) (hg : Fm.er g = G) (dd : DD W1 g) => show Calls Try.prog 9 #[.agg (Fm.FC g)] W1 (fun e w' => ∃ v, e = .returned (.tuple #[v, .int .i64 0]) ∧ OBn w' W1.heap.size 5 v n xs ∧ Below W1.heap.size W1 w') from by
        have hx := dd.1.1.1
        have hr := dd.2.1.1
        have e1 : g.s = G.s := congrArg (·.s) hg
        have e2 : g.r = G.r := congrArg (·.r) hg
        have e3 : g.off = G.off := congrArg (·.off) hg
        have e4 : g.tot = G.tot := congrArg (·.tot) hg
        have e5 : g.xs = G.xs := congrArg (·.xs) hg
        have e6 : g.rs = G.rs := congrArg (·.rs) hg
        have pf := PF.out
        have hl := HXL.out
        have eb : Fm.body g = Fm.body G := by rw [← hg]; rfl
        have em : Fm.may g = 0 := by rw [Fm.may_er hx hr, hg]; exact LP.out.1
        have hm : g.m ≤ 10000 := by rw [← hr, e6]; omega
        have hnn : g.n ≤ 200000 := by rw [← hx, e5]; omega
        have h := lay_any19 g W1 ⟨lg, by rw [e1]; exact pf.1, by rw [e2]; exact pf.2.1, by rw [e3]; exact pf.2.2.1, by rw [e4]; exact pf.2.2.2.1, dd.2.1.2, hx, hr⟩ dd.2 dd.1.1 hm hnn (fun _ => by rw [eb]; exact Fm.sealed_front LP.out.2 HY.out)
        rw [em, eb, LP.out.2] at h
        have hlen : (Fm.body G).length + 4 = n := by rw [← hl, ← LP.out.2, Ck.sealed_len]
        rw [hlen] at h
        exact h.mono fun e w' ⟨v, h1, h2, _, h4⟩ => ⟨v, h1, h2 rfl, h4⟩)
      go_wp2_with (first
        | (go_at_call 19; (with_reducible refine PB.out.mono ?_); rintro e w6 ⟨g6, e6, rfl, he6, lg6, dd6, h6⟩; obtain ⟨he7, rfl⟩ := Prod.mk.inj he6; have HE6 := Lib.hid he7; have LG6 := Lib.hid lg6; have H6 := Lib.hid (bthen' HW.out h6); have st6 := fun (cc : Array Value) (hcc : cc.size = 56) => run_storeCells_new (P := Try.prog) w6 42 cc (Fm.FC g6) (by rw [Fm.FC_size LG6.out]; kernel_rfl) (by rw [Fm.FC_size LG6.out]; exact hcc) (Fm.FC_one _); have szg := Fm.FC_size LG6.out; have hbf := Below.alloc (Below.refl w6.heap.size w6) (Nat.le_refl _) (.cells (Fm.FC g6) 42); have lg7 := load_any19 LG6.out (BX.new w6 42 (Fm.FC g6)); have H7 := Lib.hid (bthen' H6.out hbf); have DD7 := Lib.hid (dd6.later hbf); clear he6 he7 lg6 dd6 h6 hbf)
        | (go_at_call 9; (with_reducible refine (LY2.out _ g6 LG6.out HE6.out DD7.out).mono ?_); rintro e w8 ⟨v8, rfl, ho8, h8⟩; obtain ⟨A8, c8, rfl, hr8, _, _⟩ := ho8.slice; have H8 := Lib.hid (bthen' H7.out h8); have NS := Lib.hid (same_any A8 B n n c8 c xs xs w8 hr8 ((RBX.out.below H8.out).more H8.out.size) (by omega) (by omega)); rw [decide_eq_true (rfl : xs = xs)] at NS; clear ho8 hr8 h8)
        | (go_at_call 12; (with_reducible refine NS.out.mono ?_); rintro e w10 ⟨rfl, h10⟩; replace H8 := Lib.hid (bthen' H8.out h10); clear h10)
        | (go_at_call 8; (with_reducible refine (al.out _).mono ?_); rintro e w9 ⟨rfl, h9⟩; have H9 := Lib.hid (bthen' HB.out (bthen' H8.out h9)); clear h9))
      go_ret
      exact ⟨rfl, H9.out⟩
end Go.Proofs.Ytmpmldoapfddeaa
