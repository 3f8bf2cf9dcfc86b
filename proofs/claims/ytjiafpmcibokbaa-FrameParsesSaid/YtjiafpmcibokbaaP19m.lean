/- LAYER 19, frame, thirteenth part: Parse. gen_p19m.py -/
import Derived.Test.YtjiafpmcibokbaaP19l
import Derived.Test.YtjiafpmcibokbaaM19d
import Derived.Test.YtjiafpmcibokbaaC11e
namespace Go.Proofs.Ytjiafpmcibokbaa
open Go Go.RowKit
set_option maxHeartbeats 3000000
set_option maxRecDepth 100000
set_option linter.unusedVariables false
attribute [-go_sem] loadCellsFrom storeCells Instr.build
attribute [local go_sem] storeCells_one
namespace Fm
theorem pars_head {b : List Int} (hb : Byt b) : pars b = if b.length < 28 then (nul, 4) else if (headE b).2 ≠ 0 then (nul, (headE b).2) else finE (readL (fl (headE b).1.k) (er (headE b).1) (b.drop 28, false)) := by
  unfold pars headE
  by_cases h1 : b.length < 28
  · rw [if_pos h1, if_pos h1]
  rw [if_neg h1, if_neg h1]
  by_cases h2 : b.getD 0 0 ≠ 84 ∨ b.getD 1 0 ≠ 87
  · rw [if_pos h2, if_pos h2]
    rfl
  rw [if_neg h2, if_neg h2]
  by_cases h3 : b.getD 2 0 < 1 ∨ 7 < b.getD 2 0
  · rw [if_pos h3, if_pos h3]
    rfl
  rw [if_neg h3, if_neg h3]
  unfold Dl.mark
  by_cases h4 : b.getD 3 0 ≠ (((ofL ((b.drop 20).take 4)) % 4 + (ofL ((b.drop 24).take 4)) % 4) % 4 : Nat)
  · rw [if_pos h4, if_pos h4]
    rfl
  rw [if_neg h4, if_neg h4]
  have h := read_fields (k := b.getD 2 0) (tok := (b.drop 4).take 16) (s := ofL ((b.drop 20).take 4)) (r := ofL ((b.drop 24).take 4)) (Byt.dropF hb 28) (by omega)
  exact h.trans (if_neg (show ¬ ((0 : Int) ≠ 0) by decide)).symm
theorem headE_ok {b : List Int} {G : Fr} (h28 : 28 ≤ b.length) (h : headE b = (G, 0)) : (1 ≤ G.k ∧ G.k ≤ 7) ∧ G.ln ∧ ∃ k tok s r, G = mk3 k tok s r := by
  unfold headE at h
  split at h
  · cases h
  split at h
  · cases h
  split at h
  · cases h
  rename_i h1 h2 h3
  obtain ⟨rfl, _⟩ := Prod.mk.inj h
  refine ⟨⟨?_, ?_⟩, mk3_ln (by rw [List.length_take, List.length_drop]; omega), _, _, _, _, rfl⟩
  · show 1 ≤ b.getD 2 0
    omega
  · show b.getD 2 0 ≤ 7
    omega
theorem headE_bad {b : List Int} {G : Fr} {e : Int} (h : headE b = (G, e)) (he : e ≠ 0) : G = nul := by
  unfold headE at h
  split at h
  · exact (Prod.mk.inj h).1.symm
  split at h
  · exact (Prod.mk.inj h).1.symm
  split at h
  · exact (Prod.mk.inj h).1.symm
  · exact absurd (Prod.mk.inj h).2.symm he
theorem lft_len (m : Nat) (s : Rs) : (lft m s).1.length ≤ s.1.length := by
  unfold lft
  split
  · rw [List.length_drop]; omega
  · simp
theorem rdR_len : ∀ (n : Nat) (l : List (Nat × Nat)) (s : Rs), (rdR n l s).1.length = l.length + n ∧ (rdR n l s).2.1.length ≤ s.1.length
  | 0, l, s => ⟨rfl, Nat.le_refl _⟩
  | n + 1, l, s => by
    have h := rdR_len n (l ++ [(ofL (tk 8 s), ofL (tk 8 (lft 8 s)))]) (lft 8 (lft 8 s))
    rw [rdR]
    refine ⟨by rw [h.1, List.length_append]; simp; omega, Nat.le_trans h.2 (Nat.le_trans (lft_len _ _) (lft_len _ _))⟩
theorem readE_len (x : Int) (b : Fr) (s : Rs) : (readE x b s).2.1.length ≤ s.1.length ∧ (readE x b s).1.rs.length ≤ b.rs.length + (s.1.length + 15) / 16 := by
  unfold readE
  (repeat' split) <;> (try exact ⟨lft_len _ _, Nat.le_add_right _ _⟩)
  have h := rdR_len ((s.1.length + 15) / 16) [] s
  exact ⟨h.2, by rw [show (rdR ((s.1.length + 15) / 16) [] s).1.length = 0 + (s.1.length + 15) / 16 from h.1]; omega⟩
theorem fl_first (k : Int) : (fl k).getD 0 0 ≠ 4 ∧ (fl k).length ≤ 2 := by
  unfold fl
  (repeat' split) <;> simp
end Fm
theorem IL.ot2 {w w' : World} {A : Option Addr} {n a b : Nat} {l : List Int} {T T' : TypeId} {cs cs' : Array Value} (h : IL w A n l) (ho : Ot2 a b w w') (hx : BX w a T cs) (hT : T ≠ 69) (hx' : BX w b T' cs') (hT' : T' ≠ 69) : IL w' A n l :=
  ⟨h.1, fun hn => by
    obtain ⟨b, cs, e, hb, hc⟩ := h.2 hn
    exact ⟨b, cs, e, hb.ot2 ho (fun e => by subst e; unfold BX at hb hx; rw [hb] at hx; cases hx; exact hT rfl) (fun e => by subst e; unfold BX at hb hx'; rw [hb] at hx'; cases hx'; exact hT' rfl), hc⟩⟩
/-- What a parsing gives. -/
def PG (q : Fm.Fr × Int) (w : World) (e : Ending) (w' : World) : Prop :=
  ∃ g e', e = .returned (.tuple #[.agg (Fm.FC g), .int .i64 e']) ∧ (Fm.er g, e') = q ∧ g.ln ∧ DD w' g ∧ Below w.heap.size w w'
theorem parse_any19 (A : Option Addr) (n c : Nat) (xs : List Int) (w : World) (ha : RB w w.heap.size A n xs) (hy : Byt xs) (hn : n ≤ c) (hc : c ≤ maxLen) (hn2 : n ≤ 400000) :
    Calls Try.prog 19 #[.slice A n c] w (PG (Fm.parse xs) w) := by
  obtain ⟨nu, NU0⟩ : ∃ g, Hid (Fm.nul = g) := ⟨_, rfl⟩
  have NL := Lib.hid (show nu.ln by rw [← NU0.out]; exact Fm.nul_ln)
  have NDD := Lib.hid (show ∀ W, DD W nu by rw [← NU0.out]; exact fun W => (da_none W 0 _ _ _ _).dd)
  have NER := Lib.hid (show Fm.er nu = nu by rw [← NU0.out]; rfl)
  have bn : ∀ W, (Instr.build 42 #[]).run Try.prog W = .ok (.agg (Fm.FC nu)) W := fun W => by rw [← NU0.out]; exact run_build (P := Try.prog) W 42 #[] _ built_nulp
  have szn := Fm.FC_size NL.out
  obtain ⟨Q, hQ⟩ : ∃ Q, Fm.parse xs = Q := ⟨_, rfl⟩
  rw [hQ]
  unfold Fm.parse at hQ
  rw [NU0.out] at hQ
  have bZ := BX.new w 42 (Fm.FC Fm.nul)
  have hB1 := Below.alloc (Below.refl w.heap.size w) (Nat.le_refl _) (.cells (Fm.FC Fm.nul) 42)
  have ha1 := (ha.below hB1).more hB1.size
  rw [NU0.out] at bZ hB1 ha1
  obtain ⟨W0, hW0⟩ : ∃ W, w.alloc (.cells (Fm.FC nu) 42) = W := ⟨_, rfl⟩
  rw [hW0] at bZ hB1 ha1
  have OP := Lib.hid (copen_any A n c xs W0 ha1 hy hn hc (by omega))
  have BZ0 := Lib.hid bZ
  have HB0 := Lib.hid hB1
  have BOP := Lib.hid (show Byt (Ck.open_ xs) by unfold Ck.open_; split; exact Ck.Byt.take hy _; exact Byt.nil)
  have LOP := Lib.hid (show (Ck.open_ xs).length ≤ 400000 by unfold Ck.open_; have := ha.1; split; rw [List.length_take]; omega; simp)
  have PH := Lib.hid (Fm.pars_head BOP.out)
  rw [NU0.out] at PH
  have bR : ∀ (W : World) (A : Option Addr) (n c : Nat), (Instr.build 82 #[(0, .slice A n c)]).run Try.prog W = .ok (.agg #[.slice A n c, .bool false]) W := fun W A n c => run_build (P := Try.prog) W 82 #[(0, .slice A n c)] #[.slice A n c, .bool false] (by kernel_rfl)
  obtain ⟨E, hE⟩ : ∃ E, Ck.err xs = E := ⟨_, rfl⟩
  rw [hE] at OP hQ
  generalize Ck.open_ xs = b at *
  clear hE ha ha1 bZ hB1 hy
  by_cases h0 : E ≠ 0
  · have QQ := Lib.hid (show Q = (nu, E) by rw [← hQ, if_pos h0])
    have gE : (E != 0) = true := by simpa using h0
    go_enter Try.func19, Try.ntmps19
    go_upto_region 1 with (fail)
    change Code.wp _ _ _ _ (w.alloc (.cells (Fm.FC Fm.nul) 42))
    rw [NU0.out, hW0]
    go_wp2_with (go_at_call 34; (with_reducible refine OP.out.mono ?_); rintro e w1 ⟨v1, rfl, ho1, hb1⟩; obtain ⟨A1, c1, rfl, hr1, hc1, hm1⟩ := OBn.slice ho1; have HR1 := Lib.hid hr1; have BZ1 := Lib.hid (BZ0.out.later hb1); have HB1 := Lib.hid (bthen' HB0.out hb1); have ss1 := store_any19 BZ1.out NL.out NL.out; have lr1 := load_any19 NL.out (put_any19 BZ1.out NL.out NL.out); clear hr1 ho1 hb1)
    refine bodyPost_ret (v := .tuple #[.agg (Fm.FC nu), .int .i64 E]) (by simp [results, Try.f19, go_sem, lr1]) rfl ?_
    exact ⟨nu, E, rfl, by rw [NER.out, QQ.out], NL.out, NDD.out _, (HB1.out.trans (Below.setCells (Nat.le_refl _) (Fm.FC nu).toList 0 _ (Below.refl _ _)))⟩
  have h0' : E = 0 := by omega
  subst h0'
  rw [if_neg (by simp)] at hQ
  rw [PH.out] at hQ
  by_cases h28 : b.length < 28
  · have QQ := Lib.hid (show Q = (nu, 4) by rw [← hQ, if_pos h28])
    have h28' : (b.length : Int) < 28 := by omega
    go_enter Try.func19, Try.ntmps19
    go_upto_region 1 with (fail)
    change Code.wp _ _ _ _ (w.alloc (.cells (Fm.FC Fm.nul) 42))
    rw [NU0.out, hW0]
    go_wp2_with (go_at_call 34; (with_reducible refine OP.out.mono ?_); rintro e w1 ⟨v1, rfl, ho1, hb1⟩; obtain ⟨A1, c1, rfl, hr1, hc1, hm1⟩ := OBn.slice ho1; have HR1 := Lib.hid hr1; have BZ1 := Lib.hid (BZ0.out.later hb1); have HB1 := Lib.hid (bthen' HB0.out hb1); have ss1 := store_any19 BZ1.out NL.out NL.out; have lr1 := load_any19 NL.out (put_any19 BZ1.out NL.out NL.out); clear hr1 ho1 hb1)
    refine bodyPost_ret (v := .tuple #[.agg (Fm.FC nu), .int .i64 4]) (by simp [results, Try.f19, go_sem, lr1]) rfl ?_
    exact ⟨nu, 4, rfl, by rw [NER.out, QQ.out], NL.out, NDD.out _, (HB1.out.trans (Below.setCells (Nat.le_refl _) (Fm.FC nu).toList 0 _ (Below.refl _ _)))⟩
  have h28' : ¬ (b.length : Int) < 28 := by omega
  rw [if_neg h28] at hQ
  obtain ⟨G, E0, hGE⟩ : ∃ G E0, Fm.headE b = (G, E0) := ⟨_, _, rfl⟩
  rw [hGE] at hQ
  simp only at hQ
  have HGE := Lib.hid hGE
  by_cases hE0 : E0 ≠ 0
  · have QQ := Lib.hid (show Q = (nu, E0) by rw [← hQ, if_pos hE0])
    have LG := Lib.hid (show G.ln by rw [Fm.headE_bad hGE hE0]; exact Fm.nul_ln)
    have szg := Fm.FC_size LG.out
    have gE : (E0 != 0) = true := by simpa using hE0
    clear hGE hQ
    go_enter Try.func19, Try.ntmps19
    go_upto_region 1 with (fail)
    change Code.wp _ _ _ _ (w.alloc (.cells (Fm.FC Fm.nul) 42))
    rw [NU0.out, hW0]
    go_wp2_with (first
      | (go_at_call 34; (with_reducible refine OP.out.mono ?_); rintro e w1 ⟨v1, rfl, ho1, hb1⟩; obtain ⟨A1, c1, rfl, hr1, hc1, hm1⟩ := OBn.slice ho1; have HR1 := Lib.hid hr1; have BZ1 := Lib.hid (BZ0.out.later hb1); have HB1 := Lib.hid (bthen' HB0.out hb1); have ss1 := store_any19 BZ1.out NL.out NL.out; have lr1 := load_any19 NL.out (put_any19 BZ1.out NL.out NL.out); have hbr := Below.alloc (Below.refl w1.heap.size w1) (Nat.le_refl _) (.cells #[.slice A1 b.length c1, .bool false] 82); have RD1 := Lib.hid (show RD (w1.alloc (.cells #[.slice A1 b.length c1, .bool false] 82)) w1.heap.size w1.heap.size (b, false) from ⟨A1, b.length, c1, BX.new w1 82 _, hr1.below hbr, hc1, hm1, BOP.out⟩); have BZr := Lib.hid (BZ1.out.later hbr); have HBr := Lib.hid (bthen' HB1.out hbr); have RH := Lib.hid (readhead_any19 w1.heap.size w1.heap.size b _ RD1.out (Nat.le_refl _) (by omega)); have HP0 := Lib.hid (show w.heap.size < w1.heap.size from BZ1.out.lt); clear hbr; clear hr1 ho1 hb1)
      | (go_at_call 35; (with_reducible refine RH.out.mono ?_); rintro e w2 ⟨g2, e2, rfl, he2, hrd2, ho2⟩; rw [HGE.out] at he2; obtain ⟨rfl, rfl⟩ := Prod.mk.inj he2; have RD2 := Lib.hid hrd2; have BZ2 := Lib.hid (BZr.out.oth ho2 (Nat.ne_of_lt HP0.out)); have HB2 := Lib.hid (HBr.out.trans (ho2.below (Nat.le_of_lt HP0.out) HBr.out.size)); have SZ2 := Lib.hid (show w1.heap.size < w2.heap.size from Nat.lt_of_lt_of_le (by simp) ho2.2.2.2.1); have st2 := fun (cc : Array Value) (hcc : cc.size = 56) => run_storeCells_new (P := Try.prog) w2 42 cc (Fm.FC G) (by rw [Fm.FC_size LG.out]; kernel_rfl) (by rw [Fm.FC_size LG.out]; exact hcc) (Fm.FC_one _); have hbf := Below.alloc (Below.refl w2.heap.size w2) (Nat.le_refl _) (.cells (Fm.FC G) 42); have BG3 := Lib.hid (BX.new w2 42 (Fm.FC G)); have BZ3 := Lib.hid (BZ2.out.later hbf); have HB3 := Lib.hid (bthen' HB2.out hbf); have RD3 := Lib.hid (RD2.out.below19 hbf SZ2.out (Nat.le_of_lt SZ2.out)); have ss3 := store_any19 BZ3.out NL.out NL.out; have lr3 := load_any19 NL.out (put_any19 BZ3.out NL.out NL.out); clear he2 hrd2 ho2 hbf))
    refine bodyPost_ret (v := .tuple #[.agg (Fm.FC nu), .int .i64 E0]) (by simp [results, Try.f19, go_sem, lr3]) rfl ?_
    exact ⟨nu, E0, rfl, by rw [NER.out, QQ.out], NL.out, NDD.out _, (HB3.out.trans (Below.setCells (Nat.le_refl _) (Fm.FC nu).toList 0 _ (Below.refl _ _)))⟩
  have hE0' : E0 = 0 := by omega
  subst hE0'
  rw [if_neg (by simp)] at hQ
  obtain ⟨hk, LG', k0, tok0, s0, r0, hG⟩ := Fm.headE_ok (by omega) hGE
  have LG := Lib.hid LG'
  have DG0 := Lib.hid (show ∀ W a, DA W a G by rw [hG]; exact fun W a => da_none W a _ _ _ _)
  have NR0 := Lib.hid (show G.RA = none ∧ G.m = 0 ∧ G.rc = 0 ∧ G.rs.length = 0 by rw [hG]; exact ⟨rfl, rfl, rfl, rfl⟩)
  have szg := Fm.FC_size LG.out
  obtain ⟨k, hkk⟩ : ∃ k, G.k = k := ⟨_, rfl⟩
  have HKK := Lib.hid hkk
  obtain ⟨L, hL⟩ : ∃ L, Fm.fl k = L := ⟨_, rfl⟩
  have HL := Lib.hid hL
  have HF := Lib.hid (Fm.fl_first k)
  have HIN := Lib.hid (fun j (h : j < (Fm.fl k).length) => Fm.fl_in h)
  rw [hkk, hL] at hQ
  rw [hL] at HF HIN
  have HQ := Lib.hid hQ
  clear hGE hQ hG LG' hk hkk hL
  go_enter Try.func19, Try.ntmps19
  go_upto_region 1 with (fail)
  change Code.wp _ _ _ _ (w.alloc (.cells (Fm.FC Fm.nul) 42))
  rw [NU0.out, hW0]
  go_wp2_with (first
    | (go_at_call 34; (with_reducible refine OP.out.mono ?_); rintro e w1 ⟨v1, rfl, ho1, hb1⟩; obtain ⟨A1, c1, rfl, hr1, hc1, hm1⟩ := OBn.slice ho1; have HR1 := Lib.hid hr1; have BZ1 := Lib.hid (BZ0.out.later hb1); have HB1 := Lib.hid (bthen' HB0.out hb1); have ss1 := store_any19 BZ1.out NL.out NL.out; have lr1 := load_any19 NL.out (put_any19 BZ1.out NL.out NL.out); have hbr := Below.alloc (Below.refl w1.heap.size w1) (Nat.le_refl _) (.cells #[.slice A1 b.length c1, .bool false] 82); have RD1 := Lib.hid (show RD (w1.alloc (.cells #[.slice A1 b.length c1, .bool false] 82)) w1.heap.size w1.heap.size (b, false) from ⟨A1, b.length, c1, BX.new w1 82 _, hr1.below hbr, hc1, hm1, BOP.out⟩); have BZr := Lib.hid (BZ1.out.later hbr); have HBr := Lib.hid (bthen' HB1.out hbr); have RH := Lib.hid (readhead_any19 w1.heap.size w1.heap.size b _ RD1.out (Nat.le_refl _) (by omega)); have HP0 := Lib.hid (show w.heap.size < w1.heap.size from BZ1.out.lt); clear hbr; clear hr1 ho1 hb1)
    | (go_at_call 35; (with_reducible refine RH.out.mono ?_); rintro e w2 ⟨g2, e2, rfl, he2, hrd2, ho2⟩; rw [HGE.out] at he2; obtain ⟨rfl, rfl⟩ := Prod.mk.inj he2; have RD2 := Lib.hid hrd2; have BZ2 := Lib.hid (BZr.out.oth ho2 (Nat.ne_of_lt HP0.out)); have HB2 := Lib.hid (HBr.out.trans (ho2.below (Nat.le_of_lt HP0.out) HBr.out.size)); have SZ2 := Lib.hid (show w1.heap.size < w2.heap.size from Nat.lt_of_lt_of_le (by simp) ho2.2.2.2.1); have st2 := fun (cc : Array Value) (hcc : cc.size = 56) => run_storeCells_new (P := Try.prog) w2 42 cc (Fm.FC G) (by rw [Fm.FC_size LG.out]; kernel_rfl) (by rw [Fm.FC_size LG.out]; exact hcc) (Fm.FC_one _); have hbf := Below.alloc (Below.refl w2.heap.size w2) (Nat.le_refl _) (.cells (Fm.FC G) 42); have BG3 := Lib.hid (BX.new w2 42 (Fm.FC G)); have BZ3 := Lib.hid (BZ2.out.later hbf); have HB3 := Lib.hid (bthen' HB2.out hbf); have RD3 := Lib.hid (RD2.out.below19 hbf SZ2.out (Nat.le_of_lt SZ2.out)); have k3 := (FB.of BG3.out LG.out).c0; rw [HKK.out] at k3; clear he2 hrd2 ho2 hbf)
    | (go_at_call 24; (with_reducible refine (fieldsof_any19 _ _).mono ?_); rintro e w4 ⟨A4, n4, c4, rfl, hi4, hn4, hb4⟩; rw [HL.out] at hi4; have BG4 := Lib.hid (BG3.out.later hb4); have BZ4 := Lib.hid (BZ3.out.later hb4); have HB4 := Lib.hid (bthen' HB3.out hb4); have RD4 := Lib.hid (RD3.out.below19 hb4 (Nat.lt_of_lt_of_le SZ2.out (by simp)) (Nat.le_of_lt (Nat.lt_of_lt_of_le SZ2.out (by simp)))); have HI4 := Lib.hid hi4; clear hi4 hb4))
  have HLN := Lib.hid HI4.out.1
  have hP1 := HP0.out
  have hP2 := SZ2.out
  have hTF : 42 ≠ 69 := by decide
  have hTR : 82 ≠ 69 := by decide
  have hbl : (b.drop 28).length ≤ 400000 := by rw [List.length_drop]; have := LOP.out; omega
  have HBL := Lib.hid hbl
  generalize w1.heap.size = p at *
  generalize w2.heap.size = hb at *
  clear hbl ss1 lr1 k3 st2 bR
  go_loopw [42] (fun i W => ∃ (j : Nat) (g : Fm.Fr) (sj : Fm.Rs), j ≤ n4 ∧ i = .int .i64 j ∧ Hid ((Fm.er g, sj) = Fm.readL (L.take j) (Fm.er G) (b.drop 28, false)) ∧ Hid (sj.1.length ≤ 400000 ∧ g.rs.length ≤ 40000 * j ∧ (j ≤ 1 → g.RA = none ∧ g.m = 0 ∧ g.rc = 0)) ∧ Hid (BX W hb 42 (Fm.FC g) ∧ g.ln ∧ DA W hb g) ∧ Hid (RD W p p sj) ∧ Hid (BX W w.heap.size 42 (Fm.FC nu)) ∧ Hid (Below w.heap.size w W) ∧ Hid (IL W A4 n4 L)) (fun i _ => n4 - (intOf i).toNat)
  case atStart => exact ⟨0, G, (b.drop 28, false), Nat.zero_le _, rfl, rfl, ⟨HBL.out, by rw [NR0.out.2.2.2]; exact Nat.zero_le _, fun _ => ⟨NR0.out.1, NR0.out.2.1, NR0.out.2.2.1⟩⟩, ⟨BG4.out, LG.out, DG0.out _ _⟩, RD4.out, BZ4.out, HB4.out, HI4.out⟩
  case round =>
    obtain ⟨j, g, sj, hj, rfl, HRL, HBD, HG, HRD, HBZ, HBW, HIL⟩ := hrel
    have hn4' := hn4
    by_cases hlt : j < n4
    · have hlt' : (j : Int) < n4 := by omega
      obtain ⟨b4, rfl, c9⟩ := HIL.out.at_ hlt
      rw [Nat.zero_add] at c9
      have HTK := Lib.hid (Fm.readL_take (l := L) (b := Fm.er G) (s := (b.drop 28, false)) (j := j) (by rw [HLN.out]; exact hlt))
      rw [← HRL.out] at HTK
      simp only at HTK
      have hin := HIN.out j (by rw [HLN.out]; exact hlt)
      have HX4 := Lib.hid (show j = 0 → L.getD j 0 ≠ 4 from fun e => by rw [e]; exact HF.out.1)
      have HLE := Lib.hid (Fm.readE_len (L.getD j 0) (Fm.er g) sj)
      obtain ⟨x, hx⟩ : ∃ x, L.getD j 0 = x := ⟨_, rfl⟩
      rw [hx] at c9 HTK hin HX4 HLE
      obtain ⟨A5, n5, c5, hb5, hr5, _, _, _⟩ := HRD.out
      have q0 : wr.cell? ⟨p, 0, none⟩ = some (.slice A5 n5 c5) := hb5.cell rfl
      have HN5 := Lib.hid (show sj.1.length = n5 from hr5.1)
      have HB5 := Lib.hid hb5
      have KX := Lib.hid (readx_any19 (B := p) (s := sj) (left := n5) hin HG.out.2.1 HG.out.1 HG.out.2.2 HRD.out (Nat.le_refl _) hP2 HN5.out (by have := HN5.out; have := HBD.out.1; omega) (fun _ => HBD.out.2.2 (by omega)))
      clear hin hx hb5 hr5
      go_wp2_with (go_at_call 37; (with_reducible refine KX.out.mono ?_); rintro e w6 ⟨rfl, g6, bg6, eg6, lg6, dg6, rd6, ot6, nr6⟩; have HG6 := Lib.hid (And.intro bg6 (And.intro lg6 dg6)); have EG6 := Lib.hid eg6; have RD6 := Lib.hid rd6; have NR6 := Lib.hid nr6; have BZ6 := Lib.hid (HBZ.out.ot2 ot6 (Nat.ne_of_lt hP1) (by omega)); have HB6 := Lib.hid (HBW.out.trans (ot6.below (by omega) (by omega) HBW.out.size)); have HI6 := Lib.hid (HIL.out.ot2 ot6 HB5.out hTR HG.out.1 hTF); clear bg6 eg6 lg6 dg6 rd6 ot6 nr6)
      go_roundw
      case rel => exact ⟨j + 1, g6, (Fm.readE x (Fm.er g) sj).2, by omega, by go_num, by show _ = _; rw [HTK.out, EG6.out], ⟨Nat.le_trans HLE.out.1 HBD.out.1, by
          have h1 := HLE.out.2
          rw [← EG6.out] at h1
          have h2 := HBD.out
          have h3 : (Fm.er g6).rs.length = g6.rs.length := rfl
          have h4 : (Fm.er g).rs.length = g.rs.length := rfl
          omega, fun h => by
          have hx4 := HX4.out (by omega)
          obtain ⟨n1, n2, n3⟩ := NR6.out hx4
          obtain ⟨m1, m2, m3⟩ := HBD.out.2.2 (by omega)
          exact ⟨n1.trans m1, n2.trans m2, n3.trans m3⟩⟩, HG6.out, RD6.out, BZ6.out, HB6.out, HI6.out⟩
      case measure => simp [intOf]; omega
    · obtain rfl : j = n4 := by omega
      have HQ2 := Lib.hid (show Q = (if Fm.endE sj ≠ 0 then (nu, Fm.endE sj) else if Fm.mayP (Fm.er g) ≠ 0 then (nu, Fm.mayP (Fm.er g)) else (Fm.er g, 0)) by
        have h := HQ.out
        have h2 := HRL.out
        rw [List.take_of_length_le (by rw [HLN.out]; exact Nat.le_refl _)] at h2
        rw [← h2] at h
        rw [← h, ← NU0.out]
        rfl)
      have EN := Lib.hid (end_any19 p p sj wr HRD.out)
      have EE := Lib.hid (show (if sj.2 then 4 else if 0 < sj.1.length then 3 else 0) = Fm.endE sj from rfl)
      rw [EE.out] at EN
      have la := load_any19 HG.out.2.1 HG.out.1
      have MA := Lib.hid (may_any19 g wr HG.out.2.1 HG.out.2.2.2.1 (by have h1 := HG.out.2.2.2.1.1.1; have h2 := HBD.out.2.1; omega))
      rw [Fm.may_er HG.out.2.2.1.1.1 HG.out.2.2.2.1.1.1] at MA
      obtain ⟨ee, hee⟩ : ∃ ee, Fm.endE sj = ee := ⟨_, rfl⟩
      obtain ⟨mm, hmm⟩ : ∃ mm, Fm.mayP (Fm.er g) = mm := ⟨_, rfl⟩
      rw [hee] at EN HQ2
      rw [hmm] at MA HQ2
      clear hee hmm EE
      by_cases he : ee ≠ 0
      · have QQ := Lib.hid (show Q = (nu, ee) by rw [HQ2.out, if_pos he])
        have gE : (ee != 0) = true := by simpa using he
        have ss := store_any19 HBZ.out NL.out NL.out
        have lr := load_any19 NL.out (put_any19 HBZ.out NL.out NL.out)
        go_wp2_with (go_at_call 38; (with_reducible refine EN.out.mono ?_); rintro e w9 ⟨rfl, rfl⟩)
        refine bodyPost_ret (v := .tuple #[.agg (Fm.FC nu), .int .i64 ee]) (by simp [results, Try.f19, go_sem, lr]) rfl ?_
        exact ⟨nu, ee, rfl, by rw [NER.out, QQ.out], NL.out, NDD.out _, (HBW.out.trans (Below.setCells (Nat.le_refl _) (Fm.FC nu).toList 0 _ (Below.refl _ _)))⟩
      have he' : ee = 0 := by omega
      subst he'
      by_cases hm : mm ≠ 0
      · have QQ := Lib.hid (show Q = (nu, mm) by rw [HQ2.out, if_neg (by simp), if_pos hm])
        have gM : (mm != 0) = true := by simpa using hm
        go_wp2_with (first
          | (go_at_call 38; (with_reducible refine EN.out.mono ?_); rintro e w9 ⟨rfl, rfl⟩)
          | (go_at_call 22; (with_reducible refine MA.out.mono ?_); rintro e w9 ⟨rfl, hb9⟩; have HB9 := Lib.hid (bthen' HBW.out hb9); have ss := store_any19 (HBZ.out.later hb9) NL.out NL.out; have lr := load_any19 NL.out (put_any19 (HBZ.out.later hb9) NL.out NL.out); clear hb9))
        refine bodyPost_ret (v := .tuple #[.agg (Fm.FC nu), .int .i64 mm]) (by simp [results, Try.f19, go_sem, lr]) rfl ?_
        exact ⟨nu, mm, rfl, by rw [NER.out, QQ.out], NL.out, NDD.out _, (HB9.out.trans (Below.setCells (Nat.le_refl _) (Fm.FC nu).toList 0 _ (Below.refl _ _)))⟩
      have hm' : mm = 0 := by omega
      subst hm'
      have QQ := Lib.hid (show Q = (Fm.er g, 0) by rw [HQ2.out, if_neg (by simp), if_neg (by simp)])
      have szj := Fm.FC_size HG.out.2.1
      go_wp2_with (first
        | (go_at_call 38; (with_reducible refine EN.out.mono ?_); rintro e w9 ⟨rfl, rfl⟩)
        | (go_at_call 22; (with_reducible refine MA.out.mono ?_); rintro e w9 ⟨rfl, hb9⟩; have HB9 := Lib.hid (bthen' HBW.out hb9); have ss := store_any19 (HBZ.out.later hb9) NL.out HG.out.2.1; have lr := load_any19 HG.out.2.1 (put_any19 (HBZ.out.later hb9) NL.out HG.out.2.1); have la9 := load_any19 HG.out.2.1 (HG.out.1.later hb9); have DA9 := Lib.hid (HG.out.2.2.oth (Oth.ofBelow hb9)); clear hb9))
      refine bodyPost_ret (v := .tuple #[.agg (Fm.FC g), .int .i64 0]) (by simp [results, Try.f19, go_sem, lr]) rfl ?_
      have OT := Oth.setCells19 (a := w.heap.size) (Fm.FC g).toList 0 w9 (Oth.refl _ w9)
      exact ⟨g, 0, rfl, QQ.out.symm, HG.out.2.1, (DA9.out.oth' OT (by omega)).dd, HB9.out.trans (Below.setCells (Nat.le_refl _) (Fm.FC g).toList 0 _ (Below.refl _ _))⟩
end Go.Proofs.Ytjiafpmcibokbaa
