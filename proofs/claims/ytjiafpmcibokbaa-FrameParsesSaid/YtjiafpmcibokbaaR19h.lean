/- LAYER 19, the document's answers, seventh part: Parse. gen_r19h.py -/
import Derived.Test.YtjiafpmcibokbaaR19k
import Derived.Test.YtjiafpmcibokbaaP19m
import Derived.Test.YtjiafpmcibokbaaC11g
namespace Go.Proofs.Ytjiafpmcibokbaa
open Go Go.RowKit
set_option maxHeartbeats 3000000
set_option maxRecDepth 100000
set_option linter.unusedVariables false
attribute [-go_sem] loadCellsFrom storeCells Instr.build
attribute [local go_sem] storeCells_one
theorem fields_any19 {k : Int} (hk : 1 ≤ k ∧ k ≤ 7) (tok : List Int) (s r : Nat) (A : Option Addr) (n c : Nat) (b : List Int) (w : World) (h16 : tok.length = 16) (hb : RB w w.heap.size A n b) (hy : Byt b) (hn : n ≤ c) (hc : c ≤ maxLen) (hn2 : n ≤ 500000) :
    Calls Try.prog 41 #[.agg (Fm.FC (Fm.mk3 k tok s r)), .slice A n c] w (FG k tok s r A b w) := by
  have h : k = 1 ∨ k = 2 ∨ k = 3 ∨ k = 4 ∨ k = 5 ∨ k = 6 ∨ k = 7 := by omega
  rcases h with rfl | rfl | rfl | rfl | rfl | rfl | rfl
  · exact reffields1 tok s r A n c b w h16 hb hy hn hc hn2
  · exact reffields2 tok s r A n c b w h16 hb hy hn hc hn2
  · exact reffields3 tok s r A n c b w h16 hb hy hn hc hn2
  · exact reffields4 tok s r A n c b w h16 hb hy hn hc hn2
  · exact reffields5 tok s r A n c b w h16 hb hy hn hc hn2
  · exact reffields6 tok s r A n c b w h16 hb hy hn hc hn2
  · exact reffields7 tok s r A n c b w h16 hb hy hn hc hn2
namespace Fm
/-- The first j of 16 bytes, noughts behind. -/
def part16 (l : List Int) (j : Nat) : List Int := l.take j ++ List.replicate (16 - j) 0
theorem part16_len {l : List Int} {j : Nat} (h : 16 ≤ l.length) (hj : j ≤ 16) : (part16 l j).length = 16 := by unfold part16; rw [List.length_append, List.length_take, List.length_replicate]; omega
theorem part16_set {b : List Int} {j : Nat} (h : 16 ≤ (b.drop 4).length) (hj : j < 16) : (part16 (b.drop 4) j).set j (b.getD (4 + j) 0) = part16 (b.drop 4) (j + 1) := by
  unfold part16
  rw [List.set_append_right _ _ (by rw [List.length_take]; omega), List.length_take, show j - min j (b.drop 4).length = 0 from by omega, show 16 - j = (16 - (j + 1)) + 1 from by omega, List.replicate_succ, List.set_cons_zero]
  rw [List.take_add_one, show (b.drop 4)[j]? = some (b.getD (4 + j) 0) from by rw [List.getElem?_drop]; rw [List.length_drop] at h; simp [List.getD_eq_getElem?_getD, show 4 + j < b.length from by omega]]
  simp
theorem part16_all {l : List Int} : part16 l 16 = l.take 16 := by simp [part16]
end Fm
theorem built_two0 (k : Int) (s r : Nat) : Try.prog.built 31 [(0, .int .i64 k), (2, .agg #[.int .u32 (s : Int), .int .u32 (r : Int)])] = some (Fm.FC (Fm.mk3 k (List.replicate 16 0) s r)) := built_two k s r
theorem puts_heap19 {a b : Nat} (hne : b ≠ a) : ∀ (vs : List Value) (o : Nat) (w : World), (w.setCells a o vs).heap[b]? = w.heap[b]?
  | [], _, _ => rfl
  | v :: r, o, w => (puts_heap19 hne r (o + 1) _).trans (heap_setCell_other w ⟨a, o, none⟩ b v hne)
theorem puts_cell19 {a b : Nat} (hne : b ≠ a) (vs : List Value) (o j : Nat) (w : World) : (w.setCells a o vs).cell? ⟨b, j, none⟩ = w.cell? ⟨b, j, none⟩ := by
  simp only [World.cell?, puts_heap19 hne]
theorem puts_size19 {a : Nat} : ∀ (vs : List Value) (o : Nat) (w : World), (w.setCells a o vs).heap.size = w.heap.size
  | [], _, _ => rfl
  | v :: r, o, w => (puts_size19 r (o + 1) _).trans (by simp [World.setCell])
theorem RB.puts19 {w : World} {B a n : Nat} {A : Option Addr} {xs : List Int} (h : RB w B A n xs) (hne : ∀ b o, A = some ⟨b, o, none⟩ → 0 < n → b ≠ a) (vs : List Value) (o : Nat) : RB (w.setCells a o vs) B A n xs :=
  ⟨h.1, fun hn => by
    obtain ⟨b, o2, e, hb, hc⟩ := h.2 hn
    exact ⟨b, o2, e, hb, fun j hj => (puts_cell19 (hne b o2 e hn) vs o _ w).trans (hc j hj)⟩⟩
theorem RG.puts19 {w : World} {B a n : Nat} {A : Option Addr} {l : List (Nat × Nat)} (h : RG w B A n l) (hne : ∀ b o, A = some ⟨b, o, none⟩ → 0 < n → b ≠ a) (vs : List Value) (o : Nat) : RG (w.setCells a o vs) B A n l :=
  ⟨h.1, fun hn => by
    obtain ⟨b, o2, e, hb, hc⟩ := h.2 hn
    exact ⟨b, o2, e, hb, fun j p hj => ⟨(puts_cell19 (hne b o2 e hn) vs o _ w).trans (hc j p hj).1, (puts_cell19 (hne b o2 e hn) vs o _ w).trans (hc j p hj).2⟩⟩⟩
theorem DD.puts19 {w : World} {a : Nat} {g : Fm.Fr} (h : DD w g) (h1 : ∀ b o, g.A = some ⟨b, o, none⟩ → 0 < g.n → b ≠ a) (h2 : ∀ b o, g.RA = some ⟨b, o, none⟩ → 0 < g.m → b ≠ a) (vs : List Value) (o : Nat) : DD (w.setCells a o vs) g :=
  ⟨⟨by rw [puts_size19]; exact h.1.1.puts19 h1 vs o, h.1.2⟩, by rw [puts_size19]; exact h.2.puts19 h2 vs o⟩
theorem refparse_any19 (A : Option Addr) (n c : Nat) (xs : List Int) (w : World) (ha : RB w w.heap.size A n xs) (hy : Byt xs) (hn : n ≤ c) (hc : c ≤ maxLen) (hn2 : n ≤ 400000) :
    Calls Try.prog 20 #[.slice A n c] w (PG (Fm.parse xs) w) := by
  obtain ⟨nu, NU0⟩ : ∃ g, Hid (Fm.nul = g) := ⟨_, rfl⟩
  have NL := Lib.hid (show nu.ln by rw [← NU0.out]; exact Fm.nul_ln)
  have NDD := Lib.hid (show ∀ W, DD W nu by rw [← NU0.out]; exact fun W => (da_none W 0 _ _ _ _).dd)
  have NER := Lib.hid (show Fm.er nu = nu by rw [← NU0.out]; rfl)
  have bn : ∀ W, (Instr.build 31 #[]).run Try.prog W = .ok (.agg (Fm.FC nu)) W := fun W => by rw [← NU0.out]; exact run_build (P := Try.prog) W 31 #[] _ built_nul
  have szn := Fm.FC_size NL.out
  obtain ⟨Q, hQ⟩ : ∃ Q, Fm.parse xs = Q := ⟨_, rfl⟩
  rw [hQ]
  unfold Fm.parse at hQ
  rw [NU0.out] at hQ
  have bZ := BX.new w 31 (Fm.FC Fm.nul)
  have hB1 := Below.alloc (Below.refl w.heap.size w) (Nat.le_refl _) (.cells (Fm.FC Fm.nul) 31)
  have ha1 := ha.below hB1
  have hs1 := hB1.size
  rw [NU0.out] at bZ hB1 ha1 hs1
  obtain ⟨W0, hW0⟩ : ∃ W, w.alloc (.cells (Fm.FC nu) 31) = W := ⟨_, rfl⟩
  rw [hW0] at bZ hB1 ha1 hs1
  have HS1 := Lib.hid hs1
  have OP := Lib.hid (refcopen2_any A n c xs W0 w.heap.size ha1 hs1 hy hn hc (by omega))
  have BZ0 := Lib.hid bZ
  have HB0 := Lib.hid hB1
  have BOP := Lib.hid (show Byt (Ck.open_ xs) by unfold Ck.open_; split; exact Ck.Byt.take hy _; exact Byt.nil)
  obtain ⟨E, hE⟩ : ∃ E, Ck.err xs = E := ⟨_, rfl⟩
  rw [hE] at OP hQ
  generalize Ck.open_ xs = b at *
  clear hE ha ha1 bZ hB1 hy hs1
  by_cases h0 : E ≠ 0
  · have QQ := Lib.hid (show Q = (nu, E) by rw [← hQ, if_pos h0])
    have gE : (E != 0) = true := by simpa using h0
    go_enter Try.func20, Try.ntmps20
    go_upto_region 1 with (fail)
    change Code.wp _ _ _ _ (w.alloc (.cells (Fm.FC Fm.nul) 31))
    rw [NU0.out, hW0]
    go_wp2_with (go_at_call 39; (with_reducible refine OP.out.mono ?_); rintro e w1 ⟨⟨A1, m1, c1, rfl, hr1, hm1, hmc1, hcm1⟩, hb1⟩; have hl1 : b.length = m1 := hr1.1; have RBS := Lib.hid (hr1.below (hb1.mono HS1.out)); have RB1 := Lib.hid (RBS.out.more (Nat.le_trans HS1.out hb1.size)); have BZ1 := Lib.hid (BZ0.out.later hb1); have HB1 := Lib.hid (bthen' HB0.out hb1); have ss1 := store_any19 BZ1.out NL.out NL.out; have lr1 := load_any19 NL.out (put_any19 BZ1.out NL.out NL.out); clear hr1 hb1)
    refine bodyPost_ret (v := .tuple #[.agg (Fm.FC nu), .int .i64 E]) (by simp [results, Try.f20, go_sem, lr1]) rfl ?_
    exact ⟨nu, E, rfl, by rw [NER.out, QQ.out], NL.out, NDD.out _, (HB1.out.trans (Below.setCells (Nat.le_refl _) (Fm.FC nu).toList 0 _ (Below.refl _ _)))⟩
  have h0' : E = 0 := by omega
  subst h0'
  rw [if_neg (by simp)] at hQ
  unfold Fm.pars at hQ
  rw [NU0.out] at hQ
  by_cases h28 : b.length < 28
  · have QQ := Lib.hid (show Q = (nu, 4) by rw [← hQ, if_pos h28])
    go_enter Try.func20, Try.ntmps20
    go_upto_region 1 with (fail)
    change Code.wp _ _ _ _ (w.alloc (.cells (Fm.FC Fm.nul) 31))
    rw [NU0.out, hW0]
    go_wp2_with (go_at_call 39; (with_reducible refine OP.out.mono ?_); rintro e w1 ⟨⟨A1, m1, c1, rfl, hr1, hm1, hmc1, hcm1⟩, hb1⟩; have hl1 : b.length = m1 := hr1.1; have RBS := Lib.hid (hr1.below (hb1.mono HS1.out)); have RB1 := Lib.hid (RBS.out.more (Nat.le_trans HS1.out hb1.size)); have BZ1 := Lib.hid (BZ0.out.later hb1); have HB1 := Lib.hid (bthen' HB0.out hb1); have ss1 := store_any19 BZ1.out NL.out NL.out; have lr1 := load_any19 NL.out (put_any19 BZ1.out NL.out NL.out); have h28m : (m1 : Int) < 28 := (by omega); clear hr1 hb1)
    refine bodyPost_ret (v := .tuple #[.agg (Fm.FC nu), .int .i64 4]) (by simp [results, Try.f20, go_sem, lr1]) rfl ?_
    exact ⟨nu, 4, rfl, by rw [NER.out, QQ.out], NL.out, NDD.out _, (HB1.out.trans (Below.setCells (Nat.le_refl _) (Fm.FC nu).toList 0 _ (Below.refl _ _)))⟩
  rw [if_neg h28] at hQ
  obtain ⟨x0, hx0⟩ : ∃ x, b.getD 0 0 = x := ⟨_, rfl⟩
  obtain ⟨x1, hx1⟩ : ∃ x, b.getD 1 0 = x := ⟨_, rfl⟩
  have X0 := Lib.hid hx0
  have X1 := Lib.hid hx1
  rw [hx0, hx1] at hQ
  clear hx0 hx1
  by_cases h84 : x0 ≠ 84
  · have QQ := Lib.hid (show Q = (nu, 3) by rw [← hQ, if_pos (.inl h84)])
    have g0 : (x0 != 84) = true := by simpa using h84
    go_enter Try.func20, Try.ntmps20
    go_upto_region 1 with (fail)
    change Code.wp _ _ _ _ (w.alloc (.cells (Fm.FC Fm.nul) 31))
    rw [NU0.out, hW0]
    go_wp2_with (go_at_call 39; (with_reducible refine OP.out.mono ?_); rintro e w1 ⟨⟨A1, m1, c1, rfl, hr1, hm1, hmc1, hcm1⟩, hb1⟩; have hl1 : b.length = m1 := hr1.1; have RBS := Lib.hid (hr1.below (hb1.mono HS1.out)); have RB1 := Lib.hid (RBS.out.more (Nat.le_trans HS1.out hb1.size)); have BZ1 := Lib.hid (BZ0.out.later hb1); have HB1 := Lib.hid (bthen' HB0.out hb1); have ss1 := store_any19 BZ1.out NL.out NL.out; have lr1 := load_any19 NL.out (put_any19 BZ1.out NL.out NL.out); obtain ⟨b1, o1, rfl, hbs1, _⟩ := RBS.out.at_ (k := 0) (by omega); have hbb1 := Nat.lt_of_lt_of_le hbs1 (Nat.le_trans HS1.out hb1.size); have r0 := RB1.out.at_' (k := 0) (by omega); have r1 := RB1.out.at_' (k := 1) (by omega); rw [Nat.add_zero, X0.out] at r0; rw [X1.out] at r1; have h28m : ¬ (m1 : Int) < 28 := (by omega); have h1m : (1 : Int) < m1 := (by omega); have h0m : (0 : Int) < m1 := (by omega); clear hr1 hb1)
    refine bodyPost_ret (v := .tuple #[.agg (Fm.FC nu), .int .i64 3]) (by simp [results, Try.f20, go_sem, lr1]) rfl ?_
    exact ⟨nu, 3, rfl, by rw [NER.out, QQ.out], NL.out, NDD.out _, (HB1.out.trans (Below.setCells (Nat.le_refl _) (Fm.FC nu).toList 0 _ (Below.refl _ _)))⟩
  have h84' : x0 = 84 := by omega
  subst h84'
  by_cases h87 : x1 ≠ 87
  · have QQ := Lib.hid (show Q = (nu, 3) by rw [← hQ, if_pos (.inr h87)])
    have g1 : (x1 != 87) = true := by simpa using h87
    go_enter Try.func20, Try.ntmps20
    go_upto_region 1 with (fail)
    change Code.wp _ _ _ _ (w.alloc (.cells (Fm.FC Fm.nul) 31))
    rw [NU0.out, hW0]
    go_wp2_with (go_at_call 39; (with_reducible refine OP.out.mono ?_); rintro e w1 ⟨⟨A1, m1, c1, rfl, hr1, hm1, hmc1, hcm1⟩, hb1⟩; have hl1 : b.length = m1 := hr1.1; have RBS := Lib.hid (hr1.below (hb1.mono HS1.out)); have RB1 := Lib.hid (RBS.out.more (Nat.le_trans HS1.out hb1.size)); have BZ1 := Lib.hid (BZ0.out.later hb1); have HB1 := Lib.hid (bthen' HB0.out hb1); have ss1 := store_any19 BZ1.out NL.out NL.out; have lr1 := load_any19 NL.out (put_any19 BZ1.out NL.out NL.out); obtain ⟨b1, o1, rfl, hbs1, _⟩ := RBS.out.at_ (k := 0) (by omega); have hbb1 := Nat.lt_of_lt_of_le hbs1 (Nat.le_trans HS1.out hb1.size); have r0 := RB1.out.at_' (k := 0) (by omega); have r1 := RB1.out.at_' (k := 1) (by omega); rw [Nat.add_zero, X0.out] at r0; rw [X1.out] at r1; have h28m : ¬ (m1 : Int) < 28 := (by omega); have h1m : (1 : Int) < m1 := (by omega); have h0m : (0 : Int) < m1 := (by omega); clear hr1 hb1)
    refine bodyPost_ret (v := .tuple #[.agg (Fm.FC nu), .int .i64 3]) (by simp [results, Try.f20, go_sem, lr1]) rfl ?_
    exact ⟨nu, 3, rfl, by rw [NER.out, QQ.out], NL.out, NDD.out _, (HB1.out.trans (Below.setCells (Nat.le_refl _) (Fm.FC nu).toList 0 _ (Below.refl _ _)))⟩
  have h87' : x1 = 87 := by omega
  subst h87'
  rw [if_neg (by omega)] at hQ
  obtain ⟨k, hk⟩ : ∃ k, b.getD 2 0 = k := ⟨_, rfl⟩
  obtain ⟨mk, hmk⟩ : ∃ k, b.getD 3 0 = k := ⟨_, rfl⟩
  obtain ⟨s, hs⟩ : ∃ k, Fm.ofL ((b.drop 20).take 4) = k := ⟨_, rfl⟩
  obtain ⟨r, hr⟩ : ∃ k, Fm.ofL ((b.drop 24).take 4) = k := ⟨_, rfl⟩
  rw [hk, hmk, hs, hr] at hQ
  have K0 := BOP.out 2
  rw [hk] at K0
  have HKK := Lib.hid hk
  have HMK := Lib.hid hmk
  have HS := Lib.hid hs
  have HRR := Lib.hid hr
  have s32 : s < 4294967296 := by rw [← hs]; exact Fm.ofL_lt 4 _ (Ck.Byt.take (Fm.Byt.dropF BOP.out 20) 4) (by rw [List.length_take, List.length_drop]; omega)
  have r32 : r < 4294967296 := by rw [← hr]; exact Fm.ofL_lt 4 _ (Ck.Byt.take (Fm.Byt.dropF BOP.out 24) 4) (by rw [List.length_take, List.length_drop]; omega)
  clear hk hmk hs hr
  obtain ⟨f0, F0⟩ : ∃ f, Hid (Fm.mk3 k (List.replicate 16 0) s r = f) := ⟨_, rfl⟩
  have l3 : f0.ln := by rw [← F0.out]; exact Fm.mk3_ln (by simp)
  have L3 := Lib.hid l3
  have wk : IntKind.i64.wrap k = k := by rw [IntWalk.i64_in _ (by omega)]
  have ws : IntKind.u32.wrap (s : Int) = (s : Int) := by rw [IntKind.wrap_u32']; omega
  have wr : IntKind.u32.wrap (r : Int) = (r : Int) := by rw [IntKind.wrap_u32']; omega
  have be := fun W => run_build (P := Try.prog) W 25 #[(0, .int .u32 (s : Int)), (1, .int .u32 (r : Int))] #[.int .u32 (s : Int), .int .u32 (r : Int)] (by kernel_rfl)
  have bf : ∀ W, (Instr.build 31 #[(0, .int .i64 k), (2, .agg #[.int .u32 (s : Int), .int .u32 (r : Int)])]).run Try.prog W = .ok (.agg (Fm.FC f0)) W := fun W => by rw [← F0.out]; exact run_build (P := Try.prog) W 31 #[(0, .int .i64 k), (2, .agg #[.int .u32 (s : Int), .int .u32 (r : Int)])] _ (built_two0 k s r)
  have sz3 := Fm.FC_size l3
  go_enter Try.func20, Try.ntmps20
  go_upto_region 1 with (fail)
  change Code.wp _ _ _ _ (w.alloc (.cells (Fm.FC Fm.nul) 31))
  rw [NU0.out, hW0]
  go_upto_region 8 with (go_at_call 39; (with_reducible refine OP.out.mono ?_); rintro e w1 ⟨⟨A1, m1, c1, rfl, hr1, hm1, hmc1, hcm1⟩, hb1⟩; have hl1 : b.length = m1 := hr1.1; have RBS := Lib.hid (hr1.below (hb1.mono HS1.out)); have RB1 := Lib.hid (RBS.out.more (Nat.le_trans HS1.out hb1.size)); have BZ1 := Lib.hid (BZ0.out.later hb1); have HB1 := Lib.hid (bthen' HB0.out hb1); have ss1 := store_any19 BZ1.out NL.out NL.out; have lr1 := load_any19 NL.out (put_any19 BZ1.out NL.out NL.out); obtain ⟨b1, o1, rfl, hbs1, _⟩ := RBS.out.at_ (k := 0) (by omega); have hbb1 := Nat.lt_of_lt_of_le hbs1 (Nat.le_trans HS1.out hb1.size); have r0 := RB1.out.at_' (k := 0) (by omega); have r1 := RB1.out.at_' (k := 1) (by omega); rw [Nat.add_zero, X0.out] at r0; rw [X1.out] at r1; have h28m : ¬ (m1 : Int) < 28 := (by omega); have h1m : (1 : Int) < m1 := (by omega); have h0m : (0 : Int) < m1 := (by omega); have r2 := RB1.out.at_' (k := 2) (by omega); have r3 := RB1.out.at_' (k := 3) (by omega); rw [HKK.out] at r2; rw [HMK.out] at r3; have h2m : (2 : Int) < m1 := (by omega); have h3m : (3 : Int) < m1 := (by omega); clear hr1 hb1)
  have c20 : ¬ c1 = 20 := by omega
  have c24 : ¬ c1 = 24 := by omega
  have k24 : (24 : Int) ≤ c1 := by omega
  have k28 : (28 : Int) ≤ c1 := by omega
  have hbb : b1 < w1.heap.size := hbb1
  have OF1 := Lib.hid (fun W (h : Below w1.heap.size w1 W) => refof_any19 (some ⟨b1, o1 + 20, none⟩) 4 (c1 - 20) _ W ((((RB1.out.back (k := 20) (by omega)).pre (k := 4) (by omega)).below h).more h.size) (Ck.Byt.take (Fm.Byt.dropF BOP.out 20) 4) (by omega))
  have OF2 := Lib.hid (fun W (h : Below w1.heap.size w1 W) => refof_any19 (some ⟨b1, o1 + 24, none⟩) 4 (c1 - 24) _ W ((((RB1.out.back (k := 24) (by omega)).pre (k := 4) (by omega)).below h).more h.size) (Ck.Byt.take (Fm.Byt.dropF BOP.out 24) 4) (by omega))
  have st := fun (cc : Array Value) (hcc : cc.size = 56) => show (storeCells ⟨w1.heap.size, 0, none⟩ (Fm.FC f0).toList).run Try.prog ((w1.alloc (.cells cc 31)).drew) = .ok () ((w1.alloc (.cells (Fm.FC f0) 31)).drew) from run_storeCells_new (P := Try.prog) w1.drew 31 cc (Fm.FC f0) (by rw [Fm.FC_size l3]; kernel_rfl) (by rw [Fm.FC_size l3]; exact hcc) (Fm.FC_one _)
  have r2k : ((w1.alloc (.cells (Fm.FC f0) 31)).drew).cell? ⟨b1, o1 + 2, none⟩ = some (.int .u8 k) := by
    have h := World.cell?_alloc_lt w1 (.cells (Fm.FC f0) 31) ⟨b1, o1 + 2, none⟩ hbb
    exact h.trans r2
  clear hbb
  have st2 := fun (cc : Array Value) (hcc : cc.size = 56) => show (storeCells ⟨w1.heap.size, 0, none⟩ (Fm.FC f0).toList).run Try.prog (w1.drew.alloc (.cells cc 31)) = .ok () ((w1.alloc (.cells (Fm.FC f0) 31)).drew) from st cc hcc
  have NW0 := Lib.hid (show Below w1.heap.size w1 w1.drew from Below.drew (Below.refl _ _))
  have NW1 := Lib.hid (fun o => show Below w1.heap.size w1 (w1.alloc o).drew from Below.drew (Below.alloc (Below.refl _ _) (Nat.le_refl _) o))
  go_cut [5] (fun v W => v = .pointer (some ⟨w1.heap.size, 0, none⟩) ∧ Hid (BX W w1.heap.size 31 (Fm.FC f0)) ∧ Hid (Below w1.heap.size w1 W))
  case first =>
    go_region_held3 (fun w' => w'.cell? ⟨b1, o1 + 2, none⟩ = some (.int .u8 k)) (first | go_keep | exact r2k) (first
      | (go_at_call 40; (with_reducible refine (OF1.out _ (by first | exact NW0.out | exact NW1.out _)).mono ?_); rintro e w' ⟨rfl, rfl⟩; rw [HS.out])
      | (go_at_call 40; (with_reducible refine (OF2.out _ (by first | exact NW0.out | exact NW1.out _)).mono ?_); rintro e w' ⟨rfl, rfl⟩; rw [HRR.out]))
    all_goals (
      try go_wp2
      go_meet
      exact ⟨rfl, BX.new w1 31 (Fm.FC f0), NW1.out _⟩)
  case rest =>
    obtain ⟨rfl, BF, HBX⟩ := hcut
    have hp0 : w.heap.size < w1.heap.size := BZ1.out.lt
    have HP := Lib.hid hp0
    have RBW := Lib.hid (RBS.out.below (HBX.out.mono (Nat.le_of_lt hp0)))
    have BZW := Lib.hid (BZ1.out.later HBX.out)
    have HBW := Lib.hid (bthen' HB1.out HBX.out)
    have r3c := RBW.out.at_' (k := 3) (by omega)
    rw [HMK.out] at r3c
    have c0 := (FB.of BF.out L3.out).c0
    have HFK := Lib.hid (show f0.k = k ∧ f0.s = s ∧ f0.r = r by rw [← F0.out]; exact ⟨rfl, rfl, rfl⟩)
    rw [HFK.out.1] at c0
    have lep := (FB.of BF.out L3.out).lep
    rw [HFK.out.2.1, HFK.out.2.2] at lep
    have hs5 : w.heap.size ≤ w1.heap.size := Nat.le_of_lt hp0
    clear r0 r1 r2 r3 bf be sz3 st st2 OF1 OF2 NW0 NW1 r2k ss1 lr1 hp0 OP wk ws wr s32 r32 l3 BZ0 HB0
    by_cases hk : k < 1 ∨ 7 < k
    · have QQ := Lib.hid (show Q = (nu, 11) by rw [← hQ, if_pos hk])
      have ss := store_any19 BZW.out NL.out NL.out
      have lr := load_any19 NL.out (put_any19 BZW.out NL.out NL.out)
      rcases hk with hk | hk
      · go_wp2
        refine bodyPost_ret (v := .tuple #[.agg (Fm.FC nu), .int .i64 11]) (by simp [results, Try.f20, go_sem, lr]) rfl ?_
        exact ⟨nu, 11, rfl, by rw [NER.out, QQ.out], NL.out, NDD.out _, (HBW.out.trans (Below.setCells (Nat.le_refl _) (Fm.FC nu).toList 0 _ (Below.refl _ _)))⟩
      · have hk' : ¬ k < 1 := by omega
        go_wp2
        refine bodyPost_ret (v := .tuple #[.agg (Fm.FC nu), .int .i64 11]) (by simp [results, Try.f20, go_sem, lr]) rfl ?_
        exact ⟨nu, 11, rfl, by rw [NER.out, QQ.out], NL.out, NDD.out _, (HBW.out.trans (Below.setCells (Nat.le_refl _) (Fm.FC nu).toList 0 _ (Below.refl _ _)))⟩
    rw [if_neg hk] at hQ
    have hk1 : ¬ k < 1 := by omega
    have hk7 : ¬ 7 < k := by omega
    have HK17 := Lib.hid (show 1 ≤ k ∧ k ≤ 7 from ⟨by omega, by omega⟩)
    have MK := Lib.hid (fun W => refmark_any s r W)
    have HMV := Lib.hid (show (Dl.mark s r : Nat) = (s % 4 + r % 4) % 4 from rfl)
    obtain ⟨mv, hmv⟩ : ∃ m, Dl.mark s r = m := ⟨_, rfl⟩
    rw [hmv] at MK HMV
    rw [← HMV.out] at hQ
    clear hk hmv c0
    have c0 := (FB.of BF.out L3.out).c0
    rw [HFK.out.1] at c0
    go_upto_region 11 with (fail)
    clear c0
    go_cut [60] (fun v W => v = .bool (mk != (mv : Int)) ∧ Hid (Below wc.heap.size wc W))
    case first =>
      have hacc : Below wc.heap.size wc wc.drew := Below.drew (Below.refl _ _)
      have KP := Lib.hid (fun W (h : Below wc.heap.size wc W) => show W.cell? ⟨b1, o1 + 3, none⟩ = some (.int .u8 mk) ∧ (loadCellsFrom ⟨w1.heap.size, 17, none⟩ 0 2 #[]).run Try.prog W = .ok #[.int .u32 (s : Int), .int .u32 (r : Int)] W from ⟨(h.cell (World.block_lt_of_cell? _ _ r3c)).trans r3c, by
        have h1 := (FB.of (BF.out.later h) L3.out).lep
        rw [HFK.out.2.1, HFK.out.2.2] at h1
        exact h1⟩)
      obtain ⟨y0, y1⟩ := KP.out _ hacc
      go_region_held3 (fun w' => w'.cell? ⟨b1, o1 + 3, none⟩ = some (.int .u8 mk) ∧ (loadCellsFrom ⟨w1.heap.size, 17, none⟩ 0 2 #[]).run Try.prog w' = .ok #[.int .u32 (s : Int), .int .u32 (r : Int)] w') (first | (with_reducible exact KP.out _ hacc) | go_keep) (first
        | (go_at_call 28; (with_reducible refine (MK.out _).mono ?_); rintro e w5 ⟨rfl, hb⟩; replace hacc := bthen' hacc hb; clear hb))
      all_goals (
        try go_wp2
        go_meet
        exact ⟨rfl, hacc⟩)
    case rest =>
      obtain ⟨rfl, HBY⟩ := hcut
      have BF2 := Lib.hid (BF.out.later HBY.out)
      have BZ2 := Lib.hid (BZW.out.later HBY.out)
      have RB2 := Lib.hid (RBW.out.below (HBY.out.mono (Nat.le_trans hs5 (by have := BF.out.lt; omega))))
      have HB2 := Lib.hid (bthen' HBW.out HBY.out)
      clear r3c lep BF BZW RBW HBW HBX HBY
      by_cases hm : mk ≠ (mv : Int)
      · have QQ := Lib.hid (show Q = (nu, 16) by rw [← hQ, if_pos hm])
        have gm : (mk != (mv : Int)) = true := by simpa using hm
        rw [gm]
        have ss := store_any19 BZ2.out NL.out NL.out
        have lr := load_any19 NL.out (put_any19 BZ2.out NL.out NL.out)
        go_wp2
        refine bodyPost_ret (v := .tuple #[.agg (Fm.FC nu), .int .i64 16]) (by simp [results, Try.f20, go_sem, lr]) rfl ?_
        exact ⟨nu, 16, rfl, by rw [NER.out, QQ.out], NL.out, NDD.out _, (HB2.out.trans (Below.setCells (Nat.le_refl _) (Fm.FC nu).toList 0 _ (Below.refl _ _)))⟩
      have gm : (mk != (mv : Int)) = false := by simpa using hm
      rw [if_neg hm] at hQ
      rw [gm]
      rw [← HMK.out] at gm
      have HQ := Lib.hid hQ
      clear hQ gm hm MK
      have HFT := Lib.hid (show f0.tok = List.replicate 16 0 by rw [← F0.out]; rfl)
      have hl28 : 28 ≤ b.length := by omega
      go_upto_region 13 with (fail)
      go_wp2
      go_loopw [6] (fun i W => ∃ j : Nat, j ≤ 16 ∧ i = .int .i64 j ∧ Hid (BX W w1.heap.size 31 (Fm.FC { f0 with tok := Fm.part16 (b.drop 4) j })) ∧ Hid (BX W w.heap.size 31 (Fm.FC nu)) ∧ Hid (Below w.heap.size w W) ∧ Hid (RB W w.heap.size (some ⟨b1, o1, none⟩) m1 b)) (fun i _ => 16 - (intOf i).toNat)
      case atStart => exact ⟨0, Nat.zero_le _, rfl, by show BX _ _ _ _; have h := BF2.out; rw [show ({ f0 with tok := Fm.part16 (b.drop 4) 0 } : Fm.Fr) = f0 by rw [show Fm.part16 (b.drop 4) 0 = f0.tok by rw [HFT.out]; simp [Fm.part16]]]; exact h, BZ2.out, HB2.out, RB2.out⟩
      case round =>
        obtain ⟨j, hj, rfl, HG, HZ, HW, HR⟩ := hrel
        have lg : Fm.Fr.ln { f0 with tok := Fm.part16 (b.drop 4) j } := ⟨Fm.part16_len (by rw [List.length_drop]; omega) hj, L3.out.2⟩
        by_cases hlt : j < 16
        · have hlt' : (j : Int) < 16 := by omega
          have hm4 : (4 : Int) + j < m1 := by omega
          have w4 : IntKind.i64.wrap ((4 : Int) + j) = 4 + (j : Int) := by rw [IntWalk.i64_in _ (by omega)]
          have rj := HR.out.at_' (k := 4 + j) (by omega)
          have cj : wr.cell? ⟨w1.heap.size, 1 + j, none⟩ = some (.int .u8 ((Fm.part16 (b.drop 4) j).getD j 0)) := HG.out.cell (by rw [Fm.FC_tok lg hlt, List.getElem?_map, List.getElem?_eq_getElem (by rw [lg.1]; exact hlt)]; simp [Fm.ub, List.getD_eq_getElem?_getD, List.getElem?_eq_getElem (show j < (Fm.part16 (b.drop 4) j).length by rw [lg.1]; exact hlt)])
          have fj := HG.out.free (1 + j)
          have HJ := Lib.hid (show (Fm.part16 (b.drop 4) j).set j (b.getD (4 + j) 0) = Fm.part16 (b.drop 4) (j + 1) from Fm.part16_set (by rw [List.length_drop]; omega) hlt)
          have HP1 := Lib.hid (Nat.ne_of_lt HP.out)
          generalize b.getD (4 + j) 0 = x at *
          go_wp2
          go_roundw
          case rel => exact ⟨j + 1, by omega, by go_num, by rw [← HJ.out]; exact (HG.out.set (1 + j) _).to (Fm.FC_toks1 lg j hlt x), HZ.out.other HP1.out _, HW.out.setCell (p := ⟨w1.heap.size, 1 + j, none⟩) (Nat.le_of_lt HP.out) _, HR.out.below ((Below.refl w.heap.size wr).setCell (p := ⟨w1.heap.size, 1 + j, none⟩) (Nat.le_of_lt HP.out) _)⟩
          case measure => simp [intOf]; omega
        · obtain rfl : j = 16 := by omega
          rw [Fm.part16_all] at HG lg
          obtain ⟨g1, hg1⟩ : ∃ g, ({ f0 with tok := (b.drop 4).take 16 } : Fm.Fr) = g := ⟨_, rfl⟩
          rw [hg1] at HG lg
          have LG1 := Lib.hid lg
          have G1 := Lib.hid (show g1 = Fm.mk3 k ((b.drop 4).take 16) s r by rw [← hg1, ← F0.out]; rfl)
          have FI := Lib.hid (fun W o c5 (h : RB W W.heap.size (some ⟨b1, o, none⟩) (m1 - 28) (b.drop 28)) (hc : m1 - 28 ≤ c5) (hc2 : c5 ≤ maxLen) => fields_any19 HK17.out ((b.drop 4).take 16) s r (some ⟨b1, o, none⟩) (m1 - 28) c5 (b.drop 28) W (by rw [List.length_take, List.length_drop]; omega) h (Fm.Byt.dropF BOP.out 28) hc hc2 (by omega))
          rw [← G1.out] at FI
          obtain ⟨G, E5, hGE⟩ : ∃ G E, Fm.fieldsP k ((b.drop 4).take 16) s r (b.drop 28) = (G, E) := ⟨_, _, rfl⟩
          have HGE := Lib.hid hGE
          have hQ := HQ.out
          rw [hGE] at hQ
          simp only at hQ
          clear hg1 lg hGE BF2 BZ2 HB2 RB2
          have sz1 := Fm.FC_size LG1.out
          have hpw := HG.out.lt
          have HPW := Lib.hid hpw
          have HBS := Lib.hid hbs1
          have LA := Lib.hid (fun W (h : Below wr.heap.size wr W) => load_any19 LG1.out (HG.out.later h))
          have HR9 := Lib.hid (fun W (h : Below wr.heap.size wr W) => (HR.out.below (h.mono (Nat.le_of_lt (Nat.lt_trans HP.out hpw)))).more (Nat.le_trans (Nat.le_of_lt (Nat.lt_trans HP.out hpw)) h.size))
          have hbo := HR.out.1
          by_cases hc28 : c1 = 28
          · subst hc28
            obtain rfl : m1 = 28 := by omega
            have F5 := Lib.hid (fun W (h : Below wr.heap.size wr W) => FI.out W o1 0 ⟨by rw [List.length_drop]; omega, fun h => absurd h (by omega)⟩ (by omega) (by omega))
            clear FI HR9
            have NE := Lib.hid (fun (g : Fm.Fr) (o5 : Nat) (pl : PlA (some ⟨b1, o5, none⟩) wr g) => show ((∀ b o, g.A = some ⟨b, o, none⟩ → 0 < g.n → b ≠ w1.heap.size) ∧ (∀ b o, g.RA = some ⟨b, o, none⟩ → 0 < g.m → b ≠ w1.heap.size)) ∧ ((∀ b o, g.A = some ⟨b, o, none⟩ → 0 < g.n → b ≠ w.heap.size) ∧ (∀ b o, g.RA = some ⟨b, o, none⟩ → 0 < g.m → b ≠ w.heap.size)) from by
              have q1 := HBS.out
              have q2 := HP.out
              have q3 := HPW.out
              refine ⟨⟨fun b o h hn => ?_, fun b o h hn => ?_⟩, ⟨fun b o h hn => ?_, fun b o h hn => ?_⟩⟩
              · obtain ⟨o2, h2⟩ := pl.1 b o h hn
                cases h2
                omega
              · have := pl.2 b o h hn
                omega
              · obtain ⟨o2, h2⟩ := pl.1 b o h hn
                cases h2
                omega
              · have := pl.2 b o h hn
                omega)
            have hacc : Below wr.heap.size wr wr.drew := Below.drew (Below.refl _ _)
            by_cases hE : E5 ≠ 0
            · have QQ := Lib.hid (show Q = (nu, E5) by rw [← hQ, if_pos hE])
              have gE : (E5 != 0) = true := by simpa using hE
              go_upto_region 17 with (fail)
              have la0 := LA.out _ hacc
              go_region_law (first
                | (go_simp; go_at_call 41; (with_reducible refine (F5.out _ hacc).mono ?_); rintro e w5 ⟨g5, e5, rfl, he5, lg5, hrb5, hrg5, hb5, pl5⟩; obtain ⟨he6, rfl⟩ := Prod.mk.inj (he5.trans HGE.out); have HE5 := Lib.hid he6; have LG5 := Lib.hid lg5; have DD5 := Lib.hid (show DD w5 g5 from ⟨⟨hrb5.1, hrb5.2.1, hrb5.2.2.1⟩, hrg5.1⟩); have NE5 := Lib.hid (NE.out g5 _ pl5); have hb6 := bthen' hacc hb5; have BG5 := Lib.hid (HG.out.later hb6); have BZ6 := Lib.hid (BX.puts_other (Nat.ne_of_lt HP.out) (Fm.FC g5).toList 0 _ (HZ.out.later hb6)); have HB5 := Lib.hid (bthen' HW.out hb6); have ss5 := store_any19 BG5.out LG1.out LG5.out; have sz5 := Fm.FC_size LG5.out; clear he5 he6 lg5 hrb5 hrg5 pl5 hb6))
              all_goals (
                have ss6 := store_any19 BZ6.out NL.out NL.out
                have lr6 := load_any19 NL.out (put_any19 BZ6.out NL.out NL.out)
                go_wp2
                refine bodyPost_ret (v := .tuple #[.agg (Fm.FC nu), .int .i64 e5]) (by simp [results, Try.f20, go_sem, lr6]) rfl ?_
                exact ⟨nu, e5, rfl, by rw [NER.out, QQ.out], NL.out, NDD.out _, Below.setCells (Nat.le_refl _) _ 0 _ (Below.setCells (Nat.le_of_lt HP.out) _ 0 _ HB5.out)⟩)
            · have hE0 : E5 = 0 := by omega
              subst hE0
              have QQ := Lib.hid (show Q = (G, 0) by rw [← hQ, if_neg (by simp)])
              go_upto_region 17 with (fail)
              have la0 := LA.out _ hacc
              go_region_law (first
                | (go_simp; go_at_call 41; (with_reducible refine (F5.out _ hacc).mono ?_); rintro e w5 ⟨g5, e5, rfl, he5, lg5, hrb5, hrg5, hb5, pl5⟩; obtain ⟨he6, rfl⟩ := Prod.mk.inj (he5.trans HGE.out); have HE5 := Lib.hid he6; have LG5 := Lib.hid lg5; have DD5 := Lib.hid (show DD w5 g5 from ⟨⟨hrb5.1, hrb5.2.1, hrb5.2.2.1⟩, hrg5.1⟩); have NE5 := Lib.hid (NE.out g5 _ pl5); have hb6 := bthen' hacc hb5; have BG5 := Lib.hid (HG.out.later hb6); have BZ6 := Lib.hid (BX.puts_other (Nat.ne_of_lt HP.out) (Fm.FC g5).toList 0 _ (HZ.out.later hb6)); have HB5 := Lib.hid (bthen' HW.out hb6); have ss5 := store_any19 BG5.out LG1.out LG5.out; have sz5 := Fm.FC_size LG5.out; clear he5 he6 lg5 hrb5 hrg5 pl5 hb6))
              all_goals (
                have la6 := load_any19 LG5.out (put_any19 BG5.out LG1.out LG5.out)
                have ss6 := store_any19 BZ6.out NL.out LG5.out
                have lr6 := load_any19 LG5.out (put_any19 BZ6.out NL.out LG5.out)
                go_wp2
                refine bodyPost_ret (v := .tuple #[.agg (Fm.FC g5), .int .i64 0]) (by simp [results, Try.f20, go_sem, lr6]) rfl ?_
                exact ⟨g5, 0, rfl, by rw [HE5.out, QQ.out], LG5.out, DD.puts19 (DD.puts19 DD5.out NE5.out.1.1 NE5.out.1.2 _ 0) NE5.out.2.1 NE5.out.2.2 _ 0, Below.setCells (Nat.le_refl _) _ 0 _ (Below.setCells (Nat.le_of_lt HP.out) _ 0 _ HB5.out)⟩)
          · have F5 := Lib.hid (fun W (h : Below wr.heap.size wr W) => FI.out W (o1 + 28) (c1 - 28) ((HR9.out W h).back (k := 28) (by omega)) (by omega) (by omega))
            have h28n : (28 : Int) ≤ m1 := by omega
            clear FI HR9
            have NE := Lib.hid (fun (g : Fm.Fr) (o5 : Nat) (pl : PlA (some ⟨b1, o5, none⟩) wr g) => show ((∀ b o, g.A = some ⟨b, o, none⟩ → 0 < g.n → b ≠ w1.heap.size) ∧ (∀ b o, g.RA = some ⟨b, o, none⟩ → 0 < g.m → b ≠ w1.heap.size)) ∧ ((∀ b o, g.A = some ⟨b, o, none⟩ → 0 < g.n → b ≠ w.heap.size) ∧ (∀ b o, g.RA = some ⟨b, o, none⟩ → 0 < g.m → b ≠ w.heap.size)) from by
              have q1 := HBS.out
              have q2 := HP.out
              have q3 := HPW.out
              refine ⟨⟨fun b o h hn => ?_, fun b o h hn => ?_⟩, ⟨fun b o h hn => ?_, fun b o h hn => ?_⟩⟩
              · obtain ⟨o2, h2⟩ := pl.1 b o h hn
                cases h2
                omega
              · have := pl.2 b o h hn
                omega
              · obtain ⟨o2, h2⟩ := pl.1 b o h hn
                cases h2
                omega
              · have := pl.2 b o h hn
                omega)
            have hacc : Below wr.heap.size wr wr.drew := Below.drew (Below.refl _ _)
            by_cases hE : E5 ≠ 0
            · have QQ := Lib.hid (show Q = (nu, E5) by rw [← hQ, if_pos hE])
              have gE : (E5 != 0) = true := by simpa using hE
              go_upto_region 17 with (fail)
              have la0 := LA.out _ hacc
              go_region_law (first
                | (go_simp; go_at_call 41; (with_reducible refine (F5.out _ hacc).mono ?_); rintro e w5 ⟨g5, e5, rfl, he5, lg5, hrb5, hrg5, hb5, pl5⟩; obtain ⟨he6, rfl⟩ := Prod.mk.inj (he5.trans HGE.out); have HE5 := Lib.hid he6; have LG5 := Lib.hid lg5; have DD5 := Lib.hid (show DD w5 g5 from ⟨⟨hrb5.1, hrb5.2.1, hrb5.2.2.1⟩, hrg5.1⟩); have NE5 := Lib.hid (NE.out g5 _ pl5); have hb6 := bthen' hacc hb5; have BG5 := Lib.hid (HG.out.later hb6); have BZ6 := Lib.hid (BX.puts_other (Nat.ne_of_lt HP.out) (Fm.FC g5).toList 0 _ (HZ.out.later hb6)); have HB5 := Lib.hid (bthen' HW.out hb6); have ss5 := store_any19 BG5.out LG1.out LG5.out; have sz5 := Fm.FC_size LG5.out; clear he5 he6 lg5 hrb5 hrg5 pl5 hb6))
              all_goals (
                have ss6 := store_any19 BZ6.out NL.out NL.out
                have lr6 := load_any19 NL.out (put_any19 BZ6.out NL.out NL.out)
                go_wp2
                refine bodyPost_ret (v := .tuple #[.agg (Fm.FC nu), .int .i64 e5]) (by simp [results, Try.f20, go_sem, lr6]) rfl ?_
                exact ⟨nu, e5, rfl, by rw [NER.out, QQ.out], NL.out, NDD.out _, Below.setCells (Nat.le_refl _) _ 0 _ (Below.setCells (Nat.le_of_lt HP.out) _ 0 _ HB5.out)⟩)
            · have hE0 : E5 = 0 := by omega
              subst hE0
              have QQ := Lib.hid (show Q = (G, 0) by rw [← hQ, if_neg (by simp)])
              go_upto_region 17 with (fail)
              have la0 := LA.out _ hacc
              go_region_law (first
                | (go_simp; go_at_call 41; (with_reducible refine (F5.out _ hacc).mono ?_); rintro e w5 ⟨g5, e5, rfl, he5, lg5, hrb5, hrg5, hb5, pl5⟩; obtain ⟨he6, rfl⟩ := Prod.mk.inj (he5.trans HGE.out); have HE5 := Lib.hid he6; have LG5 := Lib.hid lg5; have DD5 := Lib.hid (show DD w5 g5 from ⟨⟨hrb5.1, hrb5.2.1, hrb5.2.2.1⟩, hrg5.1⟩); have NE5 := Lib.hid (NE.out g5 _ pl5); have hb6 := bthen' hacc hb5; have BG5 := Lib.hid (HG.out.later hb6); have BZ6 := Lib.hid (BX.puts_other (Nat.ne_of_lt HP.out) (Fm.FC g5).toList 0 _ (HZ.out.later hb6)); have HB5 := Lib.hid (bthen' HW.out hb6); have ss5 := store_any19 BG5.out LG1.out LG5.out; have sz5 := Fm.FC_size LG5.out; clear he5 he6 lg5 hrb5 hrg5 pl5 hb6))
              all_goals (
                have la6 := load_any19 LG5.out (put_any19 BG5.out LG1.out LG5.out)
                have ss6 := store_any19 BZ6.out NL.out LG5.out
                have lr6 := load_any19 LG5.out (put_any19 BZ6.out NL.out LG5.out)
                go_wp2
                refine bodyPost_ret (v := .tuple #[.agg (Fm.FC g5), .int .i64 0]) (by simp [results, Try.f20, go_sem, lr6]) rfl ?_
                exact ⟨g5, 0, rfl, by rw [HE5.out, QQ.out], LG5.out, DD.puts19 (DD.puts19 DD5.out NE5.out.1.1 NE5.out.1.2 _ 0) NE5.out.2.1 NE5.out.2.2 _ 0, Below.setCells (Nat.le_refl _) _ 0 _ (Below.setCells (Nat.le_of_lt HP.out) _ 0 _ HB5.out)⟩)
end Go.Proofs.Ytjiafpmcibokbaa
