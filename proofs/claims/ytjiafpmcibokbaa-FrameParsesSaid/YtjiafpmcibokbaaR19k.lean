/- LAYER 19, the document's answers, sixth part: fields. gen_r19g.py -/
import Derived.Test.YtjiafpmcibokbaaM19b
import Derived.Test.YtjiafpmcibokbaaR19e
import Derived.Test.YtjiafpmcibokbaaR19g
import Derived.Test.YtjiafpmcibokbaaR19f
namespace Go.Proofs.Ytjiafpmcibokbaa
open Go Go.RowKit
set_option maxHeartbeats 3000000
set_option maxRecDepth 100000
set_option linter.unusedVariables false
attribute [-go_sem] loadCellsFrom storeCells Instr.build
attribute [local go_sem] storeCells_one storeCells_two loadCells_two
theorem reffields4 (tok : List Int) (s r : Nat) (A : Option Addr) (n c : Nat) (b : List Int) (w : World) (h16 : tok.length = 16) (hb : RB w w.heap.size A n b) (hy : Byt b) (hn : n ≤ c) (hc : c ≤ maxLen) (hn2 : n ≤ 500000) :
    Calls Try.prog 41 #[.agg (Fm.FC (Fm.mk3 4 tok s r)), .slice A n c] w (FG 4 tok s r A b w) := by
  have l3 : (Fm.mk3 4 tok s r).ln := Fm.mk3_ln h16
  have hbl : b.length = n := hb.1
  have q := fun o => FB.of (((BX.new w 31 (Fm.FC (Fm.mk3 4 tok s r))).alloc (.cells (Fm.FC Fm.nul) 31)).alloc o) l3
  have c0 := fun o => (show World.cell? (((w.alloc (.cells (Fm.FC (Fm.mk3 4 tok s r)) 31)).alloc (.cells (Fm.FC Fm.nul) 31)).alloc o) ⟨w.heap.size, 0, none⟩ = some (.int .i64 4) from (q o).c0)
  have bn := fun W => run_build (P := Try.prog) W 31 #[] _ built_nul
  clear q
  obtain ⟨nu, NU0⟩ : ∃ g, Hid (Fm.nul = g) := ⟨_, rfl⟩
  have NU := nul_facts NU0.out
  have put_nul' : ∀ (h1 : Nat) (W : World) (T : TypeId) (bZ : BX W h1 T (Fm.FC nu)), BX (W.setCells h1 0 (Fm.FC nu).toList) h1 T (Fm.FC nu) := by rw [← NU0.out]; exact fun h1 W T bZ => put_nul h1 W T bZ Fm.nul Fm.nul_ln
  have store_nul' : ∀ (h1 : Nat) (W : World) (T : TypeId) (bZ : BX W h1 T (Fm.FC nu)), (storeCells ⟨h1, 0, none⟩ (Fm.FC nu).toList 0).run Try.prog W = .ok () (W.setCells h1 0 (Fm.FC nu).toList) := by rw [← NU0.out]; exact fun h1 W T bZ => store_nul h1 W T bZ Fm.nul Fm.nul_ln
  replace put_nul' := Lib.hid put_nul'
  replace store_nul' := Lib.hid store_nul'
  unfold FG
  go_enter Try.func41, Try.ntmps41
  go_upto_region 1 with (fail)
  change Code.wp _ _ _ _ ((w.alloc (.cells (Fm.FC (Fm.mk3 4 tok s r)) 31)).alloc (.cells (Fm.FC Fm.nul) 31))
  have bF0 : BX ((w.alloc (.cells (Fm.FC (Fm.mk3 4 tok s r)) 31)).alloc (.cells (Fm.FC Fm.nul) 31)) w.heap.size 31 (Fm.FC (Fm.mk3 4 tok s r)) := (BX.new w _ _).alloc _
  have bZ0 : BX ((w.alloc (.cells (Fm.FC (Fm.mk3 4 tok s r)) 31)).alloc (.cells (Fm.FC Fm.nul) 31)) (w.heap.size + 1) 31 (Fm.FC Fm.nul) := by
    have h := BX.new (w.alloc (.cells (Fm.FC (Fm.mk3 4 tok s r)) 31)) 31 (Fm.FC Fm.nul)
    simpa using h
  have bW0 : Below w.heap.size w ((w.alloc (.cells (Fm.FC (Fm.mk3 4 tok s r)) 31)).alloc (.cells (Fm.FC Fm.nul) 31)) := ((Below.refl _ w).alloc (Nat.le_refl _) _).alloc (by simp) _
  have sW0 : ((w.alloc (.cells (Fm.FC (Fm.mk3 4 tok s r)) 31)).alloc (.cells (Fm.FC Fm.nul) 31)).heap.size = w.heap.size + 2 := by simp
  generalize (w.alloc (.cells (Fm.FC (Fm.mk3 4 tok s r)) 31)).alloc (.cells (Fm.FC Fm.nul) 31) = W1 at *
  go_upto_region 2 with (fail)
  have bF := bF0.alloc (.cells #[.int .i64 40, .int .i64 8, .int .i64 9, .int .i64 8, .int .i64 40, .int .i64 8, .int .i64 1] 3)
  have bZ := bZ0.alloc (.cells #[.int .i64 40, .int .i64 8, .int .i64 9, .int .i64 8, .int .i64 40, .int .i64 8, .int .i64 1] 3)
  have bW := bW0.alloc (by omega) (.cells #[.int .i64 40, .int .i64 8, .int .i64 9, .int .i64 8, .int .i64 40, .int .i64 8, .int .i64 1] 3)
  have sW : (W1.alloc (.cells #[.int .i64 40, .int .i64 8, .int .i64 9, .int .i64 8, .int .i64 40, .int .i64 8, .int .i64 1] 3)).heap.size = w.heap.size + 3 := by simp [sW0]
  clear c0 bF0 bZ0 bW0 sW0
  generalize W1.alloc (.cells #[.int .i64 40, .int .i64 8, .int .i64 9, .int .i64 8, .int .i64 40, .int .i64 8, .int .i64 1] 3) = W2 at *
  have c0 : W2.cell? ⟨w.heap.size, 0, none⟩ = some (.int .i64 4) := (FB.of bF l3).c0
  by_cases hs : n < 8
  · have hs' : (n : Int) < 8 := by omega
    have EF := Lib.hid (show Fm.fieldsP 4 tok s r b = (Fm.nul, 4) by unfold Fm.fieldsP; rw [if_pos (.inl (by rw [hbl]; exact hs))])
    rw [NU0.out] at EF bn bZ
    have ss := store_nul'.out _ _ _ bZ
    have lr := load_all _ _ _ nu NU.out.1 (put_nul'.out _ _ _ bZ)
    have BQ := Lib.hid (Below.setCells (a := w.heap.size + 1) (by omega) (Fm.FC nu).toList 0 _ bW)
    have szn := Fm.FC_size NU.out.1
    clear bZ
    go_wp2
    refine bodyPost_ret (v := .tuple #[.agg (Fm.FC nu), .int .i64 4]) (by simp [results, Try.f41, go_sem, lr]) rfl ?_
    exact ⟨nu, 4, rfl, by rw [EF.out, NU.out.2.1], NU.out.1, NU.out.2.2.1 _ _, NU.out.2.2.2.1 _ _, BQ.out, NU.out.2.2.2.2 _ _⟩
  have hs' : ¬ (n : Int) < 8 := by omega
  have hm16 : (n : Int) % 16 = ((n % 16 : Nat) : Int) := rfl
  by_cases h8 : n % 16 = 8
  rotate_left
  · have h8' : ¬ ((n % 16 : Nat) : Int) = 8 := by omega
    generalize n % 16 = n16 at *
    have EF := Lib.hid (show Fm.fieldsP 4 tok s r b = (Fm.nul, 4) by unfold Fm.fieldsP; rw [if_pos (.inr ⟨rfl, by rw [hbl]; omega⟩)])
    rw [NU0.out] at EF bn bZ
    have ss := store_nul'.out _ _ _ bZ
    have lr := load_all _ _ _ nu NU.out.1 (put_nul'.out _ _ _ bZ)
    have BQ := Lib.hid (Below.setCells (a := w.heap.size + 1) (by omega) (Fm.FC nu).toList 0 _ bW)
    have szn := Fm.FC_size NU.out.1
    clear bZ
    go_wp2
    refine bodyPost_ret (v := .tuple #[.agg (Fm.FC nu), .int .i64 4]) (by simp [results, Try.f41, go_sem, lr]) rfl ?_
    exact ⟨nu, 4, rfl, by rw [EF.out, NU.out.2.1], NU.out.1, NU.out.2.2.1 _ _, NU.out.2.2.2.1 _ _, BQ.out, NU.out.2.2.2.2 _ _⟩
  have NB := Lib.hid (fun W (h : Below w.heap.size w W) => (hb.below h).more h.size)
  have EF0 := Lib.hid (show Fm.fieldsP 4 tok s r b = (Fm.getF 4 tok s r b, Fm.mayP (Fm.getF 4 tok s r b)) by unfold Fm.fieldsP; rw [if_neg (by rw [hbl]; show ¬ (n < 8 ∨ _); omega), if_neg (by rw [hbl]; show ¬ (8 < n ∧ _); omega)])

  obtain ⟨b1, o1, rfl, hb1, r0⟩ := hb.at0 (by omega)
  obtain ⟨mm, rfl⟩ : ∃ mm, n = 8 + 16 * mm := ⟨(n - 8) / 16, by omega⟩
  have OF := Lib.hid (refof_any19 (some ⟨b1, o1, none⟩) 8 c (b.take 8) W2 ((NB.out W2 bW).pre (by omega)) (Ck.Byt.take hy 8) (by omega))
  have cc := (FB.of bF l3).c19
  have ff := bF.free 19
  obtain ⟨i0, hi, hz0, hz1, hz2⟩ := info_parts info_rg19
  go_wp2_with (go_at_call 40; (with_reducible refine OF.out.mono ?_); rintro e w' ⟨rfl, rfl⟩)
  all_goals (
    obtain ⟨q8, hq8⟩ : ∃ q, Fm.ofL (b.take 8) = q := ⟨_, rfl⟩
    have HQ8 := Lib.hid hq8
    rw [hq8]
    clear hq8 OF cc ff c0
    have HNN := Lib.hid (show (8 + 16 * mm - 8) / 16 = mm by omega)
    obtain ⟨N, hN⟩ : ∃ N, 8 + 16 * mm = N := ⟨_, rfl⟩
    have HN := Lib.hid hN
    rw [hN] at hb NB hbl hn hn2 ⊢
    clear hN
    go_loopw [8] (fun i W => ∃ (j p : Nat) (A : Option Addr) (q : Nat), j ≤ mm ∧ Hid (p = 8 + 16 * j) ∧ i = .int .i64 p ∧ Hid (W.ownsRow (w.heap.size + 3) 71 2 (.slice A j q) j (Fm.rc2 (Fm.rgsOf j (b.drop 8)))) ∧ Hid (BX W w.heap.size 31 (Fm.FC { Fm.mk3 4 tok s r with off := q8, RA := A, m := j, rc := q, rs := Fm.rgsOf j (b.drop 8) })) ∧ Hid (BX W (w.heap.size + 1) 31 (Fm.FC Fm.nul)) ∧ Hid (Below w.heap.size w W) ∧ Hid (w.heap.size + 3 ≤ W.heap.size)) (fun i _ => N - (intOf i).toNat)
    case atStart => exact ⟨0, 8, none, 0, Nat.zero_le _, rfl, rfl, World.ownsRow_nil _ _ _ _, (bF.set 19 _).to (Fm.FC_off l3 _), bZ.other (by omega) _, bW.setCell (p := ⟨w.heap.size, 19, none⟩) (Nat.le_refl _) _, by show _ ≤ _; rw [World.size_setCell]; omega⟩
    case round =>
      obtain ⟨j, p, A, q, hj, HP, rfl, HO, BG, BZ3, BW3, HSZ⟩ := hrel
      clear bF bZ bW sW
      have hp := HP.out
      have hNN := HN.out
      have lg : Fm.Fr.ln { Fm.mk3 4 tok s r with off := q8, RA := A, m := j, rc := q, rs := Fm.rgsOf j (b.drop 8) } := ⟨h16, by simp [Fm.mk3]⟩
      by_cases hlt : j < mm
      · have hlt' : (p : Int) < N := by omega
        have w8 : IntKind.i64.wrap ((p : Int) + 8) = (p : Int) + 8 := by rw [IntWalk.i64_in _ (by omega)]
        have w16 : IntKind.i64.wrap ((p : Int) + 16) = (p : Int) + 16 := by rw [IntWalk.i64_in _ (by omega)]
        have hc1 : ¬ c = p := by omega
        have hc2 : ¬ c = p + 8 := by omega
        have c54 : wr.cell? ⟨w.heap.size, 54, none⟩ = some (.slice A j q) := (FB.of BG.out lg).c54
        have MID := Lib.hid (fun W (h : Below w.heap.size w W) (z : Nat) (hz : z + 8 ≤ N) => show RB W W.heap.size (some ⟨b1, o1 + z, none⟩) 8 ((b.drop z).take 8) from ⟨by rw [List.length_take, List.length_drop]; omega, fun _ => ⟨b1, o1 + z, rfl, Nat.lt_of_lt_of_le hb1 h.size, fun x hx => by
          have h1 := ((NB.out W h)).at_' (k := z + x) (by omega)
          rw [show o1 + z + x = o1 + (z + x) by omega, h1, List.getD_eq_getElem?_getD, List.getD_eq_getElem?_getD, List.getElem?_take, List.getElem?_drop, if_pos hx]⟩⟩)
        have BYD := fun z => (Ck.Byt.take (Byt.drop19 hy z) 8)
        have OFA := Lib.hid (fun cap => refof_any19 (some ⟨b1, o1 + p, none⟩) 8 cap _ wr.drew (MID.out _ BW3.out.drew p (by omega)) (BYD p) (by omega))
        have OFB := Lib.hid (fun cap => refof_any19 (some ⟨b1, o1 + (p + 8), none⟩) 8 cap _ wr.drew (MID.out _ BW3.out.drew (p + 8) (by omega)) (BYD (p + 8)) (by omega))
        have SNO := Lib.hid (show Fm.rgsOf (j + 1) (b.drop 8) = Fm.rgsOf j (b.drop 8) ++ [(Fm.ofL ((b.drop p).take 8), Fm.ofL ((b.drop (p + 8)).take 8))] by rw [Fm.rgsOf_snoc, List.drop_drop, List.drop_drop, show 8 + 16 * j = p by omega, show 8 + (16 * j + 8) = p + 8 by omega])
        generalize Fm.ofL ((b.drop p).take 8) = x1 at *
        generalize Fm.ofL ((b.drop (p + 8)).take 8) = y1 at *
        have hcp : (p : Int) + 8 ≤ c := by omega
        have hcq : (p : Int) + 16 ≤ c := by omega
        have hmx8 : max ((p : Int) + 8) 0 = (p : Int) + 8 := by omega
        have hmx16 : max ((p : Int) + 16) 0 = (p : Int) + 16 := by omega
        have ht8 : ((p : Int) + 8).toNat = p + 8 := by omega
        have ht16 : ((p : Int) + 16).toNat = p + 16 := by omega
        have hd8 : p + 8 - p = 8 := by omega
        have hd16 : p + 16 - (p + 8) = 8 := by omega
        have hle : (p : Int) ≤ (p : Int) + 8 := by omega
        have hle2 : (p : Int) + 8 ≤ (p : Int) + 16 := by omega
        have hge8 : (0 : Int) ≤ (p : Int) + 8 := by omega
        have hge16 : (0 : Int) ≤ (p : Int) + 16 := by omega
        have hoo : o1 + (p + 8) = o1 + (p + 8) := rfl
        have hjb : j ≤ 400000 := by omega
        clear MID BYD hp hNN hoo
        have bq := fun W => run_build (P := Try.prog) W 71 #[(0, .int .u64 (x1 : Int)), (1, .int .u64 (y1 : Int))] #[.int .u64 (x1 : Int), .int .u64 (y1 : Int)] (by kernel_rfl)
        have HOB := Lib.hid (show World.ownsRow ((wr.alloc (.cells #[.int .u64 (x1 : Int), .int .u64 (y1 : Int)] 71)).drew) (w.heap.size + 3) 71 2 (.slice A j q) j (Fm.rc2 (Fm.rgsOf j (b.drop 8))) from World.ownsRow.drew (owns_below19 HO.out (Below.alloc (Below.refl _ _) (Nat.le_refl _) _)))
        have c54b : (wr.alloc (.cells #[.int .u64 (x1 : Int), .int .u64 (y1 : Int)] 71)).cell? ⟨w.heap.size, 54, none⟩ = some (.slice A j q) := (FB.of (BG.out.alloc (.cells #[.int .u64 (x1 : Int), .int .u64 (y1 : Int)] 71)) lg).c54
        have HBB := Lib.hid (show Below (w.heap.size + 3) wr ((wr.alloc (.cells #[.int .u64 (x1 : Int), .int .u64 (y1 : Int)] 71)).drew) from Below.drew (Below.alloc (Below.refl _ _) HSZ.out _))
        have NEW := Lib.hid (news19 wr 71 x1 y1)
        have APP : Hid (∃ v3 w3, (Builtin.append_ #[29, 29] 29 #[.slice A j q, .slice (some ⟨wr.heap.size, 0, none⟩) 1 1]).run Try.prog ((wr.alloc (.cells #[.int .u64 (x1 : Int), .int .u64 (y1 : Int)] 71)).drew) = .ok v3 w3 ∧ w3.ownsRow (w.heap.size + 3) 71 2 v3 (j + 1) (Fm.rc2 (Fm.rgsOf j (b.drop 8)) ++ [.int .u64 (x1 : Int), .int .u64 (y1 : Int)]) ∧ Below (w.heap.size + 3) wr w3) := by
          obtain ⟨v3, w3, h1, h2, h3, _⟩ := run_append_own (P := Try.prog) (w := (wr.alloc (.cells #[.int .u64 (x1 : Int), .int .u64 (y1 : Int)] 71)).drew) (w.heap.size + 3) 29 29 71 i0 (.agg #[.int .u64 0, .int .u64 0]) 2 16 Try.underlying29 hi hz0 hz1 hz2 rfl (by decide) (.slice A j q) j (Fm.rc2 (Fm.rgsOf j (b.drop 8))) HOB.out ⟨wr.heap.size, 0, none⟩ 1 1 [.int .u64 (x1 : Int), .int .u64 (y1 : Int)] rfl NEW.out (two_cells19 x1 y1) (by unfold maxLen; omega) (by omega) (Nat.le_trans HSZ.out HBB.out.size)
          exact ⟨v3, w3, h1, h2, below_app HBB.out HSZ.out HOB.out h3⟩
        obtain ⟨v3, w3, hrun, hown, hb3⟩ := APP.out
        obtain ⟨A3, c3, rfl, hc3, hm3⟩ := owns_slice19 hown
        have HRUN := Lib.hid hrun
        have HO3 := Lib.hid hown
        have HB3 := Lib.hid hb3
        have G3 := Lib.hid (BG.out.below hb3 (by omega))
        have z54 : w3.cell? ⟨w.heap.size, 54, none⟩ = some (.slice A j q) := (FB.of G3.out lg).c54
        have f54 := G3.out.free 54
        clear hrun hown hb3 APP HOB HBB NEW
        go_upto_region 24 with (fail)
        refine wp_region_any (by kernel_rfl) ?_
        change wpAny _ _ _ _ _ _ _ (World.drew _)
        refine wpAny_take (i := 0) (v := .pointer (some ⟨w.heap.size, 54, none⟩)) rfl (by kernel_rfl) (by kernel_rfl) (by kernel_rfl) (fun _ _ _ h => h) (Or.inl ⟨by rfl, ?_⟩) ?_
        · intro W9
          go_simp
        try simp only [Act.put, List.setIfInBounds_toArray]
        refine wpAny_take (i := 2) (v := .slice (some ⟨b1, o1, none⟩) N c) rfl (by kernel_rfl) (by kernel_rfl) (by kernel_rfl) (fun _ _ _ h => h) (Or.inl ⟨by rfl, ?_⟩) ?_
        · intro W9
          go_simp
        try simp only [Act.put]
        refine wpAny_take (i := 3) (v := .int .i64 (p : Int)) rfl (by kernel_rfl) (by kernel_rfl) (by kernel_rfl) (fun _ _ _ h => h) (Or.inl ⟨by rfl, ?_⟩) ?_
        · intro W9
          go_simp
        try simp only [Act.put]
        refine wpAny_take (i := 4) (v := .int .i64 (p : Int)) rfl (by kernel_rfl) (by kernel_rfl) (by kernel_rfl) (fun _ _ _ h => h) (Or.inl ⟨by rfl, ?_⟩) ?_
        · intro W9
          go_simp
        try simp only [Act.put]
        refine wpAny_take (i := 5) (v := .int .i64 ((p : Int) + 8)) rfl (by kernel_rfl) (by kernel_rfl) (by kernel_rfl) (fun _ _ _ h => h) (Or.inl ⟨by rfl, ?_⟩) ?_
        · intro W9
          go_simp
        try simp only [Act.put]
        refine wpAny_take (i := 6) (v := .slice (some ⟨b1, o1 + p, none⟩) 8 (c - p)) rfl (by kernel_rfl) (by kernel_rfl) (by kernel_rfl) (fun _ _ _ h => h) (Or.inl ⟨by rfl, ?_⟩) ?_
        · intro W9
          go_simp
        try simp only [Act.put]
        refine wpAny_take (i := 8) (v := .slice (some ⟨b1, o1, none⟩) N c) rfl (by kernel_rfl) (by kernel_rfl) (by kernel_rfl) (fun _ _ _ h => h) (Or.inl ⟨by rfl, ?_⟩) ?_
        · intro W9
          go_simp
        try simp only [Act.put]
        refine wpAny_take (i := 9) (v := .int .i64 (p : Int)) rfl (by kernel_rfl) (by kernel_rfl) (by kernel_rfl) (fun _ _ _ h => h) (Or.inl ⟨by rfl, ?_⟩) ?_
        · intro W9
          go_simp
        try simp only [Act.put]
        refine wpAny_take (i := 10) (v := .int .i64 ((p : Int) + 8)) rfl (by kernel_rfl) (by kernel_rfl) (by kernel_rfl) (fun _ _ _ h => h) (Or.inl ⟨by rfl, ?_⟩) ?_
        · intro W9
          go_simp
        try simp only [Act.put]
        refine wpAny_take (i := 11) (v := .int .i64 (p : Int)) rfl (by kernel_rfl) (by kernel_rfl) (by kernel_rfl) (fun _ _ _ h => h) (Or.inl ⟨by rfl, ?_⟩) ?_
        · intro W9
          go_simp
        try simp only [Act.put]
        refine wpAny_take (i := 12) (v := .int .i64 ((p : Int) + 16)) rfl (by kernel_rfl) (by kernel_rfl) (by kernel_rfl) (fun _ _ _ h => h) (Or.inl ⟨by rfl, ?_⟩) ?_
        · intro W9
          go_simp
        try simp only [Act.put]
        refine wpAny_take (i := 13) (v := .slice (some ⟨b1, o1 + (p + 8), none⟩) 8 (c - (p + 8))) rfl (by kernel_rfl) (by kernel_rfl) (by kernel_rfl) (fun _ _ _ h => h) (Or.inl ⟨by rfl, ?_⟩) ?_
        · intro W9
          go_simp
        try simp only [Act.put]
        refine wpAny_ready (rs := [1, 7]) (by kernel_rfl) (by simp) ?_
        refine AllReady.cons rfl (fun K hK => ?_) (AllReady.cons rfl (fun K hK => ?_) AllReady.nil)
        · skip
          rw [if_pos (by kernel_rfl)]
          go_simp
          refine hK _ _ ?_
          clear hK K
          try simp only [Act.put, List.setIfInBounds_toArray, List.set_cons_zero, List.set_cons_succ]
          refine wpAny_ready (rs := [7]) (by kernel_rfl) (by simp) ?_
          refine AllReady.cons rfl (fun K hK => ?_) AllReady.nil
          rw [if_pos (by kernel_rfl)]
          go_simp
          go_at_call 40
          (with_reducible refine (OFA.out _).mono ?_)
          rintro e w' ⟨rfl, rfl⟩
          refine hK _ _ ?_
          clear hK K
          try simp only [Act.put, List.setIfInBounds_toArray, List.set_cons_zero, List.set_cons_succ]
          refine wpAny_ready (rs := [14]) (by kernel_rfl) (by simp) ?_
          refine AllReady.cons rfl (fun K hK => ?_) AllReady.nil
          rw [if_pos (by kernel_rfl)]
          go_simp
          go_at_call 40
          (with_reducible refine (OFB.out _).mono ?_)
          rintro e w' ⟨rfl, rfl⟩
          refine hK _ _ ?_
          clear hK K
          try simp only [Act.put, List.setIfInBounds_toArray, List.set_cons_zero, List.set_cons_succ]
          refine wpAny_take (i := 15) (v := .agg #[.int .u64 (x1 : Int), .int .u64 (y1 : Int)]) rfl (by kernel_rfl) (by kernel_rfl) (by kernel_rfl) (fun _ _ _ h => h) (Or.inl ⟨by rfl, ?_⟩) ?_
          · intro W9
            go_simp
          try simp only [Act.put, List.setIfInBounds_toArray]
          refine wpAny_ready (rs := [16]) (by kernel_rfl) (by simp) ?_
          refine AllReady.cons rfl (fun K hK => ?_) AllReady.nil
          rw [if_pos (by kernel_rfl)]
          go_simp
          refine hK _ _ ?_
          clear hK K
          try simp only [Act.put, List.setIfInBounds_toArray, List.set_cons_zero, List.set_cons_succ]
          refine wpAny_ready (rs := [17]) (by kernel_rfl) (by simp) ?_
          refine AllReady.cons rfl (fun K hK => ?_) AllReady.nil
          refine step_append_run19 rfl (.tmp 99) (.tmp 114) 29 29 rfl _ _ (by simp [Act.eval]) (by simp [Act.eval]) HRUN.out ?_
          refine hK (Act.put _ (some 115) (.slice A3 (j + 1) c3)) _ ?_
          clear hK K
          try simp only [Act.put, List.setIfInBounds_toArray, List.set_cons_zero, List.set_cons_succ]
          refine wpAny_take (i := 18) (v := .pointer (some ⟨w.heap.size, 54, none⟩)) rfl (by kernel_rfl) (by kernel_rfl) (by kernel_rfl) (fun _ _ _ h => h) (Or.inl ⟨by rfl, ?_⟩) ?_
          · intro W9
            go_simp
          try simp only [Act.put, List.setIfInBounds_toArray]
          refine wpAny_ready (rs := [19]) (by kernel_rfl) (by simp) ?_
          refine AllReady.cons rfl (fun K hK => ?_) AllReady.nil
          rw [if_pos (by kernel_rfl)]
          go_simp
          refine hK _ _ ?_
          clear hK K
          try simp only [Act.put, List.setIfInBounds_toArray, List.set_cons_zero, List.set_cons_succ]
          refine wpAny_done (by kernel_rfl) ?_ _
          go_wp2
          go_roundw
          all_goals first
            | exact ⟨j + 1, p + 16, A3, c3, by omega, by show _ = _; have := HP.out; omega, by go_num, by show World.ownsRow _ _ _ _ _ _ _; rw [SNO.out, Fm.rc2_app]; exact ownsRow_setCell_below HO3.out (by show w.heap.size < w.heap.size + 3; omega) _, BX.to (G3.out.set 54 (.slice A3 (j + 1) c3)) (Fm.FC_rgs lg A3 (j + 1) c3 (Fm.rgsOf (j + 1) (b.drop 8))), (BZ3.out.below HB3.out (by omega)).other (by omega) _, (BW3.out.trans (HB3.out.mono (by omega))).setCell (by show w.heap.size ≤ w.heap.size; omega) _, by show _ ≤ _; rw [World.size_setCell]; exact Nat.le_trans HSZ.out HB3.out.size⟩
            | (simp [intOf]; omega)
        · skip
          rw [if_pos (by kernel_rfl)]
          go_simp
          go_at_call 40
          (with_reducible refine (OFA.out _).mono ?_)
          rintro e w' ⟨rfl, rfl⟩
          refine hK _ _ ?_
          clear hK K
          try simp only [Act.put, List.setIfInBounds_toArray, List.set_cons_zero, List.set_cons_succ]
          refine wpAny_ready (rs := [1, 14]) (by kernel_rfl) (by simp) ?_
          refine AllReady.cons rfl (fun K hK => ?_) (AllReady.cons rfl (fun K hK => ?_) AllReady.nil)
          · skip
            rw [if_pos (by kernel_rfl)]
            go_simp
            refine hK _ _ ?_
            clear hK K
            try simp only [Act.put, List.setIfInBounds_toArray, List.set_cons_zero, List.set_cons_succ]
            refine wpAny_ready (rs := [14]) (by kernel_rfl) (by simp) ?_
            refine AllReady.cons rfl (fun K hK => ?_) AllReady.nil
            rw [if_pos (by kernel_rfl)]
            go_simp
            go_at_call 40
            (with_reducible refine (OFB.out _).mono ?_)
            rintro e w' ⟨rfl, rfl⟩
            refine hK _ _ ?_
            clear hK K
            try simp only [Act.put, List.setIfInBounds_toArray, List.set_cons_zero, List.set_cons_succ]
            refine wpAny_take (i := 15) (v := .agg #[.int .u64 (x1 : Int), .int .u64 (y1 : Int)]) rfl (by kernel_rfl) (by kernel_rfl) (by kernel_rfl) (fun _ _ _ h => h) (Or.inl ⟨by rfl, ?_⟩) ?_
            · intro W9
              go_simp
            try simp only [Act.put, List.setIfInBounds_toArray]
            refine wpAny_ready (rs := [16]) (by kernel_rfl) (by simp) ?_
            refine AllReady.cons rfl (fun K hK => ?_) AllReady.nil
            rw [if_pos (by kernel_rfl)]
            go_simp
            refine hK _ _ ?_
            clear hK K
            try simp only [Act.put, List.setIfInBounds_toArray, List.set_cons_zero, List.set_cons_succ]
            refine wpAny_ready (rs := [17]) (by kernel_rfl) (by simp) ?_
            refine AllReady.cons rfl (fun K hK => ?_) AllReady.nil
            refine step_append_run19 rfl (.tmp 99) (.tmp 114) 29 29 rfl _ _ (by simp [Act.eval]) (by simp [Act.eval]) HRUN.out ?_
            refine hK (Act.put _ (some 115) (.slice A3 (j + 1) c3)) _ ?_
            clear hK K
            try simp only [Act.put, List.setIfInBounds_toArray, List.set_cons_zero, List.set_cons_succ]
            refine wpAny_take (i := 18) (v := .pointer (some ⟨w.heap.size, 54, none⟩)) rfl (by kernel_rfl) (by kernel_rfl) (by kernel_rfl) (fun _ _ _ h => h) (Or.inl ⟨by rfl, ?_⟩) ?_
            · intro W9
              go_simp
            try simp only [Act.put, List.setIfInBounds_toArray]
            refine wpAny_ready (rs := [19]) (by kernel_rfl) (by simp) ?_
            refine AllReady.cons rfl (fun K hK => ?_) AllReady.nil
            rw [if_pos (by kernel_rfl)]
            go_simp
            refine hK _ _ ?_
            clear hK K
            try simp only [Act.put, List.setIfInBounds_toArray, List.set_cons_zero, List.set_cons_succ]
            refine wpAny_done (by kernel_rfl) ?_ _
            go_wp2
            go_roundw
            all_goals first
              | exact ⟨j + 1, p + 16, A3, c3, by omega, by show _ = _; have := HP.out; omega, by go_num, by show World.ownsRow _ _ _ _ _ _ _; rw [SNO.out, Fm.rc2_app]; exact ownsRow_setCell_below HO3.out (by show w.heap.size < w.heap.size + 3; omega) _, BX.to (G3.out.set 54 (.slice A3 (j + 1) c3)) (Fm.FC_rgs lg A3 (j + 1) c3 (Fm.rgsOf (j + 1) (b.drop 8))), (BZ3.out.below HB3.out (by omega)).other (by omega) _, (BW3.out.trans (HB3.out.mono (by omega))).setCell (by show w.heap.size ≤ w.heap.size; omega) _, by show _ ≤ _; rw [World.size_setCell]; exact Nat.le_trans HSZ.out HB3.out.size⟩
              | (simp [intOf]; omega)
          · skip
            rw [if_pos (by kernel_rfl)]
            go_simp
            go_at_call 40
            (with_reducible refine (OFB.out _).mono ?_)
            rintro e w' ⟨rfl, rfl⟩
            refine hK _ _ ?_
            clear hK K
            try simp only [Act.put, List.setIfInBounds_toArray, List.set_cons_zero, List.set_cons_succ]
            refine wpAny_take (i := 15) (v := .agg #[.int .u64 (x1 : Int), .int .u64 (y1 : Int)]) rfl (by kernel_rfl) (by kernel_rfl) (by kernel_rfl) (fun _ _ _ h => h) (Or.inl ⟨by rfl, ?_⟩) ?_
            · intro W9
              go_simp
            try simp only [Act.put, List.setIfInBounds_toArray]
            refine wpAny_ready (rs := [1, 16]) (by kernel_rfl) (by simp) ?_
            refine AllReady.cons rfl (fun K hK => ?_) (AllReady.cons rfl (fun K hK => ?_) AllReady.nil)
            · skip
              rw [if_pos (by kernel_rfl)]
              go_simp
              refine hK _ _ ?_
              clear hK K
              try simp only [Act.put, List.setIfInBounds_toArray, List.set_cons_zero, List.set_cons_succ]
              refine wpAny_ready (rs := [16]) (by kernel_rfl) (by simp) ?_
              refine AllReady.cons rfl (fun K hK => ?_) AllReady.nil
              rw [if_pos (by kernel_rfl)]
              go_simp
              refine hK _ _ ?_
              clear hK K
              try simp only [Act.put, List.setIfInBounds_toArray, List.set_cons_zero, List.set_cons_succ]
              refine wpAny_ready (rs := [17]) (by kernel_rfl) (by simp) ?_
              refine AllReady.cons rfl (fun K hK => ?_) AllReady.nil
              refine step_append_run19 rfl (.tmp 99) (.tmp 114) 29 29 rfl _ _ (by simp [Act.eval]) (by simp [Act.eval]) HRUN.out ?_
              refine hK (Act.put _ (some 115) (.slice A3 (j + 1) c3)) _ ?_
              clear hK K
              try simp only [Act.put, List.setIfInBounds_toArray, List.set_cons_zero, List.set_cons_succ]
              refine wpAny_take (i := 18) (v := .pointer (some ⟨w.heap.size, 54, none⟩)) rfl (by kernel_rfl) (by kernel_rfl) (by kernel_rfl) (fun _ _ _ h => h) (Or.inl ⟨by rfl, ?_⟩) ?_
              · intro W9
                go_simp
              try simp only [Act.put, List.setIfInBounds_toArray]
              refine wpAny_ready (rs := [19]) (by kernel_rfl) (by simp) ?_
              refine AllReady.cons rfl (fun K hK => ?_) AllReady.nil
              rw [if_pos (by kernel_rfl)]
              go_simp
              refine hK _ _ ?_
              clear hK K
              try simp only [Act.put, List.setIfInBounds_toArray, List.set_cons_zero, List.set_cons_succ]
              refine wpAny_done (by kernel_rfl) ?_ _
              go_wp2
              go_roundw
              all_goals first
                | exact ⟨j + 1, p + 16, A3, c3, by omega, by show _ = _; have := HP.out; omega, by go_num, by show World.ownsRow _ _ _ _ _ _ _; rw [SNO.out, Fm.rc2_app]; exact ownsRow_setCell_below HO3.out (by show w.heap.size < w.heap.size + 3; omega) _, BX.to (G3.out.set 54 (.slice A3 (j + 1) c3)) (Fm.FC_rgs lg A3 (j + 1) c3 (Fm.rgsOf (j + 1) (b.drop 8))), (BZ3.out.below HB3.out (by omega)).other (by omega) _, (BW3.out.trans (HB3.out.mono (by omega))).setCell (by show w.heap.size ≤ w.heap.size; omega) _, by show _ ≤ _; rw [World.size_setCell]; exact Nat.le_trans HSZ.out HB3.out.size⟩
                | (simp [intOf]; omega)
            · skip
              rw [if_pos (by kernel_rfl)]
              go_simp
              refine hK _ _ ?_
              clear hK K
              try simp only [Act.put, List.setIfInBounds_toArray, List.set_cons_zero, List.set_cons_succ]
              refine wpAny_ready (rs := [1]) (by kernel_rfl) (by simp) ?_
              refine AllReady.cons rfl (fun K hK => ?_) AllReady.nil
              rw [if_pos (by kernel_rfl)]
              go_simp
              refine hK _ _ ?_
              clear hK K
              try simp only [Act.put, List.setIfInBounds_toArray, List.set_cons_zero, List.set_cons_succ]
              refine wpAny_ready (rs := [17]) (by kernel_rfl) (by simp) ?_
              refine AllReady.cons rfl (fun K hK => ?_) AllReady.nil
              refine step_append_run19 rfl (.tmp 99) (.tmp 114) 29 29 rfl _ _ (by simp [Act.eval]) (by simp [Act.eval]) HRUN.out ?_
              refine hK (Act.put _ (some 115) (.slice A3 (j + 1) c3)) _ ?_
              clear hK K
              try simp only [Act.put, List.setIfInBounds_toArray, List.set_cons_zero, List.set_cons_succ]
              refine wpAny_take (i := 18) (v := .pointer (some ⟨w.heap.size, 54, none⟩)) rfl (by kernel_rfl) (by kernel_rfl) (by kernel_rfl) (fun _ _ _ h => h) (Or.inl ⟨by rfl, ?_⟩) ?_
              · intro W9
                go_simp
              try simp only [Act.put, List.setIfInBounds_toArray]
              refine wpAny_ready (rs := [19]) (by kernel_rfl) (by simp) ?_
              refine AllReady.cons rfl (fun K hK => ?_) AllReady.nil
              rw [if_pos (by kernel_rfl)]
              go_simp
              refine hK _ _ ?_
              clear hK K
              try simp only [Act.put, List.setIfInBounds_toArray, List.set_cons_zero, List.set_cons_succ]
              refine wpAny_done (by kernel_rfl) ?_ _
              go_wp2
              go_roundw
              all_goals first
                | exact ⟨j + 1, p + 16, A3, c3, by omega, by show _ = _; have := HP.out; omega, by go_num, by show World.ownsRow _ _ _ _ _ _ _; rw [SNO.out, Fm.rc2_app]; exact ownsRow_setCell_below HO3.out (by show w.heap.size < w.heap.size + 3; omega) _, BX.to (G3.out.set 54 (.slice A3 (j + 1) c3)) (Fm.FC_rgs lg A3 (j + 1) c3 (Fm.rgsOf (j + 1) (b.drop 8))), (BZ3.out.below HB3.out (by omega)).other (by omega) _, (BW3.out.trans (HB3.out.mono (by omega))).setCell (by show w.heap.size ≤ w.heap.size; omega) _, by show _ ≤ _; rw [World.size_setCell]; exact Nat.le_trans HSZ.out HB3.out.size⟩
                | (simp [intOf]; omega)
      · obtain rfl : j = mm := by omega
        have hlt' : ¬ (p : Int) < N := by omega
        obtain ⟨g, hg⟩ : ∃ g, ({ Fm.mk3 4 tok s r with off := q8, RA := A, m := j, rc := q, rs := Fm.rgsOf j (b.drop 8) } : Fm.Fr) = g := ⟨_, rfl⟩
        have LG := Lib.hid (show g.ln by rw [← hg]; exact lg)
        rw [hg] at BG
        have GX := Lib.hid (show g.A = none ∧ g.n = 0 ∧ g.c = 0 ∧ g.xs = [] ∧ g.RA = A ∧ g.m = j ∧ g.rs = Fm.rgsOf j (b.drop 8) by rw [← hg]; exact ⟨rfl, rfl, rfl, rfl, rfl, rfl, rfl⟩)
        have AT := Lib.hid (show ∀ A2, PlA A2 w g from fun A2 => ⟨fun _ _ _ h => absurd h (by rw [GX.out.2.1]; omega), fun b o h _ => Nat.le_trans (Nat.le_add_right _ 3) (owns_base19 HO.out (GX.out.2.2.2.2.1.symm.trans h))⟩)
        have EF := Lib.hid (show (Fm.er g, Fm.may g) = Fm.fieldsP 4 tok s r b by rw [EF0.out, Fm.may_er (by rw [GX.out.2.2.2.1, GX.out.2.1]; rfl) (by rw [GX.out.2.2.2.2.2.2, GX.out.2.2.2.2.2.1, Fm.rgsOf_len])]; rw [← hg, ← HQ8.out]; unfold Fm.getF; rw [if_neg (by omega), if_neg (by omega), if_neg (by omega), if_pos rfl, hbl, ← HN.out, HNN.out]; rfl)
        have RG0 := Lib.hid (rg_own HO.out (Fm.rgsOf_len _ _) (Fm.rgsOf_lt (Byt.drop19 hy 8)))
        have RN := Lib.hid (RG.put19 RG0.out HO.out (w.heap.size + 1) (by omega) (Fm.FC g).toList 0)
        clear hg lg hp
        go_upto_region 27 with (fail)
        generalize wr = W3 at *
        have HOD := Lib.hid (World.ownsRow.drew HO.out)
        have hj4 := HN.out
        have RGW := Lib.hid (fun w9 (h : RG w9 W3.drew.heap.size g.RA g.m g.rs) (hb9 : Below W3.drew.heap.size W3.drew w9) => show RG (w9.setCells (w.heap.size + 1) 0 (Fm.FC g).toList) (w9.setCells (w.heap.size + 1) 0 (Fm.FC g).toList).heap.size g.RA g.m g.rs by rw [GX.out.2.2.2.2.1, GX.out.2.2.2.2.2.1, GX.out.2.2.2.2.2.2] at h ⊢; exact RG.put19 (h.more hb9.size) (owns_below19 HOD.out hb9) (w.heap.size + 1) (by omega) _ 0)
        have RBN := Lib.hid (fun W (h : Below w.heap.size w W) => show RB W W.heap.size g.A g.n g.xs ∧ g.n ≤ g.c ∧ g.c ≤ maxLen ∧ g.n ≤ 500000 by rw [GX.out.1, GX.out.2.1, GX.out.2.2.1, GX.out.2.2.2.1]; exact ⟨RB.nil, Nat.le_refl _, Nat.zero_le _, Nat.zero_le _⟩)

        have sz := Fm.FC_size LG.out
        have LL := Lib.hid (fun W (h : BX W w.heap.size 31 (Fm.FC g)) => load_all _ _ _ g LG.out h)
        have laA := LL.out _ BG.out.drew
        have laB := LL.out _ (BX.puts_other (b := w.heap.size + 1) (by omega) (Fm.FC g).toList 0 _ BG.out.drew)
        have ssA := store_nul _ _ _ BZ3.out.drew g LG.out
        have PB := Lib.hid (put_nul _ _ _ BZ3.out.drew g LG.out)
        have BWd := Lib.hid (Below.setCells (a := w.heap.size + 1) (by omega) (Fm.FC g).toList 0 _ (Below.drew BW3.out))
        have RGA := Lib.hid (show RG W3.drew W3.drew.heap.size g.RA g.m g.rs by rw [GX.out.2.2.2.2.1, GX.out.2.2.2.2.2.1, GX.out.2.2.2.2.2.2]; exact RG0.out.below (Below.drew (Below.refl _ _)))
        have RGB := Lib.hid (show RG (W3.drew.setCells (w.heap.size + 1) 0 (Fm.FC g).toList) (W3.drew.setCells (w.heap.size + 1) 0 (Fm.FC g).toList).heap.size g.RA g.m g.rs by rw [GX.out.2.2.2.2.1, GX.out.2.2.2.2.2.1, GX.out.2.2.2.2.2.2]; exact RG.put19 (w := W3.drew) (RG0.out.below (Below.drew (Below.refl W3.heap.size W3))) HOD.out (w.heap.size + 1) (by omega) _ 0)
        have MA := Lib.hid (refmay_any19 g W3.drew LG.out RGA.out (by rw [GX.out.2.2.2.2.2.1]; omega))
        have MB := Lib.hid (refmay_any19 g (W3.drew.setCells (w.heap.size + 1) 0 (Fm.FC g).toList) LG.out RGB.out (by rw [GX.out.2.2.2.2.2.1]; omega))
        go_region_law (first
          | (go_simp; go_at_call 27; (with_reducible refine MA.out.mono ?_); rintro e w9 ⟨rfl, hb9⟩; have la9 := LL.out _ (BG.out.drew.later hb9); have bz9 := BZ3.out.drew.later hb9; have ss9 := store_nul _ _ _ bz9 g LG.out; have lr9 := load_all _ _ _ g LG.out (put_nul _ _ _ bz9 g LG.out); have BQ := Lib.hid (Below.setCells (a := w.heap.size + 1) (by omega) (Fm.FC g).toList 0 _ (bthen' (Below.drew BW3.out) hb9)); have RQ := Lib.hid (And.intro (RBN.out _ BQ.out) (RGW.out _ (RGA.out.below hb9) hb9)); clear hb9 bz9)
          | (go_simp; go_at_call 27; (with_reducible refine MB.out.mono ?_); rintro e w9 ⟨rfl, hb9⟩; have la9 := LL.out _ ((BX.puts_other (b := w.heap.size + 1) (by omega) (Fm.FC g).toList 0 _ BG.out.drew).later hb9); have lr9 := load_all _ _ _ g LG.out (PB.out.later hb9); have BQ := Lib.hid (bthen' BWd.out hb9); have RQ := Lib.hid (And.intro (RBN.out _ BQ.out) ((RGB.out.below hb9).more hb9.size)); clear hb9))
        all_goals (
          go_wp2
          refine bodyPost_ret (v := .tuple #[.agg (Fm.FC g), .int .i64 (Fm.may g)]) (by simp [results, Try.f41, go_sem, lr9]) rfl ?_
          exact ⟨g, Fm.may g, rfl, by rw [EF.out], LG.out, RQ.out.1, ⟨RQ.out.2, (by rw [GX.out.2.2.2.2.2.1]; omega)⟩, BQ.out, AT.out _⟩))
end Go.Proofs.Ytjiafpmcibokbaa
