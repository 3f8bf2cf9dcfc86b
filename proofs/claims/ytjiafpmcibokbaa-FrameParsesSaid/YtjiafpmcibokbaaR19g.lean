/- LAYER 19, the document's answers, sixth part: fields. gen_r19g.py -/
import Derived.Test.YtjiafpmcibokbaaM19b
import Derived.Test.YtjiafpmcibokbaaR19e
namespace Go.Proofs.Ytjiafpmcibokbaa
open Go Go.RowKit
set_option maxHeartbeats 8000000
set_option maxRecDepth 100000
set_option linter.unusedVariables false
attribute [-go_sem] loadCellsFrom storeCells Instr.build
attribute [local go_sem] storeCells_one storeCells_two loadCells_two
theorem Byt.drop19 {xs : List Int} (h : Byt xs) (k : Nat) : Byt (xs.drop k) := fun j => by have := h (k + j); simpa [List.getD_eq_getElem?_getD, List.getElem?_drop] using this
theorem info_rg19 : (Try.prog.info? 71).map (fun i => (i.zero, i.size, i.bytes)) = some (some (.agg #[.int .u64 0, .int .u64 0]), 2, 16) := by kernel_rfl
theorem rg_nil (w : World) (B : Nat) : RG w B none 0 [] := ⟨⟨rfl, by simp⟩, fun h => absurd h (by omega)⟩
theorem put_nul (h1 : Nat) (W : World) (T : TypeId) (bZ : BX W h1 T (Fm.FC Fm.nul)) (g : Fm.Fr) (lg : g.ln) : BX (W.setCells h1 0 (Fm.FC g).toList) h1 T (Fm.FC g) := by
  have h2 := BX.put (Fm.FC g).toList 0 _ _ bZ
  have h3 := Fm.putL_mid (Fm.FC g).toList (Fm.FC Fm.nul).toList [] [] (by rw [Array.length_toList, Array.length_toList, Fm.FC_size lg, Fm.FC_size Fm.nul_ln])
  exact h2.to (by simpa using h3)
theorem store_nul (h1 : Nat) (W : World) (T : TypeId) (bZ : BX W h1 T (Fm.FC Fm.nul)) (g : Fm.Fr) (lg : g.ln) : (storeCells ⟨h1, 0, none⟩ (Fm.FC g).toList 0).run Try.prog W = .ok () (W.setCells h1 0 (Fm.FC g).toList) :=
  run_store_part bZ 0 (Fm.FC g).toList (by rw [Array.length_toList, Fm.FC_size lg, Fm.FC_size Fm.nul_ln]; decide) (fun v hv => (Array.all_eq_true_iff_forall_mem.1 (Fm.FC_one _)) v (by simpa using hv))
theorem load_all (h1 : Nat) (W : World) (T : TypeId) (g : Fm.Fr) (lg : g.ln) (b : BX W h1 T (Fm.FC g)) : (loadCellsFrom ⟨h1, 0, none⟩ 0 56 #[]).run Try.prog W = .ok (Fm.FC g) W :=
  run_cells_part b 0 _ 56 (Fm.FC_size lg) (fun j _ => by rw [Nat.zero_add])
/-- Where a frame's bytes and ranges lie: in A's block; in a block that the call made. -/
def PlA (A : Option Addr) (w : World) (g : Fm.Fr) : Prop := (∀ b o, g.A = some ⟨b, o, none⟩ → 0 < g.n → ∃ o2, A = some ⟨b, o2, none⟩) ∧ (∀ b o, g.RA = some ⟨b, o, none⟩ → 0 < g.m → w.heap.size ≤ b)
theorem owns_base19 {w : World} {B size n c b o : Nat} {e : TypeId} {A : Option Addr} {xs : List Value} (h : w.ownsRow B e size (.slice A n c) n xs) (ha : A = some ⟨b, o, none⟩) : B ≤ b := by
  subst ha
  rcases h.2 with ⟨h1, _⟩ | ⟨g, cap, cur, h1, hb, _⟩
  · cases h1
  · cases h1
    exact hb
theorem nul_facts {nu : Fm.Fr} (h : Fm.nul = nu) : Hid (nu.ln ∧ Fm.er nu = nu ∧ (∀ (w : World) (B : Nat), RB w B nu.A nu.n nu.xs ∧ nu.n ≤ nu.c ∧ nu.c ≤ maxLen ∧ nu.n ≤ 500000) ∧ (∀ (w : World) (B : Nat), RG w B nu.RA nu.m nu.rs ∧ nu.m ≤ 500000) ∧ ∀ (A : Option Addr) (w : World), PlA A w nu) := by
  subst h
  exact ⟨Fm.nul_ln, rfl, fun _ _ => ⟨RB.nil, Nat.le_refl _, Nat.zero_le _, Nat.zero_le _⟩, fun _ _ => ⟨rg_nil _ _, Nat.zero_le _⟩, fun _ _ => ⟨fun _ _ _ h => absurd h (Nat.lt_irrefl 0), fun _ _ _ h => absurd h (Nat.lt_irrefl 0)⟩⟩
/-- What fields gives. -/
def FG (k : Int) (tok : List Int) (s r : Nat) (A : Option Addr) (b : List Int) (w : World) (e : Ending) (w' : World) : Prop :=
  ∃ g e', e = .returned (.tuple #[.agg (Fm.FC g), .int .i64 e']) ∧ (Fm.er g, e') = Fm.fieldsP k tok s r b ∧ g.ln ∧ (RB w' w'.heap.size g.A g.n g.xs ∧ g.n ≤ g.c ∧ g.c ≤ maxLen ∧ g.n ≤ 500000) ∧ (RG w' w'.heap.size g.RA g.m g.rs ∧ g.m ≤ 500000) ∧ Below w.heap.size w w' ∧ PlA A w g
theorem reffields1 (tok : List Int) (s r : Nat) (A : Option Addr) (n c : Nat) (b : List Int) (w : World) (h16 : tok.length = 16) (hb : RB w w.heap.size A n b) (hy : Byt b) (hn : n ≤ c) (hc : c ≤ maxLen) (hn2 : n ≤ 500000) :
    Calls Try.prog 41 #[.agg (Fm.FC (Fm.mk3 1 tok s r)), .slice A n c] w (FG 1 tok s r A b w) := by
  have l3 : (Fm.mk3 1 tok s r).ln := Fm.mk3_ln h16
  have hbl : b.length = n := hb.1
  have q := fun o => FB.of (((BX.new w 31 (Fm.FC (Fm.mk3 1 tok s r))).alloc (.cells (Fm.FC Fm.nul) 31)).alloc o) l3
  have c0 := fun o => (show World.cell? (((w.alloc (.cells (Fm.FC (Fm.mk3 1 tok s r)) 31)).alloc (.cells (Fm.FC Fm.nul) 31)).alloc o) ⟨w.heap.size, 0, none⟩ = some (.int .i64 1) from (q o).c0)
  have bn := fun W => run_build (P := Try.prog) W 31 #[] _ built_nul
  clear q
  obtain ⟨nu, NU0⟩ : ∃ g, Hid (Fm.nul = g) := ⟨_, rfl⟩
  have NU := nul_facts NU0.out
  have put_nul' : ∀ (h1 : Nat) (W : World) (T : TypeId) (bZ : BX W h1 T (Fm.FC nu)), BX (W.setCells h1 0 (Fm.FC nu).toList) h1 T (Fm.FC nu) := by rw [← NU0.out]; exact fun h1 W T bZ => put_nul h1 W T bZ Fm.nul Fm.nul_ln
  have store_nul' : ∀ (h1 : Nat) (W : World) (T : TypeId) (bZ : BX W h1 T (Fm.FC nu)), (storeCells ⟨h1, 0, none⟩ (Fm.FC nu).toList 0).run Try.prog W = .ok () (W.setCells h1 0 (Fm.FC nu).toList) := by rw [← NU0.out]; exact fun h1 W T bZ => store_nul h1 W T bZ Fm.nul Fm.nul_ln
  replace put_nul' := Lib.hid put_nul'
  replace store_nul' := Lib.hid store_nul'
  unfold FG
  go_enter Try.func41, Try.ntmps41
  go_upto_region 1 with (fail)
  change Code.wp _ _ _ _ ((w.alloc (.cells (Fm.FC (Fm.mk3 1 tok s r)) 31)).alloc (.cells (Fm.FC Fm.nul) 31))
  have bF0 : BX ((w.alloc (.cells (Fm.FC (Fm.mk3 1 tok s r)) 31)).alloc (.cells (Fm.FC Fm.nul) 31)) w.heap.size 31 (Fm.FC (Fm.mk3 1 tok s r)) := (BX.new w _ _).alloc _
  have bZ0 : BX ((w.alloc (.cells (Fm.FC (Fm.mk3 1 tok s r)) 31)).alloc (.cells (Fm.FC Fm.nul) 31)) (w.heap.size + 1) 31 (Fm.FC Fm.nul) := by
    have h := BX.new (w.alloc (.cells (Fm.FC (Fm.mk3 1 tok s r)) 31)) 31 (Fm.FC Fm.nul)
    simpa using h
  have bW0 : Below w.heap.size w ((w.alloc (.cells (Fm.FC (Fm.mk3 1 tok s r)) 31)).alloc (.cells (Fm.FC Fm.nul) 31)) := ((Below.refl _ w).alloc (Nat.le_refl _) _).alloc (by simp) _
  have sW0 : ((w.alloc (.cells (Fm.FC (Fm.mk3 1 tok s r)) 31)).alloc (.cells (Fm.FC Fm.nul) 31)).heap.size = w.heap.size + 2 := by simp
  generalize (w.alloc (.cells (Fm.FC (Fm.mk3 1 tok s r)) 31)).alloc (.cells (Fm.FC Fm.nul) 31) = W1 at *
  go_upto_region 2 with (fail)
  have bF := bF0.alloc (.cells #[.int .i64 40, .int .i64 8, .int .i64 9, .int .i64 8, .int .i64 40, .int .i64 8, .int .i64 1] 3)
  have bZ := bZ0.alloc (.cells #[.int .i64 40, .int .i64 8, .int .i64 9, .int .i64 8, .int .i64 40, .int .i64 8, .int .i64 1] 3)
  have bW := bW0.alloc (by omega) (.cells #[.int .i64 40, .int .i64 8, .int .i64 9, .int .i64 8, .int .i64 40, .int .i64 8, .int .i64 1] 3)
  have sW : (W1.alloc (.cells #[.int .i64 40, .int .i64 8, .int .i64 9, .int .i64 8, .int .i64 40, .int .i64 8, .int .i64 1] 3)).heap.size = w.heap.size + 3 := by simp [sW0]
  clear c0 bF0 bZ0 bW0 sW0
  generalize W1.alloc (.cells #[.int .i64 40, .int .i64 8, .int .i64 9, .int .i64 8, .int .i64 40, .int .i64 8, .int .i64 1] 3) = W2 at *
  have c0 : W2.cell? ⟨w.heap.size, 0, none⟩ = some (.int .i64 1) := (FB.of bF l3).c0
  by_cases hs : n < 40
  · have hs' : (n : Int) < 40 := by omega
    have EF := Lib.hid (show Fm.fieldsP 1 tok s r b = (Fm.nul, 4) by unfold Fm.fieldsP; rw [if_pos (.inl (by rw [hbl]; exact hs))])
    rw [NU0.out] at EF bn bZ
    have ss := store_nul'.out _ _ _ bZ
    have lr := load_all _ _ _ nu NU.out.1 (put_nul'.out _ _ _ bZ)
    have BQ := Lib.hid (Below.setCells (a := w.heap.size + 1) (by omega) (Fm.FC nu).toList 0 _ bW)
    have szn := Fm.FC_size NU.out.1
    clear bZ
    go_wp2
    refine bodyPost_ret (v := .tuple #[.agg (Fm.FC nu), .int .i64 4]) (by simp [results, Try.f41, go_sem, lr]) rfl ?_
    exact ⟨nu, 4, rfl, by rw [EF.out, NU.out.2.1], NU.out.1, NU.out.2.2.1 _ _, NU.out.2.2.2.1 _ _, BQ.out, NU.out.2.2.2.2 _ _⟩
  have hs' : ¬ (n : Int) < 40 := by omega
  by_cases ht : 40 < n
  · have ht' : (40 : Int) < n := by omega
    have EF := Lib.hid (show Fm.fieldsP 1 tok s r b = (Fm.nul, 3) by unfold Fm.fieldsP; rw [if_neg (by rw [hbl]; show ¬ (n < 40 ∨ _); omega), if_pos (by rw [hbl]; exact ⟨ht, by omega, by omega⟩)])
    rw [NU0.out] at EF bn bZ
    have ss := store_nul'.out _ _ _ bZ
    have lr := load_all _ _ _ nu NU.out.1 (put_nul'.out _ _ _ bZ)
    have BQ := Lib.hid (Below.setCells (a := w.heap.size + 1) (by omega) (Fm.FC nu).toList 0 _ bW)
    have szn := Fm.FC_size NU.out.1
    clear bZ
    go_wp2
    refine bodyPost_ret (v := .tuple #[.agg (Fm.FC nu), .int .i64 3]) (by simp [results, Try.f41, go_sem, lr]) rfl ?_
    exact ⟨nu, 3, rfl, by rw [EF.out, NU.out.2.1], NU.out.1, NU.out.2.2.1 _ _, NU.out.2.2.2.1 _ _, BQ.out, NU.out.2.2.2.2 _ _⟩
  have ht' : ¬ (40 : Int) < n := by omega
  have NB := Lib.hid (fun W (h : Below w.heap.size w W) => (hb.below h).more h.size)
  have EF0 := Lib.hid (show Fm.fieldsP 1 tok s r b = (Fm.getF 1 tok s r b, Fm.mayP (Fm.getF 1 tok s r b)) by unfold Fm.fieldsP; rw [if_neg (by rw [hbl]; show ¬ (n < 40 ∨ _); omega), if_neg (by rw [hbl]; show ¬ (40 < n ∧ _); omega)])

  obtain ⟨b1, o1, rfl, hb1, r0⟩ := hb.at0 (by omega)
  obtain rfl : n = 40 := by omega
  have OF := Lib.hid (refof_any19 (some ⟨b1, o1, none⟩) 8 c (b.take 8) W2 ((NB.out W2 bW).pre (by omega)) (Ck.Byt.take hy 8) (by omega))
  have cc := (FB.of bF l3).c20
  have ff := bF.free 20
  go_wp2_with (go_at_call 40; (with_reducible refine OF.out.mono ?_); rintro e w' ⟨rfl, rfl⟩)
  obtain ⟨q8, hq8⟩ : ∃ q, Fm.ofL (b.take 8) = q := ⟨_, rfl⟩
  have HQ8 := Lib.hid hq8
  rw [hq8]
  clear hq8 OF cc ff c0
  go_loopw [7] (fun i W => ∃ j : Nat, j ≤ 32 ∧ i = .int .i64 j ∧ Hid (BX W w.heap.size 31 (Fm.FC { Fm.mk3 1 tok s r with tot := q8, sum := Fm.part8 (b.drop 8) j })) ∧ Hid (BX W (w.heap.size + 1) 31 (Fm.FC Fm.nul)) ∧ Hid (Below w.heap.size w W)) (fun i _ => 32 - (intOf i).toNat)
  case atStart => exact ⟨0, by omega, rfl, (bF.set 20 _).to (Fm.FC_tot l3 _), bZ.other (by omega) _, bW.setCell (p := ⟨w.heap.size, 20, none⟩) (Nat.le_refl _) _⟩
  case round =>
    obtain ⟨j, hj, rfl, BG, BZ3, BW3⟩ := hrel
    clear bF bZ bW sW
    have lg : Fm.Fr.ln { Fm.mk3 1 tok s r with tot := q8, sum := Fm.part8 (b.drop 8) j } := ⟨h16, Fm.part8_len (by rw [List.length_drop]; omega) hj⟩
    by_cases hlt : j < 32
    · have hlt' : (j : Int) < 32 := by omega
      have rj : wr.cell? ⟨b1, o1 + (8 + j), none⟩ = some (.int .u8 (b.getD (8 + j) 0)) := (NB.out wr BW3.out).at_' (by omega)
      have cj : wr.cell? ⟨w.heap.size, 21 + j, none⟩ = some (.int .u8 ((Fm.part8 (b.drop 8) j).getD j 0)) := BG.out.cell (by rw [Fm.FC_sum lg hlt, List.getElem?_map, List.getElem?_eq_getElem (by rw [lg.2]; exact hlt)]; simp [Fm.ub, List.getD_eq_getElem?_getD, List.getElem?_eq_getElem (show j < (Fm.part8 (b.drop 8) j).length by rw [lg.2]; exact hlt)])
      have fj := BG.out.free (21 + j)
      have HJ := Lib.hid (show (Fm.part8 (b.drop 8) j).set j (b.getD (8 + j) 0) = Fm.part8 (b.drop 8) (j + 1) from Fm.part8_set (by rw [List.length_drop]; omega) hlt)
      generalize b.getD (8 + j) 0 = x at *
      go_wp2
      go_roundw
      case rel => exact ⟨j + 1, by omega, by go_num, by rw [← HJ.out]; exact (BG.out.set (21 + j) _).to (Fm.FC_sum1 lg j hlt x), BZ3.out.other (by omega) _, BW3.out.setCell (p := ⟨w.heap.size, 21 + j, none⟩) (Nat.le_refl _) _⟩
      case measure => simp [intOf]; omega
    · obtain rfl : j = 32 := by omega
      have hp : Fm.part8 (b.drop 8) 32 = (b.drop 8).take 32 := by simp [Fm.part8]
      rw [hp] at BG lg
      obtain ⟨g, hg⟩ : ∃ g, ({ Fm.mk3 1 tok s r with tot := q8, sum := (b.drop 8).take 32 } : Fm.Fr) = g := ⟨_, rfl⟩
      have LG := Lib.hid (show g.ln by rw [← hg]; exact lg)
      rw [hg] at BG
      have GX := Lib.hid (show g.A = none ∧ g.n = 0 ∧ g.c = 0 ∧ g.xs = [] ∧ g.RA = none ∧ g.m = 0 ∧ g.rs = [] by rw [← hg]; exact ⟨rfl, rfl, rfl, rfl, rfl, rfl, rfl⟩)
      have AT := Lib.hid (show ∀ A2, PlA A2 w g from fun A2 => ⟨fun _ _ _ h => absurd h (by rw [GX.out.2.1]; omega), fun _ _ _ h => absurd h (by rw [GX.out.2.2.2.2.2.1]; omega)⟩)
      have EF := Lib.hid (show (Fm.er g, Fm.may g) = Fm.fieldsP 1 tok s r b by rw [EF0.out, Fm.may_er (by rw [GX.out.2.2.2.1, GX.out.2.1]; rfl) (by rw [GX.out.2.2.2.2.2.2, GX.out.2.2.2.2.2.1]; rfl)]; rw [← hg, ← HQ8.out]; rfl)
      clear hg hp lg
      go_upto_region 27 with (fail)
      generalize wr = W3 at *
      have RGW := Lib.hid (fun w9 (h : RG w9 W3.drew.heap.size g.RA g.m g.rs) (hb9 : Below W3.drew.heap.size W3.drew w9) => show RG (w9.setCells (w.heap.size + 1) 0 (Fm.FC g).toList) (w9.setCells (w.heap.size + 1) 0 (Fm.FC g).toList).heap.size g.RA g.m g.rs by rw [GX.out.2.2.2.2.1, GX.out.2.2.2.2.2.1, GX.out.2.2.2.2.2.2]; exact rg_nil _ _)
      have RBN := Lib.hid (fun W (h : Below w.heap.size w W) => show RB W W.heap.size g.A g.n g.xs ∧ g.n ≤ g.c ∧ g.c ≤ maxLen ∧ g.n ≤ 500000 by rw [GX.out.1, GX.out.2.1, GX.out.2.2.1, GX.out.2.2.2.1]; first | exact ⟨RBD.out W h, by omega, by unfold maxLen at *; omega, by omega⟩ | exact ⟨RB.nil, Nat.le_refl _, Nat.zero_le _, Nat.zero_le _⟩)

      have sz := Fm.FC_size LG.out
      have LL := Lib.hid (fun W (h : BX W w.heap.size 31 (Fm.FC g)) => load_all _ _ _ g LG.out h)
      have laA := LL.out _ BG.out.drew
      have laB := LL.out _ (BX.puts_other (b := w.heap.size + 1) (by omega) (Fm.FC g).toList 0 _ BG.out.drew)
      have ssA := store_nul _ _ _ BZ3.out.drew g LG.out
      have PB := Lib.hid (put_nul _ _ _ BZ3.out.drew g LG.out)
      have BWd := Lib.hid (Below.setCells (a := w.heap.size + 1) (by omega) (Fm.FC g).toList 0 _ (Below.drew BW3.out))
      have RGA := Lib.hid (show RG W3.drew W3.drew.heap.size g.RA g.m g.rs by rw [GX.out.2.2.2.2.1, GX.out.2.2.2.2.2.1, GX.out.2.2.2.2.2.2]; exact rg_nil _ _)
      have RGB := Lib.hid (show RG (W3.drew.setCells (w.heap.size + 1) 0 (Fm.FC g).toList) (W3.drew.setCells (w.heap.size + 1) 0 (Fm.FC g).toList).heap.size g.RA g.m g.rs by rw [GX.out.2.2.2.2.1, GX.out.2.2.2.2.2.1, GX.out.2.2.2.2.2.2]; exact rg_nil _ _)
      have MA := Lib.hid (refmay_any19 g W3.drew LG.out RGA.out (by rw [GX.out.2.2.2.2.2.1]; omega))
      have MB := Lib.hid (refmay_any19 g (W3.drew.setCells (w.heap.size + 1) 0 (Fm.FC g).toList) LG.out RGB.out (by rw [GX.out.2.2.2.2.2.1]; omega))
      go_region_law (first
        | (go_simp; go_at_call 27; (with_reducible refine MA.out.mono ?_); rintro e w9 ⟨rfl, hb9⟩; have la9 := LL.out _ (BG.out.drew.later hb9); have bz9 := BZ3.out.drew.later hb9; have ss9 := store_nul _ _ _ bz9 g LG.out; have lr9 := load_all _ _ _ g LG.out (put_nul _ _ _ bz9 g LG.out); have BQ := Lib.hid (Below.setCells (a := w.heap.size + 1) (by omega) (Fm.FC g).toList 0 _ (bthen' (Below.drew BW3.out) hb9)); have RQ := Lib.hid (And.intro (RBN.out _ BQ.out) (RGW.out _ (RGA.out.below hb9) hb9)); clear hb9 bz9)
        | (go_simp; go_at_call 27; (with_reducible refine MB.out.mono ?_); rintro e w9 ⟨rfl, hb9⟩; have la9 := LL.out _ ((BX.puts_other (b := w.heap.size + 1) (by omega) (Fm.FC g).toList 0 _ BG.out.drew).later hb9); have lr9 := load_all _ _ _ g LG.out (PB.out.later hb9); have BQ := Lib.hid (bthen' BWd.out hb9); have RQ := Lib.hid (And.intro (RBN.out _ BQ.out) ((RGB.out.below hb9).more hb9.size)); clear hb9))
      all_goals (
        go_wp2
        refine bodyPost_ret (v := .tuple #[.agg (Fm.FC g), .int .i64 (Fm.may g)]) (by simp [results, Try.f41, go_sem, lr9]) rfl ?_
        exact ⟨g, Fm.may g, rfl, by rw [EF.out], LG.out, RQ.out.1, ⟨RQ.out.2, (by rw [GX.out.2.2.2.2.2.1]; omega)⟩, BQ.out, AT.out _⟩)
theorem reffields2 (tok : List Int) (s r : Nat) (A : Option Addr) (n c : Nat) (b : List Int) (w : World) (h16 : tok.length = 16) (hb : RB w w.heap.size A n b) (hy : Byt b) (hn : n ≤ c) (hc : c ≤ maxLen) (hn2 : n ≤ 500000) :
    Calls Try.prog 41 #[.agg (Fm.FC (Fm.mk3 2 tok s r)), .slice A n c] w (FG 2 tok s r A b w) := by
  have l3 : (Fm.mk3 2 tok s r).ln := Fm.mk3_ln h16
  have hbl : b.length = n := hb.1
  have q := fun o => FB.of (((BX.new w 31 (Fm.FC (Fm.mk3 2 tok s r))).alloc (.cells (Fm.FC Fm.nul) 31)).alloc o) l3
  have c0 := fun o => (show World.cell? (((w.alloc (.cells (Fm.FC (Fm.mk3 2 tok s r)) 31)).alloc (.cells (Fm.FC Fm.nul) 31)).alloc o) ⟨w.heap.size, 0, none⟩ = some (.int .i64 2) from (q o).c0)
  have bn := fun W => run_build (P := Try.prog) W 31 #[] _ built_nul
  clear q
  obtain ⟨nu, NU0⟩ : ∃ g, Hid (Fm.nul = g) := ⟨_, rfl⟩
  have NU := nul_facts NU0.out
  have put_nul' : ∀ (h1 : Nat) (W : World) (T : TypeId) (bZ : BX W h1 T (Fm.FC nu)), BX (W.setCells h1 0 (Fm.FC nu).toList) h1 T (Fm.FC nu) := by rw [← NU0.out]; exact fun h1 W T bZ => put_nul h1 W T bZ Fm.nul Fm.nul_ln
  have store_nul' : ∀ (h1 : Nat) (W : World) (T : TypeId) (bZ : BX W h1 T (Fm.FC nu)), (storeCells ⟨h1, 0, none⟩ (Fm.FC nu).toList 0).run Try.prog W = .ok () (W.setCells h1 0 (Fm.FC nu).toList) := by rw [← NU0.out]; exact fun h1 W T bZ => store_nul h1 W T bZ Fm.nul Fm.nul_ln
  replace put_nul' := Lib.hid put_nul'
  replace store_nul' := Lib.hid store_nul'
  unfold FG
  go_enter Try.func41, Try.ntmps41
  go_upto_region 1 with (fail)
  change Code.wp _ _ _ _ ((w.alloc (.cells (Fm.FC (Fm.mk3 2 tok s r)) 31)).alloc (.cells (Fm.FC Fm.nul) 31))
  have bF0 : BX ((w.alloc (.cells (Fm.FC (Fm.mk3 2 tok s r)) 31)).alloc (.cells (Fm.FC Fm.nul) 31)) w.heap.size 31 (Fm.FC (Fm.mk3 2 tok s r)) := (BX.new w _ _).alloc _
  have bZ0 : BX ((w.alloc (.cells (Fm.FC (Fm.mk3 2 tok s r)) 31)).alloc (.cells (Fm.FC Fm.nul) 31)) (w.heap.size + 1) 31 (Fm.FC Fm.nul) := by
    have h := BX.new (w.alloc (.cells (Fm.FC (Fm.mk3 2 tok s r)) 31)) 31 (Fm.FC Fm.nul)
    simpa using h
  have bW0 : Below w.heap.size w ((w.alloc (.cells (Fm.FC (Fm.mk3 2 tok s r)) 31)).alloc (.cells (Fm.FC Fm.nul) 31)) := ((Below.refl _ w).alloc (Nat.le_refl _) _).alloc (by simp) _
  have sW0 : ((w.alloc (.cells (Fm.FC (Fm.mk3 2 tok s r)) 31)).alloc (.cells (Fm.FC Fm.nul) 31)).heap.size = w.heap.size + 2 := by simp
  generalize (w.alloc (.cells (Fm.FC (Fm.mk3 2 tok s r)) 31)).alloc (.cells (Fm.FC Fm.nul) 31) = W1 at *
  go_upto_region 2 with (fail)
  have bF := bF0.alloc (.cells #[.int .i64 40, .int .i64 8, .int .i64 9, .int .i64 8, .int .i64 40, .int .i64 8, .int .i64 1] 3)
  have bZ := bZ0.alloc (.cells #[.int .i64 40, .int .i64 8, .int .i64 9, .int .i64 8, .int .i64 40, .int .i64 8, .int .i64 1] 3)
  have bW := bW0.alloc (by omega) (.cells #[.int .i64 40, .int .i64 8, .int .i64 9, .int .i64 8, .int .i64 40, .int .i64 8, .int .i64 1] 3)
  have sW : (W1.alloc (.cells #[.int .i64 40, .int .i64 8, .int .i64 9, .int .i64 8, .int .i64 40, .int .i64 8, .int .i64 1] 3)).heap.size = w.heap.size + 3 := by simp [sW0]
  clear c0 bF0 bZ0 bW0 sW0
  generalize W1.alloc (.cells #[.int .i64 40, .int .i64 8, .int .i64 9, .int .i64 8, .int .i64 40, .int .i64 8, .int .i64 1] 3) = W2 at *
  have c0 : W2.cell? ⟨w.heap.size, 0, none⟩ = some (.int .i64 2) := (FB.of bF l3).c0
  by_cases hs : n < 8
  · have hs' : (n : Int) < 8 := by omega
    have EF := Lib.hid (show Fm.fieldsP 2 tok s r b = (Fm.nul, 4) by unfold Fm.fieldsP; rw [if_pos (.inl (by rw [hbl]; exact hs))])
    rw [NU0.out] at EF bn bZ
    have ss := store_nul'.out _ _ _ bZ
    have lr := load_all _ _ _ nu NU.out.1 (put_nul'.out _ _ _ bZ)
    have BQ := Lib.hid (Below.setCells (a := w.heap.size + 1) (by omega) (Fm.FC nu).toList 0 _ bW)
    have szn := Fm.FC_size NU.out.1
    clear bZ
    go_wp2
    refine bodyPost_ret (v := .tuple #[.agg (Fm.FC nu), .int .i64 4]) (by simp [results, Try.f41, go_sem, lr]) rfl ?_
    exact ⟨nu, 4, rfl, by rw [EF.out, NU.out.2.1], NU.out.1, NU.out.2.2.1 _ _, NU.out.2.2.2.1 _ _, BQ.out, NU.out.2.2.2.2 _ _⟩
  have hs' : ¬ (n : Int) < 8 := by omega
  by_cases ht : 8 < n
  · have ht' : (8 : Int) < n := by omega
    have EF := Lib.hid (show Fm.fieldsP 2 tok s r b = (Fm.nul, 3) by unfold Fm.fieldsP; rw [if_neg (by rw [hbl]; show ¬ (n < 8 ∨ _); omega), if_pos (by rw [hbl]; exact ⟨ht, by omega, by omega⟩)])
    rw [NU0.out] at EF bn bZ
    have ss := store_nul'.out _ _ _ bZ
    have lr := load_all _ _ _ nu NU.out.1 (put_nul'.out _ _ _ bZ)
    have BQ := Lib.hid (Below.setCells (a := w.heap.size + 1) (by omega) (Fm.FC nu).toList 0 _ bW)
    have szn := Fm.FC_size NU.out.1
    clear bZ
    go_wp2
    refine bodyPost_ret (v := .tuple #[.agg (Fm.FC nu), .int .i64 3]) (by simp [results, Try.f41, go_sem, lr]) rfl ?_
    exact ⟨nu, 3, rfl, by rw [EF.out, NU.out.2.1], NU.out.1, NU.out.2.2.1 _ _, NU.out.2.2.2.1 _ _, BQ.out, NU.out.2.2.2.2 _ _⟩
  have ht' : ¬ (8 : Int) < n := by omega
  have NB := Lib.hid (fun W (h : Below w.heap.size w W) => (hb.below h).more h.size)
  have EF0 := Lib.hid (show Fm.fieldsP 2 tok s r b = (Fm.getF 2 tok s r b, Fm.mayP (Fm.getF 2 tok s r b)) by unfold Fm.fieldsP; rw [if_neg (by rw [hbl]; show ¬ (n < 8 ∨ _); omega), if_neg (by rw [hbl]; show ¬ (8 < n ∧ _); omega)])

  have OF := Lib.hid (refof_any19 A n c b W2 (NB.out W2 bW) hy (by omega))
  have cc := (FB.of bF l3).c19
  have ff := bF.free 19
  go_upto_region 27 with (go_at_call 40; (with_reducible refine OF.out.mono ?_); rintro e w' ⟨rfl, rfl⟩)
  obtain ⟨g, hg⟩ : ∃ g, ({ Fm.mk3 2 tok s r with off := Fm.ofL b } : Fm.Fr) = g := ⟨_, rfl⟩
  have LG := Lib.hid (show g.ln by rw [← hg]; exact l3)
  have BG := Lib.hid (show BX (W2.setCell ⟨w.heap.size, 19, none⟩ (.int .u64 (Fm.ofL b : Int))) w.heap.size 31 (Fm.FC g) by rw [← hg]; exact (bF.set 19 _).to (Fm.FC_off l3 _))
  have BZ3 := Lib.hid (show BX (W2.setCell ⟨w.heap.size, 19, none⟩ (.int .u64 (Fm.ofL b : Int))) (w.heap.size + 1) 31 (Fm.FC Fm.nul) from bZ.other (by omega) _)
  have BW3 := Lib.hid (show Below w.heap.size w (W2.setCell ⟨w.heap.size, 19, none⟩ (.int .u64 (Fm.ofL b : Int))) from bW.setCell (p := ⟨w.heap.size, 19, none⟩) (Nat.le_refl _) _)
  have GX := Lib.hid (show g.A = none ∧ g.n = 0 ∧ g.c = 0 ∧ g.xs = [] ∧ g.RA = none ∧ g.m = 0 ∧ g.rs = [] by rw [← hg]; exact ⟨rfl, rfl, rfl, rfl, rfl, rfl, rfl⟩)
  have AT := Lib.hid (show ∀ A2, PlA A2 w g from fun A2 => ⟨fun _ _ _ h => absurd h (by rw [GX.out.2.1]; omega), fun _ _ _ h => absurd h (by rw [GX.out.2.2.2.2.2.1]; omega)⟩)
  have EF := Lib.hid (show (Fm.er g, Fm.may g) = Fm.fieldsP 2 tok s r b by rw [EF0.out, Fm.may_er (by rw [GX.out.2.2.2.1, GX.out.2.1]; rfl) (by rw [GX.out.2.2.2.2.2.2, GX.out.2.2.2.2.2.1]; rfl)]; rw [← hg]; rfl)
  clear hg cc ff c0 bF bZ bW sW
  generalize W2.setCell ⟨w.heap.size, 19, none⟩ (.int .u64 (Fm.ofL b : Int)) = W3 at *
  have RGW := Lib.hid (fun w9 (h : RG w9 W3.drew.heap.size g.RA g.m g.rs) (hb9 : Below W3.drew.heap.size W3.drew w9) => show RG (w9.setCells (w.heap.size + 1) 0 (Fm.FC g).toList) (w9.setCells (w.heap.size + 1) 0 (Fm.FC g).toList).heap.size g.RA g.m g.rs by rw [GX.out.2.2.2.2.1, GX.out.2.2.2.2.2.1, GX.out.2.2.2.2.2.2]; exact rg_nil _ _)
  have RBN := Lib.hid (fun W (h : Below w.heap.size w W) => show RB W W.heap.size g.A g.n g.xs ∧ g.n ≤ g.c ∧ g.c ≤ maxLen ∧ g.n ≤ 500000 by rw [GX.out.1, GX.out.2.1, GX.out.2.2.1, GX.out.2.2.2.1]; first | exact ⟨RBD.out W h, by omega, by unfold maxLen at *; omega, by omega⟩ | exact ⟨RB.nil, Nat.le_refl _, Nat.zero_le _, Nat.zero_le _⟩)

  have sz := Fm.FC_size LG.out
  have LL := Lib.hid (fun W (h : BX W w.heap.size 31 (Fm.FC g)) => load_all _ _ _ g LG.out h)
  have laA := LL.out _ BG.out.drew
  have laB := LL.out _ (BX.puts_other (b := w.heap.size + 1) (by omega) (Fm.FC g).toList 0 _ BG.out.drew)
  have ssA := store_nul _ _ _ BZ3.out.drew g LG.out
  have PB := Lib.hid (put_nul _ _ _ BZ3.out.drew g LG.out)
  have BWd := Lib.hid (Below.setCells (a := w.heap.size + 1) (by omega) (Fm.FC g).toList 0 _ (Below.drew BW3.out))
  have RGA := Lib.hid (show RG W3.drew W3.drew.heap.size g.RA g.m g.rs by rw [GX.out.2.2.2.2.1, GX.out.2.2.2.2.2.1, GX.out.2.2.2.2.2.2]; exact rg_nil _ _)
  have RGB := Lib.hid (show RG (W3.drew.setCells (w.heap.size + 1) 0 (Fm.FC g).toList) (W3.drew.setCells (w.heap.size + 1) 0 (Fm.FC g).toList).heap.size g.RA g.m g.rs by rw [GX.out.2.2.2.2.1, GX.out.2.2.2.2.2.1, GX.out.2.2.2.2.2.2]; exact rg_nil _ _)
  have MA := Lib.hid (refmay_any19 g W3.drew LG.out RGA.out (by rw [GX.out.2.2.2.2.2.1]; omega))
  have MB := Lib.hid (refmay_any19 g (W3.drew.setCells (w.heap.size + 1) 0 (Fm.FC g).toList) LG.out RGB.out (by rw [GX.out.2.2.2.2.2.1]; omega))
  go_region_law (first
    | (go_simp; go_at_call 27; (with_reducible refine MA.out.mono ?_); rintro e w9 ⟨rfl, hb9⟩; have la9 := LL.out _ (BG.out.drew.later hb9); have bz9 := BZ3.out.drew.later hb9; have ss9 := store_nul _ _ _ bz9 g LG.out; have lr9 := load_all _ _ _ g LG.out (put_nul _ _ _ bz9 g LG.out); have BQ := Lib.hid (Below.setCells (a := w.heap.size + 1) (by omega) (Fm.FC g).toList 0 _ (bthen' (Below.drew BW3.out) hb9)); have RQ := Lib.hid (And.intro (RBN.out _ BQ.out) (RGW.out _ (RGA.out.below hb9) hb9)); clear hb9 bz9)
    | (go_simp; go_at_call 27; (with_reducible refine MB.out.mono ?_); rintro e w9 ⟨rfl, hb9⟩; have la9 := LL.out _ ((BX.puts_other (b := w.heap.size + 1) (by omega) (Fm.FC g).toList 0 _ BG.out.drew).later hb9); have lr9 := load_all _ _ _ g LG.out (PB.out.later hb9); have BQ := Lib.hid (bthen' BWd.out hb9); have RQ := Lib.hid (And.intro (RBN.out _ BQ.out) ((RGB.out.below hb9).more hb9.size)); clear hb9))
  all_goals (
    go_wp2
    refine bodyPost_ret (v := .tuple #[.agg (Fm.FC g), .int .i64 (Fm.may g)]) (by simp [results, Try.f41, go_sem, lr9]) rfl ?_
    exact ⟨g, Fm.may g, rfl, by rw [EF.out], LG.out, RQ.out.1, ⟨RQ.out.2, (by rw [GX.out.2.2.2.2.2.1]; omega)⟩, BQ.out, AT.out _⟩)
theorem reffields3 (tok : List Int) (s r : Nat) (A : Option Addr) (n c : Nat) (b : List Int) (w : World) (h16 : tok.length = 16) (hb : RB w w.heap.size A n b) (hy : Byt b) (hn : n ≤ c) (hc : c ≤ maxLen) (hn2 : n ≤ 500000) :
    Calls Try.prog 41 #[.agg (Fm.FC (Fm.mk3 3 tok s r)), .slice A n c] w (FG 3 tok s r A b w) := by
  have l3 : (Fm.mk3 3 tok s r).ln := Fm.mk3_ln h16
  have hbl : b.length = n := hb.1
  have q := fun o => FB.of (((BX.new w 31 (Fm.FC (Fm.mk3 3 tok s r))).alloc (.cells (Fm.FC Fm.nul) 31)).alloc o) l3
  have c0 := fun o => (show World.cell? (((w.alloc (.cells (Fm.FC (Fm.mk3 3 tok s r)) 31)).alloc (.cells (Fm.FC Fm.nul) 31)).alloc o) ⟨w.heap.size, 0, none⟩ = some (.int .i64 3) from (q o).c0)
  have bn := fun W => run_build (P := Try.prog) W 31 #[] _ built_nul
  clear q
  obtain ⟨nu, NU0⟩ : ∃ g, Hid (Fm.nul = g) := ⟨_, rfl⟩
  have NU := nul_facts NU0.out
  have put_nul' : ∀ (h1 : Nat) (W : World) (T : TypeId) (bZ : BX W h1 T (Fm.FC nu)), BX (W.setCells h1 0 (Fm.FC nu).toList) h1 T (Fm.FC nu) := by rw [← NU0.out]; exact fun h1 W T bZ => put_nul h1 W T bZ Fm.nul Fm.nul_ln
  have store_nul' : ∀ (h1 : Nat) (W : World) (T : TypeId) (bZ : BX W h1 T (Fm.FC nu)), (storeCells ⟨h1, 0, none⟩ (Fm.FC nu).toList 0).run Try.prog W = .ok () (W.setCells h1 0 (Fm.FC nu).toList) := by rw [← NU0.out]; exact fun h1 W T bZ => store_nul h1 W T bZ Fm.nul Fm.nul_ln
  replace put_nul' := Lib.hid put_nul'
  replace store_nul' := Lib.hid store_nul'
  unfold FG
  go_enter Try.func41, Try.ntmps41
  go_upto_region 1 with (fail)
  change Code.wp _ _ _ _ ((w.alloc (.cells (Fm.FC (Fm.mk3 3 tok s r)) 31)).alloc (.cells (Fm.FC Fm.nul) 31))
  have bF0 : BX ((w.alloc (.cells (Fm.FC (Fm.mk3 3 tok s r)) 31)).alloc (.cells (Fm.FC Fm.nul) 31)) w.heap.size 31 (Fm.FC (Fm.mk3 3 tok s r)) := (BX.new w _ _).alloc _
  have bZ0 : BX ((w.alloc (.cells (Fm.FC (Fm.mk3 3 tok s r)) 31)).alloc (.cells (Fm.FC Fm.nul) 31)) (w.heap.size + 1) 31 (Fm.FC Fm.nul) := by
    have h := BX.new (w.alloc (.cells (Fm.FC (Fm.mk3 3 tok s r)) 31)) 31 (Fm.FC Fm.nul)
    simpa using h
  have bW0 : Below w.heap.size w ((w.alloc (.cells (Fm.FC (Fm.mk3 3 tok s r)) 31)).alloc (.cells (Fm.FC Fm.nul) 31)) := ((Below.refl _ w).alloc (Nat.le_refl _) _).alloc (by simp) _
  have sW0 : ((w.alloc (.cells (Fm.FC (Fm.mk3 3 tok s r)) 31)).alloc (.cells (Fm.FC Fm.nul) 31)).heap.size = w.heap.size + 2 := by simp
  generalize (w.alloc (.cells (Fm.FC (Fm.mk3 3 tok s r)) 31)).alloc (.cells (Fm.FC Fm.nul) 31) = W1 at *
  go_upto_region 2 with (fail)
  have bF := bF0.alloc (.cells #[.int .i64 40, .int .i64 8, .int .i64 9, .int .i64 8, .int .i64 40, .int .i64 8, .int .i64 1] 3)
  have bZ := bZ0.alloc (.cells #[.int .i64 40, .int .i64 8, .int .i64 9, .int .i64 8, .int .i64 40, .int .i64 8, .int .i64 1] 3)
  have bW := bW0.alloc (by omega) (.cells #[.int .i64 40, .int .i64 8, .int .i64 9, .int .i64 8, .int .i64 40, .int .i64 8, .int .i64 1] 3)
  have sW : (W1.alloc (.cells #[.int .i64 40, .int .i64 8, .int .i64 9, .int .i64 8, .int .i64 40, .int .i64 8, .int .i64 1] 3)).heap.size = w.heap.size + 3 := by simp [sW0]
  clear c0 bF0 bZ0 bW0 sW0
  generalize W1.alloc (.cells #[.int .i64 40, .int .i64 8, .int .i64 9, .int .i64 8, .int .i64 40, .int .i64 8, .int .i64 1] 3) = W2 at *
  have c0 : W2.cell? ⟨w.heap.size, 0, none⟩ = some (.int .i64 3) := (FB.of bF l3).c0
  by_cases hs : n < 9
  · have hs' : (n : Int) < 9 := by omega
    have EF := Lib.hid (show Fm.fieldsP 3 tok s r b = (Fm.nul, 4) by unfold Fm.fieldsP; rw [if_pos (.inl (by rw [hbl]; exact hs))])
    rw [NU0.out] at EF bn bZ
    have ss := store_nul'.out _ _ _ bZ
    have lr := load_all _ _ _ nu NU.out.1 (put_nul'.out _ _ _ bZ)
    have BQ := Lib.hid (Below.setCells (a := w.heap.size + 1) (by omega) (Fm.FC nu).toList 0 _ bW)
    have szn := Fm.FC_size NU.out.1
    clear bZ
    go_wp2
    refine bodyPost_ret (v := .tuple #[.agg (Fm.FC nu), .int .i64 4]) (by simp [results, Try.f41, go_sem, lr]) rfl ?_
    exact ⟨nu, 4, rfl, by rw [EF.out, NU.out.2.1], NU.out.1, NU.out.2.2.1 _ _, NU.out.2.2.2.1 _ _, BQ.out, NU.out.2.2.2.2 _ _⟩
  have hs' : ¬ (n : Int) < 9 := by omega
  have NB := Lib.hid (fun W (h : Below w.heap.size w W) => (hb.below h).more h.size)
  have EF0 := Lib.hid (show Fm.fieldsP 3 tok s r b = (Fm.getF 3 tok s r b, Fm.mayP (Fm.getF 3 tok s r b)) by unfold Fm.fieldsP; rw [if_neg (by rw [hbl]; show ¬ (n < 9 ∨ _); omega), if_neg (by rw [hbl]; show ¬ (9 < n ∧ _); omega)])

  obtain ⟨b1, o1, rfl, hb1, r0⟩ := hb.at0 (by omega)
  obtain ⟨m, rfl⟩ : ∃ m, n = m + 8 := ⟨n - 8, by omega⟩
  obtain ⟨d, rfl⟩ : ∃ d, c = d + 8 := ⟨c - 8, by omega⟩
  have OFW := Lib.hid (fun W (h : Below w.heap.size w W) => refof_any19 (some ⟨b1, o1, none⟩) 8 (d + 8) (b.take 8) W ((NB.out W h).pre (by omega)) (Ck.Byt.take hy 8) (by omega))
  have OF1 := Lib.hid (OFW.out _ bW.drew)
  have OF2 := Lib.hid (OFW.out _ (Below.drew (bW.setCell (p := ⟨w.heap.size, 53, none⟩) (Nat.le_refl _) (.slice (some ⟨b1, o1 + 8, none⟩) m d))))
  have RBD := Lib.hid (fun W (h : Below w.heap.size w W) => show RB W W.heap.size (some ⟨b1, o1 + 8, none⟩) m (b.drop 8) from ⟨by rw [List.length_drop]; omega, fun hm => ⟨b1, o1 + 8, rfl, Nat.lt_of_lt_of_le hb1 h.size, fun j hj => by
    have h1 := ((NB.out W h)).at_' (k := 8 + j) (by omega)
    rw [show o1 + 8 + j = o1 + (8 + j) by omega, h1, List.getD_eq_getElem?_getD, List.getD_eq_getElem?_getD, List.getElem?_drop]⟩⟩)
  have cc := (FB.of bF l3).c19
  have cd := (FB.of bF l3).c53
  have ff := fun j => bF.free j
  have s1 : ((m + 8 : Nat) : Int) - 8 = (m : Int) := by omega
  have d0 : ¬ d = 0 := by omega
  have d8 : ¬ (d + 8 = 8) := by omega
  have d8' : ¬ (8 = d + 8) := by omega
  have g1 : (8 : Int) ≤ (d : Int) + 8 := by omega
  have g2 : (8 : Int) ≤ (m : Int) + 8 := by omega
  have g3 : (m : Int) + 8 ≤ (d : Int) + 8 := by omega
  rcases Nat.lt_or_ge 9 (m + 8) with h9 | h9
  all_goals (
    first | (have h9' : (9 : Int) < (m : Int) + 8 := by omega) | (have h9' : ¬ (9 : Int) < (m : Int) + 8 := by omega)
    go_upto_region 18 with (fail)
    obtain ⟨g, hg⟩ : ∃ g, ({ Fm.mk3 3 tok s r with off := Fm.ofL (b.take 8), A := some ⟨b1, o1 + 8, none⟩, n := m, c := d, xs := b.drop 8 } : Fm.Fr) = g := ⟨_, rfl⟩
    have LG := Lib.hid (show g.ln by rw [← hg]; exact l3)
    have BG := Lib.hid (show BX (((W2.setCell ⟨w.heap.size, 19, none⟩ (.int .u64 (Fm.ofL (b.take 8) : Int))).setCell ⟨w.heap.size, 53, none⟩ (.slice (some ⟨b1, o1 + 8, none⟩) m d)).drew) w.heap.size 31 (Fm.FC g) by rw [← hg]; exact BX.drew (BX.to (BX.set ((bF.set 19 _).to (Fm.FC_off l3 _)) 53 _) (Fm.FC_data (f := { Fm.mk3 3 tok s r with off := Fm.ofL (b.take 8) }) l3 (some ⟨b1, o1 + 8, none⟩) m d (b.drop 8))))
    have BZ3 := Lib.hid (show BX (((W2.setCell ⟨w.heap.size, 19, none⟩ (.int .u64 (Fm.ofL (b.take 8) : Int))).setCell ⟨w.heap.size, 53, none⟩ (.slice (some ⟨b1, o1 + 8, none⟩) m d)).drew) (w.heap.size + 1) 31 (Fm.FC Fm.nul) from BX.drew (BX.other (BX.other bZ (by omega) _) (by omega) _))
    have BW3 := Lib.hid (show Below w.heap.size w (((W2.setCell ⟨w.heap.size, 19, none⟩ (.int .u64 (Fm.ofL (b.take 8) : Int))).setCell ⟨w.heap.size, 53, none⟩ (.slice (some ⟨b1, o1 + 8, none⟩) m d)).drew) from Below.drew (Below.setCell (bW.setCell (p := ⟨w.heap.size, 19, none⟩) (Nat.le_refl _) _) (p := ⟨w.heap.size, 53, none⟩) (Nat.le_refl _) _))
    have GX := Lib.hid (show g.A = some ⟨b1, o1 + 8, none⟩ ∧ g.n = m ∧ g.c = d ∧ g.xs = b.drop 8 ∧ g.RA = none ∧ g.m = 0 ∧ g.rs = [] by rw [← hg]; exact ⟨rfl, rfl, rfl, rfl, rfl, rfl, rfl⟩)
    have AT := Lib.hid (show ∀ (_ : Unit), PlA (some ⟨b1, o1, none⟩) w g from fun _ => ⟨fun b o h _ => ⟨o1, by rw [GX.out.1] at h; cases h; rfl⟩, fun _ _ _ h => absurd h (by rw [GX.out.2.2.2.2.2.1]; omega)⟩)
    have EF := Lib.hid (show (Fm.er g, Fm.may g) = Fm.fieldsP 3 tok s r b by rw [EF0.out, Fm.may_er (by rw [GX.out.2.2.2.1, GX.out.2.1, List.length_drop]; omega) (by rw [GX.out.2.2.2.2.2.2, GX.out.2.2.2.2.2.1]; rfl)]; rw [← hg]; rfl)
    clear hg c0 r0
    go_region_law (first
      | (go_simp; go_at_call 40; (with_reducible refine OF1.out.mono ?_); rintro e w' ⟨rfl, rfl⟩)
      | (go_simp; go_at_call 40; (with_reducible refine OF2.out.mono ?_); rintro e w' ⟨rfl, rfl⟩))
    all_goals (
      go_upto_region 27 with (fail)
      generalize ((W2.setCell ⟨w.heap.size, 19, none⟩ (.int .u64 (Fm.ofL (b.take 8) : Int))).setCell ⟨w.heap.size, 53, none⟩ (.slice (some ⟨b1, o1 + 8, none⟩) m d)).drew = W3 at *
      have RGW := Lib.hid (fun w9 (h : RG w9 W3.drew.heap.size g.RA g.m g.rs) (hb9 : Below W3.drew.heap.size W3.drew w9) => show RG (w9.setCells (w.heap.size + 1) 0 (Fm.FC g).toList) (w9.setCells (w.heap.size + 1) 0 (Fm.FC g).toList).heap.size g.RA g.m g.rs by rw [GX.out.2.2.2.2.1, GX.out.2.2.2.2.2.1, GX.out.2.2.2.2.2.2]; exact rg_nil _ _)
      have RBN := Lib.hid (fun W (h : Below w.heap.size w W) => show RB W W.heap.size g.A g.n g.xs ∧ g.n ≤ g.c ∧ g.c ≤ maxLen ∧ g.n ≤ 500000 by rw [GX.out.1, GX.out.2.1, GX.out.2.2.1, GX.out.2.2.2.1]; first | exact ⟨RBD.out W h, by omega, by unfold maxLen at *; omega, by omega⟩ | exact ⟨RB.nil, Nat.le_refl _, Nat.zero_le _, Nat.zero_le _⟩)

      have sz := Fm.FC_size LG.out
      have LL := Lib.hid (fun W (h : BX W w.heap.size 31 (Fm.FC g)) => load_all _ _ _ g LG.out h)
      have laA := LL.out _ BG.out.drew
      have laB := LL.out _ (BX.puts_other (b := w.heap.size + 1) (by omega) (Fm.FC g).toList 0 _ BG.out.drew)
      have ssA := store_nul _ _ _ BZ3.out.drew g LG.out
      have PB := Lib.hid (put_nul _ _ _ BZ3.out.drew g LG.out)
      have BWd := Lib.hid (Below.setCells (a := w.heap.size + 1) (by omega) (Fm.FC g).toList 0 _ (Below.drew BW3.out))
      have RGA := Lib.hid (show RG W3.drew W3.drew.heap.size g.RA g.m g.rs by rw [GX.out.2.2.2.2.1, GX.out.2.2.2.2.2.1, GX.out.2.2.2.2.2.2]; exact rg_nil _ _)
      have RGB := Lib.hid (show RG (W3.drew.setCells (w.heap.size + 1) 0 (Fm.FC g).toList) (W3.drew.setCells (w.heap.size + 1) 0 (Fm.FC g).toList).heap.size g.RA g.m g.rs by rw [GX.out.2.2.2.2.1, GX.out.2.2.2.2.2.1, GX.out.2.2.2.2.2.2]; exact rg_nil _ _)
      have MA := Lib.hid (refmay_any19 g W3.drew LG.out RGA.out (by rw [GX.out.2.2.2.2.2.1]; omega))
      have MB := Lib.hid (refmay_any19 g (W3.drew.setCells (w.heap.size + 1) 0 (Fm.FC g).toList) LG.out RGB.out (by rw [GX.out.2.2.2.2.2.1]; omega))
      go_region_law (first
        | (go_simp; go_at_call 27; (with_reducible refine MA.out.mono ?_); rintro e w9 ⟨rfl, hb9⟩; have la9 := LL.out _ (BG.out.drew.later hb9); have bz9 := BZ3.out.drew.later hb9; have ss9 := store_nul _ _ _ bz9 g LG.out; have lr9 := load_all _ _ _ g LG.out (put_nul _ _ _ bz9 g LG.out); have BQ := Lib.hid (Below.setCells (a := w.heap.size + 1) (by omega) (Fm.FC g).toList 0 _ (bthen' (Below.drew BW3.out) hb9)); have RQ := Lib.hid (And.intro (RBN.out _ BQ.out) (RGW.out _ (RGA.out.below hb9) hb9)); clear hb9 bz9)
        | (go_simp; go_at_call 27; (with_reducible refine MB.out.mono ?_); rintro e w9 ⟨rfl, hb9⟩; have la9 := LL.out _ ((BX.puts_other (b := w.heap.size + 1) (by omega) (Fm.FC g).toList 0 _ BG.out.drew).later hb9); have lr9 := load_all _ _ _ g LG.out (PB.out.later hb9); have BQ := Lib.hid (bthen' BWd.out hb9); have RQ := Lib.hid (And.intro (RBN.out _ BQ.out) ((RGB.out.below hb9).more hb9.size)); clear hb9))
      all_goals (
        go_wp2
        refine bodyPost_ret (v := .tuple #[.agg (Fm.FC g), .int .i64 (Fm.may g)]) (by simp [results, Try.f41, go_sem, lr9]) rfl ?_
        exact ⟨g, Fm.may g, rfl, by rw [EF.out], LG.out, RQ.out.1, ⟨RQ.out.2, (by rw [GX.out.2.2.2.2.2.1]; omega)⟩, BQ.out, AT.out ()⟩)))
theorem reffields5 (tok : List Int) (s r : Nat) (A : Option Addr) (n c : Nat) (b : List Int) (w : World) (h16 : tok.length = 16) (hb : RB w w.heap.size A n b) (hy : Byt b) (hn : n ≤ c) (hc : c ≤ maxLen) (hn2 : n ≤ 500000) :
    Calls Try.prog 41 #[.agg (Fm.FC (Fm.mk3 5 tok s r)), .slice A n c] w (FG 5 tok s r A b w) := by
  have l3 : (Fm.mk3 5 tok s r).ln := Fm.mk3_ln h16
  have hbl : b.length = n := hb.1
  have q := fun o => FB.of (((BX.new w 31 (Fm.FC (Fm.mk3 5 tok s r))).alloc (.cells (Fm.FC Fm.nul) 31)).alloc o) l3
  have c0 := fun o => (show World.cell? (((w.alloc (.cells (Fm.FC (Fm.mk3 5 tok s r)) 31)).alloc (.cells (Fm.FC Fm.nul) 31)).alloc o) ⟨w.heap.size, 0, none⟩ = some (.int .i64 5) from (q o).c0)
  have bn := fun W => run_build (P := Try.prog) W 31 #[] _ built_nul
  clear q
  obtain ⟨nu, NU0⟩ : ∃ g, Hid (Fm.nul = g) := ⟨_, rfl⟩
  have NU := nul_facts NU0.out
  have put_nul' : ∀ (h1 : Nat) (W : World) (T : TypeId) (bZ : BX W h1 T (Fm.FC nu)), BX (W.setCells h1 0 (Fm.FC nu).toList) h1 T (Fm.FC nu) := by rw [← NU0.out]; exact fun h1 W T bZ => put_nul h1 W T bZ Fm.nul Fm.nul_ln
  have store_nul' : ∀ (h1 : Nat) (W : World) (T : TypeId) (bZ : BX W h1 T (Fm.FC nu)), (storeCells ⟨h1, 0, none⟩ (Fm.FC nu).toList 0).run Try.prog W = .ok () (W.setCells h1 0 (Fm.FC nu).toList) := by rw [← NU0.out]; exact fun h1 W T bZ => store_nul h1 W T bZ Fm.nul Fm.nul_ln
  replace put_nul' := Lib.hid put_nul'
  replace store_nul' := Lib.hid store_nul'
  unfold FG
  go_enter Try.func41, Try.ntmps41
  go_upto_region 1 with (fail)
  change Code.wp _ _ _ _ ((w.alloc (.cells (Fm.FC (Fm.mk3 5 tok s r)) 31)).alloc (.cells (Fm.FC Fm.nul) 31))
  have bF0 : BX ((w.alloc (.cells (Fm.FC (Fm.mk3 5 tok s r)) 31)).alloc (.cells (Fm.FC Fm.nul) 31)) w.heap.size 31 (Fm.FC (Fm.mk3 5 tok s r)) := (BX.new w _ _).alloc _
  have bZ0 : BX ((w.alloc (.cells (Fm.FC (Fm.mk3 5 tok s r)) 31)).alloc (.cells (Fm.FC Fm.nul) 31)) (w.heap.size + 1) 31 (Fm.FC Fm.nul) := by
    have h := BX.new (w.alloc (.cells (Fm.FC (Fm.mk3 5 tok s r)) 31)) 31 (Fm.FC Fm.nul)
    simpa using h
  have bW0 : Below w.heap.size w ((w.alloc (.cells (Fm.FC (Fm.mk3 5 tok s r)) 31)).alloc (.cells (Fm.FC Fm.nul) 31)) := ((Below.refl _ w).alloc (Nat.le_refl _) _).alloc (by simp) _
  have sW0 : ((w.alloc (.cells (Fm.FC (Fm.mk3 5 tok s r)) 31)).alloc (.cells (Fm.FC Fm.nul) 31)).heap.size = w.heap.size + 2 := by simp
  generalize (w.alloc (.cells (Fm.FC (Fm.mk3 5 tok s r)) 31)).alloc (.cells (Fm.FC Fm.nul) 31) = W1 at *
  go_upto_region 2 with (fail)
  have bF := bF0.alloc (.cells #[.int .i64 40, .int .i64 8, .int .i64 9, .int .i64 8, .int .i64 40, .int .i64 8, .int .i64 1] 3)
  have bZ := bZ0.alloc (.cells #[.int .i64 40, .int .i64 8, .int .i64 9, .int .i64 8, .int .i64 40, .int .i64 8, .int .i64 1] 3)
  have bW := bW0.alloc (by omega) (.cells #[.int .i64 40, .int .i64 8, .int .i64 9, .int .i64 8, .int .i64 40, .int .i64 8, .int .i64 1] 3)
  have sW : (W1.alloc (.cells #[.int .i64 40, .int .i64 8, .int .i64 9, .int .i64 8, .int .i64 40, .int .i64 8, .int .i64 1] 3)).heap.size = w.heap.size + 3 := by simp [sW0]
  clear c0 bF0 bZ0 bW0 sW0
  generalize W1.alloc (.cells #[.int .i64 40, .int .i64 8, .int .i64 9, .int .i64 8, .int .i64 40, .int .i64 8, .int .i64 1] 3) = W2 at *
  have c0 : W2.cell? ⟨w.heap.size, 0, none⟩ = some (.int .i64 5) := (FB.of bF l3).c0
  by_cases hs : n < 40
  · have hs' : (n : Int) < 40 := by omega
    have EF := Lib.hid (show Fm.fieldsP 5 tok s r b = (Fm.nul, 4) by unfold Fm.fieldsP; rw [if_pos (.inl (by rw [hbl]; exact hs))])
    rw [NU0.out] at EF bn bZ
    have ss := store_nul'.out _ _ _ bZ
    have lr := load_all _ _ _ nu NU.out.1 (put_nul'.out _ _ _ bZ)
    have BQ := Lib.hid (Below.setCells (a := w.heap.size + 1) (by omega) (Fm.FC nu).toList 0 _ bW)
    have szn := Fm.FC_size NU.out.1
    clear bZ
    go_wp2
    refine bodyPost_ret (v := .tuple #[.agg (Fm.FC nu), .int .i64 4]) (by simp [results, Try.f41, go_sem, lr]) rfl ?_
    exact ⟨nu, 4, rfl, by rw [EF.out, NU.out.2.1], NU.out.1, NU.out.2.2.1 _ _, NU.out.2.2.2.1 _ _, BQ.out, NU.out.2.2.2.2 _ _⟩
  have hs' : ¬ (n : Int) < 40 := by omega
  by_cases ht : 40 < n
  · have ht' : (40 : Int) < n := by omega
    have EF := Lib.hid (show Fm.fieldsP 5 tok s r b = (Fm.nul, 3) by unfold Fm.fieldsP; rw [if_neg (by rw [hbl]; show ¬ (n < 40 ∨ _); omega), if_pos (by rw [hbl]; exact ⟨ht, by omega, by omega⟩)])
    rw [NU0.out] at EF bn bZ
    have ss := store_nul'.out _ _ _ bZ
    have lr := load_all _ _ _ nu NU.out.1 (put_nul'.out _ _ _ bZ)
    have BQ := Lib.hid (Below.setCells (a := w.heap.size + 1) (by omega) (Fm.FC nu).toList 0 _ bW)
    have szn := Fm.FC_size NU.out.1
    clear bZ
    go_wp2
    refine bodyPost_ret (v := .tuple #[.agg (Fm.FC nu), .int .i64 3]) (by simp [results, Try.f41, go_sem, lr]) rfl ?_
    exact ⟨nu, 3, rfl, by rw [EF.out, NU.out.2.1], NU.out.1, NU.out.2.2.1 _ _, NU.out.2.2.2.1 _ _, BQ.out, NU.out.2.2.2.2 _ _⟩
  have ht' : ¬ (40 : Int) < n := by omega
  have NB := Lib.hid (fun W (h : Below w.heap.size w W) => (hb.below h).more h.size)
  have EF0 := Lib.hid (show Fm.fieldsP 5 tok s r b = (Fm.getF 5 tok s r b, Fm.mayP (Fm.getF 5 tok s r b)) by unfold Fm.fieldsP; rw [if_neg (by rw [hbl]; show ¬ (n < 40 ∨ _); omega), if_neg (by rw [hbl]; show ¬ (40 < n ∧ _); omega)])

  obtain ⟨b1, o1, rfl, hb1, r0⟩ := hb.at0 (by omega)
  obtain rfl : n = 40 := by omega
  have OF := Lib.hid (refof_any19 (some ⟨b1, o1, none⟩) 8 c (b.take 8) W2 ((NB.out W2 bW).pre (by omega)) (Ck.Byt.take hy 8) (by omega))
  have cc := (FB.of bF l3).c20
  have ff := bF.free 20
  go_wp2_with (go_at_call 40; (with_reducible refine OF.out.mono ?_); rintro e w' ⟨rfl, rfl⟩)
  obtain ⟨q8, hq8⟩ : ∃ q, Fm.ofL (b.take 8) = q := ⟨_, rfl⟩
  have HQ8 := Lib.hid hq8
  rw [hq8]
  clear hq8 OF cc ff c0
  go_loopw [7] (fun i W => ∃ j : Nat, j ≤ 32 ∧ i = .int .i64 j ∧ Hid (BX W w.heap.size 31 (Fm.FC { Fm.mk3 5 tok s r with tot := q8, sum := Fm.part8 (b.drop 8) j })) ∧ Hid (BX W (w.heap.size + 1) 31 (Fm.FC Fm.nul)) ∧ Hid (Below w.heap.size w W)) (fun i _ => 32 - (intOf i).toNat)
  case atStart => exact ⟨0, by omega, rfl, (bF.set 20 _).to (Fm.FC_tot l3 _), bZ.other (by omega) _, bW.setCell (p := ⟨w.heap.size, 20, none⟩) (Nat.le_refl _) _⟩
  case round =>
    obtain ⟨j, hj, rfl, BG, BZ3, BW3⟩ := hrel
    clear bF bZ bW sW
    have lg : Fm.Fr.ln { Fm.mk3 5 tok s r with tot := q8, sum := Fm.part8 (b.drop 8) j } := ⟨h16, Fm.part8_len (by rw [List.length_drop]; omega) hj⟩
    by_cases hlt : j < 32
    · have hlt' : (j : Int) < 32 := by omega
      have rj : wr.cell? ⟨b1, o1 + (8 + j), none⟩ = some (.int .u8 (b.getD (8 + j) 0)) := (NB.out wr BW3.out).at_' (by omega)
      have cj : wr.cell? ⟨w.heap.size, 21 + j, none⟩ = some (.int .u8 ((Fm.part8 (b.drop 8) j).getD j 0)) := BG.out.cell (by rw [Fm.FC_sum lg hlt, List.getElem?_map, List.getElem?_eq_getElem (by rw [lg.2]; exact hlt)]; simp [Fm.ub, List.getD_eq_getElem?_getD, List.getElem?_eq_getElem (show j < (Fm.part8 (b.drop 8) j).length by rw [lg.2]; exact hlt)])
      have fj := BG.out.free (21 + j)
      have HJ := Lib.hid (show (Fm.part8 (b.drop 8) j).set j (b.getD (8 + j) 0) = Fm.part8 (b.drop 8) (j + 1) from Fm.part8_set (by rw [List.length_drop]; omega) hlt)
      generalize b.getD (8 + j) 0 = x at *
      go_wp2
      go_roundw
      case rel => exact ⟨j + 1, by omega, by go_num, by rw [← HJ.out]; exact (BG.out.set (21 + j) _).to (Fm.FC_sum1 lg j hlt x), BZ3.out.other (by omega) _, BW3.out.setCell (p := ⟨w.heap.size, 21 + j, none⟩) (Nat.le_refl _) _⟩
      case measure => simp [intOf]; omega
    · obtain rfl : j = 32 := by omega
      have hp : Fm.part8 (b.drop 8) 32 = (b.drop 8).take 32 := by simp [Fm.part8]
      rw [hp] at BG lg
      obtain ⟨g, hg⟩ : ∃ g, ({ Fm.mk3 5 tok s r with tot := q8, sum := (b.drop 8).take 32 } : Fm.Fr) = g := ⟨_, rfl⟩
      have LG := Lib.hid (show g.ln by rw [← hg]; exact lg)
      rw [hg] at BG
      have GX := Lib.hid (show g.A = none ∧ g.n = 0 ∧ g.c = 0 ∧ g.xs = [] ∧ g.RA = none ∧ g.m = 0 ∧ g.rs = [] by rw [← hg]; exact ⟨rfl, rfl, rfl, rfl, rfl, rfl, rfl⟩)
      have AT := Lib.hid (show ∀ A2, PlA A2 w g from fun A2 => ⟨fun _ _ _ h => absurd h (by rw [GX.out.2.1]; omega), fun _ _ _ h => absurd h (by rw [GX.out.2.2.2.2.2.1]; omega)⟩)
      have EF := Lib.hid (show (Fm.er g, Fm.may g) = Fm.fieldsP 5 tok s r b by rw [EF0.out, Fm.may_er (by rw [GX.out.2.2.2.1, GX.out.2.1]; rfl) (by rw [GX.out.2.2.2.2.2.2, GX.out.2.2.2.2.2.1]; rfl)]; rw [← hg, ← HQ8.out]; rfl)
      clear hg hp lg
      go_upto_region 27 with (fail)
      generalize wr = W3 at *
      have RGW := Lib.hid (fun w9 (h : RG w9 W3.drew.heap.size g.RA g.m g.rs) (hb9 : Below W3.drew.heap.size W3.drew w9) => show RG (w9.setCells (w.heap.size + 1) 0 (Fm.FC g).toList) (w9.setCells (w.heap.size + 1) 0 (Fm.FC g).toList).heap.size g.RA g.m g.rs by rw [GX.out.2.2.2.2.1, GX.out.2.2.2.2.2.1, GX.out.2.2.2.2.2.2]; exact rg_nil _ _)
      have RBN := Lib.hid (fun W (h : Below w.heap.size w W) => show RB W W.heap.size g.A g.n g.xs ∧ g.n ≤ g.c ∧ g.c ≤ maxLen ∧ g.n ≤ 500000 by rw [GX.out.1, GX.out.2.1, GX.out.2.2.1, GX.out.2.2.2.1]; first | exact ⟨RBD.out W h, by omega, by unfold maxLen at *; omega, by omega⟩ | exact ⟨RB.nil, Nat.le_refl _, Nat.zero_le _, Nat.zero_le _⟩)

      have sz := Fm.FC_size LG.out
      have LL := Lib.hid (fun W (h : BX W w.heap.size 31 (Fm.FC g)) => load_all _ _ _ g LG.out h)
      have laA := LL.out _ BG.out.drew
      have laB := LL.out _ (BX.puts_other (b := w.heap.size + 1) (by omega) (Fm.FC g).toList 0 _ BG.out.drew)
      have ssA := store_nul _ _ _ BZ3.out.drew g LG.out
      have PB := Lib.hid (put_nul _ _ _ BZ3.out.drew g LG.out)
      have BWd := Lib.hid (Below.setCells (a := w.heap.size + 1) (by omega) (Fm.FC g).toList 0 _ (Below.drew BW3.out))
      have RGA := Lib.hid (show RG W3.drew W3.drew.heap.size g.RA g.m g.rs by rw [GX.out.2.2.2.2.1, GX.out.2.2.2.2.2.1, GX.out.2.2.2.2.2.2]; exact rg_nil _ _)
      have RGB := Lib.hid (show RG (W3.drew.setCells (w.heap.size + 1) 0 (Fm.FC g).toList) (W3.drew.setCells (w.heap.size + 1) 0 (Fm.FC g).toList).heap.size g.RA g.m g.rs by rw [GX.out.2.2.2.2.1, GX.out.2.2.2.2.2.1, GX.out.2.2.2.2.2.2]; exact rg_nil _ _)
      have MA := Lib.hid (refmay_any19 g W3.drew LG.out RGA.out (by rw [GX.out.2.2.2.2.2.1]; omega))
      have MB := Lib.hid (refmay_any19 g (W3.drew.setCells (w.heap.size + 1) 0 (Fm.FC g).toList) LG.out RGB.out (by rw [GX.out.2.2.2.2.2.1]; omega))
      go_region_law (first
        | (go_simp; go_at_call 27; (with_reducible refine MA.out.mono ?_); rintro e w9 ⟨rfl, hb9⟩; have la9 := LL.out _ (BG.out.drew.later hb9); have bz9 := BZ3.out.drew.later hb9; have ss9 := store_nul _ _ _ bz9 g LG.out; have lr9 := load_all _ _ _ g LG.out (put_nul _ _ _ bz9 g LG.out); have BQ := Lib.hid (Below.setCells (a := w.heap.size + 1) (by omega) (Fm.FC g).toList 0 _ (bthen' (Below.drew BW3.out) hb9)); have RQ := Lib.hid (And.intro (RBN.out _ BQ.out) (RGW.out _ (RGA.out.below hb9) hb9)); clear hb9 bz9)
        | (go_simp; go_at_call 27; (with_reducible refine MB.out.mono ?_); rintro e w9 ⟨rfl, hb9⟩; have la9 := LL.out _ ((BX.puts_other (b := w.heap.size + 1) (by omega) (Fm.FC g).toList 0 _ BG.out.drew).later hb9); have lr9 := load_all _ _ _ g LG.out (PB.out.later hb9); have BQ := Lib.hid (bthen' BWd.out hb9); have RQ := Lib.hid (And.intro (RBN.out _ BQ.out) ((RGB.out.below hb9).more hb9.size)); clear hb9))
      all_goals (
        go_wp2
        refine bodyPost_ret (v := .tuple #[.agg (Fm.FC g), .int .i64 (Fm.may g)]) (by simp [results, Try.f41, go_sem, lr9]) rfl ?_
        exact ⟨g, Fm.may g, rfl, by rw [EF.out], LG.out, RQ.out.1, ⟨RQ.out.2, (by rw [GX.out.2.2.2.2.2.1]; omega)⟩, BQ.out, AT.out _⟩)
theorem reffields6 (tok : List Int) (s r : Nat) (A : Option Addr) (n c : Nat) (b : List Int) (w : World) (h16 : tok.length = 16) (hb : RB w w.heap.size A n b) (hy : Byt b) (hn : n ≤ c) (hc : c ≤ maxLen) (hn2 : n ≤ 500000) :
    Calls Try.prog 41 #[.agg (Fm.FC (Fm.mk3 6 tok s r)), .slice A n c] w (FG 6 tok s r A b w) := by
  have l3 : (Fm.mk3 6 tok s r).ln := Fm.mk3_ln h16
  have hbl : b.length = n := hb.1
  have q := fun o => FB.of (((BX.new w 31 (Fm.FC (Fm.mk3 6 tok s r))).alloc (.cells (Fm.FC Fm.nul) 31)).alloc o) l3
  have c0 := fun o => (show World.cell? (((w.alloc (.cells (Fm.FC (Fm.mk3 6 tok s r)) 31)).alloc (.cells (Fm.FC Fm.nul) 31)).alloc o) ⟨w.heap.size, 0, none⟩ = some (.int .i64 6) from (q o).c0)
  have bn := fun W => run_build (P := Try.prog) W 31 #[] _ built_nul
  clear q
  obtain ⟨nu, NU0⟩ : ∃ g, Hid (Fm.nul = g) := ⟨_, rfl⟩
  have NU := nul_facts NU0.out
  have put_nul' : ∀ (h1 : Nat) (W : World) (T : TypeId) (bZ : BX W h1 T (Fm.FC nu)), BX (W.setCells h1 0 (Fm.FC nu).toList) h1 T (Fm.FC nu) := by rw [← NU0.out]; exact fun h1 W T bZ => put_nul h1 W T bZ Fm.nul Fm.nul_ln
  have store_nul' : ∀ (h1 : Nat) (W : World) (T : TypeId) (bZ : BX W h1 T (Fm.FC nu)), (storeCells ⟨h1, 0, none⟩ (Fm.FC nu).toList 0).run Try.prog W = .ok () (W.setCells h1 0 (Fm.FC nu).toList) := by rw [← NU0.out]; exact fun h1 W T bZ => store_nul h1 W T bZ Fm.nul Fm.nul_ln
  replace put_nul' := Lib.hid put_nul'
  replace store_nul' := Lib.hid store_nul'
  unfold FG
  go_enter Try.func41, Try.ntmps41
  go_upto_region 1 with (fail)
  change Code.wp _ _ _ _ ((w.alloc (.cells (Fm.FC (Fm.mk3 6 tok s r)) 31)).alloc (.cells (Fm.FC Fm.nul) 31))
  have bF0 : BX ((w.alloc (.cells (Fm.FC (Fm.mk3 6 tok s r)) 31)).alloc (.cells (Fm.FC Fm.nul) 31)) w.heap.size 31 (Fm.FC (Fm.mk3 6 tok s r)) := (BX.new w _ _).alloc _
  have bZ0 : BX ((w.alloc (.cells (Fm.FC (Fm.mk3 6 tok s r)) 31)).alloc (.cells (Fm.FC Fm.nul) 31)) (w.heap.size + 1) 31 (Fm.FC Fm.nul) := by
    have h := BX.new (w.alloc (.cells (Fm.FC (Fm.mk3 6 tok s r)) 31)) 31 (Fm.FC Fm.nul)
    simpa using h
  have bW0 : Below w.heap.size w ((w.alloc (.cells (Fm.FC (Fm.mk3 6 tok s r)) 31)).alloc (.cells (Fm.FC Fm.nul) 31)) := ((Below.refl _ w).alloc (Nat.le_refl _) _).alloc (by simp) _
  have sW0 : ((w.alloc (.cells (Fm.FC (Fm.mk3 6 tok s r)) 31)).alloc (.cells (Fm.FC Fm.nul) 31)).heap.size = w.heap.size + 2 := by simp
  generalize (w.alloc (.cells (Fm.FC (Fm.mk3 6 tok s r)) 31)).alloc (.cells (Fm.FC Fm.nul) 31) = W1 at *
  go_upto_region 2 with (fail)
  have bF := bF0.alloc (.cells #[.int .i64 40, .int .i64 8, .int .i64 9, .int .i64 8, .int .i64 40, .int .i64 8, .int .i64 1] 3)
  have bZ := bZ0.alloc (.cells #[.int .i64 40, .int .i64 8, .int .i64 9, .int .i64 8, .int .i64 40, .int .i64 8, .int .i64 1] 3)
  have bW := bW0.alloc (by omega) (.cells #[.int .i64 40, .int .i64 8, .int .i64 9, .int .i64 8, .int .i64 40, .int .i64 8, .int .i64 1] 3)
  have sW : (W1.alloc (.cells #[.int .i64 40, .int .i64 8, .int .i64 9, .int .i64 8, .int .i64 40, .int .i64 8, .int .i64 1] 3)).heap.size = w.heap.size + 3 := by simp [sW0]
  clear c0 bF0 bZ0 bW0 sW0
  generalize W1.alloc (.cells #[.int .i64 40, .int .i64 8, .int .i64 9, .int .i64 8, .int .i64 40, .int .i64 8, .int .i64 1] 3) = W2 at *
  have c0 : W2.cell? ⟨w.heap.size, 0, none⟩ = some (.int .i64 6) := (FB.of bF l3).c0
  by_cases hs : n < 8
  · have hs' : (n : Int) < 8 := by omega
    have EF := Lib.hid (show Fm.fieldsP 6 tok s r b = (Fm.nul, 4) by unfold Fm.fieldsP; rw [if_pos (.inl (by rw [hbl]; exact hs))])
    rw [NU0.out] at EF bn bZ
    have ss := store_nul'.out _ _ _ bZ
    have lr := load_all _ _ _ nu NU.out.1 (put_nul'.out _ _ _ bZ)
    have BQ := Lib.hid (Below.setCells (a := w.heap.size + 1) (by omega) (Fm.FC nu).toList 0 _ bW)
    have szn := Fm.FC_size NU.out.1
    clear bZ
    go_wp2
    refine bodyPost_ret (v := .tuple #[.agg (Fm.FC nu), .int .i64 4]) (by simp [results, Try.f41, go_sem, lr]) rfl ?_
    exact ⟨nu, 4, rfl, by rw [EF.out, NU.out.2.1], NU.out.1, NU.out.2.2.1 _ _, NU.out.2.2.2.1 _ _, BQ.out, NU.out.2.2.2.2 _ _⟩
  have hs' : ¬ (n : Int) < 8 := by omega
  by_cases ht : 8 < n
  · have ht' : (8 : Int) < n := by omega
    have EF := Lib.hid (show Fm.fieldsP 6 tok s r b = (Fm.nul, 3) by unfold Fm.fieldsP; rw [if_neg (by rw [hbl]; show ¬ (n < 8 ∨ _); omega), if_pos (by rw [hbl]; exact ⟨ht, by omega, by omega⟩)])
    rw [NU0.out] at EF bn bZ
    have ss := store_nul'.out _ _ _ bZ
    have lr := load_all _ _ _ nu NU.out.1 (put_nul'.out _ _ _ bZ)
    have BQ := Lib.hid (Below.setCells (a := w.heap.size + 1) (by omega) (Fm.FC nu).toList 0 _ bW)
    have szn := Fm.FC_size NU.out.1
    clear bZ
    go_wp2
    refine bodyPost_ret (v := .tuple #[.agg (Fm.FC nu), .int .i64 3]) (by simp [results, Try.f41, go_sem, lr]) rfl ?_
    exact ⟨nu, 3, rfl, by rw [EF.out, NU.out.2.1], NU.out.1, NU.out.2.2.1 _ _, NU.out.2.2.2.1 _ _, BQ.out, NU.out.2.2.2.2 _ _⟩
  have ht' : ¬ (8 : Int) < n := by omega
  have NB := Lib.hid (fun W (h : Below w.heap.size w W) => (hb.below h).more h.size)
  have EF0 := Lib.hid (show Fm.fieldsP 6 tok s r b = (Fm.getF 6 tok s r b, Fm.mayP (Fm.getF 6 tok s r b)) by unfold Fm.fieldsP; rw [if_neg (by rw [hbl]; show ¬ (n < 8 ∨ _); omega), if_neg (by rw [hbl]; show ¬ (8 < n ∧ _); omega)])

  have OF := Lib.hid (refof_any19 A n c b W2 (NB.out W2 bW) hy (by omega))
  have cc := (FB.of bF l3).c20
  have ff := bF.free 20
  go_upto_region 27 with (go_at_call 40; (with_reducible refine OF.out.mono ?_); rintro e w' ⟨rfl, rfl⟩)
  obtain ⟨g, hg⟩ : ∃ g, ({ Fm.mk3 6 tok s r with tot := Fm.ofL b } : Fm.Fr) = g := ⟨_, rfl⟩
  have LG := Lib.hid (show g.ln by rw [← hg]; exact l3)
  have BG := Lib.hid (show BX (W2.setCell ⟨w.heap.size, 20, none⟩ (.int .u64 (Fm.ofL b : Int))) w.heap.size 31 (Fm.FC g) by rw [← hg]; exact (bF.set 20 _).to (Fm.FC_tot l3 _))
  have BZ3 := Lib.hid (show BX (W2.setCell ⟨w.heap.size, 20, none⟩ (.int .u64 (Fm.ofL b : Int))) (w.heap.size + 1) 31 (Fm.FC Fm.nul) from bZ.other (by omega) _)
  have BW3 := Lib.hid (show Below w.heap.size w (W2.setCell ⟨w.heap.size, 20, none⟩ (.int .u64 (Fm.ofL b : Int))) from bW.setCell (p := ⟨w.heap.size, 20, none⟩) (Nat.le_refl _) _)
  have GX := Lib.hid (show g.A = none ∧ g.n = 0 ∧ g.c = 0 ∧ g.xs = [] ∧ g.RA = none ∧ g.m = 0 ∧ g.rs = [] by rw [← hg]; exact ⟨rfl, rfl, rfl, rfl, rfl, rfl, rfl⟩)
  have AT := Lib.hid (show ∀ A2, PlA A2 w g from fun A2 => ⟨fun _ _ _ h => absurd h (by rw [GX.out.2.1]; omega), fun _ _ _ h => absurd h (by rw [GX.out.2.2.2.2.2.1]; omega)⟩)
  have EF := Lib.hid (show (Fm.er g, Fm.may g) = Fm.fieldsP 6 tok s r b by rw [EF0.out, Fm.may_er (by rw [GX.out.2.2.2.1, GX.out.2.1]; rfl) (by rw [GX.out.2.2.2.2.2.2, GX.out.2.2.2.2.2.1]; rfl)]; rw [← hg]; rfl)
  clear hg cc ff c0 bF bZ bW sW
  generalize W2.setCell ⟨w.heap.size, 20, none⟩ (.int .u64 (Fm.ofL b : Int)) = W3 at *
  have RGW := Lib.hid (fun w9 (h : RG w9 W3.drew.heap.size g.RA g.m g.rs) (hb9 : Below W3.drew.heap.size W3.drew w9) => show RG (w9.setCells (w.heap.size + 1) 0 (Fm.FC g).toList) (w9.setCells (w.heap.size + 1) 0 (Fm.FC g).toList).heap.size g.RA g.m g.rs by rw [GX.out.2.2.2.2.1, GX.out.2.2.2.2.2.1, GX.out.2.2.2.2.2.2]; exact rg_nil _ _)
  have RBN := Lib.hid (fun W (h : Below w.heap.size w W) => show RB W W.heap.size g.A g.n g.xs ∧ g.n ≤ g.c ∧ g.c ≤ maxLen ∧ g.n ≤ 500000 by rw [GX.out.1, GX.out.2.1, GX.out.2.2.1, GX.out.2.2.2.1]; first | exact ⟨RBD.out W h, by omega, by unfold maxLen at *; omega, by omega⟩ | exact ⟨RB.nil, Nat.le_refl _, Nat.zero_le _, Nat.zero_le _⟩)

  have sz := Fm.FC_size LG.out
  have LL := Lib.hid (fun W (h : BX W w.heap.size 31 (Fm.FC g)) => load_all _ _ _ g LG.out h)
  have laA := LL.out _ BG.out.drew
  have laB := LL.out _ (BX.puts_other (b := w.heap.size + 1) (by omega) (Fm.FC g).toList 0 _ BG.out.drew)
  have ssA := store_nul _ _ _ BZ3.out.drew g LG.out
  have PB := Lib.hid (put_nul _ _ _ BZ3.out.drew g LG.out)
  have BWd := Lib.hid (Below.setCells (a := w.heap.size + 1) (by omega) (Fm.FC g).toList 0 _ (Below.drew BW3.out))
  have RGA := Lib.hid (show RG W3.drew W3.drew.heap.size g.RA g.m g.rs by rw [GX.out.2.2.2.2.1, GX.out.2.2.2.2.2.1, GX.out.2.2.2.2.2.2]; exact rg_nil _ _)
  have RGB := Lib.hid (show RG (W3.drew.setCells (w.heap.size + 1) 0 (Fm.FC g).toList) (W3.drew.setCells (w.heap.size + 1) 0 (Fm.FC g).toList).heap.size g.RA g.m g.rs by rw [GX.out.2.2.2.2.1, GX.out.2.2.2.2.2.1, GX.out.2.2.2.2.2.2]; exact rg_nil _ _)
  have MA := Lib.hid (refmay_any19 g W3.drew LG.out RGA.out (by rw [GX.out.2.2.2.2.2.1]; omega))
  have MB := Lib.hid (refmay_any19 g (W3.drew.setCells (w.heap.size + 1) 0 (Fm.FC g).toList) LG.out RGB.out (by rw [GX.out.2.2.2.2.2.1]; omega))
  go_region_law (first
    | (go_simp; go_at_call 27; (with_reducible refine MA.out.mono ?_); rintro e w9 ⟨rfl, hb9⟩; have la9 := LL.out _ (BG.out.drew.later hb9); have bz9 := BZ3.out.drew.later hb9; have ss9 := store_nul _ _ _ bz9 g LG.out; have lr9 := load_all _ _ _ g LG.out (put_nul _ _ _ bz9 g LG.out); have BQ := Lib.hid (Below.setCells (a := w.heap.size + 1) (by omega) (Fm.FC g).toList 0 _ (bthen' (Below.drew BW3.out) hb9)); have RQ := Lib.hid (And.intro (RBN.out _ BQ.out) (RGW.out _ (RGA.out.below hb9) hb9)); clear hb9 bz9)
    | (go_simp; go_at_call 27; (with_reducible refine MB.out.mono ?_); rintro e w9 ⟨rfl, hb9⟩; have la9 := LL.out _ ((BX.puts_other (b := w.heap.size + 1) (by omega) (Fm.FC g).toList 0 _ BG.out.drew).later hb9); have lr9 := load_all _ _ _ g LG.out (PB.out.later hb9); have BQ := Lib.hid (bthen' BWd.out hb9); have RQ := Lib.hid (And.intro (RBN.out _ BQ.out) ((RGB.out.below hb9).more hb9.size)); clear hb9))
  all_goals (
    go_wp2
    refine bodyPost_ret (v := .tuple #[.agg (Fm.FC g), .int .i64 (Fm.may g)]) (by simp [results, Try.f41, go_sem, lr9]) rfl ?_
    exact ⟨g, Fm.may g, rfl, by rw [EF.out], LG.out, RQ.out.1, ⟨RQ.out.2, (by rw [GX.out.2.2.2.2.2.1]; omega)⟩, BQ.out, AT.out _⟩)
theorem reffields7 (tok : List Int) (s r : Nat) (A : Option Addr) (n c : Nat) (b : List Int) (w : World) (h16 : tok.length = 16) (hb : RB w w.heap.size A n b) (hy : Byt b) (hn : n ≤ c) (hc : c ≤ maxLen) (hn2 : n ≤ 500000) :
    Calls Try.prog 41 #[.agg (Fm.FC (Fm.mk3 7 tok s r)), .slice A n c] w (FG 7 tok s r A b w) := by
  have l3 : (Fm.mk3 7 tok s r).ln := Fm.mk3_ln h16
  have hbl : b.length = n := hb.1
  have q := fun o => FB.of (((BX.new w 31 (Fm.FC (Fm.mk3 7 tok s r))).alloc (.cells (Fm.FC Fm.nul) 31)).alloc o) l3
  have c0 := fun o => (show World.cell? (((w.alloc (.cells (Fm.FC (Fm.mk3 7 tok s r)) 31)).alloc (.cells (Fm.FC Fm.nul) 31)).alloc o) ⟨w.heap.size, 0, none⟩ = some (.int .i64 7) from (q o).c0)
  have bn := fun W => run_build (P := Try.prog) W 31 #[] _ built_nul
  clear q
  obtain ⟨nu, NU0⟩ : ∃ g, Hid (Fm.nul = g) := ⟨_, rfl⟩
  have NU := nul_facts NU0.out
  have put_nul' : ∀ (h1 : Nat) (W : World) (T : TypeId) (bZ : BX W h1 T (Fm.FC nu)), BX (W.setCells h1 0 (Fm.FC nu).toList) h1 T (Fm.FC nu) := by rw [← NU0.out]; exact fun h1 W T bZ => put_nul h1 W T bZ Fm.nul Fm.nul_ln
  have store_nul' : ∀ (h1 : Nat) (W : World) (T : TypeId) (bZ : BX W h1 T (Fm.FC nu)), (storeCells ⟨h1, 0, none⟩ (Fm.FC nu).toList 0).run Try.prog W = .ok () (W.setCells h1 0 (Fm.FC nu).toList) := by rw [← NU0.out]; exact fun h1 W T bZ => store_nul h1 W T bZ Fm.nul Fm.nul_ln
  replace put_nul' := Lib.hid put_nul'
  replace store_nul' := Lib.hid store_nul'
  unfold FG
  go_enter Try.func41, Try.ntmps41
  go_upto_region 1 with (fail)
  change Code.wp _ _ _ _ ((w.alloc (.cells (Fm.FC (Fm.mk3 7 tok s r)) 31)).alloc (.cells (Fm.FC Fm.nul) 31))
  have bF0 : BX ((w.alloc (.cells (Fm.FC (Fm.mk3 7 tok s r)) 31)).alloc (.cells (Fm.FC Fm.nul) 31)) w.heap.size 31 (Fm.FC (Fm.mk3 7 tok s r)) := (BX.new w _ _).alloc _
  have bZ0 : BX ((w.alloc (.cells (Fm.FC (Fm.mk3 7 tok s r)) 31)).alloc (.cells (Fm.FC Fm.nul) 31)) (w.heap.size + 1) 31 (Fm.FC Fm.nul) := by
    have h := BX.new (w.alloc (.cells (Fm.FC (Fm.mk3 7 tok s r)) 31)) 31 (Fm.FC Fm.nul)
    simpa using h
  have bW0 : Below w.heap.size w ((w.alloc (.cells (Fm.FC (Fm.mk3 7 tok s r)) 31)).alloc (.cells (Fm.FC Fm.nul) 31)) := ((Below.refl _ w).alloc (Nat.le_refl _) _).alloc (by simp) _
  have sW0 : ((w.alloc (.cells (Fm.FC (Fm.mk3 7 tok s r)) 31)).alloc (.cells (Fm.FC Fm.nul) 31)).heap.size = w.heap.size + 2 := by simp
  generalize (w.alloc (.cells (Fm.FC (Fm.mk3 7 tok s r)) 31)).alloc (.cells (Fm.FC Fm.nul) 31) = W1 at *
  go_upto_region 2 with (fail)
  have bF := bF0.alloc (.cells #[.int .i64 40, .int .i64 8, .int .i64 9, .int .i64 8, .int .i64 40, .int .i64 8, .int .i64 1] 3)
  have bZ := bZ0.alloc (.cells #[.int .i64 40, .int .i64 8, .int .i64 9, .int .i64 8, .int .i64 40, .int .i64 8, .int .i64 1] 3)
  have bW := bW0.alloc (by omega) (.cells #[.int .i64 40, .int .i64 8, .int .i64 9, .int .i64 8, .int .i64 40, .int .i64 8, .int .i64 1] 3)
  have sW : (W1.alloc (.cells #[.int .i64 40, .int .i64 8, .int .i64 9, .int .i64 8, .int .i64 40, .int .i64 8, .int .i64 1] 3)).heap.size = w.heap.size + 3 := by simp [sW0]
  clear c0 bF0 bZ0 bW0 sW0
  generalize W1.alloc (.cells #[.int .i64 40, .int .i64 8, .int .i64 9, .int .i64 8, .int .i64 40, .int .i64 8, .int .i64 1] 3) = W2 at *
  have c0 : W2.cell? ⟨w.heap.size, 0, none⟩ = some (.int .i64 7) := (FB.of bF l3).c0
  by_cases hs : n < 1
  · have hs' : (n : Int) < 1 := by omega
    have EF := Lib.hid (show Fm.fieldsP 7 tok s r b = (Fm.nul, 4) by unfold Fm.fieldsP; rw [if_pos (.inl (by rw [hbl]; exact hs))])
    rw [NU0.out] at EF bn bZ
    have ss := store_nul'.out _ _ _ bZ
    have lr := load_all _ _ _ nu NU.out.1 (put_nul'.out _ _ _ bZ)
    have BQ := Lib.hid (Below.setCells (a := w.heap.size + 1) (by omega) (Fm.FC nu).toList 0 _ bW)
    have szn := Fm.FC_size NU.out.1
    clear bZ
    go_wp2
    refine bodyPost_ret (v := .tuple #[.agg (Fm.FC nu), .int .i64 4]) (by simp [results, Try.f41, go_sem, lr]) rfl ?_
    exact ⟨nu, 4, rfl, by rw [EF.out, NU.out.2.1], NU.out.1, NU.out.2.2.1 _ _, NU.out.2.2.2.1 _ _, BQ.out, NU.out.2.2.2.2 _ _⟩
  have hs' : ¬ (n : Int) < 1 := by omega
  by_cases ht : 1 < n
  · have ht' : (1 : Int) < n := by omega
    have EF := Lib.hid (show Fm.fieldsP 7 tok s r b = (Fm.nul, 3) by unfold Fm.fieldsP; rw [if_neg (by rw [hbl]; show ¬ (n < 1 ∨ _); omega), if_pos (by rw [hbl]; exact ⟨ht, by omega, by omega⟩)])
    rw [NU0.out] at EF bn bZ
    have ss := store_nul'.out _ _ _ bZ
    have lr := load_all _ _ _ nu NU.out.1 (put_nul'.out _ _ _ bZ)
    have BQ := Lib.hid (Below.setCells (a := w.heap.size + 1) (by omega) (Fm.FC nu).toList 0 _ bW)
    have szn := Fm.FC_size NU.out.1
    clear bZ
    go_wp2
    refine bodyPost_ret (v := .tuple #[.agg (Fm.FC nu), .int .i64 3]) (by simp [results, Try.f41, go_sem, lr]) rfl ?_
    exact ⟨nu, 3, rfl, by rw [EF.out, NU.out.2.1], NU.out.1, NU.out.2.2.1 _ _, NU.out.2.2.2.1 _ _, BQ.out, NU.out.2.2.2.2 _ _⟩
  have ht' : ¬ (1 : Int) < n := by omega
  have NB := Lib.hid (fun W (h : Below w.heap.size w W) => (hb.below h).more h.size)
  have EF0 := Lib.hid (show Fm.fieldsP 7 tok s r b = (Fm.getF 7 tok s r b, Fm.mayP (Fm.getF 7 tok s r b)) by unfold Fm.fieldsP; rw [if_neg (by rw [hbl]; show ¬ (n < 1 ∨ _); omega), if_neg (by rw [hbl]; show ¬ (1 < n ∧ _); omega)])

  obtain ⟨b1, o1, rfl, hb1, r0⟩ := hb.at0 (by omega)
  have r1 : W2.cell? ⟨b1, o1, none⟩ = some (.int .u8 (b.getD 0 0)) := (bW.cell (p := ⟨b1, o1, none⟩) hb1).trans r0
  have hy0 := hy 0
  have HV := Lib.hid (rfl : b.getD 0 0 = b.getD 0 0)
  obtain ⟨v0, hv0⟩ : ∃ v, b.getD 0 0 = v := ⟨_, rfl⟩
  rw [hv0] at r1 hy0
  have cc := (FB.of bF l3).c55
  have ff := bF.free 55
  go_upto_region 27 with (fail)
  obtain ⟨g, hg⟩ : ∃ g, ({ Fm.mk3 7 tok s r with cd := v0 } : Fm.Fr) = g := ⟨_, rfl⟩
  have LG := Lib.hid (show g.ln by rw [← hg]; exact l3)
  have BG := Lib.hid (show BX (W2.setCell ⟨w.heap.size, 55, none⟩ (.int .i64 v0)) w.heap.size 31 (Fm.FC g) by rw [← hg]; exact (bF.set 55 _).to (Fm.FC_code l3 _))
  have BZ3 := Lib.hid (show BX (W2.setCell ⟨w.heap.size, 55, none⟩ (.int .i64 v0)) (w.heap.size + 1) 31 (Fm.FC Fm.nul) from bZ.other (by omega) _)
  have BW3 := Lib.hid (show Below w.heap.size w (W2.setCell ⟨w.heap.size, 55, none⟩ (.int .i64 v0)) from bW.setCell (p := ⟨w.heap.size, 55, none⟩) (Nat.le_refl _) _)
  have GX := Lib.hid (show g.A = none ∧ g.n = 0 ∧ g.c = 0 ∧ g.xs = [] ∧ g.RA = none ∧ g.m = 0 ∧ g.rs = [] by rw [← hg]; exact ⟨rfl, rfl, rfl, rfl, rfl, rfl, rfl⟩)
  have AT := Lib.hid (show ∀ A2, PlA A2 w g from fun A2 => ⟨fun _ _ _ h => absurd h (by rw [GX.out.2.1]; omega), fun _ _ _ h => absurd h (by rw [GX.out.2.2.2.2.2.1]; omega)⟩)
  have EF := Lib.hid (show (Fm.er g, Fm.may g) = Fm.fieldsP 7 tok s r b by rw [EF0.out, Fm.may_er (by rw [GX.out.2.2.2.1, GX.out.2.1]; rfl) (by rw [GX.out.2.2.2.2.2.2, GX.out.2.2.2.2.2.1]; rfl)]; rw [← hg, ← hv0]; rfl)
  clear hg cc ff c0 bF bZ bW sW r0 r1 hv0
  generalize W2.setCell ⟨w.heap.size, 55, none⟩ (.int .i64 v0) = W3 at *
  have RGW := Lib.hid (fun w9 (h : RG w9 W3.drew.heap.size g.RA g.m g.rs) (hb9 : Below W3.drew.heap.size W3.drew w9) => show RG (w9.setCells (w.heap.size + 1) 0 (Fm.FC g).toList) (w9.setCells (w.heap.size + 1) 0 (Fm.FC g).toList).heap.size g.RA g.m g.rs by rw [GX.out.2.2.2.2.1, GX.out.2.2.2.2.2.1, GX.out.2.2.2.2.2.2]; exact rg_nil _ _)
  have RBN := Lib.hid (fun W (h : Below w.heap.size w W) => show RB W W.heap.size g.A g.n g.xs ∧ g.n ≤ g.c ∧ g.c ≤ maxLen ∧ g.n ≤ 500000 by rw [GX.out.1, GX.out.2.1, GX.out.2.2.1, GX.out.2.2.2.1]; first | exact ⟨RBD.out W h, by omega, by unfold maxLen at *; omega, by omega⟩ | exact ⟨RB.nil, Nat.le_refl _, Nat.zero_le _, Nat.zero_le _⟩)

  have sz := Fm.FC_size LG.out
  have LL := Lib.hid (fun W (h : BX W w.heap.size 31 (Fm.FC g)) => load_all _ _ _ g LG.out h)
  have laA := LL.out _ BG.out.drew
  have laB := LL.out _ (BX.puts_other (b := w.heap.size + 1) (by omega) (Fm.FC g).toList 0 _ BG.out.drew)
  have ssA := store_nul _ _ _ BZ3.out.drew g LG.out
  have PB := Lib.hid (put_nul _ _ _ BZ3.out.drew g LG.out)
  have BWd := Lib.hid (Below.setCells (a := w.heap.size + 1) (by omega) (Fm.FC g).toList 0 _ (Below.drew BW3.out))
  have RGA := Lib.hid (show RG W3.drew W3.drew.heap.size g.RA g.m g.rs by rw [GX.out.2.2.2.2.1, GX.out.2.2.2.2.2.1, GX.out.2.2.2.2.2.2]; exact rg_nil _ _)
  have RGB := Lib.hid (show RG (W3.drew.setCells (w.heap.size + 1) 0 (Fm.FC g).toList) (W3.drew.setCells (w.heap.size + 1) 0 (Fm.FC g).toList).heap.size g.RA g.m g.rs by rw [GX.out.2.2.2.2.1, GX.out.2.2.2.2.2.1, GX.out.2.2.2.2.2.2]; exact rg_nil _ _)
  have MA := Lib.hid (refmay_any19 g W3.drew LG.out RGA.out (by rw [GX.out.2.2.2.2.2.1]; omega))
  have MB := Lib.hid (refmay_any19 g (W3.drew.setCells (w.heap.size + 1) 0 (Fm.FC g).toList) LG.out RGB.out (by rw [GX.out.2.2.2.2.2.1]; omega))
  go_region_law (first
    | (go_simp; go_at_call 27; (with_reducible refine MA.out.mono ?_); rintro e w9 ⟨rfl, hb9⟩; have la9 := LL.out _ (BG.out.drew.later hb9); have bz9 := BZ3.out.drew.later hb9; have ss9 := store_nul _ _ _ bz9 g LG.out; have lr9 := load_all _ _ _ g LG.out (put_nul _ _ _ bz9 g LG.out); have BQ := Lib.hid (Below.setCells (a := w.heap.size + 1) (by omega) (Fm.FC g).toList 0 _ (bthen' (Below.drew BW3.out) hb9)); have RQ := Lib.hid (And.intro (RBN.out _ BQ.out) (RGW.out _ (RGA.out.below hb9) hb9)); clear hb9 bz9)
    | (go_simp; go_at_call 27; (with_reducible refine MB.out.mono ?_); rintro e w9 ⟨rfl, hb9⟩; have la9 := LL.out _ ((BX.puts_other (b := w.heap.size + 1) (by omega) (Fm.FC g).toList 0 _ BG.out.drew).later hb9); have lr9 := load_all _ _ _ g LG.out (PB.out.later hb9); have BQ := Lib.hid (bthen' BWd.out hb9); have RQ := Lib.hid (And.intro (RBN.out _ BQ.out) ((RGB.out.below hb9).more hb9.size)); clear hb9))
  all_goals (
    go_wp2
    refine bodyPost_ret (v := .tuple #[.agg (Fm.FC g), .int .i64 (Fm.may g)]) (by simp [results, Try.f41, go_sem, lr9]) rfl ?_
    exact ⟨g, Fm.may g, rfl, by rw [EF.out], LG.out, RQ.out.1, ⟨RQ.out.2, (by rw [GX.out.2.2.2.2.2.1]; omega)⟩, BQ.out, AT.out _⟩)
end Go.Proofs.Ytjiafpmcibokbaa
