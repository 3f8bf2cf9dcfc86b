/- LAYER 19, frame, seventh part: keep, Bare. gen_p19g.py -/
import Derived.Test.YtjiafpmcibokbaaP19c
import Derived.Test.YtjiafpmcibokbaaR19f
import Derived.Test.YtjiafpmcibokbaaM19b
namespace Go.Proofs.Ytjiafpmcibokbaa
open Go Go.RowKit
set_option maxHeartbeats 2000000
set_option maxRecDepth 100000
set_option linter.unusedVariables false
attribute [-go_sem] loadCellsFrom storeCells Instr.build
attribute [local go_sem] storeCells_one storeCells_two loadCells_two
namespace Fm
/-- A frame's field handed to another. -/
def keepE (x : Int) (f b : Fr) : Fr :=
  if x = 0 then { b with off := f.off } else if x = 1 then { b with tot := f.tot } else if x = 2 then { b with sum := f.sum } else if x = 3 then { b with xs := f.xs } else if x = 4 then { b with rs := f.rs } else { b with cd := f.cd }
end Fm
/-- A frame's data, beside block a. -/
def DA (w : World) (a : Nat) (g : Fm.Fr) : Prop :=
  (RB w w.heap.size g.A g.n g.xs ∧ g.n ≤ g.c ∧ g.c ≤ maxLen ∧ ∀ b o, g.A = some ⟨b, o, none⟩ → 0 < g.n → a < b) ∧ (RG w w.heap.size g.RA g.m g.rs ∧ ∀ b o, g.RA = some ⟨b, o, none⟩ → 0 < g.m → a < b)
theorem oth_cell {w w' : World} {a b o : Nat} {v : Value} (h : Oth a w w') (hb : b ≠ a) (hc : w.cell? ⟨b, o, none⟩ = some v) : w'.cell? ⟨b, o, none⟩ = some v := by
  have hlt := World.block_lt_of_cell? w _ hc
  have he := h.2.2.2.2 b hlt hb
  rw [← hc]
  simp only [World.cell?, he]
theorem RB.oth19 {w w' : World} {a B n : Nat} {A : Option Addr} {xs : List Int} (h : RB w B A n xs) (ho : Oth a w w') (hne : ∀ b o, A = some ⟨b, o, none⟩ → 0 < n → b ≠ a) : RB w' B A n xs :=
  ⟨h.1, fun hn => by
    obtain ⟨b, o, e, hb, hc⟩ := h.2 hn
    exact ⟨b, o, e, hb, fun j hj => oth_cell ho (hne b o e hn) (hc j hj)⟩⟩
theorem RG.oth19 {w w' : World} {a B n : Nat} {A : Option Addr} {xs : List (Nat × Nat)} (h : RG w B A n xs) (ho : Oth a w w') (hne : ∀ b o, A = some ⟨b, o, none⟩ → 0 < n → b ≠ a) : RG w' B A n xs :=
  ⟨h.1, fun hn => by
    obtain ⟨b, o, e, hb, hc⟩ := h.2 hn
    exact ⟨b, o, e, hb, fun j p hj => ⟨oth_cell ho (hne b o e hn) (hc j p hj).1, oth_cell ho (hne b o e hn) (hc j p hj).2⟩⟩⟩
theorem DA.oth' {w w' : World} {a k : Nat} {g : Fm.Fr} (h : DA w a g) (ho : Oth k w w') (hk : k ≤ a) : DA w' a g :=
  ⟨⟨(h.1.1.oth19 ho fun b o e h0 => Nat.ne_of_gt (Nat.lt_of_le_of_lt hk (h.1.2.2.2 b o e h0))).more ho.2.2.2.1, h.1.2.1, h.1.2.2.1, h.1.2.2.2⟩, (h.2.1.oth19 ho fun b o e h0 => Nat.ne_of_gt (Nat.lt_of_le_of_lt hk (h.2.2 b o e h0))).more ho.2.2.2.1, h.2.2⟩
theorem DA.oth {w w' : World} {a : Nat} {g : Fm.Fr} (h : DA w a g) (ho : Oth a w w') : DA w' a g := h.oth' ho (Nat.le_refl _)
/-- A frame's data can be read. -/
def DD (w : World) (g : Fm.Fr) : Prop := (RB w w.heap.size g.A g.n g.xs ∧ g.n ≤ g.c ∧ g.c ≤ maxLen) ∧ RG w w.heap.size g.RA g.m g.rs
theorem DA.dd {w : World} {a : Nat} {g : Fm.Fr} (h : DA w a g) : DD w g := ⟨⟨h.1.1, h.1.2.1, h.1.2.2.1⟩, h.2.1⟩
theorem DD.later {w w' : World} {g : Fm.Fr} (h : DD w g) (hb : Below w.heap.size w w') : DD w' g :=
  ⟨⟨(h.1.1.below hb).more hb.size, h.1.2⟩, (h.2.below hb).more hb.size⟩
theorem da_none (w : World) (a : Nat) (k : Int) (tok : List Int) (s r : Nat) : DA w a (Fm.mk3 k tok s r) :=
  ⟨⟨RB.nil, Nat.le_refl _, Nat.zero_le _, fun _ _ _ h => absurd h (Nat.lt_irrefl 0)⟩, ⟨⟨rfl, fun p h => absurd h (by simp [Fm.mk3])⟩, fun h => absurd h (Nat.lt_irrefl 0)⟩, fun _ _ _ h => absurd h (Nat.lt_irrefl 0)⟩
theorem own_lt19 {w : World} {base n c hb : Nat} {A : Option Addr} {xs : List Int} (ho : OBn w base 5 (.slice A n c) n xs) (h : hb < base) : ∀ b o, A = some ⟨b, o, none⟩ → 0 < n → hb < b := by
  intro b o e h0
  obtain ⟨gg, cg, cur, e0, hbg, _⟩ := OBn.shape ho h0
  rw [e] at e0
  cases e0
  omega
/-- What keep gives. -/
def KG (x : Int) (f g : Fm.Fr) (hb : Nat) (w : World) (e : Ending) (w' : World) : Prop :=
  e = .returned (.tuple #[]) ∧ ∃ g', BX w' hb 42 (Fm.FC g') ∧ Fm.er g' = Fm.keepE x f (Fm.er g) ∧ g'.ln ∧ DA w' hb g' ∧ Oth hb w w'
theorem Oth.setCells19 {w : World} {a : Nat} : ∀ (vs : List Value) (o : Nat) (w' : World), Oth a w w' → Oth a w (w'.setCells a o vs)
  | [], _, _, h => h
  | v :: r, o, w', h => Oth.setCells19 r (o + 1) _ (h.setCell o v)
section
variable {f g : Fm.Fr} {w : World} {hb B : Nat}
theorem keep0_any19 (hl : f.ln) (lg : g.ln) (bG : BX w hb 42 (Fm.FC g)) (dg : DA w hb g) :
    Calls Try.prog 32 #[.int .i64 0, .pointer (some ⟨hb, 0, none⟩), .agg (Fm.FC f)] w (KG 0 f g hb w) := by
  have bF := BX.new w 42 (Fm.FC f)
  have q := FB.of bF hl
  have bG1 := bG.alloc (.cells (Fm.FC f) 42)
  have qg := FB.of bG1 lg
  have HO := Lib.hid (Oth.ofBelow (a := hb) ((Below.refl w.heap.size w).alloc (Nat.le_refl _) (.cells (Fm.FC f) 42)))
  have cc := q.c19
  have dd := qg.c19
  have ff := bG1.free 19
  have BG := Lib.hid bG1
  clear q qg bF bG bG1
  go_enter Try.func32, Try.ntmps32
  go_wp2
  refine bodyPost_end (v := .tuple #[]) (by simp [results, Try.f32, go_sem]) rfl ?_
  have ho := HO.out.setCell 19 (.int .u64 (f.off : Int))
  exact ⟨rfl, { g with off := f.off }, (BG.out.set 19 _).to (Fm.FC_off lg _), rfl, lg, dg.oth ho, ho⟩
theorem keep1_any19 (hl : f.ln) (lg : g.ln) (bG : BX w hb 42 (Fm.FC g)) (dg : DA w hb g) :
    Calls Try.prog 32 #[.int .i64 1, .pointer (some ⟨hb, 0, none⟩), .agg (Fm.FC f)] w (KG 1 f g hb w) := by
  have bF := BX.new w 42 (Fm.FC f)
  have q := FB.of bF hl
  have bG1 := bG.alloc (.cells (Fm.FC f) 42)
  have qg := FB.of bG1 lg
  have HO := Lib.hid (Oth.ofBelow (a := hb) ((Below.refl w.heap.size w).alloc (Nat.le_refl _) (.cells (Fm.FC f) 42)))
  have cc := q.c20
  have dd := qg.c20
  have ff := bG1.free 20
  have BG := Lib.hid bG1
  clear q qg bF bG bG1
  go_enter Try.func32, Try.ntmps32
  go_wp2
  refine bodyPost_end (v := .tuple #[]) (by simp [results, Try.f32, go_sem]) rfl ?_
  have ho := HO.out.setCell 20 (.int .u64 (f.tot : Int))
  exact ⟨rfl, { g with tot := f.tot }, (BG.out.set 20 _).to (Fm.FC_tot lg _), rfl, lg, dg.oth ho, ho⟩
theorem keep5_any19 (hl : f.ln) (lg : g.ln) (bG : BX w hb 42 (Fm.FC g)) (dg : DA w hb g) :
    Calls Try.prog 32 #[.int .i64 5, .pointer (some ⟨hb, 0, none⟩), .agg (Fm.FC f)] w (KG 5 f g hb w) := by
  have bF := BX.new w 42 (Fm.FC f)
  have q := FB.of bF hl
  have bG1 := bG.alloc (.cells (Fm.FC f) 42)
  have qg := FB.of bG1 lg
  have HO := Lib.hid (Oth.ofBelow (a := hb) ((Below.refl w.heap.size w).alloc (Nat.le_refl _) (.cells (Fm.FC f) 42)))
  have cc := q.c55
  have dd := qg.c55
  have ff := bG1.free 55
  have BG := Lib.hid bG1
  clear q qg bF bG bG1
  go_enter Try.func32, Try.ntmps32
  go_wp2
  refine bodyPost_end (v := .tuple #[]) (by simp [results, Try.f32, go_sem]) rfl ?_
  have ho := HO.out.setCell 55 (.int .i64 f.cd)
  exact ⟨rfl, { g with cd := f.cd }, (BG.out.set 55 _).to (Fm.FC_code lg _), rfl, lg, dg.oth ho, ho⟩
theorem keep2_any19 (hl : f.ln) (lg : g.ln) (bG : BX w hb 42 (Fm.FC g)) (dg : DA w hb g) :
    Calls Try.prog 32 #[.int .i64 2, .pointer (some ⟨hb, 0, none⟩), .agg (Fm.FC f)] w (KG 2 f g hb w) := by
  have bF := BX.new w 42 (Fm.FC f)
  have q := FB.of bF hl
  have bG1 := bG.alloc (.cells (Fm.FC f) 42)
  have qg := FB.of bG1 lg
  have HO := Lib.hid (Oth.ofBelow (a := hb) ((Below.refl w.heap.size w).alloc (Nat.le_refl _) (.cells (Fm.FC f) 42)))
  have cc := q.lsum
  have st := run_store_part (P := Try.prog) bG1 21 (f.sum.map Fm.ub) (by rw [List.length_map, hl.2, Fm.FC_size lg]; omega) (Fm.ub_one _)
  have BG := Lib.hid bG1
  have SL := Lib.hid hl.2
  clear q qg bF bG bG1
  go_enter Try.func32, Try.ntmps32
  go_wp2
  refine bodyPost_end (v := .tuple #[]) (by simp [results, Try.f32, go_sem]) rfl ?_
  have ho := Oth.setCells19 (f.sum.map Fm.ub) 21 _ HO.out
  exact ⟨rfl, { g with sum := f.sum }, (BX.put (f.sum.map Fm.ub) 21 _ _ BG.out).to (Fm.FC_sums lg _ SL.out), rfl, ⟨lg.1, SL.out⟩, dg.oth ho, ho⟩
theorem keep3_any19 (hl : f.ln) (lg : g.ln) (bG : BX w hb 42 (Fm.FC g)) (dg : DA w hb g) (hB : B ≤ w.heap.size) (df : RB w B f.A f.n f.xs) (hfn : f.n ≤ 200000) :
    Calls Try.prog 32 #[.int .i64 3, .pointer (some ⟨hb, 0, none⟩), .agg (Fm.FC f)] w (KG 3 f g hb w) := by
  have bF := BX.new w 42 (Fm.FC f)
  have q := FB.of bF hl
  have bG1 := bG.alloc (.cells (Fm.FC f) 42)
  have qg := FB.of bG1 lg
  have HO := Lib.hid (Oth.ofBelow (a := hb) ((Below.refl w.heap.size w).alloc (Nat.le_refl _) (.cells (Fm.FC f) 42)))
  have cc := q.c53
  have BG := Lib.hid bG1
  have CL := Lib.hid (slclone_any f.A f.n f.c f.xs (w.alloc (.cells (Fm.FC f) 42)) ((df.alloc hB _).more (Nat.le_trans hB (by simp))) (by omega))
  have LT := Lib.hid (show hb < (w.alloc (.cells (Fm.FC f) 42)).heap.size from bG1.lt)
  have LG := Lib.hid lg
  clear q qg bF bG bG1 df lg
  obtain ⟨Y, hY⟩ : ∃ Y, f.xs = Y := ⟨_, rfl⟩
  rw [hY] at CL
  have HY := Lib.hid hY
  clear hY
  go_enter Try.func32, Try.ntmps32
  go_wp2_with (go_at_call 48; (with_reducible refine CL.out.mono ?_); rintro e w2 ⟨v2, rfl, ho2, hb2⟩; obtain ⟨A2, c2, rfl, hr2, hc2, hm2⟩ := ho2.slice; have HN2 := Lib.hid (own_lt19 ho2 LT.out); have HR2 := Lib.hid hr2; have HC2 := Lib.hid hc2; have HM2 := Lib.hid hm2; have BG2 := Lib.hid (BG.out.later hb2); have HO2 := Lib.hid (HO.out.trans (Oth.ofBelow hb2)); have dd := (FB.of BG2.out LG.out).c53; have ff := BG2.out.free 53; clear hr2 hc2 hm2 hb2 ho2)
  refine bodyPost_end (v := .tuple #[]) (by simp [results, Try.f32, go_sem]) rfl ?_
  have ho := HO2.out.setCell 53 (.slice A2 f.n c2)
  have h1 : Oth hb w2 (w2.setCell ⟨hb, 53, none⟩ (.slice A2 f.n c2)) := (Oth.refl hb w2).setCell 53 _
  refine ⟨rfl, { g with A := A2, n := f.n, c := c2, xs := Y }, (BG2.out.set 53 _).to (Fm.FC_data LG.out _ _ _ _), by rw [← HY.out]; rfl, LG.out, ⟨⟨(HR2.out.oth19 h1 fun b o e h0 => Nat.ne_of_gt (HN2.out b o e h0)).more h1.2.2.2.1, HC2.out, HM2.out, HN2.out⟩, (dg.oth ho).2⟩, ho⟩
theorem keep4_any19 (hl : f.ln) (lg : g.ln) (bG : BX w hb 42 (Fm.FC g)) (dg : DA w hb g) (hB : B ≤ w.heap.size) (rf : RG w B f.RA f.m f.rs) (hm : f.m ≤ 10000) :
    Calls Try.prog 32 #[.int .i64 4, .pointer (some ⟨hb, 0, none⟩), .agg (Fm.FC f)] w (KG 4 f g hb w) := by
  have bF := BX.new w 42 (Fm.FC f)
  have q := FB.of bF hl
  have bG1 := bG.alloc (.cells (Fm.FC f) 42)
  have qg := FB.of bG1 lg
  have HO := Lib.hid (Oth.ofBelow (a := hb) ((Below.refl w.heap.size w).alloc (Nat.le_refl _) (.cells (Fm.FC f) 42)))
  have cc := q.c54
  have BG := Lib.hid bG1
  have CL := Lib.hid (rgclone_any19 f.RA f.m f.rc f.rs (w.alloc (.cells (Fm.FC f) 42)) ((rf.below ((Below.refl B w).alloc hB _)).more (Nat.le_trans hB (by simp))) (by omega))
  have LT := Lib.hid (show hb < (w.alloc (.cells (Fm.FC f) 42)).heap.size from bG1.lt)
  have LG := Lib.hid lg
  clear q qg bF bG bG1 rf lg
  obtain ⟨Y, hY⟩ : ∃ Y, f.rs = Y := ⟨_, rfl⟩
  rw [hY] at CL
  have HY := Lib.hid hY
  clear hY
  go_enter Try.func32, Try.ntmps32
  go_wp2_with (go_at_call 49; (with_reducible refine CL.out.mono ?_); rintro e w2 ⟨A2, c2, rfl, hr2, hg2, hb2⟩; have HN2 := Lib.hid (show ∀ b o, A2 = some ⟨b, o, none⟩ → 0 < f.m → hb < b from fun b o e h0 => Nat.lt_of_lt_of_le LT.out (hg2 b o e h0)); have HR2 := Lib.hid hr2; have BG2 := Lib.hid (BG.out.later hb2); have HO2 := Lib.hid (HO.out.trans (Oth.ofBelow hb2)); have dd := (FB.of BG2.out LG.out).c54; have ff := BG2.out.free 54; clear hr2 hg2 hb2)
  refine bodyPost_end (v := .tuple #[]) (by simp [results, Try.f32, go_sem]) rfl ?_
  have ho := HO2.out.setCell 54 (.slice A2 f.m c2)
  have h1 : Oth hb w2 (w2.setCell ⟨hb, 54, none⟩ (.slice A2 f.m c2)) := (Oth.refl hb w2).setCell 54 _
  refine ⟨rfl, { g with RA := A2, m := f.m, rc := c2, rs := Y }, (BG2.out.set 54 _).to (Fm.FC_rgs LG.out _ _ _ _), by rw [← HY.out]; rfl, LG.out, ⟨(dg.oth ho).1, (HR2.out.oth19 h1 fun b o e h0 => Nat.ne_of_gt (HN2.out b o e h0)).more h1.2.2.2.1, HN2.out⟩, ho⟩
theorem keepx_any19 {x : Int} (hx : 0 ≤ x ∧ x ≤ 5) (hl : f.ln) (lg : g.ln) (bG : BX w hb 42 (Fm.FC g)) (dg : DA w hb g) (hB : B ≤ w.heap.size) (rf : RG w B f.RA f.m f.rs) (df : RB w B f.A f.n f.xs) (hm : f.m ≤ 10000) (hfn : f.n ≤ 200000) :
    Calls Try.prog 32 #[.int .i64 x, .pointer (some ⟨hb, 0, none⟩), .agg (Fm.FC f)] w (KG x f g hb w) := by
  have c : x = 0 ∨ x = 1 ∨ x = 2 ∨ x = 3 ∨ x = 4 ∨ x = 5 := by omega
  rcases c with rfl | rfl | rfl | rfl | rfl | rfl
  · exact keep0_any19 hl lg bG dg
  · exact keep1_any19 hl lg bG dg
  · exact keep2_any19 hl lg bG dg
  · exact keep3_any19 hl lg bG dg hB df hfn
  · exact keep4_any19 hl lg bG dg hB rf hm
  · exact keep5_any19 hl lg bG dg
end

end Go.Proofs.Ytjiafpmcibokbaa
