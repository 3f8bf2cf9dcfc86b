/- LAYER 19, frame, eleventh part: a field read. gen_p19k.py -/
import Derived.Test.YtjiafpmcibokbaaP19j
import Derived.Laws.Cover3
namespace Go.Proofs.Ytjiafpmcibokbaa
open Go Go.RowKit
set_option maxHeartbeats 2000000
set_option maxRecDepth 100000
set_option linter.unusedVariables false
attribute [-go_sem] loadCellsFrom storeCells Instr.build
attribute [local go_sem] storeCells_one storeCells_two loadCells_two
namespace Fm
abbrev Rs := List Int × Bool
/-- Ranges read. -/
def rdR : Nat → List (Nat × Nat) → Rs → List (Nat × Nat) × Rs
  | 0, l, s => (l, s)
  | n + 1, l, s => rdR n (l ++ [(ofL (tk 8 s), ofL (tk 8 (lft 8 s)))]) (lft 8 (lft 8 s))
/-- A field read. -/
def readE (x : Int) (b : Fr) (s : Rs) : Fr × Rs :=
  if x = 0 then ({ b with off := ofL (tk 8 s) }, lft 8 s)
  else if x = 1 then ({ b with tot := ofL (tk 8 s) }, lft 8 s)
  else if x = 2 then ({ b with sum := tk 32 s }, lft 32 s)
  else if x = 3 then ({ b with xs := tk s.1.length s }, lft s.1.length s)
  else if x = 4 then ({ b with rs := (rdR ((s.1.length + 15) / 16) [] s).1 }, (rdR ((s.1.length + 15) / 16) [] s).2)
  else ({ b with cd := (ofL (tk 1 s) : Nat) }, lft 1 s)
end Fm
/-- All but two blocks stays. -/
def Ot2 (a b : Nat) (w w' : World) : Prop :=
  w'.os = w.os ∧ w'.tape = w.tape ∧ w'.output = w.output ∧ w.heap.size ≤ w'.heap.size ∧ ∀ k, k < w.heap.size → k ≠ a → k ≠ b → w'.heap[k]? = w.heap[k]?
section
variable {w w' w2 : World} {a b B : Nat}
theorem Ot2.refl (a b : Nat) (w : World) : Ot2 a b w w := ⟨rfl, rfl, rfl, Nat.le_refl _, fun _ _ _ _ => rfl⟩
theorem Ot2.trans (h : Ot2 a b w w') (k : Ot2 a b w' w2) : Ot2 a b w w2 :=
  ⟨k.1.trans h.1, k.2.1.trans h.2.1, k.2.2.1.trans h.2.2.1, Nat.le_trans h.2.2.2.1 k.2.2.2.1, fun i hi h1 h2 => (k.2.2.2.2 i (Nat.lt_of_lt_of_le hi h.2.2.2.1) h1 h2).trans (h.2.2.2.2 i hi h1 h2)⟩
theorem Oth.l2 (h : Oth a w w') (b : Nat) : Ot2 a b w w' := ⟨h.1, h.2.1, h.2.2.1, h.2.2.2.1, fun i hi h1 _ => h.2.2.2.2 i hi h1⟩
theorem Oth.r2 (h : Oth b w w') (a : Nat) : Ot2 a b w w' := ⟨h.1, h.2.1, h.2.2.1, h.2.2.2.1, fun i hi _ h2 => h.2.2.2.2 i hi h2⟩
theorem Ot2.below (h : Ot2 a b w w') (ha : B ≤ a) (hb : B ≤ b) (hs : B ≤ w.heap.size) : Below B w w' := ⟨h.1, h.2.1, h.2.2.1, h.2.2.2.1, fun k hk => h.2.2.2.2 k (by omega) (by omega) (by omega)⟩
theorem BX.ot2 {k : Nat} {T : TypeId} {cs : Array Value} (h : BX w k T cs) (ho : Ot2 a b w w') (h1 : k ≠ a) (h2 : k ≠ b) : BX w' k T cs := (ho.2.2.2.2 k h.lt h1 h2).trans h
theorem RD.oth {p : Nat} {s : List Int × Bool} (h : RD w p B s) (ho : Oth b w w') (hne : p ≠ b) (hB : B ≤ b) : RD w' p B s := by
  obtain ⟨A, n, c, hb, hr, h1, h2, h3⟩ := h
  exact ⟨A, n, c, hb.oth ho hne, hr.oth19 ho (fun x o e h0 => by
    obtain ⟨b2, o2, e2, hb2, _⟩ := hr.at_ h0
    rw [e] at e2
    cases e2
    omega), h1, h2, h3⟩
theorem RD.byt {p : Nat} {s : List Int × Bool} (h : RD w p B s) : Byt s.1 := by
  obtain ⟨A, n, c, hb, hr, h1, h2, h3⟩ := h
  exact h3
theorem load_rb19 {b o n : Nat} {xs : List Int} (h : RB w B (some ⟨b, o, none⟩) n xs) : (loadCellsFrom ⟨b, o, none⟩ 0 n #[]).run Try.prog w = .ok (xs.map Fm.ub).toArray w := by
  have := run_loadCells_list (P := Try.prog) w ⟨b, o, none⟩ (xs.map Fm.ub) (fun j v hv => h.news j v hv)
  rw [List.length_map, h.1] at this
  simpa [loadCells] using this
end
theorem Fm.rdR_snoc : ∀ (n : Nat) (l : List (Nat × Nat)) (s : Fm.Rs), Fm.rdR (n + 1) l s = ((Fm.rdR n l s).1 ++ [(Fm.ofL (Fm.tk 8 (Fm.rdR n l s).2), Fm.ofL (Fm.tk 8 (Fm.lft 8 (Fm.rdR n l s).2)))], Fm.lft 8 (Fm.lft 8 (Fm.rdR n l s).2))
  | 0, l, s => rfl
  | n + 1, l, s => Fm.rdR_snoc n (l ++ [(Fm.ofL (Fm.tk 8 s), Fm.ofL (Fm.tk 8 (Fm.lft 8 s)))]) (Fm.lft 8 (Fm.lft 8 s))
theorem owns_oth19 {w w' : World} {base size n p : Nat} {e : TypeId} {v : Value} {xs : List Value} (h : w.ownsRow base e size v n xs) (ho : Oth p w w') (hp : p < base) : w'.ownsRow base e size v n xs := by
  refine ⟨h.1, ?_⟩
  have hh := h
  rcases h.2 with hl | ⟨g, cap, cur, rfl, hbg, hg, h1, h2, h3, h4⟩
  · exact .inl hl
  · exact .inr ⟨g, cap, cur, rfl, hbg, by rw [ho.2.2.2.2 g (World.ownsRow.lt hh g rfl).2 (by omega)]; exact hg, h1, h2, h3, h4⟩
theorem Ot2.thenBelow {a b : Nat} {w w' w2 : World} (h : Ot2 a b w w') (k : Below w.heap.size w' w2) : Ot2 a b w w2 :=
  ⟨k.os.trans h.1, k.tape.trans h.2.1, k.output.trans h.2.2.1, Nat.le_trans h.2.2.2.1 k.size, fun i hi h1 h2 => (k.block i hi).trans (h.2.2.2.2 i hi h1 h2)⟩
theorem RD.below19 {w w' : World} {p B K : Nat} {s : List Int × Bool} (h : RD w p B s) (hb : Below K w w') (h1 : p < K) (h2 : B ≤ K) : RD w' p B s := by
  obtain ⟨A, n, c, hx, hr, a1, a2, a3⟩ := h
  exact ⟨A, n, c, hx.below hb h1, hr.below (hb.mono h2), a1, a2, a3⟩
theorem DA.ot2 {w w' : World} {a p q : Nat} {g : Fm.Fr} (h : DA w a g) (ho : Ot2 p q w w') (h1 : p ≤ a) (h2 : q ≤ a) : DA w' a g := by
  have kc : ∀ b o v, a < b → w.cell? ⟨b, o, none⟩ = some v → w'.cell? ⟨b, o, none⟩ = some v := fun b o v hb hc => by
    have he := ho.2.2.2.2 b (World.block_lt_of_cell? w _ hc) (by omega) (by omega)
    rw [← hc]
    simp only [World.cell?, he]
  refine ⟨⟨⟨h.1.1.1, fun hn => ?_⟩, h.1.2.1, h.1.2.2.1, h.1.2.2.2⟩, ⟨h.2.1.1, fun hn => ?_⟩, h.2.2⟩
  · obtain ⟨b, o, e, hb, hc⟩ := h.1.1.2 hn
    exact ⟨b, o, e, Nat.lt_of_lt_of_le hb ho.2.2.2.1, fun j hj => kc b _ _ (h.1.2.2.2 b o e hn) (hc j hj)⟩
  · obtain ⟨b, o, e, hb, hc⟩ := h.2.1.2 hn
    exact ⟨b, o, e, Nat.lt_of_lt_of_le hb ho.2.2.2.1, fun j q hj => ⟨kc b _ _ (h.2.2 b o e hn) (hc j q hj).1, kc b _ _ (h.2.2 b o e hn) (hc j q hj).2⟩⟩
theorem app_rg19 {w : World} {base j c : Nat} {A : Option Addr} {l : List (Nat × Nat)} {x y : Nat} (i0 : TypeInfo) (hi : Try.prog.info? 64 = some i0) (hz0 : i0.zero = some (.agg #[.int .u64 0, .int .u64 0])) (hz1 : i0.size = 2) (hz2 : i0.bytes = 16) (ho : w.ownsRow base 64 2 (.slice A j c) j (Fm.rc2 l)) (hb : base ≤ w.heap.size) (hj : j ≤ 400000) :
    ∃ v3 w3, (Builtin.append_ #[40, 40] 40 #[.slice A j c, .slice (some ⟨w.heap.size, 0, none⟩) 1 1]).run Try.prog (w.alloc (.cells #[.int .u64 (x : Int), .int .u64 (y : Int)] 64)) = .ok v3 w3 ∧ w3.ownsRow base 64 2 v3 (j + 1) (Fm.rc2 l ++ [.int .u64 (x : Int), .int .u64 (y : Int)]) ∧ Below base w w3 := by
  have HOB := owns_below19 ho (Below.alloc (Below.refl _ _) (Nat.le_refl _) (.cells #[.int .u64 (x : Int), .int .u64 (y : Int)] 64))
  have HBB := Below.alloc (Below.refl base w) hb (.cells #[.int .u64 (x : Int), .int .u64 (y : Int)] 64)
  obtain ⟨v3, w3, h1, h2, h3, _⟩ := run_append_own (P := Try.prog) (w := w.alloc (.cells #[.int .u64 (x : Int), .int .u64 (y : Int)] 64)) base 40 40 64 i0 (.agg #[.int .u64 0, .int .u64 0]) 2 16 Try.underlying40 hi hz0 hz1 hz2 rfl (by decide) (.slice A j c) j (Fm.rc2 l) HOB ⟨w.heap.size, 0, none⟩ 1 1 [.int .u64 (x : Int), .int .u64 (y : Int)] rfl (news19 w 64 x y) (two_cells19 x y) (by unfold maxLen; omega) (by omega) (Nat.le_trans hb HBB.size)
  exact ⟨v3, w3, h1, h2, below_app HBB hb HOB h3⟩
/-- What a reading gives. -/
def DG (x : Int) (g : Fm.Fr) (s : Fm.Rs) (p hb B : Nat) (w : World) (e : Ending) (w' : World) : Prop :=
  e = .returned (.tuple #[]) ∧ ∃ g', BX w' hb 42 (Fm.FC g') ∧ Fm.er g' = (Fm.readE x (Fm.er g) s).1 ∧ g'.ln ∧ DA w' hb g' ∧ RD w' p B (Fm.readE x (Fm.er g) s).2 ∧ Ot2 p hb w w' ∧ (x ≠ 4 → g'.RA = g.RA ∧ g'.m = g.m ∧ g'.rc = g.rc)
section
variable {g : Fm.Fr} {w : World} {hb p B left : Nat} {s : Fm.Rs}
theorem read0_any19 (lg : g.ln) (bG : BX w hb 42 (Fm.FC g)) (dg : DA w hb g) (rd : RD w p B s) (hB : B ≤ p) (hp : p < hb) :
    Calls Try.prog 37 #[.int .i64 0, .pointer (some ⟨hb, 0, none⟩), .int .i64 left, takeV p] w (DG 0 g s p hb B w) := by
  have TA := Lib.hid (take_any19 8 p B s w rd hB (by omega))
  have BG := Lib.hid bG
  have HY := Lib.hid rd.byt
  have DGH := Lib.hid dg
  clear bG rd dg
  have eN : (((8 : Nat) : Int)) = 8 := rfl
  rw [eN] at TA
  clear eN
  obtain ⟨z, hz⟩ : ∃ z, Fm.ofL (Fm.tk 8 s) = z := ⟨_, rfl⟩
  have HZ := Lib.hid hz
  have z64 : z < 18446744073709551616 := by rw [← hz]; exact Fm.ofL_lt8 (Fm.tk_byt HY.out) (by rw [Fm.tk_len]; omega)
  clear hz
  go_enter Try.func37, Try.ntmps37
  go_wp2_with (first
    | (go_at_call 36; (with_reducible refine TA.out.mono ?_); rintro e w1 ⟨A1, c1, rfl, hr1, hc1, hm1, hrd1, ho1, hne1⟩; have HR1 := Lib.hid hr1; have HRD1 := Lib.hid hrd1; have HO1 := Lib.hid ho1; have BG1 := Lib.hid (BG.out.oth ho1 (Nat.ne_of_gt hp)); have DG1 := Lib.hid (DGH.out.oth' ho1 (Nat.le_of_lt hp)); have hq1 := FB.of BG1.out lg; have dd := hq1.c19; have ff := BG1.out.free 19; have NU := Lib.hid (number_any19 A1 8 c1 _ w1 hr1 (Fm.tk_byt HY.out) (by omega)); clear hq1 hr1; clear hrd1 ho1 hne1)
    | (go_at_call 51; (with_reducible refine NU.out.mono ?_); rintro e w2 ⟨rfl, rfl⟩; rw [HZ.out]))
  refine bodyPost_end (v := .tuple #[]) (by simp [results, Try.f37, go_sem]) rfl ?_
  have ho : Oth hb w1 (w1.setCell ⟨hb, 19, none⟩ (.int .u64 (z : Int))) := (Oth.refl hb w1).setCell 19 _
  exact ⟨rfl, { g with off := z }, (BG1.out.set 19 _).to (Fm.FC_off lg _), by rw [← HZ.out]; rfl, lg, DG1.out.oth ho, HRD1.out.oth ho (Nat.ne_of_lt hp) (by omega), (HO1.out.l2 hb).trans (ho.r2 p), fun _ => ⟨rfl, rfl, rfl⟩⟩
theorem read1_any19 (lg : g.ln) (bG : BX w hb 42 (Fm.FC g)) (dg : DA w hb g) (rd : RD w p B s) (hB : B ≤ p) (hp : p < hb) :
    Calls Try.prog 37 #[.int .i64 1, .pointer (some ⟨hb, 0, none⟩), .int .i64 left, takeV p] w (DG 1 g s p hb B w) := by
  have TA := Lib.hid (take_any19 8 p B s w rd hB (by omega))
  have BG := Lib.hid bG
  have HY := Lib.hid rd.byt
  have DGH := Lib.hid dg
  clear bG rd dg
  have eN : (((8 : Nat) : Int)) = 8 := rfl
  rw [eN] at TA
  clear eN
  obtain ⟨z, hz⟩ : ∃ z, Fm.ofL (Fm.tk 8 s) = z := ⟨_, rfl⟩
  have HZ := Lib.hid hz
  have z64 : z < 18446744073709551616 := by rw [← hz]; exact Fm.ofL_lt8 (Fm.tk_byt HY.out) (by rw [Fm.tk_len]; omega)
  clear hz
  go_enter Try.func37, Try.ntmps37
  go_wp2_with (first
    | (go_at_call 36; (with_reducible refine TA.out.mono ?_); rintro e w1 ⟨A1, c1, rfl, hr1, hc1, hm1, hrd1, ho1, hne1⟩; have HR1 := Lib.hid hr1; have HRD1 := Lib.hid hrd1; have HO1 := Lib.hid ho1; have BG1 := Lib.hid (BG.out.oth ho1 (Nat.ne_of_gt hp)); have DG1 := Lib.hid (DGH.out.oth' ho1 (Nat.le_of_lt hp)); have hq1 := FB.of BG1.out lg; have dd := hq1.c20; have ff := BG1.out.free 20; have NU := Lib.hid (number_any19 A1 8 c1 _ w1 hr1 (Fm.tk_byt HY.out) (by omega)); clear hq1 hr1; clear hrd1 ho1 hne1)
    | (go_at_call 51; (with_reducible refine NU.out.mono ?_); rintro e w2 ⟨rfl, rfl⟩; rw [HZ.out]))
  refine bodyPost_end (v := .tuple #[]) (by simp [results, Try.f37, go_sem]) rfl ?_
  have ho : Oth hb w1 (w1.setCell ⟨hb, 20, none⟩ (.int .u64 (z : Int))) := (Oth.refl hb w1).setCell 20 _
  exact ⟨rfl, { g with tot := z }, (BG1.out.set 20 _).to (Fm.FC_tot lg _), by rw [← HZ.out]; rfl, lg, DG1.out.oth ho, HRD1.out.oth ho (Nat.ne_of_lt hp) (by omega), (HO1.out.l2 hb).trans (ho.r2 p), fun _ => ⟨rfl, rfl, rfl⟩⟩
theorem read5_any19 (lg : g.ln) (bG : BX w hb 42 (Fm.FC g)) (dg : DA w hb g) (rd : RD w p B s) (hB : B ≤ p) (hp : p < hb) :
    Calls Try.prog 37 #[.int .i64 5, .pointer (some ⟨hb, 0, none⟩), .int .i64 left, takeV p] w (DG 5 g s p hb B w) := by
  have TA := Lib.hid (take_any19 1 p B s w rd hB (by omega))
  have BG := Lib.hid bG
  have HY := Lib.hid rd.byt
  have DGH := Lib.hid dg
  clear bG rd dg
  have eN : (((1 : Nat) : Int)) = 1 := rfl
  rw [eN] at TA
  clear eN
  obtain ⟨z, hz⟩ : ∃ z, Fm.ofL (Fm.tk 1 s) = z := ⟨_, rfl⟩
  have HZ := Lib.hid hz
  have z64 : z < 18446744073709551616 := by rw [← hz]; exact Fm.ofL_lt8 (Fm.tk_byt HY.out) (by rw [Fm.tk_len]; omega)
  have z8 : z < 256 := by rw [← hz]; exact Fm.ofL_lt 1 _ (Fm.tk_byt HY.out) Fm.tk_len
  have zw : IntKind.i64.wrap (z : Int) = (z : Int) := by rw [IntWalk.i64_in _ (by omega)]
  clear hz
  go_enter Try.func37, Try.ntmps37
  go_wp2_with (first
    | (go_at_call 36; (with_reducible refine TA.out.mono ?_); rintro e w1 ⟨A1, c1, rfl, hr1, hc1, hm1, hrd1, ho1, hne1⟩; have HR1 := Lib.hid hr1; have HRD1 := Lib.hid hrd1; have HO1 := Lib.hid ho1; have BG1 := Lib.hid (BG.out.oth ho1 (Nat.ne_of_gt hp)); have DG1 := Lib.hid (DGH.out.oth' ho1 (Nat.le_of_lt hp)); have hq1 := FB.of BG1.out lg; have dd := hq1.c55; have ff := BG1.out.free 55; have NU := Lib.hid (number_any19 A1 1 c1 _ w1 hr1 (Fm.tk_byt HY.out) (by omega)); clear hq1 hr1; clear hrd1 ho1 hne1)
    | (go_at_call 51; (with_reducible refine NU.out.mono ?_); rintro e w2 ⟨rfl, rfl⟩; rw [HZ.out]))
  refine bodyPost_end (v := .tuple #[]) (by simp [results, Try.f37, go_sem]) rfl ?_
  have ho : Oth hb w1 (w1.setCell ⟨hb, 55, none⟩ (.int .i64 (z : Int))) := (Oth.refl hb w1).setCell 55 _
  exact ⟨rfl, { g with cd := (z : Nat) }, (BG1.out.set 55 _).to (Fm.FC_code lg _), by rw [← HZ.out]; rfl, lg, DG1.out.oth ho, HRD1.out.oth ho (Nat.ne_of_lt hp) (by omega), (HO1.out.l2 hb).trans (ho.r2 p), fun _ => ⟨rfl, rfl, rfl⟩⟩
theorem read2_any19 (lg : g.ln) (bG : BX w hb 42 (Fm.FC g)) (dg : DA w hb g) (rd : RD w p B s) (hB : B ≤ p) (hp : p < hb) :
    Calls Try.prog 37 #[.int .i64 2, .pointer (some ⟨hb, 0, none⟩), .int .i64 left, takeV p] w (DG 2 g s p hb B w) := by
  have TA := Lib.hid (take_any19 32 p B s w rd hB (by omega))
  have BG := Lib.hid bG
  have HY := Lib.hid rd.byt
  have DGH := Lib.hid dg
  clear bG rd dg
  have eN : (((32 : Nat) : Int)) = 32 := rfl
  rw [eN] at TA
  clear eN
  have TL := Lib.hid (Fm.tk_len (m := 32) (s := s))
  obtain ⟨Y, hY⟩ : ∃ Y, Fm.tk 32 s = Y := ⟨_, rfl⟩
  have HYY := Lib.hid hY
  have hYl : Y.length = 32 := by rw [← hY]; exact TL.out
  clear hY
  go_enter Try.func37, Try.ntmps37
  go_wp2_with (go_at_call 36; (with_reducible refine TA.out.mono ?_); rintro e w1 ⟨A1, c1, rfl, hr1, hc1, hm1, hrd1, ho1, hne1⟩; have HR1 := Lib.hid hr1; have HRD1 := Lib.hid hrd1; have HO1 := Lib.hid ho1; have BG1 := Lib.hid (BG.out.oth ho1 (Nat.ne_of_gt hp)); have DG1 := Lib.hid (DGH.out.oth' ho1 (Nat.le_of_lt hp)); have hq1 := FB.of BG1.out lg; obtain ⟨b1, o1, rfl, hb1, _⟩ := hr1.at_ (k := 0) (by omega); have ll := load_rb19 hr1; have hat := fun W => run_arrayAt (P := Try.prog) W 39 5 32 (some ⟨b1, o1, none⟩) 32 c1 (by kernel_rfl) (Nat.le_refl _); rw [HYY.out] at ll; have st := run_store_part (P := Try.prog) BG1.out 21 (Y.map Fm.ub) (by rw [List.length_map, ← HYY.out, TL.out, Fm.FC_size lg]; omega) (Fm.ub_one _); clear hq1 hr1; clear hrd1 ho1 hne1)
  refine bodyPost_end (v := .tuple #[]) (by simp [results, Try.f37, go_sem]) rfl ?_
  have ho := Oth.setCells19 (a := hb) (Y.map Fm.ub) 21 w1 (Oth.refl hb w1)
  exact ⟨rfl, { g with sum := Y }, (BX.put (Y.map Fm.ub) 21 _ _ BG1.out).to (Fm.FC_sums lg _ (by rw [← HYY.out]; exact TL.out)), by rw [← HYY.out]; rfl, ⟨lg.1, by show Y.length = 32; rw [← HYY.out]; exact TL.out⟩, DG1.out.oth ho, HRD1.out.oth ho (Nat.ne_of_lt hp) (by omega), (HO1.out.l2 hb).trans (ho.r2 p), fun _ => ⟨rfl, rfl, rfl⟩⟩
theorem read3_any19 (lg : g.ln) (bG : BX w hb 42 (Fm.FC g)) (dg : DA w hb g) (rd : RD w p B s) (hB : B ≤ p) (hp : p < hb) (hs : s.1.length = left) (hl6 : left ≤ 600000) :
    Calls Try.prog 37 #[.int .i64 3, .pointer (some ⟨hb, 0, none⟩), .int .i64 left, takeV p] w (DG 3 g s p hb B w) := by
  have TA := Lib.hid (take_any19 left p B s w rd hB (by omega))
  have BG := Lib.hid bG
  have HY := Lib.hid rd.byt
  have DGH := Lib.hid dg
  clear bG rd dg
  have LT0 := Lib.hid BG.out.lt
  obtain ⟨Y, hY⟩ : ∃ Y, Fm.tk left s = Y := ⟨_, rfl⟩
  have HYY := Lib.hid hY
  have HS := Lib.hid hs
  clear hY hs
  go_enter Try.func37, Try.ntmps37
  go_wp2_with (first
    | (go_at_call 36; (with_reducible refine TA.out.mono ?_); rintro e w1 ⟨A1, c1, rfl, hr1, hc1, hm1, hrd1, ho1, hne1⟩; have HR1 := Lib.hid hr1; have HRD1 := Lib.hid hrd1; have HO1 := Lib.hid ho1; have BG1 := Lib.hid (BG.out.oth ho1 (Nat.ne_of_gt hp)); have DG1 := Lib.hid (DGH.out.oth' ho1 (Nat.le_of_lt hp)); have hq1 := FB.of BG1.out lg; have CL := Lib.hid (slclone_any A1 left c1 _ w1 hr1 (by omega)); have LT1 := Lib.hid BG1.out.lt; clear hq1 hr1; clear hrd1 ho1 hne1)
    | (go_at_call 48; (with_reducible refine CL.out.mono ?_); rintro e w2 ⟨v2, rfl, ho2, hb2⟩; obtain ⟨A2, c2, rfl, hr2, hc2, hm2⟩ := ho2.slice; have HN2 := Lib.hid (own_lt19 ho2 LT1.out); have HR2 := Lib.hid hr2; have HC2 := Lib.hid hc2; have HM2 := Lib.hid hm2; have BG2 := Lib.hid (BG1.out.later hb2); have HB2 := Lib.hid hb2; have dd := (FB.of BG2.out lg).c53; have ff := BG2.out.free 53; clear hr2 hc2 hm2 hb2 ho2))
  refine bodyPost_end (v := .tuple #[]) (by simp [results, Try.f37, go_sem]) rfl ?_
  have ho : Oth hb w2 (w2.setCell ⟨hb, 53, none⟩ (.slice A2 left c2)) := (Oth.refl hb w2).setCell 53 _
  have o1 : Oth hb w1 w2 := Oth.ofBelow HB2.out
  exact ⟨rfl, { g with A := A2, n := left, c := c2, xs := Fm.tk left s }, (BG2.out.set 53 _).to (Fm.FC_data lg _ _ _ _), by unfold Fm.readE; rw [if_neg (by decide), if_neg (by decide), if_neg (by decide), if_pos rfl, HS.out]; rfl, lg, ⟨⟨(HR2.out.oth19 ho (fun b o e h0 => Nat.ne_of_gt (HN2.out b o e h0))).more ho.2.2.2.1, HC2.out, HM2.out, HN2.out⟩, ((DG1.out.oth o1).oth ho).2⟩, by unfold Fm.readE; rw [if_neg (by decide), if_neg (by decide), if_neg (by decide), if_pos rfl, HS.out]; exact (HRD1.out.oth o1 (Nat.ne_of_lt hp) (by omega)).oth ho (Nat.ne_of_lt hp) (by omega), ((HO1.out.l2 hb).trans (o1.r2 p)).trans (ho.r2 p), fun _ => ⟨rfl, rfl, rfl⟩⟩
theorem read4_any19 (lg : g.ln) (bG : BX w hb 42 (Fm.FC g)) (dg : DA w hb g) (rd : RD w p B s) (hB : B ≤ p) (hp : p < hb) (hs : s.1.length = left) (hl6 : left ≤ 600000) (nr : g.RA = none ∧ g.m = 0 ∧ g.rc = 0) :
    Calls Try.prog 37 #[.int .i64 4, .pointer (some ⟨hb, 0, none⟩), .int .i64 left, takeV p] w (DG 4 g s p hb B w) := by
  have BG := Lib.hid bG
  have HY := Lib.hid rd.byt
  have DGH := Lib.hid dg
  have RDH := Lib.hid rd
  have HS := Lib.hid hs
  have hbs : hb < w.heap.size := bG.lt
  obtain ⟨i0, hi, hz0, hz1, hz2⟩ := info_parts info_rg
  obtain ⟨N, hN⟩ : ∃ N, (left + 15) / 16 = N := ⟨_, rfl⟩
  have HN := Lib.hid hN
  have hN2 : N ≤ 40000 := by omega
  have w1' : IntKind.i64.wrap ((left : Int) + 16) = (left : Int) + 16 := by rw [IntWalk.i64_in _ (by omega)]
  have w2' : IntKind.i64.wrap ((left : Int) + 16 - 1) = (left : Int) + 16 - 1 := by rw [IntWalk.i64_in _ (by omega)]
  have hq : ((left : Int) + 16 - 1).tdiv 16 = (N : Int) := by rw [Int.tdiv_eq_ediv_of_nonneg (by omega)]; omega
  have NR := Lib.hid nr
  have eN : (((8 : Nat) : Int)) = 8 := rfl
  have TAK := Lib.hid (fun W sj (h : RD W p B sj) => take_any19 8 p B sj W h hB (by omega))
  rw [eN] at TAK
  have B0 := Lib.hid (show BX w hb 42 (Fm.FC { g with RA := none, m := 0, rc := 0, rs := [] }) by
    have h := bG
    have e : Fm.FC g = Fm.FC { g with RA := none, m := 0, rc := 0, rs := [] } := by
      obtain ⟨n1, n2, n3⟩ := nr
      unfold Fm.FC Fm.L3
      rw [n1, n2, n3]
      rfl
    rw [← e]
    exact h)
  clear bG rd dg hs nr hN eN
  go_enter Try.func37, Try.ntmps37
  go_wp2
  go_loopw [51] (fun i W => ∃ (j : Nat) (A : Option Addr) (c : Nat) (l : List (Nat × Nat)) (sj : Fm.Rs), j ≤ N ∧ i = .int .i64 j ∧ Hid (Fm.rdR j [] s = (l, sj)) ∧ Hid (l.length = j ∧ ∀ q ∈ l, q.1 < 18446744073709551616 ∧ q.2 < 18446744073709551616) ∧ Hid (W.ownsRow w.heap.size 64 2 (.slice A j c) j (Fm.rc2 l)) ∧ Hid (BX W hb 42 (Fm.FC { g with RA := A, m := j, rc := c, rs := l })) ∧ Hid (RD W p B sj) ∧ Hid (Ot2 p hb w W)) (fun i _ => N - (intOf i).toNat)
  case atStart => exact ⟨0, none, 0, [], s, Nat.zero_le _, rfl, rfl, ⟨rfl, by simp⟩, World.ownsRow_nil _ _ _ _, B0.out, RDH.out, Ot2.refl _ _ _⟩
  case round =>
    obtain ⟨j, A, c, l, sj, hj, rfl, HRR, HLL, HOW, HBX, HRD, HOT⟩ := hrel
    by_cases hlt : j < N
    · have hlt' : (j : Int) < N := by omega
      have lgj : Fm.Fr.ln { g with RA := A, m := j, rc := c, rs := l } := lg
      have SN := Lib.hid (Fm.rdR_snoc j [] s)
      rw [HRR.out] at SN
      obtain ⟨x, hx⟩ : ∃ x, Fm.ofL (Fm.tk 8 sj) = x := ⟨_, rfl⟩
      obtain ⟨y, hy⟩ : ∃ y, Fm.ofL (Fm.tk 8 (Fm.lft 8 sj)) = y := ⟨_, rfl⟩
      have HX := Lib.hid hx
      have HYY := Lib.hid hy
      have YB := Lib.hid HRD.out.byt
      have x64 : x < 18446744073709551616 := by rw [← hx]; exact Fm.ofL_lt8 (Fm.tk_byt YB.out) (by rw [Fm.tk_len]; omega)
      have y64 : y < 18446744073709551616 := by rw [← hy]; exact Fm.ofL_lt8 (Fm.tk_byt (Fm.lft_byt YB.out)) (by rw [Fm.tk_len]; omega)
      have bq := fun W => run_build (P := Try.prog) W 64 #[(0, .int .u64 (x : Int)), (1, .int .u64 (y : Int))] #[.int .u64 (x : Int), .int .u64 (y : Int)] (by kernel_rfl)
      clear hx hy
      go_wp2_with (first
        | (go_at_call 36; (with_reducible refine (TAK.out _ _ HRD.out).mono ?_); rintro e w1 ⟨A1, c1, rfl, hr1, hc1, hm1, hrd1, ho1, hne1⟩; have HRD1 := Lib.hid hrd1; have HO1 := Lib.hid ho1; have HBX1 := Lib.hid (HBX.out.oth ho1 (Nat.ne_of_gt hp)); have HOW1 := Lib.hid (owns_oth19 HOW.out ho1 (by omega)); have NU1 := Lib.hid (number_any19 A1 8 c1 _ w1 hr1 (Fm.tk_byt YB.out) (by omega)); clear hr1 hrd1 ho1 hne1)
        | (go_at_call 51; (with_reducible refine NU1.out.mono ?_); rintro e w2 ⟨rfl, rfl⟩; rw [HX.out])
        | (go_at_call 36; (with_reducible refine (TAK.out _ _ HRD1.out).mono ?_); rintro e w2 ⟨A2, c2, rfl, hr2, hc2, hm2, hrd2, ho2, hne2⟩; have HO2 := Lib.hid (HO1.out.trans ho2); have HBX2 := Lib.hid (HBX1.out.oth ho2 (Nat.ne_of_gt hp)); have HOW2 := Lib.hid (owns_oth19 HOW1.out ho2 (by omega)); have NU2 := Lib.hid (number_any19 A2 8 c2 _ w2 hr2 (Fm.tk_byt (Fm.lft_byt YB.out)) (by omega)); have d54 := (FB.of HBX2.out lgj).c54; obtain ⟨v3, w3, hrun, hown, hb3⟩ := app_rg19 i0 hi hz0 hz1 hz2 HOW2.out (Nat.le_trans HOT.out.2.2.2.1 HO2.out.2.2.2.1) (x := x) (y := y) (by omega); obtain ⟨A3, c3, rfl, hc3, hm3⟩ := owns_slice19 hown; have HRUN := Lib.hid hrun; have HO3 := Lib.hid hown; have HB3 := Lib.hid hb3; have G3 := Lib.hid (HBX2.out.below hb3 hbs); have HRD3 := Lib.hid (RD.below19 hrd2 hb3 (by omega) (by omega)); have z54 : w3.cell? ⟨hb, 54, none⟩ = some (.slice A j c) := (FB.of G3.out lgj).c54; have f54 := G3.out.free 54; clear hr2 hrd2 ho2 hne2 hrun hown hb3)
        | (go_at_call 51; (with_reducible refine NU2.out.mono ?_); rintro e w9 ⟨rfl, rfl⟩; rw [HYY.out])
        | (at_builtin; refine Lib.wpList_append_run _ rfl _ _ 40 40 rfl _ _ rfl rfl _ _ HRUN.out ?_))
      go_roundw
      case rel => exact ⟨j + 1, A3, c3, l ++ [(x, y)], Fm.lft 8 (Fm.lft 8 sj), by omega, by go_num, by show _ = _; rw [SN.out, HX.out, HYY.out], ⟨by rw [List.length_append, HLL.out.1]; rfl, fun q hq => by
          rcases List.mem_append.1 hq with h | h
          · exact HLL.out.2 q h
          · have : q = (x, y) := by simpa using h
            subst this
            exact ⟨x64, y64⟩⟩, by show World.ownsRow _ _ _ _ _ _ _; rw [Fm.rc2_app]; exact ownsRow_setCell_below HO3.out (a := ⟨hb, 54, none⟩) hbs _, BX.to (G3.out.set 54 (.slice A3 (j + 1) c3)) (Fm.FC_rgs lgj A3 (j + 1) c3 (l ++ [(x, y)])), HRD3.out.oth ((Oth.refl hb w3).setCell 54 _) (Nat.ne_of_lt hp) (by omega), ((HOT.out.trans (HO2.out.l2 hb)).thenBelow HB3.out).trans (Oth.r2 ((Oth.refl hb w3).setCell 54 _) p)⟩
      case measure => simp [intOf]; omega
    · obtain rfl : j = N := by omega
      go_wp2
      refine bodyPost_end (v := .tuple #[]) (by simp [results, Try.f37, go_sem]) rfl ?_
      have e4 : Fm.readE 4 (Fm.er g) s = ({ Fm.er g with rs := l }, sj) := by
        unfold Fm.readE
        rw [if_neg (by decide), if_neg (by decide), if_neg (by decide), if_neg (by decide), if_pos rfl, HS.out, HN.out, HRR.out]
      have hd := DGH.out.ot2 HOT.out (Nat.le_of_lt hp) (Nat.le_refl _)
      refine ⟨rfl, { g with RA := A, m := j, rc := c, rs := l }, HBX.out, by rw [e4]; rfl, lg, ⟨hd.1, rg_own HOW.out HLL.out.1 HLL.out.2, fun b o e h0 => ?_⟩, by rw [e4]; exact HRD.out, HOT.out, fun h => absurd rfl h⟩
      rcases HOW.out.2 with ⟨e0, h1⟩ | ⟨gg, cap, cur, e0, hB2, _⟩
      · exact absurd h0 (by have : j = 0 := h1; show ¬ 0 < j; omega)
      · have e' : A = some ⟨b, o, none⟩ := e
        rw [e'] at e0
        cases e0
        omega
theorem readx_any19 {x : Int} (hx : 0 ≤ x ∧ x ≤ 5) (lg : g.ln) (bG : BX w hb 42 (Fm.FC g)) (dg : DA w hb g) (rd : RD w p B s) (hB : B ≤ p) (hp : p < hb) (hs : s.1.length = left) (hl6 : left ≤ 600000) (nr : x = 4 → g.RA = none ∧ g.m = 0 ∧ g.rc = 0) :
    Calls Try.prog 37 #[.int .i64 x, .pointer (some ⟨hb, 0, none⟩), .int .i64 left, takeV p] w (DG x g s p hb B w) := by
  have c : x = 0 ∨ x = 1 ∨ x = 2 ∨ x = 3 ∨ x = 4 ∨ x = 5 := by omega
  rcases c with rfl | rfl | rfl | rfl | rfl | rfl
  · exact read0_any19 lg bG dg rd hB hp
  · exact read1_any19 lg bG dg rd hB hp
  · exact read2_any19 lg bG dg rd hB hp
  · exact read3_any19 lg bG dg rd hB hp hs hl6
  · exact read4_any19 lg bG dg rd hB hp hs hl6 (nr rfl)
  · exact read5_any19 lg bG dg rd hB hp
end
end Go.Proofs.Ytjiafpmcibokbaa
