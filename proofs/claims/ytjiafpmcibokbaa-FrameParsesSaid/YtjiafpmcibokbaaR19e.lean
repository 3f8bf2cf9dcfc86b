/- LAYER 19, the law's theirs: a frame of the document's as one of the program's. gen_r19e.py -/
import Derived.Test.YtjiafpmcibokbaaR19c
import Derived.Test.YtjiafpmcibokbaaR19d
import Derived.Test.YtjiafpmcibokbaaAp
namespace Go.Proofs.Ytjiafpmcibokbaa
open Go Go.RowKit
set_option maxHeartbeats 4000000
set_option maxRecDepth 100000
set_option linter.unusedVariables false
attribute [-go_sem] loadCellsFrom storeCells Instr.build
namespace Fm
theorem row32 {l : List Int} (h : l.length = 32) : ∃ s0 s1 s2 s3 s4 s5 s6 s7 s8 s9 s10 s11 s12 s13 s14 s15 s16 s17 s18 s19 s20 s21 s22 s23 s24 s25 s26 s27 s28 s29 s30 s31, l = [s0, s1, s2, s3, s4, s5, s6, s7, s8, s9, s10, s11, s12, s13, s14, s15, s16, s17, s18, s19, s20, s21, s22, s23, s24, s25, s26, s27, s28, s29, s30, s31] := by
  match l, h with
  | [s0, s1, s2, s3, s4, s5, s6, s7, s8, s9, s10, s11, s12, s13, s14, s15, s16, s17, s18, s19, s20, s21, s22, s23, s24, s25, s26, s27, s28, s29, s30, s31], _ => exact ⟨_, _, _, _, _, _, _, _, _, _, _, _, _, _, _, _, _, _, _, _, _, _, _, _, _, _, _, _, _, _, _, _, rfl⟩
/-- Ranges in cells. -/
def rc2 (l : List (Nat × Nat)) : List Value := (l.map fun p => [Value.int .u64 (p.1 : Int), Value.int .u64 (p.2 : Int)]).flatten
theorem rc2_app (l : List (Nat × Nat)) (p : Nat × Nat) : rc2 (l ++ [p]) = rc2 l ++ [.int .u64 (p.1 : Int), .int .u64 (p.2 : Int)] := by simp [rc2]
theorem rc2_len : ∀ l : List (Nat × Nat), (rc2 l).length = l.length * 2
  | [] => rfl
  | p :: l => by
    have := rc2_len l
    simp only [rc2, List.map_cons, List.flatten_cons, List.length_append, List.length_cons, List.length_nil] at this ⊢
    omega
theorem rc2_at : ∀ {l : List (Nat × Nat)} {j : Nat} {p : Nat × Nat}, l[j]? = some p → (rc2 l)[j * 2]? = some (.int .u64 (p.1 : Int)) ∧ (rc2 l)[j * 2 + 1]? = some (.int .u64 (p.2 : Int))
  | x :: t, 0, p, h => by
    obtain rfl : x = p := by simpa using h
    exact ⟨rfl, rfl⟩
  | x :: t, j + 1, p, h => by
    have := rc2_at (l := t) (j := j) (by simpa using h)
    have e : rc2 (x :: t) = .int .u64 (x.1 : Int) :: .int .u64 (x.2 : Int) :: rc2 t := by simp [rc2]
    rw [e, show (j + 1) * 2 = j * 2 + 1 + 1 by omega, show j * 2 + 1 + 1 + 1 = (j * 2 + 1) + 1 + 1 by omega]
    simpa using this
end Fm
theorem storeCells_two (a : Addr) (u v : Value) : storeCells a [u, v] = (do store (a.add 0) u; store (a.add 1) v; pure ()) := rfl
theorem loadCells_two (a : Addr) : loadCellsFrom a 0 2 #[] = (do let u ← load (a.add 0); let v ← load (a.add 1); pure #[u, v]) := rfl
attribute [local go_sem] storeCells_one storeCells_two loadCells_two
/-- A slice of ranges that the call has made. -/
theorem rg_own {w : World} {B : Nat} {e : TypeId} {A : Option Addr} {n c : Nat} {l : List (Nat × Nat)} (h : w.ownsRow B e 2 (.slice A n c) n (Fm.rc2 l)) (hl : l.length = n) (hb : ∀ p ∈ l, p.1 < 18446744073709551616 ∧ p.2 < 18446744073709551616) : RG w w.heap.size A n l := by
  have hh := h
  refine ⟨⟨hl, hb⟩, fun hn => ?_⟩
  rcases h.2 with ⟨e0, h0⟩ | ⟨g, cap, cur, e0, hB, hg, hnc, hcm, hcs, htake⟩
  · omega
  · cases e0
    refine ⟨g, 0, rfl, (World.ownsRow.lt hh g rfl).2, fun j p hj => ?_⟩
    obtain ⟨e0, e1⟩ := Fm.rc2_at hj
    have hjl := (List.getElem?_eq_some_iff.1 hj).1
    have hcl := Fm.rc2_len l
    have a0 := World.ownsRow.cellAt hh (j * 2) (by omega)
    have a1 := World.ownsRow.cellAt hh (j * 2 + 1) (by omega)
    rw [Nat.zero_add]
    rw [a0, a1]
    exact ⟨e0, e1⟩
theorem owns_puts19 {B size n a : Nat} {e : TypeId} {v : Value} {xs : List Value} (ha : a < B) : ∀ (vs : List Value) (o : Nat) (w : World), w.ownsRow B e size v n xs → (w.setCells a o vs).ownsRow B e size v n xs
  | [], _, _, h => h
  | u :: r, o, w, h => owns_puts19 ha r (o + 1) _ (ownsRow_setCell_below h (a := ⟨a, o, none⟩) ha u)
theorem size_puts19 {a : Nat} : ∀ (vs : List Value) (o : Nat) (w : World), (w.setCells a o vs).heap.size = w.heap.size
  | [], _, _ => rfl
  | u :: r, o, w => (size_puts19 r (o + 1) _).trans (World.size_setCell _ _ _)
theorem RG.put19 {w : World} {B : Nat} {e : TypeId} {A : Option Addr} {n c : Nat} {l : List (Nat × Nat)} (h : RG w w.heap.size A n l) (ho : w.ownsRow B e 2 (.slice A n c) n (Fm.rc2 l)) (a : Nat) (ha : a < B) (vs : List Value) (o : Nat) : RG (w.setCells a o vs) (w.setCells a o vs).heap.size A n l :=
  rg_own (owns_puts19 ha vs o w ho) h.1.1 h.1.2
theorem built_theirs (f : Fm.Fr) (hl : f.ln) :
    Try.prog.built 42 [(0, .int .i64 f.k), (1, .agg (f.tok.map Fm.ub).toArray), (2, .agg #[.int .u32 (f.s : Int), .int .u32 (f.r : Int)]), (3, .int .u64 (f.off : Int)), (4, .int .u64 (f.tot : Int)), (5, .agg (f.sum.map Fm.ub).toArray), (6, .slice f.A f.n f.c), (8, .int .i64 f.cd)] = some (Fm.FC { f with RA := none, m := 0, rc := 0, rs := [] }) := by
  obtain ⟨k, tok, s, r, off, tot, sum, A, n, c, xs, RA, m, rc, rs, cd⟩ := f
  obtain ⟨h1, h2⟩ := hl
  obtain ⟨a0, a1, a2, a3, a4, a5, a6, a7, a8, a9, aa, ab, ac, ad, ae, af, rfl⟩ := Fm.row16 h1
  obtain ⟨s0, s1, s2, s3, s4, s5, s6, s7, s8, s9, s10, s11, s12, s13, s14, s15, s16, s17, s18, s19, s20, s21, s22, s23, s24, s25, s26, s27, s28, s29, s30, s31, rfl⟩ := Fm.row32 h2
  kernel_rfl
theorem info_rg : (Try.prog.info? 64).map (fun i => (i.zero, i.size, i.bytes)) = some (some (.agg #[.int .u64 0, .int .u64 0]), 2, 16) := by kernel_rfl
theorem owns_below19 {w w' : World} {B size n : Nat} {e : TypeId} {v : Value} {xs : List Value} (h : w.ownsRow B e size v n xs) (hb : Below w.heap.size w w') : w'.ownsRow B e size v n xs := by
  refine ⟨h.1, ?_⟩
  have hh := h
  rcases h.2 with hl | ⟨g, cap, cur, rfl, hbg, hg, h1, h2, h3, h4⟩
  · exact .inl hl
  · exact .inr ⟨g, cap, cur, rfl, hbg, by rw [hb.block g (World.ownsRow.lt hh g rfl).2]; exact hg, h1, h2, h3, h4⟩
theorem owns_slice19 {w : World} {B size n : Nat} {e : TypeId} {v : Value} {xs : List Value} (h : w.ownsRow B e size v n xs) : ∃ A c, v = .slice A n c ∧ n ≤ c ∧ c ≤ maxLen := by
  rcases h.2 with ⟨rfl, h0⟩ | ⟨g, cap, cur, rfl, hbg, hg, h1, h2, h3, h4⟩
  · exact ⟨none, 0, by rw [h0], by omega, Nat.zero_le _⟩
  · exact ⟨_, cap, rfl, h1, h2⟩
theorem news19 (w : World) (e : TypeId) (x y : Nat) : ∀ (j : Nat) u, [Value.int .u64 (x : Int), Value.int .u64 (y : Int)][j]? = some u → (w.alloc (.cells #[.int .u64 (x : Int), .int .u64 (y : Int)] e)).cell? ((⟨w.heap.size, 0, none⟩ : Addr).add j) = some u := by
  intro j u hj
  rw [show (⟨w.heap.size, 0, none⟩ : Addr).add j = ⟨w.heap.size, j, none⟩ by unfold Addr.add; split <;> simp_all]
  have : j = 0 ∨ j = 1 := by
    have := (List.getElem?_eq_some_iff.1 hj).1
    simp at this
    omega
  rcases this with rfl | rfl
  · obtain rfl : Value.int .u64 (x : Int) = u := by simpa using hj
    exact (BX.new w e _).cell rfl
  · obtain rfl : Value.int .u64 (y : Int) = u := by simpa using hj
    exact (BX.new w e _).cell rfl
theorem two_cells19 (x y : Nat) : ∀ u ∈ [Value.int .u64 (x : Int), Value.int .u64 (y : Int)], u.oneCell' = true := by
  intro u hu
  have : u = .int .u64 (x : Int) ∨ u = .int .u64 (y : Int) := by simpa using hu
  rcases this with rfl | rfl <;> rfl
theorem theirs_any19 (f : Fm.Fr) (w : World) (hl : f.ln) (rf : RG w w.heap.size f.RA f.m f.rs) (hm : f.m ≤ 1000000) :
    Calls Try.prog 10 #[.agg (Fm.FC f)] w fun e w' => ∃ A c, e = .returned (.agg (Fm.FC { f with RA := A, rc := c })) ∧ RG w' w'.heap.size A f.m f.rs ∧ f.m ≤ c ∧ c ≤ maxLen ∧ Below w.heap.size w w' := by
  have q := fun o => FB.of ((BX.new w 31 (Fm.FC f)).alloc o) hl
  have c0 := fun o => (q o).c0
  have c17 := fun o => (q o).c17
  have c18 := fun o => (q o).c18
  have c19 := fun o => (q o).c19
  have c20 := fun o => (q o).c20
  have c53 := fun o => (q o).c53
  have c55 := fun o => (q o).c55
  have lt := fun o => (q o).ltok
  have lu := fun o => (q o).lsum
  have bm := fun W => run_build (P := Try.prog) W 42 #[(0, .int .i64 f.k), (1, .agg (f.tok.map Fm.ub).toArray), (2, .agg #[.int .u32 (f.s : Int), .int .u32 (f.r : Int)]), (3, .int .u64 (f.off : Int)), (4, .int .u64 (f.tot : Int)), (5, .agg (f.sum.map Fm.ub).toArray), (6, .slice f.A f.n f.c), (8, .int .i64 f.cd)] _ (built_theirs f hl)
  obtain ⟨g, hg⟩ : ∃ g, ({ f with RA := none, m := 0, rc := 0, rs := [] } : Fm.Fr) = g := ⟨_, rfl⟩
  have l3 : g.ln := by rw [← hg]; exact hl
  rw [hg] at bm
  have HG := Lib.hid hg
  clear hg
  have st := fun (c : Array Value) (o : Obj) (hc : c.size = 56) => run_storeCells_new (P := Try.prog) ((w.alloc (.cells (Fm.FC f) 31)).alloc o) 42 c (Fm.FC g) (by rw [Fm.FC_size l3]; kernel_rfl) (by rw [Fm.FC_size l3]; exact hc) (Fm.FC_one _)
  simp only [World.size_alloc] at st
  have sz := Fm.FC_size l3
  clear q
  go_enter Try.func10, Try.ntmps10
  go_upto_region 2 with (fail)
  have bF : BX (((w.alloc (.cells (Fm.FC f) 31)).alloc (.cells (Fm.FC Fm.nul) 42)).alloc (.cells (Fm.FC g) 42)) w.heap.size 31 (Fm.FC f) := ((BX.new w _ _).alloc _).alloc _
  have bZ : BX (((w.alloc (.cells (Fm.FC f) 31)).alloc (.cells (Fm.FC Fm.nul) 42)).alloc (.cells (Fm.FC g) 42)) (w.heap.size + 1) 42 (Fm.FC Fm.nul) := by
    have h := (BX.new (w.alloc (.cells (Fm.FC f) 31)) 42 (Fm.FC Fm.nul)).alloc (.cells (Fm.FC g) 42)
    simpa using h
  have bG : BX (((w.alloc (.cells (Fm.FC f) 31)).alloc (.cells (Fm.FC Fm.nul) 42)).alloc (.cells (Fm.FC g) 42)) (w.heap.size + 1 + 1) 42 (Fm.FC g) := by
    have h := BX.new ((w.alloc (.cells (Fm.FC f) 31)).alloc (.cells (Fm.FC Fm.nul) 42)) 42 (Fm.FC g)
    simpa using h
  have bW : Below w.heap.size w (((w.alloc (.cells (Fm.FC f) 31)).alloc (.cells (Fm.FC Fm.nul) 42)).alloc (.cells (Fm.FC g) 42)) := (((Below.refl _ w).alloc (Nat.le_refl _) _).alloc (by simp) _).alloc (by simp; omega) _
  have sW : (((w.alloc (.cells (Fm.FC f) 31)).alloc (.cells (Fm.FC Fm.nul) 42)).alloc (.cells (Fm.FC g) 42)).heap.size = w.heap.size + 3 := by simp
  change Code.wp _ _ _ _ (((w.alloc (.cells (Fm.FC f) 31)).alloc (.cells (Fm.FC Fm.nul) 42)).alloc (.cells (Fm.FC g) 42))
  clear c0 c17 c18 c19 c20 c53 c55 lt lu bm st sz
  generalize (((w.alloc (.cells (Fm.FC f) 31)).alloc (.cells (Fm.FC Fm.nul) 42)).alloc (.cells (Fm.FC g) 42)) = W1 at *
  have c54 := (FB.of bF hl).c54
  have SW := Lib.hid sW
  obtain ⟨i0, hi, hz0, hz1, hz2⟩ := info_parts info_rg
  have HRL := Lib.hid rf.1.1
  have HRB := Lib.hid rf.1.2
  go_wp2
  go_loopw [5, 26] (fun _ i W => ∃ (j : Nat) (A : Option Addr) (c : Nat), j ≤ f.m ∧ i = .int .i64 j ∧ Hid (W.ownsRow (w.heap.size + 3) 64 2 (.slice A j c) j (Fm.rc2 (f.rs.take j))) ∧ Hid (BX W (w.heap.size + 1 + 1) 42 (Fm.FC { f with RA := A, m := j, rc := c, rs := f.rs.take j })) ∧ Hid (BX W (w.heap.size + 1) 42 (Fm.FC Fm.nul)) ∧ Hid (Below w.heap.size w W) ∧ Hid (w.heap.size + 3 ≤ W.heap.size)) (fun _ i _ => f.m - (intOf i).toNat)
  case atStart => exact ⟨0, none, 0, Nat.zero_le _, rfl, World.ownsRow_nil _ _ _ _, by rw [← HG.out] at bG; exact bG, bZ, bW, Nat.le_of_eq SW.out.symm⟩
  case round =>
    obtain ⟨j, A, c, hj, rfl, HO, HBG, HBZ, HBW, HSZ⟩ := hrel
    clear bF bZ bG bW c54 sW
    by_cases hlt : j < f.m
    · have hlt' : (j : Int) < f.m := by omega
      generalize f.RA = RA1 at *
      obtain ⟨b1, o1, p1, rfl, hb1, hp1, p1a, p1b, c1, c2⟩ := (rf.below HBW.out).at_ hlt
      obtain ⟨x1, y1⟩ := p1
      simp only at c1 c2 p1a p1b
      have TK1 := Lib.hid (show f.rs.take (j + 1) = f.rs.take j ++ [(x1, y1)] by rw [List.take_add_one, hp1]; rfl)
      clear hp1
      have hlj : (f.rs.take j).length = j := by rw [List.length_take, HRL.out]; omega
      have HB1 := Lib.hid (Below.alloc (Below.refl (w.heap.size + 3) wr) HSZ.out (.cells #[.int .u64 (x1 : Int), .int .u64 (y1 : Int)] 71))
      have HB2 := Lib.hid (HB1.out.alloc (by have := HSZ.out; simp; omega) (.cells #[.int .u64 (x1 : Int), .int .u64 (y1 : Int)] 64))
      have HO2 := Lib.hid (show World.ownsRow ((wr.alloc (.cells #[.int .u64 (x1 : Int), .int .u64 (y1 : Int)] 71)).alloc (.cells #[.int .u64 (x1 : Int), .int .u64 (y1 : Int)] 64)) (w.heap.size + 3) 64 2 (.slice A j c) j (Fm.rc2 (f.rs.take j)) from owns_below19 (owns_below19 HO.out (Below.alloc (Below.refl _ _) (Nat.le_refl _) _)) (Below.alloc (Below.refl _ _) (Nat.le_refl _) _))
      have NEWS := Lib.hid (news19 (wr.alloc (.cells #[.int .u64 (x1 : Int), .int .u64 (y1 : Int)] 71)) 64 x1 y1)
      rw [show (wr.alloc (.cells #[.int .u64 (x1 : Int), .int .u64 (y1 : Int)] 71)).heap.size = wr.heap.size + 1 by simp] at NEWS
      have d54 : wr.cell? ⟨w.heap.size + 1 + 1, 54, none⟩ = some (.slice A j c) := (FB.of HBG.out hl).c54
      have e54 : (wr.alloc (.cells #[.int .u64 (x1 : Int), .int .u64 (y1 : Int)] 71)).cell? ⟨w.heap.size + 1 + 1, 54, none⟩ = some (.slice A j c) := (FB.of (HBG.out.alloc _) hl).c54
      go_wp2_with (at_builtin; refine wpList_append_own _ rfl _ _ 40 rfl (w.heap.size + 3) 64 i0 (.agg #[.int .u64 0, .int .u64 0]) 2 16 Try.underlying40 hi hz0 hz1 hz2 rfl (by decide) (.slice A j c) j (Fm.rc2 (f.rs.take j)) rfl HO2.out ⟨wr.heap.size + 1, 0, none⟩ 1 1 [.int .u64 (x1 : Int), .int .u64 (y1 : Int)] rfl rfl NEWS.out (two_cells19 x1 y1) (by unfold maxLen; omega) (by omega) (by have := HB2.out.size; have := HSZ.out; omega) ?_; intro v3 w3 hown3 hgrow3 hnil3; obtain ⟨A3, c3, rfl, hc3, hm3⟩ := owns_slice19 hown3; have HB3 := Lib.hid (below_app HB2.out HSZ.out HO2.out hgrow3); have HO3 := Lib.hid hown3; have G3 := Lib.hid (HBG.out.below HB3.out (by omega)); have z54 : w3.cell? ⟨w.heap.size + 1 + 1, 54, none⟩ = some (.slice A j c) := (FB.of G3.out hl).c54; have f54 := G3.out.free 54; clear hown3 hgrow3 hnil3)
      go_roundw
      case rel => exact ⟨j + 1, A3, c3, by omega, by go_num, by show World.ownsRow _ _ _ _ _ _ _; rw [TK1.out, Fm.rc2_app]; exact ownsRow_setCell_below HO3.out (by show w.heap.size + 1 + 1 < w.heap.size + 3; omega) _, BX.to (G3.out.set 54 (.slice A3 (j + 1) c3)) (Fm.FC_rgs (f := { f with RA := A, m := j, rc := c, rs := f.rs.take j }) hl A3 (j + 1) c3 (f.rs.take (j + 1))), (HBZ.out.below HB3.out (by omega)).other (by omega) _, (HBW.out.trans (HB3.out.mono (by omega))).setCell (by show w.heap.size ≤ w.heap.size + 1 + 1; omega) _, by show _ ≤ _; rw [World.size_setCell]; exact Nat.le_trans HSZ.out HB3.out.size⟩
      case measure => simp [intOf]; omega
    · obtain rfl : j = f.m := by omega
      have htk : f.rs.take f.m = f.rs := List.take_of_length_le (by rw [HRL.out]; exact Nat.le_refl _)
      rw [htk] at HO HBG
      obtain ⟨_, _, e0, hcc, hcm⟩ := owns_slice19 HO.out
      cases e0
      have hb : Fm.Fr.ln { f with RA := A, m := f.m, rc := c, rs := f.rs } := hl
      have RR := Lib.hid (rg_own HO.out HRL.out HRB.out)
      obtain ⟨h, hh⟩ : ∃ h, ({ f with RA := A, m := f.m, rc := c, rs := f.rs } : Fm.Fr) = h := ⟨_, rfl⟩
      rw [hh] at HBG hb
      have HH := Lib.hid hh
      clear hh htk
      have sz := Fm.FC_size hb
      have la := run_cells_part (P := Try.prog) HBG.out 0 _ 56 sz (fun j _ => by rw [Nat.zero_add])
      have ss := run_store_part (P := Try.prog) HBZ.out 0 (Fm.FC h).toList (by rw [Array.length_toList, sz, Fm.FC_size Fm.nul_ln]; decide) (fun v hv => (Array.all_eq_true_iff_forall_mem.1 (Fm.FC_one _)) v (by simpa using hv))
      have b3 : BX (wr.setCells (w.heap.size + 1) 0 (Fm.FC h).toList) (w.heap.size + 1) 42 (Fm.FC h) := by
        have h2 := BX.put (Fm.FC h).toList 0 _ _ HBZ.out
        have h3 := Fm.putL_mid (Fm.FC h).toList (Fm.FC Fm.nul).toList [] [] (by rw [Array.length_toList, Array.length_toList, sz, Fm.FC_size Fm.nul_ln])
        exact h2.to (by simpa using h3)
      have lr := run_cells_part (P := Try.prog) b3 0 _ 56 sz (fun j _ => by rw [Nat.zero_add])
      have BR := Lib.hid (Below.setCells (a := w.heap.size + 1) (by omega) (Fm.FC h).toList 0 _ HBW.out)
      have RS := Lib.hid (RG.put19 RR.out HO.out (w.heap.size + 1) (by omega) (Fm.FC h).toList 0)
      clear b3
      go_wp2
      refine bodyPost_ret (v := .agg (Fm.FC h)) (by simp [results, Try.f10, go_sem, lr]) rfl ⟨A, c, by rw [← HH.out], RS.out, hcc, hcm, BR.out⟩
end Go.Proofs.Ytjiafpmcibokbaa
