/- WALKS OF LAYER 12, THE PROGRAM, NINTH PART: Of; a state that nobody made. -/
import Derived.Test.YtfggknplekiaoaaDoorG12h
namespace Go.Proofs.YtfggknplekiaoaaDoor
open Go Go.RowKit
set_option maxHeartbeats 8000000
set_option maxRecDepth 100000
set_option linter.unusedVariables false
theorem digof_any (A : Option Addr) (n c : Nat) (xs : List Int) (w : World) (kt : KT w) (ht : HT w) (ha : RB w w.heap.size A n xs) (hx : Byt xs) (hc : n ≤ c) (hc2 : c ≤ maxLen) (hn : n ≤ 80000) :
    Calls Tryd.prog 7 #[.slice A n c] w fun e w' => e = .returned (.agg ((Dg.of xs).map vb).toArray) ∧ Below w.heap.size w w' := by
  have KTH := Lib.hid kt; have HTH := Lib.hid ht; have HA := Lib.hid ha; have HX := Lib.hid hx
  have hxl := ha.1
  have HTI := Lib.hid (show (Tryd.prog.info? 25).map (·.size) = some 32 by kernel_rfl)
  have HOF : Hid (Dg.out (Dg.sw (xs ++ Dg.tail xs.length)) = Dg.of xs) := Dg.sw_fill xs
  have nw := Lib.hid (fun W h => new_any W h)
  have wr := Lib.hid (fun (W : World) (Z : Nat) (k : ∀ W', Oth Z W W' → KT W') (h1 : SX W Z Dg.H.l (List.replicate 64 0) 0) (h2 : RN W Z A n xs) => write_any Z A n c [] xs W k h1 Byt.nil h2 hx hc hc2 (by simp; omega))
  have sm := Lib.hid (fun (W : World) (Z : Nat) (k : KT W) (h : SX W Z (Dg.sw xs).l (Dg.rest xs) xs.length) => sum_any xs W k h hx (by omega))
  clear kt ht ha hx
  obtain ⟨W1, hW1⟩ : ∃ W1, w.alloc (.cells ((List.replicate 32 (0 : Int)).map vb).toArray 25) = W1 := ⟨_, rfl⟩
  have hsz1 : W1.heap.size = w.heap.size + 1 := by rw [← hW1]; simp
  have hb1 : Below w.heap.size w W1 := by rw [← hW1]; exact (Below.refl _ w).alloc (Nat.le_refl _) _
  have hy1 : YX W1 w.heap.size 25 (List.replicate 32 0) := by rw [← hW1]; exact BX.new w 25 _
  have HSZ := Lib.hid hsz1; have B1 := Lib.hid hb1; have Y1 := Lib.hid hy1
  go_enter Tryd.func7, Tryd.ntmps7
  go_upto_region 1 with (fail)
  change Code.wp _ _ _ _ (w.alloc (.cells ((List.replicate 32 (0 : Int)).map vb).toArray 25))
  rw [hW1]
  clear hW1 hsz1 hb1 hy1
  go_upto_region 3 with (first
    | (go_at_call 9; (with_reducible refine (nw.out _ (HTH.out.on B1.out)).mono ?_); rintro e w2 ⟨rfl, hs2, hb2⟩; have S2 := Lib.hid hs2; have Y2 := Lib.hid (BX.later Y1.out hb2); have B2 := Lib.hid (bthen B1.out hb2); have K2 := Lib.hid (fun W' (ho : Oth W1.heap.size w2 W') => KTH.out.on (B2.out.trans (ho.below (by have := HSZ.out; omega) B2.out.size))); have R2 := Lib.hid (RN.of (Z := W1.heap.size) (HA.out.below B2.out) (by have := HSZ.out; omega) B2.out.size); clear hs2 hb2)
    | (go_at_call 10; (with_reducible refine (wr.out w2 _ K2.out S2.out R2.out).mono ?_); rintro e w4 ⟨rfl, hs4, ho4⟩; rw [List.nil_append] at hs4; have S4 := Lib.hid hs4; have Y4 := Lib.hid (BX.oth Y2.out ho4 (by have := HSZ.out; omega)); have B4 := Lib.hid (B2.out.trans (ho4.below (by have := HSZ.out; omega) B2.out.size)); clear hs4 ho4))
  refine wp_region_lit ?_
  refine wpList_plain rfl (fun K hK => ?_)
  go_simp
  refine hK _ _ ?_
  clear hK K
  refine wpList_plain rfl (fun K hK => ?_)
  go_simp
  refine (sm.out _ _ (KTH.out.on B4.out) S4.out).mono ?_
  rintro e w5 ⟨rfl, hb5⟩
  have y5 := BX.later Y4.out hb5
  have b5 := bthen B4.out hb5
  have hol : (Dg.of xs).length = 32 := by rw [← HOF.out]; rfl
  refine hK _ _ ?_
  clear hK K
  try simp only [Act.put, List.setIfInBounds_toArray, List.set_cons_zero, List.set_cons_succ]
  refine wpList_store_mid rfl 25 (.tmp 2) (.tmp 9) rfl w.heap.size 0 ((Dg.of xs).map vb).toArray rfl rfl (by simpa [hol] using YX.there y5) (by simpa [hol] using HTI.out) (all_oneCell_toArray (vb_one _)) ?_
  refine wpList_nil ?_
  have hx2 : YX (w5.setCells w.heap.size 0 ((Dg.of xs).map vb).toArray.toList) w.heap.size 25 (Dg.of xs) := by
    have := YX.sets y5 (l' := Dg.of xs) (by rw [hol]; simp)
    simpa using this
  have hb2 : Below w.heap.size w (w5.setCells w.heap.size 0 ((Dg.of xs).map vb).toArray.toList) := below_sets (Nat.le_refl _) _ _ b5
  have rl := run_loadVar_mid (P := Tryd.prog) _ w.heap.size 0 25 _ _ (YX.range hx2) Tryd.underlying25 rfl (by rw [List.length_map, hol]; exact HTI.out)
  have RL := Lib.hid rl; have HB2 := Lib.hid hb2
  clear rl hb2 hx2 y5 b5
  generalize w5.setCells w.heap.size 0 ((Dg.of xs).map vb).toArray.toList = W6 at *
  obtain ⟨V, hV⟩ : ∃ V, Value.agg ((Dg.of xs).map vb).toArray = V := ⟨_, rfl⟩
  have HV := Lib.hid hV
  rw [hV] at RL ⊢
  clear hV
  go_wp2
  refine bodyPost_ret (v := V) ?_ rfl ⟨by rw [← HV.out], HB2.out⟩
  exact results_cell rfl _ _ ⟨w.heap.size, 0, none⟩ V rfl RL.out
/-- A STATE THAT NOBODY MADE. -/
def Nob (w : World) (p : Option Addr) : Prop := p = none ∨ ∃ a, p = some ⟨a, 0, none⟩ ∧ w.cell? ⟨a, 0, none⟩ = some (.bool false)
theorem Nob.on {w w' : World} {p : Option Addr} (h : Nob w p) (hb : Below w.heap.size w w') : Nob w' p := by
  rcases h with rfl | ⟨a, rfl, h⟩
  · exact .inl rfl
  · exact .inr ⟨a, rfl, (hb.cell (World.block_lt_of_cell? w _ h)).trans h⟩
theorem isMade_nob (p : Option Addr) (w : World) (h : Nob w p) :
    Calls Tryd.prog 19 #[.pointer p] w fun e w' => e = .returned (.bool false) ∧ w = w' := by
  rcases h with rfl | ⟨a, rfl, h⟩
  · exact isMade_nil w
  · exact isMade_not a w h
theorem write_nob (p : Option Addr) (A : Option Addr) (n c : Nat) (w : World) (h : Nob w p) :
    Calls Tryd.prog 10 #[.pointer p, .slice A n c] w fun e w' => e = .returned (.tuple #[]) ∧ w = w' := by
  have im := Lib.hid (isMade_nob p w h)
  go_enter Tryd.func10, Tryd.ntmps10
  go_wp2_with (go_at_call 19; (with_reducible refine (im.out).mono ?_); rintro e w1 ⟨rfl, rfl⟩)
  refine bodyPost_ret (v := .tuple #[]) (by simp [results, Tryd.f10, go_sem]) rfl ⟨rfl, rfl⟩
theorem len_nob (p : Option Addr) (w : World) (h : Nob w p) :
    Calls Tryd.prog 12 #[.pointer p] w fun e w' => e = .returned (.int .u64 0) ∧ w = w' := by
  have im := Lib.hid (isMade_nob p w h)
  go_enter Tryd.func12, Tryd.ntmps12
  go_wp2_with (go_at_call 19; (with_reducible refine (im.out).mono ?_); rintro e w1 ⟨rfl, rfl⟩)
  go_ret
  exact ⟨rfl, rfl⟩
theorem clone_nob (p : Option Addr) (w : World) (h : Nob w p) :
    Calls Tryd.prog 13 #[.pointer p] w fun e w' => e = .returned (.pointer none) ∧ w = w' := by
  have im := Lib.hid (isMade_nob p w h)
  go_enter Tryd.func13, Tryd.ntmps13
  go_wp2_with (go_at_call 19; (with_reducible refine (im.out).mono ?_); rintro e w1 ⟨rfl, rfl⟩)
  go_ret
  exact ⟨rfl, rfl⟩
theorem sum_nob (p : Option Addr) (w : World) (h : Nob w p) :
    Calls Tryd.prog 11 #[.pointer p] w fun e w' => e = .returned (.agg ((List.replicate 32 (0 : Int)).map vb).toArray) ∧ Below w.heap.size w w' := by
  have hb1 : Below w.heap.size w (w.alloc (.cells ((List.replicate 32 (0 : Int)).map vb).toArray 25)) := (Below.refl _ w).alloc (Nat.le_refl _) _
  have hy1 : YX (w.alloc (.cells ((List.replicate 32 (0 : Int)).map vb).toArray 25)) w.heap.size 25 (List.replicate 32 0) := BX.new w 25 _
  have im := Lib.hid (isMade_nob p _ (h.on hb1))
  have HTI := Lib.hid (show (Tryd.prog.info? 25).map (·.size) = some 32 by kernel_rfl)
  go_enter Tryd.func11, Tryd.ntmps11
  go_upto_region 2 with (first
    | (go_at_call 19; (refine (im.out).mono ?_); rintro e w1 ⟨rfl, rfl⟩))
  change Code.wp _ _ _ _ (w.alloc (.cells ((List.replicate 32 (0 : Int)).map vb).toArray 25))
  generalize w.alloc (.cells ((List.replicate 32 (0 : Int)).map vb).toArray 25) = W1 at *
  obtain ⟨ZS, hZS⟩ : ∃ ZS : List Int, List.replicate 32 (0 : Int) = ZS := ⟨_, rfl⟩
  have hzl : ZS.length = 32 := by rw [← hZS]; rfl
  refine wp_region_lit ?_
  refine wpList_build_to rfl 25 #[] rfl (ZS.map vb).toArray (by rw [← hZS]; kernel_rfl) ?_
  try simp only [Act.put, List.setIfInBounds_toArray, List.set_cons_zero, List.set_cons_succ]
  rw [hZS] at hy1
  refine wpList_store_mid rfl 25 (.tmp 2) (.tmp 7) rfl w.heap.size 0 (ZS.map vb).toArray rfl rfl (by simpa [hzl] using YX.there hy1) (by simpa [hzl] using HTI.out) (all_oneCell_toArray (vb_one _)) ?_
  refine wpList_nil ?_
  have hx2 : YX (W1.setCells w.heap.size 0 (ZS.map vb).toArray.toList) w.heap.size 25 ZS := by
    have := YX.sets hy1 (l' := ZS) rfl
    simpa using this
  have hb2 : Below w.heap.size w (W1.setCells w.heap.size 0 (ZS.map vb).toArray.toList) := below_sets (Nat.le_refl _) _ _ hb1
  have rl := run_loadVar_mid (P := Tryd.prog) _ w.heap.size 0 25 _ _ (YX.range hx2) Tryd.underlying25 rfl (by rw [List.length_map, hzl]; exact HTI.out)
  have RL := Lib.hid rl; have HB2 := Lib.hid hb2
  clear rl hb2 hx2 hy1 hb1
  generalize W1.setCells w.heap.size 0 (ZS.map vb).toArray.toList = W6 at *
  obtain ⟨V, hV⟩ : ∃ V, Value.agg (ZS.map vb).toArray = V := ⟨_, rfl⟩
  have HV := Lib.hid hV; have HZS := Lib.hid hZS
  rw [hV] at RL ⊢
  clear hV hZS
  go_wp2
  refine bodyPost_ret (v := V) ?_ rfl ⟨by rw [← HV.out, HZS.out], HB2.out⟩
  exact results_cell rfl _ _ ⟨w.heap.size, 0, none⟩ V rfl RL.out
end Go.Proofs.YtfggknplekiaoaaDoor
