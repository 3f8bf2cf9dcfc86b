/- WALKS OF LAYER 12, THE PROGRAM, EIGHTH PART: Clone, Sum, Of. -/
import Derived.Test.YtfggknplekiaoaaDoorG12g
namespace Go.Proofs.YtfggknplekiaoaaDoor
open Go Go.RowKit
set_option maxHeartbeats 8000000
set_option maxRecDepth 100000
set_option linter.unusedVariables false
theorem scs_one (m : Bool) (wl : List Nat) (rl : List Int) (n : Nat) : ∀ v ∈ scs m wl rl n, v.oneCell' = true := by
  intro v hv
  unfold scs at hv
  rcases List.mem_append.1 hv with h | h
  · obtain rfl : v = .bool m := by simpa using h
    rfl
  · rcases List.mem_append.1 h with h | h
    · exact vw_one _ v h
    · rcases List.mem_append.1 h with h | h
      · exact vb_one _ v h
      · obtain rfl : v = .int .u64 n := by simpa using h
        rfl
theorem clone_any {a n : Nat} {wl : List Nat} {rl : List Int} (w : World) (h : SX w a wl rl n) :
    Calls Tryd.prog 13 #[.pointer (some ⟨a, 0, none⟩)] w fun e w' => e = .returned (.pointer (some ⟨w.heap.size, 0, none⟩)) ∧ SX w' w.heap.size wl rl n ∧ Below w.heap.size w w' := by
  have im := Lib.hid (isMade_any a w h.made)
  have hz : (scs true wl rl n).length = 74 := scs_len h.2.1 h.2.2
  obtain ⟨CL, hCL⟩ : ∃ CL, scs true wl rl n = CL := ⟨_, rfl⟩
  have hra : w.rangeAt a 0 CL := by rw [← hCL]; exact h.all
  have hone : CL.toArray.all (·.oneCell') = true := by rw [← hCL]; exact all_oneCell_toArray (scs_one _ _ _ _)
  rw [hCL] at hz
  have ti : (Tryd.prog.info? 43).map (·.size) = some CL.length := by rw [hz]; kernel_rfl
  have TI := Lib.hid ti; have HONE := Lib.hid hone; have HZ := Lib.hid hz; have HRA := Lib.hid hra
  have hfin : SX (w.alloc (.cells CL.toArray 43)) w.heap.size wl rl n := ⟨by rw [hCL]; exact BX.new w 43 CL.toArray, h.2⟩
  have HFIN := Lib.hid hfin
  clear ti hone hz hra hfin h hCL
  go_enter Tryd.func13, Tryd.ntmps13
  go_upto_region 3 with (first
    | (go_at_call 19; (with_reducible refine (im.out).mono ?_); rintro e w1 ⟨rfl, rfl⟩))
  refine wp_region_lit ?_
  refine wpList_plain rfl (fun K hK => ?_)
  go_simp
  refine hK _ _ ?_
  clear hK K
  refine wpList_plain rfl (fun K hK => ?_)
  go_simp
  refine hK _ _ ?_
  clear hK K
  refine wpList_load_mid rfl 43 (.tmp 8) rfl a 0 rfl CL _ HRA.out Tryd.underlying43 rfl TI.out ?_
  obtain ⟨CS, hCS⟩ : ∃ CS, CL.toArray = CS := ⟨_, rfl⟩
  have hst := fun (c : Array Value) (h : c.size = 74) => run_storeCells_new (P := Tryd.prog) w 43 c CS (by rw [← hCS, List.size_toArray]; exact TI.out) (by have := HZ.out; simp [← hCS]; omega) (by rw [← hCS]; exact HONE.out)
  have hcz : CS.size = 74 := by rw [← hCS, List.size_toArray, HZ.out]
  rw [hCS] at HFIN ⊢
  obtain ⟨Z0, hZ0⟩ : ∃ Z0, (scs false (List.replicate 8 0) (List.replicate 64 0) 0).toArray = Z0 := ⟨_, rfl⟩
  have hzv : ∀ W : World, (zeroValue 43).run Tryd.prog W = .ok (.agg Z0) W := fun W => by rw [← hZ0]; kernel_rfl
  have hz0 : Z0.size = 74 := by rw [← hZ0]; rfl
  clear hCS HRA hZ0
  go_wp2
  go_ret
  exact ⟨rfl, HFIN.out, (Below.refl _ _).alloc (Nat.le_refl _) _⟩
theorem sum_start {w : World} {CS : Array Value} {T T2 : TypeId} {wl : List Nat} {rl : List Int} {n : Nat} (h : CS = (scs true wl rl n).toArray) (h1 : wl.length = 8) (h2 : rl.length = 64) :
    YX ((w.alloc (.cells ((List.replicate 32 0).map vb).toArray T2)).alloc (.cells CS 43)) w.heap.size T2 (List.replicate 32 0) ∧
    SX ((w.alloc (.cells ((List.replicate 32 0).map vb).toArray T2)).alloc (.cells CS 43)) (w.heap.size + 1) wl rl n ∧
    Below w.heap.size w ((w.alloc (.cells ((List.replicate 32 0).map vb).toArray T2)).alloc (.cells CS 43)) ∧ ((w.alloc (.cells ((List.replicate 32 0).map vb).toArray T2)).alloc (.cells CS 43)).heap.size = w.heap.size + 1 + 1 := by
  subst h
  refine ⟨BX.alloc (BX.new w T2 _) _, ⟨?_, h1, h2⟩, ((Below.refl _ w).alloc (Nat.le_refl _) _).alloc (by simp) _, by simp⟩
  have := BX.new (w.alloc (.cells ((List.replicate 32 0).map vb).toArray T2)) 43 (scs true wl rl n).toArray
  simp only [World.size_alloc] at this
  exact this
theorem sum_any {a : Nat} (xs : List Int) (w : World) (kt : KT w) (h : SX w a (Dg.sw xs).l (Dg.rest xs) xs.length) (hx : Byt xs) (hn : xs.length ≤ 90000) :
    Calls Tryd.prog 11 #[.pointer (some ⟨a, 0, none⟩)] w fun e w' => e = .returned (.agg ((Dg.of xs).map vb).toArray) ∧ Below w.heap.size w w' := by
  have im := Lib.hid (fun (W : World) (hb : Below w.heap.size w W) => isMade_any a W (h.later hb).made)
  have hz : (scs true (Dg.sw xs).l (Dg.rest xs) xs.length).length = 74 := scs_len h.2.1 h.2.2
  obtain ⟨CL, hCL⟩ : ∃ CL, scs true (Dg.sw xs).l (Dg.rest xs) xs.length = CL := ⟨_, rfl⟩
  have hra : ∀ W, Below w.heap.size w W → W.rangeAt a 0 CL := fun W hb => by rw [← hCL]; exact (h.later hb).all
  have hcn : ∀ W, Below w.heap.size w W → W.cell? ⟨a, 73, none⟩ = some (.int .u64 (xs.length : Nat)) := fun W hb => (h.later hb).cnt
  have hone : CL.toArray.all (·.oneCell') = true := by rw [← hCL]; exact all_oneCell_toArray (scs_one _ _ _ _)
  rw [hCL] at hz
  have ti : (Tryd.prog.info? 43).map (·.size) = some CL.length := by rw [hz]; kernel_rfl
  obtain ⟨CS, hCS⟩ : ∃ CS, CL.toArray = CS := ⟨_, rfl⟩
  have hst := fun (c : Array Value) (h : c.size = 74) (W : World) => run_storeCells_new (P := Tryd.prog) W 43 c CS (by rw [← hCS, List.size_toArray]; exact ti) (by simp [← hCS]; omega) (by rw [← hCS]; exact hone)
  have hcz : CS.size = 74 := by rw [← hCS, List.size_toArray, hz]
  obtain ⟨Z0, hZ0⟩ : ∃ Z0, (scs false (List.replicate 8 0) (List.replicate 64 0) 0).toArray = Z0 := ⟨_, rfl⟩
  have hzv : ∀ W : World, (zeroValue 43).run Tryd.prog W = .ok (.agg Z0) W := fun W => by rw [← hZ0]; kernel_rfl
  have hz0 : Z0.size = 74 := by rw [← hZ0]; rfl
  have HBG := Lib.hid (sum_start (w := w) (CS := CS) (T := 40) (T2 := 25) (by rw [← hCS, ← hCL]) h.2.1 h.2.2)
  have hfl := Lib.hid (fun W => filling_any xs.length W (by omega))
  have htl := Dg.tail_len xs.length
  have hpl := Dg.pad_lt xs.length
  have HOF : Hid (Dg.out (Dg.sw (xs ++ Dg.tail xs.length)) = Dg.of xs) := Dg.sw_fill xs
  have hwr := Lib.hid (fun (W : World) (A : Option Addr) (c : Nat) (k : ∀ W', Oth (w.heap.size + 1) W W' → KT W') (h1 : SX W (w.heap.size + 1) (Dg.sw xs).l (Dg.rest xs) xs.length) (h2 : RN W (w.heap.size + 1) A (1 + Dg.pad xs.length + 8) (Dg.tail xs.length)) (h3 : 1 + Dg.pad xs.length + 8 ≤ c) (h4 : c ≤ maxLen) => write_any (w.heap.size + 1) A (1 + Dg.pad xs.length + 8) c xs (Dg.tail xs.length) W k h1 hx h2 (Dg.tail_byt _) h3 h4 (by omega))
  have hly := Lib.hid (fun W => lay_any12 (Dg.sw (xs ++ Dg.tail xs.length)) W (Dg.sw_ok _))
  rw [HOF.out] at hly
  have HTI := Lib.hid (show (Tryd.prog.info? 25).map (·.size) = some 32 by kernel_rfl)
  have HTW := Lib.hid (show (Tryd.prog.info? 40).map (·.size) = some 8 by kernel_rfl)
  have HRA := Lib.hid hra; have HCN := Lib.hid hcn; have KTH := Lib.hid kt; have TI := Lib.hid ti; have HST := Lib.hid hst; have HZV := Lib.hid hzv
  have hpm : 1 + Dg.pad xs.length + 8 ≤ 100 := by omega
  generalize 1 + Dg.pad xs.length + 8 = M at *
  clear hz hra hcn hone ti hst hZ0 hCL htl hpl h kt hzv
  generalize xs.length = N at *
  go_enter Tryd.func11, Tryd.ntmps11
  go_upto_region 3 with (first
    | (go_at_call 19; (with_reducible refine (im.out _ ((Below.refl _ w).alloc (Nat.le_refl _) _)).mono ?_); rintro e w1 ⟨rfl, rfl⟩))
  obtain ⟨W1, hW1⟩ : ∃ W1, w.alloc (.cells ((List.replicate 32 (0 : Int)).map vb).toArray 25) = W1 := ⟨_, rfl⟩
  have hsz1 : W1.heap.size = w.heap.size + 1 := by rw [← hW1]; simp
  have hb1 : Below w.heap.size w W1 := by rw [← hW1]; exact (Below.refl _ w).alloc (Nat.le_refl _) _
  change Code.wp _ _ _ _ (w.alloc (.cells ((List.replicate 32 (0 : Int)).map vb).toArray 25))
  rw [hW1] at HBG ⊢
  rw [← hsz1] at HBG hwr
  have HSZ := Lib.hid hsz1
  refine wp_region_lit ?_
  refine wpList_plain rfl (fun K hK => ?_)
  go_simp
  refine hK _ _ ?_
  clear hK K
  refine wpList_plain rfl (fun K hK => ?_)
  go_simp
  refine hK _ _ ?_
  clear hK K
  refine wpList_load_mid rfl 43 (.tmp 9) rfl a 0 rfl CL _ (HRA.out _ hb1) Tryd.underlying43 rfl TI.out ?_
  rw [hCS]
  have hst := fun (c : Array Value) (h : c.size = 74) => HST.out c h W1
  have hzv := HZV.out W1
  clear hW1 hsz1 hCS HRA HST HZV hb1 im
  go_upto_region 4 with (fail)
  generalize W1.alloc (.cells CS 43) = W2 at *
  generalize W1.heap.size = Z at *
  obtain ⟨y2, s2, b2, z2⟩ := HBG.out
  have c73 := HCN.out W2 b2
  have Y2 := Lib.hid y2; have S2 := Lib.hid s2; have B2 := Lib.hid b2; have Z2 := Lib.hid (show Z < W2.heap.size by rw [z2]; omega)
  have ZB := Lib.hid (show w.heap.size ≤ Z ∧ w.heap.size < Z by have := HSZ.out; omega)
  clear hst hzv HBG y2 s2 b2 z2 HCN HSZ
  go_upto_region 5 with (first
    | (go_at_call 21; (with_reducible refine (hfl.out _).mono ?_); rintro e w3 ⟨v, rfl, ho, hb3⟩; obtain ⟨A, c, rfl, hrn, hc1, hc2⟩ := RN.own (Z := Z) ho Z2.out; have S3 := Lib.hid (S2.out.later hb3); have Y3 := Lib.hid (BX.later Y2.out hb3); have B3 := Lib.hid (bthen B2.out hb3); have R3 := Lib.hid hrn; have K3 := Lib.hid (fun W' (ho : Oth Z w3 W') => KTH.out.on (B3.out.trans (ho.below ZB.out.1 B3.out.size))); clear hb3 ho hrn)
    | (go_at_call 10; (with_reducible refine (hwr.out w3 A c K3.out S3.out R3.out hc1 hc2).mono ?_); rintro e w4 ⟨rfl, hs4, ho4⟩; have S4 := Lib.hid hs4; have Y4 := Lib.hid (BX.oth Y3.out ho4 (Nat.ne_of_lt ZB.out.2)); have B4 := Lib.hid (B3.out.trans (ho4.below ZB.out.1 B3.out.size)); clear hs4 ho4))
  refine wp_region_lit ?_
  refine wpList_plain rfl (fun K hK => ?_)
  go_simp
  refine hK _ _ ?_
  clear hK K
  refine wpList_load_mid rfl 40 (.tmp 17) rfl Z 1 rfl ((Dg.sw (xs ++ Dg.tail N)).l.map vw) _ S4.out.words Tryd.underlying40 rfl (by rw [List.length_map, Dg.l_len]; exact HTW.out) ?_
  refine wpList_plain rfl (fun K hK => ?_)
  go_simp
  refine (hly.out _).mono ?_
  rintro e w5 ⟨rfl, hb5⟩
  have y5 := BX.later Y4.out hb5
  have b5 := bthen B4.out hb5
  have hol : (Dg.of xs).length = 32 := by rw [← HOF.out]; rfl
  refine hK _ _ ?_
  clear hK K
  try simp only [Act.put, List.setIfInBounds_toArray, List.set_cons_zero, List.set_cons_succ]
  refine wpList_store_mid rfl 25 (.tmp 2) (.tmp 19) rfl w.heap.size 0 ((Dg.of xs).map vb).toArray rfl rfl (by simpa [hol] using YX.there y5) (by simpa [hol] using HTI.out) (all_oneCell_toArray (vb_one _)) ?_
  refine wpList_nil ?_
  have hx2 : YX (w5.setCells w.heap.size 0 ((Dg.of xs).map vb).toArray.toList) w.heap.size 25 (Dg.of xs) := by
    have := YX.sets y5 (l' := Dg.of xs) (by rw [hol]; simp)
    simpa using this
  have hb2 : Below w.heap.size w (w5.setCells w.heap.size 0 ((Dg.of xs).map vb).toArray.toList) := below_sets (Nat.le_refl _) _ _ b5
  have rl := run_loadVar_mid (P := Tryd.prog) _ w.heap.size 0 25 _ _ (YX.range hx2) Tryd.underlying25 rfl (by rw [List.length_map, hol]; exact HTI.out)
  have RL := Lib.hid rl; have HB2 := Lib.hid hb2
  clear rl hb2 hx2 y5 b5
  generalize w5.setCells w.heap.size 0 ((Dg.of xs).map vb).toArray.toList = W6 at *
  obtain ⟨V, hV⟩ : ∃ V, Value.agg ((Dg.of xs).map vb).toArray = V := ⟨_, rfl⟩
  have HV := Lib.hid hV
  rw [hV] at RL ⊢
  clear hV
  go_wp2
  refine bodyPost_ret (v := V) ?_ rfl ⟨by rw [← HV.out], HB2.out⟩
  exact results_cell rfl _ _ ⟨w.heap.size, 0, none⟩ V rfl RL.out
end Go.Proofs.YtfggknplekiaoaaDoor
