/- WALKS OF LAYER 3, THE LAWS: HsumAlone. -/
import Derived.Test.YthnkjmckdcmjpaaDoorL3b
namespace Go.Proofs.YthnkjmckdcmjpaaDoor
open Go.RowKit
set_option maxHeartbeats 1600000
set_option maxRecDepth 100000
theorem field_in (X F : List Int) (hx : X.length = 512) (hf : F.length = 8) : (X.take 148 ++ F ++ X.drop 156).length = 512 ∧ Hs.psum (X.take 148 ++ F ++ X.drop 156) 512 = Hs.psum X 512 := by
  refine ⟨by simp [hx, hf], Hs.psum_congr _ _ _ fun j _ hj => ?_⟩
  simp only [List.getD, List.append_assoc]
  by_cases h1 : j < 148
  · rw [List.getElem?_append_left (by simp [hx]; omega), List.getElem?_take, if_pos h1]
  · rw [← List.append_assoc]
    have e : (X.take 148 ++ F).length = 156 := by simp [hx, hf]
    rw [List.getElem?_append_right (by rw [e]; omega), List.getElem?_drop, e, show 156 + (j - 156) = j from by omega]
theorem byt_in (X F : List Int) (hx : Byt X) (hf : Byt F) : Byt (X.take 148 ++ F ++ X.drop 156) := by
  refine Byt.append (Byt.append ?_ hf) (hx.drop _)
  intro j
  simp only [List.getD, List.getElem?_take]
  split
  · exact hx j
  · simp
theorem OBn.rb512 {w : World} {base g c : Nat} {e : TypeId} {xs : List Int} (h : OBn w base e (.slice (some ⟨g, 0, none⟩) 512 c) 512 xs) : RB w w.heap.size (some ⟨g, 0, none⟩) 512 xs := by
  have hl := h.len
  obtain ⟨A, c, e, hr, _, _⟩ := h.ob.rb
  rw [hl] at e hr
  cases e
  exact hr
theorem alone_walk (A : Option Addr) (n c : Nat) (xs : List Int) (B : Option Addr) (m e : Nat) (ys : List Int) (at' d : Int) (w : World) (ha : RB w w.heap.size A n xs) (hx : Byt xs) (hb : RB w w.heap.size B m ys) (hy : Byt ys) (ha0 : 0 ≤ at') (ha1 : at' ≤ 65535) (hd0 : 0 ≤ d) (hd1 : d ≤ 255) :
    Calls Tryd.prog 5 #[.agg #[.slice A n c, .slice B m e], .int .u16 at', .int .u8 d] w fun e w' => e = .returned (.bool true) ∧ Below w.heap.size w w' := by
  obtain ⟨i0, hi, hz0, hz1, hz2⟩ := info_parts info_u8
  have hbu : ∀ o q, Below w.heap.size w ((w.alloc o).drewN q) := fun o q => below_drewN ((Below.refl _ w).alloc (Nat.le_refl _) o) q
  have HBU := Lib.hid hbu; clear hbu
  by_cases hn : (n : Int) ≤ 1000
  · by_cases hm : (m : Int) ≤ 1000
    · have bla := fun W (hW : Below w.heap.size w W) => block_any A n c xs W ((ha.below hW).more hW.size) (by omega)
      have blb := fun W (hW : Below w.heap.size w W) => block_any B m e ys W ((hb.below hW).more hW.size) (by omega)
      have hXl := Hs.len_blk xs
      have hXb := Hs.byt_blk xs hx
      have hYl := Hs.len_blk ys
      have hYb := Hs.byt_blk ys hy
      generalize Hs.blk xs = X at *
      generalize Hs.blk ys = Y at *
      have hFl : (Hs.field Y).length = 8 := by unfold Hs.field; rw [List.length_take, List.length_drop, hYl]; omega
      have hFb := byt_field hYb
      have hYf := fun (w : World) B g c (h : OBn w B 5 (.slice (some ⟨g, 0, none⟩) 512 c) 512 Y) => h.rb512.field
      generalize Hs.field Y = F at *
      have BLA := Lib.hid bla; have BLB := Lib.hid blb; have HXL := Lib.hid hXl; have HXB := Lib.hid hXb; have HFL := Lib.hid hFl; have HFB := Lib.hid hFb; have HYF := Lib.hid hYf
      clear bla blb hXl hXb hYl hYb hFl hFb hYf
      have him : 0 ≤ at' % 512 ∧ at' % 512 < 512 := by omega
      obtain ⟨i, hi2⟩ : ∃ i : Nat, at' % 512 = (i : Int) := ⟨(at' % 512).toNat, by omega⟩
      have hil : i < 512 := by omega
      have hX0 := Hs.psum_bd X HXB.out 512
      have hx0 := HXB.out i
      have hset := Hs.psum_set X i d (by rw [HXL.out]; exact hil) 512
      have hDl : (X.set i d).length = 512 := by rw [List.length_set]; exact HXL.out
      have hDb : Byt (X.set i d) := HXB.out.set i d ⟨hd0, hd1⟩
      obtain ⟨hCl, hCs⟩ := field_in X F HXL.out HFL.out
      have hCb := byt_in X F HXB.out HFB.out
      have sx := fun (A : Option Addr) (c : Nat) (W : World) (h : RB W W.heap.size A 512 X) => hsum_any A 512 c X W h HXB.out
      have sd := fun (A : Option Addr) (c : Nat) (W : World) (h : RB W W.heap.size A 512 (X.set i d)) => hsum_any A 512 c _ W h hDb
      have sc := fun (A : Option Addr) (c : Nat) (W : World) (h : RB W W.heap.size A 512 (X.take 148 ++ F ++ X.drop 156)) => hsum_any A 512 c _ W h hCb
      rw [show Hs.sumS X = (Hs.psum X 512, 0) from by unfold Hs.sumS; rw [if_pos HXL.out]] at sx
      rw [show Hs.sumS (X.set i d) = (Hs.psum (X.set i d) 512, 0) from by unfold Hs.sumS; rw [if_pos hDl]] at sd
      rw [show Hs.sumS (X.take 148 ++ F ++ X.drop 156) = (Hs.psum X 512, 0) from by unfold Hs.sumS; rw [if_pos hCl, hCs]] at sc
      simp only at sx sd sc
      generalize Hs.psum X 512 = S at *
      obtain ⟨x, hxi⟩ : ∃ x, X.getD i 0 = x := ⟨_, rfl⟩
      rw [hxi] at hset hx0
      generalize Hs.psum (X.set i d) 512 = K at *
      have SX := Lib.hid sx; have SD := Lib.hid sd; have SC := Lib.hid sc; have HXI := Lib.hid hxi; have HIL := Lib.hid hil; have HSET := Lib.hid hset
      clear sx sd sc hxi hCl hCs hCb hDl hDb hset
      go_enter Tryd.func5, Tryd.ntmps5
      go_wp2_with fail
      go_quiet (fail)
      go_wp2_with (first
        | (go_at_call 7; (with_reducible refine (BLA.out _ (HBU.out _ _)).mono ?_); rintro e w1 ⟨v1, rfl, ho1, hb1⟩
           obtain ⟨g1, c1, cur1, rfl, hbg1, hlt1, _, hlc1, hcm1, _, _⟩ := ho1.shape (by omega)
           have hbw1 := bthen (HBU.out _ _) hb1)
        | (go_at_call 7; (with_reducible refine (BLA.out _ hbw1).mono ?_); rintro e w2 ⟨v2, rfl, ho2, hb2⟩
           obtain ⟨g2, c2, cur2, rfl, hbg2, hlt2, hheap2, hlc2, hcm2, hcs2, htk2⟩ := ho2.shape (by omega)
           have hbw2 := bthen hbw1 hb2))
      obtain ⟨l2, rfl⟩ : ∃ l : List Value, cur2 = l.toArray := ⟨cur2.toList, by simp⟩
      have hl2 : l2.length = c2 := by simpa using hcs2
      have htk3 : l2.take 512 = X.map (Value.int .u8) := by simpa using htk2
      have hcE : ¬ c2 = 148 := by omega
      have hcI : (156 : Int) ≤ (c2 : Int) := by omega
      have HO1 := Lib.hid ho1; have HG1 := Lib.hid hbg1; have HLT1 := Lib.hid hlt1; have HLC1 := Lib.hid hlc1; have HCM1 := Lib.hid hcm1; have HBW1 := Lib.hid hbw1
      have HG2 := Lib.hid hbg2; have HLT2 := Lib.hid hlt2; have HH2 := Lib.hid hheap2; have HLC2 := Lib.hid hlc2; have HCM2 := Lib.hid hcm2; have HL2 := Lib.hid hl2; have HT2 := Lib.hid htk3; have HBW2 := Lib.hid hbw2; have HB2 := Lib.hid hb2
      clear ho1 hbg1 hlt1 hlc1 hcm1 hbw1 hbg2 hlt2 hheap2 hlc2 hcm2 hl2 htk3 hbw2 hb2 ho2 hcs2 htk2
      have hfl2 : (F.map (Value.int .u8)).length = 8 := by rw [List.length_map]; exact HFL.out
      have HFL2 := Lib.hid hfl2; clear hfl2
      go_region_law (first
        | (go_simp
           go_at_call 7
           refine (BLB.out _ HBW2.out.drew).mono ?_
           rintro e w3 ⟨v3, rfl, ho3, hb3⟩
           obtain ⟨g3, c3, cur3, rfl, hbg3, hlt3, _, hlc3, hcm3, _, _⟩ := ho3.shape (by omega)
           have hc3E : ¬ c3 = 148 := by omega
           have hc3I : (156 : Int) ≤ (c3 : Int) := by omega
           have hnews3 := (HYF.out _ _ _ _ ho3).news
           have hr3 : w3.heap[g2]? = some (.cells l2.toArray 5 (0, 0)) := (hb3.block g2 HLT2.out).trans HH2.out
           have hb13 : Below w1.heap.size w1 w3 := bthen HB2.out.drew hb3
           have HN3 := Lib.hid hnews3; have HR3 := Lib.hid hr3; have HB13 := Lib.hid hb13
           clear hnews3 hr3 hb13 ho3 hb3 hbg3 hlt3 hlc3 hcm3)
        | (refine step_copy_splice rfl (.tmp 38) (.tmp 41) 22 22 rfl 5 Tryd.underlying22 (by kernel_rfl) (some ⟨g2, 148, none⟩) (some ⟨g3, 148, none⟩) 8 (c2 - 148) 8 (c3 - 148) (by simp [Act.eval, Act.put]) (by simp [Act.eval, Act.put]) g2 148 l2 5 HR3.out (F.map (Value.int .u8)) HFL2.out (fun _ => ⟨rfl, _, rfl, by have := HN3.out; simpa using this⟩) (by rw [HFL2.out, HL2.out]; have := HLC2.out; omega) (u8_cells _) w1.heap.size w1 HB13.out HG2.out ?_
           intro w4 hg4 hb4))
      have ho4 := OBn.spliced (base := w1.heap.size) (xs := X) (n := 512) hg4.out HL2.out HLC2.out HCM2.out HG2.out HT2.out HXL.out (by rw [HFL.out]; omega)
      rw [HFL.out] at ho4
      have hv1 := HO1.out.later hb4
      have hbw4 := bthen HBW1.out hb4
      have hnews := hv1.rb512.news
      have HO4 := Lib.hid ho4; have HV1 := Lib.hid hv1; have HBW4 := Lib.hid hbw4; have HNEWS := Lib.hid hnews
      clear ho4 hv1 hbw4 hnews hb4 hg4
      have hil := HIL.out
      have hlc1 := HLC1.out
      have hlii : (i : Int) < 512 := by omega
      rcases (show (i < 148 ∨ 156 ≤ i) ∨ (148 ≤ i ∧ i < 156) by omega) with h3 | h3
      · have hk : K = S - x + d := by have := HSET.out; rwa [if_pos ⟨hil, by omega⟩] at this
        have hkw : (K == S + d - x) = true := by rw [beq_iff_eq]; omega
        have HK := Lib.hid hk; clear hk
        rcases h3 with h3 | h3
        all_goals
          go_wp2_with (first
            | (at_builtin; refine wpList_append_own _ rfl _ _ 22 rfl w4.heap.size 5 i0 (.int .u8 0) 1 1 Tryd.underlying22 hi hz0 hz1 hz2 rfl (by decide) (.slice none 0 0) 0 [] rfl (World.ownsRow_nil _ _ _ _) ⟨g1, 0, none⟩ 512 c1 (X.map (Value.int .u8)) rfl (by rw [List.length_map]; exact HXL.out) HNEWS.out (u8_cells _) (by unfold maxLen; omega) (by omega) (Nat.le_refl _) ?_; intro v5 w5 hown5 hgrow5 hnil5
               have hb5 := (Below.refl w4.heap.size w4).grown hgrow5 (Nat.le_refl _) (by intro k hk; simp [Value.ownBlock] at hk)
               have hx5 : OBn w5 w4.heap.size 5 v5 512 X := by unfold OBn; simpa using hown5
               obtain ⟨g5, c5, cur5, rfl, hbg5, hlt5, _, hlc5, hcm5, _, _⟩ := hx5.shape (by omega)
               have hcc5 := hx5.cell i HIL.out
               have hff5 := hx5.free i
               have hb6 : Below w4.heap.size w4 (w5.setCell ⟨g5, i, none⟩ (.int .u8 d)) := hb5.setCell (by exact hbg5) _
               have hr5 := (hx5.stored i d).rb512
               have hr1 := (HV1.out.later hb6).rb512
               have hr4 := (HO4.out.later hb6).rb512
               have hc1 := (HV1.out.later hb6).cell i HIL.out
               rw [HXI.out] at hcc5 hc1
               have hbw6 := bthen HBW4.out hb6
               have HR5 := Lib.hid hr5; have HR1 := Lib.hid hr1; have HR4 := Lib.hid hr4; have HB6 := Lib.hid hbw6
               clear hb5 hx5 hown5 hgrow5 hnil5 hbg5 hlt5 hcm5 hb6 hr5 hr1 hr4 hbw6)
            | (go_at_call 8; (with_reducible refine (SX.out _ _ _ HR1.out).mono ?_); rintro e w' ⟨rfl, rfl⟩)
            | (go_at_call 8; (with_reducible refine (SC.out _ _ _ HR4.out).mono ?_); rintro e w' ⟨rfl, rfl⟩)
            | (go_at_call 8; (with_reducible refine (SD.out _ _ _ HR5.out).mono ?_); rintro e w' ⟨rfl, rfl⟩)
            | (go_at_call 6; refine (alive_any _).mono ?_; rintro e w7 ⟨rfl, hb7⟩))
          go_ret
          exact ⟨ret_bool rfl, bthen HB6.out hb7⟩
      · have hk : K = S := by have := HSET.out; rwa [if_neg (fun h => h.2 h3)] at this
        subst hk
        go_wp2_with (first
          | (at_builtin; refine wpList_append_own _ rfl _ _ 22 rfl w4.heap.size 5 i0 (.int .u8 0) 1 1 Tryd.underlying22 hi hz0 hz1 hz2 rfl (by decide) (.slice none 0 0) 0 [] rfl (World.ownsRow_nil _ _ _ _) ⟨g1, 0, none⟩ 512 c1 (X.map (Value.int .u8)) rfl (by rw [List.length_map]; exact HXL.out) HNEWS.out (u8_cells _) (by unfold maxLen; omega) (by omega) (Nat.le_refl _) ?_; intro v5 w5 hown5 hgrow5 hnil5
             have hb5 := (Below.refl w4.heap.size w4).grown hgrow5 (Nat.le_refl _) (by intro k hk; simp [Value.ownBlock] at hk)
             have hx5 : OBn w5 w4.heap.size 5 v5 512 X := by unfold OBn; simpa using hown5
             obtain ⟨g5, c5, cur5, rfl, hbg5, hlt5, _, hlc5, hcm5, _, _⟩ := hx5.shape (by omega)
             have hcc5 := hx5.cell i HIL.out
             have hff5 := hx5.free i
             have hb6 : Below w4.heap.size w4 (w5.setCell ⟨g5, i, none⟩ (.int .u8 d)) := hb5.setCell (by exact hbg5) _
             have hr5 := (hx5.stored i d).rb512
             have hr1 := (HV1.out.later hb6).rb512
             have hr4 := (HO4.out.later hb6).rb512
             have hc1 := (HV1.out.later hb6).cell i HIL.out
             rw [HXI.out] at hcc5 hc1
             have hbw6 := bthen HBW4.out hb6
             have HR5 := Lib.hid hr5; have HR1 := Lib.hid hr1; have HR4 := Lib.hid hr4; have HB6 := Lib.hid hbw6
             clear hb5 hx5 hown5 hgrow5 hnil5 hbg5 hlt5 hcm5 hb6 hr5 hr1 hr4 hbw6)
          | (go_at_call 8; (with_reducible refine (SX.out _ _ _ HR1.out).mono ?_); rintro e w' ⟨rfl, rfl⟩)
          | (go_at_call 8; (with_reducible refine (SC.out _ _ _ HR4.out).mono ?_); rintro e w' ⟨rfl, rfl⟩)
          | (go_at_call 8; (with_reducible refine (SD.out _ _ _ HR5.out).mono ?_); rintro e w' ⟨rfl, rfl⟩)
          | (go_at_call 6; refine (alive_any _).mono ?_; rintro e w7 ⟨rfl, hb7⟩))
        go_ret
        exact ⟨ret_bool rfl, bthen HB6.out hb7⟩
    · go_enter Tryd.func5, Tryd.ntmps5
      go_wp2_with fail
      go_quiet (fail)
      go_wp2_with (go_at_call 6; refine (alive_any _).mono ?_; rintro e w7 ⟨rfl, hb7⟩)
      all_goals go_ret
      all_goals exact ⟨ret_bool rfl, bthen (HBU.out _ _) hb7⟩
  · go_enter Tryd.func5, Tryd.ntmps5
    go_wp2_with fail
    go_quiet (fail)
    go_wp2_with (go_at_call 6; refine (alive_any _).mono ?_; rintro e w7 ⟨rfl, hb7⟩)
    all_goals go_ret
    all_goals exact ⟨ret_bool rfl, bthen (HBU.out _ _) hb7⟩
end Go.Proofs.YthnkjmckdcmjpaaDoor
