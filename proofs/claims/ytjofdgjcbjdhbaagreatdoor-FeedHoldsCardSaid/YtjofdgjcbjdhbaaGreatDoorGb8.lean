/- WALKS OF LAYER 7 (blocks), FIRST PART: how many blocks, how many bytes fill up; what is there; a copy; filled up. -/
import Derived.Test.YtjofdgjcbjdhbaaGreatDoorCm
import Derived.Test.YtjofdgjcbjdhbaaGreatDoorOb
import Derived.Test.YtjofdgjcbjdhbaaGreatDoorM7
import Derived.Test.YtjofdgjcbjdhbaaGreatDoorGx3
import Derived.Test.YtjofdgjcbjdhbaaGreatDoorGw1
import Derived.Deep.AppendLies
import Derived.Laws.CopyOwn
import Derived.Lib.SliceRun
namespace Go.Proofs.YtjofdgjcbjdhbaaGreatDoor
open Go.RowKit
set_option maxHeartbeats 400000
set_option maxRecDepth 100000
set_option linter.unusedVariables false
theorem count_any (n : Int) (w : World) (h0 : -9223372036854775808 ≤ n) (h1 : n ≤ 9223372036854775807) :
    Calls Tryz.prog 89 #[.int .i64 n] w fun e w' => e = .returned (.int .i64 (Bk.cnt n)) ∧ w = w' := by
  by_cases h : n < 1
  · have E := Lib.hid (Bk.cnt_low h)
    go_enter Tryz.func89, Tryz.ntmps89
    go_wp2
    go_ret
    exact ⟨ret_int E.out.symm, rfl⟩
  · have t1 := Bk.td (n := n) (by omega)
    have t2 := Bk.tm (n := n) (by omega)
    by_cases k : n % 512 = 0
    · have E := Lib.hid (Bk.cnt_whole (by omega) k)
      have t3 : n.tmod 512 = 0 := by omega
      have t4 : IntKind.i64.wrap (n / 512) = n / 512 := IntWalk.i64_in _ (by omega)
      clear k t2
      go_enter Tryz.func89, Tryz.ntmps89
      go_wp2
      go_ret
      exact ⟨ret_int E.out.symm, rfl⟩
    · have E := Lib.hid (Bk.cnt_more (by omega) k)
      have t3 : (n % 512 == 0) = false := by simp [k]
      have t3' : IntKind.i64.wrap (n % 512) = n % 512 := IntWalk.i64_in _ (by omega)
      have t4 : IntKind.i64.wrap (n / 512) = n / 512 := IntWalk.i64_in _ (by omega)
      have t5 : IntKind.i64.wrap (n / 512 + 1) = n / 512 + 1 := IntWalk.i64_in _ (by omega)
      clear k
      go_enter Tryz.func89, Tryz.ntmps89
      go_wp2
      go_ret
      exact ⟨ret_int E.out.symm, rfl⟩
theorem pad_any (n : Int) (w : World) (h0 : -9223372036854775808 ≤ n) (h1 : n ≤ 9223372036854775807) :
    Calls Tryz.prog 113 #[.int .i64 n] w fun e w' => e = .returned (.int .i64 (Bk.pad n)) ∧ w = w' := by
  by_cases h : n < 1
  · have E := Lib.hid (Bk.pad_low h)
    go_enter Tryz.func113, Tryz.ntmps113
    go_wp2
    go_ret
    exact ⟨ret_int E.out.symm, rfl⟩
  · have t2 := Bk.tm (n := n) (by omega)
    have t3' : IntKind.i64.wrap (n % 512) = n % 512 := IntWalk.i64_in _ (by omega)
    by_cases k : n % 512 = 0
    · have E := Lib.hid (Bk.pad_whole (by omega) k)
      go_enter Tryz.func113, Tryz.ntmps113
      go_wp2
      go_ret
      exact ⟨ret_int E.out.symm, rfl⟩
    · have E := Lib.hid (Bk.pad_more (by omega) k)
      have t3 : (n % 512 == 0) = false := by simp [k]
      have t5 : IntKind.i64.wrap (512 - n % 512) = 512 - n % 512 := IntWalk.i64_in _ (by omega)
      clear k
      go_enter Tryz.func113, Tryz.ntmps113
      go_wp2
      go_ret
      exact ⟨ret_int E.out.symm, rfl⟩
end Go.Proofs.YtjofdgjcbjdhbaaGreatDoor
/- WALKS OF LAYER 3, THIRD PART: hsum.Put and its reference's, and a block of bytes over and over. -/
namespace Go.Proofs.YtjofdgjcbjdhbaaGreatDoor
open Go.RowKit
set_option maxHeartbeats 400000
set_option maxRecDepth 100000
/- A BLOCK LAID WITH ITS SUM. -/
theorem clone_any (b o n c : Nat) (xs : List Int) (w : World) (ha : RB w w.heap.size (some ⟨b, o, none⟩) n xs) (hn : n ≤ 1000000) :
    Calls Tryz.prog 147 #[.slice (some ⟨b, o, none⟩) n c] w fun e w' => ∃ v, e = .returned v ∧ OBn w' w.heap.size 5 v n xs ∧ Below w.heap.size w w' := by
  obtain ⟨i0, hi, hz0, hz1, hz2⟩ := info_parts info_u8
  have q22 : ∀ (w : World) (a : Option Addr) (n c n' c' : Nat), (binOp .eql 25 (.slice a n c) (.slice none n' c')).run Tryz.prog w = .ok (.bool a.isNone) w := fun w a n c n' c' => Lib.run_eql_slice_nil w _ _ a n c n' c' Tryz.underlying25
  have hxl := ha.1
  have hal : RB (w.alloc (.cells #[] 5)) w.heap.size (some ⟨b, o, none⟩) n xs := ha.alloc (Nat.le_refl _) _
  have HAL := Lib.hid hal.news
  clear hal
  go_enter Tryz.func147, Tryz.ntmps147
  go_wp2_with (at_builtin; refine wpList_append_own _ rfl _ _ 25 rfl w.heap.size 5 i0 (.int .u8 0) 1 1 Tryz.underlying25 hi hz0 hz1 hz2 rfl (by decide) _ _ _ rfl (World.ownsRow_made w #[] 0 (Nat.le_refl _) (Nat.zero_le _) rfl) ⟨b, o, none⟩ n c (xs.map (Value.int .u8)) rfl (by rw [List.length_map]; omega) HAL.out (u8_cells xs) (by unfold maxLen; omega) (by omega) (by simp) ?_)
  intro v' w1 hown hgrow hnil
  go_wp2
  go_ret
  refine ⟨v', rfl, by unfold OBn; simpa using hown, ?_⟩
  exact ((Below.refl _ w).alloc (Nat.le_refl _) _).grown hgrow (by simp) (by intro k hk; simp [Value.ownBlock] at hk; omega)
theorem hput_any (A : Option Addr) (n c : Nat) (xs : List Int) (w : World) (ha : RB w w.heap.size A n xs) (hx : Byt xs) :
    Calls Tryz.prog 121 #[.slice A n c] w fun e w' => ∃ v, e = .returned (.tuple #[v, .int .i64 (Hs.putS xs).2]) ∧ OB w' w.heap.size 5 v (Hs.putS xs).1 ∧ Below w.heap.size w w' := by
  obtain ⟨i0, hi, hz0, hz1, hz2⟩ := info_parts info_u8
  have hxl := ha.1
  have s := hsum_any A n c xs w ha hx
  by_cases h : n = 512
  · have hp : Hs.putS xs = (xs.take 148 ++ (Nf.digs 8 48 (Hs.psum xs 512) 6 ++ [0, 32]) ++ xs.drop 156, 0) := by unfold Hs.putS; rw [if_pos (by omega)]
    rw [show Hs.sumS xs = (Hs.psum xs 512, 0) from by unfold Hs.sumS; rw [if_pos (by omega)]] at s
    have hbd := Hs.psum_bd xs hx 512
    have o := octal_any (Hs.psum xs 512) 6 w (by omega) (by omega)
    rw [Hs.oct6 xs hx] at o
    have hdl := Nf.len_digs 8 48 (Hs.psum xs 512) 6
    subst h
    obtain ⟨b, oo, rfl, hb, _⟩ := ha.at_ (k := 0) (by omega)
    have cl := fun W (hW : Below w.heap.size w W) => clone_any b oo 512 c xs W ((ha.below hW).more hW.size) (by omega)
    generalize Hs.psum xs 512 = m at *
    generalize Nf.digs 8 48 m 6 = ds at *
    have HP := Lib.hid hp; have S := Lib.hid s; have O := Lib.hid o; have CL := Lib.hid cl; have HXL := Lib.hid hxl; have HDL := Lib.hid hdl; clear hp s o cl hxl hdl
    go_enter Tryz.func121, Tryz.ntmps121
    go_wp2_with (first | (go_at_call 132; (with_reducible refine S.out.mono ?_); rintro e w' ⟨rfl, rfl⟩) | (go_at_call 146; (with_reducible refine O.out.mono ?_); rintro e w1 ⟨v1, rfl, ho1, hb1⟩) | (go_at_call 147; (with_reducible refine (CL.out _ hb1).mono ?_); rintro e w2 ⟨v2, rfl, ho2, hb2⟩))
    obtain ⟨g2, c2, cur2, rfl, hg2a, hg2b, hheap2, hc2, hcm2, hcs2, htk2⟩ := ho2.shape (by omega)
    obtain ⟨l2, rfl⟩ : ∃ l : List Value, cur2 = l.toArray := ⟨cur2.toList, by simp⟩
    have hl2 : l2.length = c2 := by simpa using hcs2
    have htk3 : l2.take 512 = xs.map (Value.int .u8) := by simpa using htk2
    have hd6 := HDL.out
    have ho1' : OBn w1 w.heap.size 5 v1 6 ds := by have := ho1.obn; rwa [hd6] at this
    have ho3 := ho1'.later hb2
    have hown1 : ∀ k, v1.ownBlock = some k → k < w1.heap.size := fun k hk => (World.ownsRow.lt ho1 k hk).2
    have hcE : ¬ c2 = 148 := by omega
    have hcI : (156 : Int) ≤ (c2 : Int) := by omega
    have hb12 := bthen hb1 hb2
    have hbz := hb1.size
    have HC2 := Lib.hid hc2; have HCM := Lib.hid hcm2; have HL2 := Lib.hid hl2; have HT := Lib.hid htk3; have HH := Lib.hid hheap2; have HG := Lib.hid hg2a; have HD := Lib.hid hd6; have HO := Lib.hid ho3; have HB := Lib.hid hown1; have HG2 := Lib.hid hg2b; have HB12 := Lib.hid hb12; have HBZ := Lib.hid hbz
    clear hc2 hcm2 hl2 htk3 hheap2 hg2a hd6 ho3 hown1 hcs2 htk2 ho1' hg2b hb12 hbz
    have hdl2 : ((ds ++ [0, 32]).map (Value.int .u8)).length = 8 := by simp [HDL.out]
    have HDL2 := Lib.hid hdl2; clear hdl2
    go_region_law (first
      | (refine step_append_lies _ rfl (.tmp 28) (.tmp 29) 25 rfl w.heap.size 5 i0 (.int .u8 0) 1 1 Tryz.underlying25 hi hz0 hz1 hz2 rfl (by decide) v1 6 (ds.map (Value.int .u8)) (by simp [Act.eval]) (HO.out.alloc _) ⟨w2.heap.size, 0, none⟩ 2 2 [.int .u8 0, .int .u8 32] (by simp [Act.eval]) rfl (World.news_of_block (heap_alloc_new _ _)) (u8_cells [0, 32]) (by omega) (by unfold maxLen; omega) (by omega) (by have := HB12.out.size; simp; omega) _ rfl ?_
         intro g3 c3 w3 hown3 hgrow3 hat3 hlt3
         have hr3 : w3.heap[g2]? = some (.cells l2.toArray 5 (0, 0)) := (hgrow3.block g2 (by have := HG2.out; simp; omega) (fun h => by have := HB.out g2 h.symm; have := HG.out; omega)).trans ((heap_alloc_old _ _ HG2.out).trans HH.out)
         have hb3 : Below w.heap.size w w3 := ((HB12.out.drew).alloc (by have := HB12.out.size; simpa using this) _).grown hgrow3 (by have := HB12.out.size; simp; omega) (fun k hk => (World.ownsRow.lt HO.out k hk).1)
         have hc3 : ∀ j u, ((ds ++ [0, 32]).map (Value.int .u8))[j]? = some u → w3.cell? ((⟨g3, 0, none⟩ : Addr).add j) = some u := by have := hown3.cells (g := g3) rfl; simpa using this
         have HR3 := Lib.hid hr3; have HB3 := Lib.hid hb3; have HC3 := Lib.hid hc3; clear hr3 hb3 hc3 hown3 hgrow3 hat3 hlt3)
      | (refine step_copy_splice rfl (.tmp 27) (.tmp 30) 25 25 rfl 5 Tryz.underlying25 (by kernel_rfl) (some ⟨g2, 148, none⟩) (some ⟨g3, 0, none⟩) 8 (c2 - 148) 8 c3 (by simp [Act.eval]) (by simp [Act.eval]) g2 148 l2 5 HR3.out ((ds ++ [0, 32]).map (Value.int .u8)) HDL2.out (fun _ => ⟨rfl, _, rfl, HC3.out⟩) (by rw [HDL2.out, HL2.out]; have := HC2.out; omega) (u8_cells _) w.heap.size w HB3.out (by have := HBZ.out; have := HG.out; omega) ?_
         intro w4 hg4 hb4))
    go_wp2
    go_ret2
    refine ⟨_, ret_vi (by rw [HP.out]), ?_, hb4⟩
    rw [HP.out]
    have hd8 : (ds ++ [0, 32]).length = 8 := by have := HDL.out; simp; omega
    have := OBn.spliced (base := w.heap.size) (xs := xs) (n := 512) hg4.out HL2.out HC2.out HCM.out (by have := HBZ.out; have := HG.out; omega) HT.out HXL.out (by omega)
    rw [hd8] at this
    exact this.ob
  · have hp : Hs.putS xs = ([], 1) := by unfold Hs.putS; rw [if_neg (by omega)]
    rw [show Hs.sumS xs = (0, 1) from by unfold Hs.sumS; rw [if_neg (by omega)]] at s
    have HP := Lib.hid hp; have S := Lib.hid s; clear hp s
    go_enter Tryz.func121, Tryz.ntmps121
    go_wp2_with (go_at_call 132; (with_reducible refine S.out.mono ?_); rintro e w' ⟨rfl, rfl⟩)
    go_ret2
    refine ⟨_, ret_vi (by rw [HP.out]), ?_, Below.refl _ _⟩
    rw [HP.out]; exact OB.nil _ _ _
theorem refhput_any (A : Option Addr) (n c : Nat) (xs : List Int) (w : World) (ha : RB w w.heap.size A n xs) (hx : Byt xs) (hc : n ≤ c) (_hc2 : c ≤ maxLen) (hnm : n ≤ 1000000) :
    Calls Tryz.prog 72 #[.slice A n c] w fun e w' => ∃ v, e = .returned (.tuple #[v, .int .i64 (Hs.putS xs).2]) ∧ OB w' w.heap.size 5 v (Hs.putS xs).1 ∧ Below w.heap.size w w' := by
  obtain ⟨i0, hi, hz0, hz1, hz2⟩ := info_parts info_u8
  have hxl := ha.1
  by_cases h : n = 512
  · have hp : Hs.putS xs = (xs.take 148 ++ (Nf.digs 8 48 (Hs.psum xs 512) 6 ++ [0, 32]) ++ xs.drop 156, 0) := by unfold Hs.putS; rw [if_pos (by omega)]
    have s := refsum_any A n c xs w ha hx (by omega)
    have hbd := Hs.psum_bd xs hx 512
    have o := refoctal_any (Hs.psum xs 512) 6 w (by omega) (by omega)
    rw [Hs.oct6 xs hx] at o
    have hdl := Nf.len_digs 8 48 (Hs.psum xs 512) 6
    subst h
    obtain ⟨b, oo, rfl, hb, _⟩ := ha.at_ (k := 0) (by omega)
    generalize Hs.psum xs 512 = m at *
    generalize Nf.digs 8 48 m 6 = ds at *
    have HP := Lib.hid hp; have S := Lib.hid s; have O := Lib.hid o; have HXL := Lib.hid hxl; have HDL := Lib.hid hdl; clear hp s o hxl hdl
    have ho1 := fun (w1 : World) (v1 : Value) (h : OB w1 w.heap.size 5 v1 ds) => OBn.shape (n := 6) (by have := h.obn; rwa [HDL.out] at this) (by omega)
    have HO1 := Lib.hid ho1; clear ho1
    have hcI : (156 : Int) ≤ (c : Int) := by omega
    have hcE : ¬ c = 156 := by omega
    go_enter Tryz.func72, Tryz.ntmps72
    go_wp2_with (first
      | (go_at_call 105; (with_reducible refine S.out.mono ?_); rintro e w' ⟨rfl, rfl⟩)
      | (go_at_call 102; (with_reducible refine O.out.mono ?_); rintro e w1 ⟨v1, rfl, ho1, hb1⟩; obtain ⟨g1, c1, cur1, rfl, hg1a, hg1b, _, _, hcm1, _, _⟩ := HO1.out _ _ ho1; have hr1 := (((ha.below hb1).front (k := 148) (by omega)).news); have HR1 := Lib.hid hr1; have HOB := Lib.hid ho1; have HG1 := Lib.hid hg1b; clear hr1 ho1 hg1a hg1b hcm1)
      | (at_builtin; refine wpList_append_own _ rfl _ _ 25 rfl w.heap.size 5 i0 (.int .u8 0) 1 1 Tryz.underlying25 hi hz0 hz1 hz2 rfl (by decide) (.slice none 0 0) 0 [] rfl (World.ownsRow_nil _ _ _ _) ⟨b, oo, none⟩ 148 c ((xs.take 148).map (Value.int .u8)) rfl (by simp [HXL.out]) HR1.out (u8_cells _) (by unfold maxLen; omega) (by omega) hb1.size ?_; intro v2 w2 hown2 hgrow2 hnil2
         have hbw2 : Below w1.heap.size w1 w2 := (Below.refl _ _).grown hgrow2 (Nat.le_refl _) (by intro k hk; simp [Value.ownBlock] at hk)
         have hx2 : w2.ownsRow w.heap.size 5 1 v2 148 ((xs.take 148).map (Value.int .u8)) := by simpa using hown2
         have hq2 : ∀ j u, (ds.map (Value.int .u8))[j]? = some u → w2.cell? ((⟨g1, 0, none⟩ : Addr).add j) = some u := World.ownsRow.cells (HOB.out.obn.later hbw2) rfl
         have HX2 := Lib.hid hx2; have HQ2 := Lib.hid hq2; have HB2 := Lib.hid (bthen hb1 hbw2); clear hbw2 hx2 hq2 hown2 hgrow2 hnil2)
      | (at_builtin; refine wpList_append_own _ rfl _ _ 25 rfl w.heap.size 5 i0 (.int .u8 0) 1 1 Tryz.underlying25 hi hz0 hz1 hz2 rfl (by decide) v2 148 ((xs.take 148).map (Value.int .u8)) rfl HX2.out ⟨g1, 0, none⟩ 6 c1 (ds.map (Value.int .u8)) rfl (by simp [HDL.out]) HQ2.out (u8_cells _) (by unfold maxLen; omega) (by omega) HB2.out.size ?_; intro v3 w3 hown3 hgrow3 hnil3
         have hb3 := below_app HB2.out (Nat.le_refl _) HX2.out hgrow3
         have hx3 : ∀ o, (w3.alloc o).ownsRow w.heap.size 5 1 v3 154 ((xs.take 148 ++ ds).map (Value.int .u8)) := fun o => World.ownsRow.alloc (by simpa using hown3) o
         have HX3 := Lib.hid hx3; have HB3 := Lib.hid hb3; clear hb3 hx3 hown3 hgrow3 hnil3)
      | (at_builtin; refine wpList_append_own _ rfl _ _ 25 rfl w.heap.size 5 i0 (.int .u8 0) 1 1 Tryz.underlying25 hi hz0 hz1 hz2 rfl (by decide) v3 154 ((xs.take 148 ++ ds).map (Value.int .u8)) rfl (HX3.out _) ⟨w3.heap.size, 0, none⟩ 2 2 [.int .u8 0, .int .u8 32] rfl rfl (World.news_of_block (heap_alloc_new _ _)) (u8_cells [0, 32]) (by unfold maxLen; omega) (by omega) (by have := HB3.out.size; simp; omega) ?_; intro v4 w4 hown4 hgrow4 hnil4
         have hb4 := below_app (HB3.out.alloc HB3.out.size _) (Nat.le_refl _) (HX3.out _) hgrow4
         have hx4 : w4.ownsRow w.heap.size 5 1 v4 156 ((xs.take 148 ++ ds ++ [0, 32]).map (Value.int .u8)) := by simpa using hown4
         have hr4 := ((ha.below hb4).back (k := 156) (by omega)).news
         have HX4 := Lib.hid hx4; have HB4 := Lib.hid hb4; have HR4 := Lib.hid hr4; clear hb4 hx4 hr4 hown4 hgrow4 hnil4)
      | (at_builtin; refine wpList_append_own _ rfl _ _ 25 rfl w.heap.size 5 i0 (.int .u8 0) 1 1 Tryz.underlying25 hi hz0 hz1 hz2 rfl (by decide) v4 156 ((xs.take 148 ++ ds ++ [0, 32]).map (Value.int .u8)) rfl HX4.out ⟨b, oo + 156, none⟩ 356 (c - 156) ((xs.drop 156).map (Value.int .u8)) rfl (by simp [HXL.out]) HR4.out (u8_cells _) (by unfold maxLen; omega) (by omega) HB4.out.size ?_; intro v5 w5 hown5 hgrow5 hnil5
         have hb5 := below_app HB4.out (Nat.le_refl _) HX4.out hgrow5
         have hx5 : OBn w5 w.heap.size 5 v5 512 (xs.take 148 ++ (ds ++ [0, 32]) ++ xs.drop 156) := by unfold OBn; simpa using hown5
         have HX5 := Lib.hid hx5; have HB5 := Lib.hid hb5; clear hb5 hx5 hown5 hgrow5 hnil5))
    go_ret2
    refine ⟨_, ret_vi (by rw [HP.out]), ?_, HB5.out⟩
    rw [HP.out]
    exact HX5.out.ob
  · have hp : Hs.putS xs = ([], 1) := by unfold Hs.putS; rw [if_neg (by omega)]
    have HP := Lib.hid hp; clear hp
    have g : ((n : Int) != 512) = true := by simp; omega
    go_enter Tryz.func72, Tryz.ntmps72
    go_wp2
    go_ret2
    refine ⟨_, ret_vi (by rw [HP.out]), ?_, Below.refl _ _⟩
    rw [HP.out]; exact OB.nil _ _ _
end Go.Proofs.YtjofdgjcbjdhbaaGreatDoor
