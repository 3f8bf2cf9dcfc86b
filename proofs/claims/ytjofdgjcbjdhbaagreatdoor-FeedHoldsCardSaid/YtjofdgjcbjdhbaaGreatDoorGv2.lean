/- WALKS OF LAYER 2, SECOND PART: strf.Loose, Get and their reference's: what a field's text is. -/
import Derived.Test.YtjofdgjcbjdhbaaGreatDoorV2a
import Derived.Test.YtjofdgjcbjdhbaaGreatDoorOb
import Derived.Laws.CopyOwn
namespace Go.Proofs.YtjofdgjcbjdhbaaGreatDoor
open Go.RowKit
set_option maxHeartbeats 400000
set_option maxRecDepth 100000
def CutPost (A : Option Addr) (z c : Nat) (w : World) (e : Ending) (w' : World) : Prop := ∃ v2 v3 k, e = .returned (.tuple #[.slice A z c, v2, v3]) ∧ w' = w.drewN k
set_option maxRecDepth 100000 in
theorem index1_any (A : Option Addr) (n c g : Nat) (xs : List Int) (w : World) (ha : RB w w.heap.size A n xs) (hx : Byt xs) (hg : w.cell? ⟨g, 0, none⟩ = some (.int .u8 0)) :
    Calls Tryz.prog 180 #[.slice A n c, .slice (some ⟨g, 0, none⟩) 1 1] w fun e w' => e = .returned (.int .i64 (if Sf.zi xs < xs.length then (Sf.zi xs : Int) else -1)) ∧ w = w' := by
  have k := ib_any A n c xs w ha hx
  generalize (if Sf.zi xs < xs.length then (Sf.zi xs : Int) else -1) = r at *
  have k := Lib.hid k
  go_enter Tryz.func180, Tryz.ntmps180
  go_wp2_with (go_at_call 194; (with_reducible refine k.out.mono ?_); rintro e w' ⟨rfl, rfl⟩)
  go_ret
  exact ⟨rfl, rfl⟩
theorem cut0_any (A : Option Addr) (n c g : Nat) (xs : List Int) (w : World) (ha : RB w w.heap.size A n xs) (hx : Byt xs) (hg : w.cell? ⟨g, 0, none⟩ = some (.int .u8 0)) (hc : n ≤ c) (hn : n ≤ 1000000) :
    Calls Tryz.prog 169 #[.slice A n c, .slice (some ⟨g, 0, none⟩) 1 1] w (CutPost A (Sf.zi xs) c w) := by
  have k := index1_any A n c g xs w ha hx hg
  have hle := Sf.zi_le xs
  have hxl := ha.1
  by_cases h : Sf.zi xs < xs.length
  · rw [if_pos h] at k
    generalize Sf.zi xs = z at *
    have K := Lib.hid k; clear k
    rw [hxl] at h
    clear hxl
    have s1 : IntKind.i64.wrap ((z : Int) + 1) = (z : Int) + 1 := IntWalk.i64_in _ (by omega)
    have s2 : ((z : Int) + 1).toNat = z + 1 := by omega
    have s3 : (0 : Int) ≤ (z : Int) + 1 := by omega
    have s4 : z + 1 ≤ c := by omega
    have s5 : z ≤ c := by omega
    have s6 : z + 1 ≤ n := by omega
    go_enter Tryz.func169, Tryz.ntmps169
    go_wp2_with (go_at_call 180; (with_reducible refine K.out.mono ?_); rintro e w' ⟨rfl, rfl⟩)
    go_quiet (fail)
    go_wp2
    all_goals
      go_ret3
      exact ⟨_, _, _, rfl, rfl⟩
  · have e : Sf.zi xs = n := by omega
    rw [if_neg h] at k
    have K := Lib.hid k; clear k
    have E := Lib.hid e; clear e hxl h hle
    go_enter Tryz.func169, Tryz.ntmps169
    go_wp2_with (go_at_call 180; (with_reducible refine K.out.mono ?_); rintro e w' ⟨rfl, rfl⟩)
    go_ret3
    rw [E.out]
    exact ⟨_, _, 0, rfl, rfl⟩
theorem loose_any (A : Option Addr) (n c : Nat) (xs : List Int) (w : World) (ha : RB w w.heap.size A n xs) (hx : Byt xs) (hc : n ≤ c) (hn : n ≤ 1000000) :
    Calls Tryz.prog 152 #[.slice A n c] w fun e w' => e = .returned (.string (strOfNums (Sf.looseS xs))) ∧ Below w.heap.size w w' := by
  have hle := Sf.zi_le xs
  have hxl := Lib.hid ha.1
  have hle' : Sf.zi xs ≤ n := by have := hxl.out; omega
  go_enter Tryz.func152, Tryz.ntmps152
  go_wp2_with fail
  refine (cut0_any A n c w.heap.size xs _ ((ha.alloc (Nat.le_refl _) _).more (by simp)) hx (by simp [go_sem]) hc hn).mono ?_
  rintro e w1 ⟨v2, v3, k, rfl, rfl⟩
  have hconv := (((ha.alloc (Nat.le_refl _) (.cells #[.int .u8 0] 5)).pre hle').drewN k).conv c
  go_wp2
  go_ret
  exact ⟨rfl, below_drewN ((Below.refl _ _).alloc (Nat.le_refl _) _) k⟩
theorem refloose_any (A : Option Addr) (n c : Nat) (xs : List Int) (w : World) (ha : RB w w.heap.size A n xs) (hx : Byt xs) (hn : n ≤ 1000000) :
    Calls Tryz.prog 129 #[.slice A n c] w fun e w' => e = .returned (.string (strOfNums (Sf.looseS xs))) ∧ w = w' := by
  have hconv := ha.conv c
  have hle := Sf.zi_le xs
  have hxl := ha.1
  have hsz := Sf.size_strOfNums xs
  have hz := refzero_any (strOfNums xs) w (by omega)
  rw [Sf.zb_strOfNums xs hx] at hz
  have hex : (strOfNums xs).extract 0 (Sf.zi xs) = strOfNums (Sf.looseS xs) := by
    apply ByteArray.ext
    apply Array.toList_inj.1
    rw [Sf.data_strOfNums, Lib.extract_data, Sf.data_strOfNums]
    simp [Sf.looseS, List.map_take]
  have hle2 : Sf.zi xs ≤ (strOfNums xs).size := by omega
  generalize strOfNums xs = s at *
  have HZ := Lib.hid hz; have HEX := Lib.hid hex; clear hz hex hsz hxl
  go_enter Tryz.func129, Tryz.ntmps129
  go_wp2_with (go_at_call 99; (with_reducible refine HZ.out.mono ?_); rintro e w' ⟨rfl, rfl⟩)
  go_ret
  exact ⟨by rw [← HEX.out]; rfl, rfl⟩
theorem get_facts (xs : List Int) (k : Nat) (hz : Sf.zi xs ≤ k) (h1 : ∀ j, Sf.zi xs ≤ j → j < k → xs.getD j 0 = 0) : (k < xs.length → xs.getD k 0 ≠ 0 → Sf.getS xs = ([], 3)) ∧ (xs.length ≤ k → Sf.getS xs = (Sf.looseS xs, 0)) := by
  constructor
  · intro hk hx
    have : Sf.okG xs = false := by
      unfold Sf.okG
      rw [List.all_eq_false]
      refine ⟨xs.getD k 0, ?_, by simpa using hx⟩
      rw [List.mem_drop_iff_getElem]
      exact ⟨k - Sf.zi xs, by omega, by simp [List.getD, show Sf.zi xs + (k - Sf.zi xs) = k from by omega, hk]⟩
    simp [Sf.getS, this]
  · intro hk
    have : Sf.okG xs = true := by
      unfold Sf.okG
      rw [List.all_eq_true]
      intro x hx
      rw [List.mem_drop_iff_getElem] at hx
      obtain ⟨i, hi, rfl⟩ := hx
      have := h1 (Sf.zi xs + i) (by omega) (by omega)
      rw [List.getD, List.getElem?_eq_getElem (by omega)] at this
      simpa using this
    simp [Sf.getS, this]
theorem get_any2 (A : Option Addr) (n c : Nat) (xs : List Int) (w : World) (ha : RB w w.heap.size A n xs) (hx : Byt xs) (hc : n ≤ c) (hc2 : c ≤ maxLen) (hn : n ≤ 1000000) :
    Calls Tryz.prog 133 #[.slice A n c] w fun e w' => e = .returned (.tuple #[.string (strOfNums (Sf.getS xs).1), .int .i64 (Sf.getS xs).2]) ∧ Below w.heap.size w w' := by
  have hle := Sf.zi_le xs
  have hxl := ha.1
  have hsz := Sf.size_strOfNums (Sf.looseS xs)
  have hll : (Sf.looseS xs).length = Sf.zi xs := by unfold Sf.looseS; rw [List.length_take]; omega
  rw [hll] at hsz
  have hfin := get_facts xs
  have L := Lib.hid (loose_any A n c xs w ha hx hc hn)
  unfold maxLen at hc2
  generalize hS : strOfNums (Sf.looseS xs) = s at *
  generalize Sf.zi xs = z at *
  subst hsz
  have HS := Lib.hid hS; have HX := Lib.hid hxl; have HF := Lib.hid hfin; clear hS hxl hfin hll
  have hle' : s.size ≤ n := by have := HX.out; omega
  have hle2 : s.size ≤ c := by omega
  by_cases hcs : c = s.size
  · have hz : (n - s.size : Nat) = 0 := by omega
    have hF := HF.out s.size (Nat.le_refl _) (fun j h1 h2 => absurd h2 (by omega))
    have hg := hF.2 (by have := HX.out; omega)
    have HG := Lib.hid hg; clear hF hg
    have hz2 : n = s.size := by omega
    have hz3 : ¬ (0 : Int) < ((n - s.size : Nat) : Int) := by omega
    have HZ := Lib.hid hz; have HZ2 := Lib.hid hz2; clear hz hz2
    subst hcs
    go_enter Tryz.func133, Tryz.ntmps133
    go_wp2_with (go_at_call 152; (with_reducible refine L.out.mono ?_); rintro e w1 ⟨rfl, hb⟩)
    go_loop [14] (fun i => i = .int .i64 0) (fun i => 0)
    case atStart => rfl
    case round =>
      obtain rfl := hrel
      go_wp2
      go_ret2
      exact ⟨by rw [HG.out, HS.out]; rfl, hb⟩
  · go_enter Tryz.func133, Tryz.ntmps133
    go_wp2_with (go_at_call 152; (with_reducible refine L.out.mono ?_); rintro e w1 ⟨rfl, hb⟩)
    go_loop [14] (fun i => ∃ k : Nat, s.size + k ≤ n ∧ i = .int .i64 k ∧ Hid (∀ j, s.size ≤ j → j < s.size + k → xs.getD j 0 = 0)) (fun i => n - s.size - (intOf i).toNat)
    case atStart => exact ⟨0, by omega, rfl, fun j h1 h2 => absurd h2 (by omega)⟩
    case round =>
      obtain ⟨k, hk, rfl, HJ⟩ := hrel
      have hF := HF.out (s.size + k) (by omega) HJ
      by_cases hlt : s.size + k < n
      · obtain ⟨ba, oa, rfl, hba, hca⟩ := (ha.below hb).at_ hlt
        have hlt2 : (k : Int) < ((n - s.size : Nat) : Int) := by omega
        rw [show oa + (s.size + k) = oa + s.size + k from by omega] at hca
        generalize hy : xs.getD (s.size + k) 0 = y at *
        have HY := Lib.hid hy; have HFF := Lib.hid hF; clear hy hF
        by_cases h0 : y = 0
        · have g : (y != 0) = false := by simp [h0]
          have H0 := Lib.hid h0; clear h0
          go_wp2
          go_round
          case rel =>
            refine ⟨k + 1, by omega, by go_num, fun j h1 h2 => ?_⟩
            by_cases hj : j < s.size + k
            · exact HJ j h1 hj
            · rw [show j = s.size + k from by omega, HY.out, H0.out]
          case measure => simp [intOf]; omega
        · have g : (y != 0) = true := by simp [h0]
          have hg := HFF.out.1 (by have := HX.out; omega) h0
          have HG := Lib.hid hg; clear hg h0
          go_wp2
          go_ret2
          exact ⟨by rw [HG.out]; rfl, hb⟩
      · have hlt2 : ¬ (k : Int) < ((n - s.size : Nat) : Int) := by omega
        have hg := hF.2 (by have := HX.out; omega)
        have HG := Lib.hid hg; clear hg hF
        go_wp2
        go_ret2
        exact ⟨by rw [HG.out, HS.out]; rfl, hb⟩
end Go.Proofs.YtjofdgjcbjdhbaaGreatDoor
/- WALKS OF LAYER 2, THIRD PART: the reference's Get, strf.Put and the reference's. -/
namespace Go.Proofs.YtjofdgjcbjdhbaaGreatDoor
open Go.RowKit
set_option maxHeartbeats 400000
set_option maxRecDepth 100000
theorem OBn.copied {w : World} {base : Nat} {g n c : Nat} {xs : List Int} (h : OBn w base 5 (.slice (some ⟨g, 0, none⟩) n c) n xs) (s : ByteArray) (hs : s.size ≤ n) :
    ∃ w', (∀ ty : TypeId, (Builtin.copy_ #[25, 9] ty #[.slice (some ⟨g, 0, none⟩) n c, .string s]).run Tryz.prog w = .ok (goInt s.size) w') ∧ OBn w' base 5 (.slice (some ⟨g, 0, none⟩) n c) n (Sf.nums s ++ xs.drop s.size) ∧
      ∀ B w0, B ≤ g → Below B w0 w → Below B w0 w' := by
  have hl := h.len
  obtain ⟨hlen, h2⟩ := h
  rcases h2 with ⟨hh, _⟩ | ⟨g', cap, cur, hv, hb, hg, hnc, hcm, hcs, htake⟩
  · cases hh
  · cases hv
    have hfit : 0 + s.size ≤ cur.size := by omega
    refine ⟨_, fun ty => Lib.run_copy_row_string (P := Tryz.prog) w 25 9 ty 5 g 0 n c s cur 5 Tryz.underlying25 (by kernel_rfl) hg hs hfit, ?_, fun B w0 h1 h2 => below_setRow h2 h1 _⟩
    have hbl : (Lib.byteCells s.data.toList).length = s.size := by rw [Lib.byteCells_length, ← Lib.size_eq]
    refine ⟨by rw [List.length_map, List.length_append, List.length_drop]; simp [Sf.nums]; omega, .inr ⟨g, c, _, rfl, hb, setRow_heap w g _ _ _ _ hg, hnc, hcm, ?_, ?_⟩⟩
    · simp; omega
    · have e1 : (cur.toList.take n).drop s.size = (xs.drop s.size).map (Value.int .u8) := by
        rw [List.map_drop, ← htake, Nat.mul_one]
      have e2 : (Sf.nums s).map (Value.int .u8) = Lib.byteCells s.data.toList := by simp [Sf.nums, Lib.byteCells]
      rw [List.map_append, ← e1, e2]
      simp only [List.take_zero, List.nil_append, Nat.zero_add, Nat.mul_one]
      rw [List.take_append, hbl, List.take_of_length_le (by omega), List.drop_take]
/-- A text laid in any width. -/
theorem put_any2 (s : ByteArray) (k : Int) (w : World) (_hs : s.size ≤ 1000000) :
    Calls Tryz.prog 144 #[.string s, .int .i64 k] w fun e w' => ∃ v, e = .returned (.tuple #[v, .int .i64 (Sf.putS s k).2]) ∧ OB w' w.heap.size 5 v (Sf.putS s k).1 ∧ Below w.heap.size w w' := by
  obtain ⟨i0, hi, hz0, hz1, hz2⟩ := info_parts info_u8
  have hib := ibs_any s 0 w
  rw [show (0 : Int).toNat.toUInt8 = 0 from rfl, Sf.indexByte_zb, ← Sf.size_eq] at hib
  have hput : Sf.putS s k = if k < 1 ∨ 512 < k then ([], 1) else if Sf.zb s.data.toList < s.size then ([], 3) else if k < s.size then ([], 10) else (Sf.nums s ++ List.replicate (k.toNat - s.size) 0, 0) := rfl
  have hnl : (Sf.nums s).length = s.size := by simp [Sf.nums]
  generalize Sf.zb s.data.toList = z at *
  have HNL := Lib.hid hnl; clear hnl
  by_cases h1 : k < 1 ∨ 512 < k
  · rw [if_pos h1] at hput
    have HP := Lib.hid hput; clear hput hib
    by_cases h2 : k < 1
    · go_enter Tryz.func144, Tryz.ntmps144
      go_wp2
      go_ret2
      refine ⟨_, ret_vi (by rw [HP.out]), ?_, Below.refl _ _⟩
      rw [HP.out]; exact OB.nil _ _ _
    · have h3 : 512 < k := by omega
      go_enter Tryz.func144, Tryz.ntmps144
      go_wp2
      go_ret2
      refine ⟨_, ret_vi (by rw [HP.out]), ?_, Below.refl _ _⟩
      rw [HP.out]; exact OB.nil _ _ _
  · rw [if_neg h1] at hput
    have h2 : ¬ k < 1 := by omega
    have h3 : ¬ 512 < k := by omega
    obtain ⟨d, rfl⟩ : ∃ d : Nat, k = d := ⟨k.toNat, by omega⟩
    by_cases h4 : z < s.size
    · rw [if_pos h4] at hput hib
      have HP := Lib.hid hput; have HI := Lib.hid hib; clear hput hib
      have h5 : (0 : Int) ≤ z := by omega
      go_enter Tryz.func144, Tryz.ntmps144
      go_wp2_with (go_at_call 117; (with_reducible refine HI.out.mono ?_); rintro e w' ⟨rfl, rfl⟩)
      go_ret2
      refine ⟨_, ret_vi (by rw [HP.out]), ?_, Below.refl _ _⟩
      rw [HP.out]; exact OB.nil _ _ _
    · rw [if_neg h4] at hput hib
      by_cases h5 : (d : Int) < s.size
      · rw [if_pos h5] at hput
        have HP := Lib.hid hput; have HI := Lib.hid hib; clear hput hib
        have h6 : decide (d < s.size) = true := by simp; omega
        go_enter Tryz.func144, Tryz.ntmps144
        go_wp2_with (go_at_call 117; (with_reducible refine HI.out.mono ?_); rintro e w' ⟨rfl, rfl⟩)
        go_ret2
        refine ⟨_, ret_vi (by rw [HP.out]), ?_, Below.refl _ _⟩
        rw [HP.out]; exact OB.nil _ _ _
      · rw [if_neg h5, Int.toNat_natCast] at hput
        have HP := Lib.hid hput; have HI := Lib.hid hib; clear hput hib
        have h6 : decide (d < s.size) = false := by simp; omega
        go_enter Tryz.func144, Tryz.ntmps144
        go_wp2_with (first | (go_at_call 117; (with_reducible refine HI.out.mono ?_); rintro e w' ⟨rfl, rfl⟩) | (at_make; refine wpList_make_full _ rfl _ _ 25 rfl w.heap.size 5 i0 _ 1 Tryz.underlying25 hi hz0 hz1 .i64 .i64 _ _ d rfl rfl (by omega) (by omega) (by rw [hz2]; omega) (by unfold maxLen; omega) (Nat.le_refl _) ?_; intro w1 hown hgrow; obtain ⟨w2, hrun, ho2, hbel⟩ := (OBn.made hown).copied s (by omega); have hb2 := hbel w.heap.size w (Nat.le_refl _) ((Below.refl _ _).grown hgrow (Nat.le_refl _) (by simp)); have HR := Lib.hid hrun; clear hrun hbel) | (refine Lib.wpList_copy_run _ rfl _ _ 25 9 rfl (.slice (some ⟨w.heap.size, 0, none⟩) d d) (.string s) rfl rfl (HR.out _) ?_))
        go_ret2
        refine ⟨_, ret_vi (by rw [HP.out]), ?_, hb2⟩
        rw [HP.out]
        have := ho2.ob
        rwa [List.drop_replicate] at this
end Go.Proofs.YtjofdgjcbjdhbaaGreatDoor
/- WALKS OF LAYER 2, FOURTH PART: the reference's Put; a path parted and joined. -/
namespace Go.Proofs.YtjofdgjcbjdhbaaGreatDoor
open Go.RowKit
set_option maxHeartbeats 400000
set_option maxRecDepth 100000
theorem refput_any2 (s : ByteArray) (k : Int) (w : World) (hs : s.size ≤ 1000000) :
    Calls Tryz.prog 69 #[.string s, .int .i64 k] w fun e w' => ∃ v, e = .returned (.tuple #[v, .int .i64 (Sf.putS s k).2]) ∧ OB w' w.heap.size 5 v (Sf.putS s k).1 ∧ Below w.heap.size w w' := by
  obtain ⟨i0, hi, hz0, hz1, hz2⟩ := info_parts info_u8
  have hib := refzero_any s w hs
  have hzs := Sf.zb_size s
  have hput : Sf.putS s k = if k < 1 ∨ 512 < k then ([], 1) else if Sf.zb s.data.toList < s.size then ([], 3) else if k < s.size then ([], 10) else (Sf.nums s ++ List.replicate (k.toNat - s.size) 0, 0) := rfl
  have hnl : (Sf.nums s).length = s.size := by simp [Sf.nums]
  generalize Sf.zb s.data.toList = z at *
  have HNL := Lib.hid hnl; clear hnl
  by_cases h1 : k < 1 ∨ 512 < k
  · rw [if_pos h1] at hput
    have HP := Lib.hid hput; clear hput hib
    by_cases h2 : k < 1
    · go_enter Tryz.func69, Tryz.ntmps69
      go_wp2
      go_ret2
      refine ⟨_, ret_vi (by rw [HP.out]), ?_, Below.refl _ _⟩
      rw [HP.out]; exact OB.nil _ _ _
    · have h3 : 512 < k := by omega
      go_enter Tryz.func69, Tryz.ntmps69
      go_wp2
      go_ret2
      refine ⟨_, ret_vi (by rw [HP.out]), ?_, Below.refl _ _⟩
      rw [HP.out]; exact OB.nil _ _ _
  · rw [if_neg h1] at hput
    have h2 : ¬ k < 1 := by omega
    have h3 : ¬ 512 < k := by omega
    obtain ⟨d, rfl⟩ : ∃ d : Nat, k = d := ⟨k.toNat, by omega⟩
    by_cases h4 : z < s.size
    · rw [if_pos h4] at hput
      have HP := Lib.hid hput; have HI := Lib.hid hib; clear hput hib
      have h5 : (z : Int) < s.size := by omega
      go_enter Tryz.func69, Tryz.ntmps69
      go_wp2_with (go_at_call 99; (with_reducible refine HI.out.mono ?_); rintro e w' ⟨rfl, rfl⟩)
      go_ret2
      refine ⟨_, ret_vi (by rw [HP.out]), ?_, Below.refl _ _⟩
      rw [HP.out]; exact OB.nil _ _ _
    · rw [if_neg h4] at hput
      by_cases h5 : (d : Int) < s.size
      · rw [if_pos h5] at hput
        have HP := Lib.hid hput; have HI := Lib.hid hib; clear hput hib
        have h6 : decide (d < s.size) = true := by simp; omega
        go_enter Tryz.func69, Tryz.ntmps69
        go_wp2_with (go_at_call 99; (with_reducible refine HI.out.mono ?_); rintro e w' ⟨rfl, rfl⟩)
        go_ret2
        refine ⟨_, ret_vi (by rw [HP.out]), ?_, Below.refl _ _⟩
        rw [HP.out]; exact OB.nil _ _ _
      · rw [if_neg h5, Int.toNat_natCast] at hput
        have HP := Lib.hid hput; have HI := Lib.hid hib; clear hput hib
        have h6 : decide (d < s.size) = false := by simp; omega
        go_enter Tryz.func69, Tryz.ntmps69
        go_wp2_with (first | (go_at_call 99; (with_reducible refine HI.out.mono ?_); rintro e w' ⟨rfl, rfl⟩) | (at_make; refine wpList_make_full _ rfl _ _ 25 rfl w.heap.size 5 i0 _ 1 Tryz.underlying25 hi hz0 hz1 .i64 .i64 _ _ d rfl rfl (by omega) (by omega) (by rw [hz2]; omega) (by unfold maxLen; omega) (Nat.le_refl _) ?_; intro w1 hown hgrow; have ho1 := OBn.made hown))
        go_loopw [7] (fun i wr => ∃ k : Nat, k ≤ s.size ∧ i = .int .i64 k ∧ OBn wr w.heap.size 5 (.slice (some ⟨w.heap.size, 0, none⟩) d d) d ((Sf.nums s).take k ++ List.replicate (d - k) 0) ∧ Below w.heap.size w wr)
          (fun i _ => s.size - (intOf i).toNat)
        case atStart => exact ⟨0, by omega, rfl, by simpa using ho1, (Below.refl _ _).grown hgrow (Nat.le_refl _) (by simp)⟩
        case round =>
          obtain ⟨k, hk, rfl, ho, hbel⟩ := hrel
          by_cases hlt : k < s.size
          · have hc := ho.cell k (by omega)
            have hf := ho.free k
            have hset := Sf.set_nums s d k hlt (by omega)
            have hst := ho.stored k (s[k].toNat : Int)
            rw [hset] at hst
            have HST := Lib.hid hst
            clear hset hst
            go_wp2
            go_roundw
            case rel => exact ⟨k + 1, by omega, by go_num, HST.out, hbel.setCell (Nat.le_refl _) _⟩
            case measure => simp [intOf]; omega
          · have e : k = s.size := by omega
            subst e
            go_wp2
            go_ret2
            refine ⟨_, ret_vi (by rw [HP.out]), ?_, hbel⟩
            rw [HP.out]
            have := ho.ob
            rwa [List.take_of_length_le (by rw [HNL.out]; exact Nat.le_refl _)] at this
theorem cut_any2 (s : ByteArray) (k : Nat) (w : World) (hs : s.size ≤ 1000000) (hs1 : 1 ≤ s.size) (hk : Sf.IsCut s k) :
    Calls Tryz.prog 122 #[.string s] w fun e w' => e = .returned (.int .i64 (k : Int)) ∧ w = w' := by
  have HK := Lib.hid hk; clear hk
  go_enter Tryz.func122, Tryz.ntmps122
  go_wp2
  go_step3
  go_wp2
  go_step3
  go_wp2
  go_loop [3, 8] (fun v i => ∃ j : Nat, j ≤ s.size - 1 ∧ j ≤ 156 ∧ i = .int .i64 j ∧ v = .int .i64 0 ∧ Hid (∀ i, i < j → ¬ Sf.Ok s i)) (fun _ i => s.size - (intOf i).toNat)
  case atStart => exact ⟨0, by omega, by omega, rfl, rfl, fun i hi => absurd hi (by omega)⟩
  case round =>
    obtain ⟨j, hj, hj2, rfl, rfl, HJ⟩ := hrel
    by_cases h1 : j < s.size - 1
    · by_cases h2 : j ≤ 155
      · by_cases h3 : j = 0
        · subst h3
          have hn := Lib.hid (Sf.not_next HJ.out (fun ⟨_, h, _⟩ => absurd h (by omega)))
          have g : (0 : Int) < (s.size : Int) - 1 := by omega
          clear h1 h2
          go_wp2
          go_round
          case rel => exact ⟨1, by omega, by omega, by go_num, rfl, hn⟩
          case measure => simp [intOf]; omega
        · have hjs : j < s.size := by omega
          have g0 : (0 : Int) < (j : Int) := by omega
          have g1 : (j : Int) < (s.size : Int) - 1 := by omega
          have g2 : ¬ (155 : Int) < (j : Int) := by omega
          by_cases h4 : s[j] = 47
          · have g3 : ((s[j].toNat : Int) == 47) = true := by rw [h4]; rfl
            by_cases h5 : s.size ≤ j + 101
            · have e := Sf.cut_here HK.out HJ.out ⟨hjs, by omega, by omega, by omega, h4, h5⟩
              have g4 : (s.size : Int) - (j : Int) - 1 ≤ 100 := by omega
              subst e
              clear h1 h2 h4 h5
              go_wp2
              try simp only [Exit.noGoto_ret]
              go_ret
              exact ⟨rfl, rfl⟩
            · have g4 : ¬ (s.size : Int) - (j : Int) - 1 ≤ 100 := by omega
              have hn := Lib.hid (Sf.not_next HJ.out (fun ⟨_, _, _, _, _, h⟩ => h5 h))
              clear h1 h2 h4 h5
              go_wp2
              go_round
              case rel => exact ⟨j + 1, by omega, by omega, by go_num, rfl, hn⟩
              case measure => simp [intOf]; omega
          · have hn := Lib.hid (Sf.not_next HJ.out (fun ⟨_, _, _, _, h, _⟩ => h4 h))
            have g3 : ((s[j].toNat : Int) == 47) = false := by
              simp only [beq_eq_false_iff_ne, ne_eq]
              intro h
              apply h4
              apply UInt8.toNat_inj.1
              show s[j].toNat = 47
              omega
            clear h1 h2 h4
            go_wp2
            go_round
            case rel => exact ⟨j + 1, by omega, by omega, by go_num, rfl, hn⟩
            case measure => simp [intOf]; omega
      · have e := Sf.cut_none HK.out HJ.out (.inr (by omega))
        have g1 : (j : Int) < (s.size : Int) - 1 := by omega
        have g2 : (155 : Int) < (j : Int) := by omega
        subst e
        clear h1 h2
        go_wp2
        try simp only [Exit.noGoto_ret]
        go_ret
        exact ⟨rfl, rfl⟩
    · have e := Sf.cut_none HK.out HJ.out (.inl (by omega))
      have g1 : ¬ (j : Int) < (s.size : Int) - 1 := by omega
      subst e
      clear h1
      go_wp2
      try simp only [Exit.noGoto_ret]
      go_ret
      exact ⟨rfl, rfl⟩
theorem empty_of {s : ByteArray} (h : s.size = 0) : s = ⟨#[]⟩ := by
  apply ByteArray.ext
  exact Array.eq_empty_of_size_eq_zero h
theorem isEmpty_false {s : ByteArray} (h : 0 < s.size) : s.toList.isEmpty = false := by
  rw [Lib.toList_data]
  cases e : s.data.toList with
  | nil => have : s.data.toList.length = 0 := by rw [e]; rfl
           rw [← Sf.size_eq] at this; omega
  | cons a l => rfl
/-- A path parted. -/
def parts (s : ByteArray) (k : Nat) : Value := if s.size = 0 then .tuple #[.string ⟨#[]⟩, .string ⟨#[]⟩, .bool false] else if s.size ≤ 100 then .tuple #[.string ⟨#[]⟩, .string s, .bool true] else if k = 0 then .tuple #[.string ⟨#[]⟩, .string ⟨#[]⟩, .bool false] else .tuple #[.string (s.extract 0 k), .string (s.extract (k + 1) s.size), .bool true]
theorem split_any (s : ByteArray) (k : Nat) (w : World) (hs : s.size ≤ 1000000) (hk : Sf.IsCut s k) :
    Calls Tryz.prog 87 #[.string s] w fun e w' => e = .returned (parts s k) ∧ ∃ n, w' = w.drewN n := by
  have hp := parts.eq_def s k
  generalize hv : parts s k = v at *
  clear hv
  by_cases h0 : s.size = 0
  · rw [if_pos h0] at hp
    have HP := Lib.hid hp; clear hp
    obtain rfl := empty_of h0
    clear h0
    go_enter Tryz.func87, Tryz.ntmps87
    go_wp2
    go_ret3
    exact ⟨by rw [HP.out]; rfl, 0, rfl⟩
  · have hne := isEmpty_false (s := s) (by omega)
    rw [if_neg h0] at hp
    by_cases h1 : s.size ≤ 100
    · rw [if_pos h1] at hp
      have HP := Lib.hid hp; clear hp
      have g : (s.size : Int) ≤ 100 := by omega
      go_enter Tryz.func87, Tryz.ntmps87
      go_wp2
      go_ret3
      exact ⟨by rw [HP.out]; rfl, 0, rfl⟩
    · rw [if_neg h1] at hp
      have hc := cut_any2 s k w hs (by omega) hk
      have HC := Lib.hid hc; clear hc
      have g : ¬ (s.size : Int) ≤ 100 := by omega
      by_cases h2 : k = 0
      · rw [if_pos h2] at hp
        have HP := Lib.hid hp; clear hp
        subst h2
        go_enter Tryz.func87, Tryz.ntmps87
        go_wp2_with (go_at_call 122; (with_reducible refine HC.out.mono ?_); rintro e w' ⟨rfl, rfl⟩)
        go_ret3
        exact ⟨by rw [HP.out]; rfl, 0, rfl⟩
      · have hb := Sf.cut_bd hk h2
        rw [if_neg h2] at hp
        have HP := Lib.hid hp; clear hp
        have g2 : ((k : Int) == 0) = false := by simp [h2]
        obtain ⟨b1, b2, b3, b4⟩ := hb
        have s1 : IntKind.i64.wrap ((k : Int) + 1) = (k : Int) + 1 := IntWalk.i64_in _ (by omega)
        have s2 : ((k : Int) + 1).toNat = k + 1 := by omega
        have s3 : (0 : Int) ≤ (k : Int) + 1 := by omega
        have s4 : k + 1 ≤ s.size := by omega
        have s5 : k ≤ s.size := by omega
        go_enter Tryz.func87, Tryz.ntmps87
        go_wp2_with (go_at_call 122; (with_reducible refine HC.out.mono ?_); rintro e w' ⟨rfl, rfl⟩)
        go_quiet (fail)
        go_wp2
        go_ret3
        exact ⟨by rw [HP.out]; rfl, _, rfl⟩
theorem refsplit_any (s : ByteArray) (k : Nat) (w : World) (hs : s.size ≤ 1000000) (hk : Sf.IsCut s k) :
    Calls Tryz.prog 47 #[.string s] w fun e w' => e = .returned (parts s k) ∧ ∃ n, w' = w.drewN n := by
  have hp := parts.eq_def s k
  generalize hv : parts s k = v at *
  clear hv
  have HK := Lib.hid hk; clear hk
  by_cases h1 : 1 ≤ s.size ∧ s.size ≤ 100
  · rw [if_neg (by omega), if_pos h1.2] at hp
    have HP := Lib.hid hp; clear hp
    have g : (s.size : Int) ≤ 100 := by omega
    have g1 : (1 : Int) ≤ (s.size : Int) := by omega
    go_enter Tryz.func47, Tryz.ntmps47
    go_wp2
    go_ret3
    exact ⟨by rw [HP.out]; rfl, 0, rfl⟩
  · have hnone : k = 0 → v = .tuple #[.string ⟨#[]⟩, .string ⟨#[]⟩, .bool false] := by
      intro h
      rw [hp]
      by_cases h0 : s.size = 0
      · rw [if_pos h0]
      · rw [if_neg h0, if_neg (by omega), if_pos h]
    have hsome : 1 ≤ k → k < s.size → v = .tuple #[.string (s.extract 0 k), .string (s.extract (k + 1) s.size), .bool true] := by
      intro h h2
      rw [hp, if_neg (by omega), if_neg (by omega), if_neg (by omega)]
    have HN := Lib.hid hnone; have HS := Lib.hid hsome; clear hnone hsome hp
    go_enter Tryz.func47, Tryz.ntmps47
    by_cases hz : s.size = 0
    · obtain rfl := empty_of hz
      have e := Sf.cut_none HK.out (j := 0) (fun i hi => absurd hi (by omega)) (.inl (by omega))
      have hv := Lib.hid (HN.out e)
      clear h1 hz e
      go_wp2
      go_loop [5] (fun i => i = .int .i64 1) (fun i => 0)
      case atStart => rfl
      case round =>
        obtain rfl := hrel
        go_wp2
        go_ret3
        exact ⟨by rw [hv.out]; rfl, 0, rfl⟩
    · have g0 : ¬ s.size ≤ 100 := by omega
      have g1 : ¬ (s.size : Int) ≤ 100 := by omega
      have g2 : (1 : Int) ≤ (s.size : Int) := by omega
      clear h1
      go_wp2
      go_loop [5] (fun i => ∃ j : Nat, 1 ≤ j ∧ j ≤ s.size ∧ j ≤ 156 ∧ i = .int .i64 j ∧ Hid (∀ i, i < j → ¬ Sf.Ok s i)) (fun i => s.size - (intOf i).toNat)
      case atStart => exact ⟨1, by omega, by omega, by omega, rfl, fun i hi ⟨_, h, _⟩ => by omega⟩
      case round =>
        obtain ⟨j, hj0, hj, hj2, rfl, HJ⟩ := hrel
        by_cases h1 : j < s.size
        · by_cases h2 : j ≤ 155
          · have g3 : (j : Int) < s.size := by omega
            have g4 : (j : Int) ≤ 155 := by omega
            have next : ¬ Sf.Ok s j → Hid (∀ i, i < j + 1 → ¬ Sf.Ok s i) := fun h => Sf.not_next HJ.out h
            have NX := Lib.hid next; clear next
            by_cases h4 : s[j] = 47
            · have g5 : ((s[j].toNat : Int) == 47) = true := by rw [h4]; rfl
              by_cases h6 : 1 ≤ (s.size : Int) - j - 1
              · by_cases h5 : (s.size : Int) - j - 1 ≤ 100
                · have e := Sf.cut_here HK.out HJ.out ⟨h1, by omega, by omega, by omega, h4, by omega⟩
                  subst e
                  have hv := Lib.hid (HS.out hj0 h1)
                  have s1 : IntKind.i64.wrap ((k : Int) + 1) = (k : Int) + 1 := IntWalk.i64_in _ (by omega)
                  have s2 : ((k : Int) + 1).toNat = k + 1 := by omega
                  have s3 : (0 : Int) ≤ (k : Int) + 1 := by omega
                  have s4 : k + 1 ≤ s.size := by omega
                  have s5 : k ≤ s.size := by omega
                  clear h4 h2
                  go_wp2
                  go_quiet (fail)
                  go_wp2
                  go_ret3
                  exact ⟨by rw [hv.out]; rfl, _, rfl⟩
                · have hn := NX.out (fun ⟨_, _, _, _, _, h⟩ => by omega)
                  clear h4 h2
                  go_wp2
                  go_round
                  case rel => exact ⟨j + 1, by omega, by omega, by omega, by go_num, hn⟩
                  case measure => simp [intOf]; omega
              · have hn := NX.out (fun ⟨_, _, _, _, _, h⟩ => by omega)
                clear h4 h2
                go_wp2
                go_round
                case rel => exact ⟨j + 1, by omega, by omega, by omega, by go_num, hn⟩
                case measure => simp [intOf]; omega
            · have hn := NX.out (fun ⟨_, _, _, _, h, _⟩ => h4 h)
              have g5 : ((s[j].toNat : Int) == 47) = false := by
                simp only [beq_eq_false_iff_ne, ne_eq]
                intro h
                apply h4
                apply UInt8.toNat_inj.1
                show s[j].toNat = 47
                omega
              clear h4 h2
              go_wp2
              go_round
              case rel => exact ⟨j + 1, by omega, by omega, by omega, by go_num, hn⟩
              case measure => simp [intOf]; omega
          · have e := Sf.cut_none HK.out HJ.out (.inr (by omega))
            have hv := Lib.hid (HN.out e)
            have g3 : (j : Int) < s.size := by omega
            have g4 : ¬ (j : Int) ≤ 155 := by omega
            clear e h1 h2
            go_wp2
            go_ret3
            exact ⟨by rw [hv.out]; rfl, 0, rfl⟩
        · have e := Sf.cut_none HK.out HJ.out (.inl (by omega))
          have hv := Lib.hid (HN.out e)
          have g3 : ¬ (j : Int) < s.size := by omega
          clear e h1
          go_wp2
          go_ret3
          exact ⟨by rw [hv.out]; rfl, 0, rfl⟩
theorem join_any (p n : ByteArray) (w : World) (hp : p.size ≤ 1000000) (hn : n.size ≤ 1000000) :
    Calls Tryz.prog 151 #[.string p, .string n] w fun e w' => e = .returned (.string (if p.size = 0 then n else p ++ ⟨#[47]⟩ ++ n)) ∧ w = w' := by
  by_cases h : p.size = 0
  · rw [if_pos h]
    obtain rfl := empty_of h
    go_enter Tryz.func151, Tryz.ntmps151
    go_wp2
    go_ret
    exact ⟨rfl, rfl⟩
  · rw [if_neg h]
    have hne := isEmpty_false (s := p) (by omega)
    go_enter Tryz.func151, Tryz.ntmps151
    go_wp2
    go_ret
    exact ⟨rfl, rfl⟩
def partsB (s : ByteArray) (k : Nat) : Bool := if s.size = 0 then false else if s.size ≤ 100 then true else if k = 0 then false else true
theorem parts_of (s : ByteArray) (k : Nat) : ∃ p n, parts s k = .tuple #[.string p, .string n, .bool (partsB s k)] := by
  unfold parts partsB
  split
  · exact ⟨_, _, rfl⟩
  · split
    · exact ⟨_, _, rfl⟩
    · split
      · exact ⟨_, _, rfl⟩
      · exact ⟨_, _, rfl⟩
theorem fits_any (s : ByteArray) (k : Nat) (w : World) (hs : s.size ≤ 1000000) (hk : Sf.IsCut s k) :
    Calls Tryz.prog 84 #[.string s] w fun e w' => e = .returned (.bool (partsB s k)) ∧ ∃ n, w' = w.drewN n := by
  obtain ⟨p, n, h⟩ := parts_of s k
  have c := split_any s k w hs hk
  rw [h] at c
  have C := Lib.hid c; clear c h
  generalize partsB s k = b at *
  go_enter Tryz.func84, Tryz.ntmps84
  go_wp2_with (go_at_call 87; (with_reducible refine C.out.mono ?_); rintro e w' ⟨rfl, m, rfl⟩)
  go_ret
  exact ⟨rfl, m, rfl⟩
end Go.Proofs.YtjofdgjcbjdhbaaGreatDoor
