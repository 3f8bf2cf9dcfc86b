/- WALKS OF LAYER 2, THIRD PART: the reference's Get, strf.Put and the reference's. -/
import Derived.Test.YtfkhemlaohkhkaaDoorV2b
import Derived.Laws.CopyOwn
namespace Go.Proofs.YtfkhemlaohkhkaaDoor
open Go.RowKit
set_option maxHeartbeats 400000
theorem refget_any2 (A : Option Addr) (n c : Nat) (xs : List Int) (w : World) (ha : RB w w.heap.size A n xs) (hx : Byt xs) (hn : n ≤ 1000000) :
    Calls Tryd.prog 34 #[.slice A n c] w fun e w' => e = .returned (.tuple #[.string (strOfNums (Sf.getS xs).1), .int .i64 (Sf.getS xs).2]) ∧ w = w' := by
  have hle := Sf.zi_le xs
  have hxl := ha.1
  have hsz := Sf.size_strOfNums (Sf.looseS xs)
  have hll : (Sf.looseS xs).length = Sf.zi xs := by unfold Sf.looseS; rw [List.length_take]; omega
  rw [hll] at hsz
  have hfin := get_facts xs
  have L := Lib.hid (refloose_any A n c xs w ha hx hn)
  generalize hS : strOfNums (Sf.looseS xs) = s at *
  generalize Sf.zi xs = z at *
  subst hsz
  have HS := Lib.hid hS; have HX := Lib.hid hxl; have HF := Lib.hid hfin; clear hS hxl hfin hll
  have hle' : s.size ≤ n := by have := HX.out; omega
  go_enter Tryd.func34, Tryd.ntmps34
  go_wp2_with (go_at_call 52; (with_reducible refine L.out.mono ?_); rintro e w' ⟨rfl, rfl⟩)
  go_loop [5] (fun i => ∃ k : Nat, s.size ≤ k ∧ k ≤ n ∧ i = .int .i64 k ∧ Hid (∀ j, s.size ≤ j → j < k → xs.getD j 0 = 0)) (fun i => n - (intOf i).toNat)
  case atStart => exact ⟨s.size, Nat.le_refl _, hle', rfl, fun j h1 h2 => absurd h2 (by omega)⟩
  case round =>
    obtain ⟨k, hk1, hk, rfl, HJ⟩ := hrel
    have hF := HF.out k hk1 HJ
    by_cases hlt : k < n
    · obtain ⟨ba, oa, rfl, hba, hca⟩ := ha.at_ hlt
      generalize hy : xs.getD k 0 = y at *
      have HY := Lib.hid hy; have HFF := Lib.hid hF; clear hy hF
      by_cases h0 : y = 0
      · have g : (y != 0) = false := by simp [h0]
        have H0 := Lib.hid h0; clear h0
        go_wp2
        go_round
        case rel =>
          refine ⟨k + 1, by omega, by omega, by go_num, fun j h1 h2 => ?_⟩
          by_cases hj : j < k
          · exact HJ j h1 hj
          · rw [show j = k from by omega, HY.out, H0.out]
        case measure => simp [intOf]; omega
      · have g : (y != 0) = true := by simp [h0]
        have hg := HFF.out.1 (by have := HX.out; omega) h0
        have HG := Lib.hid hg; clear hg h0
        go_wp2
        go_ret2
        exact ⟨by rw [HG.out]; rfl, rfl⟩
    · have hg := hF.2 (by have := HX.out; omega)
      have HG := Lib.hid hg; clear hg hF
      go_wp2
      go_ret2
      exact ⟨by rw [HG.out, HS.out]; rfl, rfl⟩
theorem OBn.copied {w : World} {base : Nat} {g n c : Nat} {xs : List Int} (h : OBn w base 5 (.slice (some ⟨g, 0, none⟩) n c) n xs) (s : ByteArray) (hs : s.size ≤ n) :
    ∃ w', (∀ ty : TypeId, (Builtin.copy_ #[28, 9] ty #[.slice (some ⟨g, 0, none⟩) n c, .string s]).run Tryd.prog w = .ok (goInt s.size) w') ∧ OBn w' base 5 (.slice (some ⟨g, 0, none⟩) n c) n (Sf.nums s ++ xs.drop s.size) ∧
      ∀ B w0, B ≤ g → Below B w0 w → Below B w0 w' := by
  have hl := h.len
  obtain ⟨hlen, h2⟩ := h
  rcases h2 with ⟨hh, _⟩ | ⟨g', cap, cur, hv, hb, hg, hnc, hcm, hcs, htake⟩
  · cases hh
  · cases hv
    have hfit : 0 + s.size ≤ cur.size := by omega
    refine ⟨_, fun ty => Lib.run_copy_row_string (P := Tryd.prog) w 28 9 ty 5 g 0 n c s cur 5 Tryd.underlying28 (by kernel_rfl) hg hs hfit, ?_, fun B w0 h1 h2 => below_setRow h2 h1 _⟩
    have hbl : (Lib.byteCells s.data.toList).length = s.size := by rw [Lib.byteCells_length, ← Lib.size_eq]
    refine ⟨by rw [List.length_map, List.length_append, List.length_drop]; simp [Sf.nums]; omega, .inr ⟨g, c, _, rfl, hb, setRow_heap w g _ _ _ _ hg, hnc, hcm, ?_, ?_⟩⟩
    · simp; omega
    · have e1 : (cur.toList.take n).drop s.size = (xs.drop s.size).map (Value.int .u8) := by
        rw [List.map_drop, ← htake, Nat.mul_one]
      have e2 : (Sf.nums s).map (Value.int .u8) = Lib.byteCells s.data.toList := by simp [Sf.nums, Lib.byteCells]
      rw [List.map_append, ← e1, e2]
      simp only [List.take_zero, List.nil_append, Nat.zero_add, Nat.mul_one]
      rw [List.take_append, hbl, List.take_of_length_le (by omega), List.drop_take]
/-- A text laid in any width. -/
theorem put_any2 (s : ByteArray) (k : Int) (w : World) (_hs : s.size ≤ 1000000) :
    Calls Tryd.prog 37 #[.string s, .int .i64 k] w fun e w' => ∃ v, e = .returned (.tuple #[v, .int .i64 (Sf.putS s k).2]) ∧ OB w' w.heap.size 5 v (Sf.putS s k).1 ∧ Below w.heap.size w w' := by
  obtain ⟨i0, hi, hz0, hz1, hz2⟩ := info_parts info_u8
  have hib := ibs_any s 0 w
  rw [show (0 : Int).toNat.toUInt8 = 0 from rfl, Sf.indexByte_zb, ← Sf.size_eq] at hib
  have hput : Sf.putS s k = if k < 1 ∨ 512 < k then ([], 1) else if Sf.zb s.data.toList < s.size then ([], 3) else if k < s.size then ([], 10) else (Sf.nums s ++ List.replicate (k.toNat - s.size) 0, 0) := rfl
  have hnl : (Sf.nums s).length = s.size := by simp [Sf.nums]
  generalize Sf.zb s.data.toList = z at *
  have HNL := Lib.hid hnl; clear hnl
  by_cases h1 : k < 1 ∨ 512 < k
  · rw [if_pos h1] at hput
    have HP := Lib.hid hput; clear hput hib
    by_cases h2 : k < 1
    · go_enter Tryd.func37, Tryd.ntmps37
      go_wp2
      go_ret2
      refine ⟨_, ret_vi (by rw [HP.out]), ?_, Below.refl _ _⟩
      rw [HP.out]; exact OB.nil _ _ _
    · have h3 : 512 < k := by omega
      go_enter Tryd.func37, Tryd.ntmps37
      go_wp2
      go_ret2
      refine ⟨_, ret_vi (by rw [HP.out]), ?_, Below.refl _ _⟩
      rw [HP.out]; exact OB.nil _ _ _
  · rw [if_neg h1] at hput
    have h2 : ¬ k < 1 := by omega
    have h3 : ¬ 512 < k := by omega
    obtain ⟨d, rfl⟩ : ∃ d : Nat, k = d := ⟨k.toNat, by omega⟩
    by_cases h4 : z < s.size
    · rw [if_pos h4] at hput hib
      have HP := Lib.hid hput; have HI := Lib.hid hib; clear hput hib
      have h5 : (0 : Int) ≤ z := by omega
      go_enter Tryd.func37, Tryd.ntmps37
      go_wp2_with (go_at_call 54; (with_reducible refine HI.out.mono ?_); rintro e w' ⟨rfl, rfl⟩)
      go_ret2
      refine ⟨_, ret_vi (by rw [HP.out]), ?_, Below.refl _ _⟩
      rw [HP.out]; exact OB.nil _ _ _
    · rw [if_neg h4] at hput hib
      by_cases h5 : (d : Int) < s.size
      · rw [if_pos h5] at hput
        have HP := Lib.hid hput; have HI := Lib.hid hib; clear hput hib
        have h6 : decide (d < s.size) = true := by simp; omega
        go_enter Tryd.func37, Tryd.ntmps37
        go_wp2_with (go_at_call 54; (with_reducible refine HI.out.mono ?_); rintro e w' ⟨rfl, rfl⟩)
        go_ret2
        refine ⟨_, ret_vi (by rw [HP.out]), ?_, Below.refl _ _⟩
        rw [HP.out]; exact OB.nil _ _ _
      · rw [if_neg h5, Int.toNat_natCast] at hput
        have HP := Lib.hid hput; have HI := Lib.hid hib; clear hput hib
        have h6 : decide (d < s.size) = false := by simp; omega
        go_enter Tryd.func37, Tryd.ntmps37
        go_wp2_with (first | (go_at_call 54; (with_reducible refine HI.out.mono ?_); rintro e w' ⟨rfl, rfl⟩) | (at_make; refine wpList_make_full _ rfl _ _ 28 rfl w.heap.size 5 i0 _ 1 Tryd.underlying28 hi hz0 hz1 .i64 .i64 _ _ d rfl rfl (by omega) (by omega) (by rw [hz2]; omega) (by unfold maxLen; omega) (Nat.le_refl _) ?_; intro w1 hown hgrow; obtain ⟨w2, hrun, ho2, hbel⟩ := (OBn.made hown).copied s (by omega); have hb2 := hbel w.heap.size w (Nat.le_refl _) ((Below.refl _ _).grown hgrow (Nat.le_refl _) (by simp)); have HR := Lib.hid hrun; clear hrun hbel) | (refine Lib.wpList_copy_run _ rfl _ _ 28 9 rfl (.slice (some ⟨w.heap.size, 0, none⟩) d d) (.string s) rfl rfl (HR.out _) ?_))
        go_ret2
        refine ⟨_, ret_vi (by rw [HP.out]), ?_, hb2⟩
        rw [HP.out]
        have := ho2.ob
        rwa [List.drop_replicate] at this
end Go.Proofs.YtfkhemlaohkhkaaDoor
