/- WALKS OF LAYER 2, THIRD PART: the reference's Get, strf.Put and the reference's. -/
import Derived.Test.YtjhigkkkfkahdaaGreatDoorV2b
import Derived.Laws.CopyOwn
namespace Go.Proofs.YtjhigkkkfkahdaaGreatDoor
open Go.RowKit
set_option maxHeartbeats 400000
set_option maxRecDepth 100000
theorem OBn.copied {w : World} {base : Nat} {g n c : Nat} {xs : List Int} (h : OBn w base 5 (.slice (some ⟨g, 0, none⟩) n c) n xs) (s : ByteArray) (hs : s.size ≤ n) :
    ∃ w', (∀ ty : TypeId, (Builtin.copy_ #[27, 9] ty #[.slice (some ⟨g, 0, none⟩) n c, .string s]).run Tryz.prog w = .ok (goInt s.size) w') ∧ OBn w' base 5 (.slice (some ⟨g, 0, none⟩) n c) n (Sf.nums s ++ xs.drop s.size) ∧
      ∀ B w0, B ≤ g → Below B w0 w → Below B w0 w' := by
  have hl := h.len
  obtain ⟨hlen, h2⟩ := h
  rcases h2 with ⟨hh, _⟩ | ⟨g', cap, cur, hv, hb, hg, hnc, hcm, hcs, htake⟩
  · cases hh
  · cases hv
    have hfit : 0 + s.size ≤ cur.size := by omega
    refine ⟨_, fun ty => Lib.run_copy_row_string (P := Tryz.prog) w 27 9 ty 5 g 0 n c s cur 5 Tryz.underlying27 (by kernel_rfl) hg hs hfit, ?_, fun B w0 h1 h2 => below_setRow h2 h1 _⟩
    have hbl : (Lib.byteCells s.data.toList).length = s.size := by rw [Lib.byteCells_length, ← Lib.size_eq]
    refine ⟨by rw [List.length_map, List.length_append, List.length_drop]; simp [Sf.nums]; omega, .inr ⟨g, c, _, rfl, hb, setRow_heap w g _ _ _ _ hg, hnc, hcm, ?_, ?_⟩⟩
    · simp; omega
    · have e1 : (cur.toList.take n).drop s.size = (xs.drop s.size).map (Value.int .u8) := by
        rw [List.map_drop, ← htake, Nat.mul_one]
      have e2 : (Sf.nums s).map (Value.int .u8) = Lib.byteCells s.data.toList := by simp [Sf.nums, Lib.byteCells]
      rw [List.map_append, ← e1, e2]
      simp only [List.take_zero, List.nil_append, Nat.zero_add, Nat.mul_one]
      rw [List.take_append, hbl, List.take_of_length_le (by omega), List.drop_take]
/-- A text laid in any width. -/
theorem put_any2 (s : ByteArray) (k : Int) (w : World) (_hs : s.size ≤ 1000000) :
    Calls Tryz.prog 116 #[.string s, .int .i64 k] w fun e w' => ∃ v, e = .returned (.tuple #[v, .int .i64 (Sf.putS s k).2]) ∧ OB w' w.heap.size 5 v (Sf.putS s k).1 ∧ Below w.heap.size w w' := by
  obtain ⟨i0, hi, hz0, hz1, hz2⟩ := info_parts info_u8
  have hib := ibs_any s 0 w
  rw [show (0 : Int).toNat.toUInt8 = 0 from rfl, Sf.indexByte_zb, ← Sf.size_eq] at hib
  have hput : Sf.putS s k = if k < 1 ∨ 512 < k then ([], 1) else if Sf.zb s.data.toList < s.size then ([], 3) else if k < s.size then ([], 10) else (Sf.nums s ++ List.replicate (k.toNat - s.size) 0, 0) := rfl
  have hnl : (Sf.nums s).length = s.size := by simp [Sf.nums]
  generalize Sf.zb s.data.toList = z at *
  have HNL := Lib.hid hnl; clear hnl
  by_cases h1 : k < 1 ∨ 512 < k
  · rw [if_pos h1] at hput
    have HP := Lib.hid hput; clear hput hib
    by_cases h2 : k < 1
    · go_enter Tryz.func116, Tryz.ntmps116
      go_wp2
      go_ret2
      refine ⟨_, ret_vi (by rw [HP.out]), ?_, Below.refl _ _⟩
      rw [HP.out]; exact OB.nil _ _ _
    · have h3 : 512 < k := by omega
      go_enter Tryz.func116, Tryz.ntmps116
      go_wp2
      go_ret2
      refine ⟨_, ret_vi (by rw [HP.out]), ?_, Below.refl _ _⟩
      rw [HP.out]; exact OB.nil _ _ _
  · rw [if_neg h1] at hput
    have h2 : ¬ k < 1 := by omega
    have h3 : ¬ 512 < k := by omega
    obtain ⟨d, rfl⟩ : ∃ d : Nat, k = d := ⟨k.toNat, by omega⟩
    by_cases h4 : z < s.size
    · rw [if_pos h4] at hput hib
      have HP := Lib.hid hput; have HI := Lib.hid hib; clear hput hib
      have h5 : (0 : Int) ≤ z := by omega
      go_enter Tryz.func116, Tryz.ntmps116
      go_wp2_with (go_at_call 83; (with_reducible refine HI.out.mono ?_); rintro e w' ⟨rfl, rfl⟩)
      go_ret2
      refine ⟨_, ret_vi (by rw [HP.out]), ?_, Below.refl _ _⟩
      rw [HP.out]; exact OB.nil _ _ _
    · rw [if_neg h4] at hput hib
      by_cases h5 : (d : Int) < s.size
      · rw [if_pos h5] at hput
        have HP := Lib.hid hput; have HI := Lib.hid hib; clear hput hib
        have h6 : decide (d < s.size) = true := by simp; omega
        go_enter Tryz.func116, Tryz.ntmps116
        go_wp2_with (go_at_call 83; (with_reducible refine HI.out.mono ?_); rintro e w' ⟨rfl, rfl⟩)
        go_ret2
        refine ⟨_, ret_vi (by rw [HP.out]), ?_, Below.refl _ _⟩
        rw [HP.out]; exact OB.nil _ _ _
      · rw [if_neg h5, Int.toNat_natCast] at hput
        have HP := Lib.hid hput; have HI := Lib.hid hib; clear hput hib
        have h6 : decide (d < s.size) = false := by simp; omega
        go_enter Tryz.func116, Tryz.ntmps116
        go_wp2_with (first | (go_at_call 83; (with_reducible refine HI.out.mono ?_); rintro e w' ⟨rfl, rfl⟩) | (at_make; refine wpList_make_full _ rfl _ _ 27 rfl w.heap.size 5 i0 _ 1 Tryz.underlying27 hi hz0 hz1 .i64 .i64 _ _ d rfl rfl (by omega) (by omega) (by rw [hz2]; omega) (by unfold maxLen; omega) (Nat.le_refl _) ?_; intro w1 hown hgrow; obtain ⟨w2, hrun, ho2, hbel⟩ := (OBn.made hown).copied s (by omega); have hb2 := hbel w.heap.size w (Nat.le_refl _) ((Below.refl _ _).grown hgrow (Nat.le_refl _) (by simp)); have HR := Lib.hid hrun; clear hrun hbel) | (refine Lib.wpList_copy_run _ rfl _ _ 27 9 rfl (.slice (some ⟨w.heap.size, 0, none⟩) d d) (.string s) rfl rfl (HR.out _) ?_))
        go_ret2
        refine ⟨_, ret_vi (by rw [HP.out]), ?_, hb2⟩
        rw [HP.out]
        have := ho2.ob
        rwa [List.drop_replicate] at this
end Go.Proofs.YtjhigkkkfkahdaaGreatDoor
/- WALKS OF LAYER 2, FOURTH PART: the reference's Put; a path parted and joined. -/
namespace Go.Proofs.YtjhigkkkfkahdaaGreatDoor
open Go.RowKit
set_option maxHeartbeats 400000
set_option maxRecDepth 100000
theorem refput_any2 (s : ByteArray) (k : Int) (w : World) (hs : s.size ≤ 1000000) :
    Calls Tryz.prog 100 #[.string s, .int .i64 k] w fun e w' => ∃ v, e = .returned (.tuple #[v, .int .i64 (Sf.putS s k).2]) ∧ OB w' w.heap.size 5 v (Sf.putS s k).1 ∧ Below w.heap.size w w' := by
  obtain ⟨i0, hi, hz0, hz1, hz2⟩ := info_parts info_u8
  have hib := refzero_any s w hs
  have hzs := Sf.zb_size s
  have hput : Sf.putS s k = if k < 1 ∨ 512 < k then ([], 1) else if Sf.zb s.data.toList < s.size then ([], 3) else if k < s.size then ([], 10) else (Sf.nums s ++ List.replicate (k.toNat - s.size) 0, 0) := rfl
  have hnl : (Sf.nums s).length = s.size := by simp [Sf.nums]
  generalize Sf.zb s.data.toList = z at *
  have HNL := Lib.hid hnl; clear hnl
  by_cases h1 : k < 1 ∨ 512 < k
  · rw [if_pos h1] at hput
    have HP := Lib.hid hput; clear hput hib
    by_cases h2 : k < 1
    · go_enter Tryz.func100, Tryz.ntmps100
      go_wp2
      go_ret2
      refine ⟨_, ret_vi (by rw [HP.out]), ?_, Below.refl _ _⟩
      rw [HP.out]; exact OB.nil _ _ _
    · have h3 : 512 < k := by omega
      go_enter Tryz.func100, Tryz.ntmps100
      go_wp2
      go_ret2
      refine ⟨_, ret_vi (by rw [HP.out]), ?_, Below.refl _ _⟩
      rw [HP.out]; exact OB.nil _ _ _
  · rw [if_neg h1] at hput
    have h2 : ¬ k < 1 := by omega
    have h3 : ¬ 512 < k := by omega
    obtain ⟨d, rfl⟩ : ∃ d : Nat, k = d := ⟨k.toNat, by omega⟩
    by_cases h4 : z < s.size
    · rw [if_pos h4] at hput
      have HP := Lib.hid hput; have HI := Lib.hid hib; clear hput hib
      have h5 : (z : Int) < s.size := by omega
      go_enter Tryz.func100, Tryz.ntmps100
      go_wp2_with (go_at_call 126; (with_reducible refine HI.out.mono ?_); rintro e w' ⟨rfl, rfl⟩)
      go_ret2
      refine ⟨_, ret_vi (by rw [HP.out]), ?_, Below.refl _ _⟩
      rw [HP.out]; exact OB.nil _ _ _
    · rw [if_neg h4] at hput
      by_cases h5 : (d : Int) < s.size
      · rw [if_pos h5] at hput
        have HP := Lib.hid hput; have HI := Lib.hid hib; clear hput hib
        have h6 : decide (d < s.size) = true := by simp; omega
        go_enter Tryz.func100, Tryz.ntmps100
        go_wp2_with (go_at_call 126; (with_reducible refine HI.out.mono ?_); rintro e w' ⟨rfl, rfl⟩)
        go_ret2
        refine ⟨_, ret_vi (by rw [HP.out]), ?_, Below.refl _ _⟩
        rw [HP.out]; exact OB.nil _ _ _
      · rw [if_neg h5, Int.toNat_natCast] at hput
        have HP := Lib.hid hput; have HI := Lib.hid hib; clear hput hib
        have h6 : decide (d < s.size) = false := by simp; omega
        go_enter Tryz.func100, Tryz.ntmps100
        go_wp2_with (first | (go_at_call 126; (with_reducible refine HI.out.mono ?_); rintro e w' ⟨rfl, rfl⟩) | (at_make; refine wpList_make_full _ rfl _ _ 27 rfl w.heap.size 5 i0 _ 1 Tryz.underlying27 hi hz0 hz1 .i64 .i64 _ _ d rfl rfl (by omega) (by omega) (by rw [hz2]; omega) (by unfold maxLen; omega) (Nat.le_refl _) ?_; intro w1 hown hgrow; have ho1 := OBn.made hown))
        go_loopw [7] (fun i wr => ∃ k : Nat, k ≤ s.size ∧ i = .int .i64 k ∧ OBn wr w.heap.size 5 (.slice (some ⟨w.heap.size, 0, none⟩) d d) d ((Sf.nums s).take k ++ List.replicate (d - k) 0) ∧ Below w.heap.size w wr)
          (fun i _ => s.size - (intOf i).toNat)
        case atStart => exact ⟨0, by omega, rfl, by simpa using ho1, (Below.refl _ _).grown hgrow (Nat.le_refl _) (by simp)⟩
        case round =>
          obtain ⟨k, hk, rfl, ho, hbel⟩ := hrel
          by_cases hlt : k < s.size
          · have hc := ho.cell k (by omega)
            have hf := ho.free k
            have hset := Sf.set_nums s d k hlt (by omega)
            have hst := ho.stored k (s[k].toNat : Int)
            rw [hset] at hst
            have HST := Lib.hid hst
            clear hset hst
            go_wp2
            go_roundw
            case rel => exact ⟨k + 1, by omega, by go_num, HST.out, hbel.setCell (Nat.le_refl _) _⟩
            case measure => simp [intOf]; omega
          · have e : k = s.size := by omega
            subst e
            go_wp2
            go_ret2
            refine ⟨_, ret_vi (by rw [HP.out]), ?_, hbel⟩
            rw [HP.out]
            have := ho.ob
            rwa [List.take_of_length_le (by rw [HNL.out]; exact Nat.le_refl _)] at this
theorem cut_any2 (s : ByteArray) (k : Nat) (w : World) (hs : s.size ≤ 1000000) (hs1 : 1 ≤ s.size) (hk : Sf.IsCut s k) :
    Calls Tryz.prog 92 #[.string s] w fun e w' => e = .returned (.int .i64 (k : Int)) ∧ w = w' := by
  have HK := Lib.hid hk; clear hk
  go_enter Tryz.func92, Tryz.ntmps92
  go_wp2
  go_step3
  go_wp2
  go_step3
  go_wp2
  go_loop [3, 8] (fun v i => ∃ j : Nat, j ≤ s.size - 1 ∧ j ≤ 156 ∧ i = .int .i64 j ∧ v = .int .i64 0 ∧ Hid (∀ i, i < j → ¬ Sf.Ok s i)) (fun _ i => s.size - (intOf i).toNat)
  case atStart => exact ⟨0, by omega, by omega, rfl, rfl, fun i hi => absurd hi (by omega)⟩
  case round =>
    obtain ⟨j, hj, hj2, rfl, rfl, HJ⟩ := hrel
    by_cases h1 : j < s.size - 1
    · by_cases h2 : j ≤ 155
      · by_cases h3 : j = 0
        · subst h3
          have hn := Lib.hid (Sf.not_next HJ.out (fun ⟨_, h, _⟩ => absurd h (by omega)))
          have g : (0 : Int) < (s.size : Int) - 1 := by omega
          clear h1 h2
          go_wp2
          go_round
          case rel => exact ⟨1, by omega, by omega, by go_num, rfl, hn⟩
          case measure => simp [intOf]; omega
        · have hjs : j < s.size := by omega
          have g0 : (0 : Int) < (j : Int) := by omega
          have g1 : (j : Int) < (s.size : Int) - 1 := by omega
          have g2 : ¬ (155 : Int) < (j : Int) := by omega
          by_cases h4 : s[j] = 47
          · have g3 : ((s[j].toNat : Int) == 47) = true := by rw [h4]; rfl
            by_cases h5 : s.size ≤ j + 101
            · have e := Sf.cut_here HK.out HJ.out ⟨hjs, by omega, by omega, by omega, h4, h5⟩
              have g4 : (s.size : Int) - (j : Int) - 1 ≤ 100 := by omega
              subst e
              clear h1 h2 h4 h5
              go_wp2
              try simp only [Exit.noGoto_ret]
              go_ret
              exact ⟨rfl, rfl⟩
            · have g4 : ¬ (s.size : Int) - (j : Int) - 1 ≤ 100 := by omega
              have hn := Lib.hid (Sf.not_next HJ.out (fun ⟨_, _, _, _, _, h⟩ => h5 h))
              clear h1 h2 h4 h5
              go_wp2
              go_round
              case rel => exact ⟨j + 1, by omega, by omega, by go_num, rfl, hn⟩
              case measure => simp [intOf]; omega
          · have hn := Lib.hid (Sf.not_next HJ.out (fun ⟨_, _, _, _, h, _⟩ => h4 h))
            have g3 : ((s[j].toNat : Int) == 47) = false := by
              simp only [beq_eq_false_iff_ne, ne_eq]
              intro h
              apply h4
              apply UInt8.toNat_inj.1
              show s[j].toNat = 47
              omega
            clear h1 h2 h4
            go_wp2
            go_round
            case rel => exact ⟨j + 1, by omega, by omega, by go_num, rfl, hn⟩
            case measure => simp [intOf]; omega
      · have e := Sf.cut_none HK.out HJ.out (.inr (by omega))
        have g1 : (j : Int) < (s.size : Int) - 1 := by omega
        have g2 : (155 : Int) < (j : Int) := by omega
        subst e
        clear h1 h2
        go_wp2
        try simp only [Exit.noGoto_ret]
        go_ret
        exact ⟨rfl, rfl⟩
    · have e := Sf.cut_none HK.out HJ.out (.inl (by omega))
      have g1 : ¬ (j : Int) < (s.size : Int) - 1 := by omega
      subst e
      clear h1
      go_wp2
      try simp only [Exit.noGoto_ret]
      go_ret
      exact ⟨rfl, rfl⟩
theorem empty_of {s : ByteArray} (h : s.size = 0) : s = ⟨#[]⟩ := by
  apply ByteArray.ext
  exact Array.eq_empty_of_size_eq_zero h
theorem isEmpty_false {s : ByteArray} (h : 0 < s.size) : s.toList.isEmpty = false := by
  rw [Lib.toList_data]
  cases e : s.data.toList with
  | nil => have : s.data.toList.length = 0 := by rw [e]; rfl
           rw [← Sf.size_eq] at this; omega
  | cons a l => rfl
/-- A path parted. -/
def parts (s : ByteArray) (k : Nat) : Value := if s.size = 0 then .tuple #[.string ⟨#[]⟩, .string ⟨#[]⟩, .bool false] else if s.size ≤ 100 then .tuple #[.string ⟨#[]⟩, .string s, .bool true] else if k = 0 then .tuple #[.string ⟨#[]⟩, .string ⟨#[]⟩, .bool false] else .tuple #[.string (s.extract 0 k), .string (s.extract (k + 1) s.size), .bool true]
theorem split_any (s : ByteArray) (k : Nat) (w : World) (hs : s.size ≤ 1000000) (hk : Sf.IsCut s k) :
    Calls Tryz.prog 65 #[.string s] w fun e w' => e = .returned (parts s k) ∧ ∃ n, w' = w.drewN n := by
  have hp := parts.eq_def s k
  generalize hv : parts s k = v at *
  clear hv
  by_cases h0 : s.size = 0
  · rw [if_pos h0] at hp
    have HP := Lib.hid hp; clear hp
    obtain rfl := empty_of h0
    clear h0
    go_enter Tryz.func65, Tryz.ntmps65
    go_wp2
    go_ret3
    exact ⟨by rw [HP.out]; rfl, 0, rfl⟩
  · have hne := isEmpty_false (s := s) (by omega)
    rw [if_neg h0] at hp
    by_cases h1 : s.size ≤ 100
    · rw [if_pos h1] at hp
      have HP := Lib.hid hp; clear hp
      have g : (s.size : Int) ≤ 100 := by omega
      go_enter Tryz.func65, Tryz.ntmps65
      go_wp2
      go_ret3
      exact ⟨by rw [HP.out]; rfl, 0, rfl⟩
    · rw [if_neg h1] at hp
      have hc := cut_any2 s k w hs (by omega) hk
      have HC := Lib.hid hc; clear hc
      have g : ¬ (s.size : Int) ≤ 100 := by omega
      by_cases h2 : k = 0
      · rw [if_pos h2] at hp
        have HP := Lib.hid hp; clear hp
        subst h2
        go_enter Tryz.func65, Tryz.ntmps65
        go_wp2_with (go_at_call 92; (with_reducible refine HC.out.mono ?_); rintro e w' ⟨rfl, rfl⟩)
        go_ret3
        exact ⟨by rw [HP.out]; rfl, 0, rfl⟩
      · have hb := Sf.cut_bd hk h2
        rw [if_neg h2] at hp
        have HP := Lib.hid hp; clear hp
        have g2 : ((k : Int) == 0) = false := by simp [h2]
        obtain ⟨b1, b2, b3, b4⟩ := hb
        have s1 : IntKind.i64.wrap ((k : Int) + 1) = (k : Int) + 1 := IntWalk.i64_in _ (by omega)
        have s2 : ((k : Int) + 1).toNat = k + 1 := by omega
        have s3 : (0 : Int) ≤ (k : Int) + 1 := by omega
        have s4 : k + 1 ≤ s.size := by omega
        have s5 : k ≤ s.size := by omega
        go_enter Tryz.func65, Tryz.ntmps65
        go_wp2_with (go_at_call 92; (with_reducible refine HC.out.mono ?_); rintro e w' ⟨rfl, rfl⟩)
        go_quiet (fail)
        go_wp2
        go_ret3
        exact ⟨by rw [HP.out]; rfl, _, rfl⟩
theorem refsplit_any (s : ByteArray) (k : Nat) (w : World) (hs : s.size ≤ 1000000) (hk : Sf.IsCut s k) :
    Calls Tryz.prog 76 #[.string s] w fun e w' => e = .returned (parts s k) ∧ ∃ n, w' = w.drewN n := by
  have hp := parts.eq_def s k
  generalize hv : parts s k = v at *
  clear hv
  have HK := Lib.hid hk; clear hk
  by_cases h1 : 1 ≤ s.size ∧ s.size ≤ 100
  · rw [if_neg (by omega), if_pos h1.2] at hp
    have HP := Lib.hid hp; clear hp
    have g : (s.size : Int) ≤ 100 := by omega
    have g1 : (1 : Int) ≤ (s.size : Int) := by omega
    go_enter Tryz.func76, Tryz.ntmps76
    go_wp2
    go_ret3
    exact ⟨by rw [HP.out]; rfl, 0, rfl⟩
  · have hnone : k = 0 → v = .tuple #[.string ⟨#[]⟩, .string ⟨#[]⟩, .bool false] := by
      intro h
      rw [hp]
      by_cases h0 : s.size = 0
      · rw [if_pos h0]
      · rw [if_neg h0, if_neg (by omega), if_pos h]
    have hsome : 1 ≤ k → k < s.size → v = .tuple #[.string (s.extract 0 k), .string (s.extract (k + 1) s.size), .bool true] := by
      intro h h2
      rw [hp, if_neg (by omega), if_neg (by omega), if_neg (by omega)]
    have HN := Lib.hid hnone; have HS := Lib.hid hsome; clear hnone hsome hp
    go_enter Tryz.func76, Tryz.ntmps76
    by_cases hz : s.size = 0
    · obtain rfl := empty_of hz
      have e := Sf.cut_none HK.out (j := 0) (fun i hi => absurd hi (by omega)) (.inl (by omega))
      have hv := Lib.hid (HN.out e)
      clear h1 hz e
      go_wp2
      go_loop [5] (fun i => i = .int .i64 1) (fun i => 0)
      case atStart => rfl
      case round =>
        obtain rfl := hrel
        go_wp2
        go_ret3
        exact ⟨by rw [hv.out]; rfl, 0, rfl⟩
    · have g0 : ¬ s.size ≤ 100 := by omega
      have g1 : ¬ (s.size : Int) ≤ 100 := by omega
      have g2 : (1 : Int) ≤ (s.size : Int) := by omega
      clear h1
      go_wp2
      go_loop [5] (fun i => ∃ j : Nat, 1 ≤ j ∧ j ≤ s.size ∧ j ≤ 156 ∧ i = .int .i64 j ∧ Hid (∀ i, i < j → ¬ Sf.Ok s i)) (fun i => s.size - (intOf i).toNat)
      case atStart => exact ⟨1, by omega, by omega, by omega, rfl, fun i hi ⟨_, h, _⟩ => by omega⟩
      case round =>
        obtain ⟨j, hj0, hj, hj2, rfl, HJ⟩ := hrel
        by_cases h1 : j < s.size
        · by_cases h2 : j ≤ 155
          · have g3 : (j : Int) < s.size := by omega
            have g4 : (j : Int) ≤ 155 := by omega
            have next : ¬ Sf.Ok s j → Hid (∀ i, i < j + 1 → ¬ Sf.Ok s i) := fun h => Sf.not_next HJ.out h
            have NX := Lib.hid next; clear next
            by_cases h4 : s[j] = 47
            · have g5 : ((s[j].toNat : Int) == 47) = true := by rw [h4]; rfl
              by_cases h6 : 1 ≤ (s.size : Int) - j - 1
              · by_cases h5 : (s.size : Int) - j - 1 ≤ 100
                · have e := Sf.cut_here HK.out HJ.out ⟨h1, by omega, by omega, by omega, h4, by omega⟩
                  subst e
                  have hv := Lib.hid (HS.out hj0 h1)
                  have s1 : IntKind.i64.wrap ((k : Int) + 1) = (k : Int) + 1 := IntWalk.i64_in _ (by omega)
                  have s2 : ((k : Int) + 1).toNat = k + 1 := by omega
                  have s3 : (0 : Int) ≤ (k : Int) + 1 := by omega
                  have s4 : k + 1 ≤ s.size := by omega
                  have s5 : k ≤ s.size := by omega
                  clear h4 h2
                  go_wp2
                  go_quiet (fail)
                  go_wp2
                  go_ret3
                  exact ⟨by rw [hv.out]; rfl, _, rfl⟩
                · have hn := NX.out (fun ⟨_, _, _, _, _, h⟩ => by omega)
                  clear h4 h2
                  go_wp2
                  go_round
                  case rel => exact ⟨j + 1, by omega, by omega, by omega, by go_num, hn⟩
                  case measure => simp [intOf]; omega
              · have hn := NX.out (fun ⟨_, _, _, _, _, h⟩ => by omega)
                clear h4 h2
                go_wp2
                go_round
                case rel => exact ⟨j + 1, by omega, by omega, by omega, by go_num, hn⟩
                case measure => simp [intOf]; omega
            · have hn := NX.out (fun ⟨_, _, _, _, h, _⟩ => h4 h)
              have g5 : ((s[j].toNat : Int) == 47) = false := by
                simp only [beq_eq_false_iff_ne, ne_eq]
                intro h
                apply h4
                apply UInt8.toNat_inj.1
                show s[j].toNat = 47
                omega
              clear h4 h2
              go_wp2
              go_round
              case rel => exact ⟨j + 1, by omega, by omega, by omega, by go_num, hn⟩
              case measure => simp [intOf]; omega
          · have e := Sf.cut_none HK.out HJ.out (.inr (by omega))
            have hv := Lib.hid (HN.out e)
            have g3 : (j : Int) < s.size := by omega
            have g4 : ¬ (j : Int) ≤ 155 := by omega
            clear e h1 h2
            go_wp2
            go_ret3
            exact ⟨by rw [hv.out]; rfl, 0, rfl⟩
        · have e := Sf.cut_none HK.out HJ.out (.inl (by omega))
          have hv := Lib.hid (HN.out e)
          have g3 : ¬ (j : Int) < s.size := by omega
          clear e h1
          go_wp2
          go_ret3
          exact ⟨by rw [hv.out]; rfl, 0, rfl⟩
theorem join_any (p n : ByteArray) (w : World) (hp : p.size ≤ 1000000) (hn : n.size ≤ 1000000) :
    Calls Tryz.prog 54 #[.string p, .string n] w fun e w' => e = .returned (.string (if p.size = 0 then n else p ++ ⟨#[47]⟩ ++ n)) ∧ w = w' := by
  by_cases h : p.size = 0
  · rw [if_pos h]
    obtain rfl := empty_of h
    go_enter Tryz.func54, Tryz.ntmps54
    go_wp2
    go_ret
    exact ⟨rfl, rfl⟩
  · rw [if_neg h]
    have hne := isEmpty_false (s := p) (by omega)
    go_enter Tryz.func54, Tryz.ntmps54
    go_wp2
    go_ret
    exact ⟨rfl, rfl⟩
theorem refjoin_any (p n : ByteArray) (w : World) (hp : p.size ≤ 1000000) (hn : n.size ≤ 1000000) :
    Calls Tryz.prog 35 #[.string p, .string n] w fun e w' => e = .returned (.string (if p.size = 0 then n else p ++ ⟨#[47]⟩ ++ n)) ∧ w = w' := by
  by_cases h : p.size = 0
  · rw [if_pos h]
    obtain rfl := empty_of h
    go_enter Tryz.func35, Tryz.ntmps35
    go_wp2
    go_ret
    exact ⟨rfl, rfl⟩
  · rw [if_neg h]
    have hne := isEmpty_false (s := p) (by omega)
    go_enter Tryz.func35, Tryz.ntmps35
    go_wp2
    go_ret
    exact ⟨rfl, rfl⟩
def partsB (s : ByteArray) (k : Nat) : Bool := if s.size = 0 then false else if s.size ≤ 100 then true else if k = 0 then false else true
theorem parts_of (s : ByteArray) (k : Nat) : ∃ p n, parts s k = .tuple #[.string p, .string n, .bool (partsB s k)] := by
  unfold parts partsB
  split
  · exact ⟨_, _, rfl⟩
  · split
    · exact ⟨_, _, rfl⟩
    · split
      · exact ⟨_, _, rfl⟩
      · exact ⟨_, _, rfl⟩
theorem fits_any (s : ByteArray) (k : Nat) (w : World) (hs : s.size ≤ 1000000) (hk : Sf.IsCut s k) :
    Calls Tryz.prog 43 #[.string s] w fun e w' => e = .returned (.bool (partsB s k)) ∧ ∃ n, w' = w.drewN n := by
  obtain ⟨p, n, h⟩ := parts_of s k
  have c := split_any s k w hs hk
  rw [h] at c
  have C := Lib.hid c; clear c h
  generalize partsB s k = b at *
  go_enter Tryz.func43, Tryz.ntmps43
  go_wp2_with (go_at_call 65; (with_reducible refine C.out.mono ?_); rintro e w' ⟨rfl, m, rfl⟩)
  go_ret
  exact ⟨rfl, m, rfl⟩
end Go.Proofs.YtjhigkkkfkahdaaGreatDoor
