/- WALKS OF LAYER 2, FOURTH PART: the reference's Put; a path parted and joined. -/
import Derived.Test.YtfkhemlaohkhkaaDoorV2c
namespace Go.Proofs.YtfkhemlaohkhkaaDoor
open Go.RowKit
set_option maxHeartbeats 400000
theorem refput_any2 (s : ByteArray) (k : Int) (w : World) (hs : s.size ≤ 1000000) :
    Calls Tryd.prog 24 #[.string s, .int .i64 k] w fun e w' => ∃ v, e = .returned (.tuple #[v, .int .i64 (Sf.putS s k).2]) ∧ OB w' w.heap.size 5 v (Sf.putS s k).1 ∧ Below w.heap.size w w' := by
  obtain ⟨i0, hi, hz0, hz1, hz2⟩ := info_parts info_u8
  have hib := refzero_any s w hs
  have hzs := Sf.zb_size s
  have hput : Sf.putS s k = if k < 1 ∨ 512 < k then ([], 1) else if Sf.zb s.data.toList < s.size then ([], 3) else if k < s.size then ([], 10) else (Sf.nums s ++ List.replicate (k.toNat - s.size) 0, 0) := rfl
  have hnl : (Sf.nums s).length = s.size := by simp [Sf.nums]
  generalize Sf.zb s.data.toList = z at *
  have HNL := Lib.hid hnl; clear hnl
  by_cases h1 : k < 1 ∨ 512 < k
  · rw [if_pos h1] at hput
    have HP := Lib.hid hput; clear hput hib
    by_cases h2 : k < 1
    · go_enter Tryd.func24, Tryd.ntmps24
      go_wp2
      go_ret2
      refine ⟨_, ret_vi (by rw [HP.out]), ?_, Below.refl _ _⟩
      rw [HP.out]; exact OB.nil _ _ _
    · have h3 : 512 < k := by omega
      go_enter Tryd.func24, Tryd.ntmps24
      go_wp2
      go_ret2
      refine ⟨_, ret_vi (by rw [HP.out]), ?_, Below.refl _ _⟩
      rw [HP.out]; exact OB.nil _ _ _
  · rw [if_neg h1] at hput
    have h2 : ¬ k < 1 := by omega
    have h3 : ¬ 512 < k := by omega
    obtain ⟨d, rfl⟩ : ∃ d : Nat, k = d := ⟨k.toNat, by omega⟩
    by_cases h4 : z < s.size
    · rw [if_pos h4] at hput
      have HP := Lib.hid hput; have HI := Lib.hid hib; clear hput hib
      have h5 : (z : Int) < s.size := by omega
      go_enter Tryd.func24, Tryd.ntmps24
      go_wp2_with (go_at_call 42; (with_reducible refine HI.out.mono ?_); rintro e w' ⟨rfl, rfl⟩)
      go_ret2
      refine ⟨_, ret_vi (by rw [HP.out]), ?_, Below.refl _ _⟩
      rw [HP.out]; exact OB.nil _ _ _
    · rw [if_neg h4] at hput
      by_cases h5 : (d : Int) < s.size
      · rw [if_pos h5] at hput
        have HP := Lib.hid hput; have HI := Lib.hid hib; clear hput hib
        have h6 : decide (d < s.size) = true := by simp; omega
        go_enter Tryd.func24, Tryd.ntmps24
        go_wp2_with (go_at_call 42; (with_reducible refine HI.out.mono ?_); rintro e w' ⟨rfl, rfl⟩)
        go_ret2
        refine ⟨_, ret_vi (by rw [HP.out]), ?_, Below.refl _ _⟩
        rw [HP.out]; exact OB.nil _ _ _
      · rw [if_neg h5, Int.toNat_natCast] at hput
        have HP := Lib.hid hput; have HI := Lib.hid hib; clear hput hib
        have h6 : decide (d < s.size) = false := by simp; omega
        go_enter Tryd.func24, Tryd.ntmps24
        go_wp2_with (first | (go_at_call 42; (with_reducible refine HI.out.mono ?_); rintro e w' ⟨rfl, rfl⟩) | (at_make; refine wpList_make_full _ rfl _ _ 28 rfl w.heap.size 5 i0 _ 1 Tryd.underlying28 hi hz0 hz1 .i64 .i64 _ _ d rfl rfl (by omega) (by omega) (by rw [hz2]; omega) (by unfold maxLen; omega) (Nat.le_refl _) ?_; intro w1 hown hgrow; have ho1 := OBn.made hown))
        go_loopw [7] (fun i wr => ∃ k : Nat, k ≤ s.size ∧ i = .int .i64 k ∧ OBn wr w.heap.size 5 (.slice (some ⟨w.heap.size, 0, none⟩) d d) d ((Sf.nums s).take k ++ List.replicate (d - k) 0) ∧ Below w.heap.size w wr)
          (fun i _ => s.size - (intOf i).toNat)
        case atStart => exact ⟨0, by omega, rfl, by simpa using ho1, (Below.refl _ _).grown hgrow (Nat.le_refl _) (by simp)⟩
        case round =>
          obtain ⟨k, hk, rfl, ho, hbel⟩ := hrel
          by_cases hlt : k < s.size
          · have hc := ho.cell k (by omega)
            have hf := ho.free k
            have hset := Sf.set_nums s d k hlt (by omega)
            have hst := ho.stored k (s[k].toNat : Int)
            rw [hset] at hst
            have HST := Lib.hid hst
            clear hset hst
            go_wp2
            go_roundw
            case rel => exact ⟨k + 1, by omega, by go_num, HST.out, hbel.setCell (Nat.le_refl _) _⟩
            case measure => simp [intOf]; omega
          · have e : k = s.size := by omega
            subst e
            go_wp2
            go_ret2
            refine ⟨_, ret_vi (by rw [HP.out]), ?_, hbel⟩
            rw [HP.out]
            have := ho.ob
            rwa [List.take_of_length_le (by rw [HNL.out]; exact Nat.le_refl _)] at this
theorem empty_of {s : ByteArray} (h : s.size = 0) : s = ⟨#[]⟩ := by
  apply ByteArray.ext
  exact Array.eq_empty_of_size_eq_zero h
theorem isEmpty_false {s : ByteArray} (h : 0 < s.size) : s.toList.isEmpty = false := by
  rw [Lib.toList_data]
  cases e : s.data.toList with
  | nil => have : s.data.toList.length = 0 := by rw [e]; rfl
           rw [← Sf.size_eq] at this; omega
  | cons a l => rfl
/-- A path parted. -/
def parts (s : ByteArray) (k : Nat) : Value := if s.size = 0 then .tuple #[.string ⟨#[]⟩, .string ⟨#[]⟩, .bool false] else if s.size ≤ 100 then .tuple #[.string ⟨#[]⟩, .string s, .bool true] else if k = 0 then .tuple #[.string ⟨#[]⟩, .string ⟨#[]⟩, .bool false] else .tuple #[.string (s.extract 0 k), .string (s.extract (k + 1) s.size), .bool true]
theorem join_any (p n : ByteArray) (w : World) (hp : p.size ≤ 1000000) (hn : n.size ≤ 1000000) :
    Calls Tryd.prog 36 #[.string p, .string n] w fun e w' => e = .returned (.string (if p.size = 0 then n else p ++ ⟨#[47]⟩ ++ n)) ∧ w = w' := by
  by_cases h : p.size = 0
  · rw [if_pos h]
    obtain rfl := empty_of h
    go_enter Tryd.func36, Tryd.ntmps36
    go_wp2
    go_ret
    exact ⟨rfl, rfl⟩
  · rw [if_neg h]
    have hne := isEmpty_false (s := p) (by omega)
    go_enter Tryd.func36, Tryd.ntmps36
    go_wp2
    go_ret
    exact ⟨rfl, rfl⟩
def partsB (s : ByteArray) (k : Nat) : Bool := if s.size = 0 then false else if s.size ≤ 100 then true else if k = 0 then false else true
theorem parts_of (s : ByteArray) (k : Nat) : ∃ p n, parts s k = .tuple #[.string p, .string n, .bool (partsB s k)] := by
  unfold parts partsB
  split
  · exact ⟨_, _, rfl⟩
  · split
    · exact ⟨_, _, rfl⟩
    · split
      · exact ⟨_, _, rfl⟩
      · exact ⟨_, _, rfl⟩
end Go.Proofs.YtfkhemlaohkhkaaDoor
