/- WALKS OF LAYER 3, FOURTH PART: a block of some bytes over and over, and what each law asks besides (alive). -/
import Derived.Test.YthnkjmckdcmjpaaDoorX3c
namespace Go.Proofs.YthnkjmckdcmjpaaDoor
open Go.RowKit
set_option maxHeartbeats 400000
set_option maxRecDepth 100000
/- A BLOCK OF SOME BYTES, OVER AND OVER. -/
theorem set_next (L : List Int) (n k : Nat) (hl : L.length = n) (hk : k < n) : (L.take k ++ List.replicate (n - k) 0).set k (L.getD k 0) = L.take (k + 1) ++ List.replicate (n - (k + 1)) 0 := by
  rw [List.set_append_right _ _ (by rw [List.length_take]; omega)]
  simp only [List.length_take, hl, Nat.min_eq_left (Nat.le_of_lt hk), Nat.sub_self]
  rw [show n - k = (n - (k + 1)) + 1 from by omega, List.replicate_succ, List.set_cons_zero, take_snocI L k (by omega), List.append_assoc]
  rfl
theorem block_any (A : Option Addr) (n c : Nat) (xs : List Int) (w : World) (ha : RB w w.heap.size A n xs) (hn : n ≤ 1000000) :
    Calls Tryd.prog 7 #[.slice A n c] w fun e w' => ∃ v, e = .returned v ∧ OBn w' w.heap.size 5 v 512 (Hs.blk xs) ∧ Below w.heap.size w w' := by
  obtain ⟨i0, hi, hz0, hz1, hz2⟩ := info_parts info_u8
  have hxl := ha.1
  have hbl := Hs.len_blk xs
  by_cases h0 : n = 0
  · subst h0
    obtain rfl : xs = [] := List.eq_nil_of_length_eq_zero hxl
    have hb : Hs.blk [] = List.replicate 512 0 := by simp [Hs.blk, List.map_const']
    have HB := Lib.hid hb; clear hb hbl
    obtain ⟨N, hN⟩ : ∃ N : Nat, N = 512 := ⟨_, rfl⟩
    have HN := Lib.hid hN; clear hN
    go_enter Tryd.func7, Tryd.ntmps7
    go_wp2_with (at_make; refine wpList_make_full _ rfl _ _ 22 rfl w.heap.size 5 i0 _ 1 Tryd.underlying22 hi hz0 hz1 .i64 .i64 _ _ 512 rfl rfl rfl rfl (by rw [hz2]; omega) (by unfold maxLen; omega) (Nat.le_refl _) ?_; intro w1 hown hgrow; have ho1 := OBn.made hown; have hb1 := (Below.refl _ _).grown hgrow (Nat.le_refl _) (by intro k hk; simp at hk); clear hown hgrow)
    go_loop [8] (fun i => ∃ k : Nat, k ≤ N ∧ i = .int .i64 k) (fun i => N - (intOf i).toNat)
    case atStart => exact ⟨0, by omega, rfl⟩
    case round =>
      obtain ⟨k, hk, rfl⟩ := hrel
      have hN := HN.out
      by_cases hlt : k < 512
      · have hkN : k + 1 ≤ N := by omega
        clear hN
        go_wp2
        go_round
        case rel => exact ⟨k + 1, hkN, by go_num⟩
        case measure => simp [intOf]; omega
      · have e : k = 512 := by omega
        subst e
        go_wp2
        go_ret
        exact ⟨_, rfl, by rw [HB.out]; exact ho1, hb1⟩
  · have hget : ∀ k, k < 512 → (Hs.blk xs).getD k 0 = xs.getD (k % n) 0 := fun k hk => by
      unfold Hs.blk
      simp only [List.getD, List.getElem?_map, List.getElem?_range hk, Option.map_some, Option.getD_some, hxl]
      rw [if_pos (by omega)]
    generalize Hs.blk xs = L at *
    have HL := Lib.hid hbl; have HGT := Lib.hid hget; have HXL := Lib.hid hxl; clear hbl hget hxl
    obtain ⟨N, hN⟩ : ∃ N : Nat, N = 512 := ⟨_, rfl⟩
    have HN := Lib.hid hN; clear hN
    obtain ⟨b, o, rfl, _, _⟩ := ha.at_ (k := 0) (by omega)
    have hn0 : (0 : Int) < (n : Int) := by omega
    go_enter Tryd.func7, Tryd.ntmps7
    go_wp2_with (at_make; refine wpList_make_full _ rfl _ _ 22 rfl w.heap.size 5 i0 _ 1 Tryd.underlying22 hi hz0 hz1 .i64 .i64 _ _ 512 rfl rfl rfl rfl (by rw [hz2]; omega) (by unfold maxLen; omega) (Nat.le_refl _) ?_; intro w1 hown hgrow; have ho1 := OBn.made hown; have hb1 := (Below.refl _ _).grown hgrow (Nat.le_refl _) (by intro k hk; simp at hk); clear hown hgrow)
    go_loopw [8] (fun i wr => ∃ k : Nat, k ≤ N ∧ i = .int .i64 k ∧ OBn wr w.heap.size 5 (.slice (some ⟨w.heap.size, 0, none⟩) 512 512) 512 (L.take k ++ List.replicate (512 - k) 0) ∧ Below w.heap.size w wr) (fun i _ => N - (intOf i).toNat)
    case atStart => exact ⟨0, by omega, rfl, by simpa using ho1, hb1⟩
    case round =>
      obtain ⟨k, hk, rfl, ho, hbel⟩ := hrel
      have hN := HN.out
      by_cases hlt : k < 512
      · have hkN : k + 1 ≤ N := by omega
        clear hN
        have hm : k % n < n := Nat.mod_lt _ (by omega)
        have hc := (ha.below hbel).at_' hm
        have hg := HGT.out k hlt
        have hs := set_next L 512 k HL.out hlt
        rw [hg] at hs
        have hcc := ho.cell k hlt
        have hff := ho.free k
        generalize xs.getD (k % n) 0 = y at *
        have HS := Lib.hid hs; clear hs hg
        have HO := Lib.hid ho; clear ho
        have hib : 0 ≤ (k : Int) % (n : Int) ∧ (k : Int) % (n : Int) < (n : Int) := by omega
        go_wp2
        go_roundw
        case rel => exact ⟨k + 1, hkN, by go_num, by rw [← HS.out]; exact HO.out.stored k y, hbel.setCell (Nat.le_refl _) _⟩
        case measure => simp [intOf]; omega
      · have e : k = 512 := by omega
        subst e
        go_wp2
        go_ret
        refine ⟨_, rfl, ?_, hbel⟩
        have := ho
        rwa [Nat.sub_self, List.replicate_zero, List.append_nil, List.take_of_length_le (by rw [HL.out]; omega)] at this
theorem byt_rep (n : Nat) : Byt (List.replicate n (0 : Int)) := fun j => by
  by_cases h : j < n
  · simp [List.getD, h]
  · simp [List.getD, h]
theorem z512 : ∃ Z : List Int, Z = List.replicate 512 0 ∧ Z.length = 512 ∧ Byt Z ∧ Hs.sumS Z = (256, 0) ∧ Hs.checkS Z = 3 ∧ Hs.zeroS Z = true ∧ Hs.checkS (Hs.putS Z).1 = 0 ∧ Hs.zeroS (Hs.putS Z).1 = false ∧ (Hs.putS Z).2 = 0 ∧ (Hs.putS Z).1.length = 512 ∧ Byt (Hs.putS Z).1 := by
  have hb : Byt (List.replicate 512 (0 : Int)) := byt_rep 512
  refine ⟨_, rfl, by simp, hb, by decide +kernel, by decide +kernel, by decide +kernel, Hs.check_put _ (by simp) hb, by decide +kernel, by decide +kernel, Hs.len_put _ (by simp), Hs.byt_put _ hb⟩
theorem alive_any (w : World) : Calls Tryd.prog 6 #[] w fun e w' => e = .returned (.bool true) ∧ Below w.heap.size w w' := by
  obtain ⟨i0, hi, hz0, hz1, hz2⟩ := info_parts info_u8
  obtain ⟨Z, hZ, hzl, hzb, hzs, hzc, hzz, hpc, hpz, hp2, hpl, hpb⟩ := z512
  have put := fun (A : Option Addr) (W : World) (h : RB W W.heap.size A 512 Z) => hput_any A 512 512 Z W h hzb
  have sum := fun (A : Option Addr) (W : World) (h : RB W W.heap.size A 512 Z) => hsum_any A 512 512 Z W h hzb
  have chk := fun (A : Option Addr) (W : World) (h : RB W W.heap.size A 512 Z) => hcheck_any A 512 512 Z W h hzb (Nat.le_refl _) (by unfold maxLen; omega)
  have zer := fun (A : Option Addr) (W : World) (h : RB W W.heap.size A 512 Z) => hzero_any A 512 512 Z W h
  have chp := fun (A : Option Addr) (c : Nat) (W : World) (h : RB W W.heap.size A 512 (Hs.putS Z).1) (h1 : 512 ≤ c) (h2 : c ≤ maxLen) => hcheck_any A 512 c (Hs.putS Z).1 W h hpb h1 h2
  have zep := fun (A : Option Addr) (c : Nat) (W : World) (h : RB W W.heap.size A 512 (Hs.putS Z).1) => hzero_any A 512 c (Hs.putS Z).1 W h
  obtain ⟨P, hP⟩ : ∃ P, Hs.putS Z = P := ⟨_, rfl⟩
  obtain ⟨P1, P2⟩ := P
  rw [hP] at hpc hpz hp2 hpl hpb put chp zep
  simp only at hpc hpz hp2 hpl hpb put chp zep
  subst hp2
  rw [hzs] at sum
  rw [hzc] at chk
  rw [hzz] at zer
  rw [hpc] at chp
  rw [hpz] at zep
  have PUT := Lib.hid put; have SUM := Lib.hid sum; have CHK := Lib.hid chk; have ZER := Lib.hid zer; have CHP := Lib.hid chp; have ZEP := Lib.hid zep; have HPL := Lib.hid hpl; have HZ := Lib.hid hZ
  clear put sum chk zer chp zep hzs hzc hzz hpc hpz hP hpl hzl hZ hpb hzb
  have mk : ∀ w1, OBn w1 w.heap.size 5 (.slice (some ⟨w.heap.size, 0, none⟩) 512 512) 512 (List.replicate 512 0) → RB w1 w1.heap.size (some ⟨w.heap.size, 0, none⟩) 512 Z := fun w1 h => by
    rw [← HZ.out] at h
    have hl := h.len
    obtain ⟨A, c, e, hr, _⟩ := h.ob.rb
    rw [hl] at e hr
    cases e
    exact hr
  have mk2 : ∀ w1 B v, OB w1 B 5 v P1 → ∃ A c, v = .slice A 512 c ∧ RB w1 w1.heap.size A 512 P1 ∧ 512 ≤ c ∧ c ≤ maxLen := fun w1 B v h => by
    obtain ⟨A, c, e, hr, h1, h2⟩ := h.rb
    rw [HPL.out] at e hr h1
    exact ⟨A, c, e, hr, h1, h2⟩
  have MK := Lib.hid mk; have MK2 := Lib.hid mk2; clear mk mk2
  go_enter Tryd.func6, Tryd.ntmps6
  go_wp2_with (first
    | (at_make; refine wpList_make_full _ rfl _ _ 22 rfl w.heap.size 5 i0 _ 1 Tryd.underlying22 hi hz0 hz1 .i64 .i64 _ _ 512 rfl rfl rfl rfl (by rw [hz2]; omega) (by unfold maxLen; omega) (Nat.le_refl _) ?_; intro w1 hown hgrow; have hr1 := MK.out _ (OBn.made hown); have hb1 := (Below.refl _ _).grown hgrow (Nat.le_refl _) (by intro k hk; simp at hk); clear hown hgrow)
    | (go_at_call 8; (with_reducible refine (SUM.out _ _ hr1).mono ?_); rintro e w' ⟨rfl, rfl⟩)
    | (go_at_call 10; (with_reducible refine (PUT.out _ _ hr1).mono ?_); rintro e w2 ⟨v2, rfl, ho2, hb2⟩; obtain ⟨A2, c2, rfl, hr2, hlc2, hcm2⟩ := MK2.out _ _ _ ho2; have hr3 := (hr1.below hb2).more hb2.size; clear ho2)
    | (go_at_call 15; (with_reducible refine (CHP.out _ _ _ hr2 hlc2 hcm2).mono ?_); rintro e w' ⟨rfl, rfl⟩)
    | (go_at_call 15; (with_reducible refine (CHK.out _ _ hr3).mono ?_); rintro e w' ⟨rfl, rfl⟩)
    | (go_at_call 17; (with_reducible refine (ZER.out _ _ hr3).mono ?_); rintro e w' ⟨rfl, rfl⟩)
    | (go_at_call 17; (with_reducible refine (ZEP.out _ _ _ hr2).mono ?_); rintro e w' ⟨rfl, rfl⟩))
  go_ret
  exact ⟨ret_bool rfl, bthen hb1 hb2⟩
end Go.Proofs.YthnkjmckdcmjpaaDoor
