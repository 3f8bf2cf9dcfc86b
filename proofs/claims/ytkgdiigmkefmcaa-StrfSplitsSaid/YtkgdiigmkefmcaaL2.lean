/- THE WALKS OF THE THREE LAWS OF LAYER 2: each law's Go text answers true and turns nothing that was there. -/
import Derived.Test.YtkgdiigmkefmcaaV2d
namespace Go.Proofs.Ytkgdiigmkefmcaa
open Go.RowKit
set_option maxHeartbeats 1600000
theorem below_n {w : World} (n : Nat) : Below w.heap.size w (w.drewN n) := below_drewN (Below.refl _ _) n
theorem str_nums (s : ByteArray) : strOfNums (Sf.nums s) = s := by
  apply ByteArray.ext
  apply Array.toList_inj.1
  rw [Sf.data_strOfNums]
  unfold Sf.nums
  rw [List.map_map]
  conv => rhs; rw [← List.map_id s.data.toList]
  apply List.map_congr_left
  intro x _
  simp
theorem byt_nums (s : ByteArray) : Byt (Sf.nums s) := fun j => by
  by_cases h : j < (Sf.nums s).length
  · have h' : j < s.data.toList.length := by simpa [Sf.nums] using h
    have e : (Sf.nums s).getD j 0 = ((s.data.toList[j]).toNat : Int) := by
      unfold Sf.nums
      simp [List.getD, List.getElem?_map, List.getElem?_eq_getElem h']
    have := (s.data.toList[j]).toNat_lt
    rw [e]; omega
  · simp [List.getD, show ¬ j < (Sf.nums s).length from h, List.getElem?_eq_none (Nat.le_of_not_lt h)]
theorem byt_rep (k : Nat) : Byt (List.replicate k 0) := fun j => by
  by_cases h : j < k <;> simp [List.getD, List.getElem?_replicate, h]
theorem put_back (s : ByteArray) (k : Int) (h : (Sf.putS s k).2 = 0) : ((Sf.putS s k).1.length : Int) = k ∧ Byt (Sf.putS s k).1 ∧ Sf.getS (Sf.putS s k).1 = (Sf.nums s, 0) := by
  unfold Sf.putS at *
  by_cases h1 : k < 1 ∨ 512 < k
  · rw [if_pos h1] at h; cases h
  · rw [if_neg h1] at h ⊢
    by_cases h2 : Sf.zb s.data.toList < s.size
    · rw [if_pos h2] at h; cases h
    · rw [if_neg h2] at h ⊢
      by_cases h3 : k < s.size
      · rw [if_pos h3] at h; cases h
      · rw [if_neg h3]
        have hl : (Sf.nums s).length = s.size := by simp [Sf.nums, ← Sf.size_eq]
        have hz : Sf.zi (Sf.nums s) = s.size := by
          have := Sf.zb_strOfNums (Sf.nums s) (byt_nums s)
          rw [str_nums] at this
          have := Sf.zb_size s
          omega
        have hzz : Sf.zi (Sf.nums s ++ List.replicate (k.toNat - s.size) 0) = s.size := by
          apply Sf.zi_eq
          · simp; omega
          · intro j hj
            have := Sf.zi_lt (xs := Sf.nums s) (j := j) (by omega)
            rw [← this]
            simp [List.getD, List.getElem?_append, hl, hj]
          · intro h4
            simp only [List.getD, List.getElem?_append, hl, List.getElem?_replicate]
            simp
            split <;> rfl
        refine ⟨by simp [hl]; omega, Byt.append (byt_nums s) (byt_rep _), ?_⟩
        have hok : Sf.okG (Sf.nums s ++ List.replicate (k.toNat - s.size) 0) = true := by
          unfold Sf.okG
          rw [hzz, List.drop_append_of_le_length (by omega), List.drop_of_length_le (by omega)]
          simp
        unfold Sf.getS Sf.looseS
        rw [hok, hzz, List.take_append_of_le_length (by omega), List.take_of_length_le (by omega)]
        rfl
theorem putS_len (s : ByteArray) (k : Int) (h : s.size ≤ 1000) : (Sf.putS s k).1.length ≤ 512 := by
  unfold Sf.putS
  split
  · simp
  · split
    · simp
    · split
      · simp
      · have hl : (Sf.nums s).length = s.size := by simp [Sf.nums, ← Sf.size_eq]
        simp [hl]; omega
theorem cut0 (s : ByteArray) (h : s.size ≤ 1) : Sf.IsCut s 0 := .inl ⟨rfl, fun j ⟨_, a, b, _⟩ => by omega⟩
theorem join_parts (s : ByteArray) (k : Nat) (h0 : s.size ≠ 0) (hk : Sf.IsCut s k) :
    (∃ p n, parts s k = .tuple #[.string p, .string n, .bool true] ∧ (if p.size = 0 then n else p ++ ⟨#[47]⟩ ++ n) = s ∧ 1 ≤ n.size ∧ n.size ≤ 100 ∧ p.size ≤ 155 ∧ (100 < s.size ∨ p = ⟨#[]⟩)) ∨ parts s k = .tuple #[.string ⟨#[]⟩, .string ⟨#[]⟩, .bool false] := by
  unfold parts
  rw [if_neg h0]
  by_cases h1 : s.size ≤ 100
  · rw [if_pos h1]
    exact .inl ⟨_, _, rfl, rfl, by omega, h1, Nat.zero_le _, .inr rfl⟩
  · rw [if_neg h1]
    by_cases h2 : k = 0
    · rw [if_pos h2]; exact .inr rfl
    · rw [if_neg h2]
      obtain ⟨b1, b2, b3, b4⟩ := Sf.cut_bd hk h2
      have hsl : k < s.size := by omega
      have h47 : s.data.toList[k]? = some 47 := by
        rcases hk with ⟨hh, _⟩ | ⟨⟨hh, _, _, _, e, _⟩, _⟩
        · exact absurd hh h2
        · rw [← e]; exact List.getElem?_eq_getElem (by rw [← Sf.size_eq]; exact hh)
      refine .inl ⟨_, _, rfl, ?_, by rw [ByteArray.size_extract]; omega, by rw [ByteArray.size_extract]; omega, by rw [ByteArray.size_extract]; omega, .inl (by omega)⟩
      rw [if_neg (by rw [ByteArray.size_extract]; omega)]
      apply ByteArray.ext
      apply Array.toList_inj.1
      have hd : s.data.toList.drop k = 47 :: s.data.toList.drop (k + 1) := by
        obtain ⟨hh, e⟩ := List.getElem?_eq_some_iff.1 h47
        rw [List.drop_eq_getElem_cons hh, e]
      have e : s.data.toList = s.data.toList.take k ++ (47 :: s.data.toList.drop (k + 1)) := by rw [← hd, List.take_append_drop]
      rw [ByteArray.data_append, ByteArray.data_append, Array.toList_append, Array.toList_append, Lib.extract_data, Lib.extract_data]
      simp only [List.drop_zero, Nat.sub_zero]
      rw [List.take_of_length_le (l := List.drop (k + 1) _) (by rw [List.length_drop, ← Sf.size_eq]; omega)]
      conv => rhs; rw [e]
      simp
theorem alive_any (w : World) : Calls Try.prog 6 #[] w fun e w' => e = .returned (.bool true) ∧ Below w.heap.size w w' := by
  have p1 := put_any2 ⟨#[97, 98]⟩ 4 w (by decide)
  rw [show Sf.putS ⟨#[97, 98]⟩ 4 = ([97, 98, 0, 0], 0) from by decide +kernel] at p1
  have P1 := Lib.hid p1; clear p1
  have sp := fun W => split_any ⟨#[97]⟩ 0 W (by decide) (cut0 _ (by decide))
  rw [show parts ⟨#[97]⟩ 0 = .tuple #[.string ⟨#[]⟩, .string ⟨#[97]⟩, .bool true] from rfl] at sp
  have SP := Lib.hid sp; clear sp
  have ft := fun W => fits_any ⟨#[]⟩ 0 W (by decide) (cut0 _ (by decide))
  rw [show partsB ⟨#[]⟩ 0 = false from rfl] at ft
  have FT := Lib.hid ft; clear ft
  have jn := fun W => join_any ⟨#[97]⟩ ⟨#[98]⟩ W (by decide) (by decide)
  rw [show (if (⟨#[97]⟩ : ByteArray).size = 0 then (⟨#[98]⟩ : ByteArray) else ⟨#[97]⟩ ++ ⟨#[47]⟩ ++ ⟨#[98]⟩) = ⟨#[97, 47, 98]⟩ from by decide +kernel] at jn
  have JN := Lib.hid jn; clear jn
  go_enter Try.func6, Try.ntmps6
  go_wp2_with (go_at_call 7; (with_reducible refine P1.out.mono ?_); rintro e w1 ⟨v, rfl, ho, hb⟩; obtain ⟨A2, c2, rfl, hr, hlc, hcm⟩ := ho.rb)
  have g1 := get_any2 A2 4 c2 _ w1 hr (by intro j; match j with | 0 => decide | 1 => decide | 2 => decide | 3 => decide | (n + 4) => simp) hlc hcm (by omega)
  rw [show strOfNums (Sf.getS [97, 98, 0, 0]).1 = ⟨#[97, 98]⟩ from by decide +kernel, show (Sf.getS [97, 98, 0, 0]).2 = 0 from by decide +kernel] at g1
  have G1 := Lib.hid g1; clear g1
  have cv : ∀ W, Below w1.heap.size w1 W → (convert 22 9 (.slice A2 4 c2)).run Try.prog W = .ok (.string ⟨#[97, 98, 0, 0]⟩) W := fun W h => by
    have := (hr.below h).conv c2
    rw [show strOfNums [97, 98, 0, 0] = ⟨#[97, 98, 0, 0]⟩ from by decide +kernel] at this
    exact this
  have CV := Lib.hid cv; clear cv
  go_wp2_with (go_at_call 9; (with_reducible refine G1.out.mono ?_); rintro e w2 ⟨rfl, hb2⟩)
  refine (SP.out _).mono ?_
  rintro e w' ⟨rfl, m, rfl⟩
  have cv := CV.out (w2.drewN m) (below_drewN hb2 m)
  go_wp2_with (first | (go_at_call 17; (with_reducible refine (JN.out _).mono ?_); rintro e w' ⟨rfl, rfl⟩) | (go_at_call 16; (with_reducible refine (FT.out _).mono ?_); rintro e w' ⟨rfl, m2, rfl⟩))
  go_ret
  exact ⟨rfl, by first | exact below_drewN (below_drewN (bthen hb hb2) m) m2 | exact below_drewN (bthen hb hb2) _⟩
theorem lays_walk2 (s : ByteArray) (k : Int) (A : Option Addr) (n c : Nat) (xs : List Int) (w : World) (hsm : s.size ≤ maxLen) (ha : RB w w.heap.size A n xs) (hx : Byt xs) (hc : n ≤ c) (hc2 : c ≤ maxLen) :
    Calls Try.prog 3 #[.string s, .int .i64 k, .slice A n c] w fun e w' => e = .returned (.bool true) ∧ Below w.heap.size w w' := by
  have hc3 := hc2
  unfold maxLen at hc2 hsm
  by_cases h1 : 1000 < s.size
  · have g : (1000 : Int) < s.size := by omega
    go_enter Try.func3, Try.ntmps3
    go_wp2_with (go_at_call 6; refine (alive_any _).mono ?_; rintro e w7 ⟨rfl, hb7⟩)
    go_ret
    exact ⟨rfl, hb7⟩
  · have g : ¬ (1000 : Int) < s.size := by omega
    by_cases h2 : 1000 < n
    · have g2 : (1000 : Int) < n := by omega
      go_enter Try.func3, Try.ntmps3
      go_wp2_with (go_at_call 6; refine (alive_any _).mono ?_; rintro e w7 ⟨rfl, hb7⟩)
      go_ret
      exact ⟨rfl, hb7⟩
    · have g2 : ¬ (1000 : Int) < n := by omega
      have lp := putS_len s k (by omega)
      have p1 := fun W => put_any2 s k W (by omega)
      have p2 := fun W => refput_any2 s k W (by omega)
      have b1 := fun W (h : Below w.heap.size w W) => get_any2 A n c xs W ((ha.below h).more h.size) hx hc hc3 (by omega)
      have b2 := fun W (h : Below w.heap.size w W) => refget_any2 A n c xs W ((ha.below h).more h.size) hx (by omega)
      have b3 := fun W (h : Below w.heap.size w W) => loose_any A n c xs W ((ha.below h).more h.size) hx hc (by omega)
      have b4 := fun W (h : Below w.heap.size w W) => refloose_any A n c xs W ((ha.below h).more h.size) hx (by omega)
      generalize strOfNums (Sf.getS xs).1 = x at *
      generalize (Sf.getS xs).2 = f at *
      generalize strOfNums (Sf.looseS xs) = y at *
      generalize Sf.putS s k = p at *
      obtain ⟨p1', p2'⟩ := p
      simp only at lp p1 p2
      have P1 := Lib.hid p1; have P2 := Lib.hid p2; have B1 := Lib.hid b1; have B2 := Lib.hid b2; have B3 := Lib.hid b3; have B4 := Lib.hid b4
      clear p1 p2 b1 b2 b3 b4 h1 h2
      go_enter Try.func3, Try.ntmps3
      go_wp2_with fail
      refine (P1.out _).mono ?_
      rintro e w1 ⟨v1, rfl, ho1, hb1⟩
      obtain ⟨A1, c1, rfl, hr1, _, _⟩ := ho1.rb
      go_wp2_with fail
      refine (P2.out _).mono ?_
      rintro e w2 ⟨v2, rfl, ho2, hb2⟩
      obtain ⟨A2, c2, rfl, hr2, _, _⟩ := ho2.rb
      have hb12 := bthen hb1 hb2
      go_wp2_with fail
      refine (B1.out _ hb12).mono ?_
      rintro e w3 ⟨rfl, hb3⟩
      have hb13 := bthen hb12 hb3
      go_wp2_with fail
      refine (B2.out _ hb13).mono ?_
      rintro e w' ⟨rfl, rfl⟩
      have q1 : RB w3 w3.heap.size A1 p1'.length p1' := ((hr1.below hb2).below (hb3.mono hb2.size)).more (Nat.le_trans hb2.size hb3.size)
      have q2 : RB w3 w3.heap.size A2 p1'.length p1' := (hr2.below hb3).more hb3.size
      go_wp2_with fail
      refine (same_any A1 A2 _ _ c1 c2 p1' p1' w3 q1 q2 (by omega) (by omega)).mono ?_
      rintro e w4 ⟨rfl, hb4⟩
      have hb14 := bthen hb13 hb4
      go_wp2_with fail
      refine (B3.out _ hb14).mono ?_
      rintro e w5 ⟨rfl, hb5⟩
      have hb15 := bthen hb14 hb5
      go_wp2_with fail
      refine (B4.out _ hb15).mono ?_
      rintro e w' ⟨rfl, rfl⟩
      go_wp2_with (go_at_call 6; refine (alive_any _).mono ?_; rintro e w7 ⟨rfl, hb7⟩)
      go_ret
      exact ⟨ret_bool rfl, bthen hb15 hb7⟩
theorem splits_walk2 (s p : ByteArray) (w : World) (hsm : s.size ≤ maxLen) (hpm : p.size ≤ maxLen) :
    Calls Try.prog 4 #[.string s, .string p] w fun e w' => e = .returned (.bool true) ∧ Below w.heap.size w w' := by
  unfold maxLen at hpm hsm
  by_cases h1 : 1000 < s.size
  · have g : (1000 : Int) < s.size := by omega
    go_enter Try.func4, Try.ntmps4
    go_wp2_with (go_at_call 6; refine (alive_any _).mono ?_; rintro e w7 ⟨rfl, hb7⟩)
    go_ret
    exact ⟨rfl, hb7⟩
  · have g : ¬ (1000 : Int) < s.size := by omega
    by_cases h2 : 1000 < p.size
    · have g2 : (1000 : Int) < p.size := by omega
      go_enter Try.func4, Try.ntmps4
      go_wp2_with (go_at_call 6; refine (alive_any _).mono ?_; rintro e w7 ⟨rfl, hb7⟩)
      go_ret
      exact ⟨rfl, hb7⟩
    · have g2 : ¬ (1000 : Int) < p.size := by omega
      obtain ⟨k, hk⟩ := Sf.cut_ex s
      have c1 := fun W => split_any s k W (by omega) hk
      have c2 := fun W => refsplit_any s k W (by omega) hk
      have c3 := fun W => fits_any s k W (by omega) hk
      have c4 := fun W => join_any p s W (by omega) (by omega)
      have c5 := fun W => refjoin_any p s W (by omega) (by omega)
      obtain ⟨x, y, hxy⟩ := parts_of s k
      rw [hxy] at c1 c2
      generalize (if p.size = 0 then s else p ++ ⟨#[47]⟩ ++ s) = z at *
      generalize partsB s k = b at *
      have C1 := Lib.hid c1; have C2 := Lib.hid c2; have C3 := Lib.hid c3; have C4 := Lib.hid c4; have C5 := Lib.hid c5
      clear c1 c2 c3 c4 c5 h1 h2 hxy
      go_enter Try.func4, Try.ntmps4
      go_wp2_with (first | (go_at_call 14; (with_reducible refine (C1.out _).mono ?_); rintro e w' ⟨rfl, m1, rfl⟩) | (go_at_call 15; (with_reducible refine (C2.out _).mono ?_); rintro e w' ⟨rfl, m2, rfl⟩) | (go_at_call 16; (with_reducible refine (C3.out _).mono ?_); rintro e w' ⟨rfl, m3, rfl⟩) | (go_at_call 17; (with_reducible refine (C4.out _).mono ?_); rintro e w' ⟨rfl, rfl⟩) | (go_at_call 18; (with_reducible refine (C5.out _).mono ?_); rintro e w' ⟨rfl, rfl⟩) | (go_at_call 6; refine (alive_any _).mono ?_; rintro e w7 ⟨rfl, hb7⟩))
      go_ret
      exact ⟨ret_bool rfl, bthen (by first | exact below_n _ | exact below_drewN (below_n _) _ | exact below_drewN (below_drewN (below_n _) _) _) hb7⟩
/-- What stands behind the first half of the law 'StrfBack': the path parted and joined. -/
theorem back_half (s : ByteArray) (k : Nat) (hk : Sf.IsCut s k) (hs : s.size ≤ 1000) : (∃ p n, parts s k = .tuple #[.string p, .string n, .bool true] ∧ (if p.size = 0 then n else p ++ ⟨#[47]⟩ ++ n) = s ∧ 1 ≤ n.size ∧ n.size ≤ 100 ∧ p.size ≤ 155 ∧ (100 < s.size ∨ p = ⟨#[]⟩)) ∨ parts s k = .tuple #[.string ⟨#[]⟩, .string ⟨#[]⟩, .bool false] := by
  by_cases h0 : s.size = 0
  · refine .inr ?_
    unfold parts
    rw [if_pos h0]
  · exact join_parts s k h0 hk
theorem back_walk2 (s : ByteArray) (k : Int) (w : World) (hsm : s.size ≤ maxLen) :
    Calls Try.prog 5 #[.string s, .int .i64 k] w fun e w' => e = .returned (.bool true) ∧ Below w.heap.size w w' := by
  unfold maxLen at hsm
  by_cases h1 : 1000 < s.size
  · have g : (1000 : Int) < s.size := by omega
    go_enter Try.func5, Try.ntmps5
    go_wp2_with (go_at_call 6; refine (alive_any _).mono ?_; rintro e w7 ⟨rfl, hb7⟩)
    go_ret
    exact ⟨rfl, hb7⟩
  · have g : ¬ (1000 : Int) < s.size := by omega
    obtain ⟨j, hj⟩ := Sf.cut_ex s
    have half := back_half s j hj (by omega)
    have c1 := fun W => split_any s j W (by omega) hj
    have lp := putS_len s k (by omega)
    have p1 := fun W => put_any2 s k W (by omega)
    have pb := put_back s k
    have sn := str_nums s
    generalize Sf.putS s k = p at *
    obtain ⟨p1', p2'⟩ := p
    simp only at lp p1 pb
    have P1 := Lib.hid p1; clear p1
    have SN := Lib.hid sn; clear sn
    by_cases h0 : p2' = 0
    · subst h0
      obtain ⟨l1, l2, l3⟩ := pb rfl
      have hk0 : (k != (p1'.length : Int)) = false := by simp [l1]
      have hk1 : ((p1'.length : Int) != k) = false := by simp [l1]
      have L3 := Lib.hid l3
      clear l1 l3 pb
      rcases half with ⟨p, n, hpn, hj1, hn1, hn2, hp1, hor⟩ | hpn
      · rw [hpn] at c1
        have c4 := fun W => join_any p n W (by omega) (by omega)
        rw [hj1] at c4
        have C1 := Lib.hid c1; have C4 := Lib.hid c4
        have hne := isEmpty_false (s := n) (by omega)
        have hne2 : n.toList ≠ [] := fun e => by rw [e] at hne; cases hne
        clear c1 c4 hpn hj1 h1
        rcases hor with h100 | rfl
        · have g3 : (100 : Int) < s.size := by omega
          go_enter Try.func5, Try.ntmps5
          go_wp2_with fail
          refine (P1.out _).mono ?_
          rintro e w1 ⟨v1, rfl, ho1, hb1⟩
          obtain ⟨A1, d1, rfl, hr1, hlc, hcm⟩ := ho1.rb
          have gg := get_any2 A1 _ d1 _ w1 hr1 l2 hlc hcm (by omega)
          rw [L3.out, SN.out] at gg
          have GG := Lib.hid gg; clear gg
          go_wp2_with fail
          refine GG.out.mono ?_
          rintro e w2 ⟨rfl, hb2⟩
          go_wp2_with (first | (go_at_call 14; (with_reducible refine (C1.out _).mono ?_); rintro e w' ⟨rfl, m1, rfl⟩) | (go_at_call 17; (with_reducible refine (C4.out _).mono ?_); rintro e w' ⟨rfl, rfl⟩) | (go_at_call 6; refine (alive_any _).mono ?_; rintro e w7 ⟨rfl, hb7⟩))
          go_ret
          exact ⟨ret_bool rfl, bthen (bthen hb1 hb2) (bthen (below_n _) hb7)⟩
        · go_enter Try.func5, Try.ntmps5
          go_wp2_with fail
          refine (P1.out _).mono ?_
          rintro e w1 ⟨v1, rfl, ho1, hb1⟩
          obtain ⟨A1, d1, rfl, hr1, hlc, hcm⟩ := ho1.rb
          have gg := get_any2 A1 _ d1 _ w1 hr1 l2 hlc hcm (by omega)
          rw [L3.out, SN.out] at gg
          have GG := Lib.hid gg; clear gg
          go_wp2_with fail
          refine GG.out.mono ?_
          rintro e w2 ⟨rfl, hb2⟩
          go_wp2_with (first | (go_at_call 14; (with_reducible refine (C1.out _).mono ?_); rintro e w' ⟨rfl, m1, rfl⟩) | (go_at_call 17; (with_reducible refine (C4.out _).mono ?_); rintro e w' ⟨rfl, rfl⟩) | (go_at_call 6; refine (alive_any _).mono ?_; rintro e w7 ⟨rfl, hb7⟩))
          all_goals
            go_ret
            exact ⟨ret_bool rfl, bthen (bthen hb1 hb2) (bthen (below_n _) hb7)⟩
      · rw [hpn] at c1
        have C1 := Lib.hid c1
        clear c1 hpn h1
        go_enter Try.func5, Try.ntmps5
        go_wp2_with fail
        refine (P1.out _).mono ?_
        rintro e w1 ⟨v1, rfl, ho1, hb1⟩
        obtain ⟨A1, d1, rfl, hr1, hlc, hcm⟩ := ho1.rb
        have gg := get_any2 A1 _ d1 _ w1 hr1 l2 hlc hcm (by omega)
        rw [L3.out, SN.out] at gg
        have GG := Lib.hid gg; clear gg
        go_wp2_with fail
        refine GG.out.mono ?_
        rintro e w2 ⟨rfl, hb2⟩
        go_wp2_with (first | (go_at_call 14; (with_reducible refine (C1.out _).mono ?_); rintro e w' ⟨rfl, m1, rfl⟩) | (go_at_call 6; refine (alive_any _).mono ?_; rintro e w7 ⟨rfl, hb7⟩))
        go_ret
        exact ⟨ret_bool rfl, bthen (bthen hb1 hb2) (bthen (below_n _) hb7)⟩
    · have g3 : (p2' == 0) = false := by simp [h0]
      clear pb h0
      rcases half with ⟨p, n, hpn, hj1, hn1, hn2, hp1, hor⟩ | hpn
      · rw [hpn] at c1
        have c4 := fun W => join_any p n W (by omega) (by omega)
        rw [hj1] at c4
        have C1 := Lib.hid c1; have C4 := Lib.hid c4
        have hne := isEmpty_false (s := n) (by omega)
        have hne2 : n.toList ≠ [] := fun e => by rw [e] at hne; cases hne
        clear c1 c4 hpn hj1 h1
        rcases hor with h100 | rfl
        · have g3 : (100 : Int) < s.size := by omega
          go_enter Try.func5, Try.ntmps5
          go_wp2_with (first | (go_at_call 7; (with_reducible refine (P1.out _).mono ?_); rintro e w1 ⟨v1, rfl, ho1, hb1⟩; obtain ⟨A1, d1, rfl, hr1, hlc, hcm⟩ := ho1.rb) | (go_at_call 14; (with_reducible refine (C1.out _).mono ?_); rintro e w' ⟨rfl, m1, rfl⟩) | (go_at_call 17; (with_reducible refine (C4.out _).mono ?_); rintro e w' ⟨rfl, rfl⟩) | (go_at_call 6; refine (alive_any _).mono ?_; rintro e w7 ⟨rfl, hb7⟩))
          go_ret
          exact ⟨ret_bool rfl, bthen hb1 (bthen (below_n _) hb7)⟩
        · go_enter Try.func5, Try.ntmps5
          go_wp2_with (first | (go_at_call 7; (with_reducible refine (P1.out _).mono ?_); rintro e w1 ⟨v1, rfl, ho1, hb1⟩; obtain ⟨A1, d1, rfl, hr1, hlc, hcm⟩ := ho1.rb) | (go_at_call 14; (with_reducible refine (C1.out _).mono ?_); rintro e w' ⟨rfl, m1, rfl⟩) | (go_at_call 17; (with_reducible refine (C4.out _).mono ?_); rintro e w' ⟨rfl, rfl⟩) | (go_at_call 6; refine (alive_any _).mono ?_; rintro e w7 ⟨rfl, hb7⟩))
          all_goals
            go_ret
            exact ⟨ret_bool rfl, bthen hb1 (bthen (below_n _) hb7)⟩
      · rw [hpn] at c1
        have C1 := Lib.hid c1
        clear c1 hpn h1
        go_enter Try.func5, Try.ntmps5
        go_wp2_with (first | (go_at_call 7; (with_reducible refine (P1.out _).mono ?_); rintro e w1 ⟨v1, rfl, ho1, hb1⟩; obtain ⟨A1, d1, rfl, hr1, hlc, hcm⟩ := ho1.rb) | (go_at_call 14; (with_reducible refine (C1.out _).mono ?_); rintro e w' ⟨rfl, m1, rfl⟩) | (go_at_call 6; refine (alive_any _).mono ?_; rintro e w7 ⟨rfl, hb7⟩))
        go_ret
        exact ⟨ret_bool rfl, bthen hb1 (bthen (below_n _) hb7)⟩
end Go.Proofs.Ytkgdiigmkefmcaa
