/- WALKS OF LAYER 3, THE LAWS: HsumFinds. -/
import Derived.Test.YthnkjmckdcmjpaaDoorL3
import Derived.Laws.BitsAllLaws
namespace Go.Proofs.YthnkjmckdcmjpaaDoor
open Go.RowKit
set_option maxHeartbeats 1600000
set_option maxRecDepth 100000
theorem xor_turn (y d : Int) (h0 : 0 ≤ y) (h1 : y ≤ 255) (h2 : 0 ≤ d) (h3 : d ≤ 255) : (d ≠ 0 → bits .xor .u8 y d ≠ y) ∧ 0 ≤ bits .xor .u8 y d ∧ bits .xor .u8 y d ≤ 255 := by
  rw [u8_xor y d h0 (by omega) h2 (by omega)]
  have hb : y.toNat ^^^ d.toNat < 2 ^ 8 := Nat.xor_lt_two_pow (by omega) (by omega)
  refine ⟨fun hne he => ?_, by omega, by omega⟩
  have e : y.toNat ^^^ d.toNat = y.toNat := by omega
  have e2 : y.toNat ^^^ (y.toNat ^^^ d.toNat) = d.toNat := by rw [← Nat.xor_assoc, Nat.xor_self, Nat.zero_xor]
  rw [e, Nat.xor_self] at e2
  omega
theorem Byt.set {xs : List Int} (hx : Byt xs) (i : Nat) (y : Int) (hy : 0 ≤ y ∧ y ≤ 255) : Byt (xs.set i y) := fun j => by
  by_cases hi : i < xs.length
  · rw [Hs.getD_set xs i y j hi]
    split
    · exact hy
    · exact hx j
  · rw [List.set_eq_of_length_le (by omega)]
    exact hx j
theorem finds_walk (A : Option Addr) (n c : Nat) (xs : List Int) (at' d : Int) (w : World) (ha : RB w w.heap.size A n xs) (hx : Byt xs) (hc : n ≤ c) (hc2 : c ≤ maxLen) (ha0 : 0 ≤ at') (ha1 : at' ≤ 65535) (hd0 : 0 ≤ d) (hd1 : d ≤ 255) :
    Calls Tryd.prog 4 #[.slice A n c, .int .u16 at', .int .u8 d] w fun e w' => e = .returned (.bool true) ∧ Below w.heap.size w w' := by
  obtain ⟨i0, hi, hz0, hz1, hz2⟩ := info_parts info_u8
  have hxl := ha.1
  by_cases hn : (n : Int) ≤ 1000
  · have hnn : n ≤ 1000 := by omega
    have hyl := Hs.len_blk xs
    have hyb := Hs.byt_blk xs hx
    have bl := block_any A n c xs w ha (by omega)
    generalize Hs.blk xs = Y at *
    have hpl := Hs.len_put Y hyl
    have hpb := Hs.byt_put Y hyb
    have hp0 : (Hs.putS Y).2 = 0 := by unfold Hs.putS; rw [if_pos hyl]
    have hpc := Hs.check_put Y hyl hyb
    have hpp := Hs.put_put Y hyl
    have hps := Hs.check_set Y hyl hyb
    obtain ⟨⟨P, P2⟩, hP⟩ : ∃ P, Hs.putS Y = P := ⟨_, rfl⟩
    have put1 := fun (A : Option Addr) (c : Nat) (W : World) (h : RB W W.heap.size A 512 Y) => hput_any A 512 c Y W h hyb
    rw [hP] at hpl hpb hp0 hpc hpp hps put1
    simp only at hpl hpb hp0 hpc hpp hps put1
    subst hp0
    have put2 := fun (A : Option Addr) (c : Nat) (W : World) (h : RB W W.heap.size A 512 P) => hput_any A 512 c P W h hpb
    rw [hpp] at put2
    have chk := fun (A : Option Addr) (c : Nat) (W : World) (h : RB W W.heap.size A 512 P) (h1 : 512 ≤ c) (h2 : c ≤ maxLen) => hcheck_any A 512 c P W h hpb h1 h2
    rw [hpc] at chk
    have mk : ∀ w1 B v, OBn w1 B 5 v 512 Y → ∃ A c, v = .slice A 512 c ∧ RB w1 w1.heap.size A 512 Y := fun w1 B v h => by
      obtain ⟨A, c, e, hr, h1, h2⟩ := h.ob.rb
      rw [hyl] at e hr h1
      exact ⟨A, c, e, hr⟩
    have mk2 : ∀ w1 B v, OB w1 B 5 v P → ∃ g c, v = .slice (some ⟨g, 0, none⟩) 512 c ∧ RB w1 w1.heap.size (some ⟨g, 0, none⟩) 512 P ∧ 512 ≤ c ∧ c ≤ maxLen := fun w1 B v h => by
      obtain ⟨A, c, e, hr, h1, h2⟩ := h.rb
      rw [hpl] at e hr h1
      have h' := h.obn
      rw [hpl] at h'
      obtain ⟨g, c', cur, e2, _⟩ := h'.shape (by omega)
      rw [e2] at e
      cases e
      exact ⟨g, _, e2, hr, h1, h2⟩
    have BL := Lib.hid bl; have PUT1 := Lib.hid put1; have PUT2 := Lib.hid put2; have CHK := Lib.hid chk; have MK := Lib.hid mk; have MK2 := Lib.hid mk2; have HPS := Lib.hid hps; have HPL := Lib.hid hpl; have HPB := Lib.hid hpb; have HXL := Lib.hid hxl
    clear bl put1 put2 chk mk mk2 hps hpl hpb hpc hpp hP hyl hyb hxl
    have him : 0 ≤ at' % 512 ∧ at' % 512 < 512 := by omega
    obtain ⟨i, hi2⟩ : ∃ i : Nat, at' % 512 = (i : Int) := ⟨(at' % 512).toNat, by omega⟩
    by_cases h1 : 148 ≤ i ∧ i < 156
    · go_enter Tryd.func4, Tryd.ntmps4
      go_wp2_with (first
        | (go_at_call 7; (with_reducible refine BL.out.mono ?_); rintro e w1 ⟨v1, rfl, ho1, hb1⟩; obtain ⟨A1, c1, rfl, hr1⟩ := MK.out _ _ _ ho1; clear ho1)
        | (go_at_call 10; (with_reducible refine (PUT1.out _ _ _ hr1).mono ?_); rintro e w2 ⟨v2, rfl, ho2, hb2⟩; obtain ⟨g2, c2, rfl, hr2, hlc2, hcm2⟩ := MK2.out _ _ _ ho2; clear ho2)
        | (go_at_call 15; (with_reducible refine (CHK.out _ _ _ hr2 hlc2 hcm2).mono ?_); rintro e w' ⟨rfl, rfl⟩)
        | (go_at_call 10; (with_reducible refine (PUT2.out _ _ _ hr2).mono ?_); rintro e w3 ⟨v3, rfl, ho3, hb3⟩; obtain ⟨g3, c3, rfl, hr3, hlc3, hcm3⟩ := MK2.out _ _ _ ho3; have hr23 := (hr2.below hb3).more hb3.size; clear ho3)
        | (go_at_call 14; (with_reducible refine (same_any _ _ _ _ _ _ _ _ _ hr3 hr23 (by omega) (by omega)).mono ?_); rintro e w4 ⟨rfl, hb4⟩; rw [decide_eq_true rfl]; have hr24 := (hr23.below hb4).more hb4.size; have hb24 := bthen hb1 (bthen hb2 (bthen hb3 hb4)))
        | (go_at_call 6; refine (alive_any _).mono ?_; rintro e w7 ⟨rfl, hb7⟩))
      go_ret
      exact ⟨ret_bool rfl, bthen hb24 hb7⟩
    · have hil : i < 512 := by omega
      have HI := Lib.hid hil; clear hil
      by_cases h2 : d = 0
      · subst h2
        rcases (show i < 148 ∨ 156 ≤ i by omega) with h3 | h3
        all_goals
          clear h1
          go_enter Tryd.func4, Tryd.ntmps4
          go_wp2_with (first
            | (go_at_call 7; (with_reducible refine BL.out.mono ?_); rintro e w1 ⟨v1, rfl, ho1, hb1⟩; obtain ⟨A1, c1, rfl, hr1⟩ := MK.out _ _ _ ho1; clear ho1)
            | (go_at_call 10; (with_reducible refine (PUT1.out _ _ _ hr1).mono ?_); rintro e w2 ⟨v2, rfl, ho2, hb2⟩; obtain ⟨g2, c2, rfl, hr2, hlc2, hcm2⟩ := MK2.out _ _ _ ho2; clear ho2)
            | (go_at_call 15; (with_reducible refine (CHK.out _ _ _ hr2 hlc2 hcm2).mono ?_); rintro e w' ⟨rfl, rfl⟩)
            | (go_at_call 10; (with_reducible refine (PUT2.out _ _ _ hr2).mono ?_); rintro e w3 ⟨v3, rfl, ho3, hb3⟩; obtain ⟨g3, c3, rfl, hr3, hlc3, hcm3⟩ := MK2.out _ _ _ ho3; have hr23 := (hr2.below hb3).more hb3.size; clear ho3)
            | (go_at_call 14; (with_reducible refine (same_any _ _ _ _ _ _ _ _ _ hr3 hr23 (by omega) (by omega)).mono ?_); rintro e w4 ⟨rfl, hb4⟩; rw [decide_eq_true rfl]; have hr24 := (hr23.below hb4).more hb4.size; have hb24 := bthen hb1 (bthen hb2 (bthen hb3 hb4)))
            | (go_at_call 6; refine (alive_any _).mono ?_; rintro e w7 ⟨rfl, hb7⟩))
          go_ret
          exact ⟨ret_bool rfl, bthen hb24 hb7⟩
      · have g2 : (d == 0) = false := by simp [h2]
        have hyb := HPB.out i
        have hxt := xor_turn (P.getD i 0) d hyb.1 hyb.2 hd0 hd1
        have hck := HPS.out i HI.out h1 _ (hxt.1 h2)
        have hsb : Byt (P.set i (bits .xor .u8 (P.getD i 0) d)) := HPB.out.set i _ hxt.2
        obtain ⟨y, hy⟩ : ∃ y, P.getD i 0 = y := ⟨_, rfl⟩
        rw [hy] at hck hsb
        have chk2 := fun (A : Option Addr) (c : Nat) (W : World) (h : RB W W.heap.size A 512 (P.set i (bits .xor .u8 y d))) (h1 : 512 ≤ c) (h2 : c ≤ maxLen) => hcheck_any A 512 c _ W h hsb h1 h2
        rw [hck] at chk2
        have HCK := Lib.hid chk2; have HY := Lib.hid hy
        clear hyb hxt hck hsb chk2 hy
        rcases (show i < 148 ∨ 156 ≤ i by omega) with h3 | h3
        all_goals
          clear h1 h2
          go_enter Tryd.func4, Tryd.ntmps4
          go_wp2_with (first
            | (go_at_call 7; (with_reducible refine BL.out.mono ?_); rintro e w1 ⟨v1, rfl, ho1, hb1⟩; obtain ⟨A1, c1, rfl, hr1⟩ := MK.out _ _ _ ho1; clear ho1)
            | (go_at_call 10; (with_reducible refine (PUT1.out _ _ _ hr1).mono ?_); rintro e w2 ⟨v2, rfl, ho2, hb2⟩; obtain ⟨g2, c2, rfl, hr2, hlc2, hcm2⟩ := MK2.out _ _ _ ho2; clear ho2)
            | (go_at_call 15; (with_reducible refine (CHK.out _ _ _ hr2 hlc2 hcm2).mono ?_); rintro e w' ⟨rfl, rfl⟩)
            | (go_at_call 10; (with_reducible refine (PUT2.out _ _ _ hr2).mono ?_); rintro e w3 ⟨v3, rfl, ho3, hb3⟩; obtain ⟨g3, c3, rfl, hr3, hlc3, hcm3⟩ := MK2.out _ _ _ ho3; have hr23 := (hr2.below hb3).more hb3.size; clear ho3)
            | (go_at_call 14; (with_reducible refine (same_any _ _ _ _ _ _ _ _ _ hr3 hr23 (by omega) (by omega)).mono ?_); rintro e w4 ⟨rfl, hb4⟩; rw [decide_eq_true rfl]; have hr24 := (hr23.below hb4).more hb4.size; have hb24 := bthen hb1 (bthen hb2 (bthen hb3 hb4)))
            | (go_at_call 6; refine (alive_any _).mono ?_; rintro e w7 ⟨rfl, hb7⟩)
            | (at_builtin; refine wpList_append_own _ rfl _ _ 22 rfl w.heap.size 5 i0 (.int .u8 0) 1 1 Tryd.underlying22 hi hz0 hz1 hz2 rfl (by decide) (.slice none 0 0) 0 [] rfl (World.ownsRow_nil _ _ _ _) ⟨g2, 0, none⟩ 512 c2 (P.map (Value.int .u8)) rfl (by simp [HPL.out]) hr24.news (u8_cells _) (by unfold maxLen; omega) (by omega) hb24.size ?_; intro v5 w5 hown5 hgrow5 hnil5
               have hb5 := hb24.grown hgrow5 hb24.size (by intro k hk; simp [Value.ownBlock] at hk)
               have hx5 : OBn w5 w.heap.size 5 v5 512 P := by unfold OBn; simpa using hown5
               obtain ⟨g5, c5, cur5, rfl, hbg5, hlt5, _, hlc5, hcm5, _, _⟩ := hx5.shape (by omega)
               have hcc5 := hx5.cell i HI.out; rw [HY.out] at hcc5
               have hr5 : RB (w5.setCell ⟨g5, i, none⟩ (.int .u8 (bits .xor .u8 y d))) (w5.setCell ⟨g5, i, none⟩ (.int .u8 (bits .xor .u8 y d))).heap.size (some ⟨g5, 0, none⟩) 512 (P.set i (bits .xor .u8 y d)) := by have h := hx5.stored i (bits .xor .u8 y d); have hl := h.len; obtain ⟨A, c, e, hr, _, _⟩ := h.ob.rb; rw [hl] at e hr; cases e; exact hr
               have hff5 := hx5.free i
               have HX5 := Lib.hid hx5; have HR5 := Lib.hid hr5; clear hr5; have HB5 := Lib.hid hb5; have HBG := Lib.hid hbg5; have HLC := Lib.hid hlc5; have HCM := Lib.hid hcm5; clear hb5 hx5 hown5 hgrow5 hnil5 hbg5 hlt5 hlc5 hcm5)
            | (go_at_call 15; (with_reducible refine (HCK.out _ _ _ HR5.out HLC.out HCM.out).mono ?_); rintro e w' ⟨rfl, rfl⟩))
          go_ret
          exact ⟨ret_bool rfl, bthen (HB5.out.setCell (by exact HBG.out) _) hb7⟩
  · go_enter Tryd.func4, Tryd.ntmps4
    go_wp2_with (go_at_call 6; refine (alive_any _).mono ?_; rintro e w7 ⟨rfl, hb7⟩)
    go_ret
    exact ⟨ret_bool rfl, hb7⟩
end Go.Proofs.YthnkjmckdcmjpaaDoor
