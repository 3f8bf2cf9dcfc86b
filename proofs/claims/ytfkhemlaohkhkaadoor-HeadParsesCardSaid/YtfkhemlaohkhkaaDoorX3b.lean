/- WALKS OF LAYER 3, SECOND PART: the reference's Sum, Told, Check. -/
import Derived.Test.YtfkhemlaohkhkaaDoorX3a
import Derived.Test.YtfkhemlaohkhkaaDoorW4
namespace Go.Proofs.YtfkhemlaohkhkaaDoor
open Go.RowKit
set_option maxHeartbeats 400000
set_option maxRecDepth 100000
/- THE REFERENCE'S SUM, AND WHAT A BLOCK TELLS. -/
theorem refsum_any (A : Option Addr) (n c : Nat) (xs : List Int) (w : World) (ha : RB w w.heap.size A n xs) (hx : Byt xs) (hn : n ≤ 1000000) :
    Calls Tryd.prog 28 #[.slice A n c] w fun e w' => e = .returned (.int .i64 (Hs.psum xs n)) ∧ w = w' := by
  have hxl := ha.1
  have hbd := Hs.psum_bd xs hx
  have hst : ∀ k, Hs.psum xs (k + 1) = Hs.psum xs k + (if 148 ≤ k ∧ k < 156 then 32 else xs.getD k 0) := fun k => rfl
  have HBD := Lib.hid hbd; have HST := Lib.hid hst; have HXL := Lib.hid hxl; clear hbd hst hxl
  go_enter Tryd.func28, Tryd.ntmps28
  go_wp2_with fail
  go_loop [3, 4] (fun v i => ∃ k : Nat, k ≤ n ∧ i = .int .i64 k ∧ v = .int .i64 (Hs.psum xs k)) (fun _ i => n - (intOf i).toNat)
  case atStart => exact ⟨0, by omega, rfl, rfl⟩
  case round =>
    obtain ⟨k, hk, rfl, rfl⟩ := hrel
    have hb := HBD.out k
    have hs := HST.out k
    by_cases hlt : k < n
    · obtain ⟨b, o, rfl, _, hc⟩ := ha.at_ hlt
      have hxk := hx k
      have hkN : k + 1 ≤ n := by omega
      generalize xs.getD k 0 = y at *
      generalize Hs.psum xs k = m at *
      generalize hm' : Hs.psum xs (k + 1) = m' at *
      have HM := Lib.hid hm'; clear hm'
      by_cases h1 : 148 ≤ k
      · by_cases h2 : k < 156
        · rw [if_pos ⟨h1, h2⟩] at hs
          have HSS := Lib.hid hs; clear hs
          go_wp2
          go_round
          case rel => exact ⟨k + 1, hkN, by go_num, by rw [HM.out, HSS.out]⟩
          case measure => simp [intOf]; omega
        · rw [if_neg (by omega)] at hs
          have HSS := Lib.hid hs; clear hs
          go_wp2
          go_round
          case rel => exact ⟨k + 1, hkN, by go_num, by rw [HM.out, HSS.out]⟩
          case measure => simp [intOf]; omega
      · rw [if_neg (by omega)] at hs
        have HSS := Lib.hid hs; clear hs
        go_wp2
        go_round
        case rel => exact ⟨k + 1, hkN, by go_num, by rw [HM.out, HSS.out]⟩
        case measure => simp [intOf]; omega
    · have e : k = n := by omega
      subst e
      go_wp2
      go_ret
      exact ⟨rfl, rfl⟩
theorem reftold_any (A : Option Addr) (n c : Nat) (xs : List Int) (w : World) (ha : RB w w.heap.size A n xs) (hx : Byt xs) (hc : n ≤ c) (hc2 : c ≤ maxLen) :
    Calls Tryd.prog 51 #[.slice A n c] w fun e w' => e = .returned (.tuple #[.int .i64 (Hs.toldS xs).1, .int .i64 (Hs.toldS xs).2]) ∧ Below w.heap.size w w' := by
  have hxl := ha.1
  by_cases h : n = 512
  · subst h
    obtain ⟨b, o, rfl, hb, _⟩ := ha.at_ (k := 0) (by omega)
    have g := refget_any (some ⟨b, o + 148, none⟩) 8 (c - 148) _ w ha.field (byt_field hx) (by omega) (by unfold maxLen at hc2 ⊢; omega)
    have ht : Hs.toldS xs = (if (Nf.getS (Hs.field xs)).2 ≠ 0 then (0, (Nf.getS (Hs.field xs)).2) else if (Nf.getS (Hs.field xs)).1 < 0 ∨ 1048576 < (Nf.getS (Hs.field xs)).1 then (0, 3) else ((Nf.getS (Hs.field xs)).1, 0)) := by
      unfold Hs.toldS; rw [if_pos hxl]
    generalize Nf.getS (Hs.field xs) = p at *
    obtain ⟨p1, p2⟩ := p
    simp only at ht g
    have G := Lib.hid g; have HXL := Lib.hid hxl; clear g hxl
    have hc3 : ¬ c = 148 := by omega
    unfold maxLen at hc2
    by_cases h0 : p2 = 0
    · subst h0
      by_cases h1 : p1 < 0
      · rw [if_neg (by simp), if_pos (Or.inl h1)] at ht
        have HT := Lib.hid ht; clear ht
        go_enter Tryd.func51, Tryd.ntmps51
        go_wp2_with (go_at_call 35; (with_reducible refine G.out.mono ?_); rintro e w1 ⟨rfl, hb1⟩)
        go_ret2
        exact ⟨by rw [HT.out]; rfl, hb1⟩
      · by_cases h2 : 1048576 < p1
        · rw [if_neg (by simp), if_pos (Or.inr h2)] at ht
          have HT := Lib.hid ht; clear ht
          go_enter Tryd.func51, Tryd.ntmps51
          go_wp2_with (go_at_call 35; (with_reducible refine G.out.mono ?_); rintro e w1 ⟨rfl, hb1⟩)
          go_ret2
          exact ⟨by rw [HT.out]; rfl, hb1⟩
        · rw [if_neg (by simp), if_neg (by omega)] at ht
          have HT := Lib.hid ht; clear ht
          go_enter Tryd.func51, Tryd.ntmps51
          go_wp2_with (go_at_call 35; (with_reducible refine G.out.mono ?_); rintro e w1 ⟨rfl, hb1⟩)
          go_ret2
          exact ⟨by rw [HT.out]; rfl, hb1⟩
    · rw [if_pos h0] at ht
      have HT := Lib.hid ht; clear ht
      have h1 : (p2 != 0) = true := by simp [h0]
      go_enter Tryd.func51, Tryd.ntmps51
      go_wp2_with (go_at_call 35; (with_reducible refine G.out.mono ?_); rintro e w1 ⟨rfl, hb1⟩)
      go_ret2
      exact ⟨by rw [HT.out]; rfl, hb1⟩
  · have ht : Hs.toldS xs = (0, 1) := by unfold Hs.toldS; rw [if_neg (by omega)]
    have HT := Lib.hid ht; clear ht
    have g : ((n : Int) != 512) = true := by simp; omega
    go_enter Tryd.func51, Tryd.ntmps51
    go_wp2
    go_ret2
    exact ⟨by rw [HT.out]; rfl, Below.refl _ _⟩
theorem refcheck_any (A : Option Addr) (n c : Nat) (xs : List Int) (w : World) (ha : RB w w.heap.size A n xs) (hx : Byt xs) (hc : n ≤ c) (hc2 : c ≤ maxLen) :
    Calls Tryd.prog 33 #[.slice A n c] w fun e w' => e = .returned (.int .i64 (Hs.checkS xs)) ∧ Below w.heap.size w w' := by
  have hxl := ha.1
  have t := reftold_any A n c xs w ha hx hc hc2
  have hk : Hs.checkS xs = if (Hs.toldS xs).2 ≠ 0 then (Hs.toldS xs).2 else if (Hs.toldS xs).1 = Hs.psum xs 512 then 0 else 9 := rfl
  have hl : (Hs.toldS xs).2 = 0 → xs.length = 512 := fun h => by
    unfold Hs.toldS at h
    split at h
    · assumption
    · simp at h
  generalize Hs.toldS xs = p at *
  obtain ⟨p1, p2⟩ := p
  simp only at hk t hl
  by_cases h0 : p2 = 0
  · have hn : n = 512 := by rw [← hxl]; exact hl h0
    have s := fun W (hW : Below w.heap.size w W) => refsum_any A n c xs W ((ha.below hW).more hW.size) hx (by omega)
    rw [hn] at s
    generalize Hs.psum xs 512 = q at *
    subst h0
    rw [if_neg (by simp)] at hk
    have T := Lib.hid t; have S := Lib.hid s; have HXL := Lib.hid hxl; clear t s hl hxl
    subst hn
    by_cases h1 : p1 = q
    · rw [if_pos h1] at hk
      have HK := Lib.hid hk; clear hk
      have g : (p1 != q) = false := by simp [h1]
      have H1 := Lib.hid h1; clear h1
      go_enter Tryd.func33, Tryd.ntmps33
      go_wp2_with (first | (go_at_call 51; (with_reducible refine T.out.mono ?_); rintro e w1 ⟨rfl, hb1⟩) | (go_at_call 28; (with_reducible refine (S.out _ hb1).mono ?_); rintro e w' ⟨rfl, rfl⟩))
      go_ret
      exact ⟨ret_int HK.out.symm, hb1⟩
    · rw [if_neg h1] at hk
      have HK := Lib.hid hk; clear hk
      have g : (p1 != q) = true := by simp [h1]
      go_enter Tryd.func33, Tryd.ntmps33
      go_wp2_with (first | (go_at_call 51; (with_reducible refine T.out.mono ?_); rintro e w1 ⟨rfl, hb1⟩) | (go_at_call 28; (with_reducible refine (S.out _ hb1).mono ?_); rintro e w' ⟨rfl, rfl⟩))
      go_ret
      exact ⟨ret_int HK.out.symm, hb1⟩
  · rw [if_pos h0] at hk
    have HK := Lib.hid hk; have T := Lib.hid t; clear hk t hl
    have g : (p2 != 0) = true := by simp [h0]
    go_enter Tryd.func33, Tryd.ntmps33
    go_wp2_with (go_at_call 51; (with_reducible refine T.out.mono ?_); rintro e w1 ⟨rfl, hb1⟩)
    go_ret
    exact ⟨ret_int HK.out.symm, hb1⟩
end Go.Proofs.YtfkhemlaohkhkaaDoor
