/- WALKS OF LAYER 3, FIRST PART: hsum.Sum, Told, Check, Zero: they read alone; the bytes are bytes. -/
import Derived.Test.YtjofdgjcbjdhbaaGreatDoorGw1
import Derived.Test.YtjofdgjcbjdhbaaGreatDoorGn1
namespace Go.Proofs.YtjofdgjcbjdhbaaGreatDoor
open Go.RowKit
set_option maxHeartbeats 400000
set_option maxRecDepth 100000
/- THE CALLS OF hsum THAT READ. -/
theorem isBlock_any (A : Option Addr) (n c : Nat) (w : World) :
    Calls Tryz.prog 73 #[.slice A n c] w fun e w' => e = .returned (.bool (decide (n = 512))) ∧ w = w' := by
  by_cases h : n = 512
  · subst h
    go_enter Tryz.func73, Tryz.ntmps73
    go_wp2
    go_ret
    exact ⟨ret_bool (by simp), rfl⟩
  · have g : ((n : Int) == 512) = false := by simp; omega
    go_enter Tryz.func73, Tryz.ntmps73
    go_wp2
    go_ret
    exact ⟨ret_bool (by simp [h]), rfl⟩
theorem hsum_any (A : Option Addr) (n c : Nat) (xs : List Int) (w : World) (ha : RB w w.heap.size A n xs) (hx : Byt xs) :
    Calls Tryz.prog 132 #[.slice A n c] w fun e w' => e = .returned (.tuple #[.int .i64 (Hs.sumS xs).1, .int .i64 (Hs.sumS xs).2]) ∧ w = w' := by
  have hxl := ha.1
  by_cases h : n = 512
  · have hs : Hs.sumS xs = (Hs.psum xs 512, 0) := by unfold Hs.sumS; rw [if_pos (by omega)]
    have ib := isBlock_any A n c w
    rw [decide_eq_true h] at ib
    obtain ⟨N, hN⟩ : ∃ N : Nat, N = 512 := ⟨_, rfl⟩
    obtain rfl : n = N := by omega
    rw [← hN] at hs
    have HS := Lib.hid hs; have IB := Lib.hid ib; have HXL := Lib.hid hxl; have HN := Lib.hid hN; clear hs ib hxl hN h
    have hbd := Hs.psum_bd xs hx
    have hst : ∀ k, Hs.psum xs (k + 1) = Hs.psum xs k + (if 148 ≤ k ∧ k < 156 then 32 else xs.getD k 0) := fun k => rfl
    have HBD := Lib.hid hbd; have HST := Lib.hid hst; clear hbd hst
    go_enter Tryz.func132, Tryz.ntmps132
    go_wp2_with (go_at_call 73; (with_reducible refine IB.out.mono ?_); rintro e w' ⟨rfl, rfl⟩)
    go_loop [4, 9] (fun v i => ∃ k : Nat, k ≤ n ∧ i = .int .i64 k ∧ v = .int .i64 (Hs.psum xs k)) (fun _ i => n - (intOf i).toNat)
    case atStart => exact ⟨0, by omega, rfl, rfl⟩
    case round =>
      obtain ⟨k, hk, rfl, rfl⟩ := hrel
      have hb := HBD.out k
      have hs := HST.out k
      have hN := HN.out
      by_cases hlt : k < 512
      · obtain ⟨b, o, rfl, _, hc⟩ := ha.at_ (show k < n by omega)
        have hxk := hx k
        have hkN : k + 1 ≤ n := by omega
        clear hN
        generalize xs.getD k 0 = y at *
        generalize Hs.psum xs k = m at *
        generalize hm' : Hs.psum xs (k + 1) = m' at *
        have HM := Lib.hid hm'; clear hm'
        by_cases h1 : 148 ≤ k
        · by_cases h2 : k < 156
          · rw [if_pos ⟨h1, h2⟩] at hs
            have HSS := Lib.hid hs; clear hs
            go_wp2
            go_round
            case rel => exact ⟨k + 1, hkN, by go_num, by rw [HM.out, HSS.out]⟩
            case measure => simp [intOf]; omega
          · rw [if_neg (by omega)] at hs
            have HSS := Lib.hid hs; clear hs
            go_wp2
            go_round
            case rel => exact ⟨k + 1, hkN, by go_num, by rw [HM.out, HSS.out]⟩
            case measure => simp [intOf]; omega
        · rw [if_neg (by omega)] at hs
          have HSS := Lib.hid hs; clear hs
          go_wp2
          go_round
          case rel => exact ⟨k + 1, hkN, by go_num, by rw [HM.out, HSS.out]⟩
          case measure => simp [intOf]; omega
      · have e : k = n := by omega
        subst e
        go_wp2
        go_ret2
        exact ⟨by rw [HS.out, hN]; rfl, rfl⟩
  · have hs : Hs.sumS xs = (0, 1) := by unfold Hs.sumS; rw [if_neg (by omega)]
    have ib := isBlock_any A n c w
    rw [decide_eq_false h] at ib
    have HS := Lib.hid hs; have IB := Lib.hid ib; clear hs ib
    go_enter Tryz.func132, Tryz.ntmps132
    go_wp2_with (go_at_call 73; (with_reducible refine IB.out.mono ?_); rintro e w' ⟨rfl, rfl⟩)
    go_ret2
    exact ⟨by rw [HS.out]; rfl, rfl⟩
/-- The eight bytes of a block's sum. -/
theorem RB.field {w : World} {B b o : Nat} {xs : List Int} (h : RB w B (some ⟨b, o, none⟩) 512 xs) : RB w B (some ⟨b, o + 148, none⟩) 8 (Hs.field xs) := by
  refine ⟨by unfold Hs.field; rw [List.length_take, List.length_drop, h.1]; omega, fun _ => ?_⟩
  obtain ⟨_, _, e, hb, hc⟩ := h.2 (by omega)
  cases e
  refine ⟨b, o + 148, rfl, hb, fun j hj => ?_⟩
  rw [show o + 148 + j = o + (148 + j) from by omega, hc (148 + j) (by omega)]
  unfold Hs.field
  simp [List.getD, hj, List.getElem?_drop]
theorem byt_field {xs : List Int} (hx : Byt xs) : Byt (Hs.field xs) := fun j => by
  unfold Hs.field
  have := hx.drop 148 j
  by_cases hj : j < 8
  · simpa [List.getD, List.getElem?_take, hj] using this
  · simp [List.getD, List.getElem?_take, hj]
theorem htold_any (A : Option Addr) (n c : Nat) (xs : List Int) (w : World) (ha : RB w w.heap.size A n xs) (hx : Byt xs) (hc : n ≤ c) (hc2 : c ≤ maxLen) :
    Calls Tryz.prog 131 #[.slice A n c] w fun e w' => e = .returned (.tuple #[.int .i64 (Hs.toldS xs).1, .int .i64 (Hs.toldS xs).2]) ∧ w = w' := by
  have hxl := ha.1
  have ib := isBlock_any A n c w
  by_cases h : n = 512
  · rw [decide_eq_true h] at ib
    have IB := Lib.hid ib; clear ib
    subst h
    obtain ⟨b, o, rfl, hb, _⟩ := ha.at_ (k := 0) (by omega)
    have g := get_any (some ⟨b, o + 148, none⟩) 8 (c - 148) _ w ha.field (byt_field hx) (by omega) (by unfold maxLen at hc2 ⊢; omega)
    have ht : Hs.toldS xs = (if (Nf.getS (Hs.field xs)).2 ≠ 0 then (0, (Nf.getS (Hs.field xs)).2) else if (Nf.getS (Hs.field xs)).1 < 0 ∨ 1048576 < (Nf.getS (Hs.field xs)).1 then (0, 3) else ((Nf.getS (Hs.field xs)).1, 0)) := by
      unfold Hs.toldS; rw [if_pos hxl]
    generalize Nf.getS (Hs.field xs) = p at *
    obtain ⟨p1, p2⟩ := p
    simp only at ht g
    have G := Lib.hid g; have HXL := Lib.hid hxl; clear g hxl
    have hc3 : ¬ c = 148 := by omega
    unfold maxLen at hc2
    by_cases h0 : p2 = 0
    · subst h0
      by_cases h1 : p1 < 0
      · rw [if_neg (by simp), if_pos (Or.inl h1)] at ht
        have HT := Lib.hid ht; clear ht
        go_enter Tryz.func131, Tryz.ntmps131
        go_wp2_with (first | (go_at_call 73; (with_reducible refine IB.out.mono ?_); rintro e w' ⟨rfl, rfl⟩) | (go_at_call 134; (with_reducible refine G.out.mono ?_); rintro e w' ⟨rfl, rfl⟩))
        go_ret2
        exact ⟨by rw [HT.out]; rfl, rfl⟩
      · by_cases h2 : 1048576 < p1
        · rw [if_neg (by simp), if_pos (Or.inr h2)] at ht
          have HT := Lib.hid ht; clear ht
          go_enter Tryz.func131, Tryz.ntmps131
          go_wp2_with (first | (go_at_call 73; (with_reducible refine IB.out.mono ?_); rintro e w' ⟨rfl, rfl⟩) | (go_at_call 134; (with_reducible refine G.out.mono ?_); rintro e w' ⟨rfl, rfl⟩))
          go_ret2
          exact ⟨by rw [HT.out]; rfl, rfl⟩
        · rw [if_neg (by simp), if_neg (by omega)] at ht
          have HT := Lib.hid ht; clear ht
          go_enter Tryz.func131, Tryz.ntmps131
          go_wp2_with (first | (go_at_call 73; (with_reducible refine IB.out.mono ?_); rintro e w' ⟨rfl, rfl⟩) | (go_at_call 134; (with_reducible refine G.out.mono ?_); rintro e w' ⟨rfl, rfl⟩))
          go_ret2
          exact ⟨by rw [HT.out]; rfl, rfl⟩
    · rw [if_pos h0] at ht
      have HT := Lib.hid ht; clear ht
      have h1 : (p2 != 0) = true := by simp [h0]
      go_enter Tryz.func131, Tryz.ntmps131
      go_wp2_with (first | (go_at_call 73; (with_reducible refine IB.out.mono ?_); rintro e w' ⟨rfl, rfl⟩) | (go_at_call 134; (with_reducible refine G.out.mono ?_); rintro e w' ⟨rfl, rfl⟩))
      go_ret2
      exact ⟨by rw [HT.out]; rfl, rfl⟩
  · have ht : Hs.toldS xs = (0, 1) := by unfold Hs.toldS; rw [if_neg (by omega)]
    rw [decide_eq_false h] at ib
    have IB := Lib.hid ib; have HT := Lib.hid ht; clear ib ht
    go_enter Tryz.func131, Tryz.ntmps131
    go_wp2_with (go_at_call 73; (with_reducible refine IB.out.mono ?_); rintro e w' ⟨rfl, rfl⟩)
    go_ret2
    exact ⟨by rw [HT.out]; rfl, rfl⟩
theorem hcheck_any (A : Option Addr) (n c : Nat) (xs : List Int) (w : World) (ha : RB w w.heap.size A n xs) (hx : Byt xs) (hc : n ≤ c) (hc2 : c ≤ maxLen) :
    Calls Tryz.prog 106 #[.slice A n c] w fun e w' => e = .returned (.int .i64 (Hs.checkS xs)) ∧ w = w' := by
  have hxl := ha.1
  have t := htold_any A n c xs w ha hx hc hc2
  have s := hsum_any A n c xs w ha hx
  have hk : Hs.checkS xs = if (Hs.toldS xs).2 ≠ 0 then (Hs.toldS xs).2 else if (Hs.toldS xs).1 = Hs.psum xs 512 then 0 else 9 := rfl
  have hl : (Hs.toldS xs).2 = 0 → xs.length = 512 := fun h => by
    unfold Hs.toldS at h
    split at h
    · assumption
    · simp at h
  generalize Hs.toldS xs = p at *
  obtain ⟨p1, p2⟩ := p
  simp only at hk t hl
  have HXL := Lib.hid hxl; clear hxl
  by_cases h0 : p2 = 0
  · rw [show Hs.sumS xs = (Hs.psum xs 512, 0) from by unfold Hs.sumS; rw [if_pos (hl h0)]] at s
    simp only at s
    generalize Hs.psum xs 512 = q at *
    subst h0
    rw [if_neg (by simp)] at hk
    have T := Lib.hid t; have S := Lib.hid s; clear t s hl
    by_cases h1 : p1 = q
    · rw [if_pos h1] at hk
      have HK := Lib.hid hk; clear hk
      have g : (p1 != q) = false := by simp [h1]
      have H1 := Lib.hid h1; clear h1
      go_enter Tryz.func106, Tryz.ntmps106
      go_wp2_with (first | (go_at_call 131; (with_reducible refine T.out.mono ?_); rintro e w' ⟨rfl, rfl⟩) | (go_at_call 132; (with_reducible refine S.out.mono ?_); rintro e w' ⟨rfl, rfl⟩))
      go_ret
      exact ⟨ret_int HK.out.symm, rfl⟩
    · rw [if_neg h1] at hk
      have HK := Lib.hid hk; clear hk
      have g : (p1 != q) = true := by simp [h1]
      go_enter Tryz.func106, Tryz.ntmps106
      go_wp2_with (first | (go_at_call 131; (with_reducible refine T.out.mono ?_); rintro e w' ⟨rfl, rfl⟩) | (go_at_call 132; (with_reducible refine S.out.mono ?_); rintro e w' ⟨rfl, rfl⟩))
      go_ret
      exact ⟨ret_int HK.out.symm, rfl⟩
  · rw [if_pos h0] at hk
    have HK := Lib.hid hk; have T := Lib.hid t; clear hk t s hl
    have g : (p2 != 0) = true := by simp [h0]
    go_enter Tryz.func106, Tryz.ntmps106
    go_wp2_with (go_at_call 131; (with_reducible refine T.out.mono ?_); rintro e w' ⟨rfl, rfl⟩)
    go_ret
    exact ⟨ret_int HK.out.symm, rfl⟩
theorem hzero_any (A : Option Addr) (n c : Nat) (xs : List Int) (w : World) (ha : RB w w.heap.size A n xs) :
    Calls Tryz.prog 50 #[.slice A n c] w fun e w' => e = .returned (.bool (Hs.zeroS xs)) ∧ w = w' := by
  have hxl := ha.1
  have ib := isBlock_any A n c w
  by_cases h : n = 512
  · rw [decide_eq_true h] at ib
    have hz : Hs.zeroS xs = xs.all (· == 0) := by unfold Hs.zeroS; rw [decide_eq_true (by omega)]; rfl
    have hall : ∀ k, k < n → xs.getD k 0 ≠ 0 → xs.all (· == 0) = false := fun k hk hne => by
      rw [List.all_eq_false]
      exact ⟨xs.getD k 0, getD_mem (by omega), by simpa using hne⟩
    have hend : (∀ k, k < n → xs.getD k 0 = 0) → xs.all (· == 0) = true := fun hh => by
      rw [List.all_eq_true]
      intro x hm
      obtain ⟨i, hi, rfl⟩ := List.getElem_of_mem hm
      have := hh i (by omega)
      simpa [List.getD, hi] using this
    have IB := Lib.hid ib; have HZ := Lib.hid hz; have HA := Lib.hid hall; have HE := Lib.hid hend; have HN := Lib.hid h; clear ib hz hall hend h hxl
    go_enter Tryz.func50, Tryz.ntmps50
    go_wp2_with (go_at_call 73; (with_reducible refine IB.out.mono ?_); rintro e w' ⟨rfl, rfl⟩)
    go_loop [7] (fun i => ∃ k : Nat, k ≤ n ∧ i = .int .i64 k ∧ ∀ j, j < k → xs.getD j 0 = 0) (fun i => n - (intOf i).toNat)
    case atStart => exact ⟨0, by omega, rfl, fun j hj => by omega⟩
    case round =>
      obtain ⟨k, hk, rfl, hj⟩ := hrel
      have HJ := Lib.hid hj; clear hj
      have hN := HN.out
      by_cases hlt : k < 512
      · obtain ⟨b, o, rfl, _, hc⟩ := ha.at_ (show k < n by omega)
        have ha2 := HA.out k (by omega)
        have hkN : k + 1 ≤ n := by omega
        clear hN
        generalize hy : xs.getD k 0 = y at *
        have HY := Lib.hid hy; clear hy
        by_cases h0 : y = 0
        · have g : (y != 0) = false := by simp [h0]
          have H0 := Lib.hid h0; clear h0 ha2
          go_wp2
          go_round
          case rel =>
            refine ⟨k + 1, hkN, by go_num, fun j hj => ?_⟩
            by_cases hjk : j < k
            · exact HJ.out j hjk
            · rw [show j = k from by omega, HY.out, H0.out]
          case measure => simp [intOf]; omega
        · have g : (y != 0) = true := by simp [h0]
          have h2 := ha2 h0
          have H2 := Lib.hid h2; clear h2 ha2 h0
          go_wp2
          go_ret
          exact ⟨ret_bool (by rw [HZ.out, H2.out]), rfl⟩
      · have e : k = n := by omega
        subst e
        have h2 := HE.out HJ.out
        have H2 := Lib.hid h2; clear h2
        go_wp2
        go_ret
        exact ⟨ret_bool (by rw [HZ.out, H2.out]), rfl⟩
  · have hz : Hs.zeroS xs = false := by unfold Hs.zeroS; rw [decide_eq_false (by omega)]; rfl
    rw [decide_eq_false h] at ib
    have IB := Lib.hid ib; have HZ := Lib.hid hz; clear ib hz
    go_enter Tryz.func50, Tryz.ntmps50
    go_wp2_with (go_at_call 73; (with_reducible refine IB.out.mono ?_); rintro e w' ⟨rfl, rfl⟩)
    go_ret
    exact ⟨ret_bool (by rw [HZ.out]), rfl⟩
end Go.Proofs.YtjofdgjcbjdhbaaGreatDoor
/- WALKS OF LAYER 3, SECOND PART: the reference's Sum, Told, Check. -/
namespace Go.Proofs.YtjofdgjcbjdhbaaGreatDoor
open Go.RowKit
set_option maxHeartbeats 400000
set_option maxRecDepth 100000
/- THE REFERENCE'S SUM, AND WHAT A BLOCK TELLS. -/
theorem refsum_any (A : Option Addr) (n c : Nat) (xs : List Int) (w : World) (ha : RB w w.heap.size A n xs) (hx : Byt xs) (hn : n ≤ 1000000) :
    Calls Tryz.prog 105 #[.slice A n c] w fun e w' => e = .returned (.int .i64 (Hs.psum xs n)) ∧ w = w' := by
  have hxl := ha.1
  have hbd := Hs.psum_bd xs hx
  have hst : ∀ k, Hs.psum xs (k + 1) = Hs.psum xs k + (if 148 ≤ k ∧ k < 156 then 32 else xs.getD k 0) := fun k => rfl
  have HBD := Lib.hid hbd; have HST := Lib.hid hst; have HXL := Lib.hid hxl; clear hbd hst hxl
  go_enter Tryz.func105, Tryz.ntmps105
  go_wp2_with fail
  go_loop [3, 4] (fun v i => ∃ k : Nat, k ≤ n ∧ i = .int .i64 k ∧ v = .int .i64 (Hs.psum xs k)) (fun _ i => n - (intOf i).toNat)
  case atStart => exact ⟨0, by omega, rfl, rfl⟩
  case round =>
    obtain ⟨k, hk, rfl, rfl⟩ := hrel
    have hb := HBD.out k
    have hs := HST.out k
    by_cases hlt : k < n
    · obtain ⟨b, o, rfl, _, hc⟩ := ha.at_ hlt
      have hxk := hx k
      have hkN : k + 1 ≤ n := by omega
      generalize xs.getD k 0 = y at *
      generalize Hs.psum xs k = m at *
      generalize hm' : Hs.psum xs (k + 1) = m' at *
      have HM := Lib.hid hm'; clear hm'
      by_cases h1 : 148 ≤ k
      · by_cases h2 : k < 156
        · rw [if_pos ⟨h1, h2⟩] at hs
          have HSS := Lib.hid hs; clear hs
          go_wp2
          go_round
          case rel => exact ⟨k + 1, hkN, by go_num, by rw [HM.out, HSS.out]⟩
          case measure => simp [intOf]; omega
        · rw [if_neg (by omega)] at hs
          have HSS := Lib.hid hs; clear hs
          go_wp2
          go_round
          case rel => exact ⟨k + 1, hkN, by go_num, by rw [HM.out, HSS.out]⟩
          case measure => simp [intOf]; omega
      · rw [if_neg (by omega)] at hs
        have HSS := Lib.hid hs; clear hs
        go_wp2
        go_round
        case rel => exact ⟨k + 1, hkN, by go_num, by rw [HM.out, HSS.out]⟩
        case measure => simp [intOf]; omega
    · have e : k = n := by omega
      subst e
      go_wp2
      go_ret
      exact ⟨rfl, rfl⟩
end Go.Proofs.YtjofdgjcbjdhbaaGreatDoor
