/- WALKS OF LAYER 2, SECOND PART: strf.Loose, Get and their reference's: what a field's text is. -/
import Derived.Test.YtjhigkkkfkahdaaGreatDoorV2a
import Derived.Test.YtjhigkkkfkahdaaGreatDoorOb
namespace Go.Proofs.YtjhigkkkfkahdaaGreatDoor
open Go.RowKit
set_option maxHeartbeats 400000
set_option maxRecDepth 100000
def CutPost (A : Option Addr) (z c : Nat) (w : World) (e : Ending) (w' : World) : Prop := ∃ v2 v3 k, e = .returned (.tuple #[.slice A z c, v2, v3]) ∧ w' = w.drewN k
set_option maxRecDepth 100000 in
theorem index1_any (A : Option Addr) (n c g : Nat) (xs : List Int) (w : World) (ha : RB w w.heap.size A n xs) (hx : Byt xs) (hg : w.cell? ⟨g, 0, none⟩ = some (.int .u8 0)) :
    Calls Tryz.prog 144 #[.slice A n c, .slice (some ⟨g, 0, none⟩) 1 1] w fun e w' => e = .returned (.int .i64 (if Sf.zi xs < xs.length then (Sf.zi xs : Int) else -1)) ∧ w = w' := by
  have k := ib_any A n c xs w ha hx
  generalize (if Sf.zi xs < xs.length then (Sf.zi xs : Int) else -1) = r at *
  have k := Lib.hid k
  go_enter Tryz.func144, Tryz.ntmps144
  go_wp2_with (go_at_call 158; (with_reducible refine k.out.mono ?_); rintro e w' ⟨rfl, rfl⟩)
  go_ret
  exact ⟨rfl, rfl⟩
theorem cut0_any (A : Option Addr) (n c g : Nat) (xs : List Int) (w : World) (ha : RB w w.heap.size A n xs) (hx : Byt xs) (hg : w.cell? ⟨g, 0, none⟩ = some (.int .u8 0)) (hc : n ≤ c) (hn : n ≤ 1000000) :
    Calls Tryz.prog 120 #[.slice A n c, .slice (some ⟨g, 0, none⟩) 1 1] w (CutPost A (Sf.zi xs) c w) := by
  have k := index1_any A n c g xs w ha hx hg
  have hle := Sf.zi_le xs
  have hxl := ha.1
  by_cases h : Sf.zi xs < xs.length
  · rw [if_pos h] at k
    generalize Sf.zi xs = z at *
    have K := Lib.hid k; clear k
    rw [hxl] at h
    clear hxl
    have s1 : IntKind.i64.wrap ((z : Int) + 1) = (z : Int) + 1 := IntWalk.i64_in _ (by omega)
    have s2 : ((z : Int) + 1).toNat = z + 1 := by omega
    have s3 : (0 : Int) ≤ (z : Int) + 1 := by omega
    have s4 : z + 1 ≤ c := by omega
    have s5 : z ≤ c := by omega
    have s6 : z + 1 ≤ n := by omega
    go_enter Tryz.func120, Tryz.ntmps120
    go_wp2_with (go_at_call 144; (with_reducible refine K.out.mono ?_); rintro e w' ⟨rfl, rfl⟩)
    go_quiet (fail)
    go_wp2
    all_goals
      go_ret3
      exact ⟨_, _, _, rfl, rfl⟩
  · have e : Sf.zi xs = n := by omega
    rw [if_neg h] at k
    have K := Lib.hid k; clear k
    have E := Lib.hid e; clear e hxl h hle
    go_enter Tryz.func120, Tryz.ntmps120
    go_wp2_with (go_at_call 144; (with_reducible refine K.out.mono ?_); rintro e w' ⟨rfl, rfl⟩)
    go_ret3
    rw [E.out]
    exact ⟨_, _, 0, rfl, rfl⟩
theorem loose_any (A : Option Addr) (n c : Nat) (xs : List Int) (w : World) (ha : RB w w.heap.size A n xs) (hx : Byt xs) (hc : n ≤ c) (hn : n ≤ 1000000) :
    Calls Tryz.prog 94 #[.slice A n c] w fun e w' => e = .returned (.string (strOfNums (Sf.looseS xs))) ∧ Below w.heap.size w w' := by
  have hle := Sf.zi_le xs
  have hxl := Lib.hid ha.1
  have hle' : Sf.zi xs ≤ n := by have := hxl.out; omega
  go_enter Tryz.func94, Tryz.ntmps94
  go_wp2_with fail
  refine (cut0_any A n c w.heap.size xs _ ((ha.alloc (Nat.le_refl _) _).more (by simp)) hx (by simp [go_sem]) hc hn).mono ?_
  rintro e w1 ⟨v2, v3, k, rfl, rfl⟩
  have hconv := (((ha.alloc (Nat.le_refl _) (.cells #[.int .u8 0] 5)).pre hle').drewN k).conv c
  go_wp2
  go_ret
  exact ⟨rfl, below_drewN ((Below.refl _ _).alloc (Nat.le_refl _) _) k⟩
theorem refloose_any (A : Option Addr) (n c : Nat) (xs : List Int) (w : World) (ha : RB w w.heap.size A n xs) (hx : Byt xs) (hn : n ≤ 1000000) :
    Calls Tryz.prog 111 #[.slice A n c] w fun e w' => e = .returned (.string (strOfNums (Sf.looseS xs))) ∧ w = w' := by
  have hconv := ha.conv c
  have hle := Sf.zi_le xs
  have hxl := ha.1
  have hsz := Sf.size_strOfNums xs
  have hz := refzero_any (strOfNums xs) w (by omega)
  rw [Sf.zb_strOfNums xs hx] at hz
  have hex : (strOfNums xs).extract 0 (Sf.zi xs) = strOfNums (Sf.looseS xs) := by
    apply ByteArray.ext
    apply Array.toList_inj.1
    rw [Sf.data_strOfNums, Lib.extract_data, Sf.data_strOfNums]
    simp [Sf.looseS, List.map_take]
  have hle2 : Sf.zi xs ≤ (strOfNums xs).size := by omega
  generalize strOfNums xs = s at *
  have HZ := Lib.hid hz; have HEX := Lib.hid hex; clear hz hex hsz hxl
  go_enter Tryz.func111, Tryz.ntmps111
  go_wp2_with (go_at_call 126; (with_reducible refine HZ.out.mono ?_); rintro e w' ⟨rfl, rfl⟩)
  go_ret
  exact ⟨by rw [← HEX.out]; rfl, rfl⟩
theorem get_facts (xs : List Int) (k : Nat) (hz : Sf.zi xs ≤ k) (h1 : ∀ j, Sf.zi xs ≤ j → j < k → xs.getD j 0 = 0) : (k < xs.length → xs.getD k 0 ≠ 0 → Sf.getS xs = ([], 3)) ∧ (xs.length ≤ k → Sf.getS xs = (Sf.looseS xs, 0)) := by
  constructor
  · intro hk hx
    have : Sf.okG xs = false := by
      unfold Sf.okG
      rw [List.all_eq_false]
      refine ⟨xs.getD k 0, ?_, by simpa using hx⟩
      rw [List.mem_drop_iff_getElem]
      exact ⟨k - Sf.zi xs, by omega, by simp [List.getD, show Sf.zi xs + (k - Sf.zi xs) = k from by omega, hk]⟩
    simp [Sf.getS, this]
  · intro hk
    have : Sf.okG xs = true := by
      unfold Sf.okG
      rw [List.all_eq_true]
      intro x hx
      rw [List.mem_drop_iff_getElem] at hx
      obtain ⟨i, hi, rfl⟩ := hx
      have := h1 (Sf.zi xs + i) (by omega) (by omega)
      rw [List.getD, List.getElem?_eq_getElem (by omega)] at this
      simpa using this
    simp [Sf.getS, this]
theorem get_any2 (A : Option Addr) (n c : Nat) (xs : List Int) (w : World) (ha : RB w w.heap.size A n xs) (hx : Byt xs) (hc : n ≤ c) (hc2 : c ≤ maxLen) (hn : n ≤ 1000000) :
    Calls Tryz.prog 69 #[.slice A n c] w fun e w' => e = .returned (.tuple #[.string (strOfNums (Sf.getS xs).1), .int .i64 (Sf.getS xs).2]) ∧ Below w.heap.size w w' := by
  have hle := Sf.zi_le xs
  have hxl := ha.1
  have hsz := Sf.size_strOfNums (Sf.looseS xs)
  have hll : (Sf.looseS xs).length = Sf.zi xs := by unfold Sf.looseS; rw [List.length_take]; omega
  rw [hll] at hsz
  have hfin := get_facts xs
  have L := Lib.hid (loose_any A n c xs w ha hx hc hn)
  unfold maxLen at hc2
  generalize hS : strOfNums (Sf.looseS xs) = s at *
  generalize Sf.zi xs = z at *
  subst hsz
  have HS := Lib.hid hS; have HX := Lib.hid hxl; have HF := Lib.hid hfin; clear hS hxl hfin hll
  have hle' : s.size ≤ n := by have := HX.out; omega
  have hle2 : s.size ≤ c := by omega
  by_cases hcs : c = s.size
  · have hz : (n - s.size : Nat) = 0 := by omega
    have hF := HF.out s.size (Nat.le_refl _) (fun j h1 h2 => absurd h2 (by omega))
    have hg := hF.2 (by have := HX.out; omega)
    have HG := Lib.hid hg; clear hF hg
    have hz2 : n = s.size := by omega
    have hz3 : ¬ (0 : Int) < ((n - s.size : Nat) : Int) := by omega
    have HZ := Lib.hid hz; have HZ2 := Lib.hid hz2; clear hz hz2
    subst hcs
    go_enter Tryz.func69, Tryz.ntmps69
    go_wp2_with (go_at_call 94; (with_reducible refine L.out.mono ?_); rintro e w1 ⟨rfl, hb⟩)
    go_loop [14] (fun i => i = .int .i64 0) (fun i => 0)
    case atStart => rfl
    case round =>
      obtain rfl := hrel
      go_wp2
      go_ret2
      exact ⟨by rw [HG.out, HS.out]; rfl, hb⟩
  · go_enter Tryz.func69, Tryz.ntmps69
    go_wp2_with (go_at_call 94; (with_reducible refine L.out.mono ?_); rintro e w1 ⟨rfl, hb⟩)
    go_loop [14] (fun i => ∃ k : Nat, s.size + k ≤ n ∧ i = .int .i64 k ∧ Hid (∀ j, s.size ≤ j → j < s.size + k → xs.getD j 0 = 0)) (fun i => n - s.size - (intOf i).toNat)
    case atStart => exact ⟨0, by omega, rfl, fun j h1 h2 => absurd h2 (by omega)⟩
    case round =>
      obtain ⟨k, hk, rfl, HJ⟩ := hrel
      have hF := HF.out (s.size + k) (by omega) HJ
      by_cases hlt : s.size + k < n
      · obtain ⟨ba, oa, rfl, hba, hca⟩ := (ha.below hb).at_ hlt
        have hlt2 : (k : Int) < ((n - s.size : Nat) : Int) := by omega
        rw [show oa + (s.size + k) = oa + s.size + k from by omega] at hca
        generalize hy : xs.getD (s.size + k) 0 = y at *
        have HY := Lib.hid hy; have HFF := Lib.hid hF; clear hy hF
        by_cases h0 : y = 0
        · have g : (y != 0) = false := by simp [h0]
          have H0 := Lib.hid h0; clear h0
          go_wp2
          go_round
          case rel =>
            refine ⟨k + 1, by omega, by go_num, fun j h1 h2 => ?_⟩
            by_cases hj : j < s.size + k
            · exact HJ j h1 hj
            · rw [show j = s.size + k from by omega, HY.out, H0.out]
          case measure => simp [intOf]; omega
        · have g : (y != 0) = true := by simp [h0]
          have hg := HFF.out.1 (by have := HX.out; omega) h0
          have HG := Lib.hid hg; clear hg h0
          go_wp2
          go_ret2
          exact ⟨by rw [HG.out]; rfl, hb⟩
      · have hlt2 : ¬ (k : Int) < ((n - s.size : Nat) : Int) := by omega
        have hg := hF.2 (by have := HX.out; omega)
        have HG := Lib.hid hg; clear hg hF
        go_wp2
        go_ret2
        exact ⟨by rw [HG.out, HS.out]; rfl, hb⟩
end Go.Proofs.YtjhigkkkfkahdaaGreatDoor
