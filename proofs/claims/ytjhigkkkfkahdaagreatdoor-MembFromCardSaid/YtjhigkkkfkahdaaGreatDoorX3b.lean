/- WALKS OF LAYER 3, SECOND PART: the reference's Sum, Told, Check. -/
import Derived.Test.YtjhigkkkfkahdaaGreatDoorX3a
import Derived.Test.YtjhigkkkfkahdaaGreatDoorW4
namespace Go.Proofs.YtjhigkkkfkahdaaGreatDoor
open Go.RowKit
set_option maxHeartbeats 400000
set_option maxRecDepth 100000
/- THE REFERENCE'S SUM, AND WHAT A BLOCK TELLS. -/
theorem refsum_any (A : Option Addr) (n c : Nat) (xs : List Int) (w : World) (ha : RB w w.heap.size A n xs) (hx : Byt xs) (hn : n ≤ 1000000) :
    Calls Tryz.prog 132 #[.slice A n c] w fun e w' => e = .returned (.int .i64 (Hs.psum xs n)) ∧ w = w' := by
  have hxl := ha.1
  have hbd := Hs.psum_bd xs hx
  have hst : ∀ k, Hs.psum xs (k + 1) = Hs.psum xs k + (if 148 ≤ k ∧ k < 156 then 32 else xs.getD k 0) := fun k => rfl
  have HBD := Lib.hid hbd; have HST := Lib.hid hst; have HXL := Lib.hid hxl; clear hbd hst hxl
  go_enter Tryz.func132, Tryz.ntmps132
  go_wp2_with fail
  go_loop [3, 4] (fun v i => ∃ k : Nat, k ≤ n ∧ i = .int .i64 k ∧ v = .int .i64 (Hs.psum xs k)) (fun _ i => n - (intOf i).toNat)
  case atStart => exact ⟨0, by omega, rfl, rfl⟩
  case round =>
    obtain ⟨k, hk, rfl, rfl⟩ := hrel
    have hb := HBD.out k
    have hs := HST.out k
    by_cases hlt : k < n
    · obtain ⟨b, o, rfl, _, hc⟩ := ha.at_ hlt
      have hxk := hx k
      have hkN : k + 1 ≤ n := by omega
      generalize xs.getD k 0 = y at *
      generalize Hs.psum xs k = m at *
      generalize hm' : Hs.psum xs (k + 1) = m' at *
      have HM := Lib.hid hm'; clear hm'
      by_cases h1 : 148 ≤ k
      · by_cases h2 : k < 156
        · rw [if_pos ⟨h1, h2⟩] at hs
          have HSS := Lib.hid hs; clear hs
          go_wp2
          go_round
          case rel => exact ⟨k + 1, hkN, by go_num, by rw [HM.out, HSS.out]⟩
          case measure => simp [intOf]; omega
        · rw [if_neg (by omega)] at hs
          have HSS := Lib.hid hs; clear hs
          go_wp2
          go_round
          case rel => exact ⟨k + 1, hkN, by go_num, by rw [HM.out, HSS.out]⟩
          case measure => simp [intOf]; omega
      · rw [if_neg (by omega)] at hs
        have HSS := Lib.hid hs; clear hs
        go_wp2
        go_round
        case rel => exact ⟨k + 1, hkN, by go_num, by rw [HM.out, HSS.out]⟩
        case measure => simp [intOf]; omega
    · have e : k = n := by omega
      subst e
      go_wp2
      go_ret
      exact ⟨rfl, rfl⟩
end Go.Proofs.YtjhigkkkfkahdaaGreatDoor
