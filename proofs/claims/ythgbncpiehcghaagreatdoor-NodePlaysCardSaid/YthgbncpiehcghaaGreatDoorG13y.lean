/- WALKS OF LAYER 13, TWENTY-FIFTH PART: short, far. -/
import Derived.Test.YthgbncpiehcghaaGreatDoorG13x
namespace Go.Proofs.YthgbncpiehcghaaGreatDoor
set_option linter.unusedVariables false
open Go Go.RowKit Go.Maps
set_option maxRecDepth 100000
set_option maxHeartbeats 8000000
theorem short_any (A : Option Addr) (n k : Nat) (w : World) (hk : n ≤ k) (hm : k ≤ maxLen) :
    Calls Tryz.prog 11 #[.slice A n k] w fun e w' => e = .returned (.slice A (min n 40) k) ∧ w = w' := by
  obtain ⟨m, hmm⟩ : ∃ m : Nat, m = min n 40 := ⟨_, rfl⟩
  have e1 : min (n : Int) 40 = (m : Int) := by omega
  have e2 : m ≤ n := by omega
  rw [← hmm]
  clear hmm
  go_enter Tryz.func11, Tryz.ntmps11
  go_wp2
  go_ret
  exact ⟨rfl, rfl⟩
theorem far_any (A : Option Addr) (n k B : Nat) (l : List Sp) (w : World) (hl : SL w B A n l) (hB : B ≤ w.heap.size) (hk : n ≤ k) (hm : k ≤ maxLen) :
    Calls Tryz.prog 9 #[.slice A n k] w fun e w' => e = .returned (.bool ((l.take 40).any Sp.far)) ∧ Below w.heap.size w w' := by
  have ks := Lib.hid (short_any A n k w hk hm)
  have hM := hl.take (k := min n 40) (by omega)
  have hll := hl.1.1
  have htk : l.take (min n 40) = l.take 40 := by
    by_cases h : n ≤ 40
    · rw [List.take_of_length_le (by omega), List.take_of_length_le (by omega)]
    · rw [show min n 40 = 40 from by omega]
  rw [htk] at hM
  have hN40 : min n 40 ≤ 40 := by omega
  generalize l.take 40 = M at *
  generalize min n 40 = N at *
  have hML := hM.1.1
  have HM := Lib.hid hM
  clear hl htk hM hll
  go_enter Tryz.func9, Tryz.ntmps9
  go_wp2_with (go_at_call 11; refine ks.out.mono ?_; rintro e w1 ⟨rfl, rfl⟩)
  go_loopw [8] (fun i W => ∃ j : Nat, j ≤ N ∧ i = .int .i64 j ∧ Hid (Below w.heap.size w W) ∧ Hid ((M.take j).any Sp.far = false)) (fun i _ => N - (intOf i).toNat)
  case atStart => exact ⟨0, Nat.zero_le _, rfl, Below.refl _ _, by show _ = _; simp⟩
  case round =>
    obtain ⟨j, hj, rfl, HB, HF⟩ := hrel
    by_cases hlt : j < N
    · have hlt' : (j : Int) < N := by omega
      obtain ⟨b, o, y, rfl, hb, hy, _, hc⟩ := (HM.out.below (HB.out.mono hB)).at_ hlt
      obtain ⟨kd, p, q, ma, mb, mc, md, A', n', k', xs'⟩ := y
      have c0 : wr.cell? ⟨b, o + j * 8, none⟩ = some (.int .u8 kd) := hc 0 _ rfl
      have c1 : wr.cell? ⟨b, o + j * 8 + 1, none⟩ = some (.string p) := hc 1 _ rfl
      have c2 : wr.cell? ⟨b, o + j * 8 + 2, none⟩ = some (.string q) := hc 2 _ rfl
      have c3 : wr.cell? ⟨b, o + j * 8 + 3, none⟩ = some (.int .i64 ma) := hc 3 _ rfl
      have c4 : wr.cell? ⟨b, o + j * 8 + 4, none⟩ = some (.int .i64 mb) := hc 4 _ rfl
      have c5 : wr.cell? ⟨b, o + j * 8 + 5, none⟩ = some (.int .i64 mc) := hc 5 _ rfl
      have c6 : wr.cell? ⟨b, o + j * 8 + 6, none⟩ = some (.int .i64 md) := hc 6 _ rfl
      have c7 : wr.cell? ⟨b, o + j * 8 + 7, none⟩ = some (.slice A' n' k') := hc 7 _ rfl
      have hts : (M.take (j + 1)).any Sp.far = (decide (400 < p.size) || decide (400 < q.size) || decide (4200 < n')) := by
        rw [List.take_add_one, hy, List.any_append, HF.out]
        simp [Sp.far]
      have HT := Lib.hid hts
      have HY := Lib.hid (List.mem_of_getElem? hy)
      have HB2 := Lib.hid (HB.out.trans ((below_new wr (.cells (StC kd p q ma mb mc md A' n' k') 38)).mono HB.out.size))
      clear hc hts hy
      by_cases h1 : (400 : Int) < p.size
      · have HR : Hid (M.any Sp.far = true) := by
          show _ = _
          exact List.any_eq_true.2 ⟨_, HY.out, by rw [show Sp.far _ = (decide (400 < p.size) || decide (400 < q.size) || decide (4200 < n')) from rfl]; have k := (by omega : 400 < p.size); simp [k]⟩
        go_wp2
        go_ret
        exact ⟨by rw [HR.out]; rfl, HB2.out⟩
      · by_cases h2 : (400 : Int) < q.size
        · have HR : Hid (M.any Sp.far = true) := by
            show _ = _
            exact List.any_eq_true.2 ⟨_, HY.out, by rw [show Sp.far _ = (decide (400 < p.size) || decide (400 < q.size) || decide (4200 < n')) from rfl]; have k := (by omega : 400 < q.size); simp [k]⟩
          go_wp2
          go_ret
          exact ⟨by rw [HR.out]; rfl, HB2.out⟩
        · by_cases h3 : (4200 : Int) < n'
          · have HR : Hid (M.any Sp.far = true) := by
              show _ = _
              exact List.any_eq_true.2 ⟨_, HY.out, by rw [show Sp.far _ = (decide (400 < p.size) || decide (400 < q.size) || decide (4200 < n')) from rfl]; have k := (by omega : 4200 < n'); simp [k]⟩
            go_wp2
            go_ret
            exact ⟨by rw [HR.out]; rfl, HB2.out⟩
          · have HF2 : Hid ((M.take (j + 1)).any Sp.far = false) := by
              show _ = _
              rw [HT.out]
              have k1 : ¬ 400 < p.size := by omega
              have k2 : ¬ 400 < q.size := by omega
              have k3 : ¬ 4200 < n' := by omega
              simp [k1, k2, k3]
            go_wp2
            go_roundw
            case rel => exact ⟨j + 1, by omega, by go_num, HB2.out, HF2.out⟩
            case measure => simp [intOf]; omega
    · have hlt' : ¬ (j : Int) < N := by omega
      have e : j = N := by omega
      subst e
      have HR : Hid (M.any Sp.far = false) := by
        show _ = _
        have := HF.out
        rwa [List.take_of_length_le (by omega)] at this
      go_wp2
      go_ret
      exact ⟨by rw [HR.out]; rfl, HB.out⟩
end Go.Proofs.YthgbncpiehcghaaGreatDoor
