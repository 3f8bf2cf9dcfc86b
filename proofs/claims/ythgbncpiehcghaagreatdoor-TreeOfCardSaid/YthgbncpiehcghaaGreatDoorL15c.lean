/- THE LAW 'TreeOf': a tree's list, under any root, is the document's. -/
import Derived.Test.YthgbncpiehcghaaGreatDoorG15o
import Derived.Test.YthgbncpiehcghaaGreatDoorGw2
import Derived.Test.YthgbncpiehcghaaGreatDoorGd1
import Derived.Test.YthgbncpiehcghaaGreatDoorR15b
namespace Go.Proofs.YthgbncpiehcghaaGreatDoor
set_option linter.unusedVariables false
open Go Go.RowKit Go.Maps
set_option maxRecDepth 100000
set_option maxHeartbeats 8000000
open Nt (Tr Nd WF Ps Path at_ cnt used txt Mm Dd)
theorem dif_same2 : ∀ l : List Mm, (dif l l).2 = false
  | [] => rfl
  | x :: l => by
    unfold dif
    rw [if_pos (by simp [sm])]
    exact dif_same2 l
theorem treeof_walk (A : Option Addr) (n c : Nat) (l : List Dd) (root : ByteArray) (w : World) (hl : QL w w.heap.size A n l) (hc : n ≤ c) (hc2 : c ≤ maxLen) (hy : ∀ y ∈ l, DdOk y) (hs0 : root.size ≤ maxLen) :
    Calls Tryz.prog 5 #[.slice A n c, .string root] w fun e w' => e = .returned (.bool true) ∧ Below w.heap.size w w' := by
  have AL := Lib.hid (fun W => alive15_any W)
  have KG := Lib.hid (lgrown_any A n c l w hl hc hc2 hy)
  clear hl hc hc2 hy hs0
  go_enter Tryz.func5, Tryz.ntmps5
  go_upto_region 2 with (go_at_call 34; (with_reducible refine KG.out.mono ?_); rintro e w1 ⟨tb, T, K, A1, n1, c1, A2, n2, c2, ok, rfl, ha, hK, ht, hm, hb⟩; have HA := Lib.hid ha; have HT := Lib.hid ht; have HM := Lib.hid hm; have HBk := Lib.hid hb; clear ha ht hm hb)
  have hx0 := BX.new w1 29 (RvC A1 n1 c1 A2 n2 c2 T.room T.vol)
  obtain ⟨V0, hV0⟩ : ∃ V, w1.alloc (.cells (RvC A1 n1 c1 A2 n2 c2 T.room T.vol) 29) = V := ⟨_, rfl⟩
  have hb0 := below_new w1 (.cells (RvC A1 n1 c1 A2 n2 c2 T.room T.vol) 29)
  rw [hV0] at hb0 hx0 ⊢
  have HA0 := Lib.hid (HA.out.later hb0)
  have HT0 := Lib.hid (HT.out.below hb0)
  have HX0 := Lib.hid hx0
  clear hb0 hV0 HA HT hx0
  cases ok with
  | false =>
    go_wp2_with (go_at_call 35; (with_reducible refine (AL.out _).mono ?_); rintro e w3 ⟨rfl, hb3⟩; have HB3 := Lib.hid (bthen HA0.out.low hb3); clear hb3)
    go_ret
    exact ⟨rfl, HB3.out⟩
  | true =>
    by_cases hr4 : 400 < root.size
    · have g4 : (400 : Int) < root.size := by omega
      go_wp2_with (go_at_call 35; (with_reducible refine (AL.out _).mono ?_); rintro e w3 ⟨rfl, hb3⟩; have HB3 := Lib.hid (bthen HA0.out.low hb3); clear hb3)
      go_ret
      exact ⟨rfl, HB3.out⟩
    have g4 : ¬ (400 : Int) < root.size := by omega
    have hx1 := BX.new V0 9 #[.string root, .string ⟨#[]⟩]
    have hb1 := below_new V0 (.cells #[.string root, .string ⟨#[]⟩] 9)
    obtain ⟨V1, hV1⟩ : ∃ V, V0.alloc (.cells #[.string root, .string ⟨#[]⟩] 9) = V := ⟨_, rfl⟩
    rw [hV1] at hb1 hx1
    have HA1 := Lib.hid (HA0.out.later hb1)
    have HT1 := Lib.hid (HT0.out.below hb1)
    have HX1 := Lib.hid (HX0.out.later hb1)
    have HXR := Lib.hid hx1
    clear hb1 hx1 HA0 HT0 HX0
    go_wp2
    go_loopw [31] (fun i W => ∃ j : Nat, j ≤ 2 ∧ i = .int .i64 j ∧ Hid (Below V1.heap.size V1 W)) (fun i _ => 2 - (intOf i).toNat)
    case atStart => exact ⟨0, by omega, rfl, Below.refl _ _⟩
    case round =>
      obtain ⟨j, hj, rfl, HB⟩ := hrel
      by_cases hlt : j < 2
      · have hlt' : (j : Int) < 2 := by omega
        obtain ⟨p, hpc, hps⟩ : ∃ p : ByteArray, wr.cell? ⟨V0.heap.size, j, none⟩ = some (.string p) ∧ p.size ≤ 400 := by
          have h1 := HXR.out.later HB.out
          match j, hlt with
          | 0, _ => exact ⟨root, h1.cell rfl, by omega⟩
          | 1, _ => exact ⟨⟨#[]⟩, h1.cell rfl, by decide⟩
        have KO := Lib.hid (at_of (HA1.out.later HB.out) (by omega) HM.out HBk.out p (by omega))
        have KR := Lib.hid (fun W (h : Below V1.heap.size V1 W) => refof_any (HT1.out.below h) HA1.out.wf (by omega) T.room T.vol p (by omega))
        have XS := Lib.hid (fun W (h : Below V1.heap.size V1 W) => HX1.out.later h)
        have hlen := ofL_len HA1.out.wf p
        go_upto_region 9 with (first
          | (go_at_call 36; (with_reducible refine KO.out.mono ?_); rintro e w4 ⟨B1, d1, L1, rfl, hL1, hmr1, hlc1, hlm1, hb4⟩; have hb4v := bthen HB.out hb4; have hxx := XS.out _ hb4v; have x0 := hxx.cell (j := 0) rfl; have x1 := hxx.cell (j := 1) rfl; have x2 := hxx.cell (j := 2) rfl; have x3 := hxx.cell (j := 3) rfl)
          | (go_at_call 37; (with_reducible refine (KR.out _ hb4v).mono ?_); rintro e w5 ⟨B2, d2, L2, rfl, hL2, hmr2, hb5⟩; have HL2 := Lib.hid hL2; clear hL2))
        have hL2 := HL2.out
        have hn1 : L1.length ≤ 100000 := by
          have h1 := congrArg List.length hL1
          rw [List.length_map, List.length_map] at h1
          omega
        have hn2 : L2.length = L1.length := by
          have h1 := congrArg List.length hL1
          rw [List.length_map, List.length_map] at h1
          rw [hL2, h1]
        have KA := Lib.hid (lall_any B2 L2.length d2 L2 w5 hmr2 (by omega))
        have hb1y := byt_er hL1 (ofL_byt HBk.out p)
        have hb2y : ∀ x ∈ L2, Byt x.2.xs := by rw [hL2]; exact ofL_byt HBk.out p
        have hdif : (dif L1 L2).2 = false := by
          rw [hL2, dif_er hL1 rfl]
          exact dif_same2 _
        have KS := fun A' c' W (h : Below w5.heap.size w5 W) (hr : MRowW W A' L2.length L2) => tsame_any B1 L1.length d1 A' L2.length c' L1 L2 W ((hmr1.weak.below hb5).below h) hr (by omega) (by omega) hb1y hb2y
        rw [hdif, hn2] at KS
        rw [hn2] at KA ⊢
        have KS := Lib.hid KS
        have HBX := Lib.hid (bthen hb4v hb5)
        generalize L1.length = N at *
        clear hL1 hL2 hmr1 hmr2 hb1y hb2y hdif
        generalize Nt.ofE T p = z at *
        have gz : (z != z) = false := by simp
        have gN : (((N : Nat) : Int) != ((N : Nat) : Int)) = false := by simp
        go_wp2_with (first
          | (go_at_call 39; (with_reducible refine KA.out.mono ?_); rintro e w6 ⟨A6, c6, rfl, hr6, hb6⟩)
          | (go_at_call 38; (with_reducible refine (KS.out A6 c6 _ hb6 hr6).mono ?_); rintro e w7 ⟨rfl, hb7⟩; have HB7 := Lib.hid (bthen (bthen HBX.out hb6) hb7)))
        go_roundw
        case rel => exact ⟨j + 1, by omega, by go_num, HB7.out⟩
        case measure => simp [intOf]; omega
      · have hlt' : ¬ (j : Int) < 2 := by omega
        go_wp2_with (go_at_call 35; (with_reducible refine (AL.out _).mono ?_); rintro e w3 ⟨rfl, hb3⟩; have HB3 := Lib.hid (bthen HB.out hb3); clear hb3)
        go_ret
        exact ⟨rfl, HA1.out.low.trans (HB3.out.mono HA1.out.low.size)⟩
end Go.Proofs.YthgbncpiehcghaaGreatDoor
