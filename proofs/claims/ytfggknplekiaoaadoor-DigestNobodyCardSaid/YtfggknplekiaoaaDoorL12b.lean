/- THE LAW 'DigestNobody' walked. -/
import Derived.Test.YtfggknplekiaoaaDoorL12a
namespace Go.Proofs.YtfggknplekiaoaaDoor
open Go Go.RowKit
set_option maxHeartbeats 8000000
set_option maxRecDepth 100000
set_option linter.unusedVariables false
theorem digestnobody_walk (A : Option Addr) (n c : Nat) (xs : List Int) (w : World) (kt : KT w) (ht : HT w) (ha : RB w w.heap.size A n xs) (hx : Byt xs) (hc : n ≤ c) (hc2 : c ≤ maxLen) :
    Calls Tryd.prog 5 #[.slice A n c] w fun e w' => e = .returned (.bool true) ∧ Below w.heap.size w w' := by
  have AL := Lib.hid fun (W : World) (hW : Below w.heap.size w W) => alive12_any W (kt.on hW) (ht.on hW)
  by_cases hn : n ≤ 500
  · have hn' : ¬ (500 : Int) < n := by omega
    obtain ⟨Z0, hZ0⟩ : ∃ Z0, (scs false (List.replicate 8 0) (List.replicate 64 0) 0).toArray = Z0 := ⟨_, rfl⟩
    have hz1 : Z0[0]? = some (.bool false) := by rw [← hZ0]; rfl
    have HZ1 := Lib.hid hz1
    have eqz : ∀ W : World, (Op.equalIn 10000 25 (.agg #[.int .u8 0, .int .u8 0, .int .u8 0, .int .u8 0, .int .u8 0, .int .u8 0, .int .u8 0, .int .u8 0, .int .u8 0, .int .u8 0, .int .u8 0, .int .u8 0, .int .u8 0, .int .u8 0, .int .u8 0, .int .u8 0, .int .u8 0, .int .u8 0, .int .u8 0, .int .u8 0, .int .u8 0, .int .u8 0, .int .u8 0, .int .u8 0, .int .u8 0, .int .u8 0, .int .u8 0, .int .u8 0, .int .u8 0, .int .u8 0, .int .u8 0, .int .u8 0]) (.agg #[.int .u8 0, .int .u8 0, .int .u8 0, .int .u8 0, .int .u8 0, .int .u8 0, .int .u8 0, .int .u8 0, .int .u8 0, .int .u8 0, .int .u8 0, .int .u8 0, .int .u8 0, .int .u8 0, .int .u8 0, .int .u8 0, .int .u8 0, .int .u8 0, .int .u8 0, .int .u8 0, .int .u8 0, .int .u8 0, .int .u8 0, .int .u8 0, .int .u8 0, .int .u8 0, .int .u8 0, .int .u8 0, .int .u8 0, .int .u8 0, .int .u8 0, .int .u8 0])).run Tryd.prog W = .ok true W := eq_sum (List.replicate 32 0) rfl
    have hg25 : Tryd.prog.eqGuardType Tryd.prog.depth 25 = false := by kernel_rfl
    have HZ0 := Lib.hid hZ0
    clear ha hx kt ht hz1 hZ0
    go_enter Tryd.func5, Tryd.ntmps5
    go_upto_region 3 with (fail)
    refine wp_region_lit ?_
    refine wpList_build_to rfl 43 #[] rfl Z0 (by rw [← HZ0.out]; kernel_rfl) ?_
    try simp only [Act.put, List.setIfInBounds_toArray, List.set_cons_zero, List.set_cons_succ]
    refine wpList_plain rfl (fun K hK => ?_)
    go_simp
    refine hK _ _ ?_
    clear hK K
    refine wpList_plain rfl (fun K hK => ?_)
    go_simp
    refine hK _ _ ?_
    clear hK K
    have hb0 : Below w.heap.size w ((w.alloc (.cells Z0 43)).alloc (.cells #[.pointer none, .pointer (some ⟨w.heap.size, 0, none⟩)] 30)) := ((Below.refl _ w).alloc (Nat.le_refl _) _).alloc (by simp) _
    have hq0 : BX ((w.alloc (.cells Z0 43)).alloc (.cells #[.pointer none, .pointer (some ⟨w.heap.size, 0, none⟩)] 30)) w.heap.size 43 Z0 := BX.alloc (BX.new w 43 Z0) _
    have hq1 : BX ((w.alloc (.cells Z0 43)).alloc (.cells #[.pointer none, .pointer (some ⟨w.heap.size, 0, none⟩)] 30)) (w.heap.size + 1) 30 #[.pointer none, .pointer (some ⟨w.heap.size, 0, none⟩)] := by
      have := BX.new (w.alloc (.cells Z0 43)) 30 #[.pointer none, .pointer (some ⟨w.heap.size, 0, none⟩)]
      simp only [World.size_alloc] at this
      exact this
    generalize (w.alloc (.cells Z0 43)).alloc (.cells #[.pointer none, .pointer (some ⟨w.heap.size, 0, none⟩)] 30) = W0 at *
    have PTS := Lib.hid (show ∀ i : Nat, i < 2 → ∃ p : Option Addr, (∀ W, Below W0.heap.size W0 W → W.cell? ⟨w.heap.size + 1, i, none⟩ = some (.pointer p)) ∧ ∀ W, Below W0.heap.size W0 W → Nob W p from fun i hi => by
      rcases (by omega : i = 0 ∨ i = 1) with rfl | rfl
      · exact ⟨none, fun W hb => (hq1.later hb).cell rfl, fun W hb => .inl rfl⟩
      · exact ⟨_, fun W hb => (hq1.later hb).cell rfl, fun W hb => .inr ⟨w.heap.size, rfl, (hq0.later hb).cell HZ1.out⟩⟩)
    have B0 := Lib.hid hb0
    clear hb0 hq0 hq1 HZ1 HZ0
    refine wpList_plain rfl (fun K hK => ?_)
    go_simp
    refine hK _ _ ?_
    clear hK K
    refine wpList_plain rfl (fun K hK => ?_)
    go_simp
    refine hK _ _ ?_
    clear hK K
    refine wpList_nil ?_
    go_wp2
    go_loopw [13] (fun v wr => ∃ i : Nat, i ≤ 2 ∧ v = .int .i64 i ∧ Below W0.heap.size W0 wr) (fun v _ => 2 - (intOf v).toNat)
    case atStart => exact ⟨0, by omega, rfl, Below.refl _ _⟩
    case round =>
      obtain ⟨i, hi, rfl, hacc⟩ := hrel
      by_cases hlt : i < 2
      · obtain ⟨p, hp, hn⟩ := PTS.out i hlt
        have cp := hp _ hacc
        have NB := Lib.hid hn
        have i2 : (i : Int) < 2 := by omega
        have WN := Lib.hid (fun W (hb : Below W0.heap.size W0 W) => write_nob p A n c W (hn W hb))
        have SN := Lib.hid (show ∀ W, Below W0.heap.size W0 W → Calls Tryd.prog 11 #[.pointer p] W fun e w' => e = .returned (.agg #[.int .u8 0, .int .u8 0, .int .u8 0, .int .u8 0, .int .u8 0, .int .u8 0, .int .u8 0, .int .u8 0, .int .u8 0, .int .u8 0, .int .u8 0, .int .u8 0, .int .u8 0, .int .u8 0, .int .u8 0, .int .u8 0, .int .u8 0, .int .u8 0, .int .u8 0, .int .u8 0, .int .u8 0, .int .u8 0, .int .u8 0, .int .u8 0, .int .u8 0, .int .u8 0, .int .u8 0, .int .u8 0, .int .u8 0, .int .u8 0, .int .u8 0, .int .u8 0]) ∧ Below W.heap.size W w' from fun W hb => sum_nob p W (hn W hb))
        have LN := Lib.hid (fun W (hb : Below W0.heap.size W0 W) => len_nob p W (hn W hb))
        have CN := Lib.hid (fun W (hb : Below W0.heap.size W0 W) => clone_nob p W (hn W hb))
        clear hp hn
        go_wp2_with (first
          | (go_at_call 10; (with_reducible refine (WN.out _ hacc).mono ?_); rintro e w3 ⟨rfl, rfl⟩)
          | (go_at_call 11; (with_reducible refine (SN.out _ hacc).mono ?_); rintro e w3 ⟨rfl, hb3⟩; replace hacc := bthen hacc hb3; clear hb3)
          | (go_at_call 12; (with_reducible refine (LN.out _ hacc).mono ?_); rintro e w3 ⟨rfl, rfl⟩)
          | (go_at_call 13; (with_reducible refine (CN.out _ hacc).mono ?_); rintro e w3 ⟨rfl, rfl⟩))
        go_roundw
        case rel => exact ⟨i + 1, by omega, by go_num, hacc⟩
        case measure => simp [intOf]; omega
      · have e : i = 2 := by omega
        subst e
        rw [show ((2 : Nat) : Int) = 2 from rfl]
        replace hacc := bthen B0.out hacc
        go_wp2_with (go_at_call 6; (with_reducible refine (AL.out _ hacc).mono ?_); rintro e w3 ⟨rfl, hb3⟩; replace hacc := bthen hacc hb3; clear hb3)
        go_ret
        exact ⟨rfl, hacc⟩
  · have hn' : (500 : Int) < n := by omega
    have hacc : Below w.heap.size w w := Below.refl _ _
    clear ha hx
    go_enter Tryd.func5, Tryd.ntmps5
    go_wp2_with (go_at_call 6; (with_reducible refine (AL.out _ hacc).mono ?_); rintro e w3 ⟨rfl, hb3⟩; replace hacc := bthen hacc hb3; clear hb3)
    go_ret
    exact ⟨rfl, hacc⟩
end Go.Proofs.YtfggknplekiaoaaDoor
