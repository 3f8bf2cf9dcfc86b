/- LAYER 19, frame, fourth part: a field laid. gen_p19d.py -/
import Derived.Test.YtjiafpmcibokbaaP19c
import Derived.Test.YtjiafpmcibokbaaR19f
namespace Go.Proofs.Ytjiafpmcibokbaa
open Go Go.RowKit
set_option maxHeartbeats 2000000
set_option maxRecDepth 100000
set_option linter.unusedVariables false
attribute [-go_sem] loadCellsFrom storeCells Instr.build
attribute [local go_sem] storeCells_one storeCells_two loadCells_two
namespace Fm
/-- A frame's field, laid. -/
def layF (x : Int) (f : Fr) : List Int :=
  if x = 0 then num 8 f.off else if x = 1 then num 8 f.tot else if x = 2 then f.sum else if x = 3 then f.xs else if x = 4 then rgs f.rs else [f.cd]
end Fm
/-- What a field's laying gives. -/
def LG (x : Int) (f : Fm.Fr) (base n : Nat) (xs : List Int) (w : World) (e : Ending) (w' : World) : Prop :=
  ∃ v', e = .returned v' ∧ OBn w' base 5 v' (n + (Fm.layF x f).length) (xs ++ Fm.layF x f) ∧ Below base w w' ∧ KU w w'
section
variable {f : Fm.Fr} {w : World} {base n : Nat} {v : Value} {xs : List Int}
theorem lay0_any19 (hl : f.ln) (ho : OBn w base 5 v n xs) (hb : base ≤ w.heap.size) (hn : n ≤ 700000) (hv : f.off < 18446744073709551616) :
    Calls Try.prog 25 #[.int .i64 0, v, .agg (Fm.FC f)] w (LG 0 f base n xs w) := by
  have bF := BX.new w 42 (Fm.FC f)
  have hq := FB.of bF hl
  have HO := Lib.hid (ho.alloc (.cells (Fm.FC f) 42))
  have HB := Lib.hid ((Below.refl base w).alloc hb (.cells (Fm.FC f) 42))
  have HK := Lib.hid ((KU.refl w).alloc (.cells (Fm.FC f) 42))
  have HS := Lib.hid (show base ≤ (w.alloc (.cells (Fm.FC f) 42)).heap.size from Nat.le_trans hb HB.out.size)
  have cc := hq.c19
  have LN := Lib.hid (laynumber_any19 base v n 8 xs f.off _ HO.out HS.out hv (by omega) (by omega))
  clear bF hq
  have e8 : (((8 : Nat) : Int)) = 8 := rfl
  rw [e8] at LN
  generalize hz : f.off = z at *
  have HZ := Lib.hid hz
  clear hz e8
  go_enter Try.func25, Try.ntmps25
  go_wp2_with (go_at_call 44; (with_reducible refine LN.out.mono ?_); rintro e w1 ⟨v1, rfl, ho1, hb1, hk1⟩; have HO1 := Lib.hid ho1; have HB1 := Lib.hid (And.intro (HB.out.trans hb1) (HK.out.trans hk1)); clear ho1 hb1 hk1)
  go_ret
  have e : Fm.layF 0 f = Fm.num 8 z := by rw [← HZ.out]; rfl
  exact ⟨v1, rfl, by rw [e, Fm.num_len]; exact HO1.out, HB1.out.1, HB1.out.2⟩
theorem lay1_any19 (hl : f.ln) (ho : OBn w base 5 v n xs) (hb : base ≤ w.heap.size) (hn : n ≤ 700000) (hv : f.tot < 18446744073709551616) :
    Calls Try.prog 25 #[.int .i64 1, v, .agg (Fm.FC f)] w (LG 1 f base n xs w) := by
  have bF := BX.new w 42 (Fm.FC f)
  have hq := FB.of bF hl
  have HO := Lib.hid (ho.alloc (.cells (Fm.FC f) 42))
  have HB := Lib.hid ((Below.refl base w).alloc hb (.cells (Fm.FC f) 42))
  have HK := Lib.hid ((KU.refl w).alloc (.cells (Fm.FC f) 42))
  have HS := Lib.hid (show base ≤ (w.alloc (.cells (Fm.FC f) 42)).heap.size from Nat.le_trans hb HB.out.size)
  have cc := hq.c20
  have LN := Lib.hid (laynumber_any19 base v n 8 xs f.tot _ HO.out HS.out hv (by omega) (by omega))
  clear bF hq
  have e8 : (((8 : Nat) : Int)) = 8 := rfl
  rw [e8] at LN
  generalize hz : f.tot = z at *
  have HZ := Lib.hid hz
  clear hz e8
  go_enter Try.func25, Try.ntmps25
  go_wp2_with (go_at_call 44; (with_reducible refine LN.out.mono ?_); rintro e w1 ⟨v1, rfl, ho1, hb1, hk1⟩; have HO1 := Lib.hid ho1; have HB1 := Lib.hid (And.intro (HB.out.trans hb1) (HK.out.trans hk1)); clear ho1 hb1 hk1)
  go_ret
  have e : Fm.layF 1 f = Fm.num 8 z := by rw [← HZ.out]; rfl
  exact ⟨v1, rfl, by rw [e, Fm.num_len]; exact HO1.out, HB1.out.1, HB1.out.2⟩
theorem lay2_any19 (hl : f.ln) (ho : OBn w base 5 v n xs) (hb : base ≤ w.heap.size) (hn : n ≤ 700000) :
    Calls Try.prog 25 #[.int .i64 2, v, .agg (Fm.FC f)] w (LG 2 f base n xs w) := by
  have bF := BX.new w 42 (Fm.FC f)
  have hq := FB.of bF hl
  have HO := Lib.hid (ho.alloc (.cells (Fm.FC f) 42))
  have HB := Lib.hid ((Below.refl base w).alloc hb (.cells (Fm.FC f) 42))
  have HK := Lib.hid ((KU.refl w).alloc (.cells (Fm.FC f) 42))
  have HS := Lib.hid (show base ≤ (w.alloc (.cells (Fm.FC f) 42)).heap.size from Nat.le_trans hb HB.out.size)
  have RB1 := Lib.hid (rb_sum bF hl (by rw [World.size_alloc]; exact Nat.lt_succ_self _) : RB _ (w.alloc (.cells (Fm.FC f) 42)).heap.size _ _ _)
  obtain ⟨v1, w1, hrun, ho1, hb1, hk1⟩ := app_ku19 (c := 32) HO.out RB1.out (by omega) HS.out
  have HR := Lib.hid hrun
  have HO1 := Lib.hid ho1
  have HB1 := Lib.hid (And.intro (HB.out.trans hb1) (HK.out.trans hk1))
  have HL := Lib.hid (show f.sum.length = 32 from RB1.out.1)
  clear hq hrun ho1 hb1 hk1 RB1
  go_enter Try.func25, Try.ntmps25
  go_wp2_with (at_builtin; refine Lib.wpList_append_run _ rfl _ _ 28 28 rfl _ _ rfl rfl _ _ HR.out ?_)
  go_ret
  exact ⟨v1, rfl, by show OBn _ _ _ _ (n + f.sum.length) (xs ++ f.sum); rw [HL.out]; exact HO1.out, HB1.out.1, HB1.out.2⟩
theorem lay3_any19 (hl : f.ln) (ho : OBn w base 5 v n xs) (hb : base ≤ w.heap.size) (hn : n ≤ 700000) (hr : RB w base f.A f.n f.xs) (hfn : f.n ≤ 200000) :
    Calls Try.prog 25 #[.int .i64 3, v, .agg (Fm.FC f)] w (LG 3 f base n xs w) := by
  have bF := BX.new w 42 (Fm.FC f)
  have hq := FB.of bF hl
  have HO := Lib.hid (ho.alloc (.cells (Fm.FC f) 42))
  have HB := Lib.hid ((Below.refl base w).alloc hb (.cells (Fm.FC f) 42))
  have HK := Lib.hid ((KU.refl w).alloc (.cells (Fm.FC f) 42))
  have HS := Lib.hid (show base ≤ (w.alloc (.cells (Fm.FC f) 42)).heap.size from Nat.le_trans hb HB.out.size)
  have cc := hq.c53
  have RB1 := Lib.hid ((hr.below HB.out).more HS.out)
  obtain ⟨v1, w1, hrun, ho1, hb1, hk1⟩ := app_ku19 (c := f.c) HO.out RB1.out (by omega) HS.out
  have HR := Lib.hid hrun
  have HO1 := Lib.hid ho1
  have HB1 := Lib.hid (And.intro (HB.out.trans hb1) (HK.out.trans hk1))
  have HL := Lib.hid (show f.xs.length = f.n from RB1.out.1)
  clear hq hrun ho1 hb1 hk1 RB1 hr
  obtain ⟨Y, hY⟩ : ∃ Y, Fm.layF 3 f = Y := ⟨_, rfl⟩
  have EY := Lib.hid (show f.xs = Y from hY)
  generalize f.A = fA at *
  generalize f.n = fn at *
  generalize f.c = fc at *
  go_enter Try.func25, Try.ntmps25
  go_wp2_with (at_builtin; refine Lib.wpList_append_run _ rfl _ _ 28 28 rfl _ _ rfl rfl _ _ HR.out ?_)
  go_ret
  exact ⟨v1, rfl, by show OBn _ _ _ _ (n + f.xs.length) (xs ++ f.xs); rw [HL.out]; exact HO1.out, HB1.out.1, HB1.out.2⟩
theorem lay5_any19 (hl : f.ln) (ho : OBn w base 5 v n xs) (hb : base ≤ w.heap.size) (hn : n ≤ 700000) (hc : 0 ≤ f.cd ∧ f.cd ≤ 255) :
    Calls Try.prog 25 #[.int .i64 5, v, .agg (Fm.FC f)] w (LG 5 f base n xs w) := by
  have bF := BX.new w 42 (Fm.FC f)
  have hq := FB.of bF hl
  have HO := Lib.hid (ho.alloc (.cells (Fm.FC f) 42))
  have HB := Lib.hid ((Below.refl base w).alloc hb (.cells (Fm.FC f) 42))
  have HK := Lib.hid ((KU.refl w).alloc (.cells (Fm.FC f) 42))
  have HS := Lib.hid (show base ≤ (w.alloc (.cells (Fm.FC f) 42)).heap.size from Nat.le_trans hb HB.out.size)
  have cc := hq.c55
  obtain ⟨z, hz⟩ : ∃ z, f.cd = z := ⟨_, rfl⟩
  rw [hz] at cc hc
  have HZ := Lib.hid hz
  have u1 : IntKind.u8.wrap z = z := by rw [IntKind.wrap_u8]; omega
  have HOX := Lib.hid (HO.out.alloc (.cells #[.int .u8 z] 5))
  have HBX := Lib.hid (HB.out.alloc HS.out (.cells #[.int .u8 z] 5))
  have RB1 := Lib.hid (rb_row (w.alloc (.cells (Fm.FC f) 42)) 5 [z] 1 rfl)
  obtain ⟨v1, w1, hrun, ho1, hb1, hk1⟩ := app_ku19 (c := 1) HOX.out (by rw [World.size_alloc]; exact RB1.out) (by omega) (Nat.le_trans hb HBX.out.size)
  rw [World.size_alloc] at hrun
  have HR := Lib.hid hrun
  have HO1 := Lib.hid ho1
  have HB1 := Lib.hid (And.intro (HBX.out.trans hb1) ((HK.out.alloc _).trans hk1))
  clear bF hq hrun ho1 hb1 hk1 RB1 HOX HBX hz
  go_enter Try.func25, Try.ntmps25
  go_wp2_with (at_builtin; refine Lib.wpList_append_run _ rfl _ _ 28 28 rfl _ _ rfl rfl _ _ HR.out ?_)
  go_ret
  exact ⟨v1, rfl, by show OBn _ _ _ _ (n + 1) (xs ++ [f.cd]); rw [HZ.out]; exact HO1.out, HB1.out.1, HB1.out.2⟩
theorem lay4_any19 (hl : f.ln) (ho : OBn w base 5 v n xs) (hb : base ≤ w.heap.size) (hn : n ≤ 700000) (hr : RG w base f.RA f.m f.rs) (hm : f.m ≤ 10000) :
    Calls Try.prog 25 #[.int .i64 4, v, .agg (Fm.FC f)] w (LG 4 f base n xs w) := by
  have bF := BX.new w 42 (Fm.FC f)
  have hq := FB.of bF hl
  have HO := Lib.hid (ho.alloc (.cells (Fm.FC f) 42))
  have HB := Lib.hid ((Below.refl base w).alloc hb (.cells (Fm.FC f) 42))
  have HK := Lib.hid ((KU.refl w).alloc (.cells (Fm.FC f) 42))
  have HS := Lib.hid (show base ≤ (w.alloc (.cells (Fm.FC f) 42)).heap.size from Nat.le_trans hb HB.out.size)
  have cc := hq.c54
  obtain ⟨Y, hY⟩ : ∃ Y, f.rs = Y := ⟨_, rfl⟩
  have EY := Lib.hid (show Fm.layF 4 f = Fm.rgs Y by rw [← hY]; rfl)
  have HRL := Lib.hid (show Y.length = f.m by rw [← hY]; exact hr.1.1)
  rw [hY] at hr
  clear bF hq hY
  generalize f.RA = RA at *
  generalize f.m = m at *
  generalize f.rc = rc at *
  go_enter Try.func25, Try.ntmps25
  go_wp2
  go_loopw [1, 39] (fun v i W => ∃ j : Nat, j ≤ m ∧ i = .int .i64 j ∧ Hid (OBn W base 5 v (n + 16 * j) (xs ++ Fm.rgs (Y.take j))) ∧ Hid (Below base w W ∧ KU w W)) (fun _ i _ => m - (intOf i).toNat)
  case atStart => exact ⟨0, Nat.zero_le _, rfl, by show OBn _ _ _ _ _ _; have := HO.out; simpa [Fm.rgs] using this, HB.out, HK.out⟩
  case round =>
    obtain ⟨j, hj, rfl, HOJ, HBJ⟩ := hrel
    by_cases hlt : j < m
    · have hlt' : (j : Int) < m := by omega
      obtain ⟨b, oo, p, rfl, hbB, hp, p1, p2, hc1, hc2⟩ := (hr.below HBJ.out.1).at_ hlt
      obtain ⟨x, y⟩ := p
      simp only at hc1 hc2 p1 p2
      have TK := Lib.hid (show Y.take (j + 1) = Y.take j ++ [(x, y)] by rw [List.take_add_one, hp]; rfl)
      clear hp cc
      have WR0 := Lib.hid (show base ≤ wr.heap.size from Nat.le_trans hb HBJ.out.1.size)
      have HBK := Lib.hid (HBJ.out.1.alloc WR0.out (.cells #[.int .u64 x, .int .u64 y] 64))
      have BQ := Lib.hid (BX.new wr 64 #[.int .u64 x, .int .u64 y])
      have LN1 := Lib.hid (laynumber_any19 base _ (n + 16 * j) 8 _ x _ (HOJ.out.alloc (.cells #[.int .u64 x, .int .u64 y] 64)) (Nat.le_trans WR0.out (by simp)) p1 (by omega) (by omega))
      have LN2 := Lib.hid (fun v2 w2 (h2 : OBn w2 base 5 v2 (n + 16 * j + 8) (xs ++ Fm.rgs (Y.take j) ++ Fm.num 8 x)) (h3 : Below base w w2) => laynumber_any19 base v2 _ 8 _ y w2 h2 (Nat.le_trans hb h3.size) p2 (by omega) (by omega))
      have e8 : (((8 : Nat) : Int)) = 8 := rfl
      rw [e8] at LN1
      simp only [e8] at LN2
      clear e8
      go_wp2_with (first
        | (go_at_call 44; (with_reducible refine LN1.out.mono ?_); rintro e w1 ⟨v1, rfl, ho1, hb1, hk1⟩; have HO1 := Lib.hid ho1; have HB1 := Lib.hid (And.intro (HBK.out.trans hb1) ((HBJ.out.2.alloc (.cells #[.int .u64 x, .int .u64 y] 64)).trans hk1)); have d2 := (hk1 _ _ _ (by decide) BQ.out).cell (j := 1) rfl; clear ho1 hb1 hk1)
        | (go_at_call 44; (with_reducible refine (LN2.out _ _ HO1.out HB1.out.1).mono ?_); rintro e w2 ⟨v2, rfl, ho2, hb2, hk2⟩; have HO2 := Lib.hid ho2; have HB2 := Lib.hid (And.intro (HB1.out.1.trans hb2) (HB1.out.2.trans hk2)); clear ho2 hb2 hk2))
      go_roundw
      case rel => exact ⟨j + 1, by omega, by go_num, by show OBn _ _ _ _ _ _; rw [TK.out, Fm.rgs_app]; have := HO2.out; simpa [Nat.mul_add, Nat.add_assoc, List.append_assoc] using this, HB2.out⟩
      case measure => simp [intOf]; omega
    · obtain rfl : j = m := by omega
      have hw := HOJ.out
      rw [List.take_of_length_le (by rw [HRL.out]; exact Nat.le_refl _)] at hw
      have HW := Lib.hid hw
      clear hw
      go_wp2
      go_ret
      exact ⟨_, rfl, by rw [EY.out, Fm.rgs_len, HRL.out]; exact HW.out, HBJ.out.1, HBJ.out.2⟩
end
end Go.Proofs.Ytjiafpmcibokbaa
