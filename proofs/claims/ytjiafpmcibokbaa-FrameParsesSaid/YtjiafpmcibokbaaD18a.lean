/- LAYER 18, dial: the four quarters in memory and as numbers; Turn, Quarter. -/
import Derived.Test.YtjiafpmcibokbaaBase
import Derived.Test.YtjiafpmcibokbaaChecked
import Derived.Laws.ComplexArith
import Derived.Deep.RegionHeld3
namespace Go.Proofs.Ytjiafpmcibokbaa
open Go.RowKit
set_option maxHeartbeats 1600000
set_option maxRecDepth 100000
set_option linter.unusedVariables false
theorem run_store_complex' (P : Program) (w : World) (a : Addr) (m : Mode) (k : FloatKind) (x y : Nat) : (store a (.complex k x y) m).run P w = stored P w a (.complex k x y) m := run_store P w a _ m rfl
attribute [go_sem] run_store_complex'
namespace Dl
/-- The bits of 1.0, and of -1.0. -/
def p1 : Nat := 4607182418800017408
def m1 : Nat := 13830554455654793216
/-- The parts' bits of i to the power of k. -/
def re (k : Nat) : Nat := if k = 0 then 4607182418800017408 else if k = 2 then 13830554455654793216 else 0
def im (k : Nat) : Nat := if k = 1 then 4607182418800017408 else if k = 3 then 13830554455654793216 else 0
/-- Is a + bi the quarter k? -/
def hit (a b k : Nat) : Bool := (FloatKind.f64.format.order a (re k) == some .eq) && (FloatKind.f64.format.order b (im k) == some .eq)
/-- Which quarter a + bi is, and whether it is one. -/
def quo (a b : Nat) : Int := if hit a b 0 then 0 else if hit a b 1 then 1 else if hit a b 2 then 2 else if hit a b 3 then 3 else 0
def isq (a b : Nat) : Bool := hit a b 0 || hit a b 1 || hit a b 2 || hit a b 3
end Dl
theorem bthen' {B : Nat} {a b c : World} (h : Below B a b) (k : Below b.heap.size b c) (hB : B ≤ a.heap.size := by exact Nat.le_refl _) : Below B a c := h.trans (k.mono (Nat.le_trans hB h.size))
theorem quarters_any (w : World) :
    Calls Try.prog 56 #[] w fun e w' => e = .returned (.agg #[.complex .f64 4607182418800017408 0, .complex .f64 0 4607182418800017408, .complex .f64 13830554455654793216 0, .complex .f64 0 13830554455654793216]) ∧ Below w.heap.size w w' := by
  go_enter Try.func56, Try.ntmps56
  go_wp2
  refine bodyPost_ret (v := .agg #[.complex .f64 4607182418800017408 0, .complex .f64 0 4607182418800017408, .complex .f64 13830554455654793216 0, .complex .f64 0 13830554455654793216]) (by simp [results, Try.f56, go_sem]) rfl ⟨rfl, ?_⟩
  exact (Below.refl _ w).alloc (Nat.le_refl _) _
theorem run_index_cx {P : Program} {t e : TypeId} {n : Nat} {i0 : TypeInfo} {k : FloatKind} {cs : Array Value} {v : Value} (ht : P.underlying t = some (.array n e)) (hk : P.underlying e = some (.complex k)) (hi : P.info? e = some i0) (hc : P.cellsOf e = 1) (i : Nat) (hin : i < n) (hv : cs[i]? = some v) (w : World) :
    (Instr.index t (.agg cs) (.int .i64 (i : Int))).run P w = .ok v w := by
  have h1 := run_sizeOf (P := P) w hi
  have h2 : (part e cs i).run P w = .ok v w := by simp [part, isAgg, run_underlying hk, hv]
  have h3 : (i : Int) < (n : Int) := by omega
  rw [hc] at h1
  simp [part, go_sem] at h2
  simp [Instr.index, asIntOf, run_underlying ht, go_sem, h1, part]
  rw [if_pos hin]
  exact h2
theorem four {j : Nat} (h : j < 4) : j = 0 ∨ j = 1 ∨ j = 2 ∨ j = 3 := by omega
theorem turn_any (k : Nat) (w : World) :
    Calls Try.prog 53 #[.int .u32 k] w fun e w' => e = .returned (.complex .f64 (Dl.re (k % 4)) (Dl.im (k % 4))) ∧ Below w.heap.size w w' := by
  have qs := Lib.hid (quarters_any)
  have hx : [Value.complex FloatKind.f64 4607182418800017408 0, Value.complex FloatKind.f64 0 4607182418800017408, Value.complex FloatKind.f64 13830554455654793216 0, Value.complex FloatKind.f64 0 13830554455654793216][k % 4]? = some (.complex .f64 (Dl.re (k % 4)) (Dl.im (k % 4))) := by
    have h := Nat.mod_lt k (by decide : 4 > 0)
    generalize k % 4 = j at h ⊢
    rcases four h with rfl | rfl | rfl | rfl <;> rfl
  go_enter Try.func53, Try.ntmps53
  go_wp2_with (go_at_call 56; (with_reducible refine (qs.out _).mono ?_); rintro e w1 ⟨rfl, hb1⟩; have HB1 := Lib.hid hb1; clear hb1)
  go_ret
  exact ⟨rfl, HB1.out.alloc HB1.out.size _⟩
theorem quarter_any (a b : Nat) (w : World) :
    Calls Try.prog 52 #[.complex .f64 a b] w fun e w' => e = .returned (.tuple #[.int .i64 (Dl.quo a b), .bool (Dl.isq a b)]) ∧ Below w.heap.size w w' := by
  have qs := Lib.hid (quarters_any)
  obtain ⟨i0, hi⟩ : ∃ i0, Try.prog.info? 100 = some i0 := ⟨_, rfl⟩
  have ix := fun (j : Nat) (v : Value) (h : j < 4) (hv) (W : World) => run_index_cx (cs := #[Value.complex FloatKind.f64 4607182418800017408 0, Value.complex FloatKind.f64 0 4607182418800017408, Value.complex FloatKind.f64 13830554455654793216 0, Value.complex FloatKind.f64 0 13830554455654793216]) (v := v) Try.underlying106 Try.underlying100 hi (by kernel_rfl) j h hv W
  have ix0 : ∀ W, (Instr.index 106 (.agg #[Value.complex FloatKind.f64 4607182418800017408 0, Value.complex FloatKind.f64 0 4607182418800017408, Value.complex FloatKind.f64 13830554455654793216 0, Value.complex FloatKind.f64 0 13830554455654793216]) (.int .i64 0)).run Try.prog W = .ok (.complex .f64 4607182418800017408 0) W := ix 0 _ (by omega) rfl
  have ix1 : ∀ W, (Instr.index 106 (.agg #[Value.complex FloatKind.f64 4607182418800017408 0, Value.complex FloatKind.f64 0 4607182418800017408, Value.complex FloatKind.f64 13830554455654793216 0, Value.complex FloatKind.f64 0 13830554455654793216]) (.int .i64 1)).run Try.prog W = .ok (.complex .f64 0 4607182418800017408) W := ix 1 _ (by omega) rfl
  have ix2 : ∀ W, (Instr.index 106 (.agg #[Value.complex FloatKind.f64 4607182418800017408 0, Value.complex FloatKind.f64 0 4607182418800017408, Value.complex FloatKind.f64 13830554455654793216 0, Value.complex FloatKind.f64 0 13830554455654793216]) (.int .i64 2)).run Try.prog W = .ok (.complex .f64 13830554455654793216 0) W := ix 2 _ (by omega) rfl
  have ix3 : ∀ W, (Instr.index 106 (.agg #[Value.complex FloatKind.f64 4607182418800017408 0, Value.complex FloatKind.f64 0 4607182418800017408, Value.complex FloatKind.f64 13830554455654793216 0, Value.complex FloatKind.f64 0 13830554455654793216]) (.int .i64 3)).run Try.prog W = .ok (.complex .f64 0 13830554455654793216) W := ix 3 _ (by omega) rfl
  clear ix hi
  go_enter Try.func52, Try.ntmps52
  go_wp2_with (go_at_call 56; (with_reducible refine (qs.out _).mono ?_); rintro e w1 ⟨rfl, hb1⟩; have HB1 := Lib.hid hb1; clear hb1)
  go_loop [7] (fun i => ∃ j : Nat, j ≤ 4 ∧ i = .int .i64 j ∧ Hid (∀ k, k < j → Dl.hit a b k = false)) (fun i => 4 - (intOf i).toNat)
  case atStart => exact ⟨0, by omega, rfl, fun k hk => by omega⟩
  case round =>
    obtain ⟨j, hj, rfl, hn⟩ := hrel
    have hj' : j = 0 ∨ j = 1 ∨ j = 2 ∨ j = 3 ∨ j = 4 := by omega
    rcases hj' with rfl | rfl | rfl | rfl | rfl
    · cases hh : (FloatKind.f64.format.order a 4607182418800017408 == some .eq) && (FloatKind.f64.format.order b 0 == some .eq)
      · have HH : Hid (Dl.hit a b 0 = false) := hh
        go_wp2
        go_round
        case rel => exact ⟨1, by omega, rfl, fun k hk => by
          by_cases h : k = 0
          · subst h; exact HH.out
          · exact hn.out k (by omega)⟩
        case measure => simp [intOf]
      · have HH : Hid (Dl.hit a b 0 = true) := hh
        go_wp2
        go_ret2
        refine ⟨?_, HB1.out⟩
        simp [Dl.quo, Dl.isq, HH.out]
    · cases hh : (FloatKind.f64.format.order a 0 == some .eq) && (FloatKind.f64.format.order b 4607182418800017408 == some .eq)
      · have HH : Hid (Dl.hit a b 1 = false) := hh
        go_wp2
        go_round
        case rel => exact ⟨2, by omega, rfl, fun k hk => by
          by_cases h : k = 1
          · subst h; exact HH.out
          · exact hn.out k (by omega)⟩
        case measure => simp [intOf]
      · have HH : Hid (Dl.hit a b 1 = true) := hh
        go_wp2
        go_ret2
        refine ⟨?_, HB1.out⟩
        simp [Dl.quo, Dl.isq, HH.out, hn.out 0 (by omega)]
    · cases hh : (FloatKind.f64.format.order a 13830554455654793216 == some .eq) && (FloatKind.f64.format.order b 0 == some .eq)
      · have HH : Hid (Dl.hit a b 2 = false) := hh
        go_wp2
        go_round
        case rel => exact ⟨3, by omega, rfl, fun k hk => by
          by_cases h : k = 2
          · subst h; exact HH.out
          · exact hn.out k (by omega)⟩
        case measure => simp [intOf]
      · have HH : Hid (Dl.hit a b 2 = true) := hh
        go_wp2
        go_ret2
        refine ⟨?_, HB1.out⟩
        simp [Dl.quo, Dl.isq, HH.out, hn.out 0 (by omega), hn.out 1 (by omega)]
    · cases hh : (FloatKind.f64.format.order a 0 == some .eq) && (FloatKind.f64.format.order b 13830554455654793216 == some .eq)
      · have HH : Hid (Dl.hit a b 3 = false) := hh
        go_wp2
        go_round
        case rel => exact ⟨4, by omega, rfl, fun k hk => by
          by_cases h : k = 3
          · subst h; exact HH.out
          · exact hn.out k (by omega)⟩
        case measure => simp [intOf]
      · have HH : Hid (Dl.hit a b 3 = true) := hh
        go_wp2
        go_ret2
        refine ⟨?_, HB1.out⟩
        simp [Dl.quo, Dl.isq, HH.out, hn.out 0 (by omega), hn.out 1 (by omega), hn.out 2 (by omega)]
    · go_wp2
      go_ret2
      refine ⟨?_, HB1.out⟩
      simp [Dl.quo, Dl.isq, hn.out 0 (by omega), hn.out 1 (by omega), hn.out 2 (by omega), hn.out 3 (by omega)]
end Go.Proofs.Ytjiafpmcibokbaa
