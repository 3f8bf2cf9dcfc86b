/- WALKS OF LAYER 12, THE PROGRAM, FIRST PART: words turned; an array's element; a block widened. -/
import Derived.Test.YtfggknplekiaoaaDoorD12n
import Derived.ChangeKeysEq
import Derived.Lib.LaidTab
import Derived.Lib.AppendIntMem
namespace Go.Proofs.YtfggknplekiaoaaDoor
open Go Go.RowKit
set_option maxHeartbeats 2000000
set_option maxRecDepth 100000
set_option linter.unusedVariables false
theorem run_index_row {P : Program} {t e : TypeId} {n : Nat} {i0 : TypeInfo} {cs : Array Value} {v : Value} (ht : P.underlying t = some (.array n e)) (hk : P.plainKey e = true) (hi : P.info? e = some i0) (hc : P.cellsOf e = 1) (i : Nat) (hin : i < n) (hv : cs[i]? = some v) (w : World) :
    (Instr.index t (.agg cs) (.int .i64 (i : Int))).run P w = .ok v w := by
  have h1 := run_sizeOf (P := P) w hi
  have h2 := run_part_plain (P := P) (w := w) hk hv
  have h3 : (i : Int) < (n : Int) := by omega
  rw [hc] at h1
  simp [part, go_sem] at h2
  simp [Instr.index, asIntOf, run_underlying ht, go_sem, h1, part]
  rw [if_pos hin]
  exact h2
theorem and31 (n : Nat) (h1 : 1 ≤ n) (h2 : n ≤ 31) : bits .and .u64 ((18446744073709551616 - n : Nat) : Int) 31 = ((32 - n : Nat) : Int) := by
  have h := u64_and_nat (18446744073709551616 - n) 31 (by omega) (by omega)
  rw [show (31 : Nat) = 2 ^ 5 - 1 from rfl, Nat.and_two_pow_sub_one_eq_mod] at h
  rw [show ((2 ^ 5 - 1 : Nat) : Int) = 31 from rfl] at h
  rw [h]
  omega
theorem rotl_any (x n k : Nat) (W : World) (hx : x < 4294967296) (h1 : 1 ≤ n) (h2 : n ≤ 31) (hk : n + k = 32) :
    Calls Tryd.prog 28 #[.int .u32 x, .int .i64 (-(n : Int))] W fun e w' => e = .returned (.int .u32 (Dg.rot x n : Nat)) ∧ W = w' := by
  have wu : IntKind.u64.wrap (-(n : Int)) = ((18446744073709551616 - n : Nat) : Int) := by rw [IntKind.wrap_u64]; omega
  have ha := and31 n h1 h2
  rw [show 32 - n = k from by omega] at ha
  obtain ⟨u, hu⟩ : ∃ u, 18446744073709551616 - n = u := ⟨_, rfl⟩
  rw [hu] at wu ha
  have s1 : IntKind.u64.wrap (32 - (k : Int)) = (n : Int) := by rw [IntKind.wrap_u64]; omega
  have ro : bits .or .u32 ((x : Int) * 2 ^ k % 4294967296) ((x : Int) / 2 ^ n) = (Dg.rot x n : Nat) := by
    have e1 : (x : Int) / 2 ^ n = ((x / 2 ^ n : Nat) : Int) := by simp
    have e2 : (x : Int) * 2 ^ k % 4294967296 = ((x * 2 ^ k % 4294967296 : Nat) : Int) := by simp
    rw [e1, e2, u32_or_nat _ _ (Nat.mod_lt _ (by omega)) (Nat.lt_of_le_of_lt (Nat.div_le_self _ _) hx), Nat.or_comm]
    unfold Dg.rot
    rw [show 32 - n = k from by omega]
  have RO := Lib.hid ro
  clear hu ro
  go_enter Tryd.func28, Tryd.ntmps28
  go_wp2
  go_ret
  exact ⟨by rw [← RO.out]; simp [RO.out], rfl⟩
theorem right_any (x n : Nat) (W : World) (hx : x < 4294967296) (h1 : 1 ≤ n) (h2 : n ≤ 31) :
    Calls Tryd.prog 26 #[.int .u32 x, .int .i64 n] W fun e w' => e = .returned (.int .u32 (Dg.rot x n : Nat)) ∧ W = w' := by
  have ro := Lib.hid (fun W => rotl_any x n (32 - n) W hx h1 h2 (by omega))
  have s1 : IntKind.i64.wrap (-(n : Int)) = -(n : Int) := by rw [IntWalk.i64_in _ (by omega)]
  go_enter Tryd.func26, Tryd.ntmps26
  go_wp2_with (go_at_call 28; (with_reducible refine (ro.out _).mono ?_); rintro e w1 ⟨rfl, rfl⟩)
  go_ret
  exact ⟨rfl, rfl⟩
theorem right_lit {x n r : Nat} {z : Int} (hz : (n : Int) = z) (hr : Dg.rot x n = r) (hx : x < 4294967296) (h1 : 1 ≤ n) (h2 : n ≤ 31) (W : World) :
    Calls Tryd.prog 26 #[.int .u32 x, .int .i64 z] W fun e w' => e = .returned (.int .u32 (r : Int)) ∧ W = w' := by
  subst hz hr
  exact right_any x n W hx h1 h2
namespace Dg
def acc (b : List Int) : Nat → List Nat
  | 0 => List.replicate 64 0
  | i + 1 => (acc b i).set (i / 4) ((acc b i).getD (i / 4) 0 * 256 % 4294967296 ||| (b.getD i 0).toNat)
theorem acc_len (b : List Int) : ∀ i, (acc b i).length = 64
  | 0 => List.length_replicate
  | i + 1 => by show ((acc b i).set _ _).length = 64; rw [List.length_set]; exact acc_len b i
theorem acc_step (b : List Int) (i : Nat) : acc b (i + 1) = (acc b i).set (i / 4) ((acc b i).getD (i / 4) 0 * 256 % 4294967296 ||| (b.getD i 0).toNat) := rfl
theorem or256 (x : Nat) {y : Nat} (hy : y < 256) : x * 256 ||| y = x * 256 + y := by
  have := Nat.two_pow_add_eq_or_of_lt (i := 8) (b := y) hy x
  rw [Nat.mul_comm x 256]
  exact this.symm
theorem getD_set_self {l : List Nat} {j v : Nat} (h : j < l.length) : (l.set j v).getD j 0 = v := by
  rw [List.getD_eq_getElem?_getD, List.getElem?_set_self h]
  rfl
theorem acc_four {b : List Int} (hy : Byt b) : ∀ j, j ≤ 16 → acc b (4 * j) = wb b j
  | 0, _ => rfl
  | j + 1, h => by
    have ih := acc_four hy j (by omega)
    have hl := wb_len (b := b) (show j ≤ 64 by omega)
    have h0 : (wb b j).getD j 0 = 0 := by
      unfold wb
      rw [List.getD_eq_getElem?_getD, List.getElem?_append_right (by rw [wl_len]; exact Nat.le_refl _), wl_len, Nat.sub_self, List.getElem?_replicate]
      rw [if_pos (by omega)]
      rfl
    have y0 := hy (4 * j); have y1 := hy (4 * j + 1); have y2 := hy (4 * j + 2); have y3 := hy (4 * j + 3)
    have a1 : acc b (4 * j + 1) = (wb b j).set j (b.getD (4 * j) 0).toNat := by
      rw [acc_step, ih, show 4 * j / 4 = j from by omega, h0, Nat.zero_mul, Nat.zero_mod, Nat.zero_or]
    have a2 : acc b (4 * j + 2) = (wb b j).set j ((b.getD (4 * j) 0).toNat * 256 + (b.getD (4 * j + 1) 0).toNat) := by
      rw [acc_step, a1, show (4 * j + 1) / 4 = j from by omega, getD_set_self (by omega), List.set_set, Nat.mod_eq_of_lt (by omega), or256 _ (by omega)]
    have a3 : acc b (4 * j + 3) = (wb b j).set j (((b.getD (4 * j) 0).toNat * 256 + (b.getD (4 * j + 1) 0).toNat) * 256 + (b.getD (4 * j + 2) 0).toNat) := by
      rw [acc_step, a2, show (4 * j + 2) / 4 = j from by omega, getD_set_self (by omega), List.set_set, Nat.mod_eq_of_lt (by omega), or256 _ (by omega)]
    have a4 : acc b (4 * j + 4) = (wb b j).set j ((((b.getD (4 * j) 0).toNat * 256 + (b.getD (4 * j + 1) 0).toNat) * 256 + (b.getD (4 * j + 2) 0).toNat) * 256 + (b.getD (4 * j + 3) 0).toNat) := by
      rw [acc_step, a3, show (4 * j + 3) / 4 = j from by omega, getD_set_self (by omega), List.set_set, Nat.mod_eq_of_lt (by omega), or256 _ (by omega)]
    rw [show 4 * (j + 1) = 4 * j + 4 from by omega, a4, ← wb_set (b := b) (show j < 64 by omega), nxt_low (by omega)]
    unfold be
    congr 1
    omega
theorem acc_lt {b : List Int} (hy : Byt b) : ∀ i j, (acc b i).getD j 0 < 4294967296
  | 0, j => by
    show (List.replicate 64 0).getD j 0 < _
    rw [List.getD_eq_getElem?_getD, List.getElem?_replicate]
    split <;> decide
  | i + 1, j => by
    have y := hy i
    have ih := acc_lt hy i
    rw [acc_step, List.getD_eq_getElem?_getD, List.getElem?_set]
    split
    · split
      · exact Nat.or_lt_two_pow (n := 32) (Nat.mod_lt _ (by omega)) (by omega)
      · decide
    · rw [← List.getD_eq_getElem?_getD]; exact ih j
end Dg
end Go.Proofs.YtfggknplekiaoaaDoor
