/- WALKS OF LAYER 11 (check), FIRST PART: the register behind a byte, and the reference's. -/
import Derived.Test.YtjiafpmcibokbaaCm
import Derived.Test.YtjiafpmcibokbaaOb
import Derived.Test.YtjiafpmcibokbaaM11
namespace Go.Proofs.Ytjiafpmcibokbaa
open Go.RowKit
set_option maxHeartbeats 400000
set_option maxRecDepth 100000
set_option linter.unusedVariables false
namespace Ck
theorem and_even {R : Nat} (h : R < 4294967296) (k : R % 2 = 0) : bits .and .u32 (R : Int) 1 = 0 := by
  have := u32_and_nat R 1 h (by omega)
  rw [Nat.and_one_is_mod, k] at this
  exact this
theorem and_odd {R : Nat} (h : R < 4294967296) (k : R % 2 = 1) : bits .and .u32 (R : Int) 1 = 1 := by
  have := u32_and_nat R 1 h (by omega)
  rw [Nat.and_one_is_mod, k] at this
  exact this
theorem xor_turn {R : Nat} (h : R < 4294967296) (k : R % 2 = 1) : bits .xor .u32 ((R : Int) / 2) 3988292384 = (T R : Nat) := by
  rw [T_odd k, show (R : Int) / 2 = ((R / 2 : Nat) : Int) from by omega]
  exact u32_xor_nat (R / 2) 3988292384 (by omega) (by omega)
theorem it_lt' {k r : Nat} (h : r < 4294967296) : it k r < 4294967296 := it_lt k h
end Ck
theorem step_any (r c : Nat) (w : World) (hr : r < 4294967296) (hc : c < 256) :
    Calls Try.prog 57 #[.int .u32 r, .int .u8 c] w fun e w' => e = .returned (.int .u32 (Ck.step r c : Nat)) ∧ w = w' := by
  have f0 : bits .xor .u32 (r : Int) (c : Int) = ((r ^^^ c : Nat) : Int) := u32_xor_nat r c hr (by omega)
  have f1 : IntKind.u32.wrap (c : Int) = c := by rw [IntKind.wrap_u32']; omega
  have hx : r ^^^ c < 4294967296 := Nat.xor_lt_two_pow (n := 32) (by omega) (by omega)
  have E : Hid (Ck.step r c = Ck.it 8 (r ^^^ c)) := rfl
  generalize r ^^^ c = s at *
  generalize Ck.step r c = q at *
  go_enter Try.func57, Try.ntmps57
  go_wp2
  go_loop [0, 10] (fun i v => ∃ k : Nat, k ≤ 8 ∧ i = .int .u32 (Ck.it k s : Nat) ∧ v = .int .i64 k) (fun i v => 8 - (intOf v).toNat)
  case atStart => exact ⟨0, by omega, rfl, rfl⟩
  case round =>
    obtain ⟨k, hk, rfl, rfl⟩ := hrel
    have hl : Ck.it k s < 4294967296 := Ck.it_lt k hx
    have hs := Ck.it_snoc k s
    have HS := Lib.hid hs
    clear hs
    by_cases hlt : k < 8
    · generalize Ck.it k s = R at *
      rcases Nat.mod_two_eq_zero_or_one R with h2 | h2
      · have a1 := Ck.and_even hl h2
        have t1 := Lib.hid (Ck.T_even h2)
        clear h2
        go_wp2
        go_round
        case rel => exact ⟨k + 1, by omega, by rw [HS.out, t1.out]; go_num, by go_num⟩
        case measure => simp [intOf]; omega
      · have a1 := Ck.and_odd hl h2
        have a2 := Ck.xor_turn hl h2
        have t1 := Lib.hid h2
        clear h2
        go_wp2
        go_round
        case rel => exact ⟨k + 1, by omega, by rw [HS.out], by go_num⟩
        case measure => simp [intOf]; omega
    · have e : k = 8 := by omega
      subst e
      go_wp2
      go_ret
      exact ⟨by rw [E.out]; rfl, rfl⟩
theorem refstep_any (r c : Nat) (w : World) (hr : r < 4294967296) (hc : c < 256) :
    Calls Try.prog 50 #[.int .u32 r, .int .u8 c] w fun e w' => e = .returned (.int .u32 (Ck.step r c : Nat)) ∧ w = w' := by
  have f0 : bits .xor .u32 (r : Int) (c : Int) = ((r ^^^ c : Nat) : Int) := u32_xor_nat r c hr (by omega)
  have f1 : IntKind.u32.wrap (c : Int) = c := by rw [IntKind.wrap_u32']; omega
  have hx : r ^^^ c < 4294967296 := Nat.xor_lt_two_pow (n := 32) (by omega) (by omega)
  have E : Hid (Ck.step r c = Ck.it 8 (r ^^^ c)) := rfl
  generalize r ^^^ c = s at *
  generalize Ck.step r c = q at *
  go_enter Try.func50, Try.ntmps50
  go_wp2
  go_loop [0, 5] (fun i v => ∃ k : Nat, k ≤ 8 ∧ i = .int .u32 (Ck.it k s : Nat) ∧ v = .int .i64 k) (fun i v => 8 - (intOf v).toNat)
  case atStart => exact ⟨0, by omega, rfl, rfl⟩
  case round =>
    obtain ⟨k, hk, rfl, rfl⟩ := hrel
    have hl : Ck.it k s < 4294967296 := Ck.it_lt k hx
    have hs := Ck.it_snoc k s
    have HS := Lib.hid hs
    clear hs
    by_cases hlt : k < 8
    · generalize Ck.it k s = R at *
      rcases Nat.mod_two_eq_zero_or_one R with h2 | h2
      · have a1 : ((R : Int) % 2 == 1) = false := by simp; omega
        have t1 := Lib.hid (Ck.T_even h2)
        clear h2
        go_wp2
        go_round
        case rel => exact ⟨k + 1, by omega, by rw [HS.out, t1.out]; go_num, by go_num⟩
        case measure => simp [intOf]; omega
      · have a1 : ((R : Int) % 2 == 1) = true := by simp; omega
        have a2 := Ck.xor_turn hl h2
        have t1 := Lib.hid h2
        clear h2
        go_wp2
        go_round
        case rel => exact ⟨k + 1, by omega, by rw [HS.out], by go_num⟩
        case measure => simp [intOf]; omega
    · have e : k = 8 := by omega
      subst e
      go_wp2
      go_ret
      exact ⟨by rw [E.out]; rfl, rfl⟩
end Go.Proofs.Ytjiafpmcibokbaa
