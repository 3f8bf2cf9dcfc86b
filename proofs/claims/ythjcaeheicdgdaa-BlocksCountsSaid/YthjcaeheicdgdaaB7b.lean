/- WALKS OF LAYER 7, SECOND PART: what is there; a copy; filled up; opened; clean; the end; and the reference's. -/
import Derived.Test.YthjcaeheicdgdaaB7a
import Derived.Test.YthjcaeheicdgdaaAp
namespace Go.Proofs.Ythjcaeheicdgdaa
open Go.RowKit
set_option maxHeartbeats 400000
set_option maxRecDepth 100000
set_option linter.unusedVariables false
namespace Bk
/-- What 'has' answers: whether so many bytes have all blocks that z of them need. -/
def err (n : Nat) (z : Int) : Int := if z < 0 then 1 else if ((n / 512 : Nat) : Int) < cnt z then 4 else 0
/-- Filled up. -/
def fill (xs : List Int) : List Int := xs ++ List.replicate (pad xs.length).toNat 0
/-- The bytes that were filled up. -/
def open_ (xs : List Int) (z : Int) : List Int := if err xs.length z = 0 then xs.take z.toNat else []
/-- Whether what fills up is 0. -/
def clean (xs : List Int) (z : Int) : Bool := err xs.length z == 0 && (List.range (pad z).toNat).all fun j => xs.getD (z.toNat + j) 0 == 0
theorem err_arg {n : Nat} {z : Int} (h : z < 0) : err n z = 1 := if_pos h
theorem err_end {n : Nat} {z : Int} (h : 0 ≤ z) (k : ((n / 512 : Nat) : Int) < cnt z) : err n z = 4 := by unfold err; rw [if_neg (by omega), if_pos k]
theorem err_ok {n : Nat} {z : Int} (h : 0 ≤ z) (k : ¬ ((n / 512 : Nat) : Int) < cnt z) : err n z = 0 := by unfold err; rw [if_neg (by omega), if_neg k]
theorem err_three (n : Nat) (z : Int) : err n z = 0 ∨ err n z = 1 ∨ err n z = 4 := by unfold err; split <;> (try split) <;> simp
/-- Where it is there: how many there are. -/
theorem err_zero {n : Nat} {z : Int} (h : err n z = 0) : 0 ≤ z ∧ z + pad z ≤ n := by
  unfold err at h
  split at h
  · cases h
  · split at h
    · cases h
    · have := pad_cnt (n := z) (by omega)
      omega
theorem clean_err {xs : List Int} {z : Int} (h : err xs.length z ≠ 0) : clean xs z = false := by unfold clean; simp [h]
theorem clean_bad {xs : List Int} {z : Int} {j : Nat} (hj : (j : Int) < pad z) (h : xs.getD (z.toNat + j) 0 ≠ 0) : clean xs z = false := by
  unfold clean
  rw [Bool.and_eq_false_iff]
  right
  rw [List.all_eq_false]
  exact ⟨j, List.mem_range.2 (by omega), by simpa using h⟩
theorem clean_yes {xs : List Int} {z : Int} (h0 : err xs.length z = 0) (h : ∀ j : Nat, (j : Int) < pad z → xs.getD (z.toNat + j) 0 = 0) : clean xs z = true := by
  unfold clean
  rw [Bool.and_eq_true]
  refine ⟨by simp [h0], List.all_eq_true.2 fun j hj => ?_⟩
  have := List.mem_range.1 hj
  exact beq_iff_eq.2 (h j (by omega))
end Bk
theorem has_any (A : Option Addr) (n c : Nat) (z : Int) (w : World) (hn : n ≤ 1000000) (h0 : -9223372036854775808 ≤ z) (h1 : z ≤ 9223372036854775807) :
    Calls Try.prog 19 #[.slice A n c, .int .i64 z] w fun e w' => e = .returned (.int .i64 (Bk.err n z)) ∧ w = w' := by
  by_cases h : z < 0
  · have E := Lib.hid (Bk.err_arg (n := n) h)
    go_enter Try.func19, Try.ntmps19
    go_wp2
    go_ret
    exact ⟨ret_int E.out.symm, rfl⟩
  · have K := Lib.hid (count_any z w h0 h1)
    have t1 := Bk.td (n := (n : Int)) (by omega)
    obtain ⟨m, hm⟩ : ∃ m : Nat, n / 512 = m := ⟨_, rfl⟩
    rw [show (n : Int) / 512 = (m : Int) from by omega] at t1
    have t2 : IntKind.i64.wrap (m : Int) = m := IntWalk.i64_in _ (by omega)
    have EA := fun k => Lib.hid (Bk.err_end (n := n) (z := z) (by omega) k)
    have EB := fun k => Lib.hid (Bk.err_ok (n := n) (z := z) (by omega) k)
    rw [hm] at EA EB
    clear hm
    generalize Bk.cnt z = q at *
    by_cases k : (m : Int) < q
    · have E := EA k
      clear EA EB
      go_enter Try.func19, Try.ntmps19
      go_wp2_with (go_at_call 8; (with_reducible refine K.out.mono ?_); rintro e w' ⟨rfl, rfl⟩)
      go_ret
      exact ⟨ret_int E.out.symm, rfl⟩
    · have E := EB k
      clear EA EB
      go_enter Try.func19, Try.ntmps19
      go_wp2_with (go_at_call 8; (with_reducible refine K.out.mono ?_); rintro e w' ⟨rfl, rfl⟩)
      go_ret
      exact ⟨ret_int E.out.symm, rfl⟩
theorem bclone_any (A : Option Addr) (n c : Nat) (xs : List Int) (w : World) (ha : RB w w.heap.size A n xs) (hn : n ≤ 1000000) :
    Calls Try.prog 20 #[.slice A n c] w fun e w' => ∃ v, e = .returned v ∧ OBn w' w.heap.size 5 v n xs ∧ Below w.heap.size w w' := by
  obtain ⟨i0, hi, hz0, hz1, hz2⟩ := info_parts info_u8
  have q22 : ∀ (w : World) (a : Option Addr) (n c n' c' : Nat), (binOp .eql 26 (.slice a n c) (.slice none n' c')).run Try.prog w = .ok (.bool a.isNone) w := fun w a n c n' c' => Lib.run_eql_slice_nil w _ _ a n c n' c' Try.underlying26
  cases A with
  | none =>
    have h0 : n = 0 := by
      rcases Nat.eq_zero_or_pos n with h | h
      · exact h
      · obtain ⟨_, _, e, _⟩ := ha.2 h
        cases e
    have hx := ha.none0 h0
    subst hx h0
    clear ha
    go_enter Try.func20, Try.ntmps20
    go_wp2
    go_ret
    exact ⟨_, rfl, World.ownsRow_nil _ _ _ _, Below.refl _ _⟩
  | some a =>
    have hal : RB (w.alloc (.cells #[] 5)) w.heap.size (some a) n xs := ha.alloc (Nat.le_refl _) _
    have HAL := Lib.hid hal
    clear hal ha
    go_enter Try.func20, Try.ntmps20
    go_wp2_with (at_builtin; obtain ⟨v', w1, hrun, hown, hgrow⟩ := run_append_rb (P := Try.prog) w.heap.size w.heap.size 26 26 5 i0 Try.underlying26 hi hz0 hz1 hz2 _ 0 [] (World.ownsRow_made w #[] 0 (Nat.le_refl _) (Nat.zero_le _) rfl) (some a) n c xs HAL.out (by omega) (by simp); refine Lib.wpList_append_run _ rfl _ _ 26 26 rfl _ _ rfl rfl _ _ hrun ?_)
    go_ret
    refine ⟨v', rfl, by simpa using hown, ?_⟩
    exact ((Below.refl _ w).alloc (Nat.le_refl _) _).grown hgrow (by simp) (by intro k hk; simp [Value.ownBlock] at hk; omega)
end Go.Proofs.Ythjcaeheicdgdaa
