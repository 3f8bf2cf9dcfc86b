/- LAYER 18, the document's answers. -/
import Derived.Test.YtemkieakcnodjaaD18b
namespace Go.Proofs.Ytemkieakcnodjaa
open Go.RowKit
set_option maxHeartbeats 1600000
set_option maxRecDepth 100000
set_option linter.unusedVariables false
namespace Dl
/-- The parts of i to the power of k, as numbers. -/
def xp (k : Nat) : Int := if k = 0 then 1 else if k = 2 then -1 else 0
def yp (k : Nat) : Int := if k = 1 then 1 else if k = 3 then -1 else 0
end Dl
theorem parts_any (n : Nat) (w : World) :
    Calls Try.prog 6 #[.int .u32 n] w fun e w' => e = .returned (.tuple #[.int .i64 (Dl.xp (n % 4)), .int .i64 (Dl.yp (n % 4))]) ∧ w = w' := by
  have h := Nat.mod_lt n (by decide : 4 > 0)
  have h' : (n : Int) % 4 = ((n % 4 : Nat) : Int) := rfl
  rcases four h with h | h | h | h
  all_goals (
    rw [h] at h' ⊢
    first | rw [show Dl.xp 0 = 1 from rfl, show Dl.yp 0 = 0 from rfl] | rw [show Dl.xp 1 = 0 from rfl, show Dl.yp 1 = 1 from rfl] | rw [show Dl.xp 2 = -1 from rfl, show Dl.yp 2 = 0 from rfl] | rw [show Dl.xp 3 = 0 from rfl, show Dl.yp 3 = -1 from rfl]
    go_enter Try.func6, Try.ntmps6
    go_wp2
    go_ret2
    exact ⟨rfl, rfl⟩)
theorem refmark_any (s r : Nat) (w : World) :
    Calls Try.prog 17 #[Dl.EV s r] w fun e w' => e = .returned (.int .u8 (Dl.mark s r : Nat)) ∧ Below w.heap.size w w' := by
  have e : Hid (((s % 4 + r % 4) % 4 : Nat) = Dl.mark s r) := rfl
  go_enter Try.func17, Try.ntmps17
  go_wp2
  go_ret
  refine ⟨?_, (Below.refl _ w).alloc (Nat.le_refl _) _⟩
  rw [← e.out]
  simp
theorem refnewer_any (s r s2 r2 : Nat) (w : World) :
    Calls Try.prog 15 #[Dl.EV s r, Dl.EV s2 r2] w fun e w' => e = .returned (.bool (Dl.newer s r s2 r2)) ∧ Below w.heap.size w w' := by
  have hb : ∀ a b, Below w.heap.size w ((w.alloc a).alloc b) := fun a b => ((Below.refl _ w).alloc (Nat.le_refl _) _).alloc (by simp) _
  have HB := Lib.hid hb
  clear hb
  by_cases h : s = s2
  · subst h
    go_enter Try.func15, Try.ntmps15
    go_wp2
    all_goals (go_ret; exact ⟨by simp [Dl.newer], HB.out _ _⟩)
  · have h' : ¬ (s : Int) = s2 := by omega
    go_enter Try.func15, Try.ntmps15
    go_wp2
    all_goals (go_ret; exact ⟨by simp [Dl.newer, h], HB.out _ _⟩)
theorem refnextS_any (s r : Nat) (w : World) (hs : s ≤ 4294967295) :
    Calls Try.prog 11 #[Dl.EV s r] w fun e w' => e = .returned (.tuple #[Dl.EV (Dl.nS s r).1 (Dl.nS s r).2.1, .int .i64 (Dl.nS s r).2.2]) ∧ Below w.heap.size w w' := by
  by_cases h : s = 4294967295
  · subst h
    go_enter Try.func11, Try.ntmps11
    go_wp2
    refine bodyPost_ret (v := .tuple #[.agg #[.int .u32 0, .int .u32 0], .int .i64 10]) (by simp [results, Try.f11, go_sem]) rfl ⟨rfl, ?_⟩
    exact ((Below.refl _ w).alloc (Nat.le_refl _) _).alloc (by simp) _
  · have h' : ¬ (s : Int) = 4294967295 := by omega
    go_enter Try.func11, Try.ntmps11
    go_wp2
    refine bodyPost_ret (v := .tuple #[.agg #[.int .u32 (s + 1), .int .u32 r], .int .i64 0]) (by simp [results, Try.f11, go_sem]) rfl ⟨?_, ?_⟩
    · simp [Dl.nS, h]
    · exact ((Below.refl _ w).alloc (Nat.le_refl _) _).alloc (by simp) _
theorem refnextR_any (s r : Nat) (w : World) (hr : r ≤ 4294967295) :
    Calls Try.prog 13 #[Dl.EV s r] w fun e w' => e = .returned (.tuple #[Dl.EV (Dl.nR s r).1 (Dl.nR s r).2.1, .int .i64 (Dl.nR s r).2.2]) ∧ Below w.heap.size w w' := by
  by_cases h : r = 4294967295
  · subst h
    go_enter Try.func13, Try.ntmps13
    go_wp2
    refine bodyPost_ret (v := .tuple #[.agg #[.int .u32 0, .int .u32 0], .int .i64 10]) (by simp [results, Try.f13, go_sem]) rfl ⟨rfl, ?_⟩
    exact ((Below.refl _ w).alloc (Nat.le_refl _) _).alloc (by simp) _
  · have h' : ¬ (r : Int) = 4294967295 := by omega
    go_enter Try.func13, Try.ntmps13
    go_wp2
    refine bodyPost_ret (v := .tuple #[.agg #[.int .u32 s, .int .u32 (r + 1)], .int .i64 0]) (by simp [results, Try.f13, go_sem]) rfl ⟨?_, ?_⟩
    · simp [Dl.nR, h]
    · exact ((Below.refl _ w).alloc (Nat.le_refl _) _).alloc (by simp) _
theorem refcheck_any (s r s2 r2 m : Nat) (w : World) :
    Calls Try.prog 19 #[Dl.EV s r, Dl.EV s2 r2, .int .u8 m] w fun e w' => e = .returned (.int .i64 (Dl.chk s r s2 r2 m)) ∧ Below w.heap.size w w' := by
  have hb : ∀ a b, Below w.heap.size w ((w.alloc a).alloc b) := fun a b => ((Below.refl _ w).alloc (Nat.le_refl _) _).alloc (by simp) _
  have HB := Lib.hid hb
  clear hb
  by_cases h : s = s2
  · subst h
    by_cases h2 : r = r2
    · subst h2
      have MK := Lib.hid (refmark_any s r)
      by_cases h3 : m = Dl.mark s r
      · rw [← h3] at MK
        have HC : Hid (Dl.chk s r s r m = 0) := show _ = _ by simp [Dl.chk, h3]
        clear h3
        go_enter Try.func19, Try.ntmps19
        go_wp2_with (go_at_call 17; (with_reducible refine (MK.out _).mono ?_); rintro e w1 ⟨rfl, hb⟩; have HB1 := Lib.hid (bthen' (HB.out _ _) hb (by simp; try omega)); clear hb)
        all_goals (go_ret; exact ⟨by rw [HC.out]; rfl, HB1.out⟩)
      · have HC : Hid (Dl.chk s r s r m = 16) := show _ = _ by simp [Dl.chk, h3]
        generalize Dl.mark s r = q at *
        have h4 : ¬ (m : Int) = q := by omega
        go_enter Try.func19, Try.ntmps19
        go_wp2_with (go_at_call 17; (with_reducible refine (MK.out _).mono ?_); rintro e w1 ⟨rfl, hb⟩; have HB1 := Lib.hid (bthen' (HB.out _ _) hb (by simp; try omega)); clear hb)
        all_goals (go_ret; exact ⟨by rw [HC.out]; rfl, HB1.out⟩)
    · have h' : ¬ (r : Int) = r2 := by omega
      go_enter Try.func19, Try.ntmps19
      go_wp2
      all_goals (go_ret; exact ⟨by simp [Dl.chk, h2], HB.out _ _⟩)
  · have h' : ¬ (s : Int) = s2 := by omega
    go_enter Try.func19, Try.ntmps19
    go_wp2
    all_goals (go_ret; exact ⟨by simp [Dl.chk, h], HB.out _ _⟩)
end Go.Proofs.Ytemkieakcnodjaa
