/- LAYER 18, dial: Mark, Newer, the next ones, Check. -/
import Derived.Test.YtemkieakcnodjaaD18a
namespace Go.Proofs.Ytemkieakcnodjaa
open Go.RowKit
set_option maxHeartbeats 1600000
set_option maxRecDepth 100000
set_option linter.unusedVariables false
namespace Dl
/-- An epoch's value. -/
abbrev EV (s r : Nat) : Value := .agg #[.int .u32 (s : Int), .int .u32 (r : Int)]
def mark (s r : Nat) : Nat := (s % 4 + r % 4) % 4
def newer (s r s2 r2 : Nat) : Bool := if s = s2 then decide (r2 < r) else decide (s2 < s)
def nS (s r : Nat) : Nat × Nat × Int := if s = 4294967295 then (0, 0, 10) else (s + 1, r, 0)
def nR (s r : Nat) : Nat × Nat × Int := if r = 4294967295 then (0, 0, 10) else (s, r + 1, 0)
def chk (s r s2 r2 m : Nat) : Int := if s = s2 ∧ r = r2 ∧ m = mark s r then 0 else 16
theorem mul_all : ∀ k : Fin 4, ∀ l : Fin 4, (match cMulBits (re k) (im k) (re l) (im l) with | some (x, y) => quo x y == (((k + l) % 4 : Nat) : Int) && isq x y | none => false) = true := by decide +kernel
theorem mul_of (k l : Nat) (hk : k < 4) (hl : l < 4) : ∃ x y, cMulBits (re k) (im k) (re l) (im l) = some (x, y) ∧ quo x y = ((k + l) % 4 : Nat) := by
  have h := mul_all ⟨k, hk⟩ ⟨l, hl⟩
  simp only at h
  cases e : cMulBits (re k) (im k) (re l) (im l) with
  | none => simp [e] at h
  | some p =>
    simp [e] at h
    exact ⟨p.1, p.2, rfl, by simpa using h.1⟩
end Dl
theorem nextS_any (s r : Nat) (w : World) (hs : s ≤ 4294967295) :
    Calls Try.prog 10 #[Dl.EV s r] w fun e w' => e = .returned (.tuple #[Dl.EV (Dl.nS s r).1 (Dl.nS s r).2.1, .int .i64 (Dl.nS s r).2.2]) ∧ Below w.heap.size w w' := by
  by_cases h : s = 4294967295
  · subst h
    go_enter Try.func10, Try.ntmps10
    go_wp2
    refine bodyPost_ret (v := .tuple #[.agg #[.int .u32 0, .int .u32 0], .int .i64 10]) (by simp [results, Try.f10, go_sem]) rfl ⟨rfl, ?_⟩
    exact ((Below.refl _ w).alloc (Nat.le_refl _) _).alloc (by simp) _
  · have h' : ¬ (s : Int) = 4294967295 := by omega
    go_enter Try.func10, Try.ntmps10
    go_wp2
    refine bodyPost_ret (v := .tuple #[.agg #[.int .u32 (s + 1), .int .u32 r], .int .i64 0]) (by simp [results, Try.f10, go_sem]) rfl ⟨?_, ?_⟩
    · simp [Dl.nS, h]
    · exact ((Below.refl _ w).alloc (Nat.le_refl _) _).alloc (by simp) _
theorem nextR_any (s r : Nat) (w : World) (hr : r ≤ 4294967295) :
    Calls Try.prog 12 #[Dl.EV s r] w fun e w' => e = .returned (.tuple #[Dl.EV (Dl.nR s r).1 (Dl.nR s r).2.1, .int .i64 (Dl.nR s r).2.2]) ∧ Below w.heap.size w w' := by
  by_cases h : r = 4294967295
  · subst h
    go_enter Try.func12, Try.ntmps12
    go_wp2
    refine bodyPost_ret (v := .tuple #[.agg #[.int .u32 0, .int .u32 0], .int .i64 10]) (by simp [results, Try.f12, go_sem]) rfl ⟨rfl, ?_⟩
    exact ((Below.refl _ w).alloc (Nat.le_refl _) _).alloc (by simp) _
  · have h' : ¬ (r : Int) = 4294967295 := by omega
    go_enter Try.func12, Try.ntmps12
    go_wp2
    refine bodyPost_ret (v := .tuple #[.agg #[.int .u32 s, .int .u32 (r + 1)], .int .i64 0]) (by simp [results, Try.f12, go_sem]) rfl ⟨?_, ?_⟩
    · simp [Dl.nR, h]
    · exact ((Below.refl _ w).alloc (Nat.le_refl _) _).alloc (by simp) _
theorem newer_any (s r s2 r2 : Nat) (w : World) :
    Calls Try.prog 14 #[Dl.EV s r, Dl.EV s2 r2] w fun e w' => e = .returned (.bool (Dl.newer s r s2 r2)) ∧ Below w.heap.size w w' := by
  have hb : ∀ a b, Below w.heap.size w ((w.alloc a).alloc b) := fun a b => ((Below.refl _ w).alloc (Nat.le_refl _) _).alloc (by simp) _
  have HB := Lib.hid hb
  clear hb
  by_cases h : s = s2
  · subst h
    go_enter Try.func14, Try.ntmps14
    go_wp2
    all_goals (go_ret; exact ⟨by simp [Dl.newer], HB.out _ _⟩)
  · have h' : ¬ (s : Int) = s2 := by omega
    go_enter Try.func14, Try.ntmps14
    go_wp2
    all_goals (go_ret; exact ⟨by simp [Dl.newer, h] <;> omega, HB.out _ _⟩)
theorem mark_any (s r : Nat) (w : World) :
    Calls Try.prog 16 #[Dl.EV s r] w fun e w' => e = .returned (.int .u8 (Dl.mark s r : Nat)) ∧ Below w.heap.size w w' := by
  have TS := Lib.hid (turn_any s)
  have TR := Lib.hid (turn_any r)
  obtain ⟨x, y, h1, h2⟩ := Dl.mul_of (s % 4) (r % 4) (Nat.mod_lt _ (by decide)) (Nat.mod_lt _ (by decide))
  have hop := fun t W => run_complex_mul (P := Try.prog) W t _ _ _ _ x y h1
  have QN := Lib.hid (fun W => quarter_any x y W)
  have e : (((s % 4 + r % 4) % 4 : Nat) : Int) = (Dl.mark s r : Nat) := rfl
  rw [h2, e] at QN
  have hm : Dl.mark s r < 4 := Nat.mod_lt _ (by decide)
  generalize Dl.mark s r = m at *
  clear h1 h2 e
  generalize Dl.isq x y = qb at *
  generalize Dl.re (s % 4) = a0 at *
  generalize Dl.im (s % 4) = a1 at *
  generalize Dl.re (r % 4) = b0 at *
  generalize Dl.im (r % 4) = b1 at *
  have FC := Lib.hid (fun W (h : Below (w.heap.size + 1) (w.alloc (.cells #[.int .u32 (s : Int), .int .u32 (r : Int)] 35)) W) => show W.cell? ⟨w.heap.size, 0, none⟩ = some (.int .u32 s) ∧ W.cell? ⟨w.heap.size, 1, none⟩ = some (.int .u32 r) from by
    rw [h.cell (by simp), h.cell (by simp)]
    simp [go_sem])
  have FB := Lib.hid (fun W (h : Below (w.heap.size + 1) (w.alloc (.cells #[.int .u32 (s : Int), .int .u32 (r : Int)] 35)) W) => ((Below.refl w.heap.size w).alloc (Nat.le_refl _) _).trans (h.mono (Nat.le_succ _)))
  go_enter Try.func16, Try.ntmps16
  go_upto_region 1 with (fail)
  have hacc : Below (w.heap.size + 1) (w.alloc (.cells #[.int .u32 (s : Int), .int .u32 (r : Int)] 35)) (w.alloc (.cells #[.int .u32 (s : Int), .int .u32 (r : Int)] 35)).drew := (Below.refl _ _).drew
  obtain ⟨q0, q1⟩ := FC.out _ hacc
  go_region_held3 (fun w' => w'.cell? ⟨w.heap.size, 0, none⟩ = some (.int .u32 s) ∧ w'.cell? ⟨w.heap.size, 1, none⟩ = some (.int .u32 r)) (first | (exact FC.out _ hacc) | go_keep) (first
    | (go_at_call 7; (with_reducible refine (TS.out _).mono ?_); rintro e w1 ⟨rfl, hb⟩; replace hacc := bthen' hacc hb (by simp); clear hb)
    | (go_at_call 7; (with_reducible refine (TR.out _).mono ?_); rintro e w1 ⟨rfl, hb⟩; replace hacc := bthen' hacc hb (by simp); clear hb)
    | (go_at_call 8; (with_reducible refine (QN.out _).mono ?_); rintro e w1 ⟨rfl, hb⟩; replace hacc := bthen' hacc hb (by simp); clear hb))
  all_goals (go_wp2; go_ret; exact ⟨rfl, FB.out _ hacc⟩)
theorem check_any (s r s2 r2 m : Nat) (w : World) :
    Calls Try.prog 18 #[Dl.EV s r, Dl.EV s2 r2, .int .u8 m] w fun e w' => e = .returned (.int .i64 (Dl.chk s r s2 r2 m)) ∧ Below w.heap.size w w' := by
  have hb : ∀ a b, Below w.heap.size w ((w.alloc a).alloc b) := fun a b => ((Below.refl _ w).alloc (Nat.le_refl _) _).alloc (by simp) _
  have HB := Lib.hid hb
  clear hb
  by_cases h : s = s2
  · subst h
    by_cases h2 : r = r2
    · subst h2
      have MK := Lib.hid (mark_any s r)
      by_cases h3 : m = Dl.mark s r
      · rw [← h3] at MK
        have HC : Hid (Dl.chk s r s r m = 0) := show _ = _ by simp [Dl.chk, h3]
        clear h3
        go_enter Try.func18, Try.ntmps18
        go_wp2_with (go_at_call 16; (with_reducible refine (MK.out _).mono ?_); rintro e w1 ⟨rfl, hb⟩; have HB1 := Lib.hid (bthen' (HB.out _ _) hb (by simp; try omega)); clear hb)
        all_goals (go_ret; exact ⟨by rw [HC.out]; rfl, HB1.out⟩)
      · have HC : Hid (Dl.chk s r s r m = 16) := show _ = _ by simp [Dl.chk, h3]
        generalize Dl.mark s r = q at *
        have h4 : ¬ (m : Int) = q := by omega
        go_enter Try.func18, Try.ntmps18
        go_wp2_with (go_at_call 16; (with_reducible refine (MK.out _).mono ?_); rintro e w1 ⟨rfl, hb⟩; have HB1 := Lib.hid (bthen' (HB.out _ _) hb (by simp; try omega)); clear hb)
        all_goals (go_ret; exact ⟨by rw [HC.out]; rfl, HB1.out⟩)
    · have h' : ¬ (r : Int) = r2 := by omega
      go_enter Try.func18, Try.ntmps18
      go_wp2
      all_goals (go_ret; exact ⟨by simp [Dl.chk, h2], HB.out _ _⟩)
  · have h' : ¬ (s : Int) = s2 := by omega
    go_enter Try.func18, Try.ntmps18
    go_wp2
    all_goals (go_ret; exact ⟨by simp [Dl.chk, h], HB.out _ _⟩)
end Go.Proofs.Ytemkieakcnodjaa
