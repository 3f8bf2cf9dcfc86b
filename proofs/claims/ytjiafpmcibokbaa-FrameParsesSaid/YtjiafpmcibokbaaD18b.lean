/- LAYER 18, dial: Mark, Newer, the next ones, Check. -/
import Derived.Test.YtjiafpmcibokbaaD18a
namespace Go.Proofs.Ytjiafpmcibokbaa
open Go.RowKit
set_option maxHeartbeats 1600000
set_option maxRecDepth 100000
set_option linter.unusedVariables false
namespace Dl
/-- An epoch's value. -/
abbrev EV (s r : Nat) : Value := .agg #[.int .u32 (s : Int), .int .u32 (r : Int)]
def mark (s r : Nat) : Nat := (s % 4 + r % 4) % 4
def newer (s r s2 r2 : Nat) : Bool := if s = s2 then decide (r2 < r) else decide (s2 < s)
def nS (s r : Nat) : Nat × Nat × Int := if s = 4294967295 then (0, 0, 10) else (s + 1, r, 0)
def nR (s r : Nat) : Nat × Nat × Int := if r = 4294967295 then (0, 0, 10) else (s, r + 1, 0)
def chk (s r s2 r2 m : Nat) : Int := if s = s2 ∧ r = r2 ∧ m = mark s r then 0 else 16
theorem mul_all : ∀ k : Fin 4, ∀ l : Fin 4, (match cMulBits (re k) (im k) (re l) (im l) with | some (x, y) => quo x y == (((k + l) % 4 : Nat) : Int) && isq x y | none => false) = true := by decide +kernel
theorem mul_of (k l : Nat) (hk : k < 4) (hl : l < 4) : ∃ x y, cMulBits (re k) (im k) (re l) (im l) = some (x, y) ∧ quo x y = ((k + l) % 4 : Nat) := by
  have h := mul_all ⟨k, hk⟩ ⟨l, hl⟩
  simp only at h
  cases e : cMulBits (re k) (im k) (re l) (im l) with
  | none => simp [e] at h
  | some p =>
    simp [e] at h
    exact ⟨p.1, p.2, rfl, by simpa using h.1⟩
end Dl
theorem mark_any (s r : Nat) (w : World) :
    Calls Try.prog 43 #[Dl.EV s r] w fun e w' => e = .returned (.int .u8 (Dl.mark s r : Nat)) ∧ Below w.heap.size w w' := by
  have TS := Lib.hid (turn_any s)
  have TR := Lib.hid (turn_any r)
  obtain ⟨x, y, h1, h2⟩ := Dl.mul_of (s % 4) (r % 4) (Nat.mod_lt _ (by decide)) (Nat.mod_lt _ (by decide))
  have hop := fun t W => run_complex_mul (P := Try.prog) W t _ _ _ _ x y h1
  have QN := Lib.hid (fun W => quarter_any x y W)
  have e : (((s % 4 + r % 4) % 4 : Nat) : Int) = (Dl.mark s r : Nat) := rfl
  rw [h2, e] at QN
  have hm : Dl.mark s r < 4 := Nat.mod_lt _ (by decide)
  generalize Dl.mark s r = m at *
  clear h1 h2 e
  generalize Dl.isq x y = qb at *
  generalize Dl.re (s % 4) = a0 at *
  generalize Dl.im (s % 4) = a1 at *
  generalize Dl.re (r % 4) = b0 at *
  generalize Dl.im (r % 4) = b1 at *
  have FC := Lib.hid (fun W (h : Below (w.heap.size + 1) (w.alloc (.cells #[.int .u32 (s : Int), .int .u32 (r : Int)] 38)) W) => show W.cell? ⟨w.heap.size, 0, none⟩ = some (.int .u32 s) ∧ W.cell? ⟨w.heap.size, 1, none⟩ = some (.int .u32 r) from by
    rw [h.cell (by simp), h.cell (by simp)]
    simp [go_sem])
  have FB := Lib.hid (fun W (h : Below (w.heap.size + 1) (w.alloc (.cells #[.int .u32 (s : Int), .int .u32 (r : Int)] 38)) W) => ((Below.refl w.heap.size w).alloc (Nat.le_refl _) _).trans (h.mono (Nat.le_succ _)))
  go_enter Try.func43, Try.ntmps43
  go_upto_region 1 with (fail)
  have hacc : Below (w.heap.size + 1) (w.alloc (.cells #[.int .u32 (s : Int), .int .u32 (r : Int)] 38)) (w.alloc (.cells #[.int .u32 (s : Int), .int .u32 (r : Int)] 38)).drew := (Below.refl _ _).drew
  obtain ⟨q0, q1⟩ := FC.out _ hacc
  go_region_held3 (fun w' => w'.cell? ⟨w.heap.size, 0, none⟩ = some (.int .u32 s) ∧ w'.cell? ⟨w.heap.size, 1, none⟩ = some (.int .u32 r)) (first | (exact FC.out _ hacc) | go_keep) (first
    | (go_at_call 53; (with_reducible refine (TS.out _).mono ?_); rintro e w1 ⟨rfl, hb⟩; replace hacc := bthen' hacc hb (by simp); clear hb)
    | (go_at_call 53; (with_reducible refine (TR.out _).mono ?_); rintro e w1 ⟨rfl, hb⟩; replace hacc := bthen' hacc hb (by simp); clear hb)
    | (go_at_call 52; (with_reducible refine (QN.out _).mono ?_); rintro e w1 ⟨rfl, hb⟩; replace hacc := bthen' hacc hb (by simp); clear hb))
  all_goals (go_wp2; go_ret; exact ⟨rfl, FB.out _ hacc⟩)
end Go.Proofs.Ytjiafpmcibokbaa
