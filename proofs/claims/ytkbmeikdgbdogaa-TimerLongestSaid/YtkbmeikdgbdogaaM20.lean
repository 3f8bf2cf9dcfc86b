/- LAYER 20, timer: plain mathematics: timers as a Bool and two numbers. No Go text is named. -/
import Derived.Test.YtkbmeikdgbdogaaBx
namespace Go.Proofs.Ytkbmeikdgbdogaa
open Go Go.RowKit
namespace Tm
structure T where
  on : Bool
  w : Int
  l : Int
/-- A timer's value. -/
abbrev TV (t : T) : Value := .agg #[.bool t.on, .int .i64 t.w, .int .i64 t.l]
abbrev TC (t : T) : Array Value := #[.bool t.on, .int .i64 t.w, .int .i64 t.l]
/-- Its numbers are int's. -/
def Fit (t : T) : Prop := -9223372036854775808 ≤ t.w ∧ t.w ≤ 9223372036854775807 ∧ -9223372036854775808 ≤ t.l ∧ t.l ≤ 9223372036854775807
def wt (w : Int) : Bool := decide (1 ≤ w) && decide (w ≤ 16)
def ok (t : T) : Bool := if t.on = true then wt t.w && decide (1 ≤ t.l) && decide (t.l ≤ t.w) else decide (t.w = 0) && decide (t.l = 0)
def nw (w : Int) : Int := if 2 * w ≤ 16 then 2 * w else 16
def wh (w : Int) : T := ⟨true, w, w⟩
def nul : T := ⟨false, 0, 0⟩
def start (w : Int) : T × Int := if wt w = true then (wh w, 0) else (nul, 1)
def tick (t : T) : T × Bool := if t.on = true ∧ ok t = true then (if 1 < t.l then (⟨true, t.w, t.l - 1⟩, false) else (wh (nw t.w), true)) else (t, false)
/-- n ticks on: the timer, and how often it fired. -/
def tk (t : T) : Nat → T × Nat
  | 0 => (t, 0)
  | n + 1 => ((tick (tk t n).1).1, (tk t n).2 + if (tick (tk t n).1).2 = true then 1 else 0)
theorem tk_succ (t : T) (j : Nat) : tk t (j + 1) = ((tick (tk t j).1).1, (tk t j).2 + if (tick (tk t j).1).2 = true then 1 else 0) := rfl
def cnt (n : Int) : Nat := if n ≤ 0 then 0 else if n ≤ 10000 then n.toNat else 10000
def again (t : T) : T := if t.on = true then wh 1 else t
/-- The wait behind k firings; the ticks of k firings. -/
def ws : Nat → Int
  | 0 => 1
  | k + 1 => nw (ws k)
def lng : Nat → Int
  | 0 => 0
  | k + 1 => lng k + ws k
theorem ws_bd (k : Nat) : 1 ≤ ws k ∧ ws k ≤ 16 := by
  induction k with
  | zero => exact ⟨by simp [ws], by simp [ws]⟩
  | succ k ih => simp only [ws, nw]; split <;> omega
theorem lng_bd (k : Nat) : (k : Int) ≤ lng k ∧ lng k ≤ 16 * k := by
  induction k with
  | zero => simp [lng]
  | succ k ih => have := ws_bd k; simp only [lng]; omega
theorem lng_lt (k : Nat) (h : 1 ≤ k) : lng k ≤ 16 * k - 15 := by
  obtain ⟨j, rfl⟩ : ∃ j, k = j + 1 := ⟨k - 1, by omega⟩
  have := lng_bd j
  have := ws_bd j
  simp only [lng]
  induction j with
  | zero => simp [lng, ws]
  | succ j ih => have := ws_bd j; have := lng_bd j; have := ih (by omega) (by assumption) (by assumption); simp only [lng] at *; omega
theorem cnt_le (n : Int) : cnt n ≤ 10000 := by unfold cnt; split; omega; split <;> omega
theorem cnt_lt (n : Int) (j : Nat) : j < cnt n ↔ (j : Int) < n ∧ j < 10000 := by
  unfold cnt
  split
  · omega
  · split <;> omega
theorem tick_fit (t : T) (h : Fit t) : Fit (tick t).1 := by
  unfold tick
  split
  · rename_i h1
    have h2 := h1.2
    simp only [ok, h1.1, if_true, wt, Bool.and_eq_true, decide_eq_true_eq] at h2
    split
    · simp only [Fit]; omega
    · simp only [Fit, wh, nw]; split <;> omega
  · exact h
theorem tk_fit (t : T) (h : Fit t) (n : Nat) : Fit (tk t n).1 := by
  induction n with
  | zero => exact h
  | succ n ih => exact tick_fit _ ih
theorem tk_cnt (t : T) (n : Nat) : (tk t n).2 ≤ n := by
  induction n with
  | zero => simp [tk]
  | succ n ih => simp only [tk]; split <;> omega
theorem tick_on (w l : Int) (h1 : 1 ≤ w) (h2 : w ≤ 16) (h3 : 1 ≤ l) (h4 : l ≤ w) : tick ⟨true, w, l⟩ = if 1 < l then (⟨true, w, l - 1⟩, false) else (wh (nw w), true) := by
  have : ok ⟨true, w, l⟩ = true := by simp [ok, wt, h1, h2, h3, h4]
  simp [tick, this]
/-- A timer of Start(1), i ticks behind its k-th firing. -/
def at_ (k : Nat) (i : Int) : T := ⟨true, ws k, ws k - i⟩
theorem at_tick (k : Nat) (i : Int) (h0 : 0 ≤ i) (h1 : i < ws k) : tick (at_ k i) = if i + 1 < ws k then (at_ k (i + 1), false) else (at_ (k + 1) 0, true) := by
  have := ws_bd k
  unfold at_
  rw [tick_on _ _ (by omega) (by omega) (by omega) (by omega)]
  by_cases h : i + 1 < ws k
  · rw [if_pos (by omega), if_pos h, show ws k - i - 1 = ws k - (i + 1) by omega]
  · rw [if_neg (by omega), if_neg h]
    simp only [ws, wh, Int.sub_zero]
theorem tk_at (k : Nat) : ∀ i : Nat, (i : Int) < ws k → ∃ n : Nat, (n : Int) = lng k + i ∧ tk (wh 1) n = (at_ k i, k) := by
  induction k with
  | zero =>
    intro i hi
    have : i = 0 := by simp [ws] at hi; omega
    subst this
    exact ⟨0, by simp [lng], by simp [tk, at_, ws, wh]⟩
  | succ k ih =>
    intro i
    induction i with
    | zero =>
      intro _
      have hb := ws_bd k
      obtain ⟨n, hn, h⟩ := ih (ws k - 1).toNat (by omega)
      refine ⟨n + 1, by simp only [lng]; omega, ?_⟩
      simp only [tk, h]
      rw [at_tick k _ (by omega) (by omega), if_neg (by omega)]
      simp
    | succ i ihi =>
      intro hi
      obtain ⟨n, hn, h⟩ := ihi (by omega)
      refine ⟨n + 1, by omega, ?_⟩
      simp only [tk, h]
      rw [at_tick (k + 1) _ (by omega) (by omega), if_pos (by omega)]
      simp
end Tm
end Go.Proofs.Ytkbmeikdgbdogaa
