/- WALKS OF LAYER 13, SECOND PART: is it made, may numbers be, is there room. -/
import Derived.Test.YtbianfjennnofaaDoorN13b
namespace Go.Proofs.YtbianfjennnofaaDoor
set_option linter.unusedVariables false
open Go Go.RowKit
set_option maxRecDepth 100000
set_option maxHeartbeats 1000000
open Nt (Tr Nd WF Ps Path at_ cnt used)
theorem wrap_small {x : Int} (h1 : -9223372036854775808 ≤ x) (h2 : x ≤ 9223372036854775807) : IntKind.i64.wrap x = x := by
  rw [IntKind.wrap_i64]
  omega
theorem made_none (w : World) : Calls Tryd.prog 24 #[.pointer none] w fun e w' => e = .returned (.bool false) ∧ w = w' := by
  go_enter Tryd.func24, Tryd.ntmps24
  go_wp2
  go_ret
  exact ⟨rfl, rfl⟩
theorem made_no (w : World) (tb : Nat) (cs : Array Value) (hx : BX w tb 49 cs) (h0 : cs[0]? = some (.pointer none)) : Calls Tryd.prog 24 #[.pointer (some ⟨tb, 0, none⟩)] w fun e w' => e = .returned (.bool false) ∧ w = w' := by
  have c0 := hx.cell h0
  go_enter Tryd.func24, Tryd.ntmps24
  go_wp2
  go_ret
  exact ⟨rfl, rfl⟩
theorem made_any (w : World) (tb : Nat) (cs : Array Value) (a : Nat) (hx : BX w tb 49 cs) (h0 : cs[0]? = some (.pointer (some ⟨a, 0, none⟩))) : Calls Tryd.prog 24 #[.pointer (some ⟨tb, 0, none⟩)] w fun e w' => e = .returned (.bool true) ∧ w = w' := by
  have c0 := hx.cell h0
  go_enter Tryd.func24, Tryd.ntmps24
  go_wp2
  go_ret
  exact ⟨rfl, rfl⟩
theorem within_any (w : World) (n a b : Int) : Calls Tryd.prog 50 #[.int .i64 n, .int .i64 a, .int .i64 b] w fun e w' => e = .returned (.bool (decide (a ≤ n) && decide (n ≤ b))) ∧ w = w' := by
  by_cases h1 : a ≤ n
  · by_cases h2 : n ≤ b
    · go_enter Tryd.func50, Tryd.ntmps50
      go_wp2
      go_ret
      exact ⟨ret_bool (by simp [h1, h2]), rfl⟩
    · go_enter Tryd.func50, Tryd.ntmps50
      go_wp2
      go_ret
      exact ⟨ret_bool (by simp [h2]), rfl⟩
  · go_enter Tryd.func50, Tryd.ntmps50
    go_wp2
    go_ret
    exact ⟨ret_bool (by rw [decide_eq_false (by omega)]; rfl), rfl⟩
theorem meta_any (w : World) (a b c d : Int) : Calls Tryd.prog 35 #[.agg #[.int .i64 a, .int .i64 b, .int .i64 c, .int .i64 d]] w fun e w' => e = .returned (.bool (Nt.metaOk a b c d)) ∧ Below w.heap.size w w' := by
  have k1 := Lib.hid (fun W => within_any W a 0 4095)
  have k2 := Lib.hid (fun W => within_any W b 0 1099511627775)
  have k3 := Lib.hid (fun W => within_any W c 0 1099511627775)
  have k4 := Lib.hid (fun W => within_any W d (-1125899906842624) 1125899906842624)
  have hE : Nt.metaOk a b c d = ((decide (0 ≤ a) && decide (a ≤ 4095)) && ((decide (0 ≤ b) && decide (b ≤ 1099511627775)) && ((decide (0 ≤ c) && decide (c ≤ 1099511627775)) && (decide (-1125899906842624 ≤ d) && decide (d ≤ 1125899906842624))))) := by
    unfold Nt.metaOk
    simp only [Bool.and_assoc]
  rw [hE]
  clear hE
  generalize (decide (0 ≤ a) && decide (a ≤ 4095)) = b1 at *
  generalize (decide (0 ≤ b) && decide (b ≤ 1099511627775)) = b2 at *
  generalize (decide (0 ≤ c) && decide (c ≤ 1099511627775)) = b3 at *
  generalize (decide (-1125899906842624 ≤ d) && decide (d ≤ 1125899906842624)) = b4 at *
  have hB : ∀ W : World, Below w.heap.size w W → True := fun _ _ => trivial
  have hb0 : Below w.heap.size w (w.alloc (.cells #[.int .i64 a, .int .i64 b, .int .i64 c, .int .i64 d] 51)) := (Below.refl _ w).alloc (Nat.le_refl _) _
  cases b1 <;> cases b2 <;> cases b3
  all_goals
    go_enter Tryd.func35, Tryd.ntmps35
    go_wp2_with (first | (go_at_call 50; (first | (with_reducible refine (k1.out _).mono ?_) | (with_reducible refine (k2.out _).mono ?_) | (with_reducible refine (k3.out _).mono ?_) | (with_reducible refine (k4.out _).mono ?_)); rintro e w' ⟨rfl, rfl⟩))
    go_ret
    exact ⟨ret_bool (by simp), hb0⟩
/-- hasRoom: room and used are of small numbers. -/
theorem room_any (w : World) (tb : Nat) (cs : Array Value) (r v u b n m : Int) (hx : BX w tb 49 cs) (h1 : cs[1]? = some (.int .i64 r)) (h2 : cs[2]? = some (.int .i64 v)) (h3 : cs[3]? = some (.int .i64 u)) (h4 : cs[4]? = some (.int .i64 b))
    (hr : 0 ≤ r ∧ r ≤ 9223372036854775807) (hv : 0 ≤ v ∧ v ≤ 9223372036854775807) (hu : 0 ≤ u ∧ u ≤ 1000000000000) (hb : 0 ≤ b ∧ b ≤ 1000000000000) :
    Calls Tryd.prog 36 #[.pointer (some ⟨tb, 0, none⟩), .int .i64 n, .int .i64 m] w fun e w' => e = .returned (.bool (decide (u + n ≤ r) && decide (b + m ≤ v))) ∧ Below w.heap.size w w' := by
  have c1 := hx.cell h1
  have c2 := hx.cell h2
  have c3 := hx.cell h3
  have c4 := hx.cell h4
  have hE : (decide (u + n ≤ r) && decide (b + m ≤ v)) = (decide (n ≤ r - u) && decide (m ≤ v - b)) := by
    rw [Bool.eq_iff_iff]
    simp only [Bool.and_eq_true, decide_eq_true_eq]
    omega
  rw [hE]
  clear hE
  have w1 : IntKind.i64.wrap (r - u) = r - u := wrap_small (by omega) (by omega)
  have w2 : IntKind.i64.wrap (v - b) = v - b := wrap_small (by omega) (by omega)
  obtain ⟨q, hq⟩ : ∃ q, r - u = q := ⟨_, rfl⟩
  obtain ⟨p, hp⟩ : ∃ p, v - b = p := ⟨_, rfl⟩
  rw [hq] at w1
  rw [hp] at w2
  rw [hq, hp]
  have W1 : IntKind.i64.wrap (r - u) = q := by rw [hq]; exact w1
  have W2 : IntKind.i64.wrap (v - b) = p := by rw [hp]; exact w2
  clear hq hp hr hv hu hb w1 w2
  obtain ⟨g1, e1⟩ : ∃ g, decide (n ≤ q) = g := ⟨_, rfl⟩
  obtain ⟨g2, e2⟩ : ∃ g, decide (m ≤ p) = g := ⟨_, rfl⟩
  rw [e1, e2]
  cases g1
  · go_enter Tryd.func36, Tryd.ntmps36
    go_wp2
    go_quiet (fail)
    go_wp2
    go_ret
    exact ⟨rfl, below_drewN (Below.refl _ w) _⟩
  · go_enter Tryd.func36, Tryd.ntmps36
    go_wp2
    go_quiet (fail)
    go_wp2
    go_ret
    exact ⟨ret_bool (by simp), below_drewN (Below.refl _ w) _⟩
end Go.Proofs.YtbianfjennnofaaDoor
