/- LAYER 20, timer: the program's functions. -/
import Derived.Test.YtkbmeikdgbdogaaChecked
import Derived.Test.YtkbmeikdgbdogaaM20
namespace Go.Proofs.Ytkbmeikdgbdogaa
open Go Go.RowKit
set_option maxHeartbeats 2000000
set_option maxRecDepth 100000
set_option linter.unusedVariables false
theorem whole_any (n : Int) (w : World) :
    Calls Try.prog 20 #[.int .i64 n] w fun e w' => e = .returned (Tm.TV (Tm.wh n)) ∧ Below w.heap.size w w' := by
  go_enter Try.func20, Try.ntmps20
  go_wp2
  refine bodyPost_ret (v := Tm.TV (Tm.wh n)) (by simp [results, Try.f20, go_sem, Tm.wh]) rfl ⟨rfl, ?_⟩
  exact ((Below.refl _ w).alloc (Nat.le_refl _) _)
theorem nextWait_any (n : Int) (w : World) (h0 : 0 ≤ n) (h1 : n ≤ 16) :
    Calls Try.prog 21 #[.int .i64 n] w fun e w' => e = .returned (.int .i64 (Tm.nw n)) ∧ w = w' := by
  have HC : Hid (Tm.nw n = if 2 * n ≤ 16 then 2 * n else 16) := rfl
  by_cases h : 2 * n ≤ 16
  · go_enter Try.func21, Try.ntmps21
    go_wp2
    go_ret
    exact ⟨by rw [HC.out, if_pos h]; simp, rfl⟩
  · go_enter Try.func21, Try.ntmps21
    go_wp2
    go_ret
    exact ⟨by rw [HC.out, if_neg (by omega)]; rfl, rfl⟩
theorem counted_any (n : Int) (w : World) :
    Calls Try.prog 22 #[.int .i64 n] w fun e w' => e = .returned (.int .i64 (Tm.cnt n : Nat)) ∧ w = w' := by
  have HC : Hid (Tm.cnt n = if n ≤ 0 then 0 else if n ≤ 10000 then n.toNat else 10000) := rfl
  have HI : Hid ((if n < 0 then 0 else n) = if n ≤ 0 then 0 else n) := show _ = _ by split <;> split <;> omega
  go_enter Try.func22, Try.ntmps22
  go_wp2
  all_goals (
    rename_i ha
    rw [HI.out] at ha
    go_ret
    refine ⟨ret_int ?_, rfl⟩
    rw [HC.out]
    split at ha
    · rw [if_pos (by omega)]; simp; try omega
    · rw [if_neg (by omega)]
      split <;> simp <;> omega)
theorem isWait_any (n : Int) (w : World) :
    Calls Try.prog 23 #[.int .i64 n] w fun e w' => e = .returned (.bool (Tm.wt n)) ∧ w = w' := by
  have HC : Hid (Tm.wt n = (decide (1 ≤ n) && decide (n ≤ 16))) := rfl
  by_cases h : 1 ≤ n
  · go_enter Try.func23, Try.ntmps23
    go_wp2
    go_ret
    exact ⟨by rw [HC.out]; simp [h], rfl⟩
  · go_enter Try.func23, Try.ntmps23
    go_wp2
    go_ret
    exact ⟨ret_bool (by rw [HC.out]; simp; omega), rfl⟩
theorem may20_any (t : Tm.T) (w : World) :
    Calls Try.prog 14 #[Tm.TV t] w fun e w' => e = .returned (.bool (Tm.ok t)) ∧ Below w.heap.size w w' := by
  obtain ⟨o, a, l⟩ := t
  have IW := Lib.hid (isWait_any a)
  have HB := Lib.hid (fun o => (Below.refl _ w).alloc (Nat.le_refl _) o)
  cases o with
  | false =>
    have HC : Hid (Tm.ok ⟨false, a, l⟩ = (decide (a = 0) && decide (l = 0))) := by show _ = _; simp [Tm.ok]
    generalize Tm.ok ⟨false, a, l⟩ = Z at *
    go_enter Try.func14, Try.ntmps14
    go_wp2
    all_goals (
      go_ret
      exact ⟨ret_bool (by rw [HC.out]; simp [*]), HB.out _⟩)
  | true =>
    have HC : Hid (Tm.ok ⟨true, a, l⟩ = (Tm.wt a && decide (1 ≤ l) && decide (l ≤ a))) := by show _ = _; simp [Tm.ok]
    generalize Tm.ok ⟨true, a, l⟩ = Z at *
    generalize Tm.wt a = Y at *
    cases Y with
    | false =>
      go_enter Try.func14, Try.ntmps14
      go_wp2_with (go_at_call 23; (with_reducible refine (IW.out _).mono ?_); rintro e w1 ⟨rfl, rfl⟩)
      go_ret
      exact ⟨by rw [HC.out]; simp, HB.out _⟩
    | true =>
      by_cases h : 1 ≤ l
      · go_enter Try.func14, Try.ntmps14
        go_wp2_with (go_at_call 23; (with_reducible refine (IW.out _).mono ?_); rintro e w1 ⟨rfl, rfl⟩)
        go_ret
        exact ⟨by rw [HC.out]; simp [h], HB.out _⟩
      · go_enter Try.func14, Try.ntmps14
        go_wp2_with (go_at_call 23; (with_reducible refine (IW.out _).mono ?_); rintro e w1 ⟨rfl, rfl⟩)
        go_ret
        exact ⟨ret_bool (by rw [HC.out]; simp; omega), HB.out _⟩
theorem BX.three {w : World} {a : Nat} {T : TypeId} {x y z : Value} (h : BX w a T #[x, y, z]) : w.cell? ⟨a, 0, none⟩ = some x ∧ w.cell? ⟨a, 1, none⟩ = some y ∧ w.cell? ⟨a, 2, none⟩ = some z ∧ w.frozen? ⟨a, 0, none⟩ = false ∧ w.frozen? ⟨a, 1, none⟩ = false ∧ w.frozen? ⟨a, 2, none⟩ = false :=
  ⟨h.cell rfl, h.cell rfl, h.cell rfl, h.free 0, h.free 1, h.free 2⟩
theorem BX.put3 {w : World} {a : Nat} {T : TypeId} {x y z : Value} (h : BX w a T #[x, y, z]) (x' y' z' : Value) : BX (((w.setCell ⟨a, 0, none⟩ x').setCell ⟨a, 1, none⟩ y').setCell ⟨a, 2, none⟩ z') a T #[x', y', z'] := by
  have := ((h.set 0 x').set 1 y').set 2 z'
  simpa using this
theorem below3 {B : Nat} {w w' : World} {a : Nat} (h : Below B w w') (ha : B ≤ a) (x y z : Value) : Below B w (((w'.setCell ⟨a, 0, none⟩ x).setCell ⟨a, 1, none⟩ y).setCell ⟨a, 2, none⟩ z) :=
  ((h.setCell ha _).setCell ha _).setCell ha _
/-- An own box of cs, a result's box beside it. -/
theorem two20 (w : World) (T S : TypeId) (cs ds : Array Value) : Below w.heap.size w ((w.alloc (.cells cs T)).alloc (.cells ds S)) ∧ BX ((w.alloc (.cells cs T)).alloc (.cells ds S)) w.heap.size T cs ∧ BX ((w.alloc (.cells cs T)).alloc (.cells ds S)) (w.heap.size + 1) S ds := by
  refine ⟨((Below.refl _ w).alloc (Nat.le_refl _) _).alloc (by simp) _, (BX.new w T cs).alloc _, ?_⟩
  have := BX.new (w.alloc (.cells cs T)) S ds
  simpa using this
theorem size20 (w : World) (T S : TypeId) (cs ds : Array Value) : ((w.alloc (.cells cs T)).alloc (.cells ds S)).heap.size = w.heap.size + 1 + 1 := by simp
theorem again_any (t : Tm.T) (w : World) :
    Calls Try.prog 16 #[Tm.TV t] w fun e w' => e = .returned (Tm.TV (Tm.again t)) ∧ Below w.heap.size w w' := by
  obtain ⟨o, a, l⟩ := t
  have WH := Lib.hid (whole_any 1)
  obtain ⟨hT, _, hR⟩ := two20 w 24 24 #[.bool o, .int .i64 a, .int .i64 l] #[.bool false, .int .i64 0, .int .i64 0]
  have HZ := Lib.hid (fun W (h : Below ((w.alloc (.cells #[.bool o, .int .i64 a, .int .i64 l] 24)).alloc (.cells #[.bool false, .int .i64 0, .int .i64 0] 24)).heap.size ((w.alloc (.cells #[.bool o, .int .i64 a, .int .i64 l] 24)).alloc (.cells #[.bool false, .int .i64 0, .int .i64 0] 24)) W) => And.intro (hR.later h) (bthen hT h))
  clear hT hR
  cases o with
  | false =>
    go_enter Try.func16, Try.ntmps16
    go_wp2
    refine bodyPost_ret (v := Tm.TV (Tm.again ⟨false, a, l⟩)) (by simp [results, Try.f16, go_sem, Tm.again]) rfl ⟨rfl, ?_⟩
    exact ((Below.refl _ w).alloc (Nat.le_refl _) _).alloc (by simp) _
  | true =>
    go_enter Try.func16, Try.ntmps16
    go_upto_region 2 with (fail)
    go_wp2_with (go_at_call 20; (with_reducible refine (WH.out _).mono ?_); rintro e w1 ⟨rfl, hb⟩; have hsz := hb.size; obtain ⟨bz, zz⟩ := HZ.out _ hb; have BZ := Lib.hid bz; have ZZ := Lib.hid zz; obtain ⟨q0, q1, q2, f0, f1, f2⟩ := BZ.out.three; clear bz zz hb)
    obtain ⟨r0, r1, r2, _⟩ := (BZ.out.put3 (.bool true) (.int .i64 1) (.int .i64 1)).three
    refine bodyPost_ret (v := Tm.TV (Tm.wh 1)) (by simp [results, Try.f16, go_sem, Tm.wh, r0, r1, r2]) rfl ⟨by simp [Tm.again], ?_⟩
    exact below3 ZZ.out (Nat.le_succ _) _ _ _
theorem stop_any (t : Tm.T) (w : World) :
    Calls Try.prog 17 #[Tm.TV t] w fun e w' => e = .returned (Tm.TV Tm.nul) ∧ Below w.heap.size w w' := by
  go_enter Try.func17, Try.ntmps17
  go_wp2
  refine bodyPost_ret (v := Tm.TV Tm.nul) (by simp [results, Try.f17, go_sem, Tm.nul]) rfl ⟨rfl, ?_⟩
  exact ((Below.refl _ w).alloc (Nat.le_refl _) _).alloc (by simp) _
end Go.Proofs.Ytkbmeikdgbdogaa
