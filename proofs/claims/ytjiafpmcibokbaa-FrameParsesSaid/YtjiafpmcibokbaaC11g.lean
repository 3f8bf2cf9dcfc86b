/- WALKS OF LAYER 11: the document's Open, its capacity told. -/
import Derived.Test.YtjiafpmcibokbaaC11e
import Derived.Deep.RegionLaw
namespace Go.Proofs.Ytjiafpmcibokbaa
open Go.RowKit
set_option maxHeartbeats 1600000
set_option maxRecDepth 100000
set_option linter.unusedVariables false
theorem refcopen2_any (A : Option Addr) (n c : Nat) (xs : List Int) (w : World) (B : Nat) (ha : RB w B A n xs) (hB : B ≤ w.heap.size) (hy : Byt xs) (hn : n ≤ c) (hc : c ≤ maxLen) (hn2 : n ≤ 500000) :
    Calls Try.prog 39 #[.slice A n c] w fun e w' => (∃ A2 m c2, e = .returned (.tuple #[.slice A2 m c2, .int .i64 (Ck.err xs)]) ∧ RB w B A2 m (Ck.open_ xs) ∧ m ≤ n ∧ m ≤ c2 ∧ c2 ≤ maxLen) ∧ Below w.heap.size w w' := by
  have hxl := ha.1
  by_cases h4 : n < 4
  · obtain ⟨e1, e2⟩ := Ck.open_few (xs := xs) (by omega)
    rw [e1, e2]
    clear hxl e1 e2
    go_enter Try.func39, Try.ntmps39
    go_wp2
    go_ret2
    exact ⟨⟨none, 0, 0, rfl, RB.nil, by omega, Nat.le_refl _, Nat.zero_le _⟩, Below.refl _ _⟩
  · obtain ⟨k, hk⟩ : ∃ k, n = k + 4 := ⟨n - 4, by omega⟩
    obtain ⟨b, o, rfl, hb, _⟩ := ha.at0 (by omega)
    have sm := refsum_any (some ⟨b, o, none⟩) k c (xs.take k) w ((ha.more hB).front (by omega)) (Ck.Byt.take hy k) (by omega)
    have HF := Lib.hid (ha.front (k := k) (by omega))
    have hsl := Ck.sum_lt (Ck.Byt.take hy k)
    have c0 := ha.at_' (k := k) (by omega)
    have c1 := ha.at_' (k := k + 1) (by omega)
    have c2 := ha.at_' (k := k + 2) (by omega)
    have c3 := ha.at_' (k := k + 3) (by omega)
    have b0 := hy k; have b1 := hy (k + 1); have b2 := hy (k + 2); have b3 := hy (k + 3)
    have hd : xs.drop k = [xs.getD k 0, xs.getD (k + 1) 0, xs.getD (k + 2) 0, xs.getD (k + 3) 0] := by
      apply List.ext_getElem (by simp; omega)
      intro i h1 h2
      rcases (by simp at h2; omega : i = 0 ∨ i = 1 ∨ i = 2 ∨ i = 3) with rfl | rfl | rfl | rfl <;> simp [List.getD, show k < xs.length from by omega, show k + 1 < xs.length from by omega, show k + 2 < xs.length from by omega, show k + 3 < xs.length from by omega]
    have hokd := Ck.ok_dec (xs := xs) (k := k) (by omega)
    rw [hd] at hokd
    have OB := Lib.hid (fun h => Ck.open_bad (xs := xs) (by omega) h)
    have OK := Lib.hid (fun h => Ck.open_ok (xs := xs) (k := k) (by omega) h)
    generalize xs.getD k 0 = x0 at *
    generalize xs.getD (k + 1) 0 = x1 at *
    generalize xs.getD (k + 2) 0 = x2 at *
    generalize xs.getD (k + 3) 0 = x3 at *
    generalize Ck.sum (xs.take k) = q at *
    obtain ⟨x0, rfl⟩ : ∃ z : Nat, x0 = (z : Int) := ⟨x0.toNat, by omega⟩
    obtain ⟨x1, rfl⟩ : ∃ z : Nat, x1 = (z : Int) := ⟨x1.toNat, by omega⟩
    obtain ⟨x2, rfl⟩ : ∃ z : Nat, x2 = (z : Int) := ⟨x2.toNat, by omega⟩
    obtain ⟨x3, rfl⟩ : ∃ z : Nat, x3 = (z : Int) := ⟨x3.toNat, by omega⟩
    have hw := Ck.lay_word hsl (show x0 < 256 by omega) (show x1 < 256 by omega) (show x2 < 256 by omega) (show x3 < 256 by omega)
    rw [show decide ([(x0 : Int), x1, x2, x3] = Ck.lay q) = decide (q = Ck.word x0 x1 x2 x3) from by rw [decide_eq_decide]; exact hw] at hokd
    have hwl := Ck.word_lt (show x0 < 256 by omega) (show x1 < 256 by omega) (show x2 < 256 by omega) (show x3 < 256 by omega)
    have hwe : Hid ((x0 : Int) + 256 * x1 + 65536 * x2 + 16777216 * x3 = (Ck.word x0 x1 x2 x3 : Nat)) := by show _ = _; unfold Ck.word; omega
    generalize Ck.word x0 x1 x2 x3 = t at *
    clear hd hw
    have s1 : IntKind.i64.wrap ((n : Int) - 4) = (k : Int) := by rw [IntWalk.i64_in _ (by omega)]; omega
    have u0 : IntKind.u32.wrap (x0 : Int) = (x0 : Int) := by rw [IntKind.wrap_u32']; omega
    have u1 : IntKind.u32.wrap (x1 : Int) = (x1 : Int) := by rw [IntKind.wrap_u32']; omega
    have u2 : IntKind.u32.wrap (x2 : Int) = (x2 : Int) := by rw [IntKind.wrap_u32']; omega
    have u3 : IntKind.u32.wrap (x3 : Int) = (x3 : Int) := by rw [IntKind.wrap_u32']; omega
    have v1 : IntKind.u32.wrap (256 * (x1 : Int)) = 256 * (x1 : Int) := by rw [IntKind.wrap_u32']; omega
    have v2 : IntKind.u32.wrap (65536 * (x2 : Int)) = 65536 * (x2 : Int) := by rw [IntKind.wrap_u32']; omega
    have v3 : IntKind.u32.wrap (16777216 * (x3 : Int)) = 16777216 * (x3 : Int) := by rw [IntKind.wrap_u32']; omega
    have v4 : IntKind.u32.wrap ((x0 : Int) + 256 * x1) = (x0 : Int) + 256 * x1 := by rw [IntKind.wrap_u32']; omega
    have v5 : IntKind.u32.wrap ((x0 : Int) + 256 * x1 + 65536 * x2) = (x0 : Int) + 256 * x1 + 65536 * x2 := by rw [IntKind.wrap_u32']; omega
    have v6 : IntKind.u32.wrap ((x0 : Int) + 256 * x1 + 65536 * x2 + 16777216 * x3) = (t : Int) := by rw [hwe.out, IntKind.wrap_u32']; omega
    have hkn : k ≤ n := by omega
    have hkc : k ≤ c := by omega
    have e1 : (k : Int) + 1 < n := by omega
    have e2 : (k : Int) + 2 < n := by omega
    have e3 : (k : Int) + 3 < n := by omega
    have e0 : (k : Int) < n := by omega
    have SM := Lib.hid sm; have HK := Lib.hid hk
    unfold maxLen at hc
    by_cases hq : q = t
    · have hok : Ck.ok xs = true := by rw [hokd]; simpa using hq
      obtain ⟨f1, f2⟩ := OK.out hok
      rw [f1, f2]
      have g : ((q : Int) != (t : Int)) = false := by simp; omega
      have HXL := Lib.hid hxl
      clear sm hxl hk hokd hok f1 f2 h4 hq OK OB ha
      go_enter Try.func39, Try.ntmps39
      go_wp2_with (go_at_call 33; (with_reducible refine SM.out.mono ?_); rintro e w' ⟨rfl, rfl⟩)
      go_quiet (fail)
      go_wp2
      go_ret2
      exact ⟨⟨some ⟨b, o, none⟩, k, c, rfl, HF.out, hkn, hkc, by unfold maxLen; exact hc⟩, below_drewN (Below.refl _ _) _⟩
    · have hok : Ck.ok xs = false := by rw [hokd]; simpa using hq
      obtain ⟨f1, f2⟩ := OB.out hok
      rw [f1, f2]
      have g : ((q : Int) != (t : Int)) = true := by simp; omega
      have HXL := Lib.hid hxl
      clear sm hxl hk hokd hok f1 f2 h4 hq OK OB ha
      go_enter Try.func39, Try.ntmps39
      go_wp2_with (go_at_call 33; (with_reducible refine SM.out.mono ?_); rintro e w' ⟨rfl, rfl⟩)
      go_quiet (fail)
      go_wp2
      go_ret2
      exact ⟨⟨none, 0, 0, rfl, RB.nil, by omega, Nat.le_refl _, Nat.zero_le _⟩, below_drewN (Below.refl _ _) _⟩
end Go.Proofs.Ytjiafpmcibokbaa
