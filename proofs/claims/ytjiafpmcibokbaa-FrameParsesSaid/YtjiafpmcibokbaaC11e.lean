/- WALKS OF LAYER 11, FIFTH PART: what is opened, and the reference's. -/
import Derived.Test.YtjiafpmcibokbaaC11d
import Derived.Deep.RegionLaw
namespace Go.Proofs.Ytjiafpmcibokbaa
open Go.RowKit
set_option maxHeartbeats 400000
set_option maxRecDepth 100000
set_option linter.unusedVariables false
namespace Ck
theorem ok_dec {xs : List Int} {k : Nat} (h : xs.length = k + 4) : ok xs = decide (xs.drop k = lay (sum (xs.take k))) := by
  unfold ok
  rw [show xs.length - 4 = k from by omega]
theorem open_few {xs : List Int} (h : xs.length < 4) : err xs = 4 ∧ open_ xs = [] := by
  have e : err xs = 4 := if_pos h
  refine ⟨e, ?_⟩
  unfold open_
  rw [e]
  rfl
theorem open_ok {xs : List Int} {k : Nat} (h : xs.length = k + 4) (ho : ok xs = true) : err xs = 0 ∧ open_ xs = xs.take k := by
  have e : err xs = 0 := by rw [err_of (by omega), ho]; rfl
  refine ⟨e, ?_⟩
  unfold open_
  rw [if_pos e, show xs.length - 4 = k from by omega]
theorem open_bad {xs : List Int} (h : 4 ≤ xs.length) (ho : ok xs = false) : err xs = 9 ∧ open_ xs = [] := by
  have e : err xs = 9 := by rw [err_of h, ho]; rfl
  refine ⟨e, ?_⟩
  unfold open_
  rw [e]
  rfl
end Ck
theorem OBn.low {w : World} {base base' n : Nat} {e : TypeId} {v : Value} {xs : List Int} (h : OBn w base e v n xs) (hb : base' ≤ base) : OBn w base' e v n xs := by
  refine ⟨h.1, ?_⟩
  rcases h.2 with h0 | ⟨g, cap, cur, h1, h2, h3⟩
  · exact .inl h0
  · exact .inr ⟨g, cap, cur, h1, by omega, h3⟩
theorem copen_any (A : Option Addr) (n c : Nat) (xs : List Int) (w : World) (ha : RB w w.heap.size A n xs) (hy : Byt xs) (hn : n ≤ c) (hc : c ≤ maxLen) (hn2 : n ≤ 500000) :
    Calls Try.prog 34 #[.slice A n c] w fun e w' => ∃ v, e = .returned (.tuple #[v, .int .i64 (Ck.err xs)]) ∧ OB w' w.heap.size 5 v (Ck.open_ xs) ∧ Below w.heap.size w w' := by
  have hxl := ha.1
  by_cases h4 : n < 4
  · obtain ⟨e1, e2⟩ := Ck.open_few (xs := xs) (by omega)
    rw [e1, e2]
    clear hxl e1 e2
    go_enter Try.func34, Try.ntmps34
    go_wp2
    go_ret2
    exact ⟨_, rfl, OB.nil _ _ _, Below.refl _ _⟩
  · obtain ⟨k, hk⟩ : ∃ k, n = k + 4 := ⟨n - 4, by omega⟩
    obtain ⟨b, o, rfl, hb, _⟩ := ha.at0 (by omega)
    have sm := fun W (hW : Below w.heap.size w W) => sum_any (some ⟨b, o, none⟩) k c (xs.take k) W (((ha.front (k := k) (by omega)).below hW).more hW.size) (Ck.Byt.take hy k) (by omega) hc
    have cl := fun W (hW : Below w.heap.size w W) => slclone_any (some ⟨b, o, none⟩) k c (xs.take k) W (((ha.front (k := k) (by omega)).below hW).more hW.size) (by omega)
    have hsl := Ck.sum_lt (Ck.Byt.take hy k)
    have ly := fun W => lay_any (Ck.sum (xs.take k)) W hsl
    have hlr : Hid (∀ W, Below w.heap.size w W → RB W W.heap.size (some ⟨b, o + k, none⟩) 4 (xs.drop k)) := fun W hW => by
      have := ((ha.back (k := k) (by omega)).below hW).more hW.size
      rwa [show n - k = 4 from by omega] at this
    have eq : Hid (∀ W (A2 : Option Addr) d2 c2, Below w.heap.size w W → RB W W.heap.size A2 4 (Ck.lay (Ck.sum (xs.take k))) → Calls Try.prog 30 #[.slice (some ⟨b, o + k, none⟩) 4 c2, .slice A2 4 d2] W fun e w' => e = .returned (.bool (Ck.ok xs)) ∧ Below W.heap.size W w') := fun W A2 d2 c2 hW h2 => by
      rw [Ck.ok_dec (k := k) (by omega)]
      exact slequal_any (some ⟨b, o + k, none⟩) A2 4 4 c2 d2 _ _ W (hlr.out W hW) h2 (by omega) (by omega)
    have q4 : n - k = 4 := by omega
    have hck : ¬ c = k := by omega
    have s1 : IntKind.i64.wrap ((n : Int) - 4) = (k : Int) := by rw [IntWalk.i64_in _ (by omega)]; omega
    have hkn : k ≤ n := by omega
    have hkc : k ≤ c := by omega
    have g4 : decide ((n : Int) < 4) = false := by simp; omega
    have SM := Lib.hid sm; have LY := Lib.hid ly; have CL := Lib.hid cl
    have HK := Lib.hid hk
    unfold maxLen at hc
    cases hok : Ck.ok xs with
    | true =>
      obtain ⟨e1, e2⟩ := Ck.open_ok (xs := xs) (k := k) (by omega) hok
      rw [e1, e2]
      rw [hok] at eq
      have HXL := Lib.hid hxl
      clear sm ly cl hxl hk hsl ha hok e1 e2 h4
      generalize Ck.sum (xs.take k) = q at *
      have hacc : Below w.heap.size w w.drew := (Below.refl _ _).drew
      go_enter Try.func34, Try.ntmps34
      go_wp2
      go_region_law (first
        | (go_simp; go_at_call 47; (with_reducible refine (SM.out _ hacc).mono ?_); rintro e w1 ⟨rfl, hb1⟩; replace hacc := bthen hacc hb1; clear hb1)
        | (go_simp; go_at_call 46; (with_reducible refine (LY.out _).mono ?_); rintro e w2 ⟨v2, rfl, ho2, hb2⟩; obtain ⟨B2, d2, rfl, hr2, hd2, hm2⟩ := ho2.slice; replace hacc := bthen hacc hb2; have HR2 := Lib.hid hr2; clear hb2 ho2 hr2 hm2)
        | (go_simp; go_at_call 30; (with_reducible refine (eq.out _ _ _ _ hacc HR2.out).mono ?_); rintro e w3 ⟨rfl, hb3⟩; replace hacc := bthen hacc hb3; clear hb3))
      all_goals
        go_wp2_with (first | (go_at_call 48; (with_reducible refine (CL.out _ hacc).mono ?_); rintro e w4 ⟨v4, rfl, ho4, hb4⟩; have HO4 := Lib.hid (OBn.low ho4 hacc.size); replace hacc := bthen hacc hb4; clear ho4 hb4))
        go_ret2
        exact ⟨v4, rfl, HO4.out.ob, hacc⟩
    | false =>
      obtain ⟨e1, e2⟩ := Ck.open_bad (xs := xs) (by omega) hok
      rw [e1, e2]
      rw [hok] at eq
      have HXL := Lib.hid hxl
      clear sm ly cl hxl hk hsl ha hok e1 e2 h4
      generalize Ck.sum (xs.take k) = q at *
      have hacc : Below w.heap.size w w.drew := (Below.refl _ _).drew
      go_enter Try.func34, Try.ntmps34
      go_wp2
      go_region_law (first
        | (go_simp; go_at_call 47; (with_reducible refine (SM.out _ hacc).mono ?_); rintro e w1 ⟨rfl, hb1⟩; replace hacc := bthen hacc hb1; clear hb1)
        | (go_simp; go_at_call 46; (with_reducible refine (LY.out _).mono ?_); rintro e w2 ⟨v2, rfl, ho2, hb2⟩; obtain ⟨B2, d2, rfl, hr2, hd2, hm2⟩ := ho2.slice; replace hacc := bthen hacc hb2; have HR2 := Lib.hid hr2; clear hb2 ho2 hr2 hm2)
        | (go_simp; go_at_call 30; (with_reducible refine (eq.out _ _ _ _ hacc HR2.out).mono ?_); rintro e w3 ⟨rfl, hb3⟩; replace hacc := bthen hacc hb3; clear hb3))
      all_goals
        go_wp2
        go_ret2
        exact ⟨_, rfl, OB.nil _ _ _, hacc⟩
theorem refcopen_any (A : Option Addr) (n c : Nat) (xs : List Int) (w : World) (ha : RB w w.heap.size A n xs) (hy : Byt xs) (hn : n ≤ c) (hc : c ≤ maxLen) (hn2 : n ≤ 500000) :
    Calls Try.prog 39 #[.slice A n c] w fun e w' => (∃ A2 m c2, e = .returned (.tuple #[.slice A2 m c2, .int .i64 (Ck.err xs)]) ∧ RB w w.heap.size A2 m (Ck.open_ xs) ∧ m ≤ n) ∧ Below w.heap.size w w' := by
  have hxl := ha.1
  by_cases h4 : n < 4
  · obtain ⟨e1, e2⟩ := Ck.open_few (xs := xs) (by omega)
    rw [e1, e2]
    clear hxl e1 e2
    go_enter Try.func39, Try.ntmps39
    go_wp2
    go_ret2
    exact ⟨⟨none, 0, 0, rfl, RB.nil, by omega⟩, Below.refl _ _⟩
  · obtain ⟨k, hk⟩ : ∃ k, n = k + 4 := ⟨n - 4, by omega⟩
    obtain ⟨b, o, rfl, hb, _⟩ := ha.at0 (by omega)
    have sm := refsum_any (some ⟨b, o, none⟩) k c (xs.take k) w (ha.front (by omega)) (Ck.Byt.take hy k) (by omega)
    have HF := Lib.hid (ha.front (k := k) (by omega))
    have hsl := Ck.sum_lt (Ck.Byt.take hy k)
    have c0 := ha.at_' (k := k) (by omega)
    have c1 := ha.at_' (k := k + 1) (by omega)
    have c2 := ha.at_' (k := k + 2) (by omega)
    have c3 := ha.at_' (k := k + 3) (by omega)
    have b0 := hy k; have b1 := hy (k + 1); have b2 := hy (k + 2); have b3 := hy (k + 3)
    have hd : xs.drop k = [xs.getD k 0, xs.getD (k + 1) 0, xs.getD (k + 2) 0, xs.getD (k + 3) 0] := by
      apply List.ext_getElem (by simp; omega)
      intro i h1 h2
      rcases (by simp at h2; omega : i = 0 ∨ i = 1 ∨ i = 2 ∨ i = 3) with rfl | rfl | rfl | rfl <;> simp [List.getD, show k < xs.length from by omega, show k + 1 < xs.length from by omega, show k + 2 < xs.length from by omega, show k + 3 < xs.length from by omega]
    have hokd := Ck.ok_dec (xs := xs) (k := k) (by omega)
    rw [hd] at hokd
    have OB := Lib.hid (fun h => Ck.open_bad (xs := xs) (by omega) h)
    have OK := Lib.hid (fun h => Ck.open_ok (xs := xs) (k := k) (by omega) h)
    generalize xs.getD k 0 = x0 at *
    generalize xs.getD (k + 1) 0 = x1 at *
    generalize xs.getD (k + 2) 0 = x2 at *
    generalize xs.getD (k + 3) 0 = x3 at *
    generalize Ck.sum (xs.take k) = q at *
    obtain ⟨x0, rfl⟩ : ∃ z : Nat, x0 = (z : Int) := ⟨x0.toNat, by omega⟩
    obtain ⟨x1, rfl⟩ : ∃ z : Nat, x1 = (z : Int) := ⟨x1.toNat, by omega⟩
    obtain ⟨x2, rfl⟩ : ∃ z : Nat, x2 = (z : Int) := ⟨x2.toNat, by omega⟩
    obtain ⟨x3, rfl⟩ : ∃ z : Nat, x3 = (z : Int) := ⟨x3.toNat, by omega⟩
    have hw := Ck.lay_word hsl (show x0 < 256 by omega) (show x1 < 256 by omega) (show x2 < 256 by omega) (show x3 < 256 by omega)
    rw [show decide ([(x0 : Int), x1, x2, x3] = Ck.lay q) = decide (q = Ck.word x0 x1 x2 x3) from by rw [decide_eq_decide]; exact hw] at hokd
    have hwl := Ck.word_lt (show x0 < 256 by omega) (show x1 < 256 by omega) (show x2 < 256 by omega) (show x3 < 256 by omega)
    have hwe : Hid ((x0 : Int) + 256 * x1 + 65536 * x2 + 16777216 * x3 = (Ck.word x0 x1 x2 x3 : Nat)) := by show _ = _; unfold Ck.word; omega
    generalize Ck.word x0 x1 x2 x3 = t at *
    clear hd hw
    have s1 : IntKind.i64.wrap ((n : Int) - 4) = (k : Int) := by rw [IntWalk.i64_in _ (by omega)]; omega
    have u0 : IntKind.u32.wrap (x0 : Int) = (x0 : Int) := by rw [IntKind.wrap_u32']; omega
    have u1 : IntKind.u32.wrap (x1 : Int) = (x1 : Int) := by rw [IntKind.wrap_u32']; omega
    have u2 : IntKind.u32.wrap (x2 : Int) = (x2 : Int) := by rw [IntKind.wrap_u32']; omega
    have u3 : IntKind.u32.wrap (x3 : Int) = (x3 : Int) := by rw [IntKind.wrap_u32']; omega
    have v1 : IntKind.u32.wrap (256 * (x1 : Int)) = 256 * (x1 : Int) := by rw [IntKind.wrap_u32']; omega
    have v2 : IntKind.u32.wrap (65536 * (x2 : Int)) = 65536 * (x2 : Int) := by rw [IntKind.wrap_u32']; omega
    have v3 : IntKind.u32.wrap (16777216 * (x3 : Int)) = 16777216 * (x3 : Int) := by rw [IntKind.wrap_u32']; omega
    have v4 : IntKind.u32.wrap ((x0 : Int) + 256 * x1) = (x0 : Int) + 256 * x1 := by rw [IntKind.wrap_u32']; omega
    have v5 : IntKind.u32.wrap ((x0 : Int) + 256 * x1 + 65536 * x2) = (x0 : Int) + 256 * x1 + 65536 * x2 := by rw [IntKind.wrap_u32']; omega
    have v6 : IntKind.u32.wrap ((x0 : Int) + 256 * x1 + 65536 * x2 + 16777216 * x3) = (t : Int) := by rw [hwe.out, IntKind.wrap_u32']; omega
    have hkn : k ≤ n := by omega
    have hkc : k ≤ c := by omega
    have e1 : (k : Int) + 1 < n := by omega
    have e2 : (k : Int) + 2 < n := by omega
    have e3 : (k : Int) + 3 < n := by omega
    have e0 : (k : Int) < n := by omega
    have SM := Lib.hid sm; have HK := Lib.hid hk
    unfold maxLen at hc
    by_cases hq : q = t
    · have hok : Ck.ok xs = true := by rw [hokd]; simpa using hq
      obtain ⟨f1, f2⟩ := OK.out hok
      rw [f1, f2]
      have g : ((q : Int) != (t : Int)) = false := by simp; omega
      have HXL := Lib.hid hxl
      clear sm hxl hk hokd hok f1 f2 h4 hq OK OB ha
      go_enter Try.func39, Try.ntmps39
      go_wp2_with (go_at_call 33; (with_reducible refine SM.out.mono ?_); rintro e w' ⟨rfl, rfl⟩)
      go_quiet (fail)
      go_wp2
      go_ret2
      exact ⟨⟨some ⟨b, o, none⟩, k, c, rfl, HF.out, hkn⟩, below_drewN (Below.refl _ _) _⟩
    · have hok : Ck.ok xs = false := by rw [hokd]; simpa using hq
      obtain ⟨f1, f2⟩ := OB.out hok
      rw [f1, f2]
      have g : ((q : Int) != (t : Int)) = true := by simp; omega
      have HXL := Lib.hid hxl
      clear sm hxl hk hokd hok f1 f2 h4 hq OK OB ha
      go_enter Try.func39, Try.ntmps39
      go_wp2_with (go_at_call 33; (with_reducible refine SM.out.mono ?_); rintro e w' ⟨rfl, rfl⟩)
      go_quiet (fail)
      go_wp2
      go_ret2
      exact ⟨⟨none, 0, 0, rfl, RB.nil, by omega⟩, below_drewN (Below.refl _ _) _⟩
end Go.Proofs.Ytjiafpmcibokbaa
