/- WALKS OF LAYER 12 (digest), FIRST PART: the reference's turn, product, square, cube, root. -/
import Derived.Test.YtfggknplekiaoaaDoorCm
import Derived.Test.YtfggknplekiaoaaDoorOb
import Derived.Test.YtfggknplekiaoaaDoorM12
namespace Go.Proofs.YtfggknplekiaoaaDoor
open Go.RowKit
set_option maxHeartbeats 400000
set_option maxRecDepth 100000
set_option linter.unusedVariables false
namespace Dg
theorem rot_lt {x : Nat} (n : Nat) (hx : x < 4294967296) : rot x n < 4294967296 :=
  Nat.or_lt_two_pow (n := 32) (Nat.lt_of_le_of_lt (Nat.div_le_self _ _) hx) (Nat.mod_lt _ (by omega))
theorem rot_or {x : Nat} (n : Nat) (hx : x < 4294967296) : bits .or .u32 ((x : Int) / 2 ^ n) ((x : Int) * 2 ^ (32 - n) % 4294967296) = (rot x n : Nat) := by
  have e1 : (x : Int) / 2 ^ n = ((x / 2 ^ n : Nat) : Int) := by simp
  have e2 : (x : Int) * 2 ^ (32 - n) % 4294967296 = ((x * 2 ^ (32 - n) % 4294967296 : Nat) : Int) := by simp
  rw [e1, e2]
  exact u32_or_nat _ _ (Nat.lt_of_le_of_lt (Nat.div_le_self _ _) hx) (Nat.mod_lt _ (by omega))
end Dg
theorem turn_any (x n : Nat) (w : World) (hx : x < 4294967296) (h1 : 1 ≤ n) (h2 : n ≤ 31) :
    Calls Tryd.prog 18 #[.int .u32 x, .int .i64 n] w fun e w' => e = .returned (.int .u32 (Dg.rot x n : Nat)) ∧ ∃ m, w' = w.drewN m := by
  go_enter Tryd.func18, Tryd.ntmps18
  go_wp2
  go_quiet (fail)
  go_wp2
  go_ret
  exact ⟨by rw [Dg.rot_or n hx]; rfl, _, rfl⟩
namespace Dg
def q (z i : Nat) : Nat := z / 4294967296 ^ i % 4294967296
theorem four_parts {z p00 p10 p01 p11 : Nat} (hz : z = p00 + 4294967296 * (p10 + p01) + 18446744073709551616 * p11) (h0 : p00 ≤ 18446744065119617025) (h1 : p10 ≤ 18446744065119617025) (h2 : p01 ≤ 18446744065119617025) (h3 : p11 ≤ 18446744065119617025) (hl : z < 340282366920938463463374607431768211456) :
    q z 0 = p00 % 4294967296 ∧ q z 1 = (p00 / 4294967296 + p10 % 4294967296 + p01 % 4294967296) % 4294967296 ∧
    q z 2 = ((p00 / 4294967296 + p10 % 4294967296 + p01 % 4294967296) / 4294967296 + p10 / 4294967296 + p01 / 4294967296 + p11 % 4294967296) % 4294967296 ∧
    q z 3 = ((p00 / 4294967296 + p10 % 4294967296 + p01 % 4294967296) / 4294967296 + p10 / 4294967296 + p01 / 4294967296 + p11 % 4294967296) / 4294967296 + p11 / 4294967296 := by
  unfold q
  rw [show 4294967296 ^ 0 = 1 from rfl, show 4294967296 ^ 1 = 4294967296 from rfl, show 4294967296 ^ 2 = 18446744073709551616 from rfl, show 4294967296 ^ 3 = 79228162514264337593543950336 from rfl]
  omega
theorem split {a b : Nat} (ha : a < 18446744073709551616) (hb : b < 18446744073709551616) : a * b = (a % 4294967296) * (b % 4294967296) + 4294967296 * ((a / 4294967296) * (b % 4294967296) + (a % 4294967296) * (b / 4294967296)) + 18446744073709551616 * ((a / 4294967296) * (b / 4294967296)) := by
  have h1 := Nat.div_add_mod a 4294967296
  have h2 := Nat.div_add_mod b 4294967296
  generalize a / 4294967296 = x at *
  generalize a % 4294967296 = y at *
  generalize b / 4294967296 = u at *
  generalize b % 4294967296 = v at *
  subst h1 h2
  rw [Nat.add_mul, Nat.mul_add, Nat.mul_add, Nat.mul_add]
  have e1 : 4294967296 * x * (4294967296 * u) = 18446744073709551616 * (x * u) := by
    rw [Nat.mul_assoc, Nat.mul_left_comm x, ← Nat.mul_assoc]
  have e2 : 4294967296 * x * v = 4294967296 * (x * v) := Nat.mul_assoc ..
  have e3 : y * (4294967296 * u) = 4294967296 * (y * u) := Nat.mul_left_comm ..
  omega
theorem part_le {x y : Nat} (hx : x < 4294967296) (hy : y < 4294967296) : x * y ≤ 18446744065119617025 := by
  have := Nat.mul_le_mul (show x ≤ 4294967295 by omega) (show y ≤ 4294967295 by omega)
  omega
theorem wmul {x y p : Nat} (h : x * y = p) (hl : p ≤ 18446744065119617025) : IntKind.u64.wrap ((x : Int) * (y : Int)) = (p : Int) := by
  rw [IntKind.wrap_u64, ← Int.natCast_mul, h]
  omega
end Dg
theorem product_any (a b : Nat) (w : World) (ha : a < 18446744073709551616) (hb : b < 18446744073709551616) :
    Calls Tryd.prog 27 #[.int .u64 a, .int .u64 b] w fun e w' => e = .returned (.agg #[.int .u64 (Dg.q (a * b) 0 : Nat), .int .u64 (Dg.q (a * b) 1 : Nat), .int .u64 (Dg.q (a * b) 2 : Nat), .int .u64 (Dg.q (a * b) 3 : Nat)]) ∧ Below w.heap.size w w' := by
  have hz := Dg.split ha hb
  have hl : a * b < 340282366920938463463374607431768211456 := Nat.mul_lt_mul'' ha hb
  have l00 := Dg.part_le (x := a % 4294967296) (y := b % 4294967296) (by omega) (by omega)
  have l10 := Dg.part_le (x := a / 4294967296) (y := b % 4294967296) (by omega) (by omega)
  have l01 := Dg.part_le (x := a % 4294967296) (y := b / 4294967296) (by omega) (by omega)
  have l11 := Dg.part_le (x := a / 4294967296) (y := b / 4294967296) (by omega) (by omega)
  obtain ⟨p00, h00⟩ : ∃ p, a % 4294967296 * (b % 4294967296) = p := ⟨_, rfl⟩
  obtain ⟨p10, h10⟩ : ∃ p, a / 4294967296 * (b % 4294967296) = p := ⟨_, rfl⟩
  obtain ⟨p01, h01⟩ : ∃ p, a % 4294967296 * (b / 4294967296) = p := ⟨_, rfl⟩
  obtain ⟨p11, h11⟩ : ∃ p, a / 4294967296 * (b / 4294967296) = p := ⟨_, rfl⟩
  rw [h00] at hz l00; rw [h10] at hz l10; rw [h01] at hz l01; rw [h11] at hz l11
  have f00 : IntKind.u64.wrap ((a : Int) % 4294967296 * ((b : Int) % 4294967296)) = (p00 : Int) := Dg.wmul h00 l00
  have f10 : IntKind.u64.wrap ((a : Int) / 4294967296 * ((b : Int) % 4294967296)) = (p10 : Int) := Dg.wmul h10 l10
  have f01 : IntKind.u64.wrap ((a : Int) % 4294967296 * ((b : Int) / 4294967296)) = (p01 : Int) := Dg.wmul h01 l01
  have f11 : IntKind.u64.wrap ((a : Int) / 4294967296 * ((b : Int) / 4294967296)) = (p11 : Int) := Dg.wmul h11 l11
  obtain ⟨z, hzz⟩ : ∃ z, a * b = z := ⟨_, rfl⟩
  rw [hzz] at hz hl ⊢
  obtain ⟨e0, e1, e2, e3⟩ := Dg.four_parts hz l00 l10 l01 l11 hl
  have E0 := Lib.hid e0; have E1 := Lib.hid e1; have E2 := Lib.hid e2; have E3 := Lib.hid e3
  clear hz h00 h10 h01 h11 hzz hl e0 e1 e2 e3
  go_enter Tryd.func27, Tryd.ntmps27
  go_wp2
  refine bodyPost_ret (v := .agg #[.int .u64 (Dg.q z 0 : Nat), .int .u64 (Dg.q z 1 : Nat), .int .u64 (Dg.q z 2 : Nat), .int .u64 (Dg.q z 3 : Nat)]) (by simp [results, Tryd.f27, go_sem]; have := E0.out; have := E1.out; have := E2.out; have := E3.out; omega) rfl ⟨rfl, ?_⟩
  exact ((Below.refl _ _).alloc (Nat.le_refl _) _).alloc (by simp) _
namespace Dg
theorem sq_high (z : Nat) (hl : z < 340282366920938463463374607431768211456) : q z 2 + q z 3 * 4294967296 = z / 18446744073709551616 := by
  unfold q
  rw [show 4294967296 ^ 2 = 18446744073709551616 from rfl, show 4294967296 ^ 3 = 79228162514264337593543950336 from rfl]
  omega
theorem q_lt (z i : Nat) : q z i < 4294967296 := Nat.mod_lt _ (by omega)
theorem sq_low (z : Nat) : (q z 0 = 0 ∧ q z 1 = 0) ↔ z % 18446744073709551616 = 0 := by
  unfold q
  rw [show 4294967296 ^ 0 = 1 from rfl, show 4294967296 ^ 1 = 4294967296 from rfl]
  omega
theorem sq_lt {x p : Nat} (h : x * x / 18446744073709551616 < p) : sq x p = true := by unfold sq; rw [decide_eq_true_iff]; omega
theorem sq_gt {x p : Nat} (h : p < x * x / 18446744073709551616) : sq x p = false := by unfold sq; rw [decide_eq_false_iff_not]; omega
theorem sq_eq {x p : Nat} (h : x * x / 18446744073709551616 = p) : sq x p = decide (x * x % 18446744073709551616 = 0) := by unfold sq; rw [decide_eq_decide]; omega
end Dg
theorem square_any (x p : Nat) (w : World) (hx : x < 18446744073709551616) (hp : p < 100000) :
    Calls Tryd.prog 24 #[.int .u64 x, .int .i64 p] w fun e w' => e = .returned (.bool (Dg.sq x p)) ∧ Below w.heap.size w w' := by
  have pr := Lib.hid (fun W => product_any x x W hx hx)
  have hz : x * x < 340282366920938463463374607431768211456 := Nat.mul_lt_mul'' hx hx
  have hh := Dg.sq_high _ hz
  have hlow := Dg.sq_low (x * x)
  have q0 := Dg.q_lt (x * x) 0; have q1 := Dg.q_lt (x * x) 1; have q2 := Dg.q_lt (x * x) 2; have q3 := Dg.q_lt (x * x) 3
  have L := fun h => Dg.sq_lt (x := x) (p := p) h
  have G := fun h => Dg.sq_gt (x := x) (p := p) h
  have E := fun h => Dg.sq_eq (x := x) (p := p) h
  generalize x * x = z at *
  generalize Dg.sq x p = r at *
  generalize Dg.q z 0 = a0 at *
  generalize Dg.q z 1 = a1 at *
  generalize Dg.q z 2 = a2 at *
  generalize Dg.q z 3 = a3 at *
  obtain ⟨hi, hhi⟩ : ∃ h, z / 18446744073709551616 = h := ⟨_, rfl⟩
  rw [hhi] at hh L G E
  have s1 : IntKind.u64.wrap ((a3 : Int) * 4294967296) = (a3 : Int) * 4294967296 := by rw [IntKind.wrap_u64]; omega
  have s2 : IntKind.u64.wrap ((a2 : Int) + (a3 : Int) * 4294967296) = (hi : Int) := by rw [IntKind.wrap_u64]; omega
  have s3 : IntKind.u64.wrap (p : Int) = (p : Int) := by rw [IntKind.wrap_u64]; omega
  clear hz hhi
  rcases Nat.lt_trichotomy hi p with h | h | h
  · obtain rfl := L h
    clear L G E hlow hh
    go_enter Tryd.func24, Tryd.ntmps24
    go_wp2_with (go_at_call 27; (with_reducible refine (pr.out _).mono ?_); rintro e w1 ⟨rfl, hb1⟩)
    go_ret
    exact ⟨rfl, hb1.alloc hb1.size _⟩
  · have e := E h
    subst h
    clear L G E hh
    by_cases h0 : a0 = 0
    · by_cases h1 : a1 = 0
      · obtain rfl : r = true := by rw [e]; exact decide_eq_true (hlow.1 ⟨h0, h1⟩)
        subst h0 h1
        clear e hlow
        go_enter Tryd.func24, Tryd.ntmps24
        go_wp2_with (go_at_call 27; (with_reducible refine (pr.out _).mono ?_); rintro e w1 ⟨rfl, hb1⟩)
        go_ret
        exact ⟨rfl, hb1.alloc hb1.size _⟩
      · obtain rfl : r = false := by rw [e]; exact decide_eq_false (fun hh => h1 (hlow.2 hh).2)
        subst h0
        have g : ((a1 : Int) == 0) = false := by simp; omega
        clear e hlow
        go_enter Tryd.func24, Tryd.ntmps24
        go_wp2_with (go_at_call 27; (with_reducible refine (pr.out _).mono ?_); rintro e w1 ⟨rfl, hb1⟩)
        go_ret
        exact ⟨rfl, hb1.alloc hb1.size _⟩
    · obtain rfl : r = false := by rw [e]; exact decide_eq_false (fun hh => h0 (hlow.2 hh).1)
      have g : ((a0 : Int) == 0) = false := by simp; omega
      clear e hlow
      go_enter Tryd.func24, Tryd.ntmps24
      go_wp2_with (go_at_call 27; (with_reducible refine (pr.out _).mono ?_); rintro e w1 ⟨rfl, hb1⟩)
      go_ret
      exact ⟨rfl, hb1.alloc hb1.size _⟩
  · obtain rfl := G h
    have g : ((hi : Int) == (p : Int)) = false := by simp; omega
    have g2 : ¬ hi < p := by omega
    clear L G E hlow hh
    go_enter Tryd.func24, Tryd.ntmps24
    go_wp2_with (go_at_call 27; (with_reducible refine (pr.out _).mono ?_); rintro e w1 ⟨rfl, hb1⟩)
    go_ret
    exact ⟨rfl, hb1.alloc hb1.size _⟩
namespace Dg
theorem sq_rest (z : Nat) : q z 0 + q z 1 * 4294967296 = z % 18446744073709551616 := by
  unfold q
  rw [show 4294967296 ^ 0 = 1 from rfl, show 4294967296 ^ 1 = 4294967296 from rfl]
  omega
theorem digits (z : Nat) (hl : z < 340282366920938463463374607431768211456) : z = q z 0 + 4294967296 * q z 1 + 18446744073709551616 * q z 2 + 79228162514264337593543950336 * q z 3 := by
  unfold q
  rw [show 4294967296 ^ 0 = 1 from rfl, show 4294967296 ^ 1 = 4294967296 from rfl, show 4294967296 ^ 2 = 18446744073709551616 from rfl, show 4294967296 ^ 3 = 79228162514264337593543950336 from rfl]
  omega
/-- A cube, by the digits of its two parts: how it stands to a prime. -/
theorem cu_parts {C p l0 l1 l2 l3 h0 h1 h2 h3 : Nat} (hC : C = (l0 + 4294967296 * l1 + 18446744073709551616 * l2 + 79228162514264337593543950336 * l3) + 18446744073709551616 * (h0 + 4294967296 * h1 + 18446744073709551616 * h2 + 79228162514264337593543950336 * h3))
    (b0 : l0 < 4294967296) (b1 : l1 < 4294967296) (hp : p < 100000) (h3z : h3 = 0) :
    (h2 + (l3 + h1 + (l2 + h0) / 4294967296) / 4294967296 ≠ 0 → ¬ C ≤ p * 79228162514264337593543950336) ∧
    (h2 + (l3 + h1 + (l2 + h0) / 4294967296) / 4294967296 = 0 → (l3 + h1 + (l2 + h0) / 4294967296) % 4294967296 < p → C ≤ p * 79228162514264337593543950336) ∧
    (h2 + (l3 + h1 + (l2 + h0) / 4294967296) / 4294967296 = 0 → p < (l3 + h1 + (l2 + h0) / 4294967296) % 4294967296 → ¬ C ≤ p * 79228162514264337593543950336) ∧
    (h2 + (l3 + h1 + (l2 + h0) / 4294967296) / 4294967296 = 0 → (l3 + h1 + (l2 + h0) / 4294967296) % 4294967296 = p → (C ≤ p * 79228162514264337593543950336 ↔ l0 = 0 ∧ l1 = 0 ∧ (l2 + h0) % 4294967296 = 0)) := by
  refine ⟨?_, ?_, ?_, ?_⟩ <;> omega
theorem cu_eq (x p : Nat) : cu x p = decide (x * x * x ≤ p * 79228162514264337593543950336) := rfl
end Dg
theorem box_after {w w' : World} {cs : Array Value} {e : TypeId} (hb : Below (w.alloc (.cells cs e)).heap.size (w.alloc (.cells cs e)) w') {j : Nat} {v : Value} (hj : cs[j]? = some v) : w'.cell? ⟨w.heap.size, j, none⟩ = some v := by
  rw [hb.cell (p := ⟨w.heap.size, j, none⟩) (by simp), cell_of_row (w.alloc (.cells cs e)) w.heap.size j cs e (0, 0) (heap_alloc_new w _), hj]
theorem box_after2 {w w' : World} {cs : Array Value} {e : TypeId} (hb : Below (w.alloc (.cells cs e)).heap.size (w.alloc (.cells cs e)) w') {j : Nat} {v : Value} (o : Obj) (hj : cs[j]? = some v) : (w'.alloc o).cell? ⟨w.heap.size, j, none⟩ = some v := by
  rw [World.cell?_alloc_lt w' o _ (by have := hb.size; simp at this; exact this)]
  exact box_after hb hj
theorem cube_any (x p : Nat) (w : World) (hx : x < 137438953472) (hp : p < 100000) :
    Calls Tryd.prog 23 #[.int .u64 x, .int .i64 p] w fun e w' => e = .returned (.bool (Dg.cu x p)) ∧ Below w.heap.size w w' := by
  have pz := fun W => product_any x x W (by omega) (by omega)
  have hz : x * x < 18889465931478580854784 := by have := Nat.mul_lt_mul'' hx hx; omega
  have hr := Dg.sq_rest (x * x)
  have hh := Dg.sq_high (x * x) (by omega)
  have b0 := Dg.q_lt (x * x) 0; have b1 := Dg.q_lt (x * x) 1; have b2 := Dg.q_lt (x * x) 2; have b3 := Dg.q_lt (x * x) 3
  have hcu := Dg.cu_eq x p
  generalize Dg.q (x * x) 0 = a0 at *
  generalize Dg.q (x * x) 1 = a1 at *
  generalize Dg.q (x * x) 2 = a2 at *
  generalize Dg.q (x * x) 3 = a3 at *
  generalize x * x = z at *
  obtain ⟨zl, hzl⟩ : ∃ h, z % 18446744073709551616 = h := ⟨_, rfl⟩
  obtain ⟨zh, hzh⟩ : ∃ h, z / 18446744073709551616 = h := ⟨_, rfl⟩
  rw [hzl] at hr; rw [hzh] at hh
  have hzz : z = zl + 18446744073709551616 * zh := by omega
  have hzl2 : zl < 18446744073709551616 := by omega
  have hzh2 : zh < 1024 := by omega
  have pl := fun W => product_any zl x W hzl2 (by omega)
  have ph := fun W => product_any zh x W (by omega) (by omega)
  have hL : zl * x < 340282366920938463463374607431768211456 := by have := Nat.mul_lt_mul'' hzl2 (show x < 18446744073709551616 by omega); omega
  have hH : zh * x < 140737488355328 := by have := Nat.mul_lt_mul'' hzh2 hx; omega
  have hC : z * x = zl * x + 18446744073709551616 * (zh * x) := by rw [hzz, Nat.add_mul, Nat.mul_assoc]
  have dl := Dg.digits (zl * x) hL
  have dh := Dg.digits (zh * x) (by omega)
  have h3z : Dg.q (zh * x) 3 = 0 := by unfold Dg.q; rw [show 4294967296 ^ 3 = 79228162514264337593543950336 from rfl, Nat.div_eq_of_lt (by omega)]
  have c0 := Dg.q_lt (zl * x) 0; have c1 := Dg.q_lt (zl * x) 1; have c2 := Dg.q_lt (zl * x) 2; have c3 := Dg.q_lt (zl * x) 3
  have d0 := Dg.q_lt (zh * x) 0; have d1 := Dg.q_lt (zh * x) 1; have d2 := Dg.q_lt (zh * x) 2
  rw [dl, dh] at hC
  clear dl dh hL hH hz hzz hzl hzh
  generalize Dg.q (zl * x) 0 = l0 at *
  generalize Dg.q (zl * x) 1 = l1 at *
  generalize Dg.q (zl * x) 2 = l2 at *
  generalize Dg.q (zl * x) 3 = l3 at *
  generalize Dg.q (zh * x) 0 = h0 at *
  generalize Dg.q (zh * x) 1 = h1 at *
  generalize Dg.q (zh * x) 2 = h2 at *
  generalize Dg.q (zh * x) 3 = h3 at *
  obtain ⟨e1, e2, e3, e4⟩ := Dg.cu_parts hC c0 c1 hp h3z
  clear hC h3z
  generalize z * x = C at *
  obtain ⟨m, hm⟩ : ∃ m, l2 + h0 = m := ⟨_, rfl⟩
  obtain ⟨t, ht⟩ : ∃ t, l3 + h1 + m / 4294967296 = t := ⟨_, rfl⟩
  obtain ⟨ov, hov⟩ : ∃ o, h2 + t / 4294967296 = o := ⟨_, rfl⟩
  obtain ⟨wh, hwh⟩ : ∃ o, t % 4294967296 = o := ⟨_, rfl⟩
  obtain ⟨mr, hmr⟩ : ∃ o, m % 4294967296 = o := ⟨_, rfl⟩
  rw [hm, ht, hov] at e1 e2 e3 e4
  rw [hwh] at e2 e3 e4
  rw [hmr] at e4
  have s1 : IntKind.u64.wrap ((a1 : Int) * 4294967296) = (a1 : Int) * 4294967296 := by rw [IntKind.wrap_u64]; omega
  have s2 : IntKind.u64.wrap ((a0 : Int) + (a1 : Int) * 4294967296) = (zl : Int) := by rw [IntKind.wrap_u64]; omega
  have s3 : IntKind.u64.wrap ((a3 : Int) * 4294967296) = (a3 : Int) * 4294967296 := by rw [IntKind.wrap_u64]; omega
  have s4 : IntKind.u64.wrap ((a2 : Int) + (a3 : Int) * 4294967296) = (zh : Int) := by rw [IntKind.wrap_u64]; omega
  have s5 : IntKind.u64.wrap ((l2 : Int) + (h0 : Int)) = (m : Int) := by rw [IntKind.wrap_u64]; omega
  have s6 : IntKind.u64.wrap ((l3 : Int) + (h1 : Int)) = (l3 : Int) + (h1 : Int) := by rw [IntKind.wrap_u64]; omega
  have s7 : IntKind.u64.wrap ((l3 : Int) + (h1 : Int) + (m : Int) / 4294967296) = (t : Int) := by rw [IntKind.wrap_u64]; omega
  have s8 : IntKind.u64.wrap ((h2 : Int) + (t : Int) / 4294967296) = (ov : Int) := by rw [IntKind.wrap_u64]; omega
  have s9 : (t : Int) % 4294967296 = (wh : Int) := by omega
  have sa : (m : Int) % 4294967296 = (mr : Int) := by omega
  have sb : IntKind.u64.wrap (p : Int) = (p : Int) := by rw [IntKind.wrap_u64]; omega
  have hov2 : ov < 100000000000 := by omega
  have hwh2 : wh < 4294967296 := by omega
  have hmr2 : mr < 4294967296 := by omega
  have hm2 : m < 8589934592 := by omega
  have ht2 : t < 17179869184 := by omega
  have PZ := Lib.hid pz; have PL := Lib.hid pl; have PH := Lib.hid ph
  clear pz pl ph hm ht hov hwh hmr hr hh
  rw [hcu]
  clear hcu
  by_cases ho : ov = 0
  · subst ho
    rcases Nat.lt_trichotomy wh p with h | h | h
    · rw [decide_eq_true (e2 rfl h)]
      clear e1 e2 e3 e4
      go_enter Tryd.func23, Tryd.ntmps23
      go_wp2_with (first
        | (go_at_call 27; (with_reducible refine (PZ.out _).mono ?_); rintro e w1 ⟨rfl, hb1⟩; have HB1 := Lib.hid (hb1.alloc hb1.size (.cells #[.int .u64 a0, .int .u64 a1, .int .u64 a2, .int .u64 a3] 57)); clear hb1)
        | (go_at_call 27; (with_reducible refine (PL.out _).mono ?_); rintro e w2 ⟨rfl, hb2⟩; have x2 := box_after2 (j := 2) hb2 (.cells #[.int .u64 l0, .int .u64 l1, .int .u64 l2, .int .u64 l3] 57) rfl; have x3 := box_after2 (j := 3) hb2 (.cells #[.int .u64 l0, .int .u64 l1, .int .u64 l2, .int .u64 l3] 57) rfl; have HB2 := Lib.hid ((bthen HB1.out hb2).alloc (bthen HB1.out hb2).size (.cells #[.int .u64 l0, .int .u64 l1, .int .u64 l2, .int .u64 l3] 57)); clear hb2)
        | (go_at_call 27; (with_reducible refine (PH.out _).mono ?_); rintro e w3 ⟨rfl, hb3⟩; have y0 := box_after2 (j := 0) hb3 (.cells #[.int .u64 h0, .int .u64 h1, .int .u64 h2, .int .u64 h3] 57) rfl; have y1 := box_after2 (j := 1) hb3 (.cells #[.int .u64 h0, .int .u64 h1, .int .u64 h2, .int .u64 h3] 57) rfl; have y2 := box_after2 (j := 2) hb3 (.cells #[.int .u64 h0, .int .u64 h1, .int .u64 h2, .int .u64 h3] 57) rfl; have y3 := box_after2 (j := 3) hb3 (.cells #[.int .u64 h0, .int .u64 h1, .int .u64 h2, .int .u64 h3] 57) rfl; have HB3 := Lib.hid ((bthen HB2.out hb3).alloc (bthen HB2.out hb3).size (.cells #[.int .u64 h0, .int .u64 h1, .int .u64 h2, .int .u64 h3] 57)); clear hb3))
      go_ret
      exact ⟨rfl, HB3.out⟩
    · have e5 := e4 rfl h
      subst h
      clear e1 e2 e3 e4
      by_cases z0 : l0 = 0
      · by_cases z1 : l1 = 0
        · by_cases z2 : mr = 0
          · rw [decide_eq_true (e5.2 ⟨z0, z1, z2⟩)]
            have g0 : ((l0 : Int) == 0) = true := by simp; omega
            have g1 : ((l1 : Int) == 0) = true := by simp; omega
            have g3 : ((mr : Int) == 0) = true := by simp; omega
            clear e5 z0 z1 z2
            go_enter Tryd.func23, Tryd.ntmps23
            go_wp2_with (first
              | (go_at_call 27; (with_reducible refine (PZ.out _).mono ?_); rintro e w1 ⟨rfl, hb1⟩; have HB1 := Lib.hid (hb1.alloc hb1.size (.cells #[.int .u64 a0, .int .u64 a1, .int .u64 a2, .int .u64 a3] 57)); clear hb1)
              | (go_at_call 27; (with_reducible refine (PL.out _).mono ?_); rintro e w2 ⟨rfl, hb2⟩; have x2 := box_after2 (j := 2) hb2 (.cells #[.int .u64 l0, .int .u64 l1, .int .u64 l2, .int .u64 l3] 57) rfl; have x3 := box_after2 (j := 3) hb2 (.cells #[.int .u64 l0, .int .u64 l1, .int .u64 l2, .int .u64 l3] 57) rfl; have HB2 := Lib.hid ((bthen HB1.out hb2).alloc (bthen HB1.out hb2).size (.cells #[.int .u64 l0, .int .u64 l1, .int .u64 l2, .int .u64 l3] 57)); clear hb2)
              | (go_at_call 27; (with_reducible refine (PH.out _).mono ?_); rintro e w3 ⟨rfl, hb3⟩; have y0 := box_after2 (j := 0) hb3 (.cells #[.int .u64 h0, .int .u64 h1, .int .u64 h2, .int .u64 h3] 57) rfl; have y1 := box_after2 (j := 1) hb3 (.cells #[.int .u64 h0, .int .u64 h1, .int .u64 h2, .int .u64 h3] 57) rfl; have y2 := box_after2 (j := 2) hb3 (.cells #[.int .u64 h0, .int .u64 h1, .int .u64 h2, .int .u64 h3] 57) rfl; have y3 := box_after2 (j := 3) hb3 (.cells #[.int .u64 h0, .int .u64 h1, .int .u64 h2, .int .u64 h3] 57) rfl; have HB3 := Lib.hid ((bthen HB2.out hb3).alloc (bthen HB2.out hb3).size (.cells #[.int .u64 h0, .int .u64 h1, .int .u64 h2, .int .u64 h3] 57)); clear hb3))
            go_ret
            exact ⟨rfl, HB3.out⟩
          · rw [decide_eq_false (fun hh => z2 (e5.1 hh).2.2)]
            have g : ((mr : Int) == 0) = false := by simp; omega
            have g0 : ((l0 : Int) == 0) = true := by simp; omega
            have g1 : ((l1 : Int) == 0) = true := by simp; omega
            clear e5 z0 z1 z2
            go_enter Tryd.func23, Tryd.ntmps23
            go_wp2_with (first
              | (go_at_call 27; (with_reducible refine (PZ.out _).mono ?_); rintro e w1 ⟨rfl, hb1⟩; have HB1 := Lib.hid (hb1.alloc hb1.size (.cells #[.int .u64 a0, .int .u64 a1, .int .u64 a2, .int .u64 a3] 57)); clear hb1)
              | (go_at_call 27; (with_reducible refine (PL.out _).mono ?_); rintro e w2 ⟨rfl, hb2⟩; have x2 := box_after2 (j := 2) hb2 (.cells #[.int .u64 l0, .int .u64 l1, .int .u64 l2, .int .u64 l3] 57) rfl; have x3 := box_after2 (j := 3) hb2 (.cells #[.int .u64 l0, .int .u64 l1, .int .u64 l2, .int .u64 l3] 57) rfl; have HB2 := Lib.hid ((bthen HB1.out hb2).alloc (bthen HB1.out hb2).size (.cells #[.int .u64 l0, .int .u64 l1, .int .u64 l2, .int .u64 l3] 57)); clear hb2)
              | (go_at_call 27; (with_reducible refine (PH.out _).mono ?_); rintro e w3 ⟨rfl, hb3⟩; have y0 := box_after2 (j := 0) hb3 (.cells #[.int .u64 h0, .int .u64 h1, .int .u64 h2, .int .u64 h3] 57) rfl; have y1 := box_after2 (j := 1) hb3 (.cells #[.int .u64 h0, .int .u64 h1, .int .u64 h2, .int .u64 h3] 57) rfl; have y2 := box_after2 (j := 2) hb3 (.cells #[.int .u64 h0, .int .u64 h1, .int .u64 h2, .int .u64 h3] 57) rfl; have y3 := box_after2 (j := 3) hb3 (.cells #[.int .u64 h0, .int .u64 h1, .int .u64 h2, .int .u64 h3] 57) rfl; have HB3 := Lib.hid ((bthen HB2.out hb3).alloc (bthen HB2.out hb3).size (.cells #[.int .u64 h0, .int .u64 h1, .int .u64 h2, .int .u64 h3] 57)); clear hb3))
            go_ret
            exact ⟨rfl, HB3.out⟩
        · rw [decide_eq_false (fun hh => z1 (e5.1 hh).2.1)]
          have g : ((l1 : Int) == 0) = false := by simp; omega
          have g0 : ((l0 : Int) == 0) = true := by simp; omega
          clear e5 z0 z1
          go_enter Tryd.func23, Tryd.ntmps23
          go_wp2_with (first
            | (go_at_call 27; (with_reducible refine (PZ.out _).mono ?_); rintro e w1 ⟨rfl, hb1⟩; have HB1 := Lib.hid (hb1.alloc hb1.size (.cells #[.int .u64 a0, .int .u64 a1, .int .u64 a2, .int .u64 a3] 57)); clear hb1)
            | (go_at_call 27; (with_reducible refine (PL.out _).mono ?_); rintro e w2 ⟨rfl, hb2⟩; have x2 := box_after2 (j := 2) hb2 (.cells #[.int .u64 l0, .int .u64 l1, .int .u64 l2, .int .u64 l3] 57) rfl; have x3 := box_after2 (j := 3) hb2 (.cells #[.int .u64 l0, .int .u64 l1, .int .u64 l2, .int .u64 l3] 57) rfl; have HB2 := Lib.hid ((bthen HB1.out hb2).alloc (bthen HB1.out hb2).size (.cells #[.int .u64 l0, .int .u64 l1, .int .u64 l2, .int .u64 l3] 57)); clear hb2)
            | (go_at_call 27; (with_reducible refine (PH.out _).mono ?_); rintro e w3 ⟨rfl, hb3⟩; have y0 := box_after2 (j := 0) hb3 (.cells #[.int .u64 h0, .int .u64 h1, .int .u64 h2, .int .u64 h3] 57) rfl; have y1 := box_after2 (j := 1) hb3 (.cells #[.int .u64 h0, .int .u64 h1, .int .u64 h2, .int .u64 h3] 57) rfl; have y2 := box_after2 (j := 2) hb3 (.cells #[.int .u64 h0, .int .u64 h1, .int .u64 h2, .int .u64 h3] 57) rfl; have y3 := box_after2 (j := 3) hb3 (.cells #[.int .u64 h0, .int .u64 h1, .int .u64 h2, .int .u64 h3] 57) rfl; have HB3 := Lib.hid ((bthen HB2.out hb3).alloc (bthen HB2.out hb3).size (.cells #[.int .u64 h0, .int .u64 h1, .int .u64 h2, .int .u64 h3] 57)); clear hb3))
          go_ret
          exact ⟨rfl, HB3.out⟩
      · rw [decide_eq_false (fun hh => z0 (e5.1 hh).1)]
        have g : ((l0 : Int) == 0) = false := by simp; omega
        clear e5
        go_enter Tryd.func23, Tryd.ntmps23
        go_wp2_with (first
          | (go_at_call 27; (with_reducible refine (PZ.out _).mono ?_); rintro e w1 ⟨rfl, hb1⟩; have HB1 := Lib.hid (hb1.alloc hb1.size (.cells #[.int .u64 a0, .int .u64 a1, .int .u64 a2, .int .u64 a3] 57)); clear hb1)
          | (go_at_call 27; (with_reducible refine (PL.out _).mono ?_); rintro e w2 ⟨rfl, hb2⟩; have x2 := box_after2 (j := 2) hb2 (.cells #[.int .u64 l0, .int .u64 l1, .int .u64 l2, .int .u64 l3] 57) rfl; have x3 := box_after2 (j := 3) hb2 (.cells #[.int .u64 l0, .int .u64 l1, .int .u64 l2, .int .u64 l3] 57) rfl; have HB2 := Lib.hid ((bthen HB1.out hb2).alloc (bthen HB1.out hb2).size (.cells #[.int .u64 l0, .int .u64 l1, .int .u64 l2, .int .u64 l3] 57)); clear hb2)
          | (go_at_call 27; (with_reducible refine (PH.out _).mono ?_); rintro e w3 ⟨rfl, hb3⟩; have y0 := box_after2 (j := 0) hb3 (.cells #[.int .u64 h0, .int .u64 h1, .int .u64 h2, .int .u64 h3] 57) rfl; have y1 := box_after2 (j := 1) hb3 (.cells #[.int .u64 h0, .int .u64 h1, .int .u64 h2, .int .u64 h3] 57) rfl; have y2 := box_after2 (j := 2) hb3 (.cells #[.int .u64 h0, .int .u64 h1, .int .u64 h2, .int .u64 h3] 57) rfl; have y3 := box_after2 (j := 3) hb3 (.cells #[.int .u64 h0, .int .u64 h1, .int .u64 h2, .int .u64 h3] 57) rfl; have HB3 := Lib.hid ((bthen HB2.out hb3).alloc (bthen HB2.out hb3).size (.cells #[.int .u64 h0, .int .u64 h1, .int .u64 h2, .int .u64 h3] 57)); clear hb3))
        go_ret
        exact ⟨rfl, HB3.out⟩
    · rw [decide_eq_false (e3 rfl h)]
      have g : ((wh : Int) == (p : Int)) = false := by simp; omega
      have g2 : ¬ wh < p := by omega
      clear e1 e2 e3 e4
      go_enter Tryd.func23, Tryd.ntmps23
      go_wp2_with (first
        | (go_at_call 27; (with_reducible refine (PZ.out _).mono ?_); rintro e w1 ⟨rfl, hb1⟩; have HB1 := Lib.hid (hb1.alloc hb1.size (.cells #[.int .u64 a0, .int .u64 a1, .int .u64 a2, .int .u64 a3] 57)); clear hb1)
        | (go_at_call 27; (with_reducible refine (PL.out _).mono ?_); rintro e w2 ⟨rfl, hb2⟩; have x2 := box_after2 (j := 2) hb2 (.cells #[.int .u64 l0, .int .u64 l1, .int .u64 l2, .int .u64 l3] 57) rfl; have x3 := box_after2 (j := 3) hb2 (.cells #[.int .u64 l0, .int .u64 l1, .int .u64 l2, .int .u64 l3] 57) rfl; have HB2 := Lib.hid ((bthen HB1.out hb2).alloc (bthen HB1.out hb2).size (.cells #[.int .u64 l0, .int .u64 l1, .int .u64 l2, .int .u64 l3] 57)); clear hb2)
        | (go_at_call 27; (with_reducible refine (PH.out _).mono ?_); rintro e w3 ⟨rfl, hb3⟩; have y0 := box_after2 (j := 0) hb3 (.cells #[.int .u64 h0, .int .u64 h1, .int .u64 h2, .int .u64 h3] 57) rfl; have y1 := box_after2 (j := 1) hb3 (.cells #[.int .u64 h0, .int .u64 h1, .int .u64 h2, .int .u64 h3] 57) rfl; have y2 := box_after2 (j := 2) hb3 (.cells #[.int .u64 h0, .int .u64 h1, .int .u64 h2, .int .u64 h3] 57) rfl; have y3 := box_after2 (j := 3) hb3 (.cells #[.int .u64 h0, .int .u64 h1, .int .u64 h2, .int .u64 h3] 57) rfl; have HB3 := Lib.hid ((bthen HB2.out hb3).alloc (bthen HB2.out hb3).size (.cells #[.int .u64 h0, .int .u64 h1, .int .u64 h2, .int .u64 h3] 57)); clear hb3))
      go_ret
      exact ⟨rfl, HB3.out⟩
  · rw [decide_eq_false (e1 ho)]
    have g : ((ov : Int) == 0) = false := by simp; omega
    clear e1 e2 e3 e4
    go_enter Tryd.func23, Tryd.ntmps23
    go_wp2_with (first
      | (go_at_call 27; (with_reducible refine (PZ.out _).mono ?_); rintro e w1 ⟨rfl, hb1⟩; have HB1 := Lib.hid (hb1.alloc hb1.size (.cells #[.int .u64 a0, .int .u64 a1, .int .u64 a2, .int .u64 a3] 57)); clear hb1)
      | (go_at_call 27; (with_reducible refine (PL.out _).mono ?_); rintro e w2 ⟨rfl, hb2⟩; have x2 := box_after2 (j := 2) hb2 (.cells #[.int .u64 l0, .int .u64 l1, .int .u64 l2, .int .u64 l3] 57) rfl; have x3 := box_after2 (j := 3) hb2 (.cells #[.int .u64 l0, .int .u64 l1, .int .u64 l2, .int .u64 l3] 57) rfl; have HB2 := Lib.hid ((bthen HB1.out hb2).alloc (bthen HB1.out hb2).size (.cells #[.int .u64 l0, .int .u64 l1, .int .u64 l2, .int .u64 l3] 57)); clear hb2)
      | (go_at_call 27; (with_reducible refine (PH.out _).mono ?_); rintro e w3 ⟨rfl, hb3⟩; have y0 := box_after2 (j := 0) hb3 (.cells #[.int .u64 h0, .int .u64 h1, .int .u64 h2, .int .u64 h3] 57) rfl; have y1 := box_after2 (j := 1) hb3 (.cells #[.int .u64 h0, .int .u64 h1, .int .u64 h2, .int .u64 h3] 57) rfl; have y2 := box_after2 (j := 2) hb3 (.cells #[.int .u64 h0, .int .u64 h1, .int .u64 h2, .int .u64 h3] 57) rfl; have y3 := box_after2 (j := 3) hb3 (.cells #[.int .u64 h0, .int .u64 h1, .int .u64 h2, .int .u64 h3] 57) rfl; have HB3 := Lib.hid ((bthen HB2.out hb3).alloc (bthen HB2.out hb3).size (.cells #[.int .u64 h0, .int .u64 h1, .int .u64 h2, .int .u64 h3] 57)); clear hb3))
    go_ret
    exact ⟨rfl, HB3.out⟩
end Go.Proofs.YtfggknplekiaoaaDoor
