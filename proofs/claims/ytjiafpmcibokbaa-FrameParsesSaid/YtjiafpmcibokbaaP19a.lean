/- LAYER 19, frame, first part: numbers in bytes, kinds. -/
import Derived.Test.YtjiafpmcibokbaaM19
import Derived.Test.YtjiafpmcibokbaaR19a
import Derived.Test.YtjiafpmcibokbaaAp
import Derived.Test.YtjiafpmcibokbaaBx
namespace Go.Proofs.Ytjiafpmcibokbaa
open Go Go.RowKit
set_option maxHeartbeats 2000000
set_option maxRecDepth 100000
set_option linter.unusedVariables false
namespace Fm
theorem num_more {W i n : Nat} (h : i < W) : num (i + 1) (n / 256 ^ (W - (i + 1))) = num i (n / 256 ^ (W - i)) ++ [((n / 256 ^ (W - (i + 1)) % 256 : Nat) : Int)] := by
  rw [num, Nat.div_div_eq_div_mul, ← Nat.pow_succ, show (W - (i + 1)).succ = W - i by omega]
theorem or_byte {z x : Nat} (hz : z < 72057594037927936) (hx : x < 256) : bits .or .u64 ((z : Int) * 256) (x : Int) = ((256 * z + x : Nat) : Int) := by
  rw [show (z : Int) * 256 = ((z * 256 : Nat) : Int) by simp]
  have h1 := u64_or_nat (z * 256) x (by omega) (by omega)
  rw [h1]
  have := Nat.two_pow_add_eq_or_of_lt (i := 8) (b := x) (by omega) z
  rw [show z * 256 = 2 ^ 8 * z by omega, ← this]
end Fm
/-- Is it a kind? -/
def Fm.isk (k : Int) : Bool := decide (1 ≤ k ∧ k ≤ 7)
theorem iskind_any19 (k : Int) (w : World) :
    Calls Try.prog 42 #[.int .i64 k] w fun e w' => e = .returned (.bool (Fm.isk k)) ∧ w = w' := by
  obtain ⟨Z, hZ⟩ : ∃ Z, Fm.isk k = Z := ⟨_, rfl⟩
  rw [hZ]
  unfold Fm.isk at hZ
  by_cases h1 : 1 ≤ k
  · by_cases h7 : k ≤ 7
    · obtain rfl : true = Z := by rw [← hZ]; simp [h1, h7]
      clear hZ
      go_enter Try.func42, Try.ntmps42
      go_wp2
      go_ret
      exact ⟨rfl, rfl⟩
    · obtain rfl : false = Z := by rw [← hZ]; simp [h7]
      clear hZ
      go_enter Try.func42, Try.ntmps42
      go_wp2
      go_ret
      exact ⟨rfl, rfl⟩
  · obtain rfl : false = Z := by rw [← hZ]; simp [h1]
    clear hZ
    go_enter Try.func42, Try.ntmps42
    go_wp2
    go_ret
    exact ⟨rfl, rfl⟩
theorem number_any19 (A : Option Addr) (n c : Nat) (xs : List Int) (w : World) (ha : RB w w.heap.size A n xs) (hy : Byt xs) (hn : n ≤ 8) :
    Calls Try.prog 51 #[.slice A n c] w fun e w' => e = .returned (.int .u64 (Fm.ofL xs)) ∧ w = w' := by
  have hl : xs.length = n := ha.1
  go_enter Try.func51, Try.ntmps51
  go_wp2
  go_loop [3, 8] (fun z i => ∃ j : Nat, j ≤ n ∧ i = .int .i64 j ∧ z = .int .u64 (Fm.ofL (xs.take j))) (fun _ i => n - (intOf i).toNat)
  case atStart => exact ⟨0, Nat.zero_le _, rfl, rfl⟩
  case round =>
    obtain ⟨j, hj, rfl, rfl⟩ := hrel
    by_cases h : j < n
    · have h' : (j : Int) < n := by omega
      obtain ⟨b, o, rfl, hbB, hc⟩ := ha.at_ h
      have e1 : Hid (Fm.ofL (xs.take (j + 1)) = 256 * Fm.ofL (xs.take j) + (xs.getD j 0).toNat) := by
        have := take_snocI xs j (by omega)
        show _ = _
        rw [this, Fm.ofL_snoc]
      have hlt := Fm.ofL_lt j (xs.take j) (Ck.Byt.take hy j) (by rw [List.length_take]; omega)
      have hb2 := hy j
      generalize hz : Fm.ofL (xs.take j) = z at *
      obtain ⟨x, hx⟩ : ∃ x : Nat, xs.getD j 0 = (x : Int) := ⟨(xs.getD j 0).toNat, by omega⟩
      rw [hx] at hc hb2 e1
      have z8 : z < 72057594037927936 := Nat.lt_of_lt_of_le hlt (Nat.le_trans (Nat.pow_le_pow_right (by decide) (show j ≤ 7 by omega)) (by decide))
      have ro := Fm.or_byte z8 (show x < 256 by omega)
      clear hlt hz hx
      go_wp2
      go_round
      case rel => exact ⟨j + 1, by omega, by go_num, by rw [e1.out]; simp⟩
      case measure => simp [intOf]; omega
    · obtain rfl : j = n := by omega
      rw [show xs.take j = xs from List.take_of_length_le (by omega)]
      go_wp2
      go_ret
      exact ⟨rfl, rfl⟩
/-- Blocks that hold no bytes stay. -/
def KU (w w' : World) : Prop := ∀ (k : Nat) (T : TypeId) (cs : Array Value), T ≠ 5 → BX w k T cs → BX w' k T cs
theorem KU.refl (w : World) : KU w w := fun _ _ _ _ h => h
theorem KU.trans {a b c : World} (h : KU a b) (k : KU b c) : KU a c := fun i T cs hT hb => k i T cs hT (h i T cs hT hb)
theorem KU.alloc {a b : World} (h : KU a b) (o : Obj) : KU a (b.alloc o) := fun i T cs hT hb => (h i T cs hT hb).alloc o
theorem KU.ofBelow {a b c : World} (h : KU a b) (hb : Below b.heap.size b c) : KU a c := fun i T cs hT hx => (h i T cs hT hx).later hb
theorem app_ku19 {w : World} {base n m c : Nat} {v : Value} {xs ys : List Int} {A : Option Addr} (ho : OBn w base 5 v n xs) (hr : RB w w.heap.size A m ys) (hm : n + m ≤ 1000000) (hb : base ≤ w.heap.size) :
    ∃ v' w', (Builtin.append_ #[28, 28] 28 #[v, .slice A m c]).run Try.prog w = .ok v' w' ∧ OBn w' base 5 v' (n + m) (xs ++ ys) ∧ Below base w w' ∧ KU w w' := by
  obtain ⟨i0, hi, hz0, hz1, hz2⟩ := info_parts info_u8
  obtain ⟨v', w', hrun, hown, hgrow⟩ := run_append_rb (P := Try.prog) base w.heap.size 28 28 5 i0 Try.underlying28 hi hz0 hz1 hz2 v n xs ho A m c ys hr hm hb
  refine ⟨v', w', hrun, hown, below_app (Below.refl _ _) hb ho hgrow, fun k T cs hT hx => (hgrow.block k hx.lt fun e => ?_).trans hx⟩
  rcases ho.2 with ⟨rfl, h0⟩ | ⟨g, cap, cur, rfl, hbg, hg, h1, h2, h3, h4⟩
  · cases e
  · obtain rfl : k = g := by simpa [Value.ownBlock] using e
    unfold BX at hx
    rw [hg] at hx
    cases hx
    exact hT rfl
theorem laynumber_any19 (base : Nat) (v : Value) (n W : Nat) (xs : List Int) (N : Nat) (w : World) (ho : OBn w base 5 v n xs) (hb : base ≤ w.heap.size) (hN : N < 18446744073709551616) (hW : W ≤ 8) (hn : n + W ≤ 900000) :
    Calls Try.prog 44 #[v, .int .u64 N, .int .i64 W] w fun e w' => ∃ v', e = .returned v' ∧ OBn w' base 5 v' (n + W) (xs ++ Fm.num W N) ∧ Below base w w' ∧ KU w w' := by
  go_enter Try.func44, Try.ntmps44
  go_wp2
  go_loopw [0, 9] (fun v i wr => ∃ j : Nat, j ≤ W ∧ i = .int .i64 j ∧ Hid (OBn wr base 5 v (n + j) (xs ++ Fm.num j (N / 256 ^ (W - j)))) ∧ Hid (Below base w wr ∧ KU w wr)) (fun _ i _ => W - (intOf i).toNat)
  case atStart => exact ⟨0, Nat.zero_le _, rfl, by show OBn _ _ _ _ _ _; simpa [Fm.num] using ho, Below.refl _ _, KU.refl _⟩
  case round =>
    obtain ⟨j, hj, rfl, HO, HB⟩ := hrel
    by_cases h : j < W
    · have h' : (j : Int) < W := by omega
      obtain ⟨t, ht⟩ : ∃ t, W - (j + 1) = t := ⟨_, rfl⟩
      have HM := Lib.hid (Fm.num_more (n := N) h)
      rw [ht] at HM
      have s1 : (W : Int) - 1 - j = t := by omega
      have s2 : IntKind.i64.wrap (8 * (t : Int)) = ((8 * t : Nat) : Int) := by rw [IntWalk.i64_in _ (by omega)]; simp
      have t7 : t ≤ 7 := by omega
      have hq0 : (N : Int) / 2 ^ (8 * t) = ((N / 256 ^ t : Nat) : Int) := by rw [show (256 : Nat) ^ t = 2 ^ (8 * t) by rw [Nat.pow_mul]]; simp
      obtain ⟨q, hq⟩ : ∃ q, N / 256 ^ t = q := ⟨_, rfl⟩
      rw [hq] at hq0 HM
      have HQ := Lib.hid hq
      clear ht hq
      have BX1 := Lib.hid (HB.out.1.alloc (Nat.le_trans hb HB.out.1.size) (.cells #[.int .u8 ((q : Int) % 256)] 5))
      obtain ⟨v1, w1, hrun, ho1, hb1, hk1⟩ := app_ku19 (c := 1) (HO.out.alloc (.cells #[.int .u8 ((q : Int) % 256)] 5)) (by rw [World.size_alloc]; exact rb_row wr 5 [(q : Int) % 256] 1 rfl) (by omega) (Nat.le_trans hb BX1.out.size)
      have HR := Lib.hid hrun
      have HO1 := Lib.hid ho1
      have HB1 := Lib.hid (And.intro (BX1.out.trans hb1) ((HB.out.2.alloc _).trans hk1))
      clear hrun ho1 hb1 hk1 BX1
      go_wp2_with (at_builtin; refine Lib.wpList_append_run _ rfl _ _ 28 28 rfl _ _ rfl rfl _ _ HR.out ?_)
      go_roundw
      case rel => exact ⟨j + 1, by omega, by go_num, by show OBn _ _ _ _ _ _; have e := HM.out; rw [show W - (j + 1) = t by omega, HQ.out, e, ← List.append_assoc]; have := HO1.out; simpa [Nat.add_assoc] using this, HB1.out⟩
      case measure => simp [intOf]; omega
    · obtain rfl : j = W := by omega
      go_wp2
      go_ret
      exact ⟨_, rfl, by have := HO.out; rwa [Nat.sub_self, Nat.pow_zero, Nat.div_one] at this, HB.out.1, HB.out.2⟩
end Go.Proofs.Ytjiafpmcibokbaa
