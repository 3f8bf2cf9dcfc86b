/- WALKS OF LAYER 12, THIRD PART: the reference's fill, words. -/
import Derived.Test.YtfggknplekiaoaaDoorD12b
import Derived.Test.YtfggknplekiaoaaDoorBx
namespace Go.Proofs.YtfggknplekiaoaaDoor
open Go.RowKit
set_option maxHeartbeats 2000000
set_option maxRecDepth 100000
set_option linter.unusedVariables false
namespace Dg
theorem fill_len (b : List Int) : (fill b).length = b.length + 1 + pad b.length + 8 := by
  unfold fill bits8
  simp
  omega
theorem pad_lt (n : Nat) : pad n < 64 := Nat.mod_lt _ (by omega)
theorem pad_end (n : Nat) : (n + 1 + pad n) % 64 = 56 := by unfold pad; omega
theorem pad_not {n k : Nat} (h : k < pad n) : (n + 1 + k) % 64 ≠ 56 := by unfold pad at h; omega
end Dg
theorem rb_one (w : World) (e : TypeId) (x : Int) : RB (w.alloc (.cells #[.int .u8 x] e)) (w.heap.size + 1) (some ⟨w.heap.size, 0, none⟩) 1 [x] :=
  ⟨rfl, fun _ => ⟨w.heap.size, 0, rfl, by omega, fun j hj => by
    rw [cell_of_row (w.alloc (.cells #[.int .u8 x] e)) w.heap.size (0 + j) _ e (0, 0) (heap_alloc_new w _)]
    simp [List.getD, show j = 0 from by omega]⟩⟩
theorem refill_any (A : Option Addr) (n c : Nat) (xs : List Int) (w : World) (ha : RB w w.heap.size A n xs) (hn : n ≤ 100000) :
    Calls Tryd.prog 16 #[.slice A n c] w fun e w' => ∃ v, e = .returned v ∧ OBn w' w.heap.size 5 v (n + 1 + Dg.pad n + 8) (Dg.fill xs) ∧ Below w.heap.size w w' := by
  obtain ⟨i0, hi, hz0, hz1, hz2⟩ := info_parts info_u8
  have hxl := ha.1
  have pl := Dg.pad_lt n
  have pe := Lib.hid (Dg.pad_end n)
  have pn := Lib.hid (fun k (h : k < Dg.pad n) => Dg.pad_not h)
  have F : Hid (Dg.fill xs = xs ++ [128] ++ List.replicate (Dg.pad n) 0 ++ Dg.bits8 (8 * n % 18446744073709551616)) := by
    show _ = _
    unfold Dg.fill
    rw [hxl]
    simp
  generalize Dg.pad n = p at *
  have HA := Lib.hid ha; clear ha hxl
  go_enter Tryd.func16, Tryd.ntmps16
  go_wp2_with (first
    | (at_builtin; obtain ⟨v1, w1, hrun, hown, hgrow⟩ := run_append_rb (P := Tryd.prog) w.heap.size w.heap.size 22 22 5 i0 Tryd.underlying22 hi hz0 hz1 hz2 (.slice none 0 0) 0 [] (World.ownsRow_nil _ _ _ _) A n c xs HA.out (by omega) (Nat.le_refl _)
       refine Lib.wpList_append_run _ rfl _ _ 22 22 rfl (.slice none 0 0) (.slice A n c) rfl rfl _ _ hrun ?_
       have hb1 : Below w.heap.size w w1 := (Below.refl _ w).grown hgrow (Nat.le_refl _) (by intro k hk; simp [Value.ownBlock] at hk)
       have HB1 := Lib.hid hb1; have HO1 : Hid (OBn w1 w.heap.size 5 v1 n xs) := Lib.hid (by simpa using hown)
       clear hrun hown hgrow hb1)
    | (at_builtin; obtain ⟨v2, w2, hrun, hown, hgrow⟩ := run_append_rb (P := Tryd.prog) w.heap.size (w1.heap.size + 1) 22 22 5 i0 Tryd.underlying22 hi hz0 hz1 hz2 v1 n xs (HO1.out.alloc (.cells #[.int .u8 128] 5)) (some ⟨w1.heap.size, 0, none⟩) 1 1 [128] (rb_one w1 5 128) (by omega) (by have := HB1.out.size; simp; omega)
       refine Lib.wpList_append_run _ rfl _ _ 22 22 rfl v1 (.slice (some ⟨w1.heap.size, 0, none⟩) 1 1) rfl rfl _ _ hrun ?_
       have hb2 := below_app (HB1.out.alloc HB1.out.size _) (Nat.le_refl _) (HO1.out.alloc (.cells #[.int .u8 128] 5)) hgrow
       have HB2 := Lib.hid hb2; have HO2 := Lib.hid hown
       clear hrun hown hgrow hb2))
  go_loopw [3] (fun v wr => ∃ k : Nat, k ≤ p ∧ OBn wr w.heap.size 5 v (n + 1 + k) (xs ++ [128] ++ List.replicate k 0) ∧ Below w.heap.size w wr) (fun v _ => n + 1 + p - lenV v)
  case atStart => exact ⟨0, by omega, by simpa using HO2.out, HB2.out⟩
  case round =>
    obtain ⟨k, hk, ho, hb⟩ := hrel
    have HO := Lib.hid ho; have HB := Lib.hid hb
    obtain ⟨A2, c2, rfl, _, _, _⟩ := ho.slice
    clear ho hb
    obtain ⟨q, hq⟩ : ∃ q : Nat, n + 1 + k = q := ⟨_, rfl⟩
    have hwm := pn.out k
    have hwe := pe.out
    rw [hq] at HO hwm ⊢
    have HQ := Lib.hid hq
    obtain ⟨m, hm⟩ : ∃ m : Nat, q % 64 = m := ⟨_, rfl⟩
    have t2 : (q : Int) % 64 = (m : Int) := by omega
    rw [hm] at hwm
    by_cases hlt : k < p
    · have g : ((m : Int) != 56) = true := by have := hwm hlt; simp; omega
      have hq2 : q + 1 ≤ 1000000 := by omega
      have hm64 : m < 64 := by omega
      clear hm hwm hwe hq
      go_wp2_with (at_builtin; obtain ⟨v3, w3, hrun, hown, hgrow⟩ := run_append_rb (P := Tryd.prog) w.heap.size (wr.heap.size + 1) 22 22 5 i0 Tryd.underlying22 hi hz0 hz1 hz2 _ q _ (HO.out.alloc (.cells #[.int .u8 0] 5)) (some ⟨wr.heap.size, 0, none⟩) 1 1 [0] (rb_one wr 5 0) (by omega) (by have := HB.out.size; simp; omega)
                   obtain ⟨A3, c3, rfl, _, _, _⟩ := hown.slice
                   refine Lib.wpList_append_run _ rfl _ _ 22 22 rfl _ _ rfl rfl _ _ hrun ?_
                   have hb3 := below_app (HB.out.alloc HB.out.size _) (Nat.le_refl _) (HO.out.alloc (.cells #[.int .u8 0] 5)) hgrow
                   have HB3 := Lib.hid hb3; have HO3 := Lib.hid hown
                   clear hown hb3 hrun hgrow)
      go_roundw
      case rel => exact ⟨k + 1, by omega, by have := HO3.out; rw [List.append_assoc, ← List.replicate_succ'] at this; rw [← Nat.add_assoc, HQ.out]; exact this, HB3.out⟩
      case measure => simp only [lenV]; have := HQ.out; omega
    · have e : k = p := by omega
      subst e
      have hm56 : m = 56 := by omega
      subst hm56
      clear hm hwm hwe
      have s1 : IntKind.u64.wrap (8 * IntKind.u64.wrap (n : Int)) = ((8 * n : Nat) : Int) := by rw [IntKind.wrap_u64, IntKind.wrap_u64]; omega
      have s1' : IntKind.u64.wrap (8 * (n : Int)) = ((8 * n : Nat) : Int) := by rw [IntKind.wrap_u64]; omega
      obtain ⟨N, hN⟩ : ∃ N, 8 * n = N := ⟨_, rfl⟩
      rw [hN] at s1 s1'
      have F2 : Hid (Dg.fill xs = xs ++ [128] ++ List.replicate k 0 ++ Dg.bits8 N) := by show _ = _; rw [F.out, hN, Nat.mod_eq_of_lt (by omega)]
      have hN2 : N ≤ 800000 := by omega
      obtain ⟨ys, hys⟩ : ∃ ys, xs ++ [128] ++ List.replicate k 0 = ys := ⟨_, rfl⟩
      rw [hys] at HO F2
      clear hN hys F
      go_wp2
      clear t2
      go_loopw [3, 5] (fun v i wq => ∃ j : Nat, j ≤ 8 ∧ i = .int .i64 (7 - (j : Int)) ∧ OBn wq w.heap.size 5 v (q + j) (ys ++ (Dg.bits8 N).take j) ∧ Below w.heap.size w wq) (fun _ i _ => (intOf i + 1).toNat)
      case atStart => exact ⟨0, by omega, rfl, by simpa using HO.out, HB.out⟩
      case round =>
        obtain ⟨j, hj, rfl, ho, hb⟩ := hrel
        have HOj := Lib.hid ho; have HBj := Lib.hid hb
        clear ho hb
        rcases (by omega : j = 0 ∨ j = 1 ∨ j = 2 ∨ j = 3 ∨ j = 4 ∨ j = 5 ∨ j = 6 ∨ j = 7 ∨ j = 8) with rfl | rfl | rfl | rfl | rfl | rfl | rfl | rfl | rfl
        · rw [show (7 : Int) - ((0 : Nat) : Int) = 7 from rfl]
          have sb : IntKind.u8.wrap ((N : Int) / 72057594037927936) = (N : Int) / 72057594037927936 % 256 := by rw [IntKind.wrap_u8']
          go_wp2_with (at_builtin; obtain ⟨v5, w5, hrun, hown, hgrow⟩ := run_append_rb (P := Tryd.prog) w.heap.size (wr.heap.size + 1) 22 22 5 i0 Tryd.underlying22 hi hz0 hz1 hz2 _ (q + 0) _ (HOj.out.alloc (.cells #[.int .u8 ((N : Int) / 72057594037927936 % 256)] 5)) (some ⟨wr.heap.size, 0, none⟩) 1 1 [(N : Int) / 72057594037927936 % 256] (rb_one wr 5 ((N : Int) / 72057594037927936 % 256)) (by omega) (by have := HBj.out.size; simp; omega)
                       refine Lib.wpList_append_run _ rfl _ _ 22 22 rfl _ _ rfl rfl _ _ hrun ?_
                       have hb5 := below_app (HBj.out.alloc HBj.out.size _) (Nat.le_refl _) (HOj.out.alloc (.cells #[.int .u8 ((N : Int) / 72057594037927936 % 256)] 5)) hgrow
                       have HB5 := Lib.hid hb5; have HO5 := Lib.hid hown
                       clear hrun hown hgrow hb5)
          go_roundw
          case rel => exact ⟨1, by omega, by go_num, by have := HO5.out; rw [List.append_assoc] at this; exact this, HB5.out⟩
          case measure => simp [intOf]
        · rw [show (7 : Int) - ((1 : Nat) : Int) = 6 from rfl]
          have sb : IntKind.u8.wrap ((N : Int) / 281474976710656) = (N : Int) / 281474976710656 % 256 := by rw [IntKind.wrap_u8']
          go_wp2_with (at_builtin; obtain ⟨v5, w5, hrun, hown, hgrow⟩ := run_append_rb (P := Tryd.prog) w.heap.size (wr.heap.size + 1) 22 22 5 i0 Tryd.underlying22 hi hz0 hz1 hz2 _ (q + 1) _ (HOj.out.alloc (.cells #[.int .u8 ((N : Int) / 281474976710656 % 256)] 5)) (some ⟨wr.heap.size, 0, none⟩) 1 1 [(N : Int) / 281474976710656 % 256] (rb_one wr 5 ((N : Int) / 281474976710656 % 256)) (by omega) (by have := HBj.out.size; simp; omega)
                       refine Lib.wpList_append_run _ rfl _ _ 22 22 rfl _ _ rfl rfl _ _ hrun ?_
                       have hb5 := below_app (HBj.out.alloc HBj.out.size _) (Nat.le_refl _) (HOj.out.alloc (.cells #[.int .u8 ((N : Int) / 281474976710656 % 256)] 5)) hgrow
                       have HB5 := Lib.hid hb5; have HO5 := Lib.hid hown
                       clear hrun hown hgrow hb5)
          go_roundw
          case rel => exact ⟨2, by omega, by go_num, by have := HO5.out; rw [List.append_assoc] at this; exact this, HB5.out⟩
          case measure => simp [intOf]
        · rw [show (7 : Int) - ((2 : Nat) : Int) = 5 from rfl]
          have sb : IntKind.u8.wrap ((N : Int) / 1099511627776) = (N : Int) / 1099511627776 % 256 := by rw [IntKind.wrap_u8']
          go_wp2_with (at_builtin; obtain ⟨v5, w5, hrun, hown, hgrow⟩ := run_append_rb (P := Tryd.prog) w.heap.size (wr.heap.size + 1) 22 22 5 i0 Tryd.underlying22 hi hz0 hz1 hz2 _ (q + 2) _ (HOj.out.alloc (.cells #[.int .u8 ((N : Int) / 1099511627776 % 256)] 5)) (some ⟨wr.heap.size, 0, none⟩) 1 1 [(N : Int) / 1099511627776 % 256] (rb_one wr 5 ((N : Int) / 1099511627776 % 256)) (by omega) (by have := HBj.out.size; simp; omega)
                       refine Lib.wpList_append_run _ rfl _ _ 22 22 rfl _ _ rfl rfl _ _ hrun ?_
                       have hb5 := below_app (HBj.out.alloc HBj.out.size _) (Nat.le_refl _) (HOj.out.alloc (.cells #[.int .u8 ((N : Int) / 1099511627776 % 256)] 5)) hgrow
                       have HB5 := Lib.hid hb5; have HO5 := Lib.hid hown
                       clear hrun hown hgrow hb5)
          go_roundw
          case rel => exact ⟨3, by omega, by go_num, by have := HO5.out; rw [List.append_assoc] at this; exact this, HB5.out⟩
          case measure => simp [intOf]
        · rw [show (7 : Int) - ((3 : Nat) : Int) = 4 from rfl]
          have sb : IntKind.u8.wrap ((N : Int) / 4294967296) = (N : Int) / 4294967296 % 256 := by rw [IntKind.wrap_u8']
          go_wp2_with (at_builtin; obtain ⟨v5, w5, hrun, hown, hgrow⟩ := run_append_rb (P := Tryd.prog) w.heap.size (wr.heap.size + 1) 22 22 5 i0 Tryd.underlying22 hi hz0 hz1 hz2 _ (q + 3) _ (HOj.out.alloc (.cells #[.int .u8 ((N : Int) / 4294967296 % 256)] 5)) (some ⟨wr.heap.size, 0, none⟩) 1 1 [(N : Int) / 4294967296 % 256] (rb_one wr 5 ((N : Int) / 4294967296 % 256)) (by omega) (by have := HBj.out.size; simp; omega)
                       refine Lib.wpList_append_run _ rfl _ _ 22 22 rfl _ _ rfl rfl _ _ hrun ?_
                       have hb5 := below_app (HBj.out.alloc HBj.out.size _) (Nat.le_refl _) (HOj.out.alloc (.cells #[.int .u8 ((N : Int) / 4294967296 % 256)] 5)) hgrow
                       have HB5 := Lib.hid hb5; have HO5 := Lib.hid hown
                       clear hrun hown hgrow hb5)
          go_roundw
          case rel => exact ⟨4, by omega, by go_num, by have := HO5.out; rw [List.append_assoc] at this; exact this, HB5.out⟩
          case measure => simp [intOf]
        · rw [show (7 : Int) - ((4 : Nat) : Int) = 3 from rfl]
          have sb : IntKind.u8.wrap ((N : Int) / 16777216) = (N : Int) / 16777216 % 256 := by rw [IntKind.wrap_u8']
          go_wp2_with (at_builtin; obtain ⟨v5, w5, hrun, hown, hgrow⟩ := run_append_rb (P := Tryd.prog) w.heap.size (wr.heap.size + 1) 22 22 5 i0 Tryd.underlying22 hi hz0 hz1 hz2 _ (q + 4) _ (HOj.out.alloc (.cells #[.int .u8 ((N : Int) / 16777216 % 256)] 5)) (some ⟨wr.heap.size, 0, none⟩) 1 1 [(N : Int) / 16777216 % 256] (rb_one wr 5 ((N : Int) / 16777216 % 256)) (by omega) (by have := HBj.out.size; simp; omega)
                       refine Lib.wpList_append_run _ rfl _ _ 22 22 rfl _ _ rfl rfl _ _ hrun ?_
                       have hb5 := below_app (HBj.out.alloc HBj.out.size _) (Nat.le_refl _) (HOj.out.alloc (.cells #[.int .u8 ((N : Int) / 16777216 % 256)] 5)) hgrow
                       have HB5 := Lib.hid hb5; have HO5 := Lib.hid hown
                       clear hrun hown hgrow hb5)
          go_roundw
          case rel => exact ⟨5, by omega, by go_num, by have := HO5.out; rw [List.append_assoc] at this; exact this, HB5.out⟩
          case measure => simp [intOf]
        · rw [show (7 : Int) - ((5 : Nat) : Int) = 2 from rfl]
          have sb : IntKind.u8.wrap ((N : Int) / 65536) = (N : Int) / 65536 % 256 := by rw [IntKind.wrap_u8']
          go_wp2_with (at_builtin; obtain ⟨v5, w5, hrun, hown, hgrow⟩ := run_append_rb (P := Tryd.prog) w.heap.size (wr.heap.size + 1) 22 22 5 i0 Tryd.underlying22 hi hz0 hz1 hz2 _ (q + 5) _ (HOj.out.alloc (.cells #[.int .u8 ((N : Int) / 65536 % 256)] 5)) (some ⟨wr.heap.size, 0, none⟩) 1 1 [(N : Int) / 65536 % 256] (rb_one wr 5 ((N : Int) / 65536 % 256)) (by omega) (by have := HBj.out.size; simp; omega)
                       refine Lib.wpList_append_run _ rfl _ _ 22 22 rfl _ _ rfl rfl _ _ hrun ?_
                       have hb5 := below_app (HBj.out.alloc HBj.out.size _) (Nat.le_refl _) (HOj.out.alloc (.cells #[.int .u8 ((N : Int) / 65536 % 256)] 5)) hgrow
                       have HB5 := Lib.hid hb5; have HO5 := Lib.hid hown
                       clear hrun hown hgrow hb5)
          go_roundw
          case rel => exact ⟨6, by omega, by go_num, by have := HO5.out; rw [List.append_assoc] at this; exact this, HB5.out⟩
          case measure => simp [intOf]
        · rw [show (7 : Int) - ((6 : Nat) : Int) = 1 from rfl]
          have sb : IntKind.u8.wrap ((N : Int) / 256) = (N : Int) / 256 % 256 := by rw [IntKind.wrap_u8']
          go_wp2_with (at_builtin; obtain ⟨v5, w5, hrun, hown, hgrow⟩ := run_append_rb (P := Tryd.prog) w.heap.size (wr.heap.size + 1) 22 22 5 i0 Tryd.underlying22 hi hz0 hz1 hz2 _ (q + 6) _ (HOj.out.alloc (.cells #[.int .u8 ((N : Int) / 256 % 256)] 5)) (some ⟨wr.heap.size, 0, none⟩) 1 1 [(N : Int) / 256 % 256] (rb_one wr 5 ((N : Int) / 256 % 256)) (by omega) (by have := HBj.out.size; simp; omega)
                       refine Lib.wpList_append_run _ rfl _ _ 22 22 rfl _ _ rfl rfl _ _ hrun ?_
                       have hb5 := below_app (HBj.out.alloc HBj.out.size _) (Nat.le_refl _) (HOj.out.alloc (.cells #[.int .u8 ((N : Int) / 256 % 256)] 5)) hgrow
                       have HB5 := Lib.hid hb5; have HO5 := Lib.hid hown
                       clear hrun hown hgrow hb5)
          go_roundw
          case rel => exact ⟨7, by omega, by go_num, by have := HO5.out; rw [List.append_assoc] at this; exact this, HB5.out⟩
          case measure => simp [intOf]
        · rw [show (7 : Int) - ((7 : Nat) : Int) = 0 from rfl]
          have sb : IntKind.u8.wrap ((N : Int)) = (N : Int) % 256 := by rw [IntKind.wrap_u8']
          go_wp2_with (at_builtin; obtain ⟨v5, w5, hrun, hown, hgrow⟩ := run_append_rb (P := Tryd.prog) w.heap.size (wr.heap.size + 1) 22 22 5 i0 Tryd.underlying22 hi hz0 hz1 hz2 _ (q + 7) _ (HOj.out.alloc (.cells #[.int .u8 ((N : Int) % 256)] 5)) (some ⟨wr.heap.size, 0, none⟩) 1 1 [(N : Int) % 256] (rb_one wr 5 ((N : Int) % 256)) (by omega) (by have := HBj.out.size; simp; omega)
                       refine Lib.wpList_append_run _ rfl _ _ 22 22 rfl _ _ rfl rfl _ _ hrun ?_
                       have hb5 := below_app (HBj.out.alloc HBj.out.size _) (Nat.le_refl _) (HOj.out.alloc (.cells #[.int .u8 ((N : Int) % 256)] 5)) hgrow
                       have HB5 := Lib.hid hb5; have HO5 := Lib.hid hown
                       clear hrun hown hgrow hb5)
          go_roundw
          case rel => exact ⟨8, by omega, by go_num, by have := HO5.out; rw [List.append_assoc] at this; exact this, HB5.out⟩
          case measure => simp [intOf]
        · rw [show (7 : Int) - ((8 : Nat) : Int) = -1 from rfl]
          obtain ⟨A8, c8, rfl, _, _, _⟩ := HOj.out.slice
          go_wp2
          go_ret
          exact ⟨_, rfl, by rw [F2.out, HQ.out]; exact HOj.out, HBj.out⟩
end Go.Proofs.YtfggknplekiaoaaDoor
