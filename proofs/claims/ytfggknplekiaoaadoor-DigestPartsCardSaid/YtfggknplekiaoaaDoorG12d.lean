/- WALKS OF LAYER 12, THE PROGRAM, FOURTH PART: what fills bytes up; the words laid. -/
import Derived.Test.YtfggknplekiaoaaDoorD12n
import Derived.Deep.MidRow
import Derived.Deep.RegionHeld3
namespace Go.Proofs.YtfggknplekiaoaaDoor
open Go Go.RowKit
set_option maxHeartbeats 4000000
set_option maxRecDepth 100000
set_option linter.unusedVariables false
theorem obn_new (w : World) (e : TypeId) (x : Int) : OBn (w.alloc (.cells #[.int .u8 x] e)) w.heap.size e (.slice (some ⟨w.heap.size, 0, none⟩) 1 1) 1 [x] :=
  ⟨rfl, .inr ⟨w.heap.size, 1, #[.int .u8 x], rfl, Nat.le_refl _, heap_alloc_new _ _, Nat.le_refl _, by unfold maxLen; omega, rfl, rfl⟩⟩
namespace Dg
/-- What fills n bytes up. -/
def tail (n : Nat) : List Int := [128] ++ List.replicate (pad n) 0 ++ bits8 (8 * n % 18446744073709551616)
theorem fill_tail (xs : List Int) : fill xs = xs ++ tail xs.length := rfl
theorem tail_len (n : Nat) : (tail n).length = 1 + pad n + 8 := by unfold tail bits8; simp; omega
end Dg
theorem filling_any (n : Nat) (w : World) (hn : n ≤ 100000) :
    Calls Tryd.prog 21 #[.int .u64 n] w fun e w' => ∃ v, e = .returned v ∧ OBn w' w.heap.size 5 v (1 + Dg.pad n + 8) (Dg.tail n) ∧ Below w.heap.size w w' := by
  obtain ⟨i0, hi, hz0, hz1, hz2⟩ := info_parts info_u8
  have pl := Dg.pad_lt n
  have pe := Lib.hid (Dg.pad_end n)
  have pn := Lib.hid (fun k (h : k < Dg.pad n) => Dg.pad_not h)
  have F : Hid (Dg.tail n = [128] ++ List.replicate (Dg.pad n) 0 ++ Dg.bits8 (8 * n % 18446744073709551616)) := rfl
  generalize Dg.pad n = p at *
  have HO2 := Lib.hid (obn_new w 5 128)
  have HB2 : Hid (Below w.heap.size w (w.alloc (.cells #[.int .u8 128] 5))) := Lib.hid ((Below.refl _ w).alloc (Nat.le_refl _) _)
  go_enter Tryd.func21, Tryd.ntmps21
  go_wp2
  go_loopw [3] (fun v wr => ∃ k : Nat, k ≤ p ∧ OBn wr w.heap.size 5 v (1 + k) ([128] ++ List.replicate k 0) ∧ Below w.heap.size w wr) (fun v _ => 1 + p - lenV v)
  case atStart => exact ⟨0, by omega, by simpa using HO2.out, HB2.out⟩
  case round =>
    obtain ⟨k, hk, ho, hb⟩ := hrel
    have HO := Lib.hid ho; have HB := Lib.hid hb
    obtain ⟨A2, c2, rfl, _, _, _⟩ := ho.slice
    clear ho hb HO2 HB2
    obtain ⟨q, hq⟩ : ∃ q : Nat, 1 + k = q := ⟨_, rfl⟩
    have hwm := pn.out k
    have hwe := pe.out
    rw [show n + 1 + k = n + q from by omega] at hwm
    rw [hq] at HO ⊢
    have HQ := Lib.hid hq
    obtain ⟨r, hr⟩ : ∃ r : Nat, n + q = r := ⟨_, rfl⟩
    obtain ⟨m, hm⟩ : ∃ m : Nat, r % 64 = m := ⟨_, rfl⟩
    have t1 : IntKind.u64.wrap ((n : Int) + (q : Int)) = (r : Int) := by rw [IntKind.wrap_u64]; omega
    have t2 : (r : Int) % 64 = (m : Int) := by omega
    have t3 : IntKind.u64.wrap (q : Int) = (q : Int) := by rw [IntKind.wrap_u64]; omega
    have t4 : ((n : Int) + (q : Int)) % 64 = (m : Int) := by omega
    rw [hr, hm] at hwm
    by_cases hlt : k < p
    · have g : ((m : Int) != 56) = true := by have := hwm hlt; simp; omega
      have hq2 : q + 1 ≤ 1000000 := by omega
      have hm64 : m < 64 := by omega
      clear hm hwm hwe hq hr
      go_wp2_with (at_builtin; obtain ⟨v3, w3, hrun, hown, hgrow⟩ := run_append_rb (P := Tryd.prog) w.heap.size (wr.heap.size + 1) 22 22 5 i0 Tryd.underlying22 hi hz0 hz1 hz2 _ q _ (HO.out.alloc (.cells #[.int .u8 0] 5)) (some ⟨wr.heap.size, 0, none⟩) 1 1 [0] (rb_one wr 5 0) (by omega) (by have := HB.out.size; simp; omega)
                   obtain ⟨A3, c3, rfl, _, _, _⟩ := hown.slice
                   refine Lib.wpList_append_run _ rfl _ _ 22 22 rfl _ _ rfl rfl _ _ hrun ?_
                   have hb3 := below_app (HB.out.alloc HB.out.size _) (Nat.le_refl _) (HO.out.alloc (.cells #[.int .u8 0] 5)) hgrow
                   have HB3 := Lib.hid hb3; have HO3 := Lib.hid hown
                   clear hown hb3 hrun hgrow)
      go_roundw
      case rel => exact ⟨k + 1, by omega, by have := HO3.out; rw [List.append_assoc, ← List.replicate_succ'] at this; rw [← Nat.add_assoc, HQ.out]; exact this, HB3.out⟩
      case measure => simp only [lenV]; have := HQ.out; omega
    · have e : k = p := by omega
      subst e
      have hm56 : m = 56 := by omega
      subst hm56
      clear hm hwm hwe
      have s1 : IntKind.u64.wrap ((n : Int) * 8) = ((8 * n : Nat) : Int) := by rw [IntKind.wrap_u64]; omega
      obtain ⟨N, hN⟩ : ∃ N, 8 * n = N := ⟨_, rfl⟩
      rw [hN] at s1
      have F2 : Hid (Dg.tail n = [128] ++ List.replicate k 0 ++ Dg.bits8 N) := by show _ = _; rw [F.out, hN, Nat.mod_eq_of_lt (by omega)]
      have hN2 : N ≤ 800000 := by omega
      obtain ⟨ys, hys⟩ : ∃ ys : List Int, [128] ++ List.replicate k 0 = ys := ⟨_, rfl⟩
      rw [hys] at HO F2
      have hq100 : q ≤ 100 := by omega
      clear hN hys F hr
      go_wp2
      clear t1 t2 t3 t4
      go_loopw [3, 16] (fun v i wq => ∃ j : Nat, j ≤ 8 ∧ i = .int .i64 j ∧ OBn wq w.heap.size 5 v (q + j) (ys ++ (Dg.bits8 N).take j) ∧ Below w.heap.size w wq) (fun _ i _ => (8 - intOf i).toNat)
      case atStart => exact ⟨0, by omega, rfl, by simpa using HO.out, HB.out⟩
      case round =>
        obtain ⟨j, hj, rfl, ho, hb⟩ := hrel
        have HOj := Lib.hid ho; have HBj := Lib.hid hb
        clear ho hb
        rcases (by omega : j = 0 ∨ j = 1 ∨ j = 2 ∨ j = 3 ∨ j = 4 ∨ j = 5 ∨ j = 6 ∨ j = 7 ∨ j = 8) with rfl | rfl | rfl | rfl | rfl | rfl | rfl | rfl | rfl
        · rw [show ((0 : Nat) : Int) = 0 from rfl]
          have sb : IntKind.u8.wrap ((N : Int) / 72057594037927936) = (N : Int) / 72057594037927936 % 256 := by rw [IntKind.wrap_u8']
          go_wp2_with (at_builtin; obtain ⟨v5, w5, hrun, hown, hgrow⟩ := run_append_rb (P := Tryd.prog) w.heap.size (wr.heap.size + 1) 22 22 5 i0 Tryd.underlying22 hi hz0 hz1 hz2 _ (q + 0) _ (HOj.out.alloc (.cells #[.int .u8 ((N : Int) / 72057594037927936 % 256)] 5)) (some ⟨wr.heap.size, 0, none⟩) 1 1 [(N : Int) / 72057594037927936 % 256] (rb_one wr 5 ((N : Int) / 72057594037927936 % 256)) (by omega) (by have := HBj.out.size; simp; omega)
                       refine Lib.wpList_append_run _ rfl _ _ 22 22 rfl _ _ rfl rfl _ _ hrun ?_
                       have hb5 := below_app (HBj.out.alloc HBj.out.size _) (Nat.le_refl _) (HOj.out.alloc (.cells #[.int .u8 ((N : Int) / 72057594037927936 % 256)] 5)) hgrow
                       have HB5 := Lib.hid hb5; have HO5 := Lib.hid hown
                       clear hrun hown hgrow hb5)
          go_roundw
          case rel => exact ⟨1, by omega, by go_num, by have := HO5.out; rw [List.append_assoc] at this; exact this, HB5.out⟩
          case measure => simp [intOf]
        · rw [show ((1 : Nat) : Int) = 1 from rfl]
          have sb : IntKind.u8.wrap ((N : Int) / 281474976710656) = (N : Int) / 281474976710656 % 256 := by rw [IntKind.wrap_u8']
          go_wp2_with (at_builtin; obtain ⟨v5, w5, hrun, hown, hgrow⟩ := run_append_rb (P := Tryd.prog) w.heap.size (wr.heap.size + 1) 22 22 5 i0 Tryd.underlying22 hi hz0 hz1 hz2 _ (q + 1) _ (HOj.out.alloc (.cells #[.int .u8 ((N : Int) / 281474976710656 % 256)] 5)) (some ⟨wr.heap.size, 0, none⟩) 1 1 [(N : Int) / 281474976710656 % 256] (rb_one wr 5 ((N : Int) / 281474976710656 % 256)) (by omega) (by have := HBj.out.size; simp; omega)
                       refine Lib.wpList_append_run _ rfl _ _ 22 22 rfl _ _ rfl rfl _ _ hrun ?_
                       have hb5 := below_app (HBj.out.alloc HBj.out.size _) (Nat.le_refl _) (HOj.out.alloc (.cells #[.int .u8 ((N : Int) / 281474976710656 % 256)] 5)) hgrow
                       have HB5 := Lib.hid hb5; have HO5 := Lib.hid hown
                       clear hrun hown hgrow hb5)
          go_roundw
          case rel => exact ⟨2, by omega, by go_num, by have := HO5.out; rw [List.append_assoc] at this; exact this, HB5.out⟩
          case measure => simp [intOf]
        · rw [show ((2 : Nat) : Int) = 2 from rfl]
          have sb : IntKind.u8.wrap ((N : Int) / 1099511627776) = (N : Int) / 1099511627776 % 256 := by rw [IntKind.wrap_u8']
          go_wp2_with (at_builtin; obtain ⟨v5, w5, hrun, hown, hgrow⟩ := run_append_rb (P := Tryd.prog) w.heap.size (wr.heap.size + 1) 22 22 5 i0 Tryd.underlying22 hi hz0 hz1 hz2 _ (q + 2) _ (HOj.out.alloc (.cells #[.int .u8 ((N : Int) / 1099511627776 % 256)] 5)) (some ⟨wr.heap.size, 0, none⟩) 1 1 [(N : Int) / 1099511627776 % 256] (rb_one wr 5 ((N : Int) / 1099511627776 % 256)) (by omega) (by have := HBj.out.size; simp; omega)
                       refine Lib.wpList_append_run _ rfl _ _ 22 22 rfl _ _ rfl rfl _ _ hrun ?_
                       have hb5 := below_app (HBj.out.alloc HBj.out.size _) (Nat.le_refl _) (HOj.out.alloc (.cells #[.int .u8 ((N : Int) / 1099511627776 % 256)] 5)) hgrow
                       have HB5 := Lib.hid hb5; have HO5 := Lib.hid hown
                       clear hrun hown hgrow hb5)
          go_roundw
          case rel => exact ⟨3, by omega, by go_num, by have := HO5.out; rw [List.append_assoc] at this; exact this, HB5.out⟩
          case measure => simp [intOf]
        · rw [show ((3 : Nat) : Int) = 3 from rfl]
          have sb : IntKind.u8.wrap ((N : Int) / 4294967296) = (N : Int) / 4294967296 % 256 := by rw [IntKind.wrap_u8']
          go_wp2_with (at_builtin; obtain ⟨v5, w5, hrun, hown, hgrow⟩ := run_append_rb (P := Tryd.prog) w.heap.size (wr.heap.size + 1) 22 22 5 i0 Tryd.underlying22 hi hz0 hz1 hz2 _ (q + 3) _ (HOj.out.alloc (.cells #[.int .u8 ((N : Int) / 4294967296 % 256)] 5)) (some ⟨wr.heap.size, 0, none⟩) 1 1 [(N : Int) / 4294967296 % 256] (rb_one wr 5 ((N : Int) / 4294967296 % 256)) (by omega) (by have := HBj.out.size; simp; omega)
                       refine Lib.wpList_append_run _ rfl _ _ 22 22 rfl _ _ rfl rfl _ _ hrun ?_
                       have hb5 := below_app (HBj.out.alloc HBj.out.size _) (Nat.le_refl _) (HOj.out.alloc (.cells #[.int .u8 ((N : Int) / 4294967296 % 256)] 5)) hgrow
                       have HB5 := Lib.hid hb5; have HO5 := Lib.hid hown
                       clear hrun hown hgrow hb5)
          go_roundw
          case rel => exact ⟨4, by omega, by go_num, by have := HO5.out; rw [List.append_assoc] at this; exact this, HB5.out⟩
          case measure => simp [intOf]
        · rw [show ((4 : Nat) : Int) = 4 from rfl]
          have sb : IntKind.u8.wrap ((N : Int) / 16777216) = (N : Int) / 16777216 % 256 := by rw [IntKind.wrap_u8']
          go_wp2_with (at_builtin; obtain ⟨v5, w5, hrun, hown, hgrow⟩ := run_append_rb (P := Tryd.prog) w.heap.size (wr.heap.size + 1) 22 22 5 i0 Tryd.underlying22 hi hz0 hz1 hz2 _ (q + 4) _ (HOj.out.alloc (.cells #[.int .u8 ((N : Int) / 16777216 % 256)] 5)) (some ⟨wr.heap.size, 0, none⟩) 1 1 [(N : Int) / 16777216 % 256] (rb_one wr 5 ((N : Int) / 16777216 % 256)) (by omega) (by have := HBj.out.size; simp; omega)
                       refine Lib.wpList_append_run _ rfl _ _ 22 22 rfl _ _ rfl rfl _ _ hrun ?_
                       have hb5 := below_app (HBj.out.alloc HBj.out.size _) (Nat.le_refl _) (HOj.out.alloc (.cells #[.int .u8 ((N : Int) / 16777216 % 256)] 5)) hgrow
                       have HB5 := Lib.hid hb5; have HO5 := Lib.hid hown
                       clear hrun hown hgrow hb5)
          go_roundw
          case rel => exact ⟨5, by omega, by go_num, by have := HO5.out; rw [List.append_assoc] at this; exact this, HB5.out⟩
          case measure => simp [intOf]
        · rw [show ((5 : Nat) : Int) = 5 from rfl]
          have sb : IntKind.u8.wrap ((N : Int) / 65536) = (N : Int) / 65536 % 256 := by rw [IntKind.wrap_u8']
          go_wp2_with (at_builtin; obtain ⟨v5, w5, hrun, hown, hgrow⟩ := run_append_rb (P := Tryd.prog) w.heap.size (wr.heap.size + 1) 22 22 5 i0 Tryd.underlying22 hi hz0 hz1 hz2 _ (q + 5) _ (HOj.out.alloc (.cells #[.int .u8 ((N : Int) / 65536 % 256)] 5)) (some ⟨wr.heap.size, 0, none⟩) 1 1 [(N : Int) / 65536 % 256] (rb_one wr 5 ((N : Int) / 65536 % 256)) (by omega) (by have := HBj.out.size; simp; omega)
                       refine Lib.wpList_append_run _ rfl _ _ 22 22 rfl _ _ rfl rfl _ _ hrun ?_
                       have hb5 := below_app (HBj.out.alloc HBj.out.size _) (Nat.le_refl _) (HOj.out.alloc (.cells #[.int .u8 ((N : Int) / 65536 % 256)] 5)) hgrow
                       have HB5 := Lib.hid hb5; have HO5 := Lib.hid hown
                       clear hrun hown hgrow hb5)
          go_roundw
          case rel => exact ⟨6, by omega, by go_num, by have := HO5.out; rw [List.append_assoc] at this; exact this, HB5.out⟩
          case measure => simp [intOf]
        · rw [show ((6 : Nat) : Int) = 6 from rfl]
          have sb : IntKind.u8.wrap ((N : Int) / 256) = (N : Int) / 256 % 256 := by rw [IntKind.wrap_u8']
          go_wp2_with (at_builtin; obtain ⟨v5, w5, hrun, hown, hgrow⟩ := run_append_rb (P := Tryd.prog) w.heap.size (wr.heap.size + 1) 22 22 5 i0 Tryd.underlying22 hi hz0 hz1 hz2 _ (q + 6) _ (HOj.out.alloc (.cells #[.int .u8 ((N : Int) / 256 % 256)] 5)) (some ⟨wr.heap.size, 0, none⟩) 1 1 [(N : Int) / 256 % 256] (rb_one wr 5 ((N : Int) / 256 % 256)) (by omega) (by have := HBj.out.size; simp; omega)
                       refine Lib.wpList_append_run _ rfl _ _ 22 22 rfl _ _ rfl rfl _ _ hrun ?_
                       have hb5 := below_app (HBj.out.alloc HBj.out.size _) (Nat.le_refl _) (HOj.out.alloc (.cells #[.int .u8 ((N : Int) / 256 % 256)] 5)) hgrow
                       have HB5 := Lib.hid hb5; have HO5 := Lib.hid hown
                       clear hrun hown hgrow hb5)
          go_roundw
          case rel => exact ⟨7, by omega, by go_num, by have := HO5.out; rw [List.append_assoc] at this; exact this, HB5.out⟩
          case measure => simp [intOf]
        · rw [show ((7 : Nat) : Int) = 7 from rfl]
          have sb : IntKind.u8.wrap ((N : Int)) = (N : Int) % 256 := by rw [IntKind.wrap_u8']
          go_wp2_with (at_builtin; obtain ⟨v5, w5, hrun, hown, hgrow⟩ := run_append_rb (P := Tryd.prog) w.heap.size (wr.heap.size + 1) 22 22 5 i0 Tryd.underlying22 hi hz0 hz1 hz2 _ (q + 7) _ (HOj.out.alloc (.cells #[.int .u8 ((N : Int) % 256)] 5)) (some ⟨wr.heap.size, 0, none⟩) 1 1 [(N : Int) % 256] (rb_one wr 5 ((N : Int) % 256)) (by omega) (by have := HBj.out.size; simp; omega)
                       refine Lib.wpList_append_run _ rfl _ _ 22 22 rfl _ _ rfl rfl _ _ hrun ?_
                       have hb5 := below_app (HBj.out.alloc HBj.out.size _) (Nat.le_refl _) (HOj.out.alloc (.cells #[.int .u8 ((N : Int) % 256)] 5)) hgrow
                       have HB5 := Lib.hid hb5; have HO5 := Lib.hid hown
                       clear hrun hown hgrow hb5)
          go_roundw
          case rel => exact ⟨8, by omega, by go_num, by have := HO5.out; rw [List.append_assoc] at this; exact this, HB5.out⟩
          case measure => simp [intOf]
        · rw [show ((8 : Nat) : Int) = 8 from rfl]
          obtain ⟨A8, c8, rfl, _, _, _⟩ := HOj.out.slice
          go_wp2
          go_ret
          exact ⟨_, rfl, by rw [F2.out, HQ.out]; exact HOj.out, HBj.out⟩
theorem lay_start {w : World} {CS : Array Value} {T T2 : TypeId} {sl : List Nat} (h : (sl.map vw).toArray = CS) :
    WX (((w.alloc (.cells CS T)).alloc (.cells ((List.replicate 32 0).map vb).toArray T2)).alloc (.cells ((List.replicate 32 0).map vb).toArray T2)) w.heap.size T sl ∧
    YX (((w.alloc (.cells CS T)).alloc (.cells ((List.replicate 32 0).map vb).toArray T2)).alloc (.cells ((List.replicate 32 0).map vb).toArray T2)) (w.heap.size + 1) T2 (List.replicate 32 0) ∧
    YX (((w.alloc (.cells CS T)).alloc (.cells ((List.replicate 32 0).map vb).toArray T2)).alloc (.cells ((List.replicate 32 0).map vb).toArray T2)) (w.heap.size + 1 + 1) T2 (List.replicate 32 0) ∧
    Below w.heap.size w (((w.alloc (.cells CS T)).alloc (.cells ((List.replicate 32 0).map vb).toArray T2)).alloc (.cells ((List.replicate 32 0).map vb).toArray T2)) := by
  subst h
  refine ⟨BX.alloc (BX.alloc (BX.new w T _) _) _, ?_, ?_, (((Below.refl _ w).alloc (Nat.le_refl _) _).alloc (by simp) _).alloc (by simp; omega) _⟩
  · have := BX.alloc (BX.new (w.alloc (.cells (sl.map vw).toArray T)) T2 ((List.replicate 32 0).map vb).toArray) (.cells ((List.replicate 32 0).map vb).toArray T2)
    simp only [World.size_alloc] at this
    exact this
  · have := BX.new ((w.alloc (.cells (sl.map vw).toArray T)).alloc (.cells ((List.replicate 32 0).map vb).toArray T2)) T2 ((List.replicate 32 0).map vb).toArray
    simp only [World.size_alloc] at this
    exact this
theorem lay_any12 (st : Dg.St) (w : World) (hs : st.ok) :
    Calls Tryd.prog 22 #[.agg (st.l.map vw).toArray] w fun e w' => e = .returned (.agg ((Dg.out st).map vb).toArray) ∧ Below w.heap.size w w' := by
  obtain ⟨CS, hCS⟩ : ∃ CS, (st.l.map vw).toArray = CS := ⟨_, rfl⟩
  have HST := Lib.hid (lay_start (w := w) (T := 40) (T2 := 25) hCS)
  have TI := Lib.hid (show (Tryd.prog.info? 25).map (·.size) = some 32 by kernel_rfl)
  rw [hCS]
  clear hCS
  go_enter Tryd.func22, Tryd.ntmps22
  go_upto_region 2 with (fail)
  have hst := HST.out
  change Code.wp _ _ _ _ (((w.alloc (.cells CS 40)).alloc (.cells ((List.replicate 32 0).map vb).toArray 25)).alloc (.cells ((List.replicate 32 0).map vb).toArray 25))
  generalize ((w.alloc (.cells CS 40)).alloc (.cells ((List.replicate 32 0).map vb).toArray 25)).alloc (.cells ((List.replicate 32 0).map vb).toArray 25) = W0 at *
  obtain ⟨h1, h2, h3, h4⟩ := hst
  have H1 := Lib.hid h1; have H2 := Lib.hid h2; have H3 := Lib.hid h3; have H4 := Lib.hid h4
  clear h1 h2 h3 h4 HST
  go_wp2
  go_loopw [5] (fun v wr => ∃ i : Nat, i ≤ 32 ∧ v = .int .i64 i ∧ YX wr (w.heap.size + 1 + 1) 25 (Dg.layi (Dg.out st) 32 i) ∧ WX wr w.heap.size 40 st.l ∧ YX wr (w.heap.size + 1) 25 (List.replicate 32 0) ∧ Below w.heap.size w wr) (fun v _ => 32 - (intOf v).toNat)
  case atStart => exact ⟨0, by omega, rfl, H3.out, H1.out, H2.out, H4.out⟩
  case round =>
    obtain ⟨i, hi, rfl, hy1, hp1, hr1, hb1⟩ := hrel
    have HY1 := Lib.hid hy1; have HP1 := Lib.hid hp1; have HR1 := Lib.hid hr1; have HB1 := Lib.hid hb1
    clear H1 H2 H3 H4
    by_cases hlt : i < 32
    · have cz := hy1.cell (j := i) (by rw [Dg.layi_len (Dg.out_len st) hi]; exact hlt)
      have fz := BX.free hy1 i
      have hset := Dg.layi_set (Dg.out_len st) hlt
      have ho0 := Dg.out_at st hlt
      obtain ⟨q, r, hqr, hr4⟩ : ∃ q r, i = 4 * q + r ∧ r < 4 := ⟨i / 4, i % 4, by omega, by omega⟩
      have cp := hp1.cell (j := q) (by rw [Dg.l_len]; omega)
      rw [show i / 4 = q from by omega, show i % 4 = r from by omega] at ho0
      have hxl := Dg.l_lt hs q
      have q8 : (q : Int) < 8 := by omega
      clear hy1 hp1 hr1 hb1
      generalize st.l.getD q 0 = x at *
      subst hqr
      rcases (by omega : r = 0 ∨ r = 1 ∨ r = 2 ∨ r = 3) with rfl | rfl | rfl | rfl
      · obtain ⟨z, hz⟩ : ∃ z : Nat, x / 16777216 % 256 = z := ⟨_, rfl⟩
        have sb : IntKind.u8.wrap ((x : Int) / 16777216) = (z : Int) := by rw [IntKind.wrap_u8']; omega
        have ho : (Dg.out st).getD (4 * q + 0) 0 = (z : Int) := by rw [ho0, ← hz]; try simp
        rw [ho] at hset
        have HSET := Lib.hid hset
        have t3 : ((4 * q + 0 : Nat) : Int).tdiv 4 = (q : Int) := by rw [Int.tdiv_eq_ediv_of_nonneg (by omega)]; omega
        have t4 : ((4 * q + 0 : Nat) : Int).tmod 4 = 0 := by rw [Int.tmod_eq_emod_of_nonneg (by omega)]; omega
        obtain ⟨i, hie⟩ : ∃ i, 4 * q + 0 = i := ⟨_, rfl⟩
        rw [hie] at t3 t4 HSET cz hlt fz HY1 ⊢
        have i32 : (i : Int) < 32 := by omega
        clear hset ho ho0 hz hie
        go_wp2
        go_roundw
        case rel => exact ⟨i + 1, by omega, by go_num, by rw [← HSET.out]; exact YX.set HY1.out i z, BX.other HP1.out (by omega) _, BX.other HR1.out (by omega) _, HB1.out.setCell (show w.heap.size ≤ w.heap.size + 1 + 1 by omega) _⟩
        case measure => simp [intOf]; omega
      · obtain ⟨z, hz⟩ : ∃ z : Nat, x / 65536 % 256 = z := ⟨_, rfl⟩
        have sb : IntKind.u8.wrap ((x : Int) / 65536) = (z : Int) := by rw [IntKind.wrap_u8']; omega
        have ho : (Dg.out st).getD (4 * q + 1) 0 = (z : Int) := by rw [ho0, ← hz]; try simp
        rw [ho] at hset
        have HSET := Lib.hid hset
        have t3 : ((4 * q + 1 : Nat) : Int).tdiv 4 = (q : Int) := by rw [Int.tdiv_eq_ediv_of_nonneg (by omega)]; omega
        have t4 : ((4 * q + 1 : Nat) : Int).tmod 4 = 1 := by rw [Int.tmod_eq_emod_of_nonneg (by omega)]; omega
        obtain ⟨i, hie⟩ : ∃ i, 4 * q + 1 = i := ⟨_, rfl⟩
        rw [hie] at t3 t4 HSET cz hlt fz HY1 ⊢
        have i32 : (i : Int) < 32 := by omega
        clear hset ho ho0 hz hie
        go_wp2
        go_roundw
        case rel => exact ⟨i + 1, by omega, by go_num, by rw [← HSET.out]; exact YX.set HY1.out i z, BX.other HP1.out (by omega) _, BX.other HR1.out (by omega) _, HB1.out.setCell (show w.heap.size ≤ w.heap.size + 1 + 1 by omega) _⟩
        case measure => simp [intOf]; omega
      · obtain ⟨z, hz⟩ : ∃ z : Nat, x / 256 % 256 = z := ⟨_, rfl⟩
        have sb : IntKind.u8.wrap ((x : Int) / 256) = (z : Int) := by rw [IntKind.wrap_u8']; omega
        have ho : (Dg.out st).getD (4 * q + 2) 0 = (z : Int) := by rw [ho0, ← hz]; try simp
        rw [ho] at hset
        have HSET := Lib.hid hset
        have t3 : ((4 * q + 2 : Nat) : Int).tdiv 4 = (q : Int) := by rw [Int.tdiv_eq_ediv_of_nonneg (by omega)]; omega
        have t4 : ((4 * q + 2 : Nat) : Int).tmod 4 = 2 := by rw [Int.tmod_eq_emod_of_nonneg (by omega)]; omega
        obtain ⟨i, hie⟩ : ∃ i, 4 * q + 2 = i := ⟨_, rfl⟩
        rw [hie] at t3 t4 HSET cz hlt fz HY1 ⊢
        have i32 : (i : Int) < 32 := by omega
        clear hset ho ho0 hz hie
        go_wp2
        go_roundw
        case rel => exact ⟨i + 1, by omega, by go_num, by rw [← HSET.out]; exact YX.set HY1.out i z, BX.other HP1.out (by omega) _, BX.other HR1.out (by omega) _, HB1.out.setCell (show w.heap.size ≤ w.heap.size + 1 + 1 by omega) _⟩
        case measure => simp [intOf]; omega
      · obtain ⟨z, hz⟩ : ∃ z : Nat, x % 256 = z := ⟨_, rfl⟩
        have sb : IntKind.u8.wrap ((x : Int)) = (z : Int) := by rw [IntKind.wrap_u8']; omega
        have ho : (Dg.out st).getD (4 * q + 3) 0 = (z : Int) := by rw [ho0, ← hz]; try simp
        rw [ho] at hset
        have HSET := Lib.hid hset
        have t3 : ((4 * q + 3 : Nat) : Int).tdiv 4 = (q : Int) := by rw [Int.tdiv_eq_ediv_of_nonneg (by omega)]; omega
        have t4 : ((4 * q + 3 : Nat) : Int).tmod 4 = 3 := by rw [Int.tmod_eq_emod_of_nonneg (by omega)]; omega
        obtain ⟨i, hie⟩ : ∃ i, 4 * q + 3 = i := ⟨_, rfl⟩
        rw [hie] at t3 t4 HSET cz hlt fz HY1 ⊢
        have i32 : (i : Int) < 32 := by omega
        clear hset ho ho0 hz hie
        go_wp2
        go_roundw
        case rel => exact ⟨i + 1, by omega, by go_num, by rw [← HSET.out]; exact YX.set HY1.out i z, BX.other HP1.out (by omega) _, BX.other HR1.out (by omega) _, HB1.out.setCell (show w.heap.size ≤ w.heap.size + 1 + 1 by omega) _⟩
        case measure => simp [intOf]; omega
    · have e : i = 32 := by omega
      subst e
      rw [Dg.layi_all (Dg.out_len st)] at hy1
      have hl32 : ((Dg.out st).map vb).length = 32 := by rw [List.length_map, Dg.out_len]
      go_upto_region 7 with (fail)
      refine wp_region_lit ?_
      refine wpList_load_mid rfl 25 (.tmp 3) rfl (w.heap.size + 1 + 1) 0 rfl ((Dg.out st).map vb) _ (YX.range hy1) Tryd.underlying25 rfl (by rw [hl32]; exact TI.out) ?_
      refine wpList_store_mid rfl 25 (.tmp 2) (.tmp 21) rfl (w.heap.size + 1) 0 ((Dg.out st).map vb).toArray rfl rfl (by simpa [Dg.out_len] using YX.there hr1) (by simpa [Dg.out_len] using TI.out) (all_oneCell_toArray (vb_one _)) ?_
      refine wpList_nil ?_
      have hx2 : YX (wr.setCells (w.heap.size + 1) 0 ((Dg.out st).map vb).toArray.toList) (w.heap.size + 1) 25 (Dg.out st) := by
        have := YX.sets hr1 (l' := Dg.out st) (by rw [Dg.out_len]; simp)
        simpa using this
      have hb2 : Below w.heap.size w (wr.setCells (w.heap.size + 1) 0 ((Dg.out st).map vb).toArray.toList) := below_sets (by omega) _ _ hb1
      have rl := run_loadVar_mid (P := Tryd.prog) _ (w.heap.size + 1) 0 25 _ _ (YX.range hx2) Tryd.underlying25 rfl (by rw [hl32]; exact TI.out)
      have RL := Lib.hid rl; have HB2 := Lib.hid hb2
      clear rl hb2 hx2 hy1 hp1 hr1 hb1 HY1 HP1 HR1 HB1
      generalize wr.setCells (w.heap.size + 1) 0 ((Dg.out st).map vb).toArray.toList = W2 at *
      obtain ⟨V, hV⟩ : ∃ V, Value.agg ((Dg.out st).map vb).toArray = V := ⟨_, rfl⟩
      have HV := Lib.hid hV
      rw [hV] at RL ⊢
      clear hV
      go_wp2
      refine bodyPost_ret (v := V) ?_ rfl ⟨by rw [← HV.out], HB2.out⟩
      exact results_cell rfl _ _ ⟨w.heap.size + 1, 0, none⟩ V rfl RL.out
end Go.Proofs.YtfggknplekiaoaaDoor
