/- WALKS OF LAYER 7, SECOND PART: what is there; a copy; filled up; opened; clean; the end; and the reference's. -/
import Derived.Test.YtjofdgjcbjdhbaaGreatDoorGb8
import Derived.Test.YtjofdgjcbjdhbaaGreatDoorAp
namespace Go.Proofs.YtjofdgjcbjdhbaaGreatDoor
open Go.RowKit
set_option maxHeartbeats 400000
set_option maxRecDepth 100000
set_option linter.unusedVariables false
theorem has_any (A : Option Addr) (n c : Nat) (z : Int) (w : World) (hn : n ≤ 1000000) (h0 : -9223372036854775808 ≤ z) (h1 : z ≤ 9223372036854775807) :
    Calls Tryz.prog 135 #[.slice A n c, .int .i64 z] w fun e w' => e = .returned (.int .i64 (Bk.err n z)) ∧ w = w' := by
  by_cases h : z < 0
  · have E := Lib.hid (Bk.err_arg (n := n) h)
    go_enter Tryz.func135, Tryz.ntmps135
    go_wp2
    go_ret
    exact ⟨ret_int E.out.symm, rfl⟩
  · have K := Lib.hid (count_any z w h0 h1)
    have t1 := Bk.td (n := (n : Int)) (by omega)
    obtain ⟨m, hm⟩ : ∃ m : Nat, n / 512 = m := ⟨_, rfl⟩
    rw [show (n : Int) / 512 = (m : Int) from by omega] at t1
    have t2 : IntKind.i64.wrap (m : Int) = m := IntWalk.i64_in _ (by omega)
    have EA := fun k => Lib.hid (Bk.err_end (n := n) (z := z) (by omega) k)
    have EB := fun k => Lib.hid (Bk.err_ok (n := n) (z := z) (by omega) k)
    rw [hm] at EA EB
    clear hm
    generalize Bk.cnt z = q at *
    by_cases k : (m : Int) < q
    · have E := EA k
      clear EA EB
      go_enter Tryz.func135, Tryz.ntmps135
      go_wp2_with (go_at_call 89; (with_reducible refine K.out.mono ?_); rintro e w' ⟨rfl, rfl⟩)
      go_ret
      exact ⟨ret_int E.out.symm, rfl⟩
    · have E := EB k
      clear EA EB
      go_enter Tryz.func135, Tryz.ntmps135
      go_wp2_with (go_at_call 89; (with_reducible refine K.out.mono ?_); rintro e w' ⟨rfl, rfl⟩)
      go_ret
      exact ⟨ret_int E.out.symm, rfl⟩
theorem bclone_any (A : Option Addr) (n c : Nat) (xs : List Int) (w : World) (ha : RB w w.heap.size A n xs) (hn : n ≤ 1000000) :
    Calls Tryz.prog 128 #[.slice A n c] w fun e w' => ∃ v, e = .returned v ∧ OBn w' w.heap.size 5 v n xs ∧ Below w.heap.size w w' := by
  obtain ⟨i0, hi, hz0, hz1, hz2⟩ := info_parts info_u8
  have q22 : ∀ (w : World) (a : Option Addr) (n c n' c' : Nat), (binOp .eql 25 (.slice a n c) (.slice none n' c')).run Tryz.prog w = .ok (.bool a.isNone) w := fun w a n c n' c' => Lib.run_eql_slice_nil w _ _ a n c n' c' Tryz.underlying25
  cases A with
  | none =>
    have h0 : n = 0 := by
      rcases Nat.eq_zero_or_pos n with h | h
      · exact h
      · obtain ⟨_, _, e, _⟩ := ha.2 h
        cases e
    have hx := ha.none0 h0
    subst hx h0
    clear ha
    go_enter Tryz.func128, Tryz.ntmps128
    go_wp2
    go_ret
    exact ⟨_, rfl, World.ownsRow_nil _ _ _ _, Below.refl _ _⟩
  | some a =>
    have hal : RB (w.alloc (.cells #[] 5)) w.heap.size (some a) n xs := ha.alloc (Nat.le_refl _) _
    have HAL := Lib.hid hal
    clear hal ha
    go_enter Tryz.func128, Tryz.ntmps128
    go_wp2_with (at_builtin; obtain ⟨v', w1, hrun, hown, hgrow⟩ := run_append_rb (P := Tryz.prog) w.heap.size w.heap.size 25 25 5 i0 Tryz.underlying25 hi hz0 hz1 hz2 _ 0 [] (World.ownsRow_made w #[] 0 (Nat.le_refl _) (Nat.zero_le _) rfl) (some a) n c xs HAL.out (by omega) (by simp); refine Lib.wpList_append_run _ rfl _ _ 25 25 rfl _ _ rfl rfl _ _ hrun ?_)
    go_ret
    refine ⟨v', rfl, by simpa using hown, ?_⟩
    exact ((Below.refl _ w).alloc (Nat.le_refl _) _).grown hgrow (by simp) (by intro k hk; simp [Value.ownBlock] at hk; omega)
end Go.Proofs.YtjofdgjcbjdhbaaGreatDoor
/- WALKS OF LAYER 7, THIRD PART: filled up; opened; clean; the end; and the reference's. -/
namespace Go.Proofs.YtjofdgjcbjdhbaaGreatDoor
open Go.RowKit
set_option maxHeartbeats 400000
set_option maxRecDepth 100000
set_option linter.unusedVariables false
theorem cell_one7 (w : World) (x : Value) (e : TypeId) : ∀ j u, [x][j]? = some u → (w.alloc (.cells #[x] e)).cell? ((⟨w.heap.size, 0, none⟩ : Addr).add j) = some u := World.news_of_block (heap_alloc_new _ _)
theorem OBn.row7 {w : World} {base g d c : Nat} {e : TypeId} {xs : List Int} (h : OBn w base e (.slice (some ⟨g, 0, none⟩) d c) d xs) :
    ∃ l : List Value, w.heap[g]? = some (.cells l.toArray e (0, 0)) ∧ l.length = c ∧ l.take d = xs.map (Value.int .u8) := by
  rcases h.2 with ⟨hv, _⟩ | ⟨g, cap, cur, hv, hbg, hg, hnc, hcm, hcs, htk⟩
  · cases hv
  · cases hv
    exact ⟨cur.toList, by simpa using hg, by simpa using hcs, by simpa using htk⟩
theorem fill_any (A : Option Addr) (n c : Nat) (xs : List Int) (w : World) (ha : RB w w.heap.size A n xs) (hn : n ≤ 900000) :
    Calls Tryz.prog 86 #[.slice A n c] w fun e w' => ∃ v, e = .returned v ∧ OB w' w.heap.size 5 v (Bk.fill xs) ∧ Below w.heap.size w w' := by
  obtain ⟨i0, hi, hz0, hz1, hz2⟩ := info_parts info_u8
  have hxl := ha.1
  have bd := Bk.pad_bd (n : Int)
  have K := Lib.hid (pad_any (n : Int) w (by omega) (by omega))
  have F : Hid (Bk.fill xs = xs ++ List.replicate (Bk.pad (n : Int)).toNat 0) := by
    show _ = _
    unfold Bk.fill
    rw [hxl]
  obtain ⟨p, hp⟩ : ∃ p : Nat, Bk.pad (n : Int) = (p : Int) := ⟨(Bk.pad (n : Int)).toNat, by omega⟩
  rw [hp] at K F bd
  rw [Int.toNat_natCast] at F
  have HA := Lib.hid ha; have HXL := Lib.hid hxl; clear ha hxl hp
  have s1 : IntKind.i64.wrap ((n : Int) + (p : Int)) = ((n + p : Nat) : Int) := by rw [IntWalk.i64_in _ (by omega)]; omega
  obtain ⟨d, hd⟩ : ∃ d : Nat, n + p = d := ⟨_, rfl⟩
  rw [hd] at s1
  have HD := Lib.hid hd; clear hd
  have hdl : d ≤ 1000000 := by have := HD.out; omega
  go_enter Tryz.func86, Tryz.ntmps86
  go_wp2_with (first
    | (go_at_call 113; (with_reducible refine K.out.mono ?_); rintro e w' ⟨rfl, rfl⟩)
    | (at_make; refine wpList_make_full _ rfl _ _ 25 rfl w.heap.size 5 i0 _ 1 Tryz.underlying25 hi hz0 hz1 .i64 .i64 _ _ d rfl rfl (by omega) (by omega) (by rw [hz2]; omega) (by unfold maxLen; omega) (Nat.le_refl _) ?_; intro w1 hown hgrow
       have hbel : Below w.heap.size w w1 := (Below.refl _ _).grown hgrow (Nat.le_refl _) (by simp)
       obtain ⟨l, hg, hll, htk⟩ := (OBn.made hown).row7
       have HH := Lib.hid hg; have HLL := Lib.hid hll; have HT := Lib.hid htk; have HB := Lib.hid hbel; have HAB := Lib.hid (HA.out.below hbel)
       clear hown hgrow hg hll htk hbel)
    | (refine wpList_copy_splice rfl _ _ 25 25 rfl 5 Tryz.underlying25 (by kernel_rfl) (some ⟨w.heap.size, 0, none⟩) A d d n c rfl rfl w.heap.size 0 l 5 HH.out (xs.map (Value.int .u8)) (by rw [List.length_map, HXL.out]; exact (Nat.min_eq_left (by have := HD.out; omega)).symm) (fun h => ⟨rfl, HAB.out.src7 (by have := HXL.out; simp at h; omega)⟩) (by rw [List.length_map, HXL.out, HLL.out]; have := HD.out; omega) (u8_cells _) w.heap.size w HB.out (Nat.le_refl _) ?_; intro w2 hg2 hb2))
  go_ret
  refine ⟨_, rfl, ?_, hb2⟩
  have := OBn.spliced (base := w.heap.size) (xs := List.replicate d 0) (n := d) hg2.out HLL.out (Nat.le_refl _) (by unfold maxLen; omega) (Nat.le_refl _) HT.out (by simp) (by rw [HXL.out]; have := HD.out; omega)
  rw [F.out]
  have e : (List.replicate d (0 : Int)).take 0 ++ xs ++ (List.replicate d 0).drop (0 + xs.length) = xs ++ List.replicate p 0 := by
    rw [HXL.out, List.take_zero, List.nil_append, List.drop_replicate, show d - (0 + n) = p from by have := HD.out; omega]
  rw [e] at this
  exact this.ob
theorem reffill_any (A : Option Addr) (n c : Nat) (xs : List Int) (w : World) (ha : RB w w.heap.size A n xs) (hn : n ≤ 900000) :
    Calls Tryz.prog 46 #[.slice A n c] w fun e w' => ∃ v, e = .returned v ∧ OB w' w.heap.size 5 v (Bk.fill xs) ∧ Below w.heap.size w w' := by
  obtain ⟨i0, hi, hz0, hz1, hz2⟩ := info_parts info_u8
  have hxl := ha.1
  have bd := Bk.pad_bd (n : Int)
  have F : Hid (Bk.fill xs = xs ++ List.replicate (Bk.pad (n : Int)).toNat 0) := by
    show _ = _
    unfold Bk.fill
    rw [hxl]
  obtain ⟨p, hp⟩ : ∃ p : Nat, Bk.pad (n : Int) = (p : Int) := ⟨(Bk.pad (n : Int)).toNat, by omega⟩
  have hmod : ∀ q : Nat, n ≤ q → q < n + p → q % 512 ≠ 0 := fun q h1 h2 => by
    unfold Bk.pad at hp
    split at hp
    · omega
    · split at hp <;> omega
  have hend : (n + p) % 512 = 0 := by
    unfold Bk.pad at hp
    split at hp
    · omega
    · split at hp <;> omega
  rw [hp] at F bd
  rw [Int.toNat_natCast] at F
  have HA := Lib.hid ha; have HXL := Lib.hid hxl; have HM := Lib.hid hmod; have HE := Lib.hid hend; clear ha hxl hp hmod hend
  go_enter Tryz.func46, Tryz.ntmps46
  go_wp2_with (at_builtin; obtain ⟨v1, w1, hrun, hown, hgrow⟩ := run_append_rb (P := Tryz.prog) w.heap.size w.heap.size 25 25 5 i0 Tryz.underlying25 hi hz0 hz1 hz2 (.slice none 0 0) 0 [] (World.ownsRow_nil _ _ _ _) A n c xs HA.out (by omega) (Nat.le_refl _); refine Lib.wpList_append_run _ rfl _ _ 25 25 rfl _ _ rfl rfl _ _ hrun ?_)
  have hb1 : Below w.heap.size w w1 := (Below.refl _ w).grown hgrow (by simp) (by intro k hk; simp [Value.ownBlock] at hk)
  have ho1 : OBn w1 w.heap.size 5 v1 n (xs ++ List.replicate 0 0) := by simpa using hown
  have HO1 := Lib.hid ho1; have HB1 := Lib.hid hb1
  clear hrun hown hgrow ho1 hb1
  go_loopw [3] (fun v wr => ∃ k : Nat, k ≤ p ∧ OBn wr w.heap.size 5 v (n + k) (xs ++ List.replicate k 0) ∧ Below w.heap.size w wr) (fun v _ => n + p - lenV v)
  case atStart => exact ⟨0, by omega, HO1.out, HB1.out⟩
  case round =>
    obtain ⟨k, hk, ho, hb⟩ := hrel
    have HO := Lib.hid ho; have HB := Lib.hid hb
    obtain ⟨A2, c2, rfl, _, _, _⟩ := ho.slice
    have t1 := Bk.td (n := ((n + k : Nat) : Int)) (by omega)
    have t2 := Bk.tm (n := ((n + k : Nat) : Int)) (by omega)
    have hwm := HM.out (n + k) (by omega)
    have hwe := HE.out
    clear ho hb
    obtain ⟨q, hq⟩ : ∃ q : Nat, n + k = q := ⟨_, rfl⟩
    rw [hq] at t1 t2 HO hwm ⊢
    have HQ := Lib.hid hq
    clear t1
    obtain ⟨m, hm⟩ : ∃ m : Nat, q % 512 = m := ⟨_, rfl⟩
    rw [show (q : Int) % 512 = (m : Int) from by omega] at t2
    have t3 : IntKind.i64.wrap (m : Int) = m := IntWalk.i64_in _ (by omega)
    by_cases hlt : k < p
    · have g : ((m : Int) != 0) = true := by have := hwm (by omega); simp; omega
      have hq2 : q + 1 ≤ 1000000 := by omega
      have HM2 := Lib.hid hm
      clear hm hwm hwe hq
      go_wp2_with (at_builtin; obtain ⟨v2, w2, hrun, hown, hgrow⟩ := run_append_rb (P := Tryz.prog) w.heap.size (wr.heap.size + 1) 25 25 5 i0 Tryz.underlying25 hi hz0 hz1 hz2 _ q _ (HO.out.alloc (.cells #[.int .u8 0] 5)) (some ⟨wr.heap.size, 0, none⟩) 1 1 [0] ⟨rfl, fun _ => ⟨wr.heap.size, 0, rfl, by omega, fun j hj => by rw [show j = 0 from by omega]; exact cell_one7 wr (.int .u8 0) 5 0 _ rfl⟩⟩ (by omega) (by have := HB.out.size; simp; omega); refine Lib.wpList_append_run _ rfl _ _ 25 25 rfl _ _ rfl rfl _ _ hrun ?_)
      have hb2 := below_app (HB.out.alloc HB.out.size _) (Nat.le_refl _) (HO.out.alloc (.cells #[.int .u8 0] 5)) hgrow
      have HO2 := Lib.hid hown; have HB2 := Lib.hid hb2
      obtain ⟨A3, c3, hv3, _⟩ := hown.slice
      clear hown hb2 hrun hgrow
      go_roundw
      case rel => exact ⟨k + 1, by omega, by have := HO2.out; rw [List.append_assoc, ← List.replicate_succ'] at this; rw [← Nat.add_assoc, HQ.out]; exact this, HB2.out⟩
      case measure => subst hv3; simp only [lenV]; have := HQ.out; omega
    · have e : k = p := by omega
      subst e
      have g : ((m : Int) != 0) = false := by simp; omega
      clear hm hwm hwe hq
      go_wp2
      go_ret
      exact ⟨_, rfl, by rw [F.out]; exact HO.out.ob, HB.out⟩
theorem open_any (A : Option Addr) (n c : Nat) (xs : List Int) (z : Int) (w : World) (ha : RB w w.heap.size A n xs) (hc : n ≤ c) (hc2 : c ≤ maxLen) (hn : n ≤ 900000) (h0 : -9223372036854775808 ≤ z) (h1 : z ≤ 9223372036854775807) :
    Calls Tryz.prog 112 #[.slice A n c, .int .i64 z] w fun e w' => ∃ v, e = .returned (.tuple #[v, .int .i64 (Bk.err n z)]) ∧ OB w' w.heap.size 5 v (Bk.open_ xs z) ∧ Below w.heap.size w w' := by
  have hxl := ha.1
  have K := Lib.hid (has_any A n c z w (by omega) h0 h1)
  by_cases h : Bk.err n z = 0
  · obtain ⟨z0, z1⟩ := Bk.err_zero h
    have z2 := Bk.pad_bd z
    obtain ⟨k, rfl⟩ : ∃ k : Nat, z = (k : Int) := ⟨z.toNat, by omega⟩
    have hk : k ≤ n := by omega
    have O : Hid (Bk.open_ xs (k : Int) = xs.take k) := by
      show _ = _
      unfold Bk.open_
      rw [hxl, if_pos h, Int.toNat_natCast]
    have C := Lib.hid (bclone_any A k c (xs.take k) w (ha.pre hk) (by omega))
    rw [h] at K ⊢
    clear h hxl
    unfold maxLen at hc2
    go_enter Tryz.func112, Tryz.ntmps112
    go_wp2_with (first | (go_at_call 135; (with_reducible refine K.out.mono ?_); rintro e w' ⟨rfl, rfl⟩) | (go_at_call 128; (with_reducible refine C.out.mono ?_); rintro e w1 ⟨v1, rfl, ho1, hb1⟩))
    go_ret2
    exact ⟨_, rfl, by rw [O.out]; exact ho1.ob, hb1⟩
  · have O : Hid (Bk.open_ xs z = []) := by
      show _ = _
      unfold Bk.open_
      rw [hxl, if_neg h]
    have g : (Bk.err n z != 0) = true := by simpa using h
    clear hxl h
    generalize Bk.err n z = e at *
    go_enter Tryz.func112, Tryz.ntmps112
    go_wp2_with (first | (go_at_call 135; (with_reducible refine K.out.mono ?_); rintro e w' ⟨rfl, rfl⟩))
    go_ret2
    exact ⟨_, rfl, by rw [O.out]; exact OB.nil _ _ _, Below.refl _ _⟩
theorem end_any (w : World) : Calls Tryz.prog 41 #[] w fun e w' => ∃ v, e = .returned v ∧ OBn w' w.heap.size 5 v 1024 (List.replicate 1024 0) ∧ Below w.heap.size w w' := by
  obtain ⟨i0, hi, hz0, hz1, hz2⟩ := info_parts info_u8
  go_enter Tryz.func41, Tryz.ntmps41
  go_wp2_with (at_make; refine wpList_make_full _ rfl _ _ 25 rfl w.heap.size 5 i0 _ 1 Tryz.underlying25 hi hz0 hz1 .i64 .i64 _ _ 1024 rfl rfl rfl rfl (by rw [hz2]; omega) (by unfold maxLen; omega) (Nat.le_refl _) ?_; intro w1 hown hgrow)
  have hbel : Below w.heap.size w w1 := (Below.refl _ _).grown hgrow (Nat.le_refl _) (by simp)
  have hob : OBn w1 w.heap.size 5 (.slice (some ⟨w.heap.size, 0, none⟩) 1024 1024) 1024 (List.replicate 1024 0) := OBn.made hown
  have HB := Lib.hid hbel; have HO := Lib.hid hob
  clear hbel hob hown hgrow
  go_ret
  exact ⟨_, rfl, HO.out, HB.out⟩
end Go.Proofs.YtjofdgjcbjdhbaaGreatDoor
