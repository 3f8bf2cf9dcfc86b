/- WALKS OF LAYER 11, THIRD PART: a sum's four bytes; two slices held against each other; a copy; room; parts one behind the other. -/
import Derived.Test.YtjiafpmcibokbaaC11b
namespace Go.Proofs.Ytjiafpmcibokbaa
open Go.RowKit
set_option maxHeartbeats 400000
set_option maxRecDepth 100000
set_option linter.unusedVariables false
namespace Ck
theorem lay_at (s : Nat) : (lay s).take 0 ++ List.replicate 4 0 = [0, 0, 0, 0] := rfl
def part (s k : Nat) : List Int := (lay s).take k ++ List.replicate (4 - k) 0
theorem part_all (s : Nat) : part s 4 = lay s := rfl
theorem part_set0 (s : Nat) : (part s 0).set 0 ((s % 256 : Nat) : Int) = part s 1 := rfl
theorem part_set1 (s : Nat) : (part s 1).set 1 ((s / 256 % 256 : Nat) : Int) = part s 2 := rfl
theorem part_set2 (s : Nat) : (part s 2).set 2 ((s / 65536 % 256 : Nat) : Int) = part s 3 := rfl
theorem part_set3 (s : Nat) : (part s 3).set 3 ((s / 16777216 : Nat) : Int) = part s 4 := rfl
end Ck
theorem lay_any (s : Nat) (w : World) (hs : s < 4294967296) :
    Calls Try.prog 46 #[.int .u32 s] w fun e w' => ∃ v, e = .returned v ∧ OBn w' w.heap.size 5 v 4 (Ck.lay s) ∧ Below w.heap.size w w' := by
  obtain ⟨i0, hi, hz0, hz1, hz2⟩ := info_parts info_u8
  have s0 : IntKind.u8.wrap (s : Int) = ((s % 256 : Nat) : Int) := by rw [IntKind.wrap_u8']; omega
  have s1 : IntKind.u8.wrap ((s : Int) / 256) = ((s / 256 % 256 : Nat) : Int) := by rw [IntKind.wrap_u8']; omega
  have s2 : IntKind.u8.wrap ((s : Int) / 65536) = ((s / 65536 % 256 : Nat) : Int) := by rw [IntKind.wrap_u8']; omega
  have s3 : IntKind.u8.wrap ((s : Int) / 16777216) = ((s / 16777216 : Nat) : Int) := by rw [IntKind.wrap_u8']; omega
  go_enter Try.func46, Try.ntmps46
  go_wp2_with (at_make; refine wpList_make_full _ rfl _ _ 28 rfl w.heap.size 5 i0 _ 1 Try.underlying28 hi hz0 hz1 .i64 .i64 _ _ 4 rfl rfl rfl rfl (by rw [hz2]; omega) (by unfold maxLen; omega) (Nat.le_refl _) ?_; intro w1 hown hgrow)
  have ho1 : OBn w1 w.heap.size 5 (.slice (some ⟨w.heap.size, 0, none⟩) 4 4) 4 (Ck.part s 0) := OBn.made hown
  have hb1 : Below w.heap.size w w1 := (Below.refl _ _).grown hgrow (Nat.le_refl _) (by simp)
  clear hown hgrow
  go_loopw [8] (fun i wr => ∃ k : Nat, k ≤ 4 ∧ i = .int .i64 k ∧ OBn wr w.heap.size 5 (.slice (some ⟨w.heap.size, 0, none⟩) 4 4) 4 (Ck.part s k) ∧ Below w.heap.size w wr) (fun i _ => 4 - (intOf i).toNat)
  case atStart => exact ⟨0, by omega, rfl, ho1, hb1⟩
  case round =>
    obtain ⟨k, hk, rfl, ho, hb⟩ := hrel
    rcases (by omega : k = 0 ∨ k = 1 ∨ k = 2 ∨ k = 3 ∨ k = 4) with rfl | rfl | rfl | rfl | rfl
    · have hc := ho.cell 0 (by omega)
      have hf := ho.free 0
      have h := ho.stored 0 ((s % 256 : Nat) : Int)
      rw [Ck.part_set0] at h
      have HH := Lib.hid h; clear h
      go_wp2
      go_roundw
      case rel => exact ⟨1, by omega, by go_num, by first | exact HH.out | (simp at HH; exact HH.out), hb.setCell (Nat.le_refl _) _⟩
      case measure => simp [intOf]
    · have hc := ho.cell 1 (by omega)
      have hf := ho.free 1
      have h := ho.stored 1 ((s / 256 % 256 : Nat) : Int)
      rw [Ck.part_set1] at h
      have HH := Lib.hid h; clear h
      go_wp2
      go_roundw
      case rel => exact ⟨2, by omega, by go_num, HH.out, hb.setCell (Nat.le_refl _) _⟩
      case measure => simp [intOf]
    · have hc := ho.cell 2 (by omega)
      have hf := ho.free 2
      have h := ho.stored 2 ((s / 65536 % 256 : Nat) : Int)
      rw [Ck.part_set2] at h
      have HH := Lib.hid h; clear h
      go_wp2
      go_roundw
      case rel => exact ⟨3, by omega, by go_num, HH.out, hb.setCell (Nat.le_refl _) _⟩
      case measure => simp [intOf]
    · have hc := ho.cell 3 (by omega)
      have hf := ho.free 3
      have h := ho.stored 3 ((s / 16777216 : Nat) : Int)
      rw [Ck.part_set3] at h
      have HH := Lib.hid h; clear h
      go_wp2
      go_roundw
      case rel => exact ⟨4, by omega, by go_num, HH.out, hb.setCell (Nat.le_refl _) _⟩
      case measure => simp [intOf]
    · go_wp2
      go_ret
      exact ⟨_, rfl, ho, hb⟩
theorem slequal_any (A B : Option Addr) (n m c d : Nat) (xs ys : List Int) (w : World) (ha : RB w w.heap.size A n xs) (hb : RB w w.heap.size B m ys) (hn : n ≤ 1000000) (_hm : m ≤ 1000000) :
    Calls Try.prog 30 #[.slice A n c, .slice B m d] w fun e w' => e = .returned (.bool (decide (xs = ys))) ∧ Below w.heap.size w w' := by
  have hxl := ha.1
  have hyl := hb.1
  by_cases hne : n = m
  · have g1 : ((n : Int) != (m : Int)) = false := by simp; omega
    have HNE := Lib.hid hne; clear hne
    have HXL := Lib.hid hxl; have HYL := Lib.hid hyl; clear hxl hyl
    go_enter Try.func30, Try.ntmps30
    go_wp2
    go_loopw [13] (fun i wr => ∃ k : Nat, k ≤ n ∧ i = .int .i64 k ∧ xs.take k = ys.take k ∧ Below w.heap.size w wr) (fun i _ => n - (intOf i).toNat)
    case atStart => exact ⟨0, by omega, rfl, by simp, Below.refl _ _⟩
    case round =>
      obtain ⟨k, hk, rfl, htk, hbel⟩ := hrel
      have HTK := Lib.hid htk; clear htk
      by_cases hlt : k < n
      · obtain ⟨ba, oa, rfl, hba, hca⟩ := (ha.below hbel).at_ hlt
        obtain ⟨bb, ob, rfl, hbb, hcb⟩ := (hb.below hbel).at_ (show k < m by have := HNE.out; omega)
        have hkm : (k : Int) < (m : Int) := by have := HNE.out; omega
        have hkn : (k : Int) < (n : Int) := by omega
        generalize hx : xs.getD k 0 = x at *
        generalize hy : ys.getD k 0 = y at *
        have HX := Lib.hid hx; have HY := Lib.hid hy; clear hx hy
        by_cases hxy : x = y
        · subst hxy
          go_wp2
          go_quiet (fail)
          go_wp2
          go_roundw
          case rel =>
            refine ⟨k + 1, by omega, by go_num, ?_, by first | exact hbel | exact below_drewN hbel _ | exact hbel.drew⟩
            rw [take_snocI xs k (by have := HXL.out; omega), take_snocI ys k (by have := HYL.out; have := HNE.out; omega), HX.out, HY.out, HTK.out]
          case measure => simp [intOf]; omega
        · have g2 : (x != y) = true := by simp [hxy]
          have HXY := Lib.hid hxy; clear hxy
          go_wp2
          go_quiet (fail)
          go_wp2
          go_ret
          refine ⟨ret_bool ?_, by first | exact hbel | exact below_drewN hbel _ | exact hbel.drew⟩
          rw [eq_comm, decide_eq_false_iff_not]
          intro he
          exact HXY.out (by rw [← HX.out, ← HY.out, he])
      · have e : k = n := by omega
        subst e
        have htt : xs = ys := by
          have h := HTK.out
          rwa [List.take_of_length_le (by rw [HXL.out]; exact Nat.le_refl _), List.take_of_length_le (by have := HYL.out; have := HNE.out; omega)] at h
        have HTT := Lib.hid htt; clear htt
        go_wp2
        go_ret
        exact ⟨ret_bool (by rw [HTT.out]; simp), hbel⟩
  · have g1 : ((n : Int) != (m : Int)) = true := by simp; omega
    have hne2 : xs ≠ ys := fun h => hne (by rw [← hxl, ← hyl, h])
    have HXY := Lib.hid hne2; clear hne2 hxl hyl
    go_enter Try.func30, Try.ntmps30
    go_wp2
    go_ret
    exact ⟨ret_bool (by simp [HXY.out]), Below.refl _ _⟩
theorem slclone_any (A : Option Addr) (n c : Nat) (xs : List Int) (w : World) (ha : RB w w.heap.size A n xs) (hn : n ≤ 1000000) :
    Calls Try.prog 48 #[.slice A n c] w fun e w' => ∃ v, e = .returned v ∧ OBn w' w.heap.size 5 v n xs ∧ Below w.heap.size w w' := by
  obtain ⟨i0, hi, hz0, hz1, hz2⟩ := info_parts info_u8
  have q22 : ∀ (w : World) (a : Option Addr) (n c n' c' : Nat), (binOp .eql 28 (.slice a n c) (.slice none n' c')).run Try.prog w = .ok (.bool a.isNone) w := fun w a n c n' c' => Lib.run_eql_slice_nil w _ _ a n c n' c' Try.underlying28
  cases A with
  | none =>
    have h0 : n = 0 := by
      rcases Nat.eq_zero_or_pos n with h | h
      · exact h
      · obtain ⟨_, _, e, _⟩ := ha.2 h
        cases e
    have hx := ha.none0 h0
    subst hx h0
    clear ha
    go_enter Try.func48, Try.ntmps48
    go_wp2
    go_ret
    exact ⟨_, rfl, World.ownsRow_nil _ _ _ _, Below.refl _ _⟩
  | some a =>
    have hal : RB (w.alloc (.cells #[] 5)) w.heap.size (some a) n xs := ha.alloc (Nat.le_refl _) _
    have HAL := Lib.hid hal
    clear hal ha
    go_enter Try.func48, Try.ntmps48
    go_wp2_with (at_builtin; obtain ⟨v', w1, hrun, hown, hgrow⟩ := run_append_rb (P := Try.prog) w.heap.size w.heap.size 28 28 5 i0 Try.underlying28 hi hz0 hz1 hz2 _ 0 [] (World.ownsRow_made w #[] 0 (Nat.le_refl _) (Nat.zero_le _) rfl) (some a) n c xs HAL.out (by omega) (by simp); refine Lib.wpList_append_run _ rfl _ _ 28 28 rfl _ _ rfl rfl _ _ hrun ?_)
    go_ret
    refine ⟨v', rfl, by simpa using hown, ?_⟩
    exact ((Below.refl _ w).alloc (Nat.le_refl _) _).grown hgrow (by simp) (by intro k hk; simp [Value.ownBlock] at hk; omega)
theorem slgrow_any (n : Nat) (w : World) (hn : n ≤ 1000000) :
    Calls Try.prog 54 #[.slice none 0 0, .int .i64 n] w fun e w' => ∃ v, e = .returned v ∧ OBn w' w.heap.size 5 v 0 [] ∧ Below w.heap.size w w' := by
  obtain ⟨i0, hi, hz0, hz1, hz2⟩ := info_parts info_u8
  by_cases h0 : n = 0
  · subst h0
    go_enter Try.func54, Try.ntmps54
    go_wp2
    go_ret
    exact ⟨_, rfl, World.ownsRow_nil _ _ _ _, Below.refl _ _⟩
  · have hp : 0 < n := by omega
    go_enter Try.func54, Try.ntmps54
    go_wp2_with (at_builtin; obtain ⟨v3, w3, hrun3, hown3, hgrow3⟩ := run_append_zeros7 (P := Try.prog) w.heap.size 28 3 28 5 i0 .i64 .i64 Try.underlying28 Try.underlying3 hi hz0 hz1 hz2 (.slice none 0 0) 0 [] (World.ownsRow_nil _ _ _ _) n hp (by omega) (Nat.le_refl _)
                 obtain ⟨g, cc, cur, rfl, q1, q2, q3, q4, q5, q6, q7⟩ := hown3.shape (by omega)
                 have hb3 : Below w.heap.size w w3 := (Below.refl _ w).grown hgrow3 (Nat.le_refl _) (by intro k hk; simp [Value.ownBlock] at hk)
                 have ho3 : OBn w3 w.heap.size 5 (.slice (some ⟨g, 0, none⟩) 0 cc) 0 [] := ⟨rfl, .inr ⟨g, cc, cur, rfl, q1, q3, Nat.zero_le _, q5, (by simpa using q6), (by simp)⟩⟩
                 have HB3 := Lib.hid hb3; have HO3 := Lib.hid ho3
                 refine Lib.wpList_append_run _ rfl _ _ 28 3 rfl (.slice none 0 0) (.int .i64 n) rfl rfl _ _ hrun3 ?_
                 clear hrun3 hown3 hgrow3 hb3 ho3 q7 q6 q3)
    go_ret
    exact ⟨_, rfl, HO3.out, HB3.out⟩
end Go.Proofs.Ytjiafpmcibokbaa
