/- LAYER 19, frame, second part: ranges that rise, held against each other, copied. -/
import Derived.Test.YtjiafpmcibokbaaP19a
import Derived.Test.YtjiafpmcibokbaaR19e
namespace Go.Proofs.Ytjiafpmcibokbaa
open Go Go.RowKit
set_option maxHeartbeats 2000000
set_option maxRecDepth 100000
set_option linter.unusedVariables false
theorem rise_any19 (off : Nat) (A : Option Addr) (m c : Nat) (l : List (Nat × Nat)) (w : World) (h : RG w w.heap.size A m l) (hm : m ≤ 1000000) :
    Calls Try.prog 16 #[.int .u64 off, .slice A m c] w fun e w' => e = .returned (.bool (Fm.rise off l)) ∧ Below w.heap.size w w' := by
  obtain ⟨Z, hZ⟩ : ∃ Z, Fm.rise off l = Z := ⟨_, rfl⟩
  have HL := Lib.hid h.1.1
  rw [hZ]
  have HZ := Lib.hid hZ
  clear hZ
  go_enter Try.func16, Try.ntmps16
  go_wp2
  go_loopw [0, 9] (fun z i W => ∃ j o : Nat, j ≤ m ∧ i = .int .i64 j ∧ z = .int .u64 o ∧ Hid (Fm.rise o (l.drop j) = Z) ∧ Hid (Below w.heap.size w W)) (fun _ i _ => m - (intOf i).toNat)
  case atStart => exact ⟨0, off, Nat.zero_le _, rfl, rfl, HZ.out, Below.refl _ _⟩
  case round =>
    obtain ⟨j, o, hj, rfl, rfl, HR, HB⟩ := hrel
    by_cases hlt : j < m
    · have hlt' : (j : Int) < m := by omega
      obtain ⟨b, oo, p, rfl, hbB, hp, p1, p2, hc1, hc2⟩ := (h.below HB.out).at_ hlt
      have hd := HR.out
      have hdr : l.drop j = p :: l.drop (j + 1) := by rw [List.drop_eq_getElem_cons (by have := HL.out; omega)]; congr 1; rw [List.getElem?_eq_getElem (by have := HL.out; omega)] at hp; exact Option.some.inj hp
      rw [hdr] at hd
      obtain ⟨x, y⟩ := p
      unfold Fm.rise at hd
      simp only at hd hc1 hc2 p1 p2
      have HD := Lib.hid hd
      have HB1 := Lib.hid (HB.out.alloc HB.out.size (.cells #[.int .u64 x, .int .u64 y] 64))
      clear hd hdr hp
      by_cases hx : x ≤ o
      · have hf : Z = false := by rw [← HD.out, if_pos (.inl hx)]
        subst hf
        have hx' : (x : Int) ≤ o := by omega
        clear HD
        go_wp2
        go_ret
        exact ⟨rfl, HB1.out⟩
      · have hx' : ¬ (x : Int) ≤ o := by omega
        by_cases hy : y ≤ x
        · have hf : Z = false := by rw [← HD.out, if_pos (.inr hy)]
          subst hf
          have hy' : (y : Int) ≤ x := by omega
          clear HD
          go_wp2
          go_ret
          exact ⟨rfl, HB1.out⟩
        · have hf := HD.out
          rw [if_neg (by omega)] at hf
          have HF := Lib.hid hf
          have hy' : ¬ (y : Int) ≤ x := by omega
          clear HD hf
          go_wp2
          go_roundw
          case rel => exact ⟨j + 1, y, by omega, by go_num, rfl, HF.out, HB1.out⟩
          case measure => simp [intOf]; omega
    · obtain rfl : j = m := by omega
      have hz := HR.out
      rw [List.drop_eq_nil_of_le (by rw [HL.out]; exact Nat.le_refl _)] at hz
      go_wp2
      go_ret
      exact ⟨by rw [← hz]; rfl, HB.out⟩
theorem rgequal_any19 (A B : Option Addr) (n m c d : Nat) (xs ys : List (Nat × Nat)) (w : World) (ha : RG w w.heap.size A n xs) (hb : RG w w.heap.size B m ys) (hn : n ≤ 1000000) (hm : m ≤ 1000000) :
    Calls Try.prog 31 #[.slice A n c, .slice B m d] w fun e w' => e = .returned (.bool (decide (xs = ys))) ∧ Below w.heap.size w w' := by
  have hxl := ha.1.1
  have hyl := hb.1.1
  by_cases hne : n = m
  · have g1 : ((n : Int) != (m : Int)) = false := by simp; omega
    have HNE := Lib.hid hne; clear hne
    have HXL := Lib.hid hxl; have HYL := Lib.hid hyl; clear hxl hyl
    go_enter Try.func31, Try.ntmps31
    go_wp2
    go_loopw [13] (fun i wr => ∃ k : Nat, k ≤ n ∧ i = .int .i64 k ∧ Hid (xs.take k = ys.take k) ∧ Hid (Below w.heap.size w wr)) (fun i _ => n - (intOf i).toNat)
    case atStart => exact ⟨0, by omega, rfl, by simp [Hid], Below.refl _ _⟩
    case round =>
      obtain ⟨k, hk, rfl, HTK, HB⟩ := hrel
      by_cases hlt : k < n
      · obtain ⟨ba, oa, p1, rfl, hba, hp1, p1a, p1b, c1, c2⟩ := (ha.below HB.out).at_ hlt
        obtain ⟨bb, ob, p2, rfl, hbb, hp2, p2a, p2b, d1, d2⟩ := (hb.below HB.out).at_ (show k < m by have := HNE.out; omega)
        have hkm : (k : Int) < (m : Int) := by have := HNE.out; omega
        have hkn : (k : Int) < (n : Int) := by omega
        have HP1 := Lib.hid hp1
        have HP2 := Lib.hid hp2
        clear hp1 hp2
        obtain ⟨x1, y1⟩ := p1
        obtain ⟨x2, y2⟩ := p2
        simp only at c1 c2 d1 d2 p1a p1b p2a p2b
        have TK1 := Lib.hid (List.take_add_one (l := xs) (i := k))
        have TK2 := Lib.hid (List.take_add_one (l := ys) (i := k))
        have HD := Lib.hid (fun n => below_drewN HB.out n)
        by_cases hx : x1 = x2 ∧ y1 = y2
        · obtain ⟨rfl, rfl⟩ := hx
          go_wp2
          go_quiet (fail)
          go_wp2
          go_roundw
          case rel => exact ⟨k + 1, by omega, by go_num, by show _ = _; rw [TK1.out, TK2.out, HTK.out, HP1.out, HP2.out], HD.out _⟩
          case measure => simp [intOf]; omega
        · have EZ : Hid (decide (xs = ys) = false) := show _ = _ by
            rw [decide_eq_false_iff_not]
            intro h
            have h1 := HP1.out
            rw [h, HP2.out] at h1
            cases h1
            exact hx ⟨rfl, rfl⟩
          by_cases hx1 : x1 = x2
          · subst hx1
            have hy : ¬ (y1 : Int) = y2 := by omega
            go_wp2
            go_quiet (fail)
            go_wp2
            go_ret
            exact ⟨ret_bool (by rw [EZ.out]), HD.out _⟩
          · have hx1' : ¬ (x1 : Int) = x2 := by omega
            go_wp2
            go_quiet (fail)
            go_wp2
            go_ret
            exact ⟨ret_bool (by rw [EZ.out]), HD.out _⟩
      · have e : k = n := by omega
        subst e
        have htt : xs = ys := by
          have h := HTK.out
          rwa [List.take_of_length_le (by rw [HXL.out]; exact Nat.le_refl _), List.take_of_length_le (by have := HYL.out; have := HNE.out; omega)] at h
        have HTT := Lib.hid htt; clear htt
        go_wp2
        go_ret
        exact ⟨ret_bool (by rw [HTT.out]; simp), HB.out⟩
  · have g1 : ((n : Int) != (m : Int)) = true := by simp; omega
    have hne2 : xs ≠ ys := fun h => hne (by rw [← hxl, ← hyl, h])
    have HXY := Lib.hid hne2; clear hne2 hxl hyl
    go_enter Try.func31, Try.ntmps31
    go_wp2
    go_ret
    exact ⟨ret_bool (by simp [HXY.out]), Below.refl _ _⟩
theorem rgclone_any19 (A : Option Addr) (n c : Nat) (xs : List (Nat × Nat)) (w : World) (ha : RG w w.heap.size A n xs) (hn : n ≤ 400000) :
    Calls Try.prog 49 #[.slice A n c] w fun e w' => ∃ A' c', e = .returned (.slice A' n c') ∧ RG w' w'.heap.size A' n xs ∧ (∀ b o, A' = some ⟨b, o, none⟩ → 0 < n → w.heap.size ≤ b) ∧ Below w.heap.size w w' := by
  obtain ⟨i0, hi, hz0, hz1, hz2⟩ := info_parts info_rg
  have q22 : ∀ (w : World) (a : Option Addr) (n c n' c' : Nat), (binOp .eql 40 (.slice a n c) (.slice none n' c')).run Try.prog w = .ok (.bool a.isNone) w := fun w a n c n' c' => Lib.run_eql_slice_nil w _ _ a n c n' c' Try.underlying40
  have hl := ha.1.1
  have hlt := Lib.hid ha.1.2
  have HL := Lib.hid hl
  cases A with
  | none =>
    have h0 : n = 0 := by
      rcases Nat.eq_zero_or_pos n with h | h
      · exact h
      · obtain ⟨_, _, e, _⟩ := ha.2 h
        cases e
    subst h0
    have hx : xs = [] := List.eq_nil_of_length_eq_zero hl
    subst hx
    clear hl
    have HA := Lib.hid ha
    clear ha
    go_enter Try.func49, Try.ntmps49
    go_wp2
    go_ret
    exact ⟨none, 0, rfl, HA.out, fun _ _ _ h => absurd h (by omega), Below.refl _ _⟩
  | some a =>
    clear hl
    have HB1 := Lib.hid ((Below.refl w.heap.size w).alloc (Nat.le_refl _) (.cells #[] 64))
    have HAL := Lib.hid (show ∀ j v, (Fm.rc2 xs)[j]? = some v → ∃ b o, a = ⟨b, o, none⟩ ∧ (w.alloc (.cells #[] 64)).cell? (a.add j) = some v from fun j v hj => by
      have hjl : j < (Fm.rc2 xs).length := (List.getElem?_eq_some_iff.1 hj).1
      rw [Fm.rc2_len] at hjl
      obtain ⟨b, o, p, e, hb, hp, _, _, c1, c2⟩ := (ha.below HB1.out).at_ (j := j / 2) (by have := HL.out; omega)
      cases e
      refine ⟨b, o, rfl, ?_⟩
      obtain ⟨r1, r2⟩ := Fm.rc2_at hp
      rw [Addr.add_lit]
      rcases Nat.mod_two_eq_zero_or_one j with h | h
      · rw [show j / 2 * 2 = j by omega] at r1 c1
        rw [r1] at hj
        rw [c1, hj]
      · rw [show j / 2 * 2 + 1 = j by omega] at r2
        rw [show o + j / 2 * 2 + 1 = o + j by omega] at c2
        rw [r2] at hj
        rw [c2, hj])
    have ONE := Lib.hid (show ∀ u ∈ Fm.rc2 xs, u.oneCell' = true from fun u hu => by
      unfold Fm.rc2 at hu
      obtain ⟨q, hq, hu2⟩ := List.mem_flatten.1 hu
      obtain ⟨p, _, rfl⟩ := List.mem_map.1 hq
      simp at hu2
      rcases hu2 with rfl | rfl <;> rfl)
    clear ha
    by_cases h0 : n = 0
    · subst h0
      have hx : xs = [] := List.eq_nil_of_length_eq_zero HL.out
      subst hx
      have HN := Lib.hid (run_append_none7 (P := Try.prog) (w := w.alloc (.cells #[] 64)) w.heap.size 40 40 64 i0 2 Try.underlying40 hi _ 0 [] (World.ownsRow_made w #[] 0 (Nat.le_refl _) (Nat.zero_le _) rfl) (some a) c)
      go_enter Try.func49, Try.ntmps49
      go_wp2_with (at_builtin; refine Lib.wpList_append_run _ rfl _ _ 40 40 rfl _ _ rfl rfl _ _ HN.out ?_)
      go_ret
      exact ⟨_, _, rfl, ⟨⟨rfl, by simp⟩, fun h => absurd h (by omega)⟩, fun _ _ _ h => absurd h (by omega), HB1.out⟩
    · obtain ⟨v', w1, hrun, hown, hgrow, _⟩ := run_append_own (P := Try.prog) (w := w.alloc (.cells #[] 64)) w.heap.size 40 40 64 i0 (.agg #[.int .u64 0, .int .u64 0]) 2 16 Try.underlying40 hi hz0 hz1 hz2 rfl (by decide) (.slice (some ⟨w.heap.size, 0, none⟩) 0 0) 0 [] (World.ownsRow_made w #[] 0 (Nat.le_refl _) (Nat.zero_le _) rfl) a n c (Fm.rc2 xs) (by rw [Fm.rc2_len, HL.out]) (fun j u hj => by obtain ⟨_, _, _, h⟩ := HAL.out j u hj; exact h) ONE.out (by unfold maxLen; omega) (by omega) (by simp)
      obtain ⟨A3, c3, rfl, hc3, hm3⟩ := owns_slice19 hown
      rw [List.nil_append, Nat.zero_add] at hown
      have HR := Lib.hid (rg_own hown HL.out hlt.out)
      have HG := Lib.hid (show ∀ b o, A3 = some ⟨b, o, none⟩ → 0 < n → w.heap.size ≤ b from fun b o e _ => by
        have ho := hown
        rcases ho.2 with ⟨e0, h0⟩ | ⟨g, cap, cur, e0, hB, _⟩
        · omega
        · rw [e] at e0; cases e0; exact hB)
      have HB2 := Lib.hid (HB1.out.grown hgrow (by simp) (by intro k hk; simp [Value.ownBlock] at hk; omega))
      have HRUN := Lib.hid hrun
      rw [Nat.zero_add] at HRUN
      clear hrun hown hgrow hlt
      go_enter Try.func49, Try.ntmps49
      go_wp2_with (at_builtin; refine Lib.wpList_append_run _ rfl _ _ 40 40 rfl _ _ rfl rfl _ _ HRUN.out ?_)
      go_ret
      exact ⟨_, _, rfl, HR.out, HG.out, HB2.out⟩
end Go.Proofs.Ytjiafpmcibokbaa
