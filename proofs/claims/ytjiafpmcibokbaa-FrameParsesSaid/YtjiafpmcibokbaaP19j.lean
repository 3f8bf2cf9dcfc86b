/- LAYER 19, frame, tenth part: a reader's take and end. -/
import Derived.Test.YtjiafpmcibokbaaP19h
import Derived.Test.YtjiafpmcibokbaaM19c
namespace Go.Proofs.Ytjiafpmcibokbaa
open Go Go.RowKit
set_option maxHeartbeats 1000000
set_option maxRecDepth 100000
set_option linter.unusedVariables false
namespace Fm
/-- What a reader takes: the bytes, and what is left. -/
def tk (m : Nat) (s : List Int × Bool) : List Int := if m ≤ s.1.length then s.1.take m else List.replicate m 0
def lft (m : Nat) (s : List Int × Bool) : List Int × Bool := if m ≤ s.1.length then (s.1.drop m, s.2) else ([], true)
theorem tk_len {m : Nat} {s : List Int × Bool} : (tk m s).length = m := by
  unfold tk
  split
  · rw [List.length_take]; omega
  · simp
theorem tk_byt {m : Nat} {s : List Int × Bool} (h : Byt s.1) : Byt (tk m s) := by
  unfold tk
  split
  · exact Ck.Byt.take h m
  · exact fun j => by
      simp only [List.getD_eq_getElem?_getD, List.getElem?_replicate]
      split <;> simp
theorem lft_byt {m : Nat} {s : List Int × Bool} (h : Byt s.1) : Byt (lft m s).1 := by
  unfold lft
  split
  · exact Byt.dropF h m
  · exact Byt.nil
end Fm
/-- A reader in memory: its bytes lie below B. -/
def RD (w : World) (p B : Nat) (s : List Int × Bool) : Prop :=
  ∃ A n c, BX w p 82 #[.slice A n c, .bool s.2] ∧ RB w B A n s.1 ∧ n ≤ c ∧ c ≤ maxLen ∧ Byt s.1
abbrev takeV (p : Nat) : Value := .func (.func 36) #[.pointer (some ⟨p, 0, none⟩)] #[]
/-- What a take gives. -/
def TG (m p B : Nat) (s : List Int × Bool) (w : World) (e : Ending) (w' : World) : Prop :=
  ∃ A c, e = .returned (.slice A m c) ∧ RB w' w'.heap.size A m (Fm.tk m s) ∧ m ≤ c ∧ c ≤ maxLen ∧ RD w' p B (Fm.lft m s) ∧ Oth p w w' ∧ (∀ b o, A = some ⟨b, o, none⟩ → 0 < m → b < p ∨ w.heap.size ≤ b)
theorem take_any19 (m p B : Nat) (s : List Int × Bool) (w : World) (h : RD w p B s) (hB : B ≤ p) (hm : m ≤ 600000) :
    Calls Try.prog 36 #[.pointer (some ⟨p, 0, none⟩), .int .i64 m] w (TG m p B s w) := by
  obtain ⟨xs, sh⟩ := s
  obtain ⟨A, n, c, hb, hr, hnc, hc, hy⟩ := h
  have hl : xs.length = n := hr.1
  have q0 : w.cell? ⟨p, 0, none⟩ = some (.slice A n c) := hb.cell rfl
  have q1 : w.cell? ⟨p, 1, none⟩ = some (.bool sh) := hb.cell rfl
  have f0 := hb.free 0
  have f1 := hb.free 1
  have BB := Lib.hid hb
  have HR := Lib.hid hr
  have HY := Lib.hid hy
  have HL := Lib.hid hl
  clear hb hy hl
  by_cases hlt : n < m
  · have hlt' : (n : Int) < m := by omega
    have EF := Lib.hid (show Fm.tk m (xs, sh) = List.replicate m 0 by unfold Fm.tk; rw [if_neg (by show ¬ m ≤ xs.length; rw [HL.out]; omega)])
    have EG := Lib.hid (show Fm.lft m (xs, sh) = ([], true) by unfold Fm.lft; rw [if_neg (by show ¬ m ≤ xs.length; rw [HL.out]; omega)])
    go_enter Try.func36, Try.ntmps36
    obtain ⟨i0, hi, hz0, hz1, hz2⟩ := info_parts info_u8
    have b1 := (BB.out.set 0 (.slice none 0 0)).set 1 (.bool true)
    have o1 := ((Oth.refl p w).setCell 0 (.slice none 0 0)).setCell 1 (.bool true)
    obtain ⟨W2, hW2⟩ : ∃ W, (w.setCell ⟨p, 0, none⟩ (.slice none 0 0)).setCell ⟨p, 1, none⟩ (.bool true) = W := ⟨_, rfl⟩
    rw [hW2] at b1 o1
    have B1 := Lib.hid b1
    have O1 := Lib.hid o1
    have SZ := Lib.hid (show W2.heap.size = w.heap.size by rw [← hW2, World.size_setCell, World.size_setCell])
    have LT := Lib.hid (show p < W2.heap.size from b1.lt)
    clear b1 o1
    go_upto_region 3 with (fail)
    have HSW := Lib.hid hW2
    clear hW2 q0 q1 f0 f1 hr
    go_wp2_with (at_make; refine wpList_make_full _ rfl _ _ 28 rfl W2.heap.size 5 i0 _ 1 Try.underlying28 hi hz0 hz1 .i64 .i64 _ _ m rfl rfl rfl rfl (by rw [hz2]; omega) (by unfold maxLen; omega) (Nat.le_refl _) ?_; intro w3 hown hgrow; have HO := Lib.hid (OBn.made hown); have HB3 := Lib.hid ((Below.refl W2.heap.size W2).grown hgrow (Nat.le_refl _) (by simp)); clear hown hgrow)
    go_ret
    obtain ⟨A3, c3, e3, hr3, hc3, hm3⟩ := HO.out.slice
    cases e3
    exact ⟨_, _, rfl, by rw [EF.out]; exact hr3, hc3, hm3, by rw [EG.out]; exact ⟨none, 0, 0, B1.out.later HB3.out, RB.nil, Nat.le_refl _, Nat.zero_le _, Byt.nil⟩, O1.out.trans (Oth.ofBelow HB3.out), fun b o e _ => by cases e; exact .inr (Nat.le_of_eq SZ.out.symm)⟩
  · have hlt' : ¬ (n : Int) < m := by omega
    have EF := Lib.hid (show Fm.tk m (xs, sh) = xs.take m by unfold Fm.tk; rw [if_pos (by show m ≤ xs.length; rw [HL.out]; omega)])
    have EG := Lib.hid (show Fm.lft m (xs, sh) = (xs.drop m, sh) by unfold Fm.lft; rw [if_pos (by show m ≤ xs.length; rw [HL.out]; omega)])
    have TK := Lib.hid (show RB w B A m (xs.take m) from HR.out.pre (by omega))
    have REST := Lib.hid (show ∀ a, A = some a → RB w B (some (a.add m)) (n - m) (xs.drop m) from fun a e => by
      by_cases hz : m = n
      · subst hz
        refine ⟨by rw [List.length_drop, HL.out], fun h => absurd h (by omega)⟩
      · obtain ⟨b, o, e2, _, _⟩ := HR.out.at_ (k := 0) (by omega)
        rw [e] at e2
        cases e2
        rw [Addr.add_lit]
        have h := HR.out
        rw [e] at h
        exact h.back (by omega))
    have EMP := Lib.hid (show ∀ A' : Option Addr, n = m → RB w B A' 0 (xs.drop m) from fun A' e => ⟨by rw [List.length_drop, HL.out, e]; simp, fun h => absurd h (by omega)⟩)
    have OW := Lib.hid (fun v => (Oth.refl p w).setCell 0 v)
    have BW := Lib.hid (fun v => BB.out.set 0 v)
    have LT := Lib.hid BB.out.lt
    have ADR := Lib.hid (show ∀ b o, A = some ⟨b, o, none⟩ → 0 < m → b < p ∨ w.heap.size ≤ b from fun b o e h0 => by
      obtain ⟨b2, o2, e2, hb2, _⟩ := HR.out.at_ (k := 0) (by omega)
      rw [e] at e2
      cases e2
      exact .inl (Nat.lt_of_lt_of_le hb2 hB))
    have DY := Lib.hid (Fm.Byt.dropF HY.out m)
    cases A with
    | none =>
      have hn0 : n = 0 := by
        rcases Nat.eq_zero_or_pos n with h | h
        · exact h
        · obtain ⟨_, _, e, _⟩ := HR.out.2 h
          cases e
      go_enter Try.func36, Try.ntmps36
      go_wp2
      go_ret
      refine ⟨_, _, rfl, ?_, by omega, hc, ?_, OW.out _, ADR.out⟩
      · rw [EF.out]
        refine RB.more (TK.out.oth19 (OW.out _) (fun b o e _ => by cases e)) ?_
        have := LT.out
        rw [World.size_setCell]
        omega
      · rw [EG.out]
        refine ⟨_, _, _, BW.out _, ?_, by omega, by omega, DY.out⟩
        have h2 := EMP.out none (by omega)
        first
          | exact h2.oth19 (OW.out _) (fun b o e _ => by cases e)
          | (rw [show n - m = 0 by omega]; exact h2.oth19 (OW.out _) (fun b o e _ => by cases e))
    | some a =>
      have NE := Lib.hid (show ∀ b o, some a = some ⟨b, o, none⟩ → 0 < m → b ≠ p from fun b o e h0 => by
        obtain ⟨b2, o2, e2, hb2, _⟩ := HR.out.at_ (k := 0) (by omega)
        rw [e] at e2
        cases e2
        omega)
      have NE2 := Lib.hid (show ∀ b o, some (a.add m) = some ⟨b, o, none⟩ → 0 < n - m → b ≠ p from fun b o e h0 => by
        obtain ⟨b2, o2, e2, hb2, _⟩ := (REST.out a rfl).at_ (k := 0) (by omega)
        rw [e] at e2
        cases e2
        omega)
      go_enter Try.func36, Try.ntmps36
      go_wp2
      all_goals go_ret
      all_goals first
        | exact ⟨_, _, rfl, by rw [EF.out]; exact (TK.out.oth19 (OW.out (.slice (some (a.add m)) (n - m) (c - m))) NE.out).more (by have := LT.out; rw [World.size_setCell]; omega), by omega, hc, by rw [EG.out]; exact ⟨some (a.add m), n - m, c - m, BW.out _, (REST.out a rfl).oth19 (OW.out _) NE2.out, by omega, by omega, DY.out⟩, OW.out _, ADR.out⟩
        | (
          have hz : n = m := by omega
          refine ⟨_, _, rfl, ?_, by omega, by omega, ?_, OW.out _, ADR.out⟩
          · rw [EF.out]
            refine RB.more (TK.out.oth19 (OW.out _) NE.out) ?_
            have := LT.out
            rw [World.size_setCell]
            omega
          · rw [EG.out]
            refine ⟨_, _, _, BW.out _, ?_, by omega, by omega, DY.out⟩
            have h2 := EMP.out (some a) hz
            rw [show n - m = 0 by omega]
            exact h2.oth19 (OW.out _) (fun b o e h => absurd h (by omega)))
theorem end_any19 (p B : Nat) (s : List Int × Bool) (w : World) (h : RD w p B s) :
    Calls Try.prog 38 #[.pointer (some ⟨p, 0, none⟩)] w fun e w' => e = .returned (.int .i64 (if s.2 then 4 else if 0 < s.1.length then 3 else 0)) ∧ w = w' := by
  obtain ⟨xs, sh⟩ := s
  obtain ⟨A, n, c, hb, hr, hnc, hc, hy⟩ := h
  have hl : xs.length = n := hr.1
  have q0 : w.cell? ⟨p, 0, none⟩ = some (.slice A n c) := hb.cell rfl
  have q1 : w.cell? ⟨p, 1, none⟩ = some (.bool sh) := hb.cell rfl
  clear hb hr hy
  obtain ⟨Z, hZ⟩ : ∃ Z : Int, (if sh then 4 else if 0 < xs.length then 3 else 0) = Z := ⟨_, rfl⟩
  show Calls Try.prog 38 _ w fun e w' => e = .returned (.int .i64 (if sh then 4 else if 0 < xs.length then 3 else 0)) ∧ w = w'
  rw [hZ]
  rw [hl] at hZ
  have HZ := Lib.hid hZ
  clear hZ
  cases sh with
  | true =>
    have E : Hid (Z = 4) := HZ.out.symm
    go_enter Try.func38, Try.ntmps38
    go_wp2
    go_ret
    exact ⟨by rw [E.out]; rfl, rfl⟩
  | false =>
    by_cases h0 : 0 < n
    · have E : Hid (Z = 3) := show _ = _ by rw [← HZ.out]; simp [h0]
      have h0' : (0 : Int) < n := by omega
      go_enter Try.func38, Try.ntmps38
      go_wp2
      go_ret
      exact ⟨by rw [E.out]; rfl, rfl⟩
    · have E : Hid (Z = 0) := show _ = _ by rw [← HZ.out]; simp [h0]
      have h0' : ¬ (0 : Int) < n := by omega
      go_enter Try.func38, Try.ntmps38
      go_wp2
      go_ret
      exact ⟨by rw [E.out]; rfl, rfl⟩
end Go.Proofs.Ytjiafpmcibokbaa
