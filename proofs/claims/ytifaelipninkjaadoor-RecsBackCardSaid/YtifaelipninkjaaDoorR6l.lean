/- WALKS OF LAYER 6, TWELFTH PART: recs.Parse. -/
import Derived.Test.YtifaelipninkjaaDoorR6k
namespace Go.Proofs.YtifaelipninkjaaDoor
open Go Go.RowKit
set_option linter.unusedVariables false
set_option maxHeartbeats 2000000
theorem parse_at_err {bs rest : Rc.Bs} {pre : List Rc.Rec} (h : Rc.parse bs = Rc.glue pre (Rc.parse rest)) (hb : rest ≠ []) (he : (Rc.firstL rest).2.2 ≠ 0) : Rc.parse bs = ([], (Rc.firstL rest).2.2) := by
  rw [h, Rc.parse_err hb he]
  unfold Rc.glue
  rw [if_neg he]
theorem parse_at_ok {bs rest : Rc.Bs} {pre : List Rc.Rec} (h : Rc.parse bs = Rc.glue pre (Rc.parse rest)) (hb : rest ≠ []) (he : (Rc.firstL rest).2.2 = 0) : Rc.parse bs = Rc.glue (pre ++ [(Rc.firstL rest).1]) (Rc.parse (rest.drop (Rc.firstL rest).2.1)) := by
  rw [h, Rc.parse_ok hb he, Rc.glue_glue]
theorem parse_at_end {bs : Rc.Bs} {pre : List Rc.Rec} (h : Rc.parse bs = Rc.glue pre (Rc.parse [])) : Rc.parse bs = (pre, 0) := by
  rw [h, Rc.parse_nil]
  simp [Rc.glue]
set_option maxRecDepth 100000 in
theorem parse_any (A : Option Addr) (n c : Nat) (bs : Rc.Bs) (w : World) (tb : Tab w) (ha : RB w w.heap.size A n (Rc.ints bs)) (hc : n ≤ c) (hc2 : c ≤ maxLen) (hn : n ≤ 1000000) :
    Calls Tryd.prog 19 #[.slice A n c] w fun e w' => ∃ u, e = .returned (.tuple #[u, .int .i64 (Rc.parse bs).2]) ∧ RO w' w.heap.size 39 u (Rc.parse bs).1 ∧ Below w.heap.size w w' := by
  obtain ⟨i0, hi, hz0, hz1, hz2⟩ := info_parts info_rec
  have hl : bs.length = n := by have := ha.1; rwa [Rc.ints_len] at this
  go_enter Tryd.func19, Tryd.ntmps19
  go_wp2
  go_loopw [0, 4] (fun b u wr => ∃ (A' : Option Addr) (m d : Nat) (rest : Rc.Bs) (pre : List Rc.Rec), b = .slice A' m d ∧ RB wr w.heap.size A' m (Rc.ints rest) ∧ m ≤ d ∧ m ≤ n ∧ d ≤ maxLen ∧ pre.length + m ≤ n ∧ Hid (Rc.parse bs = Rc.glue pre (Rc.parse rest)) ∧ Hid (RO wr w.heap.size 39 u pre) ∧ Below w.heap.size w wr) (fun b _ _ => lenV b)
  case atStart => exact ⟨A, n, c, bs, [], rfl, ha, hc, Nat.le_refl _, hc2, by simp, by show _ = _; rw [Rc.glue_nil _ (Rc.parse_shape _)], World.ownsRow_nil _ _ _ _, Below.refl _ _⟩
  case round =>
    obtain ⟨A', m, d, rest, pre, rfl, hr, hmd, hmn, hdm, hpm, HP, HO, hb⟩ := hrel
    have hrl : rest.length = m := by have := hr.1; rwa [Rc.ints_len] at this
    unfold maxLen at hdm
    by_cases hm : 0 < m
    · have hm' : (0 : Int) < m := by omega
      obtain ⟨b, o, rfl, hbl, _⟩ := hr.at0 hm
      have hne : rest ≠ [] := by intro e; subst e; simp at hrl; omega
      have FI := first_any _ m d rest wr (tb.on hb) (hr.more hb.size) hmd (by omega)
      have PE := Lib.hid (parse_at_err HP.out hne)
      have PO := Lib.hid (parse_at_ok HP.out hne)
      have IV := Lib.hid (fun h => (⟨(Rc.first_inv (b := rest) h).2.2.1, Rc.first_pos h⟩ : _ ∧ _))
      have hun : firstV (Rc.firstL rest) = .tuple #[.agg #[.string (Rc.firstL rest).1.1, .string (Rc.firstL rest).1.2], .int .i64 (Rc.firstL rest).2.1, .int .i64 (Rc.firstL rest).2.2] := rfl
      rw [hun] at FI
      clear hun
      obtain ⟨⟨⟨rk, rv⟩, z, er⟩, hF⟩ : ∃ F, Rc.firstL rest = F := ⟨_, rfl⟩
      rw [hF] at FI PE PO IV
      simp only at FI PE PO IV
      clear hF
      have FI := Lib.hid FI
      by_cases he : er = 0
      · subst he
        obtain ⟨i1, i2⟩ := IV.out rfl
        have PO2 := Lib.hid (PO.out rfl)
        clear IV PE hne PO
        have z1 : z ≤ m := by omega
        have z2 : (z : Int) ≤ m := by omega
        have z3 : z ≤ d := by omega
        obtain ⟨Au, cu, rfl, hcu⟩ := owns_slice HO.out
        have w3f : ∀ w2, Below wr.heap.size wr w2 → Hid (World.ownsRow ((w2.alloc (.cells #[.string rk, .string rv] 39)).alloc (.cells #[.string rk, .string rv] 39)) w.heap.size 39 2 (.slice Au pre.length cu) pre.length (cells2 pre)) ∧ Hid (Below w.heap.size w ((w2.alloc (.cells #[.string rk, .string rv] 39)).alloc (.cells #[.string rk, .string rv] 39))) ∧ Hid (∀ (j : Nat) u, [Value.string rk, Value.string rv][j]? = some u → ((w2.alloc (.cells #[.string rk, .string rv] 39)).alloc (.cells #[.string rk, .string rv] 39)).cell? ((⟨w2.heap.size + 1, 0, none⟩ : Addr).add j) = some u) := fun w2 hb2 => by
          refine ⟨owns_below (owns_below (owns_below HO.out hb2) (Below.alloc (Below.refl _ _) (Nat.le_refl _) _)) (Below.alloc (Below.refl _ _) (Nat.le_refl _) _), ?_, ?_⟩
          · exact ((hb.trans (hb2.mono hb.size)).alloc (by have := hb.size; have := hb2.size; omega) _).alloc (by have := hb.size; have := hb2.size; simp; omega) _
          · have := news2 (w2.alloc (.cells #[.string rk, .string rv] 39)) 39 rk rv
            rw [show (w2.alloc (.cells #[.string rk, .string rv] 39)).heap.size = w2.heap.size + 1 by simp] at this
            exact this
        have W3 := Lib.hid w3f; clear w3f
        go_wp2_with (first
          | (go_at_call 26; (with_reducible refine (FI.out).mono ?_); rintro e w2 ⟨rfl, hb2⟩; obtain ⟨HO3, HB3, NEWS⟩ := W3.out _ hb2)
          | (at_builtin; refine wpList_append_own _ rfl _ _ 29 rfl w.heap.size 39 i0 (.agg #[.string ⟨#[]⟩, .string ⟨#[]⟩]) 2 32 Tryd.underlying29 hi hz0 hz1 hz2 rfl (by decide) (.slice Au pre.length cu) pre.length (cells2 pre) rfl HO3.out ⟨w2.heap.size + 1, 0, none⟩ 1 1 [.string rk, .string rv] rfl rfl NEWS.out (two_cells rk rv) (by unfold maxLen; omega) (by omega) (by have := HB3.out.size; omega) ?_; intro v3 w3 hown3 hgrow3 hnil3; have HO4 := Lib.hid (RO.snoc hown3 rfl); have HB4 := Lib.hid (below_app6 HB3.out (Nat.le_refl _) HO3.out hgrow3); clear hown3 hgrow3 hnil3))
        go_roundw
        case rel =>
          have hr3 : RB w3 w.heap.size (some ⟨b, o, none⟩) m (Rc.ints rest) := hr.keep fun p hp => (HB4.out.cell hp).trans (hb.cell hp).symm
          have hr4 := hr3.cutAt (k := z) z1 hmd (by omega)
          rw [← Rc.ints_drop] at hr4
          exact ⟨_, _, _, rest.drop z, pre ++ [(rk, rv)], rfl, hr4, by omega, by omega, by unfold maxLen; omega, by simp; omega, PO2.out, HO4.out, HB4.out⟩
        case measure => simp only [lenV]; omega
      · have he2 : ((er : Int) != 0) = true := by simp; omega
        have E := Lib.hid (PE.out he)
        clear PE PO IV he hne
        go_wp2_with (go_at_call 26; (with_reducible refine (FI.out).mono ?_); rintro e w2 ⟨rfl, hb2⟩)
        go_ret2
        rw [E.out]
        exact ⟨_, rfl, World.ownsRow_nil _ _ _ _, (hb.trans (hb2.mono hb.size)).alloc (by have := hb.size; have := hb2.size; omega) _⟩
    · have hm0 : m = 0 := by omega
      subst hm0
      obtain rfl : rest = [] := List.length_eq_zero_iff.1 hrl
      have E := Lib.hid (parse_at_end HP.out)
      go_wp2
      go_ret2
      rw [E.out]
      exact ⟨_, rfl, HO.out, hb⟩
end Go.Proofs.YtifaelipninkjaaDoor
