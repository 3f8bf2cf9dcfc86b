/- WALKS OF LAYER 6, FOURTEENTH PART: the reference's Parse. -/
import Derived.Test.YtifaelipninkjaaDoorR6m
namespace Go.Proofs.YtifaelipninkjaaDoor
open Go Go.RowKit
set_option linter.unusedVariables false
set_option maxHeartbeats 2000000
theorem info_refrec : (Tryd.prog.info? 37).map (fun i => (i.zero, i.size, i.bytes)) = some (some (.agg #[.string ⟨#[]⟩, .string ⟨#[]⟩]), 2, 32) := by kernel_rfl
theorem rb_cut {w : World} {B n b o : Nat} {xs : List Int} (h : RB w B (some ⟨b, o, none⟩) n xs) {k : Nat} (hk : k ≤ n) : RB w B (some ⟨b, o + k, none⟩) (n - k) (xs.drop k) := by
  refine ⟨by rw [List.length_drop, h.1], fun hn => ?_⟩
  obtain ⟨b', o', e, hb, hc⟩ := h.2 (by omega)
  cases e
  refine ⟨b, o + k, rfl, hb, fun j hj => ?_⟩
  rw [show o + k + j = o + (k + j) by omega, hc (k + j) (by omega)]
  simp [List.getD, List.getElem?_drop]
set_option maxRecDepth 100000 in
theorem refparse_any (A : Option Addr) (n c : Nat) (bs : Rc.Bs) (w : World) (ha : RB w w.heap.size A n (Rc.ints bs)) (hc : n ≤ c) (hc2 : c ≤ maxLen) (hn : n ≤ 10000) :
    Calls Tryd.prog 20 #[.slice A n c] w fun e w' => ∃ u, e = .returned (.tuple #[u, .int .i64 (Rc.parse bs).2]) ∧ RO w' w.heap.size 37 u (Rc.parse bs).1 ∧ Below w.heap.size w w' := by
  obtain ⟨i0, hi, hz0, hz1, hz2⟩ := info_parts info_refrec
  have hl : bs.length = n := by have := ha.1; rwa [Rc.ints_len] at this
  go_enter Tryd.func20, Tryd.ntmps20
  go_wp2
  go_loopw [4, 5] (fun u i wr => ∃ (k : Nat) (pre : List Rc.Rec), i = .int .i64 k ∧ k ≤ n ∧ pre.length ≤ k ∧ Hid (Rc.parse bs = Rc.glue pre (Rc.parse (bs.drop k))) ∧ Hid (RO wr w.heap.size 37 u pre) ∧ Below w.heap.size w wr) (fun _ i _ => n - (intOf i).toNat)
  case atStart => exact ⟨0, [], rfl, by omega, Nat.le_refl _, by show _ = _; rw [List.drop_zero, Rc.glue_nil _ (Rc.parse_shape _)], World.ownsRow_nil _ _ _ _, Below.refl _ _⟩
  case round =>
    obtain ⟨k, pre, rfl, hkn, hpm, HP, HO, hb⟩ := hrel
    by_cases hm : k < n
    · have hm' : (k : Int) < n := by omega
      obtain ⟨b, o, rfl, hbl, _⟩ := (ha.below hb).at0 (show 0 < n by omega)
      have hrl : (bs.drop k).length = n - k := by rw [List.length_drop]; omega
      have hr := rb_cut (ha.below hb) (k := k) (by omega)
      rw [← Rc.ints_drop] at hr
      have hck : ¬ c = k := by omega
      have hkc : k ≤ c := by omega
      generalize hrest : bs.drop k = rest at *
      have hne : rest ≠ [] := by intro e; rw [e] at hrl; simp at hrl; omega
      have FI := reffirst_any _ (n - k) (c - k) rest wr (hr.more hb.size) (by omega) (by omega)
      have PE := Lib.hid (parse_at_err HP.out hne)
      have PO := Lib.hid (parse_at_ok HP.out hne)
      have IV := Lib.hid (fun h => (⟨(Rc.first_inv (b := rest) h).2.2.1, Rc.first_pos h⟩ : _ ∧ _))
      have hun : firstV (Rc.firstL rest) = .tuple #[.agg #[.string (Rc.firstL rest).1.1, .string (Rc.firstL rest).1.2], .int .i64 (Rc.firstL rest).2.1, .int .i64 (Rc.firstL rest).2.2] := rfl
      rw [hun] at FI
      clear hun
      obtain ⟨⟨⟨rk, rv⟩, z, er⟩, hF⟩ : ∃ F, Rc.firstL rest = F := ⟨_, rfl⟩
      rw [hF] at FI PE PO IV
      simp only at FI PE PO IV
      clear hF
      have FI := Lib.hid FI
      by_cases he : er = 0
      · subst he
        obtain ⟨i1, i2⟩ := IV.out rfl
        have PO2 := Lib.hid (PO.out rfl)
        clear IV PE hne PO
        have z1 : k + z ≤ n := by omega
        have z2 : max (z : Int) 1 = z := by omega
        have z3 : IntKind.i64.wrap ((k : Int) + z) = (k : Int) + z := IntWalk.i64_in _ (by unfold maxLen at hc2; omega)
        rw [← hrest, List.drop_drop] at PO2
        obtain ⟨Au, cu, rfl, hcu⟩ := owns_slice HO.out
        have w3f : ∀ w2, Below wr.heap.size wr w2 → Hid (World.ownsRow ((w2.alloc (.cells #[.string rk, .string rv] 37)).alloc (.cells #[.string rk, .string rv] 37)) w.heap.size 37 2 (.slice Au pre.length cu) pre.length (cells2 pre)) ∧ Hid (Below w.heap.size w ((w2.alloc (.cells #[.string rk, .string rv] 37)).alloc (.cells #[.string rk, .string rv] 37))) ∧ Hid (∀ (j : Nat) u, [Value.string rk, Value.string rv][j]? = some u → ((w2.alloc (.cells #[.string rk, .string rv] 37)).alloc (.cells #[.string rk, .string rv] 37)).cell? ((⟨w2.heap.size + 1, 0, none⟩ : Addr).add j) = some u) := fun w2 hb2 => by
          refine ⟨owns_below (owns_below (owns_below HO.out hb2) (Below.alloc (Below.refl _ _) (Nat.le_refl _) _)) (Below.alloc (Below.refl _ _) (Nat.le_refl _) _), ?_, ?_⟩
          · exact ((hb.trans (hb2.mono hb.size)).alloc (by have := hb.size; have := hb2.size; omega) _).alloc (by have := hb.size; have := hb2.size; simp; omega) _
          · have := news2 (w2.alloc (.cells #[.string rk, .string rv] 37)) 37 rk rv
            rw [show (w2.alloc (.cells #[.string rk, .string rv] 37)).heap.size = w2.heap.size + 1 by simp] at this
            exact this
        have W3 := Lib.hid w3f; clear w3f
        go_wp2_with (first
          | (go_at_call 27; (with_reducible refine (FI.out).mono ?_); rintro e w2 ⟨rfl, hb2⟩; obtain ⟨HO3, HB3, NEWS⟩ := W3.out _ hb2)
          | (at_builtin; refine wpList_append_own _ rfl _ _ 22 rfl w.heap.size 37 i0 (.agg #[.string ⟨#[]⟩, .string ⟨#[]⟩]) 2 32 Tryd.underlying22 hi hz0 hz1 hz2 rfl (by decide) (.slice Au pre.length cu) pre.length (cells2 pre) rfl HO3.out ⟨w2.heap.size + 1, 0, none⟩ 1 1 [.string rk, .string rv] rfl rfl NEWS.out (two_cells rk rv) (by unfold maxLen; omega) (by omega) (by have := HB3.out.size; omega) ?_; intro v3 w3 hown3 hgrow3 hnil3; have HO4 := Lib.hid (RO.snoc hown3 rfl); have HB4 := Lib.hid (below_app6 HB3.out (Nat.le_refl _) HO3.out hgrow3); clear hown3 hgrow3 hnil3))
        go_roundw
        case rel =>
          exact ⟨k + z, pre ++ [(rk, rv)], by simp, by omega, by simp; omega, PO2.out, HO4.out, HB4.out⟩
        case measure => simp [intOf]; omega
      · have he2 : ((er : Int) != 0) = true := by simp; omega
        have E := Lib.hid (PE.out he)
        clear PE PO IV he hne
        go_wp2_with (go_at_call 27; (with_reducible refine (FI.out).mono ?_); rintro e w2 ⟨rfl, hb2⟩)
        go_ret2
        rw [E.out]
        exact ⟨_, rfl, World.ownsRow_nil _ _ _ _, (hb.trans (hb2.mono hb.size)).alloc (by have := hb.size; have := hb2.size; omega) _⟩
    · have hm' : ¬ (k : Int) < n := by omega
      rw [List.drop_of_length_le (show bs.length ≤ k by omega)] at HP
      have E := Lib.hid (parse_at_end HP.out)
      go_wp2
      go_ret2
      rw [E.out]
      exact ⟨_, rfl, HO.out, hb⟩
end Go.Proofs.YtifaelipninkjaaDoor
