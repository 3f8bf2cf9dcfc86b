/- WALKS OF LAYER 4, SEVENTH PART: ppath.Less, a range over strings.SplitSeq. -/
import Derived.Test.YtnopbgfogiielaaDoorY4f
namespace Go.Proofs.YtnopbgfogiielaaDoor
open Go Go.RowKit Go.Shelf
attribute [local go_sem] Oper.semAt_some
set_option maxHeartbeats 1000000
/-- What is left of b behind pre: r, and whether anything is. -/
def LeftB (b : ByteArray) (pre : List ByteArray) (r : ByteArray) (m : Bool) : Prop := r.size ≤ b.size ∧ ((m = true ∧ Pp.pieces b = pre ++ Pp.pieces r) ∨ (m = false ∧ Pp.pieces b = pre))
theorem cutV_left {b r : ByteArray} {pre : List ByteArray} (h : LeftB b pre r true) : ∃ x y m, cutV r = .tuple #[.string x, .string y, .bool m] ∧ LeftB b (pre ++ [x]) y m ∧ ∃ rest, Pp.pieces b = pre ++ x :: rest := by
  obtain ⟨hsz, ⟨_, hp⟩ | ⟨h, _⟩⟩ := h
  · unfold cutV
    by_cases hf : Pp.fi r < r.size
    · rw [if_pos hf]
      have := Pp.tl_lt r hf
      refine ⟨_, _, _, rfl, ⟨by omega, .inl ⟨rfl, ?_⟩⟩, Pp.pieces (Pp.tl r), ?_⟩
      · rw [hp, Pp.pieces_more r hf]; simp
      · rw [hp, Pp.pieces_more r hf]
    · rw [if_neg hf]
      refine ⟨_, _, _, rfl, ⟨Nat.zero_le _, .inr ⟨rfl, ?_⟩⟩, [], ?_⟩
      · rw [hp, Pp.pieces_last r hf]
      · rw [hp, Pp.pieces_last r hf]
  · cases h
theorem keeps_drewN (W : World) (n : Nat) : KeepsOthers W (W.drewN n) := ⟨Nat.le_refl _, fun _ _ h _ => h⟩
theorem boxed_drewN {W : World} {B : Nat} {t : TypeId} {v : Value} (h : Boxed W B t v) (n : Nat) : Boxed (W.drewN n) B t v := h
set_option maxRecDepth 100000 in
theorem less_any (a b : ByteArray) (w : World) (ha : a.size ≤ 1000000) (hb : b.size ≤ 1000000) :
    Calls Tryd.prog 22 #[.string a, .string b] w fun e w' => e = .returned (.bool (Pp.lessL (Pp.pieces a) (Pp.pieces b))) ∧ Below w.heap.size w w' := by
  have hro : Fence.wide.round = none := rfl
  refine (callsIn_wide (n := 9)).1 ?_
  refine callsIn_of_wp_marks Tryd.func22 rfl trivial ?_ rfl
  simp only [Tryd.ntmps22, List.size_toArray, List.length_cons, List.length_nil, Nat.reduceAdd, Nat.reduceSub, Array.replicate_succ, Array.replicate_zero, List.push_toArray, List.append_toArray, List.nil_append, List.cons_append]
  gi_wp2_with (refine ⟨trivial, ?_⟩; gi_at_call 24; refine (callsIn_wide.2 (split_seq a _)).mono ?_; rintro e w' ⟨rfl, rfl⟩)
  obtain ⟨w0, hw0⟩ : ∃ w0, ((w.alloc (.cells #[.bool false] 4)).alloc (.cells #[.string b] 9)).alloc (.cells #[.bool true] 4) = w0 := ⟨_, rfl⟩
  have hsz : w0.heap.size = w.heap.size + 3 := by rw [← hw0]; simp
  have hB0 : Below w.heap.size w w0 := by rw [← hw0]; exact (((Below.refl _ w).alloc (Nat.le_refl _) _).alloc (by simp) _).alloc (by simp; omega) _
  have x0 : Boxed w0 w.heap.size 4 (.bool false) := by rw [← hw0]; exact ((Boxed.new w _ _).alloc _).alloc _
  have x1 : Boxed w0 (w.heap.size + 1) 9 (.string b) := by
    rw [← hw0]
    have := Boxed.new (w.alloc (.cells #[.bool false] 4)) 9 (.string b)
    rw [World.size_alloc] at this
    exact this.alloc _
  have x2 : Boxed w0 (w.heap.size + 1 + 1) 4 (.bool true) := by
    rw [← hw0]
    have := Boxed.new ((w.alloc (.cells #[.bool false] 4)).alloc (.cells #[.string b] 9)) 4 (.bool true)
    simp only [World.size_alloc] at this
    exact this
  rw [hw0]
  have hWs := splitW_size a w0
  refine range_gives hro (by omega) (gf := 39) (lb := #[.pointer (some ⟨w0.heap.size + 1, 0, none⟩), .pointer (some ⟨w0.heap.size, 0, none⟩), .pointer (some ⟨w0.heap.size + 1 + 1, 0, none⟩)]) rfl trivial (enters_of Tryd.func39 (by kernel_rfl) rfl) (fun _ => rfl)
    (split_iter 8 (by omega) w0.heap.size (w0.heap.size + 1) (w0.heap.size + 1 + 1) a ha (by omega) (by omega))
    (fun pre W => (∃ r m, LeftB b pre r m ∧ Boxed W w.heap.size 4 (.bool false) ∧ Boxed W (w.heap.size + 1) 9 (.string r) ∧ Boxed W (w.heap.size + 1 + 1) 4 (.bool m)) ∧ Below w.heap.size w W)
    (fun c pre W => (c = .ret ∧ ∃ res, (∀ L, pre <+: L → Pp.lessL L (Pp.pieces b) = res) ∧ Boxed W w.heap.size 4 (.bool res)) ∧ Below w.heap.size w W)
    (SplT.own _ _ _ _ _)
    (OwnFrom.and (Own.from (fun x X Y row hh hg hr => by
      obtain ⟨r, m, h1, h2, h3, h4⟩ := hh
      exact ⟨r, m, h1, boxed_own _ _ (fun _ : List ByteArray => .bool false) x X Y row h2 hg hr, boxed_own _ _ (fun _ : List ByteArray => .string r) x X Y row h3 hg hr, boxed_own _ _ (fun _ : List ByteArray => .bool m) x X Y row h4 hg hr⟩) _) (ownFrom_below (Nat.le_refl _) (by omega)))
    (fun c => OwnFrom.and (Own.from (fun x X Y row hh hg hr => by
      obtain ⟨h0, res, h1, h2⟩ := hh
      exact ⟨h0, res, h1, boxed_own _ _ (fun _ : List ByteArray => .bool res) x X Y row h2 hg hr⟩) _) (ownFrom_below (Nat.le_refl _) (by omega)))
    ?closed spl_others (splitW_T a w0)
    ⟨⟨b, true, ⟨Nat.le_refl _, .inl ⟨rfl, by simp⟩⟩, splitW_box a x0, splitW_box a x1, splitW_box a x2⟩, splitW_below a w0 hB0 (by omega)⟩
    (fun x => { tmps := #[.string a, .string b, undef, undef, .pointer (some ⟨w.heap.size, 0, none⟩), .pointer (some ⟨w.heap.size + 1, 0, none⟩), .pointer (some ⟨w.heap.size + 1 + 1, 0, none⟩), .string x, undef, .string b, .string a, splitV w0, .string x, undef, undef, undef, undef, undef, undef, undef, undef, undef, undef, undef, undef, undef, undef, undef], defers := [] }) ?assign ?body ?done ?stop
  case closed =>
    rintro pre A B ⟨u, rfl⟩ ⟨⟨r, m, h1, h2, h3, h4⟩, h6⟩
    exact ⟨⟨r, m, h1, h2.other (by omega) _, h3.other (by omega) _, h4.other (by omega) _⟩, h6.setCell (p := ⟨w0.heap.size, 0, none⟩) (by simp; omega) _⟩
  case assign =>
    intro l x W K hK
    gi_wp2
    exact hK
  case body =>
    rintro l pre x W hx ⟨⟨r, m, h1, h2, h3, h4⟩, h6⟩ hT
    have c0 := h2.cell
    have c1 := h3.cell
    have c2 := h4.cell
    have f0 := h2.frozen
    have f1 := h3.frozen
    have f2 := h4.frozen
    cases m with
    | false =>
      have hpb : Pp.pieces b = pre := by
        obtain ⟨_, ⟨h, _⟩ | ⟨_, h⟩⟩ := h1
        · cases h
        · exact h
      have hres : Hid (∀ L, pre ++ [x] <+: L → Pp.lessL L (Pp.pieces b) = false) := fun L hL => by
        obtain ⟨t, rfl⟩ := hL
        rw [hpb, List.append_assoc]
        exact Pp.lessL_nil _ _
      clear hpb hx
      gi_wp2
      exact ⟨KeepsOthers.setCell _ _ _, ⟨rfl, false, hres.out, h2.set _⟩, h6.setCell (p := ⟨w.heap.size, 0, none⟩) (by simp) _⟩
    | true =>
      obtain ⟨y, r', m', hcv, hleft, rest, hrest⟩ := cutV_left h1
      have k := Lib.hid (fun W => cut_any r W (by have := h1.1; omega))
      rw [hcv] at k
      have HL := Lib.hid hleft
      have HX := Lib.hid hx
      by_cases hxy : x = y
      · subst hxy
        clear hrest hcv hleft hx
        gi_wp2_with (refine ⟨trivial, ?_⟩; gi_at_call 31; refine (CallsIn.inRound l (callsIn_wide.2 (k.out _))).mono ?_; rintro e w' ⟨rfl, nd, rfl⟩)
        exact ⟨((keeps_drewN W nd).trans (KeepsOthers.setCell _ _ _)).trans (KeepsOthers.setCell _ _ _),
          ⟨((boxed_drewN hT.1 nd).other (by omega) _).other (by omega) _, ((boxed_drewN hT.2.1 nd).other (by omega) _).other (by omega) _, ((boxed_drewN hT.2.2 nd).other (by omega) _).other (by omega) _⟩,
          ⟨r', m', HL.out, ((boxed_drewN h2 nd).other (by omega) _).other (by omega) _, ((boxed_drewN h3 nd).set _).other (by omega) _, ((boxed_drewN h4 nd).other (by omega) _).set _⟩,
          ((below_drewN h6 nd).setCell (p := ⟨w.heap.size + 1, 0, none⟩) (by simp) _).setCell (p := ⟨w.heap.size + 1 + 1, 0, none⟩) (by simp; omega) _⟩
      · have hres : Hid (∀ L, pre ++ [x] <+: L → Pp.lessL L (Pp.pieces b) = Pp.lt x y) := fun L hL => by
          obtain ⟨t, rfl⟩ := hL
          rw [hrest, List.append_assoc]
          exact Pp.lessL_ne _ _ _ hxy
        have g := Pp.toList_ne hxy
        clear hrest hcv hleft hx hxy
        gi_wp2_with (refine ⟨trivial, ?_⟩; gi_at_call 31; refine (CallsIn.inRound l (callsIn_wide.2 (k.out _))).mono ?_; rintro e w' ⟨rfl, nd, rfl⟩)
        exact ⟨(((keeps_drewN W nd).trans (KeepsOthers.setCell _ _ _)).trans (KeepsOthers.setCell _ _ _)).trans (KeepsOthers.setCell _ _ _),
          ⟨rfl, _, hres.out, (((boxed_drewN h2 nd).other (by omega) _).other (by omega) _).set _⟩,
          (((below_drewN h6 nd).setCell (p := ⟨w.heap.size + 1, 0, none⟩) (by simp) _).setCell (p := ⟨w.heap.size + 1 + 1, 0, none⟩) (by simp; omega) _).setCell (p := ⟨w.heap.size, 0, none⟩) (by simp) _⟩
  case done =>
    rintro D W hD ⟨⟨r, m, h1, h2, h3, h4⟩, h6⟩ hK
    have c0 := h2.cell
    have c2 := h4.cell
    have f0 := h2.frozen
    have hres : Hid (Pp.lessL (Pp.pieces a) (Pp.pieces b) = m) := by
      show _ = _
      obtain ⟨_, ⟨rfl, h⟩ | ⟨rfl, h⟩⟩ := h1
      · rw [h]
        cases hq : Pp.pieces r with
        | nil => exact absurd hq (Pp.pieces_ne _)
        | cons y ys => exact Pp.lessL_more _ _ _
      · rw [h]
        have := Pp.lessL_nil (Pp.pieces a) []
        rwa [List.append_nil] at this
    clear h1
    gi_wp2
    have hK' := (KeepsOthers.setCell W ⟨w.heap.size, 0, none⟩ (.bool m)).same D _ hK rfl
    refine ⟨by simp, .inl ⟨_, _, rfl, run_takeDeferred hK', ?_⟩⟩
    have z0 := (h2.set (.bool m)).kept (grownBy_putObj' _ D (.deferred none)) (fun e => by cases e; omega)
    have y0 := z0.cell
    refine ⟨.bool m, ?_, by rw [hres.out], (h6.setCell (p := ⟨w.heap.size, 0, none⟩) (by simp) (.bool m)).trans (belowK_b (w := w) (Nat.le_refl _) _ D _ (.deferred none) (by omega) hK' rfl rfl)⟩
    simp [results, Tryd.f22, go_sem, y0]
  case stop =>
    rintro D c pre W hD hp ⟨⟨rfl, res, h1, h2⟩, h6⟩ hK
    have hres : Hid (Pp.lessL (Pp.pieces a) (Pp.pieces b) = res) := h1 _ hp
    gi_wp2
    refine ⟨by simp, .inl ⟨_, _, rfl, run_takeDeferred hK, ?_⟩⟩
    have z0 := h2.kept (grownBy_putObj' _ D (.deferred none)) (fun e => by cases e; omega)
    have y0 := z0.cell
    refine ⟨.bool res, ?_, by rw [hres.out], h6.trans (belowK_b (w := w) (Nat.le_refl _) _ D _ (.deferred none) (by omega) hK rfl rfl)⟩
    simp [results, Tryd.f22, go_sem, y0]
end Go.Proofs.YtnopbgfogiielaaDoor
