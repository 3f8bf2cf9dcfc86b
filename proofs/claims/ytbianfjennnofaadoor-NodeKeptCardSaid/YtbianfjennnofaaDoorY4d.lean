/- WALKS OF LAYER 4, FOURTH PART: strings.SplitSeq's value; a path's names. -/
import Derived.Test.YtbianfjennnofaaDoorY4b
import Derived.Test.YtbianfjennnofaaDoorY4c
namespace Go.Proofs.YtbianfjennnofaaDoor
set_option linter.unusedVariables false
open Go Go.RowKit Go.Shelf
attribute [local go_sem] Oper.semAt_some
set_option maxHeartbeats 1000000
set_option maxRecDepth 100000
/-- The boxes that 'SplitSeq' lays. -/
def splitW (s : ByteArray) (w : World) : World := ((w.alloc (.cells #[.string s] 9)).alloc (.cells #[.string ⟨#[47]⟩] 9)).alloc (.cells #[.int .i64 0] 3)
def splitV (w : World) : Value := .func (.func 70) #[] #[.pointer (some ⟨w.heap.size + 1, 0, none⟩), .pointer (some ⟨w.heap.size, 0, none⟩), .pointer (some ⟨w.heap.size + 1 + 1, 0, none⟩)]
theorem split_seq0 (s : ByteArray) (w : World) :
    Calls Tryd.prog 62 #[.string s, .string ⟨#[47]⟩, .int .i64 0] w fun e w' => e = .returned (splitV w) ∧ w' = splitW s w := by
  go_enter Tryd.func62, Tryd.ntmps62
  go_wp2
  go_ret
  refine ⟨?_, rfl⟩
  unfold splitV
  simp
theorem split_seq (s : ByteArray) (w : World) :
    Calls Tryd.prog 54 #[.string s, .string ⟨#[47]⟩] w fun e w' => e = .returned (splitV w) ∧ w' = splitW s w := by
  have k := Lib.hid (split_seq0 s w)
  go_enter Tryd.func54, Tryd.ntmps54
  go_wp2_with (go_at_call 62; refine k.out.mono ?_; rintro e w' ⟨rfl, rfl⟩)
  go_ret
  exact ⟨rfl, rfl⟩
theorem splitW_T (s : ByteArray) (w : World) : SplT w.heap.size (w.heap.size + 1) (w.heap.size + 1 + 1) s [] (splitW s w) := by
  have a := Boxed.new w 9 (.string s)
  have b := Boxed.new (w.alloc (.cells #[.string s] 9)) 9 (.string ⟨#[47]⟩)
  have c := Boxed.new ((w.alloc (.cells #[.string s] 9)).alloc (.cells #[.string ⟨#[47]⟩] 9)) 3 (.int .i64 0)
  simp only [World.size_alloc] at b c
  exact ⟨(a.alloc _).alloc _, b.alloc _, c⟩
theorem splitW_size (s : ByteArray) (w : World) : (splitW s w).heap.size = w.heap.size + 3 := by unfold splitW; simp
theorem splitW_below (s : ByteArray) (w : World) {B : Nat} {v : World} (h : Below B v w) (hB : B ≤ w.heap.size) : Below B v (splitW s w) :=
  ((h.alloc hB _).alloc (by simp; omega) _).alloc (by simp; omega) _
theorem splitW_box (s : ByteArray) {w : World} {B : Nat} {t : TypeId} {v : Value} (h : Boxed w B t v) : Boxed (splitW s w) B t v := ((h.alloc _).alloc _).alloc _
theorem SplT.own (B B0 B1 B2 : Nat) (s : ByteArray) : OwnFrom B (SplT B0 B1 B2 s) :=
  Own.from (fun x X Y row hs hg hr => ⟨boxed_own B0 _ (fun pre : List ByteArray => .string (Pp.rest pre.length s)) x X Y row hs.1 hg hr, boxed_own B1 _ (fun _ : List ByteArray => .string ⟨#[47]⟩) x X Y row hs.2.1 hg hr, boxed_own B2 _ (fun _ : List ByteArray => .int .i64 0) x X Y row hs.2.2 hg hr⟩) _
theorem spl_others {B0 : Nat} (A B : World) (h : SplS B0 A B) (k : Nat) (o : Obj) (hk : A.heap[k]? = some o) (ho : o.isCells = false) : B.heap[k]? = some o := by
  obtain ⟨v, rfl⟩ := h
  exact (KeepsOthers.setCell A _ v).same k o hk ho
theorem info_str : (Tryd.prog.info? 9).map (fun i => (i.zero, i.size, i.bytes)) = some (some (.string ⟨#[]⟩), 1, 16) := by kernel_rfl
/-- A slice of texts that the call itself has made. -/
def OS (w : World) (base : Nat) (v : Value) (xs : List ByteArray) : Prop := w.ownsRow base 9 1 v xs.length (xs.map Value.string)
theorem OS.nil (w : World) (base : Nat) : OS w base (.slice none 0 0) [] := World.ownsRow_nil _ _ _ _
theorem OS.more {w : World} {base base' : Nat} {v : Value} {xs : List ByteArray} (h : OS w base v xs) (hb : base' ≤ base) : OS w base' v xs := row_more h hb
set_option maxRecDepth 100000 in
theorem parts_any (s : ByteArray) (w : World) (hs : s.size ≤ 1000000) :
    Calls Tryd.prog 44 #[.string s] w fun e w' => ∃ v, e = .returned (.tuple #[v, .int .i64 (Pp.partsS s).2]) ∧ OS w' w.heap.size v (Pp.partsS s).1 ∧ Below w.heap.size w w' := by
  obtain ⟨i0, hi, hz0, hz1, hz2⟩ := info_parts info_str
  have hro : Fence.wide.round = none := rfl
  refine (callsIn_wide (n := 9)).1 ?_
  refine callsIn_of_wp_marks Tryd.func44 rfl trivial ?_ rfl
  simp only [Tryd.ntmps44, List.size_toArray, List.length_cons, List.length_nil, Nat.reduceAdd, Nat.reduceSub, Array.replicate_succ, Array.replicate_zero, List.push_toArray, List.append_toArray, List.nil_append, List.cons_append]
  by_cases h300 : s.size ≤ 300
  · have g : ¬ (300 : Int) < s.size := by omega
    gi_wp2_with (refine ⟨trivial, ?_⟩; gi_at_call 54; refine (callsIn_wide.2 (split_seq s _)).mono ?_; rintro e w' ⟨rfl, rfl⟩)
    obtain ⟨w0, hw0⟩ : ∃ w0, ((w.alloc (.cells #[.slice none 0 0] 42)).alloc (.cells #[.int .i64 0] 37)).alloc (.cells #[.slice none 0 0] 42) = w0 := ⟨_, rfl⟩
    have hsz : w0.heap.size = w.heap.size + 3 := by rw [← hw0]; simp
    have hB0 : Below w.heap.size w w0 := by rw [← hw0]; exact (((Below.refl _ w).alloc (Nat.le_refl _) _).alloc (by simp) _).alloc (by simp; omega) _
    have x0 : Boxed w0 w.heap.size 42 (.slice none 0 0) := by rw [← hw0]; exact ((Boxed.new w _ _).alloc _).alloc _
    have x1 : Boxed w0 (w.heap.size + 1) 37 (.int .i64 0) := by
      rw [← hw0]
      have := Boxed.new (w.alloc (.cells #[.slice none 0 0] 42)) 37 (.int .i64 0)
      rw [World.size_alloc] at this
      exact this.alloc _
    have x2 : Boxed w0 (w.heap.size + 1 + 1) 42 (.slice none 0 0) := by
      rw [← hw0]
      have := Boxed.new ((w.alloc (.cells #[.slice none 0 0] 42)).alloc (.cells #[.int .i64 0] 37)) 42 (.slice none 0 0)
      simp only [World.size_alloc] at this
      exact this
    rw [hw0]
    have hWs := splitW_size s w0
    refine range_gives hro (by omega) (gf := 70) (lb := #[.pointer (some ⟨w0.heap.size + 1, 0, none⟩), .pointer (some ⟨w0.heap.size, 0, none⟩), .pointer (some ⟨w0.heap.size + 1 + 1, 0, none⟩)]) rfl trivial (enters_of Tryd.func70 (by kernel_rfl) rfl) (fun _ => rfl)
      (split_iter 8 (by omega) w0.heap.size (w0.heap.size + 1) (w0.heap.size + 1 + 1) s hs (by omega) (by omega))
      (fun pre W => ((∀ y ∈ pre, Pp.Nm y) ∧ Boxed W w.heap.size 42 (.slice none 0 0) ∧ Boxed W (w.heap.size + 1) 37 (.int .i64 0) ∧ ∃ v, Boxed W (w.heap.size + 1 + 1) 42 v ∧ W.ownsRow (w.heap.size + 6) 9 1 v pre.length (pre.map Value.string) ∧ True) ∧ Below w.heap.size w W ∧ w.heap.size + 6 ≤ W.heap.size)
      (fun c pre W => (c = .ret ∧ (∃ y ∈ pre, ¬ Pp.Nm y) ∧ Boxed W w.heap.size 42 (.slice none 0 0) ∧ Boxed W (w.heap.size + 1) 37 (.int .i64 8)) ∧ Below w.heap.size w W)
      (SplT.own _ _ _ _ _)
      (OwnFrom.and (Own.from (fun x X Y row hh hg hr => ⟨hh.1, boxed_own _ _ (fun _ : List ByteArray => .slice none 0 0) x X Y row hh.2.1 hg hr, boxed_own _ _ (fun _ : List ByteArray => .int .i64 0) x X Y row hh.2.2.1 hg hr,
        holdsRow_own (w.heap.size + 6) (w.heap.size + 1 + 1) 42 9 1 (fun pre : List ByteArray => pre.length) (fun pre => pre.map Value.string) (fun _ _ => True) x X Y row hh.2.2.2 hg hr⟩) _) (OwnFrom.and (ownFrom_below (Nat.le_refl _) (by omega)) (ownFrom_size _ _)))
      (fun c => OwnFrom.and (Own.from (fun x X Y row hh hg hr => ⟨hh.1, hh.2.1, boxed_own _ _ (fun _ : List ByteArray => .slice none 0 0) x X Y row hh.2.2.1 hg hr, boxed_own _ _ (fun _ : List ByteArray => .int .i64 8) x X Y row hh.2.2.2 hg hr⟩) _) (ownFrom_below (Nat.le_refl _) (by omega)))
      ?closed spl_others (splitW_T s w0)
      ⟨⟨by simp, splitW_box s x0, splitW_box s x1, _, splitW_box s x2, World.ownsRow_nil _ _ _ _, trivial⟩, splitW_below s w0 hB0 (by omega), by omega⟩
      (fun x => { tmps := #[.string s, undef, .pointer (some ⟨w.heap.size, 0, none⟩), .pointer (some ⟨w.heap.size + 1, 0, none⟩), .pointer (some ⟨w.heap.size + 1 + 1, 0, none⟩), .string x, .string s, .int .i64 s.size, .bool false, .string s, splitV w0, .string x, undef, undef, undef, undef, undef, undef, undef, undef], defers := [] }) ?assign ?body ?done ?stop
    case closed =>
      rintro pre A B ⟨u, rfl⟩ ⟨⟨h1, h2, h3, v, h4, h5, _⟩, h6, h7⟩
      exact ⟨⟨h1, h2.other (by omega) _, h3.other (by omega) _, v, h4.other (by omega) _, own_other h5 (by omega), trivial⟩, h6.setCell (p := ⟨w0.heap.size, 0, none⟩) (by simp; omega) _, Nat.le_trans h7 (KeepsOthers.setCell _ _ _).size⟩
    case assign =>
      intro l x W K hK
      gi_wp2
      exact hK
    case body =>
      rintro l pre x W hx ⟨⟨h1, h2, h3, v, h4, h5, _⟩, h6, h7⟩ hT
      have hmem : x ∈ Pp.pieces s := hx.subset (by simp)
      have hlen : pre.length + 1 ≤ s.size + 1 := by
        have a := hx.length_le
        have b := Pp.pieces_len s
        simp at a
        omega
      have hxs := Pp.pieces_size s x hmem
      have k := Lib.hid (fun W => name_any x W (by omega))
      by_cases hN : Pp.Nm x
      · rw [decide_eq_true hN] at k
        have hc := h4.cell
        gi_wp2_with (first | (refine ⟨trivial, ?_⟩; gi_at_call 55; refine (CallsIn.inRound l (callsIn_wide.2 (k.out _))).mono ?_; rintro e w' ⟨rfl, rfl⟩) | (gi_at_builtin; refine wpListIn_append_own _ rfl _ _ 42 rfl (w.heap.size + 6) 9 i0 (.string ⟨#[]⟩) 1 16 Tryd.underlying42 hi hz0 hz1 hz2 rfl (by decide) _ _ _ rfl (h5.alloc _) ⟨W.heap.size, 0, none⟩ 1 1 [.string x] rfl rfl (cell_one_new _ _ _) (by simp [Value.oneCell']) (by unfold maxLen; omega) (by omega) (by simp; omega) ?_; intro v' w1 hown' hgrow _; obtain ⟨g', cap', rfl⟩ := ownsRow_succ hown'; obtain ⟨hv1, hv2, hr2, hk2, hb2, ho2, hz2⟩ := box_append (n₁ := w.heap.size) h4 (by decide) h5 (by omega) (by omega) (by omega) hown' hgrow; have hc1 := hv1.cell; have hf1 := hv1.frozen))
        exact ⟨hk2, ⟨ho2 _ _ _ hT.1 (by omega) (by omega), ho2 _ _ _ hT.2.1 (by omega) (by omega), ho2 _ _ _ hT.2.2 (by omega) (by omega)⟩,
          ⟨fun y hy => (List.mem_append.1 hy).elim (h1 y) (fun e => by simp at e; subst e; exact hN), ho2 _ _ _ h2 (by omega) (by omega), ho2 _ _ _ h3 (by omega) (by omega), _, hv2, by simpa using hr2, trivial⟩, h6.trans hb2, by omega⟩
      · rw [decide_eq_false hN] at k
        have hc0 := h2.cell
        have hf0 := h2.frozen
        have hc1 := h3.cell
        have hf1 := h3.frozen
        gi_wp2_with (first | (refine ⟨trivial, ?_⟩; gi_at_call 55; refine (CallsIn.inRound l (callsIn_wide.2 (k.out _))).mono ?_; rintro e w' ⟨rfl, rfl⟩))
        exact ⟨(KeepsOthers.setCell _ _ _).trans (KeepsOthers.setCell _ _ _), ⟨rfl, ⟨x, by simp, hN⟩, (h2.set _).other (by omega) _, (h3.other (by omega) _).set _⟩,
          (h6.setCell (p := ⟨w.heap.size, 0, none⟩) (by simp) _).setCell (p := ⟨w.heap.size + 1, 0, none⟩) (by simp) _⟩
    case done =>
      rintro D W hD ⟨⟨h1, h2, h3, v, h4, h5, _⟩, h6, h7⟩ hK
      obtain ⟨A, c, rfl⟩ := row_slice h5
      have hc2 := h4.cell
      have hc0 := h2.cell
      have hf0 := h2.frozen
      have hc1 := h3.cell
      have hf1 := h3.frozen
      have E := Lib.hid (Pp.parts_yes h300 h1)
      gi_wp2
      have hK' := (KeepsOthers.setCell (W.setCell ⟨w.heap.size, 0, none⟩ (.slice A (Pp.pieces s).length c)) ⟨w.heap.size + 1, 0, none⟩ (.int .i64 0)).same D _ ((KeepsOthers.setCell W ⟨w.heap.size, 0, none⟩ (.slice A (Pp.pieces s).length c)).same D _ hK rfl) rfl
      refine ⟨by simp, .inl ⟨_, _, rfl, run_takeDeferred hK', ?_⟩⟩
      have z0 := ((h2.set (.slice A (Pp.pieces s).length c)).other (B' := w.heap.size + 1) (by omega) (.int .i64 0)).kept (grownBy_putObj' _ D (.deferred none)) (fun e => by cases e; omega)
      have z1 := ((h3.other (B' := w.heap.size) (by omega) (.slice A (Pp.pieces s).length c)).set (.int .i64 0)).kept (grownBy_putObj' _ D (.deferred none)) (fun e => by cases e; omega)
      have zr := ownsRow_putObj (own_other (own_other h5 (B := w.heap.size) (u := .slice A (Pp.pieces s).length c) (by omega)) (B := w.heap.size + 1) (u := .int .i64 0) (by omega)) (.deferred none) hK' rfl
      have zb : Below w.heap.size w _ := ((h6.setCell (p := ⟨w.heap.size, 0, none⟩) (by simp) (.slice A (Pp.pieces s).length c)).setCell (p := ⟨w.heap.size + 1, 0, none⟩) (by simp) (.int .i64 0)).trans (belowK_b (w := w) (Nat.le_refl _) _ D _ (.deferred none) (by omega) hK' rfl rfl)
      have y0 := z0.cell
      have y1 := z1.cell
      refine ⟨.tuple #[.slice A (Pp.pieces s).length c, .int .i64 0], ?_, _, by rw [E.out], by rw [E.out]; exact row_more zr (by omega), zb⟩
      simp [results, Tryd.f44, go_sem, y0, y1]
    case stop =>
      rintro D c pre W hD hp ⟨⟨rfl, hno, h2, h3⟩, h6⟩ hK
      obtain ⟨y, hy, hny⟩ := hno
      have E := Lib.hid (Pp.parts_no (hp.subset hy) hny)
      gi_wp2
      refine ⟨by simp, .inl ⟨_, _, rfl, run_takeDeferred hK, ?_⟩⟩
      have z0 := h2.kept (grownBy_putObj' _ D (.deferred none)) (fun e => by cases e; omega)
      have z1 := h3.kept (grownBy_putObj' _ D (.deferred none)) (fun e => by cases e; omega)
      have y0 := z0.cell
      have y1 := z1.cell
      refine ⟨.tuple #[.slice none 0 0, .int .i64 8], ?_, _, by rw [E.out], by rw [E.out]; exact OS.nil _ _, h6.trans (belowK_b (w := w) (Nat.le_refl _) _ D _ (.deferred none) (by omega) hK rfl rfl)⟩
      simp [results, Tryd.f44, go_sem, y0, y1]
  · have g : (300 : Int) < s.size := by omega
    have e := Lib.hid (Pp.parts_long (s := s) (by omega))
    gi_wp2
    have z0 := (Boxed.new w 42 (.slice none 0 0)).alloc (.cells #[.int .i64 8] 37)
    have z1 := Boxed.new (w.alloc (.cells #[.slice none 0 0] 42)) 37 (.int .i64 8)
    rw [World.size_alloc] at z1
    have y0 := z0.cell
    have y1 := z1.cell
    refine ⟨.tuple #[.slice none 0 0, .int .i64 8], ?_, _, by rw [e.out], by rw [e.out]; exact OS.nil _ _, ((Below.refl _ w).alloc (Nat.le_refl _) _).alloc (by simp) _⟩
    simp [results, Tryd.f44, go_sem, y0, y1]
end Go.Proofs.YtbianfjennnofaaDoor
