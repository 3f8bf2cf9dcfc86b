/- WALKS OF LAYER 4, THIRD PART: strings.SplitSeq at a slash: the iterator's contract. -/
import Derived.Test.YthgbncpiehcghaaGreatDoorGy1
import Derived.Test.YthgbncpiehcghaaGreatDoorGf1
import Derived.Test.YthgbncpiehcghaaGreatDoorRb
import Derived.RangeFuncNested
import Derived.RangeFuncBound
import Derived.Shelf.Abstract
import Derived.Shelf.RegionOpen
import Derived.OwnWalkIn
import Derived.TacticsInMore
import Derived.LoopNIn
import Derived.LoopIn
import Derived.Maps.AppendAt
namespace Go.Proofs.YthgbncpiehcghaaGreatDoor
set_option linter.unusedVariables false
open Go Go.RowKit Go.Shelf
attribute [local go_sem] Oper.semAt_some
set_option maxHeartbeats 1000000
set_option maxRecDepth 100000
/-- The iterator's boxes: what is left of the text; what parts it; how much of that is kept. -/
def SplT (B0 B1 B2 : Nat) (s : ByteArray) (pre : List ByteArray) (W : World) : Prop :=
  Boxed W B0 9 (.string (Pp.rest pre.length s)) ∧ Boxed W B1 9 (.string ⟨#[47]⟩) ∧ Boxed W B2 3 (.int .i64 0)
def SplS (B0 : Nat) (A B : World) : Prop := ∃ v, B = A.setCell ⟨B0, 0, none⟩ v
/-- How much is left, read off the world: the loop's measure. -/
def leftAt (B0 : Nat) (W : World) : Nat := match W.cell? ⟨B0, 0, none⟩ with
  | some (.string r) => r.size
  | _ => 0
theorem leftAt_eq {B0 : Nat} {W : World} {t : TypeId} {r : ByteArray} (h : Boxed W B0 t (.string r)) : leftAt B0 W = r.size := by unfold leftAt; rw [h.cell]
set_option maxRecDepth 100000 in
theorem split_iter (n : Nat) (hn : 3 ≤ n) (B0 B1 B2 : Nat) (s : ByteArray) (hs : s.size ≤ 1000000) (h01 : B0 ≠ B1) (h02 : B0 ≠ B2) :
    Gives Fence.wide n Tryz.prog 159 #[.pointer (some ⟨B1, 0, none⟩), .pointer (some ⟨B0, 0, none⟩), .pointer (some ⟨B2, 0, none⟩)] (fun x : ByteArray => #[.string x]) (SplS B0) (SplT B0 B1 B2 s) (Pp.pieces s) := by
  intro l J Jx W hJ hT0 h0 hY
  have h1 : 1 ≤ n := by omega
  have hc0 := hT0.1.cell
  have hc1 := hT0.2.1.cell
  have hc2 := hT0.2.2.cell
  refine callsIn_of_wp Tryz.func159 rfl trivial ?_ rfl
  simp only [Tryz.ntmps159, List.size_toArray, List.length_cons, List.length_nil, Nat.reduceAdd, Nat.reduceSub, Array.replicate_succ, Array.replicate_zero, List.push_toArray, List.append_toArray, List.nil_append, List.cons_append]
  gi_wp2
  gi_loopw [7] (fun _ wr => ∃ pre : List ByteArray, Pp.pieces s = pre ++ Pp.pieces (Pp.rest pre.length s) ∧ SplT B0 B1 B2 s pre wr ∧ J pre wr) (fun _ wr => leftAt B0 wr)
  case atStart => exact ⟨[], by simp [Pp.rest], hT0, h0⟩
  case round =>
    obtain ⟨pre, hp, hT, hj⟩ := hrel
    obtain ⟨t0, t1, t2⟩ := hT
    have c0 := t0.cell
    have c1 := t1.cell
    have c2 := t2.cell
    have hrl := Pp.rest_le pre.length s
    have t0' := Lib.hid t0; have t1' := Lib.hid t1; have t2' := Lib.hid t2
    have HP := Lib.hid hp; clear hp hc0 hc1 hc2 hT0 h0
    generalize hr : Pp.rest pre.length s = r at *
    have hle := Pp.fi_le r
    by_cases h : Pp.fi r < r.size
    · have hx : pre ++ [Pp.hd r] <+: Pp.pieces s := by
        rw [HP.out, Pp.pieces_more r h]
        exact ⟨Pp.pieces (Pp.tl r), by simp⟩
      obtain ⟨fn, tmps, assign, body, hy, hR⟩ := hY pre (Pp.hd r) wr hx hj (by unfold SplT; rw [hr]; exact ⟨t0'.out, t1'.out, t2'.out⟩)
      have hnext : Hid (Pp.pieces s = (pre ++ [Pp.hd r]) ++ Pp.pieces (Pp.rest (pre ++ [Pp.hd r]).length s)) := by
        show _ = _
        rw [HP.out, Pp.pieces_more r h]
        simp [Pp.rest, hr]
      have hrest : Hid (Pp.rest (pre ++ [Pp.hd r]).length s = Pp.tl r) := by
        show _ = _
        simp [Pp.rest, hr]
      have hlt := Pp.tl_lt r h
      have k := Lib.hid (fun W => index_any r W)
      unfold Pp.ix at k
      rw [if_pos h] at k
      have HR := Lib.hid hr; clear hr hx
      unfold Pp.hd at hy
      have s1 : IntKind.i64.wrap ((Pp.fi r : Int) + 1) = (Pp.fi r : Int) + 1 := IntWalk.i64_in _ (by omega)
      have s2 : ((Pp.fi r : Int) + 1).toNat = Pp.fi r + 1 := by omega
      have s3 : (0 : Int) ≤ (Pp.fi r : Int) + 1 := by omega
      have s4 : Pp.fi r + 1 ≤ r.size := by omega
      gi_wp2_with (refine ⟨trivial, ?_⟩; gi_at_call 161; refine (callsIn_wide.2 (k.out _)).mono ?_; rintro e w' ⟨rfl, rfl⟩)
      refine hR.mono ?_
      rintro e W3 (⟨rfl, hJ3, u0, u1, u2⟩ | ⟨rfl, hJx3⟩)
      · rw [HR.out] at u0
        have d0 := u0.cell
        have d1 := u1.cell
        have f0 := u0.frozen
        have hst := Lib.hid (hJ (pre ++ [Pp.hd r]) W3 _ ⟨.string (r.extract (Pp.fi r + 1) r.size), rfl⟩ hJ3)
        have v0 := u0.set (.string (r.extract (Pp.fi r + 1) r.size))
        have v1 := box_other (v' := .string (r.extract (Pp.fi r + 1) r.size)) u1 h01.symm
        have v2 := box_other (v' := .string (r.extract (Pp.fi r + 1) r.size)) u2 h02.symm
        gi_wp2
        go_roundw
        case rel => exact ⟨pre ++ [Pp.hd r], hnext.out, ⟨by rw [hrest.out]; exact v0, v1, v2⟩, hst.out⟩
        case measure => rw [leftAt_eq v0, leftAt_eq t0'.out]; exact hlt
      · gi_wp2
        refine bodyPost_ret (results_none rfl _ _ _) rfl ?_
        exact ⟨⟨_, rfl⟩, .inr ⟨pre ++ [Pp.hd r], ⟨Pp.pieces (Pp.rest (pre ++ [Pp.hd r]).length s), hnext.out.symm⟩, hJx3⟩⟩
    · have hx : pre ++ [r] <+: Pp.pieces s := by
        rw [HP.out, Pp.pieces_last r h]
        exact List.prefix_refl _
      obtain ⟨fn, tmps, assign, body, hy, hR⟩ := hY pre r wr hx hj (by unfold SplT; rw [hr]; exact ⟨t0'.out, t1'.out, t2'.out⟩)
      have hall : Hid (Pp.pieces s = pre ++ [r]) := by
        show _ = _
        rw [HP.out, Pp.pieces_last r h]
      have k := Lib.hid (fun W => index_any r W)
      unfold Pp.ix at k
      rw [if_neg h] at k
      have HR := Lib.hid hr; clear hr hx
      gi_wp2_with (refine ⟨trivial, ?_⟩; gi_at_call 161; refine (callsIn_wide.2 (k.out _)).mono ?_; rintro e w' ⟨rfl, rfl⟩)
      refine hR.mono ?_
      rintro e W3 (⟨rfl, hJ3, _⟩ | ⟨rfl, hJx3⟩)
      · gi_wp2
        go_end0
        exact ⟨⟨_, rfl⟩, .inl (by rw [hall.out]; exact hJ3)⟩
      · gi_wp2
        go_end0
        exact ⟨⟨_, rfl⟩, .inr ⟨_, by rw [hall.out]; exact List.prefix_refl _, hJx3⟩⟩
end Go.Proofs.YthgbncpiehcghaaGreatDoor
/- WALKS OF LAYER 4, FOURTH PART: strings.SplitSeq's value; a path's names. -/
namespace Go.Proofs.YthgbncpiehcghaaGreatDoor
set_option linter.unusedVariables false
open Go Go.RowKit Go.Shelf
attribute [local go_sem] Oper.semAt_some
set_option maxHeartbeats 1000000
set_option maxRecDepth 100000
/-- The boxes that 'SplitSeq' lays. -/
def splitW (s : ByteArray) (w : World) : World := ((w.alloc (.cells #[.string s] 9)).alloc (.cells #[.string ⟨#[47]⟩] 9)).alloc (.cells #[.int .i64 0] 3)
def splitV (w : World) : Value := .func (.func 159) #[] #[.pointer (some ⟨w.heap.size + 1, 0, none⟩), .pointer (some ⟨w.heap.size, 0, none⟩), .pointer (some ⟨w.heap.size + 1 + 1, 0, none⟩)]
theorem split_seq0 (s : ByteArray) (w : World) :
    Calls Tryz.prog 150 #[.string s, .string ⟨#[47]⟩, .int .i64 0] w fun e w' => e = .returned (splitV w) ∧ w' = splitW s w := by
  go_enter Tryz.func150, Tryz.ntmps150
  go_wp2
  go_ret
  refine ⟨?_, rfl⟩
  unfold splitV
  simp
theorem split_seq (s : ByteArray) (w : World) :
    Calls Tryz.prog 139 #[.string s, .string ⟨#[47]⟩] w fun e w' => e = .returned (splitV w) ∧ w' = splitW s w := by
  have k := Lib.hid (split_seq0 s w)
  go_enter Tryz.func139, Tryz.ntmps139
  go_wp2_with (go_at_call 150; refine k.out.mono ?_; rintro e w' ⟨rfl, rfl⟩)
  go_ret
  exact ⟨rfl, rfl⟩
theorem splitW_T (s : ByteArray) (w : World) : SplT w.heap.size (w.heap.size + 1) (w.heap.size + 1 + 1) s [] (splitW s w) := by
  have a := Boxed.new w 9 (.string s)
  have b := Boxed.new (w.alloc (.cells #[.string s] 9)) 9 (.string ⟨#[47]⟩)
  have c := Boxed.new ((w.alloc (.cells #[.string s] 9)).alloc (.cells #[.string ⟨#[47]⟩] 9)) 3 (.int .i64 0)
  simp only [World.size_alloc] at b c
  exact ⟨(a.alloc _).alloc _, b.alloc _, c⟩
theorem splitW_size (s : ByteArray) (w : World) : (splitW s w).heap.size = w.heap.size + 3 := by unfold splitW; simp
theorem splitW_below (s : ByteArray) (w : World) {B : Nat} {v : World} (h : Below B v w) (hB : B ≤ w.heap.size) : Below B v (splitW s w) :=
  ((h.alloc hB _).alloc (by simp; omega) _).alloc (by simp; omega) _
theorem splitW_box (s : ByteArray) {w : World} {B : Nat} {t : TypeId} {v : Value} (h : Boxed w B t v) : Boxed (splitW s w) B t v := ((h.alloc _).alloc _).alloc _
theorem SplT.own (B B0 B1 B2 : Nat) (s : ByteArray) : OwnFrom B (SplT B0 B1 B2 s) :=
  Own.from (fun x X Y row hs hg hr => ⟨boxed_own B0 _ (fun pre : List ByteArray => .string (Pp.rest pre.length s)) x X Y row hs.1 hg hr, boxed_own B1 _ (fun _ : List ByteArray => .string ⟨#[47]⟩) x X Y row hs.2.1 hg hr, boxed_own B2 _ (fun _ : List ByteArray => .int .i64 0) x X Y row hs.2.2 hg hr⟩) _
theorem spl_others {B0 : Nat} (A B : World) (h : SplS B0 A B) (k : Nat) (o : Obj) (hk : A.heap[k]? = some o) (ho : o.isCells = false) : B.heap[k]? = some o := by
  obtain ⟨v, rfl⟩ := h
  exact (KeepsOthers.setCell A _ v).same k o hk ho
theorem info_str : (Tryz.prog.info? 9).map (fun i => (i.zero, i.size, i.bytes)) = some (some (.string ⟨#[]⟩), 1, 16) := by kernel_rfl
/-- A slice of texts that the call itself has made. -/
def OS (w : World) (base : Nat) (v : Value) (xs : List ByteArray) : Prop := w.ownsRow base 9 1 v xs.length (xs.map Value.string)
theorem OS.nil (w : World) (base : Nat) : OS w base (.slice none 0 0) [] := World.ownsRow_nil _ _ _ _
theorem OS.more {w : World} {base base' : Nat} {v : Value} {xs : List ByteArray} (h : OS w base v xs) (hb : base' ≤ base) : OS w base' v xs := row_more h hb
set_option maxRecDepth 100000 in
theorem parts_any (s : ByteArray) (w : World) (hs : s.size ≤ 1000000) :
    Calls Tryz.prog 116 #[.string s] w fun e w' => ∃ v, e = .returned (.tuple #[v, .int .i64 (Pp.partsS s).2]) ∧ OS w' w.heap.size v (Pp.partsS s).1 ∧ Below w.heap.size w w' := by
  obtain ⟨i0, hi, hz0, hz1, hz2⟩ := info_parts info_str
  have hro : Fence.wide.round = none := rfl
  refine (callsIn_wide (n := 9)).1 ?_
  refine callsIn_of_wp_marks Tryz.func116 rfl trivial ?_ rfl
  simp only [Tryz.ntmps116, List.size_toArray, List.length_cons, List.length_nil, Nat.reduceAdd, Nat.reduceSub, Array.replicate_succ, Array.replicate_zero, List.push_toArray, List.append_toArray, List.nil_append, List.cons_append]
  by_cases h300 : s.size ≤ 300
  · have g : ¬ (300 : Int) < s.size := by omega
    gi_wp2_with (refine ⟨trivial, ?_⟩; gi_at_call 139; refine (callsIn_wide.2 (split_seq s _)).mono ?_; rintro e w' ⟨rfl, rfl⟩)
    obtain ⟨w0, hw0⟩ : ∃ w0, ((w.alloc (.cells #[.slice none 0 0] 80)).alloc (.cells #[.int .i64 0] 41)).alloc (.cells #[.slice none 0 0] 80) = w0 := ⟨_, rfl⟩
    have hsz : w0.heap.size = w.heap.size + 3 := by rw [← hw0]; simp
    have hB0 : Below w.heap.size w w0 := by rw [← hw0]; exact (((Below.refl _ w).alloc (Nat.le_refl _) _).alloc (by simp) _).alloc (by simp; omega) _
    have x0 : Boxed w0 w.heap.size 80 (.slice none 0 0) := by rw [← hw0]; exact ((Boxed.new w _ _).alloc _).alloc _
    have x1 : Boxed w0 (w.heap.size + 1) 41 (.int .i64 0) := by
      rw [← hw0]
      have := Boxed.new (w.alloc (.cells #[.slice none 0 0] 80)) 41 (.int .i64 0)
      rw [World.size_alloc] at this
      exact this.alloc _
    have x2 : Boxed w0 (w.heap.size + 1 + 1) 80 (.slice none 0 0) := by
      rw [← hw0]
      have := Boxed.new ((w.alloc (.cells #[.slice none 0 0] 80)).alloc (.cells #[.int .i64 0] 41)) 80 (.slice none 0 0)
      simp only [World.size_alloc] at this
      exact this
    rw [hw0]
    have hWs := splitW_size s w0
    refine range_gives hro (by omega) (gf := 159) (lb := #[.pointer (some ⟨w0.heap.size + 1, 0, none⟩), .pointer (some ⟨w0.heap.size, 0, none⟩), .pointer (some ⟨w0.heap.size + 1 + 1, 0, none⟩)]) rfl trivial (enters_of Tryz.func159 (by kernel_rfl) rfl) (fun _ => rfl)
      (split_iter 8 (by omega) w0.heap.size (w0.heap.size + 1) (w0.heap.size + 1 + 1) s hs (by omega) (by omega))
      (fun pre W => ((∀ y ∈ pre, Pp.Nm y) ∧ Boxed W w.heap.size 80 (.slice none 0 0) ∧ Boxed W (w.heap.size + 1) 41 (.int .i64 0) ∧ ∃ v, Boxed W (w.heap.size + 1 + 1) 80 v ∧ W.ownsRow (w.heap.size + 6) 9 1 v pre.length (pre.map Value.string) ∧ True) ∧ Below w.heap.size w W ∧ w.heap.size + 6 ≤ W.heap.size)
      (fun c pre W => (c = .ret ∧ (∃ y ∈ pre, ¬ Pp.Nm y) ∧ Boxed W w.heap.size 80 (.slice none 0 0) ∧ Boxed W (w.heap.size + 1) 41 (.int .i64 8)) ∧ Below w.heap.size w W)
      (SplT.own _ _ _ _ _)
      (OwnFrom.and (Own.from (fun x X Y row hh hg hr => ⟨hh.1, boxed_own _ _ (fun _ : List ByteArray => .slice none 0 0) x X Y row hh.2.1 hg hr, boxed_own _ _ (fun _ : List ByteArray => .int .i64 0) x X Y row hh.2.2.1 hg hr,
        holdsRow_own (w.heap.size + 6) (w.heap.size + 1 + 1) 80 9 1 (fun pre : List ByteArray => pre.length) (fun pre => pre.map Value.string) (fun _ _ => True) x X Y row hh.2.2.2 hg hr⟩) _) (OwnFrom.and (ownFrom_below (Nat.le_refl _) (by omega)) (ownFrom_size _ _)))
      (fun c => OwnFrom.and (Own.from (fun x X Y row hh hg hr => ⟨hh.1, hh.2.1, boxed_own _ _ (fun _ : List ByteArray => .slice none 0 0) x X Y row hh.2.2.1 hg hr, boxed_own _ _ (fun _ : List ByteArray => .int .i64 8) x X Y row hh.2.2.2 hg hr⟩) _) (ownFrom_below (Nat.le_refl _) (by omega)))
      ?closed spl_others (splitW_T s w0)
      ⟨⟨by simp, splitW_box s x0, splitW_box s x1, _, splitW_box s x2, World.ownsRow_nil _ _ _ _, trivial⟩, splitW_below s w0 hB0 (by omega), by omega⟩
      (fun x => { tmps := #[.string s, undef, .pointer (some ⟨w.heap.size, 0, none⟩), .pointer (some ⟨w.heap.size + 1, 0, none⟩), .pointer (some ⟨w.heap.size + 1 + 1, 0, none⟩), .string x, .string s, .int .i64 s.size, .bool false, .string s, splitV w0, .string x, undef, undef, undef, undef, undef, undef, undef, undef], defers := [] }) ?assign ?body ?done ?stop
    case closed =>
      rintro pre A B ⟨u, rfl⟩ ⟨⟨h1, h2, h3, v, h4, h5, _⟩, h6, h7⟩
      exact ⟨⟨h1, h2.other (by omega) _, h3.other (by omega) _, v, h4.other (by omega) _, own_other h5 (by omega), trivial⟩, h6.setCell (p := ⟨w0.heap.size, 0, none⟩) (by simp; omega) _, Nat.le_trans h7 (KeepsOthers.setCell _ _ _).size⟩
    case assign =>
      intro l x W K hK
      gi_wp2
      exact hK
    case body =>
      rintro l pre x W hx ⟨⟨h1, h2, h3, v, h4, h5, _⟩, h6, h7⟩ hT
      have hmem : x ∈ Pp.pieces s := hx.subset (by simp)
      have hlen : pre.length + 1 ≤ s.size + 1 := by
        have a := hx.length_le
        have b := Pp.pieces_len s
        simp at a
        omega
      have hxs := Pp.pieces_size s x hmem
      have k := Lib.hid (fun W => name_any x W (by omega))
      by_cases hN : Pp.Nm x
      · rw [decide_eq_true hN] at k
        have hc := h4.cell
        gi_wp2_with (first | (refine ⟨trivial, ?_⟩; gi_at_call 140; refine (CallsIn.inRound l (callsIn_wide.2 (k.out _))).mono ?_; rintro e w' ⟨rfl, rfl⟩) | (gi_at_builtin; refine wpListIn_append_own _ rfl _ _ 80 rfl (w.heap.size + 6) 9 i0 (.string ⟨#[]⟩) 1 16 Tryz.underlying80 hi hz0 hz1 hz2 rfl (by decide) _ _ _ rfl (h5.alloc _) ⟨W.heap.size, 0, none⟩ 1 1 [.string x] rfl rfl (cell_one_new _ _ _) (by simp [Value.oneCell']) (by unfold maxLen; omega) (by omega) (by simp; omega) ?_; intro v' w1 hown' hgrow _; obtain ⟨g', cap', rfl⟩ := ownsRow_succ hown'; obtain ⟨hv1, hv2, hr2, hk2, hb2, ho2, hz2⟩ := box_append (n₁ := w.heap.size) h4 (by decide) h5 (by omega) (by omega) (by omega) hown' hgrow; have hc1 := hv1.cell; have hf1 := hv1.frozen))
        exact ⟨hk2, ⟨ho2 _ _ _ hT.1 (by omega) (by omega), ho2 _ _ _ hT.2.1 (by omega) (by omega), ho2 _ _ _ hT.2.2 (by omega) (by omega)⟩,
          ⟨fun y hy => (List.mem_append.1 hy).elim (h1 y) (fun e => by simp at e; subst e; exact hN), ho2 _ _ _ h2 (by omega) (by omega), ho2 _ _ _ h3 (by omega) (by omega), _, hv2, by simpa using hr2, trivial⟩, h6.trans hb2, by omega⟩
      · rw [decide_eq_false hN] at k
        have hc0 := h2.cell
        have hf0 := h2.frozen
        have hc1 := h3.cell
        have hf1 := h3.frozen
        gi_wp2_with (first | (refine ⟨trivial, ?_⟩; gi_at_call 140; refine (CallsIn.inRound l (callsIn_wide.2 (k.out _))).mono ?_; rintro e w' ⟨rfl, rfl⟩))
        exact ⟨(KeepsOthers.setCell _ _ _).trans (KeepsOthers.setCell _ _ _), ⟨rfl, ⟨x, by simp, hN⟩, (h2.set _).other (by omega) _, (h3.other (by omega) _).set _⟩,
          (h6.setCell (p := ⟨w.heap.size, 0, none⟩) (by simp) _).setCell (p := ⟨w.heap.size + 1, 0, none⟩) (by simp) _⟩
    case done =>
      rintro D W hD ⟨⟨h1, h2, h3, v, h4, h5, _⟩, h6, h7⟩ hK
      obtain ⟨A, c, rfl⟩ := row_slice h5
      have hc2 := h4.cell
      have hc0 := h2.cell
      have hf0 := h2.frozen
      have hc1 := h3.cell
      have hf1 := h3.frozen
      have E := Lib.hid (Pp.parts_yes h300 h1)
      gi_wp2
      have hK' := (KeepsOthers.setCell (W.setCell ⟨w.heap.size, 0, none⟩ (.slice A (Pp.pieces s).length c)) ⟨w.heap.size + 1, 0, none⟩ (.int .i64 0)).same D _ ((KeepsOthers.setCell W ⟨w.heap.size, 0, none⟩ (.slice A (Pp.pieces s).length c)).same D _ hK rfl) rfl
      refine ⟨by simp, .inl ⟨_, _, rfl, run_takeDeferred hK', ?_⟩⟩
      have z0 := ((h2.set (.slice A (Pp.pieces s).length c)).other (B' := w.heap.size + 1) (by omega) (.int .i64 0)).kept (grownBy_putObj' _ D (.deferred none)) (fun e => by cases e; omega)
      have z1 := ((h3.other (B' := w.heap.size) (by omega) (.slice A (Pp.pieces s).length c)).set (.int .i64 0)).kept (grownBy_putObj' _ D (.deferred none)) (fun e => by cases e; omega)
      have zr := ownsRow_putObj (own_other (own_other h5 (B := w.heap.size) (u := .slice A (Pp.pieces s).length c) (by omega)) (B := w.heap.size + 1) (u := .int .i64 0) (by omega)) (.deferred none) hK' rfl
      have zb : Below w.heap.size w _ := ((h6.setCell (p := ⟨w.heap.size, 0, none⟩) (by simp) (.slice A (Pp.pieces s).length c)).setCell (p := ⟨w.heap.size + 1, 0, none⟩) (by simp) (.int .i64 0)).trans (belowK_b (w := w) (Nat.le_refl _) _ D _ (.deferred none) (by omega) hK' rfl rfl)
      have y0 := z0.cell
      have y1 := z1.cell
      refine ⟨.tuple #[.slice A (Pp.pieces s).length c, .int .i64 0], ?_, _, by rw [E.out], by rw [E.out]; exact row_more zr (by omega), zb⟩
      simp [results, Tryz.f116, go_sem, y0, y1]
    case stop =>
      rintro D c pre W hD hp ⟨⟨rfl, hno, h2, h3⟩, h6⟩ hK
      obtain ⟨y, hy, hny⟩ := hno
      have E := Lib.hid (Pp.parts_no (hp.subset hy) hny)
      gi_wp2
      refine ⟨by simp, .inl ⟨_, _, rfl, run_takeDeferred hK, ?_⟩⟩
      have z0 := h2.kept (grownBy_putObj' _ D (.deferred none)) (fun e => by cases e; omega)
      have z1 := h3.kept (grownBy_putObj' _ D (.deferred none)) (fun e => by cases e; omega)
      have y0 := z0.cell
      have y1 := z1.cell
      refine ⟨.tuple #[.slice none 0 0, .int .i64 8], ?_, _, by rw [E.out], by rw [E.out]; exact OS.nil _ _, h6.trans (belowK_b (w := w) (Nat.le_refl _) _ D _ (.deferred none) (by omega) hK rfl rfl)⟩
      simp [results, Tryz.f116, go_sem, y0, y1]
  · have g : (300 : Int) < s.size := by omega
    have e := Lib.hid (Pp.parts_long (s := s) (by omega))
    gi_wp2
    have z0 := (Boxed.new w 80 (.slice none 0 0)).alloc (.cells #[.int .i64 8] 41)
    have z1 := Boxed.new (w.alloc (.cells #[.slice none 0 0] 80)) 41 (.int .i64 8)
    rw [World.size_alloc] at z1
    have y0 := z0.cell
    have y1 := z1.cell
    refine ⟨.tuple #[.slice none 0 0, .int .i64 8], ?_, _, by rw [e.out], by rw [e.out]; exact OS.nil _ _, ((Below.refl _ w).alloc (Nat.le_refl _) _).alloc (by simp) _⟩
    simp [results, Tryz.f116, go_sem, y0, y1]
end Go.Proofs.YthgbncpiehcghaaGreatDoor
/- WALKS OF LAYER 4, FIFTH PART: whether a text is a path; the reference's Cut and Parts. -/
namespace Go.Proofs.YthgbncpiehcghaaGreatDoor
set_option linter.unusedVariables false
open Go Go.RowKit Go.Shelf
set_option maxHeartbeats 1000000
set_option maxRecDepth 100000
/-- The slice value '.slice A n c' reads as the texts xs, in a block below B. -/
def RT (w : World) (B : Nat) (A : Option Addr) (n : Nat) (xs : List ByteArray) : Prop :=
  xs.length = n ∧ (0 < n → ∃ g, A = some ⟨g, 0, none⟩ ∧ g < B ∧ ∀ j x, xs[j]? = some x → w.cell? ⟨g, j, none⟩ = some (.string x))
theorem OS.rt {w : World} {base : Nat} {v : Value} {xs : List ByteArray} (h : OS w base v xs) : ∃ A c, v = .slice A xs.length c ∧ RT w w.heap.size A xs.length xs ∧ xs.length ≤ c ∧ c ≤ maxLen := by
  have hh := h
  rcases h.2 with ⟨rfl, h0⟩ | ⟨g, cap, cur, rfl, hb, hg, hnc, hcm, hcs, htake⟩
  · rw [h0]
    have : xs = [] := List.eq_nil_of_length_eq_zero h0
    subst this
    exact ⟨none, 0, rfl, ⟨rfl, fun h => absurd h (by omega)⟩, Nat.le_refl _, Nat.zero_le _⟩
  · refine ⟨_, cap, rfl, ⟨rfl, fun hn => ⟨g, rfl, (World.ownsRow.lt hh g rfl).2, fun j x hj => ?_⟩⟩, hnc, hcm⟩
    have hjl := (List.getElem?_eq_some_iff.1 hj).1
    rw [World.ownsRow.cellAt hh j (by omega)]
    simp [hj]
theorem RT.below {w w' : World} {B n : Nat} {A : Option Addr} {xs : List ByteArray} (h : RT w B A n xs) (hb : Below B w w') : RT w' B A n xs :=
  ⟨h.1, fun hn => by
    obtain ⟨g, e, hlt, hc⟩ := h.2 hn
    exact ⟨g, e, hlt, fun j x hj => (hb.cell (p := ⟨g, j, none⟩) hlt).trans (hc j x hj)⟩⟩
theorem RT.more {w : World} {B B' n : Nat} {A : Option Addr} {xs : List ByteArray} (h : RT w B A n xs) (hB : B ≤ B') : RT w B' A n xs :=
  ⟨h.1, fun hn => by
    obtain ⟨g, e, hlt, hc⟩ := h.2 hn
    exact ⟨g, e, by omega, hc⟩⟩
theorem RT.at_ {w : World} {B n : Nat} {A : Option Addr} {xs : List ByteArray} (h : RT w B A n xs) {k : Nat} (hk : k < n) : ∃ g x, A = some ⟨g, 0, none⟩ ∧ xs[k]? = some x ∧ w.cell? ⟨g, k, none⟩ = some (.string x) := by
  obtain ⟨g, e, _, hc⟩ := h.2 (by omega)
  have hx : xs[k]? = some (xs[k]'(by have := h.1; omega)) := List.getElem?_eq_getElem _
  exact ⟨g, _, e, hx, hc k _ hx⟩
theorem below_grown1 {w wr w2 : World} {size n : Nat} {e : TypeId} {v : Value} {xs : List Value} {o : Obj} (hb : Below w.heap.size w wr) (ho : wr.ownsRow w.heap.size e size v n xs) (hg : (wr.alloc o).grownBy w2 v.ownBlock) : Below w.heap.size w w2 :=
  (hb.alloc hb.size o).grown hg (by have := hb.size; simp; omega) fun k hk => (World.ownsRow.lt ho k hk).1
set_option maxRecDepth 100000 in
theorem may_any (s : ByteArray) (w : World) (hs : s.size ≤ 1000000) :
    Calls Tryz.prog 128 #[.string s] w fun e w' => e = .returned (.bool ((Pp.partsS s).2 == 0)) ∧ Below w.heap.size w w' := by
  have k := parts_any s w hs
  generalize Pp.partsS s = p at *
  obtain ⟨l, c⟩ := p
  have k := Lib.hid k
  go_enter Tryz.func128, Tryz.ntmps128
  go_wp2_with (go_at_call 116; refine k.out.mono ?_; rintro e w' ⟨v, rfl, ho, hb⟩)
  go_ret
  exact ⟨rfl, hb⟩
set_option maxRecDepth 100000 in
theorem refcut_any (s : ByteArray) (w : World) (hs : s.size ≤ 1000000) :
    Calls Tryz.prog 114 #[.string s] w fun e w' => ∃ v, e = .returned v ∧ OS w' w.heap.size v (Pp.pieces s) ∧ Below w.heap.size w w' := by
  obtain ⟨i0, hi, hz0, hz1, hz2⟩ := info_parts info_str
  have hplen := Pp.pieces_len s
  go_enter Tryz.func114, Tryz.ntmps114
  go_wp2
  go_loopw [3, 4, 5] (fun v f i wr => ∃ (pre : List ByteArray) (a k : Nat), f = .int .i64 a ∧ i = .int .i64 k ∧ a ≤ k ∧ k ≤ s.size ∧ Hid (Pp.pieces s = pre ++ Pp.pieces (s.extract a s.size)) ∧ Hid (k ≤ a + Pp.fi (s.extract a s.size)) ∧ OS wr w.heap.size v pre ∧ Below w.heap.size w wr)
    (fun _ _ i _ => s.size - (intOf i).toNat)
  case atStart => exact ⟨[], 0, 0, rfl, rfl, Nat.le_refl _, Nat.zero_le _, by show _ = _; rw [Pp.ext_all]; rfl, Nat.zero_le _, OS.nil _ _, Below.refl _ _⟩
  case round =>
    obtain ⟨pre, a, k, rfl, rfl, hak, hk, HP, HF, ho, hb⟩ := hrel
    have hpl : pre.length ≤ s.size := by
      have := congrArg List.length HP.out
      have h1 : 0 < (Pp.pieces (s.extract a s.size)).length := List.length_pos_iff.2 (Pp.pieces_ne _)
      simp at this
      omega
    obtain ⟨A, c, rfl, _, _, _⟩ := ho.rt
    by_cases h1 : k < s.size
    · have h1' : (k : Int) < s.size := by omega
      by_cases h2 : s[k] = 47
      · have g : ((s[k].toNat : Int) == 47) = true := by rw [h2]; rfl
        have hn := Pp.cut_hit hak h1 HF.out h2
        have HN : Hid (Pp.pieces s = (pre ++ [s.extract a k]) ++ Pp.pieces (s.extract (k + 1) s.size)) := by
          show _ = _
          rw [HP.out, hn]; simp
        have ho' := Lib.hid ho
        clear h2 hn
        go_wp2_with (at_builtin; refine wpList_append_own _ rfl _ _ 80 rfl w.heap.size 9 i0 (.string ⟨#[]⟩) 1 16 Tryz.underlying80 hi hz0 hz1 hz2 rfl (by decide) _ _ _ rfl (ho'.out.alloc _) ⟨wr.heap.size, 0, none⟩ 1 1 [.string (s.extract a k)] rfl rfl (cell_one_new _ _ _) (by simp [Value.oneCell']) (by unfold maxLen; omega) (by omega) (by have := hb.size; simp; omega) ?_; intro v2 w2 hown2 hgrow2 _)
        go_roundw
        case rel => exact ⟨pre ++ [s.extract a k], k + 1, k + 1, by go_num, by go_num, Nat.le_refl _, by omega, HN, Nat.le_add_right _ _, by unfold OS; simpa using hown2, below_grown1 hb ho'.out hgrow2⟩
        case measure => simp [intOf]; omega
      · have g : ((s[k].toNat : Int) == 47) = false := Pp.ne_byte h2
        have hn := Lib.hid (Pp.cut_miss hak h1 HF.out h2)
        clear h2
        go_wp2
        go_roundw
        case rel => exact ⟨pre, a, k + 1, rfl, by go_num, by omega, by omega, HP, hn, ho, hb⟩
        case measure => simp [intOf]; omega
    · have e : k = s.size := by omega
      subst e
      have hn := Pp.cut_end hak HF.out
      have HN : Hid (Pp.pieces s = pre ++ [s.extract a s.size]) := by
        show _ = _
        rw [HP.out, hn]
      have ho' := Lib.hid ho
      clear hn
      go_wp2_with (at_builtin; refine wpList_append_own _ rfl _ _ 80 rfl w.heap.size 9 i0 (.string ⟨#[]⟩) 1 16 Tryz.underlying80 hi hz0 hz1 hz2 rfl (by decide) _ _ _ rfl (ho'.out.alloc _) ⟨wr.heap.size, 0, none⟩ 1 1 [.string (s.extract a s.size)] rfl rfl (cell_one_new _ _ _) (by simp [Value.oneCell']) (by unfold maxLen; omega) (by omega) (by have := hb.size; simp; omega) ?_; intro v2 w2 hown2 hgrow2 _)
      go_ret
      exact ⟨_, rfl, by rw [HN.out]; unfold OS; simpa using hown2, below_grown1 hb ho'.out hgrow2⟩
end Go.Proofs.YthgbncpiehcghaaGreatDoor
