/- WALKS OF LAYER 4, THIRD PART: strings.SplitSeq at a slash: the iterator's contract. -/
import Derived.Test.YtbianfjennnofaaDoorY4a
import Derived.Test.YtbianfjennnofaaDoorRf
import Derived.Test.YtbianfjennnofaaDoorRb
import Derived.RangeFuncNested
import Derived.RangeFuncBound
import Derived.Shelf.Abstract
import Derived.Shelf.RegionOpen
import Derived.OwnWalkIn
import Derived.TacticsInMore
import Derived.LoopNIn
import Derived.LoopIn
import Derived.Maps.AppendAt
namespace Go.Proofs.YtbianfjennnofaaDoor
set_option linter.unusedVariables false
open Go Go.RowKit Go.Shelf
attribute [local go_sem] Oper.semAt_some
set_option maxHeartbeats 1000000
set_option maxRecDepth 100000
/-- The iterator's boxes: what is left of the text; what parts it; how much of that is kept. -/
def SplT (B0 B1 B2 : Nat) (s : ByteArray) (pre : List ByteArray) (W : World) : Prop :=
  Boxed W B0 9 (.string (Pp.rest pre.length s)) ∧ Boxed W B1 9 (.string ⟨#[47]⟩) ∧ Boxed W B2 3 (.int .i64 0)
def SplS (B0 : Nat) (A B : World) : Prop := ∃ v, B = A.setCell ⟨B0, 0, none⟩ v
/-- How much is left, read off the world: the loop's measure. -/
def leftAt (B0 : Nat) (W : World) : Nat := match W.cell? ⟨B0, 0, none⟩ with
  | some (.string r) => r.size
  | _ => 0
theorem leftAt_eq {B0 : Nat} {W : World} {t : TypeId} {r : ByteArray} (h : Boxed W B0 t (.string r)) : leftAt B0 W = r.size := by unfold leftAt; rw [h.cell]
set_option maxRecDepth 100000 in
theorem split_iter (n : Nat) (hn : 3 ≤ n) (B0 B1 B2 : Nat) (s : ByteArray) (hs : s.size ≤ 1000000) (h01 : B0 ≠ B1) (h02 : B0 ≠ B2) :
    Gives Fence.wide n Tryd.prog 70 #[.pointer (some ⟨B1, 0, none⟩), .pointer (some ⟨B0, 0, none⟩), .pointer (some ⟨B2, 0, none⟩)] (fun x : ByteArray => #[.string x]) (SplS B0) (SplT B0 B1 B2 s) (Pp.pieces s) := by
  intro l J Jx W hJ hT0 h0 hY
  have h1 : 1 ≤ n := by omega
  have hc0 := hT0.1.cell
  have hc1 := hT0.2.1.cell
  have hc2 := hT0.2.2.cell
  refine callsIn_of_wp Tryd.func70 rfl trivial ?_ rfl
  simp only [Tryd.ntmps70, List.size_toArray, List.length_cons, List.length_nil, Nat.reduceAdd, Nat.reduceSub, Array.replicate_succ, Array.replicate_zero, List.push_toArray, List.append_toArray, List.nil_append, List.cons_append]
  gi_wp2
  gi_loopw [7] (fun _ wr => ∃ pre : List ByteArray, Pp.pieces s = pre ++ Pp.pieces (Pp.rest pre.length s) ∧ SplT B0 B1 B2 s pre wr ∧ J pre wr) (fun _ wr => leftAt B0 wr)
  case atStart => exact ⟨[], by simp [Pp.rest], hT0, h0⟩
  case round =>
    obtain ⟨pre, hp, hT, hj⟩ := hrel
    obtain ⟨t0, t1, t2⟩ := hT
    have c0 := t0.cell
    have c1 := t1.cell
    have c2 := t2.cell
    have hrl := Pp.rest_le pre.length s
    have t0' := Lib.hid t0; have t1' := Lib.hid t1; have t2' := Lib.hid t2
    have HP := Lib.hid hp; clear hp hc0 hc1 hc2 hT0 h0
    generalize hr : Pp.rest pre.length s = r at *
    have hle := Pp.fi_le r
    by_cases h : Pp.fi r < r.size
    · have hx : pre ++ [Pp.hd r] <+: Pp.pieces s := by
        rw [HP.out, Pp.pieces_more r h]
        exact ⟨Pp.pieces (Pp.tl r), by simp⟩
      obtain ⟨fn, tmps, assign, body, hy, hR⟩ := hY pre (Pp.hd r) wr hx hj (by unfold SplT; rw [hr]; exact ⟨t0'.out, t1'.out, t2'.out⟩)
      have hnext : Hid (Pp.pieces s = (pre ++ [Pp.hd r]) ++ Pp.pieces (Pp.rest (pre ++ [Pp.hd r]).length s)) := by
        show _ = _
        rw [HP.out, Pp.pieces_more r h]
        simp [Pp.rest, hr]
      have hrest : Hid (Pp.rest (pre ++ [Pp.hd r]).length s = Pp.tl r) := by
        show _ = _
        simp [Pp.rest, hr]
      have hlt := Pp.tl_lt r h
      have k := Lib.hid (fun W => index_any r W)
      unfold Pp.ix at k
      rw [if_pos h] at k
      have HR := Lib.hid hr; clear hr hx
      unfold Pp.hd at hy
      have s1 : IntKind.i64.wrap ((Pp.fi r : Int) + 1) = (Pp.fi r : Int) + 1 := IntWalk.i64_in _ (by omega)
      have s2 : ((Pp.fi r : Int) + 1).toNat = Pp.fi r + 1 := by omega
      have s3 : (0 : Int) ≤ (Pp.fi r : Int) + 1 := by omega
      have s4 : Pp.fi r + 1 ≤ r.size := by omega
      gi_wp2_with (refine ⟨trivial, ?_⟩; gi_at_call 72; refine (callsIn_wide.2 (k.out _)).mono ?_; rintro e w' ⟨rfl, rfl⟩)
      refine hR.mono ?_
      rintro e W3 (⟨rfl, hJ3, u0, u1, u2⟩ | ⟨rfl, hJx3⟩)
      · rw [HR.out] at u0
        have d0 := u0.cell
        have d1 := u1.cell
        have f0 := u0.frozen
        have hst := Lib.hid (hJ (pre ++ [Pp.hd r]) W3 _ ⟨.string (r.extract (Pp.fi r + 1) r.size), rfl⟩ hJ3)
        have v0 := u0.set (.string (r.extract (Pp.fi r + 1) r.size))
        have v1 := box_other (v' := .string (r.extract (Pp.fi r + 1) r.size)) u1 h01.symm
        have v2 := box_other (v' := .string (r.extract (Pp.fi r + 1) r.size)) u2 h02.symm
        gi_wp2
        go_roundw
        case rel => exact ⟨pre ++ [Pp.hd r], hnext.out, ⟨by rw [hrest.out]; exact v0, v1, v2⟩, hst.out⟩
        case measure => rw [leftAt_eq v0, leftAt_eq t0'.out]; exact hlt
      · gi_wp2
        refine bodyPost_ret (results_none rfl _ _ _) rfl ?_
        exact ⟨⟨_, rfl⟩, .inr ⟨pre ++ [Pp.hd r], ⟨Pp.pieces (Pp.rest (pre ++ [Pp.hd r]).length s), hnext.out.symm⟩, hJx3⟩⟩
    · have hx : pre ++ [r] <+: Pp.pieces s := by
        rw [HP.out, Pp.pieces_last r h]
        exact List.prefix_refl _
      obtain ⟨fn, tmps, assign, body, hy, hR⟩ := hY pre r wr hx hj (by unfold SplT; rw [hr]; exact ⟨t0'.out, t1'.out, t2'.out⟩)
      have hall : Hid (Pp.pieces s = pre ++ [r]) := by
        show _ = _
        rw [HP.out, Pp.pieces_last r h]
      have k := Lib.hid (fun W => index_any r W)
      unfold Pp.ix at k
      rw [if_neg h] at k
      have HR := Lib.hid hr; clear hr hx
      gi_wp2_with (refine ⟨trivial, ?_⟩; gi_at_call 72; refine (callsIn_wide.2 (k.out _)).mono ?_; rintro e w' ⟨rfl, rfl⟩)
      refine hR.mono ?_
      rintro e W3 (⟨rfl, hJ3, _⟩ | ⟨rfl, hJx3⟩)
      · gi_wp2
        go_end0
        exact ⟨⟨_, rfl⟩, .inl (by rw [hall.out]; exact hJ3)⟩
      · gi_wp2
        go_end0
        exact ⟨⟨_, rfl⟩, .inr ⟨_, by rw [hall.out]; exact List.prefix_refl _, hJx3⟩⟩
end Go.Proofs.YtbianfjennnofaaDoor
