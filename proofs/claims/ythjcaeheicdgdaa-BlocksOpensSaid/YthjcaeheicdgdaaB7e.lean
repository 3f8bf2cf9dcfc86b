/- WALKS OF LAYER 7, FIFTH PART: slices.Chunk's iterator: its contract. -/
import Derived.Test.YthjcaeheicdgdaaB7d
import Derived.Test.YthjcaeheicdgdaaRf
import Derived.Test.YthjcaeheicdgdaaRb
import Derived.RangeFuncNested
import Derived.RangeFuncBound
import Derived.Shelf.Abstract
import Derived.Shelf.RegionOpen
import Derived.OwnWalkIn
import Derived.TacticsInMore
import Derived.LoopNIn
import Derived.LoopIn
import Derived.Maps.AppendAt
import Derived.Sort.QuietIn
namespace Go.Proofs.Ythjcaeheicdgdaa
open Go Go.RowKit Go.Shelf
attribute [local go_sem] Oper.semAt_some
set_option maxHeartbeats 1000000
set_option linter.unusedVariables false
/-- The iterator's boxes: the bytes; how many come at a time. -/
def ChkT (B0 B1 : Nat) (v : Value) (pre : List Nat) (W : World) : Prop := Boxed W B0 26 v ∧ Boxed W B1 3 (.int .i64 512)
def ChkS (A B : World) : Prop := ∃ m, B = A.drewN m
theorem range_prefix7 {a b : Nat} (h : a ≤ b) : List.range a <+: List.range b := by
  obtain ⟨d, rfl⟩ := Nat.exists_eq_add_of_le h
  rw [List.range_add]
  exact List.prefix_append _ _
set_option maxRecDepth 100000 in
theorem chunk_iter (nn : Nat) (hn : 3 ≤ nn) (B0 B1 : Nat) (A : Option Addr) (b o q n c : Nat) (hA : 0 < q → A = some ⟨b, o, none⟩) (hnq : n = 512 * q) (hc : n ≤ c) (hq : n ≤ 1000000) :
    Gives Fence.wide nn Try.prog 22 #[.pointer (some ⟨B0, 0, none⟩), .pointer (some ⟨B1, 0, none⟩)] (fun k : Nat => #[.slice (some ⟨b, o + 512 * k, none⟩) 512 512]) ChkS (ChkT B0 B1 (.slice A n c)) (List.range q) := by
  intro l J Jx W hJ hT0 h0 hY
  have h1 : 1 ≤ nn := by omega
  refine callsIn_of_wp Try.func22 rfl trivial ?_ rfl
  simp only [Try.ntmps22, List.size_toArray, List.length_cons, List.length_nil, Nat.reduceAdd, Nat.reduceSub, Array.replicate_succ, Array.replicate_zero, List.push_toArray, List.append_toArray, List.nil_append, List.cons_append]
  have HQ := Lib.hid hnq; clear hnq
  gi_wp2
  gi_loopw [4] (fun i wr => ∃ k : Nat, k ≤ q ∧ i = .int .i64 ((512 * k : Nat) : Int) ∧ ChkT B0 B1 (.slice A n c) (List.range k) wr ∧ J (List.range k) wr) (fun i _ => n - (intOf i).toNat)
  case atStart => exact ⟨0, by omega, rfl, hT0, h0⟩
  case round =>
    obtain ⟨k, hk, rfl, hT, hj⟩ := hrel
    obtain ⟨t0, t1⟩ := hT
    have c0 := t0.cell
    have c1 := t1.cell
    have t0' := Lib.hid t0; have t1' := Lib.hid t1
    clear hT0 h0
    obtain ⟨t, ht⟩ : ∃ t : Nat, 512 * k = t := ⟨_, rfl⟩
    rw [ht]
    by_cases hlt : k < q
    · obtain rfl := hA (by omega)
      have htn : t + 512 ≤ n := by have := HQ.out; omega
      have htn' : t < n := by omega
      have htc : t ≤ c := by omega
      have htc2 : t + 512 ≤ c := by omega
      have hmin : (512 : Nat) ≤ n - t := by omega
      have HT := Lib.hid ht; clear ht
      gi_wp2
      gi_quiet (fail)
      rename_i nq
      have hm : min 512 ((n - t : Nat) : Int) = 512 := by omega
      rw [hm]
      have hx : List.range k ++ [k] <+: List.range q := by
        rw [← List.range_succ]
        exact range_prefix7 (by omega)
      obtain ⟨fn, tmps, assign, body, hy, hR⟩ := hY (List.range k) k (wr.drewN nq) hx (hJ _ _ _ ⟨nq, rfl⟩ hj) ⟨t0'.out, t1'.out⟩
      have s1 : IntKind.i64.wrap ((t : Int) + 512) = (t : Int) + 512 := IntWalk.i64_in _ (by omega)
      have s2 : ((t : Int) + 512).toNat = t + 512 := by omega
      have s3 : (0 : Int) ≤ (t : Int) + 512 := by omega
      have s4 : t + 512 - t = 512 := by omega
      have d0 : (wr.drewN nq).cell? ⟨B0, 0, none⟩ = some (.slice (some ⟨b, o, none⟩) n c) := c0
      have hJ' := Lib.hid hJ
      clear hm hY hJ hj hx
      rw [HT.out] at hy
      gi_wp2
      refine hR.mono ?_
      rintro e W3 (⟨rfl, hJ3, u0, u1⟩ | ⟨rfl, hJx3⟩)
      · have d1 := u1.cell
        have e1 : t + 512 = 512 * (k + 1) := by have := HT.out; omega
        have U0 := Lib.hid u0; have U1 := Lib.hid u1
        gi_wp2
        go_roundw
        case rel => exact ⟨k + 1, by omega, by rw [← e1]; go_num, ⟨U0.out, U1.out⟩, by rw [List.range_succ]; exact hJ3⟩
        case measure => simp [intOf]; omega
      · gi_wp2
        refine bodyPost_ret (results_none rfl _ _ _) rfl ?_
        exact ⟨⟨_, rfl⟩, .inr ⟨List.range (k + 1), range_prefix7 (by omega), by rw [List.range_succ]; exact hJx3⟩⟩
    · have e : k = q := by omega
      subst e
      have hte : t = n := by have := HQ.out; omega
      subst hte
      clear ht
      gi_wp2
      go_end0
      exact ⟨⟨_, rfl⟩, .inl hj⟩
end Go.Proofs.Ythjcaeheicdgdaa
