/- WALKS OF LAYER 11, SECOND PART: a row of slices of bytes; the sum of parts, of bytes, and the reference's. -/
import Derived.Test.YtjiafpmcibokbaaC11a
import Derived.Test.YtjiafpmcibokbaaAp
namespace Go.Proofs.Ytjiafpmcibokbaa
open Go.RowKit
set_option maxHeartbeats 400000
set_option maxRecDepth 100000
set_option linter.unusedVariables false
/-- A part: a slice of bytes, and what it reads as. -/
structure Pc where
  A : Option Addr
  n : Nat
  c : Nat
  xs : List Int
/-- THE SLICE VALUE '.slice A m c' READS AS THE PARTS l, all in blocks below B. -/
def PL (w : World) (B : Nat) (A : Option Addr) (m : Nat) (l : List Pc) : Prop :=
  l.length = m ∧ (0 < m → ∃ b o, A = some ⟨b, o, none⟩ ∧ b < B ∧ ∀ j p, l[j]? = some p → w.cell? ⟨b, o + j, none⟩ = some (.slice p.A p.n p.c)) ∧ ∀ p ∈ l, RB w B p.A p.n p.xs ∧ Byt p.xs ∧ p.n ≤ p.c ∧ p.c ≤ maxLen
/-- All their bytes. -/
def flat (l : List Pc) : List Int := (l.map (·.xs)).flatten
theorem flat_snoc (l : List Pc) (p : Pc) : flat (l ++ [p]) = flat l ++ p.xs := by simp [flat]
theorem take_snocP {l : List Pc} {k : Nat} {p : Pc} (h : l[k]? = some p) : l.take (k + 1) = l.take k ++ [p] := by
  rw [List.take_add_one, h]
  rfl
theorem flat_byt : ∀ {l : List Pc}, (∀ p ∈ l, Byt p.xs) → Byt (flat l)
  | [], _ => Byt.nil
  | p :: l, h => by
    show Byt (p.xs ++ flat l)
    exact (h p (by simp)).append (flat_byt fun q hq => h q (by simp [hq]))
section
variable {w w' : World} {B B' m : Nat} {A : Option Addr} {l : List Pc}
theorem PL.below (h : PL w B A m l) (hb : Below B w w') : PL w' B A m l :=
  ⟨h.1, fun hm => by
    obtain ⟨b, o, e, hbB, hc⟩ := h.2.1 hm
    exact ⟨b, o, e, hbB, fun j p hj => (hb.cell (p := ⟨b, o + j, none⟩) hbB).trans (hc j p hj)⟩, fun p hp => ⟨(h.2.2 p hp).1.below hb, (h.2.2 p hp).2⟩⟩
theorem PL.more (h : PL w B A m l) (hB : B ≤ B') : PL w B' A m l :=
  ⟨h.1, fun hm => by
    obtain ⟨b, o, e, hbB, hc⟩ := h.2.1 hm
    exact ⟨b, o, e, by omega, hc⟩, fun p hp => ⟨(h.2.2 p hp).1.more hB, (h.2.2 p hp).2⟩⟩
theorem PL.at_ (h : PL w B A m l) {k : Nat} (hk : k < m) : ∃ p b o, l[k]? = some p ∧ p ∈ l ∧ A = some ⟨b, o, none⟩ ∧ b < B ∧ w.cell? ⟨b, o + k, none⟩ = some (.slice p.A p.n p.c) ∧ RB w B p.A p.n p.xs ∧ Byt p.xs ∧ p.n ≤ p.c ∧ p.c ≤ maxLen := by
  obtain ⟨b, o, e, hbB, hc⟩ := h.2.1 (by omega)
  have hkl : k < l.length := by rw [h.1]; exact hk
  have hp : l[k]? = some l[k] := List.getElem?_eq_getElem hkl
  have hm : l[k] ∈ l := List.getElem_mem hkl
  exact ⟨l[k], b, o, hp, hm, e, hbB, hc k _ hp, h.2.2 _ hm⟩
end
namespace Ck
theorem reg_part {xs : List Int} {k : Nat} (r : Nat) (h : k < xs.length) : reg r (xs.take (k + 1)) = step (reg r (xs.take k)) (xs.getD k 0).toNat := by rw [take_snocI xs k h, reg_snoc]
theorem reg_flat {l : List Pc} {k : Nat} {p : Pc} (r : Nat) (h : l[k]? = some p) : reg r (flat (l.take (k + 1))) = reg (reg r (flat (l.take k))) p.xs := by rw [take_snocP h, flat_snoc, reg_append]
theorem turn_all {r : Nat} (h : r < 4294967296) : bits .xor .u32 IntKind.u32.max (r : Int) = ((4294967295 - r : Nat) : Int) := by
  have := u32_xor_nat 4294967295 r (by omega) h
  rw [Nat.xor_comm, comp h] at this
  exact this
end Ck
theorem of_any (A : Option Addr) (m c : Nat) (l : List Pc) (w : World) (h : PL w w.heap.size A m l) (hm : m ≤ 1000000) :
    Calls Try.prog 55 #[.slice A m c] w fun e w' => e = .returned (.int .u32 (4294967295 - Ck.reg 4294967295 (flat l) : Nat)) ∧ w = w' := by
  have hby : ∀ k, Byt (flat (l.take k)) := fun k => flat_byt fun p hp => (h.2.2 p (List.mem_of_mem_take hp)).2.1
  have HBY := Lib.hid hby; clear hby
  have HL := Lib.hid h.1
  go_enter Try.func55, Try.ntmps55
  go_wp2
  go_loop [3, 10] (fun v i => ∃ k : Nat, k ≤ m ∧ i = .int .i64 k ∧ v = .int .u32 (Ck.reg 4294967295 (flat (l.take k)) : Nat)) (fun _ i => m - (intOf i).toNat)
  case atStart => exact ⟨0, by omega, rfl, rfl⟩
  case round =>
    obtain ⟨k, hk, rfl, rfl⟩ := hrel
    have hR := Ck.reg_lt (r := 4294967295) (HBY.out k) (by omega)
    by_cases hlt : k < m
    · obtain ⟨p, b, o, hp, _, rfl, _, hc, hr, hy, h1, h2⟩ := h.at_ hlt
      have E := Lib.hid (Ck.reg_flat 4294967295 hp)
      clear hp
      generalize Ck.reg 4294967295 (flat (l.take k)) = R at *
      obtain ⟨PA, pn, pc, px⟩ := p
      simp only at hc hr hy h1 h2 E
      have HXL := Lib.hid hr.1
      unfold maxLen at h2
      go_wp2
      go_loop [3, 16] (fun v i => ∃ j : Nat, j ≤ pn ∧ i = .int .i64 j ∧ v = .int .u32 (Ck.reg R (px.take j) : Nat)) (fun _ i => pn - (intOf i).toNat)
      case atStart => exact ⟨0, by omega, rfl, rfl⟩
      case round =>
        obtain ⟨j, hj, rfl, rfl⟩ := hrel
        have hS := Ck.reg_lt (r := R) (Ck.Byt.take hy j) hR
        by_cases hjl : j < pn
        · obtain ⟨pb, po, rfl, _, hcj⟩ := hr.at_ hjl
          have hx := hy j
          have E2 := Lib.hid (Ck.reg_part R (xs := px) (k := j) (by rw [HXL.out]; exact hjl))
          generalize Ck.reg R (px.take j) = S at *
          generalize px.getD j 0 = x at *
          obtain ⟨x, rfl⟩ : ∃ z : Nat, x = (z : Int) := ⟨x.toNat, by omega⟩
          rw [Int.toNat_natCast] at E2
          have st := Lib.hid (step_any S x w hS (by omega))
          go_wp2_with (go_at_call 57; (with_reducible refine st.out.mono ?_); rintro e w' ⟨rfl, rfl⟩)
          go_round
          case rel => exact ⟨j + 1, by omega, by go_num, by rw [E2.out]⟩
          case measure => simp [intOf]; omega
        · have e : j = pn := by omega
          subst e
          rw [List.take_of_length_le (by rw [HXL.out]; exact Nat.le_refl _)] at hS ⊢
          go_wp2
          go_round
          case rel => exact ⟨k + 1, by omega, by go_num, by rw [E.out]⟩
          case measure => simp [intOf]; omega
    · have e : k = m := by omega
      subst e
      rw [List.take_of_length_le (by rw [HL.out]; exact Nat.le_refl _)] at hR ⊢
      obtain ⟨R, hR0⟩ : ∃ R, Ck.reg 4294967295 (flat l) = R := ⟨_, rfl⟩
      rw [hR0] at hR ⊢
      have t := Ck.turn_all hR
      have E := Lib.hid hR0
      clear hR0
      go_wp2
      go_ret
      exact ⟨by rw [E.out]; rfl, rfl⟩
theorem sum_any (A : Option Addr) (n c : Nat) (xs : List Int) (w : World) (ha : RB w w.heap.size A n xs) (hy : Byt xs) (hn : n ≤ c) (hc : c ≤ maxLen) :
    Calls Try.prog 47 #[.slice A n c] w fun e w' => e = .returned (.int .u32 (Ck.sum xs : Nat)) ∧ Below w.heap.size w w' := by
  obtain ⟨W, hW⟩ : ∃ W, w.alloc (.cells #[.slice A n c] 28) = W := ⟨_, rfl⟩
  have hb : Below w.heap.size w W := by rw [← hW]; exact (Below.refl _ w).alloc (Nat.le_refl _) _
  have hs : w.heap.size < W.heap.size := by rw [← hW]; simp
  have hrow : W.heap[w.heap.size]? = some (.cells #[.slice A n c] 28 (0, 0)) := by rw [← hW]; exact heap_alloc_new _ _
  have hp : PL W W.heap.size (some ⟨w.heap.size, 0, none⟩) 1 [⟨A, n, c, xs⟩] :=
    ⟨rfl, fun _ => ⟨w.heap.size, 0, rfl, hs, fun j p hj => by
      obtain rfl : j = 0 := by have := (List.getElem?_eq_some_iff.1 hj).1; simp at this; omega
      obtain rfl : p = ⟨A, n, c, xs⟩ := by simpa using hj.symm
      exact cell_of_row W w.heap.size 0 _ _ _ hrow⟩, fun p hp => by
      obtain rfl : p = ⟨A, n, c, xs⟩ := by simpa using hp
      exact ⟨(ha.below hb).more hb.size, hy, hn, hc⟩⟩
  have o := of_any (some ⟨w.heap.size, 0, none⟩) 1 1 _ W hp (by omega)
  rw [show flat [⟨A, n, c, xs⟩] = xs from by simp [flat]] at o
  have O := Lib.hid o; have HB := Lib.hid hb
  clear o hb hrow hp hs ha
  go_enter Try.func47, Try.ntmps47
  go_wp2_with (go_at_call 55; (with_reducible refine O.out.mono ?_); rintro e w' ⟨rfl, rfl⟩)
  go_ret
  exact ⟨rfl, HB.out⟩
theorem refsum_any (A : Option Addr) (n c : Nat) (xs : List Int) (w : World) (ha : RB w w.heap.size A n xs) (hy : Byt xs) (hn : n ≤ 1000000) :
    Calls Try.prog 33 #[.slice A n c] w fun e w' => e = .returned (.int .u32 (Ck.sum xs : Nat)) ∧ w = w' := by
  have HXL := Lib.hid ha.1
  go_enter Try.func33, Try.ntmps33
  go_wp2
  go_loop [3, 4] (fun v i => ∃ j : Nat, j ≤ n ∧ i = .int .i64 j ∧ v = .int .u32 (Ck.reg 4294967295 (xs.take j) : Nat)) (fun _ i => n - (intOf i).toNat)
  case atStart => exact ⟨0, by omega, rfl, rfl⟩
  case round =>
    obtain ⟨j, hj, rfl, rfl⟩ := hrel
    have hS := Ck.reg_lt (r := 4294967295) (Ck.Byt.take hy j) (by omega)
    by_cases hjl : j < n
    · obtain ⟨pb, po, rfl, _, hcj⟩ := ha.at_ hjl
      have hx := hy j
      have E2 := Lib.hid (Ck.reg_part 4294967295 (xs := xs) (k := j) (by rw [HXL.out]; exact hjl))
      generalize Ck.reg 4294967295 (xs.take j) = S at *
      generalize xs.getD j 0 = x at *
      obtain ⟨x, rfl⟩ : ∃ z : Nat, x = (z : Int) := ⟨x.toNat, by omega⟩
      rw [Int.toNat_natCast] at E2
      have st := Lib.hid (refstep_any S x w hS (by omega))
      go_wp2_with (go_at_call 50; (with_reducible refine st.out.mono ?_); rintro e w' ⟨rfl, rfl⟩)
      go_round
      case rel => exact ⟨j + 1, by omega, by go_num, by rw [E2.out]⟩
      case measure => simp [intOf]; omega
    · have e : j = n := by omega
      subst e
      rw [List.take_of_length_le (by rw [HXL.out]; exact Nat.le_refl _)] at hS ⊢
      have E : Hid (Ck.sum xs = 4294967295 - Ck.reg 4294967295 xs) := rfl
      generalize Ck.reg 4294967295 xs = R at *
      have t : IntKind.u32.wrap (4294967295 - (R : Int)) = ((4294967295 - R : Nat) : Int) := by rw [IntKind.wrap_u32']; omega
      go_wp2
      go_ret
      exact ⟨by rw [E.out]; rfl, rfl⟩
end Go.Proofs.Ytjiafpmcibokbaa
