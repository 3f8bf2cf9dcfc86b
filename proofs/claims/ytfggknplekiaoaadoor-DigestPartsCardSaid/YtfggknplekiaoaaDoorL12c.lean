/- THE LAW 'DigestParts' walked: what stands in memory. -/
import Derived.Test.YtfggknplekiaoaaDoorL12a
import Derived.Test.YtfggknplekiaoaaDoorPl
import Derived.Test.YtfggknplekiaoaaDoorAp
namespace Go.Proofs.YtfggknplekiaoaaDoor
open Go Go.RowKit
set_option maxHeartbeats 8000000
set_option maxRecDepth 100000
set_option linter.unusedVariables false
theorem flat_len {l : List Pc} {k : Nat} (h : ∀ p ∈ l.take k, p.xs.length ≤ 300) : (flat (l.take k)).length ≤ 300 * k := by
  have : ∀ l : List Pc, (∀ p ∈ l, p.xs.length ≤ 300) → (flat l).length ≤ 300 * l.length := fun l => by
    induction l with
    | nil => intro _; exact Nat.le_refl _
    | cons p l ih =>
      intro h
      have h1 := ih fun q hq => h q (by simp [hq])
      have h2 := h p (by simp)
      have e : flat (p :: l) = p.xs ++ flat l := by simp [flat]
      rw [e, List.length_append, List.length_cons]
      omega
  have h1 := this (l.take k) h
  have h2 : (l.take k).length ≤ k := by rw [List.length_take]; omega
  omega
theorem OBn.oth {w w' : World} {Z base n : Nat} {e : TypeId} {v : Value} {xs : List Int} (h : OBn w base e v n xs) (ho : Oth Z w w') (hz : Z < base) : OBn w' base e v n xs :=
  h.kept fun k hk => by
    have := World.ownsRow.lt h k hk
    exact ho.2.2.2.2 k this.2 (by omega)
/-- A STATE of the bytes Y at Z, beside a row v of the bytes X. -/
structure Dp (w W : World) (Z : Nat) (v : Value) (X Y : List Int) : Prop where
  b : Below w.heap.size w W
  s : SX W Z (Dg.sw Y).l (Dg.rest Y) Y.length
  o : OBn W (Z + 1) 5 v X.length X
  hz : w.heap.size ≤ Z
  bx : Byt X
  byy : Byt Y
section
variable {w W W' : World} {Z : Nat} {v : Value} {X Y : List Int}
theorem Dp.later (h : Dp w W Z v X Y) (hb : Below W.heap.size W W') : Dp w W' Z v X Y := ⟨bthen h.b hb, h.s.later hb, h.o.later hb, h.hz, h.bx, h.byy⟩
theorem Dp.drewN (h : Dp w W Z v X Y) (n : Nat) : Dp w (W.drewN n) Z v X Y := h.later (below_drewN (Below.refl _ _) n)
theorem dp_write (kt : KT w) (h : Dp w W Z v X Y) {A : Option Addr} {n c : Nat} {ys : List Int} (hr : RB w w.heap.size A n ys) (hy : Byt ys) (hc : n ≤ c) (hc2 : c ≤ maxLen) (hn : Y.length + n ≤ 100000) :
    Calls Tryd.prog 10 #[.pointer (some ⟨Z, 0, none⟩), .slice A n c] W fun e w' => e = .returned (.tuple #[]) ∧ Dp w w' Z v X (Y ++ ys) :=
  (write_any Z A n c Y ys W (fun W' ho => kt.on (h.b.trans (ho.below h.hz h.b.size))) h.s h.byy (RN.of (hr.below h.b) h.hz h.b.size) hy hc hc2 hn).mono fun e w' ⟨h1, h2, h3⟩ =>
    ⟨h1, h.b.trans (h3.below h.hz h.b.size), h2, h.o.oth h3 (by omega), h.hz, h.bx, h.byy.append hy⟩
theorem dp_sum (kt : KT w) (h : Dp w W Z v X Y) (hn : Y.length ≤ 90000) :
    Calls Tryd.prog 11 #[.pointer (some ⟨Z, 0, none⟩)] W fun e w' => e = .returned (.agg ((Dg.of Y).map vb).toArray) ∧ Dp w w' Z v X Y :=
  (sum_any Y W (kt.on h.b) h.s h.byy hn).mono fun e w' ⟨h1, h2⟩ => ⟨h1, h.later h2⟩
theorem dp_len (h : Dp w W Z v X Y) :
    Calls Tryd.prog 12 #[.pointer (some ⟨Z, 0, none⟩)] W fun e w' => e = .returned (.int .u64 Y.length) ∧ W = w' := len_any12 W h.s
theorem dp_of (kt : KT w) (ht : HT w) (h : Dp w W Z v X Y) {A : Option Addr} {n c : Nat} {xs : List Int} (hr : RB W W.heap.size A n xs) (hx : Byt xs) (hc : n ≤ c) (hc2 : c ≤ maxLen) (hn : n ≤ 80000) :
    Calls Tryd.prog 7 #[.slice A n c] W fun e w' => e = .returned (.agg ((Dg.of xs).map vb).toArray) ∧ Dp w w' Z v X Y :=
  (digof_any A n c xs W (kt.on h.b) (ht.on h.b) hr hx hc hc2 hn).mono fun e w' ⟨h1, h2⟩ => ⟨h1, h.later h2⟩
theorem Dp.row (h : Dp w W Z v X Y) : ∃ A c, v = .slice A X.length c ∧ RB W W.heap.size A X.length X ∧ X.length ≤ c ∧ c ≤ maxLen := h.o.slice
/-- The row behind an append. -/
theorem Dp.grown {v' : Value} {xs : List Int} (h : Dp w W Z v X Y) (hx : Byt xs) (ho : OBn W' (Z + 1) 5 v' (X.length + xs.length) (X ++ xs)) (hg : W.grownBy W' v.ownBlock) : Dp w W' Z v' (X ++ xs) Y := by
  have hz := BX.lt h.s.1
  have hb : Below (Z + 1) W W' := below_app (Below.refl _ _) (by omega) h.o hg
  refine ⟨h.b.trans (hb.mono (by have := h.hz; omega)), ⟨BX.below h.s.1 hb (by omega), h.s.2⟩, ?_, h.hz, h.bx.append hx, h.byy⟩
  rw [List.length_append]
  exact ho
end
/-- TWO STATES beside a row. -/
structure Dq (w W : World) (Z Z2 : Nat) (v : Value) (X Y Y2 : List Int) : Prop where
  p : Dp w W Z v X Y
  s : SX W Z2 (Dg.sw Y2).l (Dg.rest Y2) Y2.length
  hz : Z < Z2
  hv : ∀ k, v.ownBlock = some k → k < Z2
  byy : Byt Y2
section
variable {w W W' : World} {Z Z2 : Nat} {v : Value} {X Y Y2 : List Int}
theorem Dq.later (h : Dq w W Z Z2 v X Y Y2) (hb : Below W.heap.size W W') : Dq w W' Z Z2 v X Y Y2 := ⟨h.p.later hb, h.s.later hb, h.hz, h.hv, h.byy⟩
theorem SX.oth {a n : Nat} {wl : List Nat} {rl : List Int} (h : SX W a wl rl n) {b : Nat} (ho : Oth b W W') (hne : a ≠ b) : SX W' a wl rl n := ⟨BX.oth h.1 ho hne, h.2⟩
theorem dp_clone (h : Dp w W Z v X Y) :
    Calls Tryd.prog 13 #[.pointer (some ⟨Z, 0, none⟩)] W fun e w' => e = .returned (.pointer (some ⟨W.heap.size, 0, none⟩)) ∧ Dq w w' Z W.heap.size v X Y Y :=
  (clone_any W h.s).mono fun e w' ⟨h1, h2, h3⟩ => ⟨h1, h.later h3, h2, BX.lt h.s.1, fun k hk => (World.ownsRow.lt h.o k hk).2, h.byy⟩
theorem dq_write1 (kt : KT w) (h : Dq w W Z Z2 v X Y Y2) {A : Option Addr} {n c : Nat} {ys : List Int} (hr : RB w w.heap.size A n ys) (hy : Byt ys) (hc : n ≤ c) (hc2 : c ≤ maxLen) (hn : Y.length + n ≤ 100000) :
    Calls Tryd.prog 10 #[.pointer (some ⟨Z, 0, none⟩), .slice A n c] W fun e w' => e = .returned (.tuple #[]) ∧ Dq w w' Z Z2 v X (Y ++ ys) Y2 :=
  (write_any Z A n c Y ys W (fun W' ho => kt.on (h.p.b.trans (ho.below h.p.hz h.p.b.size))) h.p.s h.p.byy (RN.of (hr.below h.p.b) h.p.hz h.p.b.size) hy hc hc2 hn).mono fun e w' ⟨h1, h2, h3⟩ =>
    ⟨h1, ⟨h.p.b.trans (h3.below h.p.hz h.p.b.size), h2, h.p.o.oth h3 (by omega), h.p.hz, h.p.bx, h.p.byy.append hy⟩, h.s.oth h3 (by have := h.hz; omega), h.hz, h.hv, h.byy⟩
theorem dq_write2 (kt : KT w) (h : Dq w W Z Z2 v X Y Y2) {A : Option Addr} {n c : Nat} {ys : List Int} (hr : RB w w.heap.size A n ys) (hy : Byt ys) (hc : n ≤ c) (hc2 : c ≤ maxLen) (hn : Y2.length + n ≤ 100000) :
    Calls Tryd.prog 10 #[.pointer (some ⟨Z2, 0, none⟩), .slice A n c] W fun e w' => e = .returned (.tuple #[]) ∧ Dq w w' Z Z2 v X Y (Y2 ++ ys) :=
  have hz2 : w.heap.size ≤ Z2 := by have := h.hz; have := h.p.hz; omega
  (write_any Z2 A n c Y2 ys W (fun W' ho => kt.on (h.p.b.trans (ho.below hz2 h.p.b.size))) h.s h.byy (RN.of (hr.below h.p.b) hz2 h.p.b.size) hy hc hc2 hn).mono fun e w' ⟨h1, h2, h3⟩ =>
    ⟨h1, ⟨h.p.b.trans (h3.below hz2 h.p.b.size), h.p.s.oth h3 (by have := h.hz; omega), h.p.o.kept fun k hk => h3.2.2.2.2 k (World.ownsRow.lt h.p.o k hk).2 (Nat.ne_of_lt (h.hv k hk)), h.p.hz, h.p.bx, h.p.byy⟩, h2, h.hz, h.hv, h.byy.append hy⟩
theorem dq_sum1 (kt : KT w) (h : Dq w W Z Z2 v X Y Y2) (hn : Y.length ≤ 90000) :
    Calls Tryd.prog 11 #[.pointer (some ⟨Z, 0, none⟩)] W fun e w' => e = .returned (.agg ((Dg.of Y).map vb).toArray) ∧ Dq w w' Z Z2 v X Y Y2 :=
  (sum_any Y W (kt.on h.p.b) h.p.s h.p.byy hn).mono fun e w' ⟨h1, h2⟩ => ⟨h1, h.later h2⟩
theorem dq_sum2 (kt : KT w) (h : Dq w W Z Z2 v X Y Y2) (hn : Y2.length ≤ 90000) :
    Calls Tryd.prog 11 #[.pointer (some ⟨Z2, 0, none⟩)] W fun e w' => e = .returned (.agg ((Dg.of Y2).map vb).toArray) ∧ Dq w w' Z Z2 v X Y Y2 :=
  (sum_any Y2 W (kt.on h.p.b) h.s h.byy hn).mono fun e w' ⟨h1, h2⟩ => ⟨h1, h.later h2⟩
theorem dq_of (kt : KT w) (ht : HT w) (h : Dq w W Z Z2 v X Y Y2) {A : Option Addr} {n c : Nat} {xs : List Int} (hr : RB W W.heap.size A n xs) (hx : Byt xs) (hc : n ≤ c) (hc2 : c ≤ maxLen) (hn : n ≤ 80000) :
    Calls Tryd.prog 7 #[.slice A n c] W fun e w' => e = .returned (.agg ((Dg.of xs).map vb).toArray) ∧ Dq w w' Z Z2 v X Y Y2 :=
  (digof_any A n c xs W (kt.on h.p.b) (ht.on h.p.b) hr hx hc hc2 hn).mono fun e w' ⟨h1, h2⟩ => ⟨h1, h.later h2⟩
end
end Go.Proofs.YtfggknplekiaoaaDoor
