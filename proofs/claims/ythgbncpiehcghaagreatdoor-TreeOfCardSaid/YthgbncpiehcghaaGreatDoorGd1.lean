/- WALKS OF LAYER 15, FIFTH PART: members held against each other; how many bytes all have. -/
import Derived.Test.YthgbncpiehcghaaGreatDoorG15d
namespace Go.Proofs.YthgbncpiehcghaaGreatDoor
set_option linter.unusedVariables false
open Go Go.RowKit Go.Maps
set_option maxRecDepth 100000
set_option maxHeartbeats 4000000
open Nt (Tr Nd WF Ps Path at_ cnt used txt Mm)
/-- A row whose block's type is not known; a member's bytes likewise. -/
def RowW {α : Type} (C : α → Array Value) (z : Nat) (w : World) (A : Option Addr) (n : Nat) (l : List α) : Prop :=
  l.length = n ∧ (0 < n → ∃ b o, A = some ⟨b, o, none⟩ ∧ b < w.heap.size ∧ ∀ (j : Nat) x, l[j]? = some x → ∀ (i : Nat) u, (C x)[i]? = some u → w.cell? ⟨b, o + j * z + i, none⟩ = some u)
section
variable {α : Type} {C : α → Array Value} {z : Nat} {U : TypeId} {w w' : World} {A : Option Addr} {n : Nat} {l : List α}
theorem RowOf.weak (h : RowOf C z U w A n l) : RowW C z w A n l :=
  ⟨h.1, fun hn => by
    obtain ⟨b, o, e, ⟨cs, fz, hb⟩, hc⟩ := h.2 hn
    exact ⟨b, o, e, lt_of_some hb, hc⟩⟩
theorem RowW.below (h : RowW C z w A n l) (hb : Below w.heap.size w w') : RowW C z w' A n l :=
  ⟨h.1, fun hn => by
    obtain ⟨b, o, e, hlt, hc⟩ := h.2 hn
    exact ⟨b, o, e, Nat.lt_of_lt_of_le hlt hb.size, fun j x hj i v hv => (hb.cell (p := ⟨b, o + j * z + i, none⟩) hlt).trans (hc j x hj i v hv)⟩⟩
theorem RowW.at_ (h : RowW C z w A n l) {j : Nat} (hj : j < n) : ∃ b o x, A = some ⟨b, o, none⟩ ∧ l[j]? = some x ∧ ∀ (i : Nat) u, (C x)[i]? = some u → w.cell? ⟨b, o + j * z + i, none⟩ = some u := by
  obtain ⟨b, o, e, _, hc⟩ := h.2 (by omega)
  have hl : j < l.length := by rw [h.1]; exact hj
  exact ⟨b, o, l[j], e, List.getElem?_eq_getElem hl, hc j _ (List.getElem?_eq_getElem hl)⟩
end
def MmW (w : World) (x : Mm) : Prop := RB w w.heap.size x.2.A x.2.n x.2.xs ∧ x.2.n ≤ x.2.c ∧ x.2.c ≤ maxLen
def MRowW (w : World) (A : Option Addr) (n : Nat) (l : List Mm) : Prop := RowW MmC 8 w A n l ∧ ∀ x ∈ l, MmW w x
theorem MmD.weak {w : World} {x : Mm} (h : MmD w x) : MmW w x := ⟨h.1.rb, h.2⟩
theorem MRow.weak {w : World} {A : Option Addr} {n : Nat} {l : List Mm} (h : MRow w A n l) : MRowW w A n l := ⟨h.1.weak, fun x hx => (h.2 x hx).weak⟩
theorem MmW.below {w w' : World} {x : Mm} (h : MmW w x) (hb : Below w.heap.size w w') : MmW w' x := ⟨(h.1.below hb).more hb.size, h.2⟩
theorem MRowW.below {w w' : World} {A : Option Addr} {n : Nat} {l : List Mm} (h : MRowW w A n l) (hb : Below w.heap.size w w') : MRowW w' A n l := ⟨h.1.below hb, fun x hx => (h.2 x hx).below hb⟩
theorem toList_iff15 (a b : ByteArray) : (a.toList = b.toList) = (a = b) := propext ⟨fun h => by have e := Pp.toList_eq a b; rw [h] at e; simpa using e.symm, fun h => by rw [h]⟩
/-- Are two members the same? -/
def sm (x y : Mm) : Bool := decide (x.1 = y.1) && (decide (x.2.kind = y.2.kind) && (decide (x.2.mode = y.2.mode ∧ x.2.uid = y.2.uid ∧ x.2.gid = y.2.gid ∧ x.2.mtime = y.2.mtime) && (decide (x.2.link = y.2.link) && decide (x.2.xs = y.2.xs))))
theorem sm_iff {x y : Mm} (hx : x.2.xs.length = x.2.n) (hy : y.2.xs.length = y.2.n) : sm x y = true ↔ erm x = erm y := by
  obtain ⟨p, k, m, u, g, t, l, A, n, c, xs⟩ := x
  obtain ⟨p', k', m', u', g', t', l', A', n', c', xs'⟩ := y
  simp only [sm, erm, Nd.er, Bool.and_eq_true, decide_eq_true_eq, Prod.mk.injEq, Nd.mk.injEq]
  simp only at hx hy
  constructor
  · rintro ⟨rfl, rfl, ⟨rfl, rfl, rfl, rfl⟩, rfl, rfl⟩
    subst hx
    subst hy
    simp
  · rintro ⟨rfl, rfl, rfl, rfl, rfl, rfl, rfl, _, _, _, rfl⟩
    simp
theorem msame15 (x y : Mm) (w : World) (hx : MmW w x) (hy : MmW w y) (bx : Byt x.2.xs) (by_ : Byt y.2.xs) :
    Calls Tryz.prog 99 #[.agg (MmC x), .agg (MmC y)] w fun e w' => e = .returned (.bool (sm x y)) ∧ Below w.heap.size w w' := by
  obtain ⟨p, k, m, u, g, t, l, A, n, c, xs⟩ := x
  obtain ⟨p2, k2, m2, u2, g2, t2, l2, A2, n2, c2, ys⟩ := y
  have ceq := fun W (bw : Below w.heap.size w W) => equal_any A A2 n n2 c c2 xs ys W ((hx.1.below bw).more bw.size) ((hy.1.below bw).more bw.size) bx by_
  unfold sm
  simp only
  generalize decide (xs = ys) = be at *
  have CEQ := Lib.hid ceq
  clear ceq hx hy bx by_
  go_enter Tryz.func99, Tryz.ntmps99
  go_wp2_with (go_at_call 132; (with_reducible refine (CEQ.out _ (((Below.refl _ _).alloc (Nat.le_refl _) _).alloc (by simp) _)).mono ?_); rintro e w2 ⟨rfl, rfl⟩)
  all_goals
    go_ret
    refine ⟨ret_bool ?_, ((Below.refl _ _).alloc (Nat.le_refl _) _).alloc (by simp) _⟩
    simp_all [toList_iff15]
theorem same_any15 (A B : Option Addr) (n m c d : Nat) (xs ys : List Int) (w : World) (ha : RB w w.heap.size A n xs) (hb : RB w w.heap.size B m ys) (hn : n ≤ 1000000) :
    Calls Tryz.prog 33 #[.slice A n c, .slice B m d] w fun e w' => e = .returned (.bool (decide (xs = ys))) ∧ Below w.heap.size w w' := by
  by_cases hm : m ≤ 1000000
  · exact same_any A B n m c d xs ys w ha hb hn hm
  · have hxl := ha.1
    have hyl := hb.1
    have g1 : ((n : Int) != (m : Int)) = true := by simp; omega
    have hne2 : xs ≠ ys := fun h => by rw [h] at hxl; omega
    have HXY := Lib.hid hne2
    clear hne2 hxl hyl ha hb
    go_enter Tryz.func33, Tryz.ntmps33
    go_wp2
    go_ret
    exact ⟨ret_bool (by simp [HXY.out]), Below.refl _ _⟩
/-- A member's cells, where they lie. -/
theorem mrow_at {w : World} {A : Option Addr} {n j : Nat} {l : List Mm} (h : RowW MmC 8 w A n l) (hj : j < n) : ∃ b o x, A = some ⟨b, o, none⟩ ∧ l[j]? = some x ∧ ∀ W, Below w.heap.size w W →
    W.cell? ⟨b, o + j * 8, none⟩ = some (.string x.1) ∧ W.cell? ⟨b, o + j * 8 + 1, none⟩ = some (.int .i64 x.2.kind) ∧ W.cell? ⟨b, o + j * 8 + 2, none⟩ = some (.int .i64 x.2.mode) ∧ W.cell? ⟨b, o + j * 8 + 3, none⟩ = some (.int .i64 x.2.uid) ∧ W.cell? ⟨b, o + j * 8 + 4, none⟩ = some (.int .i64 x.2.gid) ∧ W.cell? ⟨b, o + j * 8 + 5, none⟩ = some (.int .i64 x.2.mtime) ∧ W.cell? ⟨b, o + j * 8 + 6, none⟩ = some (.string x.2.link) ∧ W.cell? ⟨b, o + j * 8 + 7, none⟩ = some (.slice x.2.A x.2.n x.2.c) := by
  obtain ⟨b, o, x, e, hx, _⟩ := h.at_ hj
  refine ⟨b, o, x, e, hx, fun W hb => ?_⟩
  obtain ⟨b', o', x', e', hx', hc⟩ := (h.below hb).at_ hj
  rw [e] at e'
  cases e'
  rw [hx] at hx'
  cases hx'
  exact ⟨hc 0 _ rfl, hc 1 _ rfl, hc 2 _ rfl, hc 3 _ rfl, hc 4 _ rfl, hc 5 _ rfl, hc 6 _ rfl, hc 7 _ rfl⟩
/-- How many bytes all have. -/
def byN (l : List Mm) : Nat := (l.map (·.2.n)).sum
theorem byN_take {l : List Mm} {j : Nat} {x : Mm} (h : l[j]? = some x) : byN (l.take (j + 1)) = byN (l.take j) + x.2.n := by
  unfold byN
  rw [List.take_add_one, h, Option.toList_some, List.map_append, List.sum_append]
  simp
theorem byN_le {l : List Mm} (h : ∀ x ∈ l, x.2.n ≤ 1000000) : byN l ≤ l.length * 1000000 := by
  unfold byN
  induction l with
  | nil => simp
  | cons x l ih =>
    have h1 := ih fun y hy => h y (List.mem_cons_of_mem _ hy)
    have h2 := h x (by simp)
    rw [List.map_cons, List.sum_cons, List.length_cons]
    omega
theorem tbytes_any (A : Option Addr) (n c : Nat) (l : List Mm) (w : World) (hr : MRowW w A n l) (hn : n ≤ 1000000) (hd : ∀ x ∈ l, x.2.n ≤ 1000000) :
    Calls Tryz.prog 83 #[.slice A n c] w fun e w' => e = .returned (.int .i64 (byN l : Nat)) ∧ Below w.heap.size w w' := by
  have hl : l.length = n := hr.1.1
  have HR := Lib.hid hr.1
  have HD := Lib.hid hd
  have HL := Lib.hid hl
  clear hr hd hl
  go_enter Tryz.func83, Tryz.ntmps83
  go_wp2
  go_loopw [3, 8] (fun v i W => ∃ j : Nat, j ≤ n ∧ i = .int .i64 j ∧ v = .int .i64 (byN (l.take j) : Nat) ∧ Hid (Below w.heap.size w W)) (fun _ i _ => n - (intOf i).toNat)
  case atStart => exact ⟨0, Nat.zero_le _, rfl, by simp [byN], Below.refl _ _⟩
  case round =>
    obtain ⟨j, hj, rfl, rfl, HB⟩ := hrel
    by_cases hlt : j < n
    · have hlt' : (j : Int) < n := by omega
      obtain ⟨b, o, x, rfl, hx, hc⟩ := mrow_at HR.out hlt
      obtain ⟨z0, z1, z2, z3, z4, z5, z6, z7⟩ := hc _ HB.out
      have ht := byN_take hx
      have hle := byN_le (l := l.take (j + 1)) fun y hy => HD.out y (List.mem_of_mem_take hy)
      rw [List.length_take] at hle
      have hmn : min (j + 1) l.length ≤ 1000000 := by omega
      have hle2 : byN (l.take (j + 1)) ≤ 1000000000000 := by omega
      generalize byN (l.take j) = s at *
      rw [ht] at hle2
      have hbb : ∀ v, Below w.heap.size w (wr.alloc (.cells v 102)) := fun v => bthen HB.out (below_new wr _)
      have HT := Lib.hid ht
      have HBB := Lib.hid hbb
      clear hle hmn ht hbb
      go_wp2
      go_roundw
      case rel =>
        refine ⟨j + 1, by omega, by go_num, ?_, HBB.out _⟩
        rw [HT.out]
        simp
      case measure => simp [intOf]; omega
    · have hlt' : ¬ (j : Int) < n := by omega
      have hjn : j = n := by omega
      subst hjn
      have hall : l.take j = l := by rw [← HL.out]; exact List.take_length
      rw [hall]
      clear hall
      go_wp2
      go_ret
      exact ⟨rfl, HB.out⟩
end Go.Proofs.YthgbncpiehcghaaGreatDoor
/- WALKS OF LAYER 15, SIXTH PART: the first place at which two lists are not the same. -/
namespace Go.Proofs.YthgbncpiehcghaaGreatDoor
set_option linter.unusedVariables false
open Go Go.RowKit Go.Maps
set_option maxRecDepth 100000
set_option maxHeartbeats 4000000
open Nt (Tr Nd WF Ps Path at_ cnt used txt Mm)
/-- The first place at which two lists are not the same. -/
def dif : List Mm → List Mm → ByteArray × Bool
  | [], [] => (⟨#[]⟩, false)
  | [], y :: _ => (y.1, true)
  | x :: _, [] => (x.1, true)
  | x :: a, y :: b => if sm x y = true then dif a b else (x.1, true)
theorem drop_at {α : Type} {l : List α} {j : Nat} {x : α} (h : l[j]? = some x) : l.drop j = x :: l.drop (j + 1) := by
  obtain ⟨hj, rfl⟩ := List.getElem?_eq_some_iff.1 h
  exact List.drop_eq_getElem_cons hj
theorem tdiffer_any (A : Option Addr) (n c : Nat) (A2 : Option Addr) (n2 c2 : Nat) (l l2 : List Mm) (w : World) (hr : MRowW w A n l) (hr2 : MRowW w A2 n2 l2) (hn : n ≤ 1000000) (hn2 : n2 ≤ 1000000) (hb : ∀ x ∈ l, Byt x.2.xs) (hb2 : ∀ x ∈ l2, Byt x.2.xs) :
    Calls Tryz.prog 46 #[.slice A n c, .slice A2 n2 c2] w fun e w' => e = .returned (.tuple #[.string (dif l l2).1, .bool (dif l l2).2]) ∧ Below w.heap.size w w' := by
  have hl : l.length = n := hr.1.1
  have hl2 : l2.length = n2 := hr2.1.1
  have HR := Lib.hid hr
  have HR2 := Lib.hid hr2
  have HL := Lib.hid hl
  have HL2 := Lib.hid hl2
  have HY := Lib.hid hb
  have HY2 := Lib.hid hb2
  obtain ⟨Z, hZ⟩ : ∃ Z, dif l l2 = Z := ⟨_, rfl⟩
  rw [hZ]
  have HZ := Lib.hid hZ
  clear hr hr2 hl hl2 hb hb2 hZ
  go_enter Tryz.func46, Tryz.ntmps46
  go_wp2
  go_loopw [10] (fun i W => ∃ j : Nat, j ≤ n ∧ i = .int .i64 j ∧ Hid (dif (l.drop j) (l2.drop j) = Z) ∧ Hid (Below w.heap.size w W)) (fun i _ => n - (intOf i).toNat)
  case atStart => exact ⟨0, Nat.zero_le _, rfl, HZ.out, Below.refl _ _⟩
  case round =>
    obtain ⟨j, hj, rfl, HD, HB⟩ := hrel
    by_cases hlt : j < n
    · have hlt' : (j : Int) < n := by omega
      obtain ⟨b, o, x, rfl, hx, hc⟩ := mrow_at HR.out.1 hlt
      obtain ⟨z0, z1, z2, z3, z4, z5, z6, z7⟩ := hc _ HB.out
      have hd := HD.out
      rw [drop_at hx] at hd
      by_cases hlt2 : j < n2
      · have g2 : ¬ (n2 : Int) ≤ (j : Int) := by omega
        have hlt2' : (j : Int) < n2 := by omega
        obtain ⟨b2, o2, y, rfl, hy, hc2⟩ := mrow_at HR2.out.1 hlt2
        rw [drop_at hy] at hd
        unfold dif at hd
        have hX := HR.out.2 x (List.mem_of_getElem? hx)
        have hY := HR2.out.2 y (List.mem_of_getElem? hy)
        have KS := Lib.hid (fun W (h : Below w.heap.size w W) => msame15 x y W (hX.below h) (hY.below h) (HY.out x (List.mem_of_getElem? hx)) (HY2.out y (List.mem_of_getElem? hy)))
        have HDD := Lib.hid hd
        have CX := Lib.hid (fun W (h : Below w.heap.size w W) => hc2 W h)
        clear hd hX hY
        have hbb : Below w.heap.size w (wr.alloc (.cells (MmC x) 102)) := bthen HB.out (below_new wr _)
        have HBB := Lib.hid hbb
        obtain ⟨p, k, m, u, g, t, lk, Ax, nx, cx, xs⟩ := x
        obtain ⟨q0, q1, q2, q3, q4, q5, q6, q7⟩ := CX.out _ hbb
        have hbd := (below_new wr (.cells (MmC (p, ⟨k, m, u, g, t, lk, Ax, nx, cx, xs⟩)) 102)).drew
        obtain ⟨r0, r1, r2, r3, r4, r5, r6, r7⟩ := CX.out _ (bthen HB.out hbd)
        have hB := BX.new wr 102 (MmC (p, ⟨k, m, u, g, t, lk, Ax, nx, cx, xs⟩))
        have BOX0 := Lib.hid hB.drew
        have s0 := hB.drew.cell (j := 0) rfl
        have s1 := hB.drew.cell (j := 1) rfl
        have s2 := hB.drew.cell (j := 2) rfl
        have s3 := hB.drew.cell (j := 3) rfl
        have s4 := hB.drew.cell (j := 4) rfl
        have s5 := hB.drew.cell (j := 5) rfl
        have s6 := hB.drew.cell (j := 6) rfl
        have s7 := hB.drew.cell (j := 7) rfl
        have HBD := Lib.hid (bthen HB.out hbd)
        obtain ⟨sv, hsv⟩ : ∃ s, sm (p, ⟨k, m, u, g, t, lk, Ax, nx, cx, xs⟩) y = s := ⟨_, rfl⟩
        rw [hsv] at KS HDD
        clear hB hbd hbb hc hc2 hsv
        go_upto_region 4 with (fail)
        go_region_law (first
          | (go_simp; go_at_call 99; (with_reducible refine (KS.out _ HBD.out).mono ?_); rintro e w2 ⟨rfl, hb2⟩; have HB2 := Lib.hid hb2; have hbx := (BOX0.out).later hb2; have s0 := hbx.cell (j := 0) rfl; clear hbx hb2))
        all_goals
          cases sv with
          | false =>
            have hz := HDD.out
            rw [if_neg (by decide)] at hz
            subst hz
            clear HDD HD HZ
            go_wp2
            go_ret2
            exact ⟨rfl, bthen HBD.out HB2.out⟩
          | true =>
            have hz := HDD.out
            rw [if_pos rfl] at hz
            have HZ2 := Lib.hid hz
            clear hz
            go_wp2
            go_roundw
            case rel => exact ⟨j + 1, by omega, by go_num, HZ2.out, bthen HBD.out HB2.out⟩
            case measure => simp [intOf]; omega
      · have g2 : (n2 : Int) ≤ (j : Int) := by omega
        rw [show l2.drop j = [] from List.drop_of_length_le (by have := HL2.out; omega)] at hd
        unfold dif at hd
        subst hd
        have hbb : Below w.heap.size w (wr.alloc (.cells (MmC x) 102)) := bthen HB.out (below_new wr _)
        obtain ⟨p, k, m, u, g, t, lk, Ax, nx, cx, xs⟩ := x
        have hB := BX.new wr 102 (MmC (p, ⟨k, m, u, g, t, lk, Ax, nx, cx, xs⟩))
        have s0 := hB.drew.cell (j := 0) rfl
        have HBD := Lib.hid (bthen HB.out (below_new wr (.cells (MmC (p, ⟨k, m, u, g, t, lk, Ax, nx, cx, xs⟩)) 102)).drew)
        clear hB hc hbb HD HZ
        go_upto_region 4 with (fail)
        go_region
        all_goals
          go_wp2
          go_ret2
          exact ⟨rfl, HBD.out⟩
    · have hlt' : ¬ (j : Int) < n := by omega
      have hjn : j = n := by omega
      subst hjn
      have hd := HD.out
      rw [show l.drop j = [] from List.drop_of_length_le (by have := HL.out; omega)] at hd
      by_cases hlt2 : j < n2
      · have g2 : (j : Int) < n2 := by omega
        obtain ⟨b2, o2, y, rfl, hy, hc2⟩ := mrow_at HR2.out.1 hlt2
        obtain ⟨q0, _⟩ := hc2 _ HB.out
        rw [drop_at hy] at hd
        unfold dif at hd
        subst hd
        clear hc2 HD HZ
        go_wp2
        go_ret2
        exact ⟨rfl, HB.out⟩
      · have g2 : ¬ (j : Int) < n2 := by omega
        rw [show l2.drop j = [] from List.drop_of_length_le (by have := HL2.out; omega)] at hd
        unfold dif at hd
        subst hd
        clear HD HZ
        go_wp2
        go_ret2
        exact ⟨rfl, HB.out⟩
theorem tsame_any (A : Option Addr) (n c : Nat) (A2 : Option Addr) (n2 c2 : Nat) (l l2 : List Mm) (w : World) (hr : MRowW w A n l) (hr2 : MRowW w A2 n2 l2) (hn : n ≤ 1000000) (hn2 : n2 ≤ 1000000) (hb : ∀ x ∈ l, Byt x.2.xs) (hb2 : ∀ x ∈ l2, Byt x.2.xs) :
    Calls Tryz.prog 38 #[.slice A n c, .slice A2 n2 c2] w fun e w' => e = .returned (.bool (!(dif l l2).2)) ∧ Below w.heap.size w w' := by
  have kd := Lib.hid (tdiffer_any A n c A2 n2 c2 l l2 w hr hr2 hn hn2 hb hb2)
  generalize dif l l2 = Z at *
  obtain ⟨s, d⟩ := Z
  clear hr hr2 hb hb2
  go_enter Tryz.func38, Tryz.ntmps38
  go_wp2_with (go_at_call 46; (with_reducible refine (kd.out).mono ?_); rintro e w2 ⟨rfl, hb2⟩)
  go_ret
  exact ⟨rfl, hb2⟩
end Go.Proofs.YthgbncpiehcghaaGreatDoor
/- WALKS OF LAYER 15, SEVENTH PART: the document's Same, Differ. -/
namespace Go.Proofs.YthgbncpiehcghaaGreatDoor
set_option linter.unusedVariables false
open Go Go.RowKit Go.Maps
set_option maxRecDepth 100000
set_option maxHeartbeats 4000000
open Nt (Tr Nd WF Ps Path at_ cnt used txt Mm)
/-- A row of the document's members. -/
abbrev RMRow (w : World) (A : Option Addr) (n : Nat) (l : List Mm) : Prop := MRowW w A n l
end Go.Proofs.YthgbncpiehcghaaGreatDoor
/- WALKS OF LAYER 15, EIGHTH PART: the document's Same. -/
namespace Go.Proofs.YthgbncpiehcghaaGreatDoor
set_option linter.unusedVariables false
open Go Go.RowKit Go.Maps
set_option maxRecDepth 100000
set_option maxHeartbeats 4000000
open Nt (Tr Nd WF Ps Path at_ cnt used txt Mm)
theorem dif_len : ∀ {l l2 : List Mm}, (dif l l2).2 = false → l.length = l2.length
  | [], [], _ => rfl
  | [], _ :: _, h => by cases h
  | _ :: _, [], h => by cases h
  | x :: a, y :: b, h => by
    unfold dif at h
    by_cases e : sm x y = true
    · rw [if_pos e] at h
      rw [List.length_cons, List.length_cons, dif_len h]
    · rw [if_neg e] at h
      cases h
end Go.Proofs.YthgbncpiehcghaaGreatDoor
/- WALKS OF LAYER 15, NINTH PART: the law's all: the document's members made the program's. -/
namespace Go.Proofs.YthgbncpiehcghaaGreatDoor
set_option linter.unusedVariables false
open Go Go.RowKit Go.Maps
set_option maxRecDepth 100000
set_option maxHeartbeats 4000000
open Nt (Tr Nd WF Ps Path at_ cnt used txt Mm)
theorem take_snoc {α : Type} {l : List α} {j : Nat} {x : α} (h : l[j]? = some x) : l.take (j + 1) = l.take j ++ [x] := by
  rw [List.take_add_one, h, Option.toList_some]
theorem lall_any (A : Option Addr) (n c : Nat) (l : List Mm) (w : World) (hr : RMRow w A n l) (hn : n ≤ 900000) :
    Calls Tryz.prog 39 #[.slice A n c] w fun e w' => ∃ A' c', e = .returned (.slice A' n c') ∧ MRowW w' A' n l ∧ Below w.heap.size w w' := by
  have hl : l.length = n := hr.1.1
  have HR := Lib.hid hr
  have HL := Lib.hid hl
  clear hr hl
  go_enter Tryz.func39, Tryz.ntmps39
  go_wp2
  go_loopw [3, 8] (fun v i W => ∃ j : Nat, j ≤ n ∧ i = .int .i64 j ∧ Hid (W.ownsRow w.heap.size 102 8 v j (rl MmC (l.take j))) ∧ Hid (Below w.heap.size w W)) (fun _ i _ => n - (intOf i).toNat)
  case atStart => exact ⟨0, Nat.zero_le _, rfl, World.ownsRow_nil _ _ _ _, Below.refl _ _⟩
  case round =>
    obtain ⟨j, hj, rfl, HO, HB⟩ := hrel
    have hlj : (l.take j).length = j := by rw [List.length_take, HL.out]; omega
    obtain ⟨Av, cv, rfl, hrow, _, _⟩ := own_rowof MmC_size HO.out hlj
    by_cases hlt : j < n
    · have hlt' : (j : Int) < n := by omega
      obtain ⟨b, o, x, rfl, hx, hc⟩ := mrow_at HR.out.1 hlt
      obtain ⟨z0, z1, z2, z3, z4, z5, z6, z7⟩ := hc _ HB.out
      have HTS := Lib.hid (take_snoc hx)
      have hlt2 : (l.take (j + 1)).length = j + 1 := by rw [List.length_take, HL.out]; omega
      have HLT2 := Lib.hid hlt2
      obtain ⟨p, k, m, u, g, t, lk, Ax, nx, cx, xs⟩ := x
      have b1 := below_new wr (.cells (MmC (p, ⟨k, m, u, g, t, lk, Ax, nx, cx, xs⟩)) 156)
      have b2 := bthen b1 (below_new _ (.cells (MmC (p, ⟨k, m, u, g, t, lk, Ax, nx, cx, xs⟩)) 102))
      have APP := Lib.hid (app_mmN hlj (own_keep13 HO.out fun k hk => b2.block k (World.ownsRow.lt HO.out k hk).2) (rowof_one (C := MmC) (z := 8) (x := (p, ⟨k, m, u, g, t, lk, Ax, nx, cx, xs⟩)) (bx_two15 wr _ 102 (MmC (p, ⟨k, m, u, g, t, lk, Ax, nx, cx, xs⟩)))) 1 (by omega) (Nat.le_trans HB.out.size b2.size))
      have HB2 := Lib.hid (bthen HB.out b2)
      have HLO := Lib.hid (fun (k : Nat) (hk : (Value.slice Av j cv).ownBlock = some k) => (World.ownsRow.lt HO.out k hk).1)
      clear hc b1 b2 hrow hx hlt2 hlj
      go_wp2_with (at_builtin; obtain ⟨v3, w3, hrun, hown3, hgr3, _⟩ := APP.out; refine Lib.wpList_append_run _ rfl _ _ 81 81 rfl _ _ rfl rfl _ _ hrun ?_; have HO3 := Lib.hid hown3; have HB3 := Lib.hid (HB2.out.grown hgr3 HB2.out.size (fun k hk => HLO.out k hk)); clear hrun hown3 hgr3)
      go_roundw
      case rel =>
        refine ⟨j + 1, by omega, by go_num, ?_, HB3.out⟩
        show World.ownsRow _ _ _ _ _ _ _
        rw [HTS.out]
        exact HO3.out
      case measure => simp [intOf]; omega
    · have hlt' : ¬ (j : Int) < n := by omega
      have hjn : j = n := by omega
      subst hjn
      have hall : l.take j = l := by rw [← HL.out]; exact List.take_length
      rw [hall] at hrow
      have HROW := Lib.hid hrow
      clear hall hrow hlj
      go_wp2
      go_ret
      exact ⟨Av, ⟨cv, rfl⟩, ⟨HROW.out.weak, fun x hx => (HR.out.2 x hx).below HB.out⟩, HB.out⟩
end Go.Proofs.YthgbncpiehcghaaGreatDoor
/- WALKS OF LAYER 15, TENTH PART: the first member of a path. -/
namespace Go.Proofs.YthgbncpiehcghaaGreatDoor
set_option linter.unusedVariables false
open Go Go.RowKit Go.Maps
set_option maxRecDepth 100000
set_option maxHeartbeats 4000000
open Nt (Tr Nd WF Ps Path at_ cnt used txt Mm)
theorem bx_set8_15 {w : World} {a : Nat} {T : TypeId} {z0 z1 z2 z3 z4 z5 z6 z7 : Value} (h : BX w a T #[z0, z1, z2, z3, z4, z5, z6, z7]) (v0 v1 v2 v3 v4 v5 v6 v7 : Value) : BX ((((((((w.setCell ⟨a, 0, none⟩ v0).setCell ⟨a, 1, none⟩ v1).setCell ⟨a, 2, none⟩ v2).setCell ⟨a, 3, none⟩ v3).setCell ⟨a, 4, none⟩ v4).setCell ⟨a, 5, none⟩ v5).setCell ⟨a, 6, none⟩ v6).setCell ⟨a, 7, none⟩ v7) a T #[v0, v1, v2, v3, v4, v5, v6, v7] := by
  have h8 := ((((((((((((((((h).set 0 v0)).set 1 v1)).set 2 v2)).set 3 v3)).set 4 v4)).set 5 v5)).set 6 v6)).set 7 v7)
  simpa using h8
/-- The first member of a path. -/
def fm (l : List Mm) (p : ByteArray) : Option Mm := l.find? (fun x => decide (x.1 = p))
def mmz : Mm := (⟨#[]⟩, Nd.zero)
end Go.Proofs.YthgbncpiehcghaaGreatDoor
/- WALKS OF LAYER 15, ELEVENTH PART: Find. -/
namespace Go.Proofs.YthgbncpiehcghaaGreatDoor
set_option linter.unusedVariables false
open Go Go.RowKit Go.Maps
set_option maxRecDepth 100000
set_option maxHeartbeats 4000000
open Nt (Tr Nd WF Ps Path at_ cnt used txt Mm)
end Go.Proofs.YthgbncpiehcghaaGreatDoor
/- WALKS OF LAYER 15, TWELFTH PART: Equal. -/
namespace Go.Proofs.YthgbncpiehcghaaGreatDoor
set_option linter.unusedVariables false
open Go Go.RowKit Go.Maps
set_option maxRecDepth 100000
set_option maxHeartbeats 4000000
open Nt (Tr Nd WF Ps Path at_ cnt used txt Mm)
theorem sm_er {x x' y y' : Mm} (hx : erm x = erm x') (hy : erm y = erm y') : sm x y = sm x' y' := by
  obtain ⟨p, k, m, u, g, t, l, A, n, c, xs⟩ := x
  obtain ⟨p', k', m', u', g', t', l', A', n', c', xs'⟩ := x'
  obtain ⟨q, k2, m2, u2, g2, t2, l2, A2, n2, c2, ys⟩ := y
  obtain ⟨q', k2', m2', u2', g2', t2', l2', A2', n2', c2', ys'⟩ := y'
  simp only [erm, Nd.er, Prod.mk.injEq, Nd.mk.injEq] at hx hy
  obtain ⟨rfl, rfl, rfl, rfl, rfl, rfl, rfl, _, _, _, rfl⟩ := hx
  obtain ⟨rfl, rfl, rfl, rfl, rfl, rfl, rfl, _, _, _, rfl⟩ := hy
  rfl
theorem dif_er : ∀ {a a' b b' : List Mm}, a.map erm = a'.map erm → b.map erm = b'.map erm → dif a b = dif a' b'
  | [], [], [], [], _, _ => rfl
  | [], [], y :: b, y' :: b', _, h => by
    rw [List.map_cons, List.map_cons, List.cons.injEq] at h
    have e := congrArg Prod.fst h.1
    unfold dif
    rw [show y.1 = y'.1 from e]
  | x :: a, x' :: a', [], [], h, _ => by
    rw [List.map_cons, List.map_cons, List.cons.injEq] at h
    have e := congrArg Prod.fst h.1
    unfold dif
    rw [show x.1 = x'.1 from e]
  | x :: a, x' :: a', y :: b, y' :: b', h, h2 => by
    rw [List.map_cons, List.map_cons, List.cons.injEq] at h h2
    have e := congrArg Prod.fst h.1
    unfold dif
    rw [show x.1 = x'.1 from e, sm_er h.1 h2.1, dif_er h.2 h2.2]
  | [], x :: a, _, _, h, _ => by cases h
  | x :: a, [], _, _, h, _ => by cases h
  | _, _, [], y :: b, _, h => by cases h
  | _, _, y :: b, [], _, h => by cases h
section
variable {K : Nat} {T : Tr}
theorem ofL_len (hW : WF T K) (p : ByteArray) : (Nt.ofL T p).length ≤ K := by
  unfold Nt.ofL
  split
  · rw [Nt.mms_len]
    unfold Nt.srt
    rw [Nt.insAll_len]
    exact Nat.le_trans (List.length_filterMap_le _ _) hW.many
  · exact Nat.zero_le _
theorem bok_nd (hX : Nt.Bok T) (n : Nat) : Byt (T.nd n).xs := by
  by_cases h : n < T.nodes.length
  · exact hX.nd h
  · unfold Tr.nd
    simp only [List.getD, List.getElem?_eq_none (Nat.le_of_not_lt h), Option.getD_none]
    exact Byt.nil
theorem ofL_byt (hX : Nt.Bok T) (p : ByteArray) : ∀ x ∈ Nt.ofL T p, Byt x.2.xs := by
  intro x hx
  unfold Nt.ofL at hx
  split at hx
  · obtain ⟨i, hi, rfl⟩ := List.getElem_of_mem hx
    have h1 : i < (Nt.srt T.paths (Nt.nms p)).length := by rw [Nt.mms_len] at hi; exact hi
    have h2 := Nt.mms_at (T := T) (List.getElem?_eq_getElem h1)
    rw [List.getElem?_eq_getElem hi, Option.some.injEq] at h2
    rw [h2]
    unfold Nt.mm
    split
    · exact Byt.nil
    · exact bok_nd hX _
  · cases hx
theorem byt_er {L L' : List Mm} (h : L.map erm = L'.map erm) (hb : ∀ x ∈ L', Byt x.2.xs) : ∀ x ∈ L, Byt x.2.xs := by
  intro x hx
  have h1 : erm x ∈ L'.map erm := by rw [← h]; exact List.mem_map.2 ⟨x, hx, rfl⟩
  obtain ⟨y, hy, e⟩ := List.mem_map.1 h1
  have e2 := congrArg (fun z : Mm => z.2.xs) e
  have e3 : y.2.xs = x.2.xs := e2
  rw [← e3]
  exact hb y hy
end
/-- Have two trees the same list? -/
def eqv (T : Tr) (p : ByteArray) (U : Tr) (q : ByteArray) : Bool := if Nt.ofE T p ≠ 0 then false else if Nt.ofE U q ≠ 0 then false else !(dif (Nt.ofL T p) (Nt.ofL U q)).2
theorem equal15 {F G : Nat → Prop} {K K2 tb ub : Nat} {w : World} {T U : Tr} {ad mb ad2 mb2 : Nat → Nat} (hW : WF T K) (hK : K ≤ 90000) (hT : Nt.Mok T) (hX : Nt.Bok T) (hR : RepP F K w tb T ad mb) (hW2 : WF U K2) (hK2 : K2 ≤ 90000) (hT2 : Nt.Mok U) (hX2 : Nt.Bok U) (hR2 : RepP G K2 w ub U ad2 mb2) (p q : ByteArray) (hp : p.size ≤ 100000) (hq : q.size ≤ 100000) :
    Calls Tryz.prog 43 #[.pointer (some ⟨tb, 0, none⟩), .string p, .pointer (some ⟨ub, 0, none⟩), .string q] w fun e w' => e = .returned (.bool (eqv T p U q)) ∧ Below w.heap.size w w' := by
  have k1 := Lib.hid (of_any hW hK hT hX hR p hp)
  have k2 := Lib.hid (fun W (h : Below w.heap.size w W) => of_any hW2 hK2 hT2 hX2 (hR2.later h) q hq)
  have D := fun (L L2 : List Mm) (h : L.map erm = (Nt.ofL T p).map erm) (h2 : L2.map erm = (Nt.ofL U q).map erm) => dif_er h h2
  have B1 := fun (L : List Mm) (h : L.map erm = (Nt.ofL T p).map erm) => byt_er h (ofL_byt hX p)
  have B2 := fun (L : List Mm) (h : L.map erm = (Nt.ofL U q).map erm) => byt_er h (ofL_byt hX2 q)
  have N1 : ∀ L : List Mm, L.map erm = (Nt.ofL T p).map erm → L.length ≤ 1000000 := fun L h => by
    have h1 := congrArg List.length h
    have h2 := ofL_len hW p
    rw [List.length_map, List.length_map] at h1
    omega
  have N2 : ∀ L : List Mm, L.map erm = (Nt.ofL U q).map erm → L.length ≤ 1000000 := fun L h => by
    have h1 := congrArg List.length h
    have h2 := ofL_len hW2 q
    rw [List.length_map, List.length_map] at h1
    omega
  unfold eqv
  have KS := Lib.hid (fun (A : Option Addr) (c : Nat) (L : List Mm) (A2 : Option Addr) (c2 : Nat) (L2 : List Mm) (W : World) (h : L.map erm = (Nt.ofL T p).map erm) (h2 : L2.map erm = (Nt.ofL U q).map erm) (hr : MRow W A L.length L) (hr2 : MRow W A2 L2.length L2) => show Calls Tryz.prog 38 #[.slice A L.length c, .slice A2 L2.length c2] W fun e w' => e = .returned (.bool (!(dif (Nt.ofL T p) (Nt.ofL U q)).2)) ∧ Below W.heap.size W w' by
    have h5 := tsame_any A L.length c A2 L2.length c2 L L2 W hr.weak hr2.weak (N1 L h) (N2 L2 h2) (B1 L h) (B2 L2 h2)
    rw [D L L2 h h2] at h5
    exact h5)
  generalize (dif (Nt.ofL T p) (Nt.ofL U q)).2 = d at *
  generalize Nt.ofE T p = z1 at *
  generalize Nt.ofE U q = z2 at *
  clear D B1 B2 N1 N2 hW hT hX hR hW2 hT2 hX2 hR2
  by_cases h1 : z1 = 0
  · subst h1
    rw [if_neg (by simp)]
    by_cases h2 : z2 = 0
    · subst h2
      rw [if_neg (by simp)]
      go_enter Tryz.func43, Tryz.ntmps43
      go_wp2_with (first
        | (go_at_call 38; (with_reducible refine (KS.out _ _ _ _ _ _ _ HL1.out HL2.out (HM1.out.below hb3) hm2).mono ?_); rintro e w4 ⟨rfl, hb4⟩)
        | (go_at_call 36; first
            | (with_reducible refine (k1.out).mono ?_; rintro e w2 ⟨A1, c1, L1, rfl, hl1, hm1, _, _, hb2⟩; have HL1 := Lib.hid hl1; have HM1 := Lib.hid hm1; clear hl1 hm1)
            | (with_reducible refine (k2.out _ hb2).mono ?_; rintro e w3 ⟨A2, c2, L2, rfl, hl2, hm2, _, _, hb3⟩; have HL2 := Lib.hid hl2; clear hl2)))
      go_ret
      exact ⟨rfl, bthen (bthen hb2 hb3) hb4⟩
    · rw [if_pos h2]
      have g2 : (z2 == 0) = false := by simp [h2]
      have g3 : (z2 != 0) = true := by simp [h2]
      go_enter Tryz.func43, Tryz.ntmps43
      go_wp2_with (go_at_call 36; first
            | (with_reducible refine (k1.out).mono ?_; rintro e w2 ⟨A1, c1, L1, rfl, hl1, hm1, _, _, hb2⟩; have HL1 := Lib.hid hl1; have HM1 := Lib.hid hm1; clear hl1 hm1)
            | (with_reducible refine (k2.out _ hb2).mono ?_; rintro e w3 ⟨A2, c2, L2, rfl, hl2, hm2, _, _, hb3⟩; have HL2 := Lib.hid hl2; clear hl2))
      all_goals
        go_ret
        exact ⟨rfl, bthen hb2 hb3⟩
  · rw [if_pos h1]
    have g2 : (z1 == 0) = false := by simp [h1]
    have g3 : (z1 != 0) = true := by simp [h1]
    go_enter Tryz.func43, Tryz.ntmps43
    go_wp2_with (go_at_call 36; first
            | (with_reducible refine (k1.out).mono ?_; rintro e w2 ⟨A1, c1, L1, rfl, hl1, hm1, _, _, hb2⟩; have HL1 := Lib.hid hl1; have HM1 := Lib.hid hm1; clear hl1 hm1)
            | (with_reducible refine (k2.out _ hb2).mono ?_; rintro e w3 ⟨A2, c2, L2, rfl, hl2, hm2, _, _, hb3⟩; have HL2 := Lib.hid hl2; clear hl2))
    go_ret
    exact ⟨rfl, hb2⟩
end Go.Proofs.YthgbncpiehcghaaGreatDoor
