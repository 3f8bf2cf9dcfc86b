/- WALKS OF THE DOCUMENT's TREE: Get. -/
import Derived.Test.YthgbncpiehcghaaGreatDoorGr1
import Derived.Deep.RegionHeld3
import Derived.Test.YthgbncpiehcghaaGreatDoorR13j
namespace Go.Proofs.YthgbncpiehcghaaGreatDoor
set_option linter.unusedVariables false
open Go Go.RowKit Go.Maps
set_option maxRecDepth 100000
set_option maxHeartbeats 4000000
open Nt (Tr Nd WF Ps Path at_ cnt used txt)
abbrev Ndz0 : Array Value := #[.int .i64 0, .int .i64 0, .int .i64 0, .int .i64 0, .int .i64 0, .string ⟨#[]⟩, .slice none 0 0]
theorem below_set7 {B r : Nat} {w W : World} (h : Below B w W) (hr : B ≤ r) (a b c d e f g : Value) : Below B w (((((((W.setCell ⟨r, 0, none⟩ a).setCell ⟨r, 1, none⟩ b).setCell ⟨r, 2, none⟩ c).setCell ⟨r, 3, none⟩ d).setCell ⟨r, 4, none⟩ e).setCell ⟨r, 5, none⟩ f).setCell ⟨r, 6, none⟩ g) :=
  ((((((h.setCell hr _).setCell hr _).setCell hr _).setCell hr _).setCell hr _).setCell hr _).setCell hr _
theorem set7_box {w : World} {a : Nat} {T : TypeId} {c0 c1 c2 c3 c4 c5 c6 : Value} (h : BX w a T #[c0, c1, c2, c3, c4, c5, c6]) (v0 v1 v2 v3 v4 v5 v6 : Value) : BX (((((((w.setCell ⟨a, 0, none⟩ v0).setCell ⟨a, 1, none⟩ v1).setCell ⟨a, 2, none⟩ v2).setCell ⟨a, 3, none⟩ v3).setCell ⟨a, 4, none⟩ v4).setCell ⟨a, 5, none⟩ v5).setCell ⟨a, 6, none⟩ v6) a T #[v0, v1, v2, v3, v4, v5, v6] := by
  have h9 := (((((((h.set 0 v0).set 1 v1).set 2 v2).set 3 v3).set 4 v4).set 5 v5).set 6 v6)
  simpa using h9
section
variable {w w' : World} {B : Nat} {A1 A2 : Option Addr} {n1 c1 n2 c2 : Nat} {T : Tr}
theorem refget_any {K : Nat} (h : RTr w B A1 n1 c1 A2 n2 c2 T) (hW : WF T K) (hK : K ≤ 100000) (a b : Int) (p : ByteArray) (hp : p.size ≤ 1000000) :
    Calls Tryz.prog 63 #[.agg (RvC A1 n1 c1 A2 n2 c2 a b), .string p] w fun e w' => e = .returned (if (T.find p).2 = 0 then .tuple #[.agg (NdC (T.nd (T.find p).1)), .int .i64 (cnt T.paths (T.find p).1 : Nat), .int .i64 0] else .tuple #[.agg Ndz0, .int .i64 0, .int .i64 (T.find p).2]) ∧ Below w.heap.size w w' := by
  obtain ⟨W1, hW1⟩ : ∃ W, w.alloc (.cells (RvC A1 n1 c1 A2 n2 c2 a b) 29) = W := ⟨_, rfl⟩
  have hb1 := below_new w (.cells (RvC A1 n1 c1 A2 n2 c2 a b) 29)
  have x1 : BX W1 w.heap.size 29 (RvC A1 n1 c1 A2 n2 c2 a b) := by rw [← hW1]; exact BX.new _ _ _
  have s1 : W1.heap.size = w.heap.size + 1 := by rw [← hW1]; simp
  rw [hW1] at hb1
  obtain ⟨W2, hW2⟩ : ∃ W, W1.alloc (.cells #[.int .i64 0, .int .i64 0, .int .i64 0, .int .i64 0, .int .i64 0, .string ⟨#[]⟩, .slice none 0 0] 114) = W := ⟨_, rfl⟩
  have hb2 := below_new W1 (.cells #[.int .i64 0, .int .i64 0, .int .i64 0, .int .i64 0, .int .i64 0, .string ⟨#[]⟩, .slice none 0 0] 114)
  have x2 : BX W2 W1.heap.size 114 #[.int .i64 0, .int .i64 0, .int .i64 0, .int .i64 0, .int .i64 0, .string ⟨#[]⟩, .slice none 0 0] := by rw [← hW2]; exact BX.new _ _ _
  rw [hW2] at hb2
  rw [s1] at x2
  have hr2 := (h.below hb1).below hb2
  have hB2 : Below w.heap.size w W2 := bthen hb1 hb2
  have y1 := x1.later hb2
  obtain ⟨m, hm⟩ : ∃ m, (T.find p).1 = m := ⟨_, rfl⟩
  obtain ⟨z, hz⟩ : ∃ z, (T.find p).2 = z := ⟨_, rfl⟩
  have kf := reffind_any hr2 hW hK a b p hp
  have hlt : z = 0 → m < n1 := fun h0 => by rw [← h.len1, ← hm]; exact hW.lt _ _ (hW.find_ok (hz.trans h0)).2
  rw [hm, hz] at kf
  rw [hm, hz]
  have KF := Lib.hid kf
  have HB := Lib.hid hB2
  have HR := Lib.hid hr2
  have CF := Lib.hid (fun W (hh : Below W2.heap.size W2 W) => show W.cell? ⟨w.heap.size, 0, none⟩ = some (.slice A1 n1 c1) ∧ W.cell? ⟨w.heap.size, 1, none⟩ = some (.slice A2 n2 c2) ∧ W.cell? ⟨w.heap.size, 2, none⟩ = some (.int .i64 a) ∧ W.cell? ⟨w.heap.size, 3, none⟩ = some (.int .i64 b) from
    ⟨(y1.later hh).cell rfl, (y1.later hh).cell rfl, (y1.later hh).cell rfl, (y1.later hh).cell rfl⟩)
  have X2 := Lib.hid (fun W (hh : Below W2.heap.size W2 W) => x2.later hh)
  have hc1 := h.cap1
  by_cases h0 : z = 0
  · subst h0
    have hl := hlt rfl
    rw [if_pos rfl]
    obtain ⟨g1, o1, nd, eA, hnd, hcn⟩ := h.nodes.at_ hl
    have e3 : T.nd m = nd := by unfold Tr.nd; simp [List.getD, hnd]
    obtain ⟨b0, o0, eA', ⟨cs0, fz0, hblk⟩, _⟩ := h.nodes.2 (by omega)
    have hgw : g1 < w.heap.size := by
      rw [eA] at eA'
      cases eA'
      exact (Array.getElem?_eq_some_iff.1 hblk).1
    subst eA
    rw [e3]
    have KL := Lib.hid (fun W (hh : Below w.heap.size w W) => reflinks_any (h.below hh) a b m)
    obtain ⟨k, hk⟩ : ∃ k, cnt T.paths m = k := ⟨_, rfl⟩
    rw [hk] at KL ⊢
    have RG := Lib.hid (fun W (hh : Below W2.heap.size W2 W) => show W.cell? ⟨g1, o1 + m * 7, none⟩ = some (.int .i64 nd.kind) ∧ W.cell? ⟨g1, o1 + m * 7 + 1, none⟩ = some (.int .i64 nd.mode) ∧ W.cell? ⟨g1, o1 + m * 7 + 2, none⟩ = some (.int .i64 nd.uid) ∧ W.cell? ⟨g1, o1 + m * 7 + 3, none⟩ = some (.int .i64 nd.gid) ∧ W.cell? ⟨g1, o1 + m * 7 + 4, none⟩ = some (.int .i64 nd.mtime) ∧ W.cell? ⟨g1, o1 + m * 7 + 5, none⟩ = some (.string nd.link) ∧ W.cell? ⟨g1, o1 + m * 7 + 6, none⟩ = some (.slice nd.A nd.n nd.c) from by
      obtain ⟨g', o', nd', e', hn', hc'⟩ := (hr2.below hh).nodes.at_ hl
      cases e'
      rw [hnd] at hn'
      cases hn'
      exact ⟨hc' 0 _ rfl, hc' 1 _ rfl, hc' 2 _ rfl, hc' 3 _ rfl, hc' 4 _ rfl, hc' 5 _ rfl, hc' 6 _ rfl⟩)
    have TG := Lib.hid (fun W (hh : Below W2.heap.size W2 W) => show W.there (w.heap.size + 1) 0 7 from fun i hi => ⟨by rw [Nat.zero_add]; rcases i with _ | _ | _ | _ | _ | _ | _ | i <;> first | (rw [(X2.out _ hh).cell rfl]; rfl) | omega, (X2.out _ hh).free _⟩)
    have hm0 : (0 : Int) ≤ m := by omega
    have hm1 : (m : Int) < n1 := by omega
    have hmt : ((m : Int)).toNat = m := by omega
    have hu := Tryz.underlying114
    have hi := info_node13
    have hone := NdC_one nd
    have hlen : (NdC nd).toList.length = 7 := rfl
    clear h hW hm hz kf hlt hB2 hr2 x1 x2 y1 hb1 hb2 hnd hcn e3 hk eA' hblk hl
    obtain ⟨y0, y1, y2, y3⟩ := CF.out _ (Below.refl _ _)
    go_enter Tryz.func63, Tryz.ntmps63
    go_upto_region 4 with (go_at_call 17; (with_reducible refine KF.out.mono ?_); rintro e w2 ⟨rfl, hb2⟩; obtain ⟨v0, v1, v2, v3⟩ := CF.out _ hb2; have HB3 := Lib.hid hb2; clear hb2)
    have hacc2 : Below W2.heap.size W2 w2.drew := HB3.out.drew
    have hacc : Below w.heap.size w w2.drew := HB.out.trans (hacc2.mono HB.out.size)
    obtain ⟨q0, q1, q2, q3⟩ := CF.out _ hacc2
    obtain ⟨r0, r1, r2, r3, r4, r5, r6⟩ := RG.out _ hacc2
    have X9 := X2.out _ hacc2
    have e0 := X9.free 0; have e1 := X9.free 1; have e2 := X9.free 2; have e3 := X9.free 3; have e4 := X9.free 4; have e5 := X9.free 5; have e6 := X9.free 6
    clear hu hi hlen hone
    go_region_law (first
      | (go_simp; go_at_call 113; (with_reducible refine (KL.out _ hacc).mono ?_); rintro e w4 ⟨rfl, hb4⟩; have X4 := X2.out _ (bthen hacc2 hb4); have u0 := X4.cell (j := 0) rfl; have uf0 := X4.free 0; have u1 := X4.cell (j := 1) rfl; have uf1 := X4.free 1; have u2 := X4.cell (j := 2) rfl; have uf2 := X4.free 2; have u3 := X4.cell (j := 3) rfl; have uf3 := X4.free 3; have u4 := X4.cell (j := 4) rfl; have uf4 := X4.free 4; have u5 := X4.cell (j := 5) rfl; have uf5 := X4.free 5; have u6 := X4.cell (j := 6) rfl; have uf6 := X4.free 6; have SET9 := Lib.hid (set7_box X4 (.int .i64 nd.kind) (.int .i64 nd.mode) (.int .i64 nd.uid) (.int .i64 nd.gid) (.int .i64 nd.mtime) (.string nd.link) (.slice nd.A nd.n nd.c)); have LOW9 := Lib.hid (below_set7 (hacc.trans (hb4.mono hacc.size)) (Nat.le_succ w.heap.size) (.int .i64 nd.kind) (.int .i64 nd.mode) (.int .i64 nd.uid) (.int .i64 nd.gid) (.int .i64 nd.mtime) (.string nd.link) (.slice nd.A nd.n nd.c)); obtain ⟨t0, t1, t2, t3, t4, t5, t6⟩ := RG.out _ (bthen hacc2 hb4); obtain ⟨s0, s1, s2, s3⟩ := CF.out _ (bthen hacc2 hb4); clear X4 hb4)
      | (go_simp; go_at_call 113; (with_reducible refine (KL.out _ (below_set7 hacc (Nat.le_succ w.heap.size) (.int .i64 nd.kind) (.int .i64 nd.mode) (.int .i64 nd.uid) (.int .i64 nd.gid) (.int .i64 nd.mtime) (.string nd.link) (.slice nd.A nd.n nd.c))).mono ?_); rintro e w4 ⟨rfl, hb4⟩; have SET9 := Lib.hid ((set7_box X9 (.int .i64 nd.kind) (.int .i64 nd.mode) (.int .i64 nd.uid) (.int .i64 nd.gid) (.int .i64 nd.mtime) (.string nd.link) (.slice nd.A nd.n nd.c)).later hb4); have LOW9 := Lib.hid ((below_set7 hacc (Nat.le_succ w.heap.size) (.int .i64 nd.kind) (.int .i64 nd.mode) (.int .i64 nd.uid) (.int .i64 nd.gid) (.int .i64 nd.mtime) (.string nd.link) (.slice nd.A nd.n nd.c)).trans (hb4.mono (below_set7 hacc (Nat.le_succ w.heap.size) (.int .i64 nd.kind) (.int .i64 nd.mode) (.int .i64 nd.uid) (.int .i64 nd.gid) (.int .i64 nd.mtime) (.string nd.link) (.slice nd.A nd.n nd.c)).size)); clear hb4))
    all_goals
      go_wp2
      have S9 := SET9.out
      have L9 := LOW9.out
      first | (generalize hW9 : (((((((w4.setCell ⟨w.heap.size + 1, 0, none⟩ (.int .i64 nd.kind)).setCell ⟨w.heap.size + 1, 1, none⟩ (.int .i64 nd.mode)).setCell ⟨w.heap.size + 1, 2, none⟩ (.int .i64 nd.uid)).setCell ⟨w.heap.size + 1, 3, none⟩ (.int .i64 nd.gid)).setCell ⟨w.heap.size + 1, 4, none⟩ (.int .i64 nd.mtime)).setCell ⟨w.heap.size + 1, 5, none⟩ (.string nd.link)).setCell ⟨w.heap.size + 1, 6, none⟩ (.slice nd.A nd.n nd.c)) = W9 at S9 L9 ⊢) | skip
      have k0 := S9.cell (j := 0) rfl
      have k1 := S9.cell (j := 1) rfl
      have k2 := S9.cell (j := 2) rfl
      have k3 := S9.cell (j := 3) rfl
      have k4 := S9.cell (j := 4) rfl
      have k5 := S9.cell (j := 5) rfl
      have k6 := S9.cell (j := 6) rfl
      refine bodyPost_ret (v := .tuple #[.agg (NdC nd), .int .i64 k, .int .i64 0]) (by simp [results, Tryz.f63, go_sem, k0, k1, k2, k3, k4, k5, k6]) rfl ⟨rfl, L9⟩
  · have gz : (z != 0) = true := by simp [h0]
    rw [if_neg h0]
    clear h hW hm hz h0 kf hlt hB2 hr2 x1 x2 y1 hb1 hb2
    obtain ⟨y0, y1, y2, y3⟩ := CF.out _ (Below.refl _ _)
    go_enter Tryz.func63, Tryz.ntmps63
    go_wp2_with (go_at_call 17; (with_reducible refine KF.out.mono ?_); rintro e w2 ⟨rfl, hb2⟩; have e2 := X2.out _ hb2; have f0 := e2.cell (j := 0) rfl; have g0 := e2.free 0; have f1 := e2.cell (j := 1) rfl; have g1 := e2.free 1; have f2 := e2.cell (j := 2) rfl; have g2 := e2.free 2; have f3 := e2.cell (j := 3) rfl; have g3 := e2.free 3; have f4 := e2.cell (j := 4) rfl; have g4 := e2.free 4; have f5 := e2.cell (j := 5) rfl; have g5 := e2.free 5; have f6 := e2.cell (j := 6) rfl; have g6 := e2.free 6; have HB3 := Lib.hid hb2; clear hb2 e2)
    have e9 := ((((((((X2.out _ HB3.out).set 0 (.int .i64 0)).set 1 (.int .i64 0)).set 2 (.int .i64 0)).set 3 (.int .i64 0)).set 4 (.int .i64 0)).set 5 (.string ⟨#[]⟩)).set 6 (.slice none 0 0))
    have o9 := ((((((((Oth.refl (w.heap.size + 1) w2).setCell 0 (.int .i64 0)).setCell 1 (.int .i64 0)).setCell 2 (.int .i64 0)).setCell 3 (.int .i64 0)).setCell 4 (.int .i64 0)).setCell 5 (.string ⟨#[]⟩)).setCell 6 (.slice none 0 0))
    generalize hW9 : (((((((w2.setCell ⟨w.heap.size + 1, 0, none⟩ (.int .i64 0)).setCell ⟨w.heap.size + 1, 1, none⟩ (.int .i64 0)).setCell ⟨w.heap.size + 1, 2, none⟩ (.int .i64 0)).setCell ⟨w.heap.size + 1, 3, none⟩ (.int .i64 0)).setCell ⟨w.heap.size + 1, 4, none⟩ (.int .i64 0)).setCell ⟨w.heap.size + 1, 5, none⟩ (.string ⟨#[]⟩)).setCell ⟨w.heap.size + 1, 6, none⟩ (.slice none 0 0)) = W9 at *
    have k0 : W9.cell? ⟨w.heap.size + 1, 0, none⟩ = some (.int .i64 0) := e9.cell rfl
    have k1 : W9.cell? ⟨w.heap.size + 1, 1, none⟩ = some (.int .i64 0) := e9.cell rfl
    have k2 : W9.cell? ⟨w.heap.size + 1, 2, none⟩ = some (.int .i64 0) := e9.cell rfl
    have k3 : W9.cell? ⟨w.heap.size + 1, 3, none⟩ = some (.int .i64 0) := e9.cell rfl
    have k4 : W9.cell? ⟨w.heap.size + 1, 4, none⟩ = some (.int .i64 0) := e9.cell rfl
    have k5 : W9.cell? ⟨w.heap.size + 1, 5, none⟩ = some (.string ⟨#[]⟩) := e9.cell rfl
    have k6 : W9.cell? ⟨w.heap.size + 1, 6, none⟩ = some (.slice none 0 0) := e9.cell rfl
    refine bodyPost_ret (v := .tuple #[.agg Ndz0, .int .i64 0, .int .i64 z]) (by simp [results, Tryz.f63, go_sem, k0, k1, k2, k3, k4, k5, k6]) rfl ⟨rfl, ?_⟩
    have k1' : Below w.heap.size w w2 := bthen HB.out HB3.out
    exact k1'.trans (o9.below (by omega) k1'.size)
end
end Go.Proofs.YthgbncpiehcghaaGreatDoor
/- WALKS OF THE DOCUMENT's TREE: moved (all paths that are one, or lie under it, are another one, or lie there). -/
namespace Go.Proofs.YthgbncpiehcghaaGreatDoor
set_option linter.unusedVariables false
open Go Go.RowKit Go.Maps
set_option maxRecDepth 100000
set_option maxHeartbeats 4000000
open Nt (Tr Nd WF Ps Path at_ cnt used txt)
theorem bx_new2 (w : World) (o : Obj) (T : TypeId) (cs : Array Value) : BX ((w.alloc o).alloc (.cells cs T)) (w.heap.size + 1) T cs := by
  have h := BX.new (w.alloc o) T cs
  rwa [World.size_alloc] at h
theorem map_take {R : Ps} {j : Nat} {y : Path × Nat} (f : Path × Nat → Path × Nat) (h : R[j]? = some y) : (R.take (j + 1)).map f = (R.take j).map f ++ [f y] := by
  rw [List.take_add_one, h, Option.toList_some, List.map_append]
  rfl
section
variable {w : World} {B : Nat} {A1 A2 : Option Addr} {n1 c1 n2 c2 : Nat} {T : Tr}
/-- The paths of T may be of any length; K: how long they are. -/
theorem refmoved_any {K : Nat} (h : RTr w B A1 n1 c1 A2 n2 c2 T) (hN : ∀ q m, (q, m) ∈ T.paths → (∀ x ∈ q, Pp.Nm x) ∧ (txt q).size ≤ K) (hmany : T.paths.length ≤ K) (hK : K ≤ 100000) {P Q : Path} (hP : ∀ x ∈ P, Pp.Nm x) (hQ : ∀ x ∈ Q, Pp.Nm x) (hp : (txt P).size ≤ 100000) (hq : (txt Q).size ≤ 100000) :
    Calls Tryz.prog 110 #[.agg (RvC A1 n1 c1 A2 n2 c2 T.room T.vol), .string (txt P), .string (txt Q)] w fun e w' => ∃ v, e = .returned v ∧ Rv w' B v { T with paths := T.paths.map (Nt.mv P Q) } ∧ Below w.heap.size w w' := by
  obtain ⟨W2, hW2, hb2, hs2, x1, x2⟩ := frame2 w (RvC A1 n1 c1 A2 n2 c2 T.room T.vol) 29 Rv0 29
  have HR := Lib.hid (h.paths.below hb2)
  have hn2 : n2 ≤ 100000 := by rw [← h.len2]; exact Nat.le_trans hmany hK
  obtain ⟨p, hpp⟩ : ∃ p, txt P = p := ⟨_, rfl⟩
  obtain ⟨q, hqq⟩ : ∃ q, txt Q = q := ⟨_, rfl⟩
  rw [hpp] at hp ⊢
  rw [hqq] at hq ⊢
  have HPP := Lib.hid hpp
  have HQQ := Lib.hid hqq
  have HH := Lib.hid h
  have HN := Lib.hid hN
  have CF := Lib.hid (fun W (hh : Below W2.heap.size W2 W) => show W.cell? ⟨w.heap.size, 0, none⟩ = some (.slice A1 n1 c1) ∧ W.cell? ⟨w.heap.size, 1, none⟩ = some (.slice A2 n2 c2) ∧ W.cell? ⟨w.heap.size, 2, none⟩ = some (.int .i64 T.room) ∧ W.cell? ⟨w.heap.size, 3, none⟩ = some (.int .i64 T.vol) ∧ W.frozen? ⟨w.heap.size, 1, none⟩ = false from
    ⟨(x1.later hh).cell rfl, (x1.later hh).cell rfl, (x1.later hh).cell rfl, (x1.later hh).cell rfl, (x1.later hh).free 1⟩)
  have hc2 := h.cap2
  obtain ⟨y0, y1, y2, y3, y4⟩ := CF.out _ (Below.refl _ _)
  clear h hN hpp hqq
  go_enter Tryz.func110, Tryz.ntmps110
  go_wp2
  go_loopw [7, 8] (fun v i W => ∃ (j : Nat) (l : List (ByteArray × Nat)), j ≤ n2 ∧ i = .int .i64 j ∧ Hid (l = tps ((T.paths.take j).map (Nt.mv P Q))) ∧ Hid (W.ownsRow W2.heap.size 45 2 v l.length (rl AtC l)) ∧ Hid (Below W2.heap.size W2 W)) (fun _ i _ => n2 - (intOf i).toNat)
  case atStart => exact ⟨0, [], Nat.zero_le _, rfl, rfl, World.ownsRow_nil _ _ _ _, Below.refl _ _⟩
  case round =>
    obtain ⟨j, l, hj, rfl, HL, HO, HB⟩ := hrel
    obtain ⟨q0, q1, q2, q3, q4⟩ := CF.out _ HB.out
    obtain ⟨Av, cv, rfl, hrow, hcv1, hcv2⟩ := own_rowof AtC_size HO.out rfl
    have hlv : l.length ≤ 100000 := by
      rw [HL.out, tps_len, List.length_map, List.length_take]
      omega
    by_cases hlt : j < n2
    · have hlt' : (j : Int) < n2 := by omega
      obtain ⟨g, o, x, rfl, hx, hc⟩ := (HR.out.below HB.out).at_ hlt
      obtain ⟨Y, hY, hYt⟩ := tps_at hx
      obtain ⟨s, m⟩ := x
      replace hYt : s = txt Y := hYt
      have d0 : wr.cell? ⟨g, o + j * 2, none⟩ = some (.string s) := hc 0 _ rfl
      have d1 : wr.cell? ⟨g, o + j * 2 + 1, none⟩ = some (.int .i64 (m : Nat)) := hc 1 _ rfl
      obtain ⟨hYN, hYK⟩ := HN.out Y m (List.mem_of_getElem? hY)
      have hss : s.size ≤ 1000000 := by rw [hYt]; omega
      have hst := map_take (Nt.mv P Q) hY
      have hrest := rest_txt hP hYN
      rw [← hYt, HPP.out] at hrest
      have hsp : s = p ↔ Y = P := by
        rw [hYt, ← HPP.out]
        exact ⟨fun e => Nt.txt_inj hYN hP e, fun e => by rw [e]⟩
      have KR := Lib.hid (fun W => refrest_any s p W hss hp)
      have HYT := Lib.hid hYt
      have RUNS := Lib.hid (fun s' : ByteArray => app_at ((HO.out.alloc (.cells #[.string s', .int .i64 (m : Nat)] 45)).alloc (.cells #[.string s', .int .i64 (m : Nat)] 45)) (rowof_one (C := AtC) (z := 2) (x := (s', m)) (bx_new2 wr (.cells #[.string s', .int .i64 (m : Nat)] 45) 45 #[.string s', .int .i64 (m : Nat)])) 1 (by omega) (by have := HB.out.size; simp; omega))
      have SHUT := Lib.hid (fun (s' : ByteArray) (w' : World) (hgr : ((wr.alloc (.cells #[.string s', .int .i64 (m : Nat)] 45)).alloc (.cells #[.string s', .int .i64 (m : Nat)] 45)).grownBy w' (Value.slice Av l.length cv).ownBlock) => below_grown1 (HB.out.alloc HB.out.size (.cells #[.string s', .int .i64 (m : Nat)] 45)) (HO.out.alloc (.cells #[.string s', .int .i64 (m : Nat)] 45)) hgr)
      clear hYt
      by_cases hpre : P <+: Y
      · by_cases hE : s = p
        · have hE2 := hsp.1 hE
          rw [if_neg (fun h => h.2 hE2)] at hrest
          rw [hrest] at KR
          have hmv : Nt.mv P Q (Y, m) = (Q, m) := by unfold Nt.mv; rw [if_pos hpre, hE2, List.drop_length, List.append_nil]
          rw [hmv] at hst
          have g1 : (s.toList == p.toList) = true := by rw [hE]; simp
          obtain ⟨v', w', hrun, hown, hgr, hbk⟩ := RUNS.out q
          have RUN := Lib.hid hrun
          have HOWN := Lib.hid hown
          have HBN := Lib.hid (SHUT.out q w' hgr)
          have HST := Lib.hid hst
          clear hst hrest hsp hE hE2 hc hx hY hrow hrun hown hgr hbk hmv hYN hYK hpre
          go_wp2_with (first
            | (at_builtin; refine Lib.wpList_append_run _ rfl _ _ 27 27 rfl _ _ rfl rfl _ _ RUN.out ?_)
            | (go_at_call 109; (with_reducible refine (KR.out _).mono ?_); rintro e w3 ⟨rfl, rfl⟩))
          go_roundw
          case rel =>
            exact ⟨j + 1, l ++ [(q, m)], by omega, by go_num, by
              show _ = _
              rw [HST.out, HL.out]
              unfold tps
              rw [List.map_append, List.map_singleton, HQQ.out], by
              show World.ownsRow _ _ _ _ _ _ _
              rw [List.length_append]
              exact HOWN.out, HBN.out⟩
          case measure => simp [intOf]; omega
        · have hE2 : Y ≠ P := fun e => hE (hsp.2 e)
          rw [if_pos ⟨hpre, hE2⟩] at hrest
          rw [hrest] at KR
          have hdN : ∀ x ∈ Y.drop P.length, Pp.Nm x := fun x hx => hYN x (List.mem_of_mem_drop hx)
          have hdr : (txt (Y.drop P.length)).size ≤ 1000000 := by
            obtain ⟨r, hr⟩ := hpre
            rw [← hr, List.drop_left]
            have := Nt.txt_drop_size P r
            rw [hr] at this
            omega
          have KJ := Lib.hid (fun W => refjoin_any4 q (txt (Y.drop P.length)) W hdr (by omega))
          have hjn := join_txt2 hQ hdN
          rw [HQQ.out] at hjn
          rw [hjn] at KJ
          have hmv : Nt.mv P Q (Y, m) = (Q ++ Y.drop P.length, m) := by unfold Nt.mv; rw [if_pos hpre]
          rw [hmv] at hst
          obtain ⟨rst, hrst⟩ : ∃ r, txt (Y.drop P.length) = r := ⟨_, rfl⟩
          rw [hrst] at KR KJ
          obtain ⟨jn, hjnn⟩ : ∃ r, txt (Q ++ Y.drop P.length) = r := ⟨_, rfl⟩
          rw [hjnn] at KJ
          have g1 : (s.toList == p.toList) = false := by rw [Pp.toList_eq]; simp [hE]
          obtain ⟨v', w', hrun, hown, hgr, hbk⟩ := RUNS.out jn
          have HJN := Lib.hid hjnn
          clear hjnn hrst hjn hdN hdr
          have RUN := Lib.hid hrun
          have HOWN := Lib.hid hown
          have HBN := Lib.hid (SHUT.out jn w' hgr)
          have HST := Lib.hid hst
          clear hst hrest hsp hE hE2 hc hx hY hrow hrun hown hgr hbk hmv hYN hYK hpre
          go_wp2_with (first
            | (at_builtin; refine Lib.wpList_append_run _ rfl _ _ 27 27 rfl _ _ rfl rfl _ _ RUN.out ?_)
            | (go_at_call 45; (with_reducible refine (KJ.out _).mono ?_); rintro e w4 ⟨rfl, rfl⟩)
            | (go_at_call 109; (with_reducible refine (KR.out _).mono ?_); rintro e w3 ⟨rfl, rfl⟩))
          go_roundw
          case rel =>
            exact ⟨j + 1, l ++ [(jn, m)], by omega, by go_num, by
              show _ = _
              rw [HST.out, HL.out]
              unfold tps
              rw [List.map_append, List.map_singleton, HJN.out], by
              show World.ownsRow _ _ _ _ _ _ _
              rw [List.length_append]
              exact HOWN.out, HBN.out⟩
          case measure => simp [intOf]; omega
      · have hE2 : Y ≠ P := fun e => hpre (e ▸ List.prefix_refl _)
        have hE : ¬ s = p := fun e => hE2 (hsp.1 e)
        rw [if_neg (fun h => hpre h.1)] at hrest
        rw [hrest] at KR
        have hmv : Nt.mv P Q (Y, m) = (Y, m) := by unfold Nt.mv; rw [if_neg hpre]
        rw [hmv] at hst
        have g1 : (s.toList == p.toList) = false := by rw [Pp.toList_eq]; simp [hE]
        obtain ⟨v', w', hrun, hown, hgr, hbk⟩ := RUNS.out s
        have RUN := Lib.hid hrun
        have HOWN := Lib.hid hown
        have HBN := Lib.hid (SHUT.out s w' hgr)
        have HST := Lib.hid hst
        clear hst hrest hsp hE hE2 hc hx hY hrow hrun hown hgr hbk hmv hYN hYK hpre
        go_wp2_with (first
          | (at_builtin; refine Lib.wpList_append_run _ rfl _ _ 27 27 rfl _ _ rfl rfl _ _ RUN.out ?_)
          | (go_at_call 109; (with_reducible refine (KR.out _).mono ?_); rintro e w3 ⟨rfl, rfl⟩))
        go_roundw
        case rel =>
          exact ⟨j + 1, l ++ [(s, m)], by omega, by go_num, by
            show _ = _
            rw [HST.out, HL.out]
            unfold tps
            rw [List.map_append, List.map_singleton, HYT.out.symm], by
            show World.ownsRow _ _ _ _ _ _ _
            rw [List.length_append]
            exact HOWN.out, HBN.out⟩
        case measure => simp [intOf]; omega
    · have hlt' : ¬ (j : Int) < n2 := by omega
      obtain rfl : j = n2 := by omega
      have htk : T.paths.take j = T.paths := List.take_of_length_le (by rw [HH.out.len2]; exact Nat.le_refl _)
      have hl9 := HL.out
      rw [htk] at hl9
      have HL9 := Lib.hid hl9
      clear hl9
      obtain ⟨k, hk⟩ : ∃ k, l.length = k := ⟨_, rfl⟩
      rw [hk] at hrow hlv hcv1 ⊢
      have y1' := x1.later HB.out
      have y2' := x2.later HB.out
      obtain ⟨W5, hW5⟩ : ∃ W5, wr.setCell ⟨w.heap.size, 1, none⟩ (.slice Av k cv) = W5 := ⟨_, rfl⟩
      have u1 : BX W5 w.heap.size 29 (RvC A1 n1 c1 Av k cv T.room T.vol) := by rw [← hW5]; exact y1'.set 1 _
      have u2 : BX W5 (w.heap.size + 1) 29 Rv0 := by rw [← hW5]; exact y2'.other (by omega) _
      have o5 : Oth w.heap.size wr W5 := by rw [← hW5]; exact (Oth.refl _ _).setCell 1 _
      have hrow5 := hrow.oth13 o5 y1' (by decide)
      have p0 : W5.cell? ⟨w.heap.size, 0, none⟩ = some (.slice A1 n1 c1) := u1.cell rfl
      have p1 : W5.cell? ⟨w.heap.size, 1, none⟩ = some (.slice Av k cv) := u1.cell rfl
      have p2 : W5.cell? ⟨w.heap.size, 2, none⟩ = some (.int .i64 T.room) := u1.cell rfl
      have p3 : W5.cell? ⟨w.heap.size, 3, none⟩ = some (.int .i64 T.vol) := u1.cell rfl
      have r0 : W5.cell? ⟨w.heap.size + 1, 0, none⟩ = some (.slice none 0 0) := u2.cell rfl
      have r1 : W5.cell? ⟨w.heap.size + 1, 1, none⟩ = some (.slice none 0 0) := u2.cell rfl
      have r2 : W5.cell? ⟨w.heap.size + 1, 2, none⟩ = some (.int .i64 0) := u2.cell rfl
      have r3 : W5.cell? ⟨w.heap.size + 1, 3, none⟩ = some (.int .i64 0) := u2.cell rfl
      have f0 := u2.free 0
      have f1 := u2.free 1
      have f2 := u2.free 2
      have f3 := u2.free 3
      have U2 := Lib.hid u2
      have HROW := Lib.hid hrow5
      have HLOW := Lib.hid (bthen hb2 HB.out)
      have H5 := Lib.hid ((HLOW.out.trans (o5.below (Nat.le_refl _) HLOW.out.size) : Below w.heap.size w W5))
      have HK := Lib.hid hk
      clear x1 x2 y1' y2' u1 u2 o5 hrow hrow5 hk
      go_wp2
      obtain ⟨W9, hW9, k0, k1, k2, k3, hb9, ho9⟩ := fin4 U2.out H5.out (Nat.le_succ _) (.slice A1 n1 c1) (.slice Av k cv) (.int .i64 T.room) (.int .i64 T.vol)
      rw [hW9]
      refine bodyPost_ret (v := .agg (RvC A1 n1 c1 Av k cv T.room T.vol)) (by simp [results, Tryz.f110, go_sem, k0, k1, k2, k3]) rfl ?_
      have hp9 := HROW.out.oth13 ho9 U2.out (by decide)
      exact ⟨_, rfl, ⟨_, _, _, _, _, _, rfl, HH.out.nodes.below hb9, by rw [← HK.out] at hp9 ⊢; rw [HL9.out] at hp9 ⊢; exact hp9, HH.out.cap1, ⟨hcv1, hcv2⟩, Nat.le_trans HH.out.base hb9.size, fun x hx => ⟨(HH.out.data x hx).1.below (hb9.mono HH.out.base), (HH.out.data x hx).2⟩⟩, hb9⟩
end
end Go.Proofs.YthgbncpiehcghaaGreatDoor
/- APPENDS TO ROWS OF NODES, OF PATHS: onto nothing, onto an own row. -/
namespace Go.Proofs.YthgbncpiehcghaaGreatDoor
set_option linter.unusedVariables false
open Go Go.RowKit Go.Maps
set_option maxRecDepth 100000
set_option maxHeartbeats 4000000
open Nt (Tr Nd WF Ps Path at_ cnt used txt)
section
variable {w : World} {A : Option Addr} {n k : Nat} {base : Nat} {v : Value}
theorem app_nd0 {l : List Nd} (hr : NRow w A n l) (c : Nat) (h9 : n ≤ 1000000) (hb : base ≤ w.heap.size) :
    ∃ v' w', (Builtin.append_ #[26, 26] 26 #[.slice none 0 0, .slice A n c]).run Tryz.prog w = .ok v' w' ∧ w'.ownsRow base 114 7 v' n (rl NdC l) ∧ Below w.heap.size w w' := by
  obtain ⟨v', w', h1, h2, h3, _⟩ := app_nd (l1 := []) (World.ownsRow_nil w base 114 7) hr c (by simp; omega) hb
  refine ⟨v', w', h1, ?_, (Below.refl _ _).grown h3 (Nat.le_refl _) (by intro k h; cases h)⟩
  have h4 := h2
  rw [List.nil_append, List.length_nil, Nat.zero_add] at h4
  exact h4
theorem app_ndN {l1 l : List Nd} (hk : l1.length = k) (hown : w.ownsRow base 114 7 v k (rl NdC l1)) (hr : NRow w A n l) (c : Nat) (h9 : k + n ≤ 1000000) (hb : base ≤ w.heap.size) :
    ∃ v' w', (Builtin.append_ #[26, 26] 26 #[v, .slice A n c]).run Tryz.prog w = .ok v' w' ∧ w'.ownsRow base 114 7 v' (k + n) (rl NdC (l1 ++ l)) ∧ Below base w w' := by
  subst hk
  obtain ⟨v', w', h1, h2, h3, _⟩ := app_nd hown hr c h9 hb
  exact ⟨v', w', h1, h2, (Below.refl _ _).grown h3 hb fun k h => (World.ownsRow.lt hown k h).1⟩
theorem app_at0 {l : List (ByteArray × Nat)} (hr : ARow w A n l) (c : Nat) (h9 : n ≤ 1000000) (hb : base ≤ w.heap.size) :
    ∃ v' w', (Builtin.append_ #[27, 27] 27 #[.slice none 0 0, .slice A n c]).run Tryz.prog w = .ok v' w' ∧ w'.ownsRow base 45 2 v' n (rl AtC l) ∧ Below w.heap.size w w' := by
  obtain ⟨v', w', h1, h2, h3, _⟩ := app_at (l1 := []) (World.ownsRow_nil w base 45 2) hr c (by simp; omega) hb
  refine ⟨v', w', h1, ?_, (Below.refl _ _).grown h3 (Nat.le_refl _) (by intro k h; cases h)⟩
  have h4 := h2
  rw [List.nil_append, List.length_nil, Nat.zero_add] at h4
  exact h4
theorem app_atN {l1 l : List (ByteArray × Nat)} (hk : l1.length = k) (hown : w.ownsRow base 45 2 v k (rl AtC l1)) (hr : ARow w A n l) (c : Nat) (h9 : k + n ≤ 1000000) (hb : base ≤ w.heap.size) :
    ∃ v' w', (Builtin.append_ #[27, 27] 27 #[v, .slice A n c]).run Tryz.prog w = .ok v' w' ∧ w'.ownsRow base 45 2 v' (k + n) (rl AtC (l1 ++ l)) ∧ Below base w w' := by
  subst hk
  obtain ⟨v', w', h1, h2, h3, _⟩ := app_at hown hr c h9 hb
  exact ⟨v', w', h1, h2, (Below.refl _ _).grown h3 hb fun k h => (World.ownsRow.lt hown k h).1⟩
end
end Go.Proofs.YthgbncpiehcghaaGreatDoor
/- WALKS OF THE DOCUMENT's TREE: Kids (the paths right under one, rising by names); List. -/
namespace Go.Proofs.YthgbncpiehcghaaGreatDoor
set_option linter.unusedVariables false
open Go Go.RowKit Go.Maps
set_option maxRecDepth 100000
set_option maxHeartbeats 4000000
open Nt (Tr Nd WF Ps Path at_ cnt used txt)
abbrev StC1 (s : ByteArray) : Array Value := #[.string s]
abbrev SRow := RowOf StC1 1 9
theorem StC1_size (x : ByteArray) : (StC1 x).size = 1 := rfl
theorem StC1_one (x : ByteArray) : ∀ u ∈ (StC1 x).toList, u.oneCell' = true := by
  intro u h
  simp at h
  subst h
  rfl
theorem rl_str (l : List ByteArray) : rl StC1 l = l.map Value.string := by
  unfold rl
  induction l with
  | nil => rfl
  | cons x l ih => rw [List.flatMap_cons, List.map_cons, ih]; rfl
section
variable {w : World} {A : Option Addr} {n : Nat}
theorem app_str {base : Nat} {v : Value} {l1 l : List ByteArray} (hown : w.ownsRow base 9 1 v l1.length (rl StC1 l1)) (hr : SRow w A n l) (c : Nat) (h9 : l1.length + n ≤ 1000000) (hb : base ≤ w.heap.size) :
    ∃ v' w', (Builtin.append_ #[80, 80] 80 #[v, .slice A n c]).run Tryz.prog w = .ok v' w' ∧ w'.ownsRow base 9 1 v' (l1.length + n) (rl StC1 (l1 ++ l)) ∧ w.grownBy w' v.ownBlock ∧ (∀ k, v'.ownBlock = some k → v.ownBlock = some k ∨ w.heap.size ≤ k) := by
  obtain ⟨i0, hi, hz0, hz1, hz2⟩ := info_parts info_str
  exact app_row 80 i0 (.string ⟨#[]⟩) 16 Tryz.underlying80 hi hz0 hz1 hz2 rfl (by decide) StC1_size StC1_one hown hr c (by unfold maxLen; omega) (by omega) hb
end
/-- Onto nothing. -/
theorem app_str0 {w : World} {A : Option Addr} {n : Nat} {l : List ByteArray} {base : Nat} (hr : SRow w A n l) (c : Nat) (h9 : n ≤ 1000000) (hb : base ≤ w.heap.size) :
    ∃ v' w', (Builtin.append_ #[80, 80] 80 #[.slice none 0 0, .slice A n c]).run Tryz.prog w = .ok v' w' ∧ w'.ownsRow base 9 1 v' n (rl StC1 l) ∧ Below w.heap.size w w' := by
  obtain ⟨v', w', h1, h2, h3, _⟩ := app_str (l1 := []) (World.ownsRow_nil w base 9 1) hr c (by simp; omega) hb
  refine ⟨v', w', h1, ?_, (Below.refl _ _).grown h3 (Nat.le_refl _) (by intro k h; cases h)⟩
  have h4 := h2
  rw [List.nil_append, List.length_nil, Nat.zero_add] at h4
  exact h4
/-- Onto what one owns. -/
theorem app_strN {w : World} {A : Option Addr} {n k : Nat} {l1 l : List ByteArray} {base : Nat} {v : Value} (hk : l1.length = k) (hown : w.ownsRow base 9 1 v k (rl StC1 l1)) (hr : SRow w A n l) (c : Nat) (h9 : k + n ≤ 1000000) (hb : base ≤ w.heap.size) :
    ∃ v' w', (Builtin.append_ #[80, 80] 80 #[v, .slice A n c]).run Tryz.prog w = .ok v' w' ∧ w'.ownsRow base 9 1 v' (k + n) (rl StC1 (l1 ++ l)) ∧ Below base w w' := by
  subst hk
  obtain ⟨v', w', h1, h2, h3, _⟩ := app_str hown hr c h9 hb
  exact ⟨v', w', h1, h2, (Below.refl _ _).grown h3 hb fun k h => (World.ownsRow.lt hown k h).1⟩
section
variable {α : Type} {C : α → Array Value} {z : Nat} {U : TypeId} {w w' : World} {A : Option Addr} {n : Nat} {l : List α}
theorem RowOf.pre (h : RowOf C z U w A n l) {k : Nat} (hk : k ≤ n) : RowOf C z U w A k (l.take k) :=
  ⟨by rw [List.length_take, h.1]; omega, fun hn => by
    obtain ⟨b, o, e, hb, hc⟩ := h.2 (by omega)
    refine ⟨b, o, e, hb, fun j x hj i u hu => hc j x ?_ i u hu⟩
    rw [List.getElem?_take] at hj
    split at hj
    · exact hj
    · cases hj⟩
theorem RowOf.suf {b o : Nat} (h : RowOf C z U w (some ⟨b, o, none⟩) n l) {k : Nat} : RowOf C z U w (some ⟨b, o + k * z, none⟩) (n - k) (l.drop k) :=
  ⟨by rw [List.length_drop, h.1], fun hn => by
    obtain ⟨b', o', e, hb, hc⟩ := h.2 (by omega)
    cases e
    refine ⟨b, o + k * z, rfl, hb, fun j x hj i u hu => ?_⟩
    rw [List.getElem?_drop] at hj
    have := hc _ x hj i u hu
    rw [show o + k * z + j * z + i = o + (k + j) * z + i from by rw [Nat.add_mul]; omega]
    exact this⟩
theorem RowOf.nil0 : RowOf C z U w A 0 ([] : List α) := ⟨rfl, fun h => absurd h (by omega)⟩
end
/-- One path more is looked at. -/
theorem kids_take {R : Ps} {j : Nat} {y : Path × Nat} {P : Path} (h : R[j]? = some y) : Nt.kids (R.take (j + 1)) P = match Nt.kid1 P y with
    | some s => Nt.ins Pp.lt s (Nt.kids (R.take j) P)
    | none => Nt.kids (R.take j) P := by
  unfold Nt.kids
  rw [List.take_add_one, h, Option.toList_some, List.filterMap_append]
  cases e : Nt.kid1 P y with
  | none => simp [e]
  | some s => simp only [List.filterMap_cons, e, List.filterMap_nil]; rw [Nt.insAll_snoc]
theorem kids13_len (R : Ps) (P : Path) : (Nt.kids R P).length ≤ R.length := by
  unfold Nt.kids
  rw [Nt.insAll_len]
  exact List.length_filterMap_le _ _
section
variable {w : World} {B : Nat} {A1 A2 : Option Addr} {n1 c1 n2 c2 : Nat} {T : Tr}
theorem refkids_any {K : Nat} (h : RTr w B A1 n1 c1 A2 n2 c2 T) (hW : WF T K) (hK : K ≤ 100000) (a b : Int) {P : Path} (hP : ∀ x ∈ P, Pp.Nm x) (hp : (txt P).size ≤ 100000) :
    Calls Tryz.prog 106 #[.agg (RvC A1 n1 c1 A2 n2 c2 a b), .string (txt P)] w fun e w' => ∃ v, e = .returned v ∧ OS w' w.heap.size v (Nt.kids T.paths P) ∧ Below w.heap.size w w' := by
  obtain ⟨W1, hW1, hb1, hs1, x1⟩ := frame1 w (RvC A1 n1 c1 A2 n2 c2 a b) 29
  have HR := Lib.hid (h.paths.below hb1)
  have hn2 : n2 ≤ 100000 := by rw [← h.len2]; exact Nat.le_trans hW.many hK
  obtain ⟨p, hpp⟩ : ∃ p, txt P = p := ⟨_, rfl⟩
  rw [hpp] at hp ⊢
  have HPP := Lib.hid hpp
  have HH := Lib.hid h
  have HW := Lib.hid hW
  have CF := Lib.hid (fun W (hh : Below W1.heap.size W1 W) => show W.cell? ⟨w.heap.size, 1, none⟩ = some (.slice A2 n2 c2) from (x1.later hh).cell rfl)
  have HB1 := Lib.hid hb1
  have hc2 := h.cap2
  have y1 := CF.out _ (Below.refl _ _)
  clear h hW hpp x1 hb1
  go_enter Tryz.func106, Tryz.ntmps106
  go_wp2
  go_loopw [5, 6] (fun v i W => ∃ (j : Nat) (l : List ByteArray), j ≤ n2 ∧ i = .int .i64 j ∧ Hid (l = Nt.kids (T.paths.take j) P) ∧ Hid (W.ownsRow W1.heap.size 9 1 v l.length (rl StC1 l)) ∧ Hid (Below W1.heap.size W1 W)) (fun _ i _ => n2 - (intOf i).toNat)
  case atStart => exact ⟨0, [], Nat.zero_le _, rfl, rfl, World.ownsRow_nil _ _ _ _, Below.refl _ _⟩
  case round =>
    obtain ⟨j, l, hj, rfl, HL, HO, HB⟩ := hrel
    have q1 := CF.out _ HB.out
    obtain ⟨Av, cv, rfl, hrow, hcv1, hcv2⟩ := own_rowof StC1_size HO.out rfl
    have hlv : l.length ≤ 100000 := by
      rw [HL.out]
      refine Nat.le_trans (kids13_len _ _) ?_
      rw [List.length_take]
      omega
    by_cases hlt : j < n2
    · have hlt' : (j : Int) < n2 := by omega
      obtain ⟨g, o, x, rfl, hx, hc⟩ := (HR.out.below HB.out).at_ hlt
      obtain ⟨Y, hY, hYt⟩ := tps_at hx
      obtain ⟨s, m⟩ := x
      replace hYt : s = txt Y := hYt
      have d0 : wr.cell? ⟨g, o + j * 2, none⟩ = some (.string s) := hc 0 _ rfl
      have hYm : (Y, m) ∈ T.paths := List.mem_of_getElem? hY
      have hYN := HW.out.names Y m hYm
      have hss : s.size ≤ 1000000 := by rw [hYt]; have := HW.out.long Y m hYm; omega
      have hst := kids_take (P := P) hY
      have hrest := rest_txt hP hYN
      rw [← hYt, HPP.out] at hrest
      have KR := Lib.hid (fun W => refrest_any s p W hss hp)
      have HYT := Lib.hid hYt
      clear hYt
      by_cases hpre : P <+: Y ∧ Y ≠ P
      · rw [if_pos hpre] at hrest
        rw [hrest] at KR
        obtain ⟨⟨r, hr⟩, hne⟩ := hpre
        have hr0 : r ≠ [] := fun e => hne (by rw [← hr, e, List.append_nil])
        have hrN : ∀ x ∈ r, Pp.Nm x := fun x hx => hYN x (by rw [← hr]; exact List.mem_append_right _ hx)
        rw [← hr, List.drop_left] at KR
        have hrs : (txt r).size ≤ 1000000 := by
          have h1 := Nt.txt_drop_size P r
          rw [hr] at h1
          have := HW.out.long Y m hYm
          omega
        have KC := Lib.hid (fun W => refcut_any (txt r) W hrs)
        rw [Nt.pieces_txt hr0 hrN] at KC
        match r, hr, hr0 with
        | [], _, h0 => exact absurd rfl h0
        | [x], hr, _ =>
          have hk1 : Nt.kid1 P (Y, m) = some x := Nt.kid1_some.2 hr.symm
          rw [hk1] at hst
          simp only at hst
          have HST := Lib.hid hst
          have g1 : (((([x] : List ByteArray).length : Nat) : Int) != 1) = false := rfl
          replace KC : Hid (∀ W, Calls Tryz.prog 114 #[.string x] W fun e w' => ∃ v, e = .returned v ∧ OS w' W.heap.size v [x] ∧ Below W.heap.size W w') := KC
          replace KR : Hid (∀ W, Calls Tryz.prog 109 #[.string s, .string p] W fun e w' => e = .returned (.tuple #[.string x, .bool true]) ∧ W = w') := KR
          clear hst hrest hc hx hY hk1 hr hne hrN hrs
          go_wp2_with (first
            | (go_at_call 114; (with_reducible refine (KC.out _).mono ?_); rintro e w4 ⟨vc, rfl, hoc, hb4⟩; obtain ⟨Ac, cc, rfl, _, _, _⟩ := hoc.rt; clear hoc; have HB4 := Lib.hid hb4; clear hb4)
            | (go_at_call 109; (with_reducible refine (KR.out _).mono ?_); rintro e w3 ⟨rfl, rfl⟩))
          have HRW := Lib.hid (hrow.below HB4.out)
          clear hrow
          go_loop [9] (fun i => ∃ k : Nat, k ≤ l.length ∧ i = .int .i64 k ∧ Hid (∀ t y, t < k → l[t]? = some y → Pp.lt y x = true)) (fun i => l.length - (intOf i).toNat)
          case atStart => exact ⟨0, Nat.zero_le _, rfl, fun t y ht => absurd ht (by omega)⟩
          case round =>
            obtain ⟨k, hk, rfl, HK⟩ := hrel
            have hk63 : (k : Int) ≤ 100000 := by omega
            by_cases hkl : k < l.length
            · have hkl' : (k : Int) < l.length := by omega
              obtain ⟨gs, os, y, rfl, hy, hcy⟩ := HRW.out.at_ hkl
              have e0 : w4.cell? ⟨gs, os + k, none⟩ = some (.string y) := by have := hcy 0 _ rfl; rw [Nat.mul_one] at this; exact this
              cases hlt9 : Pp.lt y x with
              | true =>
                have gl : Op.bytesLess y.toList x.toList = true := hlt9
                have HKN : Hid (∀ t z, t < k + 1 → l[t]? = some z → Pp.lt z x = true) := fun t z ht hz => by
                  by_cases e : t = k
                  · subst e
                    rw [hy] at hz
                    cases hz
                    exact hlt9
                  · exact HK.out t z (by omega) hz
                clear hlt9 hy hcy
                go_wp2
                go_round
                case rel => exact ⟨k + 1, by omega, by go_num, HKN⟩
                case measure => simp [intOf]; omega
              | false =>
                have gl : Op.bytesLess y.toList x.toList = false := hlt9
                have HINS := Lib.hid (Nt.ins_eq (lt := Pp.lt) (x := x) (l := l) (k := k) hk (fun t z ht hz => HK.out t z ht hz) (fun z hz => by rw [hy] at hz; cases hz; exact hlt9))
                clear hlt9 hy hcy
                go_wp2
                have hkc : k ≤ cv := by omega
                have hkl2 : k ≤ l.length := hk
                have hck : ¬ cv = k := by omega
                have hD : Below w4.heap.size w4 w4.drew := (Below.refl _ _).drew
                have hDx : Below w4.heap.size w4 (w4.alloc (.cells #[.string x] 9)).drew := (below_new w4 _).drew
                have hXx : BX (w4.alloc (.cells #[.string x] 9)).drew w4.heap.size 9 #[.string x] := BX.new w4 _ _
                have hltk : (l.take k).length = k := by rw [List.length_take]; omega
                have AP1 := Lib.hid (fun W (h : Below w4.heap.size w4 W) => app_str0 (base := w4.heap.size) ((HRW.out.below h).pre hkl2) cv (by omega) h.size)
                have SUF := Lib.hid (fun W (h : Below w4.heap.size w4 W) => show SRow W (some ⟨gs, os + k, none⟩) (l.length - k) (l.drop k) from by
                  have h1 := (HRW.out.below h).suf (k := k)
                  rwa [Nat.mul_one] at h1)
                go_region_law (first
                  | (obtain ⟨v5, w5, hr5, ho5, hb5⟩ := AP1.out _ hD; refine step_append_run14 rfl (.const (.slice none 0 0)) (.tmp 52) 80 80 rfl _ _ rfl (by simp [Act.eval, Act.put]) hr5 ?_; obtain ⟨A5, c5, rfl, _, _, _⟩ := own_rowof StC1_size ho5 hltk; have HB5 := Lib.hid (hD.trans (hb5.mono hD.size)); have HO5 := Lib.hid ho5; clear hr5 ho5 hb5)
                  | (obtain ⟨v5, w5, hr5, ho5, hb5⟩ := AP1.out _ hDx; refine step_append_run14 rfl (.const (.slice none 0 0)) (.tmp 52) 80 80 rfl _ _ rfl (by simp [Act.eval]) hr5 ?_; obtain ⟨A5, c5, rfl, _, _, _⟩ := own_rowof StC1_size ho5 hltk; have HB5 := Lib.hid (hDx.trans (hb5.mono hDx.size)); have HX5 := Lib.hid (hXx.later hb5); have HO5 := Lib.hid ho5; clear hr5 ho5 hb5)
                  | (obtain ⟨v6, w6, hr6, ho6, hb6⟩ := app_strN hltk (HO5.out.alloc (.cells #[.string x] 9)) (rowof_one (C := StC1) (z := 1) (x := x) (BX.new w5 9 #[.string x])) 1 (by omega) (by have := HB5.out.size; simp; omega); refine step_append_run14 rfl (.tmp 53) (.tmp 55) 80 80 rfl _ _ (by simp [Act.eval]) (by simp [Act.eval]) hr6 ?_; obtain ⟨A6, c6, rfl, _, _, _⟩ := own_rowof StC1_size ho6 (by rw [List.length_append, hltk]; rfl); have HB6 := Lib.hid ((HB5.out.alloc HB5.out.size (.cells #[.string x] 9)).trans hb6); have HO6 := Lib.hid ho6; clear hr6 ho6 hb6)
                  | (obtain ⟨v6, w6, hr6, ho6, hb6⟩ := app_strN hltk HO5.out (rowof_one (C := StC1) (z := 1) (x := x) HX5.out) 1 (by omega) HB5.out.size; refine step_append_run14 rfl (.tmp 53) (.tmp 55) 80 80 rfl _ _ (by simp [Act.eval]) (by simp [Act.eval]) hr6 ?_; obtain ⟨A6, c6, rfl, _, _, _⟩ := own_rowof StC1_size ho6 (by rw [List.length_append, hltk]; rfl); have HB6 := Lib.hid (HB5.out.trans hb6); have HO6 := Lib.hid ho6; clear hr6 ho6 hb6)
                  | (obtain ⟨v7, w7, hr7, ho7, hb7⟩ := app_strN (by rw [List.length_append, hltk]; rfl) HO6.out (SUF.out _ HB6.out) (cv - k) (by omega) HB6.out.size; refine step_append_run14 rfl (.tmp 56) (.tmp 59) 80 80 rfl _ _ (by simp [Act.eval]) (by simp [Act.eval]) hr7 ?_; have HB7 := Lib.hid (HB6.out.trans hb7); have HO7 := Lib.hid ho7; clear hr7 ho7 hb7))
                all_goals
                  go_wp2
                  go_roundw
                  case rel =>
                    refine ⟨j + 1, l.take k ++ [x] ++ l.drop k, by omega, by go_num, ?_, ?_, ?_⟩
                    · show _ = _
                      rw [HST.out, ← HL.out, HINS.out]
                      simp
                    · have h9 := HO7.out
                      have e9 : (l.take k ++ [x] ++ l.drop k).length = k + 1 + (l.length - k) := by rw [List.length_append, List.length_append, hltk, List.length_drop]; rfl
                      show World.ownsRow _ _ _ _ _ _ _
                      rw [e9]
                      exact row_more h9 (by have := HB.out.size; have := HB4.out.size; omega)
                    · exact HB.out.trans ((HB4.out.trans (HB7.out.mono HB4.out.size)).mono HB.out.size)
                  case measure => simp [intOf]; omega
            · have hkl' : ¬ (k : Int) < l.length := by omega
              obtain rfl : k = l.length := by omega
              have HINS := Lib.hid (Nt.ins_eq (lt := Pp.lt) (x := x) (l := l) (k := l.length) (Nat.le_refl _) (fun t z ht hz => HK.out t z ht hz) (fun z hz => by rw [List.getElem?_eq_none (Nat.le_refl _)] at hz; cases hz))
              rcases HO.out.2 with ⟨e0, hz⟩ | ⟨gb, cap, cur, e0, _, _, hcc, _⟩
              · injection e0 with e1 e2 e3
                subst e1
                subst e3
                obtain rfl : l = [] := List.eq_nil_of_length_eq_zero hz
                have HINS : Hid (Nt.ins Pp.lt x [] = [x]) := rfl
                go_wp2
                have hD : Below w4.heap.size w4 w4.drew := (Below.refl _ _).drew
                have hDx : Below w4.heap.size w4 (w4.alloc (.cells #[.string x] 9)).drew := (below_new w4 _).drew
                have hXx : BX (w4.alloc (.cells #[.string x] 9)).drew w4.heap.size 9 #[.string x] := BX.new w4 _ _
                have AP1 := Lib.hid (fun W (h : Below w4.heap.size w4 W) => app_str0 (base := w4.heap.size) (RowOf.nil0 : SRow W none 0 []) 0 (by omega) h.size)
                have hltk : (([] : List ByteArray)).length = 0 := by simp
                go_region_law (first
                  | (obtain ⟨v5, w5, hr5, ho5, hb5⟩ := AP1.out _ hD; refine step_append_run14 rfl (.const (.slice none 0 0)) (.tmp 52) 80 80 rfl _ _ rfl (by simp [Act.eval, Act.put]) hr5 ?_; obtain ⟨A5, c5, rfl, _, _, _⟩ := own_rowof StC1_size ho5 hltk; have HB5 := Lib.hid (hD.trans (hb5.mono hD.size)); have HO5 := Lib.hid ho5; clear hr5 ho5 hb5)
                  | (obtain ⟨v5, w5, hr5, ho5, hb5⟩ := AP1.out _ hDx; refine step_append_run14 rfl (.const (.slice none 0 0)) (.tmp 52) 80 80 rfl _ _ rfl (by simp [Act.eval]) hr5 ?_; obtain ⟨A5, c5, rfl, _, _, _⟩ := own_rowof StC1_size ho5 hltk; have HB5 := Lib.hid (hDx.trans (hb5.mono hDx.size)); have HX5 := Lib.hid (hXx.later hb5); have HO5 := Lib.hid ho5; clear hr5 ho5 hb5)
                  | (obtain ⟨v6, w6, hr6, ho6, hb6⟩ := app_strN hltk (HO5.out.alloc (.cells #[.string x] 9)) (rowof_one (C := StC1) (z := 1) (x := x) (BX.new w5 9 #[.string x])) 1 (by omega) (by have := HB5.out.size; simp; omega); refine step_append_run14 rfl (.tmp 53) (.tmp 55) 80 80 rfl _ _ (by simp [Act.eval]) (by simp [Act.eval]) hr6 ?_; obtain ⟨A6, c6, rfl, _, _, _⟩ := own_rowof StC1_size ho6 (by rw [List.length_append, hltk]; rfl); have HB6 := Lib.hid ((HB5.out.alloc HB5.out.size (.cells #[.string x] 9)).trans hb6); have HO6 := Lib.hid ho6; clear hr6 ho6 hb6)
                  | (obtain ⟨v6, w6, hr6, ho6, hb6⟩ := app_strN hltk HO5.out (rowof_one (C := StC1) (z := 1) (x := x) HX5.out) 1 (by omega) HB5.out.size; refine step_append_run14 rfl (.tmp 53) (.tmp 55) 80 80 rfl _ _ (by simp [Act.eval]) (by simp [Act.eval]) hr6 ?_; obtain ⟨A6, c6, rfl, _, _, _⟩ := own_rowof StC1_size ho6 (by rw [List.length_append, hltk]; rfl); have HB6 := Lib.hid (HB5.out.trans hb6); have HO6 := Lib.hid ho6; clear hr6 ho6 hb6)
                  | (obtain ⟨v7, w7, hr7, ho7, hb7⟩ := app_strN (by rw [List.length_append, hltk]; rfl) HO6.out ((RowOf.nil0 : SRow w6 none 0 [])) 0 (by omega) HB6.out.size; refine step_append_run14 rfl (.tmp 56) (.tmp 59) 80 80 rfl _ _ (by simp [Act.eval]) (by simp [Act.eval]) hr7 ?_; have HB7 := Lib.hid (HB6.out.trans hb7); have HO7 := Lib.hid ho7; clear hr7 ho7 hb7))
                all_goals
                  go_wp2
                  go_roundw
                  case rel =>
                    refine ⟨j + 1, ([] : List ByteArray) ++ [x] ++ ([] : List ByteArray), by omega, by go_num, ?_, ?_, ?_⟩
                    · show _ = _
                      rw [HST.out, ← HL.out, HINS.out]
                      simp
                    · have h9 := HO7.out
                      have e9 : (([] : List ByteArray) ++ [x] ++ ([] : List ByteArray)).length = 0 + 1 + 0 := by simp
                      show World.ownsRow _ _ _ _ _ _ _
                      rw [e9]
                      exact row_more h9 (by have := HB.out.size; have := HB4.out.size; omega)
                    · exact HB.out.trans ((HB4.out.trans (HB7.out.mono HB4.out.size)).mono HB.out.size)
                  case measure => simp [intOf]; omega
              · cases e0
                by_cases hce : cv = l.length
                · subst hce
                  go_wp2
                  have hD : Below w4.heap.size w4 w4.drew := (Below.refl _ _).drew
                  have hDx : Below w4.heap.size w4 (w4.alloc (.cells #[.string x] 9)).drew := (below_new w4 _).drew
                  have hXx : BX (w4.alloc (.cells #[.string x] 9)).drew w4.heap.size 9 #[.string x] := BX.new w4 _ _
                  have AP1 := Lib.hid (fun W (h : Below w4.heap.size w4 W) => app_str0 (base := w4.heap.size) (HRW.out.below h) l.length (by omega) h.size)
                  have hltk : (l).length = l.length := by simp
                  go_region_law (first
                    | (obtain ⟨v5, w5, hr5, ho5, hb5⟩ := AP1.out _ hD; refine step_append_run14 rfl (.const (.slice none 0 0)) (.tmp 52) 80 80 rfl _ _ rfl (by simp [Act.eval, Act.put]) hr5 ?_; obtain ⟨A5, c5, rfl, _, _, _⟩ := own_rowof StC1_size ho5 hltk; have HB5 := Lib.hid (hD.trans (hb5.mono hD.size)); have HO5 := Lib.hid ho5; clear hr5 ho5 hb5)
                    | (obtain ⟨v5, w5, hr5, ho5, hb5⟩ := AP1.out _ hDx; refine step_append_run14 rfl (.const (.slice none 0 0)) (.tmp 52) 80 80 rfl _ _ rfl (by simp [Act.eval]) hr5 ?_; obtain ⟨A5, c5, rfl, _, _, _⟩ := own_rowof StC1_size ho5 hltk; have HB5 := Lib.hid (hDx.trans (hb5.mono hDx.size)); have HX5 := Lib.hid (hXx.later hb5); have HO5 := Lib.hid ho5; clear hr5 ho5 hb5)
                    | (obtain ⟨v6, w6, hr6, ho6, hb6⟩ := app_strN hltk (HO5.out.alloc (.cells #[.string x] 9)) (rowof_one (C := StC1) (z := 1) (x := x) (BX.new w5 9 #[.string x])) 1 (by omega) (by have := HB5.out.size; simp; omega); refine step_append_run14 rfl (.tmp 53) (.tmp 55) 80 80 rfl _ _ (by simp [Act.eval]) (by simp [Act.eval]) hr6 ?_; obtain ⟨A6, c6, rfl, _, _, _⟩ := own_rowof StC1_size ho6 (by rw [List.length_append, hltk]; rfl); have HB6 := Lib.hid ((HB5.out.alloc HB5.out.size (.cells #[.string x] 9)).trans hb6); have HO6 := Lib.hid ho6; clear hr6 ho6 hb6)
                    | (obtain ⟨v6, w6, hr6, ho6, hb6⟩ := app_strN hltk HO5.out (rowof_one (C := StC1) (z := 1) (x := x) HX5.out) 1 (by omega) HB5.out.size; refine step_append_run14 rfl (.tmp 53) (.tmp 55) 80 80 rfl _ _ (by simp [Act.eval]) (by simp [Act.eval]) hr6 ?_; obtain ⟨A6, c6, rfl, _, _, _⟩ := own_rowof StC1_size ho6 (by rw [List.length_append, hltk]; rfl); have HB6 := Lib.hid (HB5.out.trans hb6); have HO6 := Lib.hid ho6; clear hr6 ho6 hb6)
                    | (obtain ⟨v7, w7, hr7, ho7, hb7⟩ := app_strN (by rw [List.length_append, hltk]; rfl) HO6.out ((RowOf.nil0 : SRow w6 (some ⟨gb, 0, none⟩) 0 [])) 0 (by omega) HB6.out.size; refine step_append_run14 rfl (.tmp 56) (.tmp 59) 80 80 rfl _ _ (by simp [Act.eval]) (by simp [Act.eval]) hr7 ?_; have HB7 := Lib.hid (HB6.out.trans hb7); have HO7 := Lib.hid ho7; clear hr7 ho7 hb7))
                  all_goals
                    go_wp2
                    go_roundw
                    case rel =>
                      refine ⟨j + 1, l ++ [x] ++ ([] : List ByteArray), by omega, by go_num, ?_, ?_, ?_⟩
                      · show _ = _
                        rw [HST.out, ← HL.out, HINS.out]
                        simp
                      · have h9 := HO7.out
                        have e9 : (l ++ [x] ++ ([] : List ByteArray)).length = l.length + 1 + 0 := by simp
                        show World.ownsRow _ _ _ _ _ _ _
                        rw [e9]
                        exact row_more h9 (by have := HB.out.size; have := HB4.out.size; omega)
                      · exact HB.out.trans ((HB4.out.trans (HB7.out.mono HB4.out.size)).mono HB.out.size)
                    case measure => simp [intOf]; omega
                · go_wp2
                  have hD : Below w4.heap.size w4 w4.drew := (Below.refl _ _).drew
                  have hDx : Below w4.heap.size w4 (w4.alloc (.cells #[.string x] 9)).drew := (below_new w4 _).drew
                  have hXx : BX (w4.alloc (.cells #[.string x] 9)).drew w4.heap.size 9 #[.string x] := BX.new w4 _ _
                  have AP1 := Lib.hid (fun W (h : Below w4.heap.size w4 W) => app_str0 (base := w4.heap.size) (HRW.out.below h) cv (by omega) h.size)
                  have hltk : (l).length = l.length := by simp
                  go_region_law (first
                    | (obtain ⟨v5, w5, hr5, ho5, hb5⟩ := AP1.out _ hD; refine step_append_run14 rfl (.const (.slice none 0 0)) (.tmp 52) 80 80 rfl _ _ rfl (by simp [Act.eval, Act.put]) hr5 ?_; obtain ⟨A5, c5, rfl, _, _, _⟩ := own_rowof StC1_size ho5 hltk; have HB5 := Lib.hid (hD.trans (hb5.mono hD.size)); have HO5 := Lib.hid ho5; clear hr5 ho5 hb5)
                    | (obtain ⟨v5, w5, hr5, ho5, hb5⟩ := AP1.out _ hDx; refine step_append_run14 rfl (.const (.slice none 0 0)) (.tmp 52) 80 80 rfl _ _ rfl (by simp [Act.eval]) hr5 ?_; obtain ⟨A5, c5, rfl, _, _, _⟩ := own_rowof StC1_size ho5 hltk; have HB5 := Lib.hid (hDx.trans (hb5.mono hDx.size)); have HX5 := Lib.hid (hXx.later hb5); have HO5 := Lib.hid ho5; clear hr5 ho5 hb5)
                    | (obtain ⟨v6, w6, hr6, ho6, hb6⟩ := app_strN hltk (HO5.out.alloc (.cells #[.string x] 9)) (rowof_one (C := StC1) (z := 1) (x := x) (BX.new w5 9 #[.string x])) 1 (by omega) (by have := HB5.out.size; simp; omega); refine step_append_run14 rfl (.tmp 53) (.tmp 55) 80 80 rfl _ _ (by simp [Act.eval]) (by simp [Act.eval]) hr6 ?_; obtain ⟨A6, c6, rfl, _, _, _⟩ := own_rowof StC1_size ho6 (by rw [List.length_append, hltk]; rfl); have HB6 := Lib.hid ((HB5.out.alloc HB5.out.size (.cells #[.string x] 9)).trans hb6); have HO6 := Lib.hid ho6; clear hr6 ho6 hb6)
                    | (obtain ⟨v6, w6, hr6, ho6, hb6⟩ := app_strN hltk HO5.out (rowof_one (C := StC1) (z := 1) (x := x) HX5.out) 1 (by omega) HB5.out.size; refine step_append_run14 rfl (.tmp 53) (.tmp 55) 80 80 rfl _ _ (by simp [Act.eval]) (by simp [Act.eval]) hr6 ?_; obtain ⟨A6, c6, rfl, _, _, _⟩ := own_rowof StC1_size ho6 (by rw [List.length_append, hltk]; rfl); have HB6 := Lib.hid (HB5.out.trans hb6); have HO6 := Lib.hid ho6; clear hr6 ho6 hb6)
                    | (obtain ⟨v7, w7, hr7, ho7, hb7⟩ := app_strN (by rw [List.length_append, hltk]; rfl) HO6.out ((RowOf.nil0 : SRow w6 (some ⟨gb, l.length, none⟩) 0 [])) (cv - l.length) (by omega) HB6.out.size; refine step_append_run14 rfl (.tmp 56) (.tmp 59) 80 80 rfl _ _ (by simp [Act.eval]) (by simp [Act.eval]) hr7 ?_; have HB7 := Lib.hid (HB6.out.trans hb7); have HO7 := Lib.hid ho7; clear hr7 ho7 hb7))
                  all_goals
                    go_wp2
                    go_roundw
                    case rel =>
                      refine ⟨j + 1, l ++ [x] ++ ([] : List ByteArray), by omega, by go_num, ?_, ?_, ?_⟩
                      · show _ = _
                        rw [HST.out, ← HL.out, HINS.out]
                        simp
                      · have h9 := HO7.out
                        have e9 : (l ++ [x] ++ ([] : List ByteArray)).length = l.length + 1 + 0 := by simp
                        show World.ownsRow _ _ _ _ _ _ _
                        rw [e9]
                        exact row_more h9 (by have := HB.out.size; have := HB4.out.size; omega)
                      · exact HB.out.trans ((HB4.out.trans (HB7.out.mono HB4.out.size)).mono HB.out.size)
                    case measure => simp [intOf]; omega
        | x :: x2 :: r, hr, _ =>
          have hk1 : Nt.kid1 P (Y, m) = none := by
            cases e : Nt.kid1 P (Y, m) with
            | none => rfl
            | some t =>
              have := Nt.kid1_some.1 e
              rw [← hr] at this
              have := List.append_cancel_left this
              simp at this
          rw [hk1] at hst
          simp only at hst
          have HST := Lib.hid hst
          obtain ⟨k, hkk⟩ : ∃ k, (x :: x2 :: r).length = k := ⟨_, rfl⟩
          have g1 : ((k : Int) != 1) = true := by rw [← hkk]; simp; omega
          obtain ⟨rs, hrs2⟩ : ∃ rs, txt (x :: x2 :: r) = rs := ⟨_, rfl⟩
          rw [hrs2] at KR KC
          clear hst hrest hc hx hY hrow hk1 hr hne hrN hrs hrs2
          go_wp2_with (first
            | (go_at_call 114; (with_reducible refine (KC.out _).mono ?_); rintro e w4 ⟨vc, rfl, hoc, hb4⟩; obtain ⟨Ac, cc, rfl, _, _, _⟩ := hoc.rt; rw [hkk]; clear hoc; have HB4 := Lib.hid hb4; clear hb4)
            | (go_at_call 109; (with_reducible refine (KR.out _).mono ?_); rintro e w3 ⟨rfl, rfl⟩))
          go_roundw
          case rel => exact ⟨j + 1, l, by omega, by go_num, by show _ = _; rw [HST.out]; exact HL.out, own_keep13 HO.out fun k2 hk2 => HB4.out.block k2 (World.ownsRow.lt HO.out k2 hk2).2, HB.out.trans (HB4.out.mono HB.out.size)⟩
          case measure => simp [intOf]; omega
      · rw [if_neg hpre] at hrest
        rw [hrest] at KR
        have hk1 : Nt.kid1 P (Y, m) = none := by
          cases e : Nt.kid1 P (Y, m) with
          | none => rfl
          | some t =>
            have e2 : Y = P ++ [t] := Nt.kid1_some.1 e
            exact absurd ⟨⟨[t], e2.symm⟩, fun e3 => by rw [e2] at e3; have := congrArg List.length e3; simp at this⟩ hpre
        rw [hk1] at hst
        simp only at hst
        have HST := Lib.hid hst
        clear hst hrest hc hx hY hrow hk1
        go_wp2_with (first
          | (go_at_call 109; (with_reducible refine (KR.out _).mono ?_); rintro e w3 ⟨rfl, rfl⟩))
        go_roundw
        case rel => exact ⟨j + 1, l, by omega, by go_num, by show _ = _; rw [HST.out]; exact HL.out, HO.out, HB.out⟩
        case measure => simp [intOf]; omega
    · have hlt' : ¬ (j : Int) < n2 := by omega
      obtain rfl : j = n2 := by omega
      have htk : T.paths.take j = T.paths := List.take_of_length_le (by rw [HH.out.len2]; exact Nat.le_refl _)
      have hl9 := HL.out
      rw [htk] at hl9
      have HL9 := Lib.hid hl9
      clear hl9 hrow
      go_wp2
      go_ret
      refine ⟨_, rfl, ?_, bthen HB1.out HB.out⟩
      have h9 := HO.out
      rw [rl_str, HL9.out] at h9
      rw [← HL9.out] at h9
      refine row_more ?_ HB1.out.size
      rw [← HL9.out]
      exact h9
theorem reflist_any {K : Nat} (h : RTr w B A1 n1 c1 A2 n2 c2 T) (hW : WF T K) (hK : K ≤ 100000) (a b : Int) (p : ByteArray) (hp : p.size ≤ 100000) :
    Calls Tryz.prog 64 #[.agg (RvC A1 n1 c1 A2 n2 c2 a b), .string p] w fun e w' => ∃ v, e = .returned (.tuple #[v, .int .i64 (Nt.lisE T p)]) ∧ OS w' w.heap.size v (if Nt.lisE T p = 0 then Nt.kids T.paths (Nt.nms p) else []) ∧ Below w.heap.size w w' := by
  obtain ⟨W1, hW1, hb1, hs1, x1⟩ := frame1 w (RvC A1 n1 c1 A2 n2 c2 a b) 29
  have CF := Lib.hid (fun W (hh : Below W1.heap.size W1 W) => show W.cell? ⟨w.heap.size, 0, none⟩ = some (.slice A1 n1 c1) ∧ W.cell? ⟨w.heap.size, 1, none⟩ = some (.slice A2 n2 c2) ∧ W.cell? ⟨w.heap.size, 2, none⟩ = some (.int .i64 a) ∧ W.cell? ⟨w.heap.size, 3, none⟩ = some (.int .i64 b) from
    ⟨(x1.later hh).cell rfl, (x1.later hh).cell rfl, (x1.later hh).cell rfl, (x1.later hh).cell rfl⟩)
  have hr1 := h.below hb1
  have kf := Lib.hid (reffind_any hr1 hW hK a b p (by omega))
  have HB1 := Lib.hid hb1
  obtain ⟨y0, y1, y2, y3⟩ := CF.out _ (Below.refl _ _)
  by_cases hc : (T.find p).2 = 0
  · obtain ⟨hps, hm⟩ := hW.find_ok hc
    have hE : Nt.lisE T p = if (T.nd (T.find p).1).kind ≠ 4 then 12 else 0 := by unfold Nt.lisE; rw [if_neg (by simp [hc])]
    rw [hE]
    rw [hc] at kf
    have hlt : (T.find p).1 < n1 := by rw [← h.len1]; exact hW.lt _ _ hm
    obtain ⟨m, hmm⟩ : ∃ m, (T.find p).1 = m := ⟨_, rfl⟩
    rw [hmm] at kf hlt ⊢
    obtain ⟨kn, hkn⟩ : ∃ kn, (T.nd m).kind = kn := ⟨_, rfl⟩
    rw [hkn]
    have hm0 : (0 : Int) ≤ m := by omega
    have hm1 : (m : Int) < n1 := by omega
    have hc1 := h.cap1
    have NF := Lib.hid (fun W (hh : Below W1.heap.size W1 W) => show ∃ g o, A1 = some ⟨g, o, none⟩ ∧ W.cell? ⟨g, o + m * 7, none⟩ = some (.int .i64 kn) from by
      obtain ⟨g, o, e, hcx⟩ := (hr1.below hh).kind hlt
      exact ⟨g, o, e, by rw [← hkn]; exact hcx 0 _ rfl⟩)
    by_cases hk4 : kn = 4
    · rw [if_neg (by simp [hk4]), if_pos rfl]
      have g4 : (kn != 4) = false := by simp [hk4]
      have kk := Lib.hid (fun W (hh : Below W1.heap.size W1 W) => refkids_any (hr1.below hh) hW hK a b (P := Nt.nms p) (Nt.nms_ok (by rcases hps with h | h; exact .inr h; exact .inl h)) (by rw [Nt.txt_nms]; exact hp))
      rw [Nt.txt_nms] at kk
      clear h hW hr1 hb1 x1 hc hm hE hmm hkn hk4 hlt hps
      go_enter Tryz.func64, Tryz.ntmps64
      go_wp2_with (first
        | (go_at_call 106; (with_reducible refine (kk.out _ hb2).mono ?_); rintro e w3 ⟨v, rfl, ho, hb3⟩)
        | (go_at_call 17; (with_reducible refine kf.out.mono ?_); rintro e w2 ⟨rfl, hb2⟩; obtain ⟨z0, z1, z2, z3⟩ := CF.out _ hb2; obtain ⟨g, o, rfl, q0⟩ := NF.out _ hb2))
      go_ret2
      have hbb := bthen hb2 hb3
      exact ⟨v, rfl, row_more ho (by have := HB1.out.size; have := hb2.size; omega), bthen HB1.out hbb⟩
    · rw [if_pos hk4, if_neg (by decide)]
      have g4 : (kn != 4) = true := by simp [hk4]
      clear h hW hr1 hb1 x1 hc hm hE hmm hkn hk4 hlt hps
      go_enter Tryz.func64, Tryz.ntmps64
      go_wp2_with (first
        | (go_at_call 17; (with_reducible refine kf.out.mono ?_); rintro e w2 ⟨rfl, hb2⟩; obtain ⟨z0, z1, z2, z3⟩ := CF.out _ hb2; obtain ⟨g, o, rfl, q0⟩ := NF.out _ hb2))
      go_ret2
      exact ⟨_, rfl, OS.nil _ _, bthen HB1.out hb2⟩
  · have hE : Nt.lisE T p = (T.find p).2 := by unfold Nt.lisE; rw [if_pos hc]
    rw [hE, if_neg hc]
    generalize T.find p = x at *
    obtain ⟨j, z⟩ := x
    simp only at hc kf ⊢
    have g : (z != 0) = true := by simp [hc]
    clear h hW hr1 hb1 x1 hc hE
    go_enter Tryz.func64, Tryz.ntmps64
    go_wp2_with (first
      | (go_at_call 17; (with_reducible refine kf.out.mono ?_); rintro e w2 ⟨rfl, hb2⟩))
    go_ret2
    exact ⟨_, rfl, OS.nil _ _, bthen HB1.out hb2⟩
end
end Go.Proofs.YthgbncpiehcghaaGreatDoor
/- WALKS OF THE DOCUMENT's TREE: Clear, Remove. -/
namespace Go.Proofs.YthgbncpiehcghaaGreatDoor
set_option linter.unusedVariables false
open Go Go.RowKit Go.Maps
set_option maxRecDepth 100000
set_option maxHeartbeats 4000000
open Nt (Tr Nd WF Ps Path at_ cnt used txt)
/-- The four cells of the tree that came in. -/
def Cin (r : Nat) (A1 : Option Addr) (n1 c1 : Nat) (A2 : Option Addr) (n2 c2 : Nat) (a b : Int) (W : World) : Prop :=
  W.cell? ⟨r, 0, none⟩ = some (.slice A1 n1 c1) ∧ W.cell? ⟨r, 1, none⟩ = some (.slice A2 n2 c2) ∧ W.cell? ⟨r, 2, none⟩ = some (.int .i64 a) ∧ W.cell? ⟨r, 3, none⟩ = some (.int .i64 b)
/-- The four cells of the result, that are empty yet. -/
def Cout (r : Nat) (W : World) : Prop :=
  (W.cell? ⟨r, 0, none⟩ = some (.slice none 0 0) ∧ W.frozen? ⟨r, 0, none⟩ = false) ∧ (W.cell? ⟨r, 1, none⟩ = some (.slice none 0 0) ∧ W.frozen? ⟨r, 1, none⟩ = false) ∧ (W.cell? ⟨r, 2, none⟩ = some (.int .i64 0) ∧ W.frozen? ⟨r, 2, none⟩ = false) ∧ (W.cell? ⟨r, 3, none⟩ = some (.int .i64 0) ∧ W.frozen? ⟨r, 3, none⟩ = false)
theorem BX.cin {w : World} {r : Nat} {U : TypeId} {A1 A2 : Option Addr} {n1 c1 n2 c2 : Nat} {a b : Int} (h : BX w r U (RvC A1 n1 c1 A2 n2 c2 a b)) : Cin r A1 n1 c1 A2 n2 c2 a b w := ⟨h.cell rfl, h.cell rfl, h.cell rfl, h.cell rfl⟩
theorem BX.cout {w : World} {r : Nat} {U : TypeId} (h : BX w r U Rv0) : Cout r w := ⟨⟨h.cell rfl, h.free 0⟩, ⟨h.cell rfl, h.free 1⟩, ⟨h.cell rfl, h.free 2⟩, ⟨h.cell rfl, h.free 3⟩⟩
/-- The frame of a method that answers a tree: the tree that came in, the result. -/
theorem frT (w : World) (A1 : Option Addr) (n1 c1 : Nat) (A2 : Option Addr) (n2 c2 : Nat) (a b : Int) : ∃ W, (w.alloc (.cells (RvC A1 n1 c1 A2 n2 c2 a b) 29)).alloc (.cells Rv0 29) = W ∧ Below w.heap.size w W ∧
    (∀ V, Below W.heap.size W V → Cin w.heap.size A1 n1 c1 A2 n2 c2 a b V ∧ Cout (w.heap.size + 1) V) ∧ (∀ V, Below W.heap.size W V → BX V (w.heap.size + 1) 29 Rv0) ∧ (∀ V, Below W.heap.size W V → BX V w.heap.size 29 (RvC A1 n1 c1 A2 n2 c2 a b)) ∧ W.heap.size = w.heap.size + 1 + 1 := by
  obtain ⟨W, hW, hb, hs, x1, x2⟩ := frame2 w (RvC A1 n1 c1 A2 n2 c2 a b) 29 Rv0 29
  exact ⟨W, hW, hb, fun V hV => ⟨(x1.later hV).cin, (x2.later hV).cout⟩, fun V hV => x2.later hV, fun V hV => x1.later hV, hs⟩
theorem kids_none {R : Ps} {P : Path} : Nt.kids R P = [] ↔ Nt.noKids R P = true := by
  constructor
  · intro h
    unfold Nt.noKids
    rw [List.all_eq_true]
    rintro ⟨q, n⟩ hx
    rw [decide_eq_true_iff]
    rintro ⟨h1, h2⟩
    have h3 : q.getLast h1 ∈ Nt.kids R P := Nt.mem_kids.2 ⟨n, by rw [← h2, List.dropLast_concat_getLast]; exact hx⟩
    rw [h] at h3
    cases h3
  · intro h
    rw [List.eq_nil_iff_forall_not_mem]
    intro s hs
    obtain ⟨n, hn⟩ := Nt.mem_kids.1 hs
    unfold Nt.noKids at h
    rw [List.all_eq_true] at h
    have := h _ hn
    rw [decide_eq_true_iff] at this
    exact this ⟨by simp, by simp⟩
/-- The tree's rows, when a result is laid. -/
theorem RTr.oth13f {w w' : World} {B r : Nat} {A1 A2 : Option Addr} {n1 c1 n2 c2 : Nat} {T : Tr} {cs : Array Value} (h : RTr w B A1 n1 c1 A2 n2 c2 T) (ho : Oth r w w') (hb : BX w r 29 cs) (hB : B ≤ r) : RTr w' B A1 n1 c1 A2 n2 c2 T :=
  ⟨h.nodes.oth13 ho hb (by decide), h.paths.oth13 ho hb (by decide), h.cap1, h.cap2, Nat.le_trans h.base ho.2.2.2.1, fun x hx => ⟨(h.data x hx).1.below (ho.below hB h.base), (h.data x hx).2⟩⟩
section
variable {w : World} {B : Nat} {A1 A2 : Option Addr} {n1 c1 n2 c2 : Nat} {T : Tr}
theorem refwithout_ex {K : Nat} (h : RTr w B A1 n1 c1 A2 n2 c2 T) (hW : WF T K) (hK : K ≤ 100000) {P : Path} (hP : ∀ x ∈ P, Pp.Nm x) (hp : (txt P).size ≤ 100000) :
    Calls Tryz.prog 107 #[.agg (RvC A1 n1 c1 A2 n2 c2 T.room T.vol), .string (txt P)] w fun e w' => ∃ A3 n3 c3 A4 n4 c4, e = .returned (.agg (RvC A3 n3 c3 A4 n4 c4 T.room T.vol)) ∧ RTr w' B A3 n3 c3 A4 n4 c4 (T.clr1 P) ∧ Below w.heap.size w w' := by
  refine (refwithout_any h hW hK hP hp).mono ?_
  rintro e w' ⟨v, rfl, ⟨A3, n3, c3, A4, n4, c4, rfl, hr⟩, hb⟩
  exact ⟨A3, n3, c3, A4, n4, c4, rfl, hr, hb⟩
theorem refclear_any {K : Nat} (h : RTr w B A1 n1 c1 A2 n2 c2 T) (hW : WF T K) (hK : K ≤ 100000) (p : ByteArray) (hp : p.size ≤ 100000) :
    Calls Tryz.prog 57 #[.agg (RvC A1 n1 c1 A2 n2 c2 T.room T.vol), .string p] w fun e w' => ∃ v, e = .returned (.tuple #[v, .int .i64 (T.clr p).2]) ∧ Rv w' B v (T.clr p).1 ∧ Below w.heap.size w w' := by
  obtain ⟨W2, hW2, hb2, cf, x2, x1, hs2⟩ := frT w A1 n1 c1 A2 n2 c2 T.room T.vol
  have CF := Lib.hid cf
  have X2 := Lib.hid x2
  have HB := Lib.hid hb2
  have HR := Lib.hid h
  have hr2 := h.below hb2
  have KF := Lib.hid (reffind_any hr2 hW hK T.room T.vol p (by omega))
  have hok : (T.find p).2 = 0 → p.size = 0 ∨ Nt.isP p = true := fun h0 => (hW.find_ok h0).1
  have HWF := Lib.hid hW
  have hE0 : T.clr p = if T.clrE p = 0 then (T.clr1 (Pp.pieces p), 0) else (T, T.clrE p) := rfl
  have hE1 : T.clrE p = if (T.find p).2 ≠ 0 then (T.find p).2 else if p.size = 0 then 1 else 0 := rfl
  obtain ⟨⟨m, z⟩, hmz⟩ : ∃ x, T.find p = x := ⟨_, rfl⟩
  rw [hmz] at KF hE1 hok
  obtain ⟨⟨ca, cb, cc, cd⟩, ⟨ce, cqe⟩, ⟨cg, cqg⟩, ⟨ch, cqh⟩, ci, cqi⟩ := CF.out _ (Below.refl _ _)
  by_cases h0 : z = 0
  · subst h0
    rw [if_neg (by simp)] at hE1
    by_cases hs : p.size = 0
    · rw [if_pos hs] at hE1
      rw [hE1, if_neg (by decide)] at hE0
      rw [hE0]
      have gs : p.toList.isEmpty = true := by rw [isEmpty_eq]; simp [hs]
      have gz0 := hs
      clear h hW hmz hok hb2 cf x1 x2 hr2 hE0 hE1 gz0
      go_enter Tryz.func57, Tryz.ntmps57
      go_wp2_with (first
        | (go_at_call 17; (with_reducible refine KF.out.mono ?_); rintro e w3 ⟨rfl, hb3⟩; obtain ⟨⟨da, db, dc, dd⟩, ⟨de, dqe⟩, ⟨dg, dqg⟩, ⟨dh, dqh⟩, di, dqi⟩ := CF.out _ hb3))
      obtain ⟨W9, hW9, k0, k1, k2, k3, hb9, ho9⟩ := fin4 (X2.out _ hb3) (bthen HB.out hb3) (Nat.le_succ _) (.slice A1 n1 c1) (.slice A2 n2 c2) (.int .i64 T.room) (.int .i64 T.vol)
      rw [hW9]
      refine bodyPost_ret (v := .tuple #[.agg (RvC A1 n1 c1 A2 n2 c2 T.room T.vol), .int .i64 1]) (by simp [results, Tryz.f57, go_sem, k0, k1, k2, k3]) rfl ?_
      exact ⟨_, rfl, ⟨_, _, _, _, _, _, rfl, HR.out.below hb9⟩, hb9⟩
    · rw [if_neg hs] at hE1
      rw [hE1, if_pos rfl] at hE0
      rw [hE0]
      have hP := (hok rfl).resolve_left hs
      have hNm := (Nt.isP_iff.1 hP).2
      have ht : txt (Pp.pieces p) = p := Nt.txt_pieces p
      have gs : p.toList.isEmpty = false := by rw [isEmpty_eq]; simp [hs]
      have KW := Lib.hid (fun W (hh : Below W2.heap.size W2 W) => refwithout_ex (hr2.below hh) hW hK (P := Pp.pieces p) hNm (by rw [ht]; exact hp))
      simp only [ht] at KW
      clear h hW hmz hok hb2 cf x1 x2 hr2 hE0 hE1 hs hNm hP ht
      go_enter Tryz.func57, Tryz.ntmps57
      go_wp2_with (first
        | (go_at_call 107; (with_reducible refine (KW.out _ hb3).mono ?_); rintro e w5 ⟨A3, n3, c3, A4, n4, c4, rfl, hr5, hb5⟩; have HR5 := Lib.hid hr5; have hc5 := bthen hb3 hb5; clear hr5; obtain ⟨⟨ea, eb, ec, ed⟩, ⟨ee, eqe⟩, ⟨eg, eqg⟩, ⟨eh, eqh⟩, ei, eqi⟩ := CF.out _ hc5)
        | (go_at_call 17; (with_reducible refine KF.out.mono ?_); rintro e w3 ⟨rfl, hb3⟩; obtain ⟨⟨da, db, dc, dd⟩, ⟨de, dqe⟩, ⟨dg, dqg⟩, ⟨dh, dqh⟩, di, dqi⟩ := CF.out _ hb3))
      obtain ⟨W9, hW9, k0, k1, k2, k3, hb9, ho9⟩ := fin4 (X2.out _ hc5) (bthen HB.out hc5) (Nat.le_succ _) (.slice A3 n3 c3) (.slice A4 n4 c4) (.int .i64 T.room) (.int .i64 T.vol)
      rw [hW9]
      refine bodyPost_ret (v := .tuple #[.agg (RvC A3 n3 c3 A4 n4 c4 T.room T.vol), .int .i64 0]) (by simp [results, Tryz.f57, go_sem, k0, k1, k2, k3]) rfl ?_
      exact ⟨_, rfl, ⟨_, _, _, _, _, _, rfl, HR5.out.oth13f ho9 (X2.out _ hc5) (by have := HR.out.base; omega)⟩, hb9⟩
  · rw [if_pos h0] at hE1
    rw [hE1, if_neg h0] at hE0
    rw [hE0]
    have gz : (z != 0) = true := by simp [h0]
    clear h hW hmz hok hb2 cf x1 x2 hr2 hE0 hE1
    go_enter Tryz.func57, Tryz.ntmps57
    go_wp2_with (first
      | (go_at_call 17; (with_reducible refine KF.out.mono ?_); rintro e w3 ⟨rfl, hb3⟩; obtain ⟨⟨da, db, dc, dd⟩, ⟨de, dqe⟩, ⟨dg, dqg⟩, ⟨dh, dqh⟩, di, dqi⟩ := CF.out _ hb3))
    obtain ⟨W9, hW9, k0, k1, k2, k3, hb9, ho9⟩ := fin4 (X2.out _ hb3) (bthen HB.out hb3) (Nat.le_succ _) (.slice A1 n1 c1) (.slice A2 n2 c2) (.int .i64 T.room) (.int .i64 T.vol)
    rw [hW9]
    refine bodyPost_ret (v := .tuple #[.agg (RvC A1 n1 c1 A2 n2 c2 T.room T.vol), .int .i64 z]) (by simp [results, Tryz.f57, go_sem, k0, k1, k2, k3]) rfl ?_
    exact ⟨_, rfl, ⟨_, _, _, _, _, _, rfl, HR.out.below hb9⟩, hb9⟩
theorem refremove_any {K : Nat} (h : RTr w B A1 n1 c1 A2 n2 c2 T) (hW : WF T K) (hK : K ≤ 100000) (p : ByteArray) (hp : p.size ≤ 100000) :
    Calls Tryz.prog 56 #[.agg (RvC A1 n1 c1 A2 n2 c2 T.room T.vol), .string p] w fun e w' => ∃ v, e = .returned (.tuple #[v, .int .i64 (T.rm p).2]) ∧ Rv w' B v (T.rm p).1 ∧ Below w.heap.size w w' := by
  obtain ⟨W2, hW2, hb2, cf, x2, x1, hs2⟩ := frT w A1 n1 c1 A2 n2 c2 T.room T.vol
  have CF := Lib.hid cf
  have X2 := Lib.hid x2
  have HB := Lib.hid hb2
  have HR := Lib.hid h
  have hr2 := h.below hb2
  have KF := Lib.hid (reffind_any hr2 hW hK T.room T.vol p (by omega))
  have hok : (T.find p).2 = 0 → p.size = 0 ∨ Nt.isP p = true := fun h0 => (hW.find_ok h0).1
  have HWF := Lib.hid hW
  have hE0 : T.rm p = if T.rmE p = 0 then (T.clr1 (Pp.pieces p), 0) else (T, T.rmE p) := rfl
  have hE2 : T.rmE p = if T.clrE p ≠ 0 then T.clrE p else if Nt.noKids T.paths (Nt.nms p) = false then 18 else 0 := rfl
  have hE1 : T.clrE p = if (T.find p).2 ≠ 0 then (T.find p).2 else if p.size = 0 then 1 else 0 := rfl
  obtain ⟨⟨m, z⟩, hmz⟩ : ∃ x, T.find p = x := ⟨_, rfl⟩
  rw [hmz] at KF hE1 hok
  obtain ⟨⟨ca, cb, cc, cd⟩, ⟨ce, cqe⟩, ⟨cg, cqg⟩, ⟨ch, cqh⟩, ci, cqi⟩ := CF.out _ (Below.refl _ _)
  by_cases h0 : z = 0
  · subst h0
    rw [if_neg (by simp)] at hE1
    by_cases hs : p.size = 0
    · rw [if_pos hs] at hE1
      rw [hE1, if_pos (by decide)] at hE2
      rw [hE2, if_neg (by decide)] at hE0
      rw [hE0]
      have gs : p.toList.isEmpty = true := by rw [isEmpty_eq]; simp [hs]
      have gz0 := hs
      clear h hW hmz hok hb2 cf x1 x2 hr2 hE0 hE1 hE2 gz0
      go_enter Tryz.func56, Tryz.ntmps56
      go_wp2_with (first
        | (go_at_call 17; (with_reducible refine KF.out.mono ?_); rintro e w3 ⟨rfl, hb3⟩; obtain ⟨⟨da, db, dc, dd⟩, ⟨de, dqe⟩, ⟨dg, dqg⟩, ⟨dh, dqh⟩, di, dqi⟩ := CF.out _ hb3))
      obtain ⟨W9, hW9, k0, k1, k2, k3, hb9, ho9⟩ := fin4 (X2.out _ hb3) (bthen HB.out hb3) (Nat.le_succ _) (.slice A1 n1 c1) (.slice A2 n2 c2) (.int .i64 T.room) (.int .i64 T.vol)
      rw [hW9]
      refine bodyPost_ret (v := .tuple #[.agg (RvC A1 n1 c1 A2 n2 c2 T.room T.vol), .int .i64 1]) (by simp [results, Tryz.f56, go_sem, k0, k1, k2, k3]) rfl ?_
      exact ⟨_, rfl, ⟨_, _, _, _, _, _, rfl, HR.out.below hb9⟩, hb9⟩
    · rw [if_neg hs] at hE1
      rw [hE1, if_neg (by decide)] at hE2
      have hP := (hok rfl).resolve_left hs
      have hNm := (Nt.isP_iff.1 hP).2
      have ht : txt (Pp.pieces p) = p := Nt.txt_pieces p
      have gs : p.toList.isEmpty = false := by rw [isEmpty_eq]; simp [hs]
      have KK := Lib.hid (fun W (hh : Below W2.heap.size W2 W) => refkids_any (hr2.below hh) hW hK T.room T.vol (P := Pp.pieces p) hNm (by rw [ht]; exact hp))
      simp only [ht] at KK
      have hkl : (Nt.kids T.paths (Pp.pieces p)).length ≤ T.paths.length := kids13_len _ _
      have hkn : Nt.kids T.paths (Pp.pieces p) = [] ↔ Nt.noKids T.paths (Nt.nms p) = true := by rw [Nt.nms_isP hP]; exact kids_none
      generalize Nt.kids T.paths (Pp.pieces p) = L at *
      obtain ⟨kl, hkl2⟩ : ∃ k, L.length = k := ⟨_, rfl⟩
      rw [hkl2] at hkl
      have hklim : kl ≤ 100000 := Nat.le_trans hkl (Nat.le_trans hW.many hK)
      by_cases hk0 : kl = 0
      · have hno : Nt.noKids T.paths (Nt.nms p) = true := hkn.1 (List.length_eq_zero_iff.1 (by omega))
        rw [hno, if_neg (by decide)] at hE2
        rw [hE2, if_pos rfl] at hE0
        rw [hE0]
        have KW := Lib.hid (fun W (hh : Below W2.heap.size W2 W) => refwithout_ex (hr2.below hh) hW hK (P := Pp.pieces p) hNm (by rw [ht]; exact hp))
        simp only [ht] at KW
        have gk : ¬ (0 : Int) < (kl : Nat) := by omega
        have HKL := Lib.hid hkl2
        clear h hW hmz hok hb2 cf x1 x2 hr2 hE0 hE1 hE2 hs hNm hP ht hkn hno hkl
        go_enter Tryz.func56, Tryz.ntmps56
        go_wp2_with (first
          | (go_at_call 107; (with_reducible refine (KW.out _ hc4).mono ?_); rintro e w5 ⟨A3, n3, c3, A4, n4, c4, rfl, hr5, hb5⟩; have HR5 := Lib.hid hr5; have hc5 := bthen hc4 hb5; clear hr5; obtain ⟨⟨ea, eb, ec, ed⟩, ⟨ee, eqe⟩, ⟨eg, eqg⟩, ⟨eh, eqh⟩, ei, eqi⟩ := CF.out _ hc5)
          | (go_at_call 106; (with_reducible refine (KK.out _ hb3).mono ?_); rintro e w4 ⟨v4, rfl, ho4, hb4⟩; obtain ⟨A6, c6, rfl, hrt6, hl6, hm6⟩ := ho4.rt; clear ho4 hrt6; have hc4 := bthen hb3 hb4; obtain ⟨⟨fa, fb, fc, fd⟩, ⟨fe, fqe⟩, ⟨fg, fqg⟩, ⟨fh, fqh⟩, fi, fqi⟩ := CF.out _ hc4)
          | (go_at_call 17; (with_reducible refine KF.out.mono ?_); rintro e w3 ⟨rfl, hb3⟩; obtain ⟨⟨da, db, dc, dd⟩, ⟨de, dqe⟩, ⟨dg, dqg⟩, ⟨dh, dqh⟩, di, dqi⟩ := CF.out _ hb3))
        obtain ⟨W9, hW9, k0, k1, k2, k3, hb9, ho9⟩ := fin4 (X2.out _ hc5) (bthen HB.out hc5) (Nat.le_succ _) (.slice A3 n3 c3) (.slice A4 n4 c4) (.int .i64 T.room) (.int .i64 T.vol)
        rw [hW9]
        refine bodyPost_ret (v := .tuple #[.agg (RvC A3 n3 c3 A4 n4 c4 T.room T.vol), .int .i64 0]) (by simp [results, Tryz.f56, go_sem, k0, k1, k2, k3]) rfl ?_
        exact ⟨_, rfl, ⟨_, _, _, _, _, _, rfl, HR5.out.oth13f ho9 (X2.out _ hc5) (by have := HR.out.base; omega)⟩, hb9⟩
      · have hno : Nt.noKids T.paths (Nt.nms p) = false := by
          cases e : Nt.noKids T.paths (Nt.nms p) with
          | false => rfl
          | true => exact absurd (by rw [← hkl2, hkn.2 e]; rfl) hk0
        rw [hno, if_pos rfl] at hE2
        rw [hE2, if_neg (by decide)] at hE0
        rw [hE0]
        have gk : (0 : Int) < (kl : Nat) := by omega
        clear h hW hmz hok hb2 cf x1 x2 hr2 hE0 hE1 hE2 hs hNm hP ht hkn hno hkl
        go_enter Tryz.func56, Tryz.ntmps56
        go_wp2_with (first
          | (go_at_call 106; (with_reducible refine (KK.out _ hb3).mono ?_); rintro e w4 ⟨v4, rfl, ho4, hb4⟩; obtain ⟨A6, c6, rfl, hrt6, hl6, hm6⟩ := ho4.rt; clear ho4 hrt6; have hc4 := bthen hb3 hb4; obtain ⟨⟨fa, fb, fc, fd⟩, ⟨fe, fqe⟩, ⟨fg, fqg⟩, ⟨fh, fqh⟩, fi, fqi⟩ := CF.out _ hc4)
          | (go_at_call 17; (with_reducible refine KF.out.mono ?_); rintro e w3 ⟨rfl, hb3⟩; obtain ⟨⟨da, db, dc, dd⟩, ⟨de, dqe⟩, ⟨dg, dqg⟩, ⟨dh, dqh⟩, di, dqi⟩ := CF.out _ hb3))
        obtain ⟨W9, hW9, k0, k1, k2, k3, hb9, ho9⟩ := fin4 (X2.out _ hc4) (bthen HB.out hc4) (Nat.le_succ _) (.slice A1 n1 c1) (.slice A2 n2 c2) (.int .i64 T.room) (.int .i64 T.vol)
        rw [hW9]
        refine bodyPost_ret (v := .tuple #[.agg (RvC A1 n1 c1 A2 n2 c2 T.room T.vol), .int .i64 18]) (by simp [results, Tryz.f56, go_sem, k0, k1, k2, k3]) rfl ?_
        exact ⟨_, rfl, ⟨_, _, _, _, _, _, rfl, HR.out.below hb9⟩, hb9⟩
  · rw [if_pos h0] at hE1
    rw [hE1, if_pos h0] at hE2
    rw [hE2, if_neg h0] at hE0
    rw [hE0]
    have gz : (z != 0) = true := by simp [h0]
    clear h hW hmz hok hb2 cf x1 x2 hr2 hE0 hE1 hE2
    go_enter Tryz.func56, Tryz.ntmps56
    go_wp2_with (first
      | (go_at_call 17; (with_reducible refine KF.out.mono ?_); rintro e w3 ⟨rfl, hb3⟩; obtain ⟨⟨da, db, dc, dd⟩, ⟨de, dqe⟩, ⟨dg, dqg⟩, ⟨dh, dqh⟩, di, dqi⟩ := CF.out _ hb3))
    obtain ⟨W9, hW9, k0, k1, k2, k3, hb9, ho9⟩ := fin4 (X2.out _ hb3) (bthen HB.out hb3) (Nat.le_succ _) (.slice A1 n1 c1) (.slice A2 n2 c2) (.int .i64 T.room) (.int .i64 T.vol)
    rw [hW9]
    refine bodyPost_ret (v := .tuple #[.agg (RvC A1 n1 c1 A2 n2 c2 T.room T.vol), .int .i64 z]) (by simp [results, Tryz.f56, go_sem, k0, k1, k2, k3]) rfl ?_
    exact ⟨_, rfl, ⟨_, _, _, _, _, _, rfl, HR.out.below hb9⟩, hb9⟩
end
end Go.Proofs.YthgbncpiehcghaaGreatDoor
/- WALKS OF THE DOCUMENT's TREE: Link. gen_r13q.py -/
namespace Go.Proofs.YthgbncpiehcghaaGreatDoor
set_option linter.unusedVariables false
open Go Go.RowKit Go.Maps
set_option maxRecDepth 100000
set_option maxHeartbeats 4000000
open Nt (Tr Nd WF Ps Path at_ cnt used txt)
theorem RTr.node {w : World} {B : Nat} {A1 A2 : Option Addr} {n1 c1 n2 c2 : Nat} {T : Tr} (h : RTr w B A1 n1 c1 A2 n2 c2 T) {m : Nat} (hm : m < n1) : ∃ g o, A1 = some ⟨g, o, none⟩ ∧ ∀ (i : Nat) u, (NdC (T.nd m))[i]? = some u → w.cell? ⟨g, o + m * 7 + i, none⟩ = some u := by
  obtain ⟨g, o, x, e, hx, hc⟩ := h.nodes.at_ hm
  have e3 : T.nd m = x := by unfold Tr.nd; simp [List.getD, hx]
  exact ⟨g, o, e, by rw [e3]; exact hc⟩
/-- One path more stands in the tree. -/
theorem lnk_rtr {w w' : World} {B : Nat} {A1 A2 A6 : Option Addr} {n1 c1 n2 c2 c6 m : Nat} {T : Tr} {p : ByteArray} (h : RTr w B A1 n1 c1 A2 n2 c2 T) (ha : ARow w' A6 (n2 + 1) (tps T.paths ++ [(p, m)])) (hc : n2 + 1 ≤ c6 ∧ c6 ≤ maxLen) (hb : Below w.heap.size w w') : RTr w' B A1 n1 c1 A6 (n2 + 1) c6 (T.lnk1 p m) := by
  refine ⟨h.nodes.below hb, ?_, h.cap1, hc, Nat.le_trans h.base hb.size, fun y hy => ⟨(h.data y hy).1.below (hb.mono h.base), (h.data y hy).2⟩⟩
  have e : tps (T.lnk1 p m).paths = tps T.paths ++ [(p, m)] := by
    show tps (T.paths ++ [(Pp.pieces p, m)]) = _
    unfold tps
    rw [List.map_append, List.map_singleton, Nt.txt_pieces]
  rw [e]
  exact ha
theorem lk_store {w w6 W7 : World} {A1 A2 A6 : Option Addr} {n1 c1 n2 c2 n6 c6 : Nat} {a b : Int} {l : List (ByteArray × Nat)} (V1 : BX w6 w.heap.size 29 (RvC A1 n1 c1 A2 n2 c2 a b)) (V2 : BX w6 (w.heap.size + 1) 29 Rv0) (hW7 : w6.setCell ⟨w.heap.size, 1, none⟩ (.slice A6 n6 c6) = W7) (hr : ARow w6 A6 n6 l) :
    ARow W7 A6 n6 l ∧ ((Below w.heap.size w w6 → Below w.heap.size w W7) ∧ BX W7 (w.heap.size + 1) 29 Rv0) ∧ W7.cell? ⟨w.heap.size, 0, none⟩ = some (.slice A1 n1 c1) ∧ W7.cell? ⟨w.heap.size, 1, none⟩ = some (.slice A6 n6 c6) ∧ W7.cell? ⟨w.heap.size, 2, none⟩ = some (.int .i64 a) ∧ W7.cell? ⟨w.heap.size, 3, none⟩ = some (.int .i64 b) ∧ Cout (w.heap.size + 1) W7 := by
  have u1 : BX W7 w.heap.size 29 (RvC A1 n1 c1 A6 n6 c6 a b) := by rw [← hW7]; exact V1.set 1 _
  have u2 : BX W7 (w.heap.size + 1) 29 Rv0 := by rw [← hW7]; exact V2.other (by omega) _
  have o7 : Oth w.heap.size w6 W7 := by rw [← hW7]; exact (Oth.refl _ _).setCell 1 _
  exact ⟨hr.oth13 o7 V1 (by decide), ⟨fun h => h.trans (o7.below (Nat.le_refl _) h.size), u2⟩, u1.cell rfl, u1.cell rfl, u1.cell rfl, u1.cell rfl, u2.cout⟩
section
variable {w : World} {B : Nat} {A1 A2 : Option Addr} {n1 c1 n2 c2 : Nat} {T : Tr}
theorem reflink_any {K : Nat} (h : RTr w B A1 n1 c1 A2 n2 c2 T) (hW : WF T K) (hK : K ≤ 100000) (p old : ByteArray) (hp : p.size ≤ 1000000) (ho : old.size ≤ 1000000) :
    Calls Tryz.prog 53 #[.agg (RvC A1 n1 c1 A2 n2 c2 T.room T.vol), .string p, .string old] w fun e w' => ∃ v, e = .returned (.tuple #[v, .int .i64 (T.lnk p old).2]) ∧ Rv w' B v (T.lnk p old).1 ∧ Below w.heap.size w w' := by
  obtain ⟨W2, hW2, hb2, cf, x2, x1, hs2⟩ := frT w A1 n1 c1 A2 n2 c2 T.room T.vol
  have CF := Lib.hid cf
  have X2 := Lib.hid x2
  have X1 := Lib.hid x1
  have HB := Lib.hid hb2
  have HR := Lib.hid h
  have hr2 := h.below hb2
  have HR2 := Lib.hid hr2
  have KA := Lib.hid (reffresh_any hr2 hW hK T.room T.vol p hp)
  have KF := Lib.hid (fun W (hh : Below W2.heap.size W2 W) => reffind_any (hr2.below hh) hW hK T.room T.vol old ho)
  have hE0 : T.lnk p old = if T.lnkE p old = 0 then (T.lnk1 p (T.find old).1, 0) else (T, T.lnkE p old) := rfl
  have hE1 : T.lnkE p old = if T.fresh p ≠ 0 then T.fresh p else if (T.find old).2 ≠ 0 then (T.find old).2 else if (T.nd (T.find old).1).kind ≠ 1 then 11 else 0 := rfl
  have hlt : (T.find old).2 = 0 → (T.find old).1 < n1 := fun h0 => by rw [← h.len1]; exact hW.lt _ _ (hW.find_ok h0).2
  have hn1 : n1 ≤ 100000 := by rw [← h.len1]; exact Nat.le_trans hW.few hK
  have hn2 : n2 ≤ 100000 := by rw [← h.len2]; exact Nat.le_trans hW.many hK
  have hcc1 := h.cap1
  have hcc2 := h.cap2
  obtain ⟨⟨m, z⟩, hmz⟩ : ∃ x, T.find old = x := ⟨_, rfl⟩
  rw [hmz] at hE0 hE1 hlt
  simp only [hmz] at KF
  obtain ⟨⟨ca, cb, cc, cd⟩, ⟨ce, cqe⟩, ⟨cg, cqg⟩, ⟨ch, cqh⟩, ci, cqi⟩ := CF.out _ (Below.refl _ _)
  obtain ⟨fz, hfz⟩ : ∃ f, T.fresh p = f := ⟨_, rfl⟩
  rw [hfz] at KA hE1
  by_cases hf : fz ≠ 0
  · rw [if_pos hf] at hE1
    rw [hE1, if_neg hf] at hE0
    rw [hE0]
    have gz : (fz != 0) = true := by simp [hf]
    clear h hW hmz hlt hb2 cf x1 x2 hr2 hE0 hE1 hfz hf
    go_enter Tryz.func53, Tryz.ntmps53
    go_wp2_with (first
      | (go_at_call 101; (with_reducible refine KA.out.mono ?_); rintro e w3 ⟨rfl, hb3⟩; obtain ⟨⟨da, db, dc, dd⟩, ⟨de, dqe⟩, ⟨dg, dqg⟩, ⟨dh, dqh⟩, di, dqi⟩ := CF.out _ hb3))
    obtain ⟨W9, hW9, k0, k1, k2, k3, hb9, ho9⟩ := fin4 (X2.out _ hb3) (bthen HB.out hb3) (Nat.le_succ _) (.slice A1 n1 c1) (.slice A2 n2 c2) (.int .i64 T.room) (.int .i64 T.vol)
    rw [hW9]
    refine bodyPost_ret (v := .tuple #[.agg (RvC A1 n1 c1 A2 n2 c2 T.room T.vol), .int .i64 fz]) (by simp [results, Tryz.f53, go_sem, k0, k1, k2, k3]) rfl ?_
    exact ⟨_, rfl, ⟨_, _, _, _, _, _, rfl, HR.out.below hb9⟩, hb9⟩
  · rw [if_neg hf] at hE1
    obtain rfl : fz = 0 := by omega
    by_cases h0 : z ≠ 0
    · rw [if_pos h0] at hE1
      rw [hE1, if_neg h0] at hE0
      rw [hE0]
      have gz : (z != 0) = true := by simp [h0]
      clear h hW hmz hlt hb2 cf x1 x2 hr2 hE0 hE1 hfz hf h0
      go_enter Tryz.func53, Tryz.ntmps53
      go_wp2_with (first
        | (go_at_call 17; (with_reducible refine (KF.out _ hb3).mono ?_); rintro e w4 ⟨rfl, hb4⟩; have hc4 := bthen hb3 hb4; obtain ⟨⟨fa, fb, fc, fd⟩, ⟨fe, fqe⟩, ⟨fg, fqg⟩, ⟨fh, fqh⟩, fi, fqi⟩ := CF.out _ hc4)
        | (go_at_call 101; (with_reducible refine KA.out.mono ?_); rintro e w3 ⟨rfl, hb3⟩; obtain ⟨⟨da, db, dc, dd⟩, ⟨de, dqe⟩, ⟨dg, dqg⟩, ⟨dh, dqh⟩, di, dqi⟩ := CF.out _ hb3))
      obtain ⟨W9, hW9, k0, k1, k2, k3, hb9, ho9⟩ := fin4 (X2.out _ hc4) (bthen HB.out hc4) (Nat.le_succ _) (.slice A1 n1 c1) (.slice A2 n2 c2) (.int .i64 T.room) (.int .i64 T.vol)
      rw [hW9]
      refine bodyPost_ret (v := .tuple #[.agg (RvC A1 n1 c1 A2 n2 c2 T.room T.vol), .int .i64 z]) (by simp [results, Tryz.f53, go_sem, k0, k1, k2, k3]) rfl ?_
      exact ⟨_, rfl, ⟨_, _, _, _, _, _, rfl, HR.out.below hb9⟩, hb9⟩
    · rw [if_neg h0] at hE1
      obtain rfl : z = 0 := by omega
      have hl := hlt rfl
      obtain ⟨kk, hkk⟩ : ∃ k : Int, (T.nd m).kind = k := ⟨_, rfl⟩
      have hE1 : T.lnkE p old = if kk ≠ 1 then 11 else 0 := by rw [← hkk]; exact hE1
      obtain ⟨g1, o1, eA, hcn⟩ := RTr.node hr2 hl
      subst eA
      have QN := Lib.hid (fun W (hh : Below W2.heap.size W2 W) => show W.cell? ⟨g1, o1 + m * 7, none⟩ = some (.int .i64 kk) from by
        obtain ⟨g', o', e', hc'⟩ := RTr.node (hr2.below hh) hl
        cases e'
        rw [← hkk]
        exact hc' 0 _ rfl)
      have hm0 : (0 : Int) ≤ m := by omega
      have hm1 : (m : Int) < n1 := by omega
      have hmt : ((m : Int)).toNat = m := by omega
      by_cases hk : kk ≠ 1
      · rw [if_pos hk] at hE1
        rw [hE1, if_neg (by decide)] at hE0
        rw [hE0]
        have gk : (kk != 1) = true := by simp [hk]
        clear h hW hmz hlt hb2 cf x1 x2 hr2 hE0 hE1 hfz hf h0 hk hkk hcn hl
        go_enter Tryz.func53, Tryz.ntmps53
        go_wp2_with (first
          | (go_at_call 17; (with_reducible refine (KF.out _ hb3).mono ?_); rintro e w4 ⟨rfl, hb4⟩; have hc4 := bthen hb3 hb4; obtain ⟨⟨fa, fb, fc, fd⟩, ⟨fe, fqe⟩, ⟨fg, fqg⟩, ⟨fh, fqh⟩, fi, fqi⟩ := CF.out _ hc4; have q0 := QN.out _ hc4)
          | (go_at_call 101; (with_reducible refine KA.out.mono ?_); rintro e w3 ⟨rfl, hb3⟩; obtain ⟨⟨da, db, dc, dd⟩, ⟨de, dqe⟩, ⟨dg, dqg⟩, ⟨dh, dqh⟩, di, dqi⟩ := CF.out _ hb3))
        obtain ⟨W9, hW9, k0, k1, k2, k3, hb9, ho9⟩ := fin4 (X2.out _ hc4) (bthen HB.out hc4) (Nat.le_succ _) (.slice (some ⟨g1, o1, none⟩) n1 c1) (.slice A2 n2 c2) (.int .i64 T.room) (.int .i64 T.vol)
        rw [hW9]
        refine bodyPost_ret (v := .tuple #[.agg (RvC (some ⟨g1, o1, none⟩) n1 c1 A2 n2 c2 T.room T.vol), .int .i64 11]) (by simp [results, Tryz.f53, go_sem, k0, k1, k2, k3]) rfl ?_
        exact ⟨_, rfl, ⟨_, _, _, _, _, _, rfl, HR.out.below hb9⟩, hb9⟩
      · rw [if_neg hk] at hE1
        rw [hE1, if_pos rfl] at hE0
        rw [hE0]
        obtain rfl : kk = 1 := by omega
        have AP := Lib.hid (fun W (hh : Below W2.heap.size W2 W) => app_at0 (base := W2.heap.size) (hr2.below hh).paths c2 (by omega) hh.size)
        have hl5 : (tps T.paths).length = n2 := h.paths.1
        clear h hW hmz hlt hb2 cf x1 x2 hr2 hE0 hE1 hfz hf h0 hk hkk hcn hl
        go_enter Tryz.func53, Tryz.ntmps53
        go_wp2_with (first
          | (at_builtin; obtain ⟨v6, w6, hr6, ho6, hb6⟩ := app_atN hl5 (HO5.out.alloc (.cells #[.string p, .int .i64 (m : Nat)] 45)) (rowof_one (C := AtC) (z := 2) (x := (p, m)) (BX.new w5 45 #[.string p, .int .i64 (m : Nat)])) 1 (by omega) (by have := HB5.out.size; simp; omega); refine Lib.wpList_append_run _ rfl _ _ 27 27 rfl _ _ rfl rfl _ _ hr6 ?_; obtain ⟨A6, c6, rfl, hrow6, hca6, hcb6⟩ := own_rowof AtC_size ho6 (by rw [List.length_append, hl5]; rfl); have hc6 := (HB5.out.alloc HB5.out.size (.cells #[.string p, .int .i64 (m : Nat)] 45)).trans hb6; have V1 := X1.out _ hc6; have V2 := X2.out _ hc6; have vz := V1.free 1; have vc := V1.cell (j := 1) rfl; obtain ⟨W7, hW7⟩ : ∃ W, w6.setCell ⟨w.heap.size, 1, none⟩ (.slice A6 (n2 + 1) c6) = W := ⟨_, rfl⟩; have LK := lk_store V1 V2 hW7 hrow6; clear hr6 ho6 hrow6; obtain ⟨y1, y2, y3, y4, ⟨y5, y5f⟩, ⟨y6, y6f⟩, ⟨y7, y7f⟩, ⟨y8, y8f⟩⟩ := LK.2.2; have LK1 := Lib.hid LK.1; have LK2 := Lib.hid LK.2.1; clear LK)
          | (at_builtin; obtain ⟨v5, w5, hr5, ho5, hb5⟩ := AP.out _ hc4; refine Lib.wpList_append_run _ rfl _ _ 27 27 rfl _ _ rfl rfl _ _ hr5 ?_; obtain ⟨A5, c5, rfl, _, _, _⟩ := own_rowof AtC_size ho5 hl5; have HO5 := Lib.hid ho5; have HB5 := Lib.hid (bthen hc4 hb5); obtain ⟨⟨ga, gb, gc, gd⟩, ⟨ge, gqe⟩, ⟨gg, gqg⟩, ⟨gh, gqh⟩, gi, gqi⟩ := CF.out _ HB5.out; clear hr5 ho5)
          | (go_at_call 17; (with_reducible refine (KF.out _ hb3).mono ?_); rintro e w4 ⟨rfl, hb4⟩; have hc4 := bthen hb3 hb4; obtain ⟨⟨fa, fb, fc, fd⟩, ⟨fe, fqe⟩, ⟨fg, fqg⟩, ⟨fh, fqh⟩, fi, fqi⟩ := CF.out _ hc4; have q0 := QN.out _ hc4)
          | (go_at_call 101; (with_reducible refine KA.out.mono ?_); rintro e w3 ⟨rfl, hb3⟩; obtain ⟨⟨da, db, dc, dd⟩, ⟨de, dqe⟩, ⟨dg, dqg⟩, ⟨dh, dqh⟩, di, dqi⟩ := CF.out _ hb3))
        obtain ⟨W9, hW9, k0, k1, k2, k3, hb9, ho9⟩ := fin4 LK2.out.2 (LK2.out.1 (bthen HB.out hc6)) (Nat.le_succ _) (.slice (some ⟨g1, o1, none⟩) n1 c1) (.slice A6 (n2 + 1) c6) (.int .i64 T.room) (.int .i64 T.vol)
        rw [hW9]
        refine bodyPost_ret (v := .tuple #[.agg (RvC (some ⟨g1, o1, none⟩) n1 c1 A6 (n2 + 1) c6 T.room T.vol), .int .i64 0]) (by simp [results, Tryz.f53, go_sem, k0, k1, k2, k3]) rfl ?_
        exact ⟨_, rfl, ⟨_, _, _, _, _, _, rfl, lnk_rtr HR.out (LK1.out.oth13 ho9 LK2.out.2 (by decide)) ⟨hca6, hcb6⟩ hb9⟩, hb9⟩
end
end Go.Proofs.YthgbncpiehcghaaGreatDoor
/- WALKS OF THE DOCUMENT's TREE: Set, Write. gen_r13r.py -/
namespace Go.Proofs.YthgbncpiehcghaaGreatDoor
set_option linter.unusedVariables false
open Go Go.RowKit Go.Maps
set_option maxRecDepth 100000
set_option maxHeartbeats 4000000
open Nt (Tr Nd WF Ps Path at_ cnt used txt)
theorem RTr.nodeR {w : World} {B : Nat} {A1 A2 : Option Addr} {n1 c1 n2 c2 : Nat} {T : Tr} (h : RTr w B A1 n1 c1 A2 n2 c2 T) {m : Nat} (hm : m < n1) {kd mo u g ti : Int} {l : ByteArray} {A : Option Addr} {n c : Nat} {xs : List Int} (hx : T.nd m = ⟨kd, mo, u, g, ti, l, A, n, c, xs⟩) :
    ∃ g1 o1, A1 = some ⟨g1, o1, none⟩ ∧ ∀ W, Below w.heap.size w W → W.cell? ⟨g1, o1 + m * 7, none⟩ = some (.int .i64 kd) ∧ W.cell? ⟨g1, o1 + m * 7 + 1, none⟩ = some (.int .i64 mo) ∧ W.cell? ⟨g1, o1 + m * 7 + 2, none⟩ = some (.int .i64 u) ∧ W.cell? ⟨g1, o1 + m * 7 + 3, none⟩ = some (.int .i64 g) ∧ W.cell? ⟨g1, o1 + m * 7 + 4, none⟩ = some (.int .i64 ti) ∧ W.cell? ⟨g1, o1 + m * 7 + 5, none⟩ = some (.string l) ∧ W.cell? ⟨g1, o1 + m * 7 + 6, none⟩ = some (.slice A n c) := by
  obtain ⟨g1, o1, x, e, hx1, _⟩ := h.nodes.at_ hm
  have e3 : T.nd m = x := by unfold Tr.nd; simp [List.getD, hx1]
  refine ⟨g1, o1, e, fun W hb => ?_⟩
  obtain ⟨g', o', x', e', hx', hc⟩ := (h.below hb).nodes.at_ hm
  rw [e] at e'
  cases e'
  rw [hx1] at hx'
  cases hx'
  rw [← e3, hx] at hc
  exact ⟨hc 0 _ rfl, hc 1 _ rfl, hc 2 _ rfl, hc 3 _ rfl, hc 4 _ rfl, hc 5 _ rfl, hc 6 _ rfl⟩
theorem refwith_ex {w : World} {B : Nat} {A1 A2 : Option Addr} {n1 c1 n2 c2 : Nat} {T : Tr} (h : RTr w B A1 n1 c1 A2 n2 c2 T) (m : Nat) (hm : m < n1) (hn : n1 ≤ 100000) (kd mo u g ti : Int) (l : ByteArray) (A : Option Addr) (n c : Nat) (xs : List Int) (hd : RB w B A n xs) (hc : n ≤ c) (hcm : c ≤ maxLen) :
    Calls Tryz.prog 105 #[.agg (RvC A1 n1 c1 A2 n2 c2 T.room T.vol), .int .i64 (m : Nat), .agg #[.int .i64 kd, .int .i64 mo, .int .i64 u, .int .i64 g, .int .i64 ti, .string l, .slice A n c]] w fun e w' => ∃ A' c', e = .returned (.agg (RvC A' n1 c' A2 n2 c2 T.room T.vol)) ∧ RTr w' B A' n1 c' A2 n2 c2 (T.with_ m ⟨kd, mo, u, g, ti, l, A, n, c, xs⟩) ∧ Below w.heap.size w w' := by
  refine (refwith_any h T.room T.vol m hm hn ⟨kd, mo, u, g, ti, l, A, n, c, xs⟩).mono ?_
  rintro e w' ⟨A', c', rfl, hr, h1, h2, hb⟩
  refine ⟨A', c', rfl, ⟨hr, h.paths.below hb, ⟨h1, h2⟩, h.cap2, Nat.le_trans h.base hb.size, fun x hx => ?_⟩, hb⟩
  rcases List.mem_or_eq_of_mem_set hx with h3 | h3
  · exact ⟨(h.data x h3).1.below (hb.mono h.base), (h.data x h3).2⟩
  · subst h3
    exact ⟨hd.below (hb.mono h.base), hc, hcm⟩
/-- A node laid whole into a box that was just made. -/
theorem set7_at {w w5 : World} {U : TypeId} (hb : Below w.heap.size w w5) (c0 c1 c2 c3 c4 c5 c6 : Value) :
    ∃ V, w5.alloc (.cells #[c0, c1, c2, c3, c4, c5, c6] U) = V ∧ BX V w5.heap.size U #[c0, c1, c2, c3, c4, c5, c6] ∧ Below w.heap.size w V :=
  ⟨_, rfl, BX.new w5 U _, bthen hb (below_new w5 _)⟩
/-- Four of its cells stored anew. -/
theorem set4_at {w V1 : World} {a : Nat} {U : TypeId} {c0 c1 c2 c3 c4 c5 c6 : Value} (hx : BX V1 a U #[c0, c1, c2, c3, c4, c5, c6]) (hb : Below w.heap.size w V1) (hs : w.heap.size ≤ a) (v1 v2 v3 v4 : Value) :
    ∃ V, (((V1.setCell ⟨a, 1, none⟩ v1).setCell ⟨a, 2, none⟩ v2).setCell ⟨a, 3, none⟩ v3).setCell ⟨a, 4, none⟩ v4 = V ∧ BX V a U #[c0, v1, v2, v3, v4, c5, c6] ∧ Below w.heap.size w V := by
  have h9 := (((hx.set 1 v1).set 2 v2).set 3 v3).set 4 v4
  exact ⟨_, rfl, by simpa using h9, (((hb.setCell (p := ⟨a, 1, none⟩) hs _).setCell (p := ⟨a, 2, none⟩) hs _).setCell (p := ⟨a, 3, none⟩) hs _).setCell (p := ⟨a, 4, none⟩) hs _⟩
theorem set1_at {w w5 : World} {a : Nat} {U : TypeId} {c0 c1 c2 c3 c4 c5 c6 : Value} (hx : BX w5 a U #[c0, c1, c2, c3, c4, c5, c6]) (hb : Below w.heap.size w w5) (hs : w.heap.size ≤ a) (v : Value) :
    ∃ V, w5.setCell ⟨a, 6, none⟩ v = V ∧ BX V a U #[c0, c1, c2, c3, c4, c5, v] ∧ Below w.heap.size w V := by
  have h9 := hx.set 6 v
  exact ⟨_, rfl, by simpa using h9, hb.setCell (p := ⟨a, 6, none⟩) hs _⟩
section
variable {w : World} {B : Nat} {A1 A2 : Option Addr} {n1 c1 n2 c2 : Nat} {T : Tr}
theorem refset_any {K : Nat} (h : RTr w B A1 n1 c1 A2 n2 c2 T) (hW : WF T K) (hK : K ≤ 100000) (p : ByteArray) (hp : p.size ≤ 1000000) (ma mb mc md : Int) :
    Calls Tryz.prog 55 #[.agg (RvC A1 n1 c1 A2 n2 c2 T.room T.vol), .string p, .agg #[.int .i64 ma, .int .i64 mb, .int .i64 mc, .int .i64 md]] w fun e w' => ∃ v, e = .returned (.tuple #[v, .int .i64 (T.st p ma mb mc md).2]) ∧ Rv w' B v (T.st p ma mb mc md).1 ∧ Below w.heap.size w w' := by
  obtain ⟨W3, hW3, hb3, hs3, x1, x2, x3⟩ := frame3 w (RvC A1 n1 c1 A2 n2 c2 T.room T.vol) 29 #[.int .i64 ma, .int .i64 mb, .int .i64 mc, .int .i64 md] 35 Rv0 29
  have CF := Lib.hid (fun W (hh : Below W3.heap.size W3 W) => And.intro (x1.later hh).cin (x3.later hh).cout)
  have X2 := Lib.hid (fun W (hh : Below W3.heap.size W3 W) => x3.later hh)
  have XM := Lib.hid (fun W (hh : Below W3.heap.size W3 W) => show W.cell? ⟨w.heap.size + 1, 0, none⟩ = some (.int .i64 ma) ∧ W.cell? ⟨w.heap.size + 1, 1, none⟩ = some (.int .i64 mb) ∧ W.cell? ⟨w.heap.size + 1, 2, none⟩ = some (.int .i64 mc) ∧ W.cell? ⟨w.heap.size + 1, 3, none⟩ = some (.int .i64 md) from ⟨(x2.later hh).cell rfl, (x2.later hh).cell rfl, (x2.later hh).cell rfl, (x2.later hh).cell rfl⟩)
  have HB := Lib.hid hb3
  have HR := Lib.hid h
  have hr3 := h.below hb3
  have KF := Lib.hid (reffind_any hr3 hW hK T.room T.vol p hp)
  have KNU := Lib.hid (fun W => refnum13 ma mb mc md W)
  have hE0 : T.st p ma mb mc md = if T.stE p ma mb mc md = 0 then (T.st1 (T.find p).1 ma mb mc md, 0) else (T, T.stE p ma mb mc md) := rfl
  have hE1 : T.stE p ma mb mc md = if (T.find p).2 ≠ 0 then (T.find p).2 else if Nt.metaOk ma mb mc md = false then 10 else 0 := rfl
  have hlt : (T.find p).2 = 0 → (T.find p).1 < n1 := fun h0 => by rw [← h.len1]; exact hW.lt _ _ (hW.find_ok h0).2
  have hn1 : n1 ≤ 100000 := by rw [← h.len1]; exact Nat.le_trans hW.few hK
  have hcc1 := h.cap1
  obtain ⟨⟨m, z⟩, hmz⟩ : ∃ x, T.find p = x := ⟨_, rfl⟩
  rw [hmz] at hE0 hE1 hlt KF
  obtain ⟨mk, hmk⟩ : ∃ mk, Nt.metaOk ma mb mc md = mk := ⟨_, rfl⟩
  rw [hmk] at KNU hE1
  obtain ⟨⟨ca, cb, cc, cd⟩, ⟨ce, cqe⟩, ⟨cg, cqg⟩, ⟨ch, cqh⟩, ci, cqi⟩ := CF.out _ (Below.refl _ _)
  obtain ⟨m0, m1, m2, m3⟩ := XM.out _ (Below.refl _ _)
  by_cases h0 : z ≠ 0
  · rw [if_pos h0] at hE1
    rw [hE1, if_neg h0] at hE0
    rw [hE0]
    have gz : (z != 0) = true := by simp [h0]
    clear h hW hmz hlt hb3 x1 x2 x3 hr3 hE0 hE1 h0 hmk
    go_enter Tryz.func55, Tryz.ntmps55
    go_wp2_with (first
      | (go_at_call 17; (with_reducible refine KF.out.mono ?_); rintro e w4 ⟨rfl, hb4⟩; obtain ⟨⟨da, db, dc, dd⟩, ⟨de, dqe⟩, ⟨dg, dqg⟩, ⟨dh, dqh⟩, di, dqi⟩ := CF.out _ (hb4)))
    obtain ⟨W9, hW9, k0, k1, k2, k3, hb9, ho9⟩ := fin4 (X2.out _ (hb4)) (bthen HB.out (hb4)) (by omega) (.slice A1 n1 c1) (.slice A2 n2 c2) (.int .i64 T.room) (.int .i64 T.vol)
    rw [hW9]
    refine bodyPost_ret (v := .tuple #[.agg (RvC A1 n1 c1 A2 n2 c2 T.room T.vol), .int .i64 z]) (by simp [results, Tryz.f55, go_sem, k0, k1, k2, k3]) rfl ?_
    exact ⟨_, rfl, ⟨_, _, _, _, _, _, rfl, HR.out.below hb9⟩, hb9⟩
  · rw [if_neg h0] at hE1
    obtain rfl : z = 0 := by omega
    have hl := hlt rfl
    cases mk with
    | false =>
      rw [if_pos rfl] at hE1
      rw [hE1, if_neg (by decide)] at hE0
      rw [hE0]
      clear h hW hmz hlt hb3 x1 x2 x3 hr3 hE0 hE1 h0 hmk
      go_enter Tryz.func55, Tryz.ntmps55
      go_wp2_with (first
        | (go_at_call 102; (with_reducible refine (KNU.out _).mono ?_); rintro e w5 ⟨rfl, hb5⟩; have hc5 := bthen hb4 hb5; obtain ⟨⟨ea, eb, ec, ed⟩, ⟨ee, eqe⟩, ⟨eg, eqg⟩, ⟨eh, eqh⟩, ei, eqi⟩ := CF.out _ (hc5))
        | (go_at_call 17; (with_reducible refine KF.out.mono ?_); rintro e w4 ⟨rfl, hb4⟩; obtain ⟨⟨da, db, dc, dd⟩, ⟨de, dqe⟩, ⟨dg, dqg⟩, ⟨dh, dqh⟩, di, dqi⟩ := CF.out _ (hb4); obtain ⟨n0, n1', n2', n3⟩ := XM.out _ hb4))
      obtain ⟨W9, hW9, k0, k1, k2, k3, hb9, ho9⟩ := fin4 (X2.out _ (hc5)) (bthen HB.out (hc5)) (by omega) (.slice A1 n1 c1) (.slice A2 n2 c2) (.int .i64 T.room) (.int .i64 T.vol)
      rw [hW9]
      refine bodyPost_ret (v := .tuple #[.agg (RvC A1 n1 c1 A2 n2 c2 T.room T.vol), .int .i64 10]) (by simp [results, Tryz.f55, go_sem, k0, k1, k2, k3]) rfl ?_
      exact ⟨_, rfl, ⟨_, _, _, _, _, _, rfl, HR.out.below hb9⟩, hb9⟩
    | true =>
      rw [if_neg (by decide)] at hE1
      rw [hE1, if_pos rfl] at hE0
      rw [hE0]
      obtain ⟨⟨kd, mo, u, g, ti, l, A, n, c, xs⟩, hx⟩ : ∃ x, T.nd m = x := ⟨_, rfl⟩
      have hst : T.st1 m ma mb mc md = T.with_ m ⟨kd, ma, mb, mc, md, l, A, n, c, xs⟩ := by unfold Tr.st1; rw [hx]
      rw [hst]
      obtain ⟨g1, o1, eA, hcn⟩ := RTr.nodeR hr3 hl hx
      subst eA
      have QN := Lib.hid hcn
      have hdat := h.data (T.nd m) (by unfold Tr.nd; rw [List.getD_eq_getElem?_getD, List.getElem?_eq_getElem (by rw [h.len1]; exact hl)]; exact List.getElem_mem _)
      rw [hx] at hdat
      have KW := Lib.hid (fun W (hh : Below W3.heap.size W3 W) => refwith_ex (hr3.below hh) m hl hn1 kd ma mb mc md l A n c xs ((hdat.1.below (hb3.mono h.base)).below (hh.mono hr3.base)) hdat.2.1 hdat.2.2)
      have hm0 : (0 : Int) ≤ m := by omega
      have hm1 : (m : Int) < n1 := by omega
      have hmt : ((m : Int)).toNat = m := by omega
      clear h hW hmz hlt hb3 x1 x2 x3 hr3 hE0 hE1 h0 hmk hx hst hcn hdat
      go_enter Tryz.func55, Tryz.ntmps55
      go_wp2_with (first
        | (go_at_call 105; (with_reducible refine (KW.out _ hc6).mono ?_); rintro e w7 ⟨A7, c7, rfl, hr7, hb7⟩; have HR7 := Lib.hid hr7; have hc7 := bthen hc6 hb7; clear hr7; obtain ⟨⟨fa, fb, fc, fd⟩, ⟨fe, fqe⟩, ⟨fg, fqg⟩, ⟨fh, fqh⟩, fi, fqi⟩ := CF.out _ (hc7))
        | (go_at_call 102; (with_reducible refine (KNU.out _).mono ?_); rintro e w5 ⟨rfl, hb5⟩; have hc5 := bthen hb4 hb5; obtain ⟨⟨ea, eb, ec, ed⟩, ⟨ee, eqe⟩, ⟨eg, eqg⟩, ⟨eh, eqh⟩, ei, eqi⟩ := CF.out _ (hc5); obtain ⟨q0, q1, q2, q3, q4, q5, q6⟩ := QN.out _ (hc5); obtain ⟨p0, p1, p2, p3⟩ := XM.out _ hc5; obtain ⟨V1, hV1, hx5, hba⟩ := set7_at (w := W3) (U := 114) hc5 (.int .i64 kd) (.int .i64 mo) (.int .i64 u) (.int .i64 g) (.int .i64 ti) (.string l) (.slice A n c); have xf1 := hx5.free 1; have xf2 := hx5.free 2; have xf3 := hx5.free 3; have xf4 := hx5.free 4; have xc1 := hx5.cell (j := 1) rfl; have xc2 := hx5.cell (j := 2) rfl; have xc3 := hx5.cell (j := 3) rfl; have xc4 := hx5.cell (j := 4) rfl; obtain ⟨r0, r1, r2, r3⟩ := XM.out _ hba; obtain ⟨V, hV, hvx, hvb⟩ := set4_at hx5 hba hc5.size (.int .i64 ma) (.int .i64 mb) (.int .i64 mc) (.int .i64 md); have hc6 := hvb; obtain ⟨⟨g'a, g'b, g'c, g'd⟩, ⟨g'e, g'qe⟩, ⟨g'g, g'qg⟩, ⟨g'h, g'qh⟩, g'i, g'qi⟩ := CF.out _ (hc6); have s0 := hvx.cell (j := 0) rfl; have s1 := hvx.cell (j := 1) rfl; have s2 := hvx.cell (j := 2) rfl; have s3 := hvx.cell (j := 3) rfl; have s4 := hvx.cell (j := 4) rfl; have s5 := hvx.cell (j := 5) rfl; have s6 := hvx.cell (j := 6) rfl)
        | (go_at_call 17; (with_reducible refine KF.out.mono ?_); rintro e w4 ⟨rfl, hb4⟩; obtain ⟨⟨da, db, dc, dd⟩, ⟨de, dqe⟩, ⟨dg, dqg⟩, ⟨dh, dqh⟩, di, dqi⟩ := CF.out _ (hb4); obtain ⟨n0, n1', n2', n3⟩ := XM.out _ hb4))
      obtain ⟨W9, hW9, k0, k1, k2, k3, hb9, ho9⟩ := fin4 (X2.out _ (hc7)) (bthen HB.out (hc7)) (by omega) (.slice A7 n1 c7) (.slice A2 n2 c2) (.int .i64 T.room) (.int .i64 T.vol)
      rw [hW9]
      refine bodyPost_ret (v := .tuple #[.agg (RvC A7 n1 c7 A2 n2 c2 T.room T.vol), .int .i64 0]) (by simp [results, Tryz.f55, go_sem, k0, k1, k2, k3]) rfl ?_
      exact ⟨_, rfl, ⟨_, _, _, _, _, _, rfl, HR7.out.oth13f ho9 (X2.out _ hc7) (by have := HR.out.base; omega)⟩, hb9⟩
theorem refwrite_any {K : Nat} (h : RTr w B A1 n1 c1 A2 n2 c2 T) (hW : WF T K) (hK : K ≤ 100000) (p : ByteArray) (hp : p.size ≤ 1000000) (DA : Option Addr) (dn dc : Nat) (ds : List Int) (hd : RB w B DA dn ds) (hdc : dn ≤ dc) (hdm : dc ≤ maxLen) (hdn : dn ≤ 1000000) :
    Calls Tryz.prog 54 #[.agg (RvC A1 n1 c1 A2 n2 c2 T.room T.vol), .string p, .slice DA dn dc] w fun e w' => ∃ v, e = .returned (.tuple #[v, .int .i64 (T.wr p DA dn dc ds).2]) ∧ Rv w' B v (T.wr p DA dn dc ds).1 ∧ Below w.heap.size w w' := by
  obtain ⟨W3, hW3, hb3, cf, x2, x1, hs2⟩ := frT w A1 n1 c1 A2 n2 c2 T.room T.vol
  have CF := Lib.hid cf
  have X2 := Lib.hid x2
  have HB := Lib.hid hb3
  have HR := Lib.hid h
  have hr3 := h.below hb3
  have KF := Lib.hid (reffind_any hr3 hW hK T.room T.vol p hp)
  have hE0 : T.wr p DA dn dc ds = if T.wrE p dn = 0 then (T.wr1 (T.find p).1 DA dn dc ds, 0) else (T, T.wrE p dn) := rfl
  have hE1 : T.wrE p dn = if (T.find p).2 ≠ 0 then (T.find p).2 else if (T.nd (T.find p).1).kind = 4 then 13 else if (T.nd (T.find p).1).kind = 3 then 11 else if 4096 < dn then 10 else if T.roomy 0 ((dn : Int) - (T.nd (T.find p).1).n) = false then 14 else 0 := rfl
  have hlt : (T.find p).2 = 0 → (T.find p).1 < n1 := fun h0 => by rw [← h.len1]; exact hW.lt _ _ (hW.find_ok h0).2
  have hn1 : n1 ≤ 100000 := by rw [← h.len1]; exact Nat.le_trans hW.few hK
  have hcc1 := h.cap1
  obtain ⟨⟨m, z⟩, hmz⟩ : ∃ x, T.find p = x := ⟨_, rfl⟩
  rw [hmz] at hE0 hE1 hlt KF
  obtain ⟨⟨ca, cb, cc, cd⟩, ⟨ce, cqe⟩, ⟨cg, cqg⟩, ⟨ch, cqh⟩, ci, cqi⟩ := CF.out _ (Below.refl _ _)
  by_cases h0 : z ≠ 0
  · rw [if_pos h0] at hE1
    rw [hE1, if_neg h0] at hE0
    rw [hE0]
    have gz : (z != 0) = true := by simp [h0]
    clear h hW hmz hlt hb3 x1 x2 hr3 hE0 hE1 h0 hd
    go_enter Tryz.func54, Tryz.ntmps54
    go_wp2_with (first
      | (go_at_call 17; (with_reducible refine KF.out.mono ?_); rintro e w4 ⟨rfl, hb4⟩; obtain ⟨⟨ya, yb, yc, yd⟩, ⟨ye, yqe⟩, ⟨yg, yqg⟩, ⟨yh, yqh⟩, yi, yqi⟩ := CF.out _ (hb4)))
    obtain ⟨W9, hW9, k0, k1, k2, k3, hb9, ho9⟩ := fin4 (X2.out _ (hb4)) (bthen HB.out (hb4)) (by omega) (.slice A1 n1 c1) (.slice A2 n2 c2) (.int .i64 T.room) (.int .i64 T.vol)
    rw [hW9]
    refine bodyPost_ret (v := .tuple #[.agg (RvC A1 n1 c1 A2 n2 c2 T.room T.vol), .int .i64 z]) (by simp [results, Tryz.f54, go_sem, k0, k1, k2, k3]) rfl ?_
    exact ⟨_, rfl, ⟨_, _, _, _, _, _, rfl, HR.out.below hb9⟩, hb9⟩
  · rw [if_neg h0] at hE1
    obtain rfl : z = 0 := by omega
    have hl := hlt rfl
    obtain ⟨⟨kd, mo, u, g, ti, l, A, n, c, xs⟩, hx⟩ : ∃ x, T.nd m = x := ⟨_, rfl⟩
    rw [hx] at hE1
    have hst : T.wr1 m DA dn dc ds = T.with_ m ⟨kd, mo, u, g, ti, l, DA, dn, dc, ds⟩ := by unfold Tr.wr1; rw [hx]
    rw [hst] at hE0
    obtain ⟨g1, o1, eA, hcn⟩ := RTr.nodeR hr3 hl hx
    subst eA
    have QN := Lib.hid hcn
    have hn4 : n ≤ 4096 := by
      have h9 := hW.kinds (T.nd m) (by unfold Tr.nd; rw [List.getD_eq_getElem?_getD, List.getElem?_eq_getElem (by rw [h.len1]; exact hl)]; exact List.getElem_mem _)
      rw [hx] at h9
      exact h9.2.2.1
    have KW := Lib.hid (fun W (hh : Below W3.heap.size W3 W) => refwith_ex (hr3.below hh) m hl hn1 kd mo u g ti l DA dn dc ds ((hd.below (hb3.mono h.base)).below (hh.mono hr3.base)) hdc hdm)
    have KR := Lib.hid (fun W (hh : Below W3.heap.size W3 W) => refroom_any (hr3.below hh) hW hK 0 ((dn : Int) - (n : Int)) (by omega) (by omega))
    obtain ⟨rm, hrm⟩ : ∃ r, T.roomy 0 ((dn : Int) - (n : Int)) = r := ⟨_, rfl⟩
    replace hE1 : T.wrE p dn = if kd = 4 then 13 else if kd = 3 then 11 else if 4096 < dn then 10 else if rm = false then 14 else 0 := by rw [hE1, ← hrm]
    rw [hrm] at KR
    have hm0 : (0 : Int) ≤ m := by omega
    have hm1 : (m : Int) < n1 := by omega
    have hmt : ((m : Int)).toNat = m := by omega
    have hwr : IntKind.i64.wrap ((dn : Int) - (n : Int)) = (dn : Int) - (n : Int) := wrap_small (by omega) (by omega)
    clear h hW hmz hlt hb3 x1 x2 hr3 h0 hx hst hcn hd hrm
    by_cases h4 : kd = 4
    · subst h4
      rw [if_pos rfl] at hE1
      rw [hE1, if_neg (by decide)] at hE0
      rw [hE0]
      clear hE0 hE1
      go_enter Tryz.func54, Tryz.ntmps54
      go_wp2_with (first
        | (go_at_call 17; (with_reducible refine KF.out.mono ?_); rintro e w4 ⟨rfl, hb4⟩; obtain ⟨⟨ya, yb, yc, yd⟩, ⟨ye, yqe⟩, ⟨yg, yqg⟩, ⟨yh, yqh⟩, yi, yqi⟩ := CF.out _ (hb4); obtain ⟨q0, q1, q2, q3, q4, q5, q6⟩ := QN.out _ (hb4); obtain ⟨V1, hV1, hx4, hba⟩ := set7_at (w := W3) (U := 114) hb4 (.int .i64 4) (.int .i64 mo) (.int .i64 u) (.int .i64 g) (.int .i64 ti) (.string l) (.slice A n c); have t0 := hx4.cell (j := 0) rfl; have t6 := hx4.cell (j := 6) rfl; obtain ⟨⟨ea, eb, ec, ed⟩, ⟨ee, eqe⟩, ⟨eg, eqg⟩, ⟨eh, eqh⟩, ei, eqi⟩ := CF.out _ (hba)))
      obtain ⟨W9, hW9, k0, k1, k2, k3, hb9, ho9⟩ := fin4 (X2.out _ (hba)) (bthen HB.out (hba)) (by omega) (.slice (some ⟨g1, o1, none⟩) n1 c1) (.slice A2 n2 c2) (.int .i64 T.room) (.int .i64 T.vol)
      rw [hW9]
      refine bodyPost_ret (v := .tuple #[.agg (RvC (some ⟨g1, o1, none⟩) n1 c1 A2 n2 c2 T.room T.vol), .int .i64 13]) (by simp [results, Tryz.f54, go_sem, k0, k1, k2, k3]) rfl ?_
      exact ⟨_, rfl, ⟨_, _, _, _, _, _, rfl, HR.out.below hb9⟩, hb9⟩
    · rw [if_neg h4] at hE1
      have g4 : (kd == 4) = false := by simp [h4]
      by_cases h3 : kd = 3
      · subst h3
        rw [if_pos rfl] at hE1
        rw [hE1, if_neg (by decide)] at hE0
        rw [hE0]
        clear hE0 hE1
        go_enter Tryz.func54, Tryz.ntmps54
        go_wp2_with (first
          | (go_at_call 17; (with_reducible refine KF.out.mono ?_); rintro e w4 ⟨rfl, hb4⟩; obtain ⟨⟨ya, yb, yc, yd⟩, ⟨ye, yqe⟩, ⟨yg, yqg⟩, ⟨yh, yqh⟩, yi, yqi⟩ := CF.out _ (hb4); obtain ⟨q0, q1, q2, q3, q4, q5, q6⟩ := QN.out _ (hb4); obtain ⟨V1, hV1, hx4, hba⟩ := set7_at (w := W3) (U := 114) hb4 (.int .i64 3) (.int .i64 mo) (.int .i64 u) (.int .i64 g) (.int .i64 ti) (.string l) (.slice A n c); have t0 := hx4.cell (j := 0) rfl; have t6 := hx4.cell (j := 6) rfl; obtain ⟨⟨ea, eb, ec, ed⟩, ⟨ee, eqe⟩, ⟨eg, eqg⟩, ⟨eh, eqh⟩, ei, eqi⟩ := CF.out _ (hba)))
        obtain ⟨W9, hW9, k0, k1, k2, k3, hb9, ho9⟩ := fin4 (X2.out _ (hba)) (bthen HB.out (hba)) (by omega) (.slice (some ⟨g1, o1, none⟩) n1 c1) (.slice A2 n2 c2) (.int .i64 T.room) (.int .i64 T.vol)
        rw [hW9]
        refine bodyPost_ret (v := .tuple #[.agg (RvC (some ⟨g1, o1, none⟩) n1 c1 A2 n2 c2 T.room T.vol), .int .i64 11]) (by simp [results, Tryz.f54, go_sem, k0, k1, k2, k3]) rfl ?_
        exact ⟨_, rfl, ⟨_, _, _, _, _, _, rfl, HR.out.below hb9⟩, hb9⟩
      · rw [if_neg h3] at hE1
        have g3 : (kd == 3) = false := by simp [h3]
        by_cases h9 : 4096 < dn
        · rw [if_pos h9] at hE1
          rw [hE1, if_neg (by decide)] at hE0
          rw [hE0]
          have h9i : (4096 : Int) < dn := by omega
          clear hE0 hE1 h4 h3
          go_enter Tryz.func54, Tryz.ntmps54
          go_wp2_with (first
            | (go_at_call 17; (with_reducible refine KF.out.mono ?_); rintro e w4 ⟨rfl, hb4⟩; obtain ⟨⟨ya, yb, yc, yd⟩, ⟨ye, yqe⟩, ⟨yg, yqg⟩, ⟨yh, yqh⟩, yi, yqi⟩ := CF.out _ (hb4); obtain ⟨q0, q1, q2, q3, q4, q5, q6⟩ := QN.out _ (hb4); obtain ⟨V1, hV1, hx4, hba⟩ := set7_at (w := W3) (U := 114) hb4 (.int .i64 kd) (.int .i64 mo) (.int .i64 u) (.int .i64 g) (.int .i64 ti) (.string l) (.slice A n c); have t0 := hx4.cell (j := 0) rfl; have t6 := hx4.cell (j := 6) rfl; obtain ⟨⟨ea, eb, ec, ed⟩, ⟨ee, eqe⟩, ⟨eg, eqg⟩, ⟨eh, eqh⟩, ei, eqi⟩ := CF.out _ (hba)))
          obtain ⟨W9, hW9, k0, k1, k2, k3, hb9, ho9⟩ := fin4 (X2.out _ (hba)) (bthen HB.out (hba)) (by omega) (.slice (some ⟨g1, o1, none⟩) n1 c1) (.slice A2 n2 c2) (.int .i64 T.room) (.int .i64 T.vol)
          rw [hW9]
          refine bodyPost_ret (v := .tuple #[.agg (RvC (some ⟨g1, o1, none⟩) n1 c1 A2 n2 c2 T.room T.vol), .int .i64 10]) (by simp [results, Tryz.f54, go_sem, k0, k1, k2, k3]) rfl ?_
          exact ⟨_, rfl, ⟨_, _, _, _, _, _, rfl, HR.out.below hb9⟩, hb9⟩
        · rw [if_neg h9] at hE1
          have h9i : ¬ (4096 : Int) < dn := by omega
          cases rm with
          | false =>
            rw [if_pos rfl] at hE1
            rw [hE1, if_neg (by decide)] at hE0
            rw [hE0]
            clear hE0 hE1 h4 h3 h9
            go_enter Tryz.func54, Tryz.ntmps54
            go_wp2_with (first
              | (go_at_call 104; (with_reducible refine (KR.out _ hba).mono ?_); rintro e w5 ⟨rfl, hb5⟩; have hc5 := bthen hba hb5; obtain ⟨⟨e2a, e2b, e2c, e2d⟩, ⟨e2e, e2qe⟩, ⟨e2g, e2qg⟩, ⟨e2h, e2qh⟩, e2i, e2qi⟩ := CF.out _ (hc5))
              | (go_at_call 17; (with_reducible refine KF.out.mono ?_); rintro e w4 ⟨rfl, hb4⟩; obtain ⟨⟨ya, yb, yc, yd⟩, ⟨ye, yqe⟩, ⟨yg, yqg⟩, ⟨yh, yqh⟩, yi, yqi⟩ := CF.out _ (hb4); obtain ⟨q0, q1, q2, q3, q4, q5, q6⟩ := QN.out _ (hb4); obtain ⟨V1, hV1, hx4, hba⟩ := set7_at (w := W3) (U := 114) hb4 (.int .i64 kd) (.int .i64 mo) (.int .i64 u) (.int .i64 g) (.int .i64 ti) (.string l) (.slice A n c); have t0 := hx4.cell (j := 0) rfl; have t6 := hx4.cell (j := 6) rfl; obtain ⟨⟨ea, eb, ec, ed⟩, ⟨ee, eqe⟩, ⟨eg, eqg⟩, ⟨eh, eqh⟩, ei, eqi⟩ := CF.out _ (hba)))
            obtain ⟨W9, hW9, k0, k1, k2, k3, hb9, ho9⟩ := fin4 (X2.out _ (hc5)) (bthen HB.out (hc5)) (by omega) (.slice (some ⟨g1, o1, none⟩) n1 c1) (.slice A2 n2 c2) (.int .i64 T.room) (.int .i64 T.vol)
            rw [hW9]
            refine bodyPost_ret (v := .tuple #[.agg (RvC (some ⟨g1, o1, none⟩) n1 c1 A2 n2 c2 T.room T.vol), .int .i64 14]) (by simp [results, Tryz.f54, go_sem, k0, k1, k2, k3]) rfl ?_
            exact ⟨_, rfl, ⟨_, _, _, _, _, _, rfl, HR.out.below hb9⟩, hb9⟩
          | true =>
            rw [if_neg (by decide)] at hE1
            rw [hE1, if_pos rfl] at hE0
            rw [hE0]
            clear hE0 hE1 h4 h3 h9
            go_enter Tryz.func54, Tryz.ntmps54
            go_wp2_with (first
              | (go_at_call 105; (with_reducible refine (KW.out _ hc6).mono ?_); rintro e w7 ⟨A7, c7, rfl, hr7, hb7⟩; have HR7 := Lib.hid hr7; have hc7 := bthen hc6 hb7; clear hr7; obtain ⟨⟨fa, fb, fc, fd⟩, ⟨fe, fqe⟩, ⟨fg, fqg⟩, ⟨fh, fqh⟩, fi, fqi⟩ := CF.out _ (hc7))
              | (go_at_call 104; (with_reducible refine (KR.out _ hba).mono ?_); rintro e w5 ⟨rfl, hb5⟩; have hc5 := bthen hba hb5; have hx5 := hx4.later hb5; obtain ⟨⟨e2a, e2b, e2c, e2d⟩, ⟨e2e, e2qe⟩, ⟨e2g, e2qg⟩, ⟨e2h, e2qh⟩, e2i, e2qi⟩ := CF.out _ (hc5); have x5f := hx5.free 6; have x5c := hx5.cell (j := 6) rfl; obtain ⟨V, hV, hvx, hvb⟩ := set1_at hx5 hc5 hb4.size (.slice DA dn dc); have hc6 := hvb; obtain ⟨⟨e3a, e3b, e3c, e3d⟩, ⟨e3e, e3qe⟩, ⟨e3g, e3qg⟩, ⟨e3h, e3qh⟩, e3i, e3qi⟩ := CF.out _ (hc6); have s0 := hvx.cell (j := 0) rfl; have s1 := hvx.cell (j := 1) rfl; have s2 := hvx.cell (j := 2) rfl; have s3 := hvx.cell (j := 3) rfl; have s4 := hvx.cell (j := 4) rfl; have s5 := hvx.cell (j := 5) rfl; have s6 := hvx.cell (j := 6) rfl)
              | (go_at_call 17; (with_reducible refine KF.out.mono ?_); rintro e w4 ⟨rfl, hb4⟩; obtain ⟨⟨ya, yb, yc, yd⟩, ⟨ye, yqe⟩, ⟨yg, yqg⟩, ⟨yh, yqh⟩, yi, yqi⟩ := CF.out _ (hb4); obtain ⟨q0, q1, q2, q3, q4, q5, q6⟩ := QN.out _ (hb4); obtain ⟨V1, hV1, hx4, hba⟩ := set7_at (w := W3) (U := 114) hb4 (.int .i64 kd) (.int .i64 mo) (.int .i64 u) (.int .i64 g) (.int .i64 ti) (.string l) (.slice A n c); have t0 := hx4.cell (j := 0) rfl; have t6 := hx4.cell (j := 6) rfl; obtain ⟨⟨ea, eb, ec, ed⟩, ⟨ee, eqe⟩, ⟨eg, eqg⟩, ⟨eh, eqh⟩, ei, eqi⟩ := CF.out _ (hba)))
            obtain ⟨W9, hW9, k0, k1, k2, k3, hb9, ho9⟩ := fin4 (X2.out _ (hc7)) (bthen HB.out (hc7)) (by omega) (.slice A7 n1 c7) (.slice A2 n2 c2) (.int .i64 T.room) (.int .i64 T.vol)
            rw [hW9]
            refine bodyPost_ret (v := .tuple #[.agg (RvC A7 n1 c7 A2 n2 c2 T.room T.vol), .int .i64 0]) (by simp [results, Tryz.f54, go_sem, k0, k1, k2, k3]) rfl ?_
            exact ⟨_, rfl, ⟨_, _, _, _, _, _, rfl, HR7.out.oth13f ho9 (X2.out _ hc7) (by have := HR.out.base; omega)⟩, hb9⟩
end
end Go.Proofs.YthgbncpiehcghaaGreatDoor
/- WALKS OF THE DOCUMENT's TREE: Rename. gen_r13s.py -/
namespace Go.Proofs.YthgbncpiehcghaaGreatDoor
set_option linter.unusedVariables false
open Go Go.RowKit Go.Maps
set_option maxRecDepth 100000
set_option maxHeartbeats 4000000
open Nt (Tr Nd WF Ps Path at_ cnt used txt)
theorem parE_isP {T : Tr} {p : ByteArray} (h : T.parE p = 0) : Nt.isP p = true := by
  by_cases hP : Nt.isP p = true
  · exact hP
  · unfold Tr.parE at h
    rw [if_neg hP] at h
    exact absurd h (by decide)
theorem refmoved_ex {w : World} {B : Nat} {A1 A2 : Option Addr} {n1 c1 n2 c2 : Nat} {T : Tr} {K : Nat} {R : Path} (h : RTr w B A1 n1 c1 A2 n2 c2 (T.clr1 R)) (hN : ∀ q m, (q, m) ∈ (T.clr1 R).paths → (∀ x ∈ q, Pp.Nm x) ∧ (txt q).size ≤ K) (hmany : (T.clr1 R).paths.length ≤ K) (hK : K ≤ 100000) {P Q : Path} (hP : ∀ x ∈ P, Pp.Nm x) (hQ : ∀ x ∈ Q, Pp.Nm x) (hp : (txt P).size ≤ 100000) (hq : (txt Q).size ≤ 100000) :
    Calls Tryz.prog 110 #[.agg (RvC A1 n1 c1 A2 n2 c2 T.room T.vol), .string (txt P), .string (txt Q)] w fun e w' => ∃ A3 n3 c3 A4 n4 c4, e = .returned (.agg (RvC A3 n3 c3 A4 n4 c4 T.room T.vol)) ∧ RTr w' B A3 n3 c3 A4 n4 c4 { T with paths := (T.clr1 R).paths.map (Nt.mv P Q) } ∧ Below w.heap.size w w' := by
  refine (refmoved_any h hN hmany hK hP hQ hp hq).mono ?_
  rintro e w' ⟨v, rfl, ⟨A3, n3, c3, A4, n4, c4, rfl, hr⟩, hb⟩
  exact ⟨A3, n3, c3, A4, n4, c4, rfl, hr, hb⟩
theorem fnd_pos {T : Tr} : ∀ (r pre : Path) (n : Nat), 0 ≤ (T.fnd pre n r).2
  | [], _, _ => Int.le_refl _
  | x :: r, pre, n => by
    unfold Tr.fnd
    split
    · decide
    · split
      · decide
      · exact fnd_pos r _ _
theorem find_pos {T : Tr} {p : ByteArray} : 0 ≤ (T.find p).2 := by
  unfold Tr.find
  split
  · decide
  · split
    · exact fnd_pos _ _ _
    · decide
theorem par_pos {T : Tr} {p : ByteArray} : 0 ≤ T.parE p := by
  unfold Tr.parE
  split
  · simp only
    split
    · exact fnd_pos _ _ _
    · split <;> decide
  · decide
section
variable {w : World} {B : Nat} {A1 A2 : Option Addr} {n1 c1 n2 c2 : Nat} {T : Tr}
theorem refrename_any {K : Nat} (h : RTr w B A1 n1 c1 A2 n2 c2 T) (hW : WF T K) (hK : K ≤ 100000) (f t : ByteArray) (hf : f.size ≤ 100000) (ht : t.size ≤ 100000) :
    Calls Tryz.prog 58 #[.agg (RvC A1 n1 c1 A2 n2 c2 T.room T.vol), .string f, .string t] w fun e w' => ∃ v, e = .returned (.tuple #[v, .int .i64 (T.rn f t).2]) ∧ Rv w' B v (T.rn f t).1 ∧ Below w.heap.size w w' := by
  obtain ⟨W2, hW2, hb2, cf, x2, x1, hs2⟩ := frT w A1 n1 c1 A2 n2 c2 T.room T.vol
  have CF := Lib.hid cf
  have X2 := Lib.hid x2
  have HB := Lib.hid hb2
  have HR := Lib.hid h
  have hr2 := h.below hb2
  have KF := Lib.hid (reffind_any hr2 hW hK T.room T.vol f (by omega))
  have KP := Lib.hid (fun W (hh : Below W2.heap.size W2 W) => refpar_any (hr2.below hh) hW hK T.room T.vol t (by omega))
  have KL := Lib.hid (fun W (hh : Below W2.heap.size W2 W) => refplace_any (hr2.below hh) T.room T.vol t)
  have hE0 : T.rn f t = if T.rnE f t = 0 then (T.rn1 (Pp.pieces f) (Pp.pieces t), 0) else if T.rnE f t = -1 then (T, 0) else (T, T.rnE f t) := rfl
  have hE1 : T.rnE f t = if (T.find f).2 ≠ 0 then (T.find f).2 else if (T.find f).1 = 0 then 1 else if T.parE t ≠ 0 then T.parE t
      else match at_ T.paths (Pp.pieces t) with
        | some k => if k = (T.find f).1 then -1 else if (T.nd (T.find f).1).kind = 4 then 7 else if (T.nd k).kind = 4 then 13 else 0
        | none => if (T.nd (T.find f).1).kind = 4 then (if Pp.pieces f <+: Pp.pieces t then 1 else 0) else 0 := rfl
  have hfind : (T.find f).2 = 0 → (f.size = 0 ∨ Nt.isP f = true) ∧ ((T.find f).1 = 0 ↔ f.size = 0) ∧ (Nt.nms f, (T.find f).1) ∈ T.paths := fun h0 => ⟨(hW.find_ok h0).1, hW.find_root h0, (hW.find_ok h0).2⟩
  obtain ⟨⟨m, z⟩, hmz⟩ : ∃ x, T.find f = x := ⟨_, rfl⟩
  rw [hmz] at hE1 KF hfind
  have hz8 : z ≠ -1 := fun e => by
    have := find_pos (T := T) (p := f)
    rw [hmz] at this
    simp only at this
    omega
  have hn1 : n1 ≤ 100000 := by rw [← h.len1]; exact Nat.le_trans hW.few hK
  have hn2 : n2 ≤ 100000 := by rw [← h.len2]; exact Nat.le_trans hW.many hK
  have hcc1 := h.cap1
  have hcc2 := h.cap2
  obtain ⟨⟨ca, cb, cc, cd⟩, ⟨ce, cqe⟩, ⟨cg, cqg⟩, ⟨ch, cqh⟩, ci, cqi⟩ := CF.out _ (Below.refl _ _)
  by_cases h0 : z ≠ 0
  · rw [if_pos h0] at hE1
    rw [hE1, if_neg h0, if_neg hz8] at hE0
    rw [hE0]
    have gz : (z != 0) = true := by simp [h0]
    clear h hW hmz hb2 cf x1 x2 hr2 hE0 hE1 hfind h0 hz8
    go_enter Tryz.func58, Tryz.ntmps58
    go_wp2_with (first
      | (go_at_call 17; (with_reducible refine KF.out.mono ?_); rintro e w3 ⟨rfl, hb3⟩; obtain ⟨⟨da, db, dc, dd⟩, ⟨de, dqe⟩, ⟨dg, dqg⟩, ⟨dh, dqh⟩, di, dqi⟩ := CF.out _ (hb3)))
    obtain ⟨W9, hW9, k0, k1, k2, k3, hb9, ho9⟩ := fin4 (X2.out _ (hb3)) (bthen HB.out (hb3)) (by omega) (.slice A1 n1 c1) (.slice A2 n2 c2) (.int .i64 T.room) (.int .i64 T.vol)
    rw [hW9]
    refine bodyPost_ret (v := .tuple #[.agg (RvC A1 n1 c1 A2 n2 c2 T.room T.vol), .int .i64 z]) (by simp [results, Tryz.f58, go_sem, k0, k1, k2, k3]) rfl ?_
    exact ⟨_, rfl, ⟨_, _, _, _, _, _, rfl, HR.out.below hb9⟩, hb9⟩
  rw [if_neg h0] at hE1
  obtain rfl : z = 0 := by omega
  obtain ⟨hfP, hroot, hfm⟩ := hfind rfl
  by_cases hm : m = 0
  · rw [if_pos hm] at hE1
    rw [hE1, if_neg (by decide), if_neg (by decide)] at hE0
    rw [hE0]
    subst hm
    clear h hW hmz hb2 cf x1 x2 hr2 hE0 hE1 hfind h0 hz8 hfP hroot hfm
    go_enter Tryz.func58, Tryz.ntmps58
    go_wp2_with (first
      | (go_at_call 17; (with_reducible refine KF.out.mono ?_); rintro e w3 ⟨rfl, hb3⟩; obtain ⟨⟨da, db, dc, dd⟩, ⟨de, dqe⟩, ⟨dg, dqg⟩, ⟨dh, dqh⟩, di, dqi⟩ := CF.out _ (hb3)))
    obtain ⟨W9, hW9, k0, k1, k2, k3, hb9, ho9⟩ := fin4 (X2.out _ (hb3)) (bthen HB.out (hb3)) (by omega) (.slice A1 n1 c1) (.slice A2 n2 c2) (.int .i64 T.room) (.int .i64 T.vol)
    rw [hW9]
    refine bodyPost_ret (v := .tuple #[.agg (RvC A1 n1 c1 A2 n2 c2 T.room T.vol), .int .i64 1]) (by simp [results, Tryz.f58, go_sem, k0, k1, k2, k3]) rfl ?_
    exact ⟨_, rfl, ⟨_, _, _, _, _, _, rfl, HR.out.below hb9⟩, hb9⟩
  rw [if_neg hm] at hE1
  have gm : (((m : Nat) : Int) == 0) = false := by simp; omega
  have hm0 : (0 : Int) ≤ m := by omega
  have hmt : ((m : Int)).toNat = m := by omega
  obtain ⟨pz, hpz⟩ : ∃ z, T.parE t = z := ⟨_, rfl⟩
  have hpz8 : pz ≠ -1 := fun e => by have := par_pos (T := T) (p := t); omega
  rw [hpz] at hE1
  simp only [hpz] at KP
  by_cases hp : pz ≠ 0
  · rw [if_pos hp] at hE1
    rw [hE1, if_neg hp, if_neg hpz8] at hE0
    rw [hE0]
    have gz : (pz != 0) = true := by simp [hp]
    clear h hW hmz hb2 cf x1 x2 hr2 hE0 hE1 hfind h0 hz8 hfP hroot hfm hm hpz hp hpz8
    go_enter Tryz.func58, Tryz.ntmps58
    go_wp2_with (first
      | (go_at_call 108; (with_reducible refine (KP.out _ hb3).mono ?_); rintro e w4 ⟨rfl, hb4⟩; have hc4 := bthen hb3 hb4; obtain ⟨⟨fa, fb, fc, fd⟩, ⟨fe, fqe⟩, ⟨fg, fqg⟩, ⟨fh, fqh⟩, fi, fqi⟩ := CF.out _ (hc4))
      | (go_at_call 17; (with_reducible refine KF.out.mono ?_); rintro e w3 ⟨rfl, hb3⟩; obtain ⟨⟨da, db, dc, dd⟩, ⟨de, dqe⟩, ⟨dg, dqg⟩, ⟨dh, dqh⟩, di, dqi⟩ := CF.out _ (hb3)))
    obtain ⟨W9, hW9, k0, k1, k2, k3, hb9, ho9⟩ := fin4 (X2.out _ (hc4)) (bthen HB.out (hc4)) (by omega) (.slice A1 n1 c1) (.slice A2 n2 c2) (.int .i64 T.room) (.int .i64 T.vol)
    rw [hW9]
    refine bodyPost_ret (v := .tuple #[.agg (RvC A1 n1 c1 A2 n2 c2 T.room T.vol), .int .i64 pz]) (by simp [results, Tryz.f58, go_sem, k0, k1, k2, k3]) rfl ?_
    exact ⟨_, rfl, ⟨_, _, _, _, _, _, rfl, HR.out.below hb9⟩, hb9⟩
  rw [if_neg hp] at hE1
  obtain rfl : pz = 0 := by omega
  have htP := parE_isP hpz
  have hfP2 := hfP.resolve_left fun e => hm (hroot.2 e)
  rw [Nt.nms_isP hfP2] at hfm
  have hPn := (Nt.isP_iff.1 hfP2).2
  have hQn := (Nt.isP_iff.1 htP).2
  have tP : txt (Pp.pieces f) = f := Nt.txt_pieces f
  have tQ : txt (Pp.pieces t) = t := Nt.txt_pieces t
  have hrest := rest_txt hPn hQn
  rw [tP, tQ] at hrest
  have hml : m < n1 := by rw [← h.len1]; exact hW.lt _ _ hfm
  have hm1 : (m : Int) < n1 := by omega
  obtain ⟨km, hkm⟩ : ∃ k : Int, (T.nd m).kind = k := ⟨_, rfl⟩
  obtain ⟨g1, o1, eA, hcn⟩ := RTr.node hr2 hml
  subst eA
  have nodeK : ∀ j, j < n1 → ∀ W, Below W2.heap.size W2 W → W.cell? ⟨g1, o1 + j * 7, none⟩ = some (.int .i64 (T.nd j).kind) := fun j hj W hh => by
    obtain ⟨g', o', e', hc'⟩ := RTr.node (hr2.below hh) hj
    cases e'
    exact hc' 0 _ rfl
  have qm := nodeK m hml
  rw [hkm] at hE1
  simp only [hkm] at qm
  have QM := Lib.hid qm
  have KREST := Lib.hid (fun W => refrest_any t f W (by omega) hf)
  have KW := Lib.hid (fun W (hh : Below W2.heap.size W2 W) => refwithout_ex (hr2.below hh) hW hK (P := Pp.pieces t) hQn (by rw [tQ]; exact ht))
  simp only [tQ] at KW
  have KM := Lib.hid (fun W A3 n3 c3 A4 n4 c4 (hr : RTr W B A3 n3 c3 A4 n4 c4 (T.clr1 (Pp.pieces t))) => refmoved_ex (K := K) hr (fun q m hq => ⟨hW.names q m ((List.mem_filter.1 hq).1), hW.long q m ((List.mem_filter.1 hq).1)⟩) (Nat.le_trans (List.length_filter_le _ _) hW.many) hK (P := Pp.pieces f) (Q := Pp.pieces t) hPn hQn (by rw [tP]; exact hf) (by rw [tQ]; exact ht))
  simp only [tQ, tP] at KM
  cases hat : at_ T.paths (Pp.pieces t) with
  | some k =>
    rw [hat] at hE1
    simp only at hE1
    obtain ⟨j, hj, hjx⟩ := plc_some (R := T.paths) hW hQn hat
    rw [tQ] at hj hjx
    rw [hj] at KL
    have hkl : k < n1 := by rw [← h.len1]; exact hW.lt _ _ (Nt.at_mem hat)
    have hjl : j < n2 := by rw [← h.paths.1]; exact (List.getElem?_eq_some_iff.1 hjx).1
    obtain ⟨g2, o2, y2, eA2, hy2, hc2⟩ := hr2.paths.at_ hjl
    subst eA2
    rw [hjx] at hy2
    cases hy2
    have QP := Lib.hid (fun W (hh : Below W2.heap.size W2 W) => show W.cell? ⟨g2, o2 + j * 2 + 1, none⟩ = some (.int .i64 (k : Nat)) from by
      obtain ⟨g', o', y', e', hy', hc'⟩ := (hr2.below hh).paths.at_ hjl
      cases e'
      rw [hjx] at hy'
      cases hy'
      exact hc' 1 _ rfl)
    have gj : (0 : Int) ≤ j := by omega
    have gj1 : (j : Int) < n2 := by omega
    have gjt : ((j : Int)).toNat = j := by omega
    have gk0 : (0 : Int) ≤ k := by omega
    have gk1 : (k : Int) < n1 := by omega
    have gkt : ((k : Int)).toNat = k := by omega
    have qk := nodeK k hkl
    obtain ⟨kk, hkk⟩ : ∃ z : Int, (T.nd k).kind = z := ⟨_, rfl⟩
    rw [hkk] at hE1
    simp only [hkk] at qk
    have QK := Lib.hid qk
    by_cases hkm2 : k = m
    · rw [if_pos hkm2] at hE1
      rw [hE1, if_neg (by decide), if_pos rfl] at hE0
      rw [hE0]
      subst hkm2
      have gkm : (((k : Nat) : Int) == ((k : Nat) : Int)) = true := by simp
      clear h hW hmz hb2 cf x1 x2 hr2 hE0 hE1 hfind h0 hz8 hfP hroot hfm hm hpz hp hpz8 htP hfP2 hPn hQn tP tQ hrest hkm hcn nodeK qm hat hj hjx hc2 qk hkk KW KM KREST
      go_enter Tryz.func58, Tryz.ntmps58
      go_wp2_with (first
        | (go_at_call 68; (with_reducible refine (KL.out _ hc4).mono ?_); rintro e w5 ⟨rfl, hb5⟩; have hc5 := bthen hc4 hb5; obtain ⟨⟨g'a, g'b, g'c, g'd⟩, ⟨g'e, g'qe⟩, ⟨g'g, g'qg⟩, ⟨g'h, g'qh⟩, g'i, g'qi⟩ := CF.out _ (hc5); have QM5 := QM.out _ hc5; have QP5 := QP.out _ hc5; have QK5 := QK.out _ hc5)
        | (go_at_call 108; (with_reducible refine (KP.out _ hb3).mono ?_); rintro e w4 ⟨rfl, hb4⟩; have hc4 := bthen hb3 hb4; obtain ⟨⟨fa, fb, fc, fd⟩, ⟨fe, fqe⟩, ⟨fg, fqg⟩, ⟨fh, fqh⟩, fi, fqi⟩ := CF.out _ (hc4))
        | (go_at_call 17; (with_reducible refine KF.out.mono ?_); rintro e w3 ⟨rfl, hb3⟩; obtain ⟨⟨da, db, dc, dd⟩, ⟨de, dqe⟩, ⟨dg, dqg⟩, ⟨dh, dqh⟩, di, dqi⟩ := CF.out _ (hb3)))
      obtain ⟨W9, hW9, k0, k1, k2, k3, hb9, ho9⟩ := fin4 (X2.out _ (hc5)) (bthen HB.out (hc5)) (by omega) (.slice (some ⟨g1, o1, none⟩) n1 c1) (.slice (some ⟨g2, o2, none⟩) n2 c2) (.int .i64 T.room) (.int .i64 T.vol)
      rw [hW9]
      refine bodyPost_ret (v := .tuple #[.agg (RvC (some ⟨g1, o1, none⟩) n1 c1 (some ⟨g2, o2, none⟩) n2 c2 T.room T.vol), .int .i64 0]) (by simp [results, Tryz.f58, go_sem, k0, k1, k2, k3]) rfl ?_
      exact ⟨_, rfl, ⟨_, _, _, _, _, _, rfl, HR.out.below hb9⟩, hb9⟩
    · rw [if_neg hkm2] at hE1
      have gkm : (((k : Nat) : Int) == ((m : Nat) : Int)) = false := by simp; omega
      have gmk : (((m : Nat) : Int) == ((k : Nat) : Int)) = false := by simp; omega
      by_cases hm4 : km = 4
      · rw [if_pos hm4] at hE1
        rw [hE1, if_neg (by decide), if_neg (by decide)] at hE0
        rw [hE0]
        subst hm4
        clear h hW hmz hb2 cf x1 x2 hr2 hE0 hE1 hfind h0 hz8 hfP hroot hfm hm hpz hp hpz8 htP hfP2 hPn hQn tP tQ hrest hkm hcn nodeK qm hat hj hjx hc2 qk hkk KW KM hkm2
        go_enter Tryz.func58, Tryz.ntmps58
        go_wp2_with (first
          | (go_at_call 109; (with_reducible refine (KREST.out _).mono ?_); rintro e w6 ⟨rfl, rfl⟩)
          | (go_at_call 68; (with_reducible refine (KL.out _ hc4).mono ?_); rintro e w5 ⟨rfl, hb5⟩; have hc5 := bthen hc4 hb5; obtain ⟨⟨g'a, g'b, g'c, g'd⟩, ⟨g'e, g'qe⟩, ⟨g'g, g'qg⟩, ⟨g'h, g'qh⟩, g'i, g'qi⟩ := CF.out _ (hc5); have QM5 := QM.out _ hc5; have QP5 := QP.out _ hc5; have QK5 := QK.out _ hc5)
          | (go_at_call 108; (with_reducible refine (KP.out _ hb3).mono ?_); rintro e w4 ⟨rfl, hb4⟩; have hc4 := bthen hb3 hb4; obtain ⟨⟨fa, fb, fc, fd⟩, ⟨fe, fqe⟩, ⟨fg, fqg⟩, ⟨fh, fqh⟩, fi, fqi⟩ := CF.out _ (hc4))
          | (go_at_call 17; (with_reducible refine KF.out.mono ?_); rintro e w3 ⟨rfl, hb3⟩; obtain ⟨⟨da, db, dc, dd⟩, ⟨de, dqe⟩, ⟨dg, dqg⟩, ⟨dh, dqh⟩, di, dqi⟩ := CF.out _ (hb3)))
        obtain ⟨W9, hW9, k0, k1, k2, k3, hb9, ho9⟩ := fin4 (X2.out _ (hc5)) (bthen HB.out (hc5)) (by omega) (.slice (some ⟨g1, o1, none⟩) n1 c1) (.slice (some ⟨g2, o2, none⟩) n2 c2) (.int .i64 T.room) (.int .i64 T.vol)
        rw [hW9]
        refine bodyPost_ret (v := .tuple #[.agg (RvC (some ⟨g1, o1, none⟩) n1 c1 (some ⟨g2, o2, none⟩) n2 c2 T.room T.vol), .int .i64 7]) (by simp [results, Tryz.f58, go_sem, k0, k1, k2, k3]) rfl ?_
        exact ⟨_, rfl, ⟨_, _, _, _, _, _, rfl, HR.out.below hb9⟩, hb9⟩
      · rw [if_neg hm4] at hE1
        have gm4 : (km == 4) = false := by simp [hm4]
        by_cases hk4 : kk = 4
        · rw [if_pos hk4] at hE1
          rw [hE1, if_neg (by decide), if_neg (by decide)] at hE0
          rw [hE0]
          subst hk4
          clear h hW hmz hb2 cf x1 x2 hr2 hE0 hE1 hfind h0 hz8 hfP hroot hfm hm hpz hp hpz8 htP hfP2 hPn hQn tP tQ hrest hkm hcn nodeK qm hat hj hjx hc2 qk hkk KW KM hkm2 hm4
          go_enter Tryz.func58, Tryz.ntmps58
          go_upto_region 18 with (first
            | (go_at_call 109; (with_reducible refine (KREST.out _).mono ?_); rintro e w6 ⟨rfl, rfl⟩)
            | (go_at_call 68; (with_reducible refine (KL.out _ hc4).mono ?_); rintro e w5 ⟨rfl, hb5⟩; have hc5 := bthen hc4 hb5; obtain ⟨⟨g'a, g'b, g'c, g'd⟩, ⟨g'e, g'qe⟩, ⟨g'g, g'qg⟩, ⟨g'h, g'qh⟩, g'i, g'qi⟩ := CF.out _ (hc5); have QM5 := QM.out _ hc5; have QP5 := QP.out _ hc5; have QK5 := QK.out _ hc5)
            | (go_at_call 108; (with_reducible refine (KP.out _ hb3).mono ?_); rintro e w4 ⟨rfl, hb4⟩; have hc4 := bthen hb3 hb4; obtain ⟨⟨fa, fb, fc, fd⟩, ⟨fe, fqe⟩, ⟨fg, fqg⟩, ⟨fh, fqh⟩, fi, fqi⟩ := CF.out _ (hc4))
            | (go_at_call 17; (with_reducible refine KF.out.mono ?_); rintro e w3 ⟨rfl, hb3⟩; obtain ⟨⟨da, db, dc, dd⟩, ⟨de, dqe⟩, ⟨dg, dqg⟩, ⟨dh, dqh⟩, di, dqi⟩ := CF.out _ (hb3)))
          have hd5 := hc5.drew
          obtain ⟨⟨k'a, k'b, k'c, k'd⟩, ⟨k'e, k'qe⟩, ⟨k'g, k'qg⟩, ⟨k'h, k'qh⟩, k'i, k'qi⟩ := CF.out _ (hd5)
          have QM6 := QM.out _ hd5
          have QP6 := QP.out _ hd5
          have QK6 := QK.out _ hd5
          go_region
          all_goals
            go_wp2
            obtain ⟨W9, hW9, k0, k1, k2, k3, hb9, ho9⟩ := fin4 (X2.out _ (hc5)) (bthen HB.out (hc5)) (by omega) (.slice (some ⟨g1, o1, none⟩) n1 c1) (.slice (some ⟨g2, o2, none⟩) n2 c2) (.int .i64 T.room) (.int .i64 T.vol)
            rw [hW9]
            have k0 : W9.drew.cell? ⟨w.heap.size + 1, 0, none⟩ = some (.slice (some ⟨g1, o1, none⟩) n1 c1) := k0; have k1 : W9.drew.cell? ⟨w.heap.size + 1, 1, none⟩ = some (.slice (some ⟨g2, o2, none⟩) n2 c2) := k1; have k2 : W9.drew.cell? ⟨w.heap.size + 1, 2, none⟩ = some (.int .i64 T.room) := k2; have k3 : W9.drew.cell? ⟨w.heap.size + 1, 3, none⟩ = some (.int .i64 T.vol) := k3
            refine bodyPost_ret (v := .tuple #[.agg (RvC (some ⟨g1, o1, none⟩) n1 c1 (some ⟨g2, o2, none⟩) n2 c2 T.room T.vol), .int .i64 13]) (by simp [results, Tryz.f58, go_sem, k0, k1, k2, k3]) rfl ?_
            exact ⟨_, rfl, ⟨_, _, _, _, _, _, rfl, HR.out.below hb9.drew⟩, hb9.drew⟩
        · rw [if_neg hk4] at hE1
          rw [hE1, if_pos rfl] at hE0
          rw [hE0]
          have gk4 : (kk == 4) = false := by simp [hk4]
          clear h hW hmz hb2 cf x1 x2 hr2 hE0 hE1 hfind h0 hz8 hfP hroot hfm hm hpz hp hpz8 htP hfP2 hPn hQn tP tQ hrest hkm hcn nodeK qm hat hj hjx hc2 qk hkk hkm2 hm4 hk4
          go_enter Tryz.func58, Tryz.ntmps58
          go_upto_region 18 with (first
            | (go_at_call 109; (with_reducible refine (KREST.out _).mono ?_); rintro e w6 ⟨rfl, rfl⟩)
            | (go_at_call 68; (with_reducible refine (KL.out _ hc4).mono ?_); rintro e w5 ⟨rfl, hb5⟩; have hc5 := bthen hc4 hb5; obtain ⟨⟨g'a, g'b, g'c, g'd⟩, ⟨g'e, g'qe⟩, ⟨g'g, g'qg⟩, ⟨g'h, g'qh⟩, g'i, g'qi⟩ := CF.out _ (hc5); have QM5 := QM.out _ hc5; have QP5 := QP.out _ hc5; have QK5 := QK.out _ hc5)
            | (go_at_call 108; (with_reducible refine (KP.out _ hb3).mono ?_); rintro e w4 ⟨rfl, hb4⟩; have hc4 := bthen hb3 hb4; obtain ⟨⟨fa, fb, fc, fd⟩, ⟨fe, fqe⟩, ⟨fg, fqg⟩, ⟨fh, fqh⟩, fi, fqi⟩ := CF.out _ (hc4))
            | (go_at_call 17; (with_reducible refine KF.out.mono ?_); rintro e w3 ⟨rfl, hb3⟩; obtain ⟨⟨da, db, dc, dd⟩, ⟨de, dqe⟩, ⟨dg, dqg⟩, ⟨dh, dqh⟩, di, dqi⟩ := CF.out _ (hb3)))
          have hd5 := hc5.drew
          obtain ⟨⟨k'a, k'b, k'c, k'd⟩, ⟨k'e, k'qe⟩, ⟨k'g, k'qg⟩, ⟨k'h, k'qh⟩, k'i, k'qi⟩ := CF.out _ (hd5)
          have QM6 := QM.out _ hd5
          have QP6 := QP.out _ hd5
          have QK6 := QK.out _ hd5
          go_region
          all_goals
            go_wp2_with (first
              | (go_at_call 110; (with_reducible refine (KM.out _ _ _ _ _ _ _ HR7.out).mono ?_); rintro e w8 ⟨A5, n5, c5, A6, n6, c6, rfl, hr8, hb8⟩; have hc8 := bthen hc7 hb8; have HR8 := Lib.hid hr8; clear hr8; obtain ⟨⟨i'a, i'b, i'c, i'd⟩, ⟨i'e, i'qe⟩, ⟨i'g, i'qg⟩, ⟨i'h, i'qh⟩, i'i, i'qi⟩ := CF.out _ (hc8))
              | (go_at_call 107; (with_reducible refine (KW.out _ hd5).mono ?_); rintro e w7 ⟨A3, n3, c3, A4, n4, c4, rfl, hr7, hb7⟩; have hc7 := bthen hd5 hb7; have HR7 := Lib.hid hr7; clear hr7; obtain ⟨⟨h'a, h'b, h'c, h'd⟩, ⟨h'e, h'qe⟩, ⟨h'g, h'qg⟩, ⟨h'h, h'qh⟩, h'i, h'qi⟩ := CF.out _ (hc7)))
            obtain ⟨W9, hW9, k0, k1, k2, k3, hb9, ho9⟩ := fin4 (X2.out _ (hc8)) (bthen HB.out (hc8)) (by omega) (.slice A5 n5 c5) (.slice A6 n6 c6) (.int .i64 T.room) (.int .i64 T.vol)
            rw [hW9]
            refine bodyPost_ret (v := .tuple #[.agg (RvC A5 n5 c5 A6 n6 c6 T.room T.vol), .int .i64 0]) (by simp [results, Tryz.f58, go_sem, k0, k1, k2, k3]) rfl ?_
            exact ⟨_, rfl, ⟨_, _, _, _, _, _, rfl, HR8.out.oth13f ho9 (X2.out _ hc8) (by have := HR.out.base; omega)⟩, hb9⟩
  | none =>
    rw [hat] at hE1
    simp only at hE1
    have hj := plc_none hW hQn hat
    rw [tQ] at hj
    rw [hj] at KL
    have hne : Pp.pieces t ≠ Pp.pieces f := fun e => Nt.at_none hat m (by rw [e]; exact hfm)
    have hgt : ¬ (0 : Int) ≤ -1 := by omega
    by_cases hm4 : km = 4
    · rw [if_pos hm4] at hE1
      subst hm4
      by_cases hpre : Pp.pieces f <+: Pp.pieces t
      · rw [if_pos hpre] at hE1
        rw [hE1, if_neg (by decide), if_neg (by decide)] at hE0
        rw [hE0]
        rw [if_pos ⟨hpre, hne⟩] at hrest
        simp only [hrest] at KREST
        generalize txt ((Pp.pieces t).drop (Pp.pieces f).length) = rs at *
        clear h hW hmz hb2 cf x1 x2 hr2 hE0 hE1 hfind h0 hz8 hfP hroot hfm hm hpz hp hpz8 htP hfP2 hPn hQn tP tQ hrest hkm hcn nodeK qm hat hj KW KM hne hpre
        go_enter Tryz.func58, Tryz.ntmps58
        go_wp2_with (first
          | (go_at_call 109; (with_reducible refine (KREST.out _).mono ?_); rintro e w6 ⟨rfl, rfl⟩)
          | (go_at_call 68; (with_reducible refine (KL.out _ hc4).mono ?_); rintro e w5 ⟨rfl, hb5⟩; have hc5 := bthen hc4 hb5; obtain ⟨⟨g'a, g'b, g'c, g'd⟩, ⟨g'e, g'qe⟩, ⟨g'g, g'qg⟩, ⟨g'h, g'qh⟩, g'i, g'qi⟩ := CF.out _ (hc5); have QM5 := QM.out _ hc5)
          | (go_at_call 108; (with_reducible refine (KP.out _ hb3).mono ?_); rintro e w4 ⟨rfl, hb4⟩; have hc4 := bthen hb3 hb4; obtain ⟨⟨fa, fb, fc, fd⟩, ⟨fe, fqe⟩, ⟨fg, fqg⟩, ⟨fh, fqh⟩, fi, fqi⟩ := CF.out _ (hc4))
          | (go_at_call 17; (with_reducible refine KF.out.mono ?_); rintro e w3 ⟨rfl, hb3⟩; obtain ⟨⟨da, db, dc, dd⟩, ⟨de, dqe⟩, ⟨dg, dqg⟩, ⟨dh, dqh⟩, di, dqi⟩ := CF.out _ (hb3)))
        obtain ⟨W9, hW9, k0, k1, k2, k3, hb9, ho9⟩ := fin4 (X2.out _ (hc5)) (bthen HB.out (hc5)) (by omega) (.slice (some ⟨g1, o1, none⟩) n1 c1) (.slice A2 n2 c2) (.int .i64 T.room) (.int .i64 T.vol)
        rw [hW9]
        refine bodyPost_ret (v := .tuple #[.agg (RvC (some ⟨g1, o1, none⟩) n1 c1 A2 n2 c2 T.room T.vol), .int .i64 1]) (by simp [results, Tryz.f58, go_sem, k0, k1, k2, k3]) rfl ?_
        exact ⟨_, rfl, ⟨_, _, _, _, _, _, rfl, HR.out.below hb9⟩, hb9⟩
      · rw [if_neg hpre] at hE1
        rw [hE1, if_pos rfl] at hE0
        rw [hE0]
        rw [if_neg (fun e => hpre e.1)] at hrest
        simp only [hrest] at KREST
        clear h hW hmz hb2 cf x1 x2 hr2 hE0 hE1 hfind h0 hz8 hfP hroot hfm hm hpz hp hpz8 htP hfP2 hPn hQn tP tQ hrest hkm hcn nodeK qm hat hj hne hpre
        go_enter Tryz.func58, Tryz.ntmps58
        go_wp2_with (first
          | (go_at_call 110; (with_reducible refine (KM.out _ _ _ _ _ _ _ HR7.out).mono ?_); rintro e w8 ⟨A5, n5, c5, A6, n6, c6, rfl, hr8, hb8⟩; have hc8 := bthen hc7 hb8; have HR8 := Lib.hid hr8; clear hr8; obtain ⟨⟨i'a, i'b, i'c, i'd⟩, ⟨i'e, i'qe⟩, ⟨i'g, i'qg⟩, ⟨i'h, i'qh⟩, i'i, i'qi⟩ := CF.out _ (hc8))
          | (go_at_call 107; (with_reducible refine (KW.out _ hc5).mono ?_); rintro e w7 ⟨A3, n3, c3, A4, n4, c4, rfl, hr7, hb7⟩; have hc7 := bthen hc5 hb7; have HR7 := Lib.hid hr7; clear hr7; obtain ⟨⟨h'a, h'b, h'c, h'd⟩, ⟨h'e, h'qe⟩, ⟨h'g, h'qg⟩, ⟨h'h, h'qh⟩, h'i, h'qi⟩ := CF.out _ (hc7))
          | (go_at_call 109; (with_reducible refine (KREST.out _).mono ?_); rintro e w6 ⟨rfl, rfl⟩)
          | (go_at_call 68; (with_reducible refine (KL.out _ hc4).mono ?_); rintro e w5 ⟨rfl, hb5⟩; have hc5 := bthen hc4 hb5; obtain ⟨⟨g'a, g'b, g'c, g'd⟩, ⟨g'e, g'qe⟩, ⟨g'g, g'qg⟩, ⟨g'h, g'qh⟩, g'i, g'qi⟩ := CF.out _ (hc5); have QM5 := QM.out _ hc5)
          | (go_at_call 108; (with_reducible refine (KP.out _ hb3).mono ?_); rintro e w4 ⟨rfl, hb4⟩; have hc4 := bthen hb3 hb4; obtain ⟨⟨fa, fb, fc, fd⟩, ⟨fe, fqe⟩, ⟨fg, fqg⟩, ⟨fh, fqh⟩, fi, fqi⟩ := CF.out _ (hc4))
          | (go_at_call 17; (with_reducible refine KF.out.mono ?_); rintro e w3 ⟨rfl, hb3⟩; obtain ⟨⟨da, db, dc, dd⟩, ⟨de, dqe⟩, ⟨dg, dqg⟩, ⟨dh, dqh⟩, di, dqi⟩ := CF.out _ (hb3)))
        obtain ⟨W9, hW9, k0, k1, k2, k3, hb9, ho9⟩ := fin4 (X2.out _ (hc8)) (bthen HB.out (hc8)) (by omega) (.slice A5 n5 c5) (.slice A6 n6 c6) (.int .i64 T.room) (.int .i64 T.vol)
        rw [hW9]
        refine bodyPost_ret (v := .tuple #[.agg (RvC A5 n5 c5 A6 n6 c6 T.room T.vol), .int .i64 0]) (by simp [results, Tryz.f58, go_sem, k0, k1, k2, k3]) rfl ?_
        exact ⟨_, rfl, ⟨_, _, _, _, _, _, rfl, HR8.out.oth13f ho9 (X2.out _ hc8) (by have := HR.out.base; omega)⟩, hb9⟩
    · rw [if_neg hm4] at hE1
      rw [hE1, if_pos rfl] at hE0
      rw [hE0]
      have gm4 : (km == 4) = false := by simp [hm4]
      clear h hW hmz hb2 cf x1 x2 hr2 hE0 hE1 hfind h0 hz8 hfP hroot hfm hm hpz hp hpz8 htP hfP2 hPn hQn tP tQ hrest hkm hcn nodeK qm hat hj hne hm4
      go_enter Tryz.func58, Tryz.ntmps58
      go_upto_region 18 with (first
        | (go_at_call 109; (with_reducible refine (KREST.out _).mono ?_); rintro e w6 ⟨rfl, rfl⟩)
        | (go_at_call 68; (with_reducible refine (KL.out _ hc4).mono ?_); rintro e w5 ⟨rfl, hb5⟩; have hc5 := bthen hc4 hb5; obtain ⟨⟨g'a, g'b, g'c, g'd⟩, ⟨g'e, g'qe⟩, ⟨g'g, g'qg⟩, ⟨g'h, g'qh⟩, g'i, g'qi⟩ := CF.out _ (hc5); have QM5 := QM.out _ hc5)
        | (go_at_call 108; (with_reducible refine (KP.out _ hb3).mono ?_); rintro e w4 ⟨rfl, hb4⟩; have hc4 := bthen hb3 hb4; obtain ⟨⟨fa, fb, fc, fd⟩, ⟨fe, fqe⟩, ⟨fg, fqg⟩, ⟨fh, fqh⟩, fi, fqi⟩ := CF.out _ (hc4))
        | (go_at_call 17; (with_reducible refine KF.out.mono ?_); rintro e w3 ⟨rfl, hb3⟩; obtain ⟨⟨da, db, dc, dd⟩, ⟨de, dqe⟩, ⟨dg, dqg⟩, ⟨dh, dqh⟩, di, dqi⟩ := CF.out _ (hb3)))
      have hd5 := hc5.drew
      obtain ⟨⟨k'a, k'b, k'c, k'd⟩, ⟨k'e, k'qe⟩, ⟨k'g, k'qg⟩, ⟨k'h, k'qh⟩, k'i, k'qi⟩ := CF.out _ (hd5)
      have QM6 := QM.out _ hd5
      go_region
      all_goals
        go_wp2_with (first
          | (go_at_call 110; (with_reducible refine (KM.out _ _ _ _ _ _ _ HR7.out).mono ?_); rintro e w8 ⟨A5, n5, c5, A6, n6, c6, rfl, hr8, hb8⟩; have hc8 := bthen hc7 hb8; have HR8 := Lib.hid hr8; clear hr8; obtain ⟨⟨i'a, i'b, i'c, i'd⟩, ⟨i'e, i'qe⟩, ⟨i'g, i'qg⟩, ⟨i'h, i'qh⟩, i'i, i'qi⟩ := CF.out _ (hc8))
          | (go_at_call 107; (with_reducible refine (KW.out _ hd5).mono ?_); rintro e w7 ⟨A3, n3, c3, A4, n4, c4, rfl, hr7, hb7⟩; have hc7 := bthen hd5 hb7; have HR7 := Lib.hid hr7; clear hr7; obtain ⟨⟨h'a, h'b, h'c, h'd⟩, ⟨h'e, h'qe⟩, ⟨h'g, h'qg⟩, ⟨h'h, h'qh⟩, h'i, h'qi⟩ := CF.out _ (hc7)))
        obtain ⟨W9, hW9, k0, k1, k2, k3, hb9, ho9⟩ := fin4 (X2.out _ (hc8)) (bthen HB.out (hc8)) (by omega) (.slice A5 n5 c5) (.slice A6 n6 c6) (.int .i64 T.room) (.int .i64 T.vol)
        rw [hW9]
        refine bodyPost_ret (v := .tuple #[.agg (RvC A5 n5 c5 A6 n6 c6 T.room T.vol), .int .i64 0]) (by simp [results, Tryz.f58, go_sem, k0, k1, k2, k3]) rfl ?_
        exact ⟨_, rfl, ⟨_, _, _, _, _, _, rfl, HR8.out.oth13f ho9 (X2.out _ hc8) (by have := HR.out.base; omega)⟩, hb9⟩
end
end Go.Proofs.YthgbncpiehcghaaGreatDoor
