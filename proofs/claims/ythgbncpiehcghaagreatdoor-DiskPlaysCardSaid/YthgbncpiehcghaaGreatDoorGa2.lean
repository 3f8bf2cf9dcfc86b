/- WALKS OF LAYER 14, FIRST PART: Apply. -/
import Derived.Test.YthgbncpiehcghaaGreatDoorGa1
import Derived.Test.YthgbncpiehcghaaGreatDoorGv1
import Derived.Test.YthgbncpiehcghaaGreatDoorB7b
import Derived.Test.YthgbncpiehcghaaGreatDoorGs2
import Derived.Deep.RegionHeld3
namespace Go.Proofs.YthgbncpiehcghaaGreatDoor
set_option linter.unusedVariables false
open Go Go.RowKit Go.Maps
set_option maxRecDepth 100000
set_option maxHeartbeats 8000000
open Nt (Tr Nd WF Ps Path at_ cnt used Dd Dk ap)
theorem Done.frame14 {F : Nat → Prop} {K tb : Nat} {w w1 w' : World} {r : Tr × Int} {e : Ending} (hb : Below w.heap.size w w1) (hd : Done F K w1 w' tb r e) : Done F K w w' tb r e := by
  obtain ⟨h1, ⟨ad, mb, h2⟩, h3⟩ := hd
  refine ⟨h1, ⟨ad, mb, h2.weak ?_ (Nat.le_refl _)⟩, Keep.grow hb h3⟩
  rintro k (h | h)
  · exact .inl h
  · exact .inr ⟨Nat.le_trans hb.size h.1, h.2⟩
theorem tc_u8 {a : Nat} {x y u v : Int} : ∀ (i : Nat) z, (#[.pointer (some ⟨a, 0, none⟩), .int .i64 x, .int .i64 y, .int .i64 u, .int .i64 v] : Array Value)[i]? ≠ some (.int .u8 z) := by
  intro i z
  rcases i with _ | _ | _ | _ | _ | i <;> simp
theorem apply_done {F : Nat → Prop} {w : World} {tb K : Nat} {T : Tr} {ad mb : Nat → Nat} (hW : WF T K) (hK : K ≤ 100000) (hR : RepP F K w tb T ad mb) (y : Dd) (hp0 : y.p.size ≤ 100000) (hq0 : y.q.size ≤ 100000) (hd0 : RB w w.heap.size y.A y.n y.xs) (hn0 : y.n ≤ 1000000) :
    Calls Tryz.prog 81 #[.pointer (some ⟨tb, 0, none⟩), .agg (DdC y)] w fun e w' => Done F K w w' tb (ap T y) e := by
  obtain ⟨kd, p, q, a, b, c, d, A, n, k, xs⟩ := y
  have hp : p.size ≤ 100000 := hp0
  have hq : q.size ≤ 100000 := hq0
  have hd : RB w w.heap.size A n xs := hd0
  have hn : n ≤ 1000000 := hn0
  clear hp0 hq0 hd0 hn0
  have hb := below_new w (.cells (DdC ⟨kd, p, q, a, b, c, d, A, n, k, xs⟩) 74)
  have HA := hR.later hb
  have HR2 : RB (w.alloc (.cells (DdC ⟨kd, p, q, a, b, c, d, A, n, k, xs⟩) 74)) (w.alloc (.cells (DdC ⟨kd, p, q, a, b, c, d, A, n, k, xs⟩) 74)).heap.size A n xs := (hd.below hb).more hb.size
  have HB := Lib.hid hb
  unfold ap
  dsimp only
  by_cases h1 : kd = 1
  · subst h1
    rw [if_pos rfl]
    have kk := Lib.hid (mkdir_any hW hK HA p (by omega) a b c d)
    clear hW hR hb HA HR2 hd
    go_enter Tryz.func81, Tryz.ntmps81
    go_wp2_with (go_at_call 44; refine kk.out.mono ?_; rintro e w1 ⟨rfl, h1⟩)
    go_ret
    exact Done.frame14 HB.out ⟨rfl, h1⟩
  by_cases h2 : kd = 2
  · subst h2
    rw [if_neg (by decide), if_pos rfl]
    have kk := Lib.hid (create_any hW hK HA p (by omega) a b c d A n k xs HR2 hn)
    clear hW hR hb HA HR2 hd
    go_enter Tryz.func81, Tryz.ntmps81
    go_wp2_with (go_at_call 48; refine kk.out.mono ?_; rintro e w1 ⟨rfl, h1⟩)
    go_ret
    exact Done.frame14 HB.out ⟨rfl, h1⟩
  by_cases h3 : kd = 3
  · subst h3
    rw [if_neg (by decide), if_neg (by decide), if_pos rfl]
    have kk := Lib.hid (sym_any hW hK HA p (by omega) a b c d q (by omega))
    clear hW hR hb HA HR2 hd
    go_enter Tryz.func81, Tryz.ntmps81
    go_wp2_with (go_at_call 59; refine kk.out.mono ?_; rintro e w1 ⟨rfl, h1⟩)
    go_ret
    exact Done.frame14 HB.out ⟨rfl, h1⟩
  by_cases h4 : kd = 4
  · subst h4
    rw [if_neg (by decide), if_neg (by decide), if_neg (by decide), if_pos rfl]
    have kk := Lib.hid (link_any hW hK HA p q (by omega) (by omega))
    clear hW hR hb HA HR2 hd
    go_enter Tryz.func81, Tryz.ntmps81
    go_wp2_with (go_at_call 49; refine kk.out.mono ?_; rintro e w1 ⟨rfl, h1⟩)
    go_ret
    exact Done.frame14 HB.out ⟨rfl, h1⟩
  by_cases h5 : kd = 5
  · subst h5
    rw [if_neg (by decide), if_neg (by decide), if_neg (by decide), if_neg (by decide), if_pos rfl]
    have kk := Lib.hid (write_gen hW hK HA p (by omega) A n k xs _ HR2 (Nat.le_refl _) (RB.apart13 HR2 HA.tree tc_u8) hn)
    clear hW hR hb HA HR2 hd
    go_enter Tryz.func81, Tryz.ntmps81
    go_wp2_with (go_at_call 60; refine kk.out.mono ?_; rintro e w1 ⟨rfl, h1⟩)
    go_ret
    exact Done.frame14 HB.out ⟨rfl, h1⟩
  by_cases h6 : kd = 6
  · subst h6
    rw [if_neg (by decide), if_neg (by decide), if_neg (by decide), if_neg (by decide), if_neg (by decide), if_pos rfl]
    have kk := Lib.hid (set_any hW hK HA p (by omega) a b c d)
    clear hW hR hb HA HR2 hd
    go_enter Tryz.func81, Tryz.ntmps81
    go_wp2_with (go_at_call 61; refine kk.out.mono ?_; rintro e w1 ⟨rfl, h1⟩)
    go_ret
    exact Done.frame14 HB.out ⟨rfl, h1⟩
  by_cases h7 : kd = 7
  · subst h7
    rw [if_neg (by decide), if_neg (by decide), if_neg (by decide), if_neg (by decide), if_neg (by decide), if_neg (by decide), if_pos rfl]
    have kk := Lib.hid (remove_any hW hK HA p (by omega))
    clear hW hR hb HA HR2 hd
    go_enter Tryz.func81, Tryz.ntmps81
    go_wp2_with (go_at_call 51; refine kk.out.mono ?_; rintro e w1 ⟨rfl, h1⟩)
    go_ret
    exact Done.frame14 HB.out ⟨rfl, h1⟩
  by_cases h8 : kd = 8
  · subst h8
    rw [if_neg (by decide), if_neg (by decide), if_neg (by decide), if_neg (by decide), if_neg (by decide), if_neg (by decide), if_neg (by decide), if_pos rfl]
    have kk := Lib.hid (clear_any hW hK HA p (by omega))
    clear hW hR hb HA HR2 hd
    go_enter Tryz.func81, Tryz.ntmps81
    go_wp2_with (go_at_call 62; refine kk.out.mono ?_; rintro e w1 ⟨rfl, h1⟩)
    go_ret
    exact Done.frame14 HB.out ⟨rfl, h1⟩
  by_cases h9 : kd = 9
  · subst h9
    rw [if_neg (by decide), if_neg (by decide), if_neg (by decide), if_neg (by decide), if_neg (by decide), if_neg (by decide), if_neg (by decide), if_neg (by decide), if_pos rfl]
    have kk := Lib.hid (rename_any hW hK HA p q hp hq)
    clear hW hR hb HA HR2 hd
    go_enter Tryz.func81, Tryz.ntmps81
    go_wp2_with (go_at_call 42; refine kk.out.mono ?_; rintro e w1 ⟨rfl, h1⟩)
    go_ret
    exact Done.frame14 HB.out ⟨rfl, h1⟩
  rw [if_neg h1, if_neg h2, if_neg h3, if_neg h4, if_neg h5, if_neg h6, if_neg h7, if_neg h8, if_neg h9]
  have g1 : (kd == 1) = false := by simp [h1]
  have g2 : (kd == 2) = false := by simp [h2]
  have g3 : (kd == 3) = false := by simp [h3]
  have g4 : (kd == 4) = false := by simp [h4]
  have g5 : (kd == 5) = false := by simp [h5]
  have g6 : (kd == 6) = false := by simp [h6]
  have g7 : (kd == 7) = false := by simp [h7]
  have g8 : (kd == 8) = false := by simp [h8]
  have g9 : (kd == 9) = false := by simp [h9]
  have HR := Lib.hid hR
  clear hW hR hb HA HR2 hd
  go_enter Tryz.func81, Tryz.ntmps81
  go_wp2
  go_ret
  exact Done.err HR.out HB.out 1
end Go.Proofs.YthgbncpiehcghaaGreatDoor
/- WALKS OF LAYER 14, SECOND PART: a disk's small methods. -/
namespace Go.Proofs.YthgbncpiehcghaaGreatDoor
set_option linter.unusedVariables false
open Go Go.RowKit Go.Maps
set_option maxRecDepth 100000
set_option maxHeartbeats 4000000
open Nt (Tr Nd WF Ps Path at_ cnt used Dd Dk ap)
/-- A disk's cells. -/
abbrev DkC (dt vt : Nat) (v : Value) (sy fu : Int) : Array Value := #[.pointer (some ⟨dt, 0, none⟩), .pointer (some ⟨vt, 0, none⟩), v, .int .i64 sy, .int .i64 fu]
section
variable {w : World} {db dt vt : Nat} {v : Value} {sy fu : Int}
theorem dmade_any (h : BX w db 135 (DkC dt vt v sy fu)) : Calls Tryz.prog 78 #[.pointer (some ⟨db, 0, none⟩)] w fun e w' => e = .returned (.bool true) ∧ w = w' := by
  have c0 : w.cell? ⟨db, 0, none⟩ = some (.pointer (some ⟨dt, 0, none⟩)) := h.cell rfl
  clear h
  go_enter Tryz.func78, Tryz.ntmps78
  go_wp2
  go_ret
  exact ⟨rfl, rfl⟩
theorem ddark_any (h : BX w db 135 (DkC dt vt v sy fu)) : Calls Tryz.prog 30 #[.pointer (some ⟨db, 0, none⟩)] w fun e w' => e = .returned (.bool (fu == 0)) ∧ w = w' := by
  have c4 : w.cell? ⟨db, 4, none⟩ = some (.int .i64 fu) := h.cell rfl
  have k := Lib.hid (dmade_any h)
  clear h
  go_enter Tryz.func30, Tryz.ntmps30
  go_wp2_with (go_at_call 78; refine k.out.mono ?_; rintro e w1 ⟨rfl, rfl⟩)
  go_ret
  exact ⟨rfl, rfl⟩
theorem dsyncs_any (h : BX w db 135 (DkC dt vt v sy fu)) : Calls Tryz.prog 29 #[.pointer (some ⟨db, 0, none⟩)] w fun e w' => e = .returned (.int .i64 sy) ∧ w = w' := by
  have c3 : w.cell? ⟨db, 3, none⟩ = some (.int .i64 sy) := h.cell rfl
  have k := Lib.hid (dmade_any h)
  clear h
  go_enter Tryz.func29, Tryz.ntmps29
  go_wp2_with (go_at_call 78; refine k.out.mono ?_; rintro e w1 ⟨rfl, rfl⟩)
  go_ret
  exact ⟨rfl, rfl⟩
theorem dfuse_any (h : BX w db 135 (DkC dt vt v sy fu)) (n : Int) : Calls Tryz.prog 75 #[.pointer (some ⟨db, 0, none⟩), .int .i64 n] w fun e w' => e = .returned (.tuple #[]) ∧ BX w' db 135 (DkC dt vt v sy n) ∧ Oth db w w' := by
  have c4 : w.cell? ⟨db, 4, none⟩ = some (.int .i64 fu) := h.cell rfl
  have f4 := h.free 4
  have k := Lib.hid (dmade_any h)
  have H := Lib.hid h
  clear h
  go_enter Tryz.func75, Tryz.ntmps75
  go_wp2_with (go_at_call 78; refine k.out.mono ?_; rintro e w1 ⟨rfl, rfl⟩)
  refine bodyPost_end (v := .tuple #[]) (by simp [results, Tryz.f75, go_sem]) rfl ?_
  exact ⟨rfl, H.out.set 4 _, (Oth.refl _ _).setCell _ _⟩
theorem dburn_any (h : BX w db 135 (DkC dt vt v sy fu)) (h63 : fu ≤ 9223372036854775807) : Calls Tryz.prog 117 #[.pointer (some ⟨db, 0, none⟩)] w fun e w' => e = .returned (.tuple #[]) ∧ BX w' db 135 (DkC dt vt v sy (Nt.burn fu)) ∧ Oth db w w' := by
  have c4 : w.cell? ⟨db, 4, none⟩ = some (.int .i64 fu) := h.cell rfl
  have f4 := h.free 4
  have H := Lib.hid h
  clear h
  unfold Nt.burn
  by_cases h0 : 0 < fu
  · rw [if_pos h0]
    have hw : wrap64 (fu - 1) = fu - 1 := by unfold wrap64; omega
    go_enter Tryz.func117, Tryz.ntmps117
    go_wp2
    refine bodyPost_end (v := .tuple #[]) (by simp [results, Tryz.f117, go_sem]) rfl ?_
    exact ⟨rfl, H.out.set 4 _, (Oth.refl _ _).setCell _ _⟩
  · rw [if_neg h0]
    go_enter Tryz.func117, Tryz.ntmps117
    go_wp2
    refine bodyPost_end (v := .tuple #[]) (by simp [results, Tryz.f117, go_sem]) rfl ?_
    exact ⟨rfl, H.out, Oth.refl _ _⟩
end
end Go.Proofs.YthgbncpiehcghaaGreatDoor
/- WALKS OF LAYER 14, THIRD PART: a deed is copied. -/
namespace Go.Proofs.YthgbncpiehcghaaGreatDoor
set_option linter.unusedVariables false
open Go Go.RowKit Go.Maps
set_option maxRecDepth 100000
set_option maxHeartbeats 4000000
open Nt (Tr Nd WF Ps Path at_ cnt used Dd Dk ap)
abbrev Dz : Array Value := #[.int .i64 0, .string ⟨#[]⟩, .string ⟨#[]⟩, .int .i64 0, .int .i64 0, .int .i64 0, .int .i64 0, .slice none 0 0]
theorem dd_u8 {y : Dd} : ∀ (i : Nat) z, (DdC y)[i]? ≠ some (.int .u8 z) := by
  intro i z
  rcases i with _ | _ | _ | _ | _ | _ | _ | _ | i <;> simp
theorem dz_u8 : ∀ (i : Nat) z, Dz[i]? ≠ some (.int .u8 z) := by
  intro i z
  rcases i with _ | _ | _ | _ | _ | _ | _ | _ | i <;> simp
theorem BX.set8' {w : World} {a : Nat} {T : TypeId} {z0 z1 z2 z3 z4 z5 z6 z7 : Value} (h : BX w a T #[z0, z1, z2, z3, z4, z5, z6, z7]) (v0 v1 v2 v3 v4 v5 v6 v7 : Value) : BX ((((((((w.setCell ⟨a, 0, none⟩ v0).setCell ⟨a, 1, none⟩ v1).setCell ⟨a, 2, none⟩ v2).setCell ⟨a, 3, none⟩ v3).setCell ⟨a, 4, none⟩ v4).setCell ⟨a, 5, none⟩ v5).setCell ⟨a, 6, none⟩ v6).setCell ⟨a, 7, none⟩ v7) a T #[v0, v1, v2, v3, v4, v5, v6, v7] := by
  have h8 := ((((((((((((((((h).set 0 v0)).set 1 v1)).set 2 v2)).set 3 v3)).set 4 v4)).set 5 v5)).set 6 v6)).set 7 v7)
  simpa using h8
theorem RBT.set8' {w : World} {a n : Nat} {A : Option Addr} {xs : List Int} {T : TypeId} {cs : Array Value} (h : RBT w A n xs) (hb : BX w a T cs) (hT : T ≠ 5) (v0 v1 v2 v3 v4 v5 v6 v7 : Value) : RBT ((((((((w.setCell ⟨a, 0, none⟩ v0).setCell ⟨a, 1, none⟩ v1).setCell ⟨a, 2, none⟩ v2).setCell ⟨a, 3, none⟩ v3).setCell ⟨a, 4, none⟩ v4).setCell ⟨a, 5, none⟩ v5).setCell ⟨a, 6, none⟩ v6).setCell ⟨a, 7, none⟩ v7) A n xs :=
  (((((((h.set hb hT 0 v0).set (hb.set 0 v0) hT 1 v1).set ((hb.set 0 v0).set 1 v1) hT 2 v2).set (((hb.set 0 v0).set 1 v1).set 2 v2) hT 3 v3).set ((((hb.set 0 v0).set 1 v1).set 2 v2).set 3 v3) hT 4 v4).set (((((hb.set 0 v0).set 1 v1).set 2 v2).set 3 v3).set 4 v4) hT 5 v5).set ((((((hb.set 0 v0).set 1 v1).set 2 v2).set 3 v3).set 4 v4).set 5 v5) hT 6 v6).set (((((((hb.set 0 v0).set 1 v1).set 2 v2).set 3 v3).set 4 v4).set 5 v5).set 6 v6) hT 7 v7
theorem below_set8' {w w' : World} {B a : Nat} (h : Below B w w') (ha : B ≤ a) (v0 v1 v2 v3 v4 v5 v6 v7 : Value) : Below B w ((((((((w'.setCell ⟨a, 0, none⟩ v0).setCell ⟨a, 1, none⟩ v1).setCell ⟨a, 2, none⟩ v2).setCell ⟨a, 3, none⟩ v3).setCell ⟨a, 4, none⟩ v4).setCell ⟨a, 5, none⟩ v5).setCell ⟨a, 6, none⟩ v6).setCell ⟨a, 7, none⟩ v7) :=
  (((((((h.setCell (p := ⟨a, 0, none⟩) ha v0).setCell (p := ⟨a, 1, none⟩) ha v1).setCell (p := ⟨a, 2, none⟩) ha v2).setCell (p := ⟨a, 3, none⟩) ha v3).setCell (p := ⟨a, 4, none⟩) ha v4).setCell (p := ⟨a, 5, none⟩) ha v5).setCell (p := ⟨a, 6, none⟩) ha v6).setCell (p := ⟨a, 7, none⟩) ha v7
theorem copied14_any (y : Dd) (w : World) (hd0 : RB w w.heap.size y.A y.n y.xs) (hp0 : y.p.size ≤ 1000000) (hq0 : y.q.size ≤ 1000000) (hn0 : y.n ≤ 1000000) :
    Calls Tryz.prog 79 #[.agg (DdC y)] w fun e w' => ∃ A' k', e = .returned (.agg (DdC { y with A := A', k := k' })) ∧ RBT w' A' y.n y.xs ∧ y.n ≤ k' ∧ k' ≤ maxLen ∧ Below w.heap.size w w' := by
  obtain ⟨kd, p, q, a, b, c, d, A, n, k, xs⟩ := y
  have hd : RB w w.heap.size A n xs := hd0
  have hp : p.size ≤ 1000000 := hp0
  have hq : q.size ≤ 1000000 := hq0
  have hn : n ≤ 1000000 := hn0
  clear hd0 hp0 hq0 hn0
  have hb0 := bthen (below_new w (.cells (DdC ⟨kd, p, q, a, b, c, d, A, n, k, xs⟩) 74)) (below_new _ (.cells Dz 74))
  obtain ⟨W2, hW2⟩ : ∃ W, (w.alloc (.cells (DdC ⟨kd, p, q, a, b, c, d, A, n, k, xs⟩) 74)).alloc (.cells Dz 74) = W := ⟨_, rfl⟩
  have hbx : BX W2 w.heap.size 74 (DdC ⟨kd, p, q, a, b, c, d, A, n, k, xs⟩) := by rw [← hW2]; exact (BX.new _ _ _).alloc _
  have hbz : BX W2 (w.heap.size + 1) 74 Dz := by
    rw [← hW2]
    have := BX.new (w.alloc (.cells (DdC ⟨kd, p, q, a, b, c, d, A, n, k, xs⟩) 74)) 74 Dz
    rwa [show (w.alloc (.cells (DdC ⟨kd, p, q, a, b, c, d, A, n, k, xs⟩) 74)).heap.size = w.heap.size + 1 from by simp] at this
  have hs2 : W2.heap.size = w.heap.size + 2 := by rw [← hW2]; simp
  rw [hW2] at hb0
  have BXX := Lib.hid (fun W (h : Below W2.heap.size W2 W) => show W.cell? ⟨w.heap.size, 1, none⟩ = some (.string p) ∧ W.cell? ⟨w.heap.size, 2, none⟩ = some (.string q) ∧ W.cell? ⟨w.heap.size, 7, none⟩ = some (.slice A n k) ∧ W.frozen? ⟨w.heap.size, 1, none⟩ = false ∧ W.frozen? ⟨w.heap.size, 2, none⟩ = false ∧ W.frozen? ⟨w.heap.size, 7, none⟩ = false from
    ⟨(hbx.later h).cell rfl, (hbx.later h).cell rfl, (hbx.later h).cell rfl, (hbx.later h).free 1, (hbx.later h).free 2, (hbx.later h).free 7⟩)
  have kp := Lib.hid (fun W => sclone_any p W (by omega))
  have kq := Lib.hid (fun W => sclone_any q W (by omega))
  have kbc := Lib.hid (fun W (h : Below W2.heap.size W2 W) => bclone_any A n k xs W (((hd.below hb0).below (h.mono (by have := hb0.size; omega))).more (Nat.le_trans hb0.size h.size)) (by omega))
  have hacc : Below W2.heap.size W2 W2.drew := (Below.refl _ _).drew
  obtain ⟨q1, q2, q7, f1, f2, f7⟩ := BXX.out _ hacc
  have HBX := Lib.hid hbx
  have HBZ := Lib.hid hbz
  have HB0 := Lib.hid hb0
  have HS2 := Lib.hid hs2
  clear hd hbx hbz hb0 hs2
  go_enter Tryz.func79, Tryz.ntmps79
  go_upto_region 1 with (fail)
  go_cut [11] (fun v wx => ∃ A3 c3, v = .slice A3 n c3 ∧ n ≤ c3 ∧ c3 ≤ maxLen ∧ Hid (BX wx w.heap.size 74 #[.int .i64 kd, .string p, .string q, .int .i64 a, .int .i64 b, .int .i64 c, .int .i64 d, .slice A3 n c3]) ∧ Hid (BX wx (w.heap.size + 1) 74 Dz) ∧ Hid (RBT wx A3 n xs) ∧ Hid (Below w.heap.size w wx))
  case first =>
    go_region_law (first
      | (go_simp; go_at_call 122; (with_reducible refine (kbc.out _ hacc).mono ?_); rintro e w3 ⟨v3, rfl, ho3, hb3⟩; obtain ⟨A3, c3, rfl, _, hn3, hm3⟩ := ho3.slice; have hr3 := ho3.rbt; replace hacc := bthen hacc hb3; obtain ⟨q1, q2, q7, f1, f2, f7⟩ := BXX.out _ hacc)
      | (go_simp; go_at_call 112; (with_reducible refine (kp.out _).mono ?_); rintro e w4 ⟨rfl, hb4⟩; (try replace hr3 := hr3.below hb4); replace hacc := bthen hacc hb4; obtain ⟨q1, q2, q7, f1, f2, f7⟩ := BXX.out _ hacc)
      | (go_simp; go_at_call 112; (with_reducible refine (kq.out _).mono ?_); rintro e w5 ⟨rfl, hb5⟩; (try replace hr3 := hr3.below hb5); replace hacc := bthen hacc hb5; obtain ⟨q1, q2, q7, f1, f2, f7⟩ := BXX.out _ hacc))
    all_goals
      have h1 := (((HBX.out.later hacc).set 1 (.string p)).set 2 (.string q)).set 7 (.slice A3 n c3)
      have h2 := (((HBZ.out.later hacc).other (b := w.heap.size) (j := 1) (by omega) (.string p)).other (b := w.heap.size) (j := 2) (by omega) (.string q)).other (b := w.heap.size) (j := 7) (by omega) (.slice A3 n c3)
      have h3 := ((hr3.set (HBX.out.later hacc) (by decide) 1 (.string p)).set ((HBX.out.later hacc).set 1 (.string p)) (by decide) 2 (.string q)).set (((HBX.out.later hacc).set 1 (.string p)).set 2 (.string q)) (by decide) 7 (.slice A3 n c3)
      have h4 := ((((HB0.out.trans (hacc.mono HB0.out.size))).setCell (p := ⟨w.heap.size, 1, none⟩) (Nat.le_refl _) (.string p)).setCell (p := ⟨w.heap.size, 2, none⟩) (Nat.le_refl _) (.string q)).setCell (p := ⟨w.heap.size, 7, none⟩) (Nat.le_refl _) (.slice A3 n c3)
      go_wp2
      go_meet
      exact ⟨A3, c3, rfl, hn3, hm3, h1, h2, h3, h4⟩
  case rest =>
    obtain ⟨A3, c3, rfl, hn3, hm3, H1, H2, H3, H4⟩ := hcut
    have h1 := H1.out
    have h2 := H2.out
    have z0 := h1.cell (j := 0) (v := .int .i64 kd) rfl
    have z1 := h1.cell (j := 1) (v := .string p) rfl
    have z2 := h1.cell (j := 2) (v := .string q) rfl
    have z3 := h1.cell (j := 3) (v := .int .i64 a) rfl
    have z4 := h1.cell (j := 4) (v := .int .i64 b) rfl
    have z5 := h1.cell (j := 5) (v := .int .i64 c) rfl
    have z6 := h1.cell (j := 6) (v := .int .i64 d) rfl
    have z7 := h1.cell (j := 7) (v := .slice A3 n c3) rfl
    have g0 := h2.cell (j := 0) (v := .int .i64 0) rfl
    have e0 := h2.free 0
    have g1 := h2.cell (j := 1) (v := .string ⟨#[]⟩) rfl
    have e1 := h2.free 1
    have g2 := h2.cell (j := 2) (v := .string ⟨#[]⟩) rfl
    have e2 := h2.free 2
    have g3 := h2.cell (j := 3) (v := .int .i64 0) rfl
    have e3 := h2.free 3
    have g4 := h2.cell (j := 4) (v := .int .i64 0) rfl
    have e4 := h2.free 4
    have g5 := h2.cell (j := 5) (v := .int .i64 0) rfl
    have e5 := h2.free 5
    have g6 := h2.cell (j := 6) (v := .int .i64 0) rfl
    have e6 := h2.free 6
    have g7 := h2.cell (j := 7) (v := .slice none 0 0) rfl
    have e7 := h2.free 7
    have h5 := h2.set8' (.int .i64 kd) (.string p) (.string q) (.int .i64 a) (.int .i64 b) (.int .i64 c) (.int .i64 d) (.slice A3 n c3)
    have r0 := h5.cell (j := 0) (v := .int .i64 kd) rfl
    have r1 := h5.cell (j := 1) (v := .string p) rfl
    have r2 := h5.cell (j := 2) (v := .string q) rfl
    have r3 := h5.cell (j := 3) (v := .int .i64 a) rfl
    have r4 := h5.cell (j := 4) (v := .int .i64 b) rfl
    have r5 := h5.cell (j := 5) (v := .int .i64 c) rfl
    have r6 := h5.cell (j := 6) (v := .int .i64 d) rfl
    have r7 := h5.cell (j := 7) (v := .slice A3 n c3) rfl
    have HSZ := Lib.hid (show w.heap.size ≤ wc.heap.size from H4.out.size)
    clear h1 h2 h5
    go_wp2
    refine bodyPost_ret (v := .agg #[.int .i64 kd, .string p, .string q, .int .i64 a, .int .i64 b, .int .i64 c, .int .i64 d, .slice A3 n c3]) (by simp [results, Tryz.f79, go_sem, r0, r1, r2, r3, r4, r5, r6, r7]) rfl ?_
    exact ⟨A3, c3, rfl, H3.out.set8' H2.out (by decide) _ _ _ _ _ _ _ _, hn3, hm3, below_set8' H4.out (Nat.le_succ _) _ _ _ _ _ _ _ _⟩
end Go.Proofs.YthgbncpiehcghaaGreatDoor
/- A DISK IN MEMORY, SECOND PART: its two trees, its row of deeds; what a call at one of them keeps. -/
namespace Go.Proofs.YthgbncpiehcghaaGreatDoor
set_option linter.unusedVariables false
open Go Go.RowKit Go.Maps
set_option maxRecDepth 100000
set_option maxHeartbeats 1000000
open Nt (Tr Nd WF Ps Path at_ cnt used Dd Dk ap)
theorem own_shape14 {w : World} {B size n : Nat} {e : TypeId} {v : Value} {xs : List Value} (h : w.ownsRow B e size v n xs) : ∃ A c, v = .slice A n c := by
  rcases h.2 with ⟨h1, h2⟩ | ⟨g, cap, cur, h1, _⟩
  · subst h2
    exact ⟨_, _, h1⟩
  · exact ⟨_, _, h1⟩
/-- Where a disk's history begins: below w0 all stands; since wS all stands but for O and what is new. -/
structure Bs where
  w0 : World
  wS : World
  O : Nat → Prop
abbrev Bs.heap (b : Bs) := b.w0.heap
instance : Coe Bs World := ⟨Bs.w0⟩
abbrev Bs.of (w : World) : Bs := ⟨w, w, fun _ => False⟩
theorem Keep.push {O F : Nat → Prop} {wS w w' : World} (h : Keep O wS w) (hk : Keep F w w') (hF : ∀ k, F k → O k ∨ wS.heap.size ≤ k) : Keep O wS w' :=
  ⟨hk.os.trans h.os, hk.tape.trans h.tape, hk.output.trans h.output, Nat.le_trans h.size hk.size, fun k hl hn => (hk.block k (Nat.lt_of_lt_of_le hl h.size) fun hf => (hF k hf).elim hn fun e => by omega).trans (h.block k hl hn)⟩
structure DM (w0 : Bs) (w : World) (db dt vt : Nat) (D V : Tr) (v : Value) (l : List Dd) (sy fu : Int) (K : Nat) (ad mb ad' mb' : Nat → Nat) : Prop where
  low : Below w0.heap.size w0 w
  box : BX w db 135 (DkC dt vt v sy fu)
  dlow : w0.heap.size ≤ db
  repD : RepP (Fm D dt ad mb) K w dt D ad mb
  repV : RepP (Fm V vt ad' mb') K w vt V ad' mb'
  lowD : ∀ k, Fm D dt ad mb k → w0.heap.size ≤ k
  lowV : ∀ k, Fm V vt ad' mb' k → w0.heap.size ≤ k
  apart : ∀ k, Fm D dt ad mb k → ¬ Fm V vt ad' mb' k
  row : w.ownsRow w0.heap.size 74 8 v l.length (ddL l)
  data : ∀ y ∈ l, DOk w y
  since : Keep w0.O w0.wS w
  own : ∀ k, (k = db ∨ Fm D dt ad mb k ∨ Fm V vt ad' mb' k ∨ v.ownBlock = some k) → w0.O k ∨ w0.wS.heap.size ≤ k
section
variable {w0 : Bs} {w w' : World} {db dt vt K : Nat} {D V : Tr} {v : Value} {l : List Dd} {sy fu : Int} {ad mb ad' mb' : Nat → Nat} {r : Tr × Int} {e : Ending}
theorem DM.later (h : DM w0 w db dt vt D V v l sy fu K ad mb ad' mb') (hb : Below w.heap.size w w') : DM w0 w' db dt vt D V v l sy fu K ad mb ad' mb' :=
  ⟨h.low.trans (hb.mono h.low.size), h.box.later hb, h.dlow, h.repD.later hb, h.repV.later hb, h.lowD, h.lowV, h.apart, own_keep13 h.row fun k hk => hb.block k (World.ownsRow.lt h.row k hk).2, fun y hy => (h.data y hy).below hb, h.since.trans (Keep.ofBelow hb), h.own⟩
theorem DM.more (h : DM w0 w db dt vt D V v l sy fu K ad mb ad' mb') {K' : Nat} (hK : K ≤ K') : DM w0 w db dt vt D V v l sy fu K' ad mb ad' mb' :=
  ⟨h.low, h.box, h.dlow, h.repD.weak (fun _ h => h) hK, h.repV.weak (fun _ h => h) hK, h.lowD, h.lowV, h.apart, h.row, h.data, h.since, h.own⟩
theorem DM.ne (h : DM w0 w db dt vt D V v l sy fu K ad mb ad' mb') : (∀ k, Fm D dt ad mb k → k ≠ db) ∧ (∀ k, Fm V vt ad' mb' k → k ≠ db) ∧ (∀ k, v.ownBlock = some k → k ≠ db ∧ ¬ Fm D dt ad mb k ∧ ¬ Fm V vt ad' mb' k) := by
  have hbx := h.box
  have hrow : ∀ k, v.ownBlock = some k → ∃ cs, w.heap[k]? = some (.cells cs 74 (0, 0)) := fun k hk => by
    rcases h.row.2 with ⟨e1, _⟩ | ⟨g, cap, cur, e1, _, hg, _⟩
    · rw [e1] at hk; cases hk
    · rw [e1] at hk
      obtain rfl : g = k := by simpa [Value.ownBlock] using hk
      exact ⟨_, hg⟩
  unfold BX at hbx
  refine ⟨?_, ?_, ?_⟩
  · rintro k hk rfl
    obtain ⟨o, h1, h2⟩ := h.repD.sort hk
    rw [hbx] at h1; cases h1
    exact diskd_tree h2
  · rintro k hk rfl
    obtain ⟨o, h1, h2⟩ := h.repV.sort hk
    rw [hbx] at h1; cases h1
    exact diskd_tree h2
  · intro k hk
    obtain ⟨cs, hc⟩ := hrow k hk
    refine ⟨?_, ?_, ?_⟩
    · rintro rfl
      rw [hbx] at hc; cases hc
    · intro hf
      obtain ⟨o, h1, h2⟩ := h.repD.sort hf
      rw [hc] at h1; cases h1
      exact deed_tree h2
    · intro hf
      obtain ⟨o, h1, h2⟩ := h.repV.sort hf
      rw [hc] at h1; cases h1
      exact deed_tree h2
/-- A call at the durable tree is done. -/
theorem DM.durable (h : DM w0 w db dt vt D V v l sy fu K ad mb ad' mb') (hd : Done (Fm D dt ad mb) K w w' dt r e) : e = .returned (.int .i64 r.2) ∧ KeepX TreeObj w w' ∧ ∃ ad2 mb2, DM w0 w' db dt vt r.1.er V v l sy fu (K + 301) ad2 mb2 ad' mb' := by
  obtain ⟨rfl, ⟨ad2, mb2, hR2⟩, hk⟩ := hd
  have hX : KeepX TreeObj w w' := KeepX.ofKeep hk fun k hk2 => h.repD.sort hk2
  refine ⟨rfl, hX, ad2, mb2, h.low.trans (hk.below h.lowD h.low.size), h.box.keptX hX diskd_tree, h.dlow, hR2.er.min, (h.repV.kept fun k hF hl => hk.block k hl fun e => h.apart k e hF).weak (fun _ h => h) (by omega), ?_, h.lowV, ?_, own_keptX h.row hX fun _ _ => deed_tree, fun y hy => (h.data y hy).keptX hX tree_u8, h.since.push hk fun k hk2 => h.own k (.inr (.inl hk2)), ?_⟩
  · intro k hk2
    rcases hR2.fm (Fm.er.1 hk2) with h1 | h1
    · exact h.lowD k h1
    · exact Nat.le_trans h.low.size h1.1
  · intro k hk2 hk3
    rcases hR2.fm (Fm.er.1 hk2) with h1 | h1
    · exact h.apart k h1 hk3
    · have := h.repV.lt hk3
      omega
  · intro k hk3
    rcases hk3 with h1 | h1 | h1 | h1
    · exact h.own k (.inl h1)
    · rcases hR2.fm (Fm.er.1 h1) with h2 | h2
      · exact h.own k (.inr (.inl h2))
      · exact .inr (Nat.le_trans h.since.size h2.1)
    · exact h.own k (.inr (.inr (.inl h1)))
    · exact h.own k (.inr (.inr (.inr h1)))
/-- A call at the view is done. -/
theorem DM.viewed (h : DM w0 w db dt vt D V v l sy fu K ad mb ad' mb') (hd : Done (Fm V vt ad' mb') K w w' vt r e) : e = .returned (.int .i64 r.2) ∧ KeepX TreeObj w w' ∧ ∃ ad2 mb2, DM w0 w' db dt vt D r.1.er v l sy fu (K + 301) ad mb ad2 mb2 := by
  obtain ⟨rfl, ⟨ad2, mb2, hR2⟩, hk⟩ := hd
  have hX : KeepX TreeObj w w' := KeepX.ofKeep hk fun k hk2 => h.repV.sort hk2
  refine ⟨rfl, hX, ad2, mb2, h.low.trans (hk.below h.lowV h.low.size), h.box.keptX hX diskd_tree, h.dlow, (h.repD.kept fun k hF hl => hk.block k hl fun e => h.apart k hF e).weak (fun _ h => h) (by omega), hR2.er.min, h.lowD, ?_, ?_, own_keptX h.row hX fun _ _ => deed_tree, fun y hy => (h.data y hy).keptX hX tree_u8, h.since.push hk fun k hk2 => h.own k (.inr (.inr (.inl hk2))), ?_⟩
  · intro k hk2
    rcases hR2.fm (Fm.er.1 hk2) with h1 | h1
    · exact h.lowV k h1
    · exact Nat.le_trans h.low.size h1.1
  · intro k hk2 hk3
    rcases hR2.fm (Fm.er.1 hk3) with h1 | h1
    · exact h.apart k hk2 h1
    · have := h.repD.lt hk2
      omega
  · intro k hk3
    rcases hk3 with h1 | h1 | h1 | h1
    · exact h.own k (.inl h1)
    · exact h.own k (.inr (.inl h1))
    · rcases hR2.fm (Fm.er.1 h1) with h2 | h2
      · exact h.own k (.inr (.inr (.inl h2)))
      · exact .inr (Nat.le_trans h.since.size h2.1)
    · exact h.own k (.inr (.inr (.inr h1)))
theorem disk_obj {cs : Array Value} {fz : Nat × Nat} : DiskObj (.cells cs 135 fz) := .inr ⟨_, _, _, rfl, .inl rfl⟩
theorem deed_obj {cs : Array Value} {fz : Nat × Nat} : DiskObj (.cells cs 74 fz) := .inr ⟨_, _, _, rfl, .inr rfl⟩
/-- The disk's own block alone is turned. -/
theorem DM.turned (h : DM w0 w db dt vt D V v l sy fu K ad mb ad' mb') {sy2 fu2 : Int} (hb : BX w' db 135 (DkC dt vt v sy2 fu2)) (ho : Oth db w w') : DM w0 w' db dt vt D V v l sy2 fu2 K ad mb ad' mb' :=
  ⟨h.low.trans (ho.below h.dlow h.low.size), hb, h.dlow, h.repD.kept fun k hF hl => ho.2.2.2.2 k hl (h.ne.1 k hF), h.repV.kept fun k hF hl => ho.2.2.2.2 k hl (h.ne.2.1 k hF), h.lowD, h.lowV, h.apart,
    own_keep13 h.row fun k hk => ho.2.2.2.2 k (World.ownsRow.lt h.row k hk).2 (h.ne.2.2 k hk).1, fun y hy => (h.data y hy).keptX (KeepX.ofOth (X := fun o => o = .cells (DkC dt vt v sy fu) 135 (0, 0)) ho h.box rfl) (fun cs fz e => by cases e), h.since.push (Keep.ofOth ho rfl : Keep (fun k => k = db) w w') fun k e => h.own k (.inl e), h.own⟩
/-- Nothing waits any more. -/
theorem DM.empty (h : DM w0 w db dt vt D V v l sy fu K ad mb ad' mb') {sy2 fu2 : Int} (hb : BX w' db 135 (DkC dt vt (.slice none 0 0) sy2 fu2)) (ho : Oth db w w') : DM w0 w' db dt vt D V (.slice none 0 0) [] sy2 fu2 K ad mb ad' mb' :=
  ⟨h.low.trans (ho.below h.dlow h.low.size), hb, h.dlow, h.repD.kept fun k hF hl => ho.2.2.2.2 k hl (h.ne.1 k hF), h.repV.kept fun k hF hl => ho.2.2.2.2 k hl (h.ne.2.1 k hF), h.lowD, h.lowV, h.apart,
    World.ownsRow_nil _ _ _ _, fun y hy => (by cases hy), h.since.push (Keep.ofOth ho rfl : Keep (fun k => k = db) w w') fun k e => h.own k (.inl e), fun k hk => by
      rcases hk with h1 | h1 | h1 | h1
      · exact h.own k (.inl h1)
      · exact h.own k (.inr (.inl h1))
      · exact h.own k (.inr (.inr (.inl h1)))
      · cases h1⟩
/-- The view is a new tree. -/
theorem DM.anew (h : DM w0 w db dt vt D V v l sy fu K ad mb ad' mb') {G : Nat → Prop} {vt2 : Nat} {V2 : Tr} {ad2 mb2 : Nat → Nat} {W : World} (hb0 : Below w.heap.size w W) (hR : RepP G K W vt2 V2 ad2 mb2) (hG : ∀ k, G k → w.heap.size ≤ k) (hb : BX w' db 135 (DkC dt vt2 v sy fu)) (ho : Oth db W w') : DM w0 w' db dt vt2 D V2 v l sy fu K ad mb ad2 mb2 := by
  have hl := h.later hb0
  have hm := hR.min
  have hdb : db < w.heap.size := h.box.lt
  refine ⟨hl.low.trans (ho.below h.dlow hl.low.size), hb, h.dlow, hl.repD.kept fun k hF hl2 => ho.2.2.2.2 k hl2 (h.ne.1 k hF), hm.kept fun k hF hl2 => ho.2.2.2.2 k hl2 fun e => by have := hG k (hR.fm hF); omega, h.lowD, fun k hk => Nat.le_trans h.low.size (hG k (hR.fm hk)), fun k hk hk2 => by have := h.repD.lt hk; have := hG k (hR.fm hk2); omega,
    own_keep13 hl.row fun k hk => ho.2.2.2.2 k (World.ownsRow.lt hl.row k hk).2 (hl.ne.2.2 k hk).1, fun y hy => (hl.data y hy).keptX (KeepX.ofOth (X := fun o => o = .cells (DkC dt vt v sy fu) 135 (0, 0)) ho hl.box rfl) (fun cs fz e => by cases e), (h.since.trans (Keep.ofBelow hb0)).push (Keep.ofOth ho rfl : Keep (fun k => k = db) W w') (fun k e => h.own k (.inl e)), fun k hk => by
      rcases hk with h1 | h1 | h1 | h1
      · exact h.own k (.inl h1)
      · exact h.own k (.inr (.inl h1))
      · exact .inr (Nat.le_trans h.since.size (hG k (hR.fm h1)))
      · exact h.own k (.inr (.inr (.inr h1)))⟩
end
end Go.Proofs.YthgbncpiehcghaaGreatDoor
