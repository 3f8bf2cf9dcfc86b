/- WALKS OF THE DOCUMENT's DISK: Apply: a deed done to a tree. gen_r14a.py -/
import Derived.Test.YthgbncpiehcghaaGreatDoorR13o
import Derived.Test.YthgbncpiehcghaaGreatDoorGr2
import Derived.Test.YthgbncpiehcghaaGreatDoorGa1
namespace Go.Proofs.YthgbncpiehcghaaGreatDoor
set_option linter.unusedVariables false
open Go Go.RowKit Go.Maps
set_option maxRecDepth 100000
set_option maxHeartbeats 8000000
open Nt (Tr Nd WF Ps Path at_ cnt used txt Dd ap)
section
variable {w : World} {B : Nat} {A1 A2 : Option Addr} {n1 c1 n2 c2 : Nat} {T : Tr}
/-- What Apply owes. -/
def RDone (w : World) (B : Nat) (r : Tr × Int) (e : Ending) (w' : World) : Prop := ∃ v, e = .returned (.tuple #[v, .int .i64 r.2]) ∧ Rv w' B v r.1 ∧ Below w.heap.size w w'
theorem refapply_any {K : Nat} (h : RTr w B A1 n1 c1 A2 n2 c2 T) (hW : WF T K) (hK : K ≤ 100000) (y : Dd) (hp0 : y.p.size ≤ 100000) (hq0 : y.q.size ≤ 100000) (hd0 : RB w B y.A y.n y.xs) (hc0 : y.n ≤ y.k) (hm0 : y.k ≤ maxLen) (hn0 : y.n ≤ 1000000) :
    Calls Tryz.prog 82 #[.agg (RvC A1 n1 c1 A2 n2 c2 T.room T.vol), .agg (DdC y)] w fun e w' => RDone w B (ap T y) e w' := by
  obtain ⟨kd, p, q, a, b, c, d, A, n, k, xs⟩ := y
  have hp : p.size ≤ 100000 := hp0
  have hq : q.size ≤ 100000 := hq0
  have hd : RB w B A n xs := hd0
  have hn : n ≤ 1000000 := hn0
  have hc : n ≤ k := hc0
  have hm : k ≤ maxLen := hm0
  clear hp0 hq0 hd0 hn0 hc0 hm0
  obtain ⟨W3, hW3, hb3, hs3, x1, x2, x3⟩ := frame3 w (RvC A1 n1 c1 A2 n2 c2 T.room T.vol) 29 (DdC ⟨kd, p, q, a, b, c, d, A, n, k, xs⟩) 60 Rv0 29
  have CF := Lib.hid (fun W (hh : Below W3.heap.size W3 W) => And.intro (x1.later hh).cin (x3.later hh).cout)
  have X2 := Lib.hid (fun W (hh : Below W3.heap.size W3 W) => x3.later hh)
  have HB := Lib.hid hb3
  have HR := Lib.hid h
  have hr3 := h.below hb3
  have hd3 : RB W3 B A n xs := hd.below (hb3.mono h.base)
  have hBw := h.base
  have s0 : W3.cell? ⟨w.heap.size + 1, 0, none⟩ = some (.int .i64 kd) := x2.cell rfl
  have s1 : W3.cell? ⟨w.heap.size + 1, 1, none⟩ = some (.string p) := x2.cell rfl
  have s2 : W3.cell? ⟨w.heap.size + 1, 2, none⟩ = some (.string q) := x2.cell rfl
  have s3 : W3.cell? ⟨w.heap.size + 1, 3, none⟩ = some (.int .i64 a) := x2.cell rfl
  have s4 : W3.cell? ⟨w.heap.size + 1, 4, none⟩ = some (.int .i64 b) := x2.cell rfl
  have s5 : W3.cell? ⟨w.heap.size + 1, 5, none⟩ = some (.int .i64 c) := x2.cell rfl
  have s6 : W3.cell? ⟨w.heap.size + 1, 6, none⟩ = some (.int .i64 d) := x2.cell rfl
  have s7 : W3.cell? ⟨w.heap.size + 1, 7, none⟩ = some (.slice A n k) := x2.cell rfl
  obtain ⟨⟨ca, cb, cc, cd⟩, ⟨ce, cqe⟩, ⟨cg, cqg⟩, ⟨ch, cqh⟩, ci, cqi⟩ := CF.out _ (Below.refl _ _)
  unfold ap
  dsimp only
  by_cases h1 : kd = 1
  · subst h1
    rw [if_pos rfl]
    have kk := Lib.hid (refmake_any hr3 hW hK p (by omega) 4 a b c d ⟨#[]⟩ none 0 0 [] RB.nil (Nat.le_refl _) (Nat.zero_le _) (Nat.zero_le _) (Nat.zero_le _))
    clear h hW x1 x2 x3 hb3 hr3 hd hd3 hs3
    go_enter Tryz.func82, Tryz.ntmps82
    go_wp2_with (go_at_call 52; (with_reducible refine kk.out.mono ?_); rintro e w4 ⟨v, rfl, ⟨A3, n3, c3, A4, n4, c4, rfl, hr4⟩, hb4⟩; have HR4 := Lib.hid hr4; clear hr4; obtain ⟨⟨da, db, dc, dd⟩, ⟨de, dqe⟩, ⟨dg, dqg⟩, ⟨dh, dqh⟩, di, dqi⟩ := CF.out _ hb4)
    obtain ⟨W9, hW9, k0, k1, k2, k3, hb9, ho9⟩ := fin4 (X2.out _ hb4) (bthen HB.out hb4) (by omega) (.slice A3 n3 c3) (.slice A4 n4 c4) (.int .i64 (T.mk' p ⟨4, a, b, c, d, ⟨#[]⟩, none, 0, 0, []⟩).1.room) (.int .i64 (T.mk' p ⟨4, a, b, c, d, ⟨#[]⟩, none, 0, 0, []⟩).1.vol)
    rw [hW9]
    refine bodyPost_ret (v := .tuple #[.agg (RvC A3 n3 c3 A4 n4 c4 (T.mk' p ⟨4, a, b, c, d, ⟨#[]⟩, none, 0, 0, []⟩).1.room (T.mk' p ⟨4, a, b, c, d, ⟨#[]⟩, none, 0, 0, []⟩).1.vol), .int .i64 (T.mk' p ⟨4, a, b, c, d, ⟨#[]⟩, none, 0, 0, []⟩).2]) (by simp [results, Tryz.f82, go_sem, k0, k1, k2, k3]) rfl ?_
    exact ⟨_, rfl, ⟨_, _, _, _, _, _, rfl, HR4.out.oth13f ho9 (X2.out _ hb4) (by omega)⟩, hb9⟩
  by_cases h2 : kd = 2
  · subst h2
    rw [if_neg (by decide), if_pos rfl]
    have kk := Lib.hid (refmake_any hr3 hW hK p (by omega) 1 a b c d ⟨#[]⟩ A n k xs hd3 hc hm hn (Nat.zero_le _))
    clear h hW x1 x2 x3 hb3 hr3 hd hd3 hs3
    go_enter Tryz.func82, Tryz.ntmps82
    go_wp2_with (go_at_call 52; (with_reducible refine kk.out.mono ?_); rintro e w4 ⟨v, rfl, ⟨A3, n3, c3, A4, n4, c4, rfl, hr4⟩, hb4⟩; have HR4 := Lib.hid hr4; clear hr4; obtain ⟨⟨da, db, dc, dd⟩, ⟨de, dqe⟩, ⟨dg, dqg⟩, ⟨dh, dqh⟩, di, dqi⟩ := CF.out _ hb4)
    obtain ⟨W9, hW9, k0, k1, k2, k3, hb9, ho9⟩ := fin4 (X2.out _ hb4) (bthen HB.out hb4) (by omega) (.slice A3 n3 c3) (.slice A4 n4 c4) (.int .i64 (T.mk' p ⟨1, a, b, c, d, ⟨#[]⟩, A, n, k, xs⟩).1.room) (.int .i64 (T.mk' p ⟨1, a, b, c, d, ⟨#[]⟩, A, n, k, xs⟩).1.vol)
    rw [hW9]
    refine bodyPost_ret (v := .tuple #[.agg (RvC A3 n3 c3 A4 n4 c4 (T.mk' p ⟨1, a, b, c, d, ⟨#[]⟩, A, n, k, xs⟩).1.room (T.mk' p ⟨1, a, b, c, d, ⟨#[]⟩, A, n, k, xs⟩).1.vol), .int .i64 (T.mk' p ⟨1, a, b, c, d, ⟨#[]⟩, A, n, k, xs⟩).2]) (by simp [results, Tryz.f82, go_sem, k0, k1, k2, k3]) rfl ?_
    exact ⟨_, rfl, ⟨_, _, _, _, _, _, rfl, HR4.out.oth13f ho9 (X2.out _ hb4) (by omega)⟩, hb9⟩
  by_cases h3 : kd = 3
  · subst h3
    rw [if_neg (by decide), if_neg (by decide), if_pos rfl]
    have kk := Lib.hid (refmake_any hr3 hW hK p (by omega) 3 a b c d q none 0 0 [] RB.nil (Nat.le_refl _) (Nat.zero_le _) (Nat.zero_le _) (by omega))
    clear h hW x1 x2 x3 hb3 hr3 hd hd3 hs3
    go_enter Tryz.func82, Tryz.ntmps82
    go_wp2_with (go_at_call 52; (with_reducible refine kk.out.mono ?_); rintro e w4 ⟨v, rfl, ⟨A3, n3, c3, A4, n4, c4, rfl, hr4⟩, hb4⟩; have HR4 := Lib.hid hr4; clear hr4; obtain ⟨⟨da, db, dc, dd⟩, ⟨de, dqe⟩, ⟨dg, dqg⟩, ⟨dh, dqh⟩, di, dqi⟩ := CF.out _ hb4)
    obtain ⟨W9, hW9, k0, k1, k2, k3, hb9, ho9⟩ := fin4 (X2.out _ hb4) (bthen HB.out hb4) (by omega) (.slice A3 n3 c3) (.slice A4 n4 c4) (.int .i64 (T.mk' p ⟨3, a, b, c, d, q, none, 0, 0, []⟩).1.room) (.int .i64 (T.mk' p ⟨3, a, b, c, d, q, none, 0, 0, []⟩).1.vol)
    rw [hW9]
    refine bodyPost_ret (v := .tuple #[.agg (RvC A3 n3 c3 A4 n4 c4 (T.mk' p ⟨3, a, b, c, d, q, none, 0, 0, []⟩).1.room (T.mk' p ⟨3, a, b, c, d, q, none, 0, 0, []⟩).1.vol), .int .i64 (T.mk' p ⟨3, a, b, c, d, q, none, 0, 0, []⟩).2]) (by simp [results, Tryz.f82, go_sem, k0, k1, k2, k3]) rfl ?_
    exact ⟨_, rfl, ⟨_, _, _, _, _, _, rfl, HR4.out.oth13f ho9 (X2.out _ hb4) (by omega)⟩, hb9⟩
  by_cases h4 : kd = 4
  · subst h4
    rw [if_neg (by decide), if_neg (by decide), if_neg (by decide), if_pos rfl]
    have kk := Lib.hid (reflink_any hr3 hW hK p q (by omega) (by omega))
    clear h hW x1 x2 x3 hb3 hr3 hd hd3 hs3
    go_enter Tryz.func82, Tryz.ntmps82
    go_wp2_with (go_at_call 53; (with_reducible refine kk.out.mono ?_); rintro e w4 ⟨v, rfl, ⟨A3, n3, c3, A4, n4, c4, rfl, hr4⟩, hb4⟩; have HR4 := Lib.hid hr4; clear hr4; obtain ⟨⟨da, db, dc, dd⟩, ⟨de, dqe⟩, ⟨dg, dqg⟩, ⟨dh, dqh⟩, di, dqi⟩ := CF.out _ hb4)
    obtain ⟨W9, hW9, k0, k1, k2, k3, hb9, ho9⟩ := fin4 (X2.out _ hb4) (bthen HB.out hb4) (by omega) (.slice A3 n3 c3) (.slice A4 n4 c4) (.int .i64 (T.lnk p q).1.room) (.int .i64 (T.lnk p q).1.vol)
    rw [hW9]
    refine bodyPost_ret (v := .tuple #[.agg (RvC A3 n3 c3 A4 n4 c4 (T.lnk p q).1.room (T.lnk p q).1.vol), .int .i64 (T.lnk p q).2]) (by simp [results, Tryz.f82, go_sem, k0, k1, k2, k3]) rfl ?_
    exact ⟨_, rfl, ⟨_, _, _, _, _, _, rfl, HR4.out.oth13f ho9 (X2.out _ hb4) (by omega)⟩, hb9⟩
  by_cases h5 : kd = 5
  · subst h5
    rw [if_neg (by decide), if_neg (by decide), if_neg (by decide), if_neg (by decide), if_pos rfl]
    have kk := Lib.hid (refwrite_any hr3 hW hK p (by omega) A n k xs hd3 hc hm hn)
    clear h hW x1 x2 x3 hb3 hr3 hd hd3 hs3
    go_enter Tryz.func82, Tryz.ntmps82
    go_wp2_with (go_at_call 54; (with_reducible refine kk.out.mono ?_); rintro e w4 ⟨v, rfl, ⟨A3, n3, c3, A4, n4, c4, rfl, hr4⟩, hb4⟩; have HR4 := Lib.hid hr4; clear hr4; obtain ⟨⟨da, db, dc, dd⟩, ⟨de, dqe⟩, ⟨dg, dqg⟩, ⟨dh, dqh⟩, di, dqi⟩ := CF.out _ hb4)
    obtain ⟨W9, hW9, k0, k1, k2, k3, hb9, ho9⟩ := fin4 (X2.out _ hb4) (bthen HB.out hb4) (by omega) (.slice A3 n3 c3) (.slice A4 n4 c4) (.int .i64 (T.wr p A n k xs).1.room) (.int .i64 (T.wr p A n k xs).1.vol)
    rw [hW9]
    refine bodyPost_ret (v := .tuple #[.agg (RvC A3 n3 c3 A4 n4 c4 (T.wr p A n k xs).1.room (T.wr p A n k xs).1.vol), .int .i64 (T.wr p A n k xs).2]) (by simp [results, Tryz.f82, go_sem, k0, k1, k2, k3]) rfl ?_
    exact ⟨_, rfl, ⟨_, _, _, _, _, _, rfl, HR4.out.oth13f ho9 (X2.out _ hb4) (by omega)⟩, hb9⟩
  by_cases h6 : kd = 6
  · subst h6
    rw [if_neg (by decide), if_neg (by decide), if_neg (by decide), if_neg (by decide), if_neg (by decide), if_pos rfl]
    have kk := Lib.hid (refset_any hr3 hW hK p (by omega) a b c d)
    clear h hW x1 x2 x3 hb3 hr3 hd hd3 hs3
    go_enter Tryz.func82, Tryz.ntmps82
    go_wp2_with (go_at_call 55; (with_reducible refine kk.out.mono ?_); rintro e w4 ⟨v, rfl, ⟨A3, n3, c3, A4, n4, c4, rfl, hr4⟩, hb4⟩; have HR4 := Lib.hid hr4; clear hr4; obtain ⟨⟨da, db, dc, dd⟩, ⟨de, dqe⟩, ⟨dg, dqg⟩, ⟨dh, dqh⟩, di, dqi⟩ := CF.out _ hb4)
    obtain ⟨W9, hW9, k0, k1, k2, k3, hb9, ho9⟩ := fin4 (X2.out _ hb4) (bthen HB.out hb4) (by omega) (.slice A3 n3 c3) (.slice A4 n4 c4) (.int .i64 (T.st p a b c d).1.room) (.int .i64 (T.st p a b c d).1.vol)
    rw [hW9]
    refine bodyPost_ret (v := .tuple #[.agg (RvC A3 n3 c3 A4 n4 c4 (T.st p a b c d).1.room (T.st p a b c d).1.vol), .int .i64 (T.st p a b c d).2]) (by simp [results, Tryz.f82, go_sem, k0, k1, k2, k3]) rfl ?_
    exact ⟨_, rfl, ⟨_, _, _, _, _, _, rfl, HR4.out.oth13f ho9 (X2.out _ hb4) (by omega)⟩, hb9⟩
  by_cases h7 : kd = 7
  · subst h7
    rw [if_neg (by decide), if_neg (by decide), if_neg (by decide), if_neg (by decide), if_neg (by decide), if_neg (by decide), if_pos rfl]
    have kk := Lib.hid (refremove_any hr3 hW hK p hp)
    clear h hW x1 x2 x3 hb3 hr3 hd hd3 hs3
    go_enter Tryz.func82, Tryz.ntmps82
    go_wp2_with (go_at_call 56; (with_reducible refine kk.out.mono ?_); rintro e w4 ⟨v, rfl, ⟨A3, n3, c3, A4, n4, c4, rfl, hr4⟩, hb4⟩; have HR4 := Lib.hid hr4; clear hr4; obtain ⟨⟨da, db, dc, dd⟩, ⟨de, dqe⟩, ⟨dg, dqg⟩, ⟨dh, dqh⟩, di, dqi⟩ := CF.out _ hb4)
    obtain ⟨W9, hW9, k0, k1, k2, k3, hb9, ho9⟩ := fin4 (X2.out _ hb4) (bthen HB.out hb4) (by omega) (.slice A3 n3 c3) (.slice A4 n4 c4) (.int .i64 (T.rm p).1.room) (.int .i64 (T.rm p).1.vol)
    rw [hW9]
    refine bodyPost_ret (v := .tuple #[.agg (RvC A3 n3 c3 A4 n4 c4 (T.rm p).1.room (T.rm p).1.vol), .int .i64 (T.rm p).2]) (by simp [results, Tryz.f82, go_sem, k0, k1, k2, k3]) rfl ?_
    exact ⟨_, rfl, ⟨_, _, _, _, _, _, rfl, HR4.out.oth13f ho9 (X2.out _ hb4) (by omega)⟩, hb9⟩
  by_cases h8 : kd = 8
  · subst h8
    rw [if_neg (by decide), if_neg (by decide), if_neg (by decide), if_neg (by decide), if_neg (by decide), if_neg (by decide), if_neg (by decide), if_pos rfl]
    have kk := Lib.hid (refclear_any hr3 hW hK p hp)
    clear h hW x1 x2 x3 hb3 hr3 hd hd3 hs3
    go_enter Tryz.func82, Tryz.ntmps82
    go_wp2_with (go_at_call 57; (with_reducible refine kk.out.mono ?_); rintro e w4 ⟨v, rfl, ⟨A3, n3, c3, A4, n4, c4, rfl, hr4⟩, hb4⟩; have HR4 := Lib.hid hr4; clear hr4; obtain ⟨⟨da, db, dc, dd⟩, ⟨de, dqe⟩, ⟨dg, dqg⟩, ⟨dh, dqh⟩, di, dqi⟩ := CF.out _ hb4)
    obtain ⟨W9, hW9, k0, k1, k2, k3, hb9, ho9⟩ := fin4 (X2.out _ hb4) (bthen HB.out hb4) (by omega) (.slice A3 n3 c3) (.slice A4 n4 c4) (.int .i64 (T.clr p).1.room) (.int .i64 (T.clr p).1.vol)
    rw [hW9]
    refine bodyPost_ret (v := .tuple #[.agg (RvC A3 n3 c3 A4 n4 c4 (T.clr p).1.room (T.clr p).1.vol), .int .i64 (T.clr p).2]) (by simp [results, Tryz.f82, go_sem, k0, k1, k2, k3]) rfl ?_
    exact ⟨_, rfl, ⟨_, _, _, _, _, _, rfl, HR4.out.oth13f ho9 (X2.out _ hb4) (by omega)⟩, hb9⟩
  by_cases h9 : kd = 9
  · subst h9
    rw [if_neg (by decide), if_neg (by decide), if_neg (by decide), if_neg (by decide), if_neg (by decide), if_neg (by decide), if_neg (by decide), if_neg (by decide), if_pos rfl]
    have kk := Lib.hid (refrename_any hr3 hW hK p q hp hq)
    clear h hW x1 x2 x3 hb3 hr3 hd hd3 hs3
    go_enter Tryz.func82, Tryz.ntmps82
    go_wp2_with (go_at_call 58; (with_reducible refine kk.out.mono ?_); rintro e w4 ⟨v, rfl, ⟨A3, n3, c3, A4, n4, c4, rfl, hr4⟩, hb4⟩; have HR4 := Lib.hid hr4; clear hr4; obtain ⟨⟨da, db, dc, dd⟩, ⟨de, dqe⟩, ⟨dg, dqg⟩, ⟨dh, dqh⟩, di, dqi⟩ := CF.out _ hb4)
    obtain ⟨W9, hW9, k0, k1, k2, k3, hb9, ho9⟩ := fin4 (X2.out _ hb4) (bthen HB.out hb4) (by omega) (.slice A3 n3 c3) (.slice A4 n4 c4) (.int .i64 (T.rn p q).1.room) (.int .i64 (T.rn p q).1.vol)
    rw [hW9]
    refine bodyPost_ret (v := .tuple #[.agg (RvC A3 n3 c3 A4 n4 c4 (T.rn p q).1.room (T.rn p q).1.vol), .int .i64 (T.rn p q).2]) (by simp [results, Tryz.f82, go_sem, k0, k1, k2, k3]) rfl ?_
    exact ⟨_, rfl, ⟨_, _, _, _, _, _, rfl, HR4.out.oth13f ho9 (X2.out _ hb4) (by omega)⟩, hb9⟩
  rw [if_neg h1, if_neg h2, if_neg h3, if_neg h4, if_neg h5, if_neg h6, if_neg h7, if_neg h8, if_neg h9]
  have g1 : (kd == 1) = false := by simp [h1]
  have g2 : (kd == 2) = false := by simp [h2]
  have g3 : (kd == 3) = false := by simp [h3]
  have g4 : (kd == 4) = false := by simp [h4]
  have g5 : (kd == 5) = false := by simp [h5]
  have g6 : (kd == 6) = false := by simp [h6]
  have g7 : (kd == 7) = false := by simp [h7]
  have g8 : (kd == 8) = false := by simp [h8]
  have g9 : (kd == 9) = false := by simp [h9]
  clear h hW x1 x2 x3 hb3 hr3 hd hd3 hs3
  go_enter Tryz.func82, Tryz.ntmps82
  go_wp2
  obtain ⟨W9, hW9, k0, k1, k2, k3, hb9, ho9⟩ := fin4 (X2.out _ (Below.refl _ _)) HB.out (by omega) (.slice A1 n1 c1) (.slice A2 n2 c2) (.int .i64 T.room) (.int .i64 T.vol)
  rw [hW9]
  refine bodyPost_ret (v := .tuple #[.agg (RvC A1 n1 c1 A2 n2 c2 T.room T.vol), .int .i64 1]) (by simp [results, Tryz.f82, go_sem, k0, k1, k2, k3]) rfl ?_
  exact ⟨_, rfl, ⟨_, _, _, _, _, _, rfl, HR.out.below hb9⟩, hb9⟩
end
end Go.Proofs.YthgbncpiehcghaaGreatDoor
