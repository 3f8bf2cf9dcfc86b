/- WALKS OF THE DOCUMENT's TREE: Make (a new node). gen_r13o.py -/
import Derived.Test.YthgbncpiehcghaaGreatDoorGr2
import Derived.Test.YthgbncpiehcghaaGreatDoorR13m
namespace Go.Proofs.YthgbncpiehcghaaGreatDoor
set_option linter.unusedVariables false
open Go Go.RowKit Go.Maps
set_option maxRecDepth 100000
set_option maxHeartbeats 4000000
open Nt (Tr Nd WF Ps Path at_ cnt used txt)
section
variable {w : World} {B : Nat} {A1 A2 : Option Addr} {n1 c1 n2 c2 : Nat} {T : Tr}
theorem mk_rtr {w' : World} {A6 A9 : Option Addr} {c6 c9 : Nat} {p : ByteArray} {x : Nd} (h : RTr w B A1 n1 c1 A2 n2 c2 T) (hl : T.nodes.length = n1) (hn : NRow w' A6 (n1 + 1) (T.nodes ++ [x])) (ha : ARow w' A9 (n2 + 1) (tps T.paths ++ [(p, n1)])) (h6 : n1 + 1 ≤ c6 ∧ c6 ≤ maxLen) (h9 : n2 + 1 ≤ c9 ∧ c9 ≤ maxLen)
    (hb : Below w.heap.size w w') (hd : RB w B x.A x.n x.xs) (hc : x.n ≤ x.c) (hm : x.c ≤ maxLen) : RTr w' B A6 (n1 + 1) c6 A9 (n2 + 1) c9 (T.mk1 p x) := by
  refine ⟨hn, ?_, h6, h9, Nat.le_trans h.base hb.size, fun y hy => ?_⟩
  · have e : tps (T.mk1 p x).paths = tps T.paths ++ [(p, n1)] := by
      show tps (T.paths ++ [(Pp.pieces p, T.nodes.length)]) = _
      unfold tps
      rw [List.map_append, List.map_singleton, Nt.txt_pieces, hl]
    rw [e]
    exact ha
  · rcases List.mem_append.1 hy with h1 | h1
    · exact ⟨(h.data y h1).1.below (hb.mono h.base), (h.data y h1).2⟩
    · obtain rfl : y = x := by simpa using h1
      exact ⟨hd.below (hb.mono h.base), hc, hm⟩
theorem refmake_any {K : Nat} (h : RTr w B A1 n1 c1 A2 n2 c2 T) (hW : WF T K) (hK : K ≤ 100000) (p : ByteArray) (hp : p.size ≤ 1000000) (kd mo u g ti : Int) (l : ByteArray) (A : Option Addr) (n c : Nat) (xs : List Int)
    (hd : RB w B A n xs) (hc : n ≤ c) (hm : c ≤ maxLen) (hn : n ≤ 1000000) (hl : l.size ≤ 1000000) :
    Calls Tryz.prog 52 #[.agg (RvC A1 n1 c1 A2 n2 c2 T.room T.vol), .string p, .agg #[.int .i64 kd, .int .i64 mo, .int .i64 u, .int .i64 g, .int .i64 ti, .string l, .slice A n c]] w fun e w' => ∃ v, e = .returned (.tuple #[v, .int .i64 (T.mk' p ⟨kd, mo, u, g, ti, l, A, n, c, xs⟩).2]) ∧ Rv w' B v (T.mk' p ⟨kd, mo, u, g, ti, l, A, n, c, xs⟩).1 ∧ Below w.heap.size w w' := by
  obtain ⟨W3, hW3, hb3, hs3, x1, x2, x3⟩ := frame3 w (RvC A1 n1 c1 A2 n2 c2 T.room T.vol) 29 #[.int .i64 kd, .int .i64 mo, .int .i64 u, .int .i64 g, .int .i64 ti, .string l, .slice A n c] 114 Rv0 29
  have CF := Lib.hid (fun W (hh : Below W3.heap.size W3 W) => show W.cell? ⟨w.heap.size, 0, none⟩ = some (.slice A1 n1 c1) ∧ W.cell? ⟨w.heap.size, 1, none⟩ = some (.slice A2 n2 c2) ∧ W.cell? ⟨w.heap.size, 2, none⟩ = some (.int .i64 T.room) ∧ W.cell? ⟨w.heap.size, 3, none⟩ = some (.int .i64 T.vol) ∧ W.cell? ⟨w.heap.size + 1, 0, none⟩ = some (.int .i64 kd) ∧ W.cell? ⟨w.heap.size + 1, 1, none⟩ = some (.int .i64 mo) ∧ W.cell? ⟨w.heap.size + 1, 2, none⟩ = some (.int .i64 u) ∧ W.cell? ⟨w.heap.size + 1, 3, none⟩ = some (.int .i64 g) ∧ W.cell? ⟨w.heap.size + 1, 4, none⟩ = some (.int .i64 ti) ∧ W.cell? ⟨w.heap.size + 1, 5, none⟩ = some (.string l) ∧ W.cell? ⟨w.heap.size + 1, 6, none⟩ = some (.slice A n c) from
    ⟨(x1.later hh).cell rfl, (x1.later hh).cell rfl, (x1.later hh).cell rfl, (x1.later hh).cell rfl, (x2.later hh).cell rfl, (x2.later hh).cell rfl, (x2.later hh).cell rfl, (x2.later hh).cell rfl, (x2.later hh).cell rfl, (x2.later hh).cell rfl, (x2.later hh).cell rfl⟩)
  have RF := Lib.hid (fun W (hh : Below W3.heap.size W3 W) => show W.cell? ⟨w.heap.size + 1 + 1, 0, none⟩ = some (.slice none 0 0) ∧ W.frozen? ⟨w.heap.size + 1 + 1, 0, none⟩ = false ∧ W.cell? ⟨w.heap.size + 1 + 1, 1, none⟩ = some (.slice none 0 0) ∧ W.frozen? ⟨w.heap.size + 1 + 1, 1, none⟩ = false ∧ W.cell? ⟨w.heap.size + 1 + 1, 2, none⟩ = some (.int .i64 0) ∧ W.frozen? ⟨w.heap.size + 1 + 1, 2, none⟩ = false ∧ W.cell? ⟨w.heap.size + 1 + 1, 3, none⟩ = some (.int .i64 0) ∧ W.frozen? ⟨w.heap.size + 1 + 1, 3, none⟩ = false from
    ⟨(x3.later hh).cell rfl, (x3.later hh).free 0, (x3.later hh).cell rfl, (x3.later hh).free 1, (x3.later hh).cell rfl, (x3.later hh).free 2, (x3.later hh).cell rfl, (x3.later hh).free 3⟩)
  have X1 := Lib.hid (fun W (hh : Below W3.heap.size W3 W) => x1.later hh)
  have X3 := Lib.hid (fun W (hh : Below W3.heap.size W3 W) => x3.later hh)
  have HB := Lib.hid hb3
  have HR := Lib.hid h
  have hr3 := h.below hb3
  have HWF := Lib.hid hW
  have hn1 : n1 ≤ 100000 := by rw [← h.len1]; exact Nat.le_trans hW.few hK
  have hn2 : n2 ≤ 100000 := by rw [← h.len2]; exact Nat.le_trans hW.many hK
  have hcc1 := h.cap1
  have hcc2 := h.cap2
  have KFR := Lib.hid (reffresh_any hr3 hW hK T.room T.vol p hp)
  have KNU := Lib.hid (fun W => refnum13 mo u g ti W)
  have KMA := Lib.hid (fun W => refmay13 l W hl)
  have KRO := Lib.hid (fun W (hh : Below W3.heap.size W3 W) => refroom_any (hr3.below hh) hW hK 1 n (by omega) (by omega))
  obtain ⟨za0, za1, za2, za3, za4, za5, za6, za7, za8, za9, za10⟩ := CF.out _ (Below.refl _ _)
  have hE0 : T.mk' p ⟨kd, mo, u, g, ti, l, A, n, c, xs⟩ = if T.mkE p ⟨kd, mo, u, g, ti, l, A, n, c, xs⟩ = 0 then (T.mk1 p ⟨kd, mo, u, g, ti, l, A, n, c, xs⟩, 0) else (T, T.mkE p ⟨kd, mo, u, g, ti, l, A, n, c, xs⟩) := rfl
  have hE1 : T.mkE p ⟨kd, mo, u, g, ti, l, A, n, c, xs⟩ = if T.fresh p ≠ 0 then T.fresh p else if Nt.metaOk mo u g ti = false then 10 else if kd = 1 ∧ 4096 < n then 10
      else if kd = 3 ∧ Nt.linkE l ≠ 0 then Nt.linkE l else if T.roomy 1 n = false then 14 else 0 := rfl
  by_cases hf : T.fresh p ≠ 0
  · rw [if_pos hf] at hE1
    rw [hE1, if_neg hf] at hE0
    rw [hE0]
    generalize T.fresh p = z at *
    have gz : (z != 0) = true := by simp [hf]
    clear h hW hb3 hr3 x1 x2 x3 hE0 hE1 hf
    go_enter Tryz.func52, Tryz.ntmps52
    go_wp2_with (first
      | (go_at_call 101; (with_reducible refine (KFR.out).mono ?_); rintro e w1 ⟨rfl, hb1⟩; have hc1 := hb1; obtain ⟨f1a0, f1a1, f1a2, f1a3, f1a4, f1a5, f1a6, f1a7, f1a8, f1a9, f1a10⟩ := CF.out _ hc1; obtain ⟨f1b0, f1b1, f1b2, f1b3, f1b4, f1b5, f1b6, f1b7⟩ := RF.out _ hc1))
    obtain ⟨W9, hW9, k0, k1, k2, k3, hb9, ho9⟩ := fin4 (X3.out _ hc1) (bthen HB.out hc1) (by omega) (.slice A1 n1 c1) (.slice A2 n2 c2) (.int .i64 T.room) (.int .i64 T.vol)
    rw [hW9]
    refine bodyPost_ret (v := .tuple #[.agg (RvC A1 n1 c1 A2 n2 c2 T.room T.vol), .int .i64 z]) (by simp [results, Tryz.f52, go_sem, k0, k1, k2, k3]) rfl ?_
    exact ⟨_, rfl, ⟨_, _, _, _, _, _, rfl, HR.out.below hb9⟩, hb9⟩
  · rw [if_neg hf] at hE1
    have hf0 : T.fresh p = 0 := by omega
    rw [hf0] at KFR
    by_cases hmo : Nt.metaOk mo u g ti = false
    · rw [if_pos hmo] at hE1
      rw [hE1, if_neg (by decide)] at hE0
      rw [hE0]
      rw [hmo] at KNU
      clear h hW hb3 hr3 x1 x2 x3 hE0 hE1 hf hmo
      go_enter Tryz.func52, Tryz.ntmps52
      go_wp2_with (first
        | (go_at_call 102; (with_reducible refine (KNU.out _).mono ?_); rintro e w2 ⟨rfl, hb2⟩; have hc2 := bthen hc1 hb2; obtain ⟨f2a0, f2a1, f2a2, f2a3, f2a4, f2a5, f2a6, f2a7, f2a8, f2a9, f2a10⟩ := CF.out _ hc2; obtain ⟨f2b0, f2b1, f2b2, f2b3, f2b4, f2b5, f2b6, f2b7⟩ := RF.out _ hc2)
        | (go_at_call 101; (with_reducible refine (KFR.out).mono ?_); rintro e w1 ⟨rfl, hb1⟩; have hc1 := hb1; obtain ⟨f1a0, f1a1, f1a2, f1a3, f1a4, f1a5, f1a6, f1a7, f1a8, f1a9, f1a10⟩ := CF.out _ hc1; obtain ⟨f1b0, f1b1, f1b2, f1b3, f1b4, f1b5, f1b6, f1b7⟩ := RF.out _ hc1))
      obtain ⟨W9, hW9, k0, k1, k2, k3, hb9, ho9⟩ := fin4 (X3.out _ hc2) (bthen HB.out hc2) (by omega) (.slice A1 n1 c1) (.slice A2 n2 c2) (.int .i64 T.room) (.int .i64 T.vol)
      rw [hW9]
      refine bodyPost_ret (v := .tuple #[.agg (RvC A1 n1 c1 A2 n2 c2 T.room T.vol), .int .i64 10]) (by simp [results, Tryz.f52, go_sem, k0, k1, k2, k3]) rfl ?_
      exact ⟨_, rfl, ⟨_, _, _, _, _, _, rfl, HR.out.below hb9⟩, hb9⟩
    · rw [if_neg hmo] at hE1
      have hmo1 : Nt.metaOk mo u g ti = true := by simpa using hmo
      rw [hmo1] at KNU
      by_cases hb : kd = 1 ∧ 4096 < n
      · rw [if_pos hb] at hE1
        rw [hE1, if_neg (by decide)] at hE0
        rw [hE0]
        obtain ⟨rfl, hb2⟩ := hb
        have hbi : (4096 : Int) < n := by omega
        clear h hW hb3 hr3 x1 x2 x3 hE0 hE1 hf hmo hmo1 hb2
        go_enter Tryz.func52, Tryz.ntmps52
        go_wp2_with (first
          | (go_at_call 102; (with_reducible refine (KNU.out _).mono ?_); rintro e w2 ⟨rfl, hb2⟩; have hc2 := bthen hc1 hb2; obtain ⟨f2a0, f2a1, f2a2, f2a3, f2a4, f2a5, f2a6, f2a7, f2a8, f2a9, f2a10⟩ := CF.out _ hc2; obtain ⟨f2b0, f2b1, f2b2, f2b3, f2b4, f2b5, f2b6, f2b7⟩ := RF.out _ hc2)
          | (go_at_call 101; (with_reducible refine (KFR.out).mono ?_); rintro e w1 ⟨rfl, hb1⟩; have hc1 := hb1; obtain ⟨f1a0, f1a1, f1a2, f1a3, f1a4, f1a5, f1a6, f1a7, f1a8, f1a9, f1a10⟩ := CF.out _ hc1; obtain ⟨f1b0, f1b1, f1b2, f1b3, f1b4, f1b5, f1b6, f1b7⟩ := RF.out _ hc1))
        obtain ⟨W9, hW9, k0, k1, k2, k3, hb9, ho9⟩ := fin4 (X3.out _ hc2) (bthen HB.out hc2) (by omega) (.slice A1 n1 c1) (.slice A2 n2 c2) (.int .i64 T.room) (.int .i64 T.vol)
        rw [hW9]
        refine bodyPost_ret (v := .tuple #[.agg (RvC A1 n1 c1 A2 n2 c2 T.room T.vol), .int .i64 10]) (by simp [results, Tryz.f52, go_sem, k0, k1, k2, k3]) rfl ?_
        exact ⟨_, rfl, ⟨_, _, _, _, _, _, rfl, HR.out.below hb9⟩, hb9⟩
      · rw [if_neg hb] at hE1
        by_cases hs : kd = 3 ∧ Nt.linkE l ≠ 0
        · rw [if_pos hs] at hE1
          rw [hE1, if_neg hs.2] at hE0
          rw [hE0]
          obtain ⟨rfl, hs2⟩ := hs
          generalize Nt.linkE l = z at *
          have gz : (z != 0) = true := by simp [hs2]
          clear h hW hb3 hr3 x1 x2 x3 hE0 hE1 hf hmo hmo1 hs2 hb
          go_enter Tryz.func52, Tryz.ntmps52
          go_wp2_with (first
            | (go_at_call 103; (with_reducible refine (KMA.out _).mono ?_); rintro e w3 ⟨rfl, hb3⟩; have hc3 := bthen hc2 hb3; obtain ⟨f3a0, f3a1, f3a2, f3a3, f3a4, f3a5, f3a6, f3a7, f3a8, f3a9, f3a10⟩ := CF.out _ hc3; obtain ⟨f3b0, f3b1, f3b2, f3b3, f3b4, f3b5, f3b6, f3b7⟩ := RF.out _ hc3)
            | (go_at_call 102; (with_reducible refine (KNU.out _).mono ?_); rintro e w2 ⟨rfl, hb2⟩; have hc2 := bthen hc1 hb2; obtain ⟨f2a0, f2a1, f2a2, f2a3, f2a4, f2a5, f2a6, f2a7, f2a8, f2a9, f2a10⟩ := CF.out _ hc2; obtain ⟨f2b0, f2b1, f2b2, f2b3, f2b4, f2b5, f2b6, f2b7⟩ := RF.out _ hc2)
            | (go_at_call 101; (with_reducible refine (KFR.out).mono ?_); rintro e w1 ⟨rfl, hb1⟩; have hc1 := hb1; obtain ⟨f1a0, f1a1, f1a2, f1a3, f1a4, f1a5, f1a6, f1a7, f1a8, f1a9, f1a10⟩ := CF.out _ hc1; obtain ⟨f1b0, f1b1, f1b2, f1b3, f1b4, f1b5, f1b6, f1b7⟩ := RF.out _ hc1))
          obtain ⟨W9, hW9, k0, k1, k2, k3, hb9, ho9⟩ := fin4 (X3.out _ hc3) (bthen HB.out hc3) (by omega) (.slice A1 n1 c1) (.slice A2 n2 c2) (.int .i64 T.room) (.int .i64 T.vol)
          rw [hW9]
          refine bodyPost_ret (v := .tuple #[.agg (RvC A1 n1 c1 A2 n2 c2 T.room T.vol), .int .i64 z]) (by simp [results, Tryz.f52, go_sem, k0, k1, k2, k3]) rfl ?_
          exact ⟨_, rfl, ⟨_, _, _, _, _, _, rfl, HR.out.below hb9⟩, hb9⟩
        · rw [if_neg hs] at hE1
          have hrm : ∃ rm, T.roomy 1 n = rm := ⟨_, rfl⟩
          obtain ⟨rm, hrm⟩ := hrm
          rw [hrm] at KRO hE1
          cases rm with
          | false =>
            rw [if_pos rfl] at hE1
            rw [hE1, if_neg (by decide)] at hE0
            rw [hE0]
            by_cases h1 : kd = 1
            · subst h1
              have hb4 : ¬ (4096 : Int) < n := fun h => hb ⟨rfl, by omega⟩
              clear h hW hb3 hr3 x1 x2 x3 hE0 hE1 hf hmo hmo1 hb hs
              go_enter Tryz.func52, Tryz.ntmps52
              go_wp2_with (first
                | (go_at_call 104; (with_reducible refine (KRO.out _ hc2).mono ?_); rintro e w4 ⟨rfl, hb4⟩; have hc4 := bthen hc2 hb4; obtain ⟨f4a0, f4a1, f4a2, f4a3, f4a4, f4a5, f4a6, f4a7, f4a8, f4a9, f4a10⟩ := CF.out _ hc4; obtain ⟨f4b0, f4b1, f4b2, f4b3, f4b4, f4b5, f4b6, f4b7⟩ := RF.out _ hc4)
                | (go_at_call 102; (with_reducible refine (KNU.out _).mono ?_); rintro e w2 ⟨rfl, hb2⟩; have hc2 := bthen hc1 hb2; obtain ⟨f2a0, f2a1, f2a2, f2a3, f2a4, f2a5, f2a6, f2a7, f2a8, f2a9, f2a10⟩ := CF.out _ hc2; obtain ⟨f2b0, f2b1, f2b2, f2b3, f2b4, f2b5, f2b6, f2b7⟩ := RF.out _ hc2)
                | (go_at_call 101; (with_reducible refine (KFR.out).mono ?_); rintro e w1 ⟨rfl, hb1⟩; have hc1 := hb1; obtain ⟨f1a0, f1a1, f1a2, f1a3, f1a4, f1a5, f1a6, f1a7, f1a8, f1a9, f1a10⟩ := CF.out _ hc1; obtain ⟨f1b0, f1b1, f1b2, f1b3, f1b4, f1b5, f1b6, f1b7⟩ := RF.out _ hc1))
              obtain ⟨W9, hW9, k0, k1, k2, k3, hb9, ho9⟩ := fin4 (X3.out _ hc4) (bthen HB.out hc4) (by omega) (.slice A1 n1 c1) (.slice A2 n2 c2) (.int .i64 T.room) (.int .i64 T.vol)
              rw [hW9]
              refine bodyPost_ret (v := .tuple #[.agg (RvC A1 n1 c1 A2 n2 c2 T.room T.vol), .int .i64 14]) (by simp [results, Tryz.f52, go_sem, k0, k1, k2, k3]) rfl ?_
              exact ⟨_, rfl, ⟨_, _, _, _, _, _, rfl, HR.out.below hb9⟩, hb9⟩
            · by_cases h3 : kd = 3
              · subst h3
                have hl0 : Nt.linkE l = 0 := by
                  by_cases e : Nt.linkE l = 0
                  · exact e
                  · exact absurd ⟨rfl, e⟩ hs
                rw [hl0] at KMA
                have g1 : ((3 : Int) == 1) = false := rfl
                clear h hW hb3 hr3 x1 x2 x3 hE0 hE1 hf hmo hmo1 hb hs hl0
                go_enter Tryz.func52, Tryz.ntmps52
                go_wp2_with (first
                  | (go_at_call 104; (with_reducible refine (KRO.out _ hc3).mono ?_); rintro e w4 ⟨rfl, hb4⟩; have hc4 := bthen hc3 hb4; obtain ⟨f4a0, f4a1, f4a2, f4a3, f4a4, f4a5, f4a6, f4a7, f4a8, f4a9, f4a10⟩ := CF.out _ hc4; obtain ⟨f4b0, f4b1, f4b2, f4b3, f4b4, f4b5, f4b6, f4b7⟩ := RF.out _ hc4)
                  | (go_at_call 103; (with_reducible refine (KMA.out _).mono ?_); rintro e w3 ⟨rfl, hb3⟩; have hc3 := bthen hc2 hb3; obtain ⟨f3a0, f3a1, f3a2, f3a3, f3a4, f3a5, f3a6, f3a7, f3a8, f3a9, f3a10⟩ := CF.out _ hc3; obtain ⟨f3b0, f3b1, f3b2, f3b3, f3b4, f3b5, f3b6, f3b7⟩ := RF.out _ hc3)
                  | (go_at_call 102; (with_reducible refine (KNU.out _).mono ?_); rintro e w2 ⟨rfl, hb2⟩; have hc2 := bthen hc1 hb2; obtain ⟨f2a0, f2a1, f2a2, f2a3, f2a4, f2a5, f2a6, f2a7, f2a8, f2a9, f2a10⟩ := CF.out _ hc2; obtain ⟨f2b0, f2b1, f2b2, f2b3, f2b4, f2b5, f2b6, f2b7⟩ := RF.out _ hc2)
                  | (go_at_call 101; (with_reducible refine (KFR.out).mono ?_); rintro e w1 ⟨rfl, hb1⟩; have hc1 := hb1; obtain ⟨f1a0, f1a1, f1a2, f1a3, f1a4, f1a5, f1a6, f1a7, f1a8, f1a9, f1a10⟩ := CF.out _ hc1; obtain ⟨f1b0, f1b1, f1b2, f1b3, f1b4, f1b5, f1b6, f1b7⟩ := RF.out _ hc1))
                obtain ⟨W9, hW9, k0, k1, k2, k3, hb9, ho9⟩ := fin4 (X3.out _ hc4) (bthen HB.out hc4) (by omega) (.slice A1 n1 c1) (.slice A2 n2 c2) (.int .i64 T.room) (.int .i64 T.vol)
                rw [hW9]
                refine bodyPost_ret (v := .tuple #[.agg (RvC A1 n1 c1 A2 n2 c2 T.room T.vol), .int .i64 14]) (by simp [results, Tryz.f52, go_sem, k0, k1, k2, k3]) rfl ?_
                exact ⟨_, rfl, ⟨_, _, _, _, _, _, rfl, HR.out.below hb9⟩, hb9⟩
              · have g1 : (kd == 1) = false := by simp [h1]
                have g3 : (kd == 3) = false := by simp [h3]
                clear h hW hb3 hr3 x1 x2 x3 hE0 hE1 hf hmo hmo1 hb hs h1 h3
                go_enter Tryz.func52, Tryz.ntmps52
                go_wp2_with (first
                  | (go_at_call 104; (with_reducible refine (KRO.out _ hc2).mono ?_); rintro e w4 ⟨rfl, hb4⟩; have hc4 := bthen hc2 hb4; obtain ⟨f4a0, f4a1, f4a2, f4a3, f4a4, f4a5, f4a6, f4a7, f4a8, f4a9, f4a10⟩ := CF.out _ hc4; obtain ⟨f4b0, f4b1, f4b2, f4b3, f4b4, f4b5, f4b6, f4b7⟩ := RF.out _ hc4)
                  | (go_at_call 102; (with_reducible refine (KNU.out _).mono ?_); rintro e w2 ⟨rfl, hb2⟩; have hc2 := bthen hc1 hb2; obtain ⟨f2a0, f2a1, f2a2, f2a3, f2a4, f2a5, f2a6, f2a7, f2a8, f2a9, f2a10⟩ := CF.out _ hc2; obtain ⟨f2b0, f2b1, f2b2, f2b3, f2b4, f2b5, f2b6, f2b7⟩ := RF.out _ hc2)
                  | (go_at_call 101; (with_reducible refine (KFR.out).mono ?_); rintro e w1 ⟨rfl, hb1⟩; have hc1 := hb1; obtain ⟨f1a0, f1a1, f1a2, f1a3, f1a4, f1a5, f1a6, f1a7, f1a8, f1a9, f1a10⟩ := CF.out _ hc1; obtain ⟨f1b0, f1b1, f1b2, f1b3, f1b4, f1b5, f1b6, f1b7⟩ := RF.out _ hc1))
                obtain ⟨W9, hW9, k0, k1, k2, k3, hb9, ho9⟩ := fin4 (X3.out _ hc4) (bthen HB.out hc4) (by omega) (.slice A1 n1 c1) (.slice A2 n2 c2) (.int .i64 T.room) (.int .i64 T.vol)
                rw [hW9]
                refine bodyPost_ret (v := .tuple #[.agg (RvC A1 n1 c1 A2 n2 c2 T.room T.vol), .int .i64 14]) (by simp [results, Tryz.f52, go_sem, k0, k1, k2, k3]) rfl ?_
                exact ⟨_, rfl, ⟨_, _, _, _, _, _, rfl, HR.out.below hb9⟩, hb9⟩
          | true =>
            rw [if_neg (by decide)] at hE1
            rw [hE1, if_pos rfl] at hE0
            rw [hE0]
            by_cases h1 : kd = 1
            · subst h1
              have hb4 : ¬ (4096 : Int) < n := fun h => hb ⟨rfl, by omega⟩
              clear h hW hb3 hr3 x1 x2 x3 hE0 hE1 hf hmo hmo1 hb hs
              go_enter Tryz.func52, Tryz.ntmps52
              go_upto_region 14 with (first
                | (go_at_call 104; (with_reducible refine (KRO.out _ hc2).mono ?_); rintro e w4 ⟨rfl, hb4⟩; have hc4 := bthen hc2 hb4; obtain ⟨f4a0, f4a1, f4a2, f4a3, f4a4, f4a5, f4a6, f4a7, f4a8, f4a9, f4a10⟩ := CF.out _ hc4; obtain ⟨f4b0, f4b1, f4b2, f4b3, f4b4, f4b5, f4b6, f4b7⟩ := RF.out _ hc4)
                | (go_at_call 102; (with_reducible refine (KNU.out _).mono ?_); rintro e w2 ⟨rfl, hb2⟩; have hc2 := bthen hc1 hb2; obtain ⟨f2a0, f2a1, f2a2, f2a3, f2a4, f2a5, f2a6, f2a7, f2a8, f2a9, f2a10⟩ := CF.out _ hc2; obtain ⟨f2b0, f2b1, f2b2, f2b3, f2b4, f2b5, f2b6, f2b7⟩ := RF.out _ hc2)
                | (go_at_call 101; (with_reducible refine (KFR.out).mono ?_); rintro e w1 ⟨rfl, hb1⟩; have hc1 := hb1; obtain ⟨f1a0, f1a1, f1a2, f1a3, f1a4, f1a5, f1a6, f1a7, f1a8, f1a9, f1a10⟩ := CF.out _ hc1; obtain ⟨f1b0, f1b1, f1b2, f1b3, f1b4, f1b5, f1b6, f1b7⟩ := RF.out _ hc1))
              have hl5 : T.nodes.length = n1 := HR.out.len1
              go_cut [50] (fun v wx => ∃ A6 c6, n1 + 1 ≤ c6 ∧ c6 ≤ maxLen ∧ Hid (BX wx w.heap.size 29 (RvC A6 (n1 + 1) c6 A2 n2 c2 T.room T.vol)) ∧ Hid (BX wx (w.heap.size + 1 + 1) 29 Rv0) ∧ Hid (Below w.heap.size w wx) ∧ Hid (NRow wx A6 (n1 + 1) (T.nodes ++ [⟨1, mo, u, g, ti, l, A, n, c, xs⟩])))
              case first =>
                have hD5 : Below W3.heap.size W3 w4.drew := hc4.drew
                have hDx5 : Below W3.heap.size W3 (w4.alloc (.cells #[.int .i64 1, .int .i64 mo, .int .i64 u, .int .i64 g, .int .i64 ti, .string l, .slice A n c] 114)).drew := (hc4.alloc hc4.size _).drew
                have hXx5 : BX (w4.alloc (.cells #[.int .i64 1, .int .i64 mo, .int .i64 u, .int .i64 g, .int .i64 ti, .string l, .slice A n c] 114)).drew w4.heap.size 114 #[.int .i64 1, .int .i64 mo, .int .i64 u, .int .i64 g, .int .i64 ti, .string l, .slice A n c] := BX.new w4 _ _
                have AP5 := Lib.hid (fun W (h : Below W3.heap.size W3 W) => app_nd0 (base := W3.heap.size) ((HR.out.below HB.out).below h).nodes c1 (by omega) h.size)
                obtain ⟨da0, da1, da2, da3, da4, da5, da6, da7, da8, da9, da10⟩ := CF.out _ hD5
                obtain ⟨db0, db1, db2, db3, db4, db5, db6, db7, db8, db9, db10⟩ := CF.out _ hDx5
                go_region_law (first
                  | (obtain ⟨v5, w5, hr5, ho5, hb5⟩ := AP5.out _ hD5; refine step_append_run14 rfl (.const (.slice none 0 0)) (.tmp 51) 26 26 rfl _ _ rfl (by simp [Act.eval]) hr5 ?_; obtain ⟨A5, c5, rfl, _, _, _⟩ := own_rowof NdC_size ho5 hl5; have HB5 := Lib.hid (hD5.trans (hb5.mono hD5.size)); have HO5 := Lib.hid ho5; obtain ⟨m50, m51, m52, m53, m54, m55, m56, m57, m58, m59, m510⟩ := CF.out _ (HB5.out); have m5z := (X1.out _ (HB5.out)).free 0; clear hr5 ho5 hb5)
                  | (obtain ⟨v5, w5, hr5, ho5, hb5⟩ := AP5.out _ hDx5; refine step_append_run14 rfl (.const (.slice none 0 0)) (.tmp 51) 26 26 rfl _ _ rfl (by simp [Act.eval]) hr5 ?_; obtain ⟨A5, c5, rfl, _, _, _⟩ := own_rowof NdC_size ho5 hl5; have HX5 := Lib.hid (hXx5.later hb5); have HB5 := Lib.hid (hDx5.trans (hb5.mono hDx5.size)); have HO5 := Lib.hid ho5; obtain ⟨m50, m51, m52, m53, m54, m55, m56, m57, m58, m59, m510⟩ := CF.out _ (HB5.out); have m5z := (X1.out _ (HB5.out)).free 0; clear hr5 ho5 hb5)
                  | (obtain ⟨v6, w6, hr6, ho6, hb6⟩ := app_ndN hl5 (HO5.out.alloc (.cells #[.int .i64 1, .int .i64 mo, .int .i64 u, .int .i64 g, .int .i64 ti, .string l, .slice A n c] 114)) (rowof_one (C := NdC) (z := 7) (x := ⟨1, mo, u, g, ti, l, A, n, c, xs⟩) (BX.new w5 _ _)) 1 (by omega) (by have := HB5.out.size; simp; omega); refine step_append_run14 rfl (.tmp 52) (.tmp 54) 26 26 rfl _ _ (by simp [Act.eval]) (by simp [Act.eval]) hr6 ?_; obtain ⟨A6, c6, rfl, hrow6, hca6, hcb6⟩ := own_rowof NdC_size ho6 (by rw [List.length_append, hl5]; rfl); have HRW6 := Lib.hid hrow6; clear hrow6; have HB6 := Lib.hid ((HB5.out.alloc HB5.out.size (.cells #[.int .i64 1, .int .i64 mo, .int .i64 u, .int .i64 g, .int .i64 ti, .string l, .slice A n c] 114)).trans hb6); have HO6 := Lib.hid ho6; obtain ⟨m60, m61, m62, m63, m64, m65, m66, m67, m68, m69, m610⟩ := CF.out _ (HB6.out); have m6z := (X1.out _ (HB6.out)).free 0; clear hr6 ho6 hb6)
                  | (obtain ⟨v6, w6, hr6, ho6, hb6⟩ := app_ndN hl5 HO5.out (rowof_one (C := NdC) (z := 7) (x := ⟨1, mo, u, g, ti, l, A, n, c, xs⟩) HX5.out) 1 (by omega) HB5.out.size; refine step_append_run14 rfl (.tmp 52) (.tmp 54) 26 26 rfl _ _ (by simp [Act.eval]) (by simp [Act.eval]) hr6 ?_; obtain ⟨A6, c6, rfl, hrow6, hca6, hcb6⟩ := own_rowof NdC_size ho6 (by rw [List.length_append, hl5]; rfl); have HRW6 := Lib.hid hrow6; clear hrow6; have HB6 := Lib.hid (HB5.out.trans hb6); have HO6 := Lib.hid ho6; obtain ⟨m60, m61, m62, m63, m64, m65, m66, m67, m68, m69, m610⟩ := CF.out _ (HB6.out); have m6z := (X1.out _ (HB6.out)).free 0; clear hr6 ho6 hb6))
                all_goals
                  go_wp2
                  go_meet
                  refine ⟨A6, c6, hca6, hcb6, (X1.out _ HB6.out).set 0 _, (X3.out _ HB6.out).other (by omega) _, (bthen HB.out HB6.out).trans (((Oth.refl w.heap.size w6).setCell 0 _).below (Nat.le_refl _) (bthen HB.out HB6.out).size), HRW6.out.oth13 ((Oth.refl w.heap.size w6).setCell 0 _) (X1.out _ HB6.out) (by decide)⟩
              case rest =>
                obtain ⟨A6, c6, hca6, hcb6, u1, u3, L7, N7⟩ := hcut
                have U3 := Lib.hid (fun W (h : Below wc.heap.size wc W) => u3.out.later h)
                have U1 := Lib.hid (fun W (h : Below wc.heap.size wc W) => u1.out.later h)
                have C7 := Lib.hid (fun W (h : Below wc.heap.size wc W) => show W.cell? ⟨w.heap.size, 0, none⟩ = some (.slice A6 (n1 + 1) c6) ∧ W.cell? ⟨w.heap.size, 1, none⟩ = some (.slice A2 n2 c2) ∧ W.cell? ⟨w.heap.size, 2, none⟩ = some (.int .i64 T.room) ∧ W.cell? ⟨w.heap.size, 3, none⟩ = some (.int .i64 T.vol) ∧ W.frozen? ⟨w.heap.size, 1, none⟩ = false from
                  ⟨(U1.out _ h).cell rfl, (U1.out _ h).cell rfl, (U1.out _ h).cell rfl, (U1.out _ h).cell rfl, (U1.out _ h).free 1⟩)
                have hwr : IntKind.i64.wrap (n1 : Int) = (n1 : Int) := wrap_small (by omega) (by omega)
                have hl8 : (tps T.paths).length = n2 := HR.out.paths.1
                have hD8 : Below wc.heap.size wc wc.drew := (Below.refl _ _).drew
                have hDx8 : Below wc.heap.size wc (wc.alloc (.cells #[.string p, .int .i64 (n1 : Nat)] 45)).drew := (below_new wc _).drew
                have hXx8 : BX (wc.alloc (.cells #[.string p, .int .i64 (n1 : Nat)] 45)).drew wc.heap.size 45 #[.string p, .int .i64 (n1 : Nat)] := BX.new wc _ _
                have AP8 := Lib.hid (fun W (h : Below wc.heap.size wc W) => app_at0 (base := wc.heap.size) ((HR.out.below L7.out).below h).paths c2 (by omega) h.size)
                obtain ⟨ea0, ea1, ea2, ea3, ea4⟩ := C7.out _ hD8
                obtain ⟨eb0, eb1, eb2, eb3, eb4⟩ := C7.out _ hDx8
                clear u1 u3
                go_upto_region 15 with (fail)
                go_cut [57] (fun v wx => ∃ A9 c9, n2 + 1 ≤ c9 ∧ c9 ≤ maxLen ∧ Hid (BX wx w.heap.size 29 (RvC A6 (n1 + 1) c6 A9 (n2 + 1) c9 T.room T.vol)) ∧ Hid (BX wx (w.heap.size + 1 + 1) 29 Rv0) ∧ Hid (Below w.heap.size w wx) ∧ Hid (NRow wx A6 (n1 + 1) (T.nodes ++ [⟨1, mo, u, g, ti, l, A, n, c, xs⟩])) ∧ Hid (ARow wx A9 (n2 + 1) (tps T.paths ++ [(p, n1)])))
                case first =>
                  go_region_law (first
                    | (obtain ⟨v8, w8, hr8, ho8, hb8⟩ := AP8.out _ hD8; refine step_append_run14 rfl (.const (.slice none 0 0)) (.tmp 58) 27 27 rfl _ _ rfl (by simp [Act.eval, Act.put]) hr8 ?_; obtain ⟨A8, c8, rfl, _, _, _⟩ := own_rowof AtC_size ho8 hl8; have HB8 := Lib.hid (hD8.trans (hb8.mono hD8.size)); have HO8 := Lib.hid ho8; obtain ⟨m80, m81, m82, m83, m84⟩ := C7.out _ (HB8.out); clear hr8 ho8 hb8)
                    | (obtain ⟨v8, w8, hr8, ho8, hb8⟩ := AP8.out _ hDx8; refine step_append_run14 rfl (.const (.slice none 0 0)) (.tmp 58) 27 27 rfl _ _ rfl (by simp [Act.eval]) hr8 ?_; obtain ⟨A8, c8, rfl, _, _, _⟩ := own_rowof AtC_size ho8 hl8; have HX8 := Lib.hid (hXx8.later hb8); have HB8 := Lib.hid (hDx8.trans (hb8.mono hDx8.size)); have HO8 := Lib.hid ho8; obtain ⟨m80, m81, m82, m83, m84⟩ := C7.out _ (HB8.out); clear hr8 ho8 hb8)
                    | (obtain ⟨v9, w9, hr9, ho9, hb9⟩ := app_atN hl8 (HO8.out.alloc (.cells #[.string p, .int .i64 (n1 : Nat)] 45)) (rowof_one (C := AtC) (z := 2) (x := (p, n1)) (BX.new w8 _ _)) 1 (by omega) (by have := HB8.out.size; simp; omega); refine step_append_run14 rfl (.tmp 59) (.tmp 66) 27 27 rfl _ _ (by simp [Act.eval]) (by simp [Act.eval]) hr9 ?_; obtain ⟨A9, c9, rfl, hrow9, hca9, hcb9⟩ := own_rowof AtC_size ho9 (by rw [List.length_append, hl8]; rfl); have HRW9 := Lib.hid hrow9; clear hrow9; have HB9 := Lib.hid ((HB8.out.alloc HB8.out.size (.cells #[.string p, .int .i64 (n1 : Nat)] 45)).trans hb9); have HO9 := Lib.hid ho9; obtain ⟨m90, m91, m92, m93, m94⟩ := C7.out _ (HB9.out); clear hr9 ho9 hb9)
                    | (obtain ⟨v9, w9, hr9, ho9, hb9⟩ := app_atN hl8 HO8.out (rowof_one (C := AtC) (z := 2) (x := (p, n1)) HX8.out) 1 (by omega) HB8.out.size; refine step_append_run14 rfl (.tmp 59) (.tmp 66) 27 27 rfl _ _ (by simp [Act.eval]) (by simp [Act.eval]) hr9 ?_; obtain ⟨A9, c9, rfl, hrow9, hca9, hcb9⟩ := own_rowof AtC_size ho9 (by rw [List.length_append, hl8]; rfl); have HRW9 := Lib.hid hrow9; clear hrow9; have HB9 := Lib.hid (HB8.out.trans hb9); have HO9 := Lib.hid ho9; obtain ⟨m90, m91, m92, m93, m94⟩ := C7.out _ (HB9.out); clear hr9 ho9 hb9))
                  all_goals
                    go_wp2
                    go_meet
                    refine ⟨A9, c9, hca9, hcb9, (U1.out _ HB9.out).set 1 _, (U3.out _ HB9.out).other (by omega) _, (bthen L7.out HB9.out).trans (((Oth.refl w.heap.size w9).setCell 1 _).below (Nat.le_refl _) (bthen L7.out HB9.out).size), (N7.out.below HB9.out).oth13 ((Oth.refl w.heap.size w9).setCell 1 _) (U1.out _ HB9.out) (by decide), HRW9.out.oth13 ((Oth.refl w.heap.size w9).setCell 1 _) (U1.out _ HB9.out) (by decide)⟩
                case rest =>
                  obtain ⟨A9, c9, hca9, hcb9, v1, v3, low5, nrow5, arow5⟩ := hcut
                  have p0 : wc.cell? ⟨w.heap.size, 0, none⟩ = some (.slice A6 (n1 + 1) c6) := v1.out.cell rfl
                  have p1 : wc.cell? ⟨w.heap.size, 1, none⟩ = some (.slice A9 (n2 + 1) c9) := v1.out.cell rfl
                  have p2 : wc.cell? ⟨w.heap.size, 2, none⟩ = some (.int .i64 T.room) := v1.out.cell rfl
                  have p3 : wc.cell? ⟨w.heap.size, 3, none⟩ = some (.int .i64 T.vol) := v1.out.cell rfl
                  have r0 : wc.cell? ⟨w.heap.size + 1 + 1, 0, none⟩ = some (.slice none 0 0) := v3.out.cell rfl
                  have r1 : wc.cell? ⟨w.heap.size + 1 + 1, 1, none⟩ = some (.slice none 0 0) := v3.out.cell rfl
                  have r2 : wc.cell? ⟨w.heap.size + 1 + 1, 2, none⟩ = some (.int .i64 0) := v3.out.cell rfl
                  have r3 : wc.cell? ⟨w.heap.size + 1 + 1, 3, none⟩ = some (.int .i64 0) := v3.out.cell rfl
                  have f0 := v3.out.free 0
                  have f1 := v3.out.free 1
                  have f2 := v3.out.free 2
                  have f3 := v3.out.free 3
                  go_wp2
                  obtain ⟨W9, hW9, k0, k1, k2, k3, hb9, ho9⟩ := fin4 v3.out low5.out (by omega) (.slice A6 (n1 + 1) c6) (.slice A9 (n2 + 1) c9) (.int .i64 T.room) (.int .i64 T.vol)
                  rw [hW9]
                  refine bodyPost_ret (v := .tuple #[.agg (RvC A6 (n1 + 1) c6 A9 (n2 + 1) c9 T.room T.vol), .int .i64 0]) (by simp [results, Tryz.f52, go_sem, k0, k1, k2, k3]) rfl ?_
                  exact ⟨_, rfl, ⟨_, _, _, _, _, _, rfl, mk_rtr HR.out hl5 (nrow5.out.oth13 ho9 v3.out (by decide)) (arow5.out.oth13 ho9 v3.out (by decide)) ⟨hca6, hcb6⟩ ⟨hca9, hcb9⟩ hb9 hd hc hm⟩, hb9⟩
            · by_cases h3 : kd = 3
              · subst h3
                have hl0 : Nt.linkE l = 0 := by
                  by_cases e : Nt.linkE l = 0
                  · exact e
                  · exact absurd ⟨rfl, e⟩ hs
                rw [hl0] at KMA
                have g1 : ((3 : Int) == 1) = false := rfl
                clear h hW hb3 hr3 x1 x2 x3 hE0 hE1 hf hmo hmo1 hb hs hl0
                go_enter Tryz.func52, Tryz.ntmps52
                go_upto_region 14 with (first
                  | (go_at_call 104; (with_reducible refine (KRO.out _ hc3).mono ?_); rintro e w4 ⟨rfl, hb4⟩; have hc4 := bthen hc3 hb4; obtain ⟨f4a0, f4a1, f4a2, f4a3, f4a4, f4a5, f4a6, f4a7, f4a8, f4a9, f4a10⟩ := CF.out _ hc4; obtain ⟨f4b0, f4b1, f4b2, f4b3, f4b4, f4b5, f4b6, f4b7⟩ := RF.out _ hc4)
                  | (go_at_call 103; (with_reducible refine (KMA.out _).mono ?_); rintro e w3 ⟨rfl, hb3⟩; have hc3 := bthen hc2 hb3; obtain ⟨f3a0, f3a1, f3a2, f3a3, f3a4, f3a5, f3a6, f3a7, f3a8, f3a9, f3a10⟩ := CF.out _ hc3; obtain ⟨f3b0, f3b1, f3b2, f3b3, f3b4, f3b5, f3b6, f3b7⟩ := RF.out _ hc3)
                  | (go_at_call 102; (with_reducible refine (KNU.out _).mono ?_); rintro e w2 ⟨rfl, hb2⟩; have hc2 := bthen hc1 hb2; obtain ⟨f2a0, f2a1, f2a2, f2a3, f2a4, f2a5, f2a6, f2a7, f2a8, f2a9, f2a10⟩ := CF.out _ hc2; obtain ⟨f2b0, f2b1, f2b2, f2b3, f2b4, f2b5, f2b6, f2b7⟩ := RF.out _ hc2)
                  | (go_at_call 101; (with_reducible refine (KFR.out).mono ?_); rintro e w1 ⟨rfl, hb1⟩; have hc1 := hb1; obtain ⟨f1a0, f1a1, f1a2, f1a3, f1a4, f1a5, f1a6, f1a7, f1a8, f1a9, f1a10⟩ := CF.out _ hc1; obtain ⟨f1b0, f1b1, f1b2, f1b3, f1b4, f1b5, f1b6, f1b7⟩ := RF.out _ hc1))
                have hl5 : T.nodes.length = n1 := HR.out.len1
                go_cut [50] (fun v wx => ∃ A6 c6, n1 + 1 ≤ c6 ∧ c6 ≤ maxLen ∧ Hid (BX wx w.heap.size 29 (RvC A6 (n1 + 1) c6 A2 n2 c2 T.room T.vol)) ∧ Hid (BX wx (w.heap.size + 1 + 1) 29 Rv0) ∧ Hid (Below w.heap.size w wx) ∧ Hid (NRow wx A6 (n1 + 1) (T.nodes ++ [⟨3, mo, u, g, ti, l, A, n, c, xs⟩])))
                case first =>
                  have hD5 : Below W3.heap.size W3 w4.drew := hc4.drew
                  have hDx5 : Below W3.heap.size W3 (w4.alloc (.cells #[.int .i64 3, .int .i64 mo, .int .i64 u, .int .i64 g, .int .i64 ti, .string l, .slice A n c] 114)).drew := (hc4.alloc hc4.size _).drew
                  have hXx5 : BX (w4.alloc (.cells #[.int .i64 3, .int .i64 mo, .int .i64 u, .int .i64 g, .int .i64 ti, .string l, .slice A n c] 114)).drew w4.heap.size 114 #[.int .i64 3, .int .i64 mo, .int .i64 u, .int .i64 g, .int .i64 ti, .string l, .slice A n c] := BX.new w4 _ _
                  have AP5 := Lib.hid (fun W (h : Below W3.heap.size W3 W) => app_nd0 (base := W3.heap.size) ((HR.out.below HB.out).below h).nodes c1 (by omega) h.size)
                  obtain ⟨da0, da1, da2, da3, da4, da5, da6, da7, da8, da9, da10⟩ := CF.out _ hD5
                  obtain ⟨db0, db1, db2, db3, db4, db5, db6, db7, db8, db9, db10⟩ := CF.out _ hDx5
                  go_region_law (first
                    | (obtain ⟨v5, w5, hr5, ho5, hb5⟩ := AP5.out _ hD5; refine step_append_run14 rfl (.const (.slice none 0 0)) (.tmp 51) 26 26 rfl _ _ rfl (by simp [Act.eval]) hr5 ?_; obtain ⟨A5, c5, rfl, _, _, _⟩ := own_rowof NdC_size ho5 hl5; have HB5 := Lib.hid (hD5.trans (hb5.mono hD5.size)); have HO5 := Lib.hid ho5; obtain ⟨m50, m51, m52, m53, m54, m55, m56, m57, m58, m59, m510⟩ := CF.out _ (HB5.out); have m5z := (X1.out _ (HB5.out)).free 0; clear hr5 ho5 hb5)
                    | (obtain ⟨v5, w5, hr5, ho5, hb5⟩ := AP5.out _ hDx5; refine step_append_run14 rfl (.const (.slice none 0 0)) (.tmp 51) 26 26 rfl _ _ rfl (by simp [Act.eval]) hr5 ?_; obtain ⟨A5, c5, rfl, _, _, _⟩ := own_rowof NdC_size ho5 hl5; have HX5 := Lib.hid (hXx5.later hb5); have HB5 := Lib.hid (hDx5.trans (hb5.mono hDx5.size)); have HO5 := Lib.hid ho5; obtain ⟨m50, m51, m52, m53, m54, m55, m56, m57, m58, m59, m510⟩ := CF.out _ (HB5.out); have m5z := (X1.out _ (HB5.out)).free 0; clear hr5 ho5 hb5)
                    | (obtain ⟨v6, w6, hr6, ho6, hb6⟩ := app_ndN hl5 (HO5.out.alloc (.cells #[.int .i64 3, .int .i64 mo, .int .i64 u, .int .i64 g, .int .i64 ti, .string l, .slice A n c] 114)) (rowof_one (C := NdC) (z := 7) (x := ⟨3, mo, u, g, ti, l, A, n, c, xs⟩) (BX.new w5 _ _)) 1 (by omega) (by have := HB5.out.size; simp; omega); refine step_append_run14 rfl (.tmp 52) (.tmp 54) 26 26 rfl _ _ (by simp [Act.eval]) (by simp [Act.eval]) hr6 ?_; obtain ⟨A6, c6, rfl, hrow6, hca6, hcb6⟩ := own_rowof NdC_size ho6 (by rw [List.length_append, hl5]; rfl); have HRW6 := Lib.hid hrow6; clear hrow6; have HB6 := Lib.hid ((HB5.out.alloc HB5.out.size (.cells #[.int .i64 3, .int .i64 mo, .int .i64 u, .int .i64 g, .int .i64 ti, .string l, .slice A n c] 114)).trans hb6); have HO6 := Lib.hid ho6; obtain ⟨m60, m61, m62, m63, m64, m65, m66, m67, m68, m69, m610⟩ := CF.out _ (HB6.out); have m6z := (X1.out _ (HB6.out)).free 0; clear hr6 ho6 hb6)
                    | (obtain ⟨v6, w6, hr6, ho6, hb6⟩ := app_ndN hl5 HO5.out (rowof_one (C := NdC) (z := 7) (x := ⟨3, mo, u, g, ti, l, A, n, c, xs⟩) HX5.out) 1 (by omega) HB5.out.size; refine step_append_run14 rfl (.tmp 52) (.tmp 54) 26 26 rfl _ _ (by simp [Act.eval]) (by simp [Act.eval]) hr6 ?_; obtain ⟨A6, c6, rfl, hrow6, hca6, hcb6⟩ := own_rowof NdC_size ho6 (by rw [List.length_append, hl5]; rfl); have HRW6 := Lib.hid hrow6; clear hrow6; have HB6 := Lib.hid (HB5.out.trans hb6); have HO6 := Lib.hid ho6; obtain ⟨m60, m61, m62, m63, m64, m65, m66, m67, m68, m69, m610⟩ := CF.out _ (HB6.out); have m6z := (X1.out _ (HB6.out)).free 0; clear hr6 ho6 hb6))
                  all_goals
                    go_wp2
                    go_meet
                    refine ⟨A6, c6, hca6, hcb6, (X1.out _ HB6.out).set 0 _, (X3.out _ HB6.out).other (by omega) _, (bthen HB.out HB6.out).trans (((Oth.refl w.heap.size w6).setCell 0 _).below (Nat.le_refl _) (bthen HB.out HB6.out).size), HRW6.out.oth13 ((Oth.refl w.heap.size w6).setCell 0 _) (X1.out _ HB6.out) (by decide)⟩
                case rest =>
                  obtain ⟨A6, c6, hca6, hcb6, u1, u3, L7, N7⟩ := hcut
                  have U3 := Lib.hid (fun W (h : Below wc.heap.size wc W) => u3.out.later h)
                  have U1 := Lib.hid (fun W (h : Below wc.heap.size wc W) => u1.out.later h)
                  have C7 := Lib.hid (fun W (h : Below wc.heap.size wc W) => show W.cell? ⟨w.heap.size, 0, none⟩ = some (.slice A6 (n1 + 1) c6) ∧ W.cell? ⟨w.heap.size, 1, none⟩ = some (.slice A2 n2 c2) ∧ W.cell? ⟨w.heap.size, 2, none⟩ = some (.int .i64 T.room) ∧ W.cell? ⟨w.heap.size, 3, none⟩ = some (.int .i64 T.vol) ∧ W.frozen? ⟨w.heap.size, 1, none⟩ = false from
                    ⟨(U1.out _ h).cell rfl, (U1.out _ h).cell rfl, (U1.out _ h).cell rfl, (U1.out _ h).cell rfl, (U1.out _ h).free 1⟩)
                  have hwr : IntKind.i64.wrap (n1 : Int) = (n1 : Int) := wrap_small (by omega) (by omega)
                  have hl8 : (tps T.paths).length = n2 := HR.out.paths.1
                  have hD8 : Below wc.heap.size wc wc.drew := (Below.refl _ _).drew
                  have hDx8 : Below wc.heap.size wc (wc.alloc (.cells #[.string p, .int .i64 (n1 : Nat)] 45)).drew := (below_new wc _).drew
                  have hXx8 : BX (wc.alloc (.cells #[.string p, .int .i64 (n1 : Nat)] 45)).drew wc.heap.size 45 #[.string p, .int .i64 (n1 : Nat)] := BX.new wc _ _
                  have AP8 := Lib.hid (fun W (h : Below wc.heap.size wc W) => app_at0 (base := wc.heap.size) ((HR.out.below L7.out).below h).paths c2 (by omega) h.size)
                  obtain ⟨ea0, ea1, ea2, ea3, ea4⟩ := C7.out _ hD8
                  obtain ⟨eb0, eb1, eb2, eb3, eb4⟩ := C7.out _ hDx8
                  clear u1 u3
                  go_upto_region 15 with (fail)
                  go_cut [57] (fun v wx => ∃ A9 c9, n2 + 1 ≤ c9 ∧ c9 ≤ maxLen ∧ Hid (BX wx w.heap.size 29 (RvC A6 (n1 + 1) c6 A9 (n2 + 1) c9 T.room T.vol)) ∧ Hid (BX wx (w.heap.size + 1 + 1) 29 Rv0) ∧ Hid (Below w.heap.size w wx) ∧ Hid (NRow wx A6 (n1 + 1) (T.nodes ++ [⟨3, mo, u, g, ti, l, A, n, c, xs⟩])) ∧ Hid (ARow wx A9 (n2 + 1) (tps T.paths ++ [(p, n1)])))
                  case first =>
                    go_region_law (first
                      | (obtain ⟨v8, w8, hr8, ho8, hb8⟩ := AP8.out _ hD8; refine step_append_run14 rfl (.const (.slice none 0 0)) (.tmp 58) 27 27 rfl _ _ rfl (by simp [Act.eval, Act.put]) hr8 ?_; obtain ⟨A8, c8, rfl, _, _, _⟩ := own_rowof AtC_size ho8 hl8; have HB8 := Lib.hid (hD8.trans (hb8.mono hD8.size)); have HO8 := Lib.hid ho8; obtain ⟨m80, m81, m82, m83, m84⟩ := C7.out _ (HB8.out); clear hr8 ho8 hb8)
                      | (obtain ⟨v8, w8, hr8, ho8, hb8⟩ := AP8.out _ hDx8; refine step_append_run14 rfl (.const (.slice none 0 0)) (.tmp 58) 27 27 rfl _ _ rfl (by simp [Act.eval]) hr8 ?_; obtain ⟨A8, c8, rfl, _, _, _⟩ := own_rowof AtC_size ho8 hl8; have HX8 := Lib.hid (hXx8.later hb8); have HB8 := Lib.hid (hDx8.trans (hb8.mono hDx8.size)); have HO8 := Lib.hid ho8; obtain ⟨m80, m81, m82, m83, m84⟩ := C7.out _ (HB8.out); clear hr8 ho8 hb8)
                      | (obtain ⟨v9, w9, hr9, ho9, hb9⟩ := app_atN hl8 (HO8.out.alloc (.cells #[.string p, .int .i64 (n1 : Nat)] 45)) (rowof_one (C := AtC) (z := 2) (x := (p, n1)) (BX.new w8 _ _)) 1 (by omega) (by have := HB8.out.size; simp; omega); refine step_append_run14 rfl (.tmp 59) (.tmp 66) 27 27 rfl _ _ (by simp [Act.eval]) (by simp [Act.eval]) hr9 ?_; obtain ⟨A9, c9, rfl, hrow9, hca9, hcb9⟩ := own_rowof AtC_size ho9 (by rw [List.length_append, hl8]; rfl); have HRW9 := Lib.hid hrow9; clear hrow9; have HB9 := Lib.hid ((HB8.out.alloc HB8.out.size (.cells #[.string p, .int .i64 (n1 : Nat)] 45)).trans hb9); have HO9 := Lib.hid ho9; obtain ⟨m90, m91, m92, m93, m94⟩ := C7.out _ (HB9.out); clear hr9 ho9 hb9)
                      | (obtain ⟨v9, w9, hr9, ho9, hb9⟩ := app_atN hl8 HO8.out (rowof_one (C := AtC) (z := 2) (x := (p, n1)) HX8.out) 1 (by omega) HB8.out.size; refine step_append_run14 rfl (.tmp 59) (.tmp 66) 27 27 rfl _ _ (by simp [Act.eval]) (by simp [Act.eval]) hr9 ?_; obtain ⟨A9, c9, rfl, hrow9, hca9, hcb9⟩ := own_rowof AtC_size ho9 (by rw [List.length_append, hl8]; rfl); have HRW9 := Lib.hid hrow9; clear hrow9; have HB9 := Lib.hid (HB8.out.trans hb9); have HO9 := Lib.hid ho9; obtain ⟨m90, m91, m92, m93, m94⟩ := C7.out _ (HB9.out); clear hr9 ho9 hb9))
                    all_goals
                      go_wp2
                      go_meet
                      refine ⟨A9, c9, hca9, hcb9, (U1.out _ HB9.out).set 1 _, (U3.out _ HB9.out).other (by omega) _, (bthen L7.out HB9.out).trans (((Oth.refl w.heap.size w9).setCell 1 _).below (Nat.le_refl _) (bthen L7.out HB9.out).size), (N7.out.below HB9.out).oth13 ((Oth.refl w.heap.size w9).setCell 1 _) (U1.out _ HB9.out) (by decide), HRW9.out.oth13 ((Oth.refl w.heap.size w9).setCell 1 _) (U1.out _ HB9.out) (by decide)⟩
                  case rest =>
                    obtain ⟨A9, c9, hca9, hcb9, v1, v3, low5, nrow5, arow5⟩ := hcut
                    have p0 : wc.cell? ⟨w.heap.size, 0, none⟩ = some (.slice A6 (n1 + 1) c6) := v1.out.cell rfl
                    have p1 : wc.cell? ⟨w.heap.size, 1, none⟩ = some (.slice A9 (n2 + 1) c9) := v1.out.cell rfl
                    have p2 : wc.cell? ⟨w.heap.size, 2, none⟩ = some (.int .i64 T.room) := v1.out.cell rfl
                    have p3 : wc.cell? ⟨w.heap.size, 3, none⟩ = some (.int .i64 T.vol) := v1.out.cell rfl
                    have r0 : wc.cell? ⟨w.heap.size + 1 + 1, 0, none⟩ = some (.slice none 0 0) := v3.out.cell rfl
                    have r1 : wc.cell? ⟨w.heap.size + 1 + 1, 1, none⟩ = some (.slice none 0 0) := v3.out.cell rfl
                    have r2 : wc.cell? ⟨w.heap.size + 1 + 1, 2, none⟩ = some (.int .i64 0) := v3.out.cell rfl
                    have r3 : wc.cell? ⟨w.heap.size + 1 + 1, 3, none⟩ = some (.int .i64 0) := v3.out.cell rfl
                    have f0 := v3.out.free 0
                    have f1 := v3.out.free 1
                    have f2 := v3.out.free 2
                    have f3 := v3.out.free 3
                    go_wp2
                    obtain ⟨W9, hW9, k0, k1, k2, k3, hb9, ho9⟩ := fin4 v3.out low5.out (by omega) (.slice A6 (n1 + 1) c6) (.slice A9 (n2 + 1) c9) (.int .i64 T.room) (.int .i64 T.vol)
                    rw [hW9]
                    refine bodyPost_ret (v := .tuple #[.agg (RvC A6 (n1 + 1) c6 A9 (n2 + 1) c9 T.room T.vol), .int .i64 0]) (by simp [results, Tryz.f52, go_sem, k0, k1, k2, k3]) rfl ?_
                    exact ⟨_, rfl, ⟨_, _, _, _, _, _, rfl, mk_rtr HR.out hl5 (nrow5.out.oth13 ho9 v3.out (by decide)) (arow5.out.oth13 ho9 v3.out (by decide)) ⟨hca6, hcb6⟩ ⟨hca9, hcb9⟩ hb9 hd hc hm⟩, hb9⟩
              · have g1 : (kd == 1) = false := by simp [h1]
                have g3 : (kd == 3) = false := by simp [h3]
                clear h hW hb3 hr3 x1 x2 x3 hE0 hE1 hf hmo hmo1 hb hs h1 h3
                go_enter Tryz.func52, Tryz.ntmps52
                go_upto_region 14 with (first
                  | (go_at_call 104; (with_reducible refine (KRO.out _ hc2).mono ?_); rintro e w4 ⟨rfl, hb4⟩; have hc4 := bthen hc2 hb4; obtain ⟨f4a0, f4a1, f4a2, f4a3, f4a4, f4a5, f4a6, f4a7, f4a8, f4a9, f4a10⟩ := CF.out _ hc4; obtain ⟨f4b0, f4b1, f4b2, f4b3, f4b4, f4b5, f4b6, f4b7⟩ := RF.out _ hc4)
                  | (go_at_call 102; (with_reducible refine (KNU.out _).mono ?_); rintro e w2 ⟨rfl, hb2⟩; have hc2 := bthen hc1 hb2; obtain ⟨f2a0, f2a1, f2a2, f2a3, f2a4, f2a5, f2a6, f2a7, f2a8, f2a9, f2a10⟩ := CF.out _ hc2; obtain ⟨f2b0, f2b1, f2b2, f2b3, f2b4, f2b5, f2b6, f2b7⟩ := RF.out _ hc2)
                  | (go_at_call 101; (with_reducible refine (KFR.out).mono ?_); rintro e w1 ⟨rfl, hb1⟩; have hc1 := hb1; obtain ⟨f1a0, f1a1, f1a2, f1a3, f1a4, f1a5, f1a6, f1a7, f1a8, f1a9, f1a10⟩ := CF.out _ hc1; obtain ⟨f1b0, f1b1, f1b2, f1b3, f1b4, f1b5, f1b6, f1b7⟩ := RF.out _ hc1))
                have hl5 : T.nodes.length = n1 := HR.out.len1
                go_cut [50] (fun v wx => ∃ A6 c6, n1 + 1 ≤ c6 ∧ c6 ≤ maxLen ∧ Hid (BX wx w.heap.size 29 (RvC A6 (n1 + 1) c6 A2 n2 c2 T.room T.vol)) ∧ Hid (BX wx (w.heap.size + 1 + 1) 29 Rv0) ∧ Hid (Below w.heap.size w wx) ∧ Hid (NRow wx A6 (n1 + 1) (T.nodes ++ [⟨kd, mo, u, g, ti, l, A, n, c, xs⟩])))
                case first =>
                  have hD5 : Below W3.heap.size W3 w4.drew := hc4.drew
                  have hDx5 : Below W3.heap.size W3 (w4.alloc (.cells #[.int .i64 kd, .int .i64 mo, .int .i64 u, .int .i64 g, .int .i64 ti, .string l, .slice A n c] 114)).drew := (hc4.alloc hc4.size _).drew
                  have hXx5 : BX (w4.alloc (.cells #[.int .i64 kd, .int .i64 mo, .int .i64 u, .int .i64 g, .int .i64 ti, .string l, .slice A n c] 114)).drew w4.heap.size 114 #[.int .i64 kd, .int .i64 mo, .int .i64 u, .int .i64 g, .int .i64 ti, .string l, .slice A n c] := BX.new w4 _ _
                  have AP5 := Lib.hid (fun W (h : Below W3.heap.size W3 W) => app_nd0 (base := W3.heap.size) ((HR.out.below HB.out).below h).nodes c1 (by omega) h.size)
                  obtain ⟨da0, da1, da2, da3, da4, da5, da6, da7, da8, da9, da10⟩ := CF.out _ hD5
                  obtain ⟨db0, db1, db2, db3, db4, db5, db6, db7, db8, db9, db10⟩ := CF.out _ hDx5
                  go_region_law (first
                    | (obtain ⟨v5, w5, hr5, ho5, hb5⟩ := AP5.out _ hD5; refine step_append_run14 rfl (.const (.slice none 0 0)) (.tmp 51) 26 26 rfl _ _ rfl (by simp [Act.eval]) hr5 ?_; obtain ⟨A5, c5, rfl, _, _, _⟩ := own_rowof NdC_size ho5 hl5; have HB5 := Lib.hid (hD5.trans (hb5.mono hD5.size)); have HO5 := Lib.hid ho5; obtain ⟨m50, m51, m52, m53, m54, m55, m56, m57, m58, m59, m510⟩ := CF.out _ (HB5.out); have m5z := (X1.out _ (HB5.out)).free 0; clear hr5 ho5 hb5)
                    | (obtain ⟨v5, w5, hr5, ho5, hb5⟩ := AP5.out _ hDx5; refine step_append_run14 rfl (.const (.slice none 0 0)) (.tmp 51) 26 26 rfl _ _ rfl (by simp [Act.eval]) hr5 ?_; obtain ⟨A5, c5, rfl, _, _, _⟩ := own_rowof NdC_size ho5 hl5; have HX5 := Lib.hid (hXx5.later hb5); have HB5 := Lib.hid (hDx5.trans (hb5.mono hDx5.size)); have HO5 := Lib.hid ho5; obtain ⟨m50, m51, m52, m53, m54, m55, m56, m57, m58, m59, m510⟩ := CF.out _ (HB5.out); have m5z := (X1.out _ (HB5.out)).free 0; clear hr5 ho5 hb5)
                    | (obtain ⟨v6, w6, hr6, ho6, hb6⟩ := app_ndN hl5 (HO5.out.alloc (.cells #[.int .i64 kd, .int .i64 mo, .int .i64 u, .int .i64 g, .int .i64 ti, .string l, .slice A n c] 114)) (rowof_one (C := NdC) (z := 7) (x := ⟨kd, mo, u, g, ti, l, A, n, c, xs⟩) (BX.new w5 _ _)) 1 (by omega) (by have := HB5.out.size; simp; omega); refine step_append_run14 rfl (.tmp 52) (.tmp 54) 26 26 rfl _ _ (by simp [Act.eval]) (by simp [Act.eval]) hr6 ?_; obtain ⟨A6, c6, rfl, hrow6, hca6, hcb6⟩ := own_rowof NdC_size ho6 (by rw [List.length_append, hl5]; rfl); have HRW6 := Lib.hid hrow6; clear hrow6; have HB6 := Lib.hid ((HB5.out.alloc HB5.out.size (.cells #[.int .i64 kd, .int .i64 mo, .int .i64 u, .int .i64 g, .int .i64 ti, .string l, .slice A n c] 114)).trans hb6); have HO6 := Lib.hid ho6; obtain ⟨m60, m61, m62, m63, m64, m65, m66, m67, m68, m69, m610⟩ := CF.out _ (HB6.out); have m6z := (X1.out _ (HB6.out)).free 0; clear hr6 ho6 hb6)
                    | (obtain ⟨v6, w6, hr6, ho6, hb6⟩ := app_ndN hl5 HO5.out (rowof_one (C := NdC) (z := 7) (x := ⟨kd, mo, u, g, ti, l, A, n, c, xs⟩) HX5.out) 1 (by omega) HB5.out.size; refine step_append_run14 rfl (.tmp 52) (.tmp 54) 26 26 rfl _ _ (by simp [Act.eval]) (by simp [Act.eval]) hr6 ?_; obtain ⟨A6, c6, rfl, hrow6, hca6, hcb6⟩ := own_rowof NdC_size ho6 (by rw [List.length_append, hl5]; rfl); have HRW6 := Lib.hid hrow6; clear hrow6; have HB6 := Lib.hid (HB5.out.trans hb6); have HO6 := Lib.hid ho6; obtain ⟨m60, m61, m62, m63, m64, m65, m66, m67, m68, m69, m610⟩ := CF.out _ (HB6.out); have m6z := (X1.out _ (HB6.out)).free 0; clear hr6 ho6 hb6))
                  all_goals
                    go_wp2
                    go_meet
                    refine ⟨A6, c6, hca6, hcb6, (X1.out _ HB6.out).set 0 _, (X3.out _ HB6.out).other (by omega) _, (bthen HB.out HB6.out).trans (((Oth.refl w.heap.size w6).setCell 0 _).below (Nat.le_refl _) (bthen HB.out HB6.out).size), HRW6.out.oth13 ((Oth.refl w.heap.size w6).setCell 0 _) (X1.out _ HB6.out) (by decide)⟩
                case rest =>
                  obtain ⟨A6, c6, hca6, hcb6, u1, u3, L7, N7⟩ := hcut
                  have U3 := Lib.hid (fun W (h : Below wc.heap.size wc W) => u3.out.later h)
                  have U1 := Lib.hid (fun W (h : Below wc.heap.size wc W) => u1.out.later h)
                  have C7 := Lib.hid (fun W (h : Below wc.heap.size wc W) => show W.cell? ⟨w.heap.size, 0, none⟩ = some (.slice A6 (n1 + 1) c6) ∧ W.cell? ⟨w.heap.size, 1, none⟩ = some (.slice A2 n2 c2) ∧ W.cell? ⟨w.heap.size, 2, none⟩ = some (.int .i64 T.room) ∧ W.cell? ⟨w.heap.size, 3, none⟩ = some (.int .i64 T.vol) ∧ W.frozen? ⟨w.heap.size, 1, none⟩ = false from
                    ⟨(U1.out _ h).cell rfl, (U1.out _ h).cell rfl, (U1.out _ h).cell rfl, (U1.out _ h).cell rfl, (U1.out _ h).free 1⟩)
                  have hwr : IntKind.i64.wrap (n1 : Int) = (n1 : Int) := wrap_small (by omega) (by omega)
                  have hl8 : (tps T.paths).length = n2 := HR.out.paths.1
                  have hD8 : Below wc.heap.size wc wc.drew := (Below.refl _ _).drew
                  have hDx8 : Below wc.heap.size wc (wc.alloc (.cells #[.string p, .int .i64 (n1 : Nat)] 45)).drew := (below_new wc _).drew
                  have hXx8 : BX (wc.alloc (.cells #[.string p, .int .i64 (n1 : Nat)] 45)).drew wc.heap.size 45 #[.string p, .int .i64 (n1 : Nat)] := BX.new wc _ _
                  have AP8 := Lib.hid (fun W (h : Below wc.heap.size wc W) => app_at0 (base := wc.heap.size) ((HR.out.below L7.out).below h).paths c2 (by omega) h.size)
                  obtain ⟨ea0, ea1, ea2, ea3, ea4⟩ := C7.out _ hD8
                  obtain ⟨eb0, eb1, eb2, eb3, eb4⟩ := C7.out _ hDx8
                  clear u1 u3
                  go_upto_region 15 with (fail)
                  go_cut [57] (fun v wx => ∃ A9 c9, n2 + 1 ≤ c9 ∧ c9 ≤ maxLen ∧ Hid (BX wx w.heap.size 29 (RvC A6 (n1 + 1) c6 A9 (n2 + 1) c9 T.room T.vol)) ∧ Hid (BX wx (w.heap.size + 1 + 1) 29 Rv0) ∧ Hid (Below w.heap.size w wx) ∧ Hid (NRow wx A6 (n1 + 1) (T.nodes ++ [⟨kd, mo, u, g, ti, l, A, n, c, xs⟩])) ∧ Hid (ARow wx A9 (n2 + 1) (tps T.paths ++ [(p, n1)])))
                  case first =>
                    go_region_law (first
                      | (obtain ⟨v8, w8, hr8, ho8, hb8⟩ := AP8.out _ hD8; refine step_append_run14 rfl (.const (.slice none 0 0)) (.tmp 58) 27 27 rfl _ _ rfl (by simp [Act.eval, Act.put]) hr8 ?_; obtain ⟨A8, c8, rfl, _, _, _⟩ := own_rowof AtC_size ho8 hl8; have HB8 := Lib.hid (hD8.trans (hb8.mono hD8.size)); have HO8 := Lib.hid ho8; obtain ⟨m80, m81, m82, m83, m84⟩ := C7.out _ (HB8.out); clear hr8 ho8 hb8)
                      | (obtain ⟨v8, w8, hr8, ho8, hb8⟩ := AP8.out _ hDx8; refine step_append_run14 rfl (.const (.slice none 0 0)) (.tmp 58) 27 27 rfl _ _ rfl (by simp [Act.eval]) hr8 ?_; obtain ⟨A8, c8, rfl, _, _, _⟩ := own_rowof AtC_size ho8 hl8; have HX8 := Lib.hid (hXx8.later hb8); have HB8 := Lib.hid (hDx8.trans (hb8.mono hDx8.size)); have HO8 := Lib.hid ho8; obtain ⟨m80, m81, m82, m83, m84⟩ := C7.out _ (HB8.out); clear hr8 ho8 hb8)
                      | (obtain ⟨v9, w9, hr9, ho9, hb9⟩ := app_atN hl8 (HO8.out.alloc (.cells #[.string p, .int .i64 (n1 : Nat)] 45)) (rowof_one (C := AtC) (z := 2) (x := (p, n1)) (BX.new w8 _ _)) 1 (by omega) (by have := HB8.out.size; simp; omega); refine step_append_run14 rfl (.tmp 59) (.tmp 66) 27 27 rfl _ _ (by simp [Act.eval]) (by simp [Act.eval]) hr9 ?_; obtain ⟨A9, c9, rfl, hrow9, hca9, hcb9⟩ := own_rowof AtC_size ho9 (by rw [List.length_append, hl8]; rfl); have HRW9 := Lib.hid hrow9; clear hrow9; have HB9 := Lib.hid ((HB8.out.alloc HB8.out.size (.cells #[.string p, .int .i64 (n1 : Nat)] 45)).trans hb9); have HO9 := Lib.hid ho9; obtain ⟨m90, m91, m92, m93, m94⟩ := C7.out _ (HB9.out); clear hr9 ho9 hb9)
                      | (obtain ⟨v9, w9, hr9, ho9, hb9⟩ := app_atN hl8 HO8.out (rowof_one (C := AtC) (z := 2) (x := (p, n1)) HX8.out) 1 (by omega) HB8.out.size; refine step_append_run14 rfl (.tmp 59) (.tmp 66) 27 27 rfl _ _ (by simp [Act.eval]) (by simp [Act.eval]) hr9 ?_; obtain ⟨A9, c9, rfl, hrow9, hca9, hcb9⟩ := own_rowof AtC_size ho9 (by rw [List.length_append, hl8]; rfl); have HRW9 := Lib.hid hrow9; clear hrow9; have HB9 := Lib.hid (HB8.out.trans hb9); have HO9 := Lib.hid ho9; obtain ⟨m90, m91, m92, m93, m94⟩ := C7.out _ (HB9.out); clear hr9 ho9 hb9))
                    all_goals
                      go_wp2
                      go_meet
                      refine ⟨A9, c9, hca9, hcb9, (U1.out _ HB9.out).set 1 _, (U3.out _ HB9.out).other (by omega) _, (bthen L7.out HB9.out).trans (((Oth.refl w.heap.size w9).setCell 1 _).below (Nat.le_refl _) (bthen L7.out HB9.out).size), (N7.out.below HB9.out).oth13 ((Oth.refl w.heap.size w9).setCell 1 _) (U1.out _ HB9.out) (by decide), HRW9.out.oth13 ((Oth.refl w.heap.size w9).setCell 1 _) (U1.out _ HB9.out) (by decide)⟩
                  case rest =>
                    obtain ⟨A9, c9, hca9, hcb9, v1, v3, low5, nrow5, arow5⟩ := hcut
                    have p0 : wc.cell? ⟨w.heap.size, 0, none⟩ = some (.slice A6 (n1 + 1) c6) := v1.out.cell rfl
                    have p1 : wc.cell? ⟨w.heap.size, 1, none⟩ = some (.slice A9 (n2 + 1) c9) := v1.out.cell rfl
                    have p2 : wc.cell? ⟨w.heap.size, 2, none⟩ = some (.int .i64 T.room) := v1.out.cell rfl
                    have p3 : wc.cell? ⟨w.heap.size, 3, none⟩ = some (.int .i64 T.vol) := v1.out.cell rfl
                    have r0 : wc.cell? ⟨w.heap.size + 1 + 1, 0, none⟩ = some (.slice none 0 0) := v3.out.cell rfl
                    have r1 : wc.cell? ⟨w.heap.size + 1 + 1, 1, none⟩ = some (.slice none 0 0) := v3.out.cell rfl
                    have r2 : wc.cell? ⟨w.heap.size + 1 + 1, 2, none⟩ = some (.int .i64 0) := v3.out.cell rfl
                    have r3 : wc.cell? ⟨w.heap.size + 1 + 1, 3, none⟩ = some (.int .i64 0) := v3.out.cell rfl
                    have f0 := v3.out.free 0
                    have f1 := v3.out.free 1
                    have f2 := v3.out.free 2
                    have f3 := v3.out.free 3
                    go_wp2
                    obtain ⟨W9, hW9, k0, k1, k2, k3, hb9, ho9⟩ := fin4 v3.out low5.out (by omega) (.slice A6 (n1 + 1) c6) (.slice A9 (n2 + 1) c9) (.int .i64 T.room) (.int .i64 T.vol)
                    rw [hW9]
                    refine bodyPost_ret (v := .tuple #[.agg (RvC A6 (n1 + 1) c6 A9 (n2 + 1) c9 T.room T.vol), .int .i64 0]) (by simp [results, Tryz.f52, go_sem, k0, k1, k2, k3]) rfl ?_
                    exact ⟨_, rfl, ⟨_, _, _, _, _, _, rfl, mk_rtr HR.out hl5 (nrow5.out.oth13 ho9 v3.out (by decide)) (arow5.out.oth13 ho9 v3.out (by decide)) ⟨hca6, hcb6⟩ ⟨hca9, hcb9⟩ hb9 hd hc hm⟩, hb9⟩
end
end Go.Proofs.YthgbncpiehcghaaGreatDoor
