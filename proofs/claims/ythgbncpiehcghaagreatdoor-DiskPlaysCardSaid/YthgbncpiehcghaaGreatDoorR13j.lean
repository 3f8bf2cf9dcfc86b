/- WALKS OF THE DOCUMENT's TREE: New; without (no path is p, or lies under it). -/
import Derived.Test.YthgbncpiehcghaaGreatDoorGr1
namespace Go.Proofs.YthgbncpiehcghaaGreatDoor
set_option linter.unusedVariables false
open Go Go.RowKit Go.Maps
set_option maxRecDepth 100000
set_option maxHeartbeats 4000000
open Nt (Tr Nd WF Ps Path at_ cnt used txt)
/-- A row of one. -/
theorem rowof_one {α : Type} {C : α → Array Value} {z : Nat} {U : TypeId} {w : World} {b : Nat} {x : α} (h : BX w b U (C x)) : RowOf C z U w (some ⟨b, 0, none⟩) 1 [x] :=
  ⟨rfl, fun _ => ⟨b, 0, rfl, ⟨_, _, h⟩, fun j y hj i u hu => by
    match j, hj with
    | 0, hj =>
      obtain rfl : x = y := by simpa using hj
      rw [show 0 + 0 * z + i = i from by rw [Nat.zero_mul]; omega]
      exact h.cell hu
    | j + 1, hj => simp at hj⟩⟩
theorem RowOf.oth13 {α : Type} {C : α → Array Value} {z : Nat} {U V : TypeId} {w w' : World} {A : Option Addr} {n a : Nat} {l : List α} {cs : Array Value} (h : RowOf C z U w A n l) (ho : Oth a w w') (hb : BX w a V cs) (hU : U ≠ V) : RowOf C z U w' A n l :=
  h.keptX (X := fun o => ∃ cs fz, o = .cells cs V fz) (KeepX.ofOth ho hb ⟨_, _, rfl⟩) (by rintro cs fz ⟨_, _, e⟩; cases e; exact hU rfl)
theorem refnew_any (w : World) (B : Nat) (hB : B ≤ w.heap.size) (a b : Int) :
    Calls Tryz.prog 8 #[.int .i64 a, .int .i64 b] w fun e w' => ∃ v, e = .returned v ∧ Rv w' B v (Nt.new a b) ∧ Below w.heap.size w w' := by
  go_enter Tryz.func8, Tryz.ntmps8
  go_wp2
  obtain ⟨W, hW, hb, hs, x1, x2, x3⟩ := frame3 w (RvC (some ⟨w.heap.size + 1, 0, none⟩) 1 1 (some ⟨w.heap.size + 1 + 1, 0, none⟩) 1 1 (max a 0) (max b 0)) 29 #[.int .i64 4, .int .i64 0, .int .i64 0, .int .i64 0, .int .i64 0, .string ⟨#[]⟩, .slice none 0 0] 114 #[.string ⟨#[]⟩, .int .i64 0] 45
  rw [hW]
  have k0 := x1.cell (j := 0) rfl
  have k1 := x1.cell (j := 1) rfl
  have k2 := x1.cell (j := 2) rfl
  have k3 := x1.cell (j := 3) rfl
  refine bodyPost_ret (v := .agg (RvC (some ⟨w.heap.size + 1, 0, none⟩) 1 1 (some ⟨w.heap.size + 1 + 1, 0, none⟩) 1 1 (max a 0) (max b 0))) (by simp [results, Tryz.f8, go_sem, k0, k1, k2, k3]) rfl ?_
  refine ⟨_, rfl, ⟨_, _, _, _, _, _, rfl, rowof_one (x := { Nd.zero with kind := 4 }) x2, rowof_one (x := ((⟨#[]⟩ : ByteArray), 0)) x3, ⟨Nat.le_refl _, by decide⟩, ⟨Nat.le_refl _, by decide⟩, Nat.le_trans hB hb.size, ?_⟩, hb⟩
  intro x hx
  obtain rfl : x = { Nd.zero with kind := 4 } := by simpa [Nt.new] using hx
  exact ⟨RB.nil, Nat.le_refl _, Nat.zero_le _⟩
theorem tps_take (R : Ps) (j : Nat) : tps (R.take j) = (tps R).take j := by unfold tps; rw [List.map_take]
theorem tps_len (R : Ps) : (tps R).length = R.length := by unfold tps; rw [List.length_map]
/-- One path more is looked at. -/
theorem cut_take {R : Ps} {j : Nat} {y : Path × Nat} {P : Path} (h : R[j]? = some y) : Nt.cut (R.take (j + 1)) P = if P <+: y.1 then Nt.cut (R.take j) P else Nt.cut (R.take j) P ++ [y] := by
  rw [List.take_add_one, h, Option.toList_some]
  unfold Nt.cut
  rw [List.filter_append]
  by_cases hp : P <+: y.1
  · rw [if_pos hp]
    simp [hp]
  · rw [if_neg hp]
    simp [hp]
section
variable {w : World} {B : Nat} {A1 A2 : Option Addr} {n1 c1 n2 c2 : Nat} {T : Tr}
theorem refwithout_any {K : Nat} (h : RTr w B A1 n1 c1 A2 n2 c2 T) (hW : WF T K) (hK : K ≤ 100000) {P : Path} (hP : ∀ x ∈ P, Pp.Nm x) (hp : (txt P).size ≤ 100000) :
    Calls Tryz.prog 107 #[.agg (RvC A1 n1 c1 A2 n2 c2 T.room T.vol), .string (txt P)] w fun e w' => ∃ v, e = .returned v ∧ Rv w' B v (T.clr1 P) ∧ Below w.heap.size w w' := by
  obtain ⟨W2, hW2, hb2, hs2, x1, x2⟩ := frame2 w (RvC A1 n1 c1 A2 n2 c2 T.room T.vol) 29 Rv0 29
  have HR := Lib.hid (h.paths.below hb2)
  have hn2 : n2 ≤ 100000 := by rw [← h.len2]; exact Nat.le_trans hW.many hK
  have hlen : (tps T.paths).length = n2 := h.paths.1
  obtain ⟨p, hpp⟩ : ∃ p, txt P = p := ⟨_, rfl⟩
  rw [hpp] at hp ⊢
  have HPP := Lib.hid hpp
  have HH := Lib.hid h
  have HW := Lib.hid hW
  have CF := Lib.hid (fun W (hh : Below W2.heap.size W2 W) => show W.cell? ⟨w.heap.size, 0, none⟩ = some (.slice A1 n1 c1) ∧ W.cell? ⟨w.heap.size, 1, none⟩ = some (.slice A2 n2 c2) ∧ W.cell? ⟨w.heap.size, 2, none⟩ = some (.int .i64 T.room) ∧ W.cell? ⟨w.heap.size, 3, none⟩ = some (.int .i64 T.vol) ∧ W.frozen? ⟨w.heap.size, 1, none⟩ = false from
    ⟨(x1.later hh).cell rfl, (x1.later hh).cell rfl, (x1.later hh).cell rfl, (x1.later hh).cell rfl, (x1.later hh).free 1⟩)
  have hc2 := h.cap2
  obtain ⟨y0, y1, y2, y3, y4⟩ := CF.out _ (Below.refl _ _)
  clear h hW hpp hlen
  go_enter Tryz.func107, Tryz.ntmps107
  go_wp2
  go_loopw [5, 6] (fun v i W => ∃ j : Nat, j ≤ n2 ∧ i = .int .i64 j ∧ Hid (W.ownsRow W2.heap.size 45 2 v (tps (Nt.cut (T.paths.take j) P)).length (rl AtC (tps (Nt.cut (T.paths.take j) P)))) ∧ Hid (Below W2.heap.size W2 W)) (fun _ i _ => n2 - (intOf i).toNat)
  case atStart => exact ⟨0, Nat.zero_le _, rfl, World.ownsRow_nil _ _ _ _, Below.refl _ _⟩
  case round =>
    obtain ⟨j, hj, rfl, HO, HB⟩ := hrel
    obtain ⟨q0, q1, q2, q3, q4⟩ := CF.out _ HB.out
    obtain ⟨Av, cv, rfl, hrow, hcv1, hcv2⟩ := own_rowof AtC_size HO.out rfl
    have hlv : (tps (Nt.cut (T.paths.take j) P)).length ≤ 100000 := by
      rw [tps_len]
      refine Nat.le_trans (Nt.len_cut _ _) ?_
      rw [List.length_take]
      omega
    by_cases hlt : j < n2
    · have hlt' : (j : Int) < n2 := by omega
      obtain ⟨g, o, x, rfl, hx, hc⟩ := (HR.out.below HB.out).at_ hlt
      obtain ⟨Q, hQ, hQt⟩ := tps_at hx
      obtain ⟨s, m⟩ := x
      replace hQt : s = txt Q := hQt
      have d0 : wr.cell? ⟨g, o + j * 2, none⟩ = some (.string s) := hc 0 _ rfl
      have d1 : wr.cell? ⟨g, o + j * 2 + 1, none⟩ = some (.int .i64 (m : Nat)) := hc 1 _ rfl
      have hQm : (Q, m) ∈ T.paths := List.mem_of_getElem? hQ
      have hQN := HW.out.names Q m hQm
      have hss : s.size ≤ 1000000 := by rw [hQt]; have := HW.out.long Q m hQm; omega
      have hst := cut_take (P := P) hQ
      have hrest := rest_txt hP hQN
      rw [← hQt, HPP.out] at hrest
      have hsp : s = p ↔ Q = P := by
        rw [hQt, ← HPP.out]
        exact ⟨fun e => Nt.txt_inj hQN hP e, fun e => by rw [e]⟩
      have KR := Lib.hid (fun W => refrest_any s p W hss hp)
      have HQT := Lib.hid hQt
      clear hQt
      by_cases hpre : P <+: Q
      · rw [if_pos hpre] at hst
        have HST := Lib.hid hst
        by_cases hE : s = p
        · have hE2 := hsp.1 hE
          rw [if_neg (fun h => h.2 hE2)] at hrest
          rw [hrest] at KR
          have g0 : (s.toList != p.toList) = false := by rw [hE]; simp
          have g1 : (s.toList == p.toList) = true := by rw [hE]; simp
          clear hst hrest hsp hE hE2 hc hx hQ hrow
          go_wp2_with (go_at_call 109; (with_reducible refine (KR.out _).mono ?_); rintro e w3 ⟨rfl, rfl⟩)
          go_roundw
          case rel => exact ⟨j + 1, by omega, by go_num, by rw [HST.out]; exact HO.out, HB.out⟩
          case measure => simp [intOf]; omega
        · have hE2 : Q ≠ P := fun e => hE (hsp.2 e)
          rw [if_pos ⟨hpre, hE2⟩] at hrest
          rw [hrest] at KR
          obtain ⟨rst, hrst⟩ : ∃ r, txt (Q.drop P.length) = r := ⟨_, rfl⟩
          rw [hrst] at KR
          have g0 : (s.toList != p.toList) = true := by rw [bne, Pp.toList_eq]; simp [hE]
          have g1 : (s.toList == p.toList) = false := by rw [Pp.toList_eq]; simp [hE]
          clear hst hrest hsp hE hE2 hc hx hQ hrow hrst
          go_wp2_with (go_at_call 109; (with_reducible refine (KR.out _).mono ?_); rintro e w3 ⟨rfl, rfl⟩)
          go_roundw
          case rel => exact ⟨j + 1, by omega, by go_num, by rw [HST.out]; exact HO.out, HB.out⟩
          case measure => simp [intOf]; omega
      · rw [if_neg hpre] at hst
        have HST := Lib.hid hst
        have hE2 : Q ≠ P := fun e => hpre (e ▸ List.prefix_refl _)
        have hE : ¬ s = p := fun e => hE2 (hsp.1 e)
        rw [if_neg (fun h => hpre h.1)] at hrest
        rw [hrest] at KR
        have g0 : (s.toList != p.toList) = true := by rw [bne, Pp.toList_eq]; simp [hE]
        have g1 : (s.toList == p.toList) = false := by rw [Pp.toList_eq]; simp [hE]
        obtain ⟨v', w', hrun, hown, hgr, hbk⟩ := app_at (HO.out.alloc (.cells #[.string s, .int .i64 (m : Nat)] 45)) (rowof_one (C := AtC) (z := 2) (x := (s, m)) (BX.new wr 45 #[.string s, .int .i64 (m : Nat)])) 1 (by omega) (by have := HB.out.size; simp; omega)
        have RUN := Lib.hid hrun
        have HOWN := Lib.hid hown
        have HBN := Lib.hid (below_grown1 HB.out HO.out hgr)
        clear hst hrest hsp hE hE2 hc hx hrow hrun hown hgr hbk
        go_wp2_with (first
          | (at_builtin; refine Lib.wpList_append_run _ rfl _ _ 27 27 rfl _ _ rfl rfl _ _ RUN.out ?_)
          | (go_at_call 109; (with_reducible refine (KR.out _).mono ?_); rintro e w3 ⟨rfl, rfl⟩))
        go_roundw
        case rel =>
          refine ⟨j + 1, by omega, by go_num, ?_, HBN.out⟩
          have h9 := HOWN.out
          have e9 : tps (Nt.cut (T.paths.take j) P ++ [(Q, m)]) = tps (Nt.cut (T.paths.take j) P) ++ [(s, m)] := by
            unfold tps
            rw [List.map_append, List.map_singleton, HQT.out]
          rw [HST.out, e9, List.length_append]
          exact h9
        case measure => simp [intOf]; omega
    · have hlt' : ¬ (j : Int) < n2 := by omega
      obtain rfl : j = n2 := by omega
      have htk : T.paths.take j = T.paths := List.take_of_length_le (by rw [HH.out.len2]; exact Nat.le_refl _)
      rw [htk] at hrow hlv hcv1 ⊢
      obtain ⟨k, hk⟩ : ∃ k, (tps (Nt.cut T.paths P)).length = k := ⟨_, rfl⟩
      rw [hk] at hrow hlv hcv1 ⊢
      have y1' := x1.later HB.out
      have y2' := x2.later HB.out
      obtain ⟨W5, hW5⟩ : ∃ W5, wr.setCell ⟨w.heap.size, 1, none⟩ (.slice Av k cv) = W5 := ⟨_, rfl⟩
      have u1 : BX W5 w.heap.size 29 (RvC A1 n1 c1 Av k cv T.room T.vol) := by rw [← hW5]; exact y1'.set 1 _
      have u2 : BX W5 (w.heap.size + 1) 29 Rv0 := by rw [← hW5]; exact y2'.other (by omega) _
      have o5 : Oth w.heap.size wr W5 := by rw [← hW5]; exact (Oth.refl _ _).setCell 1 _
      have hrow5 := hrow.oth13 o5 y1' (by decide)
      have p0 : W5.cell? ⟨w.heap.size, 0, none⟩ = some (.slice A1 n1 c1) := u1.cell rfl
      have p1 : W5.cell? ⟨w.heap.size, 1, none⟩ = some (.slice Av k cv) := u1.cell rfl
      have p2 : W5.cell? ⟨w.heap.size, 2, none⟩ = some (.int .i64 T.room) := u1.cell rfl
      have p3 : W5.cell? ⟨w.heap.size, 3, none⟩ = some (.int .i64 T.vol) := u1.cell rfl
      have r0 : W5.cell? ⟨w.heap.size + 1, 0, none⟩ = some (.slice none 0 0) := u2.cell rfl
      have r1 : W5.cell? ⟨w.heap.size + 1, 1, none⟩ = some (.slice none 0 0) := u2.cell rfl
      have r2 : W5.cell? ⟨w.heap.size + 1, 2, none⟩ = some (.int .i64 0) := u2.cell rfl
      have r3 : W5.cell? ⟨w.heap.size + 1, 3, none⟩ = some (.int .i64 0) := u2.cell rfl
      have f0 := u2.free 0
      have f1 := u2.free 1
      have f2 := u2.free 2
      have f3 := u2.free 3
      have U2 := Lib.hid u2
      have HROW := Lib.hid hrow5
      have HLOW := Lib.hid (bthen hb2 HB.out)
      have H5 := Lib.hid ((HLOW.out.trans (o5.below (Nat.le_refl _) HLOW.out.size) : Below w.heap.size w W5))
      have HK := Lib.hid hk
      clear x1 x2 y1' y2' u1 u2 o5 hrow hrow5 hk
      go_wp2
      obtain ⟨W9, hW9, k0, k1, k2, k3, hb9, ho9⟩ := fin4 U2.out H5.out (Nat.le_succ _) (.slice A1 n1 c1) (.slice Av k cv) (.int .i64 T.room) (.int .i64 T.vol)
      rw [hW9]
      refine bodyPost_ret (v := .agg (RvC A1 n1 c1 Av k cv T.room T.vol)) (by simp [results, Tryz.f107, go_sem, k0, k1, k2, k3]) rfl ?_
      have hp9 := HROW.out.oth13 ho9 U2.out (by decide)
      exact ⟨_, rfl, ⟨_, _, _, _, _, _, rfl, HH.out.nodes.below hb9, by rw [← HK.out] at hp9 ⊢; exact hp9, HH.out.cap1, ⟨hcv1, hcv2⟩, Nat.le_trans HH.out.base hb9.size, fun x hx => ⟨(HH.out.data x hx).1.below (hb9.mono HH.out.base), (HH.out.data x hx).2⟩⟩, hb9⟩
end
end Go.Proofs.YthgbncpiehcghaaGreatDoor
