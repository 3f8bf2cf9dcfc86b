/- WALKS OF THE LAW OF LAYER 13: a path of both trees held against each other. gen_g13like.py -/
import Derived.Test.YthgbncpiehcghaaGreatDoorR13t
import Derived.Test.YthgbncpiehcghaaGreatDoorR13v
import Derived.Test.YthgbncpiehcghaaGreatDoorGn4
namespace Go.Proofs.YthgbncpiehcghaaGreatDoor
set_option linter.unusedVariables false
open Go Go.RowKit Go.Maps
set_option maxRecDepth 100000
set_option maxHeartbeats 8000000
open Nt (Tr Nd WF Ps Path at_ cnt used txt)
/-- A row of texts. -/
abbrev SC1 (x : ByteArray) : Array Value := #[.string x]
theorem rtw {w : World} {base : Nat} {v : Value} {xs : List ByteArray} (h : OS w base v xs) : ∃ A c, v = .slice A xs.length c ∧ RowW SC1 1 w A xs.length xs := by
  obtain ⟨A, c, e, hr, _, _⟩ := h.rt
  refine ⟨A, c, e, rfl, fun hn => ?_⟩
  obtain ⟨g, e1, hb, hc⟩ := hr.2 hn
  refine ⟨g, 0, e1, hb, fun j x hj i u hu => ?_⟩
  rcases i with _ | i
  · obtain rfl : Value.string x = u := by simpa using hu
    have := hc j x hj
    rwa [Nat.mul_one, Nat.add_zero, Nat.zero_add]
  · simp at hu
theorem rtw_at {w : World} {A : Option Addr} {n j : Nat} {xs : List ByteArray} (h : RowW SC1 1 w A n xs) (hj : j < n) : ∃ b o s, A = some ⟨b, o, none⟩ ∧ xs[j]? = some s ∧ ∀ W, Below w.heap.size w W → W.cell? ⟨b, o + j, none⟩ = some (.string s) := by
  obtain ⟨b, o, s, e, hs, _⟩ := h.at_ hj
  refine ⟨b, o, s, e, hs, fun W hb => ?_⟩
  obtain ⟨b', o', s', e', hs', hc⟩ := (h.below hb).at_ hj
  rw [e] at e'
  cases e'
  rw [hs] at hs'
  cases hs'
  have := hc 0 _ rfl
  rwa [Nat.mul_one, Nat.add_zero] at this
theorem kids_is {T : Tr} {K : Nat} (hW : WF T K) (q : Path) : IsKids T q (Nt.kids T.paths q) := ⟨Nt.kids_rise hW.nodup q, fun s => Nt.mem_kids_at hW.nodup⟩
theorem cnt_one13 {T : Tr} {K : Nat} (hW : WF T K) {p : ByteArray} (h0 : (T.find p).2 = 0) (hk : (T.nd (T.find p).1).kind ≠ 1) : cnt T.paths (T.find p).1 = 1 := by
  have h1 := Nt.cnt_le_one hW.nodup (n := (T.find p).1) fun q r hq hr => hW.one q r _ hq hr hk
  have h2 : 0 < cnt T.paths (T.find p).1 := Nt.cnt_pos.2 ⟨_, (hW.find_ok h0).2⟩
  omega
theorem like_any {w0 w : World} {B tb K : Nat} {A1 A2 : Option Addr} {n1 c1 n2 c2 : Nat} {T : Tr} (h : At w0 w tb T K) (hr : RTr w B A1 n1 c1 A2 n2 c2 T) (hK : K ≤ 100000) (hX : Nt.Bok T) (p : ByteArray) (hp : p.size ≤ 100000) :
    Calls Tryz.prog 14 #[.pointer (some ⟨tb, 0, none⟩), .agg (RvC A1 n1 c1 A2 n2 c2 T.room T.vol), .string p] w fun e w' => e = .returned (.bool true) ∧ Below w.heap.size w w' := by
  obtain ⟨W1, hW1, hb1, hs1, x1⟩ := frame1 w (RvC A1 n1 c1 A2 n2 c2 T.room T.vol) 29
  have HB1 := Lib.hid hb1
  have h1 := h.later hb1
  have hr1 := hr.below hb1
  have hW := h.wf
  have CT := Lib.hid (fun W (hh : Below W1.heap.size W1 W) => show Cin w.heap.size A1 n1 c1 A2 n2 c2 T.room T.vol W from (x1.later hh).cin)
  obtain ⟨L, hL⟩ : ∃ L, (if Nt.lisE T p = 0 then Nt.kids T.paths (Nt.nms p) else []) = L := ⟨_, rfl⟩
  have KL0 := fun W (hh : Below W1.heap.size W1 W) => (at_list (h1.later hh) hK p (by omega)).mono (R' := fun e w' => ∃ A c, e = .returned (.tuple #[.slice A L.length c, .int .i64 (Nt.lisE T p)]) ∧ RowW SC1 1 w' A L.length L ∧ Below W.heap.size W w') (by
    rintro e w' ⟨v, L', rfl, ho, hk, hn, hb⟩
    have e1 : L' = L := by
      rw [← hL]
      by_cases h0 : Nt.lisE T p = 0
      · rw [if_pos h0]
        exact (hk h0).one (kids_is hW _)
      · rw [if_neg h0]
        exact hn h0
    subst e1
    obtain ⟨A, c, rfl, hrw⟩ := rtw ho
    exact ⟨A, c, rfl, hrw, hb⟩)
  have KRL0 := fun W (hh : Below W1.heap.size W1 W) => (reflist_any (hr1.below hh) hW hK T.room T.vol p hp).mono (R' := fun e w' => ∃ A c, e = .returned (.tuple #[.slice A L.length c, .int .i64 (Nt.lisE T p)]) ∧ RowW SC1 1 w' A L.length L ∧ Below W.heap.size W w') (by
    rintro e w' ⟨v, rfl, ho, hb⟩
    rw [hL] at ho
    obtain ⟨A, c, rfl, hrw⟩ := rtw ho
    exact ⟨A, c, rfl, hrw, hb⟩)
  have KG0 := at_get h1 hK p (by omega)
  have KRG0 := fun W (hh : Below W1.heap.size W1 W) => refget_any (hr1.below hh) hW hK T.room T.vol p (by omega)
  have hNb0 : L.length ≤ 100000 := by
    rw [← hL]
    split
    · exact Nat.le_trans (kids13_len _ _) (Nat.le_trans hW.many hK)
    · exact Nat.zero_le _
  generalize Nt.lisE T p = le at *
  obtain ⟨N, hN⟩ : ∃ N, L.length = N := ⟨_, rfl⟩
  rw [hN] at KL0 KRL0 hNb0
  have KL := Lib.hid KL0
  have KRL := Lib.hid KRL0
  clear hL hN KL0 KRL0
  have gle : (le != le) = false := by simp
  have gN : (((N : Nat) : Int) != ((N : Nat) : Int)) = false := by simp
  obtain ⟨ca, cb, cc, cd⟩ := CT.out _ (Below.refl _ _)
  by_cases h0 : (T.find p).2 = 0
  · have hone := cnt_one13 hW h0
    have hlt : (T.find p).1 < n1 := by rw [← hr.len1]; exact hW.lt _ _ (hW.find_ok h0).2
    have hmem : T.nd (T.find p).1 ∈ T.nodes := by unfold Tr.nd; rw [List.getD_eq_getElem?_getD, List.getElem?_eq_getElem (by rw [hr.len1]; exact hlt)]; exact List.getElem_mem _
    have hdat := hr1.data _ hmem
    have hby := hX _ hmem
    have hok := hW.kinds _ hmem
    unfold infoV at KG0
    simp only [if_pos h0] at KG0 KRG0
    simp only [h0] at KG0 KRG0
    obtain ⟨ck, hck⟩ : ∃ k, cnt T.paths (T.find p).1 = k := ⟨_, rfl⟩
    rw [hck] at KG0 hone
    simp only [hck] at KRG0
    generalize T.nd (T.find p).1 = nd at *
    obtain ⟨kd, mo, u, g, ti, l, A, n, c, xs⟩ := nd
    have hn : n ≤ 4096 := hok.2.2.1
    have hxl : xs.length = n := hok.2.1
    have hby' : Byt xs := hby
    have hdat' : RB W1 B A n xs := hdat.1
    have HDT := Lib.hid hdat'
    have HBB := Lib.hid hr1.base
    have KG := Lib.hid (KG0.mono (R' := fun e w' => ∃ A7 c7, e = .returned (.tuple #[.agg #[.int .i64 kd, .int .i64 mo, .int .i64 u, .int .i64 g, .int .i64 ti, .string l, .slice A7 n c7, .int .i64 (ck : Nat)], .int .i64 0]) ∧ RBT w' A7 n xs ∧ Below W1.heap.size W1 w') (by
      rintro e w' ⟨vd, rfl, ho, hb⟩
      have ho' : w'.ownsRow W1.heap.size 5 1 vd xs.length (Lib.strCells (strOfNums xs)) := ho trivial
      obtain ⟨A7, c7, rfl⟩ := row_slice ho'
      rw [hxl] at ho'
      obtain ⟨h7, _, _⟩ := bytes15 hby' hxl ho'
      exact ⟨A7, c7, by rw [hxl], h7, hb⟩))
    have KRG := Lib.hid (fun W (hh : Below W1.heap.size W1 W) => show Calls Tryz.prog 63 #[.agg (RvC A1 n1 c1 A2 n2 c2 T.room T.vol), .string p] W fun e w' => e = .returned (.tuple #[.agg #[.int .i64 kd, .int .i64 mo, .int .i64 u, .int .i64 g, .int .i64 ti, .string l, .slice A n c], .int .i64 (ck : Nat), .int .i64 0]) ∧ Below W.heap.size W w' from KRG0 W hh)
    have KS := Lib.hid (fun A7 c7 W (h7 : RBT W A7 n xs) (hh : Below W1.heap.size W1 W) => show Calls Tryz.prog 33 #[.slice A7 n c7, .slice A n c] W fun e w' => e = .returned (.bool true) ∧ Below W.heap.size W w' from by
      have h9 := same_any A7 A n n c7 c xs xs W h7.rb ((HDT.out.below (hh.mono HBB.out)).more (Nat.le_trans HBB.out hh.size)) (by omega) (by omega)
      simpa using h9)
    have gms : True := trivial
    clear hdat hby hok h1 hr1 hW h hr hmem hlt h0 KG0 KRG0 hby' hdat' hX hck
    by_cases hk1 : kd = 1
    · subst hk1
      have gck : (((ck : Nat) : Int) != ((ck : Nat) : Int)) = false := by simp
      clear hone
      go_enter Tryz.func14, Tryz.ntmps14
      go_upto_region 9 with (first
        | (go_at_call 33; (with_reducible refine (KS.out A7 c7 _ (((((HD7.out.below hv2).below hb3).below hv3).below hb4).below hb5) acc5).mono ?_); rintro e w6 ⟨rfl, hb6⟩; have acc6 := bthen acc5 hb6; have b2b := b2a.later hb6; have j0 := (b2b).cell (j := 0) rfl; have j1 := (b2b).cell (j := 1) rfl; have j2 := (b2b).cell (j := 2) rfl; have j3 := (b2b).cell (j := 3) rfl; have j4 := (b2b).cell (j := 4) rfl; have j5 := (b2b).cell (j := 5) rfl; have j6 := (b2b).cell (j := 6) rfl; have j7 := (b2b).cell (j := 7) rfl; have b3b := b3a.later hb6; have m_0 := (b3b).cell (j := 0) rfl; have m_1 := (b3b).cell (j := 1) rfl; have m_2 := (b3b).cell (j := 2) rfl; have m_3 := (b3b).cell (j := 3) rfl; have m_4 := (b3b).cell (j := 4) rfl; have m_5 := (b3b).cell (j := 5) rfl; have m_6 := (b3b).cell (j := 6) rfl; have HL8b := Lib.hid ((HL8.out.below hb5).below hb6); have HL9b := Lib.hid (HL9.out.below hb6))
        | (go_at_call 64; (with_reducible refine (KRL.out _ acc4).mono ?_); rintro e w5 ⟨A9, c9, rfl, hl9, hb5⟩; have HL9 := Lib.hid hl9; clear hl9; have acc5 := bthen acc4 hb5; have b2a := (((b2.later hb3).later hv3).later hb4).later hb5; have i0 := (b2a).cell (j := 0) rfl; have i1 := (b2a).cell (j := 1) rfl; have i2 := (b2a).cell (j := 2) rfl; have i3 := (b2a).cell (j := 3) rfl; have i4 := (b2a).cell (j := 4) rfl; have i5 := (b2a).cell (j := 5) rfl; have i6 := (b2a).cell (j := 6) rfl; have i7 := (b2a).cell (j := 7) rfl; have b3a := (b3.later hb4).later hb5; have n_0 := (b3a).cell (j := 0) rfl; have n_1 := (b3a).cell (j := 1) rfl; have n_2 := (b3a).cell (j := 2) rfl; have n_3 := (b3a).cell (j := 3) rfl; have n_4 := (b3a).cell (j := 4) rfl; have n_5 := (b3a).cell (j := 5) rfl; have n_6 := (b3a).cell (j := 6) rfl)
        | (go_at_call 50; (with_reducible refine (KL.out _ acc3).mono ?_); rintro e w4 ⟨A8, c8, rfl, hl8, hb4⟩; have HL8 := Lib.hid hl8; clear hl8; have acc4 := bthen acc3 hb4; obtain ⟨ua, ub, uc, ud⟩ := CT.out _ acc4)
        | (go_at_call 63; (with_reducible refine (KRG.out _ acc2).mono ?_); rintro e w3 ⟨rfl, hb3⟩; have hv3 := below_new w3 (.cells #[.int .i64 1, .int .i64 mo, .int .i64 u, .int .i64 g, .int .i64 ti, .string l, .slice A n c] 114); have b3 := BX.new w3 114 #[.int .i64 1, .int .i64 mo, .int .i64 u, .int .i64 g, .int .i64 ti, .string l, .slice A n c]; obtain ⟨V3, hV3⟩ : ∃ V, w3.alloc (.cells #[.int .i64 1, .int .i64 mo, .int .i64 u, .int .i64 g, .int .i64 ti, .string l, .slice A n c] 114) = V := ⟨_, rfl⟩; rw [hV3] at hv3 b3; have acc3 := bthen (bthen acc2 hb3) hv3)
        | (go_at_call 41; (with_reducible refine (KG.out).mono ?_); rintro e w2 ⟨A7, c7, rfl, hd7, hb2⟩; have HD7 := Lib.hid hd7; clear hd7; have hv2 := below_new w2 (.cells #[.int .i64 1, .int .i64 mo, .int .i64 u, .int .i64 g, .int .i64 ti, .string l, .slice A7 n c7, .int .i64 ck] 92); have b2 := BX.new w2 92 #[.int .i64 1, .int .i64 mo, .int .i64 u, .int .i64 g, .int .i64 ti, .string l, .slice A7 n c7, .int .i64 ck]; obtain ⟨V2, hV2⟩ : ∃ V, w2.alloc (.cells #[.int .i64 1, .int .i64 mo, .int .i64 u, .int .i64 g, .int .i64 ti, .string l, .slice A7 n c7, .int .i64 ck] 92) = V := ⟨_, rfl⟩; rw [hV2] at hv2 b2; have acc2 := bthen hb2 hv2; obtain ⟨ta, tb', tc, td⟩ := CT.out _ acc2))
      go_wp2
      go_loopw [103] (fun i W => ∃ j : Nat, j ≤ N ∧ i = .int .i64 j ∧ Hid (Below w6.heap.size w6 W)) (fun i _ => N - (intOf i).toNat)
      case atStart => exact ⟨0, Nat.zero_le _, rfl, Below.refl _ _⟩
      case round =>
        obtain ⟨j, hj, rfl, HB⟩ := hrel
        by_cases hlt : j < N
        · have hlt' : (j : Int) < N := by omega
          obtain ⟨ba, oa, s, rfl, hs, hca⟩ := rtw_at HL8b.out hlt
          obtain ⟨bb, ob, s2, rfl, hs2, hcb⟩ := rtw_at HL9b.out hlt
          rw [hs] at hs2
          cases hs2
          have q0 := hca _ (HB.out.drew)
          have q1 := hcb _ (HB.out.drew)
          have gs : (s.toList != s.toList) = false := by simp
          have HBD := Lib.hid (show Below w6.heap.size w6 wr.drew from HB.out.drew)
          have hj0 : (0 : Int) ≤ j := by omega
          have hjt : ((j : Int)).toNat = j := by omega
          clear hca hcb hs
          go_upto_region 12 with (fail)
          go_region
          all_goals
            go_wp2
            go_roundw
            case rel => exact ⟨j + 1, by omega, by go_num, HBD.out⟩
            case measure => simp [intOf]; omega
        · have hlt' : ¬ (j : Int) < N := by omega
          go_wp2
          go_ret
          exact ⟨rfl, bthen HB1.out (bthen acc6 HB.out)⟩
    · have gk1 : (kd != 1) = true := by simp [hk1]
      have gkk : (kd != kd) = false := by simp
      obtain rfl : ck = 1 := hone hk1
      replace KG : Hid (Calls Tryz.prog 41 #[.pointer (some ⟨tb, 0, none⟩), .string p] W1 fun e w' => ∃ A7 c7, e = .returned (.tuple #[.agg #[.int .i64 kd, .int .i64 mo, .int .i64 u, .int .i64 g, .int .i64 ti, .string l, .slice A7 n c7, .int .i64 1], .int .i64 0]) ∧ RBT w' A7 n xs ∧ Below W1.heap.size W1 w') := KG
      replace KRG : Hid (∀ W, Below W1.heap.size W1 W → Calls Tryz.prog 63 #[.agg (RvC A1 n1 c1 A2 n2 c2 T.room T.vol), .string p] W fun e w' => e = .returned (.tuple #[.agg #[.int .i64 kd, .int .i64 mo, .int .i64 u, .int .i64 g, .int .i64 ti, .string l, .slice A n c], .int .i64 1, .int .i64 0]) ∧ Below W.heap.size W w') := KRG
      clear hone hk1
      go_enter Tryz.func14, Tryz.ntmps14
      go_upto_region 9 with (first
        | (go_at_call 33; (with_reducible refine (KS.out A7 c7 _ (((((HD7.out.below hv2).below hb3).below hv3).below hb4).below hb5) acc5).mono ?_); rintro e w6 ⟨rfl, hb6⟩; have acc6 := bthen acc5 hb6; have b2b := b2a.later hb6; have j0 := (b2b).cell (j := 0) rfl; have j1 := (b2b).cell (j := 1) rfl; have j2 := (b2b).cell (j := 2) rfl; have j3 := (b2b).cell (j := 3) rfl; have j4 := (b2b).cell (j := 4) rfl; have j5 := (b2b).cell (j := 5) rfl; have j6 := (b2b).cell (j := 6) rfl; have j7 := (b2b).cell (j := 7) rfl; have b3b := b3a.later hb6; have m_0 := (b3b).cell (j := 0) rfl; have m_1 := (b3b).cell (j := 1) rfl; have m_2 := (b3b).cell (j := 2) rfl; have m_3 := (b3b).cell (j := 3) rfl; have m_4 := (b3b).cell (j := 4) rfl; have m_5 := (b3b).cell (j := 5) rfl; have m_6 := (b3b).cell (j := 6) rfl; have HL8b := Lib.hid ((HL8.out.below hb5).below hb6); have HL9b := Lib.hid (HL9.out.below hb6))
        | (go_at_call 64; (with_reducible refine (KRL.out _ acc4).mono ?_); rintro e w5 ⟨A9, c9, rfl, hl9, hb5⟩; have HL9 := Lib.hid hl9; clear hl9; have acc5 := bthen acc4 hb5; have b2a := (((b2.later hb3).later hv3).later hb4).later hb5; have i0 := (b2a).cell (j := 0) rfl; have i1 := (b2a).cell (j := 1) rfl; have i2 := (b2a).cell (j := 2) rfl; have i3 := (b2a).cell (j := 3) rfl; have i4 := (b2a).cell (j := 4) rfl; have i5 := (b2a).cell (j := 5) rfl; have i6 := (b2a).cell (j := 6) rfl; have i7 := (b2a).cell (j := 7) rfl; have b3a := (b3.later hb4).later hb5; have n_0 := (b3a).cell (j := 0) rfl; have n_1 := (b3a).cell (j := 1) rfl; have n_2 := (b3a).cell (j := 2) rfl; have n_3 := (b3a).cell (j := 3) rfl; have n_4 := (b3a).cell (j := 4) rfl; have n_5 := (b3a).cell (j := 5) rfl; have n_6 := (b3a).cell (j := 6) rfl)
        | (go_at_call 50; (with_reducible refine (KL.out _ acc3).mono ?_); rintro e w4 ⟨A8, c8, rfl, hl8, hb4⟩; have HL8 := Lib.hid hl8; clear hl8; have acc4 := bthen acc3 hb4; obtain ⟨ua, ub, uc, ud⟩ := CT.out _ acc4)
        | (go_at_call 63; (with_reducible refine (KRG.out _ acc2).mono ?_); rintro e w3 ⟨rfl, hb3⟩; have hv3 := below_new w3 (.cells #[.int .i64 kd, .int .i64 mo, .int .i64 u, .int .i64 g, .int .i64 ti, .string l, .slice A n c] 114); have b3 := BX.new w3 114 #[.int .i64 kd, .int .i64 mo, .int .i64 u, .int .i64 g, .int .i64 ti, .string l, .slice A n c]; obtain ⟨V3, hV3⟩ : ∃ V, w3.alloc (.cells #[.int .i64 kd, .int .i64 mo, .int .i64 u, .int .i64 g, .int .i64 ti, .string l, .slice A n c] 114) = V := ⟨_, rfl⟩; rw [hV3] at hv3 b3; have acc3 := bthen (bthen acc2 hb3) hv3)
        | (go_at_call 41; (with_reducible refine (KG.out).mono ?_); rintro e w2 ⟨A7, c7, rfl, hd7, hb2⟩; have HD7 := Lib.hid hd7; clear hd7; have hv2 := below_new w2 (.cells #[.int .i64 kd, .int .i64 mo, .int .i64 u, .int .i64 g, .int .i64 ti, .string l, .slice A7 n c7, .int .i64 1] 92); have b2 := BX.new w2 92 #[.int .i64 kd, .int .i64 mo, .int .i64 u, .int .i64 g, .int .i64 ti, .string l, .slice A7 n c7, .int .i64 1]; obtain ⟨V2, hV2⟩ : ∃ V, w2.alloc (.cells #[.int .i64 kd, .int .i64 mo, .int .i64 u, .int .i64 g, .int .i64 ti, .string l, .slice A7 n c7, .int .i64 1] 92) = V := ⟨_, rfl⟩; rw [hV2] at hv2 b2; have acc2 := bthen hb2 hv2; obtain ⟨ta, tb', tc, td⟩ := CT.out _ acc2))
      go_wp2
      go_loopw [103] (fun i W => ∃ j : Nat, j ≤ N ∧ i = .int .i64 j ∧ Hid (Below w6.heap.size w6 W)) (fun i _ => N - (intOf i).toNat)
      case atStart => exact ⟨0, Nat.zero_le _, rfl, Below.refl _ _⟩
      case round =>
        obtain ⟨j, hj, rfl, HB⟩ := hrel
        by_cases hlt : j < N
        · have hlt' : (j : Int) < N := by omega
          obtain ⟨ba, oa, s, rfl, hs, hca⟩ := rtw_at HL8b.out hlt
          obtain ⟨bb, ob, s2, rfl, hs2, hcb⟩ := rtw_at HL9b.out hlt
          rw [hs] at hs2
          cases hs2
          have q0 := hca _ (HB.out.drew)
          have q1 := hcb _ (HB.out.drew)
          have gs : (s.toList != s.toList) = false := by simp
          have HBD := Lib.hid (show Below w6.heap.size w6 wr.drew from HB.out.drew)
          have hj0 : (0 : Int) ≤ j := by omega
          have hjt : ((j : Int)).toNat = j := by omega
          clear hca hcb hs
          go_upto_region 12 with (fail)
          go_region
          all_goals
            go_wp2
            go_roundw
            case rel => exact ⟨j + 1, by omega, by go_num, HBD.out⟩
            case measure => simp [intOf]; omega
        · have hlt' : ¬ (j : Int) < N := by omega
          go_wp2
          go_ret
          exact ⟨rfl, bthen HB1.out (bthen acc6 HB.out)⟩
  · unfold infoV at KG0
    simp only [if_neg h0] at KG0 KRG0
    obtain ⟨kd, hkd⟩ : ∃ o : Int, o = 0 := ⟨_, rfl⟩
    obtain ⟨mo, hmo⟩ : ∃ o : Int, o = 0 := ⟨_, rfl⟩
    obtain ⟨ck, hck⟩ : ∃ o : Int, o = 0 := ⟨_, rfl⟩
    obtain ⟨l, hll⟩ : ∃ s : ByteArray, s = ⟨#[]⟩ := ⟨_, rfl⟩
    obtain ⟨n, hn0⟩ : ∃ n : Nat, n = 0 := ⟨_, rfl⟩
    obtain ⟨xs, hxs⟩ : ∃ xs : List Int, xs = [] := ⟨_, rfl⟩
    have KG := Lib.hid (KG0.mono (R' := fun e w' => ∃ (A7 : Option Addr) (c7 : Nat), e = .returned (.tuple #[.agg #[.int .i64 kd, .int .i64 mo, .int .i64 mo, .int .i64 mo, .int .i64 mo, .string l, .slice A7 n c7, .int .i64 ck], .int .i64 (T.find p).2]) ∧ RBT w' A7 n xs ∧ Below W1.heap.size W1 w') (by
      rintro e w' ⟨vd, rfl, _, hb⟩
      exact ⟨none, 0, by rw [hkd, hmo, hck, hll, hn0], by rw [hn0, hxs]; exact ⟨RB.nil, fun h => absurd h (Nat.lt_irrefl 0)⟩, hb⟩))
    obtain ⟨A, hA⟩ : ∃ A : Option Addr, A = none := ⟨_, rfl⟩
    obtain ⟨c, hc0⟩ : ∃ n : Nat, n = 0 := ⟨_, rfl⟩
    have KRG := Lib.hid (fun W (hh : Below W1.heap.size W1 W) => show Calls Tryz.prog 63 #[.agg (RvC A1 n1 c1 A2 n2 c2 T.room T.vol), .string p] W fun e w' => e = .returned (.tuple #[.agg #[.int .i64 kd, .int .i64 mo, .int .i64 mo, .int .i64 mo, .int .i64 mo, .string l, .slice A n c], .int .i64 ck, .int .i64 (T.find p).2]) ∧ Below W.heap.size W w' from by rw [hkd, hmo, hck, hll, hn0, hA, hc0]; exact KRG0 W hh)
    have KS := Lib.hid (fun A7 c7 W (h7 : RBT W A7 n xs) (hh : Below W1.heap.size W1 W) => show Calls Tryz.prog 33 #[.slice A7 n c7, .slice A n c] W fun e w' => e = .returned (.bool true) ∧ Below W.heap.size W w' from by
      have h9 := same_any A7 A n n c7 c xs xs W h7.rb (by rw [hA, hn0, hxs]; exact RB.nil) (by omega) (by omega)
      simpa using h9)
    have gz : ((T.find p).2 != 0) = true := by simp [h0]
    have gmin : min ck 1 = ck := by omega
    have gkk : (kd != kd) = false := by simp
    have gck : (ck != ck) = false := by simp
    generalize (T.find p).2 = z at *
    clear h1 hr1 hW h hr h0 KG0 KRG0 hX hkd hmo hck hll hn0 hxs hA hc0
    go_enter Tryz.func14, Tryz.ntmps14
    go_upto_region 9 with (first
      | (go_at_call 33; (with_reducible refine (KS.out A7 c7 _ (((((HD7.out.below hv2).below hb3).below hv3).below hb4).below hb5) acc5).mono ?_); rintro e w6 ⟨rfl, hb6⟩; have acc6 := bthen acc5 hb6; have b2b := b2a.later hb6; have j0 := (b2b).cell (j := 0) rfl; have j1 := (b2b).cell (j := 1) rfl; have j2 := (b2b).cell (j := 2) rfl; have j3 := (b2b).cell (j := 3) rfl; have j4 := (b2b).cell (j := 4) rfl; have j5 := (b2b).cell (j := 5) rfl; have j6 := (b2b).cell (j := 6) rfl; have j7 := (b2b).cell (j := 7) rfl; have b3b := b3a.later hb6; have m_0 := (b3b).cell (j := 0) rfl; have m_1 := (b3b).cell (j := 1) rfl; have m_2 := (b3b).cell (j := 2) rfl; have m_3 := (b3b).cell (j := 3) rfl; have m_4 := (b3b).cell (j := 4) rfl; have m_5 := (b3b).cell (j := 5) rfl; have m_6 := (b3b).cell (j := 6) rfl; have HL8b := Lib.hid ((HL8.out.below hb5).below hb6); have HL9b := Lib.hid (HL9.out.below hb6))
      | (go_at_call 64; (with_reducible refine (KRL.out _ acc4).mono ?_); rintro e w5 ⟨A9, c9, rfl, hl9, hb5⟩; have HL9 := Lib.hid hl9; clear hl9; have acc5 := bthen acc4 hb5; have b2a := (((b2.later hb3).later hv3).later hb4).later hb5; have i0 := (b2a).cell (j := 0) rfl; have i1 := (b2a).cell (j := 1) rfl; have i2 := (b2a).cell (j := 2) rfl; have i3 := (b2a).cell (j := 3) rfl; have i4 := (b2a).cell (j := 4) rfl; have i5 := (b2a).cell (j := 5) rfl; have i6 := (b2a).cell (j := 6) rfl; have i7 := (b2a).cell (j := 7) rfl; have b3a := (b3.later hb4).later hb5; have n_0 := (b3a).cell (j := 0) rfl; have n_1 := (b3a).cell (j := 1) rfl; have n_2 := (b3a).cell (j := 2) rfl; have n_3 := (b3a).cell (j := 3) rfl; have n_4 := (b3a).cell (j := 4) rfl; have n_5 := (b3a).cell (j := 5) rfl; have n_6 := (b3a).cell (j := 6) rfl)
      | (go_at_call 50; (with_reducible refine (KL.out _ acc3).mono ?_); rintro e w4 ⟨A8, c8, rfl, hl8, hb4⟩; have HL8 := Lib.hid hl8; clear hl8; have acc4 := bthen acc3 hb4; obtain ⟨ua, ub, uc, ud⟩ := CT.out _ acc4)
      | (go_at_call 63; (with_reducible refine (KRG.out _ acc2).mono ?_); rintro e w3 ⟨rfl, hb3⟩; have hv3 := below_new w3 (.cells #[.int .i64 kd, .int .i64 mo, .int .i64 mo, .int .i64 mo, .int .i64 mo, .string l, .slice A n c] 114); have b3 := BX.new w3 114 #[.int .i64 kd, .int .i64 mo, .int .i64 mo, .int .i64 mo, .int .i64 mo, .string l, .slice A n c]; obtain ⟨V3, hV3⟩ : ∃ V, w3.alloc (.cells #[.int .i64 kd, .int .i64 mo, .int .i64 mo, .int .i64 mo, .int .i64 mo, .string l, .slice A n c] 114) = V := ⟨_, rfl⟩; rw [hV3] at hv3 b3; have acc3 := bthen (bthen acc2 hb3) hv3)
      | (go_at_call 41; (with_reducible refine (KG.out).mono ?_); rintro e w2 ⟨A7, c7, rfl, hd7, hb2⟩; have HD7 := Lib.hid hd7; clear hd7; have hv2 := below_new w2 (.cells #[.int .i64 kd, .int .i64 mo, .int .i64 mo, .int .i64 mo, .int .i64 mo, .string l, .slice A7 n c7, .int .i64 ck] 92); have b2 := BX.new w2 92 #[.int .i64 kd, .int .i64 mo, .int .i64 mo, .int .i64 mo, .int .i64 mo, .string l, .slice A7 n c7, .int .i64 ck]; obtain ⟨V2, hV2⟩ : ∃ V, w2.alloc (.cells #[.int .i64 kd, .int .i64 mo, .int .i64 mo, .int .i64 mo, .int .i64 mo, .string l, .slice A7 n c7, .int .i64 ck] 92) = V := ⟨_, rfl⟩; rw [hV2] at hv2 b2; have acc2 := bthen hb2 hv2; obtain ⟨ta, tb', tc, td⟩ := CT.out _ acc2))
    go_wp2
    go_loopw [103] (fun i W => ∃ j : Nat, j ≤ N ∧ i = .int .i64 j ∧ Hid (Below w6.heap.size w6 W)) (fun i _ => N - (intOf i).toNat)
    case atStart => exact ⟨0, Nat.zero_le _, rfl, Below.refl _ _⟩
    case round =>
      obtain ⟨j, hj, rfl, HB⟩ := hrel
      by_cases hlt : j < N
      · have hlt' : (j : Int) < N := by omega
        obtain ⟨ba, oa, s, rfl, hs, hca⟩ := rtw_at HL8b.out hlt
        obtain ⟨bb, ob, s2, rfl, hs2, hcb⟩ := rtw_at HL9b.out hlt
        rw [hs] at hs2
        cases hs2
        have q0 := hca _ (HB.out.drew)
        have q1 := hcb _ (HB.out.drew)
        have gs : (s.toList != s.toList) = false := by simp
        have HBD := Lib.hid (show Below w6.heap.size w6 wr.drew from HB.out.drew)
        have hj0 : (0 : Int) ≤ j := by omega
        have hjt : ((j : Int)).toNat = j := by omega
        clear hca hcb hs
        go_upto_region 12 with (fail)
        go_region
        all_goals
          go_wp2
          go_roundw
          case rel => exact ⟨j + 1, by omega, by go_num, HBD.out⟩
          case measure => simp [intOf]; omega
      · have hlt' : ¬ (j : Int) < N := by omega
        go_wp2
        go_ret
        exact ⟨rfl, bthen HB1.out (bthen acc6 HB.out)⟩
end Go.Proofs.YthgbncpiehcghaaGreatDoor
