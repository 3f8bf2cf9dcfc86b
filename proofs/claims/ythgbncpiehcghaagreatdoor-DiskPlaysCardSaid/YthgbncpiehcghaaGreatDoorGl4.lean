/- WALKS OF THE LAW OF LAYER 14: like (a tree, without the places of its bytes, is the document's at all its paths). gen_l14d.py -/
import Derived.Test.YthgbncpiehcghaaGreatDoorR14a
import Derived.Test.YthgbncpiehcghaaGreatDoorR13u
import Derived.Test.YthgbncpiehcghaaGreatDoorR13v
import Derived.Test.YthgbncpiehcghaaGreatDoorGn4
import Derived.Test.YthgbncpiehcghaaGreatDoorG13v
import Derived.Test.YthgbncpiehcghaaGreatDoorGt2
import Derived.Test.YthgbncpiehcghaaGreatDoorGd4
import Derived.Test.YthgbncpiehcghaaGreatDoorG14k
import Derived.Test.YthgbncpiehcghaaGreatDoorM15d
import Derived.Deep.RegionHeld3
namespace Go.Proofs.YthgbncpiehcghaaGreatDoor
set_option linter.unusedVariables false
open Go Go.RowKit Go.Maps
set_option maxRecDepth 100000
set_option maxHeartbeats 8000000
open Nt (Tr Nd WF Ps Path at_ cnt used txt)
theorem lsE_er (T : Tr) (p : ByteArray) : lsE T.er p = Nt.lisE T p := by
  unfold lsE Nt.lisE
  rw [Nt.find_er, Nt.nd_er]
  rfl
theorem kids_is14 {T : Tr} {K : Nat} (hW : WF T K) (q : Path) : IsKids T q (Nt.kids T.paths q) := ⟨Nt.kids_rise hW.nodup q, fun s => Nt.mem_kids_at hW.nodup⟩
/-- What both trees answer of one path. -/
theorem got14 {w0 w : World} {B tb K : Nat} {A1 A2 : Option Addr} {n1 c1 n2 c2 : Nat} {T : Tr} (h : At w0 w tb T.er K) (hr : RTr w B A1 n1 c1 A2 n2 c2 T) (hW : WF T K) (hK : K ≤ 100000) (hX : Nt.Bok T) (p : ByteArray) (hp : p.size ≤ 100000) :
    ∃ (kd mo u g ti : Int) (l : ByteArray) (A : Option Addr) (n c : Nat) (xs : List Int) (ck z : Int),
      (∀ W, Below w.heap.size w W → Calls Tryz.prog 63 #[.agg (RvC A1 n1 c1 A2 n2 c2 T.room T.vol), .string p] W fun e w' => e = .returned (.tuple #[.agg #[.int .i64 kd, .int .i64 mo, .int .i64 u, .int .i64 g, .int .i64 ti, .string l, .slice A n c], .int .i64 ck, .int .i64 z]) ∧ Below W.heap.size W w') ∧
      (∀ W, Below w.heap.size w W → Calls Tryz.prog 41 #[.pointer (some ⟨tb, 0, none⟩), .string p] W fun e w' => ∃ A7 c7 k7, e = .returned (.tuple #[.agg #[.int .i64 kd, .int .i64 mo, .int .i64 u, .int .i64 g, .int .i64 ti, .string l, .slice A7 n c7, .int .i64 k7], .int .i64 z]) ∧ RBT w' A7 n xs ∧ k7 = ck ∧ Below W.heap.size W w') ∧
      (∀ A7 c7 W, RBT W A7 n xs → Below w.heap.size w W → Calls Tryz.prog 33 #[.slice A7 n c7, .slice A n c] W fun e w' => e = .returned (.bool true) ∧ Below W.heap.size W w') := by
  have KG0 := fun W (hh : Below w.heap.size w W) => at_get (h.later hh) hK p (by omega)
  have KRG0 := fun W (hh : Below w.heap.size w W) => refget_any (hr.below hh) hW hK T.room T.vol p (by omega)
  by_cases h0 : (T.find p).2 = 0
  · have hlt : (T.find p).1 < n1 := by rw [← hr.len1]; exact hW.lt _ _ (hW.find_ok h0).2
    have hmem : T.nd (T.find p).1 ∈ T.nodes := by unfold Tr.nd; rw [List.getD_eq_getElem?_getD, List.getElem?_eq_getElem (by rw [hr.len1]; exact hlt)]; exact List.getElem_mem _
    have hdat := hr.data _ hmem
    have hby := hX _ hmem
    have hok := hW.kinds _ hmem
    unfold infoV at KG0
    simp only [Nt.find_er, Nt.nd_er, if_pos h0] at KG0
    simp only [if_pos h0] at KRG0
    simp only [h0] at KG0 KRG0
    obtain ⟨ck, hck⟩ : ∃ k, cnt T.paths (T.find p).1 = k := ⟨_, rfl⟩
    have hck2 : cnt T.er.paths (T.find p).1 = ck := hck
    simp only [hck2] at KG0
    simp only [hck] at KRG0
    generalize T.nd (T.find p).1 = nd at *
    obtain ⟨kd, mo, u, g, ti, l, A, n, c, xs⟩ := nd
    have hn : n ≤ 4096 := hok.2.2.1
    have hxl : xs.length = n := hok.2.1
    refine ⟨kd, mo, u, g, ti, l, A, n, c, xs, (ck : Nat), 0, fun W hh => KRG0 W hh, fun W hh => (KG0 W hh).mono ?_, fun A7 c7 W h7 hh => ?_⟩
    · rintro e w' ⟨vd, rfl, ho, hb⟩
      have ho' : w'.ownsRow W.heap.size 5 1 vd xs.length (Lib.strCells (strOfNums xs)) := ho trivial
      obtain ⟨A7, c7, rfl⟩ := row_slice ho'
      rw [hxl] at ho'
      obtain ⟨h7, _, _⟩ := bytes15 hby hxl ho'
      exact ⟨A7, c7, (ck : Nat), by rw [hxl]; rfl, h7, rfl, hb⟩
    · have h9 := same_any A7 A n n c7 c xs xs W h7.rb ((hdat.1.below (hh.mono hr.base)).more (Nat.le_trans hr.base hh.size)) (by omega) (by omega)
      simpa using h9
  · unfold infoV at KG0
    simp only [Nt.find_er, if_neg h0] at KG0
    simp only [if_neg h0] at KRG0
    refine ⟨0, 0, 0, 0, 0, ⟨#[]⟩, none, 0, 0, [], 0, (T.find p).2, fun W hh => KRG0 W hh, fun W hh => (KG0 W hh).mono ?_, fun A7 c7 W h7 hh => ?_⟩
    · rintro e w' ⟨vd, rfl, _, hb⟩
      exact ⟨none, 0, 0, rfl, ⟨RB.nil, fun h => absurd h (Nat.lt_irrefl 0)⟩, rfl, hb⟩
    · have h9 := same_any A7 none 0 0 c7 0 [] [] W h7.rb RB.nil (by omega) (by omega)
      simpa using h9
theorem like14_any {w0 w : World} {B tb K : Nat} {A1 A2 : Option Addr} {n1 c1 n2 c2 : Nat} {T : Tr} (h : At w0 w tb T.er K) (hr : RTr w B A1 n1 c1 A2 n2 c2 T) (hW : WF T K) (hK : K ≤ 100000) (hX : Nt.Bok T) :
    Calls Tryz.prog 25 #[.pointer (some ⟨tb, 0, none⟩), .agg (RvC A1 n1 c1 A2 n2 c2 T.room T.vol)] w fun e w' => e = .returned (.bool true) ∧ Below w.heap.size w w' := by
  obtain ⟨W1, hW1, hb1, hs1, x1⟩ := frame1 w (RvC A1 n1 c1 A2 n2 c2 T.room T.vol) 29
  have h1 := h.later hb1
  have hr1 := hr.below hb1
  have KU := at_used h1
  rw [Nt.usedN_er, Nt.usedB_er] at KU
  have KRU := Lib.hid (fun W (hh : Below W1.heap.size W1 W) => refused_any (hr1.below hh) hW hK T.room T.vol)
  obtain ⟨uN, huN⟩ : ∃ u : Int, ((T.usedN : Nat) : Int) = u := ⟨_, rfl⟩
  obtain ⟨uB, huB⟩ : ∃ u : Int, ((T.usedB : Nat) : Int) = u := ⟨_, rfl⟩
  rw [huN, huB] at KU
  simp only [huN, huB] at KRU
  have KU := Lib.hid KU
  have H1 := Lib.hid h1
  have HR1 := Lib.hid hr1
  have HW := Lib.hid hW
  have HX := Lib.hid hX
  have HB1 := Lib.hid hb1
  have CT := Lib.hid (fun W (hh : Below W1.heap.size W1 W) => show W.cell? ⟨w.heap.size, 0, none⟩ = some (.slice A1 n1 c1) ∧ W.cell? ⟨w.heap.size, 1, none⟩ = some (.slice A2 n2 c2) ∧ W.cell? ⟨w.heap.size, 2, none⟩ = some (.int .i64 T.room) ∧ W.cell? ⟨w.heap.size, 3, none⟩ = some (.int .i64 T.vol) from ⟨(x1.later hh).cell rfl, (x1.later hh).cell rfl, (x1.later hh).cell rfl, (x1.later hh).cell rfl⟩)
  have gN : (uN != uN) = false := by simp
  have gB : (uB != uB) = false := by simp
  have hn2 : n2 ≤ 100000 := by rw [← hr.len2]; exact Nat.le_trans hW.many hK
  have hc2 := hr.cap2
  clear h hr h1 hr1 hW hX hb1 x1 hs1 huN huB
  go_enter Tryz.func25, Tryz.ntmps25
  go_wp2_with (first
    | (go_at_call 16; (with_reducible refine (KRU.out _ hb2).mono ?_); rintro e w3 ⟨rfl, hb3⟩; have HB3 := Lib.hid (bthen hb2 hb3); obtain ⟨za, zb, zc, zd⟩ := CT.out _ HB3.out)
    | (go_at_call 15; (with_reducible refine (KU.out).mono ?_); rintro e w2 ⟨rfl, hb2⟩; obtain ⟨ya, yb, yc, yd⟩ := CT.out _ hb2))
  go_loopw [41] (fun i W => ∃ j : Nat, j ≤ n2 ∧ i = .int .i64 j ∧ Hid (Below W1.heap.size W1 W)) (fun i _ => n2 - (intOf i).toNat)
  case atStart => exact ⟨0, Nat.zero_le _, rfl, HB3.out⟩
  case round =>
    revert hrel
    generalize wr = V
    intro hrel
    obtain ⟨i, hi, rfl, HB⟩ := hrel
    by_cases hlt : i < n2
    · have hlt' : (i : Int) < n2 := by omega
      obtain ⟨gb, go, x, rfl, hx, hcx⟩ := (HR1.out.below HB.out).paths.at_ hlt
      obtain ⟨Y, hY, hYt⟩ := tps_at hx
      obtain ⟨p, pm⟩ := x
      replace hYt : p = txt Y := hYt
      have hps : p.size ≤ 100000 := by rw [hYt]; have := HW.out.long Y pm (List.mem_of_getElem? hY); omega
      have e0 : V.cell? ⟨gb, go + i * 2, none⟩ = some (.string p) := hcx 0 _ rfl
      have e1 : V.cell? ⟨gb, go + i * 2 + 1, none⟩ = some (.int .i64 (pm : Nat)) := hcx 1 _ rfl
      have hbx := BX.new V 45 #[.string p, .int .i64 (pm : Nat)]
      have hbw := below_new V (.cells #[.string p, .int .i64 (pm : Nat)] 45)
      obtain ⟨V1, hV1⟩ : ∃ X, V.alloc (.cells #[.string p, .int .i64 (pm : Nat)] 45) = X := ⟨_, rfl⟩
      rw [hV1] at hbx hbw
      have HVV := Lib.hid (bthen HB.out hbw)
      have AF := Lib.hid (fun W (hh : Below V1.heap.size V1 W) => show W.cell? ⟨w.heap.size, 0, none⟩ = some (.slice A1 n1 c1) ∧ W.cell? ⟨w.heap.size, 1, none⟩ = some (.slice (some ⟨gb, go, none⟩) n2 c2) ∧ W.cell? ⟨w.heap.size, 2, none⟩ = some (.int .i64 T.room) ∧ W.cell? ⟨w.heap.size, 3, none⟩ = some (.int .i64 T.vol) ∧ W.cell? ⟨V.heap.size, 0, none⟩ = some (.string p) from
        ⟨(CT.out W (bthen HVV.out hh)).1, (CT.out W (bthen HVV.out hh)).2.1, (CT.out W (bthen HVV.out hh)).2.2.1, (CT.out W (bthen HVV.out hh)).2.2.2, (hbx.later hh).cell rfl⟩)
      obtain ⟨sa', sb', sc', sd', se⟩ := AF.out _ (Below.refl _ V1)
      obtain ⟨N, hN⟩ : ∃ N, (if Nt.lisE T p = 0 then Nt.kids T.paths (Nt.nms p) else []).length = N := ⟨_, rfl⟩
      have KL := Lib.hid (fun W (hh : Below W1.heap.size W1 W) => (at_list (H1.out.later hh) hK p (by omega)).mono (R' := fun e w' => ∃ A c, e = .returned (.tuple #[.slice A N c, .int .i64 (Nt.lisE T p)]) ∧ Below W.heap.size W w') (by
        rintro e w' ⟨v, L', rfl, ho, hk, hn, hb⟩
        rw [lsE_er] at hk hn ⊢
        have e1 : L'.length = N := by
          rw [← hN]
          by_cases h0 : Nt.lisE T p = 0
          · rw [if_pos h0]
            exact congrArg List.length ((hk h0).one (kids_is14 HW.out _))
          · rw [if_neg h0, hn h0]
        obtain ⟨A, c, rfl, _, _, _⟩ := ho.rt
        exact ⟨A, c, by rw [e1], hb⟩))
      have KRL := Lib.hid (fun W (hh : Below W1.heap.size W1 W) => (reflist_any (HR1.out.below hh) HW.out hK T.room T.vol p hps).mono (R' := fun e w' => ∃ A c, e = .returned (.tuple #[.slice A N c, .int .i64 (Nt.lisE T p)]) ∧ Below W.heap.size W w') (by
        rintro e w' ⟨v, rfl, ho, hb⟩
        obtain ⟨A, c, rfl, _, _, _⟩ := ho.rt
        exact ⟨A, c, by rw [hN], hb⟩))
      obtain ⟨kd, mo, u, g, ti, l, A, n, c, xs, ck, z, kg1, kg2, kg3⟩ := got14 H1.out HR1.out HW.out hK HX.out p hps
      have KRG := Lib.hid kg1
      have KG := Lib.hid kg2
      have KS := Lib.hid kg3
      generalize Nt.lisE T p = le at *
      have gz : (z != z) = false := by simp
      have gL : (((N : Nat) : Int) != ((N : Nat) : Int)) = false := by simp
      clear hx hcx hY hYt hbx hbw hN kg1 kg2 kg3
      by_cases hz : z = 0
      · subst hz
        by_cases hk1 : kd = 1
        · subst hk1
          have gck : (ck != ck) = false := by simp
          go_wp2_with (first
            | (go_at_call 33; (with_reducible refine (KS.out A7 c7 _ (((HD7.out.below hv3).below hb4).below hb5) (bthen HVV.out acc5)).mono ?_); rintro e w6 ⟨rfl, hb6⟩; have acc6 := bthen acc5 hb6; have i6 := (b3a).later hb6; have jj0 := (i6).cell (j := 0) rfl; have jj1 := (i6).cell (j := 1) rfl; have jj2 := (i6).cell (j := 2) rfl; have jj3 := (i6).cell (j := 3) rfl; have jj4 := (i6).cell (j := 4) rfl; have jj5 := (i6).cell (j := 5) rfl; have jj6 := (i6).cell (j := 6) rfl; have jj7 := (i6).cell (j := 7) rfl; have n6 := (b2b).later hb6; have mm0 := (n6).cell (j := 0) rfl; have mm1 := (n6).cell (j := 1) rfl; have mm2 := (n6).cell (j := 2) rfl; have mm3 := (n6).cell (j := 3) rfl; have mm4 := (n6).cell (j := 4) rfl; have mm5 := (n6).cell (j := 5) rfl; have mm6 := (n6).cell (j := 6) rfl)
            | (go_at_call 64; (with_reducible refine (KRL.out _ (bthen HVV.out acc4)).mono ?_); rintro e w5 ⟨A9, c9, rfl, hb5⟩; have acc5 := bthen acc4 hb5; have b3a := (b3.later hb4).later hb5; have ii0 := (b3a).cell (j := 0) rfl; have ii1 := (b3a).cell (j := 1) rfl; have ii2 := (b3a).cell (j := 2) rfl; have ii3 := (b3a).cell (j := 3) rfl; have ii4 := (b3a).cell (j := 4) rfl; have ii5 := (b3a).cell (j := 5) rfl; have ii6 := (b3a).cell (j := 6) rfl; have ii7 := (b3a).cell (j := 7) rfl; have b2b := ((b2a.later hv3).later hb4).later hb5; have nn0 := (b2b).cell (j := 0) rfl; have nn1 := (b2b).cell (j := 1) rfl; have nn2 := (b2b).cell (j := 2) rfl; have nn3 := (b2b).cell (j := 3) rfl; have nn4 := (b2b).cell (j := 4) rfl; have nn5 := (b2b).cell (j := 5) rfl; have nn6 := (b2b).cell (j := 6) rfl)
            | (go_at_call 50; (with_reducible refine (KL.out _ (bthen HVV.out acc3)).mono ?_); rintro e w4 ⟨A8, c8, rfl, hb4⟩; have acc4 := bthen acc3 hb4; obtain ⟨wa, wb, wc', wd, we⟩ := AF.out _ acc4)
            | (go_at_call 41; (with_reducible refine (KG.out _ (bthen HVV.out acc2)).mono ?_); rintro e w3 ⟨A7, c7, k7, rfl, hd7, hk7, hb3⟩; obtain rfl := hk7; have HD7 := Lib.hid hd7; clear hd7; have hv3 := below_new w3 (.cells #[.int .i64 1, .int .i64 mo, .int .i64 u, .int .i64 g, .int .i64 ti, .string l, .slice A7 n c7, .int .i64 k7] 92); have b3 := BX.new w3 92 #[.int .i64 1, .int .i64 mo, .int .i64 u, .int .i64 g, .int .i64 ti, .string l, .slice A7 n c7, .int .i64 k7]; have b2a := b2.later hb3; obtain ⟨V3, hV3⟩ : ∃ V, w3.alloc (.cells #[.int .i64 1, .int .i64 mo, .int .i64 u, .int .i64 g, .int .i64 ti, .string l, .slice A7 n c7, .int .i64 k7] 92) = V := ⟨_, rfl⟩; rw [hV3] at hv3 b3; have acc3 := bthen (bthen acc2 hb3) hv3; obtain ⟨va, vb, vc, vd, ve⟩ := AF.out _ acc3)
            | (go_at_call 63; (with_reducible refine (KRG.out _ HVV.out).mono ?_); rintro e w2 ⟨rfl, hb2⟩; have hv2 := below_new w2 (.cells #[.int .i64 1, .int .i64 mo, .int .i64 u, .int .i64 g, .int .i64 ti, .string l, .slice A n c] 114); have b2 := BX.new w2 114 #[.int .i64 1, .int .i64 mo, .int .i64 u, .int .i64 g, .int .i64 ti, .string l, .slice A n c]; obtain ⟨V2, hV2⟩ : ∃ V, w2.alloc (.cells #[.int .i64 1, .int .i64 mo, .int .i64 u, .int .i64 g, .int .i64 ti, .string l, .slice A n c] 114) = V := ⟨_, rfl⟩; rw [hV2] at hv2 b2; have acc2 := bthen hb2 hv2; obtain ⟨ta, tb', tc, td, te⟩ := AF.out _ acc2))
          go_roundw
          case rel => exact ⟨i + 1, by omega, by go_num, bthen HVV.out acc6⟩
          case measure => simp [intOf]; omega

        · have gk1 : (kd == 1) = false := by simp [hk1]
          go_wp2_with (first
            | (go_at_call 33; (with_reducible refine (KS.out A7 c7 _ (((HD7.out.below hv3).below hb4).below hb5) (bthen HVV.out acc5)).mono ?_); rintro e w6 ⟨rfl, hb6⟩; have acc6 := bthen acc5 hb6; have i6 := (b3a).later hb6; have jj0 := (i6).cell (j := 0) rfl; have jj1 := (i6).cell (j := 1) rfl; have jj2 := (i6).cell (j := 2) rfl; have jj3 := (i6).cell (j := 3) rfl; have jj4 := (i6).cell (j := 4) rfl; have jj5 := (i6).cell (j := 5) rfl; have jj6 := (i6).cell (j := 6) rfl; have jj7 := (i6).cell (j := 7) rfl; have n6 := (b2b).later hb6; have mm0 := (n6).cell (j := 0) rfl; have mm1 := (n6).cell (j := 1) rfl; have mm2 := (n6).cell (j := 2) rfl; have mm3 := (n6).cell (j := 3) rfl; have mm4 := (n6).cell (j := 4) rfl; have mm5 := (n6).cell (j := 5) rfl; have mm6 := (n6).cell (j := 6) rfl)
            | (go_at_call 64; (with_reducible refine (KRL.out _ (bthen HVV.out acc4)).mono ?_); rintro e w5 ⟨A9, c9, rfl, hb5⟩; have acc5 := bthen acc4 hb5; have b3a := (b3.later hb4).later hb5; have ii0 := (b3a).cell (j := 0) rfl; have ii1 := (b3a).cell (j := 1) rfl; have ii2 := (b3a).cell (j := 2) rfl; have ii3 := (b3a).cell (j := 3) rfl; have ii4 := (b3a).cell (j := 4) rfl; have ii5 := (b3a).cell (j := 5) rfl; have ii6 := (b3a).cell (j := 6) rfl; have ii7 := (b3a).cell (j := 7) rfl; have b2b := ((b2a.later hv3).later hb4).later hb5; have nn0 := (b2b).cell (j := 0) rfl; have nn1 := (b2b).cell (j := 1) rfl; have nn2 := (b2b).cell (j := 2) rfl; have nn3 := (b2b).cell (j := 3) rfl; have nn4 := (b2b).cell (j := 4) rfl; have nn5 := (b2b).cell (j := 5) rfl; have nn6 := (b2b).cell (j := 6) rfl)
            | (go_at_call 50; (with_reducible refine (KL.out _ (bthen HVV.out acc3)).mono ?_); rintro e w4 ⟨A8, c8, rfl, hb4⟩; have acc4 := bthen acc3 hb4; obtain ⟨wa, wb, wc', wd, we⟩ := AF.out _ acc4)
            | (go_at_call 41; (with_reducible refine (KG.out _ (bthen HVV.out acc2)).mono ?_); rintro e w3 ⟨A7, c7, k7, rfl, hd7, hk7, hb3⟩; obtain rfl := hk7; have HD7 := Lib.hid hd7; clear hd7; have hv3 := below_new w3 (.cells #[.int .i64 kd, .int .i64 mo, .int .i64 u, .int .i64 g, .int .i64 ti, .string l, .slice A7 n c7, .int .i64 k7] 92); have b3 := BX.new w3 92 #[.int .i64 kd, .int .i64 mo, .int .i64 u, .int .i64 g, .int .i64 ti, .string l, .slice A7 n c7, .int .i64 k7]; have b2a := b2.later hb3; obtain ⟨V3, hV3⟩ : ∃ V, w3.alloc (.cells #[.int .i64 kd, .int .i64 mo, .int .i64 u, .int .i64 g, .int .i64 ti, .string l, .slice A7 n c7, .int .i64 k7] 92) = V := ⟨_, rfl⟩; rw [hV3] at hv3 b3; have acc3 := bthen (bthen acc2 hb3) hv3; obtain ⟨va, vb, vc, vd, ve⟩ := AF.out _ acc3)
            | (go_at_call 63; (with_reducible refine (KRG.out _ HVV.out).mono ?_); rintro e w2 ⟨rfl, hb2⟩; have hv2 := below_new w2 (.cells #[.int .i64 kd, .int .i64 mo, .int .i64 u, .int .i64 g, .int .i64 ti, .string l, .slice A n c] 114); have b2 := BX.new w2 114 #[.int .i64 kd, .int .i64 mo, .int .i64 u, .int .i64 g, .int .i64 ti, .string l, .slice A n c]; obtain ⟨V2, hV2⟩ : ∃ V, w2.alloc (.cells #[.int .i64 kd, .int .i64 mo, .int .i64 u, .int .i64 g, .int .i64 ti, .string l, .slice A n c] 114) = V := ⟨_, rfl⟩; rw [hV2] at hv2 b2; have acc2 := bthen hb2 hv2; obtain ⟨ta, tb', tc, td, te⟩ := AF.out _ acc2))
          go_roundw
          case rel => exact ⟨i + 1, by omega, by go_num, bthen HVV.out acc6⟩
          case measure => simp [intOf]; omega

      · have gz0 : (z == 0) = false := by simp [hz]
        go_wp2_with (first
          | (go_at_call 33; (with_reducible refine (KS.out A7 c7 _ (((HD7.out.below hv3).below hb4).below hb5) (bthen HVV.out acc5)).mono ?_); rintro e w6 ⟨rfl, hb6⟩; have acc6 := bthen acc5 hb6; have i6 := (b3a).later hb6; have jj0 := (i6).cell (j := 0) rfl; have jj1 := (i6).cell (j := 1) rfl; have jj2 := (i6).cell (j := 2) rfl; have jj3 := (i6).cell (j := 3) rfl; have jj4 := (i6).cell (j := 4) rfl; have jj5 := (i6).cell (j := 5) rfl; have jj6 := (i6).cell (j := 6) rfl; have jj7 := (i6).cell (j := 7) rfl; have n6 := (b2b).later hb6; have mm0 := (n6).cell (j := 0) rfl; have mm1 := (n6).cell (j := 1) rfl; have mm2 := (n6).cell (j := 2) rfl; have mm3 := (n6).cell (j := 3) rfl; have mm4 := (n6).cell (j := 4) rfl; have mm5 := (n6).cell (j := 5) rfl; have mm6 := (n6).cell (j := 6) rfl)
          | (go_at_call 64; (with_reducible refine (KRL.out _ (bthen HVV.out acc4)).mono ?_); rintro e w5 ⟨A9, c9, rfl, hb5⟩; have acc5 := bthen acc4 hb5; have b3a := (b3.later hb4).later hb5; have ii0 := (b3a).cell (j := 0) rfl; have ii1 := (b3a).cell (j := 1) rfl; have ii2 := (b3a).cell (j := 2) rfl; have ii3 := (b3a).cell (j := 3) rfl; have ii4 := (b3a).cell (j := 4) rfl; have ii5 := (b3a).cell (j := 5) rfl; have ii6 := (b3a).cell (j := 6) rfl; have ii7 := (b3a).cell (j := 7) rfl; have b2b := ((b2a.later hv3).later hb4).later hb5; have nn0 := (b2b).cell (j := 0) rfl; have nn1 := (b2b).cell (j := 1) rfl; have nn2 := (b2b).cell (j := 2) rfl; have nn3 := (b2b).cell (j := 3) rfl; have nn4 := (b2b).cell (j := 4) rfl; have nn5 := (b2b).cell (j := 5) rfl; have nn6 := (b2b).cell (j := 6) rfl)
          | (go_at_call 50; (with_reducible refine (KL.out _ (bthen HVV.out acc3)).mono ?_); rintro e w4 ⟨A8, c8, rfl, hb4⟩; have acc4 := bthen acc3 hb4; obtain ⟨wa, wb, wc', wd, we⟩ := AF.out _ acc4)
          | (go_at_call 41; (with_reducible refine (KG.out _ (bthen HVV.out acc2)).mono ?_); rintro e w3 ⟨A7, c7, k7, rfl, hd7, hk7, hb3⟩; obtain rfl := hk7; have HD7 := Lib.hid hd7; clear hd7; have hv3 := below_new w3 (.cells #[.int .i64 kd, .int .i64 mo, .int .i64 u, .int .i64 g, .int .i64 ti, .string l, .slice A7 n c7, .int .i64 k7] 92); have b3 := BX.new w3 92 #[.int .i64 kd, .int .i64 mo, .int .i64 u, .int .i64 g, .int .i64 ti, .string l, .slice A7 n c7, .int .i64 k7]; have b2a := b2.later hb3; obtain ⟨V3, hV3⟩ : ∃ V, w3.alloc (.cells #[.int .i64 kd, .int .i64 mo, .int .i64 u, .int .i64 g, .int .i64 ti, .string l, .slice A7 n c7, .int .i64 k7] 92) = V := ⟨_, rfl⟩; rw [hV3] at hv3 b3; have acc3 := bthen (bthen acc2 hb3) hv3; obtain ⟨va, vb, vc, vd, ve⟩ := AF.out _ acc3)
          | (go_at_call 63; (with_reducible refine (KRG.out _ HVV.out).mono ?_); rintro e w2 ⟨rfl, hb2⟩; have hv2 := below_new w2 (.cells #[.int .i64 kd, .int .i64 mo, .int .i64 u, .int .i64 g, .int .i64 ti, .string l, .slice A n c] 114); have b2 := BX.new w2 114 #[.int .i64 kd, .int .i64 mo, .int .i64 u, .int .i64 g, .int .i64 ti, .string l, .slice A n c]; obtain ⟨V2, hV2⟩ : ∃ V, w2.alloc (.cells #[.int .i64 kd, .int .i64 mo, .int .i64 u, .int .i64 g, .int .i64 ti, .string l, .slice A n c] 114) = V := ⟨_, rfl⟩; rw [hV2] at hv2 b2; have acc2 := bthen hb2 hv2; obtain ⟨ta, tb', tc, td, te⟩ := AF.out _ acc2))
        go_roundw
        case rel => exact ⟨i + 1, by omega, by go_num, bthen HVV.out acc5⟩
        case measure => simp [intOf]; omega

    · have hlt' : ¬ (i : Int) < n2 := by omega
      go_wp2
      go_ret
      exact ⟨rfl, bthen HB1.out HB.out⟩
end Go.Proofs.YthgbncpiehcghaaGreatDoor
/- THE LAW OF LAYER 14: a disk, and the document's, side by side; a step done at both. gen_l14f.py -/
namespace Go.Proofs.YthgbncpiehcghaaGreatDoor
set_option linter.unusedVariables false
open Go Go.RowKit Go.Maps
set_option maxRecDepth 100000
set_option maxHeartbeats 8000000
open Nt (Tr Nd WF Ps Path at_ cnt used txt Dd Dk ap)
theorem rdisk_notD {cs : Array Value} {fz : Nat × Nat} : ¬ DiskObj (.cells cs 56 fz) := by
  rintro ((⟨_, _, h⟩ | ⟨_, _, _, h, h1 | h1⟩) | ⟨_, _, _, h, h1 | h1⟩)
  · cases h
  · cases h; cases h1
  · cases h; cases h1
  · cases h; cases h1
  · cases h; cases h1
theorem node13_notD {cs : Array Value} {fz : Nat × Nat} : ¬ DiskObj (.cells cs 114 fz) := by
  rintro ((⟨_, _, h⟩ | ⟨_, _, _, h, h1 | h1⟩) | ⟨_, _, _, h, h1 | h1⟩)
  · cases h
  · cases h; cases h1
  · cases h; cases h1
  · cases h; cases h1
  · cases h; cases h1
theorem at13_notD {cs : Array Value} {fz : Nat × Nat} : ¬ DiskObj (.cells cs 45 fz) := by
  rintro ((⟨_, _, h⟩ | ⟨_, _, _, h, h1 | h1⟩) | ⟨_, _, _, h, h1 | h1⟩)
  · cases h
  · cases h; cases h1
  · cases h; cases h1
  · cases h; cases h1
  · cases h; cases h1
theorem rdeed_notD {cs : Array Value} {fz : Nat × Nat} : ¬ DiskObj (.cells cs 60 fz) := by
  rintro ((⟨_, _, h⟩ | ⟨_, _, _, h, h1 | h1⟩) | ⟨_, _, _, h, h1 | h1⟩)
  · cases h
  · cases h; cases h1
  · cases h; cases h1
  · cases h; cases h1
  · cases h; cases h1
theorem step14_notD {cs : Array Value} {fz : Nat × Nat} : ¬ DiskObj (.cells cs 62 fz) := by
  rintro ((⟨_, _, h⟩ | ⟨_, _, _, h, h1 | h1⟩) | ⟨_, _, _, h, h1 | h1⟩)
  · cases h
  · cases h; cases h1
  · cases h; cases h1
  · cases h; cases h1
  · cases h; cases h1
theorem u8_notD {cs : Array Value} {fz : Nat × Nat} : ¬ DiskObj (.cells cs 5 fz) := by
  rintro ((⟨_, _, h⟩ | ⟨_, _, _, h, h1 | h1⟩) | ⟨_, _, _, h, h1 | h1⟩)
  · cases h
  · cases h; cases h1
  · cases h; cases h1
  · cases h; cases h1
  · cases h; cases h1
theorem byt_take {xs : List Int} (h : Byt xs) (k : Nat) : Byt (xs.take k) := fun j => by
  have := h j
  by_cases hj : j < k
  · simpa [List.getD, List.getElem?_take, hj] using this
  · simp [List.getD, List.getElem?_take, hj]
theorem all_er : ∀ (L : List Dd) (T : Tr), Nt.all T.er (L.map Dd.er) = (Nt.all T L).er
  | [], _ => rfl
  | y :: L, T => by
    show Nt.all (ap T.er y.er).1 (L.map Dd.er) = (Nt.all (ap T y).1 L).er
    rw [Nt.ap_er]
    exact all_er L _
theorem torn_er (L : List Dd) (t : Int) : Nt.torn (L.map Dd.er) t = (Nt.torn L t).map Dd.er := by
  cases L with
  | nil => rfl
  | cons y L =>
    rw [List.map_cons, torn_cons, torn_cons]
    show (if (y.kd = 2 ∨ y.kd = 5) ∧ 1 ≤ min t (y.n : Int) then [y.er.some_ (min t (y.n : Int)).toNat] else []) = _
    split
    · rfl
    · rfl
theorem bok_all {K : Nat} : ∀ (L : List Dd) {T : Tr} {K : Nat}, WF T K → Nt.Bok T → (∀ y ∈ L, y.xs.length = y.n) → (∀ y ∈ L, Byt y.xs) → Nt.Bok (Nt.all T L)
  | [], _, _, _, h, _, _ => h
  | y :: L, T, K, hW, h, hn, hb => bok_all (K := K) L (hW.ap y (hn y List.mem_cons_self)) (h.ap hW y (hb y List.mem_cons_self)) (fun z hz => hn z (List.mem_cons_of_mem _ hz)) fun z hz => hb z (List.mem_cons_of_mem _ hz)
/-- A DISK, AND THE DOCUMENT's: the same, but for the places of bytes. -/
structure DP (M : Dk) (K : Nat) (T : Tr) (L : List Dd) (KT : Nat) : Prop where
  ok : M.ok K
  eD : M.D = T.er
  eL : M.L = L.map Dd.er
  wf : WF T KT
  kt : KT + 301 * L.length ≤ K
  bok : Nt.Bok T
  bokL : ∀ y ∈ L, Byt y.xs
  lens : ∀ y ∈ L, y.xs.length = y.n
  fu : -9223372036854775808 ≤ M.fu ∧ M.fu ≤ 9223372036854775807
section
variable {M : Dk} {K KT : Nat} {T : Tr} {L : List Dd}
theorem DP.len (h : DP M K T L KT) : M.L.length = L.length := by rw [h.eL, List.length_map]
theorem DP.eV (h : DP M K T L KT) : M.V = (Nt.all T L).er := by rw [h.ok.view, h.eD, h.eL, all_er]
theorem DP.fuse (h : DP M K T L KT) (n : Int) (hn : -9223372036854775808 ≤ n ∧ n ≤ 9223372036854775807) : DP (M.fuse n) K T L KT :=
  ⟨h.ok.fuse n, h.eD, h.eL, h.wf, h.kt, h.bok, h.bokL, h.lens, hn⟩
theorem burn_le {f : Int} (h : -9223372036854775808 ≤ f ∧ f ≤ 9223372036854775807) : -9223372036854775808 ≤ Nt.burn f ∧ Nt.burn f ≤ 9223372036854775807 := by unfold Nt.burn; split <;> omega
theorem burn_fd (f : Int) : decide (0 ≤ Nt.burn f) = decide (0 ≤ f) := by unfold Nt.burn; split <;> (apply decide_eq_decide.2; omega)
theorem burn_lf (f : Int) : max (Nt.burn f) 0 = max (max f 0 - 1) 0 := by unfold Nt.burn; split <;> omega
theorem DP.sync (h : DP M K T L KT) (h0 : M.fu ≠ 0) : DP M.sync (K + 301 * M.L.length) (Nt.all T L) [] (KT + 301 * L.length) ∧ M.sync.sy = wrap64 (M.sy + 1) ∧ M.sync.fu = Nt.burn M.fu := by
  have e : M.sync = ⟨Nt.all M.D M.L, M.V, [], IntKind.i64.wrap (M.sy + 1), Nt.burn M.fu⟩ := by unfold Dk.sync; rw [if_neg h0]
  refine ⟨⟨h.ok.sync.le (Nat.le_add_right _ _), ?_, by rw [e]; rfl, WF.all (K := K) h.wf h.lens, ?_, bok_all (K := K) L h.wf h.bok h.lens h.bokL, fun y hy => (by cases hy), fun y hy => (by cases hy), by rw [e]; exact burn_le h.fu⟩, by rw [e]; show IntKind.i64.wrap (M.sy + 1) = _; rw [IntKind.wrap_i64]; unfold wrap64; rfl, by rw [e]⟩
  · rw [e]
    show Nt.all M.D M.L = _
    rw [h.eD, h.eL, all_er]
  · have := h.kt
    have := h.len
    simp only [List.length_nil]
    omega
theorem DP.dok (h : DP M K T L KT) (y : Dd) (hx : Byt y.xs) (hn : y.xs.length = y.n) (h0 : M.fu ≠ 0) :
    (M.dok y.er).2 = (ap (Nt.all T L) y).2 ∧ ((ap (Nt.all T L) y).2 ≠ 0 → DP (M.dok y.er).1 (K + 301) T L KT) ∧ ((ap (Nt.all T L) y).2 = 0 → DP (M.dok y.er).1 (K + 301) T (L ++ [y]) KT) ∧ (M.dok y.er).1.sy = M.sy ∧ (M.dok y.er).1.fu = Nt.burn M.fu := by
  have hv : ap M.V y.er = ((ap (Nt.all T L) y).1.er, (ap (Nt.all T L) y).2) := by rw [h.eV, Nt.ap_er]
  have hok := h.ok.dok (y := y.er) rfl hn
  have hkt := h.kt
  unfold Dk.dok at hok ⊢
  rw [if_neg h0] at hok ⊢
  rw [hv] at hok ⊢
  simp only at hok ⊢
  by_cases hz : (ap (Nt.all T L) y).2 = 0
  · rw [if_pos hz] at hok ⊢
    refine ⟨hz.symm, fun e => absurd hz e, fun _ => ⟨hok, h.eD, ?_, h.wf, ?_, h.bok, ?_, ?_, burn_le h.fu⟩, rfl, rfl⟩
    · show M.L ++ [y.er] = _
      rw [h.eL, List.map_append]
      rfl
    · rw [List.length_append, List.length_singleton]; omega
    · intro z hz
      rcases List.mem_append.1 hz with h1 | h1
      · exact h.bokL z h1
      · obtain rfl := List.mem_singleton.1 h1
        exact hx
    · intro z hz
      rcases List.mem_append.1 hz with h1 | h1
      · exact h.lens z h1
      · obtain rfl := List.mem_singleton.1 h1
        exact hn
  · rw [if_neg hz] at hok ⊢
    exact ⟨rfl, fun _ => ⟨hok, h.eD, h.eL, h.wf, by omega, h.bok, h.bokL, h.lens, burn_le h.fu⟩, fun e => absurd e hz, rfl, rfl⟩
theorem DP.crash (h : DP M K T L KT) (keep t : Int) : DP (M.crash keep t) (K + 301 * M.L.length) (Nt.all (Nt.all T (L.take (M.whole keep))) (Nt.torn (L.drop (M.whole keep)) t)) [] (KT + 301 * (M.whole keep) + 301 * (Nt.torn (L.drop (M.whole keep)) t).length) ∧ (M.crash keep t).sy = M.sy ∧ (M.crash keep t).fu = -1 := by
  have hwl := Nt.whole_le M keep
  have hln := h.len
  have htl := Nt.torn_len (L.drop (M.whole keep)) t
  rw [List.length_drop] at htl
  have hkt := h.kt
  have htk : (L.take (M.whole keep)).length = M.whole keep := by rw [List.length_take]; omega
  have hts : ∀ z ∈ Nt.torn (L.drop (M.whole keep)) t, z.xs.length = z.n ∧ Byt z.xs := fun z hz => by
    obtain ⟨y, m, hy, hm, rfl⟩ := Nt.torn_is hz
    have hy := List.mem_of_mem_drop hy
    refine ⟨?_, ?_⟩
    · show (y.xs.take m).length = m
      rw [List.length_take, h.lens y hy]
      omega
    · exact byt_take (h.bokL y hy) m
  have w1 := WF.all (K := K) (l := L.take (M.whole keep)) h.wf fun y hy => h.lens y (List.mem_of_mem_take hy)
  rw [htk] at w1
  refine ⟨⟨(h.ok.crash keep t).le (Nat.le_add_right _ _), ?_, rfl, WF.all (K := K) w1 fun z hz => (hts z hz).1, ?_, ?_, fun y hy => (by cases hy), fun y hy => (by cases hy), ⟨by show -9223372036854775808 ≤ (-1 : Int); decide, by show (-1 : Int) ≤ 9223372036854775807; decide⟩⟩, rfl, rfl⟩
  · show M.crashD keep t = _
    unfold Dk.crashD
    rw [h.eD, h.eL, ← List.map_take, ← List.map_drop, all_er, torn_er, all_er]
  · simp only [List.length_nil]
    omega
  · exact bok_all (K := K) _ w1 (bok_all (K := K) _ h.wf h.bok (fun y hy => h.lens y (List.mem_of_mem_take hy)) fun y hy => h.bokL y (List.mem_of_mem_take hy)) (fun z hz => (hts z hz).1) fun z hz => (hts z hz).2
end
end Go.Proofs.YthgbncpiehcghaaGreatDoor
/- THE LAW OF LAYER 14: a step done at both disks. gen_l14g.py -/
namespace Go.Proofs.YthgbncpiehcghaaGreatDoor
set_option linter.unusedVariables false
open Go Go.RowKit Go.Maps
set_option maxRecDepth 100000
set_option maxHeartbeats 8000000
open Nt (Tr Nd WF Ps Path at_ cnt used txt Dd Dk ap)
/-- The document's disk in memory, as M's counters tell. -/
def RP (w : World) (B : Nat) (v : Array Value) (T : Tr) (L : List Dd) (M : Dk) : Prop :=
  ∃ A1 n1 c1 A2 n2 c2 AL nL cL sy fd lf, v = RkC A1 n1 c1 A2 n2 c2 T.room T.vol AL nL cL sy fd lf ∧ RTr w B A1 n1 c1 A2 n2 c2 T ∧ DRow w B AL nL L ∧ nL ≤ cL ∧ cL ≤ maxLen ∧ sy = M.sy ∧ fd = decide (0 ≤ M.fu) ∧ lf = max M.fu 0
/-- What a step owes. -/
def Stp14 (w0 w : World) (B db : Nat) (K n : Nat) (e : Ending) (w' : World) : Prop :=
  ∃ v' M' K' T' L' KT', e = .returned (.tuple #[.agg v', .bool true]) ∧ DkR (Bs.of w0) w' db M' K' ∧ DP M' K' T' L' KT' ∧ RP w' B v' T' L' M' ∧ K' + 301 * L'.length ≤ K + 301 * n + 602 ∧ L'.length ≤ n + 1 ∧ KeepX DiskObj w w' ∧ Below w0.heap.size w0 w'
theorem below_mid {B : Nat} {w0 w w' : World} (h : Below B w0 w) (h' : Below B w0 w') (hx : w.heap.size ≤ w'.heap.size) (hB : B ≤ w0.heap.size) : Below B w w' :=
  ⟨h'.os.trans h.os.symm, h'.tape.trans h.tape.symm, h'.output.trans h.output.symm, hx, fun k hk => (h'.block k hk).trans (h.block k hk).symm⟩
theorem RTr.kD {w w' : World} {B : Nat} {A1 A2 : Option Addr} {n1 c1 n2 c2 : Nat} {T : Tr} (h : RTr w B A1 n1 c1 A2 n2 c2 T) (hk : KeepX DiskObj w w') (hb : Below B w w') : RTr w' B A1 n1 c1 A2 n2 c2 T := h.keptX hk hb (fun _ _ => node13_notD) (fun _ _ => at13_notD)
theorem DRow.kD {w w' : World} {B n : Nat} {A : Option Addr} {l : List Dd} (h : DRow w B A n l) (hk : KeepX DiskObj w w') (hb : Below B w w') : DRow w' B A n l := ⟨h.1.keptX hk (fun _ _ => rdeed_notD), fun y hy => ⟨(h.2 y hy).1.below hb, (h.2 y hy).2⟩⟩
theorem DRow.oth {w w' : World} {B n r : Nat} {A : Option Addr} {l : List Dd} {cs : Array Value} (h : DRow w B A n l) (ho : Oth r w w') (hb : BX w r 56 cs) (hB : B ≤ r) (hs : B ≤ w.heap.size) : DRow w' B A n l := ⟨h.1.oth13 ho hb (by decide), fun y hy => ⟨(h.2 y hy).1.below (ho.below hB hs), (h.2 y hy).2⟩⟩
theorem DkR.othR {w0 w w' : World} {db K r : Nat} {M : Dk} {cs : Array Value} (h : DkR (Bs.of w0) w db M K) (ho : Oth r w w') (hb : BX w r 56 cs) (hr : w0.heap.size ≤ r) : DkR (Bs.of w0) w' db M K := h.oth ho hb rdisk_notD (by decide) hr
theorem KeepX.oth14 {w w' : World} {W : World} {r : Nat} (hk : KeepX DiskObj w W) (ho : Oth r W w') (hr : w.heap.size ≤ r) : KeepX DiskObj w w' :=
  ⟨ho.1.trans hk.os, ho.2.1.trans hk.tape, ho.2.2.1.trans hk.output, Nat.le_trans hk.size ho.2.2.2.1, fun k o h1 h2 => by
    have hlt := lt_of_some h1
    have h3 := hk.block k o h1 h2
    exact (ho.2.2.2.2 k (lt_of_some h3) (by omega)).trans h3⟩
theorem fin8o {W : World} {r : Nat} {U : TypeId} {z0 z1 z2 z3 z4 z5 z6 z7 : Value} (hx : BX W r U #[z0, z1, z2, z3, z4, z5, z6, z7]) (v0 v1 v2 v3 v4 v5 v6 v7 : Value) :
    ∃ V, ((((((((W.setCell ⟨r, 0, none⟩ v0).setCell ⟨r, 1, none⟩ v1).setCell ⟨r, 2, none⟩ v2).setCell ⟨r, 3, none⟩ v3).setCell ⟨r, 4, none⟩ v4).setCell ⟨r, 5, none⟩ v5).setCell ⟨r, 6, none⟩ v6).setCell ⟨r, 7, none⟩ v7) = V ∧ BX V r U #[v0, v1, v2, v3, v4, v5, v6, v7] ∧ Oth r W V :=
  ⟨_, rfl, by have h9 := ((((((((hx.set 0 v0).set 1 v1).set 2 v2).set 3 v3).set 4 v4).set 5 v5).set 6 v6).set 7 v7); simpa using h9, (((((((((Oth.refl r W).setCell 0 v0).setCell 1 v1).setCell 2 v2).setCell 3 v3).setCell 4 v4).setCell 5 v5).setCell 6 v6).setCell 7 v7)⟩
theorem sync14_dark {w0 : Bs} {w : World} {db K : Nat} {M : Dk} (h : DkR w0 w db M K) (h0 : M.fu = 0) :
    Calls Tryz.prog 72 #[.pointer (some ⟨db, 0, none⟩)] w fun e w' => e = .returned (.tuple #[]) ∧ w = w' := by
  obtain ⟨dt, vt, v, l, ad, mb, ad', mb', hm, hL⟩ := h
  have km := Lib.hid (dmade_any hm.box)
  have kdk := Lib.hid (ddark_any hm.box)
  have g0 : (M.fu == 0) = true := by simp [h0]
  rw [g0] at kdk
  clear hm h0 g0 hL
  go_enter Tryz.func72, Tryz.ntmps72
  go_wp2_with (first
    | (go_at_call 30; refine kdk.out.mono ?_; rintro e w3 ⟨rfl, rfl⟩)
    | (go_at_call 78; refine km.out.mono ?_; rintro e w2 ⟨rfl, rfl⟩))
  refine bodyPost_ret (results_none rfl _ _ _) rfl ?_
  exact ⟨rfl, rfl⟩
section
variable {w0 w : World} {B db : Nat} {M : Dk} {K KT : Nat} {T : Tr} {L : List Dd} {A1 A2 : Option Addr} {n1 c1 n2 c2 : Nat} {AL : Option Addr} {cL : Nat}
theorem DP.le {K2 : Nat} (h : DP M K T L KT) (hK : K ≤ K2) : DP M K2 T L KT := ⟨h.ok.le hK, h.eD, h.eL, h.wf, Nat.le_trans h.kt hK, h.bok, h.bokL, h.lens, h.fu⟩
theorem refdo_dp (hp : DP M K T L KT) (hr : RTr w B A1 n1 c1 A2 n2 c2 T) (hl : DRow w B AL L.length L) (hc : L.length ≤ cL) (hcm : cL ≤ maxLen) (hK : K + 301 ≤ 90000) (y : Dd) (hd : RB w B y.A y.n y.xs) (hy : DdFit y) (hx : Byt y.xs) :
    ∃ L' z lf, L'.length ≤ L.length + 1 ∧ (M.dok y.er).2 = z ∧ DP (M.dok y.er).1 (K + 301) T L' KT ∧ (M.dok y.er).1.sy = M.sy ∧ decide (0 ≤ (M.dok y.er).1.fu) = decide (0 ≤ M.fu) ∧ max (M.dok y.er).1.fu 0 = lf ∧
      Calls Tryz.prog 77 #[.agg (RkC A1 n1 c1 A2 n2 c2 T.room T.vol AL L.length cL M.sy (decide (0 ≤ M.fu)) (max M.fu 0)), .agg (DdC y)] w fun e w' => RDo w B T L' M.sy (decide (0 ≤ M.fu)) lf z e w' := by
  have hfu := hp.fu
  have hkt := hp.kt
  have k := refdo_any hr hp.wf hl (by omega) hc hcm M.sy (decide (0 ≤ M.fu)) (max M.fu 0) (by omega) (by omega) y hd hy
  have hdk : (decide (0 ≤ M.fu) = true ∧ max M.fu 0 = 0) ↔ M.fu = 0 := by
    rw [decide_eq_true_iff]
    omega
  simp only [hdk] at k
  by_cases h0 : M.fu = 0
  · simp only [if_pos h0] at k
    have e : M.dok y.er = (M, 17) := by unfold Dk.dok; rw [if_pos h0]
    rw [e]
    exact ⟨L, 17, _, by omega, rfl, hp.le (by omega), rfl, rfl, rfl, k⟩
  · simp only [if_neg h0] at k
    obtain ⟨e1, e2, e3, e4, e5⟩ := hp.dok y hx hd.1 h0
    by_cases hz : (ap (Nt.all T L) y).2 = 0
    · simp only [hz, ne_eq, not_true_eq_false, if_false] at k
      exact ⟨L ++ [y], 0, _, by rw [List.length_append, List.length_singleton]; omega, by rw [e1, hz], e3 hz, e4, by rw [e5, burn_fd], by rw [e5, burn_lf], k⟩
    · simp only [if_pos hz] at k
      exact ⟨L, _, _, by omega, e1, e2 hz, e4, by rw [e5, burn_fd], by rw [e5, burn_lf], k⟩
theorem ldo14_any (hd : DkR (Bs.of w0) w db M K) (hp : DP M K T L KT) (hr : RTr w B A1 n1 c1 A2 n2 c2 T) (hl : DRow w B AL L.length L) (hc : L.length ≤ cL) (hcm : cL ≤ maxLen) (hB : B ≤ w0.heap.size) (hK : K + 301 * L.length ≤ 80000) (hLn : L.length ≤ 900) (wh : Int) (y : Dd) (kp tn : Int) (hkp : -9223372036854775808 ≤ kp ∧ kp ≤ 9223372036854775807) (hyb : RB w B y.A y.n y.xs) (hyf : DdFit y) (hys : y.p.size ≤ 1000 ∧ y.q.size ≤ 1000 ∧ y.n ≤ 5000) (hyx : Byt y.xs) :
    Calls Tryz.prog 23 #[.pointer (some ⟨db, 0, none⟩), .agg (RkC A1 n1 c1 A2 n2 c2 T.room T.vol AL L.length cL M.sy (decide (0 ≤ M.fu)) (max M.fu 0)), .agg (SqC wh y.kd y.p y.q y.a y.b y.c y.d y.A y.n y.k kp tn)] w fun e w' => Stp14 w0 w B db K L.length e w' := by
  obtain ⟨W1, hW1, hb1, hs1, x1, x2, x3⟩ := frame3 w (RkC A1 n1 c1 A2 n2 c2 T.room T.vol AL L.length cL M.sy (decide (0 ≤ M.fu)) (max M.fu 0)) 56 (SqC wh y.kd y.p y.q y.a y.b y.c y.d y.A y.n y.k kp tn) 62 Rk0 56
  have hlow := hd.low
  have hBw : B ≤ w.heap.size := Nat.le_trans hB hlow.size
  have hlen := hp.len
  have hfu := hp.fu
  have hd1 := hd.later hb1
  have HD1 := Lib.hid hd1
  have HR1 := Lib.hid (hr.below hb1)
  have HL1 := Lib.hid (hl.below hBw hb1)
  have HP := Lib.hid hp
  have HX1 := Lib.hid x1
  have HX2 := Lib.hid x2
  have HX3 := Lib.hid x3
  have HB1 := Lib.hid hb1
  have HLW := Lib.hid hlow
  have HKX1 := Lib.hid (KeepX.ofBelow (X := DiskObj) hb1)
  have hxl : y.xs.length = y.n := hyb.1
  have HYB := Lib.hid (hyb.below (hb1.mono hBw))
  have HYF := Lib.hid hyf
  have HYX := Lib.hid hyx
  have hwsz := hs1
  have hlsz := hlow.size
  have s0 : W1.cell? ⟨w.heap.size + 1, 0, none⟩ = some (.int .u8 wh) := x2.cell rfl
  have s9 : W1.cell? ⟨w.heap.size + 1, 9, none⟩ = some (.int .i64 kp) := x2.cell rfl
  have s10 : W1.cell? ⟨w.heap.size + 1, 10, none⟩ = some (.int .i64 tn) := x2.cell rfl
  clear hd hr hl hb1 x1 x2 x3 hlow hd1 hp hyb hyf hyx hs1
  have hdk : (decide (0 ≤ M.fu) = true ∧ max M.fu 0 = 0) ↔ M.fu = 0 := by
    rw [decide_eq_true_iff]
    omega
  by_cases h1 : wh = 1
  · subst h1
    have KRS := Lib.hid (fun W (hk : KeepX DiskObj W1 W) (hb : Below B W1 W) => refsync_any (HR1.out.kD hk hb) HP.out.wf (HL1.out.kD hk hb) (by have := HP.out.kt; omega) hc hcm M.sy (decide (0 ≤ M.fu)) (max M.fu 0) (by omega) (by omega))
    simp only [hdk] at KRS
    by_cases hf0 : M.fu = 0
    · have KS := Lib.hid (sync14_dark HD1.out hf0)
      simp only [if_pos hf0] at KRS
      clear hdk hf0
      have a0 := (HX1.out).cell (j := 0) rfl; have a1 := (HX1.out).cell (j := 1) rfl; have a2 := (HX1.out).cell (j := 2) rfl; have a3 := (HX1.out).cell (j := 3) rfl; have a4 := (HX1.out).cell (j := 4) rfl; have a5 := (HX1.out).cell (j := 5) rfl; have a6 := (HX1.out).cell (j := 6) rfl; have a7 := (HX1.out).cell (j := 7) rfl
      go_enter Tryz.func23, Tryz.ntmps23
      go_wp2_with (first
        | (go_at_call 72; (with_reducible refine KS.out.mono ?_); rintro e w2 ⟨rfl, rfl⟩)
        | (go_at_call 73; (with_reducible refine (KRS.out _ (KeepX.refl _ _) (Below.refl _ _)).mono ?_); rintro e w3 ⟨A3, n3, c3, A4, n4, c4, AL3, nL3, cL3, rfl, hr3, hl3, hc3, hcm3, hb3⟩; have hx33 := HX3.out.later hb3; have t0 := (hx33).cell (j := 0) rfl; have tf0 := (hx33).free 0; have t1 := (hx33).cell (j := 1) rfl; have tf1 := (hx33).free 1; have t2 := (hx33).cell (j := 2) rfl; have tf2 := (hx33).free 2; have t3 := (hx33).cell (j := 3) rfl; have tf3 := (hx33).free 3; have t4 := (hx33).cell (j := 4) rfl; have tf4 := (hx33).free 4; have t5 := (hx33).cell (j := 5) rfl; have tf5 := (hx33).free 5; have t6 := (hx33).cell (j := 6) rfl; have tf6 := (hx33).free 6; have t7 := (hx33).cell (j := 7) rfl; have tf7 := (hx33).free 7))
      obtain ⟨V9, hV9, hx9, ho9⟩ := fin8o hx33 (.slice A3 n3 c3) (.slice A4 n4 c4) (.int .i64 T.room) (.int .i64 T.vol) (.slice AL3 nL3 cL3) (.int .i64 M.sy) (.bool (decide (0 ≤ M.fu))) (.int .i64 (max M.fu 0))
      rw [hV9]
      have k0 := (hx9).cell (j := 0) rfl; have k1 := (hx9).cell (j := 1) rfl; have k2 := (hx9).cell (j := 2) rfl; have k3 := (hx9).cell (j := 3) rfl; have k4 := (hx9).cell (j := 4) rfl; have k5 := (hx9).cell (j := 5) rfl; have k6 := (hx9).cell (j := 6) rfl; have k7 := (hx9).cell (j := 7) rfl
      refine bodyPost_ret (v := .tuple #[.agg (RkC A3 n3 c3 A4 n4 c4 T.room T.vol AL3 nL3 cL3 M.sy (decide (0 ≤ M.fu)) (max M.fu 0)), .bool true]) (by simp [results, Tryz.f23, go_sem, k0, k1, k2, k3, k4, k5, k6, k7]) rfl ?_
      have hdkk := (HD1.out.later hb3).othR ho9 hx33 (by omega)
      exact ⟨_, M, _, _, _, _, rfl, hdkk, HP.out, ⟨_, _, _, _, _, _, _, _, _, _, _, _, rfl, (hr3).oth13d ho9 hx33 (by omega), hl3.oth ho9 hx33 (by omega) (by have := hb3.size; omega), hc3, hcm3, rfl, rfl, rfl⟩, by omega, by omega, (HKX1.out.trans (KeepX.ofBelow hb3)).oth14 ho9 (by omega), hdkk.low⟩
    · have KS := Lib.hid (sync14_any HD1.out HP.out.ok (by rw [hlen]; omega) hfu.2)
      simp only [if_neg hf0] at KRS
      obtain ⟨hsp, hsy, hsf⟩ := HP.out.sync hf0
      have HSP := Lib.hid hsp
      have HSY := Lib.hid hsy
      have HSF := Lib.hid hsf
      clear hdk hf0 hsp hsy hsf
      go_enter Tryz.func23, Tryz.ntmps23
      go_wp2_with (first
        | (go_at_call 72; (with_reducible refine KS.out.mono ?_); rintro e w2 ⟨rfl, h2⟩; have hd2 := h2.out.1; have hk2 := h2.out.2; have hb2 := (below_mid ((HLW.out.trans (HB1.out.mono (by omega))).mono hB) (hd2.low.mono hB) hk2.size hB); have HD2 := Lib.hid hd2; have HK2 := Lib.hid hk2; have HB2 := Lib.hid hb2; have hx1 := HX1.out.keptX hk2 rdisk_notD; have hx2 := HX2.out.keptX hk2 step14_notD; have hx3 := HX3.out.keptX hk2 rdisk_notD; have HX32 := Lib.hid hx3; have a0 := (hx1).cell (j := 0) rfl; have a1 := (hx1).cell (j := 1) rfl; have a2 := (hx1).cell (j := 2) rfl; have a3 := (hx1).cell (j := 3) rfl; have a4 := (hx1).cell (j := 4) rfl; have a5 := (hx1).cell (j := 5) rfl; have a6 := (hx1).cell (j := 6) rfl; have a7 := (hx1).cell (j := 7) rfl; have q9 := hx2.cell (j := 9) rfl; have q10 := hx2.cell (j := 10) rfl; have b0 := (hx3).cell (j := 0) rfl; have bf0 := (hx3).free 0; have b1 := (hx3).cell (j := 1) rfl; have bf1 := (hx3).free 1; have b2 := (hx3).cell (j := 2) rfl; have bf2 := (hx3).free 2; have b3 := (hx3).cell (j := 3) rfl; have bf3 := (hx3).free 3; have b4 := (hx3).cell (j := 4) rfl; have bf4 := (hx3).free 4; have b5 := (hx3).cell (j := 5) rfl; have bf5 := (hx3).free 5; have b6 := (hx3).cell (j := 6) rfl; have bf6 := (hx3).free 6; have b7 := (hx3).cell (j := 7) rfl; have bf7 := (hx3).free 7; clear h2 hd2 hk2 hb2)
        | (go_at_call 73; (with_reducible refine (KRS.out _ HK2.out HB2.out).mono ?_); rintro e w3 ⟨A3, n3, c3, A4, n4, c4, AL3, nL3, cL3, rfl, hr3, hl3, hc3, hcm3, hb3⟩; have hx33 := HX32.out.later hb3; have t0 := (hx33).cell (j := 0) rfl; have tf0 := (hx33).free 0; have t1 := (hx33).cell (j := 1) rfl; have tf1 := (hx33).free 1; have t2 := (hx33).cell (j := 2) rfl; have tf2 := (hx33).free 2; have t3 := (hx33).cell (j := 3) rfl; have tf3 := (hx33).free 3; have t4 := (hx33).cell (j := 4) rfl; have tf4 := (hx33).free 4; have t5 := (hx33).cell (j := 5) rfl; have tf5 := (hx33).free 5; have t6 := (hx33).cell (j := 6) rfl; have tf6 := (hx33).free 6; have t7 := (hx33).cell (j := 7) rfl; have tf7 := (hx33).free 7))
      have hsz2 := HK2.out.size
      obtain ⟨V9, hV9, hx9, ho9⟩ := fin8o hx33 (.slice A3 n3 c3) (.slice A4 n4 c4) (.int .i64 (Nt.all T L).room) (.int .i64 (Nt.all T L).vol) (.slice AL3 nL3 cL3) (.int .i64 (wrap64 (M.sy + 1))) (.bool (decide (0 ≤ M.fu))) (.int .i64 (max (max M.fu 0 - 1) 0))
      rw [hV9]
      have k0 := (hx9).cell (j := 0) rfl; have k1 := (hx9).cell (j := 1) rfl; have k2 := (hx9).cell (j := 2) rfl; have k3 := (hx9).cell (j := 3) rfl; have k4 := (hx9).cell (j := 4) rfl; have k5 := (hx9).cell (j := 5) rfl; have k6 := (hx9).cell (j := 6) rfl; have k7 := (hx9).cell (j := 7) rfl
      refine bodyPost_ret (v := .tuple #[.agg (RkC A3 n3 c3 A4 n4 c4 (Nt.all T L).room (Nt.all T L).vol AL3 nL3 cL3 (wrap64 (M.sy + 1)) (decide (0 ≤ M.fu)) (max (max M.fu 0 - 1) 0)), .bool true]) (by simp [results, Tryz.f23, go_sem, k0, k1, k2, k3, k4, k5, k6, k7]) rfl ?_
      have hdkk := (HD2.out.later hb3).othR ho9 hx33 (by omega)
      exact ⟨_, M.sync, _, _, _, _, rfl, hdkk, HSP.out, ⟨_, _, _, _, _, _, _, _, _, _, _, _, rfl, (hr3).oth13d ho9 hx33 (by omega), hl3.oth ho9 hx33 (by omega) (by have := hb3.size; omega), hc3, hcm3, HSY.out.symm, by rw [HSF.out, burn_fd], by rw [HSF.out, burn_lf]⟩, by rw [hlen]; simp only [List.length_nil]; omega, Nat.zero_le _, ((HKX1.out.trans HK2.out).trans (KeepX.ofBelow hb3)).oth14 ho9 (by omega), hdkk.low⟩
  · have g1 : (wh == 1) = false := by simp [h1]
    by_cases h2 : wh = 2
    · subst h2
      have KC := Lib.hid (crash14_any HD1.out HP.out.ok (by rw [hlen]; omega) kp tn)
      have hwk : min (max kp 0) (L.length : Int) = (M.whole kp : Int) := by unfold Dk.whole; rw [hlen]; omega
      have KRC := Lib.hid (fun W (hk : KeepX DiskObj W1 W) (hb : Below B W1 W) => refcrash_any (HR1.out.kD hk hb) HP.out.wf (HL1.out.kD hk hb) (by have := HP.out.kt; omega) hc hcm M.sy (decide (0 ≤ M.fu)) (max M.fu 0) kp tn (M.whole kp) hwk)
      obtain ⟨hsp, hsy, hsf⟩ := HP.out.crash kp tn
      have HSP := Lib.hid hsp
      have HSY := Lib.hid hsy
      have HSF := Lib.hid hsf
      clear hdk hsp hsy hsf hwk
      go_enter Tryz.func23, Tryz.ntmps23
      go_wp2_with (first
        | (go_at_call 71; (with_reducible refine KC.out.mono ?_); rintro e w2 ⟨rfl, h2⟩; have hd2 := h2.out.1; have hk2 := h2.out.2; have hb2 := (below_mid ((HLW.out.trans (HB1.out.mono (by omega))).mono hB) (hd2.low.mono hB) hk2.size hB); have HD2 := Lib.hid hd2; have HK2 := Lib.hid hk2; have HB2 := Lib.hid hb2; have hx1 := HX1.out.keptX hk2 rdisk_notD; have hx2 := HX2.out.keptX hk2 step14_notD; have hx3 := HX3.out.keptX hk2 rdisk_notD; have HX32 := Lib.hid hx3; have a0 := (hx1).cell (j := 0) rfl; have a1 := (hx1).cell (j := 1) rfl; have a2 := (hx1).cell (j := 2) rfl; have a3 := (hx1).cell (j := 3) rfl; have a4 := (hx1).cell (j := 4) rfl; have a5 := (hx1).cell (j := 5) rfl; have a6 := (hx1).cell (j := 6) rfl; have a7 := (hx1).cell (j := 7) rfl; have q9 := hx2.cell (j := 9) rfl; have q10 := hx2.cell (j := 10) rfl; have b0 := (hx3).cell (j := 0) rfl; have bf0 := (hx3).free 0; have b1 := (hx3).cell (j := 1) rfl; have bf1 := (hx3).free 1; have b2 := (hx3).cell (j := 2) rfl; have bf2 := (hx3).free 2; have b3 := (hx3).cell (j := 3) rfl; have bf3 := (hx3).free 3; have b4 := (hx3).cell (j := 4) rfl; have bf4 := (hx3).free 4; have b5 := (hx3).cell (j := 5) rfl; have bf5 := (hx3).free 5; have b6 := (hx3).cell (j := 6) rfl; have bf6 := (hx3).free 6; have b7 := (hx3).cell (j := 7) rfl; have bf7 := (hx3).free 7; clear hd2 hk2 hb2)
        | (go_at_call 74; (with_reducible refine (KRC.out _ HK2.out HB2.out).mono ?_); rintro e w3 ⟨A3, n3, c3, A4, n4, c4, rfl, hr3, hb3⟩; have hx33 := HX32.out.later hb3; have t0 := (hx33).cell (j := 0) rfl; have tf0 := (hx33).free 0; have t1 := (hx33).cell (j := 1) rfl; have tf1 := (hx33).free 1; have t2 := (hx33).cell (j := 2) rfl; have tf2 := (hx33).free 2; have t3 := (hx33).cell (j := 3) rfl; have tf3 := (hx33).free 3; have t4 := (hx33).cell (j := 4) rfl; have tf4 := (hx33).free 4; have t5 := (hx33).cell (j := 5) rfl; have tf5 := (hx33).free 5; have t6 := (hx33).cell (j := 6) rfl; have tf6 := (hx33).free 6; have t7 := (hx33).cell (j := 7) rfl; have tf7 := (hx33).free 7))
      have hsz2 := HK2.out.size
      obtain ⟨V9, hV9, hx9, ho9⟩ := fin8o hx33 (.slice A3 n3 c3) (.slice A4 n4 c4) (.int .i64 (Nt.all (Nt.all T (L.take (M.whole kp))) (Nt.torn (L.drop (M.whole kp)) tn)).room) (.int .i64 (Nt.all (Nt.all T (L.take (M.whole kp))) (Nt.torn (L.drop (M.whole kp)) tn)).vol) (.slice none 0 0) (.int .i64 M.sy) (.bool false) (.int .i64 0)
      rw [hV9]
      have k0 := (hx9).cell (j := 0) rfl; have k1 := (hx9).cell (j := 1) rfl; have k2 := (hx9).cell (j := 2) rfl; have k3 := (hx9).cell (j := 3) rfl; have k4 := (hx9).cell (j := 4) rfl; have k5 := (hx9).cell (j := 5) rfl; have k6 := (hx9).cell (j := 6) rfl; have k7 := (hx9).cell (j := 7) rfl
      refine bodyPost_ret (v := .tuple #[.agg (RkC A3 n3 c3 A4 n4 c4 (Nt.all (Nt.all T (L.take (M.whole kp))) (Nt.torn (L.drop (M.whole kp)) tn)).room (Nt.all (Nt.all T (L.take (M.whole kp))) (Nt.torn (L.drop (M.whole kp)) tn)).vol none 0 0 M.sy false 0), .bool true]) (by simp [results, Tryz.f23, go_sem, k0, k1, k2, k3, k4, k5, k6, k7]) rfl ?_
      have hdkk := (HD2.out.later hb3).othR ho9 hx33 (by omega)
      exact ⟨_, (M.crash kp tn), _, _, _, _, rfl, hdkk, HSP.out, ⟨_, _, _, _, _, _, _, _, _, _, _, _, rfl, (hr3).oth13d ho9 hx33 (by omega), DRow.nil, Nat.le_refl _, Nat.zero_le _, HSY.out.symm, by rw [HSF.out]; rfl, by rw [HSF.out]; rfl⟩, by rw [hlen]; simp only [List.length_nil]; omega, Nat.zero_le _, ((HKX1.out.trans HK2.out).trans (KeepX.ofBelow hb3)).oth14 ho9 (by omega), hdkk.low⟩
    · have g2 : (wh == 2) = false := by simp [h2]
      by_cases h3 : wh = 3
      · subst h3
        have KFU := Lib.hid (dkfuse HD1.out kp)
        have KRF := Lib.hid (fun W => reffuse_any A1 n1 c1 A2 n2 c2 T.room T.vol AL L.length cL M.sy (decide (0 ≤ M.fu)) (max M.fu 0) W kp)
        have HSP := Lib.hid (HP.out.fuse kp hkp)
        clear hdk
        go_enter Tryz.func23, Tryz.ntmps23
        go_wp2_with (first
          | (go_at_call 75; (with_reducible refine KFU.out.mono ?_); rintro e w2 ⟨rfl, hd2, hk2⟩; have hb2 := (below_mid ((HLW.out.trans (HB1.out.mono (by omega))).mono hB) (hd2.low.mono hB) hk2.size hB); have HD2 := Lib.hid hd2; have HK2 := Lib.hid hk2; have HB2 := Lib.hid hb2; have hx1 := HX1.out.keptX hk2 rdisk_notD; have hx2 := HX2.out.keptX hk2 step14_notD; have hx3 := HX3.out.keptX hk2 rdisk_notD; have HX32 := Lib.hid hx3; have a0 := (hx1).cell (j := 0) rfl; have a1 := (hx1).cell (j := 1) rfl; have a2 := (hx1).cell (j := 2) rfl; have a3 := (hx1).cell (j := 3) rfl; have a4 := (hx1).cell (j := 4) rfl; have a5 := (hx1).cell (j := 5) rfl; have a6 := (hx1).cell (j := 6) rfl; have a7 := (hx1).cell (j := 7) rfl; have q9 := hx2.cell (j := 9) rfl; have q10 := hx2.cell (j := 10) rfl; have b0 := (hx3).cell (j := 0) rfl; have bf0 := (hx3).free 0; have b1 := (hx3).cell (j := 1) rfl; have bf1 := (hx3).free 1; have b2 := (hx3).cell (j := 2) rfl; have bf2 := (hx3).free 2; have b3 := (hx3).cell (j := 3) rfl; have bf3 := (hx3).free 3; have b4 := (hx3).cell (j := 4) rfl; have bf4 := (hx3).free 4; have b5 := (hx3).cell (j := 5) rfl; have bf5 := (hx3).free 5; have b6 := (hx3).cell (j := 6) rfl; have bf6 := (hx3).free 6; have b7 := (hx3).cell (j := 7) rfl; have bf7 := (hx3).free 7; clear hd2 hk2 hb2)
          | (go_at_call 76; (with_reducible refine (KRF.out _).mono ?_); rintro e w3 ⟨rfl, hb3⟩; have hx33 := HX32.out.later hb3; have t0 := (hx33).cell (j := 0) rfl; have tf0 := (hx33).free 0; have t1 := (hx33).cell (j := 1) rfl; have tf1 := (hx33).free 1; have t2 := (hx33).cell (j := 2) rfl; have tf2 := (hx33).free 2; have t3 := (hx33).cell (j := 3) rfl; have tf3 := (hx33).free 3; have t4 := (hx33).cell (j := 4) rfl; have tf4 := (hx33).free 4; have t5 := (hx33).cell (j := 5) rfl; have tf5 := (hx33).free 5; have t6 := (hx33).cell (j := 6) rfl; have tf6 := (hx33).free 6; have t7 := (hx33).cell (j := 7) rfl; have tf7 := (hx33).free 7))
        have hsz2 := HK2.out.size
        obtain ⟨V9, hV9, hx9, ho9⟩ := fin8o hx33 (.slice A1 n1 c1) (.slice A2 n2 c2) (.int .i64 T.room) (.int .i64 T.vol) (.slice AL L.length cL) (.int .i64 M.sy) (.bool (decide (0 ≤ kp))) (.int .i64 (max kp 0))
        rw [hV9]
        have k0 := (hx9).cell (j := 0) rfl; have k1 := (hx9).cell (j := 1) rfl; have k2 := (hx9).cell (j := 2) rfl; have k3 := (hx9).cell (j := 3) rfl; have k4 := (hx9).cell (j := 4) rfl; have k5 := (hx9).cell (j := 5) rfl; have k6 := (hx9).cell (j := 6) rfl; have k7 := (hx9).cell (j := 7) rfl
        refine bodyPost_ret (v := .tuple #[.agg (RkC A1 n1 c1 A2 n2 c2 T.room T.vol AL L.length cL M.sy (decide (0 ≤ kp)) (max kp 0)), .bool true]) (by simp [results, Tryz.f23, go_sem, k0, k1, k2, k3, k4, k5, k6, k7]) rfl ?_
        have hdkk := (HD2.out.later hb3).othR ho9 hx33 (by omega)
        exact ⟨_, (M.fuse kp), _, _, _, _, rfl, hdkk, HSP.out, ⟨_, _, _, _, _, _, _, _, _, _, _, _, rfl, ((HR1.out.kD HK2.out HB2.out).below hb3).oth13d ho9 hx33 (by omega), ((HL1.out.kD HK2.out HB2.out).below (by omega) hb3).oth ho9 hx33 (by omega) (by have := hb3.size; omega), hc, hcm, rfl, rfl, rfl⟩, by omega, by omega, ((HKX1.out.trans HK2.out).trans (KeepX.ofBelow hb3)).oth14 ho9 (by omega), hdkk.low⟩
      · have g3 : (wh == 3) = false := by simp [h3]
        obtain ⟨L', z, lf, hL', hz, hdp, hsy, hfd, hlf, krd⟩ := refdo_dp HP.out HR1.out HL1.out hc hcm (by omega) y HYB.out HYF.out HYX.out
        have KRD := Lib.hid krd
        have KTH := Lib.hid (fun W => theirs14_any y W)
        have KDO := Lib.hid (fun W (hb : Below W1.heap.size W1 W) => do14_any (HD1.out.later hb) HP.out.ok (by omega) hfu.2 (by rw [hlen]; omega) y ((HYB.out.below (hb.mono (by omega))).more (by have := hb.size; omega)) hys)
        rw [hz] at KDO
        have HDP := Lib.hid hdp
        have HSY := Lib.hid hsy
        have HFD := Lib.hid hfd
        have HLF := Lib.hid hlf
        have a0 := (HX1.out).cell (j := 0) rfl; have a1 := (HX1.out).cell (j := 1) rfl; have a2 := (HX1.out).cell (j := 2) rfl; have a3 := (HX1.out).cell (j := 3) rfl; have a4 := (HX1.out).cell (j := 4) rfl; have a5 := (HX1.out).cell (j := 5) rfl; have a6 := (HX1.out).cell (j := 6) rfl; have a7 := (HX1.out).cell (j := 7) rfl
        have b1 := (HX2.out).cell (j := 1) rfl; have b2 := (HX2.out).cell (j := 2) rfl; have b3 := (HX2.out).cell (j := 3) rfl; have b4 := (HX2.out).cell (j := 4) rfl; have b5 := (HX2.out).cell (j := 5) rfl; have b6 := (HX2.out).cell (j := 6) rfl; have b7 := (HX2.out).cell (j := 7) rfl; have b8 := (HX2.out).cell (j := 8) rfl
        have gzz : (z == z) = true := by simp
        clear hdk krd hz hdp hsy hfd hlf
        go_enter Tryz.func23, Tryz.ntmps23
        go_upto_region 12 with (go_at_call 77; (with_reducible refine KRD.out.mono ?_); rintro e w2 ⟨A3, n3, c3, A4, n4, c4, AL3, nL3, cL3, rfl, hr3, hl3, hc3, hcm3, hb3⟩; have HR3 := Lib.hid hr3; have HL3 := Lib.hid hl3; have HB3 := Lib.hid hb3; clear hr3 hl3 hb3)
        have hxv := BX.new w2 56 #[.slice A3 n3 c3, .slice A4 n4 c4, .int .i64 T.room, .int .i64 T.vol, .slice AL3 nL3 cL3, .int .i64 M.sy, .bool (decide (0 ≤ M.fu)), .int .i64 lf]
        have hbv := below_new w2 (.cells #[.slice A3 n3 c3, .slice A4 n4 c4, .int .i64 T.room, .int .i64 T.vol, .slice AL3 nL3 cL3, .int .i64 M.sy, .bool (decide (0 ≤ M.fu)), .int .i64 lf] 56)
        obtain ⟨V2, hV2⟩ : ∃ X, w2.alloc (.cells #[.slice A3 n3 c3, .slice A4 n4 c4, .int .i64 T.room, .int .i64 T.vol, .slice AL3 nL3 cL3, .int .i64 M.sy, .bool (decide (0 ≤ M.fu)), .int .i64 lf] 56) = X := ⟨_, rfl⟩
        rw [hV2] at hxv hbv ⊢
        have hb12 := bthen HB3.out hbv
        have HB12 := Lib.hid hb12
        have HXV := Lib.hid hxv
        have HR4 := Lib.hid (HR3.out.below hbv)
        have HL4 := Lib.hid (HL3.out.below (by have := HB3.out.size; omega) hbv)
        have FC := Lib.hid (fun W (hb : Below V2.heap.size V2 W) => show W.cell? ⟨w2.heap.size, 0, none⟩ = some (.slice A3 n3 c3) ∧ W.cell? ⟨w2.heap.size, 1, none⟩ = some (.slice A4 n4 c4) ∧ W.cell? ⟨w2.heap.size, 2, none⟩ = some (.int .i64 T.room) ∧ W.cell? ⟨w2.heap.size, 3, none⟩ = some (.int .i64 T.vol) ∧ W.cell? ⟨w2.heap.size, 4, none⟩ = some (.slice AL3 nL3 cL3) ∧ W.cell? ⟨w2.heap.size, 5, none⟩ = some (.int .i64 M.sy) ∧ W.cell? ⟨w2.heap.size, 6, none⟩ = some (.bool (decide (0 ≤ M.fu))) ∧ W.cell? ⟨w2.heap.size, 7, none⟩ = some (.int .i64 lf) ∧ W.cell? ⟨w.heap.size + 1, 1, none⟩ = some (.int .i64 y.kd) ∧ W.cell? ⟨w.heap.size + 1, 2, none⟩ = some (.string y.p) ∧ W.cell? ⟨w.heap.size + 1, 3, none⟩ = some (.string y.q) ∧ W.cell? ⟨w.heap.size + 1, 4, none⟩ = some (.int .i64 y.a) ∧ W.cell? ⟨w.heap.size + 1, 5, none⟩ = some (.int .i64 y.b) ∧ W.cell? ⟨w.heap.size + 1, 6, none⟩ = some (.int .i64 y.c) ∧ W.cell? ⟨w.heap.size + 1, 7, none⟩ = some (.int .i64 y.d) ∧ W.cell? ⟨w.heap.size + 1, 8, none⟩ = some (.slice y.A y.n y.k) from ⟨(HXV.out.later hb).cell rfl, (HXV.out.later hb).cell rfl, (HXV.out.later hb).cell rfl, (HXV.out.later hb).cell rfl, (HXV.out.later hb).cell rfl, (HXV.out.later hb).cell rfl, (HXV.out.later hb).cell rfl, (HXV.out.later hb).cell rfl, (HX2.out.later (bthen HB12.out hb)).cell rfl, (HX2.out.later (bthen HB12.out hb)).cell rfl, (HX2.out.later (bthen HB12.out hb)).cell rfl, (HX2.out.later (bthen HB12.out hb)).cell rfl, (HX2.out.later (bthen HB12.out hb)).cell rfl, (HX2.out.later (bthen HB12.out hb)).cell rfl, (HX2.out.later (bthen HB12.out hb)).cell rfl, (HX2.out.later (bthen HB12.out hb)).cell rfl⟩)
        have hacc : Below V2.heap.size V2 V2.drew := (Below.refl _ _).drew
        obtain ⟨e0, e1, e2, e3, e4, e5, e6, e7, d0, d1, d2, d3, d4, d5, d6, d7⟩ := FC.out _ hacc
        clear hxv hbv hV2 hb12
        go_region_law (first
          | (go_simp; go_at_call 32; (with_reducible refine (KTH.out _).mono ?_); rintro e w4 ⟨rfl, hb4⟩; have hac4 := bthen hacc hb4; obtain ⟨p0, p1, p2, p3, p4, p5, p6, p7, q0, q1, q2, q3, q4, q5, q6, q7⟩ := FC.out _ hac4)
          | (go_simp; go_at_call 70; (with_reducible refine (KDO.out _ (bthen HB12.out hac4)).mono ?_); rintro e w5 ⟨rfl, h5⟩; have hd5 := h5.out.1; have hk5 := h5.out.2; have hx5 := (HX3.out.later (bthen HB12.out hac4)).keptX hk5 rdisk_notD; have hv5 := (HXV.out.later hac4).keptX hk5 rdisk_notD; have t0 := (hx5).cell (j := 0) rfl; have tf0 := (hx5).free 0; have t1 := (hx5).cell (j := 1) rfl; have tf1 := (hx5).free 1; have t2 := (hx5).cell (j := 2) rfl; have tf2 := (hx5).free 2; have t3 := (hx5).cell (j := 3) rfl; have tf3 := (hx5).free 3; have t4 := (hx5).cell (j := 4) rfl; have tf4 := (hx5).free 4; have t5 := (hx5).cell (j := 5) rfl; have tf5 := (hx5).free 5; have t6 := (hx5).cell (j := 6) rfl; have tf6 := (hx5).free 6; have t7 := (hx5).cell (j := 7) rfl; have tf7 := (hx5).free 7; have v0 := (hv5).cell (j := 0) rfl; have v1 := (hv5).cell (j := 1) rfl; have v2 := (hv5).cell (j := 2) rfl; have v3 := (hv5).cell (j := 3) rfl; have v4 := (hv5).cell (j := 4) rfl; have v5 := (hv5).cell (j := 5) rfl; have v6 := (hv5).cell (j := 6) rfl; have v7 := (hv5).cell (j := 7) rfl))
        all_goals
          go_wp2
          have hb4B : Below B w4 w5 := below_mid (((HLW.out.trans (HB1.out.mono (by omega))).trans ((bthen HB12.out hac4).mono (Nat.le_trans HLW.out.size HB1.out.size))).mono hB) (hd5.low.mono hB) hk5.size hB
          have hs4 := (bthen HB12.out hac4).size
          have hs5 := hk5.size
          have hr5 := (HR4.out.below hac4).kD hk5 hb4B
          have hl5 := (HL4.out.below (by have := HB12.out.size; omega) hac4).kD hk5 hb4B
          obtain ⟨V9, hV9, hx9, ho9⟩ := fin8o hx5 (.slice A3 n3 c3) (.slice A4 n4 c4) (.int .i64 T.room) (.int .i64 T.vol) (.slice AL3 nL3 cL3) (.int .i64 M.sy) (.bool (decide (0 ≤ M.fu))) (.int .i64 lf)
          rw [hV9]
          have k0 := (hx9).cell (j := 0) rfl; have k1 := (hx9).cell (j := 1) rfl; have k2 := (hx9).cell (j := 2) rfl; have k3 := (hx9).cell (j := 3) rfl; have k4 := (hx9).cell (j := 4) rfl; have k5 := (hx9).cell (j := 5) rfl; have k6 := (hx9).cell (j := 6) rfl; have k7 := (hx9).cell (j := 7) rfl
          refine bodyPost_ret (v := .tuple #[.agg (RkC A3 n3 c3 A4 n4 c4 T.room T.vol AL3 nL3 cL3 M.sy (decide (0 ≤ M.fu)) lf), .bool true]) (by simp [results, Tryz.f23, go_sem, k0, k1, k2, k3, k4, k5, k6, k7]) rfl ?_
          have hdkk := (hd5).othR ho9 hx5 (by omega)
          exact ⟨_, (M.dok y.er).1, _, _, _, _, rfl, hdkk, HDP.out, ⟨_, _, _, _, _, _, _, _, _, _, _, _, rfl, (hr5).oth13d ho9 hx5 (by omega), hl5.oth ho9 hx5 (by omega) (by omega), hc3, hcm3, HSY.out.symm, HFD.out.symm, HLF.out.symm⟩, by omega, hL', ((HKX1.out.trans (KeepX.ofBelow (bthen HB12.out hac4))).trans hk5).oth14 ho9 (by omega), hdkk.low⟩
end
end Go.Proofs.YthgbncpiehcghaaGreatDoor
