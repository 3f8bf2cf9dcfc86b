/- THE LAW 'TreeRises'. gen_l15b.py -/
import Derived.Test.YtlgfinlgghcgnaaGreatDoorG15o
import Derived.Test.YtlgfinlgghcgnaaGreatDoorGw2
import Derived.Test.YtlgfinlgghcgnaaGreatDoorGd1
import Derived.Test.YtlgfinlgghcgnaaGreatDoorGm2
import Derived.StillTailTactics
import Derived.Deep.RegionHeld3
namespace Go.Proofs.YtlgfinlgghcgnaaGreatDoor
set_option linter.unusedVariables false
open Go Go.RowKit Go.Maps
set_option maxRecDepth 100000
set_option maxHeartbeats 80000000
open Nt (Tr Nd WF Ps Path at_ cnt used txt Mm Dd)
theorem set8_a {v w5 : World} {U : TypeId} (hb : Below v.heap.size v w5) (c0 c1 c2 c3 c4 c5 c6 c7 : Value) :
    ∃ V, w5.alloc (.cells #[c0, c1, c2, c3, c4, c5, c6, c7] U) = V ∧ BX V w5.heap.size U #[c0, c1, c2, c3, c4, c5, c6, c7] ∧ Below v.heap.size v V :=
  ⟨_, rfl, BX.new w5 U _, bthen hb (below_new w5 _)⟩
theorem set8_b {B a : Nat} {v w5 : World} {U : TypeId} {z0 z1 z2 z3 z4 z5 z6 z7 : Value} (hx : BX w5 a U #[z0, z1, z2, z3, z4, z5, z6, z7]) (hb : Below B v w5) (hB : B ≤ a) (c0 c1 c2 c3 c4 c5 c6 c7 : Value) :
    ∃ V, ((((((((w5.setCell ⟨a, 0, none⟩ c0).setCell ⟨a, 1, none⟩ c1).setCell ⟨a, 2, none⟩ c2).setCell ⟨a, 3, none⟩ c3).setCell ⟨a, 4, none⟩ c4).setCell ⟨a, 5, none⟩ c5).setCell ⟨a, 6, none⟩ c6).setCell ⟨a, 7, none⟩ c7) = V ∧ BX V a U #[c0, c1, c2, c3, c4, c5, c6, c7] ∧ Below B v V :=
  ⟨_, rfl, bx_set8_15 hx _ _ _ _ _ _ _ _, (((((((hb.setCell (p := ⟨a, 0, none⟩) hB _).setCell (p := ⟨a, 1, none⟩) hB _).setCell (p := ⟨a, 2, none⟩) hB _).setCell (p := ⟨a, 3, none⟩) hB _).setCell (p := ⟨a, 4, none⟩) hB _).setCell (p := ⟨a, 5, none⟩) hB _).setCell (p := ⟨a, 6, none⟩) hB _).setCell (p := ⟨a, 7, none⟩) hB _⟩
theorem MRowW.pre {w : World} {A : Option Addr} {n k : Nat} {l : List Mm} (h : MRowW w A n l) (hk : k ≤ n) : MRowW w A k (l.take k) :=
  ⟨⟨by rw [List.length_take, h.1.1]; omega, fun hn => by
    obtain ⟨b, o, e, hb, hc⟩ := h.1.2 (by omega)
    refine ⟨b, o, e, hb, fun j x hj i u hu => hc j x ?_ i u hu⟩
    rw [List.getElem?_take] at hj
    split at hj
    · exact hj
    · cases hj⟩, fun x hx => h.2 x (List.mem_of_mem_take hx)⟩
theorem dif_self : ∀ l : List Mm, (dif l l).2 = false
  | [] => rfl
  | x :: l => by
    unfold dif
    rw [if_pos (by simp [sm])]
    exact dif_self l
theorem eqv_self {T : Tr} {p : ByteArray} (h : Nt.ofE T p = 0) : eqv T p T p = true := by
  unfold eqv
  rw [if_neg (by simp [h]), if_neg (by simp [h]), dif_self]
  rfl
theorem eqv_bad {T : Tr} {p : ByteArray} (h : Nt.ofE T p ≠ 0) : eqv T p T p = false := by
  unfold eqv
  rw [if_pos h]
theorem at_equal2 {w0 w : World} {tb tb2 K : Nat} {T : Tr} (h : At w0 w tb T K) (h2 : At w0 w tb2 T K) (hK : K ≤ 90000) (hT : Nt.Mok T) (hX : Nt.Bok T) (p q : ByteArray) (hp : p.size ≤ 100000) (hq : q.size ≤ 100000) :
    Calls Tryz.prog 55 #[.pointer (some ⟨tb, 0, none⟩), .string p, .pointer (some ⟨tb2, 0, none⟩), .string q] w fun e w' => e = .returned (.bool (eqv T p T q)) ∧ Below w.heap.size w w' := by
  obtain ⟨F, ad, mb, hF, hR⟩ := h.rep
  obtain ⟨F2, ad2, mb2, hF2, hR2⟩ := h2.rep
  exact equal15 h.wf hK hT hX hR h2.wf hK hT hX hR2 p q hp hq
/-- A member that is found: all but the place of its bytes is told. -/
theorem found15 {A : Option Addr} {n c : Nat} {l : List Mm} {p : ByteArray} {w : World} {y : Mm} (h : Calls Tryz.prog 52 #[.slice A n c, .string p] w fun e w' => ∃ y : Mm, e = .returned (.tuple #[.agg (MmC y), .bool (fm l p).isSome]) ∧ erm y = erm ((fm l p).getD mmz) ∧ MmW w' y ∧ Below w.heap.size w w') (hy : fm l p = some y) :
    Calls Tryz.prog 52 #[.slice A n c, .string p] w fun e w' => ∃ (yp yl : ByteArray) (yA : Option Addr) (yn yc : Nat), e = .returned (.tuple #[.agg #[.string yp, .int .i64 y.2.kind, .int .i64 y.2.mode, .int .i64 y.2.uid, .int .i64 y.2.gid, .int .i64 y.2.mtime, .string yl, .slice yA yn yc], .bool true]) ∧ Below w.heap.size w w' := by
  refine h.mono ?_
  rintro e w' ⟨z, rfl, he, _, hb⟩
  rw [hy] at he ⊢
  have h1 : z.2.kind = y.2.kind := (congrArg (fun m : Mm => m.2.kind) he : (erm z).2.kind = (erm y).2.kind)
  have h2 : z.2.mode = y.2.mode := (congrArg (fun m : Mm => m.2.mode) he : (erm z).2.mode = (erm y).2.mode)
  have h3 : z.2.uid = y.2.uid := (congrArg (fun m : Mm => m.2.uid) he : (erm z).2.uid = (erm y).2.uid)
  have h4 : z.2.gid = y.2.gid := (congrArg (fun m : Mm => m.2.gid) he : (erm z).2.gid = (erm y).2.gid)
  have h5 : z.2.mtime = y.2.mtime := (congrArg (fun m : Mm => m.2.mtime) he : (erm z).2.mtime = (erm y).2.mtime)
  refine ⟨z.1, z.2.link, z.2.A, z.2.n, z.2.c, ?_, hb⟩
  rw [← h1, ← h2, ← h3, ← h4, ← h5]
  rfl
theorem told15 {A : Option Addr} {n c : Nat} {p : ByteArray} {w : World} {is : Bool} {y0 : Mm} (h : Calls Tryz.prog 52 #[.slice A n c, .string p] w fun e w' => ∃ y : Mm, e = .returned (.tuple #[.agg (MmC y), .bool is]) ∧ erm y = erm y0 ∧ MmW w' y ∧ Below w.heap.size w w') :
    Calls Tryz.prog 52 #[.slice A n c, .string p] w fun e w' => ∃ (yp yl : ByteArray) (yk ym yu yg yt : Int) (yA : Option Addr) (yn yc : Nat), e = .returned (.tuple #[.agg #[.string yp, .int .i64 yk, .int .i64 ym, .int .i64 yu, .int .i64 yg, .int .i64 yt, .string yl, .slice yA yn yc], .bool is]) ∧ Below w.heap.size w w' := by
  refine h.mono ?_
  rintro e w' ⟨z, rfl, he, _, hb⟩
  exact ⟨z.1, z.2.link, z.2.kind, z.2.mode, z.2.uid, z.2.gid, z.2.mtime, z.2.A, z.2.n, z.2.c, rfl, hb⟩
theorem treerises_walk (A : Option Addr) (n c : Nat) (l : List Dd) (root : ByteArray) (w : World) (hl : QL w w.heap.size A n l) (hc : n ≤ c) (hc2 : c ≤ maxLen) (hy : ∀ y ∈ l, DdOk y) (hroot : root.size ≤ maxLen) :
    Calls Tryz.prog 9 #[.slice A n c, .string root] w fun e w' => e = .returned (.bool true) ∧ Below w.heap.size w w' := by
  have AL := Lib.hid (fun W => alive15_any W)
  have KG := Lib.hid (lgrown_any A n c l w hl hc hc2 hy)
  clear hl hc hc2 hy
  go_enter Tryz.func9, Tryz.ntmps9
  go_upto_region 2 with (go_at_call 44; (with_reducible refine KG.out.mono ?_); rintro e w1 ⟨tb, T, K, A1, n1, c1, A2, n2, c2, ok, rfl, ha, hK, ht, hm, hb⟩; have HA := Lib.hid ha; have HM := Lib.hid hm; have HBk := Lib.hid hb; clear ha ht hm hb)
  obtain ⟨V0, hV0⟩ : ∃ V, w1.alloc (.cells (RvC A1 n1 c1 A2 n2 c2 T.room T.vol) 29) = V := ⟨_, rfl⟩
  have hb0 := below_new w1 (.cells (RvC A1 n1 c1 A2 n2 c2 T.room T.vol) 29)
  rw [hV0] at hb0 ⊢
  have HA0 := Lib.hid (HA.out.later hb0)
  clear hb0 hV0 HA
  cases ok with
  | false =>
    go_wp2_with (go_at_call 45; (with_reducible refine (AL.out _).mono ?_); rintro e w3 ⟨rfl, hb3⟩; have HB3 := Lib.hid (bthen HA0.out.low hb3); clear hb3)
    go_ret
    exact ⟨rfl, HB3.out⟩
  | true =>
    by_cases hr4 : 400 < root.size
    · have g4 : (400 : Int) < root.size := by omega
      go_wp2_with (go_at_call 45; (with_reducible refine (AL.out _).mono ?_); rintro e w3 ⟨rfl, hb3⟩; have HB3 := Lib.hid (bthen HA0.out.low hb3); clear hb3)
      go_ret
      exact ⟨rfl, HB3.out⟩
    · have g4 : ¬ (400 : Int) < root.size := by omega
      have KO := Lib.hid (at_of HA0.out (by omega) HM.out HBk.out root (by omega))
      by_cases h0 : Nt.ofE T root = 0
      · have hofl := ofL_len HA0.out.wf root
        rw [h0] at KO
        have KE := Lib.hid (fun W tb2 (h1 : At w W tb T K) (h2 : At w W tb2 T K) => at_equal2 h1 h2 (by omega) HM.out HBk.out root root (by omega) (by omega))
        simp only [eqv_self h0] at KE
        have KC := Lib.hid (fun W (h : At w W tb T K) => at_clone h (by omega))
        clear h0
        go_upto_region 7 with (go_at_call 46; (with_reducible refine KO.out.mono ?_); rintro e w2 ⟨B2, d2, L, rfl, hL, hmr, hLc, hLm, hb2⟩; have HL := Lib.hid hL; have HMR := Lib.hid hmr.weak; have HLC := Lib.hid hLc; have HB2 := Lib.hid hb2; clear hL hmr hLc hb2)
        have HRISE := Lib.hid (fun i x (hx : L[i]? = some x) => Nt.rise_ok (L := L) HA0.out.wf (by omega) (p := root) HL.out i x hx)
        have hLn : L.length ≤ 100000 := by
          have h1 := congrArg List.length HL.out
          rw [List.length_map, List.length_map] at h1
          omega
        have HD : Hid (∀ x ∈ L, x.2.n ≤ 1000000) := fun x hx => by
          obtain ⟨i, hi, he⟩ := List.getElem_of_mem hx
          have := (HRISE.out i x (by rw [List.getElem?_eq_getElem hi, he])).small.2
          omega
        have HA2 := Lib.hid (HA0.out.later HB2.out)
        have hLc2 : (L.length : Int) ≤ d2 := by have := HLC.out; omega
        obtain ⟨N, hN⟩ : ∃ N, L.length = N := ⟨_, rfl⟩
        rw [hN] at HMR hLn hLc2 ⊢
        have HNN := Lib.hid hN
        have hLc3 : N ≤ d2 := by omega
        clear HL hofl KO hN
        go_wp2
        go_loopw [55] (fun i W => ∃ j : Nat, j ≤ N ∧ i = .int .i64 j ∧ Hid (Below w2.heap.size w2 W)) (fun i _ => N - (intOf i).toNat)
        case atStart => exact ⟨0, Nat.zero_le _, rfl, Below.refl _ _⟩
        case round =>
          obtain ⟨j, hj, rfl, HB⟩ := hrel
          by_cases hlt : j < N
          · have hlt' : (j : Int) < N := by omega
            have hMR := HMR.out.below HB.out
            obtain ⟨b, o, x, rfl, hx, hcl⟩ := mrow_at hMR.1 hlt
            obtain ⟨z0, z1, z2, z3, z4, z5, z6, z7⟩ := hcl _ (Below.refl _ _)
            have hR := HRISE.out j x hx
            have hPREV : ∀ W, Below wr.heap.size wr W → ∀ k, j = k + 1 → ∃ y, L[k]? = some y ∧ W.cell? ⟨b, o + k * 8, none⟩ = some (.string y.1) ∧ y.1.size ≤ 1000000 := fun W h k hk => by
              obtain ⟨b', o', y, e', hy', hc'⟩ := mrow_at hMR.1 (show k < N by omega)
              cases e'
              exact ⟨y, hy', (hc' W h).1, (HRISE.out k y hy').small.1⟩
            have HPREV := Lib.hid hPREV
            obtain ⟨xp, xk, xm, xu, xg, xt, xl, xA, xn, xc, xxs⟩ := x
            have HR := Lib.hid hR
            have hxs : xp.size ≤ 1000000 := hR.small.1
            have hbx := BX.new wr 105 #[.string xp, .int .i64 xk, .int .i64 xm, .int .i64 xu, .int .i64 xg, .int .i64 xt, .string xl, .slice xA xn xc]
            have hbw := below_new wr (.cells #[.string xp, .int .i64 xk, .int .i64 xm, .int .i64 xu, .int .i64 xg, .int .i64 xt, .string xl, .slice xA xn xc] 105)
            obtain ⟨V1, hV1⟩ : ∃ V, wr.alloc (.cells #[.string xp, .int .i64 xk, .int .i64 xm, .int .i64 xu, .int .i64 xg, .int .i64 xt, .string xl, .slice xA xn xc] 105) = V := ⟨_, rfl⟩
            rw [hV1] at hbx hbw
            have HXB := Lib.hid (fun W (h : Below V1.heap.size V1 W) => hbx.later h)
            have HBV := Lib.hid hbw
            have HXX := Lib.hid hx
            have s0 := (hbx).cell (j := 0) rfl; have s1 := (hbx).cell (j := 1) rfl; have s2 := (hbx).cell (j := 2) rfl; have s3 := (hbx).cell (j := 3) rfl; have s4 := (hbx).cell (j := 4) rfl; have s5 := (hbx).cell (j := 5) rfl; have s6 := (hbx).cell (j := 6) rfl; have s7 := (hbx).cell (j := 7) rfl
            have hMV := Lib.hid (hMR.below hbw)
            clear hcl hMR hR hbx hbw hx hPREV
            go_upto_region 10 with (fail)
            go_cut [73] (fun v wx => v = .bool false ∧ Hid (Below V1.heap.size V1 wx))
            case first =>
              have hd1 : Below V1.heap.size V1 V1.drew := (Below.refl _ _).drew
              have XB1 := HXB.out _ hd1
              have d0 := (XB1).cell (j := 0) rfl; have d1 := (XB1).cell (j := 1) rfl; have d2 := (XB1).cell (j := 2) rfl; have d3 := (XB1).cell (j := 3) rfl; have d4 := (XB1).cell (j := 4) rfl; have d5 := (XB1).cell (j := 5) rfl; have d6 := (XB1).cell (j := 6) rfl; have d7 := (XB1).cell (j := 7) rfl
              rcases j with _ | j
              · go_quiet (fail)
                go_wp2
                go_meet
                exact ⟨rfl, below_drewN (Below.refl _ V1) _⟩
              · obtain ⟨y, hyy, hyc, hys⟩ := HPREV.out V1.drew (bthen HBV.out hd1) j rfl
                have hsub : IntKind.i64.wrap (((j + 1 : Nat) : Int) - 1) = (j : Int) := by rw [wrap_small (by omega) (by omega)]; omega
                have hsub2 : IntKind.i64.wrap ((j : Int) + 1 - 1) = (j : Int) := by rw [wrap_small (by omega) (by omega)]; omega
                have hsub3 : IntKind.i64.wrap (j : Int) = (j : Int) := wrap_small (by omega) (by omega)
                have hj0 : (0 : Int) ≤ j := by omega
                have hj1 : (j : Int) < N := by omega
                have hjt : ((j : Int)).toNat = j := by omega
                have hless := HR.out.less y (by omega) hyy
                have KL := Lib.hid (fun W => refless_any y.1 xp W hys hxs)
                simp only [hless] at KL
                have hpy : ∀ W, Below V1.heap.size V1 W → W.cell? ⟨b, o + j * 8, none⟩ = some (.string y.1) := fun W h => by
                  obtain ⟨y', hy', hc', _⟩ := HPREV.out W (bthen HBV.out h) j rfl
                  rw [hyy] at hy'
                  cases hy'
                  exact hc'
                have HPY := Lib.hid hpy
                generalize y.1 = yp at *
                clear hyy hless hpy
                have hacc := hd1
                have SS := Lib.hid (fun W (h : Below V1.heap.size V1 W) => show W.cell? ⟨b, o + j * 8, none⟩ = some (.string yp) ∧ W.cell? ⟨wr.heap.size, 0, none⟩ = some (.string xp) from ⟨HPY.out W h, (HXB.out W h).cell rfl⟩)
                go_region_held3 (fun W => W.cell? ⟨b, o + j * 8, none⟩ = some (.string yp) ∧ W.cell? ⟨wr.heap.size, 0, none⟩ = some (.string xp))
                  (first | go_keep | (exact SS.out _ hacc))
                  (first | (go_at_call 56; (with_reducible refine (KL.out _).mono ?_); rintro e w4 ⟨rfl, hb4⟩; replace hacc := bthen hacc hb4; obtain ⟨v0, v1⟩ := SS.out _ hacc))
                go_wp2
                go_meet
                exact ⟨rfl, hacc⟩
            case rest =>
              obtain ⟨rfl, HC⟩ := hcut
              have XBc := HXB.out _ HC.out
              have f0 := (XBc).cell (j := 0) rfl; have f1 := (XBc).cell (j := 1) rfl; have f2 := (XBc).cell (j := 2) rfl; have f3 := (XBc).cell (j := 3) rfl; have f4 := (XBc).cell (j := 4) rfl; have f5 := (XBc).cell (j := 5) rfl; have f6 := (XBc).cell (j := 6) rfl; have f7 := (XBc).cell (j := 7) rfl
              obtain ⟨r, hr⟩ := Pp.last_ex xp xp.size (Nat.le_refl _)
              have KP := Lib.hid (fun W => refparent_any xp W hxs r hr)
              have hpt := par_text hr
              have hjd : (j : Int) ≤ d2 := by omega
              have hjd2 : j ≤ d2 := by omega
              have hjd3 : ¬ d2 = j := by omega
              have hjp : (0 : Int) ≤ j := by omega
              have hjtt : ((j : Int)).toNat = j := by omega
              obtain ⟨pp, hpp⟩ : ∃ pp, parentS xp r = pp := ⟨_, rfl⟩
              rw [hpp] at KP hpt
              have KF := Lib.hid (fun q W (h : Below V1.heap.size V1 W) => tFind_any (some ⟨b, o, none⟩) j d2 (L.take j) q W ((hMV.out.below h).pre (by omega)) (by omega) (fun x hx => HD.out x (List.mem_of_mem_take hx)))
              by_cases hp0 : pp.size = 0
              · have ge : pp.toList.isEmpty = true := by rw [isEmpty_eq]; simp [hp0]
                clear hpt hpp hr
                by_cases hk2 : xk = 2
                · obtain ⟨zz, hzf, hz1, hz2, hz3, hz4, hz5⟩ := HR.out.link hk2
                  subst hk2
                  have KFL := Lib.hid (fun W (h : Below V1.heap.size V1 W) => found15 (KF.out xl W h) hzf)
                  obtain ⟨zzp, zzk, zzm, zzu, zzg, zzt, zzl, zzA, zzn, zzc, zzs⟩ := zz
                  simp only at hz1 hz2 hz3 hz4 hz5
                  replace hz2 := hz2.symm; replace hz3 := hz3.symm; replace hz4 := hz4.symm; replace hz5 := hz5.symm
                  subst hz1; subst hz2; subst hz3; subst hz4; subst hz5
                  clear hzf KF
                  go_upto_region 17 with (go_at_call 57; (with_reducible refine (KP.out _).mono ?_); rintro e w4 ⟨rfl, rfl⟩)
                  have hd6 : Below V1.heap.size V1 wc.drew := (HC.out).drew
                  have XB6 := HXB.out _ hd6
                  have e0 := (XB6).cell (j := 0) rfl; have e1 := (XB6).cell (j := 1) rfl; have e2 := (XB6).cell (j := 2) rfl; have e3 := (XB6).cell (j := 3) rfl; have e4 := (XB6).cell (j := 4) rfl; have e5 := (XB6).cell (j := 5) rfl; have e6 := (XB6).cell (j := 6) rfl; have e7 := (XB6).cell (j := 7) rfl
                  have XB8 := HXB.out _ ((bthen (HC.out) (below_new wc (.cells #[.string ⟨#[]⟩, .int .i64 0, .int .i64 0, .int .i64 0, .int .i64 0, .int .i64 0, .string ⟨#[]⟩, .slice none 0 0] 105))).drew)
                  have h0 := (XB8).cell (j := 0) rfl; have h1 := (XB8).cell (j := 1) rfl; have h2 := (XB8).cell (j := 2) rfl; have h3 := (XB8).cell (j := 3) rfl; have h4 := (XB8).cell (j := 4) rfl; have h5 := (XB8).cell (j := 5) rfl; have h6 := (XB8).cell (j := 6) rfl; have h7 := (XB8).cell (j := 7) rfl
                  refine wp_region_any (by kernel_rfl) ?_
                  change wpAny _ _ _ _ _ _ _ (World.drew _)
                  refine wpAny_take (i := 0) (v := .slice (some ⟨b, o, none⟩) N d2) rfl (by kernel_rfl) (by kernel_rfl) (by kernel_rfl) (fun _ _ _ h => h) (Or.inl ⟨by kernel_rfl, fun w => by go_simp⟩) ?_
                  refine wpAny_take (i := 1) (v := .int .i64 (j : Nat)) rfl (by kernel_rfl) (by kernel_rfl) (by kernel_rfl) (fun _ _ _ h => h) (Or.inl ⟨by kernel_rfl, fun w => by go_simp⟩) ?_
                  refine wpAny_take (i := 2) (v := .slice (some ⟨b, o, none⟩) j d2) rfl (by kernel_rfl) (by kernel_rfl) (by kernel_rfl) (fun _ _ _ h => h) (Or.inl ⟨by kernel_rfl, fun w => by go_simp⟩) ?_
                  refine wpAny_take (i := 3) (v := .pointer (some ⟨wr.heap.size, 6, none⟩)) rfl (by kernel_rfl) (by kernel_rfl) (by kernel_rfl) (fun _ _ _ h => h) (Or.inl ⟨by kernel_rfl, fun w => by go_simp⟩) ?_
                  refine wpAny_ready (rs := [4, 9]) (by kernel_rfl) (by simp) ?_
                  refine AllReady.cons rfl (fun K hK => ?_) (AllReady.cons rfl (fun K hK => ?_) AllReady.nil)
                  · rw [if_pos (by kernel_rfl)]
                    go_simp
                    refine hK _ _ ?_
                    clear hK K
                    refine wpAny_ready (rs := [5, 9]) (by kernel_rfl) (by simp) ?_
                    refine AllReady.cons rfl (fun K hK => ?_) (AllReady.cons rfl (fun K hK => ?_) AllReady.nil)
                    · rw [if_pos (by kernel_rfl)]
                      go_simp
                      go_at_call 52
                      (with_reducible refine (KFL.out _ hd6).mono ?_)
                      rintro e w7 ⟨zp, zl, zA, zn, zc, rfl, hb7⟩
                      have hacc7 := bthen hd6 hb7
                      have XB7 := HXB.out _ hacc7
                      have u0 := (XB7).cell (j := 0) rfl; have u1 := (XB7).cell (j := 1) rfl; have u2 := (XB7).cell (j := 2) rfl; have u3 := (XB7).cell (j := 3) rfl; have u4 := (XB7).cell (j := 4) rfl; have u5 := (XB7).cell (j := 5) rfl; have u6 := (XB7).cell (j := 6) rfl; have u7 := (XB7).cell (j := 7) rfl
                      refine hK _ _ ?_
                      clear hK K
                      refine wpAny_take (i := 6) (v := .tuple #[.agg #[.string zp, .int .i64 1, .int .i64 xm, .int .i64 xu, .int .i64 xg, .int .i64 xt, .string zl, .slice zA zn zc], .bool true]) rfl (by kernel_rfl) (by kernel_rfl) (by kernel_rfl) (fun _ _ _ h => h) (Or.inl ⟨by kernel_rfl, fun w => by go_simp⟩) ?_
                      refine wpAny_take (i := 7) (v := .agg #[.string zp, .int .i64 1, .int .i64 xm, .int .i64 xu, .int .i64 xg, .int .i64 xt, .string zl, .slice zA zn zc]) rfl (by kernel_rfl) (by kernel_rfl) (by kernel_rfl) (fun _ _ _ h => h) (Or.inl ⟨by kernel_rfl, fun w => by go_simp⟩) ?_
                      refine wpAny_take (i := 8) (v := .bool true) rfl (by kernel_rfl) (by kernel_rfl) (by kernel_rfl) (fun _ _ _ h => h) (Or.inl ⟨by kernel_rfl, fun w => by go_simp⟩) ?_
                      refine wpAny_ready (rs := [9]) (by kernel_rfl) (by simp) ?_
                      refine AllReady.cons rfl (fun K hK => ?_) AllReady.nil
                      rw [if_pos (by kernel_rfl)]
                      go_simp
                      refine hK _ _ ?_
                      clear hK K
                      refine wpAny_ready (rs := [10]) (by kernel_rfl) (by simp) ?_
                      refine AllReady.cons rfl (fun K hK => ?_) AllReady.nil
                      rw [if_pos (by kernel_rfl)]
                      go_simp
                      refine hK _ _ ?_
                      clear hK K
                      refine wpAny_ready (rs := [11]) (by kernel_rfl) (by simp) ?_
                      refine AllReady.cons rfl (fun K hK => ?_) AllReady.nil
                      rw [if_pos (by kernel_rfl)]
                      go_simp
                      refine hK _ _ ?_
                      clear hK K
                      refine wpAny_done (by kernel_rfl) ?_ _
                      obtain ⟨V9, hV9, bx9, hbd9⟩ := set8_a (U := 105) hacc7 (.string zp) (.int .i64 1) (.int .i64 xm) (.int .i64 xu) (.int .i64 xg) (.int .i64 xt) (.string zl) (.slice zA zn zc)
                      rw [hV9]
                      have b0 := (bx9).cell (j := 0) rfl; have b1 := (bx9).cell (j := 1) rfl; have b2 := (bx9).cell (j := 2) rfl; have b3 := (bx9).cell (j := 3) rfl; have b4 := (bx9).cell (j := 4) rfl; have b5 := (bx9).cell (j := 5) rfl; have b6 := (bx9).cell (j := 6) rfl; have b7 := (bx9).cell (j := 7) rfl
                      have XB9 := HXB.out _ hbd9
                      have v0 := (XB9).cell (j := 0) rfl; have v1 := (XB9).cell (j := 1) rfl; have v2 := (XB9).cell (j := 2) rfl; have v3 := (XB9).cell (j := 3) rfl; have v4 := (XB9).cell (j := 4) rfl; have v5 := (XB9).cell (j := 5) rfl; have v6 := (XB9).cell (j := 6) rfl; have v7 := (XB9).cell (j := 7) rfl
                      go_wp2
                      go_roundw
                      case rel => exact ⟨j + 1, by omega, by go_num, bthen (bthen HB.out HBV.out) hbd9⟩
                      case measure => simp [intOf]; omega
                    · rw [if_pos (by kernel_rfl)]
                      go_simp
                      refine hK _ _ ?_
                      clear hK K
                      refine wpAny_ready (rs := [5]) (by kernel_rfl) (by simp) ?_
                      refine AllReady.cons rfl (fun K hK => ?_) AllReady.nil
                      rw [if_pos (by kernel_rfl)]
                      go_simp
                      go_at_call 52
                      (with_reducible refine (KFL.out _ ((bthen HC.out (below_new wc (.cells #[.string ⟨#[]⟩, .int .i64 0, .int .i64 0, .int .i64 0, .int .i64 0, .int .i64 0, .string ⟨#[]⟩, .slice none 0 0] 105))).drew)).mono ?_)
                      rintro e w7 ⟨zp, zl, zA, zn, zc, rfl, hb7⟩
                      have hacc7 := bthen ((bthen HC.out (below_new wc (.cells #[.string ⟨#[]⟩, .int .i64 0, .int .i64 0, .int .i64 0, .int .i64 0, .int .i64 0, .string ⟨#[]⟩, .slice none 0 0] 105))).drew) hb7
                      have bz := (show BX (wc.alloc (.cells #[.string ⟨#[]⟩, .int .i64 0, .int .i64 0, .int .i64 0, .int .i64 0, .int .i64 0, .string ⟨#[]⟩, .slice none 0 0] 105)).drew wc.heap.size 105 #[.string ⟨#[]⟩, .int .i64 0, .int .i64 0, .int .i64 0, .int .i64 0, .int .i64 0, .string ⟨#[]⟩, .slice none 0 0] from BX.new wc 105 #[.string ⟨#[]⟩, .int .i64 0, .int .i64 0, .int .i64 0, .int .i64 0, .int .i64 0, .string ⟨#[]⟩, .slice none 0 0]).later hb7
                      have bc0 := bz.cell (j := 0) rfl; have bf0 := bz.free 0; have bc1 := bz.cell (j := 1) rfl; have bf1 := bz.free 1; have bc2 := bz.cell (j := 2) rfl; have bf2 := bz.free 2; have bc3 := bz.cell (j := 3) rfl; have bf3 := bz.free 3; have bc4 := bz.cell (j := 4) rfl; have bf4 := bz.free 4; have bc5 := bz.cell (j := 5) rfl; have bf5 := bz.free 5; have bc6 := bz.cell (j := 6) rfl; have bf6 := bz.free 6; have bc7 := bz.cell (j := 7) rfl; have bf7 := bz.free 7
                      have XB7 := HXB.out _ hacc7
                      have u0 := (XB7).cell (j := 0) rfl; have u1 := (XB7).cell (j := 1) rfl; have u2 := (XB7).cell (j := 2) rfl; have u3 := (XB7).cell (j := 3) rfl; have u4 := (XB7).cell (j := 4) rfl; have u5 := (XB7).cell (j := 5) rfl; have u6 := (XB7).cell (j := 6) rfl; have u7 := (XB7).cell (j := 7) rfl
                      refine hK _ _ ?_
                      clear hK K
                      refine wpAny_take (i := 6) (v := .tuple #[.agg #[.string zp, .int .i64 1, .int .i64 xm, .int .i64 xu, .int .i64 xg, .int .i64 xt, .string zl, .slice zA zn zc], .bool true]) rfl (by kernel_rfl) (by kernel_rfl) (by kernel_rfl) (fun _ _ _ h => h) (Or.inl ⟨by kernel_rfl, fun w => by go_simp⟩) ?_
                      refine wpAny_take (i := 7) (v := .agg #[.string zp, .int .i64 1, .int .i64 xm, .int .i64 xu, .int .i64 xg, .int .i64 xt, .string zl, .slice zA zn zc]) rfl (by kernel_rfl) (by kernel_rfl) (by kernel_rfl) (fun _ _ _ h => h) (Or.inl ⟨by kernel_rfl, fun w => by go_simp⟩) ?_
                      refine wpAny_take (i := 8) (v := .bool true) rfl (by kernel_rfl) (by kernel_rfl) (by kernel_rfl) (fun _ _ _ h => h) (Or.inl ⟨by kernel_rfl, fun w => by go_simp⟩) ?_
                      refine wpAny_ready (rs := [10]) (by kernel_rfl) (by simp) ?_
                      refine AllReady.cons rfl (fun K hK => ?_) AllReady.nil
                      rw [if_pos (by kernel_rfl)]
                      go_simp
                      refine hK _ _ ?_
                      clear hK K
                      refine wpAny_ready (rs := [11]) (by kernel_rfl) (by simp) ?_
                      refine AllReady.cons rfl (fun K hK => ?_) AllReady.nil
                      rw [if_pos (by kernel_rfl)]
                      go_simp
                      refine hK _ _ ?_
                      clear hK K
                      refine wpAny_done (by kernel_rfl) ?_ _
                      obtain ⟨V9, hV9, bx9, hbd9⟩ := set8_b bz hacc7 (HC.out).size (.string zp) (.int .i64 1) (.int .i64 xm) (.int .i64 xu) (.int .i64 xg) (.int .i64 xt) (.string zl) (.slice zA zn zc)
                      rw [hV9]
                      have b0 := (bx9).cell (j := 0) rfl; have b1 := (bx9).cell (j := 1) rfl; have b2 := (bx9).cell (j := 2) rfl; have b3 := (bx9).cell (j := 3) rfl; have b4 := (bx9).cell (j := 4) rfl; have b5 := (bx9).cell (j := 5) rfl; have b6 := (bx9).cell (j := 6) rfl; have b7 := (bx9).cell (j := 7) rfl
                      have XB9 := HXB.out _ hbd9
                      have v0 := (XB9).cell (j := 0) rfl; have v1 := (XB9).cell (j := 1) rfl; have v2 := (XB9).cell (j := 2) rfl; have v3 := (XB9).cell (j := 3) rfl; have v4 := (XB9).cell (j := 4) rfl; have v5 := (XB9).cell (j := 5) rfl; have v6 := (XB9).cell (j := 6) rfl; have v7 := (XB9).cell (j := 7) rfl
                      go_wp2
                      go_roundw
                      case rel => exact ⟨j + 1, by omega, by go_num, bthen (bthen HB.out HBV.out) hbd9⟩
                      case measure => simp [intOf]; omega
                  · rw [if_pos (by kernel_rfl)]
                    go_simp
                    refine hK _ _ ?_
                    clear hK K
                    refine wpAny_ready (rs := [4]) (by kernel_rfl) (by simp) ?_
                    refine AllReady.cons rfl (fun K hK => ?_) AllReady.nil
                    rw [if_pos (by kernel_rfl)]
                    go_simp
                    refine hK _ _ ?_
                    clear hK K
                    refine wpAny_ready (rs := [5]) (by kernel_rfl) (by simp) ?_
                    refine AllReady.cons rfl (fun K hK => ?_) AllReady.nil
                    rw [if_pos (by kernel_rfl)]
                    go_simp
                    go_at_call 52
                    (with_reducible refine (KFL.out _ ((bthen HC.out (below_new wc (.cells #[.string ⟨#[]⟩, .int .i64 0, .int .i64 0, .int .i64 0, .int .i64 0, .int .i64 0, .string ⟨#[]⟩, .slice none 0 0] 105))).drew)).mono ?_)
                    rintro e w7 ⟨zp, zl, zA, zn, zc, rfl, hb7⟩
                    have hacc7 := bthen ((bthen HC.out (below_new wc (.cells #[.string ⟨#[]⟩, .int .i64 0, .int .i64 0, .int .i64 0, .int .i64 0, .int .i64 0, .string ⟨#[]⟩, .slice none 0 0] 105))).drew) hb7
                    have bz := (show BX (wc.alloc (.cells #[.string ⟨#[]⟩, .int .i64 0, .int .i64 0, .int .i64 0, .int .i64 0, .int .i64 0, .string ⟨#[]⟩, .slice none 0 0] 105)).drew wc.heap.size 105 #[.string ⟨#[]⟩, .int .i64 0, .int .i64 0, .int .i64 0, .int .i64 0, .int .i64 0, .string ⟨#[]⟩, .slice none 0 0] from BX.new wc 105 #[.string ⟨#[]⟩, .int .i64 0, .int .i64 0, .int .i64 0, .int .i64 0, .int .i64 0, .string ⟨#[]⟩, .slice none 0 0]).later hb7
                    have bc0 := bz.cell (j := 0) rfl; have bf0 := bz.free 0; have bc1 := bz.cell (j := 1) rfl; have bf1 := bz.free 1; have bc2 := bz.cell (j := 2) rfl; have bf2 := bz.free 2; have bc3 := bz.cell (j := 3) rfl; have bf3 := bz.free 3; have bc4 := bz.cell (j := 4) rfl; have bf4 := bz.free 4; have bc5 := bz.cell (j := 5) rfl; have bf5 := bz.free 5; have bc6 := bz.cell (j := 6) rfl; have bf6 := bz.free 6; have bc7 := bz.cell (j := 7) rfl; have bf7 := bz.free 7
                    have XB7 := HXB.out _ hacc7
                    have u0 := (XB7).cell (j := 0) rfl; have u1 := (XB7).cell (j := 1) rfl; have u2 := (XB7).cell (j := 2) rfl; have u3 := (XB7).cell (j := 3) rfl; have u4 := (XB7).cell (j := 4) rfl; have u5 := (XB7).cell (j := 5) rfl; have u6 := (XB7).cell (j := 6) rfl; have u7 := (XB7).cell (j := 7) rfl
                    refine hK _ _ ?_
                    clear hK K
                    refine wpAny_take (i := 6) (v := .tuple #[.agg #[.string zp, .int .i64 1, .int .i64 xm, .int .i64 xu, .int .i64 xg, .int .i64 xt, .string zl, .slice zA zn zc], .bool true]) rfl (by kernel_rfl) (by kernel_rfl) (by kernel_rfl) (fun _ _ _ h => h) (Or.inl ⟨by kernel_rfl, fun w => by go_simp⟩) ?_
                    refine wpAny_take (i := 7) (v := .agg #[.string zp, .int .i64 1, .int .i64 xm, .int .i64 xu, .int .i64 xg, .int .i64 xt, .string zl, .slice zA zn zc]) rfl (by kernel_rfl) (by kernel_rfl) (by kernel_rfl) (fun _ _ _ h => h) (Or.inl ⟨by kernel_rfl, fun w => by go_simp⟩) ?_
                    refine wpAny_take (i := 8) (v := .bool true) rfl (by kernel_rfl) (by kernel_rfl) (by kernel_rfl) (fun _ _ _ h => h) (Or.inl ⟨by kernel_rfl, fun w => by go_simp⟩) ?_
                    refine wpAny_ready (rs := [10]) (by kernel_rfl) (by simp) ?_
                    refine AllReady.cons rfl (fun K hK => ?_) AllReady.nil
                    rw [if_pos (by kernel_rfl)]
                    go_simp
                    refine hK _ _ ?_
                    clear hK K
                    refine wpAny_ready (rs := [11]) (by kernel_rfl) (by simp) ?_
                    refine AllReady.cons rfl (fun K hK => ?_) AllReady.nil
                    rw [if_pos (by kernel_rfl)]
                    go_simp
                    refine hK _ _ ?_
                    clear hK K
                    refine wpAny_done (by kernel_rfl) ?_ _
                    obtain ⟨V9, hV9, bx9, hbd9⟩ := set8_b bz hacc7 (HC.out).size (.string zp) (.int .i64 1) (.int .i64 xm) (.int .i64 xu) (.int .i64 xg) (.int .i64 xt) (.string zl) (.slice zA zn zc)
                    rw [hV9]
                    have b0 := (bx9).cell (j := 0) rfl; have b1 := (bx9).cell (j := 1) rfl; have b2 := (bx9).cell (j := 2) rfl; have b3 := (bx9).cell (j := 3) rfl; have b4 := (bx9).cell (j := 4) rfl; have b5 := (bx9).cell (j := 5) rfl; have b6 := (bx9).cell (j := 6) rfl; have b7 := (bx9).cell (j := 7) rfl
                    have XB9 := HXB.out _ hbd9
                    have v0 := (XB9).cell (j := 0) rfl; have v1 := (XB9).cell (j := 1) rfl; have v2 := (XB9).cell (j := 2) rfl; have v3 := (XB9).cell (j := 3) rfl; have v4 := (XB9).cell (j := 4) rfl; have v5 := (XB9).cell (j := 5) rfl; have v6 := (XB9).cell (j := 6) rfl; have v7 := (XB9).cell (j := 7) rfl
                    go_wp2
                    go_roundw
                    case rel => exact ⟨j + 1, by omega, by go_num, bthen (bthen HB.out HBV.out) hbd9⟩
                    case measure => simp [intOf]; omega
                · have gk2 : (xk == 2) = false := by simp [hk2]
                  have KFL := Lib.hid (fun W (h : Below V1.heap.size V1 W) => told15 (KF.out xl W h))
                  generalize (fm (L.take j) xl).isSome = is2 at *
                  clear KF hk2
                  go_upto_region 17 with (go_at_call 57; (with_reducible refine (KP.out _).mono ?_); rintro e w4 ⟨rfl, rfl⟩)
                  have hd6 : Below V1.heap.size V1 wc.drew := (HC.out).drew
                  have XB6 := HXB.out _ hd6
                  have e0 := (XB6).cell (j := 0) rfl; have e1 := (XB6).cell (j := 1) rfl; have e2 := (XB6).cell (j := 2) rfl; have e3 := (XB6).cell (j := 3) rfl; have e4 := (XB6).cell (j := 4) rfl; have e5 := (XB6).cell (j := 5) rfl; have e6 := (XB6).cell (j := 6) rfl; have e7 := (XB6).cell (j := 7) rfl
                  have XB8 := HXB.out _ ((bthen (HC.out) (below_new wc (.cells #[.string ⟨#[]⟩, .int .i64 0, .int .i64 0, .int .i64 0, .int .i64 0, .int .i64 0, .string ⟨#[]⟩, .slice none 0 0] 105))).drew)
                  have h0 := (XB8).cell (j := 0) rfl; have h1 := (XB8).cell (j := 1) rfl; have h2 := (XB8).cell (j := 2) rfl; have h3 := (XB8).cell (j := 3) rfl; have h4 := (XB8).cell (j := 4) rfl; have h5 := (XB8).cell (j := 5) rfl; have h6 := (XB8).cell (j := 6) rfl; have h7 := (XB8).cell (j := 7) rfl
                  refine wp_region_any (by kernel_rfl) ?_
                  change wpAny _ _ _ _ _ _ _ (World.drew _)
                  refine wpAny_take (i := 0) (v := .slice (some ⟨b, o, none⟩) N d2) rfl (by kernel_rfl) (by kernel_rfl) (by kernel_rfl) (fun _ _ _ h => h) (Or.inl ⟨by kernel_rfl, fun w => by go_simp⟩) ?_
                  refine wpAny_take (i := 1) (v := .int .i64 (j : Nat)) rfl (by kernel_rfl) (by kernel_rfl) (by kernel_rfl) (fun _ _ _ h => h) (Or.inl ⟨by kernel_rfl, fun w => by go_simp⟩) ?_
                  refine wpAny_take (i := 2) (v := .slice (some ⟨b, o, none⟩) j d2) rfl (by kernel_rfl) (by kernel_rfl) (by kernel_rfl) (fun _ _ _ h => h) (Or.inl ⟨by kernel_rfl, fun w => by go_simp⟩) ?_
                  refine wpAny_take (i := 3) (v := .pointer (some ⟨wr.heap.size, 6, none⟩)) rfl (by kernel_rfl) (by kernel_rfl) (by kernel_rfl) (fun _ _ _ h => h) (Or.inl ⟨by kernel_rfl, fun w => by go_simp⟩) ?_
                  refine wpAny_ready (rs := [4, 9]) (by kernel_rfl) (by simp) ?_
                  refine AllReady.cons rfl (fun K hK => ?_) (AllReady.cons rfl (fun K hK => ?_) AllReady.nil)
                  · rw [if_pos (by kernel_rfl)]
                    go_simp
                    refine hK _ _ ?_
                    clear hK K
                    refine wpAny_ready (rs := [5, 9]) (by kernel_rfl) (by simp) ?_
                    refine AllReady.cons rfl (fun K hK => ?_) (AllReady.cons rfl (fun K hK => ?_) AllReady.nil)
                    · rw [if_pos (by kernel_rfl)]
                      go_simp
                      go_at_call 52
                      (with_reducible refine (KFL.out _ hd6).mono ?_)
                      rintro e w7 ⟨zp, zl, zk, zm, zu, zg, zt, zA, zn, zc, rfl, hb7⟩
                      have hacc7 := bthen hd6 hb7
                      have XB7 := HXB.out _ hacc7
                      have u0 := (XB7).cell (j := 0) rfl; have u1 := (XB7).cell (j := 1) rfl; have u2 := (XB7).cell (j := 2) rfl; have u3 := (XB7).cell (j := 3) rfl; have u4 := (XB7).cell (j := 4) rfl; have u5 := (XB7).cell (j := 5) rfl; have u6 := (XB7).cell (j := 6) rfl; have u7 := (XB7).cell (j := 7) rfl
                      refine hK _ _ ?_
                      clear hK K
                      refine wpAny_take (i := 6) (v := .tuple #[.agg #[.string zp, .int .i64 zk, .int .i64 zm, .int .i64 zu, .int .i64 zg, .int .i64 zt, .string zl, .slice zA zn zc], .bool is2]) rfl (by kernel_rfl) (by kernel_rfl) (by kernel_rfl) (fun _ _ _ h => h) (Or.inl ⟨by kernel_rfl, fun w => by go_simp⟩) ?_
                      refine wpAny_take (i := 7) (v := .agg #[.string zp, .int .i64 zk, .int .i64 zm, .int .i64 zu, .int .i64 zg, .int .i64 zt, .string zl, .slice zA zn zc]) rfl (by kernel_rfl) (by kernel_rfl) (by kernel_rfl) (fun _ _ _ h => h) (Or.inl ⟨by kernel_rfl, fun w => by go_simp⟩) ?_
                      refine wpAny_take (i := 8) (v := .bool is2) rfl (by kernel_rfl) (by kernel_rfl) (by kernel_rfl) (fun _ _ _ h => h) (Or.inl ⟨by kernel_rfl, fun w => by go_simp⟩) ?_
                      refine wpAny_ready (rs := [9]) (by kernel_rfl) (by simp) ?_
                      refine AllReady.cons rfl (fun K hK => ?_) AllReady.nil
                      rw [if_pos (by kernel_rfl)]
                      go_simp
                      refine hK _ _ ?_
                      clear hK K
                      refine wpAny_ready (rs := [10]) (by kernel_rfl) (by simp) ?_
                      refine AllReady.cons rfl (fun K hK => ?_) AllReady.nil
                      rw [if_pos (by kernel_rfl)]
                      go_simp
                      refine hK _ _ ?_
                      clear hK K
                      refine wpAny_ready (rs := [11]) (by kernel_rfl) (by simp) ?_
                      refine AllReady.cons rfl (fun K hK => ?_) AllReady.nil
                      rw [if_pos (by kernel_rfl)]
                      go_simp
                      refine hK _ _ ?_
                      clear hK K
                      refine wpAny_done (by kernel_rfl) ?_ _
                      obtain ⟨V9, hV9, bx9, hbd9⟩ := set8_a (U := 105) hacc7 (.string zp) (.int .i64 zk) (.int .i64 zm) (.int .i64 zu) (.int .i64 zg) (.int .i64 zt) (.string zl) (.slice zA zn zc)
                      rw [hV9]
                      have b0 := (bx9).cell (j := 0) rfl; have b1 := (bx9).cell (j := 1) rfl; have b2 := (bx9).cell (j := 2) rfl; have b3 := (bx9).cell (j := 3) rfl; have b4 := (bx9).cell (j := 4) rfl; have b5 := (bx9).cell (j := 5) rfl; have b6 := (bx9).cell (j := 6) rfl; have b7 := (bx9).cell (j := 7) rfl
                      have XB9 := HXB.out _ hbd9
                      have v0 := (XB9).cell (j := 0) rfl; have v1 := (XB9).cell (j := 1) rfl; have v2 := (XB9).cell (j := 2) rfl; have v3 := (XB9).cell (j := 3) rfl; have v4 := (XB9).cell (j := 4) rfl; have v5 := (XB9).cell (j := 5) rfl; have v6 := (XB9).cell (j := 6) rfl; have v7 := (XB9).cell (j := 7) rfl
                      go_wp2
                      go_roundw
                      case rel => exact ⟨j + 1, by omega, by go_num, bthen (bthen HB.out HBV.out) hbd9⟩
                      case measure => simp [intOf]; omega
                    · rw [if_pos (by kernel_rfl)]
                      go_simp
                      refine hK _ _ ?_
                      clear hK K
                      refine wpAny_ready (rs := [5]) (by kernel_rfl) (by simp) ?_
                      refine AllReady.cons rfl (fun K hK => ?_) AllReady.nil
                      rw [if_pos (by kernel_rfl)]
                      go_simp
                      go_at_call 52
                      (with_reducible refine (KFL.out _ ((bthen HC.out (below_new wc (.cells #[.string ⟨#[]⟩, .int .i64 0, .int .i64 0, .int .i64 0, .int .i64 0, .int .i64 0, .string ⟨#[]⟩, .slice none 0 0] 105))).drew)).mono ?_)
                      rintro e w7 ⟨zp, zl, zk, zm, zu, zg, zt, zA, zn, zc, rfl, hb7⟩
                      have hacc7 := bthen ((bthen HC.out (below_new wc (.cells #[.string ⟨#[]⟩, .int .i64 0, .int .i64 0, .int .i64 0, .int .i64 0, .int .i64 0, .string ⟨#[]⟩, .slice none 0 0] 105))).drew) hb7
                      have bz := (show BX (wc.alloc (.cells #[.string ⟨#[]⟩, .int .i64 0, .int .i64 0, .int .i64 0, .int .i64 0, .int .i64 0, .string ⟨#[]⟩, .slice none 0 0] 105)).drew wc.heap.size 105 #[.string ⟨#[]⟩, .int .i64 0, .int .i64 0, .int .i64 0, .int .i64 0, .int .i64 0, .string ⟨#[]⟩, .slice none 0 0] from BX.new wc 105 #[.string ⟨#[]⟩, .int .i64 0, .int .i64 0, .int .i64 0, .int .i64 0, .int .i64 0, .string ⟨#[]⟩, .slice none 0 0]).later hb7
                      have bc0 := bz.cell (j := 0) rfl; have bf0 := bz.free 0; have bc1 := bz.cell (j := 1) rfl; have bf1 := bz.free 1; have bc2 := bz.cell (j := 2) rfl; have bf2 := bz.free 2; have bc3 := bz.cell (j := 3) rfl; have bf3 := bz.free 3; have bc4 := bz.cell (j := 4) rfl; have bf4 := bz.free 4; have bc5 := bz.cell (j := 5) rfl; have bf5 := bz.free 5; have bc6 := bz.cell (j := 6) rfl; have bf6 := bz.free 6; have bc7 := bz.cell (j := 7) rfl; have bf7 := bz.free 7
                      have XB7 := HXB.out _ hacc7
                      have u0 := (XB7).cell (j := 0) rfl; have u1 := (XB7).cell (j := 1) rfl; have u2 := (XB7).cell (j := 2) rfl; have u3 := (XB7).cell (j := 3) rfl; have u4 := (XB7).cell (j := 4) rfl; have u5 := (XB7).cell (j := 5) rfl; have u6 := (XB7).cell (j := 6) rfl; have u7 := (XB7).cell (j := 7) rfl
                      refine hK _ _ ?_
                      clear hK K
                      refine wpAny_take (i := 6) (v := .tuple #[.agg #[.string zp, .int .i64 zk, .int .i64 zm, .int .i64 zu, .int .i64 zg, .int .i64 zt, .string zl, .slice zA zn zc], .bool is2]) rfl (by kernel_rfl) (by kernel_rfl) (by kernel_rfl) (fun _ _ _ h => h) (Or.inl ⟨by kernel_rfl, fun w => by go_simp⟩) ?_
                      refine wpAny_take (i := 7) (v := .agg #[.string zp, .int .i64 zk, .int .i64 zm, .int .i64 zu, .int .i64 zg, .int .i64 zt, .string zl, .slice zA zn zc]) rfl (by kernel_rfl) (by kernel_rfl) (by kernel_rfl) (fun _ _ _ h => h) (Or.inl ⟨by kernel_rfl, fun w => by go_simp⟩) ?_
                      refine wpAny_take (i := 8) (v := .bool is2) rfl (by kernel_rfl) (by kernel_rfl) (by kernel_rfl) (fun _ _ _ h => h) (Or.inl ⟨by kernel_rfl, fun w => by go_simp⟩) ?_
                      refine wpAny_ready (rs := [10]) (by kernel_rfl) (by simp) ?_
                      refine AllReady.cons rfl (fun K hK => ?_) AllReady.nil
                      rw [if_pos (by kernel_rfl)]
                      go_simp
                      refine hK _ _ ?_
                      clear hK K
                      refine wpAny_ready (rs := [11]) (by kernel_rfl) (by simp) ?_
                      refine AllReady.cons rfl (fun K hK => ?_) AllReady.nil
                      rw [if_pos (by kernel_rfl)]
                      go_simp
                      refine hK _ _ ?_
                      clear hK K
                      refine wpAny_done (by kernel_rfl) ?_ _
                      obtain ⟨V9, hV9, bx9, hbd9⟩ := set8_b bz hacc7 (HC.out).size (.string zp) (.int .i64 zk) (.int .i64 zm) (.int .i64 zu) (.int .i64 zg) (.int .i64 zt) (.string zl) (.slice zA zn zc)
                      rw [hV9]
                      have b0 := (bx9).cell (j := 0) rfl; have b1 := (bx9).cell (j := 1) rfl; have b2 := (bx9).cell (j := 2) rfl; have b3 := (bx9).cell (j := 3) rfl; have b4 := (bx9).cell (j := 4) rfl; have b5 := (bx9).cell (j := 5) rfl; have b6 := (bx9).cell (j := 6) rfl; have b7 := (bx9).cell (j := 7) rfl
                      have XB9 := HXB.out _ hbd9
                      have v0 := (XB9).cell (j := 0) rfl; have v1 := (XB9).cell (j := 1) rfl; have v2 := (XB9).cell (j := 2) rfl; have v3 := (XB9).cell (j := 3) rfl; have v4 := (XB9).cell (j := 4) rfl; have v5 := (XB9).cell (j := 5) rfl; have v6 := (XB9).cell (j := 6) rfl; have v7 := (XB9).cell (j := 7) rfl
                      go_wp2
                      go_roundw
                      case rel => exact ⟨j + 1, by omega, by go_num, bthen (bthen HB.out HBV.out) hbd9⟩
                      case measure => simp [intOf]; omega
                  · rw [if_pos (by kernel_rfl)]
                    go_simp
                    refine hK _ _ ?_
                    clear hK K
                    refine wpAny_ready (rs := [4]) (by kernel_rfl) (by simp) ?_
                    refine AllReady.cons rfl (fun K hK => ?_) AllReady.nil
                    rw [if_pos (by kernel_rfl)]
                    go_simp
                    refine hK _ _ ?_
                    clear hK K
                    refine wpAny_ready (rs := [5]) (by kernel_rfl) (by simp) ?_
                    refine AllReady.cons rfl (fun K hK => ?_) AllReady.nil
                    rw [if_pos (by kernel_rfl)]
                    go_simp
                    go_at_call 52
                    (with_reducible refine (KFL.out _ ((bthen HC.out (below_new wc (.cells #[.string ⟨#[]⟩, .int .i64 0, .int .i64 0, .int .i64 0, .int .i64 0, .int .i64 0, .string ⟨#[]⟩, .slice none 0 0] 105))).drew)).mono ?_)
                    rintro e w7 ⟨zp, zl, zk, zm, zu, zg, zt, zA, zn, zc, rfl, hb7⟩
                    have hacc7 := bthen ((bthen HC.out (below_new wc (.cells #[.string ⟨#[]⟩, .int .i64 0, .int .i64 0, .int .i64 0, .int .i64 0, .int .i64 0, .string ⟨#[]⟩, .slice none 0 0] 105))).drew) hb7
                    have bz := (show BX (wc.alloc (.cells #[.string ⟨#[]⟩, .int .i64 0, .int .i64 0, .int .i64 0, .int .i64 0, .int .i64 0, .string ⟨#[]⟩, .slice none 0 0] 105)).drew wc.heap.size 105 #[.string ⟨#[]⟩, .int .i64 0, .int .i64 0, .int .i64 0, .int .i64 0, .int .i64 0, .string ⟨#[]⟩, .slice none 0 0] from BX.new wc 105 #[.string ⟨#[]⟩, .int .i64 0, .int .i64 0, .int .i64 0, .int .i64 0, .int .i64 0, .string ⟨#[]⟩, .slice none 0 0]).later hb7
                    have bc0 := bz.cell (j := 0) rfl; have bf0 := bz.free 0; have bc1 := bz.cell (j := 1) rfl; have bf1 := bz.free 1; have bc2 := bz.cell (j := 2) rfl; have bf2 := bz.free 2; have bc3 := bz.cell (j := 3) rfl; have bf3 := bz.free 3; have bc4 := bz.cell (j := 4) rfl; have bf4 := bz.free 4; have bc5 := bz.cell (j := 5) rfl; have bf5 := bz.free 5; have bc6 := bz.cell (j := 6) rfl; have bf6 := bz.free 6; have bc7 := bz.cell (j := 7) rfl; have bf7 := bz.free 7
                    have XB7 := HXB.out _ hacc7
                    have u0 := (XB7).cell (j := 0) rfl; have u1 := (XB7).cell (j := 1) rfl; have u2 := (XB7).cell (j := 2) rfl; have u3 := (XB7).cell (j := 3) rfl; have u4 := (XB7).cell (j := 4) rfl; have u5 := (XB7).cell (j := 5) rfl; have u6 := (XB7).cell (j := 6) rfl; have u7 := (XB7).cell (j := 7) rfl
                    refine hK _ _ ?_
                    clear hK K
                    refine wpAny_take (i := 6) (v := .tuple #[.agg #[.string zp, .int .i64 zk, .int .i64 zm, .int .i64 zu, .int .i64 zg, .int .i64 zt, .string zl, .slice zA zn zc], .bool is2]) rfl (by kernel_rfl) (by kernel_rfl) (by kernel_rfl) (fun _ _ _ h => h) (Or.inl ⟨by kernel_rfl, fun w => by go_simp⟩) ?_
                    refine wpAny_take (i := 7) (v := .agg #[.string zp, .int .i64 zk, .int .i64 zm, .int .i64 zu, .int .i64 zg, .int .i64 zt, .string zl, .slice zA zn zc]) rfl (by kernel_rfl) (by kernel_rfl) (by kernel_rfl) (fun _ _ _ h => h) (Or.inl ⟨by kernel_rfl, fun w => by go_simp⟩) ?_
                    refine wpAny_take (i := 8) (v := .bool is2) rfl (by kernel_rfl) (by kernel_rfl) (by kernel_rfl) (fun _ _ _ h => h) (Or.inl ⟨by kernel_rfl, fun w => by go_simp⟩) ?_
                    refine wpAny_ready (rs := [10]) (by kernel_rfl) (by simp) ?_
                    refine AllReady.cons rfl (fun K hK => ?_) AllReady.nil
                    rw [if_pos (by kernel_rfl)]
                    go_simp
                    refine hK _ _ ?_
                    clear hK K
                    refine wpAny_ready (rs := [11]) (by kernel_rfl) (by simp) ?_
                    refine AllReady.cons rfl (fun K hK => ?_) AllReady.nil
                    rw [if_pos (by kernel_rfl)]
                    go_simp
                    refine hK _ _ ?_
                    clear hK K
                    refine wpAny_done (by kernel_rfl) ?_ _
                    obtain ⟨V9, hV9, bx9, hbd9⟩ := set8_b bz hacc7 (HC.out).size (.string zp) (.int .i64 zk) (.int .i64 zm) (.int .i64 zu) (.int .i64 zg) (.int .i64 zt) (.string zl) (.slice zA zn zc)
                    rw [hV9]
                    have b0 := (bx9).cell (j := 0) rfl; have b1 := (bx9).cell (j := 1) rfl; have b2 := (bx9).cell (j := 2) rfl; have b3 := (bx9).cell (j := 3) rfl; have b4 := (bx9).cell (j := 4) rfl; have b5 := (bx9).cell (j := 5) rfl; have b6 := (bx9).cell (j := 6) rfl; have b7 := (bx9).cell (j := 7) rfl
                    have XB9 := HXB.out _ hbd9
                    have v0 := (XB9).cell (j := 0) rfl; have v1 := (XB9).cell (j := 1) rfl; have v2 := (XB9).cell (j := 2) rfl; have v3 := (XB9).cell (j := 3) rfl; have v4 := (XB9).cell (j := 4) rfl; have v5 := (XB9).cell (j := 5) rfl; have v6 := (XB9).cell (j := 6) rfl; have v7 := (XB9).cell (j := 7) rfl
                    go_wp2
                    go_roundw
                    case rel => exact ⟨j + 1, by omega, by go_num, bthen (bthen HB.out HBV.out) hbd9⟩
                    case measure => simp [intOf]; omega
              · have ge : pp.toList.isEmpty = false := by rw [isEmpty_eq]; simp [hp0]
                obtain ⟨yy, hyf, hy4⟩ : ∃ yy, fm (L.take j) pp = some yy ∧ yy.2.kind = 4 := by
                  rcases hpt with ⟨_, h2, _, _⟩ | ⟨h1, h2, h3⟩
                  · exact absurd h2 hp0
                  · obtain ⟨yy, hy1, hy2⟩ := HR.out.par _ _ h2 h3
                    refine ⟨yy, ?_, hy2⟩
                    have e : txt (Pp.pieces xp).dropLast = pp := by rw [← h1]; exact Nt.txt_pieces pp
                    rw [e] at hy1
                    exact hy1
                have KFP := Lib.hid (fun W (h : Below V1.heap.size V1 W) => found15 (KF.out pp W h) hyf)
                obtain ⟨yyp, yyk, yym, yyu, yyg, yyt, yyl, yyA, yyn, yyc, yys⟩ := yy
                simp only at hy4
                subst hy4
                clear hpt hpp hr hyf hp0
                by_cases hk2 : xk = 2
                · obtain ⟨zz, hzf, hz1, hz2, hz3, hz4, hz5⟩ := HR.out.link hk2
                  subst hk2
                  have KFL := Lib.hid (fun W (h : Below V1.heap.size V1 W) => found15 (KF.out xl W h) hzf)
                  obtain ⟨zzp, zzk, zzm, zzu, zzg, zzt, zzl, zzA, zzn, zzc, zzs⟩ := zz
                  simp only at hz1 hz2 hz3 hz4 hz5
                  replace hz2 := hz2.symm; replace hz3 := hz3.symm; replace hz4 := hz4.symm; replace hz5 := hz5.symm
                  subst hz1; subst hz2; subst hz3; subst hz4; subst hz5
                  clear hzf KF
                  go_upto_region 17 with (first
                    | (go_at_call 52; (with_reducible refine (KFP.out _ (HC.out)).mono ?_); rintro e w5 ⟨yp, yl, yA, yn, yc, rfl, hb5⟩; have hacc5 := bthen (HC.out) hb5; have bx5 := BX.new w5 105 #[.string yp, .int .i64 4, .int .i64 yym, .int .i64 yyu, .int .i64 yyg, .int .i64 yyt, .string yl, .slice yA yn yc]; have hbb5 := below_new w5 (.cells #[.string yp, .int .i64 4, .int .i64 yym, .int .i64 yyu, .int .i64 yyg, .int .i64 yyt, .string yl, .slice yA yn yc] 105); obtain ⟨U5, hU5⟩ : ∃ V, w5.alloc (.cells #[.string yp, .int .i64 4, .int .i64 yym, .int .i64 yyu, .int .i64 yyg, .int .i64 yyt, .string yl, .slice yA yn yc] 105) = V := ⟨_, rfl⟩; rw [hU5] at bx5 hbb5; have hacd5 := bthen hacc5 hbb5; have XB5 := (HXB.out _ hacd5); have yb0 := (bx5).cell (j := 0) rfl; have yb1 := (bx5).cell (j := 1) rfl; have yb2 := (bx5).cell (j := 2) rfl; have yb3 := (bx5).cell (j := 3) rfl; have yb4 := (bx5).cell (j := 4) rfl; have yb5 := (bx5).cell (j := 5) rfl; have yb6 := (bx5).cell (j := 6) rfl; have yb7 := (bx5).cell (j := 7) rfl; have qy0 := (XB5).cell (j := 0) rfl; have qy1 := (XB5).cell (j := 1) rfl; have qy2 := (XB5).cell (j := 2) rfl; have qy3 := (XB5).cell (j := 3) rfl; have qy4 := (XB5).cell (j := 4) rfl; have qy5 := (XB5).cell (j := 5) rfl; have qy6 := (XB5).cell (j := 6) rfl; have qy7 := (XB5).cell (j := 7) rfl)
                    | (go_at_call 57; (with_reducible refine (KP.out _).mono ?_); rintro e w4 ⟨rfl, rfl⟩))
                  have hd6 : Below V1.heap.size V1 U5.drew := (hacd5).drew
                  have XB6 := HXB.out _ hd6
                  have e0 := (XB6).cell (j := 0) rfl; have e1 := (XB6).cell (j := 1) rfl; have e2 := (XB6).cell (j := 2) rfl; have e3 := (XB6).cell (j := 3) rfl; have e4 := (XB6).cell (j := 4) rfl; have e5 := (XB6).cell (j := 5) rfl; have e6 := (XB6).cell (j := 6) rfl; have e7 := (XB6).cell (j := 7) rfl
                  have XB8 := HXB.out _ ((bthen (hacd5) (below_new U5 (.cells #[.string ⟨#[]⟩, .int .i64 0, .int .i64 0, .int .i64 0, .int .i64 0, .int .i64 0, .string ⟨#[]⟩, .slice none 0 0] 105))).drew)
                  have h0 := (XB8).cell (j := 0) rfl; have h1 := (XB8).cell (j := 1) rfl; have h2 := (XB8).cell (j := 2) rfl; have h3 := (XB8).cell (j := 3) rfl; have h4 := (XB8).cell (j := 4) rfl; have h5 := (XB8).cell (j := 5) rfl; have h6 := (XB8).cell (j := 6) rfl; have h7 := (XB8).cell (j := 7) rfl
                  refine wp_region_any (by kernel_rfl) ?_
                  change wpAny _ _ _ _ _ _ _ (World.drew _)
                  refine wpAny_take (i := 0) (v := .slice (some ⟨b, o, none⟩) N d2) rfl (by kernel_rfl) (by kernel_rfl) (by kernel_rfl) (fun _ _ _ h => h) (Or.inl ⟨by kernel_rfl, fun w => by go_simp⟩) ?_
                  refine wpAny_take (i := 1) (v := .int .i64 (j : Nat)) rfl (by kernel_rfl) (by kernel_rfl) (by kernel_rfl) (fun _ _ _ h => h) (Or.inl ⟨by kernel_rfl, fun w => by go_simp⟩) ?_
                  refine wpAny_take (i := 2) (v := .slice (some ⟨b, o, none⟩) j d2) rfl (by kernel_rfl) (by kernel_rfl) (by kernel_rfl) (fun _ _ _ h => h) (Or.inl ⟨by kernel_rfl, fun w => by go_simp⟩) ?_
                  refine wpAny_take (i := 3) (v := .pointer (some ⟨wr.heap.size, 6, none⟩)) rfl (by kernel_rfl) (by kernel_rfl) (by kernel_rfl) (fun _ _ _ h => h) (Or.inl ⟨by kernel_rfl, fun w => by go_simp⟩) ?_
                  refine wpAny_ready (rs := [4, 9]) (by kernel_rfl) (by simp) ?_
                  refine AllReady.cons rfl (fun K hK => ?_) (AllReady.cons rfl (fun K hK => ?_) AllReady.nil)
                  · rw [if_pos (by kernel_rfl)]
                    go_simp
                    refine hK _ _ ?_
                    clear hK K
                    refine wpAny_ready (rs := [5, 9]) (by kernel_rfl) (by simp) ?_
                    refine AllReady.cons rfl (fun K hK => ?_) (AllReady.cons rfl (fun K hK => ?_) AllReady.nil)
                    · rw [if_pos (by kernel_rfl)]
                      go_simp
                      go_at_call 52
                      (with_reducible refine (KFL.out _ hd6).mono ?_)
                      rintro e w7 ⟨zp, zl, zA, zn, zc, rfl, hb7⟩
                      have hacc7 := bthen hd6 hb7
                      have XB7 := HXB.out _ hacc7
                      have u0 := (XB7).cell (j := 0) rfl; have u1 := (XB7).cell (j := 1) rfl; have u2 := (XB7).cell (j := 2) rfl; have u3 := (XB7).cell (j := 3) rfl; have u4 := (XB7).cell (j := 4) rfl; have u5 := (XB7).cell (j := 5) rfl; have u6 := (XB7).cell (j := 6) rfl; have u7 := (XB7).cell (j := 7) rfl
                      refine hK _ _ ?_
                      clear hK K
                      refine wpAny_take (i := 6) (v := .tuple #[.agg #[.string zp, .int .i64 1, .int .i64 xm, .int .i64 xu, .int .i64 xg, .int .i64 xt, .string zl, .slice zA zn zc], .bool true]) rfl (by kernel_rfl) (by kernel_rfl) (by kernel_rfl) (fun _ _ _ h => h) (Or.inl ⟨by kernel_rfl, fun w => by go_simp⟩) ?_
                      refine wpAny_take (i := 7) (v := .agg #[.string zp, .int .i64 1, .int .i64 xm, .int .i64 xu, .int .i64 xg, .int .i64 xt, .string zl, .slice zA zn zc]) rfl (by kernel_rfl) (by kernel_rfl) (by kernel_rfl) (fun _ _ _ h => h) (Or.inl ⟨by kernel_rfl, fun w => by go_simp⟩) ?_
                      refine wpAny_take (i := 8) (v := .bool true) rfl (by kernel_rfl) (by kernel_rfl) (by kernel_rfl) (fun _ _ _ h => h) (Or.inl ⟨by kernel_rfl, fun w => by go_simp⟩) ?_
                      refine wpAny_ready (rs := [9]) (by kernel_rfl) (by simp) ?_
                      refine AllReady.cons rfl (fun K hK => ?_) AllReady.nil
                      rw [if_pos (by kernel_rfl)]
                      go_simp
                      refine hK _ _ ?_
                      clear hK K
                      refine wpAny_ready (rs := [10]) (by kernel_rfl) (by simp) ?_
                      refine AllReady.cons rfl (fun K hK => ?_) AllReady.nil
                      rw [if_pos (by kernel_rfl)]
                      go_simp
                      refine hK _ _ ?_
                      clear hK K
                      refine wpAny_ready (rs := [11]) (by kernel_rfl) (by simp) ?_
                      refine AllReady.cons rfl (fun K hK => ?_) AllReady.nil
                      rw [if_pos (by kernel_rfl)]
                      go_simp
                      refine hK _ _ ?_
                      clear hK K
                      refine wpAny_done (by kernel_rfl) ?_ _
                      obtain ⟨V9, hV9, bx9, hbd9⟩ := set8_a (U := 105) hacc7 (.string zp) (.int .i64 1) (.int .i64 xm) (.int .i64 xu) (.int .i64 xg) (.int .i64 xt) (.string zl) (.slice zA zn zc)
                      rw [hV9]
                      have b0 := (bx9).cell (j := 0) rfl; have b1 := (bx9).cell (j := 1) rfl; have b2 := (bx9).cell (j := 2) rfl; have b3 := (bx9).cell (j := 3) rfl; have b4 := (bx9).cell (j := 4) rfl; have b5 := (bx9).cell (j := 5) rfl; have b6 := (bx9).cell (j := 6) rfl; have b7 := (bx9).cell (j := 7) rfl
                      have XB9 := HXB.out _ hbd9
                      have v0 := (XB9).cell (j := 0) rfl; have v1 := (XB9).cell (j := 1) rfl; have v2 := (XB9).cell (j := 2) rfl; have v3 := (XB9).cell (j := 3) rfl; have v4 := (XB9).cell (j := 4) rfl; have v5 := (XB9).cell (j := 5) rfl; have v6 := (XB9).cell (j := 6) rfl; have v7 := (XB9).cell (j := 7) rfl
                      go_wp2
                      go_roundw
                      case rel => exact ⟨j + 1, by omega, by go_num, bthen (bthen HB.out HBV.out) hbd9⟩
                      case measure => simp [intOf]; omega
                    · rw [if_pos (by kernel_rfl)]
                      go_simp
                      refine hK _ _ ?_
                      clear hK K
                      refine wpAny_ready (rs := [5]) (by kernel_rfl) (by simp) ?_
                      refine AllReady.cons rfl (fun K hK => ?_) AllReady.nil
                      rw [if_pos (by kernel_rfl)]
                      go_simp
                      go_at_call 52
                      (with_reducible refine (KFL.out _ ((bthen hacd5 (below_new U5 (.cells #[.string ⟨#[]⟩, .int .i64 0, .int .i64 0, .int .i64 0, .int .i64 0, .int .i64 0, .string ⟨#[]⟩, .slice none 0 0] 105))).drew)).mono ?_)
                      rintro e w7 ⟨zp, zl, zA, zn, zc, rfl, hb7⟩
                      have hacc7 := bthen ((bthen hacd5 (below_new U5 (.cells #[.string ⟨#[]⟩, .int .i64 0, .int .i64 0, .int .i64 0, .int .i64 0, .int .i64 0, .string ⟨#[]⟩, .slice none 0 0] 105))).drew) hb7
                      have bz := (show BX (U5.alloc (.cells #[.string ⟨#[]⟩, .int .i64 0, .int .i64 0, .int .i64 0, .int .i64 0, .int .i64 0, .string ⟨#[]⟩, .slice none 0 0] 105)).drew U5.heap.size 105 #[.string ⟨#[]⟩, .int .i64 0, .int .i64 0, .int .i64 0, .int .i64 0, .int .i64 0, .string ⟨#[]⟩, .slice none 0 0] from BX.new U5 105 #[.string ⟨#[]⟩, .int .i64 0, .int .i64 0, .int .i64 0, .int .i64 0, .int .i64 0, .string ⟨#[]⟩, .slice none 0 0]).later hb7
                      have bc0 := bz.cell (j := 0) rfl; have bf0 := bz.free 0; have bc1 := bz.cell (j := 1) rfl; have bf1 := bz.free 1; have bc2 := bz.cell (j := 2) rfl; have bf2 := bz.free 2; have bc3 := bz.cell (j := 3) rfl; have bf3 := bz.free 3; have bc4 := bz.cell (j := 4) rfl; have bf4 := bz.free 4; have bc5 := bz.cell (j := 5) rfl; have bf5 := bz.free 5; have bc6 := bz.cell (j := 6) rfl; have bf6 := bz.free 6; have bc7 := bz.cell (j := 7) rfl; have bf7 := bz.free 7
                      have XB7 := HXB.out _ hacc7
                      have u0 := (XB7).cell (j := 0) rfl; have u1 := (XB7).cell (j := 1) rfl; have u2 := (XB7).cell (j := 2) rfl; have u3 := (XB7).cell (j := 3) rfl; have u4 := (XB7).cell (j := 4) rfl; have u5 := (XB7).cell (j := 5) rfl; have u6 := (XB7).cell (j := 6) rfl; have u7 := (XB7).cell (j := 7) rfl
                      refine hK _ _ ?_
                      clear hK K
                      refine wpAny_take (i := 6) (v := .tuple #[.agg #[.string zp, .int .i64 1, .int .i64 xm, .int .i64 xu, .int .i64 xg, .int .i64 xt, .string zl, .slice zA zn zc], .bool true]) rfl (by kernel_rfl) (by kernel_rfl) (by kernel_rfl) (fun _ _ _ h => h) (Or.inl ⟨by kernel_rfl, fun w => by go_simp⟩) ?_
                      refine wpAny_take (i := 7) (v := .agg #[.string zp, .int .i64 1, .int .i64 xm, .int .i64 xu, .int .i64 xg, .int .i64 xt, .string zl, .slice zA zn zc]) rfl (by kernel_rfl) (by kernel_rfl) (by kernel_rfl) (fun _ _ _ h => h) (Or.inl ⟨by kernel_rfl, fun w => by go_simp⟩) ?_
                      refine wpAny_take (i := 8) (v := .bool true) rfl (by kernel_rfl) (by kernel_rfl) (by kernel_rfl) (fun _ _ _ h => h) (Or.inl ⟨by kernel_rfl, fun w => by go_simp⟩) ?_
                      refine wpAny_ready (rs := [10]) (by kernel_rfl) (by simp) ?_
                      refine AllReady.cons rfl (fun K hK => ?_) AllReady.nil
                      rw [if_pos (by kernel_rfl)]
                      go_simp
                      refine hK _ _ ?_
                      clear hK K
                      refine wpAny_ready (rs := [11]) (by kernel_rfl) (by simp) ?_
                      refine AllReady.cons rfl (fun K hK => ?_) AllReady.nil
                      rw [if_pos (by kernel_rfl)]
                      go_simp
                      refine hK _ _ ?_
                      clear hK K
                      refine wpAny_done (by kernel_rfl) ?_ _
                      obtain ⟨V9, hV9, bx9, hbd9⟩ := set8_b bz hacc7 (hacd5).size (.string zp) (.int .i64 1) (.int .i64 xm) (.int .i64 xu) (.int .i64 xg) (.int .i64 xt) (.string zl) (.slice zA zn zc)
                      rw [hV9]
                      have b0 := (bx9).cell (j := 0) rfl; have b1 := (bx9).cell (j := 1) rfl; have b2 := (bx9).cell (j := 2) rfl; have b3 := (bx9).cell (j := 3) rfl; have b4 := (bx9).cell (j := 4) rfl; have b5 := (bx9).cell (j := 5) rfl; have b6 := (bx9).cell (j := 6) rfl; have b7 := (bx9).cell (j := 7) rfl
                      have XB9 := HXB.out _ hbd9
                      have v0 := (XB9).cell (j := 0) rfl; have v1 := (XB9).cell (j := 1) rfl; have v2 := (XB9).cell (j := 2) rfl; have v3 := (XB9).cell (j := 3) rfl; have v4 := (XB9).cell (j := 4) rfl; have v5 := (XB9).cell (j := 5) rfl; have v6 := (XB9).cell (j := 6) rfl; have v7 := (XB9).cell (j := 7) rfl
                      go_wp2
                      go_roundw
                      case rel => exact ⟨j + 1, by omega, by go_num, bthen (bthen HB.out HBV.out) hbd9⟩
                      case measure => simp [intOf]; omega
                  · rw [if_pos (by kernel_rfl)]
                    go_simp
                    refine hK _ _ ?_
                    clear hK K
                    refine wpAny_ready (rs := [4]) (by kernel_rfl) (by simp) ?_
                    refine AllReady.cons rfl (fun K hK => ?_) AllReady.nil
                    rw [if_pos (by kernel_rfl)]
                    go_simp
                    refine hK _ _ ?_
                    clear hK K
                    refine wpAny_ready (rs := [5]) (by kernel_rfl) (by simp) ?_
                    refine AllReady.cons rfl (fun K hK => ?_) AllReady.nil
                    rw [if_pos (by kernel_rfl)]
                    go_simp
                    go_at_call 52
                    (with_reducible refine (KFL.out _ ((bthen hacd5 (below_new U5 (.cells #[.string ⟨#[]⟩, .int .i64 0, .int .i64 0, .int .i64 0, .int .i64 0, .int .i64 0, .string ⟨#[]⟩, .slice none 0 0] 105))).drew)).mono ?_)
                    rintro e w7 ⟨zp, zl, zA, zn, zc, rfl, hb7⟩
                    have hacc7 := bthen ((bthen hacd5 (below_new U5 (.cells #[.string ⟨#[]⟩, .int .i64 0, .int .i64 0, .int .i64 0, .int .i64 0, .int .i64 0, .string ⟨#[]⟩, .slice none 0 0] 105))).drew) hb7
                    have bz := (show BX (U5.alloc (.cells #[.string ⟨#[]⟩, .int .i64 0, .int .i64 0, .int .i64 0, .int .i64 0, .int .i64 0, .string ⟨#[]⟩, .slice none 0 0] 105)).drew U5.heap.size 105 #[.string ⟨#[]⟩, .int .i64 0, .int .i64 0, .int .i64 0, .int .i64 0, .int .i64 0, .string ⟨#[]⟩, .slice none 0 0] from BX.new U5 105 #[.string ⟨#[]⟩, .int .i64 0, .int .i64 0, .int .i64 0, .int .i64 0, .int .i64 0, .string ⟨#[]⟩, .slice none 0 0]).later hb7
                    have bc0 := bz.cell (j := 0) rfl; have bf0 := bz.free 0; have bc1 := bz.cell (j := 1) rfl; have bf1 := bz.free 1; have bc2 := bz.cell (j := 2) rfl; have bf2 := bz.free 2; have bc3 := bz.cell (j := 3) rfl; have bf3 := bz.free 3; have bc4 := bz.cell (j := 4) rfl; have bf4 := bz.free 4; have bc5 := bz.cell (j := 5) rfl; have bf5 := bz.free 5; have bc6 := bz.cell (j := 6) rfl; have bf6 := bz.free 6; have bc7 := bz.cell (j := 7) rfl; have bf7 := bz.free 7
                    have XB7 := HXB.out _ hacc7
                    have u0 := (XB7).cell (j := 0) rfl; have u1 := (XB7).cell (j := 1) rfl; have u2 := (XB7).cell (j := 2) rfl; have u3 := (XB7).cell (j := 3) rfl; have u4 := (XB7).cell (j := 4) rfl; have u5 := (XB7).cell (j := 5) rfl; have u6 := (XB7).cell (j := 6) rfl; have u7 := (XB7).cell (j := 7) rfl
                    refine hK _ _ ?_
                    clear hK K
                    refine wpAny_take (i := 6) (v := .tuple #[.agg #[.string zp, .int .i64 1, .int .i64 xm, .int .i64 xu, .int .i64 xg, .int .i64 xt, .string zl, .slice zA zn zc], .bool true]) rfl (by kernel_rfl) (by kernel_rfl) (by kernel_rfl) (fun _ _ _ h => h) (Or.inl ⟨by kernel_rfl, fun w => by go_simp⟩) ?_
                    refine wpAny_take (i := 7) (v := .agg #[.string zp, .int .i64 1, .int .i64 xm, .int .i64 xu, .int .i64 xg, .int .i64 xt, .string zl, .slice zA zn zc]) rfl (by kernel_rfl) (by kernel_rfl) (by kernel_rfl) (fun _ _ _ h => h) (Or.inl ⟨by kernel_rfl, fun w => by go_simp⟩) ?_
                    refine wpAny_take (i := 8) (v := .bool true) rfl (by kernel_rfl) (by kernel_rfl) (by kernel_rfl) (fun _ _ _ h => h) (Or.inl ⟨by kernel_rfl, fun w => by go_simp⟩) ?_
                    refine wpAny_ready (rs := [10]) (by kernel_rfl) (by simp) ?_
                    refine AllReady.cons rfl (fun K hK => ?_) AllReady.nil
                    rw [if_pos (by kernel_rfl)]
                    go_simp
                    refine hK _ _ ?_
                    clear hK K
                    refine wpAny_ready (rs := [11]) (by kernel_rfl) (by simp) ?_
                    refine AllReady.cons rfl (fun K hK => ?_) AllReady.nil
                    rw [if_pos (by kernel_rfl)]
                    go_simp
                    refine hK _ _ ?_
                    clear hK K
                    refine wpAny_done (by kernel_rfl) ?_ _
                    obtain ⟨V9, hV9, bx9, hbd9⟩ := set8_b bz hacc7 (hacd5).size (.string zp) (.int .i64 1) (.int .i64 xm) (.int .i64 xu) (.int .i64 xg) (.int .i64 xt) (.string zl) (.slice zA zn zc)
                    rw [hV9]
                    have b0 := (bx9).cell (j := 0) rfl; have b1 := (bx9).cell (j := 1) rfl; have b2 := (bx9).cell (j := 2) rfl; have b3 := (bx9).cell (j := 3) rfl; have b4 := (bx9).cell (j := 4) rfl; have b5 := (bx9).cell (j := 5) rfl; have b6 := (bx9).cell (j := 6) rfl; have b7 := (bx9).cell (j := 7) rfl
                    have XB9 := HXB.out _ hbd9
                    have v0 := (XB9).cell (j := 0) rfl; have v1 := (XB9).cell (j := 1) rfl; have v2 := (XB9).cell (j := 2) rfl; have v3 := (XB9).cell (j := 3) rfl; have v4 := (XB9).cell (j := 4) rfl; have v5 := (XB9).cell (j := 5) rfl; have v6 := (XB9).cell (j := 6) rfl; have v7 := (XB9).cell (j := 7) rfl
                    go_wp2
                    go_roundw
                    case rel => exact ⟨j + 1, by omega, by go_num, bthen (bthen HB.out HBV.out) hbd9⟩
                    case measure => simp [intOf]; omega
                · have gk2 : (xk == 2) = false := by simp [hk2]
                  have KFL := Lib.hid (fun W (h : Below V1.heap.size V1 W) => told15 (KF.out xl W h))
                  generalize (fm (L.take j) xl).isSome = is2 at *
                  clear KF hk2
                  go_upto_region 17 with (first
                    | (go_at_call 52; (with_reducible refine (KFP.out _ (HC.out)).mono ?_); rintro e w5 ⟨yp, yl, yA, yn, yc, rfl, hb5⟩; have hacc5 := bthen (HC.out) hb5; have bx5 := BX.new w5 105 #[.string yp, .int .i64 4, .int .i64 yym, .int .i64 yyu, .int .i64 yyg, .int .i64 yyt, .string yl, .slice yA yn yc]; have hbb5 := below_new w5 (.cells #[.string yp, .int .i64 4, .int .i64 yym, .int .i64 yyu, .int .i64 yyg, .int .i64 yyt, .string yl, .slice yA yn yc] 105); obtain ⟨U5, hU5⟩ : ∃ V, w5.alloc (.cells #[.string yp, .int .i64 4, .int .i64 yym, .int .i64 yyu, .int .i64 yyg, .int .i64 yyt, .string yl, .slice yA yn yc] 105) = V := ⟨_, rfl⟩; rw [hU5] at bx5 hbb5; have hacd5 := bthen hacc5 hbb5; have XB5 := (HXB.out _ hacd5); have yb0 := (bx5).cell (j := 0) rfl; have yb1 := (bx5).cell (j := 1) rfl; have yb2 := (bx5).cell (j := 2) rfl; have yb3 := (bx5).cell (j := 3) rfl; have yb4 := (bx5).cell (j := 4) rfl; have yb5 := (bx5).cell (j := 5) rfl; have yb6 := (bx5).cell (j := 6) rfl; have yb7 := (bx5).cell (j := 7) rfl; have qy0 := (XB5).cell (j := 0) rfl; have qy1 := (XB5).cell (j := 1) rfl; have qy2 := (XB5).cell (j := 2) rfl; have qy3 := (XB5).cell (j := 3) rfl; have qy4 := (XB5).cell (j := 4) rfl; have qy5 := (XB5).cell (j := 5) rfl; have qy6 := (XB5).cell (j := 6) rfl; have qy7 := (XB5).cell (j := 7) rfl)
                    | (go_at_call 57; (with_reducible refine (KP.out _).mono ?_); rintro e w4 ⟨rfl, rfl⟩))
                  have hd6 : Below V1.heap.size V1 U5.drew := (hacd5).drew
                  have XB6 := HXB.out _ hd6
                  have e0 := (XB6).cell (j := 0) rfl; have e1 := (XB6).cell (j := 1) rfl; have e2 := (XB6).cell (j := 2) rfl; have e3 := (XB6).cell (j := 3) rfl; have e4 := (XB6).cell (j := 4) rfl; have e5 := (XB6).cell (j := 5) rfl; have e6 := (XB6).cell (j := 6) rfl; have e7 := (XB6).cell (j := 7) rfl
                  have XB8 := HXB.out _ ((bthen (hacd5) (below_new U5 (.cells #[.string ⟨#[]⟩, .int .i64 0, .int .i64 0, .int .i64 0, .int .i64 0, .int .i64 0, .string ⟨#[]⟩, .slice none 0 0] 105))).drew)
                  have h0 := (XB8).cell (j := 0) rfl; have h1 := (XB8).cell (j := 1) rfl; have h2 := (XB8).cell (j := 2) rfl; have h3 := (XB8).cell (j := 3) rfl; have h4 := (XB8).cell (j := 4) rfl; have h5 := (XB8).cell (j := 5) rfl; have h6 := (XB8).cell (j := 6) rfl; have h7 := (XB8).cell (j := 7) rfl
                  refine wp_region_any (by kernel_rfl) ?_
                  change wpAny _ _ _ _ _ _ _ (World.drew _)
                  refine wpAny_take (i := 0) (v := .slice (some ⟨b, o, none⟩) N d2) rfl (by kernel_rfl) (by kernel_rfl) (by kernel_rfl) (fun _ _ _ h => h) (Or.inl ⟨by kernel_rfl, fun w => by go_simp⟩) ?_
                  refine wpAny_take (i := 1) (v := .int .i64 (j : Nat)) rfl (by kernel_rfl) (by kernel_rfl) (by kernel_rfl) (fun _ _ _ h => h) (Or.inl ⟨by kernel_rfl, fun w => by go_simp⟩) ?_
                  refine wpAny_take (i := 2) (v := .slice (some ⟨b, o, none⟩) j d2) rfl (by kernel_rfl) (by kernel_rfl) (by kernel_rfl) (fun _ _ _ h => h) (Or.inl ⟨by kernel_rfl, fun w => by go_simp⟩) ?_
                  refine wpAny_take (i := 3) (v := .pointer (some ⟨wr.heap.size, 6, none⟩)) rfl (by kernel_rfl) (by kernel_rfl) (by kernel_rfl) (fun _ _ _ h => h) (Or.inl ⟨by kernel_rfl, fun w => by go_simp⟩) ?_
                  refine wpAny_ready (rs := [4, 9]) (by kernel_rfl) (by simp) ?_
                  refine AllReady.cons rfl (fun K hK => ?_) (AllReady.cons rfl (fun K hK => ?_) AllReady.nil)
                  · rw [if_pos (by kernel_rfl)]
                    go_simp
                    refine hK _ _ ?_
                    clear hK K
                    refine wpAny_ready (rs := [5, 9]) (by kernel_rfl) (by simp) ?_
                    refine AllReady.cons rfl (fun K hK => ?_) (AllReady.cons rfl (fun K hK => ?_) AllReady.nil)
                    · rw [if_pos (by kernel_rfl)]
                      go_simp
                      go_at_call 52
                      (with_reducible refine (KFL.out _ hd6).mono ?_)
                      rintro e w7 ⟨zp, zl, zk, zm, zu, zg, zt, zA, zn, zc, rfl, hb7⟩
                      have hacc7 := bthen hd6 hb7
                      have XB7 := HXB.out _ hacc7
                      have u0 := (XB7).cell (j := 0) rfl; have u1 := (XB7).cell (j := 1) rfl; have u2 := (XB7).cell (j := 2) rfl; have u3 := (XB7).cell (j := 3) rfl; have u4 := (XB7).cell (j := 4) rfl; have u5 := (XB7).cell (j := 5) rfl; have u6 := (XB7).cell (j := 6) rfl; have u7 := (XB7).cell (j := 7) rfl
                      refine hK _ _ ?_
                      clear hK K
                      refine wpAny_take (i := 6) (v := .tuple #[.agg #[.string zp, .int .i64 zk, .int .i64 zm, .int .i64 zu, .int .i64 zg, .int .i64 zt, .string zl, .slice zA zn zc], .bool is2]) rfl (by kernel_rfl) (by kernel_rfl) (by kernel_rfl) (fun _ _ _ h => h) (Or.inl ⟨by kernel_rfl, fun w => by go_simp⟩) ?_
                      refine wpAny_take (i := 7) (v := .agg #[.string zp, .int .i64 zk, .int .i64 zm, .int .i64 zu, .int .i64 zg, .int .i64 zt, .string zl, .slice zA zn zc]) rfl (by kernel_rfl) (by kernel_rfl) (by kernel_rfl) (fun _ _ _ h => h) (Or.inl ⟨by kernel_rfl, fun w => by go_simp⟩) ?_
                      refine wpAny_take (i := 8) (v := .bool is2) rfl (by kernel_rfl) (by kernel_rfl) (by kernel_rfl) (fun _ _ _ h => h) (Or.inl ⟨by kernel_rfl, fun w => by go_simp⟩) ?_
                      refine wpAny_ready (rs := [9]) (by kernel_rfl) (by simp) ?_
                      refine AllReady.cons rfl (fun K hK => ?_) AllReady.nil
                      rw [if_pos (by kernel_rfl)]
                      go_simp
                      refine hK _ _ ?_
                      clear hK K
                      refine wpAny_ready (rs := [10]) (by kernel_rfl) (by simp) ?_
                      refine AllReady.cons rfl (fun K hK => ?_) AllReady.nil
                      rw [if_pos (by kernel_rfl)]
                      go_simp
                      refine hK _ _ ?_
                      clear hK K
                      refine wpAny_ready (rs := [11]) (by kernel_rfl) (by simp) ?_
                      refine AllReady.cons rfl (fun K hK => ?_) AllReady.nil
                      rw [if_pos (by kernel_rfl)]
                      go_simp
                      refine hK _ _ ?_
                      clear hK K
                      refine wpAny_done (by kernel_rfl) ?_ _
                      obtain ⟨V9, hV9, bx9, hbd9⟩ := set8_a (U := 105) hacc7 (.string zp) (.int .i64 zk) (.int .i64 zm) (.int .i64 zu) (.int .i64 zg) (.int .i64 zt) (.string zl) (.slice zA zn zc)
                      rw [hV9]
                      have b0 := (bx9).cell (j := 0) rfl; have b1 := (bx9).cell (j := 1) rfl; have b2 := (bx9).cell (j := 2) rfl; have b3 := (bx9).cell (j := 3) rfl; have b4 := (bx9).cell (j := 4) rfl; have b5 := (bx9).cell (j := 5) rfl; have b6 := (bx9).cell (j := 6) rfl; have b7 := (bx9).cell (j := 7) rfl
                      have XB9 := HXB.out _ hbd9
                      have v0 := (XB9).cell (j := 0) rfl; have v1 := (XB9).cell (j := 1) rfl; have v2 := (XB9).cell (j := 2) rfl; have v3 := (XB9).cell (j := 3) rfl; have v4 := (XB9).cell (j := 4) rfl; have v5 := (XB9).cell (j := 5) rfl; have v6 := (XB9).cell (j := 6) rfl; have v7 := (XB9).cell (j := 7) rfl
                      go_wp2
                      go_roundw
                      case rel => exact ⟨j + 1, by omega, by go_num, bthen (bthen HB.out HBV.out) hbd9⟩
                      case measure => simp [intOf]; omega
                    · rw [if_pos (by kernel_rfl)]
                      go_simp
                      refine hK _ _ ?_
                      clear hK K
                      refine wpAny_ready (rs := [5]) (by kernel_rfl) (by simp) ?_
                      refine AllReady.cons rfl (fun K hK => ?_) AllReady.nil
                      rw [if_pos (by kernel_rfl)]
                      go_simp
                      go_at_call 52
                      (with_reducible refine (KFL.out _ ((bthen hacd5 (below_new U5 (.cells #[.string ⟨#[]⟩, .int .i64 0, .int .i64 0, .int .i64 0, .int .i64 0, .int .i64 0, .string ⟨#[]⟩, .slice none 0 0] 105))).drew)).mono ?_)
                      rintro e w7 ⟨zp, zl, zk, zm, zu, zg, zt, zA, zn, zc, rfl, hb7⟩
                      have hacc7 := bthen ((bthen hacd5 (below_new U5 (.cells #[.string ⟨#[]⟩, .int .i64 0, .int .i64 0, .int .i64 0, .int .i64 0, .int .i64 0, .string ⟨#[]⟩, .slice none 0 0] 105))).drew) hb7
                      have bz := (show BX (U5.alloc (.cells #[.string ⟨#[]⟩, .int .i64 0, .int .i64 0, .int .i64 0, .int .i64 0, .int .i64 0, .string ⟨#[]⟩, .slice none 0 0] 105)).drew U5.heap.size 105 #[.string ⟨#[]⟩, .int .i64 0, .int .i64 0, .int .i64 0, .int .i64 0, .int .i64 0, .string ⟨#[]⟩, .slice none 0 0] from BX.new U5 105 #[.string ⟨#[]⟩, .int .i64 0, .int .i64 0, .int .i64 0, .int .i64 0, .int .i64 0, .string ⟨#[]⟩, .slice none 0 0]).later hb7
                      have bc0 := bz.cell (j := 0) rfl; have bf0 := bz.free 0; have bc1 := bz.cell (j := 1) rfl; have bf1 := bz.free 1; have bc2 := bz.cell (j := 2) rfl; have bf2 := bz.free 2; have bc3 := bz.cell (j := 3) rfl; have bf3 := bz.free 3; have bc4 := bz.cell (j := 4) rfl; have bf4 := bz.free 4; have bc5 := bz.cell (j := 5) rfl; have bf5 := bz.free 5; have bc6 := bz.cell (j := 6) rfl; have bf6 := bz.free 6; have bc7 := bz.cell (j := 7) rfl; have bf7 := bz.free 7
                      have XB7 := HXB.out _ hacc7
                      have u0 := (XB7).cell (j := 0) rfl; have u1 := (XB7).cell (j := 1) rfl; have u2 := (XB7).cell (j := 2) rfl; have u3 := (XB7).cell (j := 3) rfl; have u4 := (XB7).cell (j := 4) rfl; have u5 := (XB7).cell (j := 5) rfl; have u6 := (XB7).cell (j := 6) rfl; have u7 := (XB7).cell (j := 7) rfl
                      refine hK _ _ ?_
                      clear hK K
                      refine wpAny_take (i := 6) (v := .tuple #[.agg #[.string zp, .int .i64 zk, .int .i64 zm, .int .i64 zu, .int .i64 zg, .int .i64 zt, .string zl, .slice zA zn zc], .bool is2]) rfl (by kernel_rfl) (by kernel_rfl) (by kernel_rfl) (fun _ _ _ h => h) (Or.inl ⟨by kernel_rfl, fun w => by go_simp⟩) ?_
                      refine wpAny_take (i := 7) (v := .agg #[.string zp, .int .i64 zk, .int .i64 zm, .int .i64 zu, .int .i64 zg, .int .i64 zt, .string zl, .slice zA zn zc]) rfl (by kernel_rfl) (by kernel_rfl) (by kernel_rfl) (fun _ _ _ h => h) (Or.inl ⟨by kernel_rfl, fun w => by go_simp⟩) ?_
                      refine wpAny_take (i := 8) (v := .bool is2) rfl (by kernel_rfl) (by kernel_rfl) (by kernel_rfl) (fun _ _ _ h => h) (Or.inl ⟨by kernel_rfl, fun w => by go_simp⟩) ?_
                      refine wpAny_ready (rs := [10]) (by kernel_rfl) (by simp) ?_
                      refine AllReady.cons rfl (fun K hK => ?_) AllReady.nil
                      rw [if_pos (by kernel_rfl)]
                      go_simp
                      refine hK _ _ ?_
                      clear hK K
                      refine wpAny_ready (rs := [11]) (by kernel_rfl) (by simp) ?_
                      refine AllReady.cons rfl (fun K hK => ?_) AllReady.nil
                      rw [if_pos (by kernel_rfl)]
                      go_simp
                      refine hK _ _ ?_
                      clear hK K
                      refine wpAny_done (by kernel_rfl) ?_ _
                      obtain ⟨V9, hV9, bx9, hbd9⟩ := set8_b bz hacc7 (hacd5).size (.string zp) (.int .i64 zk) (.int .i64 zm) (.int .i64 zu) (.int .i64 zg) (.int .i64 zt) (.string zl) (.slice zA zn zc)
                      rw [hV9]
                      have b0 := (bx9).cell (j := 0) rfl; have b1 := (bx9).cell (j := 1) rfl; have b2 := (bx9).cell (j := 2) rfl; have b3 := (bx9).cell (j := 3) rfl; have b4 := (bx9).cell (j := 4) rfl; have b5 := (bx9).cell (j := 5) rfl; have b6 := (bx9).cell (j := 6) rfl; have b7 := (bx9).cell (j := 7) rfl
                      have XB9 := HXB.out _ hbd9
                      have v0 := (XB9).cell (j := 0) rfl; have v1 := (XB9).cell (j := 1) rfl; have v2 := (XB9).cell (j := 2) rfl; have v3 := (XB9).cell (j := 3) rfl; have v4 := (XB9).cell (j := 4) rfl; have v5 := (XB9).cell (j := 5) rfl; have v6 := (XB9).cell (j := 6) rfl; have v7 := (XB9).cell (j := 7) rfl
                      go_wp2
                      go_roundw
                      case rel => exact ⟨j + 1, by omega, by go_num, bthen (bthen HB.out HBV.out) hbd9⟩
                      case measure => simp [intOf]; omega
                  · rw [if_pos (by kernel_rfl)]
                    go_simp
                    refine hK _ _ ?_
                    clear hK K
                    refine wpAny_ready (rs := [4]) (by kernel_rfl) (by simp) ?_
                    refine AllReady.cons rfl (fun K hK => ?_) AllReady.nil
                    rw [if_pos (by kernel_rfl)]
                    go_simp
                    refine hK _ _ ?_
                    clear hK K
                    refine wpAny_ready (rs := [5]) (by kernel_rfl) (by simp) ?_
                    refine AllReady.cons rfl (fun K hK => ?_) AllReady.nil
                    rw [if_pos (by kernel_rfl)]
                    go_simp
                    go_at_call 52
                    (with_reducible refine (KFL.out _ ((bthen hacd5 (below_new U5 (.cells #[.string ⟨#[]⟩, .int .i64 0, .int .i64 0, .int .i64 0, .int .i64 0, .int .i64 0, .string ⟨#[]⟩, .slice none 0 0] 105))).drew)).mono ?_)
                    rintro e w7 ⟨zp, zl, zk, zm, zu, zg, zt, zA, zn, zc, rfl, hb7⟩
                    have hacc7 := bthen ((bthen hacd5 (below_new U5 (.cells #[.string ⟨#[]⟩, .int .i64 0, .int .i64 0, .int .i64 0, .int .i64 0, .int .i64 0, .string ⟨#[]⟩, .slice none 0 0] 105))).drew) hb7
                    have bz := (show BX (U5.alloc (.cells #[.string ⟨#[]⟩, .int .i64 0, .int .i64 0, .int .i64 0, .int .i64 0, .int .i64 0, .string ⟨#[]⟩, .slice none 0 0] 105)).drew U5.heap.size 105 #[.string ⟨#[]⟩, .int .i64 0, .int .i64 0, .int .i64 0, .int .i64 0, .int .i64 0, .string ⟨#[]⟩, .slice none 0 0] from BX.new U5 105 #[.string ⟨#[]⟩, .int .i64 0, .int .i64 0, .int .i64 0, .int .i64 0, .int .i64 0, .string ⟨#[]⟩, .slice none 0 0]).later hb7
                    have bc0 := bz.cell (j := 0) rfl; have bf0 := bz.free 0; have bc1 := bz.cell (j := 1) rfl; have bf1 := bz.free 1; have bc2 := bz.cell (j := 2) rfl; have bf2 := bz.free 2; have bc3 := bz.cell (j := 3) rfl; have bf3 := bz.free 3; have bc4 := bz.cell (j := 4) rfl; have bf4 := bz.free 4; have bc5 := bz.cell (j := 5) rfl; have bf5 := bz.free 5; have bc6 := bz.cell (j := 6) rfl; have bf6 := bz.free 6; have bc7 := bz.cell (j := 7) rfl; have bf7 := bz.free 7
                    have XB7 := HXB.out _ hacc7
                    have u0 := (XB7).cell (j := 0) rfl; have u1 := (XB7).cell (j := 1) rfl; have u2 := (XB7).cell (j := 2) rfl; have u3 := (XB7).cell (j := 3) rfl; have u4 := (XB7).cell (j := 4) rfl; have u5 := (XB7).cell (j := 5) rfl; have u6 := (XB7).cell (j := 6) rfl; have u7 := (XB7).cell (j := 7) rfl
                    refine hK _ _ ?_
                    clear hK K
                    refine wpAny_take (i := 6) (v := .tuple #[.agg #[.string zp, .int .i64 zk, .int .i64 zm, .int .i64 zu, .int .i64 zg, .int .i64 zt, .string zl, .slice zA zn zc], .bool is2]) rfl (by kernel_rfl) (by kernel_rfl) (by kernel_rfl) (fun _ _ _ h => h) (Or.inl ⟨by kernel_rfl, fun w => by go_simp⟩) ?_
                    refine wpAny_take (i := 7) (v := .agg #[.string zp, .int .i64 zk, .int .i64 zm, .int .i64 zu, .int .i64 zg, .int .i64 zt, .string zl, .slice zA zn zc]) rfl (by kernel_rfl) (by kernel_rfl) (by kernel_rfl) (fun _ _ _ h => h) (Or.inl ⟨by kernel_rfl, fun w => by go_simp⟩) ?_
                    refine wpAny_take (i := 8) (v := .bool is2) rfl (by kernel_rfl) (by kernel_rfl) (by kernel_rfl) (fun _ _ _ h => h) (Or.inl ⟨by kernel_rfl, fun w => by go_simp⟩) ?_
                    refine wpAny_ready (rs := [10]) (by kernel_rfl) (by simp) ?_
                    refine AllReady.cons rfl (fun K hK => ?_) AllReady.nil
                    rw [if_pos (by kernel_rfl)]
                    go_simp
                    refine hK _ _ ?_
                    clear hK K
                    refine wpAny_ready (rs := [11]) (by kernel_rfl) (by simp) ?_
                    refine AllReady.cons rfl (fun K hK => ?_) AllReady.nil
                    rw [if_pos (by kernel_rfl)]
                    go_simp
                    refine hK _ _ ?_
                    clear hK K
                    refine wpAny_done (by kernel_rfl) ?_ _
                    obtain ⟨V9, hV9, bx9, hbd9⟩ := set8_b bz hacc7 (hacd5).size (.string zp) (.int .i64 zk) (.int .i64 zm) (.int .i64 zu) (.int .i64 zg) (.int .i64 zt) (.string zl) (.slice zA zn zc)
                    rw [hV9]
                    have b0 := (bx9).cell (j := 0) rfl; have b1 := (bx9).cell (j := 1) rfl; have b2 := (bx9).cell (j := 2) rfl; have b3 := (bx9).cell (j := 3) rfl; have b4 := (bx9).cell (j := 4) rfl; have b5 := (bx9).cell (j := 5) rfl; have b6 := (bx9).cell (j := 6) rfl; have b7 := (bx9).cell (j := 7) rfl
                    have XB9 := HXB.out _ hbd9
                    have v0 := (XB9).cell (j := 0) rfl; have v1 := (XB9).cell (j := 1) rfl; have v2 := (XB9).cell (j := 2) rfl; have v3 := (XB9).cell (j := 3) rfl; have v4 := (XB9).cell (j := 4) rfl; have v5 := (XB9).cell (j := 5) rfl; have v6 := (XB9).cell (j := 6) rfl; have v7 := (XB9).cell (j := 7) rfl
                    go_wp2
                    go_roundw
                    case rel => exact ⟨j + 1, by omega, by go_num, bthen (bthen HB.out HBV.out) hbd9⟩
                    case measure => simp [intOf]; omega
          · have hlt' : ¬ (j : Int) < N := by omega
            have HA5 := Lib.hid (HA2.out.later HB.out)
            go_wp2_with (first
              | (go_at_call 45; (with_reducible refine (AL.out _).mono ?_); rintro e w8 ⟨rfl, hb8⟩; have HB8 := Lib.hid (bthen (bthen h6.low hb7) hb8); clear hb8)
              | (go_at_call 55; (with_reducible refine (KE.out _ _ h7 h6).mono ?_); rintro e w7 ⟨rfl, hb7⟩)
              | (go_at_call 58; (with_reducible refine (KC.out _ HA5.out).mono ?_); rintro e w6 ⟨tb6, rfl, h6, h7⟩))
            go_ret
            exact ⟨rfl, HB8.out⟩
      · have KE := Lib.hid (fun W (h1 : At w W tb T K) => at_equal2 h1 h1 (by omega) HM.out HBk.out root root (by omega) (by omega))
        simp only [eqv_bad h0] at KE
        have hofl : Nt.ofL T root = [] := by unfold Nt.ofL; rw [if_neg h0]
        have g0 : (Nt.ofE T root != 0) = true := by simp [h0]
        generalize Nt.ofE T root = z at *
        clear h0
        go_wp2_with (first
          | (go_at_call 45; (with_reducible refine (AL.out _).mono ?_); rintro e w8 ⟨rfl, hb8⟩; have HB8 := Lib.hid (bthen (bthen HA2.out.low hb7) hb8); clear hb8)
          | (go_at_call 55; (with_reducible refine (KE.out _ HA2.out).mono ?_); rintro e w7 ⟨rfl, hb7⟩)
          | (go_at_call 46; (with_reducible refine KO.out.mono ?_); rintro e w2 ⟨B2, d2, L, rfl, hL, hmr, hLc, hLm, hb2⟩; have hL0 : L = [] := (by rw [hofl] at hL; simpa using hL); subst hL0; have HA2 := Lib.hid (HA0.out.later hb2); clear hL hmr hLc hb2))
        go_ret
        exact ⟨rfl, HB8.out⟩
end Go.Proofs.YtlgfinlgghcgnaaGreatDoor
