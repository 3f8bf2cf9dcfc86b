/- THE LAW 'TreeSame'. gen_l15a.py -/
import Derived.Test.YtlgfinlgghcgnaaGreatDoorGw2
import Derived.Test.YtlgfinlgghcgnaaGreatDoorS15
import Derived.Test.YtlgfinlgghcgnaaGreatDoorGd1
namespace Go.Proofs.YtlgfinlgghcgnaaGreatDoor
set_option linter.unusedVariables false
open Go Go.RowKit Go.Maps
set_option maxRecDepth 100000
set_option maxHeartbeats 80000000
open Nt (Tr Nd WF Ps Path at_ cnt used txt Mm)
theorem fm_take {l : List Mm} {j : Nat} {x : Mm} (h : l[j]? = some x) (p : ByteArray) : fm (l.take (j + 1)) p = (fm (l.take j) p).or (if x.1 = p then some x else none) := by
  unfold fm
  rw [List.take_add_one, h, Option.toList_some, List.find?_append]
  congr 1
  rw [List.find?_cons]
  by_cases e : x.1 = p <;> simp [e]
theorem dif_one {x y : Mm} (hx : x.2.xs.length = x.2.n) (hy : y.2.xs.length = y.2.n) (h : erm x = erm y) : (dif [x] [y]).2 = false := by
  unfold dif
  rw [if_pos ((sm_iff hx hy).2 h)]
  rfl
theorem one_row {w : World} {b : Nat} {U : TypeId} {x : Mm} (h : BX w b U (MmC x)) (hx : MmW w x) : MRowW w (some ⟨b, 0, none⟩) 1 [x] :=
  ⟨(rowof_one (C := MmC) (z := 8) h).weak, fun y hy => by rw [List.mem_singleton.1 hy]; exact hx⟩
theorem fm_none {l : List Mm} {p : ByteArray} (h : (fm l p).isSome = true) : ∃ x ∈ l, fm l p = some x := by
  cases e : fm l p with
  | none => rw [e] at h; cases h
  | some x => exact ⟨x, List.mem_of_find?_eq_some e, rfl⟩
/-- A member laid into a box that was just made. -/
theorem set8_at {w w5 : World} {U : TypeId} (hb : Below w.heap.size w w5) (c0 c1 c2 c3 c4 c5 c6 c7 : Value) :
    ∃ V, w5.alloc (.cells #[c0, c1, c2, c3, c4, c5, c6, c7] U) = V ∧ BX V w5.heap.size U #[c0, c1, c2, c3, c4, c5, c6, c7] ∧ Below w.heap.size w V ∧ Below w5.heap.size w5 V :=
  ⟨_, rfl, BX.new w5 U _, bthen hb (below_new w5 _), below_new w5 _⟩
theorem treesame_walk (A : Option Addr) (n c : Nat) (l : List Mm) (A2 : Option Addr) (n2 c2 : Nat) (l2 : List Mm) (p : ByteArray) (w : World) (hr : MRowW w A n l) (hc : n ≤ c) (hc2 : c ≤ maxLen) (hy : ∀ y ∈ l, Byt y.2.xs ∧ y.1.size ≤ maxLen ∧ y.2.link.size ≤ maxLen) (hr2 : MRowW w A2 n2 l2) (hcc : n2 ≤ c2) (hcc2 : c2 ≤ maxLen) (hy2 : ∀ y ∈ l2, Byt y.2.xs ∧ y.1.size ≤ maxLen ∧ y.2.link.size ≤ maxLen) (hp : p.size ≤ maxLen) :
    Calls Tryz.prog 8 #[.slice A n c, .slice A2 n2 c2, .string p] w fun e w' => e = .returned (.bool true) ∧ Below w.heap.size w w' := by
  have AL := Lib.hid (fun W => alive15_any W)
  have hl : l.length = n := hr.1.1
  by_cases h20 : n ≤ 20
  · by_cases h21 : n2 ≤ 20
    · have g1 : ¬ (20 : Int) < n := by omega
      have g2 : ¬ (20 : Int) < n2 := by omega
      have HR := Lib.hid hr
      have HR2 := Lib.hid hr2
      have HY := Lib.hid hy
      have HY2 := Lib.hid hy2
      have HL := Lib.hid hl
      have HB0 := Lib.hid (below_new w (.cells (MmC mmz) 100))
      clear hr hr2 hy hy2 hl hc hc2 hcc hcc2 hp
      go_enter Tryz.func8, Tryz.ntmps8
      go_wp2
      go_loopw [7, 9, 10, 28] (fun nn met i k W => ∃ j : Nat, j ≤ n ∧ k = .int .i64 j ∧ nn = .int .i64 (byN (l.take j) : Nat) ∧ met = .bool (fm (l.take j) p).isSome ∧ Hid (BX W w.heap.size 100 (MmC ((fm (l.take j) p).getD mmz))) ∧ Hid (∀ x ∈ l.take j, x.2.n ≤ 5000) ∧ Hid (Below w.heap.size w W)) (fun _ _ _ k _ => n - (intOf k).toNat)
      case atStart => exact ⟨0, Nat.zero_le _, rfl, rfl, rfl, BX.new w 100 (MmC mmz), fun x hx => (by cases hx), HB0.out⟩
      case round =>
        obtain ⟨j, hj, rfl, rfl, rfl, HX, HN, HB⟩ := hrel
        by_cases hlt : j < n
        · have hlt' : (j : Int) < n := by omega
          obtain ⟨b, o, x, rfl, hx, hcl⟩ := mrow_at HR.out.1 hlt
          obtain ⟨z0, z1, z2, z3, z4, z5, z6, z7⟩ := hcl _ HB.out
          have ht := byN_take hx
          have hle := byN_le (l := l.take j) fun y hy => Nat.le_trans (HN.out y hy) (by omega)
          rw [List.length_take] at hle
          have hle2 : byN (l.take j) ≤ 20000000 := by omega
          obtain ⟨sN, hsN⟩ : ∃ s, byN (l.take j) = s := ⟨_, rfl⟩
          rw [hsN] at ht hle2 ⊢
          have hft := fm_take hx p
          obtain ⟨fo, hfo⟩ : ∃ f, fm (l.take j) p = f := ⟨_, rfl⟩
          rw [hfo] at hft HX ⊢
          obtain ⟨xp, xk, xm, xu, xg, xt, xl, xA, xn, xc, xxs⟩ := x
          have HT := Lib.hid ht
          have HFT := Lib.hid hft
          have HXX := Lib.hid hx
          clear hcl ht hft hfo hx hle hsN
          by_cases h5 : 5000 < xn
          · have h5i : (5000 : Int) < xn := by omega
            clear h5
            go_wp2_with (go_at_call 45; (with_reducible refine (AL.out _).mono ?_); rintro e w3 ⟨rfl, hb3⟩; have HB3 := Lib.hid (bthen HB.out hb3); clear hb3)
            go_ret
            exact ⟨rfl, HB3.out⟩
          · have h5i : ¬ (5000 : Int) < xn := by omega
            have HN2 : Hid (∀ x ∈ l.take (j + 1), x.2.n ≤ 5000) := fun y hy => by
              rw [take_snoc HXX.out] at hy
              rcases List.mem_append.1 hy with h | h
              · exact HN.out y h
              · obtain rfl := (by simpa using h : y = _)
                show xn ≤ 5000
                omega
            clear h5
            cases hfo : fo with
            | some y =>
              rw [hfo] at HFT HX
              have HFT2 : Hid (fm (l.take (j + 1)) p = some y) := by rw [HFT.out]; rfl
              clear HFT hfo
              go_wp2
              go_roundw
              case rel => exact ⟨j + 1, by omega, by go_num, by rw [HT.out]; go_num, by rw [HFT2.out], by rw [HFT2.out]; exact HX.out, HN2.out, HB.out⟩
              case measure => simp [intOf]; omega
            | none =>
              rw [hfo] at HFT HX
              clear hfo
              by_cases hxp : xp = p
              · have gx : (xp.toList == p.toList) = true := by rw [Pp.toList_eq]; simp [hxp]
                have HFT2 : Hid (fm (l.take (j + 1)) p = some (xp, ⟨xk, xm, xu, xg, xt, xl, xA, xn, xc, xxs⟩)) := by rw [HFT.out, if_pos hxp]; rfl
                have HX2 : BX wr w.heap.size 100 #[.string ⟨#[]⟩, .int .i64 0, .int .i64 0, .int .i64 0, .int .i64 0, .int .i64 0, .string ⟨#[]⟩, .slice none 0 0] := HX.out
                have f0 := HX2.free 0; have e0 := HX2.cell (j := 0) rfl; have f1 := HX2.free 1; have e1 := HX2.cell (j := 1) rfl; have f2 := HX2.free 2; have e2 := HX2.cell (j := 2) rfl; have f3 := HX2.free 3; have e3 := HX2.cell (j := 3) rfl; have f4 := HX2.free 4; have e4 := HX2.cell (j := 4) rfl; have f5 := HX2.free 5; have e5 := HX2.cell (j := 5) rfl; have f6 := HX2.free 6; have e6 := HX2.cell (j := 6) rfl; have f7 := HX2.free 7; have e7 := HX2.cell (j := 7) rfl
                have HX9 := Lib.hid (bx_set8_15 HX2 (.string xp) (.int .i64 xk) (.int .i64 xm) (.int .i64 xu) (.int .i64 xg) (.int .i64 xt) (.string xl) (.slice xA xn xc))
                have HB9 := Lib.hid (((((((((HB.out.setCell (p := ⟨w.heap.size, 0, none⟩) (Nat.le_refl _) (.string xp)).setCell (p := ⟨w.heap.size, 1, none⟩) (Nat.le_refl _) (.int .i64 xk)).setCell (p := ⟨w.heap.size, 2, none⟩) (Nat.le_refl _) (.int .i64 xm)).setCell (p := ⟨w.heap.size, 3, none⟩) (Nat.le_refl _) (.int .i64 xu)).setCell (p := ⟨w.heap.size, 4, none⟩) (Nat.le_refl _) (.int .i64 xg)).setCell (p := ⟨w.heap.size, 5, none⟩) (Nat.le_refl _) (.int .i64 xt)).setCell (p := ⟨w.heap.size, 6, none⟩) (Nat.le_refl _) (.string xl)).setCell (p := ⟨w.heap.size, 7, none⟩) (Nat.le_refl _) (.slice xA xn xc)))
                clear HFT HX2 hxp
                go_wp2
                go_roundw
                case rel => exact ⟨j + 1, by omega, by go_num, by rw [HT.out]; go_num, by (try rw [HFT2.out]); (try rfl), by rw [HFT2.out]; exact HX9.out, HN2.out, HB9.out⟩
                case measure => simp [intOf]; omega
              · have gx : (xp.toList == p.toList) = false := by rw [Pp.toList_eq]; simp [hxp]
                have HFT2 : Hid (fm (l.take (j + 1)) p = none) := by rw [HFT.out, if_neg hxp]; rfl
                clear HFT hxp
                go_wp2
                go_roundw
                case rel => exact ⟨j + 1, by omega, by go_num, by rw [HT.out]; go_num, by rw [HFT2.out], by rw [HFT2.out]; exact HX.out, HN2.out, HB.out⟩
                case measure => simp [intOf]; omega
        · have hlt' : ¬ (j : Int) < n := by omega
          have hjn : j = n := by omega
          subst hjn
          have hall : l.take j = l := by rw [← HL.out]; exact List.take_length
          rw [hall] at HX HN ⊢
          have hd : ∀ x ∈ l, x.2.n ≤ 1000000 := fun x hx => Nat.le_trans (HN.out x hx) (by omega)
          have KA := Lib.hid (fun W (h : Below wr.heap.size wr W) => lall_any A j c l W (HR.out.below (bthen HB.out h)) (by omega))
          have KB := Lib.hid (fun W (h : Below wr.heap.size wr W) => lall_any A2 n2 c2 l2 W (HR2.out.below (bthen HB.out h)) (by omega))
          have KD := Lib.hid (fun A5 c5 A6 c6 W (h1 : MRowW W A5 j l) (h2 : MRowW W A6 n2 l2) => tdiffer_any A5 j c5 A6 n2 c6 l l2 W h1 h2 (by omega) (by omega) (fun x hx => (HY.out x hx).1) (fun x hx => (HY2.out x hx).1))
          have KS := Lib.hid (fun A5 c5 A6 c6 W (h1 : MRowW W A5 j l) (h2 : MRowW W A6 n2 l2) => tsame_any A5 j c5 A6 n2 c6 l l2 W h1 h2 (by omega) (by omega) (fun x hx => (HY.out x hx).1) (fun x hx => (HY2.out x hx).1))
          have KRD := Lib.hid (fun W (h : Below wr.heap.size wr W) => rdiffer_any A j c A2 n2 c2 l l2 W (HR.out.below (bthen HB.out h)) (HR2.out.below (bthen HB.out h)) (by omega) (by omega) hd)
          have KRS := Lib.hid (fun W (h : Below wr.heap.size wr W) => rsame_any A j c A2 n2 c2 l l2 W (HR.out.below (bthen HB.out h)) (HR2.out.below (bthen HB.out h)) (by omega) (by omega) hd)
          have KF := Lib.hid (fun A5 c5 W (h1 : MRowW W A5 j l) => tFind_any A5 j c5 l p W h1 (by omega) hd)
          have KBY := Lib.hid (fun A5 c5 W (h1 : MRowW W A5 j l) => tbytes_any A5 j c5 l W h1 (by omega) hd)
          have hfW : ∀ W, Below wr.heap.size wr W → MmW W ((fm l p).getD mmz) := fun W h => by
            cases e : fm l p with
            | none => exact ⟨RB.nil, Nat.le_refl _, Nat.zero_le _⟩
            | some x => exact ((HR.out.2 x (List.mem_of_find?_eq_some e)).below (bthen HB.out h))
          have hfB : Byt ((fm l p).getD mmz).2.xs := by
            cases e : fm l p with
            | none => exact Byt.nil
            | some x => exact (HY.out x (List.mem_of_find?_eq_some e)).1
          obtain ⟨f, hf⟩ : ∃ f, (fm l p).getD mmz = f := ⟨_, rfl⟩
          obtain ⟨is, his⟩ : ∃ b, (fm l p).isSome = b := ⟨_, rfl⟩
          obtain ⟨sv, hsv⟩ : ∃ b, (!(dif l l2).2) = b := ⟨_, rfl⟩
          obtain ⟨zq, hzq⟩ : ∃ b, (dif l l2).1 = b := ⟨_, rfl⟩
          obtain ⟨zk, hzk⟩ : ∃ b, (dif l l2).2 = b := ⟨_, rfl⟩
          obtain ⟨sN, hsN⟩ : ∃ s, byN l = s := ⟨_, rfl⟩
          obtain ⟨fp, fk, fmm, fu, fg, ft, fl, FA, fn, fc, fxs⟩ := f
          rw [hf] at HX hfW hfB KF
          rw [his] at KF ⊢
          rw [hsv] at KS KRS
          rw [hzq, hzk] at KD KRD
          rw [hsN] at KBY ⊢
          have HFW := Lib.hid hfW
          have HFB := Lib.hid hfB
          have hacc0 : Below wr.heap.size wr wr := Below.refl _ _
          have HSZ := Lib.hid HB.out.size
          clear hall hfW hfB hf his hsv hzq hzk hsN hd HN HY HY2 HR HR2
          go_upto_region 18 with (first
            | (go_at_call 52; (with_reducible refine (KF.out _ _ _ HM5.out).mono ?_); rintro e w6 ⟨⟨q, k, m, u, g, t, lk, Ax, nx, cx, ys⟩, rfl, hey, hyw, hb6⟩; have hacc6 := bthen hacc5 hb6; have HEY := Lib.hid hey; obtain ⟨V6, hV6, hx6, hacc7, hv67⟩ := set8_at (w := wr) (U := 105) hacc6 (.string q) (.int .i64 k) (.int .i64 m) (.int .i64 u) (.int .i64 g) (.int .i64 t) (.string lk) (.slice Ax nx cx); have HYW := Lib.hid (hyw.below hv67); have HX6 := Lib.hid hx6; clear hey hyw hx6 hv67)
            | (go_at_call 51; (with_reducible refine (KRD.out _ hacc3).mono ?_); rintro e w4 ⟨rfl, hb4⟩; have hacc4 := bthen hacc3 hb4)
            | (go_at_call 50; (with_reducible refine (KD.out _ _ _ _ _ (HM1.out.below hb2) HM2.out).mono ?_); rintro e w3 ⟨rfl, hb3⟩; have hacc3 := bthen hacc2 hb3)
            | (go_at_call 49; first
                | (with_reducible refine (KA.out _ hacc4).mono ?_; rintro e w5 ⟨Bq5, dq5, rfl, hm5, hb5⟩; have hacc5 := bthen hacc4 hb5; have HM5 := Lib.hid hm5; clear hm5)
                | (with_reducible refine (KB.out _ hacc1).mono ?_; rintro e w2 ⟨Bq2, dq2, rfl, hm2, hb2⟩; have hacc2 := bthen hacc1 hb2; have HM2 := Lib.hid hm2; clear hm2)
                | (with_reducible refine (KA.out _ hacc0).mono ?_; rintro e w1 ⟨Bq1, dq1, rfl, hm1, hb1⟩; have hacc1 := bthen hacc0 hb1; have HM1 := Lib.hid hm1; clear hm1)))
          have hacc8 : Below wr.heap.size wr V6.drew := hacc7.drew
          have HX8 : Hid (BX V6.drew w6.heap.size 105 #[.string q, .int .i64 k, .int .i64 m, .int .i64 u, .int .i64 g, .int .i64 t, .string lk, .slice Ax nx cx]) := HX6.out
          have HF8 : Hid (BX V6.drew w.heap.size 100 #[.string fp, .int .i64 fk, .int .i64 fmm, .int .i64 fu, .int .i64 fg, .int .i64 ft, .string fl, .slice FA fn fc]) := HX.out.later hacc8
          have KA8 := Lib.hid (fun W (h : Below V6.drew.heap.size V6.drew W) => KA.out W (bthen hacc8 h))
          have KB8 := Lib.hid (fun W (h : Below V6.drew.heap.size V6.drew W) => KB.out W (bthen hacc8 h))
          have KRS8 := Lib.hid (fun W (h : Below V6.drew.heap.size V6.drew W) => KRS.out W (bthen hacc8 h))
          have FW8 := Lib.hid (fun W (h : Below V6.drew.heap.size V6.drew W) => HFW.out W (bthen hacc8 h))
          have YW8 := Lib.hid (fun W (h : Below V6.drew.heap.size V6.drew W) => (show MmW W (q, ⟨k, m, u, g, t, lk, Ax, nx, cx, ys⟩) from MmW.below (w := V6.drew) HYW.out h))
          have hlf : fxs.length = fn := (HFW.out _ (Below.refl _ _)).1.1
          have hly : ys.length = nx := HYW.out.1.1
          have hys : ys = fxs := congrArg (fun z : Mm => z.2.xs) HEY.out
          have HYB : Hid (Byt ys) := by rw [hys]; exact HFB.out
          have HD1 : Hid ((dif [(q, ⟨k, m, u, g, t, lk, Ax, nx, cx, ys⟩)] [(fp, ⟨fk, fmm, fu, fg, ft, fl, FA, fn, fc, fxs⟩)]).2 = false) := dif_one hly hlf HEY.out
          have KS1 := Lib.hid (fun A5 c5 A6 c6 W (h1 : MRowW W A5 1 [(q, ⟨k, m, u, g, t, lk, Ax, nx, cx, ys⟩)]) (h2 : MRowW W A6 1 [(fp, ⟨fk, fmm, fu, fg, ft, fl, FA, fn, fc, fxs⟩)]) => (show Calls Tryz.prog 48 #[.slice A5 1 c5, .slice A6 1 c6] W fun e w' => e = .returned (.bool true) ∧ Below W.heap.size W w' from by
            have h9 := tsame_any A5 1 c5 A6 1 c6 [(q, ⟨k, m, u, g, t, lk, Ax, nx, cx, ys⟩)] [(fp, ⟨fk, fmm, fu, fg, ft, fl, FA, fn, fc, fxs⟩)] W h1 h2 (by decide) (by decide) (fun x hx => by rw [List.mem_singleton.1 hx]; exact HYB.out) (fun x hx => by rw [List.mem_singleton.1 hx]; exact HFB.out)
            rw [HD1.out] at h9
            exact h9))
          have gz1 : (sv == sv) = true := by simp
          have gz2 : (zk == zk) = true := by simp
          have gz3 : (zq.toList == zq.toList) = true := by simp
          have gz4 : (((sN : Nat) : Int) == ((sN : Nat) : Int)) = true := by simp
          have gz5 : (is == is) = true := by simp
          have hcc8 : Below V6.drew.heap.size V6.drew V6.drew := Below.refl _ _
          clear hlf hly hys hacc0 hacc1 hacc2 hacc3 hacc4 hacc5 hacc6 hacc7 hb1 hb2 hb3 hb4 hb5 hb6 HM1 HM2 HM5 KA KB KRS KF KD KRD HX HX6 HEY hV6 HFW HYW
          refine wp_region_any (by kernel_rfl) ?_
          change wpAny _ _ _ _ _ _ _ (World.drew _)
          refine wpAny_take (i := 0) (v := .slice A j c) rfl (by kernel_rfl) (by kernel_rfl) (by kernel_rfl) (fun _ _ _ h => h) (Or.inl ⟨by kernel_rfl, fun w => by go_simp⟩) ?_
          refine wpAny_take (i := 2) (v := .slice A2 n2 c2) rfl (by kernel_rfl) (by kernel_rfl) (by kernel_rfl) (fun _ _ _ h => h) (Or.inl ⟨by kernel_rfl, fun w => by go_simp⟩) ?_
          refine wpAny_take (i := 5) (v := .slice A j c) rfl (by kernel_rfl) (by kernel_rfl) (by kernel_rfl) (fun _ _ _ h => h) (Or.inl ⟨by kernel_rfl, fun w => by go_simp⟩) ?_
          refine wpAny_take (i := 6) (v := .slice A2 n2 c2) rfl (by kernel_rfl) (by kernel_rfl) (by kernel_rfl) (fun _ _ _ h => h) (Or.inl ⟨by kernel_rfl, fun w => by go_simp⟩) ?_
          refine wpAny_ready (rs := [1]) (by kernel_rfl) (by simp) ?_
          refine AllReady.cons rfl (fun K hK => ?_) AllReady.nil
          rw [if_pos (by kernel_rfl)]
          go_simp
          go_at_call 49
          (with_reducible refine (KA8.out _ hcc8).mono ?_)
          rintro e w17 ⟨A17, c17, rfl, hm17, hb17⟩
          have hcc17 := bthen hcc8 hb17
          have HM17 := Lib.hid hm17
          clear hm17
          refine hK _ _ ?_
          clear hK K
          refine wpAny_ready (rs := [3]) (by kernel_rfl) (by simp) ?_
          refine AllReady.cons rfl (fun K hK => ?_) AllReady.nil
          rw [if_pos (by kernel_rfl)]
          go_simp
          go_at_call 49
          (with_reducible refine (KB8.out _ hcc17).mono ?_)
          rintro e w18 ⟨A18, c18, rfl, hm18, hb18⟩
          have hcc18 := bthen hcc17 hb18
          have HM18 := Lib.hid hm18
          clear hm18
          refine hK _ _ ?_
          clear hK K
          refine wpAny_ready (rs := [4]) (by kernel_rfl) (by simp) ?_
          refine AllReady.cons rfl (fun K hK => ?_) AllReady.nil
          rw [if_pos (by kernel_rfl)]
          go_simp
          go_at_call 48
          (with_reducible refine (KS.out _ _ _ _ _ (HM17.out.below hb18) HM18.out).mono ?_)
          rintro e w19 ⟨rfl, hb19⟩
          have hcc19 := bthen hcc18 hb19
          refine hK _ _ ?_
          clear hK K
          refine wpAny_ready (rs := [7]) (by kernel_rfl) (by simp) ?_
          refine AllReady.cons rfl (fun K hK => ?_) AllReady.nil
          rw [if_pos (by kernel_rfl)]
          go_simp
          go_at_call 53
          (with_reducible refine (KRS8.out _ hcc19).mono ?_)
          rintro e w20 ⟨rfl, hb20⟩
          have hcc20 := bthen hcc19 hb20
          refine hK _ _ ?_
          clear hK K
          refine wpAny_take (i := 8) (v := .bool true) rfl (by kernel_rfl) (by kernel_rfl) (by kernel_rfl) (fun _ _ _ h => h) (Or.inl ⟨by kernel_rfl, fun w => by go_simp⟩) ?_
          refine wpAny_take (i := 9) (v := .bool true) rfl (by kernel_rfl) (by kernel_rfl) (by kernel_rfl) (fun _ _ _ h => h) (Or.inl ⟨by kernel_rfl, fun w => by go_simp⟩) ?_
          refine wpAny_take (i := 10) (v := .string zq) rfl (by kernel_rfl) (by kernel_rfl) (by kernel_rfl) (fun _ _ _ h => h) (Or.inl ⟨by kernel_rfl, fun w => by go_simp⟩) ?_
          refine wpAny_take (i := 11) (v := .string zq) rfl (by kernel_rfl) (by kernel_rfl) (by kernel_rfl) (fun _ _ _ h => h) (Or.inl ⟨by kernel_rfl, fun w => by go_simp⟩) ?_
          refine wpAny_take (i := 12) (v := .bool true) rfl (by kernel_rfl) (by kernel_rfl) (by kernel_rfl) (fun _ _ _ h => h) (Or.inl ⟨by kernel_rfl, fun w => by go_simp⟩) ?_
          refine wpAny_take (i := 13) (v := .bool true) rfl (by kernel_rfl) (by kernel_rfl) (by kernel_rfl) (fun _ _ _ h => h) (Or.inl ⟨by kernel_rfl, fun w => by go_simp⟩) ?_
          refine wpAny_take (i := 14) (v := .bool true) rfl (by kernel_rfl) (by kernel_rfl) (by kernel_rfl) (fun _ _ _ h => h) (Or.inl ⟨by kernel_rfl, fun w => by go_simp⟩) ?_
          refine wpAny_take (i := 15) (v := .bool zk) rfl (by kernel_rfl) (by kernel_rfl) (by kernel_rfl) (fun _ _ _ h => h) (Or.inl ⟨by kernel_rfl, fun w => by go_simp⟩) ?_
          refine wpAny_take (i := 16) (v := .bool zk) rfl (by kernel_rfl) (by kernel_rfl) (by kernel_rfl) (fun _ _ _ h => h) (Or.inl ⟨by kernel_rfl, fun w => by go_simp⟩) ?_
          refine wpAny_take (i := 17) (v := .bool true) rfl (by kernel_rfl) (by kernel_rfl) (by kernel_rfl) (fun _ _ _ h => h) (Or.inl ⟨by kernel_rfl, fun w => by go_simp⟩) ?_
          refine wpAny_take (i := 18) (v := .bool true) rfl (by kernel_rfl) (by kernel_rfl) (by kernel_rfl) (fun _ _ _ h => h) (Or.inl ⟨by kernel_rfl, fun w => by go_simp⟩) ?_
          refine wpAny_take (i := 19) (v := .bool true) rfl (by kernel_rfl) (by kernel_rfl) (by kernel_rfl) (fun _ _ _ h => h) (Or.inl ⟨by kernel_rfl, fun w => by go_simp⟩) ?_
          refine wpAny_take (i := 20) (v := .slice A j c) rfl (by kernel_rfl) (by kernel_rfl) (by kernel_rfl) (fun _ _ _ h => h) (Or.inl ⟨by kernel_rfl, fun w => by go_simp⟩) ?_
          refine wpAny_take (i := 23) (v := .int .i64 (sN : Nat)) rfl (by kernel_rfl) (by kernel_rfl) (by kernel_rfl) (fun _ _ _ h => h) (Or.inl ⟨by kernel_rfl, fun w => by go_simp⟩) ?_
          refine wpAny_ready (rs := [21]) (by kernel_rfl) (by simp) ?_
          refine AllReady.cons rfl (fun K hK => ?_) AllReady.nil
          rw [if_pos (by kernel_rfl)]
          go_simp
          go_at_call 49
          (with_reducible refine (KA8.out _ hcc20).mono ?_)
          rintro e w21 ⟨A21, c21, rfl, hm21, hb21⟩
          have hcc21 := bthen hcc20 hb21
          have HM21 := Lib.hid hm21
          clear hm21
          refine hK _ _ ?_
          clear hK K
          refine wpAny_ready (rs := [22]) (by kernel_rfl) (by simp) ?_
          refine AllReady.cons rfl (fun K hK => ?_) AllReady.nil
          rw [if_pos (by kernel_rfl)]
          go_simp
          go_at_call 54
          (with_reducible refine (KBY.out _ _ _ HM21.out).mono ?_)
          rintro e w22 ⟨rfl, hb22⟩
          have hcc22 := bthen hcc21 hb22
          have za0 := (HX8.out.later hcc22).cell (j := 0) rfl; have za1 := (HX8.out.later hcc22).cell (j := 1) rfl; have za2 := (HX8.out.later hcc22).cell (j := 2) rfl; have za3 := (HX8.out.later hcc22).cell (j := 3) rfl; have za4 := (HX8.out.later hcc22).cell (j := 4) rfl; have za5 := (HX8.out.later hcc22).cell (j := 5) rfl; have za6 := (HX8.out.later hcc22).cell (j := 6) rfl; have za7 := (HX8.out.later hcc22).cell (j := 7) rfl
          have ya0 := (HF8.out.later hcc22).cell (j := 0) rfl; have ya1 := (HF8.out.later hcc22).cell (j := 1) rfl; have ya2 := (HF8.out.later hcc22).cell (j := 2) rfl; have ya3 := (HF8.out.later hcc22).cell (j := 3) rfl; have ya4 := (HF8.out.later hcc22).cell (j := 4) rfl; have ya5 := (HF8.out.later hcc22).cell (j := 5) rfl; have ya6 := (HF8.out.later hcc22).cell (j := 6) rfl; have ya7 := (HF8.out.later hcc22).cell (j := 7) rfl
          have zb0 := (HX8.out.later (bthen hcc22 (below_new w22 (.cells #[.string fp, .int .i64 fk, .int .i64 fmm, .int .i64 fu, .int .i64 fg, .int .i64 ft, .string fl, .slice FA fn fc] 100)))).cell (j := 0) rfl; have zb1 := (HX8.out.later (bthen hcc22 (below_new w22 (.cells #[.string fp, .int .i64 fk, .int .i64 fmm, .int .i64 fu, .int .i64 fg, .int .i64 ft, .string fl, .slice FA fn fc] 100)))).cell (j := 1) rfl; have zb2 := (HX8.out.later (bthen hcc22 (below_new w22 (.cells #[.string fp, .int .i64 fk, .int .i64 fmm, .int .i64 fu, .int .i64 fg, .int .i64 ft, .string fl, .slice FA fn fc] 100)))).cell (j := 2) rfl; have zb3 := (HX8.out.later (bthen hcc22 (below_new w22 (.cells #[.string fp, .int .i64 fk, .int .i64 fmm, .int .i64 fu, .int .i64 fg, .int .i64 ft, .string fl, .slice FA fn fc] 100)))).cell (j := 3) rfl; have zb4 := (HX8.out.later (bthen hcc22 (below_new w22 (.cells #[.string fp, .int .i64 fk, .int .i64 fmm, .int .i64 fu, .int .i64 fg, .int .i64 ft, .string fl, .slice FA fn fc] 100)))).cell (j := 4) rfl; have zb5 := (HX8.out.later (bthen hcc22 (below_new w22 (.cells #[.string fp, .int .i64 fk, .int .i64 fmm, .int .i64 fu, .int .i64 fg, .int .i64 ft, .string fl, .slice FA fn fc] 100)))).cell (j := 5) rfl; have zb6 := (HX8.out.later (bthen hcc22 (below_new w22 (.cells #[.string fp, .int .i64 fk, .int .i64 fmm, .int .i64 fu, .int .i64 fg, .int .i64 ft, .string fl, .slice FA fn fc] 100)))).cell (j := 6) rfl; have zb7 := (HX8.out.later (bthen hcc22 (below_new w22 (.cells #[.string fp, .int .i64 fk, .int .i64 fmm, .int .i64 fu, .int .i64 fg, .int .i64 ft, .string fl, .slice FA fn fc] 100)))).cell (j := 7) rfl
          have yb0 := (HF8.out.later (bthen hcc22 (below_new w22 (.cells #[.string q, .int .i64 k, .int .i64 m, .int .i64 u, .int .i64 g, .int .i64 t, .string lk, .slice Ax nx cx] 105)))).cell (j := 0) rfl; have yb1 := (HF8.out.later (bthen hcc22 (below_new w22 (.cells #[.string q, .int .i64 k, .int .i64 m, .int .i64 u, .int .i64 g, .int .i64 t, .string lk, .slice Ax nx cx] 105)))).cell (j := 1) rfl; have yb2 := (HF8.out.later (bthen hcc22 (below_new w22 (.cells #[.string q, .int .i64 k, .int .i64 m, .int .i64 u, .int .i64 g, .int .i64 t, .string lk, .slice Ax nx cx] 105)))).cell (j := 2) rfl; have yb3 := (HF8.out.later (bthen hcc22 (below_new w22 (.cells #[.string q, .int .i64 k, .int .i64 m, .int .i64 u, .int .i64 g, .int .i64 t, .string lk, .slice Ax nx cx] 105)))).cell (j := 3) rfl; have yb4 := (HF8.out.later (bthen hcc22 (below_new w22 (.cells #[.string q, .int .i64 k, .int .i64 m, .int .i64 u, .int .i64 g, .int .i64 t, .string lk, .slice Ax nx cx] 105)))).cell (j := 4) rfl; have yb5 := (HF8.out.later (bthen hcc22 (below_new w22 (.cells #[.string q, .int .i64 k, .int .i64 m, .int .i64 u, .int .i64 g, .int .i64 t, .string lk, .slice Ax nx cx] 105)))).cell (j := 5) rfl; have yb6 := (HF8.out.later (bthen hcc22 (below_new w22 (.cells #[.string q, .int .i64 k, .int .i64 m, .int .i64 u, .int .i64 g, .int .i64 t, .string lk, .slice Ax nx cx] 105)))).cell (j := 6) rfl; have yb7 := (HF8.out.later (bthen hcc22 (below_new w22 (.cells #[.string q, .int .i64 k, .int .i64 m, .int .i64 u, .int .i64 g, .int .i64 t, .string lk, .slice Ax nx cx] 105)))).cell (j := 7) rfl
          refine hK _ _ ?_
          clear hK K
          refine wpAny_take (i := 24) (v := .bool true) rfl (by kernel_rfl) (by kernel_rfl) (by kernel_rfl) (fun _ _ _ h => h) (Or.inl ⟨by kernel_rfl, fun w => by go_simp⟩) ?_
          refine wpAny_take (i := 25) (v := .bool true) rfl (by kernel_rfl) (by kernel_rfl) (by kernel_rfl) (fun _ _ _ h => h) (Or.inl ⟨by kernel_rfl, fun w => by go_simp⟩) ?_
          refine wpAny_take (i := 26) (v := .bool true) rfl (by kernel_rfl) (by kernel_rfl) (by kernel_rfl) (fun _ _ _ h => h) (Or.inl ⟨by kernel_rfl, fun w => by go_simp⟩) ?_
          refine wpAny_take (i := 27) (v := .bool is) rfl (by kernel_rfl) (by kernel_rfl) (by kernel_rfl) (fun _ _ _ h => h) (Or.inl ⟨by kernel_rfl, fun w => by go_simp⟩) ?_
          refine wpAny_take (i := 28) (v := .bool is) rfl (by kernel_rfl) (by kernel_rfl) (by kernel_rfl) (fun _ _ _ h => h) (Or.inl ⟨by kernel_rfl, fun w => by go_simp⟩) ?_
          refine wpAny_take (i := 29) (v := .bool true) rfl (by kernel_rfl) (by kernel_rfl) (by kernel_rfl) (fun _ _ _ h => h) (Or.inl ⟨by kernel_rfl, fun w => by go_simp⟩) ?_
          refine wpAny_take (i := 30) (v := .bool true) rfl (by kernel_rfl) (by kernel_rfl) (by kernel_rfl) (fun _ _ _ h => h) (Or.inl ⟨by kernel_rfl, fun w => by go_simp⟩) ?_
          refine wpAny_take (i := 31) (v := .bool true) rfl (by kernel_rfl) (by kernel_rfl) (by kernel_rfl) (fun _ _ _ h => h) (Or.inl ⟨by kernel_rfl, fun w => by go_simp⟩) ?_
          refine wpAny_ready (rs := [32, 34]) (by kernel_rfl) (by simp) ?_
          refine AllReady.cons rfl (fun K hK => ?_) (AllReady.cons rfl (fun K hK => ?_) AllReady.nil)
          · rw [if_pos (by kernel_rfl)]
            go_simp
            refine hK _ _ ?_
            clear hK K
            refine wpAny_ready (rs := [33, 34]) (by kernel_rfl) (by simp) ?_
            refine AllReady.cons rfl (fun K hK => ?_) (AllReady.cons rfl (fun K hK => ?_) AllReady.nil)
            · rw [if_pos (by kernel_rfl)]
              go_simp
              refine hK _ _ ?_
              clear hK K
              refine wpAny_ready (rs := [34]) (by kernel_rfl) (by simp) ?_
              refine AllReady.cons rfl (fun K hK => ?_) AllReady.nil
              rw [if_pos (by kernel_rfl)]
              go_simp
              refine hK _ _ ?_
              clear hK K
              refine wpAny_ready (rs := [35]) (by kernel_rfl) (by simp) ?_
              refine AllReady.cons rfl (fun K hK => ?_) AllReady.nil
              rw [if_pos (by kernel_rfl)]
              go_simp
              refine hK _ _ ?_
              clear hK K
              refine wpAny_ready (rs := [36]) (by kernel_rfl) (by simp) ?_
              refine AllReady.cons rfl (fun K hK => ?_) AllReady.nil
              rw [if_pos (by kernel_rfl)]
              go_simp
              go_at_call 49
              (with_reducible refine (lall_any (some ⟨w22.heap.size + 1, 0, none⟩) 1 1 [(fp, ⟨fk, fmm, fu, fg, ft, fl, FA, fn, fc, fxs⟩)] ((w22.alloc (.cells #[.string q, .int .i64 k, .int .i64 m, .int .i64 u, .int .i64 g, .int .i64 t, .string lk, .slice Ax nx cx] 105)).alloc (.cells #[.string fp, .int .i64 fk, .int .i64 fmm, .int .i64 fu, .int .i64 fg, .int .i64 ft, .string fl, .slice FA fn fc] 100)) (one_row (bx_two15 w22 (.cells #[.string q, .int .i64 k, .int .i64 m, .int .i64 u, .int .i64 g, .int .i64 t, .string lk, .slice Ax nx cx] 105) 100 #[.string fp, .int .i64 fk, .int .i64 fmm, .int .i64 fu, .int .i64 fg, .int .i64 ft, .string fl, .slice FA fn fc]) (FW8.out _ (bthen (bthen hcc22 (below_new w22 (.cells #[.string q, .int .i64 k, .int .i64 m, .int .i64 u, .int .i64 g, .int .i64 t, .string lk, .slice Ax nx cx] 105))) (below_new _ (.cells #[.string fp, .int .i64 fk, .int .i64 fmm, .int .i64 fu, .int .i64 fg, .int .i64 ft, .string fl, .slice FA fn fc] 100))))) (by decide)).mono ?_)
              rintro e w23 ⟨A23, c23, rfl, hm23, hb23⟩
              have hcc23 := (bthen (bthen (bthen hcc22 (below_new w22 (.cells #[.string q, .int .i64 k, .int .i64 m, .int .i64 u, .int .i64 g, .int .i64 t, .string lk, .slice Ax nx cx] 105))) (below_new _ (.cells #[.string fp, .int .i64 fk, .int .i64 fmm, .int .i64 fu, .int .i64 fg, .int .i64 ft, .string fl, .slice FA fn fc] 100))) hb23)
              have HM23 := Lib.hid hm23
              clear hm23
              refine hK _ _ ?_
              clear hK K
              refine wpAny_ready (rs := [37]) (by kernel_rfl) (by simp) ?_
              refine AllReady.cons rfl (fun K hK => ?_) AllReady.nil
              rw [if_pos (by kernel_rfl)]
              go_simp
              go_at_call 48
              (with_reducible refine (KS1.out _ _ _ _ _ (one_row (((BX.new w22 105 #[.string q, .int .i64 k, .int .i64 m, .int .i64 u, .int .i64 g, .int .i64 t, .string lk, .slice Ax nx cx]).later (below_new _ (.cells #[.string fp, .int .i64 fk, .int .i64 fmm, .int .i64 fu, .int .i64 fg, .int .i64 ft, .string fl, .slice FA fn fc] 100))).later hb23) (YW8.out _ hcc23)) HM23.out).mono ?_)
              rintro e w24 ⟨rfl, hb24⟩
              have hcc24 := bthen hcc23 hb24
              refine hK _ _ ?_
              clear hK K
              refine wpAny_take (i := 38) (v := .bool true) rfl (by kernel_rfl) (by kernel_rfl) (by kernel_rfl) (fun _ _ _ h => h) (Or.inl ⟨by kernel_rfl, fun w => by go_simp⟩) ?_
              refine wpAny_take (i := 39) (v := .bool true) rfl (by kernel_rfl) (by kernel_rfl) (by kernel_rfl) (fun _ _ _ h => h) (Or.inl ⟨by kernel_rfl, fun w => by go_simp⟩) ?_
              refine wpAny_ready (rs := [40]) (by kernel_rfl) (by simp) ?_
              refine AllReady.cons rfl (fun K hK => ?_) AllReady.nil
              rw [if_pos (by kernel_rfl)]
              go_simp
              go_at_call 45
              (with_reducible refine (AL.out _).mono ?_)
              rintro e w25 ⟨rfl, hb25⟩
              refine hK _ _ ?_
              clear hK K
              refine wpAny_take (i := 41) (v := .bool true) rfl (by kernel_rfl) (by kernel_rfl) (by kernel_rfl) (fun _ _ _ h => h) (Or.inl ⟨by kernel_rfl, fun w => by go_simp⟩) ?_
              refine wpAny_take (i := 42) (v := .bool true) rfl (by kernel_rfl) (by kernel_rfl) (by kernel_rfl) (fun _ _ _ h => h) (Or.inl ⟨by kernel_rfl, fun w => by go_simp⟩) ?_
              refine wpAny_done (by kernel_rfl) ?_ _
              generalize hF : Act.put (Act.put _ _ _) _ _ = F
              have h6 : F.tmps.getD 6 undef = .bool true := by rw [← hF]; kernel_rfl
              have h7 : F.tmps[6]?.getD undef = .bool true := by simpa using h6
              have h8 : F.defers = [] := by rw [← hF]; kernel_rfl
              clear hF
              go_wp2
              refine bodyPost_ret (v := .bool true) (by simp [results, Tryz.f8, go_sem, h7]) h8 ?_
              exact ⟨rfl, bthen HB.out (bthen hacc8 (bthen hcc24 hb25))⟩
            · rw [if_pos (by kernel_rfl)]
              go_simp
              refine hK _ _ ?_
              clear hK K
              refine wpAny_ready (rs := [33, 35]) (by kernel_rfl) (by simp) ?_
              refine AllReady.cons rfl (fun K hK => ?_) (AllReady.cons rfl (fun K hK => ?_) AllReady.nil)
              · rw [if_pos (by kernel_rfl)]
                go_simp
                refine hK _ _ ?_
                clear hK K
                refine wpAny_ready (rs := [35]) (by kernel_rfl) (by simp) ?_
                refine AllReady.cons rfl (fun K hK => ?_) AllReady.nil
                rw [if_pos (by kernel_rfl)]
                go_simp
                refine hK _ _ ?_
                clear hK K
                refine wpAny_ready (rs := [36]) (by kernel_rfl) (by simp) ?_
                refine AllReady.cons rfl (fun K hK => ?_) AllReady.nil
                rw [if_pos (by kernel_rfl)]
                go_simp
                go_at_call 49
                (with_reducible refine (lall_any (some ⟨w22.heap.size + 1, 0, none⟩) 1 1 [(fp, ⟨fk, fmm, fu, fg, ft, fl, FA, fn, fc, fxs⟩)] ((w22.alloc (.cells #[.string q, .int .i64 k, .int .i64 m, .int .i64 u, .int .i64 g, .int .i64 t, .string lk, .slice Ax nx cx] 105)).alloc (.cells #[.string fp, .int .i64 fk, .int .i64 fmm, .int .i64 fu, .int .i64 fg, .int .i64 ft, .string fl, .slice FA fn fc] 100)) (one_row (bx_two15 w22 (.cells #[.string q, .int .i64 k, .int .i64 m, .int .i64 u, .int .i64 g, .int .i64 t, .string lk, .slice Ax nx cx] 105) 100 #[.string fp, .int .i64 fk, .int .i64 fmm, .int .i64 fu, .int .i64 fg, .int .i64 ft, .string fl, .slice FA fn fc]) (FW8.out _ (bthen (bthen hcc22 (below_new w22 (.cells #[.string q, .int .i64 k, .int .i64 m, .int .i64 u, .int .i64 g, .int .i64 t, .string lk, .slice Ax nx cx] 105))) (below_new _ (.cells #[.string fp, .int .i64 fk, .int .i64 fmm, .int .i64 fu, .int .i64 fg, .int .i64 ft, .string fl, .slice FA fn fc] 100))))) (by decide)).mono ?_)
                rintro e w23 ⟨A23, c23, rfl, hm23, hb23⟩
                have hcc23 := (bthen (bthen (bthen hcc22 (below_new w22 (.cells #[.string q, .int .i64 k, .int .i64 m, .int .i64 u, .int .i64 g, .int .i64 t, .string lk, .slice Ax nx cx] 105))) (below_new _ (.cells #[.string fp, .int .i64 fk, .int .i64 fmm, .int .i64 fu, .int .i64 fg, .int .i64 ft, .string fl, .slice FA fn fc] 100))) hb23)
                have HM23 := Lib.hid hm23
                clear hm23
                refine hK _ _ ?_
                clear hK K
                refine wpAny_ready (rs := [37]) (by kernel_rfl) (by simp) ?_
                refine AllReady.cons rfl (fun K hK => ?_) AllReady.nil
                rw [if_pos (by kernel_rfl)]
                go_simp
                go_at_call 48
                (with_reducible refine (KS1.out _ _ _ _ _ (one_row (((BX.new w22 105 #[.string q, .int .i64 k, .int .i64 m, .int .i64 u, .int .i64 g, .int .i64 t, .string lk, .slice Ax nx cx]).later (below_new _ (.cells #[.string fp, .int .i64 fk, .int .i64 fmm, .int .i64 fu, .int .i64 fg, .int .i64 ft, .string fl, .slice FA fn fc] 100))).later hb23) (YW8.out _ hcc23)) HM23.out).mono ?_)
                rintro e w24 ⟨rfl, hb24⟩
                have hcc24 := bthen hcc23 hb24
                refine hK _ _ ?_
                clear hK K
                refine wpAny_take (i := 38) (v := .bool true) rfl (by kernel_rfl) (by kernel_rfl) (by kernel_rfl) (fun _ _ _ h => h) (Or.inl ⟨by kernel_rfl, fun w => by go_simp⟩) ?_
                refine wpAny_take (i := 39) (v := .bool true) rfl (by kernel_rfl) (by kernel_rfl) (by kernel_rfl) (fun _ _ _ h => h) (Or.inl ⟨by kernel_rfl, fun w => by go_simp⟩) ?_
                refine wpAny_ready (rs := [40]) (by kernel_rfl) (by simp) ?_
                refine AllReady.cons rfl (fun K hK => ?_) AllReady.nil
                rw [if_pos (by kernel_rfl)]
                go_simp
                go_at_call 45
                (with_reducible refine (AL.out _).mono ?_)
                rintro e w25 ⟨rfl, hb25⟩
                refine hK _ _ ?_
                clear hK K
                refine wpAny_take (i := 41) (v := .bool true) rfl (by kernel_rfl) (by kernel_rfl) (by kernel_rfl) (fun _ _ _ h => h) (Or.inl ⟨by kernel_rfl, fun w => by go_simp⟩) ?_
                refine wpAny_take (i := 42) (v := .bool true) rfl (by kernel_rfl) (by kernel_rfl) (by kernel_rfl) (fun _ _ _ h => h) (Or.inl ⟨by kernel_rfl, fun w => by go_simp⟩) ?_
                refine wpAny_done (by kernel_rfl) ?_ _
                generalize hF : Act.put (Act.put _ _ _) _ _ = F
                have h6 : F.tmps.getD 6 undef = .bool true := by rw [← hF]; kernel_rfl
                have h7 : F.tmps[6]?.getD undef = .bool true := by simpa using h6
                have h8 : F.defers = [] := by rw [← hF]; kernel_rfl
                clear hF
                go_wp2
                refine bodyPost_ret (v := .bool true) (by simp [results, Tryz.f8, go_sem, h7]) h8 ?_
                exact ⟨rfl, bthen HB.out (bthen hacc8 (bthen hcc24 hb25))⟩
              · rw [if_pos (by kernel_rfl)]
                go_simp
                refine hK _ _ ?_
                clear hK K
                refine wpAny_ready (rs := [33, 36]) (by kernel_rfl) (by simp) ?_
                refine AllReady.cons rfl (fun K hK => ?_) (AllReady.cons rfl (fun K hK => ?_) AllReady.nil)
                · rw [if_pos (by kernel_rfl)]
                  go_simp
                  refine hK _ _ ?_
                  clear hK K
                  refine wpAny_ready (rs := [36]) (by kernel_rfl) (by simp) ?_
                  refine AllReady.cons rfl (fun K hK => ?_) AllReady.nil
                  rw [if_pos (by kernel_rfl)]
                  go_simp
                  go_at_call 49
                  (with_reducible refine (lall_any (some ⟨w22.heap.size, 0, none⟩) 1 1 [(fp, ⟨fk, fmm, fu, fg, ft, fl, FA, fn, fc, fxs⟩)] ((w22.alloc (.cells #[.string fp, .int .i64 fk, .int .i64 fmm, .int .i64 fu, .int .i64 fg, .int .i64 ft, .string fl, .slice FA fn fc] 100)).alloc (.cells #[.string q, .int .i64 k, .int .i64 m, .int .i64 u, .int .i64 g, .int .i64 t, .string lk, .slice Ax nx cx] 105)) (one_row ((BX.new w22 100 #[.string fp, .int .i64 fk, .int .i64 fmm, .int .i64 fu, .int .i64 fg, .int .i64 ft, .string fl, .slice FA fn fc]).later (below_new _ (.cells #[.string q, .int .i64 k, .int .i64 m, .int .i64 u, .int .i64 g, .int .i64 t, .string lk, .slice Ax nx cx] 105))) (FW8.out _ (bthen (bthen hcc22 (below_new w22 (.cells #[.string fp, .int .i64 fk, .int .i64 fmm, .int .i64 fu, .int .i64 fg, .int .i64 ft, .string fl, .slice FA fn fc] 100))) (below_new _ (.cells #[.string q, .int .i64 k, .int .i64 m, .int .i64 u, .int .i64 g, .int .i64 t, .string lk, .slice Ax nx cx] 105))))) (by decide)).mono ?_)
                  rintro e w23 ⟨A23, c23, rfl, hm23, hb23⟩
                  have hcc23 := (bthen (bthen (bthen hcc22 (below_new w22 (.cells #[.string fp, .int .i64 fk, .int .i64 fmm, .int .i64 fu, .int .i64 fg, .int .i64 ft, .string fl, .slice FA fn fc] 100))) (below_new _ (.cells #[.string q, .int .i64 k, .int .i64 m, .int .i64 u, .int .i64 g, .int .i64 t, .string lk, .slice Ax nx cx] 105))) hb23)
                  have HM23 := Lib.hid hm23
                  clear hm23
                  refine hK _ _ ?_
                  clear hK K
                  refine wpAny_ready (rs := [37]) (by kernel_rfl) (by simp) ?_
                  refine AllReady.cons rfl (fun K hK => ?_) AllReady.nil
                  rw [if_pos (by kernel_rfl)]
                  go_simp
                  go_at_call 48
                  (with_reducible refine (KS1.out _ _ _ _ _ (one_row ((bx_two15 w22 (.cells #[.string fp, .int .i64 fk, .int .i64 fmm, .int .i64 fu, .int .i64 fg, .int .i64 ft, .string fl, .slice FA fn fc] 100) 105 #[.string q, .int .i64 k, .int .i64 m, .int .i64 u, .int .i64 g, .int .i64 t, .string lk, .slice Ax nx cx]).later hb23) (YW8.out _ hcc23)) HM23.out).mono ?_)
                  rintro e w24 ⟨rfl, hb24⟩
                  have hcc24 := bthen hcc23 hb24
                  refine hK _ _ ?_
                  clear hK K
                  refine wpAny_take (i := 38) (v := .bool true) rfl (by kernel_rfl) (by kernel_rfl) (by kernel_rfl) (fun _ _ _ h => h) (Or.inl ⟨by kernel_rfl, fun w => by go_simp⟩) ?_
                  refine wpAny_take (i := 39) (v := .bool true) rfl (by kernel_rfl) (by kernel_rfl) (by kernel_rfl) (fun _ _ _ h => h) (Or.inl ⟨by kernel_rfl, fun w => by go_simp⟩) ?_
                  refine wpAny_ready (rs := [40]) (by kernel_rfl) (by simp) ?_
                  refine AllReady.cons rfl (fun K hK => ?_) AllReady.nil
                  rw [if_pos (by kernel_rfl)]
                  go_simp
                  go_at_call 45
                  (with_reducible refine (AL.out _).mono ?_)
                  rintro e w25 ⟨rfl, hb25⟩
                  refine hK _ _ ?_
                  clear hK K
                  refine wpAny_take (i := 41) (v := .bool true) rfl (by kernel_rfl) (by kernel_rfl) (by kernel_rfl) (fun _ _ _ h => h) (Or.inl ⟨by kernel_rfl, fun w => by go_simp⟩) ?_
                  refine wpAny_take (i := 42) (v := .bool true) rfl (by kernel_rfl) (by kernel_rfl) (by kernel_rfl) (fun _ _ _ h => h) (Or.inl ⟨by kernel_rfl, fun w => by go_simp⟩) ?_
                  refine wpAny_done (by kernel_rfl) ?_ _
                  generalize hF : Act.put (Act.put _ _ _) _ _ = F
                  have h6 : F.tmps.getD 6 undef = .bool true := by rw [← hF]; kernel_rfl
                  have h7 : F.tmps[6]?.getD undef = .bool true := by simpa using h6
                  have h8 : F.defers = [] := by rw [← hF]; kernel_rfl
                  clear hF
                  go_wp2
                  refine bodyPost_ret (v := .bool true) (by simp [results, Tryz.f8, go_sem, h7]) h8 ?_
                  exact ⟨rfl, bthen HB.out (bthen hacc8 (bthen hcc24 hb25))⟩
                · rw [if_pos (by kernel_rfl)]
                  go_simp
                  go_at_call 49
                  (with_reducible refine (lall_any (some ⟨w22.heap.size, 0, none⟩) 1 1 [(fp, ⟨fk, fmm, fu, fg, ft, fl, FA, fn, fc, fxs⟩)] (w22.alloc (.cells #[.string fp, .int .i64 fk, .int .i64 fmm, .int .i64 fu, .int .i64 fg, .int .i64 ft, .string fl, .slice FA fn fc] 100)) (one_row (BX.new w22 100 #[.string fp, .int .i64 fk, .int .i64 fmm, .int .i64 fu, .int .i64 fg, .int .i64 ft, .string fl, .slice FA fn fc]) (FW8.out _ (bthen hcc22 (below_new w22 (.cells #[.string fp, .int .i64 fk, .int .i64 fmm, .int .i64 fu, .int .i64 fg, .int .i64 ft, .string fl, .slice FA fn fc] 100))))) (by decide)).mono ?_)
                  rintro e w23 ⟨A23, c23, rfl, hm23, hb23⟩
                  have hcc23 := (bthen (bthen hcc22 (below_new w22 (.cells #[.string fp, .int .i64 fk, .int .i64 fmm, .int .i64 fu, .int .i64 fg, .int .i64 ft, .string fl, .slice FA fn fc] 100))) hb23)
                  have HM23 := Lib.hid hm23
                  clear hm23
                  have zc0 := (HX8.out.later hcc23).cell (j := 0) rfl; have zc1 := (HX8.out.later hcc23).cell (j := 1) rfl; have zc2 := (HX8.out.later hcc23).cell (j := 2) rfl; have zc3 := (HX8.out.later hcc23).cell (j := 3) rfl; have zc4 := (HX8.out.later hcc23).cell (j := 4) rfl; have zc5 := (HX8.out.later hcc23).cell (j := 5) rfl; have zc6 := (HX8.out.later hcc23).cell (j := 6) rfl; have zc7 := (HX8.out.later hcc23).cell (j := 7) rfl
                  refine hK _ _ ?_
                  clear hK K
                  refine wpAny_ready (rs := [33]) (by kernel_rfl) (by simp) ?_
                  refine AllReady.cons rfl (fun K hK => ?_) AllReady.nil
                  rw [if_pos (by kernel_rfl)]
                  go_simp
                  refine hK _ _ ?_
                  clear hK K
                  refine wpAny_ready (rs := [37]) (by kernel_rfl) (by simp) ?_
                  refine AllReady.cons rfl (fun K hK => ?_) AllReady.nil
                  rw [if_pos (by kernel_rfl)]
                  go_simp
                  go_at_call 48
                  (with_reducible refine (KS1.out _ _ _ _ _ (one_row (BX.new w23 105 _) (YW8.out _ (bthen hcc23 (below_new w23 (.cells #[.string q, .int .i64 k, .int .i64 m, .int .i64 u, .int .i64 g, .int .i64 t, .string lk, .slice Ax nx cx] 105))))) (HM23.out.below (below_new w23 (.cells #[.string q, .int .i64 k, .int .i64 m, .int .i64 u, .int .i64 g, .int .i64 t, .string lk, .slice Ax nx cx] 105)))).mono ?_)
                  rintro e w24 ⟨rfl, hb24⟩
                  have hcc24 := bthen (bthen hcc23 (below_new w23 (.cells #[.string q, .int .i64 k, .int .i64 m, .int .i64 u, .int .i64 g, .int .i64 t, .string lk, .slice Ax nx cx] 105))) hb24
                  refine hK _ _ ?_
                  clear hK K
                  refine wpAny_take (i := 38) (v := .bool true) rfl (by kernel_rfl) (by kernel_rfl) (by kernel_rfl) (fun _ _ _ h => h) (Or.inl ⟨by kernel_rfl, fun w => by go_simp⟩) ?_
                  refine wpAny_take (i := 39) (v := .bool true) rfl (by kernel_rfl) (by kernel_rfl) (by kernel_rfl) (fun _ _ _ h => h) (Or.inl ⟨by kernel_rfl, fun w => by go_simp⟩) ?_
                  refine wpAny_ready (rs := [40]) (by kernel_rfl) (by simp) ?_
                  refine AllReady.cons rfl (fun K hK => ?_) AllReady.nil
                  rw [if_pos (by kernel_rfl)]
                  go_simp
                  go_at_call 45
                  (with_reducible refine (AL.out _).mono ?_)
                  rintro e w25 ⟨rfl, hb25⟩
                  refine hK _ _ ?_
                  clear hK K
                  refine wpAny_take (i := 41) (v := .bool true) rfl (by kernel_rfl) (by kernel_rfl) (by kernel_rfl) (fun _ _ _ h => h) (Or.inl ⟨by kernel_rfl, fun w => by go_simp⟩) ?_
                  refine wpAny_take (i := 42) (v := .bool true) rfl (by kernel_rfl) (by kernel_rfl) (by kernel_rfl) (fun _ _ _ h => h) (Or.inl ⟨by kernel_rfl, fun w => by go_simp⟩) ?_
                  refine wpAny_done (by kernel_rfl) ?_ _
                  generalize hF : Act.put (Act.put _ _ _) _ _ = F
                  have h6 : F.tmps.getD 6 undef = .bool true := by rw [← hF]; kernel_rfl
                  have h7 : F.tmps[6]?.getD undef = .bool true := by simpa using h6
                  have h8 : F.defers = [] := by rw [← hF]; kernel_rfl
                  clear hF
                  go_wp2
                  refine bodyPost_ret (v := .bool true) (by simp [results, Tryz.f8, go_sem, h7]) h8 ?_
                  exact ⟨rfl, bthen HB.out (bthen hacc8 (bthen hcc24 hb25))⟩
          · rw [if_pos (by kernel_rfl)]
            go_simp
            refine hK _ _ ?_
            clear hK K
            refine wpAny_ready (rs := [32, 35]) (by kernel_rfl) (by simp) ?_
            refine AllReady.cons rfl (fun K hK => ?_) (AllReady.cons rfl (fun K hK => ?_) AllReady.nil)
            · rw [if_pos (by kernel_rfl)]
              go_simp
              refine hK _ _ ?_
              clear hK K
              refine wpAny_ready (rs := [33, 35]) (by kernel_rfl) (by simp) ?_
              refine AllReady.cons rfl (fun K hK => ?_) (AllReady.cons rfl (fun K hK => ?_) AllReady.nil)
              · rw [if_pos (by kernel_rfl)]
                go_simp
                refine hK _ _ ?_
                clear hK K
                refine wpAny_ready (rs := [35]) (by kernel_rfl) (by simp) ?_
                refine AllReady.cons rfl (fun K hK => ?_) AllReady.nil
                rw [if_pos (by kernel_rfl)]
                go_simp
                refine hK _ _ ?_
                clear hK K
                refine wpAny_ready (rs := [36]) (by kernel_rfl) (by simp) ?_
                refine AllReady.cons rfl (fun K hK => ?_) AllReady.nil
                rw [if_pos (by kernel_rfl)]
                go_simp
                go_at_call 49
                (with_reducible refine (lall_any (some ⟨w22.heap.size + 1, 0, none⟩) 1 1 [(fp, ⟨fk, fmm, fu, fg, ft, fl, FA, fn, fc, fxs⟩)] ((w22.alloc (.cells #[.string q, .int .i64 k, .int .i64 m, .int .i64 u, .int .i64 g, .int .i64 t, .string lk, .slice Ax nx cx] 105)).alloc (.cells #[.string fp, .int .i64 fk, .int .i64 fmm, .int .i64 fu, .int .i64 fg, .int .i64 ft, .string fl, .slice FA fn fc] 100)) (one_row (bx_two15 w22 (.cells #[.string q, .int .i64 k, .int .i64 m, .int .i64 u, .int .i64 g, .int .i64 t, .string lk, .slice Ax nx cx] 105) 100 #[.string fp, .int .i64 fk, .int .i64 fmm, .int .i64 fu, .int .i64 fg, .int .i64 ft, .string fl, .slice FA fn fc]) (FW8.out _ (bthen (bthen hcc22 (below_new w22 (.cells #[.string q, .int .i64 k, .int .i64 m, .int .i64 u, .int .i64 g, .int .i64 t, .string lk, .slice Ax nx cx] 105))) (below_new _ (.cells #[.string fp, .int .i64 fk, .int .i64 fmm, .int .i64 fu, .int .i64 fg, .int .i64 ft, .string fl, .slice FA fn fc] 100))))) (by decide)).mono ?_)
                rintro e w23 ⟨A23, c23, rfl, hm23, hb23⟩
                have hcc23 := (bthen (bthen (bthen hcc22 (below_new w22 (.cells #[.string q, .int .i64 k, .int .i64 m, .int .i64 u, .int .i64 g, .int .i64 t, .string lk, .slice Ax nx cx] 105))) (below_new _ (.cells #[.string fp, .int .i64 fk, .int .i64 fmm, .int .i64 fu, .int .i64 fg, .int .i64 ft, .string fl, .slice FA fn fc] 100))) hb23)
                have HM23 := Lib.hid hm23
                clear hm23
                refine hK _ _ ?_
                clear hK K
                refine wpAny_ready (rs := [37]) (by kernel_rfl) (by simp) ?_
                refine AllReady.cons rfl (fun K hK => ?_) AllReady.nil
                rw [if_pos (by kernel_rfl)]
                go_simp
                go_at_call 48
                (with_reducible refine (KS1.out _ _ _ _ _ (one_row (((BX.new w22 105 #[.string q, .int .i64 k, .int .i64 m, .int .i64 u, .int .i64 g, .int .i64 t, .string lk, .slice Ax nx cx]).later (below_new _ (.cells #[.string fp, .int .i64 fk, .int .i64 fmm, .int .i64 fu, .int .i64 fg, .int .i64 ft, .string fl, .slice FA fn fc] 100))).later hb23) (YW8.out _ hcc23)) HM23.out).mono ?_)
                rintro e w24 ⟨rfl, hb24⟩
                have hcc24 := bthen hcc23 hb24
                refine hK _ _ ?_
                clear hK K
                refine wpAny_take (i := 38) (v := .bool true) rfl (by kernel_rfl) (by kernel_rfl) (by kernel_rfl) (fun _ _ _ h => h) (Or.inl ⟨by kernel_rfl, fun w => by go_simp⟩) ?_
                refine wpAny_take (i := 39) (v := .bool true) rfl (by kernel_rfl) (by kernel_rfl) (by kernel_rfl) (fun _ _ _ h => h) (Or.inl ⟨by kernel_rfl, fun w => by go_simp⟩) ?_
                refine wpAny_ready (rs := [40]) (by kernel_rfl) (by simp) ?_
                refine AllReady.cons rfl (fun K hK => ?_) AllReady.nil
                rw [if_pos (by kernel_rfl)]
                go_simp
                go_at_call 45
                (with_reducible refine (AL.out _).mono ?_)
                rintro e w25 ⟨rfl, hb25⟩
                refine hK _ _ ?_
                clear hK K
                refine wpAny_take (i := 41) (v := .bool true) rfl (by kernel_rfl) (by kernel_rfl) (by kernel_rfl) (fun _ _ _ h => h) (Or.inl ⟨by kernel_rfl, fun w => by go_simp⟩) ?_
                refine wpAny_take (i := 42) (v := .bool true) rfl (by kernel_rfl) (by kernel_rfl) (by kernel_rfl) (fun _ _ _ h => h) (Or.inl ⟨by kernel_rfl, fun w => by go_simp⟩) ?_
                refine wpAny_done (by kernel_rfl) ?_ _
                generalize hF : Act.put (Act.put _ _ _) _ _ = F
                have h6 : F.tmps.getD 6 undef = .bool true := by rw [← hF]; kernel_rfl
                have h7 : F.tmps[6]?.getD undef = .bool true := by simpa using h6
                have h8 : F.defers = [] := by rw [← hF]; kernel_rfl
                clear hF
                go_wp2
                refine bodyPost_ret (v := .bool true) (by simp [results, Tryz.f8, go_sem, h7]) h8 ?_
                exact ⟨rfl, bthen HB.out (bthen hacc8 (bthen hcc24 hb25))⟩
              · rw [if_pos (by kernel_rfl)]
                go_simp
                refine hK _ _ ?_
                clear hK K
                refine wpAny_ready (rs := [33, 36]) (by kernel_rfl) (by simp) ?_
                refine AllReady.cons rfl (fun K hK => ?_) (AllReady.cons rfl (fun K hK => ?_) AllReady.nil)
                · rw [if_pos (by kernel_rfl)]
                  go_simp
                  refine hK _ _ ?_
                  clear hK K
                  refine wpAny_ready (rs := [36]) (by kernel_rfl) (by simp) ?_
                  refine AllReady.cons rfl (fun K hK => ?_) AllReady.nil
                  rw [if_pos (by kernel_rfl)]
                  go_simp
                  go_at_call 49
                  (with_reducible refine (lall_any (some ⟨w22.heap.size, 0, none⟩) 1 1 [(fp, ⟨fk, fmm, fu, fg, ft, fl, FA, fn, fc, fxs⟩)] ((w22.alloc (.cells #[.string fp, .int .i64 fk, .int .i64 fmm, .int .i64 fu, .int .i64 fg, .int .i64 ft, .string fl, .slice FA fn fc] 100)).alloc (.cells #[.string q, .int .i64 k, .int .i64 m, .int .i64 u, .int .i64 g, .int .i64 t, .string lk, .slice Ax nx cx] 105)) (one_row ((BX.new w22 100 #[.string fp, .int .i64 fk, .int .i64 fmm, .int .i64 fu, .int .i64 fg, .int .i64 ft, .string fl, .slice FA fn fc]).later (below_new _ (.cells #[.string q, .int .i64 k, .int .i64 m, .int .i64 u, .int .i64 g, .int .i64 t, .string lk, .slice Ax nx cx] 105))) (FW8.out _ (bthen (bthen hcc22 (below_new w22 (.cells #[.string fp, .int .i64 fk, .int .i64 fmm, .int .i64 fu, .int .i64 fg, .int .i64 ft, .string fl, .slice FA fn fc] 100))) (below_new _ (.cells #[.string q, .int .i64 k, .int .i64 m, .int .i64 u, .int .i64 g, .int .i64 t, .string lk, .slice Ax nx cx] 105))))) (by decide)).mono ?_)
                  rintro e w23 ⟨A23, c23, rfl, hm23, hb23⟩
                  have hcc23 := (bthen (bthen (bthen hcc22 (below_new w22 (.cells #[.string fp, .int .i64 fk, .int .i64 fmm, .int .i64 fu, .int .i64 fg, .int .i64 ft, .string fl, .slice FA fn fc] 100))) (below_new _ (.cells #[.string q, .int .i64 k, .int .i64 m, .int .i64 u, .int .i64 g, .int .i64 t, .string lk, .slice Ax nx cx] 105))) hb23)
                  have HM23 := Lib.hid hm23
                  clear hm23
                  refine hK _ _ ?_
                  clear hK K
                  refine wpAny_ready (rs := [37]) (by kernel_rfl) (by simp) ?_
                  refine AllReady.cons rfl (fun K hK => ?_) AllReady.nil
                  rw [if_pos (by kernel_rfl)]
                  go_simp
                  go_at_call 48
                  (with_reducible refine (KS1.out _ _ _ _ _ (one_row ((bx_two15 w22 (.cells #[.string fp, .int .i64 fk, .int .i64 fmm, .int .i64 fu, .int .i64 fg, .int .i64 ft, .string fl, .slice FA fn fc] 100) 105 #[.string q, .int .i64 k, .int .i64 m, .int .i64 u, .int .i64 g, .int .i64 t, .string lk, .slice Ax nx cx]).later hb23) (YW8.out _ hcc23)) HM23.out).mono ?_)
                  rintro e w24 ⟨rfl, hb24⟩
                  have hcc24 := bthen hcc23 hb24
                  refine hK _ _ ?_
                  clear hK K
                  refine wpAny_take (i := 38) (v := .bool true) rfl (by kernel_rfl) (by kernel_rfl) (by kernel_rfl) (fun _ _ _ h => h) (Or.inl ⟨by kernel_rfl, fun w => by go_simp⟩) ?_
                  refine wpAny_take (i := 39) (v := .bool true) rfl (by kernel_rfl) (by kernel_rfl) (by kernel_rfl) (fun _ _ _ h => h) (Or.inl ⟨by kernel_rfl, fun w => by go_simp⟩) ?_
                  refine wpAny_ready (rs := [40]) (by kernel_rfl) (by simp) ?_
                  refine AllReady.cons rfl (fun K hK => ?_) AllReady.nil
                  rw [if_pos (by kernel_rfl)]
                  go_simp
                  go_at_call 45
                  (with_reducible refine (AL.out _).mono ?_)
                  rintro e w25 ⟨rfl, hb25⟩
                  refine hK _ _ ?_
                  clear hK K
                  refine wpAny_take (i := 41) (v := .bool true) rfl (by kernel_rfl) (by kernel_rfl) (by kernel_rfl) (fun _ _ _ h => h) (Or.inl ⟨by kernel_rfl, fun w => by go_simp⟩) ?_
                  refine wpAny_take (i := 42) (v := .bool true) rfl (by kernel_rfl) (by kernel_rfl) (by kernel_rfl) (fun _ _ _ h => h) (Or.inl ⟨by kernel_rfl, fun w => by go_simp⟩) ?_
                  refine wpAny_done (by kernel_rfl) ?_ _
                  generalize hF : Act.put (Act.put _ _ _) _ _ = F
                  have h6 : F.tmps.getD 6 undef = .bool true := by rw [← hF]; kernel_rfl
                  have h7 : F.tmps[6]?.getD undef = .bool true := by simpa using h6
                  have h8 : F.defers = [] := by rw [← hF]; kernel_rfl
                  clear hF
                  go_wp2
                  refine bodyPost_ret (v := .bool true) (by simp [results, Tryz.f8, go_sem, h7]) h8 ?_
                  exact ⟨rfl, bthen HB.out (bthen hacc8 (bthen hcc24 hb25))⟩
                · rw [if_pos (by kernel_rfl)]
                  go_simp
                  go_at_call 49
                  (with_reducible refine (lall_any (some ⟨w22.heap.size, 0, none⟩) 1 1 [(fp, ⟨fk, fmm, fu, fg, ft, fl, FA, fn, fc, fxs⟩)] (w22.alloc (.cells #[.string fp, .int .i64 fk, .int .i64 fmm, .int .i64 fu, .int .i64 fg, .int .i64 ft, .string fl, .slice FA fn fc] 100)) (one_row (BX.new w22 100 #[.string fp, .int .i64 fk, .int .i64 fmm, .int .i64 fu, .int .i64 fg, .int .i64 ft, .string fl, .slice FA fn fc]) (FW8.out _ (bthen hcc22 (below_new w22 (.cells #[.string fp, .int .i64 fk, .int .i64 fmm, .int .i64 fu, .int .i64 fg, .int .i64 ft, .string fl, .slice FA fn fc] 100))))) (by decide)).mono ?_)
                  rintro e w23 ⟨A23, c23, rfl, hm23, hb23⟩
                  have hcc23 := (bthen (bthen hcc22 (below_new w22 (.cells #[.string fp, .int .i64 fk, .int .i64 fmm, .int .i64 fu, .int .i64 fg, .int .i64 ft, .string fl, .slice FA fn fc] 100))) hb23)
                  have HM23 := Lib.hid hm23
                  clear hm23
                  have zc0 := (HX8.out.later hcc23).cell (j := 0) rfl; have zc1 := (HX8.out.later hcc23).cell (j := 1) rfl; have zc2 := (HX8.out.later hcc23).cell (j := 2) rfl; have zc3 := (HX8.out.later hcc23).cell (j := 3) rfl; have zc4 := (HX8.out.later hcc23).cell (j := 4) rfl; have zc5 := (HX8.out.later hcc23).cell (j := 5) rfl; have zc6 := (HX8.out.later hcc23).cell (j := 6) rfl; have zc7 := (HX8.out.later hcc23).cell (j := 7) rfl
                  refine hK _ _ ?_
                  clear hK K
                  refine wpAny_ready (rs := [33]) (by kernel_rfl) (by simp) ?_
                  refine AllReady.cons rfl (fun K hK => ?_) AllReady.nil
                  rw [if_pos (by kernel_rfl)]
                  go_simp
                  refine hK _ _ ?_
                  clear hK K
                  refine wpAny_ready (rs := [37]) (by kernel_rfl) (by simp) ?_
                  refine AllReady.cons rfl (fun K hK => ?_) AllReady.nil
                  rw [if_pos (by kernel_rfl)]
                  go_simp
                  go_at_call 48
                  (with_reducible refine (KS1.out _ _ _ _ _ (one_row (BX.new w23 105 _) (YW8.out _ (bthen hcc23 (below_new w23 (.cells #[.string q, .int .i64 k, .int .i64 m, .int .i64 u, .int .i64 g, .int .i64 t, .string lk, .slice Ax nx cx] 105))))) (HM23.out.below (below_new w23 (.cells #[.string q, .int .i64 k, .int .i64 m, .int .i64 u, .int .i64 g, .int .i64 t, .string lk, .slice Ax nx cx] 105)))).mono ?_)
                  rintro e w24 ⟨rfl, hb24⟩
                  have hcc24 := bthen (bthen hcc23 (below_new w23 (.cells #[.string q, .int .i64 k, .int .i64 m, .int .i64 u, .int .i64 g, .int .i64 t, .string lk, .slice Ax nx cx] 105))) hb24
                  refine hK _ _ ?_
                  clear hK K
                  refine wpAny_take (i := 38) (v := .bool true) rfl (by kernel_rfl) (by kernel_rfl) (by kernel_rfl) (fun _ _ _ h => h) (Or.inl ⟨by kernel_rfl, fun w => by go_simp⟩) ?_
                  refine wpAny_take (i := 39) (v := .bool true) rfl (by kernel_rfl) (by kernel_rfl) (by kernel_rfl) (fun _ _ _ h => h) (Or.inl ⟨by kernel_rfl, fun w => by go_simp⟩) ?_
                  refine wpAny_ready (rs := [40]) (by kernel_rfl) (by simp) ?_
                  refine AllReady.cons rfl (fun K hK => ?_) AllReady.nil
                  rw [if_pos (by kernel_rfl)]
                  go_simp
                  go_at_call 45
                  (with_reducible refine (AL.out _).mono ?_)
                  rintro e w25 ⟨rfl, hb25⟩
                  refine hK _ _ ?_
                  clear hK K
                  refine wpAny_take (i := 41) (v := .bool true) rfl (by kernel_rfl) (by kernel_rfl) (by kernel_rfl) (fun _ _ _ h => h) (Or.inl ⟨by kernel_rfl, fun w => by go_simp⟩) ?_
                  refine wpAny_take (i := 42) (v := .bool true) rfl (by kernel_rfl) (by kernel_rfl) (by kernel_rfl) (fun _ _ _ h => h) (Or.inl ⟨by kernel_rfl, fun w => by go_simp⟩) ?_
                  refine wpAny_done (by kernel_rfl) ?_ _
                  generalize hF : Act.put (Act.put _ _ _) _ _ = F
                  have h6 : F.tmps.getD 6 undef = .bool true := by rw [← hF]; kernel_rfl
                  have h7 : F.tmps[6]?.getD undef = .bool true := by simpa using h6
                  have h8 : F.defers = [] := by rw [← hF]; kernel_rfl
                  clear hF
                  go_wp2
                  refine bodyPost_ret (v := .bool true) (by simp [results, Tryz.f8, go_sem, h7]) h8 ?_
                  exact ⟨rfl, bthen HB.out (bthen hacc8 (bthen hcc24 hb25))⟩
            · rw [if_pos (by kernel_rfl)]
              go_simp
              refine hK _ _ ?_
              clear hK K
              refine wpAny_ready (rs := [32, 36]) (by kernel_rfl) (by simp) ?_
              refine AllReady.cons rfl (fun K hK => ?_) (AllReady.cons rfl (fun K hK => ?_) AllReady.nil)
              · rw [if_pos (by kernel_rfl)]
                go_simp
                refine hK _ _ ?_
                clear hK K
                refine wpAny_ready (rs := [33, 36]) (by kernel_rfl) (by simp) ?_
                refine AllReady.cons rfl (fun K hK => ?_) (AllReady.cons rfl (fun K hK => ?_) AllReady.nil)
                · rw [if_pos (by kernel_rfl)]
                  go_simp
                  refine hK _ _ ?_
                  clear hK K
                  refine wpAny_ready (rs := [36]) (by kernel_rfl) (by simp) ?_
                  refine AllReady.cons rfl (fun K hK => ?_) AllReady.nil
                  rw [if_pos (by kernel_rfl)]
                  go_simp
                  go_at_call 49
                  (with_reducible refine (lall_any (some ⟨w22.heap.size, 0, none⟩) 1 1 [(fp, ⟨fk, fmm, fu, fg, ft, fl, FA, fn, fc, fxs⟩)] ((w22.alloc (.cells #[.string fp, .int .i64 fk, .int .i64 fmm, .int .i64 fu, .int .i64 fg, .int .i64 ft, .string fl, .slice FA fn fc] 100)).alloc (.cells #[.string q, .int .i64 k, .int .i64 m, .int .i64 u, .int .i64 g, .int .i64 t, .string lk, .slice Ax nx cx] 105)) (one_row ((BX.new w22 100 #[.string fp, .int .i64 fk, .int .i64 fmm, .int .i64 fu, .int .i64 fg, .int .i64 ft, .string fl, .slice FA fn fc]).later (below_new _ (.cells #[.string q, .int .i64 k, .int .i64 m, .int .i64 u, .int .i64 g, .int .i64 t, .string lk, .slice Ax nx cx] 105))) (FW8.out _ (bthen (bthen hcc22 (below_new w22 (.cells #[.string fp, .int .i64 fk, .int .i64 fmm, .int .i64 fu, .int .i64 fg, .int .i64 ft, .string fl, .slice FA fn fc] 100))) (below_new _ (.cells #[.string q, .int .i64 k, .int .i64 m, .int .i64 u, .int .i64 g, .int .i64 t, .string lk, .slice Ax nx cx] 105))))) (by decide)).mono ?_)
                  rintro e w23 ⟨A23, c23, rfl, hm23, hb23⟩
                  have hcc23 := (bthen (bthen (bthen hcc22 (below_new w22 (.cells #[.string fp, .int .i64 fk, .int .i64 fmm, .int .i64 fu, .int .i64 fg, .int .i64 ft, .string fl, .slice FA fn fc] 100))) (below_new _ (.cells #[.string q, .int .i64 k, .int .i64 m, .int .i64 u, .int .i64 g, .int .i64 t, .string lk, .slice Ax nx cx] 105))) hb23)
                  have HM23 := Lib.hid hm23
                  clear hm23
                  refine hK _ _ ?_
                  clear hK K
                  refine wpAny_ready (rs := [37]) (by kernel_rfl) (by simp) ?_
                  refine AllReady.cons rfl (fun K hK => ?_) AllReady.nil
                  rw [if_pos (by kernel_rfl)]
                  go_simp
                  go_at_call 48
                  (with_reducible refine (KS1.out _ _ _ _ _ (one_row ((bx_two15 w22 (.cells #[.string fp, .int .i64 fk, .int .i64 fmm, .int .i64 fu, .int .i64 fg, .int .i64 ft, .string fl, .slice FA fn fc] 100) 105 #[.string q, .int .i64 k, .int .i64 m, .int .i64 u, .int .i64 g, .int .i64 t, .string lk, .slice Ax nx cx]).later hb23) (YW8.out _ hcc23)) HM23.out).mono ?_)
                  rintro e w24 ⟨rfl, hb24⟩
                  have hcc24 := bthen hcc23 hb24
                  refine hK _ _ ?_
                  clear hK K
                  refine wpAny_take (i := 38) (v := .bool true) rfl (by kernel_rfl) (by kernel_rfl) (by kernel_rfl) (fun _ _ _ h => h) (Or.inl ⟨by kernel_rfl, fun w => by go_simp⟩) ?_
                  refine wpAny_take (i := 39) (v := .bool true) rfl (by kernel_rfl) (by kernel_rfl) (by kernel_rfl) (fun _ _ _ h => h) (Or.inl ⟨by kernel_rfl, fun w => by go_simp⟩) ?_
                  refine wpAny_ready (rs := [40]) (by kernel_rfl) (by simp) ?_
                  refine AllReady.cons rfl (fun K hK => ?_) AllReady.nil
                  rw [if_pos (by kernel_rfl)]
                  go_simp
                  go_at_call 45
                  (with_reducible refine (AL.out _).mono ?_)
                  rintro e w25 ⟨rfl, hb25⟩
                  refine hK _ _ ?_
                  clear hK K
                  refine wpAny_take (i := 41) (v := .bool true) rfl (by kernel_rfl) (by kernel_rfl) (by kernel_rfl) (fun _ _ _ h => h) (Or.inl ⟨by kernel_rfl, fun w => by go_simp⟩) ?_
                  refine wpAny_take (i := 42) (v := .bool true) rfl (by kernel_rfl) (by kernel_rfl) (by kernel_rfl) (fun _ _ _ h => h) (Or.inl ⟨by kernel_rfl, fun w => by go_simp⟩) ?_
                  refine wpAny_done (by kernel_rfl) ?_ _
                  generalize hF : Act.put (Act.put _ _ _) _ _ = F
                  have h6 : F.tmps.getD 6 undef = .bool true := by rw [← hF]; kernel_rfl
                  have h7 : F.tmps[6]?.getD undef = .bool true := by simpa using h6
                  have h8 : F.defers = [] := by rw [← hF]; kernel_rfl
                  clear hF
                  go_wp2
                  refine bodyPost_ret (v := .bool true) (by simp [results, Tryz.f8, go_sem, h7]) h8 ?_
                  exact ⟨rfl, bthen HB.out (bthen hacc8 (bthen hcc24 hb25))⟩
                · rw [if_pos (by kernel_rfl)]
                  go_simp
                  go_at_call 49
                  (with_reducible refine (lall_any (some ⟨w22.heap.size, 0, none⟩) 1 1 [(fp, ⟨fk, fmm, fu, fg, ft, fl, FA, fn, fc, fxs⟩)] (w22.alloc (.cells #[.string fp, .int .i64 fk, .int .i64 fmm, .int .i64 fu, .int .i64 fg, .int .i64 ft, .string fl, .slice FA fn fc] 100)) (one_row (BX.new w22 100 #[.string fp, .int .i64 fk, .int .i64 fmm, .int .i64 fu, .int .i64 fg, .int .i64 ft, .string fl, .slice FA fn fc]) (FW8.out _ (bthen hcc22 (below_new w22 (.cells #[.string fp, .int .i64 fk, .int .i64 fmm, .int .i64 fu, .int .i64 fg, .int .i64 ft, .string fl, .slice FA fn fc] 100))))) (by decide)).mono ?_)
                  rintro e w23 ⟨A23, c23, rfl, hm23, hb23⟩
                  have hcc23 := (bthen (bthen hcc22 (below_new w22 (.cells #[.string fp, .int .i64 fk, .int .i64 fmm, .int .i64 fu, .int .i64 fg, .int .i64 ft, .string fl, .slice FA fn fc] 100))) hb23)
                  have HM23 := Lib.hid hm23
                  clear hm23
                  have zc0 := (HX8.out.later hcc23).cell (j := 0) rfl; have zc1 := (HX8.out.later hcc23).cell (j := 1) rfl; have zc2 := (HX8.out.later hcc23).cell (j := 2) rfl; have zc3 := (HX8.out.later hcc23).cell (j := 3) rfl; have zc4 := (HX8.out.later hcc23).cell (j := 4) rfl; have zc5 := (HX8.out.later hcc23).cell (j := 5) rfl; have zc6 := (HX8.out.later hcc23).cell (j := 6) rfl; have zc7 := (HX8.out.later hcc23).cell (j := 7) rfl
                  refine hK _ _ ?_
                  clear hK K
                  refine wpAny_ready (rs := [33]) (by kernel_rfl) (by simp) ?_
                  refine AllReady.cons rfl (fun K hK => ?_) AllReady.nil
                  rw [if_pos (by kernel_rfl)]
                  go_simp
                  refine hK _ _ ?_
                  clear hK K
                  refine wpAny_ready (rs := [37]) (by kernel_rfl) (by simp) ?_
                  refine AllReady.cons rfl (fun K hK => ?_) AllReady.nil
                  rw [if_pos (by kernel_rfl)]
                  go_simp
                  go_at_call 48
                  (with_reducible refine (KS1.out _ _ _ _ _ (one_row (BX.new w23 105 _) (YW8.out _ (bthen hcc23 (below_new w23 (.cells #[.string q, .int .i64 k, .int .i64 m, .int .i64 u, .int .i64 g, .int .i64 t, .string lk, .slice Ax nx cx] 105))))) (HM23.out.below (below_new w23 (.cells #[.string q, .int .i64 k, .int .i64 m, .int .i64 u, .int .i64 g, .int .i64 t, .string lk, .slice Ax nx cx] 105)))).mono ?_)
                  rintro e w24 ⟨rfl, hb24⟩
                  have hcc24 := bthen (bthen hcc23 (below_new w23 (.cells #[.string q, .int .i64 k, .int .i64 m, .int .i64 u, .int .i64 g, .int .i64 t, .string lk, .slice Ax nx cx] 105))) hb24
                  refine hK _ _ ?_
                  clear hK K
                  refine wpAny_take (i := 38) (v := .bool true) rfl (by kernel_rfl) (by kernel_rfl) (by kernel_rfl) (fun _ _ _ h => h) (Or.inl ⟨by kernel_rfl, fun w => by go_simp⟩) ?_
                  refine wpAny_take (i := 39) (v := .bool true) rfl (by kernel_rfl) (by kernel_rfl) (by kernel_rfl) (fun _ _ _ h => h) (Or.inl ⟨by kernel_rfl, fun w => by go_simp⟩) ?_
                  refine wpAny_ready (rs := [40]) (by kernel_rfl) (by simp) ?_
                  refine AllReady.cons rfl (fun K hK => ?_) AllReady.nil
                  rw [if_pos (by kernel_rfl)]
                  go_simp
                  go_at_call 45
                  (with_reducible refine (AL.out _).mono ?_)
                  rintro e w25 ⟨rfl, hb25⟩
                  refine hK _ _ ?_
                  clear hK K
                  refine wpAny_take (i := 41) (v := .bool true) rfl (by kernel_rfl) (by kernel_rfl) (by kernel_rfl) (fun _ _ _ h => h) (Or.inl ⟨by kernel_rfl, fun w => by go_simp⟩) ?_
                  refine wpAny_take (i := 42) (v := .bool true) rfl (by kernel_rfl) (by kernel_rfl) (by kernel_rfl) (fun _ _ _ h => h) (Or.inl ⟨by kernel_rfl, fun w => by go_simp⟩) ?_
                  refine wpAny_done (by kernel_rfl) ?_ _
                  generalize hF : Act.put (Act.put _ _ _) _ _ = F
                  have h6 : F.tmps.getD 6 undef = .bool true := by rw [← hF]; kernel_rfl
                  have h7 : F.tmps[6]?.getD undef = .bool true := by simpa using h6
                  have h8 : F.defers = [] := by rw [← hF]; kernel_rfl
                  clear hF
                  go_wp2
                  refine bodyPost_ret (v := .bool true) (by simp [results, Tryz.f8, go_sem, h7]) h8 ?_
                  exact ⟨rfl, bthen HB.out (bthen hacc8 (bthen hcc24 hb25))⟩
              · rw [if_pos (by kernel_rfl)]
                go_simp
                go_at_call 49
                (with_reducible refine (lall_any (some ⟨w22.heap.size, 0, none⟩) 1 1 [(fp, ⟨fk, fmm, fu, fg, ft, fl, FA, fn, fc, fxs⟩)] (w22.alloc (.cells #[.string fp, .int .i64 fk, .int .i64 fmm, .int .i64 fu, .int .i64 fg, .int .i64 ft, .string fl, .slice FA fn fc] 100)) (one_row (BX.new w22 100 #[.string fp, .int .i64 fk, .int .i64 fmm, .int .i64 fu, .int .i64 fg, .int .i64 ft, .string fl, .slice FA fn fc]) (FW8.out _ (bthen hcc22 (below_new w22 (.cells #[.string fp, .int .i64 fk, .int .i64 fmm, .int .i64 fu, .int .i64 fg, .int .i64 ft, .string fl, .slice FA fn fc] 100))))) (by decide)).mono ?_)
                rintro e w23 ⟨A23, c23, rfl, hm23, hb23⟩
                have hcc23 := (bthen (bthen hcc22 (below_new w22 (.cells #[.string fp, .int .i64 fk, .int .i64 fmm, .int .i64 fu, .int .i64 fg, .int .i64 ft, .string fl, .slice FA fn fc] 100))) hb23)
                have HM23 := Lib.hid hm23
                clear hm23
                have zc0 := (HX8.out.later hcc23).cell (j := 0) rfl; have zc1 := (HX8.out.later hcc23).cell (j := 1) rfl; have zc2 := (HX8.out.later hcc23).cell (j := 2) rfl; have zc3 := (HX8.out.later hcc23).cell (j := 3) rfl; have zc4 := (HX8.out.later hcc23).cell (j := 4) rfl; have zc5 := (HX8.out.later hcc23).cell (j := 5) rfl; have zc6 := (HX8.out.later hcc23).cell (j := 6) rfl; have zc7 := (HX8.out.later hcc23).cell (j := 7) rfl
                refine hK _ _ ?_
                clear hK K
                refine wpAny_ready (rs := [32]) (by kernel_rfl) (by simp) ?_
                refine AllReady.cons rfl (fun K hK => ?_) AllReady.nil
                rw [if_pos (by kernel_rfl)]
                go_simp
                refine hK _ _ ?_
                clear hK K
                refine wpAny_ready (rs := [33]) (by kernel_rfl) (by simp) ?_
                refine AllReady.cons rfl (fun K hK => ?_) AllReady.nil
                rw [if_pos (by kernel_rfl)]
                go_simp
                refine hK _ _ ?_
                clear hK K
                refine wpAny_ready (rs := [37]) (by kernel_rfl) (by simp) ?_
                refine AllReady.cons rfl (fun K hK => ?_) AllReady.nil
                rw [if_pos (by kernel_rfl)]
                go_simp
                go_at_call 48
                (with_reducible refine (KS1.out _ _ _ _ _ (one_row (BX.new w23 105 _) (YW8.out _ (bthen hcc23 (below_new w23 (.cells #[.string q, .int .i64 k, .int .i64 m, .int .i64 u, .int .i64 g, .int .i64 t, .string lk, .slice Ax nx cx] 105))))) (HM23.out.below (below_new w23 (.cells #[.string q, .int .i64 k, .int .i64 m, .int .i64 u, .int .i64 g, .int .i64 t, .string lk, .slice Ax nx cx] 105)))).mono ?_)
                rintro e w24 ⟨rfl, hb24⟩
                have hcc24 := bthen (bthen hcc23 (below_new w23 (.cells #[.string q, .int .i64 k, .int .i64 m, .int .i64 u, .int .i64 g, .int .i64 t, .string lk, .slice Ax nx cx] 105))) hb24
                refine hK _ _ ?_
                clear hK K
                refine wpAny_take (i := 38) (v := .bool true) rfl (by kernel_rfl) (by kernel_rfl) (by kernel_rfl) (fun _ _ _ h => h) (Or.inl ⟨by kernel_rfl, fun w => by go_simp⟩) ?_
                refine wpAny_take (i := 39) (v := .bool true) rfl (by kernel_rfl) (by kernel_rfl) (by kernel_rfl) (fun _ _ _ h => h) (Or.inl ⟨by kernel_rfl, fun w => by go_simp⟩) ?_
                refine wpAny_ready (rs := [40]) (by kernel_rfl) (by simp) ?_
                refine AllReady.cons rfl (fun K hK => ?_) AllReady.nil
                rw [if_pos (by kernel_rfl)]
                go_simp
                go_at_call 45
                (with_reducible refine (AL.out _).mono ?_)
                rintro e w25 ⟨rfl, hb25⟩
                refine hK _ _ ?_
                clear hK K
                refine wpAny_take (i := 41) (v := .bool true) rfl (by kernel_rfl) (by kernel_rfl) (by kernel_rfl) (fun _ _ _ h => h) (Or.inl ⟨by kernel_rfl, fun w => by go_simp⟩) ?_
                refine wpAny_take (i := 42) (v := .bool true) rfl (by kernel_rfl) (by kernel_rfl) (by kernel_rfl) (fun _ _ _ h => h) (Or.inl ⟨by kernel_rfl, fun w => by go_simp⟩) ?_
                refine wpAny_done (by kernel_rfl) ?_ _
                generalize hF : Act.put (Act.put _ _ _) _ _ = F
                have h6 : F.tmps.getD 6 undef = .bool true := by rw [← hF]; kernel_rfl
                have h7 : F.tmps[6]?.getD undef = .bool true := by simpa using h6
                have h8 : F.defers = [] := by rw [← hF]; kernel_rfl
                clear hF
                go_wp2
                refine bodyPost_ret (v := .bool true) (by simp [results, Tryz.f8, go_sem, h7]) h8 ?_
                exact ⟨rfl, bthen HB.out (bthen hacc8 (bthen hcc24 hb25))⟩
    · have g1 : ¬ (20 : Int) < n := by omega
      have g2 : (20 : Int) < n2 := by omega
      clear hr hr2 hy hy2 hl hc hc2 hcc hcc2 hp h20 h21
      go_enter Tryz.func8, Tryz.ntmps8
      go_wp2_with (go_at_call 45; (with_reducible refine (AL.out _).mono ?_); rintro e w3 ⟨rfl, hb3⟩)
      go_ret
      exact ⟨rfl, hb3⟩
  · have g1 : (20 : Int) < n := by omega
    clear hr hr2 hy hy2 hl hc hc2 hcc hcc2 hp h20
    go_enter Tryz.func8, Tryz.ntmps8
    go_wp2_with (go_at_call 45; (with_reducible refine (AL.out _).mono ?_); rintro e w3 ⟨rfl, hb3⟩)
    go_ret
    exact ⟨rfl, hb3⟩
end Go.Proofs.YtlgfinlgghcgnaaGreatDoor
