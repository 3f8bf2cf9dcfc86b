/- THE WALKS OF THE LAWS CheckSums, CheckOpens, CheckBack: each answers true, whatever it is given, and turns nothing that was there. -/
import Derived.Test.YtfinpemhfcpkgaaC11f
namespace Go.Proofs.Ytfinpemhfcpkgaa
open Go.RowKit
set_option maxHeartbeats 1600000
set_option maxRecDepth 100000
set_option linter.unusedVariables false
theorem bthen' {B : Nat} {a b c : World} (h : Below B a b) (k : Below b.heap.size b c) (hB : B ≤ a.heap.size := by exact Nat.le_refl _) : Below B a c := h.trans (k.mono (Nat.le_trans hB h.size))
theorem checkSums_any (A : Option Addr) (n c : Nat) (xs : List Int) (r k : Int) (w : World) (ha : RB w w.heap.size A n xs) (hy : Byt xs) (hn : n ≤ c) (hc : c ≤ maxLen) (r0 : 0 ≤ r) (r1 : r ≤ 4294967295) (k0 : 0 ≤ k) (k1 : k ≤ 255) :
    Calls Try.prog 3 #[.slice A n c, .int .u32 r, .int .u8 k] w fun e w' => e = .returned (.bool true) ∧ Below w.heap.size w w' := by
  obtain ⟨r, rfl⟩ : ∃ z : Nat, r = (z : Int) := ⟨r.toNat, by omega⟩
  obtain ⟨k, rfl⟩ : ∃ z : Nat, k = (z : Int) := ⟨k.toNat, by omega⟩
  have al := Lib.hid alive11_any
  have nb : n ≤ 9223372036854775807 := by unfold maxLen at hc; omega
  by_cases h : n ≤ 1000
  · have su := Lib.hid (sum_any A n c xs w ha hy hn hc)
    have rs := Lib.hid (fun W (hW : Below w.heap.size w W) => refsum_any A n c xs W ((ha.below hW).more hW.size) hy (by omega))
    have st := Lib.hid (fun W => step_any r k W (by omega) (by omega))
    have rt := Lib.hid (fun W => refstep_any r k W (by omega) (by omega))
    generalize Ck.sum xs = q at *
    generalize Ck.step r k = t at *
    clear ha hy hc
    go_enter Try.func3, Try.ntmps3
    go_wp2_with (first
      | (go_at_call 8; (with_reducible refine su.out.mono ?_); rintro e w1 ⟨rfl, hb1⟩; have HB1 := Lib.hid hb1; clear hb1)
      | (go_at_call 9; (with_reducible refine (rs.out _ HB1.out).mono ?_); rintro e w' ⟨rfl, rfl⟩)
      | (go_at_call 10; (with_reducible refine (st.out _).mono ?_); rintro e w' ⟨rfl, rfl⟩)
      | (go_at_call 11; (with_reducible refine (rt.out _).mono ?_); rintro e w' ⟨rfl, rfl⟩)
      | (go_at_call 7; (with_reducible refine (al.out _).mono ?_); rintro e w2 ⟨rfl, hb2⟩; have HB2 := Lib.hid (bthen HB1.out hb2); clear hb2))
    go_ret
    exact ⟨rfl, HB2.out⟩
  · clear ha hy hc
    go_enter Try.func3, Try.ntmps3
    go_wp2_with (go_at_call 7; (with_reducible refine (al.out _).mono ?_); rintro e w2 ⟨rfl, hb2⟩)
    go_ret
    exact ⟨rfl, hb2⟩
theorem checkOpens_any (A : Option Addr) (n c : Nat) (xs : List Int) (w : World) (ha : RB w w.heap.size A n xs) (hy : Byt xs) (hn : n ≤ c) (hc : c ≤ maxLen) :
    Calls Try.prog 4 #[.slice A n c] w fun e w' => e = .returned (.bool true) ∧ Below w.heap.size w w' := by
  have al := Lib.hid alive11_any
  have nb : n ≤ 9223372036854775807 := by unfold maxLen at hc; omega
  by_cases h : n ≤ 1000
  · have op := Lib.hid (copen_any A n c xs w ha hy hn hc (by omega))
    have ro := Lib.hid (fun W (hW : Below w.heap.size w W) => refcopen_any A n c xs W ((ha.below hW).more hW.size) hy hn hc (by omega))
    have se := Lib.hid (fun W (hW : Below w.heap.size w W) => seal_any A n c xs W ((ha.below hW).more hW.size) hy hn hc (by omega))
    have rs := Lib.hid (fun W (hW : Below w.heap.size w W) => refseal_any A n c xs W ((ha.below hW).more hW.size) hy (by omega))
    have hol : (Ck.open_ xs).length ≤ 1000 := by
      unfold Ck.open_
      split
      · rw [List.length_take, ha.1]; omega
      · simp
    have sm := Lib.hid (fun (W : World) (B1 B2 : Option Addr) n1 n2 d1 d2 (h1 : RB W W.heap.size B1 n1 (Ck.open_ xs)) (h2 : RB W W.heap.size B2 n2 (Ck.open_ xs)) => same_any B1 B2 n1 n2 d1 d2 _ _ W h1 h2 (by have := h1.1; omega) (by have := h2.1; omega))
    have sx := Lib.hid (fun (W : World) (B1 B2 : Option Addr) d1 d2 (h1 : RB W W.heap.size B1 (n + 4) (Ck.sealed xs)) (h2 : RB W W.heap.size B2 (n + 4) (Ck.sealed xs)) => same_any B1 B2 _ _ d1 d2 _ _ W h1 h2 (by omega) (by omega))
    rw [decide_eq_true (rfl : Ck.open_ xs = Ck.open_ xs)] at sm
    rw [decide_eq_true (rfl : Ck.sealed xs = Ck.sealed xs)] at sx
    have HOL := Lib.hid hol
    generalize Ck.open_ xs = ox at *
    generalize Ck.sealed xs = sx' at *
    generalize Ck.err xs = ee at *
    have hee : (ee == ee) = true := by simp
    clear ha hy hc hol
    go_enter Try.func4, Try.ntmps4
    go_wp2_with (first
      | (go_at_call 12; (with_reducible refine op.out.mono ?_); rintro e w1 ⟨v1, rfl, ho1, hb1⟩; obtain ⟨A1, c1, rfl, hr1, _, _⟩ := ho1.rb; have HB1 := Lib.hid hb1; have HR1 := Lib.hid hr1; clear ho1 hb1 hr1)
      | (go_at_call 13; (with_reducible refine (ro.out _ HB1.out).mono ?_); rintro e w2 ⟨⟨A2, m2, c2, rfl, hr2, _⟩, hb2⟩; have HB2 := Lib.hid (bthen HB1.out hb2); have HR12 := Lib.hid ((HR1.out.below hb2).more hb2.size); have HR2 := Lib.hid ((hr2.below hb2).more hb2.size); clear hb2 hr2)
      | (go_at_call 15; (with_reducible refine (se.out _ HB2.out).mono ?_); rintro e w3 ⟨v3, rfl, ho3, hb3⟩; obtain ⟨A3, c3, rfl, hr3, _, _⟩ := ho3.slice; have HB3 := Lib.hid (bthen HB2.out hb3); have HR13 := Lib.hid ((HR12.out.below hb3).more hb3.size); have HR23 := Lib.hid ((HR2.out.below hb3).more hb3.size); have HR3 := Lib.hid hr3; clear hb3 hr3 ho3)
      | (go_at_call 16; (with_reducible refine (rs.out _ HB3.out).mono ?_); rintro e w4 ⟨v4, rfl, ho4, hb4⟩; obtain ⟨A4, c4, rfl, hr4, _, _⟩ := ho4.slice; have HB4 := Lib.hid (bthen HB3.out hb4); have HR14 := Lib.hid ((HR13.out.below hb4).more hb4.size); have HR24 := Lib.hid ((HR23.out.below hb4).more hb4.size); have HR34 := Lib.hid ((HR3.out.below hb4).more hb4.size); have HR4 := Lib.hid hr4; clear hb4 hr4 ho4)
      | (go_at_call 14; (with_reducible refine (sx.out _ _ _ _ _ HR34.out HR4.out).mono ?_); rintro e w5 ⟨rfl, hb5⟩; have HB5 := Lib.hid (bthen HB4.out hb5); have HR15 := Lib.hid ((HR14.out.below hb5).more hb5.size); have HR25 := Lib.hid ((HR24.out.below hb5).more hb5.size); clear hb5)
      | (go_at_call 14; (with_reducible refine (sm.out _ _ _ _ _ _ _ HR15.out HR25.out).mono ?_); rintro e w6 ⟨rfl, hb6⟩; have HB6 := Lib.hid (bthen HB5.out hb6); clear hb6)
      | (go_at_call 7; (with_reducible refine (al.out _).mono ?_); rintro e w7 ⟨rfl, hb7⟩; have HB7 := Lib.hid (bthen HB6.out hb7); clear hb7))
    go_ret
    exact ⟨rfl, HB7.out⟩
  · clear ha hy hc
    go_enter Try.func4, Try.ntmps4
    go_wp2_with (go_at_call 7; (with_reducible refine (al.out _).mono ?_); rintro e w2 ⟨rfl, hb2⟩)
    go_ret
    exact ⟨rfl, hb2⟩
theorem checkBack_any (A : Option Addr) (m c : Nat) (l : List Pc) (w : World) (h : PL w w.heap.size A m l) (hn : m ≤ c) (hc : c ≤ maxLen) :
    Calls Try.prog 5 #[.slice A m c] w fun e w' => e = .returned (.bool true) ∧ Below w.heap.size w w' := by
  obtain ⟨i0, hi, hz0, hz1, hz2⟩ := info_parts info_u8
  have al := Lib.hid alive11_any
  have nb : m ≤ 9223372036854775807 := by unfold maxLen at hc; omega
  by_cases h20 : m ≤ 20
  · have HL := Lib.hid h.1
    have hfb : ∀ k, Byt (flat (l.take k)) := fun k => flat_byt fun p hp => (h.2.2 p (List.mem_of_mem_take hp)).2.1
    have HFB := Lib.hid hfb
    have of := Lib.hid (fun W (hW : Below w.heap.size w W) => of_any A m c l W ((h.below hW).more hW.size) (by omega))
    clear hfb
    go_enter Try.func5, Try.ntmps5
    go_wp2
    go_loopw [3, 14] (fun v i wr => ∃ j a : Nat, j ≤ m ∧ i = .int .i64 j ∧ (flat (l.take j)).length = a ∧ a ≤ 200 * j ∧ OBn wr w.heap.size 5 v a (flat (l.take j)) ∧ Below w.heap.size w wr) (fun _ i _ => m - (intOf i).toNat)
    case atStart => exact ⟨0, 0, by omega, rfl, rfl, by omega, World.ownsRow_nil _ _ _ _, Below.refl _ _⟩
    case round =>
      obtain ⟨j, a, hj, rfl, ha, hle, ho, hb⟩ := hrel
      have HO := Lib.hid ho; have HB := Lib.hid hb; have HA := Lib.hid ha
      clear ho ha
      by_cases hjl : j < m
      · obtain ⟨p, b, o, hp, _, rfl, hbB, hcl, hr, _, hpc, hpm⟩ := (h.below hb).at_ hjl
        have E2 := Lib.hid (take_snocP hp)
        clear hp
        obtain ⟨PA, pn, pc, px⟩ := p
        simp only at hcl hr hpc hpm E2
        have HR := Lib.hid hr
        have pb : pn ≤ 9223372036854775807 := by unfold maxLen at hpm; omega
        clear hr hb hpm
        by_cases h200 : pn ≤ 200
        · go_wp2_with (at_builtin; obtain ⟨v2, w2, hrun, hown, hgrow⟩ := run_append_rb (P := Try.prog) w.heap.size w.heap.size 22 22 5 i0 Try.underlying22 hi hz0 hz1 hz2 _ a _ HO.out PA pn pc px HR.out (by omega) HB.out.size
                       refine Lib.wpList_append_run _ rfl _ _ 22 22 rfl _ (.slice PA pn pc) rfl rfl _ _ hrun ?_
                       have hb2 := below_app HB.out (Nat.le_refl _) HO.out hgrow
                       have HB2 := Lib.hid hb2; have HO2 := Lib.hid hown
                       clear hrun hown hgrow hb2)
          go_roundw
          case rel => exact ⟨j + 1, a + pn, by omega, by go_num, by rw [E2.out, flat_snoc, List.length_append, HA.out, HR.out.1], by omega, by rw [E2.out, flat_snoc]; exact HO2.out, HB2.out⟩
          case measure => simp [intOf]; omega
        · go_wp2_with (go_at_call 7; (with_reducible refine (al.out _).mono ?_); rintro e w2 ⟨rfl, hb2⟩; have HB2 := Lib.hid (bthen HB.out hb2); clear hb2)
          go_ret
          exact ⟨rfl, HB2.out⟩
      · have e : j = m := by omega
        subst e
        have hby := HFB.out j
        have hall : l.take j = l := List.take_of_length_le (by rw [HL.out]; exact Nat.le_refl _)
        rw [hall] at HO hby
        obtain ⟨A1, c1, rfl, hr1, hc1, hm1⟩ := HO.out.slice
        have hal : (flat l).length = a := hr1.1
        have su := Lib.hid (fun W (hW : Below wr.heap.size wr W) => sum_any A1 a c1 (flat l) W ((hr1.below hW).more hW.size) hby hc1 hm1)
        have se := Lib.hid (seal_any A1 a c1 (flat l) wr hr1 hby hc1 hm1 (by omega))
        have op := Lib.hid (fun (W : World) B d (hr : RB W W.heap.size B (a + 4) (Ck.sealed (flat l))) (h1 : a + 4 ≤ d) (h2 : d ≤ maxLen) => copen_any B (a + 4) d (Ck.sealed (flat l)) W hr (Ck.sealed_byt hby) h1 h2 (by omega))
        rw [Ck.sealed_err, Ck.sealed_open] at op
        have sm := Lib.hid (fun (W : World) (B1 : Option Addr) d1 (h1 : RB W W.heap.size B1 a (flat l)) (h2 : RB W W.heap.size A1 a (flat l)) => same_any B1 A1 a a d1 c1 _ _ W h1 h2 (by omega) (by omega))
        rw [decide_eq_true (rfl : flat l = flat l)] at sm
        have HR1 := Lib.hid hr1
        have E : Hid (Ck.sum (flat l) = 4294967295 - Ck.reg 4294967295 (flat l)) := rfl
        obtain ⟨q, hq⟩ : ∃ q, Ck.sum (flat l) = q := ⟨_, rfl⟩
        rw [← E.out, hq] at of
        rw [hq] at su
        clear hall hr1 hby hq HFB hb hm1
        go_wp2_with (first
          | (go_at_call 15; (with_reducible refine se.out.mono ?_); rintro e w3 ⟨v3, rfl, ho3, hb3⟩; obtain ⟨A3, c3, rfl, hr3, hc3, hm3⟩ := ho3.slice; have HB3 := Lib.hid hb3; have HR3 := Lib.hid hr3; have HM3 := Lib.hid hm3; clear ho3 hb3 hr3 hm3)
          | (go_at_call 12; (with_reducible refine (op.out _ _ _ HR3.out hc3 HM3.out).mono ?_); rintro e w4 ⟨v4, rfl, ho4, hb4⟩; obtain ⟨A4, c4, rfl, hr4, _, _⟩ := ho4.rb; rw [hal] at hr4; have HB4 := Lib.hid (bthen HB3.out hb4); have HR4 := Lib.hid hr4; clear ho4 hb4 hr4)
          | (go_at_call 17; (with_reducible refine (of.out _ (bthen' HB.out HB4.out)).mono ?_); rintro e w' ⟨rfl, rfl⟩)
          | (go_at_call 8; (with_reducible refine (su.out _ HB4.out).mono ?_); rintro e w5 ⟨rfl, hb5⟩; have HB5 := Lib.hid (bthen HB4.out hb5); have HR5 := Lib.hid ((HR4.out.below hb5).more hb5.size); have HR15 := Lib.hid ((HR1.out.below HB5.out).more HB5.out.size); clear hb5)
          | (go_at_call 14; (with_reducible refine (sm.out _ _ _ HR5.out HR15.out).mono ?_); rintro e w6 ⟨rfl, hb6⟩; have HB6 := Lib.hid (bthen HB5.out hb6); clear hb6)
          | (go_at_call 7; (with_reducible refine (al.out _).mono ?_); rintro e w7 ⟨rfl, hb7⟩; have HB7 := Lib.hid (bthen HB6.out hb7); clear hb7))
        go_ret
        exact ⟨rfl, bthen' HB.out HB7.out⟩
  · clear h hc
    go_enter Try.func5, Try.ntmps5
    go_wp2_with (go_at_call 7; (with_reducible refine (al.out _).mono ?_); rintro e w2 ⟨rfl, hb2⟩)
    go_ret
    exact ⟨rfl, hb2⟩
end Go.Proofs.Ytfinpemhfcpkgaa
