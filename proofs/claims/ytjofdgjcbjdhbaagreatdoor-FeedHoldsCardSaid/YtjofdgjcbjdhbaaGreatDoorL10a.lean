/- THE WALK OF THE LAW FeedHolds. -/
import Derived.Test.YtjofdgjcbjdhbaaGreatDoorGf5
namespace Go.Proofs.YtjofdgjcbjdhbaaGreatDoor
open Go Go.RowKit
set_option maxHeartbeats 64000000
set_option maxRecDepth 100000
set_option linter.unusedVariables false
theorem zero_feed : (Tryz.zeroCells69)[0]? = some (.bool false) := by kernel_rfl
theorem ne_sl_feed : (25 : TypeId) ≠ 69 := by decide
theorem pct_take (ps : List Pc) (j : Nat) : pct (ps.take j) ≤ pct ps := by
  have h : pct ps = pct (ps.take j) + pct (ps.drop j) := by
    unfold pct
    rw [← List.sum_append, ← List.map_append, List.take_append_drop]
  omega
theorem pct_next {ps : List Pc} {j : Nat} {p : Pc} (h : ps[j]? = some p) : pct (ps.take (j + 1)) = pct (ps.take j) + p.n := by
  rw [Rc.take_next h]
  unfold pct
  rw [List.map_append, List.sum_append]
  simp
/-- Between two pieces: the feed, and the row of pieces. -/
def Hl (w w1 wr : World) (N : Nat) (v : Value) (ps : List Pc) : Prop := ∃ al nx s, Fs wr w.heap.size w.heap.size al nx s ∧ Fd.Wst N s ∧ wr.ownsRow w1.heap.size 25 1 v ps.length (pcs ps) ∧ Below w.heap.size w1 wr
theorem holds_walk10 (A : Option Addr) (n c : Nat) (xs : List Int) (A2 : Option Addr) (m c2 : Nat) (l : List Int) (A3 : Option Addr) (k c3 : Nat) (zs : List Int) (w : World) (tb : Tab w) (hd : RB w w.heap.size A n xs) (hx : Byt xs) (hc : n ≤ c) (hc2 : c ≤ maxLen) (hl : HR w w.heap.size A2 m l) (hm : m ≤ c2) (hm2 : c2 ≤ maxLen) (he : RB w w.heap.size A3 k zs) (hz : Byt zs) (hk : k ≤ c3) (hk2 : c3 ≤ maxLen) :
    Calls Tryz.prog 6 #[.slice A n c, .slice A2 m c2, .slice A3 k c3] w fun e w' => e = .returned (.bool true) ∧ Below w.heap.size w w' := by
  have AL := Lib.hid (fun (W : World) (hb : Below w.heap.size w W) => alive10_any W (tb.on hb))
  by_cases hn : 12000 < n
  · have hn' : (12000 : Int) < n := by omega
    clear hd hx hl he hz tb
    go_enter Tryz.func6, Tryz.ntmps6
    go_wp2_with (go_at_call 19; (with_reducible refine (AL.out _ (Below.refl _ _)).mono ?_); rintro e w2 ⟨rfl, hb2⟩)
    go_ret
    exact ⟨rfl, hb2⟩
  have hn' : ¬ (12000 : Int) < n := by omega
  by_cases hkk : 1000 < k
  · have hk' : (1000 : Int) < k := by omega
    clear hd hx hl he hz tb
    go_enter Tryz.func6, Tryz.ntmps6
    go_wp2_with (go_at_call 19; (with_reducible refine (AL.out _ (Below.refl _ _)).mono ?_); rintro e w2 ⟨rfl, hb2⟩)
    go_ret
    exact ⟨rfl, hb2⟩
  have hk' : ¬ (1000 : Int) < k := by omega
  have NEW := Lib.hid (new_any10 w)
  have CUT := Lib.hid (fun (w1 : World) (hb : Below w.heap.size w w1) => cuts_any10 A n c xs A2 m c2 l w1 w.heap.size hb.size (hd.below hb) hx hc hc2 (hl.below hb) hm hm2 (by omega))
  have WRT := Lib.hid (fun (wr w1 : World) (N : Nat) (v : Value) (ps : List Pc) (hb1 : Below w.heap.size w w1) (h : Hl w w1 wr N v ps) (A' : Option Addr) (n' c' : Nat) (ys : List Int) (hr : RB w1 w.heap.size A' n' ys) (hy : Byt ys) (h1 : n' ≤ c') (h2 : c' ≤ maxLen) (h3 : N + n' ≤ 50000) => (show Calls Tryz.prog 22 #[.pointer (some ⟨w.heap.size, 0, none⟩), .slice A' n' c'] wr fun e w' => ∃ A7 c7 s s' m' E al' nx', e = .returned (.tuple #[.slice A7 (List.length (α := ByteArray) m') c7, .int .i64 E]) ∧ Fd.Wst N s ∧ Fd.WrT s ys s' m' E ∧ Fs w' w.heap.size w.heap.size al' nx' s' ∧ Fd.Wst (N + n') s' ∧ w'.ownsRow w1.heap.size 25 1 v ps.length (pcs ps) ∧ Below w.heap.size w1 w' ∧ (∃ al nx, Fs wr w.heap.size w.heap.size al nx s) from by
    obtain ⟨al, nx, s, f1, f2, f3, f4⟩ := h
    have b0 := hb1.trans f4
    refine (write_any10 f1 b0.size (fun W hW => tb.on (b0.trans hW)) f2 A' n' c' ys (hr.below f4) hy h1 h2 h3).mono fun e w' ⟨v7, s', m', E, g1, g2, g3, ⟨al', nx', g4⟩, g5⟩ => ?_
    obtain ⟨A7, c7, rfl⟩ := g3.slice
    have hst := (Fd.wrt_st g2 f2 hy).1
    rw [hr.1] at hst
    exact ⟨A7, c7, s, s', m', E, al', nx', g1, f2, g2, g4, hst, owns_keep f3 fun q hq => g5.2.2.2.2 q (owns_lt f3 hq) (owns_box f3 f1.box ne_sl_feed hq), f4.trans (g5.low b0.size (Nat.le_refl _)), al, nx, f1⟩))
  have HE := Lib.hid (fun (w1 : World) (hb : Below w.heap.size w w1) => he.below hb)
  have HZ := Lib.hid hz
  have TB := Lib.hid tb
  clear hd hx hl he hz tb
  go_enter Tryz.func6, Tryz.ntmps6
  go_wp2_with (first
    | (go_at_call 20; (with_reducible refine (NEW.out).mono ?_); rintro e w1 ⟨rfl, hf1, hb1⟩; have HF1 := Lib.hid hf1; have HB1 := Lib.hid hb1; clear hf1 hb1)
    | (go_at_call 21; (with_reducible refine (CUT.out _ HB1.out).mono ?_); rintro e w2 ⟨v2, ps, rfl, hr2, hp2, ht2, hl2, hb2⟩; obtain ⟨Av, cv, rfl, _⟩ := owns_slice hr2; have HROW := Lib.hid hr2; have HPS := Lib.hid hp2; have HTT := Lib.hid ht2; have HB2 := Lib.hid hb2; clear hr2 hp2 ht2 hb2))
  obtain ⟨np, hnp⟩ : ∃ np, np = ps.length := ⟨_, rfl⟩
  have HNP := Lib.hid hnp
  rw [← hnp] at hl2 ⊢
  clear hnp
  have HH0 := Lib.hid (show Hl w w1 w2 (pct (ps.take 0)) (.slice Av np cv) ps from ⟨_, _, _, HF1.out.below HB2.out, wst_new, by have := HROW.out; rwa [← HNP.out] at this ⊢, HB2.out.mono HB1.out.size⟩)
  go_loopw [35] (fun i wr => ∃ j : Nat, j ≤ np ∧ i = .int .i64 j ∧ Hid (Hl w w1 wr (pct (ps.take j)) (.slice Av np cv) ps)) (fun i _ => np - (intOf i).toNat)
  case atStart => exact ⟨0, by omega, rfl, HH0.out⟩
  case round =>
    obtain ⟨j, hj, rfl, HH⟩ := hrel
    clear HH0
    by_cases hlt : j < np
    · have hlt' : (j : Int) < np := by omega
      obtain ⟨p, hp⟩ : ∃ p, ps[j]? = some p := ⟨_, List.getElem?_eq_getElem (by have := HNP.out; omega)⟩
      have hpn := pct_next hp
      have hpt := pct_take ps (j + 1)
      rw [HTT.out] at hpt
      have hpok := HPS.out p (List.mem_of_getElem? hp)
      obtain ⟨gA, gn, gc, gxs⟩ := p
      dsimp only at hpn
      obtain ⟨p1, p2, p3, p4⟩ := hpok
      dsimp only at p1 p2 p3 p4
      have hrow : ∃ g, Av = some ⟨g, 0, none⟩ ∧ wr.cell? ⟨g, j, none⟩ = some (.slice gA gn gc) := by
        obtain ⟨_, _, _, _, _, f3, _⟩ := HH.out
        rcases f3.2 with ⟨h0, h3⟩ | ⟨g, cap, cur, h0, hb, hg, hnc, hcm, hcs, htake⟩
        · have := HNP.out; omega
        · cases h0
          refine ⟨g, rfl, ?_⟩
          rw [World.ownsRow.cellAt f3 j (by have := HNP.out; omega)]
          unfold pcs
          rw [List.getElem?_map, hp]
          rfl
      obtain ⟨g, rfl, q0⟩ := hrow
      have WR := Lib.hid (WRT.out wr w1 (pct (ps.take j)) _ ps HB1.out HH.out gA gn gc gxs p1 p2 p3 p4 (by omega))
      have HPN := Lib.hid hpn
      have HPB := Lib.hid p2
      clear hp p1 p2 hpt hpn
      go_wp2_with (fail)
      go_at_call 22
      refine (WR.out).mono ?_
      rintro e w5 ⟨A7, c7, s4, s5, m5, E5, al5, nx5, rfl, hs4, hw5, hf5, hst5, hr5, hb5, _⟩
      obtain ⟨_, e1, e2, e3, e4⟩ := Fd.wrt_st hw5 hs4 HPB.out
      have HF5 := Lib.hid hf5
      have HREL := Lib.hid (show Hl w w1 w5 (pct (ps.take (j + 1))) (.slice (some ⟨g, 0, none⟩) np cv) ps from ⟨_, _, _, hf5, by rw [HPN.out]; exact hst5, hr5, hb5⟩)
      clear hs4 hw5 hf5 hst5 hr5 hb5 e1
      have i1 : ¬ ((s5.has : Nat) : Int) < 0 := by omega
      have i2 : ¬ (4608 : Int) ≤ ((s5.has : Nat) : Int) := by omega
      have i3 : ¬ ((s5.at_ : Nat) : Int) < ((s5.mrk : Nat) : Int) := by omega
      by_cases hE : E5 = 0
      · subst hE
        clear e2 e3 e4
        go_wp2_with (first
          | (go_at_call 23; (with_reducible refine (held_any10 HF5.out).mono ?_); rintro e w6 ⟨rfl, rfl⟩)
          | (go_at_call 24; (with_reducible refine (mark_any10 HF5.out).mono ?_); rintro e w6 ⟨rfl, rfl⟩)
          | (go_at_call 25; (with_reducible refine (at_any10 HF5.out).mono ?_); rintro e w6 ⟨rfl, rfl⟩))
        go_roundw
        case rel => exact ⟨j + 1, by omega, by go_num, HREL.out⟩
        case measure => simp [intOf]; omega
      · have hE' : (E5 != 0) = true := by simpa using hE
        have i4 : ((s5.has : Nat) : Int) = 0 := by have := e3 hE; omega
        have i5 : (((s5.has : Nat) : Int) != 0) = false := by rw [i4]; rfl
        clear e2 e3 e4 hE i4
        go_wp2_with (first
          | (go_at_call 23; (with_reducible refine (held_any10 HF5.out).mono ?_); rintro e w6 ⟨rfl, rfl⟩)
          | (go_at_call 24; (with_reducible refine (mark_any10 HF5.out).mono ?_); rintro e w6 ⟨rfl, rfl⟩)
          | (go_at_call 25; (with_reducible refine (at_any10 HF5.out).mono ?_); rintro e w6 ⟨rfl, rfl⟩))
        go_roundw
        case rel => exact ⟨j + 1, by omega, by go_num, HREL.out⟩
        case measure => simp [intOf]; omega
    · obtain rfl : j = np := by omega
      have hlt' : ¬ (j : Int) < j := by omega
      have hpt := pct_take ps j
      rw [HTT.out] at hpt
      have WR := Lib.hid (WRT.out wr w1 (pct (ps.take j)) _ ps HB1.out HH.out none 0 0 [] RB.nil Byt.nil (Nat.le_refl _) (Nat.zero_le _) (by omega))
      go_wp2_with (fail)
      go_at_call 22
      refine (WR.out).mono ?_
      rintro e w5 ⟨A7, c7, s4, s5, m5, E5, al5, nx5, rfl, hs4, hw5, hf5, hst5, hr5, hb5, _⟩
      obtain ⟨_, e1, e2, e3, e4⟩ := Fd.wrt_st hw5 hs4 Byt.nil
      have HF5 := Lib.hid hf5
      have b5 := HB1.out.trans hb5
      have WR6 := Lib.hid (write_any10 hf5 b5.size (fun W hW => TB.out.on (b5.trans hW)) hst5 A3 k c3 zs ((HE.out _ HB1.out).below hb5) HZ.out hk hk2 (by omega))
      have HB5 := Lib.hid b5
      clear hs4 hw5 hf5 hst5 hr5 hb5 e2 e3 e4 WR HH WRT CUT NEW b5
      go_wp2_with (go_at_call 26; (with_reducible refine (count_any10 HF5.out).mono ?_); rintro e w6 ⟨rfl, rfl⟩)
      go_at_call 22
      refine (WR6.out).mono ?_
      rintro e w7 ⟨v7, s7, m7, E7, rfl, hw7, hp7, ⟨al7, nx7, hf7⟩, ho7⟩
      have HB7 := Lib.hid (HB5.out.trans (ho7.low HB5.out.size (Nat.le_refl _)))
      obtain ⟨A9, c9, rfl⟩ := hp7.slice
      clear hp7 ho7 WR6
      by_cases hE : E5 = 0
      · subst hE
        clear hw7 hf7 e1
        go_upto_region 17 with (fail)
        obtain ⟨W9, hW9⟩ : ∃ W9, W9 = (w7.alloc (.cells Tryz.zeroCells69 69)).alloc (.cells #[.pointer none, .pointer (some ⟨w7.heap.size, 0, none⟩)] 56) := ⟨_, rfl⟩
        rw [← hW9]
        have HZ0 := Lib.hid (show W9.cell? ⟨w7.heap.size, 0, none⟩ = some (.bool false) by rw [hW9]; exact ((BX.new w7 69 _).alloc _).cell zero_feed)
        have x0 : W9.cell? ⟨w7.heap.size + 1, 0, none⟩ = some (.pointer none) := by
          rw [hW9]
          simp
        have x1 : W9.cell? ⟨w7.heap.size + 1, 1, none⟩ = some (.pointer (some ⟨w7.heap.size, 0, none⟩)) := by
          rw [hW9]
          simp
        have HB9 := Lib.hid (show Below w.heap.size w W9 by rw [hW9]; exact (HB7.out.alloc HB7.out.size _).alloc (by have := HB7.out.size; simp; omega) _)
        have HN0 := Lib.hid (show ∀ b : Addr, (none : Option Addr) = some b → W9.cell? b = some (.bool false) ∧ b.spot = none from fun b h => by cases h)
        have HN1 := Lib.hid (show ∀ b : Addr, (some ⟨w7.heap.size, 0, none⟩ : Option Addr) = some b → W9.cell? b = some (.bool false) ∧ b.spot = none from fun b h => by cases h; exact ⟨HZ0.out, rfl⟩)
        clear hW9
        generalize w7.heap.size = zb at *
        go_loopw [111] (fun i wq => Hid (W9 = wq) ∧ (i = .int .i64 0 ∨ i = .int .i64 1 ∨ i = .int .i64 2)) (fun i _ => 2 - (intOf i).toNat)
        case atStart => exact ⟨rfl, .inl rfl⟩
        case round =>
          obtain ⟨HWQ, hi⟩ := hrel
          obtain rfl := HWQ.out
          clear HWQ
          rcases hi with rfl | rfl | rfl
          · go_wp2_with (first
              | (go_at_call 22; (with_reducible refine (write_not W9 none HN0.out A3 k c3).mono ?_); rintro e w10 ⟨rfl, rfl⟩)
              | (go_at_call 27; (with_reducible refine (close_not W9 none HN0.out).mono ?_); rintro e w10 ⟨rfl, rfl⟩)
              | (go_at_call 28; (with_reducible refine (done_not W9 none HN0.out).mono ?_); rintro e w10 ⟨rfl, rfl⟩)
              | (go_at_call 24; (with_reducible refine (mark_not W9 none HN0.out).mono ?_); rintro e w10 ⟨rfl, rfl⟩)
              | (go_at_call 26; (with_reducible refine (count_not W9 none HN0.out).mono ?_); rintro e w10 ⟨rfl, rfl⟩)
              | (go_at_call 25; (with_reducible refine (at_not W9 none HN0.out).mono ?_); rintro e w10 ⟨rfl, rfl⟩)
              | (go_at_call 23; (with_reducible refine (held_not W9 none HN0.out).mono ?_); rintro e w10 ⟨rfl, rfl⟩))
            go_roundw
            case rel => first | exact ⟨rfl, .inr (.inl rfl)⟩ | exact ⟨Lib.hid trivial, .inr (.inl rfl)⟩
            case measure => simp [intOf]
          · go_wp2_with (first
              | (go_at_call 22; (with_reducible refine (write_not W9 (some ⟨zb, 0, none⟩) HN1.out A3 k c3).mono ?_); rintro e w10 ⟨rfl, rfl⟩)
              | (go_at_call 27; (with_reducible refine (close_not W9 (some ⟨zb, 0, none⟩) HN1.out).mono ?_); rintro e w10 ⟨rfl, rfl⟩)
              | (go_at_call 28; (with_reducible refine (done_not W9 (some ⟨zb, 0, none⟩) HN1.out).mono ?_); rintro e w10 ⟨rfl, rfl⟩)
              | (go_at_call 24; (with_reducible refine (mark_not W9 (some ⟨zb, 0, none⟩) HN1.out).mono ?_); rintro e w10 ⟨rfl, rfl⟩)
              | (go_at_call 26; (with_reducible refine (count_not W9 (some ⟨zb, 0, none⟩) HN1.out).mono ?_); rintro e w10 ⟨rfl, rfl⟩)
              | (go_at_call 25; (with_reducible refine (at_not W9 (some ⟨zb, 0, none⟩) HN1.out).mono ?_); rintro e w10 ⟨rfl, rfl⟩)
              | (go_at_call 23; (with_reducible refine (held_not W9 (some ⟨zb, 0, none⟩) HN1.out).mono ?_); rintro e w10 ⟨rfl, rfl⟩))
            go_roundw
            case rel => first | exact ⟨rfl, .inr (.inr rfl)⟩ | exact ⟨Lib.hid trivial, .inr (.inr rfl)⟩
            case measure => simp [intOf]
          · go_wp2_with (go_at_call 19; (with_reducible refine (AL.out _ HB9.out).mono ?_); rintro e w11 ⟨rfl, hb11⟩; have HB11 := Lib.hid (bthen HB9.out hb11); clear hb11)
            go_ret
            exact ⟨rfl, HB11.out⟩
      · obtain ⟨hst, h4⟩ := e1 hE
        have hE' : (E5 != 0) = true := by simpa using hE
        obtain ⟨q1, q2, q3⟩ := Fd.wrt_broken hw7 (by rw [hst]; exact hE) (by rw [hst]; exact h4)
        subst q1
        subst q2
        rw [hst] at q3
        subst q3
        have CLO := close_any10 hf7
        rw [show closeS s7 = E7 by unfold closeS; rw [if_neg (by rw [hst]; exact hE), hst]] at CLO
        have CL := Lib.hid CLO
        have HF7 := Lib.hid hf7
        have hEE : (E7 != E7) = false := by simp
        clear hw7 hf7 e1 hst h4 hE CLO
        rw [show ([] : List ByteArray).length = 0 from rfl]
        go_upto_region 16 with (first
          | (go_at_call 26; (with_reducible refine (count_any10 HF7.out).mono ?_); rintro e w8 ⟨rfl, rfl⟩)
          | (go_at_call 27; (with_reducible refine (CL.out).mono ?_); rintro e w8 ⟨rfl, rfl⟩))
        go_upto_region 17 with (fail)
        obtain ⟨W9, hW9⟩ : ∃ W9, W9 = (w7.alloc (.cells Tryz.zeroCells69 69)).alloc (.cells #[.pointer none, .pointer (some ⟨w7.heap.size, 0, none⟩)] 56) := ⟨_, rfl⟩
        rw [← hW9]
        have HZ0 := Lib.hid (show W9.cell? ⟨w7.heap.size, 0, none⟩ = some (.bool false) by rw [hW9]; exact ((BX.new w7 69 _).alloc _).cell zero_feed)
        have x0 : W9.cell? ⟨w7.heap.size + 1, 0, none⟩ = some (.pointer none) := by
          rw [hW9]
          simp
        have x1 : W9.cell? ⟨w7.heap.size + 1, 1, none⟩ = some (.pointer (some ⟨w7.heap.size, 0, none⟩)) := by
          rw [hW9]
          simp
        have HB9 := Lib.hid (show Below w.heap.size w W9 by rw [hW9]; exact (HB7.out.alloc HB7.out.size _).alloc (by have := HB7.out.size; simp; omega) _)
        have HN0 := Lib.hid (show ∀ b : Addr, (none : Option Addr) = some b → W9.cell? b = some (.bool false) ∧ b.spot = none from fun b h => by cases h)
        have HN1 := Lib.hid (show ∀ b : Addr, (some ⟨w7.heap.size, 0, none⟩ : Option Addr) = some b → W9.cell? b = some (.bool false) ∧ b.spot = none from fun b h => by cases h; exact ⟨HZ0.out, rfl⟩)
        clear hW9
        generalize w7.heap.size = zb at *
        go_loopw [111] (fun i wq => Hid (W9 = wq) ∧ (i = .int .i64 0 ∨ i = .int .i64 1 ∨ i = .int .i64 2)) (fun i _ => 2 - (intOf i).toNat)
        case atStart => exact ⟨rfl, .inl rfl⟩
        case round =>
          obtain ⟨HWQ, hi⟩ := hrel
          obtain rfl := HWQ.out
          clear HWQ
          rcases hi with rfl | rfl | rfl
          · go_wp2_with (first
              | (go_at_call 22; (with_reducible refine (write_not W9 none HN0.out A3 k c3).mono ?_); rintro e w10 ⟨rfl, rfl⟩)
              | (go_at_call 27; (with_reducible refine (close_not W9 none HN0.out).mono ?_); rintro e w10 ⟨rfl, rfl⟩)
              | (go_at_call 28; (with_reducible refine (done_not W9 none HN0.out).mono ?_); rintro e w10 ⟨rfl, rfl⟩)
              | (go_at_call 24; (with_reducible refine (mark_not W9 none HN0.out).mono ?_); rintro e w10 ⟨rfl, rfl⟩)
              | (go_at_call 26; (with_reducible refine (count_not W9 none HN0.out).mono ?_); rintro e w10 ⟨rfl, rfl⟩)
              | (go_at_call 25; (with_reducible refine (at_not W9 none HN0.out).mono ?_); rintro e w10 ⟨rfl, rfl⟩)
              | (go_at_call 23; (with_reducible refine (held_not W9 none HN0.out).mono ?_); rintro e w10 ⟨rfl, rfl⟩))
            go_roundw
            case rel => first | exact ⟨rfl, .inr (.inl rfl)⟩ | exact ⟨Lib.hid trivial, .inr (.inl rfl)⟩
            case measure => simp [intOf]
          · go_wp2_with (first
              | (go_at_call 22; (with_reducible refine (write_not W9 (some ⟨zb, 0, none⟩) HN1.out A3 k c3).mono ?_); rintro e w10 ⟨rfl, rfl⟩)
              | (go_at_call 27; (with_reducible refine (close_not W9 (some ⟨zb, 0, none⟩) HN1.out).mono ?_); rintro e w10 ⟨rfl, rfl⟩)
              | (go_at_call 28; (with_reducible refine (done_not W9 (some ⟨zb, 0, none⟩) HN1.out).mono ?_); rintro e w10 ⟨rfl, rfl⟩)
              | (go_at_call 24; (with_reducible refine (mark_not W9 (some ⟨zb, 0, none⟩) HN1.out).mono ?_); rintro e w10 ⟨rfl, rfl⟩)
              | (go_at_call 26; (with_reducible refine (count_not W9 (some ⟨zb, 0, none⟩) HN1.out).mono ?_); rintro e w10 ⟨rfl, rfl⟩)
              | (go_at_call 25; (with_reducible refine (at_not W9 (some ⟨zb, 0, none⟩) HN1.out).mono ?_); rintro e w10 ⟨rfl, rfl⟩)
              | (go_at_call 23; (with_reducible refine (held_not W9 (some ⟨zb, 0, none⟩) HN1.out).mono ?_); rintro e w10 ⟨rfl, rfl⟩))
            go_roundw
            case rel => first | exact ⟨rfl, .inr (.inr rfl)⟩ | exact ⟨Lib.hid trivial, .inr (.inr rfl)⟩
            case measure => simp [intOf]
          · go_wp2_with (go_at_call 19; (with_reducible refine (AL.out _ HB9.out).mono ?_); rintro e w11 ⟨rfl, hb11⟩; have HB11 := Lib.hid (bthen HB9.out hb11); clear hb11)
            go_ret
            exact ⟨rfl, HB11.out⟩
end Go.Proofs.YtjofdgjcbjdhbaaGreatDoor
