/- THE LAW 'DiskPlays': a disk answers every call, in every order, as the document's does. gen_l14h.py -/
import Derived.Test.YthgbncpiehcghaaGreatDoorGl4
import Derived.Test.YthgbncpiehcghaaGreatDoorS14b
import Derived.Test.YthgbncpiehcghaaGreatDoorR13u
import Derived.Deep.RegionHeld3
namespace Go.Proofs.YthgbncpiehcghaaGreatDoor
set_option linter.unusedVariables false
open Go Go.RowKit Go.Maps
set_option maxRecDepth 100000
set_option maxHeartbeats 16000000
open Nt (Tr Nd WF Ps Path at_ cnt used txt Dd Dk ap)
theorem own_weak14 {w : World} {B B' size n : Nat} {e : TypeId} {v : Value} {xs : List Value} (h : w.ownsRow B e size v n xs) (hB : B' ≤ B) : w.ownsRow B' e size v n xs :=
  ⟨h.1, h.2.imp id fun ⟨g, cap, cur, e1, h1, h2⟩ => ⟨g, cap, cur, e1, Nat.le_trans hB h1, h2⟩⟩
theorem DkR.rebase {w0 w1 w : World} {db K : Nat} {M : Dk} (h : DkR (Bs.of w1) w db M K) (hb : Below w0.heap.size w0 w1) : DkR (Bs.of w0) w db M K := by
  obtain ⟨dt, vt, v, l, ad, mb, ad', mb', hm, hL⟩ := h
  have hs : w0.heap.size ≤ w1.heap.size := hb.size
  have hlow : Below w1.heap.size w1 w := hm.low
  have hdl : w1.heap.size ≤ db := hm.dlow
  have h1 : Below w0.heap.size w0 w := hb.trans (hlow.mono hs)
  exact ⟨dt, vt, v, l, ad, mb, ad', mb', ⟨h1, hm.box, Nat.le_trans hs hdl, hm.repD, hm.repV, fun k hk => Nat.le_trans hs (hm.lowD k hk), fun k hk => Nat.le_trans hs (hm.lowV k hk), hm.apart, own_weak14 hm.row hs, hm.data, Keep.ofBelow h1, fun k hk => .inr ((hm.own k hk).elim (fun h => h.elim) fun h => Nat.le_trans hs h)⟩, hL⟩
theorem Sq.fit {x : Sq} (h : x.ok) (hf : x.far = false) : DdFit x.y ∧ (x.y.p.size ≤ 1000 ∧ x.y.q.size ≤ 1000 ∧ x.y.n ≤ 5000) ∧ Byt x.y.xs := by
  obtain ⟨_, ⟨_, _, _, _, _, _, _, hx, hk, hm⟩, _⟩ := h
  simp only [Sq.far, Bool.or_eq_false_iff, decide_eq_false_iff_not] at hf
  unfold DdFit
  refine ⟨⟨by omega, by omega, hk, hm, by omega⟩, ⟨by omega, by omega, by omega⟩, hx⟩
theorem dp_new (a b : Int) (ha : a ≤ 9223372036854775807) (hb : b ≤ 9223372036854775807) : DP (Nt.dnew a b) 1 (Nt.new a b) [] 1 :=
  ⟨Nt.dnew_ok a b ha hb, rfl, rfl, WF.new a b ha hb, Nat.le_refl _, Nt.Bok.new a b, fun y hy => (by cases hy), fun y hy => (by cases hy), ⟨by show -9223372036854775808 ≤ (-1 : Int); decide, by show (-1 : Int) ≤ 9223372036854775807; decide⟩⟩
theorem dark14 (M : Dk) (fd : Bool) (lf : Int) (hf : fd = decide (0 ≤ M.fu)) (hl : lf = max M.fu 0) : (fd && (lf == 0)) = (M.fu == 0) := by
  subst hf hl
  by_cases h : M.fu = 0
  · simp [h]
  · have h2 : (M.fu == 0) = false := by simp [h]
    rw [h2]
    by_cases h3 : 0 ≤ M.fu
    · have h4 : max M.fu 0 ≠ 0 := by omega
      simp [h4]
    · simp [h3]
theorem er_at14 {l1 l2 : List Dd} (h : l1.map Dd.er = l2.map Dd.er) {t : Nat} {x y : Dd} (hx : l1[t]? = some x) (hy : l2[t]? = some y) : x.er = y.er := by
  have := congrArg (fun s => s[t]?) h
  simpa [hx, hy] using this
theorem diskplays_walk (ra rm : Int) (A : Option Addr) (n k : Nat) (l : List Sq) (w : World) (h0 : -9223372036854775808 ≤ ra ∧ ra ≤ 9223372036854775807) (h1 : -9223372036854775808 ≤ rm ∧ rm ≤ 9223372036854775807) (hl : QS w w.heap.size A n l) (hk : n ≤ k) (hm : k ≤ maxLen) (hy : ∀ y ∈ l, y.ok) :
    Calls Tryz.prog 4 #[.agg #[.int .i64 ra, .int .i64 rm], .slice A n k] w fun e w' => e = .returned (.bool true) ∧ Below w.heap.size w w' := by
  obtain ⟨W1, hW1, hb1, hs1, x1⟩ := frame1 w #[.int .i64 ra, .int .i64 rm] 22
  have HAL := Lib.hid (fun W => alive14_any W)
  have HDP0 := Lib.hid (dp_new ra rm h0.2 h1.2)
  have KN := Lib.hid (fun W (h : Below W1.heap.size W1 W) => (dknew W ra rm).mono (R' := fun e w' => ∃ db, e = .returned (.pointer (some ⟨db, 0, none⟩)) ∧ DkR (Bs.of w) w' db (Nt.dnew ra rm) 1 ∧ Below W1.heap.size W1 w' ∧ Below W.heap.size W w') (by
    rintro e w' ⟨db, rfl, hat⟩
    have hlw : Below W.heap.size W w' := hat.low
    exact ⟨db, rfl, hat.rebase (bthen hb1 h), bthen h hlw, hlw⟩))
  have KR := Lib.hid (fun W (h : Below W1.heap.size W1 W) => (refnew_any W w.heap.size (Nat.le_trans hb1.size h.size) ra rm).mono (R' := fun e w' => ∃ A1 n1 c1 A2 n2 c2, e = .returned (.agg (RvC A1 n1 c1 A2 n2 c2 (Nt.new ra rm).room (Nt.new ra rm).vol)) ∧ RTr w' w.heap.size A1 n1 c1 A2 n2 c2 (Nt.new ra rm) ∧ Below W1.heap.size W1 w' ∧ Below W.heap.size W w') (by
    rintro e w' ⟨v, rfl, ⟨A1, n1, c1, A2, n2, c2, rfl, hr⟩, hb⟩
    exact ⟨A1, n1, c1, A2, n2, c2, rfl, hr, bthen h hb, hb⟩))
  have KF := Lib.hid (fun W (h : Below w.heap.size w W) => far14_any A n k w.heap.size l W (hl.below h) h.size hk hm)
  have KSH := Lib.hid (fun W => short14_any A n k W hk hm)
  have CB := Lib.hid (fun W (h : Below W1.heap.size W1 W) => show W.cell? ⟨w.heap.size, 0, none⟩ = some (.int .i64 ra) ∧ W.cell? ⟨w.heap.size, 1, none⟩ = some (.int .i64 rm) from ⟨(x1.later h).cell rfl, (x1.later h).cell rfl⟩)
  have HL := Lib.hid hl
  have HY := Lib.hid hy
  have HB1 := Lib.hid hb1
  obtain ⟨q0, q1⟩ := CB.out _ (Below.refl _ _).drew
  clear hl hy hb1 x1 h0 h1 hs1
  go_enter Tryz.func4, Tryz.ntmps4
  go_upto_region 1 with (fail)
  go_cut [5, 6] (fun v5 v6 wx => ∃ db rb A1 n1 c1 A2 n2 c2, v5 = .pointer (some ⟨db, 0, none⟩) ∧ v6 = .pointer (some ⟨rb, 0, none⟩) ∧ w.heap.size ≤ rb ∧ Hid (DkR (Bs.of w) wx db (Nt.dnew ra rm) 1) ∧ Hid (RTr wx w.heap.size A1 n1 c1 A2 n2 c2 (Nt.new ra rm)) ∧ Hid (BX wx rb 56 (RkC A1 n1 c1 A2 n2 c2 (Nt.new ra rm).room (Nt.new ra rm).vol none 0 0 0 false 0)))
  case first =>
    have hacc : Below W1.heap.size W1 W1.drew := (Below.refl _ _).drew
    have hx0 : Below W1.heap.size W1 (W1.alloc (.cells #[.slice none 0 0, .slice none 0 0, .int .i64 0, .int .i64 0, .slice none 0 0, .int .i64 0, .bool false, .int .i64 0] 56)).drew := (below_new W1 _).drew
    have hbz0 : BX (W1.alloc (.cells #[.slice none 0 0, .slice none 0 0, .int .i64 0, .int .i64 0, .slice none 0 0, .int .i64 0, .bool false, .int .i64 0] 56)).drew W1.heap.size 56 #[.slice none 0 0, .slice none 0 0, .int .i64 0, .int .i64 0, .slice none 0 0, .int .i64 0, .bool false, .int .i64 0] := BX.new W1 56 _
    go_region_held3 (fun W => W.cell? ⟨w.heap.size, 0, none⟩ = some (.int .i64 ra) ∧ W.cell? ⟨w.heap.size, 1, none⟩ = some (.int .i64 rm))
      (first | (with_reducible exact CB.out _ hacc) | (with_reducible exact CB.out _ hx0) | (with_reducible exact CB.out _ (hacc.alloc hacc.size _)) | (with_reducible exact CB.out _ ((((((((hacc.setCell (p := ⟨_, 0, none⟩) (Nat.le_refl _) _).setCell (p := ⟨_, 1, none⟩) (Nat.le_refl _) _).setCell (p := ⟨_, 2, none⟩) (Nat.le_refl _) _).setCell (p := ⟨_, 3, none⟩) (Nat.le_refl _) _).setCell (p := ⟨_, 4, none⟩) (Nat.le_refl _) _).setCell (p := ⟨_, 5, none⟩) (Nat.le_refl _) _).setCell (p := ⟨_, 6, none⟩) (Nat.le_refl _) _).setCell (p := ⟨_, 7, none⟩) (Nat.le_refl _) _)) | (with_reducible exact CB.out _ ((((((((hacc.setCell (p := ⟨_, 0, none⟩) (hacc2.size) _).setCell (p := ⟨_, 1, none⟩) (hacc2.size) _).setCell (p := ⟨_, 2, none⟩) (hacc2.size) _).setCell (p := ⟨_, 3, none⟩) (hacc2.size) _).setCell (p := ⟨_, 4, none⟩) (hacc2.size) _).setCell (p := ⟨_, 5, none⟩) (hacc2.size) _).setCell (p := ⟨_, 6, none⟩) (hacc2.size) _).setCell (p := ⟨_, 7, none⟩) (hacc2.size) _)) | (with_reducible exact CB.out _ ((((((((hacc.setCell (p := ⟨_, 0, none⟩) (hacc3.size) _).setCell (p := ⟨_, 1, none⟩) (hacc3.size) _).setCell (p := ⟨_, 2, none⟩) (hacc3.size) _).setCell (p := ⟨_, 3, none⟩) (hacc3.size) _).setCell (p := ⟨_, 4, none⟩) (hacc3.size) _).setCell (p := ⟨_, 5, none⟩) (hacc3.size) _).setCell (p := ⟨_, 6, none⟩) (hacc3.size) _).setCell (p := ⟨_, 7, none⟩) (hacc3.size) _)) | go_keep)
      (first
        | (go_at_call 19; (with_reducible refine (KN.out _ hacc).mono ?_); rintro e w2 ⟨db, rfl, hat, hacc2, hstep2⟩; replace hacc := hacc2; have bz2 := (by first | exact bz2.later hstep2 | exact bz3.later hstep2); have bc20 := bz2.cell (j := 0) rfl; have bf20 := bz2.free 0; have bc21 := bz2.cell (j := 1) rfl; have bf21 := bz2.free 1; have bc22 := bz2.cell (j := 2) rfl; have bf22 := bz2.free 2; have bc23 := bz2.cell (j := 3) rfl; have bf23 := bz2.free 3; have bc24 := bz2.cell (j := 4) rfl; have bf24 := bz2.free 4; have bc25 := bz2.cell (j := 5) rfl; have bf25 := bz2.free 5; have bc26 := bz2.cell (j := 6) rfl; have bf26 := bz2.free 6; have bc27 := bz2.cell (j := 7) rfl; have bf27 := bz2.free 7)
        | (go_at_call 19; (with_reducible refine (KN.out _ hacc).mono ?_); rintro e w2 ⟨db, rfl, hat, hacc2, hstep2⟩; replace hacc := hacc2)
        | (go_at_call 19; (with_reducible refine (KN.out _ hx0).mono ?_); rintro e w2 ⟨db, rfl, hat, hacc2, hstep2⟩; replace hacc := hacc2; have bz2 := hbz0.later hstep2; have bc20 := bz2.cell (j := 0) rfl; have bf20 := bz2.free 0; have bc21 := bz2.cell (j := 1) rfl; have bf21 := bz2.free 1; have bc22 := bz2.cell (j := 2) rfl; have bf22 := bz2.free 2; have bc23 := bz2.cell (j := 3) rfl; have bf23 := bz2.free 3; have bc24 := bz2.cell (j := 4) rfl; have bf24 := bz2.free 4; have bc25 := bz2.cell (j := 5) rfl; have bf25 := bz2.free 5; have bc26 := bz2.cell (j := 6) rfl; have bf26 := bz2.free 6; have bc27 := bz2.cell (j := 7) rfl; have bf27 := bz2.free 7)
        | (go_at_call 19; (with_reducible refine (KN.out _ (hacc.alloc hacc.size _)).mono ?_); rintro e w2 ⟨db, rfl, hat, hacc2, hstep2⟩; replace hacc := hacc2; have bz2 := (BX.new w3 56 #[.slice none 0 0, .slice none 0 0, .int .i64 0, .int .i64 0, .slice none 0 0, .int .i64 0, .bool false, .int .i64 0]).later hstep2; have bc20 := bz2.cell (j := 0) rfl; have bf20 := bz2.free 0; have bc21 := bz2.cell (j := 1) rfl; have bf21 := bz2.free 1; have bc22 := bz2.cell (j := 2) rfl; have bf22 := bz2.free 2; have bc23 := bz2.cell (j := 3) rfl; have bf23 := bz2.free 3; have bc24 := bz2.cell (j := 4) rfl; have bf24 := bz2.free 4; have bc25 := bz2.cell (j := 5) rfl; have bf25 := bz2.free 5; have bc26 := bz2.cell (j := 6) rfl; have bf26 := bz2.free 6; have bc27 := bz2.cell (j := 7) rfl; have bf27 := bz2.free 7)
        | (go_at_call 8; (with_reducible refine (KR.out _ hacc).mono ?_); rintro e w3 ⟨A1, n1, c1, A2, n2, c2, rfl, hr3, hacc3, hstep3⟩; replace hacc := hacc3; have bz3 := (by first | exact bz2.later hstep3 | exact bz3.later hstep3); have bc30 := bz3.cell (j := 0) rfl; have bf30 := bz3.free 0; have bc31 := bz3.cell (j := 1) rfl; have bf31 := bz3.free 1; have bc32 := bz3.cell (j := 2) rfl; have bf32 := bz3.free 2; have bc33 := bz3.cell (j := 3) rfl; have bf33 := bz3.free 3; have bc34 := bz3.cell (j := 4) rfl; have bf34 := bz3.free 4; have bc35 := bz3.cell (j := 5) rfl; have bf35 := bz3.free 5; have bc36 := bz3.cell (j := 6) rfl; have bf36 := bz3.free 6; have bc37 := bz3.cell (j := 7) rfl; have bf37 := bz3.free 7)
        | (go_at_call 8; (with_reducible refine (KR.out _ hacc).mono ?_); rintro e w3 ⟨A1, n1, c1, A2, n2, c2, rfl, hr3, hacc3, hstep3⟩; replace hacc := hacc3)
        | (go_at_call 8; (with_reducible refine (KR.out _ hx0).mono ?_); rintro e w3 ⟨A1, n1, c1, A2, n2, c2, rfl, hr3, hacc3, hstep3⟩; replace hacc := hacc3; have bz3 := hbz0.later hstep3; have bc30 := bz3.cell (j := 0) rfl; have bf30 := bz3.free 0; have bc31 := bz3.cell (j := 1) rfl; have bf31 := bz3.free 1; have bc32 := bz3.cell (j := 2) rfl; have bf32 := bz3.free 2; have bc33 := bz3.cell (j := 3) rfl; have bf33 := bz3.free 3; have bc34 := bz3.cell (j := 4) rfl; have bf34 := bz3.free 4; have bc35 := bz3.cell (j := 5) rfl; have bf35 := bz3.free 5; have bc36 := bz3.cell (j := 6) rfl; have bf36 := bz3.free 6; have bc37 := bz3.cell (j := 7) rfl; have bf37 := bz3.free 7)
        | (go_at_call 8; (with_reducible refine (KR.out _ (hacc.alloc hacc.size _)).mono ?_); rintro e w3 ⟨A1, n1, c1, A2, n2, c2, rfl, hr3, hacc3, hstep3⟩; replace hacc := hacc3; have bz3 := (BX.new w2 56 #[.slice none 0 0, .slice none 0 0, .int .i64 0, .int .i64 0, .slice none 0 0, .int .i64 0, .bool false, .int .i64 0]).later hstep3; have bc30 := bz3.cell (j := 0) rfl; have bf30 := bz3.free 0; have bc31 := bz3.cell (j := 1) rfl; have bf31 := bz3.free 1; have bc32 := bz3.cell (j := 2) rfl; have bf32 := bz3.free 2; have bc33 := bz3.cell (j := 3) rfl; have bf33 := bz3.free 3; have bc34 := bz3.cell (j := 4) rfl; have bf34 := bz3.free 4; have bc35 := bz3.cell (j := 5) rfl; have bf35 := bz3.free 5; have bc36 := bz3.cell (j := 6) rfl; have bf36 := bz3.free 6; have bc37 := bz3.cell (j := 7) rfl; have bf37 := bz3.free 7))
    all_goals
      go_wp2
      go_meet
    · exact ⟨db, _, A1, n1, c1, A2, n2, c2, rfl, rfl, (bthen HB1.out hacc3).size, (hat.later (bthen hstep3 (below_new _ _))), hr3.below (below_new _ _), BX.new _ _ _⟩
    · obtain ⟨V7, hV7, hx7, ho7⟩ := fin8o bz3 (.slice A1 n1 c1) (.slice A2 n2 c2) (.int .i64 (Nt.new ra rm).room) (.int .i64 (Nt.new ra rm).vol) (.slice none 0 0) (.int .i64 0) (.bool false) (.int .i64 0)
      rw [hV7]
      have hr := (bthen HB1.out hacc2).size
      exact ⟨db, _, A1, n1, c1, A2, n2, c2, rfl, rfl, hr, (hat.later (bthen (below_new w2 _) hstep3)).othR ho7 bz3 hr, hr3.oth13d ho7 bz3 hr, hx7⟩
    · obtain ⟨V7, hV7, hx7, ho7⟩ := fin8o bz3 (.slice A1 n1 c1) (.slice A2 n2 c2) (.int .i64 (Nt.new ra rm).room) (.int .i64 (Nt.new ra rm).vol) (.slice none 0 0) (.int .i64 0) (.bool false) (.int .i64 0)
      rw [hV7]
      have hr := HB1.out.size
      exact ⟨db, _, A1, n1, c1, A2, n2, c2, rfl, rfl, hr, (hat.later hstep3).othR ho7 bz3 hr, hr3.oth13d ho7 bz3 hr, hx7⟩
  case rest =>
    obtain ⟨db, rb, A1, n1, c1, A2, n2, c2, rfl, rfl, hrb, HD, HT, HX⟩ := hcut
    have KFF := Lib.hid (KF.out _ HD.out.low)
    clear KF
    by_cases hfar : (l.take 30).any Sq.far = true
    · rw [hfar] at KFF
      clear hfar
      go_wp2_with (first
        | (go_at_call 21; (with_reducible refine (HAL.out _).mono ?_); rintro e w3 ⟨rfl, hb3⟩; have HB3 := Lib.hid (bthen (bthen (show Below w.heap.size w _ from HD.out.low) hb2) hb3); clear hb3)
        | (go_at_call 20; (with_reducible refine KFF.out.mono ?_); rintro e w2 ⟨rfl, hb2⟩))
      go_ret
      exact ⟨rfl, HB3.out⟩
    have hfar' : (l.take 30).any Sq.far = false := by simpa using hfar
    rw [hfar'] at KFF
    have hN40 : min n 30 ≤ 30 := by omega
    have hM := HL.out.take (k := min n 30) (by omega)
    have hll := HL.out.1.1
    have htk : l.take (min n 30) = l.take 30 := by
      by_cases h : n ≤ 30
      · rw [List.take_of_length_le (by omega), List.take_of_length_le (by omega)]
      · rw [show min n 30 = 30 from by omega]
    rw [htk] at hM
    have hY : ∀ y ∈ l.take 30, y.ok := fun y hy => HY.out y (List.mem_of_mem_take hy)
    generalize l.take 30 = M at *
    generalize min n 30 = N at *
    have HM := Lib.hid hM
    have HFAR := Lib.hid hfar'
    have HYM := Lib.hid hY
    clear hfar hfar' hM htk hll hY HL HY
    go_wp2_with (first
      | (go_at_call 22; (with_reducible refine (KSH.out _).mono ?_); rintro e w3 ⟨rfl, rfl⟩)
      | (go_at_call 20; (with_reducible refine KFF.out.mono ?_); rintro e w2 ⟨rfl, hb2⟩; have HD2 := Lib.hid (HD.out.later hb2); have HT2 := Lib.hid (HT.out.below hb2); have HX2 := Lib.hid (HX.out.later hb2); clear hb2))
    go_loopw [38] (fun i W => ∃ (j : Nat) (M : Dk) (K : Nat) (T : Tr) (L : List Dd) (KT : Nat) (v : Array Value), j ≤ N ∧ i = .int .i64 j ∧ Hid (DkR (Bs.of w) W db M K) ∧ Hid (DP M K T L KT) ∧ Hid (RP W w.heap.size v T L M) ∧ Hid (BX W rb 56 v) ∧ K + 301 * L.length ≤ 1 + 602 * j ∧ L.length ≤ j) (fun i _ => N - (intOf i).toNat)
    case atStart => exact ⟨0, Nt.dnew ra rm, 1, Nt.new ra rm, [], 1, _, Nat.zero_le _, rfl, HD2.out, HDP0.out, ⟨A1, n1, c1, A2, n2, c2, none, 0, 0, 0, false, 0, rfl, HT2.out, DRow.nil, Nat.le_refl _, Nat.zero_le _, rfl, rfl, rfl⟩, HX2.out, Nat.le_refl _, Nat.le_refl _⟩
    case round =>
      revert hrel
      generalize wr = V
      intro hrel
      obtain ⟨j, M1, K, T, L, KT, v, hj, rfl, HD, HP, HR, HX, hKL, hLj⟩ := hrel
      by_cases hlt : j < N
      · have hlt' : (j : Int) < N := by omega
        have hlow : Below w.heap.size w V := HD.out.low
        obtain ⟨b, o, y, rfl, hb, hy, hrbb, hc⟩ := (HM.out.below hlow).at_ hlt
        have hyo := HYM.out y (List.mem_of_getElem? hy)
        have hfy : y.far = false := by
          have := HFAR.out
          rw [List.any_eq_false] at this
          simpa using this _ (List.mem_of_getElem? hy)
        obtain ⟨hfit, hsml, hbyt⟩ := Sq.fit hyo hfy
        have hkp := hyo.2.2.1
        obtain ⟨wh, ⟨kd, p, q, ma, mb, mc, md, A', n', k', xs'⟩, kp, tn⟩ := y
        have sc0 : V.cell? ⟨b, o + j * 11, none⟩ = some (.int .u8 wh) := hc 0 _ rfl
        have sc1 : V.cell? ⟨b, o + j * 11 + 1, none⟩ = some (.int .i64 kd) := hc 1 _ rfl
        have sc2 : V.cell? ⟨b, o + j * 11 + 2, none⟩ = some (.string p) := hc 2 _ rfl
        have sc3 : V.cell? ⟨b, o + j * 11 + 3, none⟩ = some (.string q) := hc 3 _ rfl
        have sc4 : V.cell? ⟨b, o + j * 11 + 4, none⟩ = some (.int .i64 ma) := hc 4 _ rfl
        have sc5 : V.cell? ⟨b, o + j * 11 + 5, none⟩ = some (.int .i64 mb) := hc 5 _ rfl
        have sc6 : V.cell? ⟨b, o + j * 11 + 6, none⟩ = some (.int .i64 mc) := hc 6 _ rfl
        have sc7 : V.cell? ⟨b, o + j * 11 + 7, none⟩ = some (.int .i64 md) := hc 7 _ rfl
        have sc8 : V.cell? ⟨b, o + j * 11 + 8, none⟩ = some (.slice A' n' k') := hc 8 _ rfl
        have sc9 : V.cell? ⟨b, o + j * 11 + 9, none⟩ = some (.int .i64 kp) := hc 9 _ rfl
        have sc10 : V.cell? ⟨b, o + j * 11 + 10, none⟩ = some (.int .i64 tn) := hc 10 _ rfl
        have hx1 := BX.new V 62 (SqC wh kd p q ma mb mc md A' n' k' kp tn)
        have hbb := below_new V (.cells (SqC wh kd p q ma mb mc md A' n' k' kp tn) 62)
        obtain ⟨V1, hV1⟩ : ∃ X, V.alloc (.cells (SqC wh kd p q ma mb mc md A' n' k' kp tn) 62) = X := ⟨_, rfl⟩
        rw [hV1] at hx1 hbb
        have hrlt : rb < V.heap.size := HX.out.lt
        have hVsz : w.heap.size ≤ V.heap.size := hlow.size
        obtain ⟨A1, n1, c1, A2, n2, c2, AL, nL, cL, sy, fd, lf, rfl, hr, hl, hcL, hcm, hsy, hfd, hlf⟩ := HR.out
        have hxr := HX.out.later hbb
        obtain rfl : L.length = nL := hl.1.1
        have hds : RB V1 w.heap.size A' n' xs' := hrbb.below (hbb.mono hVsz)
        have hKDO := ldo14_any (HD.out.later hbb) HP.out (hr.below hbb) (hl.below hVsz hbb) hcL hcm (Nat.le_refl _) (by omega) (by omega) wh ⟨kd, p, q, ma, mb, mc, md, A', n', k', xs'⟩ kp tn hkp hds hfit hsml hbyt
        rw [← hsy, ← hfd, ← hlf] at hKDO
        have KDO := Lib.hid hKDO
        have z0 := (hxr).cell (j := 0) rfl; have zf0 := (hxr).free 0; have z1 := (hxr).cell (j := 1) rfl; have zf1 := (hxr).free 1; have z2 := (hxr).cell (j := 2) rfl; have zf2 := (hxr).free 2; have z3 := (hxr).cell (j := 3) rfl; have zf3 := (hxr).free 3; have z4 := (hxr).cell (j := 4) rfl; have zf4 := (hxr).free 4; have z5 := (hxr).cell (j := 5) rfl; have zf5 := (hxr).free 5; have z6 := (hxr).cell (j := 6) rfl; have zf6 := (hxr).free 6; have z7 := (hxr).cell (j := 7) rfl; have zf7 := (hxr).free 7
        have s0 := (hx1).cell (j := 0) rfl; have s1 := (hx1).cell (j := 1) rfl; have s2 := (hx1).cell (j := 2) rfl; have s3 := (hx1).cell (j := 3) rfl; have s4 := (hx1).cell (j := 4) rfl; have s5 := (hx1).cell (j := 5) rfl; have s6 := (hx1).cell (j := 6) rfl; have s7 := (hx1).cell (j := 7) rfl; have s8 := (hx1).cell (j := 8) rfl; have s9 := (hx1).cell (j := 9) rfl; have s10 := (hx1).cell (j := 10) rfl
        have HX1 := Lib.hid hx1
        have HXR := Lib.hid hxr
        clear hc hy hyo hfy hrbb hbb hx1 hxr hds hKDO hfit hsml hbyt hkp hr hl hsy hfd hlf hlow HR
        go_upto_region 9 with (first
          | (go_at_call 23; (with_reducible refine KDO.out.mono ?_); rintro e w4 ⟨v4, M2, K2, T2, L2, KT2, rfl, hd4, hp4, ⟨A3, n3, c3, A4, n4, c4, AL3, nL3, cL3, sy3, fd3, lf3, rfl, hr4, hl4, hc4, hcm4, hsy4, hfd4, hlf4⟩, hK4, hL4, hk4, hb4⟩; have HSY := Lib.hid hsy4; have HFD := Lib.hid hfd4; have HLF := Lib.hid hlf4; clear hsy4 hfd4 hlf4; have hx4 := HXR.out.keptX hk4 rdisk_notD; have t0 := (hx4).cell (j := 0) rfl; have tf0 := (hx4).free 0; have t1 := (hx4).cell (j := 1) rfl; have tf1 := (hx4).free 1; have t2 := (hx4).cell (j := 2) rfl; have tf2 := (hx4).free 2; have t3 := (hx4).cell (j := 3) rfl; have tf3 := (hx4).free 3; have t4 := (hx4).cell (j := 4) rfl; have tf4 := (hx4).free 4; have t5 := (hx4).cell (j := 5) rfl; have tf5 := (hx4).free 5; have t6 := (hx4).cell (j := 6) rfl; have tf6 := (hx4).free 6; have t7 := (hx4).cell (j := 7) rfl; have tf7 := (hx4).free 7))
        have hsz4 : w.heap.size ≤ w4.heap.size := hb4.size
        obtain rfl : L2.length = nL3 := hl4.1.1
        obtain ⟨V7, hV7, hx7, ho7⟩ := fin8o hx4 (.slice A3 n3 c3) (.slice A4 n4 c4) (.int .i64 T2.room) (.int .i64 T2.vol) (.slice AL3 L2.length cL3) (.int .i64 sy3) (.bool fd3) (.int .i64 lf3)
        rw [hV7]
        have hd7 := hd4.othR ho7 hx4 hrb
        have hs7 : w.heap.size ≤ V7.heap.size := Nat.le_trans hsz4 ho7.2.2.2.1
        have HD7 := Lib.hid hd7
        have HR7 := Lib.hid (hr4.oth13d ho7 hx4 hrb)
        have HL7 := Lib.hid (hl4.oth ho7 hx4 hrb hsz4)
        have HX7 := Lib.hid hx7
        have HP7 := Lib.hid hp4
        have hlen7 := hp4.len
        have hkt7 := hp4.kt
        have KW := Lib.hid (dkwaits hd7 (by omega))
        clear hd4 hp4 hr4 hl4 hk4 hb4 hx4 ho7 hx7 hV7 hd7 KDO HX1 HXR HD HP HX
        clear z0 zf0 z1 zf1 z2 zf2 z3 zf3 z4 zf4 z5 zf5 z6 zf6 z7 zf7 s0 s1 s2 s3 s4 s5 s6 s7 s8 s9 s10 sc0 sc1 sc2 sc3 sc4 sc5 sc6 sc7 sc8 sc9 sc10 t0 tf0 t1 tf1 t2 tf2 t3 tf3 t4 tf4 t5 tf5 t6 tf6 t7 tf7
        go_upto_region 10 with (go_at_call 24; (with_reducible refine KW.out.mono ?_); rintro e w5 ⟨A5, n5, c5, rfl, ls, H5⟩)
        have hb5 := H5.out.2.2.2.2.2
        obtain rfl : n5 = L2.length := H5.out.2.2.2.2.1.trans hlen7
        have hc5 : L2.length ≤ c5 := H5.out.2.2.1
        have hcm5 : c5 ≤ maxLen := H5.out.2.2.2.1
        have hs5 := hb5.size
        have HD5 := Lib.hid (HD7.out.later hb5)
        have HR5 := Lib.hid (HR7.out.below hb5)
        have HL5 := Lib.hid (HL7.out.below hs7 hb5)
        have HX5 := Lib.hid (HX7.out.later hb5)
        have HV5 := Lib.hid (WF.all (K := K) (l := L2) HP7.out.wf HP7.out.lens)
        have FC := Lib.hid (fun W (h : Below w5.heap.size w5 W) => show W.cell? ⟨rb, 0, none⟩ = some (.slice A3 n3 c3) ∧ W.cell? ⟨rb, 1, none⟩ = some (.slice A4 n4 c4) ∧ W.cell? ⟨rb, 2, none⟩ = some (.int .i64 T2.room) ∧ W.cell? ⟨rb, 3, none⟩ = some (.int .i64 T2.vol) ∧ W.cell? ⟨rb, 4, none⟩ = some (.slice AL3 L2.length cL3) ∧ W.cell? ⟨rb, 5, none⟩ = some (.int .i64 sy3) ∧ W.cell? ⟨rb, 6, none⟩ = some (.bool fd3) ∧ W.cell? ⟨rb, 7, none⟩ = some (.int .i64 lf3) from ⟨(HX5.out.later h).cell rfl, (HX5.out.later h).cell rfl, (HX5.out.later h).cell rfl, (HX5.out.later h).cell rfl, (HX5.out.later h).cell rfl, (HX5.out.later h).cell rfl, (HX5.out.later h).cell rfl, (HX5.out.later h).cell rfl⟩)
        have KV := Lib.hid (fun W (h : Below w5.heap.size w5 W) => (dkview (HD5.out.later h) HP7.out.ok (by omega)).mono (R' := fun e w' => ∃ tb, e = .returned (.pointer (some ⟨tb, 0, none⟩)) ∧ Hid (At W w' tb (Nt.all T2 L2).er K2) ∧ Below W.heap.size W w') (by rintro e w' ⟨tb, rfl, ha, hb⟩; rw [HP7.out.eV] at ha; exact ⟨tb, rfl, ha, hb⟩))
        have KU := Lib.hid (fun W (h : Below w5.heap.size w5 W) => (dkdurable (HD5.out.later h) HP7.out.ok (by omega)).mono (R' := fun e w' => ∃ tb, e = .returned (.pointer (some ⟨tb, 0, none⟩)) ∧ Hid (At W w' tb T2.er K2) ∧ Below W.heap.size W w') (by rintro e w' ⟨tb, rfl, ha, hb⟩; rw [HP7.out.eD] at ha; exact ⟨tb, rfl, ha, hb⟩))
        have KRV := Lib.hid (fun W (h : Below w5.heap.size w5 W) => (refview_any (HR5.out.below h) HP7.out.wf (HL5.out.below (Nat.le_trans hs7 hs5) h) (by omega) hc4 hcm4 sy3 fd3 lf3).mono (R' := fun e w' => ∃ a1 m1 d1 a2 m2 d2, e = .returned (.agg (RvC a1 m1 d1 a2 m2 d2 (Nt.all T2 L2).room (Nt.all T2 L2).vol)) ∧ Hid (RTr w' w.heap.size a1 m1 d1 a2 m2 d2 (Nt.all T2 L2)) ∧ Below W.heap.size W w') (by
          rintro e w' ⟨v, rfl, ⟨a1, m1, d1, a2, m2, d2, rfl, hr⟩, _, hb⟩
          exact ⟨a1, m1, d1, a2, m2, d2, rfl, hr, hb⟩))
        have KLV := Lib.hid (fun W0 W tb a1 m1 d1 a2 m2 d2 (ha : At W0 W tb (Nt.all T2 L2).er K2) (hr : RTr W w.heap.size a1 m1 d1 a2 m2 d2 (Nt.all T2 L2)) => like14_any ha hr (HV5.out.le (by omega)) (by omega) (bok_all (K := K) L2 HP7.out.wf HP7.out.bok HP7.out.lens HP7.out.bokL))
        have KLD := Lib.hid (fun W0 W tb a1 m1 d1 a2 m2 d2 (ha : At W0 W tb T2.er K2) (hr : RTr W w.heap.size a1 m1 d1 a2 m2 d2 T2) => like14_any ha hr (HP7.out.wf.le (by omega)) (by omega) HP7.out.bok)
        have KSY := Lib.hid (fun W (h : Below w5.heap.size w5 W) => dksyncs (HD5.out.later h))
        have KDK := Lib.hid (fun W (h : Below w5.heap.size w5 W) => dkdark (HD5.out.later h))
        have KRD := Lib.hid (fun W => refdark_any A3 n3 c3 A4 n4 c4 T2.room T2.vol AL3 L2.length cL3 sy3 fd3 lf3 W)
        rw [← HSY.out] at KSY
        rw [dark14 M2 fd3 lf3 HFD.out HLF.out] at KRD
        obtain ⟨dk, hdk⟩ : ∃ x, (M2.fu == 0) = x := ⟨_, rfl⟩
        rw [hdk] at KDK KRD
        have gL : ((L2.length : Int) != (L2.length : Int)) = false := by simp
        have gS : (sy3 != sy3) = false := by simp
        have gD : (dk != dk) = false := by simp
        have hacc : Below w5.heap.size w5 w5.drew := (Below.refl _ _).drew
        obtain ⟨e0, e1, e2, e3, e4, e5, e6, e7⟩ := FC.out _ hacc
        clear hdk KW
        go_region_held3 (fun W => W.cell? ⟨rb, 0, none⟩ = some (.slice A3 n3 c3) ∧ W.cell? ⟨rb, 1, none⟩ = some (.slice A4 n4 c4) ∧ W.cell? ⟨rb, 2, none⟩ = some (.int .i64 T2.room) ∧ W.cell? ⟨rb, 3, none⟩ = some (.int .i64 T2.vol) ∧ W.cell? ⟨rb, 4, none⟩ = some (.slice AL3 L2.length cL3) ∧ W.cell? ⟨rb, 5, none⟩ = some (.int .i64 sy3) ∧ W.cell? ⟨rb, 6, none⟩ = some (.bool fd3) ∧ W.cell? ⟨rb, 7, none⟩ = some (.int .i64 lf3))
          (first | (with_reducible exact FC.out _ hacc) | go_keep)
          (first
            | (go_at_call 31; (with_reducible refine (KRD.out _).mono ?_); rintro e w13 ⟨rfl, hb13⟩; replace hacc := bthen hacc hb13)
            | (go_at_call 30; (with_reducible refine (KDK.out _ hacc).mono ?_); rintro e w12 ⟨rfl, rfl⟩)
            | (go_at_call 29; (with_reducible refine (KSY.out _ hacc).mono ?_); rintro e w11 ⟨rfl, rfl⟩)
            | (go_at_call 25; (with_reducible refine (KLD.out _ _ _ _ _ _ _ _ _ ha9.out (HR5.out.below hacc)).mono ?_); rintro e w10 ⟨rfl, hb10⟩; replace hacc := bthen hacc hb10)
            | (go_at_call 28; (with_reducible refine (KU.out _ hacc).mono ?_); rintro e w9 ⟨tb9, rfl, ha9, hb9⟩; replace hacc := bthen hacc hb9)
            | (go_at_call 25; (with_reducible refine (KLV.out _ _ _ _ _ _ _ _ _ ha7.out hr7.out).mono ?_); rintro e w8 ⟨rfl, hb8⟩; replace hacc := bthen hacc hb8)
            | (go_at_call 27; (with_reducible refine (KRV.out _ hacc).mono ?_); rintro e w7 ⟨a1, m1, d1, a2, m2, d2, rfl, hr7, hb7⟩; have ha7 := Lib.hid (ha6.out.later hb7); replace hacc := bthen hacc hb7)
            | (go_at_call 26; (with_reducible refine (KV.out _ hacc).mono ?_); rintro e w6 ⟨tb6, rfl, ha6, hb6⟩; replace hacc := bthen hacc hb6))
        have HACC := Lib.hid hacc
        clear hacc
        go_wp2
        go_loopw [93] (fun i W => ∃ t : Nat, t ≤ L2.length ∧ i = .int .i64 t ∧ Hid (Below w5.heap.size w5 W)) (fun i _ => L2.length - (intOf i).toNat)
        case atStart => exact ⟨0, Nat.zero_le _, rfl, HACC.out⟩
        case round =>
          revert hrel
          generalize wr = U
          intro hrel
          obtain ⟨t, ht, rfl, HBU⟩ := hrel
          by_cases htn : t < L2.length
          · have htn' : (t : Int) < L2.length := by omega
            have hn1000 : L2.length ≤ 1000 := by omega
            obtain ⟨f0, f1, f2, f3, f4, f5, f6, f7⟩ := FC.out _ HBU.out
            obtain ⟨b2, o2, y, rfl, hyt, hyc⟩ := (HL5.out.below (Nat.le_trans hs7 hs5) HBU.out).1.at_ htn
            obtain ⟨b1, o1, z, rfl, hzt, hzok, hzc⟩ := (H5.out.1.below HBU.out).at_ htn
            have her := er_at14 (H5.out.2.1.trans HP7.out.eL) hzt hyt
            have hyr := ((HL5.out.below (Nat.le_trans hs7 hs5) HBU.out).2 y (List.mem_of_getElem? hyt)).1
            have hzr := hzok.rb
            have hzn : z.n ≤ 5000 := hzok.small.2.2
            obtain ⟨kd, p, q, ma, mb, mc, md, A8, n8, k8, xs8⟩ := y
            obtain ⟨kd2, p2, q2, ma2, mb2, mc2, md2, A9, n9, k9, xs9⟩ := z
            simp only [Dd.er, Dd.mk.injEq] at her
            obtain ⟨rfl, rfl, rfl, rfl, rfl, rfl, rfl, _, rfl, _, rfl⟩ := her
            simp only at hyr hzr hzn
            have hsU := HBU.out.size
            have g0 : U.cell? ⟨b2, o2 + t * 8, none⟩ = some (.int .i64 kd2) := hyc 0 _ rfl
            have g1 : U.cell? ⟨b2, o2 + t * 8 + 1, none⟩ = some (.string p2) := hyc 1 _ rfl
            have g2 : U.cell? ⟨b2, o2 + t * 8 + 2, none⟩ = some (.string q2) := hyc 2 _ rfl
            have g3 : U.cell? ⟨b2, o2 + t * 8 + 3, none⟩ = some (.int .i64 ma2) := hyc 3 _ rfl
            have g4 : U.cell? ⟨b2, o2 + t * 8 + 4, none⟩ = some (.int .i64 mb2) := hyc 4 _ rfl
            have g5 : U.cell? ⟨b2, o2 + t * 8 + 5, none⟩ = some (.int .i64 mc2) := hyc 5 _ rfl
            have g6 : U.cell? ⟨b2, o2 + t * 8 + 6, none⟩ = some (.int .i64 md2) := hyc 6 _ rfl
            have g7 : U.cell? ⟨b2, o2 + t * 8 + 7, none⟩ = some (.slice A8 n9 k8) := hyc 7 _ rfl
            have KTH := Lib.hid (theirs14_any ⟨kd2, p2, q2, ma2, mb2, mc2, md2, A8, n9, k8, xs9⟩ U)
            have HZC := Lib.hid (fun W (h : Below U.heap.size U W) => show W.cell? ⟨b1, o1 + t * 8, none⟩ = some (.int .i64 kd2) ∧ W.cell? ⟨b1, o1 + t * 8 + 1, none⟩ = some (.string p2) ∧ W.cell? ⟨b1, o1 + t * 8 + 2, none⟩ = some (.string q2) ∧ W.cell? ⟨b1, o1 + t * 8 + 3, none⟩ = some (.int .i64 ma2) ∧ W.cell? ⟨b1, o1 + t * 8 + 4, none⟩ = some (.int .i64 mb2) ∧ W.cell? ⟨b1, o1 + t * 8 + 5, none⟩ = some (.int .i64 mc2) ∧ W.cell? ⟨b1, o1 + t * 8 + 6, none⟩ = some (.int .i64 md2) ∧ W.cell? ⟨b1, o1 + t * 8 + 7, none⟩ = some (.slice A9 n9 k9) from ⟨(h.cell (p := ⟨b1, o1 + t * 8, none⟩) (World.block_lt_of_cell? U _ (hzc 0 _ rfl))).trans (hzc 0 _ rfl), (h.cell (p := ⟨b1, o1 + t * 8 + 1, none⟩) (World.block_lt_of_cell? U _ (hzc 1 _ rfl))).trans (hzc 1 _ rfl), (h.cell (p := ⟨b1, o1 + t * 8 + 2, none⟩) (World.block_lt_of_cell? U _ (hzc 2 _ rfl))).trans (hzc 2 _ rfl), (h.cell (p := ⟨b1, o1 + t * 8 + 3, none⟩) (World.block_lt_of_cell? U _ (hzc 3 _ rfl))).trans (hzc 3 _ rfl), (h.cell (p := ⟨b1, o1 + t * 8 + 4, none⟩) (World.block_lt_of_cell? U _ (hzc 4 _ rfl))).trans (hzc 4 _ rfl), (h.cell (p := ⟨b1, o1 + t * 8 + 5, none⟩) (World.block_lt_of_cell? U _ (hzc 5 _ rfl))).trans (hzc 5 _ rfl), (h.cell (p := ⟨b1, o1 + t * 8 + 6, none⟩) (World.block_lt_of_cell? U _ (hzc 6 _ rfl))).trans (hzc 6 _ rfl), (h.cell (p := ⟨b1, o1 + t * 8 + 7, none⟩) (World.block_lt_of_cell? U _ (hzc 7 _ rfl))).trans (hzc 7 _ rfl)⟩)
            have HSM := Lib.hid (fun W (h : Below U.heap.size U W) => same_any A9 A8 n9 n9 k9 k8 xs9 xs9 W ((hzr.below h).more h.size) ((hyr.below (h.mono (by omega))).more (by have := h.size; omega)) (by omega) (by omega))
            have hdx : decide (xs9 = xs9) = true := by simp
            rw [hdx] at HSM
            clear hyc hzc hyt hzt hzok hyr hzr hdx
            go_upto_region 16 with (go_at_call 32; (with_reducible refine KTH.out.mono ?_); rintro e w6 ⟨rfl, hb6⟩)
            have hx8 := BX.new w6 74 (DdC ⟨kd2, p2, q2, ma2, mb2, mc2, md2, A8, n9, k8, xs9⟩)
            have hb8 := below_new w6 (.cells (DdC ⟨kd2, p2, q2, ma2, mb2, mc2, md2, A8, n9, k8, xs9⟩) 74)
            obtain ⟨V8, hV8⟩ : ∃ X, w6.alloc (.cells (DdC ⟨kd2, p2, q2, ma2, mb2, mc2, md2, A8, n9, k8, xs9⟩) 74) = X := ⟨_, rfl⟩
            rw [hV8] at hx8 hb8 ⊢
            have HB8 := Lib.hid (bthen hb6 hb8)
            have HX8 := Lib.hid hx8
            have FD := Lib.hid (fun W (h : Below V8.heap.size V8 W) => show (W.cell? ⟨b1, o1 + t * 8, none⟩ = some (.int .i64 kd2) ∧ W.cell? ⟨b1, o1 + t * 8 + 1, none⟩ = some (.string p2) ∧ W.cell? ⟨b1, o1 + t * 8 + 2, none⟩ = some (.string q2) ∧ W.cell? ⟨b1, o1 + t * 8 + 3, none⟩ = some (.int .i64 ma2) ∧ W.cell? ⟨b1, o1 + t * 8 + 4, none⟩ = some (.int .i64 mb2) ∧ W.cell? ⟨b1, o1 + t * 8 + 5, none⟩ = some (.int .i64 mc2) ∧ W.cell? ⟨b1, o1 + t * 8 + 6, none⟩ = some (.int .i64 md2) ∧ W.cell? ⟨b1, o1 + t * 8 + 7, none⟩ = some (.slice A9 n9 k9)) ∧ (W.cell? ⟨w6.heap.size, 0, none⟩ = some (.int .i64 kd2) ∧ W.cell? ⟨w6.heap.size, 1, none⟩ = some (.string p2) ∧ W.cell? ⟨w6.heap.size, 2, none⟩ = some (.string q2) ∧ W.cell? ⟨w6.heap.size, 3, none⟩ = some (.int .i64 ma2) ∧ W.cell? ⟨w6.heap.size, 4, none⟩ = some (.int .i64 mb2) ∧ W.cell? ⟨w6.heap.size, 5, none⟩ = some (.int .i64 mc2) ∧ W.cell? ⟨w6.heap.size, 6, none⟩ = some (.int .i64 md2) ∧ W.cell? ⟨w6.heap.size, 7, none⟩ = some (.slice A8 n9 k8)) from ⟨HZC.out W (bthen HB8.out h), (HX8.out.later h).cell rfl, (HX8.out.later h).cell rfl, (HX8.out.later h).cell rfl, (HX8.out.later h).cell rfl, (HX8.out.later h).cell rfl, (HX8.out.later h).cell rfl, (HX8.out.later h).cell rfl, (HX8.out.later h).cell rfl⟩)
            have hacc : Below V8.heap.size V8 V8.drew := (Below.refl _ _).drew
            obtain ⟨⟨r0, r1, r2, r3, r4, r5, r6, r7⟩, i0, i1, i2, i3, i4, i5, i6, i7⟩ := FD.out _ hacc
            have FD2 := Lib.hid (fun W (h : Below V8.heap.size V8 W) => show W.cell? ⟨b1, o1 + t * 8, none⟩ = some (.int .i64 kd2) ∧ W.cell? ⟨b1, o1 + t * 8 + 1, none⟩ = some (.string p2) ∧ W.cell? ⟨b1, o1 + t * 8 + 2, none⟩ = some (.string q2) ∧ W.cell? ⟨b1, o1 + t * 8 + 3, none⟩ = some (.int .i64 ma2) ∧ W.cell? ⟨b1, o1 + t * 8 + 4, none⟩ = some (.int .i64 mb2) ∧ W.cell? ⟨b1, o1 + t * 8 + 5, none⟩ = some (.int .i64 mc2) ∧ W.cell? ⟨b1, o1 + t * 8 + 6, none⟩ = some (.int .i64 md2) ∧ W.cell? ⟨b1, o1 + t * 8 + 7, none⟩ = some (.slice A9 n9 k9) ∧ W.cell? ⟨w6.heap.size, 0, none⟩ = some (.int .i64 kd2) ∧ W.cell? ⟨w6.heap.size, 1, none⟩ = some (.string p2) ∧ W.cell? ⟨w6.heap.size, 2, none⟩ = some (.string q2) ∧ W.cell? ⟨w6.heap.size, 3, none⟩ = some (.int .i64 ma2) ∧ W.cell? ⟨w6.heap.size, 4, none⟩ = some (.int .i64 mb2) ∧ W.cell? ⟨w6.heap.size, 5, none⟩ = some (.int .i64 mc2) ∧ W.cell? ⟨w6.heap.size, 6, none⟩ = some (.int .i64 md2) ∧ W.cell? ⟨w6.heap.size, 7, none⟩ = some (.slice A8 n9 k8) from (fun x => ⟨x.1.1, x.1.2.1, x.1.2.2.1, x.1.2.2.2.1, x.1.2.2.2.2.1, x.1.2.2.2.2.2.1, x.1.2.2.2.2.2.2.1, x.1.2.2.2.2.2.2.2, x.2⟩) (FD.out W h))
            clear hx8 hb8 hV8
            go_region_held3 (fun W => W.cell? ⟨b1, o1 + t * 8, none⟩ = some (.int .i64 kd2) ∧ W.cell? ⟨b1, o1 + t * 8 + 1, none⟩ = some (.string p2) ∧ W.cell? ⟨b1, o1 + t * 8 + 2, none⟩ = some (.string q2) ∧ W.cell? ⟨b1, o1 + t * 8 + 3, none⟩ = some (.int .i64 ma2) ∧ W.cell? ⟨b1, o1 + t * 8 + 4, none⟩ = some (.int .i64 mb2) ∧ W.cell? ⟨b1, o1 + t * 8 + 5, none⟩ = some (.int .i64 mc2) ∧ W.cell? ⟨b1, o1 + t * 8 + 6, none⟩ = some (.int .i64 md2) ∧ W.cell? ⟨b1, o1 + t * 8 + 7, none⟩ = some (.slice A9 n9 k9) ∧ W.cell? ⟨w6.heap.size, 0, none⟩ = some (.int .i64 kd2) ∧ W.cell? ⟨w6.heap.size, 1, none⟩ = some (.string p2) ∧ W.cell? ⟨w6.heap.size, 2, none⟩ = some (.string q2) ∧ W.cell? ⟨w6.heap.size, 3, none⟩ = some (.int .i64 ma2) ∧ W.cell? ⟨w6.heap.size, 4, none⟩ = some (.int .i64 mb2) ∧ W.cell? ⟨w6.heap.size, 5, none⟩ = some (.int .i64 mc2) ∧ W.cell? ⟨w6.heap.size, 6, none⟩ = some (.int .i64 md2) ∧ W.cell? ⟨w6.heap.size, 7, none⟩ = some (.slice A8 n9 k8))
              (first | (with_reducible exact FD2.out _ hacc) | go_keep)
              (first | (go_at_call 33; (with_reducible refine (HSM.out _ (bthen HB8.out hacc)).mono ?_); rintro e w9 ⟨rfl, hb9⟩; replace hacc := bthen hacc hb9))
            have HEND := Lib.hid (bthen HB8.out hacc)
            clear hacc
            go_wp2
            go_roundw
            case rel => exact ⟨t + 1, by omega, by go_num, HBU.out.trans (HEND.out.mono HBU.out.size)⟩
            case measure => simp [intOf]; omega
          · have htn' : ¬ (t : Int) < L2.length := by omega
            go_wp2
            go_roundw
            case rel => exact ⟨j + 1, M2, K2, T2, L2, KT2, _, by omega, by go_num, HD5.out.later HBU.out, HP7.out, ⟨A3, n3, c3, A4, n4, c4, AL3, L2.length, cL3, sy3, fd3, lf3, rfl, HR5.out.below HBU.out, HL5.out.below (Nat.le_trans hs7 hs5) HBU.out, hc4, hcm4, HSY.out, HFD.out, HLF.out⟩, HX5.out.later HBU.out, by omega, by omega⟩
            case measure => simp [intOf]; omega
      · have hlt' : ¬ (j : Int) < N := by omega
        have hlow : Below w.heap.size w V := HD.out.low
        have HLW := Lib.hid hlow
        clear hlow
        go_wp2_with (go_at_call 21; (with_reducible refine (HAL.out _).mono ?_); rintro e w3 ⟨rfl, hb3⟩; have HB3 := Lib.hid (bthen HLW.out hb3); clear hb3)
        go_ret
        exact ⟨rfl, HB3.out⟩
end Go.Proofs.YthgbncpiehcghaaGreatDoor
