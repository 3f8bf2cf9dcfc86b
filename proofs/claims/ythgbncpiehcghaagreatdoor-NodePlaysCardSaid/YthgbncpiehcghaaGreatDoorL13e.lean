/- THE LAW 'NodePlays': a tree answers every call, in every order, as the document's does. -/
import Derived.Test.YthgbncpiehcghaaGreatDoorR13u
import Derived.Test.YthgbncpiehcghaaGreatDoorR13t
import Derived.Test.YthgbncpiehcghaaGreatDoorL13d
import Derived.Test.YthgbncpiehcghaaGreatDoorG13y
import Derived.Test.YthgbncpiehcghaaGreatDoorG13z
import Derived.Test.YthgbncpiehcghaaGreatDoorS13
import Derived.Deep.RegionHeld3
namespace Go.Proofs.YthgbncpiehcghaaGreatDoor
set_option linter.unusedVariables false
open Go Go.RowKit Go.Maps
set_option maxRecDepth 100000
set_option maxHeartbeats 8000000
open Nt (Tr Nd WF Ps Path at_ cnt used txt)
theorem bok_stp {T : Tr} {K : Nat} (hW : WF T K) (h : Nt.Bok T) (kd : Int) (p q : ByteArray) (a b c d : Int) (A : Option Addr) (n k : Nat) (xs : List Int) (hx : Byt xs) : Nt.Bok (stp T kd p q a b c d A n k xs).1 := by
  unfold stp
  split
  · exact h.mk' _ _ Byt.nil
  · split
    · exact h.mk' _ _ hx
    · split
      · exact h.mk' _ _ Byt.nil
      · split
        · exact h.lnk _ _
        · split
          · exact h.wr _ _ _ _ _ hx
          · split
            · exact h.st hW _ _ _ _ _
            · split
              · exact h.rm _
              · split
                · exact h.clr _
                · exact h.rn _ _
theorem wf_stp {T : Tr} {K : Nat} (hW : WF T K) (kd : Int) (p q : ByteArray) (a b c d : Int) (A : Option Addr) (n k : Nat) (xs : List Int) (hx : xs.length = n) : WF (stp T kd p q a b c d A n k xs).1 (K + 301) := by
  unfold stp
  split
  · exact hW.mk' fun _ => ⟨.inr (.inr rfl), rfl, Nat.zero_le _, fun _ => rfl, fun _ => rfl⟩
  · split
    · exact hW.mk' fun hE => ⟨.inl rfl, hx, mk_small hE, fun h => absurd rfl h, fun _ => rfl⟩
    · split
      · exact hW.mk' fun _ => ⟨.inr (.inl rfl), rfl, Nat.zero_le _, fun _ => rfl, fun h => absurd rfl h⟩
      · split
        · exact hW.lnk' _ _
        · split
          · exact hW.wr' _ _ _ _ _ hx
          · split
            · exact hW.st' _ _ _ _ _
            · split
              · exact hW.rm' _
              · split
                · exact hW.clr' _
                · exact hW.rn' _ _
theorem at_actX {w0 w : World} {tb K : Nat} {T : Tr} (h : At w0 w tb T K) (hK : K ≤ 100000) (kd : Int) (p q : ByteArray) (hp : p.size ≤ 100000) (hq : q.size ≤ 100000) (a b c d : Int) (A : Option Addr) (n k : Nat) (xs : List Int) (hd : RB w w0.heap.size A n xs) (hn : n ≤ 1000000) :
    Calls Tryz.prog 13 #[.pointer (some ⟨tb, 0, none⟩), .agg (StC kd p q a b c d A n k)] w fun e w' => e = .returned (.int .i64 (stp T kd p q a b c d A n k xs).2) ∧ At w0 w' tb (stp T kd p q a b c d A n k xs).1 (K + 301) ∧ KeepX TreeObj w w' ∧ Below w0.heap.size w w' := by
  obtain ⟨F, ad, mb, hF, hR⟩ := h.rep
  refine (act_done h.wf hK hR.min kd p q hp hq a b c d A n k xs w0.heap.size hd h.low.size (hF tb hR.ftree).1 hn).mono ?_
  intro e w' hdn
  have hk := hdn.2.2
  have hx : KeepX TreeObj w w' := KeepX.ofKeep hk fun k hk2 => hR.min.sort hk2
  have hl : Below w0.heap.size w w' := hk.below (fun k hk => (hF k (hR.fm hk)).1) h.low.size
  obtain ⟨rfl, ha⟩ := h.of_done (fun k hk => hF k (hR.fm hk)) (wf_stp h.wf kd p q a b c d A n k xs hd.1) hdn
  exact ⟨rfl, ha, hx, hl⟩
theorem step13_not {cs : Array Value} {fz : Nat × Nat} : ¬ TreeObj (.cells cs 38 fz) := by
  rintro (⟨_, _, h⟩ | ⟨_, _, _, h, h1 | h1⟩)
  · cases h
  · cases h; cases h1
  · cases h; cases h1
theorem nodeplays_walk (ra rm : Int) (A : Option Addr) (n k : Nat) (l : List Sp) (w : World) (h0 : -9223372036854775808 ≤ ra ∧ ra ≤ 9223372036854775807) (h1 : -9223372036854775808 ≤ rm ∧ rm ≤ 9223372036854775807) (hl : SL w w.heap.size A n l) (hk : n ≤ k) (hm : k ≤ maxLen) (hy : ∀ y ∈ l, y.ok) :
    Calls Tryz.prog 3 #[.agg #[.int .i64 ra, .int .i64 rm], .slice A n k] w fun e w' => e = .returned (.bool true) ∧ Below w.heap.size w w' := by
  obtain ⟨W1, hW1, hb1, hs1, x1⟩ := frame1 w #[.int .i64 ra, .int .i64 rm] 22
  have HAL := Lib.hid (fun W => alive_any W)
  have KN := Lib.hid (fun W (h : Below W1.heap.size W1 W) => (at_new W ra rm h0.2 h1.2).mono (R' := fun e w' => ∃ tb, e = .returned (.pointer (some ⟨tb, 0, none⟩)) ∧ At w w' tb (Nt.new ra rm) 1 ∧ Below W1.heap.size W1 w' ∧ Below W.heap.size W w') (by
    rintro e w' ⟨tb, rfl, hat⟩
    exact ⟨tb, rfl, hat.rebase (bthen hb1 h), bthen h hat.low, hat.low⟩))
  have KR := Lib.hid (fun W (h : Below W1.heap.size W1 W) => (refnew_any W w.heap.size (Nat.le_trans hb1.size h.size) ra rm).mono (R' := fun e w' => ∃ A1 n1 c1 A2 n2 c2, e = .returned (.agg (RvC A1 n1 c1 A2 n2 c2 (Nt.new ra rm).room (Nt.new ra rm).vol)) ∧ RTr w' w.heap.size A1 n1 c1 A2 n2 c2 (Nt.new ra rm) ∧ Below W1.heap.size W1 w' ∧ Below W.heap.size W w') (by
    rintro e w' ⟨v, rfl, ⟨A1, n1, c1, A2, n2, c2, rfl, hr⟩, hb⟩
    exact ⟨A1, n1, c1, A2, n2, c2, rfl, hr, bthen h hb, hb⟩))
  have KF := Lib.hid (fun W (h : Below w.heap.size w W) => far_any A n k w.heap.size l W (hl.below h) h.size hk hm)
  have KSH := Lib.hid (fun W => short_any A n k W hk hm)
  have CB := Lib.hid (fun W (h : Below W1.heap.size W1 W) => show W.cell? ⟨w.heap.size, 0, none⟩ = some (.int .i64 ra) ∧ W.cell? ⟨w.heap.size, 1, none⟩ = some (.int .i64 rm) from ⟨(x1.later h).cell rfl, (x1.later h).cell rfl⟩)
  have HL := Lib.hid hl
  have HY := Lib.hid hy
  have HB1 := Lib.hid hb1
  obtain ⟨q0, q1⟩ := CB.out _ (Below.refl _ _).drew
  clear hl hy hb1 x1 h0 h1 hs1
  go_enter Tryz.func3, Tryz.ntmps3
  go_upto_region 1 with (fail)
  go_cut [5, 6] (fun v5 v6 wx => ∃ tb rb A1 n1 c1 A2 n2 c2, v5 = .pointer (some ⟨tb, 0, none⟩) ∧ v6 = .pointer (some ⟨rb, 0, none⟩) ∧ w.heap.size ≤ rb ∧ Hid (At w wx tb (Nt.new ra rm) 1) ∧ Hid (RTr wx w.heap.size A1 n1 c1 A2 n2 c2 (Nt.new ra rm)) ∧ Hid (BX wx rb 29 (RvC A1 n1 c1 A2 n2 c2 (Nt.new ra rm).room (Nt.new ra rm).vol)))
  case first =>
    have hacc : Below W1.heap.size W1 W1.drew := (Below.refl _ _).drew
    have hx0 : Below W1.heap.size W1 (W1.alloc (.cells #[.slice none 0 0, .slice none 0 0, .int .i64 0, .int .i64 0] 29)).drew := (below_new W1 _).drew
    have hbz0 : BX (W1.alloc (.cells #[.slice none 0 0, .slice none 0 0, .int .i64 0, .int .i64 0] 29)).drew W1.heap.size 29 #[.slice none 0 0, .slice none 0 0, .int .i64 0, .int .i64 0] := BX.new W1 29 _
    go_region_held3 (fun W => W.cell? ⟨w.heap.size, 0, none⟩ = some (.int .i64 ra) ∧ W.cell? ⟨w.heap.size, 1, none⟩ = some (.int .i64 rm))
      (first | (with_reducible exact CB.out _ hacc) | (with_reducible exact CB.out _ hx0) | (with_reducible exact CB.out _ (hacc.alloc hacc.size _)) | (with_reducible exact CB.out _ (((((hacc.setCell (p := ⟨_, 0, none⟩) (Nat.le_refl _) _).setCell (p := ⟨_, 1, none⟩) (Nat.le_refl _) _).setCell (p := ⟨_, 2, none⟩) (Nat.le_refl _) _).setCell (p := ⟨_, 3, none⟩) (Nat.le_refl _) _))) | (with_reducible exact CB.out _ (((((hacc.setCell (p := ⟨_, 0, none⟩) hacc2.size _).setCell (p := ⟨_, 1, none⟩) hacc2.size _).setCell (p := ⟨_, 2, none⟩) hacc2.size _).setCell (p := ⟨_, 3, none⟩) hacc2.size _))) | (with_reducible exact CB.out _ (((((hacc.setCell (p := ⟨_, 0, none⟩) hacc3.size _).setCell (p := ⟨_, 1, none⟩) hacc3.size _).setCell (p := ⟨_, 2, none⟩) hacc3.size _).setCell (p := ⟨_, 3, none⟩) hacc3.size _))) | go_keep)
      (first
        | (go_at_call 7; (with_reducible refine (KN.out _ hacc).mono ?_); rintro e w2 ⟨tb, rfl, hat, hacc2, hstep2⟩; replace hacc := hacc2; have bz2 := (by first | exact bz2.later hstep2 | exact bz3.later hstep2); have bc20 := bz2.cell (j := 0) rfl; have bf20 := bz2.free 0; have bc21 := bz2.cell (j := 1) rfl; have bf21 := bz2.free 1; have bc22 := bz2.cell (j := 2) rfl; have bf22 := bz2.free 2; have bc23 := bz2.cell (j := 3) rfl; have bf23 := bz2.free 3)
        | (go_at_call 7; (with_reducible refine (KN.out _ hacc).mono ?_); rintro e w2 ⟨tb, rfl, hat, hacc2, hstep2⟩; replace hacc := hacc2)
        | (go_at_call 7; (with_reducible refine (KN.out _ hx0).mono ?_); rintro e w2 ⟨tb, rfl, hat, hacc2, hstep2⟩; replace hacc := hacc2; have bz2 := hbz0.later hstep2; have bc20 := bz2.cell (j := 0) rfl; have bf20 := bz2.free 0; have bc21 := bz2.cell (j := 1) rfl; have bf21 := bz2.free 1; have bc22 := bz2.cell (j := 2) rfl; have bf22 := bz2.free 2; have bc23 := bz2.cell (j := 3) rfl; have bf23 := bz2.free 3)
        | (go_at_call 7; (with_reducible refine (KN.out _ (hacc.alloc hacc.size _)).mono ?_); rintro e w2 ⟨tb, rfl, hat, hacc2, hstep2⟩; replace hacc := hacc2; have bz2 := (BX.new w3 29 #[.slice none 0 0, .slice none 0 0, .int .i64 0, .int .i64 0]).later hstep2; have bc20 := bz2.cell (j := 0) rfl; have bf20 := bz2.free 0; have bc21 := bz2.cell (j := 1) rfl; have bf21 := bz2.free 1; have bc22 := bz2.cell (j := 2) rfl; have bf22 := bz2.free 2; have bc23 := bz2.cell (j := 3) rfl; have bf23 := bz2.free 3)
        | (go_at_call 8; (with_reducible refine (KR.out _ hacc).mono ?_); rintro e w3 ⟨A1, n1, c1, A2, n2, c2, rfl, hr3, hacc3, hstep3⟩; replace hacc := hacc3; have bz3 := (by first | exact bz2.later hstep3 | exact bz3.later hstep3); have bc30 := bz3.cell (j := 0) rfl; have bf30 := bz3.free 0; have bc31 := bz3.cell (j := 1) rfl; have bf31 := bz3.free 1; have bc32 := bz3.cell (j := 2) rfl; have bf32 := bz3.free 2; have bc33 := bz3.cell (j := 3) rfl; have bf33 := bz3.free 3)
        | (go_at_call 8; (with_reducible refine (KR.out _ hacc).mono ?_); rintro e w3 ⟨A1, n1, c1, A2, n2, c2, rfl, hr3, hacc3, hstep3⟩; replace hacc := hacc3)
        | (go_at_call 8; (with_reducible refine (KR.out _ hx0).mono ?_); rintro e w3 ⟨A1, n1, c1, A2, n2, c2, rfl, hr3, hacc3, hstep3⟩; replace hacc := hacc3; have bz3 := hbz0.later hstep3; have bc30 := bz3.cell (j := 0) rfl; have bf30 := bz3.free 0; have bc31 := bz3.cell (j := 1) rfl; have bf31 := bz3.free 1; have bc32 := bz3.cell (j := 2) rfl; have bf32 := bz3.free 2; have bc33 := bz3.cell (j := 3) rfl; have bf33 := bz3.free 3)
        | (go_at_call 8; (with_reducible refine (KR.out _ (hacc.alloc hacc.size _)).mono ?_); rintro e w3 ⟨A1, n1, c1, A2, n2, c2, rfl, hr3, hacc3, hstep3⟩; replace hacc := hacc3; have bz3 := (BX.new w2 29 #[.slice none 0 0, .slice none 0 0, .int .i64 0, .int .i64 0]).later hstep3; have bc30 := bz3.cell (j := 0) rfl; have bf30 := bz3.free 0; have bc31 := bz3.cell (j := 1) rfl; have bf31 := bz3.free 1; have bc32 := bz3.cell (j := 2) rfl; have bf32 := bz3.free 2; have bc33 := bz3.cell (j := 3) rfl; have bf33 := bz3.free 3))
    all_goals
      go_wp2
      go_meet
    · exact ⟨tb, _, A1, n1, c1, A2, n2, c2, rfl, rfl, (bthen HB1.out hacc3).size, (hat.later (bthen hstep3 (below_new _ _))), hr3.below (below_new _ _), BX.new _ _ _⟩
    · obtain ⟨V7, hV7, hx7, ho7⟩ := set4b bz3 (.slice A1 n1 c1) (.slice A2 n2 c2) (.int .i64 (Nt.new ra rm).room) (.int .i64 (Nt.new ra rm).vol)
      rw [hV7]
      have hr := (bthen HB1.out hacc2).size
      exact ⟨tb, _, A1, n1, c1, A2, n2, c2, rfl, rfl, hr, (hat.later (bthen (below_new w2 _) hstep3)).oth ho7 bz3 tree13_not hr, hr3.oth13f ho7 bz3 hr, hx7⟩
    · obtain ⟨V7, hV7, hx7, ho7⟩ := set4b bz3 (.slice A1 n1 c1) (.slice A2 n2 c2) (.int .i64 (Nt.new ra rm).room) (.int .i64 (Nt.new ra rm).vol)
      rw [hV7]
      have hr := HB1.out.size
      exact ⟨tb, _, A1, n1, c1, A2, n2, c2, rfl, rfl, hr, (hat.later hstep3).oth ho7 bz3 tree13_not hr, hr3.oth13f ho7 bz3 hr, hx7⟩
  case rest =>
    obtain ⟨tb, rb, A1, n1, c1, A2, n2, c2, rfl, rfl, hrb, HA, HT, HX⟩ := hcut
    have KFF := Lib.hid (KF.out _ HA.out.low)
    clear KF
    by_cases hfar : (l.take 40).any Sp.far = true
    · rw [hfar] at KFF
      clear hfar
      go_wp2_with (first
        | (go_at_call 10; (with_reducible refine (HAL.out _).mono ?_); rintro e w3 ⟨rfl, hb3⟩; have HB3 := Lib.hid (bthen (bthen HA.out.low hb2) hb3); clear hb3)
        | (go_at_call 9; (with_reducible refine KFF.out.mono ?_); rintro e w2 ⟨rfl, hb2⟩))
      go_ret
      exact ⟨rfl, HB3.out⟩
    have hfar' : (l.take 40).any Sp.far = false := by simpa using hfar
    rw [hfar'] at KFF
    have hN40 : min n 40 ≤ 40 := by omega
    have hM := HL.out.take (k := min n 40) (by omega)
    have hll := HL.out.1.1
    have htk : l.take (min n 40) = l.take 40 := by
      by_cases h : n ≤ 40
      · rw [List.take_of_length_le (by omega), List.take_of_length_le (by omega)]
      · rw [show min n 40 = 40 from by omega]
    rw [htk] at hM
    have hY : ∀ y ∈ l.take 40, y.ok := fun y hy => HY.out y (List.mem_of_mem_take hy)
    generalize l.take 40 = M at *
    generalize min n 40 = N at *
    have HM := Lib.hid hM
    have HFAR := Lib.hid hfar'
    have HYM := Lib.hid hY
    clear hfar hfar' hM htk hll hY HL HY
    go_wp2_with (first
      | (go_at_call 11; (with_reducible refine (KSH.out _).mono ?_); rintro e w3 ⟨rfl, rfl⟩)
      | (go_at_call 9; (with_reducible refine KFF.out.mono ?_); rintro e w2 ⟨rfl, hb2⟩; have HA2 := Lib.hid (HA.out.later hb2); have HT2 := Lib.hid (HT.out.below hb2); have HX2 := Lib.hid (HX.out.later hb2); clear hb2))
    go_loopw [44] (fun i W => ∃ (j : Nat) (T : Tr) (A1 : Option Addr) (n1 c1 : Nat) (A2 : Option Addr) (n2 c2 : Nat), j ≤ N ∧ i = .int .i64 j ∧ Hid (At w W tb T (1 + 301 * j)) ∧ Hid (RTr W w.heap.size A1 n1 c1 A2 n2 c2 T) ∧ Hid (BX W rb 29 (RvC A1 n1 c1 A2 n2 c2 T.room T.vol)) ∧ Hid (Nt.Bok T)) (fun i _ => N - (intOf i).toNat)
    case atStart => exact ⟨0, Nt.new ra rm, A1, n1, c1, A2, n2, c2, Nat.zero_le _, rfl, HA2.out, HT2.out, HX2.out, Nt.Bok.new _ _⟩
    case round =>
      revert hrel
      generalize wr = V
      intro hrel
      obtain ⟨j, T, A1, n1, c1, A2, n2, c2, hj, rfl, HA, HT, HX, HBK⟩ := hrel
      by_cases hlt : j < N
      · have hlt' : (j : Int) < N := by omega
        obtain ⟨b, o, y, rfl, hb, hy, hrbb, hc⟩ := (HM.out.below HA.out.low).at_ hlt
        have hyo := HYM.out y (List.mem_of_getElem? hy)
        have hfy : y.far = false := by
          have := HFAR.out
          rw [List.any_eq_false] at this
          simpa using this _ (List.mem_of_getElem? hy)
        obtain ⟨kd, p, q, ma, mb, mc, md, A', n', k', xs'⟩ := y
        have c0 : V.cell? ⟨b, o + j * 8, none⟩ = some (.int .u8 kd) := hc 0 _ rfl
        have c1 : V.cell? ⟨b, o + j * 8 + 1, none⟩ = some (.string p) := hc 1 _ rfl
        have c2 : V.cell? ⟨b, o + j * 8 + 2, none⟩ = some (.string q) := hc 2 _ rfl
        have c3 : V.cell? ⟨b, o + j * 8 + 3, none⟩ = some (.int .i64 ma) := hc 3 _ rfl
        have c4 : V.cell? ⟨b, o + j * 8 + 4, none⟩ = some (.int .i64 mb) := hc 4 _ rfl
        have c5 : V.cell? ⟨b, o + j * 8 + 5, none⟩ = some (.int .i64 mc) := hc 5 _ rfl
        have c6 : V.cell? ⟨b, o + j * 8 + 6, none⟩ = some (.int .i64 md) := hc 6 _ rfl
        have c7 : V.cell? ⟨b, o + j * 8 + 7, none⟩ = some (.slice A' n' k') := hc 7 _ rfl
        have hb3 : p.size ≤ 400 ∧ q.size ≤ 400 ∧ n' ≤ 4200 := by
          simp only [Sp.far, Bool.or_eq_false_iff, decide_eq_false_iff_not] at hfy
          omega
        have hx1 := BX.new V 38 (StC kd p q ma mb mc md A' n' k')
        have hbb := below_new V (.cells (StC kd p q ma mb mc md A' n' k') 38)
        obtain ⟨V1, hV1⟩ : ∃ X, V.alloc (.cells (StC kd p q ma mb mc md A' n' k') 38) = X := ⟨_, rfl⟩
        rw [hV1] at hx1 hbb
        have hrlt : rb < V.heap.size := HX.out.lt
        have HA1 := Lib.hid (HA.out.later hbb)
        have HT1 := Lib.hid (HT.out.below hbb)
        have hxr := HX.out.later hbb
        have z0 := (hxr).cell (j := 0) rfl; have zf0 := (hxr).free 0; have z1 := (hxr).cell (j := 1) rfl; have zf1 := (hxr).free 1; have z2 := (hxr).cell (j := 2) rfl; have zf2 := (hxr).free 2; have z3 := (hxr).cell (j := 3) rfl; have zf3 := (hxr).free 3
        have s0 := (hx1).cell (j := 0) rfl; have s1 := (hx1).cell (j := 1) rfl; have s2 := (hx1).cell (j := 2) rfl; have s3 := (hx1).cell (j := 3) rfl; have s4 := (hx1).cell (j := 4) rfl; have s5 := (hx1).cell (j := 5) rfl; have s6 := (hx1).cell (j := 6) rfl; have s7 := (hx1).cell (j := 7) rfl
        have hds : RB V1 w.heap.size A' n' xs' := hrbb.below (hbb.mono HA.out.low.size)
        have hdl := hds.1
        have KT := Lib.hid (theirs_any HT1.out HA1.out.wf (by omega) kd p q (by omega) (by omega) ma mb mc md A' n' k' xs' hds hyo.2.2.2.2.2.2.2.2.1 hyo.2.2.2.2.2.2.2.2.2 (by omega))
        have HB2 := Lib.hid (bok_stp HA1.out.wf HBK.out kd p q ma mb mc md A' n' k' xs' hyo.2.2.2.2.2.2.2.1)
        have KAC := Lib.hid (fun W (h : At w W tb T (1 + 301 * j)) (hd : RB W w.heap.size A' n' xs') => at_actX h (by omega) kd p q (by omega) (by omega) ma mb mc md A' n' k' xs' hd (by omega))
        have HX1 := Lib.hid hx1
        have HXR := Lib.hid hxr
        have HDS := Lib.hid hds
        obtain ⟨⟨T2, z⟩, hst⟩ : ∃ r, stp T kd p q ma mb mc md A' n' k' xs' = r := ⟨_, rfl⟩
        rw [hst] at KT HB2
        simp only [hst] at KAC
        clear hc hy hyo hfy hrbb hbb hst hx1 hxr hds
        have gz : (z != z) = false := by simp
        go_upto_region 9 with (first
          | (go_at_call 12; (with_reducible refine KT.out.mono ?_); rintro e w4 ⟨v4, rfl, ⟨A3, n3, c3, A4, n4, c4, rfl, hr4⟩, hb4⟩; have hx4 := HXR.out.later hb4; have t0 := (hx4).cell (j := 0) rfl; have tf0 := (hx4).free 0; have t1 := (hx4).cell (j := 1) rfl; have tf1 := (hx4).free 1; have t2 := (hx4).cell (j := 2) rfl; have tf2 := (hx4).free 2; have t3 := (hx4).cell (j := 3) rfl; have tf3 := (hx4).free 3))
        have hxs4 := HX1.out.later hb4
        have hsz4 : w.heap.size ≤ w4.heap.size := Nat.le_trans HA1.out.low.size hb4.size
        have hrne : V.heap.size ≠ rb := by omega
        obtain ⟨V7, hV7, hx7, ho7⟩ := set4b hx4 (.slice A3 n3 c3) (.slice A4 n4 c4) (.int .i64 T2.room) (.int .i64 T2.vol)
        rw [hV7]
        have HA7 := Lib.hid ((HA1.out.later hb4).oth ho7 hx4 tree13_not hrb)
        have HT7 := Lib.hid (hr4.oth13f ho7 hx4 hrb)
        have HX7 := Lib.hid hx7
        have HXS7 := Lib.hid (hxs4.oth ho7 hrne)
        have HDS7 := Lib.hid ((HDS.out.below (hb4.mono HA1.out.low.size)).below (ho7.below hrb hsz4))
        have KAC := Lib.hid (KAC.out V7 HA7.out HDS7.out)
        have KLK := Lib.hid (fun W A3 n3 c3 A4 n4 c4 (ha : At w W tb T2 (1 + 301 * j + 301)) (hr : RTr W w.heap.size A3 n3 c3 A4 n4 c4 T2) p (hp : p.size ≤ 100000) => like_any ha hr (by omega) HB2.out p hp)
        have x0 := (HX7.out).cell (j := 0) rfl; have x1 := (HX7.out).cell (j := 1) rfl; have x2 := (HX7.out).cell (j := 2) rfl; have x3 := (HX7.out).cell (j := 3) rfl
        have y0 := (HXS7.out).cell (j := 0) rfl; have y1 := (HXS7.out).cell (j := 1) rfl; have y2 := (HXS7.out).cell (j := 2) rfl; have y3 := (HXS7.out).cell (j := 3) rfl; have y4 := (HXS7.out).cell (j := 4) rfl; have y5 := (HXS7.out).cell (j := 5) rfl; have y6 := (HXS7.out).cell (j := 6) rfl; have y7 := (HXS7.out).cell (j := 7) rfl
        clear hx4 hxs4 hr4 hx7 ho7 hb4 KT HX HA HT HXR HA1 HT1 HX1 HDS
        go_wp2_with (first
          | (go_at_call 13; (with_reducible refine KAC.out.mono ?_); rintro e w5 ⟨rfl, ha5, hk5, hl5⟩; have HA5 := Lib.hid ha5; have HT5 := Lib.hid (HT7.out.keptX hk5 hl5 (fun _ _ => node13_not) (fun _ _ => at13_not)); have HX5 := Lib.hid (HX7.out.keptX hk5 tree13_not); have HXS5 := Lib.hid (HXS7.out.keptX hk5 step13_not); clear ha5 hk5 hl5; have r0 := (HX5.out).cell (j := 0) rfl; have r1 := (HX5.out).cell (j := 1) rfl; have r2 := (HX5.out).cell (j := 2) rfl; have r3 := (HX5.out).cell (j := 3) rfl; have u1 := (HXS5.out).cell (j := 1) rfl; have u2 := (HXS5.out).cell (j := 2) rfl)
          | (go_at_call 14; (with_reducible refine (KLK.out _ _ _ _ _ _ _ HA5.out HT5.out p (by omega)).mono ?_); rintro e w6 ⟨rfl, hb6⟩; have hx6 := HX5.out.later hb6; have hxs6 := HXS5.out.later hb6; have v0 := (hx6).cell (j := 0) rfl; have v1 := (hx6).cell (j := 1) rfl; have v2 := (hx6).cell (j := 2) rfl; have v3 := (hx6).cell (j := 3) rfl; have t1 := (hxs6).cell (j := 1) rfl; have t2 := (hxs6).cell (j := 2) rfl; clear hx6 hxs6)
          | (go_at_call 14; (with_reducible refine (KLK.out _ _ _ _ _ _ _ (HA5.out.later hb6) (HT5.out.below hb6) q (by omega)).mono ?_); rintro e w7 ⟨rfl, hb7⟩; have HB67 := Lib.hid (bthen hb6 hb7); have hx7 := HX5.out.later HB67.out; have l0 := (hx7).cell (j := 0) rfl; have l1 := (hx7).cell (j := 1) rfl; have l2 := (hx7).cell (j := 2) rfl; have l3 := (hx7).cell (j := 3) rfl; clear hx7))
        go_loopw [78] (fun i W => ∃ t : Nat, t ≤ n4 ∧ i = .int .i64 t ∧ Hid (Below w7.heap.size w7 W)) (fun i _ => n4 - (intOf i).toNat)
        case atStart => exact ⟨0, Nat.zero_le _, rfl, Below.refl _ _⟩
        case round =>
          revert hrel
          generalize wr = U
          intro hrel
          obtain ⟨t, ht, rfl, HBU⟩ := hrel
          have HB5U := Lib.hid (bthen HB67.out HBU.out)
          have HAE := Lib.hid (HA5.out.later HB5U.out)
          have HTE := Lib.hid (HT5.out.below HB5U.out)
          have HXE := Lib.hid (HX5.out.later HB5U.out)
          have HXSE := Lib.hid (HXS5.out.later HB5U.out)
          by_cases htn : t < n4
          · have htn' : (t : Int) < n4 := by omega
            have hn4 : n4 ≤ 100000 := by rw [← HTE.out.len2]; have := HAE.out.wf.many; omega
            obtain ⟨g, o4, x, rfl, hx, hcx⟩ := HTE.out.paths.at_ htn
            obtain ⟨Y, hY, hYt⟩ := tps_at hx
            obtain ⟨ps, pm⟩ := x
            replace hYt : ps = txt Y := hYt
            have hps : ps.size ≤ 100000 := by rw [hYt]; have := HAE.out.wf.long Y pm (List.mem_of_getElem? hY); omega
            have e0 : U.cell? ⟨g, o4 + t * 2, none⟩ = some (.string ps) := hcx 0 _ rfl
            have e1 : U.cell? ⟨g, o4 + t * 2 + 1, none⟩ = some (.int .i64 (pm : Nat)) := hcx 1 _ rfl
            have hbx := BX.new U 45 #[.string ps, .int .i64 (pm : Nat)]
            have hbw := below_new U (.cells #[.string ps, .int .i64 (pm : Nat)] 45)
            obtain ⟨U1, hU1⟩ : ∃ X, U.alloc (.cells #[.string ps, .int .i64 (pm : Nat)] 45) = X := ⟨_, rfl⟩
            rw [hU1] at hbx hbw
            have KL1 := Lib.hid (KLK.out _ _ _ _ _ _ _ (HAE.out.later hbw) (HTE.out.below hbw) ps hps)
            have hxr := HXE.out.later hbw
            have f0 := (hxr).cell (j := 0) rfl; have f1 := (hxr).cell (j := 1) rfl; have f2 := (hxr).cell (j := 2) rfl; have f3 := (hxr).cell (j := 3) rfl
            have h0 := hbx.cell (j := 0) rfl
            have HBW := Lib.hid (bthen HBU.out hbw)
            clear hx hcx hY hYt hbx hbw hxr
            go_wp2_with (go_at_call 14; (with_reducible refine KL1.out.mono ?_); rintro e w8 ⟨rfl, hb8⟩; have HB8 := Lib.hid (bthen HBW.out hb8); clear hb8)
            go_roundw
            case rel => exact ⟨t + 1, by omega, by go_num, HB8.out⟩
            case measure => simp [intOf]; omega
          · have htn' : ¬ (t : Int) < n4 := by omega
            have FC := Lib.hid (fun W (h : Below U.heap.size U W) => show W.cell? ⟨rb, 0, none⟩ = some (.slice A3 n3 c3) ∧ W.cell? ⟨rb, 1, none⟩ = some (.slice A4 n4 c4) ∧ W.cell? ⟨rb, 2, none⟩ = some (.int .i64 T2.room) ∧ W.cell? ⟨rb, 3, none⟩ = some (.int .i64 T2.vol) ∧ W.cell? ⟨V.heap.size, 1, none⟩ = some (.string p) ∧ W.cell? ⟨V.heap.size, 2, none⟩ = some (.string q) from
              ⟨(HXE.out.later h).cell rfl, (HXE.out.later h).cell rfl, (HXE.out.later h).cell rfl, (HXE.out.later h).cell rfl, (HXSE.out.later h).cell rfl, (HXSE.out.later h).cell rfl⟩)
            have KU := Lib.hid (at_used HAE.out)
            have KRU := Lib.hid (fun W (h : Below U.heap.size U W) => refused_any (HTE.out.below h) HAE.out.wf (by omega) T2.room T2.vol)
            have KFP := Lib.hid (fun W (h : Below U.heap.size U W) => reffind_any (HTE.out.below h) HAE.out.wf (by omega) T2.room T2.vol p (by omega))
            have KFQ := Lib.hid (fun W (h : Below U.heap.size U W) => reffind_any (HTE.out.below h) HAE.out.wf (by omega) T2.room T2.vol q (by omega))
            have KSA := Lib.hid (fun W (h : Below U.heap.size U W) => at_same (HAE.out.later h) (by omega) p q (by omega) (by omega))
            obtain ⟨uN, huN⟩ : ∃ u : Int, ((T2.usedN : Nat) : Int) = u := ⟨_, rfl⟩
            obtain ⟨uB, huB⟩ : ∃ u : Int, ((T2.usedB : Nat) : Int) = u := ⟨_, rfl⟩
            obtain ⟨⟨fa, ff⟩, hfp⟩ : ∃ r, T2.find p = r := ⟨_, rfl⟩
            obtain ⟨⟨fb, fg⟩, hfq⟩ : ∃ r, T2.find q = r := ⟨_, rfl⟩
            rw [huN, huB] at KU
            simp only [huN, huB] at KRU
            simp only [hfp] at KFP KSA
            simp only [hfq] at KFQ KSA
            have gN : (uN != uN) = false := by simp
            have gB : (uB != uB) = false := by simp
            clear huN huB hfp hfq KLK
            by_cases hf : ff = 0
            · subst hf
              by_cases hg : fg = 0
              · subst hg
                by_cases hab : fa = fb
                · subst hab
                  have hd : decide ((0 : Int) = 0 ∧ (0 : Int) = 0 ∧ fa = fa) = true := by simp
                  simp only [hd] at KSA
                  have gab : ((fa : Int) == (fa : Int)) = true := by simp
                  clear hd
                  go_wp2_with (first
                    | (go_at_call 18; (with_reducible refine (KSA.out _ hc11).mono ?_); rintro e w12 ⟨rfl, hb12⟩; have hc12 := Lib.hid (bthen hc11 hb12))
                    | (go_at_call 17; (with_reducible refine (KFP.out _ hc9).mono ?_); rintro e w10 ⟨rfl, hb10⟩; have hc10 := bthen hc9 hb10; obtain ⟨a0, a1, a2, a3, b1, b2⟩ := FC.out _ hc10)
                    | (go_at_call 17; (with_reducible refine (KFQ.out _ hc10).mono ?_); rintro e w11 ⟨rfl, hb11⟩; have hc11 := bthen hc10 hb11; obtain ⟨d0, d1, d2, d3, g1, g2⟩ := FC.out _ hc11)
                    | (go_at_call 16; (with_reducible refine (KRU.out _ hc8).mono ?_); rintro e w9 ⟨rfl, hb9⟩; have hc9 := bthen hc8 hb9; obtain ⟨k0, k1, k2, k3, m1, m2⟩ := FC.out _ hc9)
                    | (go_at_call 15; (with_reducible refine KU.out.mono ?_); rintro e w8 ⟨rfl, hb8⟩; have hc8 := hb8; obtain ⟨i0, i1, i2, i3, j1, j2⟩ := FC.out _ hc8))
                  go_roundw
                  case rel => exact ⟨j + 1, T2, _, _, _, _, _, _, by omega, by go_num, by rw [show 1 + 301 * (j + 1) = 1 + 301 * j + 301 by omega]; exact HAE.out.later hc12.out, HTE.out.below hc12.out, HXE.out.later hc12.out, HB2.out⟩
                  case measure => simp [intOf]; omega
                · have hd : decide ((0 : Int) = 0 ∧ (0 : Int) = 0 ∧ fa = fb) = false := by simp [hab]
                  simp only [hd] at KSA
                  have gab : ((fa : Int) == (fb : Int)) = false := by simp; omega
                  clear hd
                  go_wp2_with (first
                    | (go_at_call 18; (with_reducible refine (KSA.out _ hc11).mono ?_); rintro e w12 ⟨rfl, hb12⟩; have hc12 := Lib.hid (bthen hc11 hb12))
                    | (go_at_call 17; (with_reducible refine (KFP.out _ hc9).mono ?_); rintro e w10 ⟨rfl, hb10⟩; have hc10 := bthen hc9 hb10; obtain ⟨a0, a1, a2, a3, b1, b2⟩ := FC.out _ hc10)
                    | (go_at_call 17; (with_reducible refine (KFQ.out _ hc10).mono ?_); rintro e w11 ⟨rfl, hb11⟩; have hc11 := bthen hc10 hb11; obtain ⟨d0, d1, d2, d3, g1, g2⟩ := FC.out _ hc11)
                    | (go_at_call 16; (with_reducible refine (KRU.out _ hc8).mono ?_); rintro e w9 ⟨rfl, hb9⟩; have hc9 := bthen hc8 hb9; obtain ⟨k0, k1, k2, k3, m1, m2⟩ := FC.out _ hc9)
                    | (go_at_call 15; (with_reducible refine KU.out.mono ?_); rintro e w8 ⟨rfl, hb8⟩; have hc8 := hb8; obtain ⟨i0, i1, i2, i3, j1, j2⟩ := FC.out _ hc8))
                  go_roundw
                  case rel => exact ⟨j + 1, T2, _, _, _, _, _, _, by omega, by go_num, by rw [show 1 + 301 * (j + 1) = 1 + 301 * j + 301 by omega]; exact HAE.out.later hc12.out, HTE.out.below hc12.out, HXE.out.later hc12.out, HB2.out⟩
                  case measure => simp [intOf]; omega
              · have hd : decide ((0 : Int) = 0 ∧ fg = 0 ∧ fa = fb) = false := by simp [hg]
                simp only [hd] at KSA
                have gg : (fg == 0) = false := by simp [hg]
                clear hd
                go_wp2_with (first
                  | (go_at_call 18; (with_reducible refine (KSA.out _ hc11).mono ?_); rintro e w12 ⟨rfl, hb12⟩; have hc12 := Lib.hid (bthen hc11 hb12))
                  | (go_at_call 17; (with_reducible refine (KFP.out _ hc9).mono ?_); rintro e w10 ⟨rfl, hb10⟩; have hc10 := bthen hc9 hb10; obtain ⟨a0, a1, a2, a3, b1, b2⟩ := FC.out _ hc10)
                  | (go_at_call 17; (with_reducible refine (KFQ.out _ hc10).mono ?_); rintro e w11 ⟨rfl, hb11⟩; have hc11 := bthen hc10 hb11; obtain ⟨d0, d1, d2, d3, g1, g2⟩ := FC.out _ hc11)
                  | (go_at_call 16; (with_reducible refine (KRU.out _ hc8).mono ?_); rintro e w9 ⟨rfl, hb9⟩; have hc9 := bthen hc8 hb9; obtain ⟨k0, k1, k2, k3, m1, m2⟩ := FC.out _ hc9)
                  | (go_at_call 15; (with_reducible refine KU.out.mono ?_); rintro e w8 ⟨rfl, hb8⟩; have hc8 := hb8; obtain ⟨i0, i1, i2, i3, j1, j2⟩ := FC.out _ hc8))
                go_roundw
                case rel => exact ⟨j + 1, T2, _, _, _, _, _, _, by omega, by go_num, by rw [show 1 + 301 * (j + 1) = 1 + 301 * j + 301 by omega]; exact HAE.out.later hc12.out, HTE.out.below hc12.out, HXE.out.later hc12.out, HB2.out⟩
                case measure => simp [intOf]; omega
            · have hd : decide (ff = 0 ∧ fg = 0 ∧ fa = fb) = false := by simp [hf]
              simp only [hd] at KSA
              have gf : (ff == 0) = false := by simp [hf]
              clear hd
              go_wp2_with (first
                | (go_at_call 18; (with_reducible refine (KSA.out _ hc11).mono ?_); rintro e w12 ⟨rfl, hb12⟩; have hc12 := Lib.hid (bthen hc11 hb12))
                | (go_at_call 17; (with_reducible refine (KFP.out _ hc9).mono ?_); rintro e w10 ⟨rfl, hb10⟩; have hc10 := bthen hc9 hb10; obtain ⟨a0, a1, a2, a3, b1, b2⟩ := FC.out _ hc10)
                | (go_at_call 17; (with_reducible refine (KFQ.out _ hc10).mono ?_); rintro e w11 ⟨rfl, hb11⟩; have hc11 := bthen hc10 hb11; obtain ⟨d0, d1, d2, d3, g1, g2⟩ := FC.out _ hc11)
                | (go_at_call 16; (with_reducible refine (KRU.out _ hc8).mono ?_); rintro e w9 ⟨rfl, hb9⟩; have hc9 := bthen hc8 hb9; obtain ⟨k0, k1, k2, k3, m1, m2⟩ := FC.out _ hc9)
                | (go_at_call 15; (with_reducible refine KU.out.mono ?_); rintro e w8 ⟨rfl, hb8⟩; have hc8 := hb8; obtain ⟨i0, i1, i2, i3, j1, j2⟩ := FC.out _ hc8))
              go_roundw
              case rel => exact ⟨j + 1, T2, _, _, _, _, _, _, by omega, by go_num, by rw [show 1 + 301 * (j + 1) = 1 + 301 * j + 301 by omega]; exact HAE.out.later hc12.out, HTE.out.below hc12.out, HXE.out.later hc12.out, HB2.out⟩
              case measure => simp [intOf]; omega
      · have hlt' : ¬ (j : Int) < N := by omega
        go_wp2_with (go_at_call 10; (with_reducible refine (HAL.out _).mono ?_); rintro e w3 ⟨rfl, hb3⟩; have HB3 := Lib.hid (bthen HA.out.low hb3); clear hb3)
        go_ret
        exact ⟨rfl, HB3.out⟩
end Go.Proofs.YthgbncpiehcghaaGreatDoor
