/- THE WALK OF THE LAW ArchLays. -/
import Derived.Test.YtjofdgjcbjdhbaaGreatDoorGa5
import Derived.Deep.RegionHeld3
namespace Go.Proofs.YtjofdgjcbjdhbaaGreatDoor
open Go Go.RowKit
set_option maxHeartbeats 16000000
set_option maxRecDepth 100000
set_option linter.unusedVariables false
theorem ob_reads {w : World} {base : Nat} {e : TypeId} {v : Value} {xs : List Int} (h : OB w base e v xs) : ∃ A c, v = .slice A xs.length c ∧ RB w w.heap.size A xs.length xs ∧ xs.length ≤ c ∧ c ≤ maxLen := by
  obtain ⟨A, c, e1, h1, h2, h3⟩ := h.rb
  exact ⟨A, c, e1, h1, h2, h3⟩
/-- The members, laid anew. -/
theorem all_reads9 (B : Option Addr) (nl cl : Nat) (its : List It) (w : World) (hl : ML w w.heap.size B nl its) (hn : nl ≤ 100000) :
    Calls Tryz.prog 10 #[.slice B nl cl] w fun e w' => ∃ A c, e = .returned (.slice A nl c) ∧ ML w' w'.heap.size A nl its ∧ nl ≤ c ∧ c ≤ maxLen ∧ Below w.heap.size w w' :=
  (all_any9 B nl cl its w hl hn).mono fun e w' ⟨v, h1, h2, h3⟩ => by
    obtain ⟨A, c, e1, h4, h5, h6⟩ := h2.mlv
    rw [hl.len] at e1 h4 h5
    exact ⟨A, c, by rw [h1, e1], h4, h5, h6, h3⟩
theorem aLay_reads9 (q : ByteArray → Nat) (hq : ∀ p, Sf.IsCut p (q p)) (A : Option Addr) (nl c : Nat) (its : List It) (W : World) (tb : Tab W) (h : ML W W.heap.size A nl its) (hn : nl ≤ 100000) (hs : ∀ x ∈ its, x.p.size ≤ 1000 ∧ x.l.size ≤ 1000 ∧ x.n ≤ 100000) :
    Calls Tryz.prog 9 #[.slice A nl c] W fun e w' => ∃ A2 c2, e = .returned (.tuple #[.slice A2 (Ar.bytes q (its.map It.mem)).length c2, .int .i64 (Ar.Err (its.map It.mem))]) ∧ RB w' w'.heap.size A2 (Ar.bytes q (its.map It.mem)).length (Ar.bytes q (its.map It.mem)) ∧ (Ar.bytes q (its.map It.mem)).length ≤ c2 ∧ c2 ≤ maxLen ∧ Below W.heap.size W w' :=
  (aLay_any9 q hq A nl c its W tb h hn hs).mono fun e w' ⟨v, h1, h2, h3⟩ => by
    obtain ⟨A2, c2, rfl, k1, k2, k3⟩ := ob_reads h2
    exact ⟨A2, c2, h1, k1, k2, k3, h3⟩
theorem reflay_reads9 (q : ByteArray → Nat) (hq : ∀ p, Sf.IsCut p (q p)) (A : Option Addr) (nl c : Nat) (its : List It) (W : World) (h : ML W W.heap.size A nl its) (hn : nl ≤ 100000) (hs : ∀ x ∈ its, x.p.size ≤ 1000 ∧ x.l.size ≤ 1000 ∧ x.n ≤ 100000) (hk : ∀ x ∈ its, -9223372036854775808 ≤ x.k ∧ x.k ≤ 9223372036854775807) :
    Calls Tryz.prog 11 #[.slice A nl c] W fun e w' => ∃ A2 c2 A3 c3, e = .returned (.tuple #[.slice A2 (Ar.bytes q (its.map It.mem)).length c2, .slice A3 (Ar.endsL q (its.map It.mem)).length c3, .int .i64 (Ar.Err (its.map It.mem))]) ∧ RB w' w'.heap.size A2 (Ar.bytes q (its.map It.mem)).length (Ar.bytes q (its.map It.mem)) ∧ NR w' w'.heap.size A3 (Ar.endsL q (its.map It.mem)).length (Ar.endsL q (its.map It.mem)) ∧ Below W.heap.size W w' :=
  (reflay_any9 q hq A nl c its W h hn hs hk).mono fun e w' ⟨v, v2, h1, h2, h4, h3⟩ => by
    obtain ⟨A2, c2, rfl, k1, _, _⟩ := ob_reads h2
    obtain ⟨A3, c3, rfl, k2, _, _⟩ := owns_nr h4
    exact ⟨A2, c2, A3, c3, h1, k1, k2, h3⟩
theorem aEnds_reads9 (q : ByteArray → Nat) (hq : ∀ p, Sf.IsCut p (q p)) (A : Option Addr) (nl c : Nat) (its : List It) (W : World) (tb : Tab W) (h : ML W W.heap.size A nl its) (hn : nl ≤ 100000) (hs : ∀ x ∈ its, x.p.size ≤ 1000 ∧ x.l.size ≤ 1000 ∧ x.n ≤ 100000) :
    Calls Tryz.prog 12 #[.slice A nl c] W fun e w' => ∃ A3 c3, e = .returned (.slice A3 (Ar.endsL q (its.map It.mem)).length c3) ∧ NR w' w'.heap.size A3 (Ar.endsL q (its.map It.mem)).length (Ar.endsL q (its.map It.mem)) ∧ Below W.heap.size W w' :=
  (aEnds_any9 q hq A nl c its W tb h hn hs).mono fun e w' ⟨v, h1, h4, h3⟩ => by
    obtain ⟨A3, c3, rfl, k2, _, _⟩ := owns_nr h4
    exact ⟨A3, c3, h1, k2, h3⟩
theorem same_true9 (A1 A2 : Option Addr) (n c1 c2 : Nat) (Y : List Int) (W : World) (hn : n ≤ 1000000) (h1 : RB W W.heap.size A1 n Y) (h2 : RB W W.heap.size A2 n Y) :
    Calls Tryz.prog 13 #[.slice A1 n c1, .slice A2 n c2] W fun e w' => e = .returned (.bool true) ∧ Below W.heap.size W w' :=
  (same_any A1 A2 n n c1 c2 Y Y W h1 h2 hn hn).mono fun e w' h => ⟨by rw [h.1]; simp, h.2⟩
theorem endsL_len9 (q : ByteArray → Nat) (ms : List Ar.Mem) : (Ar.endsL q ms).length ≤ ms.length := by
  unfold Ar.endsL
  split
  · rw [Ar.ends_len]; exact Nat.le_refl _
  · exact Nat.zero_le _
theorem lays_walk9 (B : Option Addr) (nl cl : Nat) (its : List It) (w : World) (tb : Tab w) (hl : ML w w.heap.size B nl its) (hc : nl ≤ cl) (hc2 : cl ≤ maxLen) (hy : ∀ y ∈ its, Byt y.xs ∧ y.p.size ≤ maxLen ∧ y.l.size ≤ maxLen ∧ -9223372036854775808 ≤ y.k ∧ y.k ≤ 9223372036854775807) :
    Calls Tryz.prog 3 #[.slice B nl cl] w fun e w' => e = .returned (.bool true) ∧ Below w.heap.size w w' := by
  have AL := Lib.hid (fun (W : World) (hb : Below w.heap.size w W) => alive9_any W (tb.on hb))
  have FAR := Lib.hid (far_any9 B nl cl its w hl hc hc2)
  cases hf : far9 its with
  | true =>
    rw [hf] at FAR
    clear hl hy tb hf
    go_enter Tryz.func3, Tryz.ntmps3
    go_wp2_with (first
      | (go_at_call 7; (with_reducible refine (FAR.out).mono ?_); rintro e w1 ⟨rfl, hb1⟩; have HB1 := Lib.hid hb1; clear hb1)
      | (go_at_call 8; (with_reducible refine (AL.out _ HB1.out).mono ?_); rintro e w2 ⟨rfl, hb2⟩))
    go_ret
    exact ⟨rfl, bthen HB1.out hb2⟩
  | false =>
    rw [hf] at FAR
    obtain ⟨n1, n2, n3⟩ := far9_no hf
    have hll := hl.len
    obtain ⟨q, hq, _⟩ := Ar.cuts_ex
    have hs : ∀ x ∈ its, x.p.size ≤ 1000 ∧ x.l.size ≤ 1000 ∧ x.n ≤ 100000 := fun x hx => by have := n3 x hx; omega
    obtain ⟨_, yl, _⟩ := Ar.bytes_all hq (its.map It.mem) (fun x hx => by
      obtain ⟨y, hy', rfl⟩ := List.mem_map.1 hx
      exact (hy y hy').1)
    have ALL := Lib.hid (fun (W : World) (hb : Below w.heap.size w W) => all_reads9 B nl cl its W ((hl.below hb).more hb.size) (by omega))
    have LAY := Lib.hid (fun (W : World) (hb : Below w.heap.size w W) (A : Option Addr) (c : Nat) (h : ML W W.heap.size A nl its) => aLay_reads9 q hq A nl c its W (tb.on hb) h (by omega) hs)
    have RLA := Lib.hid (fun (W : World) (hb : Below w.heap.size w W) => reflay_reads9 q hq B nl cl its W ((hl.below hb).more hb.size) (by omega) hs (fun x hx => (hy x hx).2.2.2))
    have END := Lib.hid (fun (W : World) (hb : Below w.heap.size w W) (A : Option Addr) (c : Nat) (h : ML W W.heap.size A nl its) => aEnds_reads9 q hq A nl c its W (tb.on hb) h (by omega) hs)
    have LEN := Lib.hid (fun (W : World) (hb : Below w.heap.size w W) (A : Option Addr) (c : Nat) (h : ML W W.heap.size A nl its) => aLen_any9 q hq A nl c its W (tb.on hb) h (by omega) hs)
    have SAM := Lib.hid (fun (A1 A2 : Option Addr) (c1 c2 : Nat) (W : World) => same_true9 A1 A2 (Ar.bytes q (its.map It.mem)).length c1 c2 (Ar.bytes q (its.map It.mem)) W (by omega))
    have dl : (Ar.endsL q (its.map It.mem)).length ≤ 100 := by
      have := endsL_len9 q (its.map It.mem)
      rw [List.length_map] at this
      omega
    generalize Ar.bytes q (its.map It.mem) = Y at *
    generalize Ar.endsL q (its.map It.mem) = D at *
    generalize Ar.Err (its.map It.mem) = E at *
    generalize hYL : Y.length = yn at *
    generalize hDL : D.length = dn at *
    have HHL := Lib.hid hl
    clear hYL hDL hl hy tb hf n1 n3 hs hq
    go_enter Tryz.func3, Tryz.ntmps3
    go_wp2_with (first
      | (go_at_call 7; (with_reducible refine (FAR.out).mono ?_); rintro e w1 ⟨rfl, hb1⟩; have HB1 := Lib.hid hb1; clear hb1)
      | (go_at_call 10; first
          | (with_reducible refine (ALL.out _ HB4.out).mono ?_); rintro e w5 ⟨A5, c5, rfl, hm5, _, _, hb5⟩; have HM5 := Lib.hid hm5; have HB5 := Lib.hid (bthen HB4.out hb5); have HRA5 := Lib.hid ((HRA4.out.below hb5).more hb5.size); have HRB5 := Lib.hid ((HRB4.out.below hb5).more hb5.size); have HND5 := Lib.hid ((HND4.out.below hb5).more hb5.size); clear hm5 hb5
          | (with_reducible refine (ALL.out _ HB1.out).mono ?_); rintro e w2 ⟨A2, c2, rfl, hm2, _, _, hb2⟩; have HM2 := Lib.hid hm2; have HB2 := Lib.hid (bthen HB1.out hb2); clear hm2 hb2)
      | (go_at_call 9; (with_reducible refine (LAY.out _ HB2.out _ _ HM2.out).mono ?_); rintro e w3 ⟨A3, c3, rfl, hr3, _, _, hb3⟩; have HRA3 := Lib.hid hr3; have HB3 := Lib.hid (bthen HB2.out hb3); clear hr3 hb3)
      | (go_at_call 11; (with_reducible refine (RLA.out _ HB3.out).mono ?_); rintro e w4 ⟨A4, c4, D4, d4, rfl, hr4, hn4, hb4⟩; have HRA4 := Lib.hid ((HRA3.out.below hb4).more hb4.size); have HRB4 := Lib.hid hr4; have HND4 := Lib.hid hn4; have HB4 := Lib.hid (bthen HB3.out hb4); clear hr4 hn4 hb4)
      | (go_at_call 12; (with_reducible refine (END.out _ HB5.out _ _ HM5.out).mono ?_); rintro e w6 ⟨D6, d6, rfl, hn6, hb6⟩; have HRA6 := Lib.hid ((HRA5.out.below hb6).more hb6.size); have HRB6 := Lib.hid ((HRB5.out.below hb6).more hb6.size); have HND6 := Lib.hid ((HND5.out.below hb6).more hb6.size); have HNX6 := Lib.hid hn6; have HB6 := Lib.hid (bthen HB5.out hb6); clear hn6 hb6))
    go_loopw [35] (fun i wr => ∃ j : Nat, j ≤ dn ∧ i = .int .i64 j ∧ Below w6.heap.size w6 wr) (fun i _ => dn - (intOf i).toNat)
    case atStart => exact ⟨0, by omega, rfl, Below.refl _ _⟩
    case round =>
      obtain ⟨j, hj, rfl, hb⟩ := hrel
      by_cases hlt : j < dn
      · have hlt' : (j : Int) < dn := by omega
        obtain ⟨b1, o1, rfl, _, q1⟩ := (HNX6.out.below hb).at_ hlt
        obtain ⟨b2, o2, rfl, _, q2⟩ := (HND6.out.below hb).at_ hlt
        generalize ((D.getD j 0 : Nat) : Int) = z at *
        go_upto_region 11 with (fail)
        go_quiet (fail)
        go_wp2
        go_roundw
        case rel => exact ⟨j + 1, by omega, by go_num, below_drewN hb _⟩
        case measure => simp [intOf]; omega
      · obtain rfl : j = dn := by omega
        have hlt' : ¬ (j : Int) < j := by omega
        have HBW := Lib.hid (HB6.out.trans (hb.mono HB6.out.size))
        have HRAW := Lib.hid ((HRA6.out.below hb).more hb.size)
        have HRBW := Lib.hid ((HRB6.out.below hb).more hb.size)
        have HEE : (E == E) = true := by simp
        go_wp2_with (first
          | (go_at_call 13; (with_reducible refine (SAM.out _ _ _ _ _ HRAW.out HRBW.out).mono ?_); rintro e w7 ⟨rfl, hb7⟩; have HB7 := Lib.hid (bthen HBW.out hb7); clear hb7)
          | (go_at_call 10; (with_reducible refine (ALL.out _ HB7.out).mono ?_); rintro e w8 ⟨A8, c8, rfl, hm8, _, _, hb8⟩; have HM8 := Lib.hid hm8; have HB8 := Lib.hid (bthen HB7.out hb8); clear hm8 hb8)
          | (go_at_call 14; (with_reducible refine (LEN.out _ HB8.out _ _ HM8.out).mono ?_); rintro e w9 ⟨rfl, hb9⟩; have HB9 := Lib.hid (bthen HB8.out hb9); clear hb9)
          | (go_at_call 8; (with_reducible refine (AL.out _ HB9.out).mono ?_); rintro e w10 ⟨rfl, hb10⟩; have HB10 := Lib.hid (bthen HB9.out hb10); clear hb10))
        go_ret
        exact ⟨rfl, HB10.out⟩
end Go.Proofs.YtjofdgjcbjdhbaaGreatDoor
/- THE WALK OF THE LAW ArchBack. By gen_l9b.py. -/
namespace Go.Proofs.YtjofdgjcbjdhbaaGreatDoor
open Go Go.RowKit
set_option maxHeartbeats 32000000
set_option maxRecDepth 100000
set_option linter.unusedVariables false
theorem msame_true9 (p l : ByteArray) (k m u g t : Int) (A A2 : Option Addr) (n c n2 c2 : Nat) (xs : List Int) (w : World) (ha : RB w w.heap.size A n xs) (hb : RB w w.heap.size A2 n2 xs) (hx : Byt xs) (hn : xs.length ≤ 1000000) :
    Calls Tryz.prog 16 #[.agg #[.string p, .int .i64 k, .int .i64 m, .int .i64 u, .int .i64 g, .int .i64 t, .string l, .slice A n c], .agg #[.string p, .int .i64 k, .int .i64 m, .int .i64 u, .int .i64 g, .int .i64 t, .string l, .slice A2 n2 c2]] w fun e w' => e = .returned (.bool true) ∧ Below w.heap.size w w' :=
  (msame_any p l k m u g t A n c p l k m u g t A2 n2 c2 xs xs w ha hb hx hx (by rw [← ha.1]; exact hn) (by rw [← hb.1]; exact hn)).mono fun e w' h => ⟨by rw [h.1, show sameM p l p l k m u g t k m u g t xs xs = true from by simp [sameM]], h.2⟩
theorem back_walk9 (B : Option Addr) (nl cl : Nat) (its : List It) (w : World) (tb : Tab w) (hl : ML w w.heap.size B nl its) (hc : nl ≤ cl) (hc2 : cl ≤ maxLen) (hy : ∀ y ∈ its, Byt y.xs ∧ y.p.size ≤ maxLen ∧ y.l.size ≤ maxLen ∧ -9223372036854775808 ≤ y.k ∧ y.k ≤ 9223372036854775807) :
    Calls Tryz.prog 4 #[.slice B nl cl] w fun e w' => e = .returned (.bool true) ∧ Below w.heap.size w w' := by
  have AL := Lib.hid (fun (W : World) (hb : Below w.heap.size w W) => alive9_any W (tb.on hb))
  have FAR := Lib.hid (far_any9 B nl cl its w hl hc hc2)
  cases hf : far9 its with
  | true =>
    rw [hf] at FAR
    clear hl hy tb hf
    go_enter Tryz.func4, Tryz.ntmps4
    go_wp2_with (first
      | (go_at_call 7; (with_reducible refine (FAR.out).mono ?_); rintro e w1 ⟨rfl, hb1⟩; have HB1 := Lib.hid hb1; clear hb1)
      | (go_at_call 8; (with_reducible refine (AL.out _ HB1.out).mono ?_); rintro e w2 ⟨rfl, hb2⟩))
    go_ret
    exact ⟨rfl, bthen HB1.out hb2⟩
  | false =>
    rw [hf] at FAR
    obtain ⟨n1, n2, n3⟩ := far9_no hf
    have hll := hl.len
    obtain ⟨q, hq, _⟩ := Ar.cuts_ex
    have hs : ∀ x ∈ its, x.p.size ≤ 1000 ∧ x.l.size ≤ 1000 ∧ x.n ≤ 100000 := fun x hx => by have := n3 x hx; omega
    obtain ⟨yb, yl, y0⟩ := Ar.bytes_all hq (its.map It.mem) (fun x hx => by
      obtain ⟨y, hy', rfl⟩ := List.mem_map.1 hx
      exact (hy y hy').1)
    have ALL := Lib.hid (fun (W : World) (hb : Below w.heap.size w W) => all_reads9 B nl cl its W ((hl.below hb).more hb.size) (by omega))
    have LAY := Lib.hid (fun (W : World) (hb : Below w.heap.size w W) (A : Option Addr) (c : Nat) (h : ML W W.heap.size A nl its) => aLay_reads9 q hq A nl c its W (tb.on hb) h (by omega) hs)
    have END := Lib.hid (fun (W : World) (hb : Below w.heap.size w W) (A : Option Addr) (c : Nat) (h : ML W W.heap.size A nl its) => aEnds_reads9 q hq A nl c its W (tb.on hb) h (by omega) hs)
    by_cases hE : Ar.Err (its.map It.mem) = 0
    · have hsc := Ar.scan_lay hq hE
      have hen : Ar.endsL q (its.map It.mem) = Ar.ends q 0 (its.map It.mem) := Ar.endsL_ok hE
      have hel : (Ar.ends q 0 (its.map It.mem)).length = nl := by rw [Ar.ends_len, List.length_map]; exact hll
      have SCN := Lib.hid (fun (W : World) (hb : Below w.heap.size w W) (A : Option Addr) (c : Nat) (h : RB W W.heap.size A (Ar.bytes q (its.map It.mem)).length (Ar.bytes q (its.map It.mem))) (h1 : (Ar.bytes q (its.map It.mem)).length ≤ c) (h2 : c ≤ maxLen) => scan_any9 A _ c _ W (tb.on hb) h yb h1 h2 yl)
      have h64 : nl ≤ 64 := by
        unfold Ar.Err at hE
        rw [List.length_map] at hE
        split at hE
        · cases hE
        · omega
      obtain ⟨sa, hsc⟩ := hsc
      rw [hsc] at SCN
      rw [hen, hel] at END
      rw [hE] at LAY
      have OUT := Lib.hid (fun (its2 : List It) (h : its2.map (fun x => (x.mem, x.z)) = Ar.outs q 0 (its.map It.mem)) => show its2.length = nl ∧ (∀ j x y, its2[j]? = some x → its[j]? = some y → x.mem = y.mem ∧ x.z = (Ar.ends q 0 (its.map It.mem)).getD j 0) from by
        have h1 : its2.map It.mem = its.map It.mem := by
          have := congrArg (List.map Prod.fst) h
          rw [Ar.outs_fst, List.map_map] at this
          exact this
        have h2 : its2.map It.z = Ar.ends q 0 (its.map It.mem) := by
          have := congrArg (List.map Prod.snd) h
          rw [Ar.outs_snd, List.map_map] at this
          exact this
        refine ⟨by have := congrArg List.length h1; simpa [hll] using this, fun j x y hx hy => ⟨?_, ?_⟩⟩
        · have h3 : (its2.map It.mem)[j]? = some x.mem := by rw [List.getElem?_map, hx]; rfl
          rw [h1, List.getElem?_map, hy] at h3
          exact (Option.some.inj h3).symm
        · have h3 : (its2.map It.z)[j]? = some x.z := by rw [List.getElem?_map, hx]; rfl
          rw [h2] at h3
          rw [List.getD_eq_getElem?_getD, h3]
          rfl)
      have HYY := Lib.hid (fun (j : Nat) (y : It) (h : its[j]? = some y) => And.intro (hy y (List.mem_of_getElem? h)).1 (n3 y (List.mem_of_getElem? h)).2.2)
      have HHL := Lib.hid hl
      generalize Ar.bytes q (its.map It.mem) = Y at *
      generalize Ar.ends q 0 (its.map It.mem) = D at *
      generalize hYL : Y.length = yn at *
      clear hYL hl hy tb hf n1 n3 hs hq hsc hen yb yl y0 hE
      go_enter Tryz.func4, Tryz.ntmps4
      go_wp2_with (first
        | (go_at_call 7; (with_reducible refine (FAR.out).mono ?_); rintro e w1 ⟨rfl, hb1⟩; have HB1 := Lib.hid hb1; clear hb1)
        | (go_at_call 10; first
            | (with_reducible refine (ALL.out _ HB4.out).mono ?_); rintro e w5 ⟨A5, c5, rfl, hm5, _, _, hb5⟩; have HM5 := Lib.hid hm5; have HB5 := Lib.hid (bthen HB4.out hb5); have HRA5 := Lib.hid ((HRA4.out.below hb5).more hb5.size); clear hm5 hb5
            | (with_reducible refine (ALL.out _ HB1.out).mono ?_); rintro e w2 ⟨A2, c2, rfl, hm2, _, _, hb2⟩; have HM2 := Lib.hid hm2; have HB2 := Lib.hid (bthen HB1.out hb2); clear hm2 hb2)
        | (go_at_call 9; (with_reducible refine (LAY.out _ HB2.out _ _ HM2.out).mono ?_); rintro e w3 ⟨A3, c3, rfl, hr3, hc3, hm3, hb3⟩; have HRA3 := Lib.hid hr3; have HC3 := Lib.hid hc3; have HM3 := Lib.hid hm3; have HB3 := Lib.hid (bthen HB2.out hb3); clear hr3 hc3 hm3 hb3)
        | (go_at_call 15; (with_reducible refine (SCN.out _ HB3.out _ _ HRA3.out HC3.out HM3.out).mono ?_); rintro e w4 ⟨v4, its4, rfl, hi4, ho4, hb4⟩; obtain ⟨A4, c4, rfl, hil4, _, _⟩ := hi4; obtain ⟨hlen4, hat4⟩ := OUT.out _ ho4; rw [hlen4] at hil4 ⊢; have HRA4 := Lib.hid hil4; have HAT4 := Lib.hid hat4; have HB4 := Lib.hid (bthen HB3.out hb4); clear hil4 hat4 ho4 hlen4 hb4)
        | (go_at_call 12; (with_reducible refine (END.out _ HB5.out _ _ HM5.out).mono ?_); rintro e w6 ⟨D6, d6, rfl, hn6, hb6⟩; have HRA6 := Lib.hid ((HRA5.out.below hb6).more hb6.size); have HNX6 := Lib.hid hn6; have HB6 := Lib.hid (bthen HB5.out hb6); clear hn6 hb6))
      have HHL6 := Lib.hid ((HHL.out.below HB6.out).more HB6.out.size)
      go_loopw [59] (fun i wr => ∃ j : Nat, j ≤ nl ∧ i = .int .i64 j ∧ Below w6.heap.size w6 wr) (fun i _ => nl - (intOf i).toNat)
      case atStart => exact ⟨0, by omega, rfl, Below.refl _ _⟩
      case round =>
        obtain ⟨j, hj, rfl, hb⟩ := hrel
        by_cases hlt : j < nl
        · have hlt' : (j : Int) < nl := by omega
          obtain ⟨b1, o1, p, l, k, m, u, g, t, A, n, c, xs, z, rfl, hbl1, hx1, q0, q1, q2, q3, q4, q5, q6, q7, q8, hrb, _, _⟩ := (HRA6.out.below hb).at_ hlt
          obtain ⟨b2, o2, p2, l2, k2, m2, u2, g2, t2, A2', n2', c2', xs2, z2, rfl, hbl2, hx2, r0, r1, r2, r3, r4, r5, r6, r7, hrb2, _, _⟩ := (HHL6.out.below hb).at_ hlt
          obtain ⟨b3, o3, rfl, hbl3, s0⟩ := (HNX6.out.below hb).at_ hlt
          obtain ⟨hmm, hzz⟩ := HAT4.out j _ _ hx1 hx2
          obtain ⟨hby, hbn⟩ := HYY.out j _ hx2
          have hxl2 := hrb2.1
          unfold It.mem at hmm
          simp only [Ar.Mem.mk.injEq] at hmm
          obtain ⟨rfl, rfl, rfl, rfl, rfl, rfl, rfl, rfl⟩ := hmm
          dsimp only at hzz hby hbn
          subst hzz
          have hsz := hb.size
          have SAMT := Lib.hid (fun (W : World) (h : Below wr.heap.size wr W) => msame_true9 p l k m u g t A A2' n c n2' c2' xs W ((hrb.below (h.mono hsz)).more (Nat.le_trans hsz h.size)) ((hrb2.below (h.mono hsz)).more (Nat.le_trans hsz h.size)) hby (by omega))
          have THE := Lib.hid (fun (W : World) => theirs_any9 p l k m u g t A2' n2' c2' W)
          clear hrb hrb2 hby hbn hxl2 hx1 hx2
          generalize D.getD j 0 = z at *
          go_upto_region 13 with (fail)
          have hacc : Below wr.heap.size wr wr.drew := below_drewN (Below.refl _ _) 1
          have alls : ∀ W, Below wr.heap.size wr W → W.cell? ⟨b1, o1 + j * 9, none⟩ = some (.string p) ∧ W.cell? ⟨b1, o1 + j * 9 + 1, none⟩ = some (.int .i64 k) ∧ W.cell? ⟨b1, o1 + j * 9 + 2, none⟩ = some (.int .i64 m) ∧ W.cell? ⟨b1, o1 + j * 9 + 3, none⟩ = some (.int .i64 u) ∧ W.cell? ⟨b1, o1 + j * 9 + 4, none⟩ = some (.int .i64 g) ∧ W.cell? ⟨b1, o1 + j * 9 + 5, none⟩ = some (.int .i64 t) ∧ W.cell? ⟨b1, o1 + j * 9 + 6, none⟩ = some (.string l) ∧ W.cell? ⟨b1, o1 + j * 9 + 7, none⟩ = some (.slice A n c) ∧ W.cell? ⟨b1, o1 + j * 9 + 8, none⟩ = some (.int .i64 (z : Int)) ∧ W.cell? ⟨b2, o2 + j * 8, none⟩ = some (.string p) ∧ W.cell? ⟨b2, o2 + j * 8 + 1, none⟩ = some (.int .i64 k) ∧ W.cell? ⟨b2, o2 + j * 8 + 2, none⟩ = some (.int .i64 m) ∧ W.cell? ⟨b2, o2 + j * 8 + 3, none⟩ = some (.int .i64 u) ∧ W.cell? ⟨b2, o2 + j * 8 + 4, none⟩ = some (.int .i64 g) ∧ W.cell? ⟨b2, o2 + j * 8 + 5, none⟩ = some (.int .i64 t) ∧ W.cell? ⟨b2, o2 + j * 8 + 6, none⟩ = some (.string l) ∧ W.cell? ⟨b2, o2 + j * 8 + 7, none⟩ = some (.slice A2' n2' c2') ∧ W.cell? ⟨b3, o3 + j, none⟩ = some (.int .i64 (z : Int)) := fun W hW => ⟨(hW.cell (p := ⟨b1, _, none⟩) (show b1 < wr.heap.size by omega)).trans q0, (hW.cell (p := ⟨b1, _, none⟩) (show b1 < wr.heap.size by omega)).trans q1, (hW.cell (p := ⟨b1, _, none⟩) (show b1 < wr.heap.size by omega)).trans q2, (hW.cell (p := ⟨b1, _, none⟩) (show b1 < wr.heap.size by omega)).trans q3, (hW.cell (p := ⟨b1, _, none⟩) (show b1 < wr.heap.size by omega)).trans q4, (hW.cell (p := ⟨b1, _, none⟩) (show b1 < wr.heap.size by omega)).trans q5, (hW.cell (p := ⟨b1, _, none⟩) (show b1 < wr.heap.size by omega)).trans q6, (hW.cell (p := ⟨b1, _, none⟩) (show b1 < wr.heap.size by omega)).trans q7, (hW.cell (p := ⟨b1, _, none⟩) (show b1 < wr.heap.size by omega)).trans q8, (hW.cell (p := ⟨b2, _, none⟩) (show b2 < wr.heap.size by omega)).trans r0, (hW.cell (p := ⟨b2, _, none⟩) (show b2 < wr.heap.size by omega)).trans r1, (hW.cell (p := ⟨b2, _, none⟩) (show b2 < wr.heap.size by omega)).trans r2, (hW.cell (p := ⟨b2, _, none⟩) (show b2 < wr.heap.size by omega)).trans r3, (hW.cell (p := ⟨b2, _, none⟩) (show b2 < wr.heap.size by omega)).trans r4, (hW.cell (p := ⟨b2, _, none⟩) (show b2 < wr.heap.size by omega)).trans r5, (hW.cell (p := ⟨b2, _, none⟩) (show b2 < wr.heap.size by omega)).trans r6, (hW.cell (p := ⟨b2, _, none⟩) (show b2 < wr.heap.size by omega)).trans r7, (hW.cell (p := ⟨b3, _, none⟩) (show b3 < wr.heap.size by omega)).trans s0⟩
          have ALLS := Lib.hid alls
          clear alls
          obtain ⟨y0, y1, y2, y3, y4, y5, y6, y7, y8, y9, y10, y11, y12, y13, y14, y15, y16, y17⟩ := ALLS.out _ hacc
          go_region_held3 (fun w' => w'.cell? ⟨b1, o1 + j * 9, none⟩ = some (.string p) ∧ w'.cell? ⟨b1, o1 + j * 9 + 1, none⟩ = some (.int .i64 k) ∧ w'.cell? ⟨b1, o1 + j * 9 + 2, none⟩ = some (.int .i64 m) ∧ w'.cell? ⟨b1, o1 + j * 9 + 3, none⟩ = some (.int .i64 u) ∧ w'.cell? ⟨b1, o1 + j * 9 + 4, none⟩ = some (.int .i64 g) ∧ w'.cell? ⟨b1, o1 + j * 9 + 5, none⟩ = some (.int .i64 t) ∧ w'.cell? ⟨b1, o1 + j * 9 + 6, none⟩ = some (.string l) ∧ w'.cell? ⟨b1, o1 + j * 9 + 7, none⟩ = some (.slice A n c) ∧ w'.cell? ⟨b1, o1 + j * 9 + 8, none⟩ = some (.int .i64 (z : Int)) ∧ w'.cell? ⟨b2, o2 + j * 8, none⟩ = some (.string p) ∧ w'.cell? ⟨b2, o2 + j * 8 + 1, none⟩ = some (.int .i64 k) ∧ w'.cell? ⟨b2, o2 + j * 8 + 2, none⟩ = some (.int .i64 m) ∧ w'.cell? ⟨b2, o2 + j * 8 + 3, none⟩ = some (.int .i64 u) ∧ w'.cell? ⟨b2, o2 + j * 8 + 4, none⟩ = some (.int .i64 g) ∧ w'.cell? ⟨b2, o2 + j * 8 + 5, none⟩ = some (.int .i64 t) ∧ w'.cell? ⟨b2, o2 + j * 8 + 6, none⟩ = some (.string l) ∧ w'.cell? ⟨b2, o2 + j * 8 + 7, none⟩ = some (.slice A2' n2' c2') ∧ w'.cell? ⟨b3, o3 + j, none⟩ = some (.int .i64 (z : Int))) (first | go_keep | (exact ALLS.out _ hacc)) (first
            | (go_at_call 17; (with_reducible refine (THE.out _).mono ?_); rintro e wna ⟨rfl, hbna⟩; replace hacc := hacc.trans (Below.mono hbna hacc.size))
            | (go_at_call 16; (with_reducible refine (SAMT.out _ hacc).mono ?_); rintro e wnb ⟨rfl, hbnb⟩; replace hacc := hacc.trans (Below.mono hbnb hacc.size)))
          all_goals
            go_wp2
            go_roundw
            case rel => exact ⟨j + 1, by omega, by go_num, hb.trans (hacc.mono hsz)⟩
            case measure => simp [intOf]; omega
        · obtain rfl : j = nl := by omega
          have hlt' : ¬ (j : Int) < j := by omega
          have HBW := Lib.hid (HB6.out.trans (hb.mono HB6.out.size))
          go_wp2_with (go_at_call 8; (with_reducible refine (AL.out _ HBW.out).mono ?_); rintro e w10 ⟨rfl, hb10⟩; have HB10 := Lib.hid (bthen HBW.out hb10); clear hb10)
          go_ret
          exact ⟨rfl, HB10.out⟩
    · have hE' : (Ar.Err (its.map It.mem) != 0) = true := by simpa using hE
      have hy0 := y0 hE
      have hen : Ar.endsL q (its.map It.mem) = [] := Ar.endsL_bad hE
      rw [hy0] at LAY
      rw [hen] at END
      generalize Ar.Err (its.map It.mem) = E at *
      generalize Ar.bytes q (its.map It.mem) = Y at *
      clear hl hy tb hf n1 n3 hs hq hen yb yl y0 hE hy0
      go_enter Tryz.func4, Tryz.ntmps4
      go_wp2_with (first
        | (go_at_call 7; (with_reducible refine (FAR.out).mono ?_); rintro e w1 ⟨rfl, hb1⟩; have HB1 := Lib.hid hb1; clear hb1)
        | (go_at_call 10; first
            | (with_reducible refine (ALL.out _ HB3.out).mono ?_); rintro e w5 ⟨A5, c5, rfl, hm5, _, _, hb5⟩; have HM5 := Lib.hid hm5; have HB5 := Lib.hid (bthen HB3.out hb5); clear hm5 hb5
            | (with_reducible refine (ALL.out _ HB1.out).mono ?_); rintro e w2 ⟨A2, c2, rfl, hm2, _, _, hb2⟩; have HM2 := Lib.hid hm2; have HB2 := Lib.hid (bthen HB1.out hb2); clear hm2 hb2)
        | (go_at_call 9; (with_reducible refine (LAY.out _ HB2.out _ _ HM2.out).mono ?_); rintro e w3 ⟨A3, c3, rfl, hr3, hc3, hm3, hb3⟩; have HB3 := Lib.hid (bthen HB2.out hb3); clear hr3 hc3 hm3 hb3)
        | (go_at_call 12; (with_reducible refine (END.out _ HB5.out _ _ HM5.out).mono ?_); rintro e w6 ⟨D6, d6, rfl, hn6, hb6⟩; have HB6 := Lib.hid (bthen HB5.out hb6); clear hn6 hb6)
        | (go_at_call 8; (with_reducible refine (AL.out _ HB6.out).mono ?_); rintro e w10 ⟨rfl, hb10⟩; have HB10 := Lib.hid (bthen HB6.out hb10); clear hb10))
      go_ret
      exact ⟨rfl, HB10.out⟩
end Go.Proofs.YtjofdgjcbjdhbaaGreatDoor
/- THE WALK OF THE LAW ArchAnew. By gen_l9b.py. -/
namespace Go.Proofs.YtjofdgjcbjdhbaaGreatDoor
open Go Go.RowKit
set_option maxHeartbeats 32000000
set_option maxRecDepth 100000
set_option linter.unusedVariables false
theorem outs_get {its its2 : List It} {o o2 v : List (Ar.Mem × Nat)} (h1 : its.map (fun x => (x.mem, x.z)) = o) (h2 : its2.map (fun x => (x.mem, x.z)) = o2) (hv : o = o2 ++ v) : its2.length ≤ its.length ∧ ∀ (j : Nat) (x y : It), its[j]? = some x → its2[j]? = some y → x.mem = y.mem ∧ x.z = y.z := by
  subst h1
  subst h2
  refine ⟨by have := congrArg List.length hv; simp at this; omega, fun j x y hx hy => ?_⟩
  have h3 : (its.map (fun x => (x.mem, x.z)))[j]? = some (x.mem, x.z) := by rw [List.getElem?_map, hx]; rfl
  have hj := (List.getElem?_eq_some_iff.1 hy).1
  rw [hv, List.getElem?_append_left (by simpa using hj), List.getElem?_map, hy] at h3
  have h4 : (y.mem, y.z) = (x.mem, x.z) := Option.some.inj h3
  exact ⟨(congrArg Prod.fst h4).symm, (congrArg Prod.snd h4).symm⟩
theorem mems_get {its its2 : List It} {ms : List Ar.Mem} (h1 : its.map It.mem = ms) (h2 : its2.map It.mem = ms) : its2.length = its.length ∧ ∀ (j : Nat) (x y : It), its[j]? = some x → its2[j]? = some y → x.mem = y.mem := by
  subst h1
  refine ⟨by have := congrArg List.length h2; simpa using this, fun j x y hx hy => ?_⟩
  have h3 : (its2.map It.mem)[j]? = some y.mem := by rw [List.getElem?_map, hy]; rfl
  rw [h2, List.getElem?_map, hx] at h3
  exact Option.some.inj h3
theorem mem_in {its : List It} {ms : List Ar.Mem} (h : its.map It.mem = ms) {j : Nat} {x : It} (hx : its[j]? = some x) : x.mem ∈ ms := by
  subst h
  exact List.mem_map.2 ⟨x, List.mem_of_getElem? hx, rfl⟩
theorem item_in {its : List It} {o : List (Ar.Mem × Nat)} (h : its.map (fun x => (x.mem, x.z)) = o) {j : Nat} {x : It} (hx : its[j]? = some x) : x.mem ∈ o.map Prod.fst := by
  subst h
  rw [List.map_map]
  exact List.mem_map.2 ⟨x, List.mem_of_getElem? hx, rfl⟩
theorem anew_walk9 (A : Option Addr) (n c : Nat) (xs : List Int) (at_ : Int) (w : World) (tb : Tab w) (hd : RB w w.heap.size A n xs) (hx : Byt xs) (hc : n ≤ c) (hc2 : c ≤ maxLen) (a0 : 0 ≤ at_) (a1 : at_ ≤ 65535) :
    Calls Tryz.prog 5 #[.slice A n c, .int .u16 at_] w fun e w' => e = .returned (.bool true) ∧ Below w.heap.size w w' := by
  have AL := Lib.hid (fun (W : World) (hb : Below w.heap.size w W) => alive9_any W (tb.on hb))
  by_cases hn : 30000 < n
  · have hn' : (30000 : Int) < n := by omega
    clear hd hx tb
    go_enter Tryz.func5, Tryz.ntmps5
    go_wp2_with (go_at_call 8; (with_reducible refine (AL.out _ (Below.refl _ _)).mono ?_); rintro e w2 ⟨rfl, hb2⟩)
    go_ret
    exact ⟨rfl, hb2⟩
  · have hn' : ¬ (30000 : Int) < n := by omega
    obtain ⟨q, hq, _⟩ := Ar.cuts_ex
    have hxl := hd.1
    have PAR := Lib.hid (parse_any9 A n c xs w tb hd hx hc hc2 (by omega))
    have SCN := Lib.hid (fun (W : World) (hb : Below w.heap.size w W) => scan_any9 A n c xs W (tb.on hb) ((hd.below hb).more hb.size) hx hc hc2 (by omega))
    have hmem := fun (x : Ar.Mem) (h : x ∈ (Ar.scan xs).1.out.map Prod.fst) => Ar.scan_mem hx h
    have hfew := Ar.scan_few xs
    obtain ⟨kk, hkk⟩ : ∃ kk : Nat, at_.tmod ((n : Int) + 1) = (kk : Int) := ⟨(at_ % ((n : Int) + 1)).toNat, by rw [Int.tmod_eq_emod_of_nonneg a0, Int.toNat_of_nonneg (Int.emod_nonneg _ (by omega))]⟩
    have hkn : kk ≤ n := by
      have h1 := Int.emod_lt_of_pos at_ (show (0 : Int) < (n : Int) + 1 by omega)
      rw [Int.tmod_eq_emod_of_nonneg a0] at hkk
      omega
    have hcut : RB w w.heap.size A kk (xs.take kk) := by
      refine ⟨by rw [List.length_take]; omega, fun h0 => ?_⟩
      obtain ⟨b, o, rfl, _, _⟩ := hd.2 (by omega)
      exact (hd.front hkn).2 h0
    have SCK := Lib.hid (fun (W : World) (hb : Below w.heap.size w W) => scan_any9 A kk c (xs.take kk) W (tb.on hb) ((hcut.below hb).more hb.size) (byt_take9 hx _) (by omega) hc2 (by omega))
    obtain ⟨vv, hvv⟩ := Ar.scan_begin xs kk Ar.s0
    have hvv' : (Ar.scan xs).1.out = (Ar.scan (xs.take kk)).1.out ++ vv := hvv
    have HVV := Lib.hid hvv'
    have HMEM := Lib.hid hmem
    have hnz : ((n : Int) + 1 == 0) = false := by simp; omega
    have hnz2 : ¬ (n : Int) + 1 = 0 := by omega
    have herr := Ar.scan_err xs
    have few4 : (Ar.scan (xs.take kk)).1.out.length ≤ 64 := Ar.scan_few _
    have BYT9 := Lib.hid (fun l h => (Ar.bytes_all hq l h))
    have LAY9 := Lib.hid (fun (its : List It) (A1 : Option Addr) (c1 : Nat) (W : World) (hb : Below w.heap.size w W) (h : ML W W.heap.size A1 its.length its) (h64 : its.length ≤ 100000) hs => aLay_reads9 q hq A1 its.length c1 its W (tb.on hb) h h64 hs)
    have PAR9 := Lib.hid (fun (A1 : Option Addr) (n1 c1 : Nat) (Y : List Int) (W : World) (hb : Below w.heap.size w W) (hr : RB W W.heap.size A1 n1 Y) (hby : Byt Y) (h1 : n1 ≤ c1) (h2 : c1 ≤ maxLen) (h3 : n1 ≤ 400000) => parse_any9 A1 n1 c1 Y W (tb.on hb) hr hby h1 h2 h3)
    have SCL := Lib.hid (fun l (h : Ar.Err l = 0) => Ar.scan_lay hq h)
    generalize Ar.scan (xs.take kk) = S4 at *
    generalize Ar.scan xs = SC at *
    obtain ⟨S, E⟩ := SC
    obtain ⟨S4, E4⟩ := S4
    dsimp only at *
    generalize S.out = O at *
    generalize S4.out = O4 at *
    clear hd hx tb hcut hvv hvv' hmem hxl
    by_cases hE : E = 0
    · subst hE
      rw [if_pos rfl] at PAR
      go_enter Tryz.func5, Tryz.ntmps5
      go_wp2_with (go_at_call 18; (with_reducible refine (PAR.out).mono ?_); rintro e w1 ⟨v1, its1, rfl, hv1, hm1, hb1⟩; obtain ⟨A1, c1, rfl, hl1, _, _⟩ := hv1; have hlen1 : its1.length ≤ 64 := (by have := congrArg List.length hm1; simp at this; omega); have LAYX := Lib.hid (LAY9.out its1 A1 c1 w1 hb1 hl1 (by omega) (fun x hx => (by have h9 := HMEM.out x.mem (by rw [← hm1]; exact List.mem_map.2 ⟨x, hx, rfl⟩); have h8 := (hl1.2 x hx).1.1; exact ⟨h9.2.1, h9.2.2.1, by rw [← h8]; exact h9.2.2.2⟩))); have HM1 := Lib.hid hm1; have HL1 := Lib.hid hl1; have HB1 := Lib.hid hb1; clear hm1 hl1 hb1)
      have herr1 := herr
      rw [← HM1.out] at herr1
      obtain ⟨yb, yl, _⟩ := BYT9.out (its1.map It.mem) (fun x hx => by rw [HM1.out] at hx; exact (HMEM.out x hx).1)
      obtain ⟨sa, hsl⟩ := SCL.out (its1.map It.mem) herr1
      have PARX := Lib.hid (fun (A1 : Option Addr) (c1 : Nat) (W : World) (hb : Below w.heap.size w W) (hr : RB W W.heap.size A1 (Ar.bytes q (its1.map It.mem)).length (Ar.bytes q (its1.map It.mem))) (h1 : (Ar.bytes q (its1.map It.mem)).length ≤ c1) (h2 : c1 ≤ maxLen) => PAR9.out A1 _ c1 _ W hb hr yb h1 h2 yl)
      rw [hsl, if_pos rfl] at PARX
      dsimp only at PARX
      rw [Ar.outs_fst] at PARX
      rw [herr1] at LAYX
      generalize Ar.bytes q (its1.map It.mem) = Y at *
      generalize hYL : Y.length = yn at *
      clear hYL yb yl hsl herr1
      obtain ⟨n1, hn1⟩ : ∃ n1, n1 = its1.length := ⟨_, rfl⟩
      have HN1 := Lib.hid hn1
      rw [← hn1] at hlen1 HL1 LAYX ⊢
      clear hn1
      go_wp2_with (first
        | (go_at_call 9; (with_reducible refine (LAYX.out).mono ?_); rintro e w2 ⟨A2, c2, rfl, hr2, hc2', hm2, hb2⟩; have HR2 := Lib.hid hr2; have HC2 := Lib.hid hc2'; have HM2 := Lib.hid hm2; have HB2 := Lib.hid (bthen HB1.out hb2); have HL2 := Lib.hid ((HL1.out.below hb2).more hb2.size); clear hr2 hc2' hm2 hb2)
        | (go_at_call 18; (with_reducible refine (PARX.out _ _ _ HB2.out HR2.out HC2.out HM2.out).mono ?_); rintro e w3 ⟨v3, its3, rfl, hv3, hm3, hb3⟩; obtain ⟨A3, c3, rfl, hl3, _, _⟩ := hv3; obtain ⟨hle3, hge3⟩ := mems_get (rfl : its1.map It.mem = its1.map It.mem) hm3; rw [hle3, ← HN1.out] at hl3 ⊢; have HR3 := Lib.hid hl3; have HG3 := Lib.hid hge3; have HB3 := Lib.hid (bthen HB2.out hb3); have HL3 := Lib.hid ((HL2.out.below hb3).more hb3.size); clear hl3 hge3 hm3 hle3 hb3))
      go_loopw [53] (fun i wr => ∃ j : Nat, j ≤ n1 ∧ i = .int .i64 j ∧ Below w3.heap.size w3 wr) (fun i _ => n1 - (intOf i).toNat)
      case atStart => exact ⟨0, by omega, rfl, Below.refl _ _⟩
      case round =>
        obtain ⟨j, hj, rfl, hb⟩ := hrel
        by_cases hlt : j < n1
        · have hlt' : (j : Int) < n1 := by omega
          obtain ⟨b1, o1, p, l, k, m, u, g, t, A', n', c', xs', z, rfl, hbl1, hx1, q0, q1, q2, q3, q4, q5, q6, q7, hrb, _, _⟩ := (HR3.out.below hb).at_ hlt
          obtain ⟨b2, o2, p2, l2, k2, m2, u2, g2, t2, A2', n2', c2', xs2, z2, rfl, hbl2, hx2, r0, r1, r2, r3, r4, r5, r6, r7, hrb2, _, _⟩ := (HL3.out.below hb).at_ hlt
          have hmm := HG3.out j _ _ hx2 hx1
          have hin := HMEM.out _ (mem_in HM1.out hx2)
          unfold It.mem at hmm hin
          simp only [Ar.Mem.mk.injEq] at hmm
          obtain ⟨rfl, rfl, rfl, rfl, rfl, rfl, rfl, rfl⟩ := hmm
          dsimp only at hin
          obtain ⟨hby, _, _, hbn⟩ := hin
          have hsz := hb.size
          have SAMT := Lib.hid (fun (W : World) (h : Below wr.heap.size wr W) => msame_true9 p2 l2 k2 m2 u2 g2 t2 A' A2' n' c' n2' c2' xs2 W ((hrb.below (h.mono hsz)).more (Nat.le_trans hsz h.size)) ((hrb2.below (h.mono hsz)).more (Nat.le_trans hsz h.size)) hby (by omega))
          clear hrb hrb2 hby hbn hx1 hx2
          go_upto_region 12 with (fail)
          have hacc : Below wr.heap.size wr wr.drew := below_drewN (Below.refl _ _) 1
          have alls : ∀ W, Below wr.heap.size wr W → W.cell? ⟨b1, o1 + j * 8, none⟩ = some (.string p2) ∧ W.cell? ⟨b1, o1 + j * 8 + 1, none⟩ = some (.int .i64 k2) ∧ W.cell? ⟨b1, o1 + j * 8 + 2, none⟩ = some (.int .i64 m2) ∧ W.cell? ⟨b1, o1 + j * 8 + 3, none⟩ = some (.int .i64 u2) ∧ W.cell? ⟨b1, o1 + j * 8 + 4, none⟩ = some (.int .i64 g2) ∧ W.cell? ⟨b1, o1 + j * 8 + 5, none⟩ = some (.int .i64 t2) ∧ W.cell? ⟨b1, o1 + j * 8 + 6, none⟩ = some (.string l2) ∧ W.cell? ⟨b1, o1 + j * 8 + 7, none⟩ = some (.slice A' n' c') ∧ W.cell? ⟨b2, o2 + j * 8, none⟩ = some (.string p2) ∧ W.cell? ⟨b2, o2 + j * 8 + 1, none⟩ = some (.int .i64 k2) ∧ W.cell? ⟨b2, o2 + j * 8 + 2, none⟩ = some (.int .i64 m2) ∧ W.cell? ⟨b2, o2 + j * 8 + 3, none⟩ = some (.int .i64 u2) ∧ W.cell? ⟨b2, o2 + j * 8 + 4, none⟩ = some (.int .i64 g2) ∧ W.cell? ⟨b2, o2 + j * 8 + 5, none⟩ = some (.int .i64 t2) ∧ W.cell? ⟨b2, o2 + j * 8 + 6, none⟩ = some (.string l2) ∧ W.cell? ⟨b2, o2 + j * 8 + 7, none⟩ = some (.slice A2' n2' c2') := fun W hW => ⟨(hW.cell (p := ⟨b1, _, none⟩) (show b1 < wr.heap.size by omega)).trans q0, (hW.cell (p := ⟨b1, _, none⟩) (show b1 < wr.heap.size by omega)).trans q1, (hW.cell (p := ⟨b1, _, none⟩) (show b1 < wr.heap.size by omega)).trans q2, (hW.cell (p := ⟨b1, _, none⟩) (show b1 < wr.heap.size by omega)).trans q3, (hW.cell (p := ⟨b1, _, none⟩) (show b1 < wr.heap.size by omega)).trans q4, (hW.cell (p := ⟨b1, _, none⟩) (show b1 < wr.heap.size by omega)).trans q5, (hW.cell (p := ⟨b1, _, none⟩) (show b1 < wr.heap.size by omega)).trans q6, (hW.cell (p := ⟨b1, _, none⟩) (show b1 < wr.heap.size by omega)).trans q7, (hW.cell (p := ⟨b2, _, none⟩) (show b2 < wr.heap.size by omega)).trans r0, (hW.cell (p := ⟨b2, _, none⟩) (show b2 < wr.heap.size by omega)).trans r1, (hW.cell (p := ⟨b2, _, none⟩) (show b2 < wr.heap.size by omega)).trans r2, (hW.cell (p := ⟨b2, _, none⟩) (show b2 < wr.heap.size by omega)).trans r3, (hW.cell (p := ⟨b2, _, none⟩) (show b2 < wr.heap.size by omega)).trans r4, (hW.cell (p := ⟨b2, _, none⟩) (show b2 < wr.heap.size by omega)).trans r5, (hW.cell (p := ⟨b2, _, none⟩) (show b2 < wr.heap.size by omega)).trans r6, (hW.cell (p := ⟨b2, _, none⟩) (show b2 < wr.heap.size by omega)).trans r7⟩
          have ALLS := Lib.hid alls
          clear alls
          obtain ⟨y0, y1, y2, y3, y4, y5, y6, y7, y8, y9, y10, y11, y12, y13, y14, y15⟩ := ALLS.out _ hacc
          go_region_held3 (fun w' => w'.cell? ⟨b1, o1 + j * 8, none⟩ = some (.string p2) ∧ w'.cell? ⟨b1, o1 + j * 8 + 1, none⟩ = some (.int .i64 k2) ∧ w'.cell? ⟨b1, o1 + j * 8 + 2, none⟩ = some (.int .i64 m2) ∧ w'.cell? ⟨b1, o1 + j * 8 + 3, none⟩ = some (.int .i64 u2) ∧ w'.cell? ⟨b1, o1 + j * 8 + 4, none⟩ = some (.int .i64 g2) ∧ w'.cell? ⟨b1, o1 + j * 8 + 5, none⟩ = some (.int .i64 t2) ∧ w'.cell? ⟨b1, o1 + j * 8 + 6, none⟩ = some (.string l2) ∧ w'.cell? ⟨b1, o1 + j * 8 + 7, none⟩ = some (.slice A' n' c') ∧ w'.cell? ⟨b2, o2 + j * 8, none⟩ = some (.string p2) ∧ w'.cell? ⟨b2, o2 + j * 8 + 1, none⟩ = some (.int .i64 k2) ∧ w'.cell? ⟨b2, o2 + j * 8 + 2, none⟩ = some (.int .i64 m2) ∧ w'.cell? ⟨b2, o2 + j * 8 + 3, none⟩ = some (.int .i64 u2) ∧ w'.cell? ⟨b2, o2 + j * 8 + 4, none⟩ = some (.int .i64 g2) ∧ w'.cell? ⟨b2, o2 + j * 8 + 5, none⟩ = some (.int .i64 t2) ∧ w'.cell? ⟨b2, o2 + j * 8 + 6, none⟩ = some (.string l2) ∧ w'.cell? ⟨b2, o2 + j * 8 + 7, none⟩ = some (.slice A2' n2' c2')) (first | go_keep | (exact ALLS.out _ hacc)) (first
            | (go_at_call 16; (with_reducible refine (SAMT.out _ hacc).mono ?_); rintro e wnb ⟨rfl, hbnb⟩; replace hacc := hacc.trans (Below.mono hbnb hacc.size)))
          all_goals
            go_wp2
            go_roundw
            case rel => exact ⟨j + 1, by omega, by go_num, hb.trans (hacc.mono hsz)⟩
            case measure => simp [intOf]; omega
        · obtain rfl : j = n1 := by omega
          have hlt' : ¬ (j : Int) < j := by omega
          have HBP := Lib.hid (HB3.out.trans (hb.mono HB3.out.size))
          go_wp2_with (first
            | (go_at_call 15; first
                | (with_reducible refine (SCK.out _ HB5.out).mono ?_); rintro e w6 ⟨v6, its6, rfl, hi6, ho6, hb6⟩; obtain ⟨A6, c6, rfl, hil6, _, _⟩ := hi6; obtain ⟨hle6, hge6⟩ := outs_get HO5.out ho6 HVV.out; have hle6' : ¬ (its5.length : Int) < its6.length := (by omega); have hfew6 : its6.length ≤ 64 := (by have := congrArg List.length ho6; simp at this; omega); have HG6 := Lib.hid hge6; have HI6 := Lib.hid hil6; have HB6 := Lib.hid (bthen HB5.out hb6); have HI5 := Lib.hid ((HIL5.out.below hb6).more hb6.size); clear hil6 hge6 ho6 hb6
                | (with_reducible refine (SCN.out _ HBP.out).mono ?_); rintro e w5 ⟨v5, its5, rfl, hi5, ho5, hb5⟩; obtain ⟨A5, c5, rfl, hil5, _, _⟩ := hi5; have HO5 := Lib.hid ho5; have HIL5 := Lib.hid hil5; have HB5 := Lib.hid (bthen HBP.out hb5); clear hil5 ho5 hb5))
          obtain ⟨n6, hn6⟩ : ∃ n6, n6 = its6.length := ⟨_, rfl⟩
          rw [← hn6] at hfew6 hle6 hle6' HI6 ⊢
          clear hn6
          go_loopw [91] (fun i wr => ∃ j : Nat, j ≤ n6 ∧ i = .int .i64 j ∧ Below w6.heap.size w6 wr) (fun i _ => n6 - (intOf i).toNat)
          case atStart => exact ⟨0, by omega, rfl, Below.refl _ _⟩
          case round =>
            obtain ⟨j, hj, rfl, hb⟩ := hrel
            by_cases hlt : j < n6
            · have hlt' : (j : Int) < n6 := by omega
              obtain ⟨b1, o1, p, l, k, m, u, g, t, A', n', c', xs', z, rfl, hbl1, hx1, q0, q1, q2, q3, q4, q5, q6, q7, q8, hrb, _, _⟩ := (HI6.out.below hb).at_ hlt
              obtain ⟨b2, o2, p2, l2, k2, m2, u2, g2, t2, A2', n2', c2', xs2, z2, rfl, hbl2, hx2, r0, r1, r2, r3, r4, r5, r6, r7, r8, hrb2, _, _⟩ := (HI5.out.below hb).at_ (show j < its5.length by omega)
              obtain ⟨hmm, hzz⟩ := HG6.out j _ _ hx2 hx1
              have hin := HMEM.out _ (item_in HO5.out hx2)
              unfold It.mem at hmm hin
              simp only [Ar.Mem.mk.injEq] at hmm
              obtain ⟨rfl, rfl, rfl, rfl, rfl, rfl, rfl, rfl⟩ := hmm
              dsimp only at hin hzz
              subst hzz
              obtain ⟨hby, _, _, hbn⟩ := hin
              have hsz := hb.size
              have hj5 : (j : Int) < its5.length := by omega
              have SAMT := Lib.hid (fun (W : World) (h : Below wr.heap.size wr W) => msame_true9 p2 l2 k2 m2 u2 g2 t2 A' A2' n' c' n2' c2' xs2 W ((hrb.below (h.mono hsz)).more (Nat.le_trans hsz h.size)) ((hrb2.below (h.mono hsz)).more (Nat.le_trans hsz h.size)) hby (by omega))
              clear hrb hrb2 hby hbn hx1 hx2
              go_upto_region 22 with (fail)
              have hacc : Below wr.heap.size wr wr.drew := below_drewN (Below.refl _ _) 1
              have alls : ∀ W, Below wr.heap.size wr W → W.cell? ⟨b1, o1 + j * 9, none⟩ = some (.string p2) ∧ W.cell? ⟨b1, o1 + j * 9 + 1, none⟩ = some (.int .i64 k2) ∧ W.cell? ⟨b1, o1 + j * 9 + 2, none⟩ = some (.int .i64 m2) ∧ W.cell? ⟨b1, o1 + j * 9 + 3, none⟩ = some (.int .i64 u2) ∧ W.cell? ⟨b1, o1 + j * 9 + 4, none⟩ = some (.int .i64 g2) ∧ W.cell? ⟨b1, o1 + j * 9 + 5, none⟩ = some (.int .i64 t2) ∧ W.cell? ⟨b1, o1 + j * 9 + 6, none⟩ = some (.string l2) ∧ W.cell? ⟨b1, o1 + j * 9 + 7, none⟩ = some (.slice A' n' c') ∧ W.cell? ⟨b1, o1 + j * 9 + 8, none⟩ = some (.int .i64 (z2 : Int)) ∧ W.cell? ⟨b2, o2 + j * 9, none⟩ = some (.string p2) ∧ W.cell? ⟨b2, o2 + j * 9 + 1, none⟩ = some (.int .i64 k2) ∧ W.cell? ⟨b2, o2 + j * 9 + 2, none⟩ = some (.int .i64 m2) ∧ W.cell? ⟨b2, o2 + j * 9 + 3, none⟩ = some (.int .i64 u2) ∧ W.cell? ⟨b2, o2 + j * 9 + 4, none⟩ = some (.int .i64 g2) ∧ W.cell? ⟨b2, o2 + j * 9 + 5, none⟩ = some (.int .i64 t2) ∧ W.cell? ⟨b2, o2 + j * 9 + 6, none⟩ = some (.string l2) ∧ W.cell? ⟨b2, o2 + j * 9 + 7, none⟩ = some (.slice A2' n2' c2') ∧ W.cell? ⟨b2, o2 + j * 9 + 8, none⟩ = some (.int .i64 (z2 : Int)) := fun W hW => ⟨(hW.cell (p := ⟨b1, _, none⟩) (show b1 < wr.heap.size by omega)).trans q0, (hW.cell (p := ⟨b1, _, none⟩) (show b1 < wr.heap.size by omega)).trans q1, (hW.cell (p := ⟨b1, _, none⟩) (show b1 < wr.heap.size by omega)).trans q2, (hW.cell (p := ⟨b1, _, none⟩) (show b1 < wr.heap.size by omega)).trans q3, (hW.cell (p := ⟨b1, _, none⟩) (show b1 < wr.heap.size by omega)).trans q4, (hW.cell (p := ⟨b1, _, none⟩) (show b1 < wr.heap.size by omega)).trans q5, (hW.cell (p := ⟨b1, _, none⟩) (show b1 < wr.heap.size by omega)).trans q6, (hW.cell (p := ⟨b1, _, none⟩) (show b1 < wr.heap.size by omega)).trans q7, (hW.cell (p := ⟨b1, _, none⟩) (show b1 < wr.heap.size by omega)).trans q8, (hW.cell (p := ⟨b2, _, none⟩) (show b2 < wr.heap.size by omega)).trans r0, (hW.cell (p := ⟨b2, _, none⟩) (show b2 < wr.heap.size by omega)).trans r1, (hW.cell (p := ⟨b2, _, none⟩) (show b2 < wr.heap.size by omega)).trans r2, (hW.cell (p := ⟨b2, _, none⟩) (show b2 < wr.heap.size by omega)).trans r3, (hW.cell (p := ⟨b2, _, none⟩) (show b2 < wr.heap.size by omega)).trans r4, (hW.cell (p := ⟨b2, _, none⟩) (show b2 < wr.heap.size by omega)).trans r5, (hW.cell (p := ⟨b2, _, none⟩) (show b2 < wr.heap.size by omega)).trans r6, (hW.cell (p := ⟨b2, _, none⟩) (show b2 < wr.heap.size by omega)).trans r7, (hW.cell (p := ⟨b2, _, none⟩) (show b2 < wr.heap.size by omega)).trans r8⟩
              have ALLS := Lib.hid alls
              clear alls
              obtain ⟨y0, y1, y2, y3, y4, y5, y6, y7, y8, y9, y10, y11, y12, y13, y14, y15, y16, y17⟩ := ALLS.out _ hacc
              go_region_held3 (fun w' => w'.cell? ⟨b1, o1 + j * 9, none⟩ = some (.string p2) ∧ w'.cell? ⟨b1, o1 + j * 9 + 1, none⟩ = some (.int .i64 k2) ∧ w'.cell? ⟨b1, o1 + j * 9 + 2, none⟩ = some (.int .i64 m2) ∧ w'.cell? ⟨b1, o1 + j * 9 + 3, none⟩ = some (.int .i64 u2) ∧ w'.cell? ⟨b1, o1 + j * 9 + 4, none⟩ = some (.int .i64 g2) ∧ w'.cell? ⟨b1, o1 + j * 9 + 5, none⟩ = some (.int .i64 t2) ∧ w'.cell? ⟨b1, o1 + j * 9 + 6, none⟩ = some (.string l2) ∧ w'.cell? ⟨b1, o1 + j * 9 + 7, none⟩ = some (.slice A' n' c') ∧ w'.cell? ⟨b1, o1 + j * 9 + 8, none⟩ = some (.int .i64 (z2 : Int)) ∧ w'.cell? ⟨b2, o2 + j * 9, none⟩ = some (.string p2) ∧ w'.cell? ⟨b2, o2 + j * 9 + 1, none⟩ = some (.int .i64 k2) ∧ w'.cell? ⟨b2, o2 + j * 9 + 2, none⟩ = some (.int .i64 m2) ∧ w'.cell? ⟨b2, o2 + j * 9 + 3, none⟩ = some (.int .i64 u2) ∧ w'.cell? ⟨b2, o2 + j * 9 + 4, none⟩ = some (.int .i64 g2) ∧ w'.cell? ⟨b2, o2 + j * 9 + 5, none⟩ = some (.int .i64 t2) ∧ w'.cell? ⟨b2, o2 + j * 9 + 6, none⟩ = some (.string l2) ∧ w'.cell? ⟨b2, o2 + j * 9 + 7, none⟩ = some (.slice A2' n2' c2') ∧ w'.cell? ⟨b2, o2 + j * 9 + 8, none⟩ = some (.int .i64 (z2 : Int))) (first | go_keep | (exact ALLS.out _ hacc)) (first
                | (go_at_call 16; (with_reducible refine (SAMT.out _ hacc).mono ?_); rintro e wnb ⟨rfl, hbnb⟩; replace hacc := hacc.trans (Below.mono hbnb hacc.size)))
              all_goals
                go_wp2
                go_roundw
                case rel => exact ⟨j + 1, by omega, by go_num, hb.trans (hacc.mono hsz)⟩
                case measure => simp [intOf]; omega
            · obtain rfl : j = n6 := by omega
              have hlt' : ¬ (j : Int) < j := by omega
              have HBW := Lib.hid (HB6.out.trans (hb.mono HB6.out.size))
              go_wp2_with (go_at_call 8; (with_reducible refine (AL.out _ HBW.out).mono ?_); rintro e w10 ⟨rfl, hb10⟩; have HB10 := Lib.hid (bthen HBW.out hb10); clear hb10)
              go_ret
              exact ⟨rfl, HB10.out⟩
    · rw [if_neg hE] at PAR
      have hE' : (E == 0) = false := by simpa using hE
      go_enter Tryz.func5, Tryz.ntmps5
      go_wp2_with (first
        | (go_at_call 18; (with_reducible refine (PAR.out).mono ?_); rintro e w1 ⟨v1, its1, rfl, hv1, hm1, hb1⟩; have HBP := Lib.hid hb1; clear hv1 hm1 hb1)
        | fail)
      go_wp2_with (first
        | (go_at_call 15; first
            | (with_reducible refine (SCK.out _ HB5.out).mono ?_); rintro e w6 ⟨v6, its6, rfl, hi6, ho6, hb6⟩; obtain ⟨A6, c6, rfl, hil6, _, _⟩ := hi6; obtain ⟨hle6, hge6⟩ := outs_get HO5.out ho6 HVV.out; have hle6' : ¬ (its5.length : Int) < its6.length := (by omega); have hfew6 : its6.length ≤ 64 := (by have := congrArg List.length ho6; simp at this; omega); have HG6 := Lib.hid hge6; have HI6 := Lib.hid hil6; have HB6 := Lib.hid (bthen HB5.out hb6); have HI5 := Lib.hid ((HIL5.out.below hb6).more hb6.size); clear hil6 hge6 ho6 hb6
            | (with_reducible refine (SCN.out _ HBP.out).mono ?_); rintro e w5 ⟨v5, its5, rfl, hi5, ho5, hb5⟩; obtain ⟨A5, c5, rfl, hil5, _, _⟩ := hi5; have HO5 := Lib.hid ho5; have HIL5 := Lib.hid hil5; have HB5 := Lib.hid (bthen HBP.out hb5); clear hil5 ho5 hb5))
      obtain ⟨n6, hn6⟩ : ∃ n6, n6 = its6.length := ⟨_, rfl⟩
      rw [← hn6] at hfew6 hle6 hle6' HI6 ⊢
      clear hn6
      go_loopw [91] (fun i wr => ∃ j : Nat, j ≤ n6 ∧ i = .int .i64 j ∧ Below w6.heap.size w6 wr) (fun i _ => n6 - (intOf i).toNat)
      case atStart => exact ⟨0, by omega, rfl, Below.refl _ _⟩
      case round =>
        obtain ⟨j, hj, rfl, hb⟩ := hrel
        by_cases hlt : j < n6
        · have hlt' : (j : Int) < n6 := by omega
          obtain ⟨b1, o1, p, l, k, m, u, g, t, A', n', c', xs', z, rfl, hbl1, hx1, q0, q1, q2, q3, q4, q5, q6, q7, q8, hrb, _, _⟩ := (HI6.out.below hb).at_ hlt
          obtain ⟨b2, o2, p2, l2, k2, m2, u2, g2, t2, A2', n2', c2', xs2, z2, rfl, hbl2, hx2, r0, r1, r2, r3, r4, r5, r6, r7, r8, hrb2, _, _⟩ := (HI5.out.below hb).at_ (show j < its5.length by omega)
          obtain ⟨hmm, hzz⟩ := HG6.out j _ _ hx2 hx1
          have hin := HMEM.out _ (item_in HO5.out hx2)
          unfold It.mem at hmm hin
          simp only [Ar.Mem.mk.injEq] at hmm
          obtain ⟨rfl, rfl, rfl, rfl, rfl, rfl, rfl, rfl⟩ := hmm
          dsimp only at hin hzz
          subst hzz
          obtain ⟨hby, _, _, hbn⟩ := hin
          have hsz := hb.size
          have hj5 : (j : Int) < its5.length := by omega
          have SAMT := Lib.hid (fun (W : World) (h : Below wr.heap.size wr W) => msame_true9 p2 l2 k2 m2 u2 g2 t2 A' A2' n' c' n2' c2' xs2 W ((hrb.below (h.mono hsz)).more (Nat.le_trans hsz h.size)) ((hrb2.below (h.mono hsz)).more (Nat.le_trans hsz h.size)) hby (by omega))
          clear hrb hrb2 hby hbn hx1 hx2
          go_upto_region 22 with (fail)
          have hacc : Below wr.heap.size wr wr.drew := below_drewN (Below.refl _ _) 1
          have alls : ∀ W, Below wr.heap.size wr W → W.cell? ⟨b1, o1 + j * 9, none⟩ = some (.string p2) ∧ W.cell? ⟨b1, o1 + j * 9 + 1, none⟩ = some (.int .i64 k2) ∧ W.cell? ⟨b1, o1 + j * 9 + 2, none⟩ = some (.int .i64 m2) ∧ W.cell? ⟨b1, o1 + j * 9 + 3, none⟩ = some (.int .i64 u2) ∧ W.cell? ⟨b1, o1 + j * 9 + 4, none⟩ = some (.int .i64 g2) ∧ W.cell? ⟨b1, o1 + j * 9 + 5, none⟩ = some (.int .i64 t2) ∧ W.cell? ⟨b1, o1 + j * 9 + 6, none⟩ = some (.string l2) ∧ W.cell? ⟨b1, o1 + j * 9 + 7, none⟩ = some (.slice A' n' c') ∧ W.cell? ⟨b1, o1 + j * 9 + 8, none⟩ = some (.int .i64 (z2 : Int)) ∧ W.cell? ⟨b2, o2 + j * 9, none⟩ = some (.string p2) ∧ W.cell? ⟨b2, o2 + j * 9 + 1, none⟩ = some (.int .i64 k2) ∧ W.cell? ⟨b2, o2 + j * 9 + 2, none⟩ = some (.int .i64 m2) ∧ W.cell? ⟨b2, o2 + j * 9 + 3, none⟩ = some (.int .i64 u2) ∧ W.cell? ⟨b2, o2 + j * 9 + 4, none⟩ = some (.int .i64 g2) ∧ W.cell? ⟨b2, o2 + j * 9 + 5, none⟩ = some (.int .i64 t2) ∧ W.cell? ⟨b2, o2 + j * 9 + 6, none⟩ = some (.string l2) ∧ W.cell? ⟨b2, o2 + j * 9 + 7, none⟩ = some (.slice A2' n2' c2') ∧ W.cell? ⟨b2, o2 + j * 9 + 8, none⟩ = some (.int .i64 (z2 : Int)) := fun W hW => ⟨(hW.cell (p := ⟨b1, _, none⟩) (show b1 < wr.heap.size by omega)).trans q0, (hW.cell (p := ⟨b1, _, none⟩) (show b1 < wr.heap.size by omega)).trans q1, (hW.cell (p := ⟨b1, _, none⟩) (show b1 < wr.heap.size by omega)).trans q2, (hW.cell (p := ⟨b1, _, none⟩) (show b1 < wr.heap.size by omega)).trans q3, (hW.cell (p := ⟨b1, _, none⟩) (show b1 < wr.heap.size by omega)).trans q4, (hW.cell (p := ⟨b1, _, none⟩) (show b1 < wr.heap.size by omega)).trans q5, (hW.cell (p := ⟨b1, _, none⟩) (show b1 < wr.heap.size by omega)).trans q6, (hW.cell (p := ⟨b1, _, none⟩) (show b1 < wr.heap.size by omega)).trans q7, (hW.cell (p := ⟨b1, _, none⟩) (show b1 < wr.heap.size by omega)).trans q8, (hW.cell (p := ⟨b2, _, none⟩) (show b2 < wr.heap.size by omega)).trans r0, (hW.cell (p := ⟨b2, _, none⟩) (show b2 < wr.heap.size by omega)).trans r1, (hW.cell (p := ⟨b2, _, none⟩) (show b2 < wr.heap.size by omega)).trans r2, (hW.cell (p := ⟨b2, _, none⟩) (show b2 < wr.heap.size by omega)).trans r3, (hW.cell (p := ⟨b2, _, none⟩) (show b2 < wr.heap.size by omega)).trans r4, (hW.cell (p := ⟨b2, _, none⟩) (show b2 < wr.heap.size by omega)).trans r5, (hW.cell (p := ⟨b2, _, none⟩) (show b2 < wr.heap.size by omega)).trans r6, (hW.cell (p := ⟨b2, _, none⟩) (show b2 < wr.heap.size by omega)).trans r7, (hW.cell (p := ⟨b2, _, none⟩) (show b2 < wr.heap.size by omega)).trans r8⟩
          have ALLS := Lib.hid alls
          clear alls
          obtain ⟨y0, y1, y2, y3, y4, y5, y6, y7, y8, y9, y10, y11, y12, y13, y14, y15, y16, y17⟩ := ALLS.out _ hacc
          go_region_held3 (fun w' => w'.cell? ⟨b1, o1 + j * 9, none⟩ = some (.string p2) ∧ w'.cell? ⟨b1, o1 + j * 9 + 1, none⟩ = some (.int .i64 k2) ∧ w'.cell? ⟨b1, o1 + j * 9 + 2, none⟩ = some (.int .i64 m2) ∧ w'.cell? ⟨b1, o1 + j * 9 + 3, none⟩ = some (.int .i64 u2) ∧ w'.cell? ⟨b1, o1 + j * 9 + 4, none⟩ = some (.int .i64 g2) ∧ w'.cell? ⟨b1, o1 + j * 9 + 5, none⟩ = some (.int .i64 t2) ∧ w'.cell? ⟨b1, o1 + j * 9 + 6, none⟩ = some (.string l2) ∧ w'.cell? ⟨b1, o1 + j * 9 + 7, none⟩ = some (.slice A' n' c') ∧ w'.cell? ⟨b1, o1 + j * 9 + 8, none⟩ = some (.int .i64 (z2 : Int)) ∧ w'.cell? ⟨b2, o2 + j * 9, none⟩ = some (.string p2) ∧ w'.cell? ⟨b2, o2 + j * 9 + 1, none⟩ = some (.int .i64 k2) ∧ w'.cell? ⟨b2, o2 + j * 9 + 2, none⟩ = some (.int .i64 m2) ∧ w'.cell? ⟨b2, o2 + j * 9 + 3, none⟩ = some (.int .i64 u2) ∧ w'.cell? ⟨b2, o2 + j * 9 + 4, none⟩ = some (.int .i64 g2) ∧ w'.cell? ⟨b2, o2 + j * 9 + 5, none⟩ = some (.int .i64 t2) ∧ w'.cell? ⟨b2, o2 + j * 9 + 6, none⟩ = some (.string l2) ∧ w'.cell? ⟨b2, o2 + j * 9 + 7, none⟩ = some (.slice A2' n2' c2') ∧ w'.cell? ⟨b2, o2 + j * 9 + 8, none⟩ = some (.int .i64 (z2 : Int))) (first | go_keep | (exact ALLS.out _ hacc)) (first
            | (go_at_call 16; (with_reducible refine (SAMT.out _ hacc).mono ?_); rintro e wnb ⟨rfl, hbnb⟩; replace hacc := hacc.trans (Below.mono hbnb hacc.size)))
          all_goals
            go_wp2
            go_roundw
            case rel => exact ⟨j + 1, by omega, by go_num, hb.trans (hacc.mono hsz)⟩
            case measure => simp [intOf]; omega
        · obtain rfl : j = n6 := by omega
          have hlt' : ¬ (j : Int) < j := by omega
          have HBW := Lib.hid (HB6.out.trans (hb.mono HB6.out.size))
          go_wp2_with (go_at_call 8; (with_reducible refine (AL.out _ HBW.out).mono ?_); rintro e w10 ⟨rfl, hb10⟩; have HB10 := Lib.hid (bthen HBW.out hb10); clear hb10)
          go_ret
          exact ⟨rfl, HB10.out⟩
end Go.Proofs.YtjofdgjcbjdhbaaGreatDoor
