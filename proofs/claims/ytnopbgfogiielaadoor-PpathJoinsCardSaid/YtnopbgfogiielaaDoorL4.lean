/- WALKS OF LAYER 4, THE LAWS: PpathParts, PpathJoins, PpathLess, PpathWhole. -/
import Derived.Test.YtnopbgfogiielaaDoorY4g
import Derived.Test.YtnopbgfogiielaaDoorM4
namespace Go.Proofs.YtnopbgfogiielaaDoor
open Go Go.RowKit Go.Shelf
set_option maxHeartbeats 1000000
set_option maxRecDepth 100000
theorem alive_any (w : World) : Calls Tryd.prog 7 #[] w fun e w' => e = .returned (.bool true) ∧ Below w.heap.size w w' := by
  have p1 := Lib.hid (fun W => parts_any ⟨#[97, 47, 98]⟩ W (by decide))
  have p2 := Lib.hid (fun W => parts_any ⟨#[97, 47, 46, 46, 47, 98]⟩ W (by decide))
  have p3 := Lib.hid (fun W => less_any ⟨#[97, 47, 98]⟩ ⟨#[97, 46, 98]⟩ W (by decide) (by decide))
  have p4 := Lib.hid (fun W => parent_any ⟨#[97, 47, 98]⟩ W (by decide) 1 (by decide +kernel))
  have p5 := Lib.hid (fun W => base_any ⟨#[97, 47, 98]⟩ W (by decide) 1 (by decide +kernel))
  have p6 := Lib.hid (fun W => under_any ⟨#[97, 47, 98]⟩ ⟨#[97]⟩ W (by decide) (by decide))
  rw [Pp.ab_parts] at p1
  rw [Pp.axb_parts] at p2
  rw [Pp.ab_less] at p3
  rw [show parentS ⟨#[97, 47, 98]⟩ 1 = ⟨#[97]⟩ by decide +kernel] at p4
  rw [show baseS ⟨#[97, 47, 98]⟩ 1 = ⟨#[98]⟩ by decide +kernel] at p5
  rw [show (restV ⟨#[97, 47, 98]⟩ ⟨#[97]⟩).2 = true by decide +kernel] at p6
  go_enter Tryd.func7, Tryd.ntmps7
  go_wp2_with fail
  refine (p1.out _).mono ?_
  rintro e w1 ⟨v1, rfl, ho1, hb1⟩
  obtain ⟨A1, c1, rfl, hr1, hl1, _⟩ := ho1.rt
  obtain ⟨g, rfl, _, hc⟩ := hr1.2 (by simp)
  have hc1 := hc 1 ⟨#[98]⟩ rfl
  have hg := hr1
  go_wp2_with fail
  refine (p2.out _).mono ?_
  rintro e w2 ⟨v2, rfl, ho2, hb2⟩
  have hc2 : w2.cell? ⟨g, 1, none⟩ = some (.string ⟨#[98]⟩) := by
    obtain ⟨g', e', hlt, _⟩ := hr1.2 (by simp)
    cases e'
    exact (hb2.cell (p := ⟨g, 1, none⟩) hlt).trans hc1
  have hb12 := bthen hb1 hb2
  go_wp2_with (first | (go_at_call 22; refine (p3.out _).mono ?_; rintro e w3 ⟨rfl, hb3⟩) | (go_at_call 15; refine (p4.out _).mono ?_; rintro e w' ⟨rfl, rfl⟩) | (go_at_call 17; refine (p5.out _).mono ?_; rintro e w' ⟨rfl, rfl⟩) | (go_at_call 21; refine (p6.out _).mono ?_; rintro e w' ⟨rfl, rfl⟩))
  go_ret
  exact ⟨ret_bool (by decide +kernel), bthen hb12 hb3⟩
theorem parts_walk (s : ByteArray) (w : World) (hsm : s.size ≤ maxLen) :
    Calls Tryd.prog 3 #[.string s] w fun e w' => e = .returned (.bool true) ∧ Below w.heap.size w w' := by
  unfold maxLen at hsm
  by_cases h1 : 600 < s.size
  · have g : (600 : Int) < s.size := by omega
    go_enter Tryd.func3, Tryd.ntmps3
    go_wp2_with (go_at_call 7; refine (alive_any _).mono ?_; rintro e w7 ⟨rfl, hb7⟩)
    go_ret
    exact ⟨rfl, hb7⟩
  · have g : ¬ (600 : Int) < s.size := by omega
    have p1 := Lib.hid (fun W => parts_any s W (by omega))
    have p2 := Lib.hid (fun W => refparts_any s W (by omega))
    have p3 := Lib.hid (fun W => may_any s W (by omega))
    have p4 := Lib.hid (fun W => name_any s W (by omega))
    have p5 := Lib.hid (fun W => refname_any s W (by omega))
    generalize decide (Pp.Nm s) = nm at *
    generalize Pp.partsS s = p at *
    obtain ⟨xs, c⟩ := p
    simp only at p1 p2 p3
    go_enter Tryd.func3, Tryd.ntmps3
    go_wp2_with fail
    refine (p1.out _).mono ?_
    rintro e w1 ⟨v1, rfl, ho1, hb1⟩
    obtain ⟨A1, c1, rfl, hr1, hlc, hcm⟩ := ho1.rt
    unfold maxLen at hcm
    go_wp2_with fail
    refine (p2.out _).mono ?_
    rintro e w2 ⟨v2, rfl, ho2, hb2⟩
    obtain ⟨A2, c2, rfl, hr2, _, _⟩ := ho2.rt
    have hb12 := bthen hb1 hb2
    have hr12 := (hr1.below hb2).more hb2.size
    go_wp2_with fail
    refine (p3.out _).mono ?_
    rintro e w3 ⟨rfl, hb3⟩
    have hb13 := bthen hb12 hb3
    have hr13 := (hr12.below hb3).more hb3.size
    have hr23 := (hr2.below hb3).more hb3.size
    go_wp2_with (first | (go_at_call 11; refine (p4.out _).mono ?_; rintro e w' ⟨rfl, rfl⟩) | (go_at_call 12; refine (p5.out _).mono ?_; rintro e w' ⟨rfl, rfl⟩))
    go_loopw [48] (fun i wr => ∃ k m : Nat, k ≤ xs.length ∧ i = .int .i64 k ∧ wr = w3.drewN m) (fun i _ => xs.length - (intOf i).toNat)
    case atStart => exact ⟨0, 0, by omega, rfl, rfl⟩
    case round =>
      obtain ⟨k, m, hk, rfl, rfl⟩ := hrel
      by_cases h2 : k < xs.length
      · have h2' : (k : Int) < xs.length := by omega
        obtain ⟨g1, x, rfl, hx, hc1⟩ := hr13.at_ h2
        obtain ⟨g2, y, rfl, hy, hc2⟩ := hr23.at_ h2
        obtain rfl : x = y := Option.some.inj (hx.symm.trans hy)
        clear hx hy
        go_wp2
        go_quiet (fail)
        go_wp2
        go_roundw
        case rel => exact ⟨k + 1, _, by omega, by go_num, rfl⟩
        case measure => simp [intOf]; omega
      · have e : k = xs.length := by omega
        subst e
        go_wp2_with (go_at_call 7; refine (alive_any _).mono ?_; rintro e w7 ⟨rfl, hb7⟩)
        go_ret
        exact ⟨rfl, bthen (below_drewN hb13 _) hb7⟩
theorem joins_walk (s t : ByteArray) (w : World) (hsm : s.size ≤ maxLen) (htm : t.size ≤ maxLen) :
    Calls Tryd.prog 4 #[.string s, .string t] w fun e w' => e = .returned (.bool true) ∧ Below w.heap.size w w' := by
  unfold maxLen at hsm htm
  by_cases h1 : 600 < s.size
  · have g : (600 : Int) < s.size := by omega
    go_enter Tryd.func4, Tryd.ntmps4
    go_wp2_with (go_at_call 7; refine (alive_any _).mono ?_; rintro e w7 ⟨rfl, hb7⟩)
    go_ret
    exact ⟨rfl, hb7⟩
  · have g : ¬ (600 : Int) < s.size := by omega
    by_cases h2 : 600 < t.size
    · have g2 : (600 : Int) < t.size := by omega
      go_enter Tryd.func4, Tryd.ntmps4
      go_wp2_with (go_at_call 7; refine (alive_any _).mono ?_; rintro e w7 ⟨rfl, hb7⟩)
      go_ret
      exact ⟨rfl, hb7⟩
    · have g2 : ¬ (600 : Int) < t.size := by omega
      obtain ⟨r, hr⟩ := Pp.last_ex s s.size (Nat.le_refl _)
      have p1 := Lib.hid (fun W => rest_any s t W (by omega) (by omega))
      have p2 := Lib.hid (fun W => refrest_any s t W (by omega) (by omega))
      have p3 := Lib.hid (fun W => parent_any s W (by omega) r hr)
      have p4 := Lib.hid (fun W => refparent_any s W (by omega) r hr)
      have p5 := Lib.hid (fun W => base_any s W (by omega) r hr)
      have p6 := Lib.hid (fun W => refbase_any s W (by omega) r hr)
      have p7 := Lib.hid (fun W => join_any4 t s W (by omega) (by omega))
      have p8 := Lib.hid (fun W => refjoin_any4 t s W (by omega) (by omega))
      have p9 := Lib.hid (fun W => under_any s t W (by omega) (by omega))
      generalize restV s t = v at *
      generalize parentS s r = x at *
      generalize baseS s r = y at *
      generalize joinS t s = z at *
      clear hr h1 h2
      go_enter Tryd.func4, Tryd.ntmps4
      go_wp2_with (first | (go_at_call 13; refine (p1.out _).mono ?_; rintro e w' ⟨rfl, rfl⟩) | (go_at_call 14; refine (p2.out _).mono ?_; rintro e w' ⟨rfl, rfl⟩) | (go_at_call 15; refine (p3.out _).mono ?_; rintro e w' ⟨rfl, rfl⟩) | (go_at_call 16; refine (p4.out _).mono ?_; rintro e w' ⟨rfl, rfl⟩) | (go_at_call 17; refine (p5.out _).mono ?_; rintro e w' ⟨rfl, rfl⟩) | (go_at_call 18; refine (p6.out _).mono ?_; rintro e w' ⟨rfl, rfl⟩) | (go_at_call 19; refine (p7.out _).mono ?_; rintro e w' ⟨rfl, rfl⟩) | (go_at_call 20; refine (p8.out _).mono ?_; rintro e w' ⟨rfl, rfl⟩) | (go_at_call 21; refine (p9.out _).mono ?_; rintro e w' ⟨rfl, rfl⟩) | (go_at_call 7; refine (alive_any _).mono ?_; rintro e w7 ⟨rfl, hb7⟩))
      go_ret
      exact ⟨ret_bool (by simp), hb7⟩

theorem parent_less {a : ByteArray} {r : Int} (h : Pp.IsLast a a.size r) : parentS a r = ⟨#[]⟩ ∨ (parentS a r).toList.isEmpty = false ∧ Pp.lessL (Pp.pieces (parentS a r)) (Pp.pieces a) = true := by
  by_cases h0 : parentS a r = ⟨#[]⟩
  · exact .inl h0
  · refine .inr ⟨by rw [isEmpty_eq]; simp only [decide_eq_false_iff_not]; exact fun e => h0 (size_zero.1 e), ?_⟩
    obtain ⟨h1, h2⟩ := last_bd h
    by_cases hr : r = -1
    · subst hr
      exact absurd (size_zero.1 (by unfold parentS; rw [Pp.extract_size]; simp only [show (max (-1 : Int) 0).toNat = 0 from rfl]; omega)) h0
    · obtain ⟨i, rfl⟩ : ∃ i : Nat, r = i := ⟨r.toNat, by omega⟩
      obtain ⟨hi, _, hp⟩ := Pp.pieces_parent h
      have e : parentS a (i : Int) = a.extract 0 i := by unfold parentS; rw [show max (i : Int) 0 = i from by omega, Int.toNat_natCast]
      rw [e, hp]
      exact Pp.lessL_more _ _ _
theorem less_walk (a b c : ByteArray) (w : World) (ham : a.size ≤ maxLen) (hbm : b.size ≤ maxLen) (hcm : c.size ≤ maxLen) :
    Calls Tryd.prog 5 #[.string a, .string b, .string c] w fun e w' => e = .returned (.bool true) ∧ Below w.heap.size w w' := by
  unfold maxLen at ham hbm hcm
  by_cases hbig : 300 < a.size ∨ 300 < b.size ∨ 300 < c.size
  · by_cases h1 : 300 < a.size
    · have g : (300 : Int) < a.size := by omega
      go_enter Tryd.func5, Tryd.ntmps5
      go_wp2_with (go_at_call 7; refine (alive_any _).mono ?_; rintro e w7 ⟨rfl, hb7⟩)
      go_ret
      exact ⟨rfl, hb7⟩
    · have g : ¬ (300 : Int) < a.size := by omega
      by_cases h2 : 300 < b.size
      · have g2 : (300 : Int) < b.size := by omega
        go_enter Tryd.func5, Tryd.ntmps5
        go_wp2_with (go_at_call 7; refine (alive_any _).mono ?_; rintro e w7 ⟨rfl, hb7⟩)
        go_ret
        exact ⟨rfl, hb7⟩
      · have g2 : ¬ (300 : Int) < b.size := by omega
        have g3 : (300 : Int) < c.size := by omega
        go_enter Tryd.func5, Tryd.ntmps5
        go_wp2_with (go_at_call 7; refine (alive_any _).mono ?_; rintro e w7 ⟨rfl, hb7⟩)
        go_ret
        exact ⟨rfl, hb7⟩
  · have g1 : ¬ (300 : Int) < a.size := by omega
    have g2 : ¬ (300 : Int) < b.size := by omega
    have g3 : ¬ (300 : Int) < c.size := by omega
    obtain ⟨r, hr⟩ := Pp.last_ex a a.size (Nat.le_refl _)
    have hpar := parent_less hr
    have hxs : (parentS a r).size ≤ a.size := by unfold parentS; rw [Pp.extract_size]; omega
    have p1 := fun W => less_any a b W (by omega) (by omega)
    have p2 := fun W => less_any b a W (by omega) (by omega)
    have p3 := fun W => refless_any a b W (by omega) (by omega)
    have p4 := fun W => less_any b c W (by omega) (by omega)
    have p5 := fun W => less_any a c W (by omega) (by omega)
    have p6 := Lib.hid (fun W => may_any a W (by omega))
    have p7 := Lib.hid (fun W => parent_any a W (by omega) r hr)
    have p8 := fun W => less_any (parentS a r) a W (by omega) (by omega)
    have p9 := Lib.hid (fun W => less_any a a W (by omega) (by omega))
    rw [Pp.less_irrefl] at p9
    have f1 := @Pp.less_asymm (Pp.pieces a) (Pp.pieces b)
    have f2 : Pp.lessL (Pp.pieces a) (Pp.pieces b) = false → Pp.lessL (Pp.pieces b) (Pp.pieces a) = false → a = b := fun h k => by
      apply Pp.pieces_inj
      apply Classical.byContradiction
      intro hne
      rcases Pp.less_total _ _ hne with e | e
      · rw [h] at e; cases e
      · rw [k] at e; cases e
    have f3 := Pp.less_trans (Pp.pieces a) (Pp.pieces b) (Pp.pieces c)
    generalize ((Pp.partsS a).2 == 0) = may at *
    generalize parentS a r = x at *
    generalize Pp.lessL (Pp.pieces x) (Pp.pieces a) = xa at *
    generalize Pp.lessL (Pp.pieces a) (Pp.pieces b) = ab at *
    generalize Pp.lessL (Pp.pieces b) (Pp.pieces a) = ba at *
    generalize Pp.lessL (Pp.pieces b) (Pp.pieces c) = bc at *
    generalize Pp.lessL (Pp.pieces a) (Pp.pieces c) = ac at *
    have P1 := Lib.hid p1; have P2 := Lib.hid p2; have P3 := Lib.hid p3; have P4 := Lib.hid p4; have P5 := Lib.hid p5; have P8 := Lib.hid p8
    have F1 := Lib.hid f1; have F2 := Lib.hid f2; have F3 := Lib.hid f3
    clear p1 p2 p3 p4 p5 p8 f1 f2 f3 hr hbig
    have hacc : Below w.heap.size w w := Below.refl _ _
    go_enter Tryd.func5, Tryd.ntmps5
    go_wp2_with fail
    refine (P1.out _).mono ?_
    rintro e w1 ⟨rfl, hb1⟩
    replace hacc := bthen hacc hb1
    go_wp2_with fail
    refine (P2.out _).mono ?_
    rintro e w2 ⟨rfl, hb2⟩
    replace hacc := bthen hacc hb2
    go_wp2_with fail
    refine (P3.out _).mono ?_
    rintro e w3 ⟨rfl, hb3⟩
    replace hacc := bthen hacc hb3
    clear hb1 hb2 hb3
    cases ab with
    | true =>
      obtain rfl : ba = false := by simpa using F1.out
      go_wp2_with fail
      refine (P4.out _).mono ?_
      rintro e w4 ⟨rfl, hb4⟩
      replace hacc := bthen hacc hb4
      clear hb4
      cases bc with
      | true =>
        obtain rfl : ac = true := by simpa using F3.out
        go_wp2_with fail
        refine (P5.out _).mono ?_
        rintro e w5 ⟨rfl, hb5⟩
        replace hacc := bthen hacc hb5
        clear hb5
        cases may with
        | false =>
          go_wp2_with (first | (go_at_call 10; (with_reducible refine (p6.out _).mono ?_); rintro e w6 ⟨rfl, hb6⟩; replace hacc := bthen hacc hb6; clear hb6) | (go_at_call 22; (with_reducible refine (p9.out _).mono ?_); rintro e w9 ⟨rfl, hb9⟩; replace hacc := bthen hacc hb9; clear hb9) | (go_at_call 7; refine (alive_any _).mono ?_; rintro e w7 ⟨rfl, hb7⟩; replace hacc := bthen hacc hb7; clear hb7))
          go_ret
          exact ⟨ret_bool (by simp), hacc⟩
        | true =>
          rcases hpar with rfl | ⟨hx, rfl⟩
          · go_wp2_with (first | (go_at_call 10; (with_reducible refine (p6.out _).mono ?_); rintro e w6 ⟨rfl, hb6⟩; replace hacc := bthen hacc hb6; clear hb6) | (go_at_call 15; (with_reducible refine (p7.out _).mono ?_); rintro e w' ⟨rfl, rfl⟩) | (go_at_call 22; (with_reducible refine (p9.out _).mono ?_); rintro e w9 ⟨rfl, hb9⟩; replace hacc := bthen hacc hb9; clear hb9) | (go_at_call 7; refine (alive_any _).mono ?_; rintro e w7 ⟨rfl, hb7⟩; replace hacc := bthen hacc hb7; clear hb7))
            go_ret
            exact ⟨ret_bool (by simp), hacc⟩
          · go_wp2_with (first | (go_at_call 10; (with_reducible refine (p6.out _).mono ?_); rintro e w6 ⟨rfl, hb6⟩; replace hacc := bthen hacc hb6; clear hb6) | (go_at_call 15; (with_reducible refine (p7.out _).mono ?_); rintro e w' ⟨rfl, rfl⟩) | (go_at_call 22; (with_reducible refine (P8.out _).mono ?_); rintro e w8 ⟨rfl, hb8⟩; replace hacc := bthen hacc hb8; clear hb8) | (go_at_call 22; (with_reducible refine (p9.out _).mono ?_); rintro e w9 ⟨rfl, hb9⟩; replace hacc := bthen hacc hb9; clear hb9) | (go_at_call 7; refine (alive_any _).mono ?_; rintro e w7 ⟨rfl, hb7⟩; replace hacc := bthen hacc hb7; clear hb7))
            go_ret
            exact ⟨ret_bool (by simp), hacc⟩
      | false =>
        cases may with
        | false =>
          go_wp2_with (first | (go_at_call 10; (with_reducible refine (p6.out _).mono ?_); rintro e w6 ⟨rfl, hb6⟩; replace hacc := bthen hacc hb6; clear hb6) | (go_at_call 22; (with_reducible refine (p9.out _).mono ?_); rintro e w9 ⟨rfl, hb9⟩; replace hacc := bthen hacc hb9; clear hb9) | (go_at_call 7; refine (alive_any _).mono ?_; rintro e w7 ⟨rfl, hb7⟩; replace hacc := bthen hacc hb7; clear hb7))
          go_ret
          exact ⟨ret_bool (by simp), hacc⟩
        | true =>
          rcases hpar with rfl | ⟨hx, rfl⟩
          · go_wp2_with (first | (go_at_call 10; (with_reducible refine (p6.out _).mono ?_); rintro e w6 ⟨rfl, hb6⟩; replace hacc := bthen hacc hb6; clear hb6) | (go_at_call 15; (with_reducible refine (p7.out _).mono ?_); rintro e w' ⟨rfl, rfl⟩) | (go_at_call 22; (with_reducible refine (p9.out _).mono ?_); rintro e w9 ⟨rfl, hb9⟩; replace hacc := bthen hacc hb9; clear hb9) | (go_at_call 7; refine (alive_any _).mono ?_; rintro e w7 ⟨rfl, hb7⟩; replace hacc := bthen hacc hb7; clear hb7))
            go_ret
            exact ⟨ret_bool (by simp), hacc⟩
          · go_wp2_with (first | (go_at_call 10; (with_reducible refine (p6.out _).mono ?_); rintro e w6 ⟨rfl, hb6⟩; replace hacc := bthen hacc hb6; clear hb6) | (go_at_call 15; (with_reducible refine (p7.out _).mono ?_); rintro e w' ⟨rfl, rfl⟩) | (go_at_call 22; (with_reducible refine (P8.out _).mono ?_); rintro e w8 ⟨rfl, hb8⟩; replace hacc := bthen hacc hb8; clear hb8) | (go_at_call 22; (with_reducible refine (p9.out _).mono ?_); rintro e w9 ⟨rfl, hb9⟩; replace hacc := bthen hacc hb9; clear hb9) | (go_at_call 7; refine (alive_any _).mono ?_; rintro e w7 ⟨rfl, hb7⟩; replace hacc := bthen hacc hb7; clear hb7))
            go_ret
            exact ⟨ret_bool (by simp), hacc⟩
    | false =>
      cases ba with
      | true =>
        cases may with
        | false =>
          go_wp2_with (first | (go_at_call 10; (with_reducible refine (p6.out _).mono ?_); rintro e w6 ⟨rfl, hb6⟩; replace hacc := bthen hacc hb6; clear hb6) | (go_at_call 22; (with_reducible refine (p9.out _).mono ?_); rintro e w9 ⟨rfl, hb9⟩; replace hacc := bthen hacc hb9; clear hb9) | (go_at_call 7; refine (alive_any _).mono ?_; rintro e w7 ⟨rfl, hb7⟩; replace hacc := bthen hacc hb7; clear hb7))
          go_ret
          exact ⟨ret_bool (by simp), hacc⟩
        | true =>
          rcases hpar with rfl | ⟨hx, rfl⟩
          · go_wp2_with (first | (go_at_call 10; (with_reducible refine (p6.out _).mono ?_); rintro e w6 ⟨rfl, hb6⟩; replace hacc := bthen hacc hb6; clear hb6) | (go_at_call 15; (with_reducible refine (p7.out _).mono ?_); rintro e w' ⟨rfl, rfl⟩) | (go_at_call 22; (with_reducible refine (p9.out _).mono ?_); rintro e w9 ⟨rfl, hb9⟩; replace hacc := bthen hacc hb9; clear hb9) | (go_at_call 7; refine (alive_any _).mono ?_; rintro e w7 ⟨rfl, hb7⟩; replace hacc := bthen hacc hb7; clear hb7))
            go_ret
            exact ⟨ret_bool (by simp), hacc⟩
          · go_wp2_with (first | (go_at_call 10; (with_reducible refine (p6.out _).mono ?_); rintro e w6 ⟨rfl, hb6⟩; replace hacc := bthen hacc hb6; clear hb6) | (go_at_call 15; (with_reducible refine (p7.out _).mono ?_); rintro e w' ⟨rfl, rfl⟩) | (go_at_call 22; (with_reducible refine (P8.out _).mono ?_); rintro e w8 ⟨rfl, hb8⟩; replace hacc := bthen hacc hb8; clear hb8) | (go_at_call 22; (with_reducible refine (p9.out _).mono ?_); rintro e w9 ⟨rfl, hb9⟩; replace hacc := bthen hacc hb9; clear hb9) | (go_at_call 7; refine (alive_any _).mono ?_; rintro e w7 ⟨rfl, hb7⟩; replace hacc := bthen hacc hb7; clear hb7))
            go_ret
            exact ⟨ret_bool (by simp), hacc⟩
      | false =>
        obtain rfl : a = b := by simpa using F2.out
        cases may with
        | false =>
          go_wp2_with (first | (go_at_call 10; (with_reducible refine (p6.out _).mono ?_); rintro e w6 ⟨rfl, hb6⟩; replace hacc := bthen hacc hb6; clear hb6) | (go_at_call 22; (with_reducible refine (p9.out _).mono ?_); rintro e w9 ⟨rfl, hb9⟩; replace hacc := bthen hacc hb9; clear hb9) | (go_at_call 7; refine (alive_any _).mono ?_; rintro e w7 ⟨rfl, hb7⟩; replace hacc := bthen hacc hb7; clear hb7))
          go_ret
          exact ⟨ret_bool (by simp), hacc⟩
        | true =>
          rcases hpar with rfl | ⟨hx, rfl⟩
          · go_wp2_with (first | (go_at_call 10; (with_reducible refine (p6.out _).mono ?_); rintro e w6 ⟨rfl, hb6⟩; replace hacc := bthen hacc hb6; clear hb6) | (go_at_call 15; (with_reducible refine (p7.out _).mono ?_); rintro e w' ⟨rfl, rfl⟩) | (go_at_call 22; (with_reducible refine (p9.out _).mono ?_); rintro e w9 ⟨rfl, hb9⟩; replace hacc := bthen hacc hb9; clear hb9) | (go_at_call 7; refine (alive_any _).mono ?_; rintro e w7 ⟨rfl, hb7⟩; replace hacc := bthen hacc hb7; clear hb7))
            go_ret
            exact ⟨ret_bool (by simp), hacc⟩
          · go_wp2_with (first | (go_at_call 10; (with_reducible refine (p6.out _).mono ?_); rintro e w6 ⟨rfl, hb6⟩; replace hacc := bthen hacc hb6; clear hb6) | (go_at_call 15; (with_reducible refine (p7.out _).mono ?_); rintro e w' ⟨rfl, rfl⟩) | (go_at_call 22; (with_reducible refine (P8.out _).mono ?_); rintro e w8 ⟨rfl, hb8⟩; replace hacc := bthen hacc hb8; clear hb8) | (go_at_call 22; (with_reducible refine (p9.out _).mono ?_); rintro e w9 ⟨rfl, hb9⟩; replace hacc := bthen hacc hb9; clear hb9) | (go_at_call 7; refine (alive_any _).mono ?_; rintro e w7 ⟨rfl, hb7⟩; replace hacc := bthen hacc hb7; clear hb7))
            go_ret
            exact ⟨ret_bool (by simp), hacc⟩
theorem join_data (t u : ByteArray) : (t ++ ⟨#[47]⟩ ++ u).data.toList = t.data.toList ++ 47 :: u.data.toList := by
  rw [ByteArray.data_append, ByteArray.data_append, Array.toList_append, Array.toList_append, List.append_assoc]
  rfl
theorem whole_facts {s : ByteArray} {r : Int} (h : Pp.IsLast s s.size r) (hN : ∀ x ∈ Pp.pieces s, Pp.Nm x) : joinS (parentS s r) (baseS s r) = s ∧ (restV s (parentS s r)).2 = true ∧ Pp.Nm (baseS s r) := by
  obtain ⟨h1, h2⟩ := last_bd h
  by_cases hr : r = -1
  · subst hr
    rw [Pp.pieces_none h] at hN
    have hs := hN s (by simp)
    have hs1 : 1 ≤ s.size := hs.1.1
    have ep : (parentS s (-1)).size = 0 := by unfold parentS; rw [Pp.extract_size]; simp only [show (max (-1 : Int) 0).toNat = 0 from rfl]; omega
    have eb : baseS s (-1) = s := by unfold baseS; exact Pp.ext_all s
    refine ⟨?_, ?_, by rw [eb]; exact hs⟩
    · unfold joinS; rw [if_pos ep, eb]
    · unfold restV; rw [if_pos ep]; exact decide_eq_true (show s.size ≠ 0 by omega)
  · obtain ⟨i, rfl⟩ : ∃ i : Nat, r = i := ⟨r.toNat, by omega⟩
    obtain ⟨hi, hc, hp⟩ := Pp.pieces_parent h
    have ep : parentS s (i : Int) = s.extract 0 i := by unfold parentS; rw [show max (i : Int) 0 = i from by omega, Int.toNat_natCast]
    have eb : baseS s (i : Int) = s.extract (i + 1) s.size := by unfold baseS; rw [show ((i : Int) + 1).toNat = i + 1 from by omega]
    have es : (s.extract 0 i).size = i := by rw [Pp.extract_size]; omega
    rw [hp] at hN
    have hb := hN (s.extract (i + 1) s.size) (by simp)
    have hi0 : ¬ i = 0 := by
      intro e
      subst e
      have h3 : Pp.pieces (s.extract 0 0) = [s.extract 0 0] := Pp.pieces_last _ (by have := Pp.fi_le (s.extract 0 0); omega)
      have := (hN (s.extract 0 0) (by rw [h3]; simp)).1.1
      omega
    have hb1 : 1 ≤ (s.extract (i + 1) s.size).size := hb.1.1
    rw [ep, eb]
    refine ⟨?_, ?_, hb⟩
    · unfold joinS
      rw [if_neg (by omega), if_neg (by omega)]
      apply ByteArray.ext
      apply Array.toList_inj.1
      rw [join_data]
      exact (Pp.ext_split s i hi hc).symm
    · have hq := (Pp.pre_slash (s.extract 0 i) s).2 ⟨by omega, by rw [es], by simp only [es]; exact hc⟩
      unfold restV
      rw [if_neg (by omega), if_pos hq]
theorem rest_facts (s t : ByteArray) (h : (restV s t).2 = true) : joinS t (restV s t).1 = s ∨ (restV s t).1 = ⟨#[]⟩ := by
  unfold restV at h ⊢
  by_cases h0 : t.size = 0
  · rw [if_pos h0]
    refine .inl ?_
    unfold joinS
    rw [if_pos h0]
  · rw [if_neg h0] at h ⊢
    by_cases hq : Pp.Pre (t ++ ⟨#[47]⟩) s
    · rw [if_pos hq]
      obtain ⟨hlt, he, hc⟩ := (Pp.pre_slash t s).1 hq
      by_cases hz : (s.extract (t.size + 1) s.size).size = 0
      · exact .inr (size_zero.1 hz)
      · refine .inl ?_
        unfold joinS
        rw [if_neg h0, if_neg hz]
        apply ByteArray.ext
        apply Array.toList_inj.1
        rw [join_data, Pp.ext_split s t.size hlt hc, he]
    · rw [if_neg hq] at h
      cases h
theorem whole_walk (s t : ByteArray) (w : World) (hsm : s.size ≤ maxLen) (htm : t.size ≤ maxLen) :
    Calls Tryd.prog 6 #[.string s, .string t] w fun e w' => e = .returned (.bool true) ∧ Below w.heap.size w w' := by
  unfold maxLen at hsm htm
  by_cases h1 : 600 < s.size
  · have g : (600 : Int) < s.size := by omega
    go_enter Tryd.func6, Tryd.ntmps6
    go_wp2_with (go_at_call 7; refine (alive_any _).mono ?_; rintro e w7 ⟨rfl, hb7⟩)
    go_ret
    exact ⟨rfl, hb7⟩
  · have g : ¬ (600 : Int) < s.size := by omega
    by_cases h2 : 600 < t.size
    · have g2 : (600 : Int) < t.size := by omega
      go_enter Tryd.func6, Tryd.ntmps6
      go_wp2_with (go_at_call 7; refine (alive_any _).mono ?_; rintro e w7 ⟨rfl, hb7⟩)
      go_ret
      exact ⟨rfl, hb7⟩
    · have g2 : ¬ (600 : Int) < t.size := by omega
      obtain ⟨r, hr⟩ := Pp.last_ex s s.size (Nat.le_refl _)
      have hxs : (parentS s r).size ≤ s.size := by unfold parentS; rw [Pp.extract_size]; omega
      have hys : (baseS s r).size ≤ s.size := by unfold baseS; rw [Pp.extract_size]; omega
      have hrs : (restV s t).1.size ≤ s.size := by
        unfold restV
        by_cases h0 : t.size = 0
        · rw [if_pos h0]; exact Nat.le_refl _
        · rw [if_neg h0]
          by_cases hq : Pp.Pre (t ++ ⟨#[47]⟩) s
          · rw [if_pos hq]; simp only; rw [Pp.extract_size]; omega
          · rw [if_neg hq]; exact Nat.zero_le _
      have m0 := Lib.hid (fun W => may_any s W (by omega))
      have p1 := Lib.hid (fun W => parent_any s W (by omega) r hr)
      have p3 := Lib.hid (fun W => base_any s W (by omega) r hr)
      have p2 := Lib.hid (fun W => join_any4 (parentS s r) (baseS s r) W (by omega) (by omega))
      have p4 := Lib.hid (fun W => under_any s (parentS s r) W (by omega) (by omega))
      have p5 := Lib.hid (fun W => name_any (baseS s r) W (by omega))
      have q1 := Lib.hid (fun W => rest_any s t W (by omega) (by omega))
      have q2 := Lib.hid (fun W => join_any4 t (restV s t).1 W (by omega) (by omega))
      have q3 := Lib.hid (fun W => under_any s t W (by omega) (by omega))
      have G3 := Lib.hid (rest_facts s t)
      have F := fun (hm : ((Pp.partsS s).2 == 0) = true) => whole_facts hr ((Pp.may_iff s).1 hm).2
      generalize restV s t = v at *
      obtain ⟨rs, ok⟩ := v
      simp only at q1 q2 q3 G3 hrs
      generalize ((Pp.partsS s).2 == 0) = may at *
      clear hr h1 h2
      have hacc : Below w.heap.size w w := Below.refl _ _
      go_enter Tryd.func6, Tryd.ntmps6
      go_wp2_with fail
      refine (m0.out _).mono ?_
      rintro e w1 ⟨rfl, hb1⟩
      replace hacc := bthen hacc hb1
      clear hb1
      cases may with
      | false =>
        clear F
        cases ok with
        | false =>
          go_wp2_with (first | (go_at_call 13; (with_reducible refine (q1.out _).mono ?_); rintro e w' ⟨rfl, rfl⟩) | (go_at_call 19; (with_reducible refine (q2.out _).mono ?_); rintro e w' ⟨rfl, rfl⟩) | (go_at_call 21; (with_reducible refine (q3.out _).mono ?_); rintro e w' ⟨rfl, rfl⟩) | (go_at_call 7; refine (alive_any _).mono ?_; rintro e w7 ⟨rfl, hb7⟩; replace hacc := bthen hacc hb7; clear hb7))
          go_ret
          exact ⟨ret_bool (by simp), hacc⟩
        | true =>
          rcases (show joinS t rs = s ∨ rs = ⟨#[]⟩ by simpa using G3.out) with hj | hj
          · have J := Lib.hid hj; have g5 : (joinS t rs).toList = s.toList := by rw [hj]
            clear hj
            go_wp2_with (first | (go_at_call 13; (with_reducible refine (q1.out _).mono ?_); rintro e w' ⟨rfl, rfl⟩) | (go_at_call 19; (with_reducible refine (q2.out _).mono ?_); rintro e w' ⟨rfl, rfl⟩) | (go_at_call 21; (with_reducible refine (q3.out _).mono ?_); rintro e w' ⟨rfl, rfl⟩) | (go_at_call 7; refine (alive_any _).mono ?_; rintro e w7 ⟨rfl, hb7⟩; replace hacc := bthen hacc hb7; clear hb7))
            go_ret
            exact ⟨ret_bool (by simp), hacc⟩
          · subst hj
            go_wp2_with (first | (go_at_call 13; (with_reducible refine (q1.out _).mono ?_); rintro e w' ⟨rfl, rfl⟩) | (go_at_call 19; (with_reducible refine (q2.out _).mono ?_); rintro e w' ⟨rfl, rfl⟩) | (go_at_call 21; (with_reducible refine (q3.out _).mono ?_); rintro e w' ⟨rfl, rfl⟩) | (go_at_call 7; refine (alive_any _).mono ?_; rintro e w7 ⟨rfl, hb7⟩; replace hacc := bthen hacc hb7; clear hb7))
            all_goals
              go_ret
              exact ⟨ret_bool (by simp), hacc⟩
      | true =>
        obtain ⟨e1, e2, e3⟩ := F rfl
        rw [e1] at p2
        rw [e2] at p4
        rw [decide_eq_true e3] at p5
        generalize parentS s r = x at *
        generalize baseS s r = y at *
        clear F e1 e2 e3
        cases ok with
        | false =>
          go_wp2_with (first | (go_at_call 15; (with_reducible refine (p1.out _).mono ?_); rintro e w' ⟨rfl, rfl⟩) | (go_at_call 17; (with_reducible refine (p3.out _).mono ?_); rintro e w' ⟨rfl, rfl⟩) | (go_at_call 19; (with_reducible refine (p2.out _).mono ?_); rintro e w' ⟨rfl, rfl⟩) | (go_at_call 21; (with_reducible refine (p4.out _).mono ?_); rintro e w' ⟨rfl, rfl⟩) | (go_at_call 11; (with_reducible refine (p5.out _).mono ?_); rintro e w' ⟨rfl, rfl⟩) | (go_at_call 13; (with_reducible refine (q1.out _).mono ?_); rintro e w' ⟨rfl, rfl⟩) | (go_at_call 19; (with_reducible refine (q2.out _).mono ?_); rintro e w' ⟨rfl, rfl⟩) | (go_at_call 21; (with_reducible refine (q3.out _).mono ?_); rintro e w' ⟨rfl, rfl⟩) | (go_at_call 7; refine (alive_any _).mono ?_; rintro e w7 ⟨rfl, hb7⟩; replace hacc := bthen hacc hb7; clear hb7))
          go_ret
          exact ⟨ret_bool (by simp), hacc⟩
        | true =>
          rcases (show joinS t rs = s ∨ rs = ⟨#[]⟩ by simpa using G3.out) with hj | hj
          · have J := Lib.hid hj; have g5 : (joinS t rs).toList = s.toList := by rw [hj]
            clear hj
            go_wp2_with (first | (go_at_call 15; (with_reducible refine (p1.out _).mono ?_); rintro e w' ⟨rfl, rfl⟩) | (go_at_call 17; (with_reducible refine (p3.out _).mono ?_); rintro e w' ⟨rfl, rfl⟩) | (go_at_call 19; (with_reducible refine (p2.out _).mono ?_); rintro e w' ⟨rfl, rfl⟩) | (go_at_call 21; (with_reducible refine (p4.out _).mono ?_); rintro e w' ⟨rfl, rfl⟩) | (go_at_call 11; (with_reducible refine (p5.out _).mono ?_); rintro e w' ⟨rfl, rfl⟩) | (go_at_call 13; (with_reducible refine (q1.out _).mono ?_); rintro e w' ⟨rfl, rfl⟩) | (go_at_call 19; (with_reducible refine (q2.out _).mono ?_); rintro e w' ⟨rfl, rfl⟩) | (go_at_call 21; (with_reducible refine (q3.out _).mono ?_); rintro e w' ⟨rfl, rfl⟩) | (go_at_call 7; refine (alive_any _).mono ?_; rintro e w7 ⟨rfl, hb7⟩; replace hacc := bthen hacc hb7; clear hb7))
            go_ret
            exact ⟨ret_bool (by simp), hacc⟩
          · subst hj
            go_wp2_with (first | (go_at_call 15; (with_reducible refine (p1.out _).mono ?_); rintro e w' ⟨rfl, rfl⟩) | (go_at_call 17; (with_reducible refine (p3.out _).mono ?_); rintro e w' ⟨rfl, rfl⟩) | (go_at_call 19; (with_reducible refine (p2.out _).mono ?_); rintro e w' ⟨rfl, rfl⟩) | (go_at_call 21; (with_reducible refine (p4.out _).mono ?_); rintro e w' ⟨rfl, rfl⟩) | (go_at_call 11; (with_reducible refine (p5.out _).mono ?_); rintro e w' ⟨rfl, rfl⟩) | (go_at_call 13; (with_reducible refine (q1.out _).mono ?_); rintro e w' ⟨rfl, rfl⟩) | (go_at_call 19; (with_reducible refine (q2.out _).mono ?_); rintro e w' ⟨rfl, rfl⟩) | (go_at_call 21; (with_reducible refine (q3.out _).mono ?_); rintro e w' ⟨rfl, rfl⟩) | (go_at_call 7; refine (alive_any _).mono ?_; rintro e w7 ⟨rfl, hb7⟩; replace hacc := bthen hacc hb7; clear hb7))
            all_goals
              go_ret
              exact ⟨ret_bool (by simp), hacc⟩
end Go.Proofs.YtnopbgfogiielaaDoor
