/- WALKS OF LAYER 4, SIXTH PART: the reference's Parts; which of two paths is ahead. -/
import Derived.Test.YthgbncpiehcghaaGreatDoorGy2
namespace Go.Proofs.YthgbncpiehcghaaGreatDoor
set_option linter.unusedVariables false
open Go Go.RowKit Go.Shelf
set_option maxHeartbeats 1000000
set_option maxRecDepth 100000
set_option maxRecDepth 100000 in
theorem refparts_any (s : ByteArray) (w : World) (hs : s.size ≤ 1000000) :
    Calls Tryz.prog 67 #[.string s] w fun e w' => ∃ v, e = .returned (.tuple #[v, .int .i64 (Pp.partsS s).2]) ∧ OS w' w.heap.size v (Pp.partsS s).1 ∧ Below w.heap.size w w' := by
  have kc := Lib.hid (refcut_any s w hs)
  have hplen := Pp.pieces_len s
  by_cases h300 : s.size ≤ 300
  · have g : ¬ (300 : Int) < s.size := by omega
    go_enter Tryz.func67, Tryz.ntmps67
    go_wp2_with (go_at_call 114; refine kc.out.mono ?_; rintro e w1 ⟨v, rfl, ho, hb⟩; obtain ⟨A, c, rfl, hr, hlc, hcm⟩ := ho.rt)
    go_loop [5] (fun i => ∃ k : Nat, k ≤ (Pp.pieces s).length ∧ i = .int .i64 k ∧ Hid (∀ j x, j < k → (Pp.pieces s)[j]? = some x → Pp.Nm x)) (fun i => (Pp.pieces s).length - (intOf i).toNat)
    case atStart => exact ⟨0, by omega, rfl, fun j x h => absurd h (by omega)⟩
    case round =>
      obtain ⟨k, hk, rfl, HK⟩ := hrel
      by_cases h1 : k < (Pp.pieces s).length
      · have h1' : (k : Int) < (Pp.pieces s).length := by omega
        obtain ⟨b, x, rfl, hx, hcell⟩ := hr.at_ h1
        have hxs := Pp.pieces_size s x (List.mem_of_getElem? hx)
        have kn := Lib.hid (fun W => refname_any x W (by omega))
        by_cases hN : Pp.Nm x
        · rw [decide_eq_true hN] at kn
          have hn : Hid (∀ j y, j < k + 1 → (Pp.pieces s)[j]? = some y → Pp.Nm y) := fun j y hj hy => by
            by_cases e : j = k
            · subst e
              rw [hx] at hy
              cases hy
              exact hN
            · exact HK.out j y (by omega) hy
          have HX := Lib.hid hx; clear hx
          go_wp2_with (go_at_call 115; refine (kn.out _).mono ?_; rintro e w' ⟨rfl, rfl⟩)
          go_round
          case rel => exact ⟨k + 1, by omega, by go_num, hn⟩
          case measure => simp [intOf]; omega
        · rw [decide_eq_false hN] at kn
          have E := Lib.hid (Pp.parts_no (List.mem_of_getElem? hx) hN)
          have HX := Lib.hid hx; clear hx
          go_wp2_with (go_at_call 115; refine (kn.out _).mono ?_; rintro e w' ⟨rfl, rfl⟩)
          go_ret2
          exact ⟨_, ret_vi (by rw [E.out]), by rw [E.out]; exact OS.nil _ _, hb⟩
      · have e : k = (Pp.pieces s).length := by omega
        subst e
        have hall : ∀ x ∈ Pp.pieces s, Pp.Nm x := fun x hx => by
          obtain ⟨j, hj⟩ := List.mem_iff_getElem?.1 hx
          exact HK.out j x (List.getElem?_eq_some_iff.1 hj).1 hj
        have E := Lib.hid (Pp.parts_yes h300 hall)
        go_wp2
        go_ret2
        exact ⟨_, ret_vi (by rw [E.out]), by rw [E.out]; exact ho, hb⟩
  · have g : (300 : Int) < s.size := by omega
    have E := Lib.hid (Pp.parts_long (s := s) (by omega))
    go_enter Tryz.func67, Tryz.ntmps67
    go_wp2
    go_ret2
    exact ⟨_, ret_vi (by rw [E.out]), by rw [E.out]; exact OS.nil _ _, Below.refl _ _⟩
theorem getElem?_split {xs : List ByteArray} {k : Nat} {x : ByteArray} (h : xs[k]? = some x) : xs = xs.take k ++ x :: xs.drop (k + 1) := by
  obtain ⟨hk, e⟩ := List.getElem?_eq_some_iff.1 h
  subst e
  simp
set_option maxRecDepth 100000 in
theorem refless_any (a b : ByteArray) (w : World) (ha : a.size ≤ 1000000) (hb : b.size ≤ 1000000) :
    Calls Tryz.prog 126 #[.string a, .string b] w fun e w' => e = .returned (.bool (Pp.lessL (Pp.pieces a) (Pp.pieces b))) ∧ Below w.heap.size w w' := by
  have k1 := Lib.hid (fun W => refcut_any a W ha)
  have k2 := Lib.hid (fun W => refcut_any b W hb)
  have l1 := Pp.pieces_len a
  have l2 := Pp.pieces_len b
  generalize Pp.pieces a = xs at *
  generalize Pp.pieces b = ys at *
  go_enter Tryz.func126, Tryz.ntmps126
  go_wp2_with fail
  refine (k1.out _).mono ?_
  rintro e w1 ⟨v1, rfl, ho1, hb1⟩
  obtain ⟨A1, c1, rfl, hr1, hlc1, hcm1⟩ := ho1.rt
  go_wp2_with fail
  refine (k2.out _).mono ?_
  rintro e w2 ⟨v2, rfl, ho2, hb2⟩
  obtain ⟨A2, c2, rfl, hr2, hlc2, hcm2⟩ := ho2.rt
  have hr1' := (hr1.below hb2).more hb2.size
  have hbb := bthen hb1 hb2
  go_wp2_with fail
  go_loopw [7] (fun i wr => ∃ k m : Nat, k ≤ xs.length ∧ k ≤ ys.length ∧ i = .int .i64 k ∧ xs.take k = ys.take k ∧ wr = w2.drewN m) (fun i _ => xs.length - (intOf i).toNat)
  case atStart => exact ⟨0, 0, by omega, by omega, rfl, by simp, rfl⟩
  case round =>
    obtain ⟨k, m, hk1, hk2, rfl, htk, rfl⟩ := hrel
    have HT := Lib.hid htk; clear htk
    by_cases h1 : k < xs.length
    · have h1' : (k : Int) < xs.length := by omega
      obtain ⟨g1, x, rfl, hx, hc1⟩ := hr1'.at_ h1
      by_cases h2 : k < ys.length
      · have h2' : (k : Int) < ys.length := by omega
        obtain ⟨g2, y, rfl, hy, hc2⟩ := hr2.at_ h2
        have sx := getElem?_split hx
        have sy := getElem?_split hy
        by_cases hxy : x = y
        · subst hxy
          have hn : xs.take (k + 1) = ys.take (k + 1) := by
            rw [List.take_add_one, List.take_add_one, hx, hy, HT.out]
          have HN := Lib.hid hn; clear hn hx hy sx sy
          go_wp2
          go_quiet (fail)
          go_wp2
          go_roundw
          case rel => exact ⟨k + 1, _, by omega, by omega, by go_num, HN.out, rfl⟩
          case measure => simp [intOf]; omega
        · have hres : Pp.lessL xs ys = Pp.lt x y := by
            rw [sx, sy, ← HT.out]
            exact Pp.lessL_ne _ _ _ hxy
          have g := Pp.toList_ne hxy
          have HR := Lib.hid hres
          unfold Pp.lt at HR
          clear hres sx sy hx hy hxy
          go_wp2
          go_quiet (fail)
          go_wp2
          go_quiet (fail)
          go_wp2
          go_ret
          exact ⟨ret_bool (by rw [HR.out]), below_drewN (below_drewN (below_drewN hbb _) _) _⟩
      · have h2' : ¬ (k : Int) < ys.length := by omega
        have e : k = ys.length := by omega
        subst e
        have hres : Pp.lessL xs ys = false := by
          have := HT.out
          rw [List.take_length] at this
          have h3 := List.take_append_drop ys.length xs
          rw [this] at h3
          rw [← h3]
          exact Pp.lessL_nil _ _
        have HR := Lib.hid hres; clear hres
        have h3 : ¬ (xs.length : Int) < ys.length := by omega
        go_wp2
        go_ret
        exact ⟨ret_bool (by rw [HR.out]), below_drewN hbb _⟩
    · have e : k = xs.length := by omega
      subst e
      have htl := HT.out
      rw [List.take_length] at htl
      by_cases h2 : xs.length < ys.length
      · have hres : Pp.lessL xs ys = true := by
          have h3 := getElem?_split (List.getElem?_eq_getElem h2)
          rw [← htl] at h3
          rw [h3]
          exact Pp.lessL_more _ _ _
        have HR := Lib.hid hres; clear hres htl
        have h2' : (xs.length : Int) < ys.length := by omega
        go_wp2
        go_ret
        exact ⟨ret_bool (by rw [HR.out]), below_drewN hbb _⟩
      · have hres : Pp.lessL xs ys = false := by
          have : xs = ys := by rw [htl]; exact List.take_of_length_le (by omega)
          rw [this]
          have := Pp.lessL_nil ys []
          rwa [List.append_nil] at this
        have HR := Lib.hid hres; clear hres htl
        have h2' : ¬ (xs.length : Int) < ys.length := by omega
        go_wp2
        go_ret
        exact ⟨ret_bool (by rw [HR.out]), below_drewN hbb _⟩
end Go.Proofs.YthgbncpiehcghaaGreatDoor
