/- WALKS OF LAYER 6, EIGHTH PART: two lists of records held against each other. -/
import Derived.Test.YtifaelipninkjaaDoorR6g
import Derived.Laws.StructEq
namespace Go.Proofs.YtifaelipninkjaaDoor
open Go Go.RowKit
set_option linter.unusedVariables false
set_option maxHeartbeats 1000000
theorem text_ne {a b : ByteArray} (h : a ≠ b) : (a.toList == b.toList) = false := by
  rw [beq_eq_false_iff_ne]
  intro he
  apply h
  rw [Lib.toList_data, Lib.toList_data] at he
  rw [← Lib.mk_data a, ← Lib.mk_data b, he]
theorem recs_next {l m : List Rc.Rec} {j : Nat} {r : Rc.Rec} (h : l.take j = m.take j) (hl : l[j]? = some r) (hm : m[j]? = some r) : l.take (j + 1) = m.take (j + 1) := by
  rw [Rc.take_next hl, Rc.take_next hm, h]
theorem recs_ne {l m : List Rc.Rec} {j : Nat} {r s : Rc.Rec} (hl : l[j]? = some r) (hm : m[j]? = some s) (h : r ≠ s) : l ≠ m := by
  intro e
  subst e
  rw [hl] at hm
  exact h (Option.some.inj hm)
set_option maxRecDepth 100000 in
theorem same6_any (A B : Option Addr) (n m c d : Nat) (l k : List Rc.Rec) (w : World) (ha : RL w w.heap.size A n l) (hb : RL w w.heap.size B m k) (hn : n ≤ 1000000) :
    Calls Tryd.prog 21 #[.slice A n c, .slice B m d] w fun e w' => e = .returned (.bool (decide (l = k))) ∧ Below w.heap.size w w' := by
  have hll := ha.1
  have hkl := hb.1
  by_cases hne : n = m
  · subst hne
    have g1 : ((n : Int) != (n : Int)) = false := by simp
    go_enter Tryd.func21, Tryd.ntmps21
    go_wp2
    go_loopw [5, 13] (fun _ i wr => ∃ j : Nat, j ≤ n ∧ i = .int .i64 j ∧ Hid (l.take j = k.take j) ∧ Below w.heap.size w wr) (fun _ i _ => n - (intOf i).toNat)
    case atStart => exact ⟨0, by omega, rfl, rfl, Below.refl _ _⟩
    case round =>
      obtain ⟨j, hj, rfl, HT, hbw⟩ := hrel
      by_cases hlt : j < n
      · have hlt' : (j : Int) < n := by omega
        obtain ⟨b1, o1, k1, v1, rfl, hbl1, hj1, q0, q1⟩ := (ha.below hbw).at_ hlt
        obtain ⟨b2, o2, k2, v2, rfl, hbl2, hj2, q2, q3⟩ := (hb.below hbw).at_ hlt
        by_cases he : k1 = k2 ∧ v1 = v2
        · obtain ⟨rfl, rfl⟩ := he
          have HN := Lib.hid (recs_next HT.out hj1 hj2)
          clear hj1 hj2
          go_wp2
          go_quiet (fail)
          go_wp2
          go_roundw
          case rel => exact ⟨j + 1, by omega, by go_num, HN.out, below_drewN hbw _⟩
          case measure => simp [intOf]; omega
        · have HN := Lib.hid (decide_eq_false (recs_ne hj1 hj2 (fun e => he (by cases e; exact ⟨rfl, rfl⟩))))
          by_cases hk : k1 = k2
          · have g2 := text_ne (fun e : v1 = v2 => he ⟨hk, e⟩)
            subst hk
            clear he hj1 hj2
            go_wp2
            go_quiet (fail)
            go_wp2
            go_ret
            exact ⟨ret_bool (by rw [HN.out]), below_drewN hbw _⟩
          · have g2 := text_ne hk
            clear he hj1 hj2 hk
            go_wp2
            go_quiet (fail)
            go_wp2
            go_ret
            exact ⟨ret_bool (by rw [HN.out]), below_drewN hbw _⟩
      · have hlt' : ¬ (j : Int) < n := by omega
        have e : l = k := by
          have := HT.out
          rwa [List.take_of_length_le (by omega), List.take_of_length_le (by omega)] at this
        have HN := Lib.hid (decide_eq_true e)
        clear e
        go_wp2
        go_ret
        exact ⟨ret_bool (by rw [HN.out]), hbw⟩
  · have g1 : ((n : Int) != (m : Int)) = true := by simp; omega
    have HN := Lib.hid (decide_eq_false (show l ≠ k from fun e => hne (by rw [← hll, ← hkl, e])))
    clear hne
    go_enter Tryd.func21, Tryd.ntmps21
    go_wp2
    go_ret
    exact ⟨ret_bool (by rw [HN.out]), Below.refl _ _⟩
end Go.Proofs.YtifaelipninkjaaDoor
