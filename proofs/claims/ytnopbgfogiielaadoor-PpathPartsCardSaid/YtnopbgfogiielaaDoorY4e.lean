/- WALKS OF LAYER 4, FIFTH PART: whether a text is a path; the reference's Cut and Parts. -/
import Derived.Test.YtnopbgfogiielaaDoorY4d
namespace Go.Proofs.YtnopbgfogiielaaDoor
open Go Go.RowKit Go.Shelf
set_option maxHeartbeats 1000000
/-- The slice value '.slice A n c' reads as the texts xs, in a block below B. -/
def RT (w : World) (B : Nat) (A : Option Addr) (n : Nat) (xs : List ByteArray) : Prop :=
  xs.length = n ∧ (0 < n → ∃ g, A = some ⟨g, 0, none⟩ ∧ g < B ∧ ∀ j x, xs[j]? = some x → w.cell? ⟨g, j, none⟩ = some (.string x))
theorem OS.rt {w : World} {base : Nat} {v : Value} {xs : List ByteArray} (h : OS w base v xs) : ∃ A c, v = .slice A xs.length c ∧ RT w w.heap.size A xs.length xs ∧ xs.length ≤ c ∧ c ≤ maxLen := by
  have hh := h
  rcases h.2 with ⟨rfl, h0⟩ | ⟨g, cap, cur, rfl, hb, hg, hnc, hcm, hcs, htake⟩
  · rw [h0]
    have : xs = [] := List.eq_nil_of_length_eq_zero h0
    subst this
    exact ⟨none, 0, rfl, ⟨rfl, fun h => absurd h (by omega)⟩, Nat.le_refl _, Nat.zero_le _⟩
  · refine ⟨_, cap, rfl, ⟨rfl, fun hn => ⟨g, rfl, (World.ownsRow.lt hh g rfl).2, fun j x hj => ?_⟩⟩, hnc, hcm⟩
    have hjl := (List.getElem?_eq_some_iff.1 hj).1
    rw [World.ownsRow.cellAt hh j (by omega)]
    simp [hj]
theorem RT.below {w w' : World} {B n : Nat} {A : Option Addr} {xs : List ByteArray} (h : RT w B A n xs) (hb : Below B w w') : RT w' B A n xs :=
  ⟨h.1, fun hn => by
    obtain ⟨g, e, hlt, hc⟩ := h.2 hn
    exact ⟨g, e, hlt, fun j x hj => (hb.cell (p := ⟨g, j, none⟩) hlt).trans (hc j x hj)⟩⟩
theorem RT.more {w : World} {B B' n : Nat} {A : Option Addr} {xs : List ByteArray} (h : RT w B A n xs) (hB : B ≤ B') : RT w B' A n xs :=
  ⟨h.1, fun hn => by
    obtain ⟨g, e, hlt, hc⟩ := h.2 hn
    exact ⟨g, e, by omega, hc⟩⟩
theorem RT.at_ {w : World} {B n : Nat} {A : Option Addr} {xs : List ByteArray} (h : RT w B A n xs) {k : Nat} (hk : k < n) : ∃ g x, A = some ⟨g, 0, none⟩ ∧ xs[k]? = some x ∧ w.cell? ⟨g, k, none⟩ = some (.string x) := by
  obtain ⟨g, e, _, hc⟩ := h.2 (by omega)
  have hx : xs[k]? = some (xs[k]'(by have := h.1; omega)) := List.getElem?_eq_getElem _
  exact ⟨g, _, e, hx, hc k _ hx⟩
theorem below_grown1 {w wr w2 : World} {size n : Nat} {e : TypeId} {v : Value} {xs : List Value} {o : Obj} (hb : Below w.heap.size w wr) (ho : wr.ownsRow w.heap.size e size v n xs) (hg : (wr.alloc o).grownBy w2 v.ownBlock) : Below w.heap.size w w2 :=
  (hb.alloc hb.size o).grown hg (by have := hb.size; simp; omega) fun k hk => (World.ownsRow.lt ho k hk).1
set_option maxRecDepth 100000 in
theorem may_any (s : ByteArray) (w : World) (hs : s.size ≤ 1000000) :
    Calls Tryd.prog 10 #[.string s] w fun e w' => e = .returned (.bool ((Pp.partsS s).2 == 0)) ∧ Below w.heap.size w w' := by
  have k := parts_any s w hs
  generalize Pp.partsS s = p at *
  obtain ⟨l, c⟩ := p
  have k := Lib.hid k
  go_enter Tryd.func10, Tryd.ntmps10
  go_wp2_with (go_at_call 8; refine k.out.mono ?_; rintro e w' ⟨v, rfl, ho, hb⟩)
  go_ret
  exact ⟨rfl, hb⟩
set_option maxRecDepth 100000 in
theorem refcut_any (s : ByteArray) (w : World) (hs : s.size ≤ 1000000) :
    Calls Tryd.prog 25 #[.string s] w fun e w' => ∃ v, e = .returned v ∧ OS w' w.heap.size v (Pp.pieces s) ∧ Below w.heap.size w w' := by
  obtain ⟨i0, hi, hz0, hz1, hz2⟩ := info_parts info_str
  have hplen := Pp.pieces_len s
  go_enter Tryd.func25, Tryd.ntmps25
  go_wp2
  go_loopw [3, 4, 5] (fun v f i wr => ∃ (pre : List ByteArray) (a k : Nat), f = .int .i64 a ∧ i = .int .i64 k ∧ a ≤ k ∧ k ≤ s.size ∧ Hid (Pp.pieces s = pre ++ Pp.pieces (s.extract a s.size)) ∧ Hid (k ≤ a + Pp.fi (s.extract a s.size)) ∧ OS wr w.heap.size v pre ∧ Below w.heap.size w wr)
    (fun _ _ i _ => s.size - (intOf i).toNat)
  case atStart => exact ⟨[], 0, 0, rfl, rfl, Nat.le_refl _, Nat.zero_le _, by show _ = _; rw [Pp.ext_all]; rfl, Nat.zero_le _, OS.nil _ _, Below.refl _ _⟩
  case round =>
    obtain ⟨pre, a, k, rfl, rfl, hak, hk, HP, HF, ho, hb⟩ := hrel
    have hpl : pre.length ≤ s.size := by
      have := congrArg List.length HP.out
      have h1 : 0 < (Pp.pieces (s.extract a s.size)).length := List.length_pos_iff.2 (Pp.pieces_ne _)
      simp at this
      omega
    obtain ⟨A, c, rfl, _, _, _⟩ := ho.rt
    by_cases h1 : k < s.size
    · have h1' : (k : Int) < s.size := by omega
      by_cases h2 : s[k] = 47
      · have g : ((s[k].toNat : Int) == 47) = true := by rw [h2]; rfl
        have hn := Pp.cut_hit hak h1 HF.out h2
        have HN : Hid (Pp.pieces s = (pre ++ [s.extract a k]) ++ Pp.pieces (s.extract (k + 1) s.size)) := by
          show _ = _
          rw [HP.out, hn]; simp
        have ho' := Lib.hid ho
        clear h2 hn
        go_wp2_with (at_builtin; refine wpList_append_own _ rfl _ _ 23 rfl w.heap.size 9 i0 (.string ⟨#[]⟩) 1 16 Tryd.underlying23 hi hz0 hz1 hz2 rfl (by decide) _ _ _ rfl (ho'.out.alloc _) ⟨wr.heap.size, 0, none⟩ 1 1 [.string (s.extract a k)] rfl rfl (cell_one_new _ _ _) (by simp [Value.oneCell']) (by unfold maxLen; omega) (by omega) (by have := hb.size; simp; omega) ?_; intro v2 w2 hown2 hgrow2 _)
        go_roundw
        case rel => exact ⟨pre ++ [s.extract a k], k + 1, k + 1, by go_num, by go_num, Nat.le_refl _, by omega, HN, Nat.le_add_right _ _, by unfold OS; simpa using hown2, below_grown1 hb ho'.out hgrow2⟩
        case measure => simp [intOf]; omega
      · have g : ((s[k].toNat : Int) == 47) = false := Pp.ne_byte h2
        have hn := Lib.hid (Pp.cut_miss hak h1 HF.out h2)
        clear h2
        go_wp2
        go_roundw
        case rel => exact ⟨pre, a, k + 1, rfl, by go_num, by omega, by omega, HP, hn, ho, hb⟩
        case measure => simp [intOf]; omega
    · have e : k = s.size := by omega
      subst e
      have hn := Pp.cut_end hak HF.out
      have HN : Hid (Pp.pieces s = pre ++ [s.extract a s.size]) := by
        show _ = _
        rw [HP.out, hn]
      have ho' := Lib.hid ho
      clear hn
      go_wp2_with (at_builtin; refine wpList_append_own _ rfl _ _ 23 rfl w.heap.size 9 i0 (.string ⟨#[]⟩) 1 16 Tryd.underlying23 hi hz0 hz1 hz2 rfl (by decide) _ _ _ rfl (ho'.out.alloc _) ⟨wr.heap.size, 0, none⟩ 1 1 [.string (s.extract a s.size)] rfl rfl (cell_one_new _ _ _) (by simp [Value.oneCell']) (by unfold maxLen; omega) (by omega) (by have := hb.size; simp; omega) ?_; intro v2 w2 hown2 hgrow2 _)
      go_ret
      exact ⟨_, rfl, by rw [HN.out]; unfold OS; simpa using hown2, below_grown1 hb ho'.out hgrow2⟩
end Go.Proofs.YtnopbgfogiielaaDoor
