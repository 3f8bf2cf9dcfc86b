/- WALKS OF LAYER 6, EIGHTEENTH PART: the law RecsBack. -/
import Derived.Test.YtifaelipninkjaaDoorR6s
namespace Go.Proofs.YtifaelipninkjaaDoor
open Go Go.RowKit
set_option linter.unusedVariables false
set_option maxHeartbeats 4000000
theorem layE_all : ∀ {l : List Rc.Rec}, Rc.layE l = 0 → ∀ r ∈ l, Rc.mayN r = 0
  | [], _, r, hr => by simp at hr
  | x :: t, h, r, hr => by
    unfold Rc.layE at h
    split at h
    · rename_i hx
      rcases List.mem_cons.1 hr with rfl | hr
      · exact hx
      · exact layE_all h r hr
    · rename_i hx; exact absurd h hx
theorem may_sizes {r : Rc.Rec} (h : Rc.mayN r = 0) : r.1.size ≤ 10000 ∧ r.2.size ≤ 10000 := by
  obtain ⟨h1, h2⟩ := Rc.may_ok h
  obtain ⟨_, h3, _⟩ := Rc.kOk_len h1
  rw [← Rc.size_eq] at h3
  omega
theorem flat_more : ∀ {l : List Rc.Rec}, Rc.layE l = 0 → l.length * 5 ≤ (Rc.flat l).length
  | [], _ => by simp
  | r :: t, hl => by
    unfold Rc.layE at hl
    split at hl
    · rename_i hm
      have e : Rc.flat (r :: t) = Rc.oneL r ++ Rc.flat t := by simp [Rc.flat]
      have h5 := (Rc.lenR_bounds r).2 hm
      rw [← Rc.one_len] at h5
      have := flat_more hl
      rw [e, List.length_append, List.length_cons]
      omega
    · rename_i hm; exact absurd hl hm
/-- Two lists of records that two values read as. -/
theorem same_rl {w : World} {u v : Value} {l : List Rc.Rec} (hu : RLV w u l) (hv : RLV w v l) (hl : l.length ≤ 1000000) :
    Calls Tryd.prog 21 #[u, v] w fun e w' => e = .returned (.bool true) ∧ Below w.heap.size w w' := by
  obtain ⟨A, c, rfl, h1, _, _⟩ := hu
  obtain ⟨B, d, rfl, h2, _, _⟩ := hv
  have := same6_any A B _ _ c d l l w h1 h2 hl
  rw [decide_eq_true rfl] at this
  exact this
theorem rv_parse {w : World} {u : Value} {bs : Rc.Bs} (tb : Tab w) (hu : RV w u bs) (hl : bs.length ≤ 1000000) :
    Calls Tryd.prog 19 #[u] w fun e w' => ∃ v, e = .returned (.tuple #[v, .int .i64 (Rc.parse bs).2]) ∧ RO w' w.heap.size 39 v (Rc.parse bs).1 ∧ Below w.heap.size w w' := by
  obtain ⟨A, c, rfl, h1, h2, h3⟩ := hu
  exact parse_any A _ c bs w tb h1 h2 h3 hl
theorem rlv_lay {w : World} {u : Value} {l : List Rc.Rec} (tb : Tab w) (hu : RLV w u l) (hl : l.length ≤ 10000) (hs : ∀ r ∈ l, r.1.size ≤ 10000 ∧ r.2.size ≤ 10000) :
    Calls Tryd.prog 8 #[u] w fun e w' => ∃ v, e = .returned (.tuple #[v, .int .i64 (Rc.layE l : Nat)]) ∧ RV w' v (Rc.layB l) ∧ Below w.heap.size w w' := by
  obtain ⟨A1, c1, rfl, h1, _, _⟩ := hu
  exact lay6_any A1 _ c1 l w tb h1 hl hs
set_option maxRecDepth 100000 in
theorem back_walk (A : Option Addr) (n c : Nat) (l : List Rc.Rec) (B : Option Addr) (m d : Nat) (xs : List Int) (w : World) (tb : Tab w) (hl : RL w w.heap.size A n l) (hc : n ≤ c) (hc2 : c ≤ maxLen)
    (hb : RB w w.heap.size B m xs) (hx : Byt xs) (hd : m ≤ d) (hd2 : d ≤ maxLen) :
    Calls Tryd.prog 5 #[.slice A n c, .slice B m d] w fun e w' => e = .returned (.bool true) ∧ Below w.heap.size w w' := by
  obtain ⟨bs, rfl⟩ := Rc.byt_ints hx
  have hll := hl.1
  have hbl : bs.length = m := by have := hb.1; rwa [Rc.ints_len] at this
  have AL := Lib.hid fun (W : World) (hW : Below w.heap.size w W) => alive6_any W (tb.on hW)
  have FA := far_any A n c l w hl hc hc2
  by_cases hfar : farB l = true
  · rw [hfar] at FA
    have FA := Lib.hid FA
    clear hfar
    go_enter Tryd.func5, Tryd.ntmps5
    go_wp2_with (first
      | (go_at_call 6; (with_reducible refine (FA.out).mono ?_); rintro e w1 ⟨rfl, hb1⟩)
      | (go_at_call 7; (with_reducible refine (AL.out _ hb1).mono ?_); rintro e w4 ⟨rfl, hb4⟩))
    go_ret
    exact ⟨rfl, bthen hb1 hb4⟩
  have hfar2 : farB l = false := by simpa using hfar
  rw [hfar2] at FA
  have FA := Lib.hid FA
  obtain ⟨h10, hsz⟩ := far_no hfar2
  clear hfar hfar2
  by_cases hkl : 6000 < m
  · have hkl' : (6000 : Int) < m := by omega
    go_enter Tryd.func5, Tryd.ntmps5
    go_wp2_with (first
      | (go_at_call 6; (with_reducible refine (FA.out).mono ?_); rintro e w1 ⟨rfl, hb1⟩)
      | (go_at_call 7; (with_reducible refine (AL.out _ hb1).mono ?_); rintro e w4 ⟨rfl, hb4⟩))
    go_ret
    exact ⟨rfl, bthen hb1 hb4⟩
  have hkl' : ¬ (6000 : Int) < m := by omega
  have TH := Lib.hid fun (W : World) (hW : Below w.heap.size w W) => theirs_any A n c l W ((hl.below hW).more hW.size) (by omega)
  have LA := Lib.hid fun (W : World) (u : Value) (hW : Below w.heap.size w W) (hu : RLV W u l) => rlv_lay (tb.on hW) hu (by omega) (fun r hr => by have := hsz r hr; omega)
  have ARG := Lib.hid fun (W : World) (hW : Below w.heap.size w W) => (show RLV W (.slice A n c) l from ⟨A, c, by rw [hll], by rw [hll]; exact (hl.below hW).more hW.size, by omega, hc2⟩)
  have ARB := Lib.hid fun (W : World) (hW : Below w.heap.size w W) => (show RV W (.slice B m d) bs from ⟨B, d, by rw [hbl], by rw [hbl]; exact (hb.below hW).more hW.size, by omega, hd2⟩)
  have PB := Lib.hid fun (W : World) (hW : Below w.heap.size w W) => rv_parse (tb.on hW) (ARB.out W hW) (by omega)
  have hff := Rc.flat_len l
  have PS := Lib.hid fun (W : World) (u : Value) (hW : Below w.heap.size w W) (h0 : Rc.layE l = 0) (hu : RV W u (Rc.layB l)) => (show Calls Tryd.prog 19 #[u] W fun e w' => ∃ v, e = .returned (.tuple #[v, .int .i64 (0 : Nat)]) ∧ RO w' W.heap.size 39 v l ∧ Below W.heap.size W w' from by
    have e : Rc.layB l = Rc.flat l := by unfold Rc.layB; rw [if_pos h0]
    rw [e] at hu
    have := rv_parse (tb.on hW) hu (by omega)
    rw [Rc.lay_parse l h0] at this
    exact this)
  have SA := Lib.hid fun (W : World) (u : Value) (hW : Below w.heap.size w W) (hu : RLV W u l) => same_rl hu (ARG.out W hW) (by omega)
  have hsh := Rc.parse_shape bs
  have hpl := Rc.parse_lay bs
  have L2 := Lib.hid fun (W : World) (u : Value) (hW : Below w.heap.size w W) (h0 : (Rc.parse bs).2 = 0) (hu : RLV W u (Rc.parse bs).1) => (show Calls Tryd.prog 8 #[u] W fun e w' => ∃ v, e = .returned (.tuple #[v, .int .i64 (0 : Nat)]) ∧ RV w' v bs ∧ Below W.heap.size W w' from by
    obtain ⟨p1, p2⟩ := hpl h0
    have hm := flat_more p1
    rw [p2, hbl] at hm
    have := rlv_lay (tb.on hW) hu (by omega) (fun r hr => may_sizes (layE_all p1 r hr))
    have e : Rc.layB (Rc.parse bs).1 = bs := by unfold Rc.layB; rw [if_pos p1, p2]
    rw [p1, e] at this
    exact this)
  have SB := Lib.hid fun (W : World) (u : Value) (hW : Below w.heap.size w W) (hu : RV W u bs) => same_rv hu (ARB.out W hW) (by omega)
  clear hpl hff hkl tb hsz
  generalize Rc.layB l = lb at *
  generalize Rc.layE l = le at *
  generalize (Rc.parse bs).1 = l2 at *
  generalize (Rc.parse bs).2 = er at *
  by_cases hle : le = 0
  · subst hle
    have PS2 := Lib.hid fun W u hW hu => PS.out W u hW rfl hu
    clear PS
    by_cases her : er = 0
    · subst her
      have L22 := Lib.hid fun W u hW hu => L2.out W u hW rfl hu
      clear L2 hsh
      go_enter Tryd.func5, Tryd.ntmps5
      go_wp2_with (first
        | (go_at_call 6; (with_reducible refine (FA.out).mono ?_); rintro e w1 ⟨rfl, hb1⟩)
        | (go_at_call 9; (with_reducible refine (TH.out _ hb1).mono ?_); rintro e w2 ⟨u2, rfl, ho2, hb2⟩; replace hb2 := bthen hb1 hb2)
        | (go_at_call 8; (with_reducible refine (LA.out _ _ hb2 ho2.rlv).mono ?_); rintro e w3 ⟨u3, rfl, hv3, hb3⟩; replace hb3 := bthen hb2 hb3)
        | (go_at_call 19; (with_reducible refine (PS2.out _ _ hb3 hv3).mono ?_); rintro e w4 ⟨u4, rfl, ho4, hb4⟩; replace hb4 := bthen hb3 hb4)
        | (go_at_call 21; (with_reducible refine (SA.out _ _ hb4 ho4.rlv).mono ?_); rintro e w5 ⟨rfl, hb5⟩; replace hb5 := bthen hb4 hb5)
        | (go_at_call 19; (with_reducible refine (PB.out _ hb5).mono ?_); rintro e w6 ⟨u6, rfl, ho6, hb6⟩; replace hb6 := bthen hb5 hb6)
        | (go_at_call 8; (with_reducible refine (L22.out _ _ hb6 ho6.rlv).mono ?_); rintro e w7 ⟨u7, rfl, hv7, hb7⟩; replace hb7 := bthen hb6 hb7)
        | (go_at_call 15; (with_reducible refine (SB.out _ _ hb7 hv7).mono ?_); rintro e w8 ⟨rfl, hb8⟩; replace hb8 := bthen hb7 hb8)
        | (go_at_call 7; (with_reducible refine (AL.out _ hb8).mono ?_); rintro e w9 ⟨rfl, hb9⟩))
      go_ret
      exact ⟨rfl, bthen hb8 hb9⟩
    · have hen : ((er : Int) != 0) = true := by simp; omega
      have hnil : l2 = [] := hsh her
      subst hnil
      have ONIL : ∀ (W : World) (b : Nat) (u : Value), RO W b 39 u [] → ∃ A2 c2, u = .slice A2 0 c2 := fun W b u h => by
        obtain ⟨A2, c2, e, _⟩ := owns_slice h
        exact ⟨A2, c2, e⟩
      clear L2 hsh her
      go_enter Tryd.func5, Tryd.ntmps5
      go_wp2_with (first
        | (go_at_call 6; (with_reducible refine (FA.out).mono ?_); rintro e w1 ⟨rfl, hb1⟩)
        | (go_at_call 9; (with_reducible refine (TH.out _ hb1).mono ?_); rintro e w2 ⟨u2, rfl, ho2, hb2⟩; replace hb2 := bthen hb1 hb2)
        | (go_at_call 8; (with_reducible refine (LA.out _ _ hb2 ho2.rlv).mono ?_); rintro e w3 ⟨u3, rfl, hv3, hb3⟩; replace hb3 := bthen hb2 hb3)
        | (go_at_call 19; (with_reducible refine (PS2.out _ _ hb3 hv3).mono ?_); rintro e w4 ⟨u4, rfl, ho4, hb4⟩; replace hb4 := bthen hb3 hb4)
        | (go_at_call 21; (with_reducible refine (SA.out _ _ hb4 ho4.rlv).mono ?_); rintro e w5 ⟨rfl, hb5⟩; replace hb5 := bthen hb4 hb5)
        | (go_at_call 19; (with_reducible refine (PB.out _ hb5).mono ?_); rintro e w6 ⟨u6, rfl, ho6, hb6⟩; replace hb6 := bthen hb5 hb6; obtain ⟨A6, c6, rfl⟩ := ONIL _ _ _ ho6)
        | (go_at_call 7; (with_reducible refine (AL.out _ hb6).mono ?_); rintro e w9 ⟨rfl, hb9⟩))
      go_ret
      exact ⟨rfl, bthen hb6 hb9⟩
  · have hln : ((le : Int) == 0) = false := by simp; omega
    clear PS hle
    by_cases her : er = 0
    · subst her
      have L22 := Lib.hid fun W u hW hu => L2.out W u hW rfl hu
      clear L2 hsh
      go_enter Tryd.func5, Tryd.ntmps5
      go_wp2_with (first
        | (go_at_call 6; (with_reducible refine (FA.out).mono ?_); rintro e w1 ⟨rfl, hb1⟩)
        | (go_at_call 9; (with_reducible refine (TH.out _ hb1).mono ?_); rintro e w2 ⟨u2, rfl, ho2, hb2⟩; replace hb2 := bthen hb1 hb2)
        | (go_at_call 8; (with_reducible refine (LA.out _ _ hb2 ho2.rlv).mono ?_); rintro e w3 ⟨u3, rfl, hv3, hb3⟩; replace hb3 := bthen hb2 hb3)
        | (go_at_call 19; (with_reducible refine (PB.out _ hb3).mono ?_); rintro e w6 ⟨u6, rfl, ho6, hb6⟩; replace hb6 := bthen hb3 hb6)
        | (go_at_call 8; (with_reducible refine (L22.out _ _ hb6 ho6.rlv).mono ?_); rintro e w7 ⟨u7, rfl, hv7, hb7⟩; replace hb7 := bthen hb6 hb7)
        | (go_at_call 15; (with_reducible refine (SB.out _ _ hb7 hv7).mono ?_); rintro e w8 ⟨rfl, hb8⟩; replace hb8 := bthen hb7 hb8)
        | (go_at_call 7; (with_reducible refine (AL.out _ hb8).mono ?_); rintro e w9 ⟨rfl, hb9⟩))
      go_ret
      exact ⟨rfl, bthen hb8 hb9⟩
    · have hen : ((er : Int) != 0) = true := by simp; omega
      have hnil : l2 = [] := hsh her
      subst hnil
      have ONIL : ∀ (W : World) (b : Nat) (u : Value), RO W b 39 u [] → ∃ A2 c2, u = .slice A2 0 c2 := fun W b u h => by
        obtain ⟨A2, c2, e, _⟩ := owns_slice h
        exact ⟨A2, c2, e⟩
      clear L2 hsh her
      go_enter Tryd.func5, Tryd.ntmps5
      go_wp2_with (first
        | (go_at_call 6; (with_reducible refine (FA.out).mono ?_); rintro e w1 ⟨rfl, hb1⟩)
        | (go_at_call 9; (with_reducible refine (TH.out _ hb1).mono ?_); rintro e w2 ⟨u2, rfl, ho2, hb2⟩; replace hb2 := bthen hb1 hb2)
        | (go_at_call 8; (with_reducible refine (LA.out _ _ hb2 ho2.rlv).mono ?_); rintro e w3 ⟨u3, rfl, hv3, hb3⟩; replace hb3 := bthen hb2 hb3)
        | (go_at_call 19; (with_reducible refine (PB.out _ hb3).mono ?_); rintro e w6 ⟨u6, rfl, ho6, hb6⟩; replace hb6 := bthen hb3 hb6; obtain ⟨A6, c6, rfl⟩ := ONIL _ _ _ ho6)
        | (go_at_call 7; (with_reducible refine (AL.out _ hb6).mono ?_); rintro e w9 ⟨rfl, hb9⟩))
      go_ret
      exact ⟨rfl, bthen hb6 hb9⟩
end Go.Proofs.YtifaelipninkjaaDoor
