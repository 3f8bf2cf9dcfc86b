/- WALKS OF LAYER 6, SIXTEENTH PART: the law RecsParses; the table of powers out of a row's condition. -/
import Derived.Test.YtifaelipninkjaaDoorR6o
import Derived.Test.YtifaelipninkjaaDoorCards
import Derived.Lib.LaidTab
import Derived.MakeChecks
namespace Go.Proofs.YtifaelipninkjaaDoor
open Go Go.RowKit
set_option linter.unusedVariables false
set_option maxHeartbeats 2000000
/-- The table stands third on the list of what a row's condition tells. -/
theorem tab_of_third {P : Program} {W : World} {x y : String × DataW Unit} {name : String} {k : IntKind} {zs : List Int} {rest : List (String × DataW Unit)} {g : Nat} {t e : TypeId} {n : Nat}
    (hg : P.globalNamed name = some g) (hty : (P.globals[g]?).map (·.type) = some t) (ht : P.underlying t = some (.array n e)) (he : P.underlying e = some (.int k)) (hce : P.cellsOf e = 1) (hct : P.cellsOf t = n)
    (h : laidMet P (x :: y :: (name, Lib.tabData k zs) :: rest) W) : Lib.TabIs P W name k zs := by
  obtain ⟨ps, hl, hnd, hps⟩ := h
  obtain ⟨_, _, _, _, _, _, _, _, _, _, hl, rfl⟩ := hl
  obtain ⟨_, _, _, _, _, _, _, _, _, _, hl, rfl⟩ := hl
  obtain ⟨g', t', cs, fuel, p, q, hg', ht', hvar, hd, _, _⟩ := hl
  obtain rfl := Option.some.inj (hg.symm.trans hg')
  obtain rfl := Option.some.inj (hty.symm.trans ht')
  unfold Lib.TabIs
  rw [hvar, ← Lib.cells_of_tab ht he hce hct hd]
theorem tab_of_list {W : World} (l : List (String × DataW Unit)) (hl : l = [("math/bits.deBruijn32tab", Rows.laid_math_bits_deBruijn32tab), ("math/bits.deBruijn64tab", Rows.laid_math_bits_deBruijn64tab), ("internal/strconv.uint64pow10", Rows.laid_internal_strconv_uint64pow10)]) (hp : (l.all fun x => x.2.handleName?.isNone) = true) (h : laidMetH Tryd.prog l W) : Tab W := by
  rw [MakeChecks.laidMetH_plain _ _ _ hp] at h
  have h2 : laidMet Tryd.prog [("math/bits.deBruijn32tab", Rows.laid_math_bits_deBruijn32tab), ("math/bits.deBruijn64tab", Rows.laid_math_bits_deBruijn64tab), ("internal/strconv.uint64pow10", Lib.tabData .u64 Lib.pow10Tab)] W := by rw [hl] at h; exact h
  exact tab_of_third (g := 0) (by kernel_rfl) (by kernel_rfl) Tryd.underlying83 Tryd.underlying70 (by kernel_rfl) (by kernel_rfl) h2
set_option maxRecDepth 100000 in
theorem parses_walk (A : Option Addr) (n c : Nat) (xs : List Int) (w : World) (tb : Tab w) (ha : RB w w.heap.size A n xs) (hx : Byt xs) (hc : n ≤ c) (hc2 : c ≤ maxLen) :
    Calls Tryd.prog 4 #[.slice A n c] w fun e w' => e = .returned (.bool true) ∧ Below w.heap.size w w' := by
  obtain ⟨bs, rfl⟩ := Rc.byt_ints hx
  have AL := Lib.hid fun (W : World) (hW : Below w.heap.size w W) => alive6_any W (tb.on hW)
  by_cases hn : n ≤ 6000
  · have hn' : ¬ (6000 : Int) < n := by omega
    have PA := Lib.hid (parse_any A n c bs w tb ha hc hc2 (by omega))
    have RP := Lib.hid fun (W : World) (hW : Below w.heap.size w W) => refparse_any A n c bs W ((ha.below hW).more hW.size) hc hc2 (by omega)
    have hlen : (Rc.parse bs).1.length ≤ 1000000 := by
      by_cases h : (Rc.parse bs).2 = 0
      · have h2 := (Rc.parse_lay bs h).2
        have h3 : ∀ l : List Rc.Rec, Rc.layE l = 0 → l.length ≤ (Rc.flat l).length := fun l => by
          induction l with
          | nil => intro _; exact Nat.le_refl _
          | cons r t ih =>
            intro hl
            unfold Rc.layE at hl
            split at hl
            · rename_i hm
              have e : Rc.flat (r :: t) = Rc.oneL r ++ Rc.flat t := by simp [Rc.flat]
              have h5 := (Rc.lenR_bounds r).2 hm
              rw [← Rc.one_len] at h5
              have := ih hl
              rw [e, List.length_append, List.length_cons]
              omega
            · rename_i hm; exact absurd hl hm
        have h4 := h3 _ (Rc.parse_lay bs h).1
        rw [h2] at h4
        have : bs.length = n := by have := ha.1; rwa [Rc.ints_len] at this
        omega
      · rw [Rc.parse_shape bs h]; simp
    generalize (Rc.parse bs).1 = l at *
    generalize (Rc.parse bs).2 = er at *
    have SA := Lib.hid fun (W : World) (u1 u2 : Value) (h1 : RLV W u1 l) (h2 : RLV W u2 l) => (show Calls Tryd.prog 21 #[u1, u2] W fun e w' => e = .returned (.bool true) ∧ Below W.heap.size W w' from by
      obtain ⟨A1, c1, rfl, r1, _, _⟩ := h1
      obtain ⟨A2, c2, rfl, r2, _, _⟩ := h2
      have := same6_any A1 A2 l.length l.length c1 c2 l l W r1 r2 hlen
      rw [decide_eq_true rfl] at this
      exact this)
    go_enter Tryd.func4, Tryd.ntmps4
    go_wp2_with (first
      | (go_at_call 19; (with_reducible refine (PA.out).mono ?_); rintro e w1 ⟨u1, rfl, ho1, hb1⟩)
      | (go_at_call 20; (with_reducible refine (RP.out _ hb1).mono ?_); rintro e w2 ⟨u2, rfl, ho2, hb2⟩; have hb12 := bthen hb1 hb2)
      | (go_at_call 21; (with_reducible refine (SA.out _ _ _ (ho1.rlv.later hb2) ho2.rlv).mono ?_); rintro e w3 ⟨rfl, hb3⟩; have hb13 := bthen hb12 hb3)
      | (go_at_call 7; (with_reducible refine (AL.out _ hb13).mono ?_); rintro e w4 ⟨rfl, hb4⟩))
    go_ret
    exact ⟨rfl, bthen hb13 hb4⟩
  · have hn' : (6000 : Int) < n := by omega
    go_enter Tryd.func4, Tryd.ntmps4
    go_wp2_with (go_at_call 7; (with_reducible refine (AL.out _ (Below.refl _ _)).mono ?_); rintro e w4 ⟨rfl, hb4⟩)
    go_ret
    exact ⟨rfl, hb4⟩
end Go.Proofs.YtifaelipninkjaaDoor
