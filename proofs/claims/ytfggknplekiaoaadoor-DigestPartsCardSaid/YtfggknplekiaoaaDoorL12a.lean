/- THE LAW 'DigestIs' walked; the two tables out of a row's condition. -/
import Derived.Test.YtfggknplekiaoaaDoorD12f
import Derived.Test.YtfggknplekiaoaaDoorG12j
import Derived.Test.YtfggknplekiaoaaDoorRows
import Derived.MakeChecks
namespace Go.Proofs.YtfggknplekiaoaaDoor
open Go Go.RowKit
set_option maxHeartbeats 8000000
set_option maxRecDepth 100000
set_option linter.unusedVariables false
theorem tab_of_second12 {P : Program} {W : World} {x : String × DataW Unit} {name : String} {k : IntKind} {zs : List Int} {rest : List (String × DataW Unit)} {g : Nat} {t e : TypeId} {n : Nat}
    (hg : P.globalNamed name = some g) (hty : (P.globals[g]?).map (·.type) = some t) (ht : P.underlying t = some (.array n e)) (he : P.underlying e = some (.int k)) (hce : P.cellsOf e = 1) (hct : P.cellsOf t = n)
    (h : laidMet P (x :: (name, Lib.tabData k zs) :: rest) W) : Lib.TabIs P W name k zs := by
  obtain ⟨ps, hl, hnd, hps⟩ := h
  obtain ⟨_, _, _, _, _, _, _, _, _, _, hl, rfl⟩ := hl
  obtain ⟨g', t', cs, fuel, p, q, hg', ht', hvar, hd, _, _⟩ := hl
  obtain rfl := Option.some.inj (hg.symm.trans hg')
  obtain rfl := Option.some.inj (hty.symm.trans ht')
  unfold Lib.TabIs
  rw [hvar, ← Lib.cells_of_tab ht he hce hct hd]
theorem laid12 {W : World} (l : List (String × DataW Unit)) (hl : l = [("thwart/digest.squareRoots", Rows.laid_thwart_digest_squareRoots), ("thwart/digest.cubeRoots", Rows.laid_thwart_digest_cubeRoots)]) (hp : (l.all fun x => x.2.handleName?.isNone) = true) (h : laidMetH Tryd.prog l W) :
    laidMet Tryd.prog [("thwart/digest.squareRoots", Lib.tabData .u32 (ints Dg.H.l)), ("thwart/digest.cubeRoots", Lib.tabData .u32 (ints Dg.K))] W := by
  rw [MakeChecks.laidMetH_plain _ _ _ hp] at h
  rw [hl] at h
  exact h
theorem kt_of_list {W : World} (l : List (String × DataW Unit)) (hl : l = [("thwart/digest.squareRoots", Rows.laid_thwart_digest_squareRoots), ("thwart/digest.cubeRoots", Rows.laid_thwart_digest_cubeRoots)]) (hp : (l.all fun x => x.2.handleName?.isNone) = true) (h : laidMetH Tryd.prog l W) : KT W :=
  tab_of_second12 (g := 1) (by kernel_rfl) (by kernel_rfl) Tryd.underlying47 Tryd.underlying38 (by kernel_rfl) (by kernel_rfl) (laid12 l hl hp h)
theorem ht_of_list {W : World} (l : List (String × DataW Unit)) (hl : l = [("thwart/digest.squareRoots", Rows.laid_thwart_digest_squareRoots), ("thwart/digest.cubeRoots", Rows.laid_thwart_digest_cubeRoots)]) (hp : (l.all fun x => x.2.handleName?.isNone) = true) (h : laidMetH Tryd.prog l W) : HT W :=
  Lib.tabIs_of_head (g := 0) (by kernel_rfl) (by kernel_rfl) Tryd.underlying40 Tryd.underlying38 (by kernel_rfl) (by kernel_rfl) (laid12 l hl hp h)
theorem digestis_walk (A : Option Addr) (n c : Nat) (xs : List Int) (w : World) (kt : KT w) (ht : HT w) (ha : RB w w.heap.size A n xs) (hx : Byt xs) (hc : n ≤ c) (hc2 : c ≤ maxLen) :
    Calls Tryd.prog 3 #[.slice A n c] w fun e w' => e = .returned (.bool true) ∧ Below w.heap.size w w' := by
  have AL := Lib.hid fun (W : World) (hW : Below w.heap.size w W) => alive12_any W (kt.on hW) (ht.on hW)
  by_cases hn : n ≤ 500
  · have hn' : ¬ (500 : Int) < n := by omega
    obtain ⟨OF, hOF⟩ : ∃ OF, Dg.of xs = OF := ⟨_, rfl⟩
    have hol : OF.length = 32 := by rw [← hOF]; rfl
    have eqs := eq_sum OF hol
    have DO := Lib.hid (digof_any A n c xs w kt ht ha hx hc hc2 (by omega))
    have RO := Lib.hid (show ∀ W, Below w.heap.size w W → Calls Tryd.prog 8 #[.slice A n c] W fun e w' => e = .returned (.agg ((Dg.of xs).map vb).toArray) ∧ Below W.heap.size W w' from fun W hb => refof_any A n c xs W ((ha.below hb).more hb.size) hx (by omega))
    rw [hOF] at DO RO
    obtain ⟨OS, hOS⟩ : ∃ OS, (OF.map vb).toArray = OS := ⟨_, rfl⟩
    rw [hOS] at DO RO eqs
    have hg25 : Tryd.prog.eqGuardType Tryd.prog.depth 25 = false := by kernel_rfl
    have hacc : Below w.heap.size w w := Below.refl _ _
    clear ha hx kt ht hOF hol hOS
    go_enter Tryd.func3, Tryd.ntmps3
    go_wp2_with (first
      | (go_at_call 7; (with_reducible refine DO.out.mono ?_); rintro e w1 ⟨rfl, hb1⟩; replace hacc := bthen hacc hb1; clear hb1)
      | (go_at_call 8; (with_reducible refine (RO.out _ hacc).mono ?_); rintro e w2 ⟨rfl, hb2⟩; replace hacc := bthen hacc hb2; clear hb2)
      | (go_at_call 6; (with_reducible refine (AL.out _ hacc).mono ?_); rintro e w3 ⟨rfl, hb3⟩; replace hacc := bthen hacc hb3; clear hb3))
    go_ret
    exact ⟨rfl, hacc⟩
  · have hn' : (500 : Int) < n := by omega
    have hacc : Below w.heap.size w w := Below.refl _ _
    clear ha hx
    go_enter Tryd.func3, Tryd.ntmps3
    go_wp2_with (go_at_call 6; (with_reducible refine (AL.out _ hacc).mono ?_); rintro e w3 ⟨rfl, hb3⟩; replace hacc := bthen hacc hb3; clear hb3)
    go_ret
    exact ⟨rfl, hacc⟩
end Go.Proofs.YtfggknplekiaoaaDoor
