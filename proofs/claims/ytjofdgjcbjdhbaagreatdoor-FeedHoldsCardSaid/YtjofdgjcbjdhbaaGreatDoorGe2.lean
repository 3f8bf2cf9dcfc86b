/- WALKS OF LAYER 8, ELEVENTH PART: the member of a header, the code's, in one contract. -/
import Derived.Test.YtjofdgjcbjdhbaaGreatDoorGe3
import Derived.Test.YtjofdgjcbjdhbaaGreatDoorGh2
import Derived.Test.YtjofdgjcbjdhbaaGreatDoorRows
import Derived.MakeChecks
import Derived.Lay
namespace Go.Proofs.YtjofdgjcbjdhbaaGreatDoor
open Go Go.RowKit
set_option maxHeartbeats 1600000
set_option linter.unusedVariables false
/-- What becomes of a header, records and bytes: a member in memory, and the error's number. -/
def FromOk (w w' : World) (e : Ending) (rs : List Rc.Rec) (p nm l : ByteArray) (k m u g t : Int) (xs : List Int) : Prop :=
  ∃ A' n' c', e = .returned (.tuple #[.agg #[.string (Mb.rS (Mb.fE rs p nm l k m u g t xs) (Mb.fP rs p nm)), .int .i64 (Mb.rI (Mb.fE rs p nm l k m u g t xs) (Mb.kin k)), .int .i64 (Mb.rI (Mb.fE rs p nm l k m u g t xs) m), .int .i64 (Mb.rI (Mb.fE rs p nm l k m u g t xs) u), .int .i64 (Mb.rI (Mb.fE rs p nm l k m u g t xs) g), .int .i64 (Mb.rI (Mb.fE rs p nm l k m u g t xs) t), .string (Mb.rS (Mb.fE rs p nm l k m u g t xs) (Mb.fL rs k l)), .slice A' n' c'], .int .i64 (Mb.fE rs p nm l k m u g t xs)]) ∧
      RB w' w'.heap.size A' n' (Mb.rX (Mb.fE rs p nm l k m u g t xs) (Mb.fX k xs)) ∧ n' ≤ c' ∧ c' ≤ maxLen ∧ Below w.heap.size w w'
/-- The same; bytes that are there are the call's own. -/
def FromOk2 (w w' : World) (e : Ending) (rs : List Rc.Rec) (p nm l : ByteArray) (k m u g t : Int) (xs : List Int) : Prop :=
  ∃ A' n' c', e = .returned (.tuple #[.agg #[.string (Mb.rS (Mb.fE rs p nm l k m u g t xs) (Mb.fP rs p nm)), .int .i64 (Mb.rI (Mb.fE rs p nm l k m u g t xs) (Mb.kin k)), .int .i64 (Mb.rI (Mb.fE rs p nm l k m u g t xs) m), .int .i64 (Mb.rI (Mb.fE rs p nm l k m u g t xs) u), .int .i64 (Mb.rI (Mb.fE rs p nm l k m u g t xs) g), .int .i64 (Mb.rI (Mb.fE rs p nm l k m u g t xs) t), .string (Mb.rS (Mb.fE rs p nm l k m u g t xs) (Mb.fL rs k l)), .slice A' n' c'], .int .i64 (Mb.fE rs p nm l k m u g t xs)]) ∧
      RB w' w'.heap.size A' n' (Mb.rX (Mb.fE rs p nm l k m u g t xs) (Mb.fX k xs)) ∧ n' ≤ c' ∧ c' ≤ maxLen ∧ (0 < n' → OBn w' w.heap.size 5 (.slice A' n' c') n' (Mb.rX (Mb.fE rs p nm l k m u g t xs) (Mb.fX k xs))) ∧ Below w.heap.size w w'
theorem from_ext0 {w w' : World} {e : Ending} {f : Option Addr → Nat → Nat → Ending} (h : ∃ A' n' c', e = f A' n' c' ∧ RB w' w'.heap.size A' n' [] ∧ n' ≤ c' ∧ c' ≤ maxLen ∧ Below w.heap.size w w') :
    ∃ A' n' c', e = f A' n' c' ∧ RB w' w'.heap.size A' n' [] ∧ n' ≤ c' ∧ c' ≤ maxLen ∧ (0 < n' → OBn w' w.heap.size 5 (.slice A' n' c') n' []) ∧ Below w.heap.size w w' := by
  obtain ⟨A', n', c', h1, h2, h3, h4, h5⟩ := h
  exact ⟨A', n', c', h1, h2, h3, h4, fun hn => absurd h2.1 (by simp; omega), h5⟩
theorem from_ext1 {w w' : World} {e : Ending} {f : Option Addr → Nat → Nat → Ending} {xs : List Int} (h : ∃ A' n' c', e = f A' n' c' ∧ OBn w' w.heap.size 5 (.slice A' n' c') n' xs ∧ n' ≤ c' ∧ c' ≤ maxLen ∧ Below w.heap.size w w') :
    ∃ A' n' c', e = f A' n' c' ∧ RB w' w'.heap.size A' n' xs ∧ n' ≤ c' ∧ c' ≤ maxLen ∧ (0 < n' → OBn w' w.heap.size 5 (.slice A' n' c') n' xs) ∧ Below w.heap.size w w' := by
  obtain ⟨A', n', c', h1, h2, h3, h4, h5⟩ := h
  obtain ⟨A9, c9, e9, hr9, _, _⟩ := OBn.slice h2
  cases e9
  exact ⟨A', n', c', h1, hr9, h3, h4, fun _ => h2, h5⟩
/-- The same, of one kind. -/
theorem fromOk_of {w w' : World} {e : Ending} {rs : List Rc.Rec} {p nm l : ByteArray} {k m u g t : Int} {xs : List Int} {L : ByteArray} {kk : Int} {X : List Int} (hk : Mb.kin k = kk) (h0 : kk ≠ 0) (hL : Mb.fL rs k l = L) (hX : Mb.fX k xs = X) (hE : Mb.may (Mb.fP rs p nm) L kk m u g t X.length = 0)
    (h : ∃ A' n' c', e = .returned (.tuple #[.agg #[.string (Mb.fP rs p nm), .int .i64 kk, .int .i64 m, .int .i64 u, .int .i64 g, .int .i64 t, .string L, .slice A' n' c'], .int .i64 0]) ∧ RB w' w'.heap.size A' n' X ∧ n' ≤ c' ∧ c' ≤ maxLen ∧ (0 < n' → OBn w' w.heap.size 5 (.slice A' n' c') n' X) ∧ Below w.heap.size w w') : FromOk2 w w' e rs p nm l k m u g t xs := by
  have e0 : Mb.fE rs p nm l k m u g t xs = 0 := by
    unfold Mb.fE
    rw [hk, hL, hX, if_neg h0, hE]
  unfold FromOk2
  rw [e0, hk, hL, hX]
  simpa [Mb.rS, Mb.rI, Mb.rX] using h
theorem fromOk_bad {w w' : World} {e : Ending} {rs : List Rc.Rec} {p nm l : ByteArray} {k m u g t : Int} {xs : List Int} {E : Int} (he : Mb.fE rs p nm l k m u g t xs = E) (hE : E ≠ 0)
    (h : ∃ A' n' c', e = .returned (.tuple #[.agg #[.string ⟨#[]⟩, .int .i64 0, .int .i64 0, .int .i64 0, .int .i64 0, .int .i64 0, .string ⟨#[]⟩, .slice A' n' c'], .int .i64 E]) ∧ RB w' w'.heap.size A' n' [] ∧ n' ≤ c' ∧ c' ≤ maxLen ∧ (0 < n' → OBn w' w.heap.size 5 (.slice A' n' c') n' []) ∧ Below w.heap.size w w') : FromOk2 w w' e rs p nm l k m u g t xs := by
  unfold FromOk2
  rw [he]
  simpa [Mb.rS, Mb.rI, Mb.rX, hE] using h
theorem FromOk2.ok {w w' : World} {e : Ending} {rs : List Rc.Rec} {p nm l : ByteArray} {k m u g t : Int} {xs : List Int} (h : FromOk2 w w' e rs p nm l k m u g t xs) : FromOk w w' e rs p nm l k m u g t xs := by
  obtain ⟨A', n', c', h1, h2, h3, h4, _, h5⟩ := h
  exact ⟨A', n', c', h1, h2, h3, h4, h5⟩
theorem mfrom2_any (p nm l : ByteArray) (m u g t z k : Int) (B : Option Addr) (nr cr : Nat) (rs : List Rc.Rec) (A : Option Addr) (n c : Nat) (xs : List Int) (w : World) (hr : RL w w.heap.size B nr rs) (hnr : nr ≤ 100000) (ha : RB w w.heap.size A n xs) (hn : n ≤ 100000) (hp : p.size ≤ 1000) (hnm : nm.size ≤ 1000) (hl : l.size ≤ 1000)
    (hs : ∀ r ∈ rs, r.2.size ≤ 100000) :
    Calls Tryz.prog 93 #[.agg #[.string p, .string nm, .int .i64 m, .int .i64 u, .int .i64 g, .int .i64 t, .int .i64 z, .int .u8 k, .string l], .slice B nr cr, .slice A n c] w fun e w' => FromOk2 w w' e rs p nm l k m u g t xs := by
  have hxl := ha.1
  have kb := Mb.kin_bd k
  have efE : Mb.fE rs p nm l k m u g t xs = if Mb.kin k = 0 then 11 else Mb.may (Mb.fP rs p nm) (Mb.fL rs k l) (Mb.kin k) m u g t (Mb.fX k xs).length := rfl
  have kc : Mb.kin k = 0 ∨ Mb.kin k = 1 ∨ Mb.kin k = 2 ∨ Mb.kin k = 3 ∨ Mb.kin k = 4 := by omega
  rcases kc with kc | kc | kc | kc | kc
  · exact (mfrom_0 p nm l m u g t z k B nr cr rs A n c xs w hr hnr ha hn hp hnm hl hs kc).mono fun e w' h => fromOk_bad (by rw [efE, kc]; rfl) (by decide) (from_ext0 h)
  · have hL : Mb.fL rs k l = ⟨#[]⟩ := by unfold Mb.fL; rw [kc]; rfl
    have hX : Mb.fX k xs = xs := by unfold Mb.fX; rw [kc]; rfl
    rw [kc, if_neg (by decide), hL, hX] at efE
    by_cases hE : Mb.may (Mb.fP rs p nm) ⟨#[]⟩ 1 m u g t n = 0
    · exact (mfrom_1 p nm l m u g t z k B nr cr rs A n c xs w hr hnr ha hn hp hnm hl hs kc hE).mono fun e w' h => fromOk_of kc (by decide) hL hX (by rw [hxl]; exact hE) (from_ext1 h)
    · exact (mfrom_1b p nm l m u g t z k B nr cr rs A n c xs w hr hnr ha hn hp hnm hl hs kc hE).mono fun e w' h => fromOk_bad (by rw [efE, hxl]) hE (from_ext0 h)
  · have hL : Mb.fL rs k l = Mb.told8 rs Mb.kLink l := by unfold Mb.fL; rw [kc]; rfl
    have hX : Mb.fX k xs = [] := by unfold Mb.fX; rw [kc]; rfl
    rw [kc, if_neg (by decide), hL, hX] at efE
    by_cases hE : Mb.may (Mb.fP rs p nm) (Mb.told8 rs Mb.kLink l) 2 m u g t 0 = 0
    · exact (mfrom_2 p nm l m u g t z k B nr cr rs A n c xs w hr hnr ha hn hp hnm hl hs kc hE).mono fun e w' h => fromOk_of kc (by decide) hL hX hE (from_ext0 h)
    · exact (mfrom_2b p nm l m u g t z k B nr cr rs A n c xs w hr hnr ha hn hp hnm hl hs kc hE).mono fun e w' h => fromOk_bad efE hE (from_ext0 h)
  · have hL : Mb.fL rs k l = Mb.told8 rs Mb.kLink l := by unfold Mb.fL; rw [kc]; rfl
    have hX : Mb.fX k xs = [] := by unfold Mb.fX; rw [kc]; rfl
    rw [kc, if_neg (by decide), hL, hX] at efE
    by_cases hE : Mb.may (Mb.fP rs p nm) (Mb.told8 rs Mb.kLink l) 3 m u g t 0 = 0
    · exact (mfrom_3 p nm l m u g t z k B nr cr rs A n c xs w hr hnr ha hn hp hnm hl hs kc hE).mono fun e w' h => fromOk_of kc (by decide) hL hX hE (from_ext0 h)
    · exact (mfrom_3b p nm l m u g t z k B nr cr rs A n c xs w hr hnr ha hn hp hnm hl hs kc hE).mono fun e w' h => fromOk_bad efE hE (from_ext0 h)
  · have hL : Mb.fL rs k l = ⟨#[]⟩ := by unfold Mb.fL; rw [kc]; rfl
    have hX : Mb.fX k xs = [] := by unfold Mb.fX; rw [kc]; rfl
    rw [kc, if_neg (by decide), hL, hX] at efE
    by_cases hE : Mb.may (Mb.fP rs p nm) ⟨#[]⟩ 4 m u g t 0 = 0
    · exact (mfrom_4 p nm l m u g t z k B nr cr rs A n c xs w hr hnr ha hn hp hnm hl hs kc hE).mono fun e w' h => fromOk_of kc (by decide) hL hX hE (from_ext0 h)
    · exact (mfrom_4b p nm l m u g t z k B nr cr rs A n c xs w hr hnr ha hn hp hnm hl hs kc hE).mono fun e w' h => fromOk_bad efE hE (from_ext0 h)
theorem mfrom_any (p nm l : ByteArray) (m u g t z k : Int) (B : Option Addr) (nr cr : Nat) (rs : List Rc.Rec) (A : Option Addr) (n c : Nat) (xs : List Int) (w : World) (hr : RL w w.heap.size B nr rs) (hnr : nr ≤ 100000) (ha : RB w w.heap.size A n xs) (hn : n ≤ 100000) (hp : p.size ≤ 1000) (hnm : nm.size ≤ 1000) (hl : l.size ≤ 1000)
    (hs : ∀ r ∈ rs, r.2.size ≤ 100000) :
    Calls Tryz.prog 93 #[.agg #[.string p, .string nm, .int .i64 m, .int .i64 u, .int .i64 g, .int .i64 t, .int .i64 z, .int .u8 k, .string l], .slice B nr cr, .slice A n c] w fun e w' => FromOk w w' e rs p nm l k m u g t xs :=
  (mfrom2_any p nm l m u g t z k B nr cr rs A n c xs w hr hnr ha hn hp hnm hl hs).mono fun _ _ h => h.ok
end Go.Proofs.YtjofdgjcbjdhbaaGreatDoor
/- WALKS OF LAYER 8, TWELFTH PART: alive. -/
namespace Go.Proofs.YtjofdgjcbjdhbaaGreatDoor
open Go Go.RowKit
set_option maxHeartbeats 6400000
set_option maxRecDepth 100000
set_option linter.unusedVariables false
theorem path_a : Mb.path ⟨#[97]⟩ = true := by
  unfold Mb.path
  rw [Pp.parts_yes (by decide) (by rw [Pp.pieces_last _ (by decide +kernel)]; decide +kernel)]
  rfl
theorem may_a : Mb.may ⟨#[97]⟩ ⟨#[]⟩ 4 0 0 0 0 0 = 0 := by
  unfold Mb.may
  rw [if_pos path_a, if_pos (by decide), if_pos (by decide)]
  decide
theorem cut_a : Sf.IsCut ⟨#[97]⟩ 0 := .inl ⟨rfl, fun j ⟨_, a, b, _⟩ => by
  have : (⟨#[97]⟩ : ByteArray).size = 1 := rfl
  omega⟩
end Go.Proofs.YtjofdgjcbjdhbaaGreatDoor
/- THE TABLE OF POWERS OF TEN, out of what the rows of layer 8 list. -/
namespace Go.Proofs.YtjofdgjcbjdhbaaGreatDoor
open Go Go.RowKit
set_option maxHeartbeats 2000000
set_option maxRecDepth 100000
/-- The table stands third on the list of what a row's condition tells. -/
theorem tab_of_third8 {P : Program} {W : World} {x y : String × DataW Unit} {name : String} {k : IntKind} {zs : List Int} {rest : List (String × DataW Unit)} {g : Nat} {t e : TypeId} {n : Nat}
    (hg : P.globalNamed name = some g) (hty : (P.globals[g]?).map (·.type) = some t) (ht : P.underlying t = some (.array n e)) (he : P.underlying e = some (.int k)) (hce : P.cellsOf e = 1) (hct : P.cellsOf t = n)
    (h : laidMet P (x :: y :: (name, Lib.tabData k zs) :: rest) W) : Lib.TabIs P W name k zs := by
  obtain ⟨ps, hl, hnd, hps⟩ := h
  obtain ⟨_, _, _, _, _, _, _, _, _, _, hl, rfl⟩ := hl
  obtain ⟨_, _, _, _, _, _, _, _, _, _, hl, rfl⟩ := hl
  obtain ⟨g', t', cs, fuel, p, q, hg', ht', hvar, hd, _, _⟩ := hl
  obtain rfl := Option.some.inj (hg.symm.trans hg')
  obtain rfl := Option.some.inj (hty.symm.trans ht')
  unfold Lib.TabIs
  rw [hvar, ← Lib.cells_of_tab ht he hce hct hd]
theorem tab_of_list8 {W : World} (l : List (String × DataW Unit)) (hl : l = [("math/bits.deBruijn32tab", Rows.laid_math_bits_deBruijn32tab), ("math/bits.deBruijn64tab", Rows.laid_math_bits_deBruijn64tab), ("internal/strconv.uint64pow10", Rows.laid_internal_strconv_uint64pow10), ("unicode/utf8.acceptRanges", Rows.laid_unicode_utf8_acceptRanges), ("unicode/utf8.first", Rows.laid_unicode_utf8_first)]) (hp : (l.all fun x => x.2.handleName?.isNone) = true) (h : laidMetH Tryz.prog l W) : Tab W := by
  rw [MakeChecks.laidMetH_plain _ _ _ hp] at h
  have h2 : laidMet Tryz.prog [("math/bits.deBruijn32tab", Rows.laid_math_bits_deBruijn32tab), ("math/bits.deBruijn64tab", Rows.laid_math_bits_deBruijn64tab), ("internal/strconv.uint64pow10", Lib.tabData .u64 Lib.pow10Tab), ("unicode/utf8.acceptRanges", Rows.laid_unicode_utf8_acceptRanges), ("unicode/utf8.first", Rows.laid_unicode_utf8_first)] W := by rw [hl] at h; exact h
  exact tab_of_third8 (g := 3) (by kernel_rfl) (by kernel_rfl) Tryz.underlying236 Tryz.underlying218 (by kernel_rfl) (by kernel_rfl) h2
end Go.Proofs.YtjofdgjcbjdhbaaGreatDoor
