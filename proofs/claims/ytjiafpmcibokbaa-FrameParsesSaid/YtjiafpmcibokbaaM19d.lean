/- LAYER 19, plain, fourth part: what the reader reads is what the fields tell. -/
import Derived.Test.YtjiafpmcibokbaaP19k
namespace Go.Proofs.Ytjiafpmcibokbaa
open Go Go.RowKit
set_option linter.unusedVariables false
set_option maxRecDepth 10000
namespace Fm
def readL : List Int → Fr → Rs → Fr × Rs
  | [], b, s => (b, s)
  | x :: l, b, s => readL l (readE x b s).1 (readE x b s).2
theorem readL_take {l : List Int} : ∀ {j : Nat} {b : Fr} {s : Rs}, j < l.length → readL (l.take (j + 1)) b s = readE (l.getD j 0) (readL (l.take j) b s).1 (readL (l.take j) b s).2 := by
  induction l with
  | nil => intro j b s h; simp at h
  | cons x l ih =>
    intro j b s h
    cases j with
    | zero => simp [readL]
    | succ j =>
      have := ih (j := j) (b := (readE x b s).1) (s := (readE x b s).2) (by simpa using h)
      simpa [readL] using this
def endE (s : Rs) : Int := if s.2 then 4 else if 0 < s.1.length then 3 else 0
/-- What the program makes of a frame and what is left. -/
def finE (q : Fr × Rs) : Fr × Int := if endE q.2 ≠ 0 then (nul, endE q.2) else if mayP q.1 ≠ 0 then (nul, mayP q.1) else (q.1, 0)
def fin (q : Fr × Int) : Fr × Int := if q.2 ≠ 0 then (nul, q.2) else q
theorem fin_mk (g : Fr) : fin (g, mayP g) = if mayP g ≠ 0 then (nul, mayP g) else (g, 0) := by
  unfold fin
  by_cases h : mayP g = 0
  · rw [if_neg (by simpa using h), if_neg (by simpa using h), h]
  · rw [if_pos h, if_pos h]
theorem finE_short {g : Fr} {l : List Int} : finE (g, (l, true)) = (nul, 4) := by
  unfold finE endE
  simp
theorem finE_more {g : Fr} {l : List Int} (h : 0 < l.length) : finE (g, (l, false)) = (nul, 3) := by
  unfold finE endE
  simp [h]
theorem finE_ok {g : Fr} : finE (g, ([], false)) = if mayP g ≠ 0 then (nul, mayP g) else (g, 0) := by
  unfold finE endE
  simp
theorem tk_ge {m : Nat} {l : List Int} {b : Bool} (h : m ≤ l.length) : tk m (l, b) = l.take m := by unfold tk; rw [if_pos h]
theorem lft_ge {m : Nat} {l : List Int} {b : Bool} (h : m ≤ l.length) : lft m (l, b) = (l.drop m, b) := by unfold lft; rw [if_pos h]
theorem lft_lt {m : Nat} {l : List Int} {b : Bool} (h : l.length < m) : lft m (l, b) = ([], true) := by unfold lft; rw [if_neg (by show ¬ m ≤ l.length; omega)]
theorem rdR_ok : ∀ (n : Nat) (l : List (Nat × Nat)) (xs : List Int) (b : Bool), xs.length = 16 * n → rdR n l (xs, b) = (l ++ rgsOf n xs, ([], b))
  | 0, l, xs, b, h => by
    have : xs = [] := List.length_eq_zero_iff.1 (by omega)
    subst this
    simp [rdR, rgsOf]
  | n + 1, l, xs, b, h => by
    have h1 : (xs.drop 8).length = 16 * n + 8 := by rw [List.length_drop]; omega
    rw [rdR, tk_ge (by omega), lft_ge (by omega), tk_ge (by omega), lft_ge (by omega), List.drop_drop]
    rw [rdR_ok n _ (xs.drop (8 + 8)) b (by rw [List.length_drop]; omega), rgsOf, List.append_assoc]
    rfl
theorem rdR_sh : ∀ (n : Nat) (l : List (Nat × Nat)) (xs : List Int), ∃ g, rdR n l (xs, true) = (g, ((rdR n l (xs, true)).2.1, true))
  | 0, l, xs => ⟨l, rfl⟩
  | n + 1, l, xs => by
    have e : ∀ (m : Nat) (ys : List Int), ∃ zs, lft m (ys, true) = (zs, true) := fun m ys => by unfold lft; split <;> exact ⟨_, rfl⟩
    obtain ⟨z1, e1⟩ := e 8 xs
    obtain ⟨z2, e2⟩ := e 8 z1
    rw [rdR, e1, e2]
    exact rdR_sh n _ z2
theorem rdR_bad : ∀ (n : Nat) (l : List (Nat × Nat)) (xs : List Int), (xs.length + 15) / 16 = n → xs.length % 16 ≠ 0 → ∃ g ys, rdR n l (xs, false) = (g, (ys, true))
  | 0, l, xs, h, h2 => by omega
  | n + 1, l, xs, h, h2 => by
    by_cases h8 : 16 ≤ xs.length
    · have h1 : (xs.drop 8).length = xs.length - 8 := List.length_drop
      rw [rdR, tk_ge (by omega), lft_ge (by omega), tk_ge (by omega), lft_ge (by omega), List.drop_drop]
      exact rdR_bad n _ (xs.drop (8 + 8)) (by rw [List.length_drop]; omega) (by rw [List.length_drop]; omega)
    · have hs : ∃ zs, lft 8 (lft 8 (xs, false)) = (zs, true) := by
        by_cases h9 : 8 ≤ xs.length
        · rw [lft_ge h9, lft_lt (by rw [List.length_drop]; omega)]
          exact ⟨_, rfl⟩
        · rw [lft_lt (l := xs) (b := false) (m := 8) (by omega)]
          exact ⟨[], rfl⟩
      obtain ⟨zs, hz⟩ := hs
      rw [rdR, hz]
      obtain ⟨g, hg⟩ := rdR_sh n (l ++ [(ofL (tk 8 (xs, false)), ofL (tk 8 (lft 8 (xs, false))))]) zs
      exact ⟨g, _, hg⟩
theorem readE_0 (b : Fr) (s : Rs) : readE 0 b s = ({ b with off := ofL (tk 8 s) }, lft 8 s) := rfl
theorem readE_1 (b : Fr) (s : Rs) : readE 1 b s = ({ b with tot := ofL (tk 8 s) }, lft 8 s) := rfl
theorem readE_2 (b : Fr) (s : Rs) : readE 2 b s = ({ b with sum := tk 32 s }, lft 32 s) := rfl
theorem readE_3 (b : Fr) (s : Rs) : readE 3 b s = ({ b with xs := tk s.1.length s }, lft s.1.length s) := rfl
theorem readE_4 (b : Fr) (s : Rs) : readE 4 b s = ({ b with rs := (rdR ((s.1.length + 15) / 16) [] s).1 }, (rdR ((s.1.length + 15) / 16) [] s).2) := rfl
theorem readE_5 (b : Fr) (s : Rs) : readE 5 b s = ({ b with cd := (ofL (tk 1 s) : Nat) }, lft 1 s) := rfl
theorem lft_none (m : Nat) : lft m (([] : List Int), true) = ([], true) := by unfold lft; split <;> simp
theorem one_getD {b : List Int} (hb : Byt b) (h : b.length = 1) : ((ofL b : Nat) : Int) = b.getD 0 0 := by
  match b, h with
  | [x], _ =>
    have := hb 0
    show ((256 * 0 + x.toNat : Nat) : Int) = x
    simp at this
    omega
/-- WHAT IS READ. -/
theorem read_1 {tok : List Int} {s r : Nat} {b : List Int} (hb : Byt b) : fin (fieldsP 1 tok s r b) = finE (readL [1, 2] (er (mk3 1 tok s r)) (b, false)) := by
  have hn : need 1 = 40 := rfl
  have F4 : fin (nul, 4) = (nul, 4) := rfl
  have F3 : fin (nul, 3) = (nul, 3) := rfl
  by_cases h1 : b.length < 8
  · rw [show fieldsP 1 tok s r b = (nul, 4) by unfold fieldsP; rw [if_pos (.inl (by rw [hn]; omega))], F4]
    simp only [readL, readE_1, readE_2, lft_lt h1, lft_none, finE_short]
  have a1 : 8 ≤ b.length := by omega
  have hd : (b.drop 8).length = b.length - 8 := List.length_drop
  by_cases h2 : b.length < 40
  · rw [show fieldsP 1 tok s r b = (nul, 4) by unfold fieldsP; rw [if_pos (.inl (by rw [hn]; omega))], F4]
    simp only [readL, readE_1, readE_2, lft_ge a1, lft_lt (show (b.drop 8).length < 32 by omega), finE_short]
  have a2 : 32 ≤ (b.drop 8).length := by omega
  have e : readL [1, 2] (er (mk3 1 tok s r)) (b, false) = (getF 1 tok s r b, (b.drop 40, false)) := by
    simp only [readL, readE_1, readE_2, lft_ge a1, tk_ge a1, lft_ge a2, tk_ge a2, List.drop_drop]
    rfl
  rw [e]
  by_cases h3 : 40 < b.length
  · rw [show fieldsP 1 tok s r b = (nul, 3) by unfold fieldsP; rw [if_neg (by rw [hn]; omega), if_pos ⟨by rw [hn]; omega, by decide, by decide⟩], F3]
    rw [finE_more (by rw [List.length_drop]; omega)]
  · rw [show fieldsP 1 tok s r b = (getF 1 tok s r b, mayP (getF 1 tok s r b)) by unfold fieldsP; rw [if_neg (by rw [hn]; omega), if_neg (by rw [hn]; omega)], fin_mk]
    rw [List.drop_eq_nil_of_le (by omega), finE_ok]
theorem read_2 {tok : List Int} {s r : Nat} {b : List Int} (hb : Byt b) : fin (fieldsP 2 tok s r b) = finE (readL [0] (er (mk3 2 tok s r)) (b, false)) := by
  have hn : need 2 = 8 := rfl
  have F4 : fin (nul, 4) = (nul, 4) := rfl
  have F3 : fin (nul, 3) = (nul, 3) := rfl
  by_cases h1 : b.length < 8
  · rw [show fieldsP 2 tok s r b = (nul, 4) by unfold fieldsP; rw [if_pos (.inl (by rw [hn]; omega))], F4]
    simp only [readL, readE_0, lft_lt h1, finE_short]
  have a1 : 8 ≤ b.length := by omega
  have e : readL [0] (er (mk3 2 tok s r)) (b, false) = ({ er (mk3 2 tok s r) with off := ofL (b.take 8) }, (b.drop 8, false)) := by
    simp only [readL, readE_0, lft_ge a1, tk_ge a1]
  rw [e]
  by_cases h3 : 8 < b.length
  · rw [show fieldsP 2 tok s r b = (nul, 3) by unfold fieldsP; rw [if_neg (by rw [hn]; omega), if_pos ⟨by rw [hn]; omega, by decide, by decide⟩], F3]
    rw [finE_more (by rw [List.length_drop]; omega)]
  · rw [show fieldsP 2 tok s r b = (getF 2 tok s r b, mayP (getF 2 tok s r b)) by unfold fieldsP; rw [if_neg (by rw [hn]; omega), if_neg (by rw [hn]; omega)], fin_mk]
    rw [List.drop_eq_nil_of_le (by omega), List.take_of_length_le (by omega), finE_ok]
    rfl
theorem read_3 {tok : List Int} {s r : Nat} {b : List Int} (hb : Byt b) : fin (fieldsP 3 tok s r b) = finE (readL [0, 3] (er (mk3 3 tok s r)) (b, false)) := by
  have hn : need 3 = 9 := rfl
  have F4 : fin (nul, 4) = (nul, 4) := rfl
  have F3 : fin (nul, 3) = (nul, 3) := rfl
  by_cases h1 : b.length < 8
  · rw [show fieldsP 3 tok s r b = (nul, 4) by unfold fieldsP; rw [if_pos (.inl (by rw [hn]; omega))], F4]
    simp only [readL, readE_0, readE_3, lft_lt h1, lft_none, finE_short]
  have a1 : 8 ≤ b.length := by omega
  have a2 : (b.drop 8).length ≤ (b.drop 8).length := Nat.le_refl _
  have e : readL [0, 3] (er (mk3 3 tok s r)) (b, false) = (getF 3 tok s r b, ([], false)) := by
    simp only [readL, readE_0, readE_3, lft_ge a1, tk_ge a1, lft_ge a2, tk_ge a2]
    rw [List.drop_eq_nil_of_le (Nat.le_refl _), List.take_of_length_le (Nat.le_refl _)]
    rfl
  rw [e, finE_ok]
  by_cases h9 : b.length < 9
  · rw [show fieldsP 3 tok s r b = (nul, 4) by unfold fieldsP; rw [if_pos (.inl (by rw [hn]; omega))], F4]
    have hd : b.drop 8 = [] := List.drop_eq_nil_of_le (by omega)
    have hm : mayP (getF 3 tok s r b) = 4 := by
      show mayE 3 (b.drop 8).length 0 0 true = 4
      rw [hd]
      rfl
    rw [hm]
    rfl
  · rw [show fieldsP 3 tok s r b = (getF 3 tok s r b, mayP (getF 3 tok s r b)) by unfold fieldsP; rw [if_neg (by rw [hn]; omega), if_neg (by simp)], fin_mk]
theorem read_4 {tok : List Int} {s r : Nat} {b : List Int} (hb : Byt b) : fin (fieldsP 4 tok s r b) = finE (readL [0, 4] (er (mk3 4 tok s r)) (b, false)) := by
  have hn : need 4 = 8 := rfl
  have F4 : fin (nul, 4) = (nul, 4) := rfl
  have F3 : fin (nul, 3) = (nul, 3) := rfl
  by_cases h1 : b.length < 8
  · rw [show fieldsP 4 tok s r b = (nul, 4) by unfold fieldsP; rw [if_pos (.inl (by rw [hn]; omega))], F4]
    simp only [readL, readE_0, readE_4, lft_lt h1]
    rfl
  have a1 : 8 ≤ b.length := by omega
  have hl : (b.drop 8).length = b.length - 8 := List.length_drop
  by_cases h8 : b.length % 16 = 8
  · have e : readL [0, 4] (er (mk3 4 tok s r)) (b, false) = (getF 4 tok s r b, ([], false)) := by
      simp only [readL, readE_0, readE_4, lft_ge a1, tk_ge a1]
      rw [hl, show (b.length - 8 + 15) / 16 = (b.length - 8) / 16 by omega, rdR_ok _ _ _ _ (by rw [hl]; omega)]
      rfl
    rw [e, finE_ok]
    rw [show fieldsP 4 tok s r b = (getF 4 tok s r b, mayP (getF 4 tok s r b)) by unfold fieldsP; rw [if_neg (by rw [hn]; omega), if_neg (by simp)], fin_mk]
  · rw [show fieldsP 4 tok s r b = (nul, 4) by unfold fieldsP; rw [if_pos (.inr ⟨rfl, h8⟩)], F4]
    obtain ⟨g, ys, hg⟩ := rdR_bad ((b.length - 8 + 15) / 16) [] (b.drop 8) (by rw [hl]) (by rw [hl]; omega)
    simp only [readL, readE_0, readE_4, lft_ge a1]
    rw [hl, hg, finE_short]
theorem read_5 {tok : List Int} {s r : Nat} {b : List Int} (hb : Byt b) : fin (fieldsP 5 tok s r b) = finE (readL [1, 2] (er (mk3 5 tok s r)) (b, false)) := by
  have hn : need 5 = 40 := rfl
  have F4 : fin (nul, 4) = (nul, 4) := rfl
  have F3 : fin (nul, 3) = (nul, 3) := rfl
  by_cases h1 : b.length < 8
  · rw [show fieldsP 5 tok s r b = (nul, 4) by unfold fieldsP; rw [if_pos (.inl (by rw [hn]; omega))], F4]
    simp only [readL, readE_1, readE_2, lft_lt h1, lft_none, finE_short]
  have a1 : 8 ≤ b.length := by omega
  have hd : (b.drop 8).length = b.length - 8 := List.length_drop
  by_cases h2 : b.length < 40
  · rw [show fieldsP 5 tok s r b = (nul, 4) by unfold fieldsP; rw [if_pos (.inl (by rw [hn]; omega))], F4]
    simp only [readL, readE_1, readE_2, lft_ge a1, lft_lt (show (b.drop 8).length < 32 by omega), finE_short]
  have a2 : 32 ≤ (b.drop 8).length := by omega
  have e : readL [1, 2] (er (mk3 5 tok s r)) (b, false) = (getF 5 tok s r b, (b.drop 40, false)) := by
    simp only [readL, readE_1, readE_2, lft_ge a1, tk_ge a1, lft_ge a2, tk_ge a2, List.drop_drop]
    rfl
  rw [e]
  by_cases h3 : 40 < b.length
  · rw [show fieldsP 5 tok s r b = (nul, 3) by unfold fieldsP; rw [if_neg (by rw [hn]; omega), if_pos ⟨by rw [hn]; omega, by decide, by decide⟩], F3]
    rw [finE_more (by rw [List.length_drop]; omega)]
  · rw [show fieldsP 5 tok s r b = (getF 5 tok s r b, mayP (getF 5 tok s r b)) by unfold fieldsP; rw [if_neg (by rw [hn]; omega), if_neg (by rw [hn]; omega)], fin_mk]
    rw [List.drop_eq_nil_of_le (by omega), finE_ok]
theorem read_6 {tok : List Int} {s r : Nat} {b : List Int} (hb : Byt b) : fin (fieldsP 6 tok s r b) = finE (readL [1] (er (mk3 6 tok s r)) (b, false)) := by
  have hn : need 6 = 8 := rfl
  have F4 : fin (nul, 4) = (nul, 4) := rfl
  have F3 : fin (nul, 3) = (nul, 3) := rfl
  by_cases h1 : b.length < 8
  · rw [show fieldsP 6 tok s r b = (nul, 4) by unfold fieldsP; rw [if_pos (.inl (by rw [hn]; omega))], F4]
    simp only [readL, readE_1, lft_lt h1, finE_short]
  have a1 : 8 ≤ b.length := by omega
  have e : readL [1] (er (mk3 6 tok s r)) (b, false) = ({ er (mk3 6 tok s r) with tot := ofL (b.take 8) }, (b.drop 8, false)) := by
    simp only [readL, readE_1, lft_ge a1, tk_ge a1]
  rw [e]
  by_cases h3 : 8 < b.length
  · rw [show fieldsP 6 tok s r b = (nul, 3) by unfold fieldsP; rw [if_neg (by rw [hn]; omega), if_pos ⟨by rw [hn]; omega, by decide, by decide⟩], F3]
    rw [finE_more (by rw [List.length_drop]; omega)]
  · rw [show fieldsP 6 tok s r b = (getF 6 tok s r b, mayP (getF 6 tok s r b)) by unfold fieldsP; rw [if_neg (by rw [hn]; omega), if_neg (by rw [hn]; omega)], fin_mk]
    rw [List.drop_eq_nil_of_le (by omega), List.take_of_length_le (by omega), finE_ok]
    rfl
theorem read_7 {tok : List Int} {s r : Nat} {b : List Int} (hb : Byt b) : fin (fieldsP 7 tok s r b) = finE (readL [5] (er (mk3 7 tok s r)) (b, false)) := by
  have hn : need 7 = 1 := rfl
  have F4 : fin (nul, 4) = (nul, 4) := rfl
  have F3 : fin (nul, 3) = (nul, 3) := rfl
  by_cases h1 : b.length < 1
  · rw [show fieldsP 7 tok s r b = (nul, 4) by unfold fieldsP; rw [if_pos (.inl (by rw [hn]; omega))], F4]
    simp only [readL, readE_5, lft_lt h1, finE_short]
  have a1 : 1 ≤ b.length := by omega
  have e : readL [5] (er (mk3 7 tok s r)) (b, false) = ({ er (mk3 7 tok s r) with cd := (ofL (b.take 1) : Nat) }, (b.drop 1, false)) := by
    simp only [readL, readE_5, lft_ge a1, tk_ge a1]
  rw [e]
  by_cases h3 : 1 < b.length
  · rw [show fieldsP 7 tok s r b = (nul, 3) by unfold fieldsP; rw [if_neg (by rw [hn]; omega), if_pos ⟨by rw [hn]; omega, by decide, by decide⟩], F3]
    rw [finE_more (by rw [List.length_drop]; omega)]
  · rw [show fieldsP 7 tok s r b = (getF 7 tok s r b, mayP (getF 7 tok s r b)) by unfold fieldsP; rw [if_neg (by rw [hn]; omega), if_neg (by rw [hn]; omega)], fin_mk]
    rw [List.drop_eq_nil_of_le (by omega), List.take_of_length_le (by omega), finE_ok, one_getD hb (by omega)]
    rfl
theorem read_fields {k : Int} {tok : List Int} {s r : Nat} {b : List Int} (hb : Byt b) (hk : 1 ≤ k ∧ k ≤ 7) :
    fin (fieldsP k tok s r b) = finE (readL (fl k) (er (mk3 k tok s r)) (b, false)) := by
  have c : k = 1 ∨ k = 2 ∨ k = 3 ∨ k = 4 ∨ k = 5 ∨ k = 6 ∨ k = 7 := by omega
  rcases c with rfl | rfl | rfl | rfl | rfl | rfl | rfl
  · exact read_1 hb
  · exact read_2 hb
  · exact read_3 hb
  · exact read_4 hb
  · exact read_5 hb
  · exact read_6 hb
  · exact read_7 hb
end Fm
end Go.Proofs.Ytjiafpmcibokbaa
