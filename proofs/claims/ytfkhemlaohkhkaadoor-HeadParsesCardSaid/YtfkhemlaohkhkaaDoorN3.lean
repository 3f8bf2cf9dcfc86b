/- PLAIN MATHEMATICS OF LAYER 3: what hsum's calls answer, as functions on lists of numbers. No Go text is named. -/
import Derived.Test.YtfkhemlaohkhkaaDoorN1
namespace Go.Proofs.YtfkhemlaohkhkaaDoor.Hs
open Go.Proofs.YtfkhemlaohkhkaaDoor

/-- The sum of the first k bytes, the eight from 148 on as 32 each. -/
def psum (xs : List Int) : Nat → Int
  | 0 => 0
  | k + 1 => psum xs k + (if 148 ≤ k ∧ k < 156 then 32 else xs.getD k 0)
def sumS (xs : List Int) : Int × Int := if xs.length = 512 then (psum xs 512, 0) else (0, 1)
def putS (xs : List Int) : List Int × Int :=
  if xs.length = 512 then (xs.take 148 ++ (Nf.digs 8 48 (psum xs 512) 6 ++ [0, 32]) ++ xs.drop 156, 0) else ([], 1)
/-- The eight bytes. -/
def field (xs : List Int) : List Int := (xs.drop 148).take 8
def toldS (xs : List Int) : Int × Int :=
  if xs.length = 512 then
    (if (Nf.getS (field xs)).2 ≠ 0 then (0, (Nf.getS (field xs)).2) else if (Nf.getS (field xs)).1 < 0 ∨ 1048576 < (Nf.getS (field xs)).1 then (0, 3) else ((Nf.getS (field xs)).1, 0))
  else (0, 1)
def checkS (xs : List Int) : Int :=
  if (toldS xs).2 ≠ 0 then (toldS xs).2 else if (toldS xs).1 = psum xs 512 then 0 else 9
def zeroS (xs : List Int) : Bool := decide (xs.length = 512) && xs.all (· == 0)

theorem psum_bd (xs : List Int) (hx : Byt xs) : ∀ k, 0 ≤ psum xs k ∧ psum xs k ≤ 255 * k
  | 0 => ⟨Int.le_refl _, Int.le_refl _⟩
  | k + 1 => by
    have h := psum_bd xs hx k
    have hk := hx k
    rw [psum]
    split <;> omega
theorem psum_congr (xs ys : List Int) : ∀ k, (∀ j, j < k → ¬ (148 ≤ j ∧ j < 156) → xs.getD j 0 = ys.getD j 0) → psum xs k = psum ys k
  | 0, _ => rfl
  | k + 1, h => by
    rw [psum, psum, psum_congr xs ys k fun j hj hn => h j (by omega) hn]
    split
    · rfl
    · rename_i hn
      rw [h k (by omega) hn]
theorem getD_set (xs : List Int) (i : Nat) (y : Int) (j : Nat) (hi : i < xs.length) : (xs.set i y).getD j 0 = if i = j then y else xs.getD j 0 := by
  simp only [List.getD, List.getElem?_set]
  by_cases h : i = j
  · subst h; simp [hi]
  · simp [h]
theorem psum_set (xs : List Int) (i : Nat) (y : Int) (hi : i < xs.length) : ∀ k, psum (xs.set i y) k = if i < k ∧ ¬ (148 ≤ i ∧ i < 156) then psum xs k - xs.getD i 0 + y else psum xs k
  | 0 => by simp [psum]
  | k + 1 => by
    rw [psum, psum, psum_set xs i y hi k, getD_set xs i y k hi]
    by_cases hc : 148 ≤ i ∧ i < 156
    · simp only [hc, and_self, not_true_eq_false, and_false, if_false]
      by_cases hk : i = k
      · subst hk; simp [hc]
      · simp [hk]
    · simp only [hc, not_false_eq_true, and_true]
      by_cases hk : i = k
      · subst hk
        simp [hc]
      · simp only [hk, if_false]
        by_cases hlt : i < k
        · simp only [hlt, show i < k + 1 from by omega, if_true]; omega
        · simp only [hlt, show ¬ i < k + 1 from by omega, if_false]
theorem len_put (xs : List Int) (h : xs.length = 512) : (putS xs).1.length = 512 := by
  unfold putS
  rw [if_pos h]
  simp [h, Nf.len_digs]
theorem getD_put (xs : List Int) (h : xs.length = 512) (j : Nat) (hj : ¬ (148 ≤ j ∧ j < 156)) : (putS xs).1.getD j 0 = xs.getD j 0 := by
  unfold putS
  rw [if_pos h]
  have hd := Nf.len_digs 8 48 (psum xs 512) 6
  simp only [List.getD]
  by_cases h1 : j < 148
  · rw [List.getElem?_append_left (by simp [h, hd]; omega), List.getElem?_append_left (by simp [h]; omega), List.getElem?_take, if_pos h1]
  · have e : (xs.take 148 ++ (Nf.digs 8 48 (psum xs 512) 6 ++ [0, 32])).length = 156 := by simp [h, hd]
    rw [List.getElem?_append_right (by rw [e]; omega), List.getElem?_drop, e, show 156 + (j - 156) = j from by omega]
theorem field_put (xs : List Int) (h : xs.length = 512) : field (putS xs).1 = Nf.digs 8 48 (psum xs 512) 6 ++ [0, 32] := by
  unfold field putS
  rw [if_pos h]
  have hd := Nf.len_digs 8 48 (psum xs 512) 6
  simp only [List.append_assoc]
  rw [List.drop_append_of_le_length (by simp [h]), List.drop_take]
  simp
  rw [List.take_append, hd]
  simp [List.take_of_length_le, hd]
theorem byt_put (xs : List Int) (hx : Byt xs) : Byt (putS xs).1 := by
  unfold putS
  split
  · refine Byt.append (Byt.append ?_ (Byt.append (Nf.byt_digs8 _ _) (Byt.cons (by omega) (Byt.cons (by omega) Byt.nil)))) (hx.drop _)
    intro j
    simp only [List.getD, List.getElem?_take]
    split
    · exact hx j
    · simp
  · exact Byt.nil
theorem octG_back2 (n : Int) (h0 : 0 ≤ n) (h1 : n < 262144) : Nf.octG (Nf.digs 8 48 n 6 ++ [0, 32]) = (n, 0) := by
  have r0 : Nf.run (· == 32) (Nf.digs 8 48 n 6 ++ [0, 32]) = 0 := by
    rw [Nf.digs, List.cons_append, Nf.run, if_neg]
    simp only [beq_iff_eq]
    omega
  have r1 : Nf.run Nf.isO (Nf.digs 8 48 n 6 ++ [0, 32]) = 6 := by
    rw [Nf.run_app Nf.isO _ _ (Nf.digs_isO n _), Nf.len_digs]; rfl
  unfold Nf.octG
  simp only [r0, List.drop_zero, r1]
  rw [if_neg]
  · rw [List.take_left' (Nf.len_digs _ _ _ _)]
    rw [Nf.say_digs 8 48 (by omega)]
    exact (Int.ediv_eq_zero_of_lt h0 (by omega)).symm
  · rw [List.drop_left' (Nf.len_digs _ _ _ _)]
    simp [Nf.isB]
theorem getS_back2 (n : Int) (h0 : 0 ≤ n) (h1 : n < 262144) : Nf.getS (Nf.digs 8 48 n 6 ++ [0, 32]) = (n, 0) := by
  have hg := octG_back2 n h0 h1
  have hb : 48 ≤ (Nf.digs 8 48 n 6 ++ [0, 32]).getD 0 0 ∧ (Nf.digs 8 48 n 6 ++ [0, 32]).getD 0 0 ≤ 55 := by
    rw [Nf.digs, List.cons_append, List.getD_cons_zero]; omega
  have hw : Nf.wide ((Nf.digs 8 48 n 6 ++ [0, 32]).length : Int) = true := by
    rw [List.length_append, Nf.len_digs]; rfl
  unfold Nf.getS
  rw [hw, if_neg (by simp), if_neg (by omega), if_neg (by omega), hg]
/-- What is laid tells its sum, whatever byte besides is turned. -/
theorem told_field (xs ys : List Int) (_h : xs.length = 512) (hy : ys.length = 512) (hf : field ys = Nf.digs 8 48 (psum xs 512) 6 ++ [0, 32]) (hx : Byt xs) : toldS ys = (psum xs 512, 0) := by
  have hb := psum_bd xs hx 512
  unfold toldS
  rw [if_pos hy, hf, getS_back2 _ hb.1 (by omega)]
  simp only [ne_eq, not_true_eq_false, if_false]
  rw [if_neg (by omega)]
theorem check_put (xs : List Int) (h : xs.length = 512) (hx : Byt xs) : checkS (putS xs).1 = 0 := by
  unfold checkS
  rw [told_field xs _ h (len_put xs h) (field_put xs h) hx]
  simp only [ne_eq, not_true_eq_false, if_false]
  rw [if_pos (psum_congr _ _ _ fun j _ hn => (getD_put xs h j hn).symm)]
theorem put_put (xs : List Int) (h : xs.length = 512) : putS (putS xs).1 = putS xs := by
  have h1 := len_put xs h
  have hs : psum (putS xs).1 512 = psum xs 512 := psum_congr _ _ _ fun j _ hn => getD_put xs h j hn
  have hd := Nf.len_digs 8 48 (psum xs 512) 6
  generalize hp : (putS xs).1 = p at *
  have e : putS xs = (p, 0) := by rw [← hp]; unfold putS; rw [if_pos h]
  unfold putS at hp
  rw [if_pos h] at hp
  rw [e]
  unfold putS
  rw [if_pos h1, hs]
  refine Prod.ext ?_ rfl
  simp only
  have e1 : p.take 148 = xs.take 148 := by rw [← hp]; simp only [List.append_assoc]; rw [List.take_append_of_le_length (by simp [h])]; simp [List.take_take]
  have e2 : p.drop 156 = xs.drop 156 := by
    rw [← hp, List.drop_append, List.drop_of_length_le (by simp [h, hd])]
    simp [h, hd]
  rw [e1, e2, ← hp]
theorem check_set (xs : List Int) (h : xs.length = 512) (hx : Byt xs) (i : Nat) (hi : i < 512) (hn : ¬ (148 ≤ i ∧ i < 156)) (y : Int) (hy : y ≠ (putS xs).1.getD i 0) : checkS ((putS xs).1.set i y) = 9 := by
  have hl := len_put xs h
  have hf : field ((putS xs).1.set i y) = field (putS xs).1 := by
    unfold field
    apply List.ext_getElem?
    intro j
    simp only [List.getElem?_take, List.getElem?_drop]
    split
    · rw [List.getElem?_set, if_neg (by omega)]
    · rfl
  unfold checkS
  rw [told_field xs _ h (by rw [List.length_set, hl]) (by rw [hf, field_put xs h]) hx]
  simp only [ne_eq, not_true_eq_false, if_false]
  rw [if_neg]
  rw [psum_set _ i y (by omega) 512, if_pos ⟨hi, hn⟩]
  have hs : psum (putS xs).1 512 = psum xs 512 := psum_congr _ _ _ fun j _ hn => getD_put xs h j hn
  rw [hs]
  omega
theorem oct6 (xs : List Int) (hx : Byt xs) : Nf.octS (psum xs 512) 6 = (Nf.digs 8 48 (psum xs 512) 6, 0) := by
  have hb := psum_bd xs hx 512
  have hm : Nf.most 6 = 262143 := by decide
  unfold Nf.octS
  rw [if_neg (by omega), if_neg (by omega)]
  rfl
/-- A block of some bytes, over and over. -/
def blk (xs : List Int) : List Int := (List.range 512).map fun i => if 0 < xs.length then xs.getD (i % xs.length) 0 else 0
theorem len_blk (xs : List Int) : (blk xs).length = 512 := by simp [blk]
theorem byt_blk (xs : List Int) (hx : Byt xs) : Byt (blk xs) := by
  intro j
  unfold blk
  by_cases h : j < 512
  · simp only [List.getD, List.getElem?_map, List.getElem?_range h, Option.map_some, Option.getD_some]
    split
    · exact hx _
    · simp
  · simp [List.getD, h]
end Go.Proofs.YtfkhemlaohkhkaaDoor.Hs
