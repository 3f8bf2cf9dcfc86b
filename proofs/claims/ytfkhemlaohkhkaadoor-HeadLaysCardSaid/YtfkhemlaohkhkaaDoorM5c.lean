/- PLAIN MATHEMATICS OF LAYER 5, THIRD PART: the numbers' fields one behind the other. No Go text is named. -/
import Derived.Test.YtfkhemlaohkhkaaDoorM5
namespace Go.Proofs.YtfkhemlaohkhkaaDoor
open Go.RowKit
namespace Hh
/-- The numbers, their widths, a number's field, the fields one behind the other. -/
def nl (m u g z t : Int) : List Int := [m, u, g, z, t]
def wl : List Int := [8, 8, 8, 12, 12]
def fld (m u g z t : Int) (j : Nat) : List Int × Int := Nf.putS ((nl m u g z t).getD j 0) (wl.getD j 0)
def fcat (m u g z t : Int) (j : Nat) : List Int := ((List.range j).map fun i => (fld m u g z t i).1).flatten
theorem fcat_zero (m u g z t : Int) : fcat m u g z t 0 = [] := rfl
theorem fcat_succ (m u g z t : Int) (j : Nat) : fcat m u g z t (j + 1) = fcat m u g z t j ++ (fld m u g z t j).1 := by
  simp [fcat, List.range_succ]
theorem fcat_five (m u g z t : Int) : fcat m u g z t 5 = (Nf.putS m 8).1 ++ (Nf.putS u 8).1 ++ (Nf.putS g 8).1 ++ (Nf.putS z 12).1 ++ (Nf.putS t 12).1 := by
  rw [fcat_succ, fcat_succ, fcat_succ, fcat_succ, fcat_succ, fcat_zero]
  simp [fld, nl, wl]
theorem len_fcat (m u g z t : Int) : ∀ j, (fcat m u g z t j).length ≤ 12 * j
  | 0 => by simp [fcat_zero]
  | j + 1 => by
    have h1 := len_fcat m u g z t j
    have h2 := Nf.len_putS ((nl m u g z t).getD j 0) (wl.getD j 0)
    rw [fcat_succ, List.length_append]
    unfold fld
    omega
theorem layS_p (p nm l : ByteArray) (m u g t z k : Int) (hk : isT k = true) (h0 : (Sf.putS p 155).2 ≠ 0) : layS p nm l m u g t z k = ([], (Sf.putS p 155).2) := by
  unfold layS; rw [if_pos hk, if_neg h0]
theorem layS_n (p nm l : ByteArray) (m u g t z k : Int) (hk : isT k = true) (h0 : (Sf.putS p 155).2 = 0) (h1 : (Sf.putS nm 100).2 ≠ 0) : layS p nm l m u g t z k = ([], (Sf.putS nm 100).2) := by
  unfold layS; rw [if_pos hk, if_pos h0, if_neg h1]
theorem layS_l (p nm l : ByteArray) (m u g t z k : Int) (hk : isT k = true) (h0 : (Sf.putS p 155).2 = 0) (h1 : (Sf.putS nm 100).2 = 0) (h2 : (Sf.putS l 100).2 ≠ 0) : layS p nm l m u g t z k = ([], (Sf.putS l 100).2) := by
  unfold layS; rw [if_pos hk, if_pos h0, if_pos h1, if_neg h2]
theorem layS_at (p nm l : ByteArray) (m u g t z k : Int) (hk : isT k = true) (h0 : (Sf.putS p 155).2 = 0) (h1 : (Sf.putS nm 100).2 = 0) (h2 : (Sf.putS l 100).2 = 0) (j : Nat) (hj : j < 5) (ok : ∀ i, i < j → (fld m u g z t i).2 = 0) (he : (fld m u g z t j).2 ≠ 0) :
    layS p nm l m u g t z k = ([], (fld m u g z t j).2) := by
  unfold layS
  rw [if_pos hk, if_pos h0, if_pos h1, if_pos h2]
  match j, hj, ok, he with
  | 0, _, ok, he => rw [if_neg (show ¬ (Nf.putS m 8).2 = 0 from he)]; rfl
  | 1, _, ok, he => rw [if_pos (show (Nf.putS m 8).2 = 0 from ok 0 (by omega)), if_neg (show ¬ (Nf.putS u 8).2 = 0 from he)]; rfl
  | 2, _, ok, he => rw [if_pos (show (Nf.putS m 8).2 = 0 from ok 0 (by omega)), if_pos (show (Nf.putS u 8).2 = 0 from ok 1 (by omega)), if_neg (show ¬ (Nf.putS g 8).2 = 0 from he)]; rfl
  | 3, _, ok, he => rw [if_pos (show (Nf.putS m 8).2 = 0 from ok 0 (by omega)), if_pos (show (Nf.putS u 8).2 = 0 from ok 1 (by omega)), if_pos (show (Nf.putS g 8).2 = 0 from ok 2 (by omega)), if_neg (show ¬ (Nf.putS z 12).2 = 0 from he)]; rfl
  | 4, _, ok, he => rw [if_pos (show (Nf.putS m 8).2 = 0 from ok 0 (by omega)), if_pos (show (Nf.putS u 8).2 = 0 from ok 1 (by omega)), if_pos (show (Nf.putS g 8).2 = 0 from ok 2 (by omega)), if_pos (show (Nf.putS z 12).2 = 0 from ok 3 (by omega)), if_neg (show ¬ (Nf.putS t 12).2 = 0 from he)]; rfl
theorem layS_end (p nm l : ByteArray) (m u g t z k : Int) (hk : isT k = true) (h0 : (Sf.putS p 155).2 = 0) (h1 : (Sf.putS nm 100).2 = 0) (h2 : (Sf.putS l 100).2 = 0) (ok : ∀ i, i < 5 → (fld m u g z t i).2 = 0) :
    layS p nm l m u g t z k = if bel m u g z = true then ([], 10) else Hs.putS (whole (Sf.putS nm 100).1 (Nf.putS m 8).1 (Nf.putS u 8).1 (Nf.putS g 8).1 (Nf.putS z 12).1 (Nf.putS t 12).1 k (Sf.putS l 100).1 (Nf.putS 0 8).1 (Sf.putS p 155).1) := by
  unfold layS
  rw [if_pos hk, if_pos h0, if_pos h1, if_pos h2, if_pos (show (Nf.putS m 8).2 = 0 from ok 0 (by omega)), if_pos (show (Nf.putS u 8).2 = 0 from ok 1 (by omega)), if_pos (show (Nf.putS g 8).2 = 0 from ok 2 (by omega)), if_pos (show (Nf.putS z 12).2 = 0 from ok 3 (by omega)), if_pos (show (Nf.putS t 12).2 = 0 from ok 4 (by omega))]
theorem fld_pos (m u g z t : Int) (m0 : -9223372036854775808 ≤ m) (m1 : m ≤ 9223372036854775807) (u0 : -9223372036854775808 ≤ u) (u1 : u ≤ 9223372036854775807) (g0 : -9223372036854775808 ≤ g) (g1 : g ≤ 9223372036854775807)
    (t0 : -9223372036854775808 ≤ t) (t1 : t ≤ 9223372036854775807) (z0 : -9223372036854775808 ≤ z) (z1 : z ≤ 9223372036854775807) (j : Nat) (hj : j < 5) (h : (fld m u g z t j).2 = 0) : 0 < (fld m u g z t j).1.length := by
  match j, hj, h with
  | 0, _, h => have := (Nf.put_good m 8 m0 m1 h).1; show 0 < (Nf.putS m 8).1.length; omega
  | 1, _, h => have := (Nf.put_good u 8 u0 u1 h).1; show 0 < (Nf.putS u 8).1.length; omega
  | 2, _, h => have := (Nf.put_good g 8 g0 g1 h).1; show 0 < (Nf.putS g 8).1.length; omega
  | 3, _, h => have := (Nf.put_good z 12 z0 z1 h).1; show 0 < (Nf.putS z 12).1.length; omega
  | 4, _, h => have := (Nf.put_good t 12 t0 t1 h).1; show 0 < (Nf.putS t 12).1.length; omega
theorem fcat_five_len (m u g z t : Int) (m0 : -9223372036854775808 ≤ m) (m1 : m ≤ 9223372036854775807) (u0 : -9223372036854775808 ≤ u) (u1 : u ≤ 9223372036854775807) (g0 : -9223372036854775808 ≤ g) (g1 : g ≤ 9223372036854775807)
    (t0 : -9223372036854775808 ≤ t) (t1 : t ≤ 9223372036854775807) (z0 : -9223372036854775808 ≤ z) (z1 : z ≤ 9223372036854775807) (ok : ∀ i, i < 5 → (fld m u g z t i).2 = 0) : (fcat m u g z t 5).length = 48 := by
  have a := (Nf.put_good m 8 m0 m1 (ok 0 (by omega))).1
  have b := (Nf.put_good u 8 u0 u1 (ok 1 (by omega))).1
  have c := (Nf.put_good g 8 g0 g1 (ok 2 (by omega))).1
  have d := (Nf.put_good z 12 z0 z1 (ok 3 (by omega))).1
  have e := (Nf.put_good t 12 t0 t1 (ok 4 (by omega))).1
  rw [fcat_five]
  simp only [List.length_append]
  omega
theorem byt_fcat (m u g z t : Int) : ∀ j, Byt (fcat m u g z t j)
  | 0 => by rw [fcat_zero]; exact Byt.nil
  | j + 1 => by
    rw [fcat_succ]
    exact Byt.append (byt_fcat m u g z t j) (Nf.byt_putS _ _)
/-- The whole, by its longer pieces. -/
theorem whole_of (ns ls ps : List Int) (m u g z t k : Int) : whole ns (Nf.putS m 8).1 (Nf.putS u 8).1 (Nf.putS g 8).1 (Nf.putS z 12).1 (Nf.putS t 12).1 k ls (Nf.putS 0 8).1 ps =
    ns ++ fcat m u g z t 5 ++ List.replicate 8 0 ++ [k] ++ ls ++ magic ++ List.replicate 64 0 ++ (Nf.putS 0 8).1 ++ (Nf.putS 0 8).1 ++ ps ++ List.replicate 12 0 := by
  rw [fcat_five]
  simp only [whole, List.append_assoc]
end Hh
end Go.Proofs.YtfkhemlaohkhkaaDoor
