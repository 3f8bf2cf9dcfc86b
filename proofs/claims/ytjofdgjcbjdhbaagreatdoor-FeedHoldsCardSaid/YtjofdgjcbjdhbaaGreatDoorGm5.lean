/- PLAIN MATHEMATICS OF LAYER 5 (a header's block): what the contracts of the walks speak of; no Go text is named. -/
import Derived.Test.YtjofdgjcbjdhbaaGreatDoorGn2
import Derived.Test.YtjofdgjcbjdhbaaGreatDoorGn1
namespace Go.Proofs.YtjofdgjcbjdhbaaGreatDoor
open Go.RowKit
namespace Hh
/-- Is it one of the six types? -/
def isT (k : Int) : Bool := k == 48 || k == 49 || k == 50 || k == 53 || k == 120 || k == 103
/-- Is a number below 0 that may not be? -/
def bel (m u g z : Int) : Bool := decide (m < 0) || decide (u < 0) || decide (g < 0) || decide (z < 0)
/-- A type as it is read. -/
def rd (k : Int) : Int := if k = 0 then 48 else k
/-- Are two headers the same? -/
def same (p nm l : ByteArray) (m u g t z k : Int) (p2 nm2 l2 : ByteArray) (m2 u2 g2 t2 z2 k2 : Int) : Bool := decide (p = p2) && decide (nm = nm2) && decide (m = m2) && decide (u = u2) && decide (g = g2) && decide (t = t2) && decide (z = z2) && decide (k = k2) && decide (l = l2)
theorem same_iff (p nm l : ByteArray) (m u g t z k : Int) (p2 nm2 l2 : ByteArray) (m2 u2 g2 t2 z2 k2 : Int) : same p nm l m u g t z k p2 nm2 l2 m2 u2 g2 t2 z2 k2 = true ↔ p = p2 ∧ nm = nm2 ∧ m = m2 ∧ u = u2 ∧ g = g2 ∧ t = t2 ∧ z = z2 ∧ k = k2 ∧ l = l2 := by
  simp [same, and_assoc]
/-- Bytes laid over others from a place on. -/
def put (xs : List Int) (off : Nat) (ys : List Int) : List Int := xs.take off ++ ys ++ xs.drop (off + ys.length)
/-- A field laid, but behind an error. -/
def step (s : List Int × Int) (off : Nat) (f : List Int × Int) : List Int × Int := if s.2 = 0 then (put s.1 off f.1, f.2) else s
theorem len_putT (s : ByteArray) (k : Nat) : (Sf.putS s k).1.length ≤ k ∧ ((Sf.putS s k).2 = 0 → (Sf.putS s k).1.length = k) := by
  by_cases h : (Sf.putS s k).2 = 0
  · have := (Sf.put_back s k h).1
    omega
  · rw [Sf.put_bad s k h]
    exact ⟨Nat.zero_le _, fun h2 => absurd h2 h⟩
theorem len_putN (n : Int) (k : Nat) (h0 : -9223372036854775808 ≤ n) (h1 : n ≤ 9223372036854775807) : (Nf.putS n k).1.length ≤ k ∧ ((Nf.putS n k).2 = 0 → (Nf.putS n k).1.length = k) := by
  by_cases h : (Nf.putS n k).2 = 0
  · have := (Nf.put_good n k h0 h1 h).1
    omega
  · have := (Nf.put_bad n k h0 h1 h).1
    rw [this]
    exact ⟨Nat.zero_le _, fun h2 => absurd h2 h⟩
theorem len_put (xs : List Int) (off : Nat) (ys : List Int) (h : off + ys.length ≤ xs.length) : (put xs off ys).length = xs.length := by
  simp [put]; omega
theorem byt_mem' {xs : List Int} (h : ∀ x ∈ xs, 0 ≤ x ∧ x ≤ 255) : Byt xs := fun j => by
  by_cases hj : j < xs.length
  · simp only [List.getD, List.getElem?_eq_getElem hj, Option.getD_some]
    exact h _ (List.getElem_mem hj)
  · simp [List.getD, List.getElem?_eq_none (Nat.le_of_not_lt hj)]
theorem byt_put (xs : List Int) (off : Nat) (ys : List Int) (hx : Byt xs) (hy : Byt ys) : Byt (put xs off ys) := by
  have a := Sf.byt_mem hx
  have b := Sf.byt_mem hy
  apply byt_mem'
  intro x h
  simp only [put, List.mem_append] at h
  rcases h with (h | h) | h
  · exact a x (List.mem_of_mem_take h)
  · exact b x h
  · exact a x (List.mem_of_mem_drop h)
theorem byt_step (s : List Int × Int) (off : Nat) (f : List Int × Int) (hs : Byt s.1) (hf : Byt f.1) : Byt (step s off f).1 := by
  unfold step
  split
  · exact byt_put _ _ _ hs hf
  · exact hs
theorem put_flat (S : List (List Int)) (i off : Nat) (ys : List Int) (hoff : (S.take i).flatten.length = off) (hl : (S.getD i []).length = ys.length) (hi : i < S.length) : put S.flatten off ys = (S.set i ys).flatten := by
  have e : S = S.take i ++ (S.getD i [] :: S.drop (i + 1)) := by
    simp [List.getD, hi]
  have e2 : S.set i ys = S.take i ++ (ys :: S.drop (i + 1)) := List.set_eq_take_append_cons_drop (l := S) (i := i) (a := ys) |>.trans (if_pos hi)
  rw [e2]
  generalize S.getD i [] = Y at *
  generalize S.take i = A at *
  generalize S.drop (i + 1) = D at *
  rw [e]
  subst hoff
  simp only [put, List.flatten_append, List.flatten_cons]
  rw [List.take_append_of_le_length (Nat.le_refl _), List.take_length, ← hl, ← List.append_assoc, List.drop_append, List.drop_of_length_le (by simp)]
  simp
/-- The word that tells this form of headers, and its version. -/
def magic : List Int := [117, 115, 116, 97, 114, 0, 48, 48]
/-- The fields laid one behind the other, up to the first error. -/
def steps (p nm l : ByteArray) (m u g t z : Int) : List Int × Int :=
  step (step (step (step (step (step (step (step (step (step (List.replicate 512 0, 0) 345 (Sf.putS p 155)) 0 (Sf.putS nm 100)) 157 (Sf.putS l 100)) 100 (Nf.putS m 8)) 108 (Nf.putS u 8)) 116 (Nf.putS g 8)) 124 (Nf.putS z 12)) 136 (Nf.putS t 12)) 329 (Nf.putS 0 8)) 337 (Nf.putS 0 8)
/-- What becomes of the fields laid. -/
def fin (m u g z k : Int) (s : List Int × Int) : List Int × Int :=
  if s.2 = 0 then if bel m u g z = true then ([], 10) else Hs.putS (put (s.1.set 156 k) 257 magic) else ([], s.2)
/-- A header's block, as the code lays it. -/
def layC (p nm l : ByteArray) (m u g t z k : Int) : List Int × Int := if isT k = true then fin m u g z k (steps p nm l m u g t z) else ([], 11)
/-- The block's bytes, field by field. -/
def whole (ns ms us gs zs ts : List Int) (k : Int) (ls os ps : List Int) : List Int :=
  ns ++ ms ++ us ++ gs ++ zs ++ ts ++ List.replicate 8 0 ++ [k] ++ ls ++ magic ++ List.replicate 64 0 ++ os ++ os ++ ps ++ List.replicate 12 0
/-- A header's block, as the document tells it. -/
def layS (p nm l : ByteArray) (m u g t z k : Int) : List Int × Int :=
  if isT k = true then
    if (Sf.putS p 155).2 = 0 then
      if (Sf.putS nm 100).2 = 0 then
        if (Sf.putS l 100).2 = 0 then
          if (Nf.putS m 8).2 = 0 then
            if (Nf.putS u 8).2 = 0 then
              if (Nf.putS g 8).2 = 0 then
                if (Nf.putS z 12).2 = 0 then
                  if (Nf.putS t 12).2 = 0 then
                    if bel m u g z = true then ([], 10) else
                      Hs.putS (whole (Sf.putS nm 100).1 (Nf.putS m 8).1 (Nf.putS u 8).1 (Nf.putS g 8).1 (Nf.putS z 12).1 (Nf.putS t 12).1 k (Sf.putS l 100).1 (Nf.putS 0 8).1 (Sf.putS p 155).1)
                  else ([], (Nf.putS t 12).2)
                else ([], (Nf.putS z 12).2)
              else ([], (Nf.putS g 8).2)
            else ([], (Nf.putS u 8).2)
          else ([], (Nf.putS m 8).2)
        else ([], (Sf.putS l 100).2)
      else ([], (Sf.putS nm 100).2)
    else ([], (Sf.putS p 155).2)
  else ([], 11)
theorem zeros512 : List.replicate 512 (0 : Int) = (List.flatten [(List.replicate 100 (0 : Int)), (List.replicate 8 (0 : Int)), (List.replicate 8 (0 : Int)), (List.replicate 8 (0 : Int)), (List.replicate 12 (0 : Int)), (List.replicate 12 (0 : Int)), (List.replicate 8 (0 : Int)), [0], (List.replicate 100 (0 : Int)), (List.replicate 8 (0 : Int)), (List.replicate 64 (0 : Int)), (List.replicate 8 (0 : Int)), (List.replicate 8 (0 : Int)), (List.replicate 155 (0 : Int)), (List.replicate 12 (0 : Int))]) := by decide +kernel
theorem set_put (xs : List Int) (k : Int) (h : 156 < xs.length) : xs.set 156 k = put xs 156 [k] := by
  rw [List.set_eq_take_append_cons_drop, if_pos h]
  simp [put]
set_option maxRecDepth 100000 in
theorem puts_whole (ns ms us gs zs ts ls os ps : List Int) (k : Int) (h0 : ns.length = 100) (h1 : ms.length = 8) (h2 : us.length = 8) (h3 : gs.length = 8) (h4 : zs.length = 12) (h5 : ts.length = 12) (h6 : ls.length = 100) (h7 : os.length = 8) (h8 : ps.length = 155) :
    put ((put (put (put (put (put (put (put (put (put (put (List.replicate 512 0) 345 ps) 0 ns) 157 ls) 100 ms) 108 us) 116 gs) 124 zs) 136 ts) 329 os) 337 os).set 156 k) 257 magic = whole ns ms us gs zs ts k ls os ps := by
  have e0 : put (List.flatten [(List.replicate 100 (0 : Int)), (List.replicate 8 (0 : Int)), (List.replicate 8 (0 : Int)), (List.replicate 8 (0 : Int)), (List.replicate 12 (0 : Int)), (List.replicate 12 (0 : Int)), (List.replicate 8 (0 : Int)), [0], (List.replicate 100 (0 : Int)), (List.replicate 8 (0 : Int)), (List.replicate 64 (0 : Int)), (List.replicate 8 (0 : Int)), (List.replicate 8 (0 : Int)), (List.replicate 155 (0 : Int)), (List.replicate 12 (0 : Int))]) 345 ps = (List.flatten [(List.replicate 100 (0 : Int)), (List.replicate 8 (0 : Int)), (List.replicate 8 (0 : Int)), (List.replicate 8 (0 : Int)), (List.replicate 12 (0 : Int)), (List.replicate 12 (0 : Int)), (List.replicate 8 (0 : Int)), [0], (List.replicate 100 (0 : Int)), (List.replicate 8 (0 : Int)), (List.replicate 64 (0 : Int)), (List.replicate 8 (0 : Int)), (List.replicate 8 (0 : Int)), ps, (List.replicate 12 (0 : Int))]) := put_flat _ 13 345 _ (by simp [*]) (by simp [*]) (by simp)
  have e1 : put (List.flatten [(List.replicate 100 (0 : Int)), (List.replicate 8 (0 : Int)), (List.replicate 8 (0 : Int)), (List.replicate 8 (0 : Int)), (List.replicate 12 (0 : Int)), (List.replicate 12 (0 : Int)), (List.replicate 8 (0 : Int)), [0], (List.replicate 100 (0 : Int)), (List.replicate 8 (0 : Int)), (List.replicate 64 (0 : Int)), (List.replicate 8 (0 : Int)), (List.replicate 8 (0 : Int)), ps, (List.replicate 12 (0 : Int))]) 0 ns = (List.flatten [ns, (List.replicate 8 (0 : Int)), (List.replicate 8 (0 : Int)), (List.replicate 8 (0 : Int)), (List.replicate 12 (0 : Int)), (List.replicate 12 (0 : Int)), (List.replicate 8 (0 : Int)), [0], (List.replicate 100 (0 : Int)), (List.replicate 8 (0 : Int)), (List.replicate 64 (0 : Int)), (List.replicate 8 (0 : Int)), (List.replicate 8 (0 : Int)), ps, (List.replicate 12 (0 : Int))]) := put_flat _ 0 0 _ (by simp [*]) (by simp [*]) (by simp)
  have e2 : put (List.flatten [ns, (List.replicate 8 (0 : Int)), (List.replicate 8 (0 : Int)), (List.replicate 8 (0 : Int)), (List.replicate 12 (0 : Int)), (List.replicate 12 (0 : Int)), (List.replicate 8 (0 : Int)), [0], (List.replicate 100 (0 : Int)), (List.replicate 8 (0 : Int)), (List.replicate 64 (0 : Int)), (List.replicate 8 (0 : Int)), (List.replicate 8 (0 : Int)), ps, (List.replicate 12 (0 : Int))]) 157 ls = (List.flatten [ns, (List.replicate 8 (0 : Int)), (List.replicate 8 (0 : Int)), (List.replicate 8 (0 : Int)), (List.replicate 12 (0 : Int)), (List.replicate 12 (0 : Int)), (List.replicate 8 (0 : Int)), [0], ls, (List.replicate 8 (0 : Int)), (List.replicate 64 (0 : Int)), (List.replicate 8 (0 : Int)), (List.replicate 8 (0 : Int)), ps, (List.replicate 12 (0 : Int))]) := put_flat _ 8 157 _ (by simp [*]) (by simp [*]) (by simp)
  have e3 : put (List.flatten [ns, (List.replicate 8 (0 : Int)), (List.replicate 8 (0 : Int)), (List.replicate 8 (0 : Int)), (List.replicate 12 (0 : Int)), (List.replicate 12 (0 : Int)), (List.replicate 8 (0 : Int)), [0], ls, (List.replicate 8 (0 : Int)), (List.replicate 64 (0 : Int)), (List.replicate 8 (0 : Int)), (List.replicate 8 (0 : Int)), ps, (List.replicate 12 (0 : Int))]) 100 ms = (List.flatten [ns, ms, (List.replicate 8 (0 : Int)), (List.replicate 8 (0 : Int)), (List.replicate 12 (0 : Int)), (List.replicate 12 (0 : Int)), (List.replicate 8 (0 : Int)), [0], ls, (List.replicate 8 (0 : Int)), (List.replicate 64 (0 : Int)), (List.replicate 8 (0 : Int)), (List.replicate 8 (0 : Int)), ps, (List.replicate 12 (0 : Int))]) := put_flat _ 1 100 _ (by simp [*]) (by simp [*]) (by simp)
  have e4 : put (List.flatten [ns, ms, (List.replicate 8 (0 : Int)), (List.replicate 8 (0 : Int)), (List.replicate 12 (0 : Int)), (List.replicate 12 (0 : Int)), (List.replicate 8 (0 : Int)), [0], ls, (List.replicate 8 (0 : Int)), (List.replicate 64 (0 : Int)), (List.replicate 8 (0 : Int)), (List.replicate 8 (0 : Int)), ps, (List.replicate 12 (0 : Int))]) 108 us = (List.flatten [ns, ms, us, (List.replicate 8 (0 : Int)), (List.replicate 12 (0 : Int)), (List.replicate 12 (0 : Int)), (List.replicate 8 (0 : Int)), [0], ls, (List.replicate 8 (0 : Int)), (List.replicate 64 (0 : Int)), (List.replicate 8 (0 : Int)), (List.replicate 8 (0 : Int)), ps, (List.replicate 12 (0 : Int))]) := put_flat _ 2 108 _ (by simp [*]) (by simp [*]) (by simp)
  have e5 : put (List.flatten [ns, ms, us, (List.replicate 8 (0 : Int)), (List.replicate 12 (0 : Int)), (List.replicate 12 (0 : Int)), (List.replicate 8 (0 : Int)), [0], ls, (List.replicate 8 (0 : Int)), (List.replicate 64 (0 : Int)), (List.replicate 8 (0 : Int)), (List.replicate 8 (0 : Int)), ps, (List.replicate 12 (0 : Int))]) 116 gs = (List.flatten [ns, ms, us, gs, (List.replicate 12 (0 : Int)), (List.replicate 12 (0 : Int)), (List.replicate 8 (0 : Int)), [0], ls, (List.replicate 8 (0 : Int)), (List.replicate 64 (0 : Int)), (List.replicate 8 (0 : Int)), (List.replicate 8 (0 : Int)), ps, (List.replicate 12 (0 : Int))]) := put_flat _ 3 116 _ (by simp [*]) (by simp [*]) (by simp)
  have e6 : put (List.flatten [ns, ms, us, gs, (List.replicate 12 (0 : Int)), (List.replicate 12 (0 : Int)), (List.replicate 8 (0 : Int)), [0], ls, (List.replicate 8 (0 : Int)), (List.replicate 64 (0 : Int)), (List.replicate 8 (0 : Int)), (List.replicate 8 (0 : Int)), ps, (List.replicate 12 (0 : Int))]) 124 zs = (List.flatten [ns, ms, us, gs, zs, (List.replicate 12 (0 : Int)), (List.replicate 8 (0 : Int)), [0], ls, (List.replicate 8 (0 : Int)), (List.replicate 64 (0 : Int)), (List.replicate 8 (0 : Int)), (List.replicate 8 (0 : Int)), ps, (List.replicate 12 (0 : Int))]) := put_flat _ 4 124 _ (by simp [*]) (by simp [*]) (by simp)
  have e7 : put (List.flatten [ns, ms, us, gs, zs, (List.replicate 12 (0 : Int)), (List.replicate 8 (0 : Int)), [0], ls, (List.replicate 8 (0 : Int)), (List.replicate 64 (0 : Int)), (List.replicate 8 (0 : Int)), (List.replicate 8 (0 : Int)), ps, (List.replicate 12 (0 : Int))]) 136 ts = (List.flatten [ns, ms, us, gs, zs, ts, (List.replicate 8 (0 : Int)), [0], ls, (List.replicate 8 (0 : Int)), (List.replicate 64 (0 : Int)), (List.replicate 8 (0 : Int)), (List.replicate 8 (0 : Int)), ps, (List.replicate 12 (0 : Int))]) := put_flat _ 5 136 _ (by simp [*]) (by simp [*]) (by simp)
  have e8 : put (List.flatten [ns, ms, us, gs, zs, ts, (List.replicate 8 (0 : Int)), [0], ls, (List.replicate 8 (0 : Int)), (List.replicate 64 (0 : Int)), (List.replicate 8 (0 : Int)), (List.replicate 8 (0 : Int)), ps, (List.replicate 12 (0 : Int))]) 329 os = (List.flatten [ns, ms, us, gs, zs, ts, (List.replicate 8 (0 : Int)), [0], ls, (List.replicate 8 (0 : Int)), (List.replicate 64 (0 : Int)), os, (List.replicate 8 (0 : Int)), ps, (List.replicate 12 (0 : Int))]) := put_flat _ 11 329 _ (by simp [*]) (by simp [*]) (by simp)
  have e9 : put (List.flatten [ns, ms, us, gs, zs, ts, (List.replicate 8 (0 : Int)), [0], ls, (List.replicate 8 (0 : Int)), (List.replicate 64 (0 : Int)), os, (List.replicate 8 (0 : Int)), ps, (List.replicate 12 (0 : Int))]) 337 os = (List.flatten [ns, ms, us, gs, zs, ts, (List.replicate 8 (0 : Int)), [0], ls, (List.replicate 8 (0 : Int)), (List.replicate 64 (0 : Int)), os, os, ps, (List.replicate 12 (0 : Int))]) := put_flat _ 12 337 _ (by simp [*]) (by simp [*]) (by simp)
  have e10 : put (List.flatten [ns, ms, us, gs, zs, ts, (List.replicate 8 (0 : Int)), [0], ls, (List.replicate 8 (0 : Int)), (List.replicate 64 (0 : Int)), os, os, ps, (List.replicate 12 (0 : Int))]) 156 [k] = (List.flatten [ns, ms, us, gs, zs, ts, (List.replicate 8 (0 : Int)), [k], ls, (List.replicate 8 (0 : Int)), (List.replicate 64 (0 : Int)), os, os, ps, (List.replicate 12 (0 : Int))]) := put_flat _ 7 156 _ (by simp [*]) (by simp [*]) (by simp)
  have e11 : put (List.flatten [ns, ms, us, gs, zs, ts, (List.replicate 8 (0 : Int)), [k], ls, (List.replicate 8 (0 : Int)), (List.replicate 64 (0 : Int)), os, os, ps, (List.replicate 12 (0 : Int))]) 257 magic = (List.flatten [ns, ms, us, gs, zs, ts, (List.replicate 8 (0 : Int)), [k], ls, magic, (List.replicate 64 (0 : Int)), os, os, ps, (List.replicate 12 (0 : Int))]) := put_flat _ 9 257 _ (by simp [*]) (by simp [*, magic]) (by simp)
  rw [zeros512, e0, e1, e2, e3, e4, e5, e6, e7, e8, e9, set_put _ _ (by simp [*]), e10, e11]
  simp [whole, List.append_assoc]
theorem len_whole (ns ms us gs zs ts ls os ps : List Int) (k : Int) (h0 : ns.length = 100) (h1 : ms.length = 8) (h2 : us.length = 8) (h3 : gs.length = 8) (h4 : zs.length = 12) (h5 : ts.length = 12) (h6 : ls.length = 100) (h7 : os.length = 8) (h8 : ps.length = 155) :
    (whole ns ms us gs zs ts k ls os ps).length = 512 := by simp [whole, magic, *]
theorem zero8 : (Nf.putS 0 8).2 = 0 ∧ (Nf.putS 0 8).1.length = 8 := by decide +kernel
theorem lay_eq (p nm l : ByteArray) (m u g t z k : Int) (m0 : -9223372036854775808 ≤ m) (m1 : m ≤ 9223372036854775807) (u0 : -9223372036854775808 ≤ u) (u1 : u ≤ 9223372036854775807) (g0 : -9223372036854775808 ≤ g) (g1 : g ≤ 9223372036854775807)
    (t0 : -9223372036854775808 ≤ t) (t1 : t ≤ 9223372036854775807) (z0 : -9223372036854775808 ≤ z) (z1 : z ≤ 9223372036854775807) : layC p nm l m u g t z k = layS p nm l m u g t z k := by
  unfold layC layS
  by_cases hk : isT k = true
  · rw [if_pos hk, if_pos hk]
    have a0 : (Sf.putS p 155).2 = 0 → (Sf.putS p 155).1.length = 155 := (len_putT p 155).2
    have a1 : (Sf.putS nm 100).2 = 0 → (Sf.putS nm 100).1.length = 100 := (len_putT nm 100).2
    have a2 : (Sf.putS l 100).2 = 0 → (Sf.putS l 100).1.length = 100 := (len_putT l 100).2
    have a3 : (Nf.putS m 8).2 = 0 → (Nf.putS m 8).1.length = 8 := (len_putN m 8 m0 m1).2
    have a4 : (Nf.putS u 8).2 = 0 → (Nf.putS u 8).1.length = 8 := (len_putN u 8 u0 u1).2
    have a5 : (Nf.putS g 8).2 = 0 → (Nf.putS g 8).1.length = 8 := (len_putN g 8 g0 g1).2
    have a6 : (Nf.putS z 12).2 = 0 → (Nf.putS z 12).1.length = 12 := (len_putN z 12 z0 z1).2
    have a7 : (Nf.putS t 12).2 = 0 → (Nf.putS t 12).1.length = 12 := (len_putN t 12 t0 t1).2
    have a8 := zero8
    unfold steps
    obtain ⟨Z, hZ⟩ : ∃ Z, Z = List.replicate 512 (0 : Int) := ⟨_, rfl⟩
    rw [← hZ]
    generalize Sf.putS p 155 = F0 at *
    generalize Sf.putS nm 100 = F1 at *
    generalize Sf.putS l 100 = F2 at *
    generalize Nf.putS m 8 = F3 at *
    generalize Nf.putS u 8 = F4 at *
    generalize Nf.putS g 8 = F5 at *
    generalize Nf.putS z 12 = F6 at *
    generalize Nf.putS t 12 = F7 at *
    generalize Nf.putS 0 8 = F8 at *
    by_cases h0 : F0.2 = 0
    · by_cases h1 : F1.2 = 0
      · by_cases h2 : F2.2 = 0
        · by_cases h3 : F3.2 = 0
          · by_cases h4 : F4.2 = 0
            · by_cases h5 : F5.2 = 0
              · by_cases h6 : F6.2 = 0
                · by_cases h7 : F7.2 = 0
                  · have e := puts_whole F1.1 F3.1 F4.1 F5.1 F6.1 F7.1 F2.1 F8.1 F0.1 k (a1 h1) (a3 h3) (a4 h4) (a5 h5) (a6 h6) (a7 h7) (a2 h2) a8.2 (a0 h0)
                    rw [← e, ← hZ]
                    clear e hZ
                    simp only [step, fin, if_pos h0, if_pos h1, if_pos h2, if_pos h3, if_pos h4, if_pos h5, if_pos h6, if_pos h7, if_pos a8.1, if_true]
                  · clear hZ; simp [step, fin, h0, h1, h2, h3, h4, h5, h6, h7]
                · clear hZ; simp [step, fin, h0, h1, h2, h3, h4, h5, h6]
              · clear hZ; simp [step, fin, h0, h1, h2, h3, h4, h5]
            · clear hZ; simp [step, fin, h0, h1, h2, h3, h4]
          · clear hZ; simp [step, fin, h0, h1, h2, h3]
        · clear hZ; simp [step, fin, h0, h1, h2]
      · clear hZ; simp [step, fin, h0, h1]
    · clear hZ; simp [step, fin, h0]
  · rw [if_neg hk, if_neg hk]
end Hh
end Go.Proofs.YtjofdgjcbjdhbaaGreatDoor
/- PLAIN MATHEMATICS OF LAYER 5, SECOND PART: what a block is read as. No Go text is named. -/
namespace Go.Proofs.YtjofdgjcbjdhbaaGreatDoor
open Go.RowKit
namespace Hh
def sub (xs : List Int) (a n : Nat) : List Int := (xs.drop a).take n
/-- A field's text, a field's number, with the error's number; nothing behind an error. -/
def rT (xs : List Int) (a n : Nat) (e : Int) : ByteArray × Int := if e = 0 then (strOfNums (Sf.getS (sub xs a n)).1, (Sf.getS (sub xs a n)).2) else (⟨#[]⟩, e)
def rN (xs : List Int) (a n : Nat) (e : Int) : Int × Int := if e = 0 then Nf.getS (sub xs a n) else (0, e)
def kindOf (xs : List Int) : Int := rd (xs.getD 156 0)
/-- The error's number of what is read. -/
def parE (xs : List Int) : Int :=
  if Hs.checkS xs = 0 then
    if sub xs 257 8 = magic then
      if (Sf.getS (sub xs 345 155)).2 = 0 then
        if (Sf.getS (sub xs 0 100)).2 = 0 then
          if (Sf.getS (sub xs 157 100)).2 = 0 then
            if (Nf.getS (sub xs 100 8)).2 = 0 then
              if (Nf.getS (sub xs 108 8)).2 = 0 then
                if (Nf.getS (sub xs 116 8)).2 = 0 then
                  if (Nf.getS (sub xs 124 12)).2 = 0 then
                    if (Nf.getS (sub xs 136 12)).2 = 0 then
                      if isT (kindOf xs) = true then
                        if bel (Nf.getS (sub xs 100 8)).1 (Nf.getS (sub xs 108 8)).1 (Nf.getS (sub xs 116 8)).1 (Nf.getS (sub xs 124 12)).1 = true then 10 else 0
                      else 11
                    else (Nf.getS (sub xs 136 12)).2
                  else (Nf.getS (sub xs 124 12)).2
                else (Nf.getS (sub xs 116 8)).2
              else (Nf.getS (sub xs 108 8)).2
            else (Nf.getS (sub xs 100 8)).2
          else (Sf.getS (sub xs 157 100)).2
        else (Sf.getS (sub xs 0 100)).2
      else (Sf.getS (sub xs 345 155)).2
    else 3
  else Hs.checkS xs
/-- The header's value that is read. -/
def hdr (p nm l : ByteArray) (m u g t z k : Int) : Value := .agg #[.string p, .string nm, .int .i64 m, .int .i64 u, .int .i64 g, .int .i64 t, .int .i64 z, .int .u8 k, .string l]
def parV (xs : List Int) : Value :=
  if parE xs = 0 then
    hdr (strOfNums (Sf.getS (sub xs 345 155)).1) (strOfNums (Sf.getS (sub xs 0 100)).1) (strOfNums (Sf.getS (sub xs 157 100)).1) (Nf.getS (sub xs 100 8)).1 (Nf.getS (sub xs 108 8)).1 (Nf.getS (sub xs 116 8)).1 (Nf.getS (sub xs 136 12)).1 (Nf.getS (sub xs 124 12)).1 (kindOf xs)
  else hdr ⟨#[]⟩ ⟨#[]⟩ ⟨#[]⟩ 0 0 0 0 0 0
theorem par_chain (xs : List Int) (hck : Hs.checkS xs = 0) (hm : sub xs 257 8 = magic) {a0 a1 a2 : ByteArray} {a3 a4 a5 a6 a7 E0 E1 E2 E3 E4 E5 E6 E7 : Int}
    (h0 : rT xs 345 155 0 = (a0, E0)) (h1 : rT xs 0 100 E0 = (a1, E1)) (h2 : rT xs 157 100 E1 = (a2, E2)) (h3 : rN xs 100 8 E2 = (a3, E3)) (h4 : rN xs 108 8 E3 = (a4, E4)) (h5 : rN xs 116 8 E4 = (a5, E5)) (h6 : rN xs 124 12 E5 = (a6, E6)) (h7 : rN xs 136 12 E6 = (a7, E7)) :
    parE xs = (if E7 = 0 then if isT (kindOf xs) = true then if bel a3 a4 a5 a6 = true then 10 else 0 else 11 else E7) ∧ (parE xs = 0 → parV xs = hdr a0 a1 a2 a3 a4 a5 a7 a6 (kindOf xs)) := by
  have hpe : parE xs = parE xs := rfl
  conv at hpe => rhs; unfold parE; rw [if_pos hck, if_pos hm]
  have hpv : parE xs = 0 → parV xs = parV xs := fun _ => rfl
  have hpv2 : parE xs = 0 → parV xs = hdr (strOfNums (Sf.getS (sub xs 345 155)).1) (strOfNums (Sf.getS (sub xs 0 100)).1) (strOfNums (Sf.getS (sub xs 157 100)).1) (Nf.getS (sub xs 100 8)).1 (Nf.getS (sub xs 108 8)).1 (Nf.getS (sub xs 116 8)).1 (Nf.getS (sub xs 136 12)).1 (Nf.getS (sub xs 124 12)).1 (kindOf xs) := fun h => by unfold parV; rw [if_pos h]
  clear hpv hck hm
  unfold rT at h0 h1 h2
  unfold rN at h3 h4 h5 h6 h7
  generalize parV xs = V at *
  generalize parE xs = P at *
  generalize kindOf xs = K at *
  generalize Sf.getS (sub xs 345 155) = F0 at *
  generalize Sf.getS (sub xs 0 100) = F1 at *
  generalize Sf.getS (sub xs 157 100) = F2 at *
  generalize Nf.getS (sub xs 100 8) = F3 at *
  generalize Nf.getS (sub xs 108 8) = F4 at *
  generalize Nf.getS (sub xs 116 8) = F5 at *
  generalize Nf.getS (sub xs 124 12) = F6 at *
  generalize Nf.getS (sub xs 136 12) = F7 at *
  rw [if_pos rfl] at h0
  obtain ⟨rfl, rfl⟩ := Prod.mk.inj h0
  by_cases g0 : F0.2 = 0
  · rw [if_pos g0] at h1
    obtain ⟨rfl, rfl⟩ := Prod.mk.inj h1
    by_cases g1 : F1.2 = 0
    · rw [if_pos g1] at h2
      obtain ⟨rfl, rfl⟩ := Prod.mk.inj h2
      by_cases g2 : F2.2 = 0
      · rw [if_pos g2] at h3
        obtain ⟨rfl, rfl⟩ : a3 = F3.1 ∧ E3 = F3.2 := by rw [h3]; exact ⟨rfl, rfl⟩
        by_cases g3 : F3.2 = 0
        · rw [if_pos g3] at h4
          obtain ⟨rfl, rfl⟩ : a4 = F4.1 ∧ E4 = F4.2 := by rw [h4]; exact ⟨rfl, rfl⟩
          by_cases g4 : F4.2 = 0
          · rw [if_pos g4] at h5
            obtain ⟨rfl, rfl⟩ : a5 = F5.1 ∧ E5 = F5.2 := by rw [h5]; exact ⟨rfl, rfl⟩
            by_cases g5 : F5.2 = 0
            · rw [if_pos g5] at h6
              obtain ⟨rfl, rfl⟩ : a6 = F6.1 ∧ E6 = F6.2 := by rw [h6]; exact ⟨rfl, rfl⟩
              by_cases g6 : F6.2 = 0
              · rw [if_pos g6] at h7
                obtain ⟨rfl, rfl⟩ : a7 = F7.1 ∧ E7 = F7.2 := by rw [h7]; exact ⟨rfl, rfl⟩
                by_cases g7 : F7.2 = 0
                · simp only [g0, g1, g2, g3, g4, g5, g6, g7, if_true] at hpe ⊢
                  exact ⟨hpe, fun h => hpv2 h⟩
                · have ne : F7.2 ≠ 0 := g7
                  have e : P = F7.2 := by rw [hpe]; simp [g0, g1, g2, g3, g4, g5, g6, g7]
                  exact ⟨by rw [e, if_neg ne], fun h => absurd (e.symm.trans h) ne⟩
              · have ne : F6.2 ≠ 0 := g6
                rw [if_neg ne] at h7
                obtain ⟨rfl, rfl⟩ := Prod.mk.inj h7
                have e : P = F6.2 := by rw [hpe]; simp [g0, g1, g2, g3, g4, g5, g6]
                exact ⟨by rw [e, if_neg ne], fun h => absurd (e.symm.trans h) ne⟩
            · have ne : F5.2 ≠ 0 := g5
              rw [if_neg ne] at h6
              obtain ⟨rfl, rfl⟩ := Prod.mk.inj h6
              rw [if_neg ne] at h7
              obtain ⟨rfl, rfl⟩ := Prod.mk.inj h7
              have e : P = F5.2 := by rw [hpe]; simp [g0, g1, g2, g3, g4, g5]
              exact ⟨by rw [e, if_neg ne], fun h => absurd (e.symm.trans h) ne⟩
          · have ne : F4.2 ≠ 0 := g4
            rw [if_neg ne] at h5
            obtain ⟨rfl, rfl⟩ := Prod.mk.inj h5
            rw [if_neg ne] at h6
            obtain ⟨rfl, rfl⟩ := Prod.mk.inj h6
            rw [if_neg ne] at h7
            obtain ⟨rfl, rfl⟩ := Prod.mk.inj h7
            have e : P = F4.2 := by rw [hpe]; simp [g0, g1, g2, g3, g4]
            exact ⟨by rw [e, if_neg ne], fun h => absurd (e.symm.trans h) ne⟩
        · have ne : F3.2 ≠ 0 := g3
          rw [if_neg ne] at h4
          obtain ⟨rfl, rfl⟩ := Prod.mk.inj h4
          rw [if_neg ne] at h5
          obtain ⟨rfl, rfl⟩ := Prod.mk.inj h5
          rw [if_neg ne] at h6
          obtain ⟨rfl, rfl⟩ := Prod.mk.inj h6
          rw [if_neg ne] at h7
          obtain ⟨rfl, rfl⟩ := Prod.mk.inj h7
          have e : P = F3.2 := by rw [hpe]; simp [g0, g1, g2, g3]
          exact ⟨by rw [e, if_neg ne], fun h => absurd (e.symm.trans h) ne⟩
      · have ne : F2.2 ≠ 0 := g2
        rw [if_neg ne] at h3
        obtain ⟨rfl, rfl⟩ := Prod.mk.inj h3
        rw [if_neg ne] at h4
        obtain ⟨rfl, rfl⟩ := Prod.mk.inj h4
        rw [if_neg ne] at h5
        obtain ⟨rfl, rfl⟩ := Prod.mk.inj h5
        rw [if_neg ne] at h6
        obtain ⟨rfl, rfl⟩ := Prod.mk.inj h6
        rw [if_neg ne] at h7
        obtain ⟨rfl, rfl⟩ := Prod.mk.inj h7
        have e : P = F2.2 := by rw [hpe]; simp [g0, g1, g2]
        exact ⟨by rw [e, if_neg ne], fun h => absurd (e.symm.trans h) ne⟩
    · have ne : F1.2 ≠ 0 := g1
      rw [if_neg ne] at h2
      obtain ⟨rfl, rfl⟩ := Prod.mk.inj h2
      rw [if_neg ne] at h3
      obtain ⟨rfl, rfl⟩ := Prod.mk.inj h3
      rw [if_neg ne] at h4
      obtain ⟨rfl, rfl⟩ := Prod.mk.inj h4
      rw [if_neg ne] at h5
      obtain ⟨rfl, rfl⟩ := Prod.mk.inj h5
      rw [if_neg ne] at h6
      obtain ⟨rfl, rfl⟩ := Prod.mk.inj h6
      rw [if_neg ne] at h7
      obtain ⟨rfl, rfl⟩ := Prod.mk.inj h7
      have e : P = F1.2 := by rw [hpe]; simp [g0, g1]
      exact ⟨by rw [e, if_neg ne], fun h => absurd (e.symm.trans h) ne⟩
  · have ne : F0.2 ≠ 0 := g0
    rw [if_neg ne] at h1
    obtain ⟨rfl, rfl⟩ := Prod.mk.inj h1
    rw [if_neg ne] at h2
    obtain ⟨rfl, rfl⟩ := Prod.mk.inj h2
    rw [if_neg ne] at h3
    obtain ⟨rfl, rfl⟩ := Prod.mk.inj h3
    rw [if_neg ne] at h4
    obtain ⟨rfl, rfl⟩ := Prod.mk.inj h4
    rw [if_neg ne] at h5
    obtain ⟨rfl, rfl⟩ := Prod.mk.inj h5
    rw [if_neg ne] at h6
    obtain ⟨rfl, rfl⟩ := Prod.mk.inj h6
    rw [if_neg ne] at h7
    obtain ⟨rfl, rfl⟩ := Prod.mk.inj h7
    have e : P = F0.2 := by rw [hpe]; simp [g0]
    exact ⟨by rw [e, if_neg ne], fun h => absurd (e.symm.trans h) ne⟩
theorem len_sub {xs : List Int} {a n : Nat} (h : a + n ≤ xs.length) : (sub xs a n).length = n := by simp [sub]; omega
theorem byt_sub {xs : List Int} (h : Byt xs) (a n : Nat) : Byt (sub xs a n) := by
  have := Sf.byt_mem h
  apply byt_mem'
  intro x hx
  exact this x (List.mem_of_mem_drop (List.mem_of_mem_take hx))
end Hh
end Go.Proofs.YtjofdgjcbjdhbaaGreatDoor
/- PLAIN MATHEMATICS OF LAYER 5, FIFTH PART: what is laid is read. No Go text is named. -/
namespace Go.Proofs.YtjofdgjcbjdhbaaGreatDoor
open Go.RowKit
namespace Hh
theorem getD_sub (xs : List Int) (a n j : Nat) (hj : j < n) : (sub xs a n).getD j 0 = xs.getD (a + j) 0 := by
  simp [sub, List.getD, hj]
theorem sub_put (W : List Int) (h : W.length = 512) (a n : Nat) (ha : a + n ≤ 148 ∨ 156 ≤ a) (hn : a + n ≤ 512) : sub (Hs.putS W).1 a n = sub W a n := by
  have l1 := Hs.len_put W h
  have e1 : (sub (Hs.putS W).1 a n).length = n := len_sub (by omega)
  have e2 : (sub W a n).length = n := len_sub (by omega)
  apply List.ext_getElem (by omega)
  intro i h1 h2
  have a1 := getD_sub (Hs.putS W).1 a n i (by omega)
  have a2 := getD_sub W a n i (by omega)
  have a3 := Hs.getD_put W h (a + i) (by omega)
  rw [a3] at a1
  have g : ∀ (l : List Int) (k : Nat) (hk : k < l.length), l.getD k 0 = l[k] := fun l k hk => by simp [List.getD, hk]
  rw [g _ _ h1] at a1
  rw [g _ _ h2] at a2
  rw [a1, a2]
theorem sub_flat (S : List (List Int)) (i a n : Nat) (ha : (S.take i).flatten.length = a) (hn : (S.getD i []).length = n) (hi : i < S.length) : sub S.flatten a n = S.getD i [] := by
  have e : S = S.take i ++ (S.getD i [] :: S.drop (i + 1)) := by
    simp [List.getD, hi]
  generalize S.getD i [] = Y at *
  generalize S.take i = A at *
  generalize S.drop (i + 1) = D at *
  rw [e]
  subst ha
  subst hn
  simp only [sub, List.flatten_append, List.flatten_cons]
  rw [List.drop_left]
  exact List.take_left
theorem isT_ne {k : Int} (h : isT k = true) : rd k = k := by
  unfold rd
  split
  · rename_i h0
    subst h0
    simp [isT] at h
  · rfl
theorem isT_byt {k : Int} (h : isT k = true) : 0 ≤ k ∧ k ≤ 255 := by
  simp only [isT, Bool.or_eq_true, beq_iff_eq] at h
  omega
def segs (ns ms us gs zs ts : List Int) (k : Int) (ls os ps : List Int) : List (List Int) := [ns, ms, us, gs, zs, ts, List.replicate 8 0, [k], ls, magic, List.replicate 64 0, os, os, ps, List.replicate 12 0]
theorem whole_segs (ns ms us gs zs ts : List Int) (k : Int) (ls os ps : List Int) : whole ns ms us gs zs ts k ls os ps = (segs ns ms us gs zs ts k ls os ps).flatten := by
  simp only [whole, segs, List.flatten_cons, List.flatten_nil, List.append_nil, List.append_assoc]
theorem layS_zero (p nm l : ByteArray) (m u g t z k : Int) (h : (layS p nm l m u g t z k).2 = 0) : isT k = true ∧ (Sf.putS p 155).2 = 0 ∧ (Sf.putS nm 100).2 = 0 ∧ (Sf.putS l 100).2 = 0 ∧ (Nf.putS m 8).2 = 0 ∧ (Nf.putS u 8).2 = 0 ∧ (Nf.putS g 8).2 = 0 ∧ (Nf.putS z 12).2 = 0 ∧ (Nf.putS t 12).2 = 0 ∧ bel m u g z = false ∧
    layS p nm l m u g t z k = Hs.putS (whole (Sf.putS nm 100).1 (Nf.putS m 8).1 (Nf.putS u 8).1 (Nf.putS g 8).1 (Nf.putS z 12).1 (Nf.putS t 12).1 k (Sf.putS l 100).1 (Nf.putS 0 8).1 (Sf.putS p 155).1) := by
  unfold layS at *
  by_cases c0 : isT k = true
  · rw [if_pos c0] at h ⊢
    by_cases c1 : (Sf.putS p 155).2 = 0
    · rw [if_pos c1] at h ⊢
      by_cases c2 : (Sf.putS nm 100).2 = 0
      · rw [if_pos c2] at h ⊢
        by_cases c3 : (Sf.putS l 100).2 = 0
        · rw [if_pos c3] at h ⊢
          by_cases c4 : (Nf.putS m 8).2 = 0
          · rw [if_pos c4] at h ⊢
            by_cases c5 : (Nf.putS u 8).2 = 0
            · rw [if_pos c5] at h ⊢
              by_cases c6 : (Nf.putS g 8).2 = 0
              · rw [if_pos c6] at h ⊢
                by_cases c7 : (Nf.putS z 12).2 = 0
                · rw [if_pos c7] at h ⊢
                  by_cases c8 : (Nf.putS t 12).2 = 0
                  · rw [if_pos c8] at h ⊢
                    by_cases c9 : bel m u g z = true
                    · rw [if_pos c9] at h; exact absurd h (by decide)
                    · rw [if_neg c9] at h ⊢
                      exact ⟨c0, c1, c2, c3, c4, c5, c6, c7, c8, by simpa using c9, rfl⟩
                  · rw [if_neg c8] at h; exact absurd h c8
                · rw [if_neg c7] at h; exact absurd h c7
              · rw [if_neg c6] at h; exact absurd h c6
            · rw [if_neg c5] at h; exact absurd h c5
          · rw [if_neg c4] at h; exact absurd h c4
        · rw [if_neg c3] at h; exact absurd h c3
      · rw [if_neg c2] at h; exact absurd h c2
    · rw [if_neg c1] at h; exact absurd h c1
  · rw [if_neg c0] at h; exact absurd h (by decide)
set_option maxRecDepth 100000 in
theorem back (p nm l : ByteArray) (m u g t z k : Int) (m0 : -9223372036854775808 ≤ m) (m1 : m ≤ 9223372036854775807) (u0 : -9223372036854775808 ≤ u) (u1 : u ≤ 9223372036854775807) (g0 : -9223372036854775808 ≤ g) (g1 : g ≤ 9223372036854775807)
    (t0 : -9223372036854775808 ≤ t) (t1 : t ≤ 9223372036854775807) (z0 : -9223372036854775808 ≤ z) (z1 : z ≤ 9223372036854775807) (h : (layC p nm l m u g t z k).2 = 0) :
    parE (layC p nm l m u g t z k).1 = 0 ∧ parV (layC p nm l m u g t z k).1 = hdr p nm l m u g t z k ∧ (layC p nm l m u g t z k).1.length = 512 ∧ Byt (layC p nm l m u g t z k).1 ∧ (layC p nm l m u g t z k).1.getD 156 0 = k := by
  rw [lay_eq p nm l m u g t z k m0 m1 u0 u1 g0 g1 t0 t1 z0 z1] at h ⊢
  obtain ⟨c0, c1, c2, c3, c4, c5, c6, c7, c8, c9, e⟩ := layS_zero p nm l m u g t z k h
  rw [e]
  clear e h
  obtain ⟨P1, P2, P3⟩ := Sf.put_back p 155 c1
  obtain ⟨N1, N2, N3⟩ := Sf.put_back nm 100 c2
  obtain ⟨L1, L2, L3⟩ := Sf.put_back l 100 c3
  obtain ⟨M1, M2⟩ := Nf.put_good m 8 m0 m1 c4
  obtain ⟨U1, U2⟩ := Nf.put_good u 8 u0 u1 c5
  obtain ⟨G1, G2⟩ := Nf.put_good g 8 g0 g1 c6
  obtain ⟨Z1, Z2⟩ := Nf.put_good z 12 z0 z1 c7
  obtain ⟨T1, T2⟩ := Nf.put_good t 12 t0 t1 c8
  have bM := Nf.byt_putS m 8
  have bU := Nf.byt_putS u 8
  have bG := Nf.byt_putS g 8
  have bZ := Nf.byt_putS z 12
  have bT := Nf.byt_putS t 12
  have bO := Nf.byt_putS 0 8
  have z8 := zero8
  generalize (Sf.putS p 155).1 = ps at *
  generalize (Sf.putS nm 100).1 = ns at *
  generalize (Sf.putS l 100).1 = ls at *
  generalize (Nf.putS m 8).1 = ms at *
  generalize (Nf.putS u 8).1 = us at *
  generalize (Nf.putS g 8).1 = gs at *
  generalize (Nf.putS z 12).1 = zs at *
  generalize (Nf.putS t 12).1 = ts at *
  generalize (Nf.putS 0 8).1 = os at *
  have lp : ps.length = 155 := by omega
  have ln : ns.length = 100 := by omega
  have ll : ls.length = 100 := by omega
  have lm : ms.length = 8 := by omega
  have lu : us.length = 8 := by omega
  have lg : gs.length = 8 := by omega
  have lz : zs.length = 12 := by omega
  have lt : ts.length = 12 := by omega
  have lo : os.length = 8 := z8.2
  have hk := isT_byt c0
  have hl := len_whole ns ms us gs zs ts ls os ps k ln lm lu lg lz lt ll lo lp
  have hb : Byt (whole ns ms us gs zs ts k ls os ps) := by
    unfold whole
    exact Byt.append (Byt.append (Byt.append (Byt.append (Byt.append (Byt.append (Byt.append (Byt.append (Byt.append (Byt.append (Byt.append (Byt.append (Byt.append (Byt.append N2 bM) bU) bG) bZ) bT) (Sf.byt_rep _)) (byt_mem' (by simpa using hk))) L2) (byt_mem' (by decide))) (Sf.byt_rep _)) bO) bO) P2) (Sf.byt_rep _)
  have sg : ∀ (i a n : Nat) (Y : List Int), (((segs ns ms us gs zs ts k ls os ps).take i).flatten.length = a) → ((segs ns ms us gs zs ts k ls os ps).getD i [] = Y) → Y.length = n → i < 15 → (a + n ≤ 148 ∨ 156 ≤ a) → a + n ≤ 512 →
      sub (Hs.putS (whole ns ms us gs zs ts k ls os ps)).1 a n = Y := fun i a n Y h1 h2 h3 h4 h5 h6 => by
    rw [sub_put _ hl a n h5 h6, whole_segs]
    rw [sub_flat _ i a n h1 (by rw [h2, h3]) h4, h2]
  have s0 := sg 0 0 100 ns (by simp [segs]) rfl ln (by omega) (by omega) (by omega)
  have s1 := sg 1 100 8 ms (by simp [segs, *]) rfl lm (by omega) (by omega) (by omega)
  have s2 := sg 2 108 8 us (by simp [segs, *]) rfl lu (by omega) (by omega) (by omega)
  have s3 := sg 3 116 8 gs (by simp [segs, *]) rfl lg (by omega) (by omega) (by omega)
  have s4 := sg 4 124 12 zs (by simp [segs, *]) rfl lz (by omega) (by omega) (by omega)
  have s5 := sg 5 136 12 ts (by simp [segs, *]) rfl lt (by omega) (by omega) (by omega)
  have s7 := sg 7 156 1 [k] (by simp [segs, *]) rfl rfl (by omega) (by omega) (by omega)
  have s8 := sg 8 157 100 ls (by simp [segs, *]) rfl ll (by omega) (by omega) (by omega)
  have s9 := sg 9 257 8 magic (by simp [segs, *]) rfl rfl (by omega) (by omega) (by omega)
  have s13 := sg 13 345 155 ps (by simp [segs, *, magic]) rfl lp (by omega) (by omega) (by omega)
  have hc := Hs.check_put _ hl hb
  have hy := Hs.len_put _ hl
  have hyb := Hs.byt_put _ hb
  generalize (Hs.putS (whole ns ms us gs zs ts k ls os ps)).1 = Y at *
  have hk7 : Y.getD 156 0 = k := by
    have := getD_sub Y 156 1 0 (by omega)
    rw [s7] at this
    exact this.symm
  have hkk : kindOf Y = k := by unfold kindOf; rw [hk7]; exact isT_ne c0
  have pe : parE Y = 0 := by
    unfold parE
    rw [hc, s9, s13, s0, s8, s1, s2, s3, s4, s5, P3, N3, L3, M2, U2, G2, Z2, T2, hkk, c0, c9]
    simp
  refine ⟨pe, ?_, hy, hyb, hk7⟩
  unfold parV
  rw [if_pos pe, s13, s0, s8, s1, s2, s3, s4, s5, P3, N3, L3, M2, U2, G2, Z2, T2, hkk, Sf.str_nums, Sf.str_nums, Sf.str_nums]
end Hh
end Go.Proofs.YtjofdgjcbjdhbaaGreatDoor
/- PLAIN MATHEMATICS OF LAYER 5, FOURTH PART: the errors of what is read, one behind the other. No Go text is named. -/
namespace Go.Proofs.YtjofdgjcbjdhbaaGreatDoor
open Go.RowKit
namespace Hh
def frl : List Nat := [100, 108, 116, 124, 136]
def tol : List Nat := [108, 116, 124, 136, 148]
/-- The number of a field that is read, with the error's number. -/
def gld (xs : List Int) (j : Nat) : Int × Int := Nf.getS (sub xs (frl.getD j 0) (tol.getD j 0 - frl.getD j 0))
theorem ends (j : Nat) (hj : j < 5) : frl.getD j 0 + 8 ≤ tol.getD j 0 ∧ tol.getD j 0 ≤ 148 := by
  match j, hj with
  | 0, _ => decide
  | 1, _ => decide
  | 2, _ => decide
  | 3, _ => decide
  | 4, _ => decide
theorem parE_m (xs : List Int) (hc : Hs.checkS xs = 0) (hm : ¬ sub xs 257 8 = magic) : parE xs = 3 := by
  unfold parE; rw [if_pos hc, if_neg hm]
theorem parE_c (xs : List Int) (hc : Hs.checkS xs ≠ 0) : parE xs = Hs.checkS xs := by
  unfold parE; rw [if_neg hc]
theorem parE_p (xs : List Int) (hc : Hs.checkS xs = 0) (hm : sub xs 257 8 = magic) (h0 : (Sf.getS (sub xs 345 155)).2 ≠ 0) : parE xs = (Sf.getS (sub xs 345 155)).2 := by
  unfold parE; rw [if_pos hc, if_pos hm, if_neg h0]
theorem parE_n (xs : List Int) (hc : Hs.checkS xs = 0) (hm : sub xs 257 8 = magic) (h0 : (Sf.getS (sub xs 345 155)).2 = 0) (h1 : (Sf.getS (sub xs 0 100)).2 ≠ 0) : parE xs = (Sf.getS (sub xs 0 100)).2 := by
  unfold parE; rw [if_pos hc, if_pos hm, if_pos h0, if_neg h1]
theorem parE_l (xs : List Int) (hc : Hs.checkS xs = 0) (hm : sub xs 257 8 = magic) (h0 : (Sf.getS (sub xs 345 155)).2 = 0) (h1 : (Sf.getS (sub xs 0 100)).2 = 0) (h2 : (Sf.getS (sub xs 157 100)).2 ≠ 0) : parE xs = (Sf.getS (sub xs 157 100)).2 := by
  unfold parE; rw [if_pos hc, if_pos hm, if_pos h0, if_pos h1, if_neg h2]
theorem parE_at (xs : List Int) (hc : Hs.checkS xs = 0) (hm : sub xs 257 8 = magic) (h0 : (Sf.getS (sub xs 345 155)).2 = 0) (h1 : (Sf.getS (sub xs 0 100)).2 = 0) (h2 : (Sf.getS (sub xs 157 100)).2 = 0)
    (j : Nat) (hj : j < 5) (ok : ∀ i, i < j → (gld xs i).2 = 0) (he : (gld xs j).2 ≠ 0) : parE xs = (gld xs j).2 := by
  unfold parE
  rw [if_pos hc, if_pos hm, if_pos h0, if_pos h1, if_pos h2]
  match j, hj, ok, he with
  | 0, _, ok, he => rw [if_neg (show ¬ (Nf.getS (sub xs 100 8)).2 = 0 from he)]; rfl
  | 1, _, ok, he => rw [if_pos (show (Nf.getS (sub xs 100 8)).2 = 0 from ok 0 (by omega)), if_neg (show ¬ (Nf.getS (sub xs 108 8)).2 = 0 from he)]; rfl
  | 2, _, ok, he => rw [if_pos (show (Nf.getS (sub xs 100 8)).2 = 0 from ok 0 (by omega)), if_pos (show (Nf.getS (sub xs 108 8)).2 = 0 from ok 1 (by omega)), if_neg (show ¬ (Nf.getS (sub xs 116 8)).2 = 0 from he)]; rfl
  | 3, _, ok, he => rw [if_pos (show (Nf.getS (sub xs 100 8)).2 = 0 from ok 0 (by omega)), if_pos (show (Nf.getS (sub xs 108 8)).2 = 0 from ok 1 (by omega)), if_pos (show (Nf.getS (sub xs 116 8)).2 = 0 from ok 2 (by omega)), if_neg (show ¬ (Nf.getS (sub xs 124 12)).2 = 0 from he)]; rfl
  | 4, _, ok, he => rw [if_pos (show (Nf.getS (sub xs 100 8)).2 = 0 from ok 0 (by omega)), if_pos (show (Nf.getS (sub xs 108 8)).2 = 0 from ok 1 (by omega)), if_pos (show (Nf.getS (sub xs 116 8)).2 = 0 from ok 2 (by omega)), if_pos (show (Nf.getS (sub xs 124 12)).2 = 0 from ok 3 (by omega)), if_neg (show ¬ (Nf.getS (sub xs 136 12)).2 = 0 from he)]; rfl
theorem parE_end (xs : List Int) (hc : Hs.checkS xs = 0) (hm : sub xs 257 8 = magic) (h0 : (Sf.getS (sub xs 345 155)).2 = 0) (h1 : (Sf.getS (sub xs 0 100)).2 = 0) (h2 : (Sf.getS (sub xs 157 100)).2 = 0)
    (ok : ∀ i, i < 5 → (gld xs i).2 = 0) : parE xs = if isT (kindOf xs) = true then if bel (gld xs 0).1 (gld xs 1).1 (gld xs 2).1 (gld xs 3).1 = true then 10 else 0 else 11 := by
  unfold parE
  rw [if_pos hc, if_pos hm, if_pos h0, if_pos h1, if_pos h2, if_pos (show (Nf.getS (sub xs 100 8)).2 = 0 from ok 0 (by omega)), if_pos (show (Nf.getS (sub xs 108 8)).2 = 0 from ok 1 (by omega)), if_pos (show (Nf.getS (sub xs 116 8)).2 = 0 from ok 2 (by omega)), if_pos (show (Nf.getS (sub xs 124 12)).2 = 0 from ok 3 (by omega)), if_pos (show (Nf.getS (sub xs 136 12)).2 = 0 from ok 4 (by omega))]
  rfl
theorem parV_bad (xs : List Int) (h : parE xs ≠ 0) : parV xs = hdr ⟨#[]⟩ ⟨#[]⟩ ⟨#[]⟩ 0 0 0 0 0 0 := by
  unfold parV; rw [if_neg h]
theorem parV_ok (xs : List Int) (h : parE xs = 0) : parV xs = hdr (strOfNums (Sf.getS (sub xs 345 155)).1) (strOfNums (Sf.getS (sub xs 0 100)).1) (strOfNums (Sf.getS (sub xs 157 100)).1) (gld xs 0).1 (gld xs 1).1 (gld xs 2).1 (gld xs 4).1 (gld xs 3).1 (kindOf xs) := by
  unfold parV; rw [if_pos h]; rfl
/-- The cells of the five numbers, j of them read. -/
def arr5 (xs : List Int) (j : Nat) : Array Value := #[.int .i64 (if 0 < j then (gld xs 0).1 else 0), .int .i64 (if 1 < j then (gld xs 1).1 else 0), .int .i64 (if 2 < j then (gld xs 2).1 else 0), .int .i64 (if 3 < j then (gld xs 3).1 else 0), .int .i64 (if 4 < j then (gld xs 4).1 else 0)]
theorem arr5_set (xs : List Int) (j : Nat) (hj : j < 5) : (arr5 xs j).setIfInBounds j (.int .i64 (gld xs j).1) = arr5 xs (j + 1) := by
  match j, hj with
  | 0, _ => rfl
  | 1, _ => rfl
  | 2, _ => rfl
  | 3, _ => rfl
  | 4, _ => rfl
theorem arr5_get (xs : List Int) (j i : Nat) (hi : i < 5) : ∃ v, (arr5 xs j)[i]? = some v := by
  match i, hi with
  | 0, _ => exact ⟨_, rfl⟩
  | 1, _ => exact ⟨_, rfl⟩
  | 2, _ => exact ⟨_, rfl⟩
  | 3, _ => exact ⟨_, rfl⟩
  | 4, _ => exact ⟨_, rfl⟩
end Hh
end Go.Proofs.YtjofdgjcbjdhbaaGreatDoor
/- PLAIN MATHEMATICS OF LAYER 5, SIXTH PART: what is not laid is empty. No Go text is named. -/
namespace Go.Proofs.YtjofdgjcbjdhbaaGreatDoor
open Go.RowKit
namespace Hh
theorem putS_zero (W : List Int) (h : (Hs.putS W).2 ≠ 0) : Hs.putS W = ([], (Hs.putS W).2) := by
  unfold Hs.putS at *
  split
  · rename_i h1
    rw [if_pos h1] at h
    exact absurd rfl h
  · rfl
theorem layS_bad (p nm l : ByteArray) (m u g t z k : Int) (h : (layS p nm l m u g t z k).2 ≠ 0) : (layS p nm l m u g t z k).1 = [] := by
  unfold layS at *
  by_cases c0 : isT k = true
  · rw [if_pos c0] at h ⊢
    by_cases c1 : (Sf.putS p 155).2 = 0
    · rw [if_pos c1] at h ⊢
      by_cases c2 : (Sf.putS nm 100).2 = 0
      · rw [if_pos c2] at h ⊢
        by_cases c3 : (Sf.putS l 100).2 = 0
        · rw [if_pos c3] at h ⊢
          by_cases c4 : (Nf.putS m 8).2 = 0
          · rw [if_pos c4] at h ⊢
            by_cases c5 : (Nf.putS u 8).2 = 0
            · rw [if_pos c5] at h ⊢
              by_cases c6 : (Nf.putS g 8).2 = 0
              · rw [if_pos c6] at h ⊢
                by_cases c7 : (Nf.putS z 12).2 = 0
                · rw [if_pos c7] at h ⊢
                  by_cases c8 : (Nf.putS t 12).2 = 0
                  · rw [if_pos c8] at h ⊢
                    by_cases c9 : bel m u g z = true
                    · rw [if_pos c9]
                    · rw [if_neg c9] at h ⊢
                      rw [putS_zero _ h]
                  · rw [if_neg c8]
                · rw [if_neg c7]
              · rw [if_neg c6]
            · rw [if_neg c5]
          · rw [if_neg c4]
        · rw [if_neg c3]
      · rw [if_neg c2]
    · rw [if_neg c1]
  · rw [if_neg c0]
end Hh
end Go.Proofs.YtjofdgjcbjdhbaaGreatDoor
/- PLAIN MATHEMATICS OF LAYER 5, THIRD PART: the numbers' fields one behind the other. No Go text is named. -/
namespace Go.Proofs.YtjofdgjcbjdhbaaGreatDoor
open Go.RowKit
namespace Hh
/-- The numbers, their widths, a number's field, the fields one behind the other. -/
def nl (m u g z t : Int) : List Int := [m, u, g, z, t]
def wl : List Int := [8, 8, 8, 12, 12]
def fld (m u g z t : Int) (j : Nat) : List Int × Int := Nf.putS ((nl m u g z t).getD j 0) (wl.getD j 0)
def fcat (m u g z t : Int) (j : Nat) : List Int := ((List.range j).map fun i => (fld m u g z t i).1).flatten
theorem fcat_zero (m u g z t : Int) : fcat m u g z t 0 = [] := rfl
theorem fcat_succ (m u g z t : Int) (j : Nat) : fcat m u g z t (j + 1) = fcat m u g z t j ++ (fld m u g z t j).1 := by
  simp [fcat, List.range_succ]
theorem fcat_five (m u g z t : Int) : fcat m u g z t 5 = (Nf.putS m 8).1 ++ (Nf.putS u 8).1 ++ (Nf.putS g 8).1 ++ (Nf.putS z 12).1 ++ (Nf.putS t 12).1 := by
  rw [fcat_succ, fcat_succ, fcat_succ, fcat_succ, fcat_succ, fcat_zero]
  simp [fld, nl, wl]
theorem len_fcat (m u g z t : Int) : ∀ j, (fcat m u g z t j).length ≤ 12 * j
  | 0 => by simp [fcat_zero]
  | j + 1 => by
    have h1 := len_fcat m u g z t j
    have h2 := Nf.len_putS ((nl m u g z t).getD j 0) (wl.getD j 0)
    rw [fcat_succ, List.length_append]
    unfold fld
    omega
theorem layS_p (p nm l : ByteArray) (m u g t z k : Int) (hk : isT k = true) (h0 : (Sf.putS p 155).2 ≠ 0) : layS p nm l m u g t z k = ([], (Sf.putS p 155).2) := by
  unfold layS; rw [if_pos hk, if_neg h0]
theorem layS_n (p nm l : ByteArray) (m u g t z k : Int) (hk : isT k = true) (h0 : (Sf.putS p 155).2 = 0) (h1 : (Sf.putS nm 100).2 ≠ 0) : layS p nm l m u g t z k = ([], (Sf.putS nm 100).2) := by
  unfold layS; rw [if_pos hk, if_pos h0, if_neg h1]
theorem layS_l (p nm l : ByteArray) (m u g t z k : Int) (hk : isT k = true) (h0 : (Sf.putS p 155).2 = 0) (h1 : (Sf.putS nm 100).2 = 0) (h2 : (Sf.putS l 100).2 ≠ 0) : layS p nm l m u g t z k = ([], (Sf.putS l 100).2) := by
  unfold layS; rw [if_pos hk, if_pos h0, if_pos h1, if_neg h2]
theorem layS_at (p nm l : ByteArray) (m u g t z k : Int) (hk : isT k = true) (h0 : (Sf.putS p 155).2 = 0) (h1 : (Sf.putS nm 100).2 = 0) (h2 : (Sf.putS l 100).2 = 0) (j : Nat) (hj : j < 5) (ok : ∀ i, i < j → (fld m u g z t i).2 = 0) (he : (fld m u g z t j).2 ≠ 0) :
    layS p nm l m u g t z k = ([], (fld m u g z t j).2) := by
  unfold layS
  rw [if_pos hk, if_pos h0, if_pos h1, if_pos h2]
  match j, hj, ok, he with
  | 0, _, ok, he => rw [if_neg (show ¬ (Nf.putS m 8).2 = 0 from he)]; rfl
  | 1, _, ok, he => rw [if_pos (show (Nf.putS m 8).2 = 0 from ok 0 (by omega)), if_neg (show ¬ (Nf.putS u 8).2 = 0 from he)]; rfl
  | 2, _, ok, he => rw [if_pos (show (Nf.putS m 8).2 = 0 from ok 0 (by omega)), if_pos (show (Nf.putS u 8).2 = 0 from ok 1 (by omega)), if_neg (show ¬ (Nf.putS g 8).2 = 0 from he)]; rfl
  | 3, _, ok, he => rw [if_pos (show (Nf.putS m 8).2 = 0 from ok 0 (by omega)), if_pos (show (Nf.putS u 8).2 = 0 from ok 1 (by omega)), if_pos (show (Nf.putS g 8).2 = 0 from ok 2 (by omega)), if_neg (show ¬ (Nf.putS z 12).2 = 0 from he)]; rfl
  | 4, _, ok, he => rw [if_pos (show (Nf.putS m 8).2 = 0 from ok 0 (by omega)), if_pos (show (Nf.putS u 8).2 = 0 from ok 1 (by omega)), if_pos (show (Nf.putS g 8).2 = 0 from ok 2 (by omega)), if_pos (show (Nf.putS z 12).2 = 0 from ok 3 (by omega)), if_neg (show ¬ (Nf.putS t 12).2 = 0 from he)]; rfl
theorem layS_end (p nm l : ByteArray) (m u g t z k : Int) (hk : isT k = true) (h0 : (Sf.putS p 155).2 = 0) (h1 : (Sf.putS nm 100).2 = 0) (h2 : (Sf.putS l 100).2 = 0) (ok : ∀ i, i < 5 → (fld m u g z t i).2 = 0) :
    layS p nm l m u g t z k = if bel m u g z = true then ([], 10) else Hs.putS (whole (Sf.putS nm 100).1 (Nf.putS m 8).1 (Nf.putS u 8).1 (Nf.putS g 8).1 (Nf.putS z 12).1 (Nf.putS t 12).1 k (Sf.putS l 100).1 (Nf.putS 0 8).1 (Sf.putS p 155).1) := by
  unfold layS
  rw [if_pos hk, if_pos h0, if_pos h1, if_pos h2, if_pos (show (Nf.putS m 8).2 = 0 from ok 0 (by omega)), if_pos (show (Nf.putS u 8).2 = 0 from ok 1 (by omega)), if_pos (show (Nf.putS g 8).2 = 0 from ok 2 (by omega)), if_pos (show (Nf.putS z 12).2 = 0 from ok 3 (by omega)), if_pos (show (Nf.putS t 12).2 = 0 from ok 4 (by omega))]
theorem fld_pos (m u g z t : Int) (m0 : -9223372036854775808 ≤ m) (m1 : m ≤ 9223372036854775807) (u0 : -9223372036854775808 ≤ u) (u1 : u ≤ 9223372036854775807) (g0 : -9223372036854775808 ≤ g) (g1 : g ≤ 9223372036854775807)
    (t0 : -9223372036854775808 ≤ t) (t1 : t ≤ 9223372036854775807) (z0 : -9223372036854775808 ≤ z) (z1 : z ≤ 9223372036854775807) (j : Nat) (hj : j < 5) (h : (fld m u g z t j).2 = 0) : 0 < (fld m u g z t j).1.length := by
  match j, hj, h with
  | 0, _, h => have := (Nf.put_good m 8 m0 m1 h).1; show 0 < (Nf.putS m 8).1.length; omega
  | 1, _, h => have := (Nf.put_good u 8 u0 u1 h).1; show 0 < (Nf.putS u 8).1.length; omega
  | 2, _, h => have := (Nf.put_good g 8 g0 g1 h).1; show 0 < (Nf.putS g 8).1.length; omega
  | 3, _, h => have := (Nf.put_good z 12 z0 z1 h).1; show 0 < (Nf.putS z 12).1.length; omega
  | 4, _, h => have := (Nf.put_good t 12 t0 t1 h).1; show 0 < (Nf.putS t 12).1.length; omega
theorem fcat_five_len (m u g z t : Int) (m0 : -9223372036854775808 ≤ m) (m1 : m ≤ 9223372036854775807) (u0 : -9223372036854775808 ≤ u) (u1 : u ≤ 9223372036854775807) (g0 : -9223372036854775808 ≤ g) (g1 : g ≤ 9223372036854775807)
    (t0 : -9223372036854775808 ≤ t) (t1 : t ≤ 9223372036854775807) (z0 : -9223372036854775808 ≤ z) (z1 : z ≤ 9223372036854775807) (ok : ∀ i, i < 5 → (fld m u g z t i).2 = 0) : (fcat m u g z t 5).length = 48 := by
  have a := (Nf.put_good m 8 m0 m1 (ok 0 (by omega))).1
  have b := (Nf.put_good u 8 u0 u1 (ok 1 (by omega))).1
  have c := (Nf.put_good g 8 g0 g1 (ok 2 (by omega))).1
  have d := (Nf.put_good z 12 z0 z1 (ok 3 (by omega))).1
  have e := (Nf.put_good t 12 t0 t1 (ok 4 (by omega))).1
  rw [fcat_five]
  simp only [List.length_append]
  omega
theorem byt_fcat (m u g z t : Int) : ∀ j, Byt (fcat m u g z t j)
  | 0 => by rw [fcat_zero]; exact Byt.nil
  | j + 1 => by
    rw [fcat_succ]
    exact Byt.append (byt_fcat m u g z t j) (Nf.byt_putS _ _)
/-- The whole, by its longer pieces. -/
theorem whole_of (ns ls ps : List Int) (m u g z t k : Int) : whole ns (Nf.putS m 8).1 (Nf.putS u 8).1 (Nf.putS g 8).1 (Nf.putS z 12).1 (Nf.putS t 12).1 k ls (Nf.putS 0 8).1 ps =
    ns ++ fcat m u g z t 5 ++ List.replicate 8 0 ++ [k] ++ ls ++ magic ++ List.replicate 64 0 ++ (Nf.putS 0 8).1 ++ (Nf.putS 0 8).1 ++ ps ++ List.replicate 12 0 := by
  rw [fcat_five]
  simp only [whole, List.append_assoc]
end Hh
end Go.Proofs.YtjofdgjcbjdhbaaGreatDoor
