/- PLAIN MATHEMATICS OF LAYER 5 (a header's block): what the contracts of the walks speak of; no Go text is named. -/
import Derived.Test.YtfkhemlaohkhkaaDoorN2b
import Derived.Test.YtfkhemlaohkhkaaDoorN3
namespace Go.Proofs.YtfkhemlaohkhkaaDoor
open Go.RowKit
namespace Hh
/-- Is it one of the six types? -/
def isT (k : Int) : Bool := k == 48 || k == 49 || k == 50 || k == 53 || k == 120 || k == 103
/-- Is a number below 0 that may not be? -/
def bel (m u g z : Int) : Bool := decide (m < 0) || decide (u < 0) || decide (g < 0) || decide (z < 0)
/-- A type as it is read. -/
def rd (k : Int) : Int := if k = 0 then 48 else k
/-- Are two headers the same? -/
def same (p nm l : ByteArray) (m u g t z k : Int) (p2 nm2 l2 : ByteArray) (m2 u2 g2 t2 z2 k2 : Int) : Bool := decide (p = p2) && decide (nm = nm2) && decide (m = m2) && decide (u = u2) && decide (g = g2) && decide (t = t2) && decide (z = z2) && decide (k = k2) && decide (l = l2)
theorem same_iff (p nm l : ByteArray) (m u g t z k : Int) (p2 nm2 l2 : ByteArray) (m2 u2 g2 t2 z2 k2 : Int) : same p nm l m u g t z k p2 nm2 l2 m2 u2 g2 t2 z2 k2 = true ↔ p = p2 ∧ nm = nm2 ∧ m = m2 ∧ u = u2 ∧ g = g2 ∧ t = t2 ∧ z = z2 ∧ k = k2 ∧ l = l2 := by
  simp [same, and_assoc]
/-- Bytes laid over others from a place on. -/
def put (xs : List Int) (off : Nat) (ys : List Int) : List Int := xs.take off ++ ys ++ xs.drop (off + ys.length)
/-- A field laid, but behind an error. -/
def step (s : List Int × Int) (off : Nat) (f : List Int × Int) : List Int × Int := if s.2 = 0 then (put s.1 off f.1, f.2) else s
theorem len_putT (s : ByteArray) (k : Nat) : (Sf.putS s k).1.length ≤ k ∧ ((Sf.putS s k).2 = 0 → (Sf.putS s k).1.length = k) := by
  by_cases h : (Sf.putS s k).2 = 0
  · have := (Sf.put_back s k h).1
    omega
  · rw [Sf.put_bad s k h]
    exact ⟨Nat.zero_le _, fun h2 => absurd h2 h⟩
theorem len_putN (n : Int) (k : Nat) (h0 : -9223372036854775808 ≤ n) (h1 : n ≤ 9223372036854775807) : (Nf.putS n k).1.length ≤ k ∧ ((Nf.putS n k).2 = 0 → (Nf.putS n k).1.length = k) := by
  by_cases h : (Nf.putS n k).2 = 0
  · have := (Nf.put_good n k h0 h1 h).1
    omega
  · have := (Nf.put_bad n k h0 h1 h).1
    rw [this]
    exact ⟨Nat.zero_le _, fun h2 => absurd h2 h⟩
theorem len_put (xs : List Int) (off : Nat) (ys : List Int) (h : off + ys.length ≤ xs.length) : (put xs off ys).length = xs.length := by
  simp [put]; omega
theorem byt_mem' {xs : List Int} (h : ∀ x ∈ xs, 0 ≤ x ∧ x ≤ 255) : Byt xs := fun j => by
  by_cases hj : j < xs.length
  · simp only [List.getD, List.getElem?_eq_getElem hj, Option.getD_some]
    exact h _ (List.getElem_mem hj)
  · simp [List.getD, List.getElem?_eq_none (Nat.le_of_not_lt hj)]
theorem byt_put (xs : List Int) (off : Nat) (ys : List Int) (hx : Byt xs) (hy : Byt ys) : Byt (put xs off ys) := by
  have a := Sf.byt_mem hx
  have b := Sf.byt_mem hy
  apply byt_mem'
  intro x h
  simp only [put, List.mem_append] at h
  rcases h with (h | h) | h
  · exact a x (List.mem_of_mem_take h)
  · exact b x h
  · exact a x (List.mem_of_mem_drop h)
theorem byt_step (s : List Int × Int) (off : Nat) (f : List Int × Int) (hs : Byt s.1) (hf : Byt f.1) : Byt (step s off f).1 := by
  unfold step
  split
  · exact byt_put _ _ _ hs hf
  · exact hs
theorem put_flat (S : List (List Int)) (i off : Nat) (ys : List Int) (hoff : (S.take i).flatten.length = off) (hl : (S.getD i []).length = ys.length) (hi : i < S.length) : put S.flatten off ys = (S.set i ys).flatten := by
  have e : S = S.take i ++ (S.getD i [] :: S.drop (i + 1)) := by
    simp [List.getD, hi]
  have e2 : S.set i ys = S.take i ++ (ys :: S.drop (i + 1)) := List.set_eq_take_append_cons_drop (l := S) (i := i) (a := ys) |>.trans (if_pos hi)
  rw [e2]
  generalize S.getD i [] = Y at *
  generalize S.take i = A at *
  generalize S.drop (i + 1) = D at *
  rw [e]
  subst hoff
  simp only [put, List.flatten_append, List.flatten_cons]
  rw [List.take_append_of_le_length (Nat.le_refl _), List.take_length, ← hl, ← List.append_assoc, List.drop_append, List.drop_of_length_le (by simp)]
  simp
/-- The word that tells this form of headers, and its version. -/
def magic : List Int := [117, 115, 116, 97, 114, 0, 48, 48]
/-- The fields laid one behind the other, up to the first error. -/
def steps (p nm l : ByteArray) (m u g t z : Int) : List Int × Int :=
  step (step (step (step (step (step (step (step (step (step (List.replicate 512 0, 0) 345 (Sf.putS p 155)) 0 (Sf.putS nm 100)) 157 (Sf.putS l 100)) 100 (Nf.putS m 8)) 108 (Nf.putS u 8)) 116 (Nf.putS g 8)) 124 (Nf.putS z 12)) 136 (Nf.putS t 12)) 329 (Nf.putS 0 8)) 337 (Nf.putS 0 8)
/-- What becomes of the fields laid. -/
def fin (m u g z k : Int) (s : List Int × Int) : List Int × Int :=
  if s.2 = 0 then if bel m u g z = true then ([], 10) else Hs.putS (put (s.1.set 156 k) 257 magic) else ([], s.2)
/-- A header's block, as the code lays it. -/
def layC (p nm l : ByteArray) (m u g t z k : Int) : List Int × Int := if isT k = true then fin m u g z k (steps p nm l m u g t z) else ([], 11)
/-- The block's bytes, field by field. -/
def whole (ns ms us gs zs ts : List Int) (k : Int) (ls os ps : List Int) : List Int :=
  ns ++ ms ++ us ++ gs ++ zs ++ ts ++ List.replicate 8 0 ++ [k] ++ ls ++ magic ++ List.replicate 64 0 ++ os ++ os ++ ps ++ List.replicate 12 0
/-- A header's block, as the document tells it. -/
def layS (p nm l : ByteArray) (m u g t z k : Int) : List Int × Int :=
  if isT k = true then
    if (Sf.putS p 155).2 = 0 then
      if (Sf.putS nm 100).2 = 0 then
        if (Sf.putS l 100).2 = 0 then
          if (Nf.putS m 8).2 = 0 then
            if (Nf.putS u 8).2 = 0 then
              if (Nf.putS g 8).2 = 0 then
                if (Nf.putS z 12).2 = 0 then
                  if (Nf.putS t 12).2 = 0 then
                    if bel m u g z = true then ([], 10) else
                      Hs.putS (whole (Sf.putS nm 100).1 (Nf.putS m 8).1 (Nf.putS u 8).1 (Nf.putS g 8).1 (Nf.putS z 12).1 (Nf.putS t 12).1 k (Sf.putS l 100).1 (Nf.putS 0 8).1 (Sf.putS p 155).1)
                  else ([], (Nf.putS t 12).2)
                else ([], (Nf.putS z 12).2)
              else ([], (Nf.putS g 8).2)
            else ([], (Nf.putS u 8).2)
          else ([], (Nf.putS m 8).2)
        else ([], (Sf.putS l 100).2)
      else ([], (Sf.putS nm 100).2)
    else ([], (Sf.putS p 155).2)
  else ([], 11)
theorem zeros512 : List.replicate 512 (0 : Int) = (List.flatten [(List.replicate 100 (0 : Int)), (List.replicate 8 (0 : Int)), (List.replicate 8 (0 : Int)), (List.replicate 8 (0 : Int)), (List.replicate 12 (0 : Int)), (List.replicate 12 (0 : Int)), (List.replicate 8 (0 : Int)), [0], (List.replicate 100 (0 : Int)), (List.replicate 8 (0 : Int)), (List.replicate 64 (0 : Int)), (List.replicate 8 (0 : Int)), (List.replicate 8 (0 : Int)), (List.replicate 155 (0 : Int)), (List.replicate 12 (0 : Int))]) := by decide +kernel
theorem set_put (xs : List Int) (k : Int) (h : 156 < xs.length) : xs.set 156 k = put xs 156 [k] := by
  rw [List.set_eq_take_append_cons_drop, if_pos h]
  simp [put]
set_option maxRecDepth 100000 in
theorem puts_whole (ns ms us gs zs ts ls os ps : List Int) (k : Int) (h0 : ns.length = 100) (h1 : ms.length = 8) (h2 : us.length = 8) (h3 : gs.length = 8) (h4 : zs.length = 12) (h5 : ts.length = 12) (h6 : ls.length = 100) (h7 : os.length = 8) (h8 : ps.length = 155) :
    put ((put (put (put (put (put (put (put (put (put (put (List.replicate 512 0) 345 ps) 0 ns) 157 ls) 100 ms) 108 us) 116 gs) 124 zs) 136 ts) 329 os) 337 os).set 156 k) 257 magic = whole ns ms us gs zs ts k ls os ps := by
  have e0 : put (List.flatten [(List.replicate 100 (0 : Int)), (List.replicate 8 (0 : Int)), (List.replicate 8 (0 : Int)), (List.replicate 8 (0 : Int)), (List.replicate 12 (0 : Int)), (List.replicate 12 (0 : Int)), (List.replicate 8 (0 : Int)), [0], (List.replicate 100 (0 : Int)), (List.replicate 8 (0 : Int)), (List.replicate 64 (0 : Int)), (List.replicate 8 (0 : Int)), (List.replicate 8 (0 : Int)), (List.replicate 155 (0 : Int)), (List.replicate 12 (0 : Int))]) 345 ps = (List.flatten [(List.replicate 100 (0 : Int)), (List.replicate 8 (0 : Int)), (List.replicate 8 (0 : Int)), (List.replicate 8 (0 : Int)), (List.replicate 12 (0 : Int)), (List.replicate 12 (0 : Int)), (List.replicate 8 (0 : Int)), [0], (List.replicate 100 (0 : Int)), (List.replicate 8 (0 : Int)), (List.replicate 64 (0 : Int)), (List.replicate 8 (0 : Int)), (List.replicate 8 (0 : Int)), ps, (List.replicate 12 (0 : Int))]) := put_flat _ 13 345 _ (by simp [*]) (by simp [*]) (by simp)
  have e1 : put (List.flatten [(List.replicate 100 (0 : Int)), (List.replicate 8 (0 : Int)), (List.replicate 8 (0 : Int)), (List.replicate 8 (0 : Int)), (List.replicate 12 (0 : Int)), (List.replicate 12 (0 : Int)), (List.replicate 8 (0 : Int)), [0], (List.replicate 100 (0 : Int)), (List.replicate 8 (0 : Int)), (List.replicate 64 (0 : Int)), (List.replicate 8 (0 : Int)), (List.replicate 8 (0 : Int)), ps, (List.replicate 12 (0 : Int))]) 0 ns = (List.flatten [ns, (List.replicate 8 (0 : Int)), (List.replicate 8 (0 : Int)), (List.replicate 8 (0 : Int)), (List.replicate 12 (0 : Int)), (List.replicate 12 (0 : Int)), (List.replicate 8 (0 : Int)), [0], (List.replicate 100 (0 : Int)), (List.replicate 8 (0 : Int)), (List.replicate 64 (0 : Int)), (List.replicate 8 (0 : Int)), (List.replicate 8 (0 : Int)), ps, (List.replicate 12 (0 : Int))]) := put_flat _ 0 0 _ (by simp [*]) (by simp [*]) (by simp)
  have e2 : put (List.flatten [ns, (List.replicate 8 (0 : Int)), (List.replicate 8 (0 : Int)), (List.replicate 8 (0 : Int)), (List.replicate 12 (0 : Int)), (List.replicate 12 (0 : Int)), (List.replicate 8 (0 : Int)), [0], (List.replicate 100 (0 : Int)), (List.replicate 8 (0 : Int)), (List.replicate 64 (0 : Int)), (List.replicate 8 (0 : Int)), (List.replicate 8 (0 : Int)), ps, (List.replicate 12 (0 : Int))]) 157 ls = (List.flatten [ns, (List.replicate 8 (0 : Int)), (List.replicate 8 (0 : Int)), (List.replicate 8 (0 : Int)), (List.replicate 12 (0 : Int)), (List.replicate 12 (0 : Int)), (List.replicate 8 (0 : Int)), [0], ls, (List.replicate 8 (0 : Int)), (List.replicate 64 (0 : Int)), (List.replicate 8 (0 : Int)), (List.replicate 8 (0 : Int)), ps, (List.replicate 12 (0 : Int))]) := put_flat _ 8 157 _ (by simp [*]) (by simp [*]) (by simp)
  have e3 : put (List.flatten [ns, (List.replicate 8 (0 : Int)), (List.replicate 8 (0 : Int)), (List.replicate 8 (0 : Int)), (List.replicate 12 (0 : Int)), (List.replicate 12 (0 : Int)), (List.replicate 8 (0 : Int)), [0], ls, (List.replicate 8 (0 : Int)), (List.replicate 64 (0 : Int)), (List.replicate 8 (0 : Int)), (List.replicate 8 (0 : Int)), ps, (List.replicate 12 (0 : Int))]) 100 ms = (List.flatten [ns, ms, (List.replicate 8 (0 : Int)), (List.replicate 8 (0 : Int)), (List.replicate 12 (0 : Int)), (List.replicate 12 (0 : Int)), (List.replicate 8 (0 : Int)), [0], ls, (List.replicate 8 (0 : Int)), (List.replicate 64 (0 : Int)), (List.replicate 8 (0 : Int)), (List.replicate 8 (0 : Int)), ps, (List.replicate 12 (0 : Int))]) := put_flat _ 1 100 _ (by simp [*]) (by simp [*]) (by simp)
  have e4 : put (List.flatten [ns, ms, (List.replicate 8 (0 : Int)), (List.replicate 8 (0 : Int)), (List.replicate 12 (0 : Int)), (List.replicate 12 (0 : Int)), (List.replicate 8 (0 : Int)), [0], ls, (List.replicate 8 (0 : Int)), (List.replicate 64 (0 : Int)), (List.replicate 8 (0 : Int)), (List.replicate 8 (0 : Int)), ps, (List.replicate 12 (0 : Int))]) 108 us = (List.flatten [ns, ms, us, (List.replicate 8 (0 : Int)), (List.replicate 12 (0 : Int)), (List.replicate 12 (0 : Int)), (List.replicate 8 (0 : Int)), [0], ls, (List.replicate 8 (0 : Int)), (List.replicate 64 (0 : Int)), (List.replicate 8 (0 : Int)), (List.replicate 8 (0 : Int)), ps, (List.replicate 12 (0 : Int))]) := put_flat _ 2 108 _ (by simp [*]) (by simp [*]) (by simp)
  have e5 : put (List.flatten [ns, ms, us, (List.replicate 8 (0 : Int)), (List.replicate 12 (0 : Int)), (List.replicate 12 (0 : Int)), (List.replicate 8 (0 : Int)), [0], ls, (List.replicate 8 (0 : Int)), (List.replicate 64 (0 : Int)), (List.replicate 8 (0 : Int)), (List.replicate 8 (0 : Int)), ps, (List.replicate 12 (0 : Int))]) 116 gs = (List.flatten [ns, ms, us, gs, (List.replicate 12 (0 : Int)), (List.replicate 12 (0 : Int)), (List.replicate 8 (0 : Int)), [0], ls, (List.replicate 8 (0 : Int)), (List.replicate 64 (0 : Int)), (List.replicate 8 (0 : Int)), (List.replicate 8 (0 : Int)), ps, (List.replicate 12 (0 : Int))]) := put_flat _ 3 116 _ (by simp [*]) (by simp [*]) (by simp)
  have e6 : put (List.flatten [ns, ms, us, gs, (List.replicate 12 (0 : Int)), (List.replicate 12 (0 : Int)), (List.replicate 8 (0 : Int)), [0], ls, (List.replicate 8 (0 : Int)), (List.replicate 64 (0 : Int)), (List.replicate 8 (0 : Int)), (List.replicate 8 (0 : Int)), ps, (List.replicate 12 (0 : Int))]) 124 zs = (List.flatten [ns, ms, us, gs, zs, (List.replicate 12 (0 : Int)), (List.replicate 8 (0 : Int)), [0], ls, (List.replicate 8 (0 : Int)), (List.replicate 64 (0 : Int)), (List.replicate 8 (0 : Int)), (List.replicate 8 (0 : Int)), ps, (List.replicate 12 (0 : Int))]) := put_flat _ 4 124 _ (by simp [*]) (by simp [*]) (by simp)
  have e7 : put (List.flatten [ns, ms, us, gs, zs, (List.replicate 12 (0 : Int)), (List.replicate 8 (0 : Int)), [0], ls, (List.replicate 8 (0 : Int)), (List.replicate 64 (0 : Int)), (List.replicate 8 (0 : Int)), (List.replicate 8 (0 : Int)), ps, (List.replicate 12 (0 : Int))]) 136 ts = (List.flatten [ns, ms, us, gs, zs, ts, (List.replicate 8 (0 : Int)), [0], ls, (List.replicate 8 (0 : Int)), (List.replicate 64 (0 : Int)), (List.replicate 8 (0 : Int)), (List.replicate 8 (0 : Int)), ps, (List.replicate 12 (0 : Int))]) := put_flat _ 5 136 _ (by simp [*]) (by simp [*]) (by simp)
  have e8 : put (List.flatten [ns, ms, us, gs, zs, ts, (List.replicate 8 (0 : Int)), [0], ls, (List.replicate 8 (0 : Int)), (List.replicate 64 (0 : Int)), (List.replicate 8 (0 : Int)), (List.replicate 8 (0 : Int)), ps, (List.replicate 12 (0 : Int))]) 329 os = (List.flatten [ns, ms, us, gs, zs, ts, (List.replicate 8 (0 : Int)), [0], ls, (List.replicate 8 (0 : Int)), (List.replicate 64 (0 : Int)), os, (List.replicate 8 (0 : Int)), ps, (List.replicate 12 (0 : Int))]) := put_flat _ 11 329 _ (by simp [*]) (by simp [*]) (by simp)
  have e9 : put (List.flatten [ns, ms, us, gs, zs, ts, (List.replicate 8 (0 : Int)), [0], ls, (List.replicate 8 (0 : Int)), (List.replicate 64 (0 : Int)), os, (List.replicate 8 (0 : Int)), ps, (List.replicate 12 (0 : Int))]) 337 os = (List.flatten [ns, ms, us, gs, zs, ts, (List.replicate 8 (0 : Int)), [0], ls, (List.replicate 8 (0 : Int)), (List.replicate 64 (0 : Int)), os, os, ps, (List.replicate 12 (0 : Int))]) := put_flat _ 12 337 _ (by simp [*]) (by simp [*]) (by simp)
  have e10 : put (List.flatten [ns, ms, us, gs, zs, ts, (List.replicate 8 (0 : Int)), [0], ls, (List.replicate 8 (0 : Int)), (List.replicate 64 (0 : Int)), os, os, ps, (List.replicate 12 (0 : Int))]) 156 [k] = (List.flatten [ns, ms, us, gs, zs, ts, (List.replicate 8 (0 : Int)), [k], ls, (List.replicate 8 (0 : Int)), (List.replicate 64 (0 : Int)), os, os, ps, (List.replicate 12 (0 : Int))]) := put_flat _ 7 156 _ (by simp [*]) (by simp [*]) (by simp)
  have e11 : put (List.flatten [ns, ms, us, gs, zs, ts, (List.replicate 8 (0 : Int)), [k], ls, (List.replicate 8 (0 : Int)), (List.replicate 64 (0 : Int)), os, os, ps, (List.replicate 12 (0 : Int))]) 257 magic = (List.flatten [ns, ms, us, gs, zs, ts, (List.replicate 8 (0 : Int)), [k], ls, magic, (List.replicate 64 (0 : Int)), os, os, ps, (List.replicate 12 (0 : Int))]) := put_flat _ 9 257 _ (by simp [*]) (by simp [*, magic]) (by simp)
  rw [zeros512, e0, e1, e2, e3, e4, e5, e6, e7, e8, e9, set_put _ _ (by simp [*]), e10, e11]
  simp [whole, List.append_assoc]
theorem len_whole (ns ms us gs zs ts ls os ps : List Int) (k : Int) (h0 : ns.length = 100) (h1 : ms.length = 8) (h2 : us.length = 8) (h3 : gs.length = 8) (h4 : zs.length = 12) (h5 : ts.length = 12) (h6 : ls.length = 100) (h7 : os.length = 8) (h8 : ps.length = 155) :
    (whole ns ms us gs zs ts k ls os ps).length = 512 := by simp [whole, magic, *]
theorem zero8 : (Nf.putS 0 8).2 = 0 ∧ (Nf.putS 0 8).1.length = 8 := by decide +kernel
theorem lay_eq (p nm l : ByteArray) (m u g t z k : Int) (m0 : -9223372036854775808 ≤ m) (m1 : m ≤ 9223372036854775807) (u0 : -9223372036854775808 ≤ u) (u1 : u ≤ 9223372036854775807) (g0 : -9223372036854775808 ≤ g) (g1 : g ≤ 9223372036854775807)
    (t0 : -9223372036854775808 ≤ t) (t1 : t ≤ 9223372036854775807) (z0 : -9223372036854775808 ≤ z) (z1 : z ≤ 9223372036854775807) : layC p nm l m u g t z k = layS p nm l m u g t z k := by
  unfold layC layS
  by_cases hk : isT k = true
  · rw [if_pos hk, if_pos hk]
    have a0 : (Sf.putS p 155).2 = 0 → (Sf.putS p 155).1.length = 155 := (len_putT p 155).2
    have a1 : (Sf.putS nm 100).2 = 0 → (Sf.putS nm 100).1.length = 100 := (len_putT nm 100).2
    have a2 : (Sf.putS l 100).2 = 0 → (Sf.putS l 100).1.length = 100 := (len_putT l 100).2
    have a3 : (Nf.putS m 8).2 = 0 → (Nf.putS m 8).1.length = 8 := (len_putN m 8 m0 m1).2
    have a4 : (Nf.putS u 8).2 = 0 → (Nf.putS u 8).1.length = 8 := (len_putN u 8 u0 u1).2
    have a5 : (Nf.putS g 8).2 = 0 → (Nf.putS g 8).1.length = 8 := (len_putN g 8 g0 g1).2
    have a6 : (Nf.putS z 12).2 = 0 → (Nf.putS z 12).1.length = 12 := (len_putN z 12 z0 z1).2
    have a7 : (Nf.putS t 12).2 = 0 → (Nf.putS t 12).1.length = 12 := (len_putN t 12 t0 t1).2
    have a8 := zero8
    unfold steps
    obtain ⟨Z, hZ⟩ : ∃ Z, Z = List.replicate 512 (0 : Int) := ⟨_, rfl⟩
    rw [← hZ]
    generalize Sf.putS p 155 = F0 at *
    generalize Sf.putS nm 100 = F1 at *
    generalize Sf.putS l 100 = F2 at *
    generalize Nf.putS m 8 = F3 at *
    generalize Nf.putS u 8 = F4 at *
    generalize Nf.putS g 8 = F5 at *
    generalize Nf.putS z 12 = F6 at *
    generalize Nf.putS t 12 = F7 at *
    generalize Nf.putS 0 8 = F8 at *
    by_cases h0 : F0.2 = 0
    · by_cases h1 : F1.2 = 0
      · by_cases h2 : F2.2 = 0
        · by_cases h3 : F3.2 = 0
          · by_cases h4 : F4.2 = 0
            · by_cases h5 : F5.2 = 0
              · by_cases h6 : F6.2 = 0
                · by_cases h7 : F7.2 = 0
                  · have e := puts_whole F1.1 F3.1 F4.1 F5.1 F6.1 F7.1 F2.1 F8.1 F0.1 k (a1 h1) (a3 h3) (a4 h4) (a5 h5) (a6 h6) (a7 h7) (a2 h2) a8.2 (a0 h0)
                    rw [← e, ← hZ]
                    clear e hZ
                    simp only [step, fin, if_pos h0, if_pos h1, if_pos h2, if_pos h3, if_pos h4, if_pos h5, if_pos h6, if_pos h7, if_pos a8.1, if_true]
                  · clear hZ; simp [step, fin, h0, h1, h2, h3, h4, h5, h6, h7]
                · clear hZ; simp [step, fin, h0, h1, h2, h3, h4, h5, h6]
              · clear hZ; simp [step, fin, h0, h1, h2, h3, h4, h5]
            · clear hZ; simp [step, fin, h0, h1, h2, h3, h4]
          · clear hZ; simp [step, fin, h0, h1, h2, h3]
        · clear hZ; simp [step, fin, h0, h1, h2]
      · clear hZ; simp [step, fin, h0, h1]
    · clear hZ; simp [step, fin, h0]
  · rw [if_neg hk, if_neg hk]
end Hh
end Go.Proofs.YtfkhemlaohkhkaaDoor
