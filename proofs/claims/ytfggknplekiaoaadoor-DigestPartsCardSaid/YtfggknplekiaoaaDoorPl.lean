/- A ROW OF SLICES OF BYTES (as C11b has it, without check). Plain theorems; no Go text is named. -/
import Derived.Test.YtfggknplekiaoaaDoorBase
namespace Go.Proofs.YtfggknplekiaoaaDoor
open Go.RowKit
set_option maxHeartbeats 400000
set_option maxRecDepth 100000
set_option linter.unusedVariables false
/-- A part: a slice of bytes, and what it reads as. -/
structure Pc where
  A : Option Addr
  n : Nat
  c : Nat
  xs : List Int
/-- THE SLICE VALUE '.slice A m c' READS AS THE PARTS l, all in blocks below B. -/
def PL (w : World) (B : Nat) (A : Option Addr) (m : Nat) (l : List Pc) : Prop :=
  l.length = m ∧ (0 < m → ∃ b o, A = some ⟨b, o, none⟩ ∧ b < B ∧ ∀ j p, l[j]? = some p → w.cell? ⟨b, o + j, none⟩ = some (.slice p.A p.n p.c)) ∧ ∀ p ∈ l, RB w B p.A p.n p.xs ∧ Byt p.xs ∧ p.n ≤ p.c ∧ p.c ≤ maxLen
/-- All their bytes. -/
def flat (l : List Pc) : List Int := (l.map (·.xs)).flatten
theorem flat_snoc (l : List Pc) (p : Pc) : flat (l ++ [p]) = flat l ++ p.xs := by simp [flat]
theorem take_snocP {l : List Pc} {k : Nat} {p : Pc} (h : l[k]? = some p) : l.take (k + 1) = l.take k ++ [p] := by
  rw [List.take_add_one, h]
  rfl
theorem flat_byt : ∀ {l : List Pc}, (∀ p ∈ l, Byt p.xs) → Byt (flat l)
  | [], _ => Byt.nil
  | p :: l, h => by
    show Byt (p.xs ++ flat l)
    exact (h p (by simp)).append (flat_byt fun q hq => h q (by simp [hq]))
section
variable {w w' : World} {B B' m : Nat} {A : Option Addr} {l : List Pc}
theorem PL.below (h : PL w B A m l) (hb : Below B w w') : PL w' B A m l :=
  ⟨h.1, fun hm => by
    obtain ⟨b, o, e, hbB, hc⟩ := h.2.1 hm
    exact ⟨b, o, e, hbB, fun j p hj => (hb.cell (p := ⟨b, o + j, none⟩) hbB).trans (hc j p hj)⟩, fun p hp => ⟨(h.2.2 p hp).1.below hb, (h.2.2 p hp).2⟩⟩
theorem PL.more (h : PL w B A m l) (hB : B ≤ B') : PL w B' A m l :=
  ⟨h.1, fun hm => by
    obtain ⟨b, o, e, hbB, hc⟩ := h.2.1 hm
    exact ⟨b, o, e, by omega, hc⟩, fun p hp => ⟨(h.2.2 p hp).1.more hB, (h.2.2 p hp).2⟩⟩
theorem PL.at_ (h : PL w B A m l) {k : Nat} (hk : k < m) : ∃ p b o, l[k]? = some p ∧ p ∈ l ∧ A = some ⟨b, o, none⟩ ∧ b < B ∧ w.cell? ⟨b, o + k, none⟩ = some (.slice p.A p.n p.c) ∧ RB w B p.A p.n p.xs ∧ Byt p.xs ∧ p.n ≤ p.c ∧ p.c ≤ maxLen := by
  obtain ⟨b, o, e, hbB, hc⟩ := h.2.1 (by omega)
  have hkl : k < l.length := by rw [h.1]; exact hk
  have hp : l[k]? = some l[k] := List.getElem?_eq_getElem hkl
  have hm : l[k] ∈ l := List.getElem_mem hkl
  exact ⟨l[k], b, o, hp, hm, e, hbB, hc k _ hp, h.2.2 _ hm⟩
end
end Go.Proofs.YtfggknplekiaoaaDoor
