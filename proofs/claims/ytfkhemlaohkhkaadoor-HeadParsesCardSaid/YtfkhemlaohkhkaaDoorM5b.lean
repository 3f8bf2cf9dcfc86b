/- PLAIN MATHEMATICS OF LAYER 5, SECOND PART: what a block is read as. No Go text is named. -/
import Derived.Test.YtfkhemlaohkhkaaDoorM5
namespace Go.Proofs.YtfkhemlaohkhkaaDoor
open Go.RowKit
namespace Hh
def sub (xs : List Int) (a n : Nat) : List Int := (xs.drop a).take n
/-- A field's text, a field's number, with the error's number; nothing behind an error. -/
def rT (xs : List Int) (a n : Nat) (e : Int) : ByteArray × Int := if e = 0 then (strOfNums (Sf.getS (sub xs a n)).1, (Sf.getS (sub xs a n)).2) else (⟨#[]⟩, e)
def rN (xs : List Int) (a n : Nat) (e : Int) : Int × Int := if e = 0 then Nf.getS (sub xs a n) else (0, e)
def kindOf (xs : List Int) : Int := rd (xs.getD 156 0)
/-- The error's number of what is read. -/
def parE (xs : List Int) : Int :=
  if Hs.checkS xs = 0 then
    if sub xs 257 8 = magic then
      if (Sf.getS (sub xs 345 155)).2 = 0 then
        if (Sf.getS (sub xs 0 100)).2 = 0 then
          if (Sf.getS (sub xs 157 100)).2 = 0 then
            if (Nf.getS (sub xs 100 8)).2 = 0 then
              if (Nf.getS (sub xs 108 8)).2 = 0 then
                if (Nf.getS (sub xs 116 8)).2 = 0 then
                  if (Nf.getS (sub xs 124 12)).2 = 0 then
                    if (Nf.getS (sub xs 136 12)).2 = 0 then
                      if isT (kindOf xs) = true then
                        if bel (Nf.getS (sub xs 100 8)).1 (Nf.getS (sub xs 108 8)).1 (Nf.getS (sub xs 116 8)).1 (Nf.getS (sub xs 124 12)).1 = true then 10 else 0
                      else 11
                    else (Nf.getS (sub xs 136 12)).2
                  else (Nf.getS (sub xs 124 12)).2
                else (Nf.getS (sub xs 116 8)).2
              else (Nf.getS (sub xs 108 8)).2
            else (Nf.getS (sub xs 100 8)).2
          else (Sf.getS (sub xs 157 100)).2
        else (Sf.getS (sub xs 0 100)).2
      else (Sf.getS (sub xs 345 155)).2
    else 3
  else Hs.checkS xs
/-- The header's value that is read. -/
def hdr (p nm l : ByteArray) (m u g t z k : Int) : Value := .agg #[.string p, .string nm, .int .i64 m, .int .i64 u, .int .i64 g, .int .i64 t, .int .i64 z, .int .u8 k, .string l]
def parV (xs : List Int) : Value :=
  if parE xs = 0 then
    hdr (strOfNums (Sf.getS (sub xs 345 155)).1) (strOfNums (Sf.getS (sub xs 0 100)).1) (strOfNums (Sf.getS (sub xs 157 100)).1) (Nf.getS (sub xs 100 8)).1 (Nf.getS (sub xs 108 8)).1 (Nf.getS (sub xs 116 8)).1 (Nf.getS (sub xs 136 12)).1 (Nf.getS (sub xs 124 12)).1 (kindOf xs)
  else hdr ⟨#[]⟩ ⟨#[]⟩ ⟨#[]⟩ 0 0 0 0 0 0
theorem par_chain (xs : List Int) (hck : Hs.checkS xs = 0) (hm : sub xs 257 8 = magic) {a0 a1 a2 : ByteArray} {a3 a4 a5 a6 a7 E0 E1 E2 E3 E4 E5 E6 E7 : Int}
    (h0 : rT xs 345 155 0 = (a0, E0)) (h1 : rT xs 0 100 E0 = (a1, E1)) (h2 : rT xs 157 100 E1 = (a2, E2)) (h3 : rN xs 100 8 E2 = (a3, E3)) (h4 : rN xs 108 8 E3 = (a4, E4)) (h5 : rN xs 116 8 E4 = (a5, E5)) (h6 : rN xs 124 12 E5 = (a6, E6)) (h7 : rN xs 136 12 E6 = (a7, E7)) :
    parE xs = (if E7 = 0 then if isT (kindOf xs) = true then if bel a3 a4 a5 a6 = true then 10 else 0 else 11 else E7) ∧ (parE xs = 0 → parV xs = hdr a0 a1 a2 a3 a4 a5 a7 a6 (kindOf xs)) := by
  have hpe : parE xs = parE xs := rfl
  conv at hpe => rhs; unfold parE; rw [if_pos hck, if_pos hm]
  have hpv : parE xs = 0 → parV xs = parV xs := fun _ => rfl
  have hpv2 : parE xs = 0 → parV xs = hdr (strOfNums (Sf.getS (sub xs 345 155)).1) (strOfNums (Sf.getS (sub xs 0 100)).1) (strOfNums (Sf.getS (sub xs 157 100)).1) (Nf.getS (sub xs 100 8)).1 (Nf.getS (sub xs 108 8)).1 (Nf.getS (sub xs 116 8)).1 (Nf.getS (sub xs 136 12)).1 (Nf.getS (sub xs 124 12)).1 (kindOf xs) := fun h => by unfold parV; rw [if_pos h]
  clear hpv hck hm
  unfold rT at h0 h1 h2
  unfold rN at h3 h4 h5 h6 h7
  generalize parV xs = V at *
  generalize parE xs = P at *
  generalize kindOf xs = K at *
  generalize Sf.getS (sub xs 345 155) = F0 at *
  generalize Sf.getS (sub xs 0 100) = F1 at *
  generalize Sf.getS (sub xs 157 100) = F2 at *
  generalize Nf.getS (sub xs 100 8) = F3 at *
  generalize Nf.getS (sub xs 108 8) = F4 at *
  generalize Nf.getS (sub xs 116 8) = F5 at *
  generalize Nf.getS (sub xs 124 12) = F6 at *
  generalize Nf.getS (sub xs 136 12) = F7 at *
  rw [if_pos rfl] at h0
  obtain ⟨rfl, rfl⟩ := Prod.mk.inj h0
  by_cases g0 : F0.2 = 0
  · rw [if_pos g0] at h1
    obtain ⟨rfl, rfl⟩ := Prod.mk.inj h1
    by_cases g1 : F1.2 = 0
    · rw [if_pos g1] at h2
      obtain ⟨rfl, rfl⟩ := Prod.mk.inj h2
      by_cases g2 : F2.2 = 0
      · rw [if_pos g2] at h3
        obtain ⟨rfl, rfl⟩ : a3 = F3.1 ∧ E3 = F3.2 := by rw [h3]; exact ⟨rfl, rfl⟩
        by_cases g3 : F3.2 = 0
        · rw [if_pos g3] at h4
          obtain ⟨rfl, rfl⟩ : a4 = F4.1 ∧ E4 = F4.2 := by rw [h4]; exact ⟨rfl, rfl⟩
          by_cases g4 : F4.2 = 0
          · rw [if_pos g4] at h5
            obtain ⟨rfl, rfl⟩ : a5 = F5.1 ∧ E5 = F5.2 := by rw [h5]; exact ⟨rfl, rfl⟩
            by_cases g5 : F5.2 = 0
            · rw [if_pos g5] at h6
              obtain ⟨rfl, rfl⟩ : a6 = F6.1 ∧ E6 = F6.2 := by rw [h6]; exact ⟨rfl, rfl⟩
              by_cases g6 : F6.2 = 0
              · rw [if_pos g6] at h7
                obtain ⟨rfl, rfl⟩ : a7 = F7.1 ∧ E7 = F7.2 := by rw [h7]; exact ⟨rfl, rfl⟩
                by_cases g7 : F7.2 = 0
                · simp only [g0, g1, g2, g3, g4, g5, g6, g7, if_true] at hpe ⊢
                  exact ⟨hpe, fun h => hpv2 h⟩
                · have ne : F7.2 ≠ 0 := g7
                  have e : P = F7.2 := by rw [hpe]; simp [g0, g1, g2, g3, g4, g5, g6, g7]
                  exact ⟨by rw [e, if_neg ne], fun h => absurd (e.symm.trans h) ne⟩
              · have ne : F6.2 ≠ 0 := g6
                rw [if_neg ne] at h7
                obtain ⟨rfl, rfl⟩ := Prod.mk.inj h7
                have e : P = F6.2 := by rw [hpe]; simp [g0, g1, g2, g3, g4, g5, g6]
                exact ⟨by rw [e, if_neg ne], fun h => absurd (e.symm.trans h) ne⟩
            · have ne : F5.2 ≠ 0 := g5
              rw [if_neg ne] at h6
              obtain ⟨rfl, rfl⟩ := Prod.mk.inj h6
              rw [if_neg ne] at h7
              obtain ⟨rfl, rfl⟩ := Prod.mk.inj h7
              have e : P = F5.2 := by rw [hpe]; simp [g0, g1, g2, g3, g4, g5]
              exact ⟨by rw [e, if_neg ne], fun h => absurd (e.symm.trans h) ne⟩
          · have ne : F4.2 ≠ 0 := g4
            rw [if_neg ne] at h5
            obtain ⟨rfl, rfl⟩ := Prod.mk.inj h5
            rw [if_neg ne] at h6
            obtain ⟨rfl, rfl⟩ := Prod.mk.inj h6
            rw [if_neg ne] at h7
            obtain ⟨rfl, rfl⟩ := Prod.mk.inj h7
            have e : P = F4.2 := by rw [hpe]; simp [g0, g1, g2, g3, g4]
            exact ⟨by rw [e, if_neg ne], fun h => absurd (e.symm.trans h) ne⟩
        · have ne : F3.2 ≠ 0 := g3
          rw [if_neg ne] at h4
          obtain ⟨rfl, rfl⟩ := Prod.mk.inj h4
          rw [if_neg ne] at h5
          obtain ⟨rfl, rfl⟩ := Prod.mk.inj h5
          rw [if_neg ne] at h6
          obtain ⟨rfl, rfl⟩ := Prod.mk.inj h6
          rw [if_neg ne] at h7
          obtain ⟨rfl, rfl⟩ := Prod.mk.inj h7
          have e : P = F3.2 := by rw [hpe]; simp [g0, g1, g2, g3]
          exact ⟨by rw [e, if_neg ne], fun h => absurd (e.symm.trans h) ne⟩
      · have ne : F2.2 ≠ 0 := g2
        rw [if_neg ne] at h3
        obtain ⟨rfl, rfl⟩ := Prod.mk.inj h3
        rw [if_neg ne] at h4
        obtain ⟨rfl, rfl⟩ := Prod.mk.inj h4
        rw [if_neg ne] at h5
        obtain ⟨rfl, rfl⟩ := Prod.mk.inj h5
        rw [if_neg ne] at h6
        obtain ⟨rfl, rfl⟩ := Prod.mk.inj h6
        rw [if_neg ne] at h7
        obtain ⟨rfl, rfl⟩ := Prod.mk.inj h7
        have e : P = F2.2 := by rw [hpe]; simp [g0, g1, g2]
        exact ⟨by rw [e, if_neg ne], fun h => absurd (e.symm.trans h) ne⟩
    · have ne : F1.2 ≠ 0 := g1
      rw [if_neg ne] at h2
      obtain ⟨rfl, rfl⟩ := Prod.mk.inj h2
      rw [if_neg ne] at h3
      obtain ⟨rfl, rfl⟩ := Prod.mk.inj h3
      rw [if_neg ne] at h4
      obtain ⟨rfl, rfl⟩ := Prod.mk.inj h4
      rw [if_neg ne] at h5
      obtain ⟨rfl, rfl⟩ := Prod.mk.inj h5
      rw [if_neg ne] at h6
      obtain ⟨rfl, rfl⟩ := Prod.mk.inj h6
      rw [if_neg ne] at h7
      obtain ⟨rfl, rfl⟩ := Prod.mk.inj h7
      have e : P = F1.2 := by rw [hpe]; simp [g0, g1]
      exact ⟨by rw [e, if_neg ne], fun h => absurd (e.symm.trans h) ne⟩
  · have ne : F0.2 ≠ 0 := g0
    rw [if_neg ne] at h1
    obtain ⟨rfl, rfl⟩ := Prod.mk.inj h1
    rw [if_neg ne] at h2
    obtain ⟨rfl, rfl⟩ := Prod.mk.inj h2
    rw [if_neg ne] at h3
    obtain ⟨rfl, rfl⟩ := Prod.mk.inj h3
    rw [if_neg ne] at h4
    obtain ⟨rfl, rfl⟩ := Prod.mk.inj h4
    rw [if_neg ne] at h5
    obtain ⟨rfl, rfl⟩ := Prod.mk.inj h5
    rw [if_neg ne] at h6
    obtain ⟨rfl, rfl⟩ := Prod.mk.inj h6
    rw [if_neg ne] at h7
    obtain ⟨rfl, rfl⟩ := Prod.mk.inj h7
    have e : P = F0.2 := by rw [hpe]; simp [g0]
    exact ⟨by rw [e, if_neg ne], fun h => absurd (e.symm.trans h) ne⟩
theorem len_sub {xs : List Int} {a n : Nat} (h : a + n ≤ xs.length) : (sub xs a n).length = n := by simp [sub]; omega
theorem byt_sub {xs : List Int} (h : Byt xs) (a n : Nat) : Byt (sub xs a n) := by
  have := Sf.byt_mem h
  apply byt_mem'
  intro x hx
  exact this x (List.mem_of_mem_drop (List.mem_of_mem_take hx))
end Hh
end Go.Proofs.YtfkhemlaohkhkaaDoor
