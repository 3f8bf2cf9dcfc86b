/- LAYER 19, plain: how long a parsed frame's rows are. -/
import Derived.Test.YtjiafpmcibokbaaM19d
namespace Go.Proofs.Ytjiafpmcibokbaa
open Go Go.RowKit
set_option linter.unusedVariables false
namespace Fm
theorem getF_fit {k : Int} {tok : List Int} {s r : Nat} {b : List Int} (hb : Byt b) (hl : (getF k tok s r b).off = 0 ∨ b.length ≤ 8 ∨ 8 < b.length) (h2 : k = 2 ∨ k = 6 → b.length ≤ 8) :
    (getF k tok s r b).off < 18446744073709551616 ∧ (getF k tok s r b).tot < 18446744073709551616 ∧ (getF k tok s r b).xs.length ≤ b.length ∧ (getF k tok s r b).rs.length ≤ b.length := by
  have t8 : ofL (b.take 8) < 18446744073709551616 := ofL_lt8 (Ck.Byt.take hb 8) (by rw [List.length_take]; omega)
  unfold getF
  split
  · exact ⟨(by decide : 0 < 18446744073709551616), t8, Nat.zero_le _, Nat.zero_le _⟩
  split
  · rename_i h; exact ⟨ofL_lt8 hb (h2 (.inl h)), (by decide : 0 < 18446744073709551616), Nat.zero_le _, Nat.zero_le _⟩
  split
  · exact ⟨t8, (by decide : 0 < 18446744073709551616), by show (b.drop 8).length ≤ _; rw [List.length_drop]; omega, Nat.zero_le _⟩
  split
  · exact ⟨t8, (by decide : 0 < 18446744073709551616), Nat.zero_le _, by show (rgsOf _ _).length ≤ _; rw [rgsOf_len]; omega⟩
  split
  · rename_i h; exact ⟨(by decide : 0 < 18446744073709551616), ofL_lt8 hb (h2 (.inr h)), Nat.zero_le _, Nat.zero_le _⟩
  · exact ⟨(by decide : 0 < 18446744073709551616), (by decide : 0 < 18446744073709551616), Nat.zero_le _, Nat.zero_le _⟩
/-- What is parsed may be laid. -/
theorem parse_fit {b : List Int} (hb : Byt b) (h : (parse b).2 = 0) : (parse b).1.s < 4294967296 ∧ (parse b).1.r < 4294967296 ∧ (parse b).1.off < 18446744073709551616 ∧ (parse b).1.tot < 18446744073709551616 ∧ (parse b).1.xs.length ≤ b.length ∧ (parse b).1.rs.length ≤ b.length := by
  unfold parse at h ⊢
  by_cases he : Ck.err b = 0
  rotate_left
  · rw [if_pos he] at h
    exact absurd h he
  rw [if_neg (by rw [he]; simp)] at h ⊢
  have hbo : Byt (Ck.open_ b) := by
    unfold Ck.open_
    rw [if_pos he]
    exact Ck.Byt.take hb _
  have hol : (Ck.open_ b).length ≤ b.length := by
    unfold Ck.open_
    rw [if_pos he, List.length_take]
    omega
  generalize Ck.open_ b = o at *
  unfold pars at h ⊢
  by_cases h1 : o.length < 28
  · rw [if_pos h1] at h; cases h
  by_cases h2 : o.getD 0 0 ≠ 84 ∨ o.getD 1 0 ≠ 87
  · rw [if_neg h1, if_pos h2] at h; cases h
  by_cases h3 : o.getD 2 0 < 1 ∨ 7 < o.getD 2 0
  · rw [if_neg h1, if_neg h2, if_pos h3] at h; cases h
  by_cases h4 : o.getD 3 0 ≠ (((ofL ((o.drop 20).take 4)) % 4 + (ofL ((o.drop 24).take 4)) % 4) % 4 : Nat)
  · rw [if_neg h1, if_neg h2, if_neg h3, if_pos h4] at h; cases h
  rw [if_neg h1, if_neg h2, if_neg h3, if_neg h4] at h ⊢
  by_cases h5 : (fieldsP (o.getD 2 0) ((o.drop 4).take 16) (ofL ((o.drop 20).take 4)) (ofL ((o.drop 24).take 4)) (o.drop 28)).2 ≠ 0
  · rw [if_pos h5] at h; exact absurd h h5
  rw [if_neg h5] at h ⊢
  obtain ⟨f1, f2, f3, f4, f5, f6, f7⟩ := flds_fields (Byt.dropF hbo 28) (by omega) h
  rw [f1]
  have l28 : (o.drop 28).length ≤ b.length := by rw [List.length_drop]; omega
  have hk8 : o.getD 2 0 = 2 ∨ o.getD 2 0 = 6 → (o.drop 28).length ≤ 8 := fun hk => by
    unfold fieldsP at h
    have hn : need (o.getD 2 0) = 8 := by rcases hk with e | e <;> rw [e] <;> rfl
    by_cases q1 : (o.drop 28).length < need (o.getD 2 0) ∨ (o.getD 2 0 = 4 ∧ (o.drop 28).length % 16 ≠ 8)
    · rw [if_pos q1] at h; cases h
    by_cases q2 : need (o.getD 2 0) < (o.drop 28).length ∧ o.getD 2 0 ≠ 3 ∧ o.getD 2 0 ≠ 4
    · rw [if_neg q1, if_pos q2] at h; cases h
    · rw [hn] at q2
      omega
  have hg := getF_fit (tok := (o.drop 4).take 16) (s := ofL ((o.drop 20).take 4)) (r := ofL ((o.drop 24).take 4)) (Byt.dropF hbo 28) (by omega) hk8
  refine ⟨?_, ?_, hg.1, hg.2.1, Nat.le_trans hg.2.2.1 l28, Nat.le_trans hg.2.2.2 l28⟩
  · show (getF _ _ _ _ _).s < _
    rw [f6]
    exact ofL_lt 4 _ (Ck.Byt.take (Byt.dropF hbo 20) 4) (by rw [List.length_take, List.length_drop]; omega)
  · show (getF _ _ _ _ _).r < _
    rw [f7]
    exact ofL_lt 4 _ (Ck.Byt.take (Byt.dropF hbo 24) 4) (by rw [List.length_take, List.length_drop]; omega)
theorem parse_small {b : List Int} (hb : Byt b) (h : b.length ≤ 200000) : (parse b).1.xs.length ≤ 1000000 ∧ (parse b).1.rs.length ≤ 1000000 := by
  by_cases h2 : (parse b).2 = 0
  · have := parse_fit hb h2
    omega
  · rw [parse_none h2]
    exact ⟨Nat.zero_le _, Nat.zero_le _⟩
end Fm
end Go.Proofs.Ytjiafpmcibokbaa
