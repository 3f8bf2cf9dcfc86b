/- PLAIN MATHEMATICS OF LAYER 6, THIRD PART: what a text's decoding gives at a byte beyond ASCII; the bytes that a rune beyond ASCII is written by. -/
import Derived.Test.YtjofdgjcbjdhbaaGreatDoorGn6
import Derived.Lib.DecodeN
import Derived.Lib.IndexAny
import Derived.Lib.Small
namespace Go.Proofs.YtjofdgjcbjdhbaaGreatDoor
open Go Go.RowKit
set_option linter.unusedVariables false
namespace Rc
/-- What a decoding beyond ASCII gives. -/
structure High (s : ByteArray) (i : Nat) : Prop where
  lo : 128 ≤ (Utf8.decode s i).1
  hi : (Utf8.decode s i).1 ≤ 1114111
  ok : (Utf8.decode s i).1 < 55296 ∨ 57344 ≤ (Utf8.decode s i).1
  pos : 1 ≤ (Utf8.decode s i).2
  le : i + (Utf8.decode s i).2 ≤ s.size
  all : ∀ j, j < (Utf8.decode s i).2 → 128 ≤ (s.get! (i + j)).toNat
set_option maxHeartbeats 2000000 in
theorem high (s : ByteArray) (i : Nat) (h : i < s.size) (hb : 128 ≤ (s.get! i).toNat) : High s i := by
  have key : ∀ n b0 b1 b2 b3 : Nat, 1 ≤ n → 128 ≤ b0 → b0 < 256 → ∀ p, p = Lib.decodeN n b0 b1 b2 b3 →
      128 ≤ p.1 ∧ p.1 ≤ 1114111 ∧ (p.1 < 55296 ∨ 57344 ≤ p.1) ∧ 1 ≤ p.2 ∧ p.2 ≤ n ∧ p.2 ≤ 4 ∧ (1 < p.2 → 128 ≤ b1) ∧ (2 < p.2 → 128 ≤ b2) ∧ (3 < p.2 → 128 ≤ b3) := by
    intro n b0 b1 b2 b3 hn h0 h1 p hp
    unfold Lib.decodeN at hp
    repeat' split at hp
    all_goals first | (exfalso; omega) | (subst hp; simp only; omega)
  have e := Lib.decode_at s i
  obtain ⟨a, b, c, d, f, g, k1, k2, k3⟩ := key _ _ _ _ _ (by omega) hb (UInt8.toNat_lt _) _ e
  refine ⟨a, b, c, d, by omega, fun j hj => ?_⟩
  have : j = 0 ∨ j = 1 ∨ j = 2 ∨ j = 3 := by omega
  rcases this with rfl | rfl | rfl | rfl
  · exact hb
  · exact k1 hj
  · exact k2 hj
  · exact k3 hj
theorem get_eq (s : ByteArray) (i : Nat) (h : i < s.size) : s.get! i = s[i] := by
  simp [ByteArray.get!, getElem!_pos, h]
  rfl
theorem high_valid {s : ByteArray} {i : Nat} (h : High s i) : Lib.validRune ((Utf8.decode s i).1 : Int) = true := by
  have := h.ok
  have := h.hi
  unfold Lib.validRune
  rw [decide_eq_true_eq]
  omega
/-- The bytes that a rune beyond ASCII is written by. -/
theorem enc_high {r : Nat} (h : 128 ≤ r) : 2 ≤ (Utf8.encode r).size ∧ (Utf8.encode r).size ≤ 4 ∧ ∀ j (hj : j < (Utf8.encode r).size), 128 ≤ (Utf8.encode r)[j].toNat := by
  have key : ∀ t : ByteArray, (∃ a b, t = ⟨#[UInt8.ofNat a, UInt8.ofNat b]⟩ ∧ 128 ≤ a ∧ a < 256 ∧ 128 ≤ b ∧ b < 256) ∨ (∃ a b c, t = ⟨#[UInt8.ofNat a, UInt8.ofNat b, UInt8.ofNat c]⟩ ∧ 128 ≤ a ∧ a < 256 ∧ 128 ≤ b ∧ b < 256 ∧ 128 ≤ c ∧ c < 256) ∨ (∃ a b c d, t = ⟨#[UInt8.ofNat a, UInt8.ofNat b, UInt8.ofNat c, UInt8.ofNat d]⟩ ∧ 128 ≤ a ∧ a < 256 ∧ 128 ≤ b ∧ b < 256 ∧ 128 ≤ c ∧ c < 256 ∧ 128 ≤ d ∧ d < 256) →
      2 ≤ t.size ∧ t.size ≤ 4 ∧ ∀ j (hj : j < t.size), 128 ≤ t[j].toNat := by
    intro t ht
    have e : ∀ n : Nat, 128 ≤ n → n < 256 → 128 ≤ (UInt8.ofNat n).toNat := fun n h1 h2 => by simp; omega
    rcases ht with ⟨a, b, rfl, h1, h2, h3, h4⟩ | ⟨a, b, c, rfl, h1, h2, h3, h4, h5, h6⟩ | ⟨a, b, c, d, rfl, h1, h2, h3, h4, h5, h6, h7, h8⟩
    · refine ⟨by show 2 ≤ 2; omega, by show 2 ≤ 4; omega, fun j hj => ?_⟩
      have hj2 : j < 2 := hj
      have : j = 0 ∨ j = 1 := by omega
      rcases this with rfl | rfl
      · exact e a h1 h2
      · exact e b h3 h4
    · refine ⟨by show 2 ≤ 3; omega, by show 3 ≤ 4; omega, fun j hj => ?_⟩
      have hj2 : j < 3 := hj
      have : j = 0 ∨ j = 1 ∨ j = 2 := by omega
      rcases this with rfl | rfl | rfl
      · exact e a h1 h2
      · exact e b h3 h4
      · exact e c h5 h6
    · refine ⟨by show 2 ≤ 4; omega, by show 4 ≤ 4; omega, fun j hj => ?_⟩
      have hj2 : j < 4 := hj
      have : j = 0 ∨ j = 1 ∨ j = 2 ∨ j = 3 := by omega
      rcases this with rfl | rfl | rfl | rfl
      · exact e a h1 h2
      · exact e b h3 h4
      · exact e c h5 h6
      · exact e d h7 h8
  apply key
  unfold Utf8.encode
  have hv : ∀ v : Bool, v = Utf8.valid (r : Int) → 128 ≤ (if v = true then (r : Int).toNat else Utf8.runeError) ∧ (if v = true then (r : Int).toNat else Utf8.runeError) ≤ 1114111 := by
    intro v hv
    cases v
    · simp [Utf8.runeError]
    · unfold Utf8.valid at hv
      have := hv.symm
      simp at this
      simp
      omega
  obtain ⟨h1, h2⟩ := hv _ rfl
  generalize (if Utf8.valid (r : Int) = true then (r : Int).toNat else Utf8.runeError) = c at *
  simp only
  rw [if_neg (by omega)]
  split
  · exact Or.inl ⟨_, _, rfl, by omega, by omega, by omega, by omega⟩
  split
  · exact Or.inr (Or.inl ⟨_, _, _, rfl, by omega, by omega, by omega, by omega, by omega, by omega⟩)
  · exact Or.inr (Or.inr ⟨_, _, _, _, rfl, by omega, by omega, by omega, by omega, by omega, by omega, by omega, by omega⟩)
/-- The three signs that no key may have. -/
def badS : ByteArray := ⟨#[61, 10, 0]⟩
theorem bad_contains (c : UInt8) : badS.data.toList.contains c = bad c := by
  show [61, 10, 0].contains c = _
  simp [bad, List.contains, List.elem]
  cases c == 61 <;> cases c == 10 <;> cases c == 0 <;> rfl
theorem indexAny_neg : ∀ l : Bs, decide (0 ≤ Lib.indexAny l badS.data.toList) = l.any bad
  | [] => rfl
  | b :: l => by
    have ih := indexAny_neg l
    have hge := Lib.indexAny_ge badS.data.toList l
    rw [Lib.indexAny, bad_contains, List.any_cons]
    cases hb : bad b
    · rw [Bool.false_or, ← ih]
      rw [if_neg (by simp)]
      by_cases h : Lib.indexAny l badS.data.toList = -1
      · rw [h]; rfl
      · rw [if_neg (by simpa using h), decide_eq_decide]
        omega
    · simp
theorem bad_high {c : UInt8} (h : 128 ≤ c.toNat) : bad c = false := by
  have : ∀ d : UInt8, d.toNat < 128 → (c == d) = false := fun d hd => by
    rw [beq_eq_false_iff_ne]
    intro e
    rw [e] at h
    omega
  unfold bad
  rw [this 61 (by decide), this 10 (by decide), this 0 (by decide)]
  rfl
end Rc
end Go.Proofs.YtjofdgjcbjdhbaaGreatDoor
