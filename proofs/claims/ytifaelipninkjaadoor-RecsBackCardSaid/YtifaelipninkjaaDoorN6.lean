/- PLAIN MATHEMATICS OF LAYER 6 (records of a member): what the contracts of the walks speak of; no Go text is named. -/
import Derived.Test.YtifaelipninkjaaDoorBase
import Derived.Lib.Strings
import Derived.Lib.ItoaNum
import Derived.Lib.IndexLaws
import Derived.Lib.BufferWrite
import Derived.Lib.BytesEntry
namespace Go.Proofs.YtifaelipninkjaaDoor
open Go.RowKit
set_option linter.unusedVariables false
namespace Rc
abbrev Bs := List UInt8
abbrev Rec := ByteArray × ByteArray
/-- The numbers of bytes. -/
def ints (l : Bs) : List Int := l.map fun c => (c.toNat : Int)
/-- Bytes as a text. -/
def S (l : Bs) : ByteArray := ⟨l.toArray⟩
def bad (c : UInt8) : Bool := c == 61 || c == 10 || c == 0
def kOk (k : Bs) : Bool := decide (1 ≤ k.length) && decide (k.length ≤ 60) && !(k.any bad)
/-- Whether a record may be: the error's number. -/
def mayN (r : Rec) : Nat := if kOk r.1.data.toList then (if r.2.size ≤ 2000 then 0 else 10) else 3
/-- Of what stands behind the length: the length that counts its own digits. -/
def lenN (r : Nat) : Nat := if r + 1 < 10 then r + 1 else if r + 2 < 100 then r + 2 else if r + 3 < 1000 then r + 3 else r + 4
def restN (r : Rec) : Nat := r.1.size + r.2.size + 3
def lenR (r : Rec) : Nat := if mayN r = 0 then lenN (restN r) else 0
def bodyL (r : Rec) : Bs := 32 :: (r.1.data.toList ++ 61 :: (r.2.data.toList ++ [10]))
def oneL (r : Rec) : Bs := if mayN r = 0 then Lib.decDigits (lenR r) ++ bodyL r else []
theorem bodyL_len (r : Rec) : (bodyL r).length = restN r := by
  unfold bodyL restN
  rw [show r.1.size = r.1.data.toList.length from rfl, show r.2.size = r.2.data.toList.length from rfl]
  simp only [List.length_cons, List.length_append, List.length_nil]
  omega
def isD (c : UInt8) : Bool := decide (48 ≤ c.toNat) && decide (c.toNat ≤ 57)
def lead (b : Bs) : Nat := b.findIdx fun c => !isD c
def val (l : Bs) : Nat := l.foldl (fun n c => 10 * n + (c.toNat - 48)) 0
/-- The length that bytes tell, and how many digits it has. -/
def told (b : Bs) : Option (Nat × Nat) :=
  if 1 ≤ lead b ∧ lead b ≤ 4 ∧ b.getD 0 0 ≠ 48 ∧ b[lead b]? = some 32 then some (val (b.take (lead b)), lead b) else none
def cutS (s : Bs) : Option Rec := if s.findIdx (· == 61) < s.length then some (S (s.take (s.findIdx (· == 61))), S (s.drop (s.findIdx (· == 61) + 1))) else none
def noRec : Rec := (S [], S [])
def firstB (b : Bs) (n k : Nat) : Rec × Nat × Nat :=
  if b.length < n then (noRec, 0, 4) else if n < k + 2 then (noRec, 0, 3) else if b.getD (n - 1) 0 ≠ 10 then (noRec, 0, 3) else
  match cutS ((b.take (n - 1)).drop (k + 1)) with
  | none => (noRec, 0, 3)
  | some r => if lenR r = n then (r, n, 0) else (noRec, 0, 3)
/-- The first record of bytes, how many of them it has, the error's number. -/
def firstL (b : Bs) : Rec × Nat × Nat :=
  match told b with
  | none => (noRec, 0, 3)
  | some (n, k) => firstB b n k
def glue (pre : List Rec) (p : List Rec × Nat) : List Rec × Nat := if p.2 = 0 then (pre ++ p.1, 0) else ([], p.2)
def par : Nat → Bs → List Rec × Nat
  | 0, _ => ([], 0)
  | f + 1, b => if b = [] then ([], 0) else if (firstL b).2.2 = 0 then glue [(firstL b).1] (par f (b.drop (firstL b).2.1)) else ([], (firstL b).2.2)
/-- The records of bytes, and the error's number. -/
def parse (b : Bs) : List Rec × Nat := par b.length b
/-- The first error of records. -/
def layE : List Rec → Nat
  | [] => 0
  | r :: t => if mayN r = 0 then layE t else mayN r
def flat (l : List Rec) : Bs := l.flatMap oneL
def layB (l : List Rec) : Bs := if layE l = 0 then flat l else []
/-- The value of the last record of a key. -/
def findR (key : ByteArray) : List Rec → Option ByteArray
  | [] => none
  | r :: t => match findR key t with
    | some v => some v
    | none => if r.1 = key then some r.2 else none

theorem S_data (s : ByteArray) : S s.data.toList = s := rfl
theorem data_S (l : Bs) : (S l).data.toList = l := rfl
theorem size_S (l : Bs) : (S l).size = l.length := rfl
theorem size_eq (s : ByteArray) : s.size = s.data.toList.length := rfl
theorem ints_len (l : Bs) : (ints l).length = l.length := by simp [ints]
theorem ints_append (a b : Bs) : ints (a ++ b) = ints a ++ ints b := by simp [ints]
theorem ints_take (a : Bs) (k : Nat) : ints (a.take k) = (ints a).take k := by simp [ints, List.map_take]
theorem ints_drop (a : Bs) (k : Nat) : ints (a.drop k) = (ints a).drop k := by simp [ints, List.map_drop]
theorem ints_getD (l : Bs) (k : Nat) : (ints l).getD k 0 = ((l.getD k 0).toNat : Int) := by
  by_cases h : k < l.length <;> simp [ints, List.getD, h]
theorem ints_byt (l : Bs) : Byt (ints l) := fun j => by
  rw [ints_getD]
  have := (l.getD j 0).toNat_lt
  omega
theorem ints_inj {a b : Bs} (h : ints a = ints b) : a = b := by
  unfold ints at h
  refine List.map_inj_right (fun x y h => ?_) |>.1 h
  exact UInt8.toNat_inj.1 (by omega)
theorem strOf_ints (l : Bs) : strOfNums (ints l) = S l := by
  apply ByteArray.ext
  apply Array.toList_inj.1
  simp [strOfNums, ints, S, List.map_map]
  apply List.ext_getElem <;> simp
/-- Numbers that are bytes are the numbers of some. -/
theorem byt_ints {xs : List Int} (h : Byt xs) : ∃ l, xs = ints l := by
  refine ⟨xs.map fun n => UInt8.ofNat n.toNat, ?_⟩
  apply List.ext_getElem (by simp [ints])
  intro i h1 h2
  have := h i
  simp [List.getD, h1] at this
  simp [ints]
  omega

theorem lenN_lt {r : Nat} (h : r ≤ 2063) : 5 ≤ r → lenN r ≤ 2067 ∧ r < lenN r := by
  unfold lenN; intro; split <;> (try split) <;> (try split) <;> omega
theorem nD1 {n : Nat} (h : n < 10) : Lib.nDigits n = 1 := Lib.nDigits_small h
theorem nD2 {n : Nat} (h : 10 ≤ n) (h2 : n < 100) : Lib.nDigits n = 2 := Lib.nDigits_unique 1 n (by simpa using h) (by simpa using h2)
theorem nD3 {n : Nat} (h : 100 ≤ n) (h2 : n < 1000) : Lib.nDigits n = 3 := Lib.nDigits_unique 2 n (by simpa using h) (by simpa using h2)
theorem nD4 {n : Nat} (h : 1000 ≤ n) (h2 : n < 10000) : Lib.nDigits n = 4 := Lib.nDigits_unique 3 n (by simpa using h) (by simpa using h2)
/-- THE LENGTH COUNTS ITS OWN DIGITS. -/
theorem lenN_own {r : Nat} (h : r ≤ 9000) : Lib.nDigits (lenN r) + r = lenN r := by
  unfold lenN
  split
  · rw [nD1 (by omega)]; omega
  split
  · rw [nD2 (by omega) (by omega)]; omega
  split
  · rw [nD3 (by omega) (by omega)]; omega
  · rw [nD4 (by omega) (by omega)]; omega
theorem may_ok {r : Rec} (h : mayN r = 0) : kOk r.1.data.toList = true ∧ r.2.size ≤ 2000 := by
  unfold mayN at h
  split at h
  · split at h
    · constructor <;> assumption
    · omega
  · omega
theorem kOk_len {k : Bs} (h : kOk k = true) : 1 ≤ k.length ∧ k.length ≤ 60 ∧ k.any bad = false := by
  unfold kOk at h
  simpa [and_assoc] using h
theorem rest_le {r : Rec} (h : mayN r = 0) : restN r ≤ 2063 ∧ 4 ≤ restN r := by
  obtain ⟨h1, h2⟩ := may_ok h
  obtain ⟨h3, h4, _⟩ := kOk_len h1
  rw [← size_eq] at h3 h4
  unfold restN; omega
theorem one_len (r : Rec) : (oneL r).length = lenR r := by
  unfold oneL lenR
  by_cases h : mayN r = 0
  · rw [if_pos h, if_pos h, List.length_append, Lib.decDigits_length, bodyL_len, lenN_own (by have := rest_le h; omega)]
  · rw [if_neg h, if_neg h]; rfl
theorem lenR_bounds (r : Rec) : lenR r ≤ 2067 ∧ (mayN r = 0 → 5 ≤ lenR r) := by
  unfold lenR
  by_cases h : mayN r = 0
  · have := rest_le h
    rw [if_pos h]
    refine ⟨?_, fun _ => ?_⟩ <;> (unfold lenN; split <;> (try split) <;> (try split) <;> omega)
  · rw [if_neg h]; exact ⟨by omega, fun h2 => absurd h2 h⟩

theorem findIdx_eq {α : Type} {p : α → Bool} {l : List α} {k : Nat} (hk : k ≤ l.length) (h1 : ∀ j (h : j < l.length), j < k → p l[j] = false) (h2 : ∀ h : k < l.length, p l[k] = true) : l.findIdx p = k := by
  apply Nat.le_antisymm
  · apply Nat.le_of_not_lt
    intro h
    have hl : k < l.length := by have := List.findIdx_le_length (p := p) (xs := l); omega
    have := List.not_of_lt_findIdx h
    rw [h2 hl] at this
    simp at this
  · apply Nat.le_of_not_lt
    intro h
    have hl : l.findIdx p < l.length := by omega
    have := h1 _ hl h
    rw [List.findIdx_getElem (w := hl)] at this
    simp at this
theorem lead_eq {b : Bs} {k : Nat} (hk : k ≤ b.length) (h1 : ∀ j, j < k → isD (b.getD j 0) = true) (h2 : k < b.length → isD (b.getD k 0) = false) : lead b = k := by
  refine findIdx_eq hk (fun j h hj => ?_) (fun h => ?_)
  · have := h1 j hj
    simp [List.getD, h] at this
    simp [this]
  · have := h2 h
    simp [List.getD, h] at this
    simp [this]
theorem lead_lt {b : Bs} {j : Nat} (h : j < lead b) : isD (b.getD j 0) = true := by
  have hl : j < b.length := by have := List.findIdx_le_length (p := fun c => !isD c) (xs := b); unfold lead at h; omega
  have := List.not_of_lt_findIdx h
  simp [List.getD, hl] at this ⊢
  exact this
theorem lead_le (b : Bs) : lead b ≤ b.length := List.findIdx_le_length
theorem lead_at {b : Bs} (h : lead b < b.length) : isD (b.getD (lead b) 0) = false := by
  have := List.findIdx_getElem (p := fun c => !isD c) (xs := b) (w := h)
  have e : b.getD (lead b) 0 = b[lead b]'h := by simp [List.getD, h]
  rw [e]
  have h2 := Bool.not_eq_true' _ |>.mp this
  exact h2
theorem val_snoc (l : Bs) (c : UInt8) : val (l ++ [c]) = 10 * val l + (c.toNat - 48) := by simp [val, List.foldl_append]
theorem isD_iff {c : UInt8} : isD c = true ↔ 48 ≤ c.toNat ∧ c.toNat ≤ 57 := by simp [isD]
theorem not_isD32 : isD 32 = false := by decide
/-- The loop that reads digits has come to its end at j. -/
theorem told_some {b : Bs} {j : Nat} (hd : ∀ i, i < j → isD (b.getD i 0) = true) (h1 : 1 ≤ j) (h4 : j ≤ 4) (h0 : b.getD 0 0 ≠ 48) (h32 : b[j]? = some 32) : told b = some (val (b.take j), j) := by
  have hj := (List.getElem?_eq_some_iff.1 h32).1
  have e : lead b = j := lead_eq (by omega) hd (fun _ => by rw [List.getD, h32]; rfl)
  unfold told
  rw [e, if_pos ⟨h1, h4, h0, h32⟩]
theorem told_none {b : Bs} {j : Nat} (hd : ∀ i, i < j → isD (b.getD i 0) = true) (hj : j ≤ b.length) (he : 4 ≤ j ∨ j = b.length ∨ isD (b.getD j 0) = false)
    (h : j = 0 ∨ 4 < j ∨ b.getD 0 0 = 48 ∨ b[j]? ≠ some 32) : told b = none := by
  unfold told
  apply if_neg
  rintro ⟨h1, h2, h3, h4⟩
  have hl := (List.getElem?_eq_some_iff.1 h4).1
  have hle : j ≤ lead b := by
    apply Nat.le_of_not_lt
    intro hlt
    have := hd _ hlt
    rw [lead_at hl] at this
    cases this
  have e : lead b = j := by
    rcases he with he | he | he
    · omega
    · omega
    · apply Nat.le_antisymm _ hle
      apply Nat.le_of_not_lt
      intro hlt
      rw [lead_lt hlt] at he
      cases he
  rw [e] at h1 h2 h4
  rcases h with h | h | h | h
  · omega
  · omega
  · exact h3 h
  · exact h h4
theorem told_inv {b : Bs} {n k : Nat} (h : told b = some (n, k)) : k = lead b ∧ 1 ≤ k ∧ k ≤ 4 ∧ b.getD 0 0 ≠ 48 ∧ b[k]? = some 32 ∧ n = val (b.take k) := by
  unfold told at h
  split at h
  · rename_i hh
    cases h
    exact ⟨rfl, hh.1, hh.2.1, hh.2.2.1, hh.2.2.2, rfl⟩
  · cases h
end Rc
end Go.Proofs.YtifaelipninkjaaDoor
