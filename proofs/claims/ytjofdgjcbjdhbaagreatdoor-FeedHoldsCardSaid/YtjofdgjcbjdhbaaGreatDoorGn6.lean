/- PLAIN MATHEMATICS OF LAYER 6 (records of a member): what the contracts of the walks speak of; no Go text is named. -/
import Derived.Test.YtjofdgjcbjdhbaaGreatDoorBase
import Derived.Lib.Strings
import Derived.Lib.ItoaNum
import Derived.Lib.IndexLaws
import Derived.Lib.BufferWrite
import Derived.Lib.BytesEntry
namespace Go.Proofs.YtjofdgjcbjdhbaaGreatDoor
open Go.RowKit
set_option linter.unusedVariables false
namespace Rc
abbrev Bs := List UInt8
abbrev Rec := ByteArray × ByteArray
/-- The numbers of bytes. -/
def ints (l : Bs) : List Int := l.map fun c => (c.toNat : Int)
/-- Bytes as a text. -/
def S (l : Bs) : ByteArray := ⟨l.toArray⟩
def bad (c : UInt8) : Bool := c == 61 || c == 10 || c == 0
def kOk (k : Bs) : Bool := decide (1 ≤ k.length) && decide (k.length ≤ 60) && !(k.any bad)
/-- Whether a record may be: the error's number. -/
def mayN (r : Rec) : Nat := if kOk r.1.data.toList then (if r.2.size ≤ 2000 then 0 else 10) else 3
/-- Of what stands behind the length: the length that counts its own digits. -/
def lenN (r : Nat) : Nat := if r + 1 < 10 then r + 1 else if r + 2 < 100 then r + 2 else if r + 3 < 1000 then r + 3 else r + 4
def restN (r : Rec) : Nat := r.1.size + r.2.size + 3
def lenR (r : Rec) : Nat := if mayN r = 0 then lenN (restN r) else 0
def bodyL (r : Rec) : Bs := 32 :: (r.1.data.toList ++ 61 :: (r.2.data.toList ++ [10]))
def oneL (r : Rec) : Bs := if mayN r = 0 then Lib.decDigits (lenR r) ++ bodyL r else []
theorem bodyL_len (r : Rec) : (bodyL r).length = restN r := by
  unfold bodyL restN
  rw [show r.1.size = r.1.data.toList.length from rfl, show r.2.size = r.2.data.toList.length from rfl]
  simp only [List.length_cons, List.length_append, List.length_nil]
  omega
def isD (c : UInt8) : Bool := decide (48 ≤ c.toNat) && decide (c.toNat ≤ 57)
def lead (b : Bs) : Nat := b.findIdx fun c => !isD c
def val (l : Bs) : Nat := l.foldl (fun n c => 10 * n + (c.toNat - 48)) 0
/-- The length that bytes tell, and how many digits it has. -/
def told (b : Bs) : Option (Nat × Nat) :=
  if 1 ≤ lead b ∧ lead b ≤ 4 ∧ b.getD 0 0 ≠ 48 ∧ b[lead b]? = some 32 then some (val (b.take (lead b)), lead b) else none
def cutS (s : Bs) : Option Rec := if s.findIdx (· == 61) < s.length then some (S (s.take (s.findIdx (· == 61))), S (s.drop (s.findIdx (· == 61) + 1))) else none
def noRec : Rec := (S [], S [])
def firstB (b : Bs) (n k : Nat) : Rec × Nat × Nat :=
  if b.length < n then (noRec, 0, 4) else if n < k + 2 then (noRec, 0, 3) else if b.getD (n - 1) 0 ≠ 10 then (noRec, 0, 3) else
  match cutS ((b.take (n - 1)).drop (k + 1)) with
  | none => (noRec, 0, 3)
  | some r => if lenR r = n then (r, n, 0) else (noRec, 0, 3)
/-- The first record of bytes, how many of them it has, the error's number. -/
def firstL (b : Bs) : Rec × Nat × Nat :=
  match told b with
  | none => (noRec, 0, 3)
  | some (n, k) => firstB b n k
def glue (pre : List Rec) (p : List Rec × Nat) : List Rec × Nat := if p.2 = 0 then (pre ++ p.1, 0) else ([], p.2)
def par : Nat → Bs → List Rec × Nat
  | 0, _ => ([], 0)
  | f + 1, b => if b = [] then ([], 0) else if (firstL b).2.2 = 0 then glue [(firstL b).1] (par f (b.drop (firstL b).2.1)) else ([], (firstL b).2.2)
/-- The records of bytes, and the error's number. -/
def parse (b : Bs) : List Rec × Nat := par b.length b
/-- The first error of records. -/
def layE : List Rec → Nat
  | [] => 0
  | r :: t => if mayN r = 0 then layE t else mayN r
def flat (l : List Rec) : Bs := l.flatMap oneL
def layB (l : List Rec) : Bs := if layE l = 0 then flat l else []
/-- The value of the last record of a key. -/
def findR (key : ByteArray) : List Rec → Option ByteArray
  | [] => none
  | r :: t => match findR key t with
    | some v => some v
    | none => if r.1 = key then some r.2 else none

theorem S_data (s : ByteArray) : S s.data.toList = s := rfl
theorem data_S (l : Bs) : (S l).data.toList = l := rfl
theorem size_S (l : Bs) : (S l).size = l.length := rfl
theorem size_eq (s : ByteArray) : s.size = s.data.toList.length := rfl
theorem ints_len (l : Bs) : (ints l).length = l.length := by simp [ints]
theorem ints_append (a b : Bs) : ints (a ++ b) = ints a ++ ints b := by simp [ints]
theorem ints_take (a : Bs) (k : Nat) : ints (a.take k) = (ints a).take k := by simp [ints, List.map_take]
theorem ints_drop (a : Bs) (k : Nat) : ints (a.drop k) = (ints a).drop k := by simp [ints, List.map_drop]
theorem ints_getD (l : Bs) (k : Nat) : (ints l).getD k 0 = ((l.getD k 0).toNat : Int) := by
  by_cases h : k < l.length <;> simp [ints, List.getD, h]
theorem ints_byt (l : Bs) : Byt (ints l) := fun j => by
  rw [ints_getD]
  have := (l.getD j 0).toNat_lt
  omega
theorem ints_inj {a b : Bs} (h : ints a = ints b) : a = b := by
  unfold ints at h
  refine List.map_inj_right (fun x y h => ?_) |>.1 h
  exact UInt8.toNat_inj.1 (by omega)
theorem strOf_ints (l : Bs) : strOfNums (ints l) = S l := by
  apply ByteArray.ext
  apply Array.toList_inj.1
  simp [strOfNums, ints, S, List.map_map]
  apply List.ext_getElem <;> simp
/-- Numbers that are bytes are the numbers of some. -/
theorem byt_ints {xs : List Int} (h : Byt xs) : ∃ l, xs = ints l := by
  refine ⟨xs.map fun n => UInt8.ofNat n.toNat, ?_⟩
  apply List.ext_getElem (by simp [ints])
  intro i h1 h2
  have := h i
  simp [List.getD, h1] at this
  simp [ints]
  omega

theorem lenN_lt {r : Nat} (h : r ≤ 2063) : 5 ≤ r → lenN r ≤ 2067 ∧ r < lenN r := by
  unfold lenN; intro; split <;> (try split) <;> (try split) <;> omega
theorem nD1 {n : Nat} (h : n < 10) : Lib.nDigits n = 1 := Lib.nDigits_small h
theorem nD2 {n : Nat} (h : 10 ≤ n) (h2 : n < 100) : Lib.nDigits n = 2 := Lib.nDigits_unique 1 n (by simpa using h) (by simpa using h2)
theorem nD3 {n : Nat} (h : 100 ≤ n) (h2 : n < 1000) : Lib.nDigits n = 3 := Lib.nDigits_unique 2 n (by simpa using h) (by simpa using h2)
theorem nD4 {n : Nat} (h : 1000 ≤ n) (h2 : n < 10000) : Lib.nDigits n = 4 := Lib.nDigits_unique 3 n (by simpa using h) (by simpa using h2)
/-- THE LENGTH COUNTS ITS OWN DIGITS. -/
theorem lenN_own {r : Nat} (h : r ≤ 9000) : Lib.nDigits (lenN r) + r = lenN r := by
  unfold lenN
  split
  · rw [nD1 (by omega)]; omega
  split
  · rw [nD2 (by omega) (by omega)]; omega
  split
  · rw [nD3 (by omega) (by omega)]; omega
  · rw [nD4 (by omega) (by omega)]; omega
theorem may_ok {r : Rec} (h : mayN r = 0) : kOk r.1.data.toList = true ∧ r.2.size ≤ 2000 := by
  unfold mayN at h
  split at h
  · split at h
    · constructor <;> assumption
    · omega
  · omega
theorem kOk_len {k : Bs} (h : kOk k = true) : 1 ≤ k.length ∧ k.length ≤ 60 ∧ k.any bad = false := by
  unfold kOk at h
  simpa [and_assoc] using h
theorem rest_le {r : Rec} (h : mayN r = 0) : restN r ≤ 2063 ∧ 4 ≤ restN r := by
  obtain ⟨h1, h2⟩ := may_ok h
  obtain ⟨h3, h4, _⟩ := kOk_len h1
  rw [← size_eq] at h3 h4
  unfold restN; omega
theorem one_len (r : Rec) : (oneL r).length = lenR r := by
  unfold oneL lenR
  by_cases h : mayN r = 0
  · rw [if_pos h, if_pos h, List.length_append, Lib.decDigits_length, bodyL_len, lenN_own (by have := rest_le h; omega)]
  · rw [if_neg h, if_neg h]; rfl
theorem lenR_bounds (r : Rec) : lenR r ≤ 2067 ∧ (mayN r = 0 → 5 ≤ lenR r) := by
  unfold lenR
  by_cases h : mayN r = 0
  · have := rest_le h
    rw [if_pos h]
    refine ⟨?_, fun _ => ?_⟩ <;> (unfold lenN; split <;> (try split) <;> (try split) <;> omega)
  · rw [if_neg h]; exact ⟨by omega, fun h2 => absurd h2 h⟩

theorem findIdx_eq {α : Type} {p : α → Bool} {l : List α} {k : Nat} (hk : k ≤ l.length) (h1 : ∀ j (h : j < l.length), j < k → p l[j] = false) (h2 : ∀ h : k < l.length, p l[k] = true) : l.findIdx p = k := by
  apply Nat.le_antisymm
  · apply Nat.le_of_not_lt
    intro h
    have hl : k < l.length := by have := List.findIdx_le_length (p := p) (xs := l); omega
    have := List.not_of_lt_findIdx h
    rw [h2 hl] at this
    simp at this
  · apply Nat.le_of_not_lt
    intro h
    have hl : l.findIdx p < l.length := by omega
    have := h1 _ hl h
    rw [List.findIdx_getElem (w := hl)] at this
    simp at this
theorem lead_eq {b : Bs} {k : Nat} (hk : k ≤ b.length) (h1 : ∀ j, j < k → isD (b.getD j 0) = true) (h2 : k < b.length → isD (b.getD k 0) = false) : lead b = k := by
  refine findIdx_eq hk (fun j h hj => ?_) (fun h => ?_)
  · have := h1 j hj
    simp [List.getD, h] at this
    simp [this]
  · have := h2 h
    simp [List.getD, h] at this
    simp [this]
theorem lead_lt {b : Bs} {j : Nat} (h : j < lead b) : isD (b.getD j 0) = true := by
  have hl : j < b.length := by have := List.findIdx_le_length (p := fun c => !isD c) (xs := b); unfold lead at h; omega
  have := List.not_of_lt_findIdx h
  simp [List.getD, hl] at this ⊢
  exact this
theorem lead_le (b : Bs) : lead b ≤ b.length := List.findIdx_le_length
theorem lead_at {b : Bs} (h : lead b < b.length) : isD (b.getD (lead b) 0) = false := by
  have := List.findIdx_getElem (p := fun c => !isD c) (xs := b) (w := h)
  have e : b.getD (lead b) 0 = b[lead b]'h := by simp [List.getD, h]
  rw [e]
  have h2 := Bool.not_eq_true' _ |>.mp this
  exact h2
theorem val_snoc (l : Bs) (c : UInt8) : val (l ++ [c]) = 10 * val l + (c.toNat - 48) := by simp [val, List.foldl_append]
theorem isD_iff {c : UInt8} : isD c = true ↔ 48 ≤ c.toNat ∧ c.toNat ≤ 57 := by simp [isD]
theorem not_isD32 : isD 32 = false := by decide
/-- The loop that reads digits has come to its end at j. -/
theorem told_some {b : Bs} {j : Nat} (hd : ∀ i, i < j → isD (b.getD i 0) = true) (h1 : 1 ≤ j) (h4 : j ≤ 4) (h0 : b.getD 0 0 ≠ 48) (h32 : b[j]? = some 32) : told b = some (val (b.take j), j) := by
  have hj := (List.getElem?_eq_some_iff.1 h32).1
  have e : lead b = j := lead_eq (by omega) hd (fun _ => by rw [List.getD, h32]; rfl)
  unfold told
  rw [e, if_pos ⟨h1, h4, h0, h32⟩]
theorem told_none {b : Bs} {j : Nat} (hd : ∀ i, i < j → isD (b.getD i 0) = true) (hj : j ≤ b.length) (he : 4 ≤ j ∨ j = b.length ∨ isD (b.getD j 0) = false)
    (h : j = 0 ∨ 4 < j ∨ b.getD 0 0 = 48 ∨ b[j]? ≠ some 32) : told b = none := by
  unfold told
  apply if_neg
  rintro ⟨h1, h2, h3, h4⟩
  have hl := (List.getElem?_eq_some_iff.1 h4).1
  have hle : j ≤ lead b := by
    apply Nat.le_of_not_lt
    intro hlt
    have := hd _ hlt
    rw [lead_at hl] at this
    cases this
  have e : lead b = j := by
    rcases he with he | he | he
    · omega
    · omega
    · apply Nat.le_antisymm _ hle
      apply Nat.le_of_not_lt
      intro hlt
      rw [lead_lt hlt] at he
      cases he
  rw [e] at h1 h2 h4
  rcases h with h | h | h | h
  · omega
  · omega
  · exact h3 h
  · exact h h4
theorem told_inv {b : Bs} {n k : Nat} (h : told b = some (n, k)) : k = lead b ∧ 1 ≤ k ∧ k ≤ 4 ∧ b.getD 0 0 ≠ 48 ∧ b[k]? = some 32 ∧ n = val (b.take k) := by
  unfold told at h
  split at h
  · rename_i hh
    cases h
    exact ⟨rfl, hh.1, hh.2.1, hh.2.2.1, hh.2.2.2, rfl⟩
  · cases h
end Rc
end Go.Proofs.YtjofdgjcbjdhbaaGreatDoor
/- PLAIN MATHEMATICS OF LAYER 6, SECOND PART: what is laid is read; what is read is laid as the same. -/
namespace Go.Proofs.YtjofdgjcbjdhbaaGreatDoor
open Go.RowKit
set_option linter.unusedVariables false
namespace Rc
theorem dec_lt {n : Nat} (h : n < 10) : Lib.decDigits n = [UInt8.ofNat (48 + n)] := Lib.decDigits_one h
theorem dec_ge {n : Nat} (h : ¬ n < 10) : Lib.decDigits n = Lib.decDigits (n / 10) ++ [UInt8.ofNat (48 + n % 10)] := by rw [Lib.decDigits, dif_neg h]
theorem d_nat {d : Nat} (h : d < 10) : (UInt8.ofNat (48 + d)).toNat = 48 + d := by simp; omega
theorem dec_digits (n : Nat) : ∀ c ∈ Lib.decDigits n, isD c = true := by
  induction n using Nat.strongRecOn with
  | _ n ih =>
    by_cases h : n < 10
    · rw [dec_lt h]
      intro c hc
      rw [List.mem_singleton] at hc
      rw [hc, isD_iff, d_nat h]; omega
    · rw [dec_ge h]
      intro c hc
      rcases List.mem_append.1 hc with hc | hc
      · exact ih _ (by omega) c hc
      · rw [List.mem_singleton] at hc
        rw [hc, isD_iff, d_nat (Nat.mod_lt _ (by omega))]; omega
theorem dec_val (n : Nat) : val (Lib.decDigits n) = n := by
  induction n using Nat.strongRecOn with
  | _ n ih =>
    by_cases h : n < 10
    · rw [dec_lt h]
      simp only [val, List.foldl_cons, List.foldl_nil, d_nat h]; omega
    · rw [dec_ge h, val_snoc, ih _ (by omega), d_nat (Nat.mod_lt _ (by omega))]; omega
theorem dec_head {n : Nat} (h : 1 ≤ n) : (Lib.decDigits n).getD 0 0 ≠ 48 := by
  induction n using Nat.strongRecOn with
  | _ n ih =>
    by_cases h1 : n < 10
    · rw [dec_lt h1]
      intro h2
      have h3 : UInt8.ofNat (48 + n) = 48 := h2
      have := congrArg UInt8.toNat h3
      rw [d_nat h1] at this
      simp at this
      omega
    · rw [dec_ge h1]
      have hp : 0 < (Lib.decDigits (n / 10)).length := by rw [Lib.decDigits_length]; have := Lib.nDigits_pos (n / 10); omega
      have := ih (n / 10) (by omega) (by omega)
      simpa [List.getD, List.getElem?_append, hp] using this
/-- Digits without a nought ahead are the numeral of what they tell. -/
theorem dec_back (l : Bs) : l ≠ [] → (∀ c ∈ l, isD c = true) → l.getD 0 0 ≠ 48 → Lib.decDigits (val l) = l ∧ 1 ≤ val l := by
  generalize hn : l.length = n
  induction n generalizing l with
  | zero => intro h; exact absurd (List.length_eq_zero_iff.1 hn) h
  | succ n ih =>
    intro hne hd h0
    obtain ⟨t, c, rfl⟩ : ∃ t c, l = t ++ [c] := ⟨l.dropLast, l.getLast hne, (List.dropLast_concat_getLast hne).symm⟩
    have hc := isD_iff.1 (hd c (by simp))
    have htl : t.length = n := by simpa using hn
    rw [val_snoc]
    have hcc : UInt8.ofNat (48 + (c.toNat - 48)) = c := by
      apply UInt8.toNat_inj.1
      rw [d_nat (by omega)]; omega
    by_cases ht : t = []
    · subst ht
      have h48 : c.toNat ≠ 48 := fun h => h0 (UInt8.toNat_inj.1 (by simpa using h))
      have e : val [] = 0 := rfl
      rw [e, dec_lt (by omega)]
      refine ⟨?_, by omega⟩
      rw [show 48 + (10 * 0 + (c.toNat - 48)) = 48 + (c.toNat - 48) from by omega, hcc]; rfl
    · have htp : 0 < t.length := List.length_pos_iff.2 ht
      obtain ⟨i1, i2⟩ := ih t htl ht (fun x hx => hd x (by simp [hx])) (by simpa [List.getD, List.getElem?_append, htp] using h0)
      rw [dec_ge (by omega), show (10 * val t + (c.toNat - 48)) / 10 = val t from by omega, show (10 * val t + (c.toNat - 48)) % 10 = c.toNat - 48 from by omega, i1, hcc]
      exact ⟨rfl, by omega⟩
theorem ok_no61 {k : Bs} (h : kOk k = true) : ∀ c ∈ k, (c == 61) = false := by
  have := (kOk_len h).2.2
  rw [List.any_eq_false] at this
  intro c hc
  have h2 := this c hc
  simp [bad] at h2
  simp [h2]
theorem cut_one (k v : Bs) (h : ∀ c ∈ k, (c == 61) = false) : cutS (k ++ 61 :: v) = some (S k, S v) := by
  have e : (k ++ 61 :: v).findIdx (· == 61) = k.length := by
    refine findIdx_eq (by simp) (fun j hj hjk => ?_) (fun hk => ?_)
    · rw [List.getElem_append_left hjk]
      exact h _ (List.getElem_mem _)
    · simp
  unfold cutS
  rw [e, if_pos (by simp)]
  simp
/-- What begins by a record that may be, has it first. -/
theorem first_one (r : Rec) (t : Bs) (h : mayN r = 0) : firstL (oneL r ++ t) = (r, lenR r, 0) := by
  have hb := (lenR_bounds r).2 h
  have hb2 := (lenR_bounds r).1
  have hone : oneL r = Lib.decDigits (lenR r) ++ bodyL r := by unfold oneL; rw [if_pos h]
  have hrl : lenR r = lenN (restN r) := by unfold lenR; rw [if_pos h]
  have hown := lenN_own (r := restN r) (by have := rest_le h; omega)
  rw [← hrl] at hown
  have hlen := Lib.decDigits_length (lenR r)
  have hp := Lib.nDigits_pos (lenR r)
  have h4 : Lib.nDigits (lenR r) ≤ 4 := by
    by_cases c1 : lenR r < 10
    · rw [nD1 c1]; omega
    by_cases c2 : lenR r < 100
    · rw [nD2 (by omega) c2]; omega
    by_cases c3 : lenR r < 1000
    · rw [nD3 (by omega) c3]; omega
    · rw [nD4 (by omega) (by omega)]; omega
  have htold : told (oneL r ++ t) = some (lenR r, Lib.nDigits (lenR r)) := by
    have e : (oneL r ++ t).take (Lib.nDigits (lenR r)) = Lib.decDigits (lenR r) := by
      rw [hone, List.append_assoc, ← hlen, List.take_left']
      rfl
    have := told_some (b := oneL r ++ t) (j := Lib.nDigits (lenR r)) ?_ hp h4 ?_ ?_
    · rw [this, e, dec_val]
    · intro i hi
      have hi2 : i < (Lib.decDigits (lenR r)).length := by omega
      have : (oneL r ++ t).getD i 0 = (Lib.decDigits (lenR r))[i] := by
        rw [hone, List.append_assoc, List.getD, List.getElem?_append_left hi2]
        simp [hi2]
      rw [this]
      exact dec_digits _ _ (List.getElem_mem _)
    · have hi2 : 0 < (Lib.decDigits (lenR r)).length := by omega
      have := dec_head (n := lenR r) (by omega)
      rw [hone, List.append_assoc, List.getD, List.getElem?_append_left hi2]
      exact this
    · rw [hone, List.append_assoc, ← hlen, List.getElem?_append_right (Nat.le_refl _)]
      simp [bodyL]
  have hol : (oneL r).length = lenR r := one_len r
  have hlast : (oneL r ++ t).getD (lenR r - 1) 0 = 10 := by
    have e1 : oneL r = (Lib.decDigits (lenR r) ++ 32 :: (r.1.data.toList ++ 61 :: r.2.data.toList)) ++ [10] := by rw [hone]; simp [bodyL]
    have e2 : (Lib.decDigits (lenR r) ++ 32 :: (r.1.data.toList ++ 61 :: r.2.data.toList)).length = lenR r - 1 := by
      have := congrArg List.length e1
      rw [hol] at this
      simp only [List.length_append, List.length_singleton] at this ⊢
      omega
    rw [e1, List.append_assoc, List.getD, List.getElem?_append_right (by omega), e2]
    simp
  have hmid : ((oneL r ++ t).take (lenR r - 1)).drop (Lib.nDigits (lenR r) + 1) = r.1.data.toList ++ 61 :: r.2.data.toList := by
    have e1 : oneL r ++ t = Lib.decDigits (lenR r) ++ [32] ++ (r.1.data.toList ++ 61 :: r.2.data.toList) ++ ([10] ++ t) := by rw [hone]; simp [bodyL]
    have e2 : (Lib.decDigits (lenR r) ++ [32] ++ (r.1.data.toList ++ 61 :: r.2.data.toList)).length = lenR r - 1 := by
      have := congrArg List.length e1
      simp only [List.length_append, hol, List.length_cons, List.length_nil] at this ⊢
      omega
    rw [e1, List.take_left' e2, List.drop_left']
    simp [hlen]
  unfold firstL
  rw [htold]
  show firstB _ _ _ = _
  unfold firstB
  rw [if_neg (by simp [hol]), if_neg (by have := rest_le h; omega), if_neg (by rw [hlast]; simp), hmid, cut_one _ _ (ok_no61 (may_ok h).1)]
  show (if lenR (S r.1.data.toList, S r.2.data.toList) = lenR r then _ else _) = _
  rw [S_data, S_data, if_pos rfl]
/-- A record that is read is laid as the same bytes. -/
theorem first_inv {b : Bs} (h : (firstL b).2.2 = 0) : mayN (firstL b).1 = 0 ∧ (firstL b).2.1 = lenR (firstL b).1 ∧ (firstL b).2.1 ≤ b.length ∧ oneL (firstL b).1 = b.take (firstL b).2.1 := by
  unfold firstL at h ⊢
  cases ht : told b with
  | none => rw [ht] at h; simp at h
  | some p =>
    obtain ⟨n, k⟩ := p
    rw [ht] at h
    obtain ⟨hk, h1, h4, h0, h32, hn⟩ := told_inv ht
    simp only at h ⊢
    unfold firstB at h ⊢
    split at h
    · simp at h
    rename_i c1
    rw [if_neg c1]
    split at h
    · simp at h
    rename_i c2
    rw [if_neg c2]
    split at h
    · simp at h
    rename_i c3
    rw [if_neg c3]
    cases hc : cutS ((b.take (n - 1)).drop (k + 1)) with
    | none => rw [hc] at h; simp at h
    | some r =>
      rw [hc] at h
      simp only at h ⊢
      split at h
      · rename_i hl
        rw [if_pos hl]
        have hm : mayN r = 0 := by
          apply Classical.byContradiction
          intro hm
          unfold lenR at hl
          rw [if_neg hm] at hl
          omega
        refine ⟨hm, hl.symm, show n ≤ b.length from by omega, ?_⟩
        simp only
        have hkb : k < b.length := (List.getElem?_eq_some_iff.1 h32).1
        have hdec := dec_back (b.take k) (by intro hh; have := congrArg List.length hh; rw [List.length_take] at this; simp only [List.length_nil] at this; omega) (by
          intro c hc
          obtain ⟨i, hi, rfl⟩ := List.mem_iff_getElem.1 hc
          have hi2 : i < k := by simp at hi; omega
          have := lead_lt (b := b) (j := i) (by omega)
          simpa [List.getD, show i < b.length from by omega] using this) (by
          simpa [List.getD, List.getElem?_take, show 0 < k from by omega] using h0)
        have hone : oneL r = Lib.decDigits (lenR r) ++ bodyL r := by unfold oneL; rw [if_pos hm]
        rw [hone, hl, hn, hdec.1, ← hn]
        -- the text between
        have hmid : r.1.data.toList ++ 61 :: r.2.data.toList = (b.take (n - 1)).drop (k + 1) := by
          unfold cutS at hc
          split at hc
          · rename_i hlt
            cases hc
            generalize (b.take (n - 1)).drop (k + 1) = s at *
            rw [data_S, data_S]
            have h61 : s[s.findIdx (· == 61)] = 61 := by
              have := List.findIdx_getElem (p := (· == (61 : UInt8))) (xs := s) (w := hlt)
              simpa using this
            conv => rhs; rw [← List.take_append_drop (s.findIdx (· == 61)) s]
            rw [List.drop_eq_getElem_cons hlt, h61]
          · cases hc
        have hb : bodyL r = [32] ++ (r.1.data.toList ++ 61 :: r.2.data.toList) ++ [10] := by simp [bodyL]
        rw [hb, hmid]
        have hn1 : n - 1 < b.length := by omega
        have hlast : b[n - 1] = 10 := by
          have := c3
          simp [List.getD, hn1] at this
          exact this
        have hsp : b[k] = 32 := by rw [List.getElem?_eq_getElem hkb] at h32; exact Option.some.inj h32
        apply List.ext_getElem
        · simp; omega
        · intro i hi1 hi2
          have hin : i < n := by simp at hi2; omega
          rw [List.getElem_take]
          by_cases i1 : i < k
          · rw [List.getElem_append_left (by simp; omega), List.getElem_take]
          · rw [List.getElem_append_right (by simp; omega)]
            have e0 : (b.take k).length = k := by simp; omega
            by_cases i2 : i = k
            · subst i2
              have e3 : i - (b.take i).length = 0 := by omega
              simp only [e3]
              simp [hsp]
            · by_cases i3 : i = n - 1
              · subst i3
                rw [List.getElem_append_right (by simp; omega)]
                simp [hlast]
              · rw [List.getElem_append_left (by simp; omega), List.getElem_append_right (by simp; omega)]
                simp
                congr 1
                omega
      · simp at h
theorem first_pos {b : Bs} (h : (firstL b).2.2 = 0) : 5 ≤ (firstL b).2.1 := by
  obtain ⟨h1, h2, _⟩ := first_inv h
  rw [h2]
  exact (lenR_bounds _).2 h1
theorem par_fuel : ∀ (f : Nat) (b : Bs), b.length ≤ f → par f b = par b.length b
  | 0, b, h => by
    obtain rfl : b = [] := List.length_eq_zero_iff.1 (by omega)
    rfl
  | f + 1, b, h => by
    by_cases hb : b = []
    · subst hb; simp [par]
    · have hp : 0 < b.length := List.length_pos_iff.2 hb
      obtain ⟨m, hm⟩ : ∃ m, b.length = m + 1 := ⟨b.length - 1, by omega⟩
      rw [hm]
      simp only [par, if_neg hb]
      by_cases he : (firstL b).2.2 = 0
      · rw [if_pos he, if_pos he]
        have h5 := first_pos he
        have hd : (b.drop (firstL b).2.1).length ≤ m := by simp; omega
        rw [par_fuel f _ (by omega), par_fuel m _ hd]
      · rw [if_neg he, if_neg he]
termination_by f => f
theorem parse_nil : parse [] = ([], 0) := rfl
theorem parse_err {b : Bs} (hb : b ≠ []) (he : (firstL b).2.2 ≠ 0) : parse b = ([], (firstL b).2.2) := by
  unfold parse
  obtain ⟨m, hm⟩ : ∃ m, b.length = m + 1 := ⟨b.length - 1, by have := List.length_pos_iff.2 hb; omega⟩
  rw [hm]
  simp only [par, if_neg hb, if_neg he]
theorem parse_ok {b : Bs} (hb : b ≠ []) (he : (firstL b).2.2 = 0) : parse b = glue [(firstL b).1] (parse (b.drop (firstL b).2.1)) := by
  unfold parse
  obtain ⟨m, hm⟩ : ∃ m, b.length = m + 1 := ⟨b.length - 1, by have := List.length_pos_iff.2 hb; omega⟩
  have h5 := first_pos he
  rw [hm]
  simp only [par, if_neg hb, if_pos he]
  rw [par_fuel m _ (by simp; omega)]
theorem glue_glue (a b : List Rec) (p : List Rec × Nat) : glue a (glue b p) = glue (a ++ b) p := by
  unfold glue
  by_cases h : p.2 = 0
  · simp [h]
  · simp [h]
theorem glue_nil (p : List Rec × Nat) (h : p.2 ≠ 0 → p.1 = []) : glue [] p = p := by
  unfold glue
  by_cases h0 : p.2 = 0
  · rw [if_pos h0, ← h0]; rfl
  · rw [if_neg h0, ← h h0]
theorem parse_shape (b : Bs) : (parse b).2 ≠ 0 → (parse b).1 = [] := by
  generalize hn : b.length = n
  induction n using Nat.strongRecOn generalizing b with
  | _ n ih =>
    by_cases hb : b = []
    · subst hb; intro _; rfl
    · by_cases he : (firstL b).2.2 = 0
      · rw [parse_ok hb he]
        unfold glue
        split
        · intro h; exact absurd rfl h
        · intro _; rfl
      · rw [parse_err hb he]; intro _; rfl
theorem lay_parse : ∀ l : List Rec, layE l = 0 → parse (flat l) = (l, 0)
  | [], _ => rfl
  | r :: t, h => by
    unfold layE at h
    split at h
    · rename_i hm
      have hf : flat (r :: t) = oneL r ++ flat t := by simp [flat]
      have h1 := first_one r (flat t) hm
      have hb : flat (r :: t) ≠ [] := by
        intro hh
        have := congrArg List.length hh
        rw [hf, List.length_append, one_len] at this
        have := (lenR_bounds r).2 hm
        simp at *
        omega
      rw [hf] at hb ⊢
      rw [parse_ok hb (by rw [h1]), h1]
      simp only
      rw [← one_len r, List.drop_left, lay_parse t h]
      rfl
    · rename_i hm
      exact absurd h hm
theorem parse_lay (b : Bs) : (parse b).2 = 0 → layE (parse b).1 = 0 ∧ flat (parse b).1 = b := by
  generalize hn : b.length = n
  induction n using Nat.strongRecOn generalizing b with
  | _ n ih =>
    by_cases hb : b = []
    · subst hb; intro _; exact ⟨rfl, rfl⟩
    · by_cases he : (firstL b).2.2 = 0
      · have h5 := first_pos he
        obtain ⟨i1, i2, i3, i4⟩ := first_inv he
        have := ih (b.drop (firstL b).2.1).length (by subst hn; simp; have := List.length_pos_iff.2 hb; omega) _ rfl
        rw [parse_ok hb he]
        unfold glue
        split
        · rename_i h0
          intro _
          obtain ⟨j1, j2⟩ := this h0
          simp only [List.singleton_append]
          refine ⟨?_, ?_⟩
          · unfold layE; rw [if_pos i1]; exact j1
          · have : flat ((firstL b).1 :: (parse (b.drop (firstL b).2.1)).1) = oneL (firstL b).1 ++ flat (parse (b.drop (firstL b).2.1)).1 := by simp [flat]
            rw [this, j2, i4, List.take_append_drop]
        · rename_i h0
          intro h; exact absurd h h0
      · rw [parse_err hb he]; intro h; exact absurd h he
theorem nD_le {n k : Nat} (hk : 1 ≤ k) : Lib.nDigits n ≤ k ↔ n < 10 ^ k := by
  constructor
  · intro h
    have := Lib.lt_pow_nDigits n
    exact Nat.lt_of_lt_of_le this (Nat.pow_le_pow_right (by omega) h)
  · intro h
    induction k generalizing n with
    | zero => omega
    | succ k ih =>
      by_cases hn : n < 10
      · rw [Lib.nDigits_small hn]; omega
      · rw [Lib.nDigits_big hn]
        by_cases hk0 : k = 0
        · subst hk0; omega
        · have := ih (by omega) (n := n / 10) (by rw [Nat.pow_succ] at h; omega)
          omega
/-- THE FIRST OF ONE TO FOUR DIGITS THAT DO. -/
theorem lenN_first {r d : Nat} (h1 : 1 ≤ d) (h4 : d ≤ 4) (hp : ∀ j, 1 ≤ j → j < d → j < Lib.nDigits (j + r)) (h : Lib.nDigits (d + r) ≤ d) : lenN r = d + r := by
  rw [nD_le h1] at h
  have hq : ∀ j, 1 ≤ j → j < d → 10 ^ j ≤ j + r := fun j a b => by
    have := hp j a b
    have h2 := nD_le (n := j + r) a
    omega
  have : d = 1 ∨ d = 2 ∨ d = 3 ∨ d = 4 := by omega
  unfold lenN
  rcases this with rfl | rfl | rfl | rfl
  · rw [if_pos (by omega)]; omega
  · have a1 := hq 1 (by omega) (by omega)
    rw [if_neg (by omega), if_pos (by omega)]; omega
  · have a1 := hq 1 (by omega) (by omega)
    have a2 := hq 2 (by omega) (by omega)
    rw [if_neg (by omega), if_neg (by omega), if_pos (by omega)]; omega
  · have a1 := hq 1 (by omega) (by omega)
    have a2 := hq 2 (by omega) (by omega)
    have a3 := hq 3 (by omega) (by omega)
    rw [if_neg (by omega), if_neg (by omega), if_neg (by omega)]; omega
theorem body_cat (k v : ByteArray) : (⟨#[32]⟩ ++ k ++ ⟨#[61]⟩ ++ v ++ ⟨#[10]⟩ : ByteArray) = S (bodyL (k, v)) := by
  apply ByteArray.ext
  apply Array.toList_inj.1
  simp [S, bodyL, ByteArray.data_append]
theorem S_append (a b : Bs) : S a ++ S b = S (a ++ b) := by
  apply ByteArray.ext
  apply Array.toList_inj.1
  simp [S, ByteArray.data_append]
theorem nD_up {r k : Nat} (hk : 1 ≤ k) (hp : ∀ j, 1 ≤ j → j < k → j < Lib.nDigits (j + r)) (hne : Lib.nDigits (k + r) ≠ k) : ∀ j, 1 ≤ j → j < k + 1 → j < Lib.nDigits (j + r) := by
  intro j h1 h2
  by_cases e : j = k
  · subst e
    apply Classical.byContradiction
    intro h
    by_cases h0 : j = 1
    · subst h0
      have := Lib.nDigits_pos (1 + r)
      omega
    · have a := hp (j - 1) (by omega) (by omega)
      have b : Lib.nDigits (j + r) ≤ j - 1 := by omega
      rw [nD_le (by omega)] at b
      have c : Lib.nDigits (j - 1 + r) ≤ j - 1 := by rw [nD_le (by omega)]; omega
      omega
  · exact hp j h1 (by omega)
theorem take_next {α : Type} {l : List α} {j : Nat} {r : α} (h : l[j]? = some r) : l.take (j + 1) = l.take j ++ [r] := by
  obtain ⟨hj, rfl⟩ := List.getElem?_eq_some_iff.1 h
  exact List.take_succ_eq_append_getElem hj
theorem layE_app (a b : List Rec) (h : layE a = 0) : layE (a ++ b) = layE b := by
  induction a with
  | nil => rfl
  | cons x t ih =>
    unfold layE at h
    split at h
    · rename_i hx
      show (if mayN x = 0 then layE (t ++ b) else mayN x) = _
      rw [if_pos hx, ih h]
    · rename_i hx; exact absurd h hx
theorem layE_one (r : Rec) : layE [r] = mayN r := by
  unfold layE
  split
  · rename_i h; rw [h]; rfl
  · rfl
theorem layE_succ {l : List Rec} {j : Nat} {r : Rec} (h : layE (l.take j) = 0) (hj : l[j]? = some r) (hm : mayN r = 0) : layE (l.take (j + 1)) = 0 := by
  rw [take_next hj, layE_app _ _ h, layE_one, hm]
theorem layE_stop {l : List Rec} {j : Nat} {r : Rec} (h : layE (l.take j) = 0) (hj : l[j]? = some r) (hm : mayN r ≠ 0) : layE l = mayN r := by
  have e : l = l.take j ++ (r :: l.drop (j + 1)) := by
    obtain ⟨hl, rfl⟩ := List.getElem?_eq_some_iff.1 hj
    rw [← List.drop_eq_getElem_cons hl, List.take_append_drop]
  rw [e, layE_app _ _ h]
  show (if mayN r = 0 then _ else mayN r) = _
  rw [if_neg hm]
theorem flat_succ {l : List Rec} {j : Nat} {r : Rec} (hj : l[j]? = some r) : flat (l.take (j + 1)) = flat (l.take j) ++ oneL r := by
  rw [take_next hj]; simp [flat]
theorem flat_len (l : List Rec) : (flat l).length ≤ l.length * 2067 := by
  induction l with
  | nil => simp [flat]
  | cons r t ih =>
    have h1 := (lenR_bounds r).1
    rw [← one_len] at h1
    have : flat (r :: t) = oneL r ++ flat t := by simp [flat]
    rw [this, List.length_append, List.length_cons]
    omega
end Rc
end Go.Proofs.YtjofdgjcbjdhbaaGreatDoor
