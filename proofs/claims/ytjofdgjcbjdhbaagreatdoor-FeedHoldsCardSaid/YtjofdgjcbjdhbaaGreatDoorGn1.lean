/- PLAIN MATHEMATICS OF LAYER 1: what numf's calls answer, as functions on numbers and lists. No Go text is named. -/
import Derived.Test.YtjofdgjcbjdhbaaGreatDoorBase
namespace Go.Proofs.YtjofdgjcbjdhbaaGreatDoor.Nf
open Go.Proofs.YtjofdgjcbjdhbaaGreatDoor

/-- The greatest number of d octal digits. -/
def most (d : Int) : Int := 2 ^ (3 * (if d < 0 then 0 else if 20 < d then 20 else d).toNat) - 1
/-- The lowest k digits of n to the base b, the highest first, off added to each. -/
def digs (b off n : Int) : Nat → List Int
  | 0 => []
  | k + 1 => (off + n / b ^ k % b) :: digs b off n k
def octS (n d : Int) : List Int × Int :=
  if d < 1 ∨ 20 < d then ([], 1) else if n < 0 ∨ most d < n then ([], 10) else (digs 8 48 n d.toNat, 0)
def wide (w : Int) : Bool := w == 8 || w == 12
def plain (n w : Int) : Bool := wide w && decide (0 ≤ n) && decide (n ≤ most (w - 1))
def sgn (n : Int) : Int := if n < 0 then -1 else 0
def putB (n : Int) (k : Nat) : List Int × Int :=
  if n / 256 ^ k = sgn n then ((if n < 0 then 255 else 128) :: digs 256 0 n k, 0) else ([], 10)
def putS (n w : Int) : List Int × Int :=
  if wide w = false then ([], 1) else if plain n w = true then (digs 8 48 n (w - 1).toNat ++ [0], 0) else putB n (w - 1).toNat
/-- What bytes say to the base b, behind the number s. -/
def say (b off : Int) (s : Int) : List Int → Int
  | [] => s
  | c :: r => say b off (s * b + (c - off)) r
def baseS (s : Int) (xs : List Int) : Int × Int :=
  if -9223372036854775808 ≤ say 256 0 s xs ∧ say 256 0 s xs ≤ 9223372036854775807 then (say 256 0 s xs, 0) else (0, 10)
def isO (c : Int) : Bool := decide (48 ≤ c) && decide (c ≤ 55)
def isB (c : Int) : Bool := c == 0 || c == 32
/-- How many of the first ones are so. -/
def run (p : Int → Bool) : List Int → Nat
  | [] => 0
  | c :: r => if p c then run p r + 1 else 0
def octG (xs : List Int) : Int × Int :=
  let ys := xs.drop (run (· == 32) xs)
  let k := run isO ys
  if k = 0 ∨ (ys.drop k).all isB = false then (0, 3) else (say 8 48 0 (ys.take k), 0)
def getS (xs : List Int) : Int × Int :=
  if wide xs.length = false then (0, 1) else if xs.getD 0 0 = 128 then baseS 0 (xs.drop 1) else if xs.getD 0 0 = 255 then baseS (-1) (xs.drop 1) else octG xs
def exactS (xs : List Int) : Bool :=
  (getS xs).2 == 0 && ((putS (getS xs).1 xs.length).2 == 0 && decide (xs = (putS (getS xs).1 xs.length).1))

theorem len_digs (b off n : Int) : ∀ k, (digs b off n k).length = k
  | 0 => rfl
  | k + 1 => by rw [digs, List.length_cons, len_digs b off n k]
theorem div_pow (n b : Int) (hb : 0 < b) (k : Nat) : n / b ^ k / b = n / b ^ (k + 1) := by
  have h : 0 < b ^ k := Int.pow_pos hb
  rw [Int.pow_succ, Int.ediv_ediv, if_neg (by omega), Int.sub_zero]
theorem set_digs (b off n z : Int) (d k : Nat) (h : k < d) :
    (List.replicate (d - k) z ++ digs b off n k).set (d - 1 - k) (off + n / b ^ k % b) = List.replicate (d - (k + 1)) z ++ digs b off n (k + 1) := by
  rw [show d - k = (d - (k + 1)) + 1 from by omega, List.replicate_succ', show d - 1 - k = d - (k + 1) from by omega]
  rw [List.append_assoc, List.set_append_right _ _ (by simp)]
  simp [digs]
theorem byt_digs8 (n : Int) : ∀ k, Byt (digs 8 48 n k)
  | 0 => Byt.nil
  | k + 1 => Byt.cons (by omega) (byt_digs8 n k)
theorem byt_digs256 (n : Int) : ∀ k, Byt (digs 256 0 n k)
  | 0 => Byt.nil
  | k + 1 => Byt.cons (by omega) (byt_digs256 n k)
theorem run_le (p : Int → Bool) : ∀ xs : List Int, run p xs ≤ xs.length
  | [] => Nat.le_refl _
  | c :: r => by
    rw [run, List.length_cons]
    split
    · exact Nat.succ_le_succ (run_le p r)
    · omega
theorem run_lt (p : Int → Bool) : ∀ (xs : List Int) (j : Nat), j < run p xs → p (xs.getD j 0) = true
  | [], j, h => by simp [run] at h
  | c :: r, j, h => by
    rw [run] at h
    by_cases hc : p c = true
    · rw [if_pos hc] at h
      cases j with
      | zero => simpa using hc
      | succ j => simpa using run_lt p r j (by omega)
    · rw [if_neg hc] at h; omega
theorem run_at (p : Int → Bool) : ∀ (xs : List Int), run p xs < xs.length → p (xs.getD (run p xs) 0) = false
  | [], h => by simp [run] at h
  | c :: r, h => by
    rw [run] at h ⊢
    by_cases hc : p c = true
    · rw [if_pos hc] at h ⊢
      simpa using run_at p r (by simpa using h)
    · rw [if_neg hc] at h ⊢
      simpa using hc
theorem run_eq (p : Int → Bool) (xs : List Int) (k : Nat) (hk : k ≤ xs.length) (h1 : ∀ j, j < k → p (xs.getD j 0) = true) (h2 : k < xs.length → p (xs.getD k 0) = false) : run p xs = k := by
  rcases Nat.lt_trichotomy (run p xs) k with h | h | h
  · have a := run_at p xs (by omega)
    rw [h1 _ h] at a
    cases a
  · exact h
  · have a := run_lt p xs k h
    rw [h2 (by have := run_le p xs; omega)] at a
    cases a
theorem say_append (b off : Int) : ∀ (xs ys : List Int) (s : Int), say b off s (xs ++ ys) = say b off (say b off s xs) ys
  | [], _, _ => rfl
  | c :: r, ys, s => by rw [List.cons_append, say, say_append b off r ys]; rfl
theorem say_snoc (b off s c : Int) (xs : List Int) : say b off s (xs ++ [c]) = say b off s xs * b + (c - off) := by rw [say_append]; rfl
theorem take_snoc (xs : List Int) (k : Nat) (h : k < xs.length) : xs.take (k + 1) = xs.take k ++ [xs.getD k 0] := by
  rw [List.take_succ_eq_append_getElem h]; simp [List.getD, h]
/-- What is laid to the base b is said as the same. -/
theorem say_digs (b off : Int) (hb : 0 < b) : ∀ (k : Nat) (n s : Int), s = n / b ^ k → say b off s (digs b off n k) = n
  | 0, n, s, h => by rw [h, digs, say]; simp
  | k + 1, n, s, h => by
    rw [digs, say]
    refine say_digs b off hb k n _ ?_
    rw [h, ← div_pow n b hb k]
    have := Int.mul_ediv_add_emod (n / b ^ k) b
    have e : n / b ^ k / b * b = b * (n / b ^ k / b) := Int.mul_comm _ _
    omega
theorem pow_bd (k : Nat) (hk : k ≤ 20) : 1 ≤ (2 : Int) ^ (3 * k) ∧ (2 : Int) ^ (3 * k) ≤ 1152921504606846976 := by
  have h : ∀ i : Fin 21, 1 ≤ (2 : Int) ^ (3 * i.val) ∧ (2 : Int) ^ (3 * i.val) ≤ 1152921504606846976 := by decide
  exact h ⟨k, by omega⟩
theorem most_low (n : Int) (h : n < 0) : most n = 0 := by simp [most, h]
theorem most_high (n : Int) (h : 20 < n) : most n = 1152921504606846975 := by simp [most, h, show ¬ n < 0 from by omega]
theorem most_mid (n : Int) (h0 : 0 ≤ n) (h : n ≤ 20) : most n = 2 ^ (3 * n).toNat - 1 := by
  have e : (3 * n).toNat = 3 * n.toNat := by omega
  simp [most, show ¬ n < 0 from by omega, show ¬ 20 < n from by omega, e]
/-- A number of digits, brought within 0 to 20. -/
def clamp (n : Int) : Nat := (if n < 0 then 0 else if 20 < n then 20 else n).toNat
theorem clamp_bd (n : Int) : clamp n ≤ 20 ∧ ((clamp n : Int) ≤ n ∨ clamp n = 0) ∧ (n ≤ clamp n ∨ clamp n = 20) := by
  unfold clamp
  split
  · omega
  · split <;> omega
theorem most_clamp (n : Int) : most n = most (clamp n : Int) := by
  have h := clamp_bd n
  by_cases h0 : n < 0
  · rw [show clamp n = 0 from by omega]; simp [h0, most]
  · by_cases h1 : 20 < n
    · rw [show clamp n = 20 from by omega]; simp [h0, h1, most]
    · have : (clamp n : Int) = n := by omega
      rw [this]
theorem most_bd (n : Int) : 0 ≤ most n ∧ most n ≤ 1152921504606846975 := by
  have h := clamp_bd n
  rw [most_clamp n, most_mid _ (by omega) (by omega), show (3 * (clamp n : Int)).toNat = 3 * clamp n from by omega]
  have := pow_bd (clamp n) (by omega)
  omega
theorem most_mid' (n : Int) (h0 : 0 ≤ n) (h : n ≤ 20) : RowKit.wrap64 (RowKit.wrap64 (2 ^ (3 * n).toNat) - 1) = most n := by
  have e : (3 * n).toNat = 3 * n.toNat := by omega
  have := pow_bd n.toNat (by omega)
  rw [most_mid n h0 h, e, IntWalk.wrap64_in (2 ^ (3 * n.toNat)) ⟨by omega, by omega⟩, IntWalk.wrap64_in _ ⟨by omega, by omega⟩]
theorem most_w1 : RowKit.wrap64 (RowKit.wrap64 1152921504606846976 - 1) = 1152921504606846975 := by
  rw [IntWalk.wrap64_in 1152921504606846976 ⟨by omega, by omega⟩, IntWalk.wrap64_in _ ⟨by omega, by omega⟩]; rfl
theorem most_w2 : RowKit.wrap64 (RowKit.wrap64 1 - 1) = 0 := by
  rw [IntWalk.wrap64_in 1 ⟨by omega, by omega⟩, IntWalk.wrap64_in _ ⟨by omega, by omega⟩]; rfl
theorem most_mm (n : Int) : RowKit.wrap64 (RowKit.wrap64 (2 ^ (3 * min (max n 0) 20).toNat) - 1) = most n := by
  by_cases h0 : n < 0
  · rw [show min (max n 0) 20 = 0 from by omega, most_low n h0]; exact most_w2
  · by_cases h1 : 20 < n
    · rw [show min (max n 0) 20 = 20 from by omega, most_high n h1]; exact most_w1
    · rw [show min (max n 0) 20 = n from by omega]; exact most_mid' n (by omega) (by omega)
/-- One digit more. -/
theorem most_succ (k : Nat) (h : k < 20) : most ((k + 1 : Nat) : Int) = 8 * most (k : Int) + 7 := by
  rw [most_mid _ (by omega) (by omega), most_mid _ (by omega) (by omega)]
  rw [show (3 * ((k + 1 : Nat) : Int)).toNat = 3 * k + 3 from by omega, show (3 * ((k : Nat) : Int)).toNat = 3 * k from by omega, Int.pow_add]
  omega
theorem tm (n : Int) : n.tmod 256 = if 0 ≤ n then n % 256 else if n % 256 = 0 then 0 else n % 256 - 256 := by
  by_cases h : 0 ≤ n
  · rw [if_pos h, Int.tmod_eq_emod_of_nonneg h]
  · rw [if_neg h]
    have e : n = -(-n) := by omega
    rw [e, Int.neg_tmod, Int.tmod_eq_emod_of_nonneg (by omega)]
    split <;> omega
theorem td (n : Int) : n.tdiv 256 = if 0 ≤ n then n / 256 else if n % 256 = 0 then n / 256 else n / 256 + 1 := by
  have a := Int.mul_tdiv_add_tmod n 256
  have b := tm n
  split at b
  · simp [*]; omega
  · rw [if_neg (by assumption)]
    split at b
    · rw [if_pos (by assumption)]; omega
    · rw [if_neg (by assumption)]; omega
theorem low_eq (n : Int) : (RowKit.wrap64 (n.tmod 256 + 256)).tmod 256 % 256 = n % 256 := by
  have e := tm n
  have b : -256 < n.tmod 256 ∧ n.tmod 256 < 256 := by rw [e]; split; omega; split <;> omega
  rw [IntWalk.wrap64_in _ ⟨by omega, by omega⟩, Int.tmod_eq_emod_of_nonneg (by omega), e]
  split
  · omega
  · split <;> omega
theorem floor_neg (n : Int) (h0 : -9223372036854775808 ≤ n) (h : n.tmod 256 < 0) : RowKit.wrap64 (n.tdiv 256 - 1) = n / 256 := by
  have e := tm n
  have d := td n
  rw [e] at h
  split at h
  · omega
  · rw [if_neg (by assumption)] at d
    split at h
    · omega
    · rw [if_neg (by assumption)] at d
      rw [d, IntWalk.wrap64_in _ ⟨by omega, by omega⟩]; omega
theorem floor_pos (n : Int) (h : 0 ≤ n.tmod 256) : n.tdiv 256 = n / 256 := by
  have e := tm n
  have d := td n
  rw [e] at h
  split at h
  · rw [if_pos (by assumption)] at d; exact d
  · rw [if_neg (by assumption)] at d
    split at h
    · rw [if_pos (by assumption)] at d; exact d
    · omega
theorem td_bd (n : Int) (h0 : -9223372036854775808 ≤ n) (h1 : n ≤ 9223372036854775807) : -9223372036854775808 ≤ n.tdiv 256 ∧ n.tdiv 256 ≤ 9223372036854775807 := by
  have d := td n
  rw [d]; split
  · omega
  · split <;> omega
theorem pow_div_bd (n b : Int) (hn : 0 ≤ n) (hb : 0 < b) (k : Nat) : 0 ≤ n / b ^ k ∧ n / b ^ k ≤ n :=
  ⟨Int.ediv_nonneg hn (Int.le_of_lt (Int.pow_pos hb)), Int.ediv_le_self _ hn⟩
theorem and7 (m : Int) (h0 : 0 ≤ m) (h1 : m ≤ 9223372036854775807) : bits BinOp.and IntKind.i64 m 7 = m % 8 := by
  obtain ⟨k, rfl⟩ : ∃ k : Nat, m = k := ⟨m.toNat, by omega⟩
  show IntKind.i64.wrap ((BitVec.ofInt 64 (k : Int) &&& BitVec.ofInt 64 7).toNat : Int) = _
  have e : (BitVec.ofInt 64 (k : Int)).toNat = k := by
    rw [BitVec.ofInt_natCast, BitVec.toNat_ofNat]; exact Nat.mod_eq_of_lt (by omega)
  have e7 : (BitVec.ofInt 64 7).toNat = 2 ^ 3 - 1 := by decide
  rw [BitVec.toNat_and, e, e7, Nat.and_two_pow_sub_one_eq_mod, IntWalk.i64_in _ ⟨by omega, by omega⟩]
  omega
/-- A whole number by a power: it stays within 64 bits, of either sign. -/
theorem pow_div_in (n b : Int) (h0 : -9223372036854775808 ≤ n) (h1 : n ≤ 9223372036854775807) (hb : 0 < b) (k : Nat) : -9223372036854775808 ≤ n / b ^ k ∧ n / b ^ k ≤ 9223372036854775807 := by
  have hp : 0 < b ^ k := Int.pow_pos hb
  by_cases hn : 0 ≤ n
  · have := pow_div_bd n b hn hb k; omega
  · have e1 : n / b ^ k < 0 := Int.ediv_neg_of_neg_of_pos (by omega) hp
    have e2 : n ≤ n / b ^ k := by
      rw [Int.le_ediv_iff_mul_le hp]
      have : n * b ^ k ≤ n * 1 := Int.mul_le_mul_of_nonpos_left (by omega) (by omega)
      omega
    omega
theorem shr63 (n : Int) (h0 : -9223372036854775808 ≤ n) (h1 : n ≤ 9223372036854775807) : n / 9223372036854775808 = sgn n := by unfold sgn; split <;> omega
theorem set_digs' (b off n z s : Int) (d k : Nat) (h : k < d) :
    (s :: (List.replicate (d - k) z ++ digs b off n k)).set (d - k) (off + n / b ^ k % b) = s :: (List.replicate (d - (k + 1)) z ++ digs b off n (k + 1)) := by
  rw [show d - k = (d - 1 - k) + 1 from by omega, List.set_cons_succ, ← set_digs b off n z d k h]
  rw [show d - k = (d - 1 - k) + 1 from by omega]
/-- Bytes said to the base 256, held within 64 bits at each step. -/
def runB (s : Int) : Int → List Int → Int × Int
  | m, [] => (m, 0)
  | m, c :: r => if m / 36028797018963968 = s then runB s (m * 256 + c) r else (0, 10)
theorem drop_at (xs : List Int) (k : Nat) (h : k < xs.length) : xs.drop k = xs.getD k 0 :: xs.drop (k + 1) := by
  rw [List.drop_eq_getElem_cons h]; simp [List.getD, h]
/-- '|' on an int64 whose lowest j bits are 0, and a number of j bits: their sum. -/
theorem or_low (j : Nat) (m y : Int) (hj : j ≤ 8) (h0 : -9223372036854775808 ≤ m * 2 ^ j) (h1 : m * 2 ^ j + y ≤ 9223372036854775807) (hy0 : 0 ≤ y) (hy1 : y < 2 ^ j) :
    bits BinOp.or IntKind.i64 (m * 2 ^ j) y = m * 2 ^ j + y := by
  obtain ⟨z, rfl⟩ : ∃ z : Nat, y = z := ⟨y.toNat, by omega⟩
  show IntKind.i64.wrap ((BitVec.ofInt 64 (m * 2 ^ j) ||| BitVec.ofInt 64 (z : Int)).toNat : Int) = _
  have hp : (2 : Int) ^ j = ((2 ^ j : Nat) : Int) := by simp
  have hp0 : 0 < 2 ^ j := Nat.pow_pos (by omega)
  have hz : z < 2 ^ j := by rw [hp] at hy1; omega
  have hj2 : 2 ^ j ≤ 256 := by
    have : 2 ^ j ≤ 2 ^ 8 := Nat.pow_le_pow_right (by omega) hj
    omega
  have e2 : (BitVec.ofInt 64 (z : Int)).toNat = z := by
    rw [BitVec.ofInt_natCast, BitVec.toNat_ofNat]; exact Nat.mod_eq_of_lt (by omega)
  obtain ⟨q, hq⟩ : ∃ q : Nat, (BitVec.ofInt 64 (m * 2 ^ j)).toNat = q * 2 ^ j ∧ ((q * 2 ^ j : Nat) : Int) = (m * 2 ^ j) % 18446744073709551616 := by
    have e1 : ((BitVec.ofInt 64 (m * 2 ^ j)).toNat : Int) = (m * 2 ^ j) % 18446744073709551616 := by
      rw [BitVec.toNat_ofInt]
      rw [Int.toNat_of_nonneg (by omega)]
      rfl
    have hdvd : (2 : Int) ^ j ∣ (m * 2 ^ j) % 18446744073709551616 := by
      have h64 : (18446744073709551616 : Int) = 2 ^ j * 2 ^ (64 - j) := by
        rw [← Int.pow_add, show j + (64 - j) = 64 from by omega]; rfl
      rw [Int.emod_def]
      refine Int.dvd_sub ⟨m, Int.mul_comm _ _⟩ ?_
      rw [h64, Int.mul_assoc]
      exact ⟨_, rfl⟩
    obtain ⟨q, hq⟩ := hdvd
    have hq0 : 0 ≤ q := by
      rcases Int.lt_or_le q 0 with h | h
      · exfalso
        have : (2 : Int) ^ j * q < 0 := Int.mul_neg_of_pos_of_neg (by omega) h
        omega
      · exact h
    refine ⟨q.toNat, ?_, ?_⟩
    · have : (((BitVec.ofInt 64 (m * 2 ^ j)).toNat : Nat) : Int) = ((q.toNat * 2 ^ j : Nat) : Int) := by
        rw [e1, hq, Int.natCast_mul, Int.toNat_of_nonneg hq0, ← hp, Int.mul_comm]
      exact_mod_cast this
    · rw [hq, Int.natCast_mul, Int.toNat_of_nonneg hq0, ← hp, Int.mul_comm]
  rw [BitVec.toNat_or, hq.1, e2, ← Nat.shiftLeft_eq, ← Nat.shiftLeft_add_eq_or_of_lt hz, Nat.shiftLeft_eq, Int.natCast_add, hq.2, IntKind.wrap_i64]
  omega
theorem or256 (m y : Int) (h0 : -36028797018963968 ≤ m) (h1 : m < 36028797018963968) (hy0 : 0 ≤ y) (hy1 : y ≤ 255) : bits BinOp.or IntKind.i64 (m * 256) y = m * 256 + y := by
  have := or_low 8 m y (by omega) (by omega) (by omega) hy0 (by omega)
  simpa using this
theorem or8 (m y : Int) (h0 : 0 ≤ m) (h1 : m < 1152921504606846976) (hy0 : 0 ≤ y) (hy1 : y ≤ 7) : bits BinOp.or IntKind.i64 (m * 8) y = m * 8 + y := by
  have := or_low 3 m y (by omega) (by omega) (by omega) hy0 (by omega)
  simpa using this
theorem pow8 (k : Nat) (h : k ≤ 12) : 1 ≤ (8 : Int) ^ k ∧ (8 : Int) ^ k ≤ 68719476736 := by
  have h : ∀ i : Fin 13, 1 ≤ (8 : Int) ^ i.val ∧ (8 : Int) ^ i.val ≤ 68719476736 := by decide
  exact h ⟨k, by omega⟩
theorem isO_bd {x : Int} (h : isO x = true) : 48 ≤ x ∧ x ≤ 55 := by simpa [isO] using h
/-- What has left 64 bits does not come back. -/
theorem say_high : ∀ (xs : List Int) (m : Int), Byt xs → 9223372036854775808 ≤ m → 9223372036854775808 ≤ say 256 0 m xs
  | [], _, _, h => h
  | c :: r, m, hx, h => by
    rw [say]
    have h0 := hx 0
    simp at h0
    exact say_high r _ (fun j => by simpa using hx (j + 1)) (by omega)
theorem say_low : ∀ (xs : List Int) (m : Int), Byt xs → m < -9223372036854775808 → say 256 0 m xs < -9223372036854775808
  | [], _, _, h => h
  | c :: r, m, hx, h => by
    rw [say]
    have h0 := hx 0
    simp at h0
    exact say_low r _ (fun j => by simpa using hx (j + 1)) (by omega)
theorem runB_say (s : Int) (hs : s = 0 ∨ s = -1) : ∀ (xs : List Int) (m : Int), Byt xs → (s = 0 → 0 ≤ m) → (s = -1 → m < 0) → -9223372036854775808 ≤ m → m ≤ 9223372036854775807 →
    runB s m xs = if -9223372036854775808 ≤ say 256 0 m xs ∧ say 256 0 m xs ≤ 9223372036854775807 then (say 256 0 m xs, 0) else (0, 10)
  | [], m, _, _, _, h1, h2 => by rw [runB, say, if_pos ⟨h1, h2⟩]
  | c :: r, m, hx, p0, p1, h1, h2 => by
    have h0 := hx 0
    simp at h0
    have hr : Byt r := fun j => by simpa using hx (j + 1)
    rw [runB, say, Int.sub_zero]
    by_cases h : m / 36028797018963968 = s
    · rw [if_pos h]
      exact runB_say s hs r _ hr (fun e => by have := p0 e; omega) (fun e => by have := p1 e; omega) (by omega) (by omega)
    · rw [if_neg h]
      rcases hs with rfl | rfl
      · have := say_high r (m * 256 + c) hr (by have := p0 rfl; omega)
        rw [if_neg (by omega)]
      · have := say_low r (m * 256 + c) hr (by have := p1 rfl; omega)
        rw [if_neg (by omega)]
theorem runB_base (s : Int) (hs : s = 0 ∨ s = -1) (xs : List Int) (hx : Byt xs) : baseS s xs = runB s s xs := by
  rw [runB_say s hs xs s hx (by omega) (by omega) (by omega) (by omega)]; rfl
theorem say_split : ∀ (xs : List Int) (m : Int), say 256 0 m xs = m * 256 ^ xs.length + say 256 0 0 xs
  | [], m => by simp [say]
  | c :: r, m => by
    rw [say, say, say_split r (m * 256 + (c - 0)), say_split r (0 * 256 + (c - 0)), List.length_cons, Int.pow_succ, Int.add_mul, Int.mul_assoc, Int.mul_comm 256 (256 ^ r.length)]
    simp [Int.add_assoc]
theorem say_zero : ∀ (xs : List Int), Byt xs → 0 ≤ say 256 0 0 xs ∧ say 256 0 0 xs < 256 ^ xs.length
  | [], _ => by simp [say]
  | c :: r, hx => by
    have h0 := hx 0
    simp at h0
    have ih := say_zero r (fun j => by simpa using hx (j + 1))
    rw [say, say_split, List.length_cons, Int.pow_succ]
    have hp : (0 : Int) < 256 ^ r.length := Int.pow_pos (by omega)
    have h1 : (0 * 256 + (c - 0)) * 256 ^ r.length ≥ 0 := Int.mul_nonneg (by omega) (by omega)
    have h2 : (0 * 256 + (c - 0)) * 256 ^ r.length ≤ 255 * 256 ^ r.length := Int.mul_le_mul_of_nonneg_right (by omega) (by omega)
    constructor <;> omega
theorem pow256_mono {a b : Nat} (h : a ≤ b) : (256 : Int) ^ a ≤ 256 ^ b := by
  have h2 : ((256 ^ a : Nat) : Int) ≤ ((256 ^ b : Nat) : Int) := Int.ofNat_le.2 (Nat.pow_le_pow_right (n := 256) (by omega) h)
  rw [Int.natCast_pow, Int.natCast_pow] at h2
  exact h2
/-- More than eight bytes: the first one is the sign's, or the number is too great. -/
theorem runB_long (s : Int) (hs : s = 0 ∨ s = -1) (c : Int) (r : List Int) (hx : Byt (c :: r)) (hl : 8 ≤ r.length) (hc : c ≠ s % 256) : runB s s (c :: r) = (0, 10) := by
  rw [runB_say s hs _ s hx (by omega) (by omega) (by omega) (by omega), say, say_split]
  have h0 := hx 0
  simp at h0
  have hz := say_zero r (fun j => by simpa using hx (j + 1))
  have hp := pow256_mono hl
  have hp8 : (256 : Int) ^ 8 = 18446744073709551616 := by decide
  rw [if_neg]
  rcases hs with rfl | rfl
  · have h1 : (0 * 256 + (c - 0)) * 256 ^ r.length ≥ 1 * 256 ^ r.length := Int.mul_le_mul_of_nonneg_right (by omega) (by omega)
    omega
  · have h1 : (-1 * 256 + (c - 0)) * 256 ^ r.length ≤ -2 * 256 ^ r.length := Int.mul_le_mul_of_nonneg_right (by omega) (by omega)
    omega
theorem runB_lead (s : Int) (hs : s = 0 ∨ s = -1) (r : List Int) : runB s s (s % 256 :: r) = runB s s r := by
  rw [runB, if_pos (by omega), show s * 256 + s % 256 = s from by omega]
theorem runB_eight (s : Int) (hs : s = 0 ∨ s = -1) (c : Int) (r : List Int) (hx : Byt (c :: r)) (hl : r.length = 7) :
    if (s = -1) = (128 ≤ c) then (runB s s (c :: r)).2 = 0 else runB s s (c :: r) = (0, 10) := by
  rw [runB_say s hs _ s hx (by omega) (by omega) (by omega) (by omega), say, say_split]
  have h0 := hx 0
  simp at h0
  have hz := say_zero r (fun j => by simpa using hx (j + 1))
  rw [hl] at hz ⊢
  have hp7 : (256 : Int) ^ 7 = 72057594037927936 := by decide
  rw [hp7] at hz ⊢
  rcases hs with rfl | rfl
  · by_cases h : 128 ≤ c
    · rw [if_neg (by simp [h]), if_neg (by omega)]
    · rw [if_pos (by simp; omega), if_pos (by omega)]
  · by_cases h : 128 ≤ c
    · rw [if_pos (by simp [h]), if_pos (by omega)]
    · rw [if_neg (by simp; omega), if_neg (by omega)]
theorem runB_short (s : Int) (hs : s = 0 ∨ s = -1) (xs : List Int) (hx : Byt xs) (hl : xs.length < 8) : (runB s s xs).2 = 0 := by
  rw [runB_say s hs _ s hx (by omega) (by omega) (by omega) (by omega), say_split]
  have hz := say_zero xs hx
  have hp := pow256_mono (show xs.length ≤ 7 by omega)
  have hp7 : (256 : Int) ^ 7 = 72057594037927936 := by decide
  rw [hp7] at hp
  have hq : (0 : Int) < 256 ^ xs.length := Int.pow_pos (by omega)
  rw [if_pos]
  rcases hs with rfl | rfl <;> constructor <;> omega
theorem run_all (p : Int → Bool) : ∀ xs : List Int, (run p xs = xs.length) = (xs.all p = true)
  | [] => by simp [run]
  | c :: r => by
    have ih := run_all p r
    rw [run, List.all_cons, List.length_cons]
    by_cases h : p c = true
    · simp only [h, if_true, Bool.true_and, Nat.add_right_cancel_iff]; exact ih
    · simp only [h, if_false, Bool.false_and, Bool.false_eq_true]
      simp
theorem runB_err (s : Int) : ∀ (xs : List Int) (m : Int), ((runB s m xs).2 == 0) = false → runB s m xs = (0, 10)
  | [], m, h => by simp [runB] at h
  | c :: r, m, h => by
    rw [runB] at h ⊢
    by_cases hq : m / 36028797018963968 = s
    · rw [if_pos hq] at h ⊢; exact runB_err s r _ h
    · rw [if_neg hq]
theorem oct_loop {xs : List Int} {i1 d : Nat} (h1 : run (· == 32) xs = i1) (h2 : run isO (xs.drop i1) = d) :
    octG xs = if d = 0 ∨ i1 + d + run isB (xs.drop (i1 + d)) < xs.length then (0, 3) else (say 8 48 0 ((xs.drop i1).take d), 0) := by
  have hl : i1 + d ≤ xs.length := by
    have a := run_le (· == 32) xs
    have b := run_le isO (xs.drop i1)
    rw [List.length_drop] at b
    omega
  have ha := run_all isB (xs.drop (i1 + d))
  have hle := run_le isB (xs.drop (i1 + d))
  rw [List.length_drop] at ha hle
  unfold octG
  simp only [h1, h2, List.drop_drop]
  by_cases hd : d = 0
  · simp [hd]
  · by_cases hA : (xs.drop (i1 + d)).all isB = true
    · rw [hA] at ha
      simp only [eq_iff_iff, iff_true] at ha
      simp only [hd, hA, false_or, Bool.true_eq_false, if_false]
      rw [if_neg (by omega)]
    · rw [Bool.not_eq_true] at hA
      rw [hA] at ha
      simp only [Bool.false_eq_true, eq_iff_iff, iff_false] at ha
      rw [if_pos (Or.inr hA), if_pos (Or.inr (by omega))]
theorem getD_drop (xs : List Int) (i j : Nat) : (xs.drop i).getD j 0 = xs.getD (i + j) 0 := by simp [List.getD, List.getElem?_drop]
theorem runB_in (s : Int) : ∀ (xs : List Int) (m : Int), Byt xs → -9223372036854775808 ≤ m → m ≤ 9223372036854775807 → (s = 0 ∨ s = -1) → -9223372036854775808 ≤ (runB s m xs).1 ∧ (runB s m xs).1 ≤ 9223372036854775807
  | [], m, _, h1, h2, _ => ⟨h1, h2⟩
  | c :: r, m, hx, h1, h2, hs => by
    have h0 := hx 0
    simp at h0
    rw [runB]
    by_cases hq : m / 36028797018963968 = s
    · rw [if_pos hq]; exact runB_in s r _ (fun j => by simpa using hx (j + 1)) (by omega) (by omega) hs
    · rw [if_neg hq]; simp
theorem say8_bd : ∀ (ys : List Int) (m : Int) (k : Nat), (∀ j, j < ys.length → isO (ys.getD j 0) = true) → 0 ≤ m → m < 8 ^ k → 0 ≤ say 8 48 m ys ∧ say 8 48 m ys < 8 ^ (k + ys.length)
  | [], m, k, _, h1, h2 => ⟨h1, h2⟩
  | c :: r, m, k, h, h1, h2 => by
    have h0 := isO_bd (h 0 (by simp))
    simp at h0
    rw [say]
    have := say8_bd r (m * 8 + (c - 48)) (k + 1) (fun j hj => by simpa using h (j + 1) (by simpa using hj)) (by omega) (by rw [Int.pow_succ]; omega)
    rw [List.length_cons]
    rwa [show k + (r.length + 1) = k + 1 + r.length from by omega]
theorem octG_in (xs : List Int) (hl : xs.length ≤ 12) : 0 ≤ (octG xs).1 ∧ (octG xs).1 ≤ 68719476736 := by
  unfold octG
  simp only
  split
  · simp
  · have hle := run_le isO (xs.drop (run (· == 32) xs))
    have h := say8_bd ((xs.drop (run (· == 32) xs)).take (run isO (xs.drop (run (· == 32) xs)))) 0 0 (fun j hj => by
      rw [List.length_take] at hj
      have := run_lt isO (xs.drop (run (· == 32) xs)) j (by omega)
      simpa [List.getD, List.getElem?_take, show j < run isO (xs.drop (run (· == 32) xs)) from by omega] using this) (by omega) (by simp)
    have hk : 0 + ((xs.drop (run (· == 32) xs)).take (run isO (xs.drop (run (· == 32) xs)))).length ≤ 12 := by
      rw [List.length_take, List.length_drop]; omega
    have hp := pow8 _ hk
    omega
theorem getS_in (xs : List Int) (hx : Byt xs) : -9223372036854775808 ≤ (getS xs).1 ∧ (getS xs).1 ≤ 9223372036854775807 := by
  unfold getS
  split
  · simp
  · rename_i hw
    have hl : xs.length ≤ 12 := by simp [wide] at hw; omega
    split
    · rw [runB_base 0 (Or.inl rfl) _ (hx.drop 1)]
      exact runB_in 0 _ 0 (hx.drop 1) (by omega) (by omega) (Or.inl rfl)
    · split
      · rw [runB_base (-1) (Or.inr rfl) _ (hx.drop 1)]
        exact runB_in (-1) _ (-1) (hx.drop 1) (by omega) (by omega) (Or.inr rfl)
      · have := octG_in xs hl; omega
theorem byt_putS (n w : Int) : Byt (putS n w).1 := by
  unfold putS
  split
  · exact Byt.nil
  · split
    · exact (byt_digs8 _ _).append (Byt.cons (by omega) Byt.nil)
    · unfold putB
      split
      · refine Byt.cons ?_ (byt_digs256 _ _)
        split <;> omega
      · exact Byt.nil
theorem len_putS (n w : Int) : (putS n w).1.length ≤ 12 := by
  unfold putS
  split
  · simp
  · rename_i hw
    have : 8 ≤ w ∧ w ≤ 12 := by simp [wide] at hw; omega
    split
    · simp [len_digs]; omega
    · unfold putB
      split
      · simp [len_digs]; omega
      · simp
theorem len_octS (n d : Int) : (octS n d).1.length ≤ 20 := by
  unfold octS
  split
  · simp
  · split
    · simp
    · simp [len_digs]; omega
theorem put_bad (n k : Int) (h0 : -9223372036854775808 ≤ n) (h1 : n ≤ 9223372036854775807) : (putS n k).2 ≠ 0 → (putS n k).1 = [] ∧ (k = 12 → (putS n k).2 ≠ 10) := by
  unfold putS
  split
  · exact fun _ => ⟨rfl, fun _ => by simp⟩
  · split
    · exact fun h => absurd rfl h
    · unfold putB
      split
      · exact fun h => absurd rfl h
      · rename_i hb
        refine fun _ => ⟨rfl, fun hk => absurd ?_ hb⟩
        subst hk
        have e : (256 : Int) ^ ((12 : Int) - 1).toNat = 309485009821345068724781056 := by decide
        rw [e]
        unfold sgn
        split <;> omega
theorem digs_isO (n : Int) : ∀ k, (digs 8 48 n k).all isO = true
  | 0 => rfl
  | k + 1 => by
    rw [digs, List.all_cons, digs_isO n k, Bool.and_true]
    simp only [isO, Bool.and_eq_true, decide_eq_true_eq]
    omega
theorem run_app (p : Int → Bool) : ∀ (xs ys : List Int), xs.all p = true → run p (xs ++ ys) = xs.length + run p ys
  | [], ys, _ => by simp
  | c :: r, ys, h => by
    rw [List.all_cons, Bool.and_eq_true] at h
    rw [List.cons_append, run, if_pos h.1, run_app p r ys h.2, List.length_cons]
    omega
theorem octG_back (n : Int) (d : Nat) (hd : 1 ≤ d) (hd2 : d ≤ 20) (h0 : 0 ≤ n) (h1 : n ≤ most d) : octG (digs 8 48 n d ++ [0]) = (n, 0) := by
  obtain ⟨k, rfl⟩ : ∃ k, d = k + 1 := ⟨d - 1, by omega⟩
  have r0 : run (· == 32) (digs 8 48 n (k + 1) ++ [0]) = 0 := by
    rw [digs, List.cons_append, run, if_neg]
    simp only [beq_iff_eq]
    omega
  have r1 : run isO (digs 8 48 n (k + 1) ++ [0]) = k + 1 := by
    rw [run_app isO _ _ (digs_isO n _), len_digs]; rfl
  unfold octG
  simp only [r0, List.drop_zero, r1]
  rw [if_neg]
  · rw [List.take_left' (len_digs _ _ _ _)]
    rw [say_digs 8 48 (by omega)]
    rw [most_mid _ (by omega) (by omega)] at h1
    have e : (2 : Int) ^ (3 * ((k + 1 : Nat) : Int)).toNat = 8 ^ (k + 1) := by
      rw [show (3 * ((k + 1 : Nat) : Int)).toNat = 3 * (k + 1) from by omega, Int.pow_mul]
      rfl
    rw [e] at h1
    exact (Int.ediv_eq_zero_of_lt h0 (by omega)).symm
  · rw [List.drop_left' (len_digs _ _ _ _)]
    simp [isB]
theorem put_good (n k : Int) (h0 : -9223372036854775808 ≤ n) (h1 : n ≤ 9223372036854775807) : (putS n k).2 = 0 → ((putS n k).1.length : Int) = k ∧ getS (putS n k).1 = (n, 0) := by
  unfold putS
  split
  · exact fun h => by simp at h
  · rename_i hw
    have hw2 : wide k = true := by simpa using hw
    have hk : k = 8 ∨ k = 12 := by simpa [wide] using hw2
    obtain ⟨d, hd, hkd⟩ : ∃ d : Nat, (k - 1).toNat = d ∧ k = (d : Int) + 1 := ⟨(k - 1).toNat, rfl, by omega⟩
    rw [hd]
    split
    · rename_i hp
      have hp2 : 0 ≤ n ∧ n ≤ most (d : Int) := by
        subst hkd
        simpa [plain, hw2, Int.add_sub_cancel] using hp
      intro _
      have hl : ((digs 8 48 n d ++ [0]).length : Int) = k := by rw [List.length_append, len_digs, hkd]; rfl
      refine ⟨hl, ?_⟩
      have hg := octG_back n d (by omega) (by omega) hp2.1 hp2.2
      obtain ⟨j, rfl⟩ : ∃ j, d = j + 1 := ⟨d - 1, by omega⟩
      have hb : 48 ≤ (digs 8 48 n (j + 1) ++ [0]).getD 0 0 ∧ (digs 8 48 n (j + 1) ++ [0]).getD 0 0 ≤ 55 := by
        rw [digs, List.cons_append, List.getD_cons_zero]; omega
      unfold getS
      simp only [hl, hw2]
      rw [if_neg (by simp), if_neg (by omega), if_neg (by omega), hg]
    · unfold putB
      split
      · rename_i hq
        intro _
        have hl : (((if n < 0 then 255 else 128) :: digs 256 0 n d).length : Int) = k := by rw [List.length_cons, len_digs, hkd]; omega
        refine ⟨hl, ?_⟩
        unfold getS
        simp only [hl, hw2, List.getD_cons_zero, List.drop_succ_cons, List.drop_zero]
        rw [if_neg (by simp)]
        have hs : ∀ s, s = n / 256 ^ d → baseS s (digs 256 0 n d) = (n, 0) := fun s h => by
          unfold baseS
          rw [say_digs 256 0 (by omega) d n s h, if_pos ⟨h0, h1⟩]
        by_cases hn : n < 0
        · simp only [hn, if_true]
          rw [if_neg (by omega)]
          exact hs _ (by rw [hq]; simp [sgn, hn])
        · simp only [hn, if_false, if_true]
          exact hs _ (by rw [hq]; simp [sgn, hn])
      · exact fun h => by simp at h
end Go.Proofs.YtjofdgjcbjdhbaaGreatDoor.Nf
/- PLAIN MATHEMATICS OF LAYER 3: what hsum's calls answer, as functions on lists of numbers. No Go text is named. -/
namespace Go.Proofs.YtjofdgjcbjdhbaaGreatDoor.Hs
open Go.Proofs.YtjofdgjcbjdhbaaGreatDoor

/-- The sum of the first k bytes, the eight from 148 on as 32 each. -/
def psum (xs : List Int) : Nat → Int
  | 0 => 0
  | k + 1 => psum xs k + (if 148 ≤ k ∧ k < 156 then 32 else xs.getD k 0)
def sumS (xs : List Int) : Int × Int := if xs.length = 512 then (psum xs 512, 0) else (0, 1)
def putS (xs : List Int) : List Int × Int :=
  if xs.length = 512 then (xs.take 148 ++ (Nf.digs 8 48 (psum xs 512) 6 ++ [0, 32]) ++ xs.drop 156, 0) else ([], 1)
/-- The eight bytes. -/
def field (xs : List Int) : List Int := (xs.drop 148).take 8
def toldS (xs : List Int) : Int × Int :=
  if xs.length = 512 then
    (if (Nf.getS (field xs)).2 ≠ 0 then (0, (Nf.getS (field xs)).2) else if (Nf.getS (field xs)).1 < 0 ∨ 1048576 < (Nf.getS (field xs)).1 then (0, 3) else ((Nf.getS (field xs)).1, 0))
  else (0, 1)
def checkS (xs : List Int) : Int :=
  if (toldS xs).2 ≠ 0 then (toldS xs).2 else if (toldS xs).1 = psum xs 512 then 0 else 9
def zeroS (xs : List Int) : Bool := decide (xs.length = 512) && xs.all (· == 0)

theorem psum_bd (xs : List Int) (hx : Byt xs) : ∀ k, 0 ≤ psum xs k ∧ psum xs k ≤ 255 * k
  | 0 => ⟨Int.le_refl _, Int.le_refl _⟩
  | k + 1 => by
    have h := psum_bd xs hx k
    have hk := hx k
    rw [psum]
    split <;> omega
theorem psum_congr (xs ys : List Int) : ∀ k, (∀ j, j < k → ¬ (148 ≤ j ∧ j < 156) → xs.getD j 0 = ys.getD j 0) → psum xs k = psum ys k
  | 0, _ => rfl
  | k + 1, h => by
    rw [psum, psum, psum_congr xs ys k fun j hj hn => h j (by omega) hn]
    split
    · rfl
    · rename_i hn
      rw [h k (by omega) hn]
theorem getD_set (xs : List Int) (i : Nat) (y : Int) (j : Nat) (hi : i < xs.length) : (xs.set i y).getD j 0 = if i = j then y else xs.getD j 0 := by
  simp only [List.getD, List.getElem?_set]
  by_cases h : i = j
  · subst h; simp [hi]
  · simp [h]
theorem psum_set (xs : List Int) (i : Nat) (y : Int) (hi : i < xs.length) : ∀ k, psum (xs.set i y) k = if i < k ∧ ¬ (148 ≤ i ∧ i < 156) then psum xs k - xs.getD i 0 + y else psum xs k
  | 0 => by simp [psum]
  | k + 1 => by
    rw [psum, psum, psum_set xs i y hi k, getD_set xs i y k hi]
    by_cases hc : 148 ≤ i ∧ i < 156
    · simp only [hc, and_self, not_true_eq_false, and_false, if_false]
      by_cases hk : i = k
      · subst hk; simp [hc]
      · simp [hk]
    · simp only [hc, not_false_eq_true, and_true]
      by_cases hk : i = k
      · subst hk
        simp [hc]
      · simp only [hk, if_false]
        by_cases hlt : i < k
        · simp only [hlt, show i < k + 1 from by omega, if_true]; omega
        · simp only [hlt, show ¬ i < k + 1 from by omega, if_false]
theorem len_put (xs : List Int) (h : xs.length = 512) : (putS xs).1.length = 512 := by
  unfold putS
  rw [if_pos h]
  simp [h, Nf.len_digs]
theorem getD_put (xs : List Int) (h : xs.length = 512) (j : Nat) (hj : ¬ (148 ≤ j ∧ j < 156)) : (putS xs).1.getD j 0 = xs.getD j 0 := by
  unfold putS
  rw [if_pos h]
  have hd := Nf.len_digs 8 48 (psum xs 512) 6
  simp only [List.getD]
  by_cases h1 : j < 148
  · rw [List.getElem?_append_left (by simp [h, hd]; omega), List.getElem?_append_left (by simp [h]; omega), List.getElem?_take, if_pos h1]
  · have e : (xs.take 148 ++ (Nf.digs 8 48 (psum xs 512) 6 ++ [0, 32])).length = 156 := by simp [h, hd]
    rw [List.getElem?_append_right (by rw [e]; omega), List.getElem?_drop, e, show 156 + (j - 156) = j from by omega]
theorem field_put (xs : List Int) (h : xs.length = 512) : field (putS xs).1 = Nf.digs 8 48 (psum xs 512) 6 ++ [0, 32] := by
  unfold field putS
  rw [if_pos h]
  have hd := Nf.len_digs 8 48 (psum xs 512) 6
  simp only [List.append_assoc]
  rw [List.drop_append_of_le_length (by simp [h]), List.drop_take]
  simp
  rw [List.take_append, hd]
  simp [List.take_of_length_le, hd]
theorem byt_put (xs : List Int) (hx : Byt xs) : Byt (putS xs).1 := by
  unfold putS
  split
  · refine Byt.append (Byt.append ?_ (Byt.append (Nf.byt_digs8 _ _) (Byt.cons (by omega) (Byt.cons (by omega) Byt.nil)))) (hx.drop _)
    intro j
    simp only [List.getD, List.getElem?_take]
    split
    · exact hx j
    · simp
  · exact Byt.nil
theorem octG_back2 (n : Int) (h0 : 0 ≤ n) (h1 : n < 262144) : Nf.octG (Nf.digs 8 48 n 6 ++ [0, 32]) = (n, 0) := by
  have r0 : Nf.run (· == 32) (Nf.digs 8 48 n 6 ++ [0, 32]) = 0 := by
    rw [Nf.digs, List.cons_append, Nf.run, if_neg]
    simp only [beq_iff_eq]
    omega
  have r1 : Nf.run Nf.isO (Nf.digs 8 48 n 6 ++ [0, 32]) = 6 := by
    rw [Nf.run_app Nf.isO _ _ (Nf.digs_isO n _), Nf.len_digs]; rfl
  unfold Nf.octG
  simp only [r0, List.drop_zero, r1]
  rw [if_neg]
  · rw [List.take_left' (Nf.len_digs _ _ _ _)]
    rw [Nf.say_digs 8 48 (by omega)]
    exact (Int.ediv_eq_zero_of_lt h0 (by omega)).symm
  · rw [List.drop_left' (Nf.len_digs _ _ _ _)]
    simp [Nf.isB]
theorem getS_back2 (n : Int) (h0 : 0 ≤ n) (h1 : n < 262144) : Nf.getS (Nf.digs 8 48 n 6 ++ [0, 32]) = (n, 0) := by
  have hg := octG_back2 n h0 h1
  have hb : 48 ≤ (Nf.digs 8 48 n 6 ++ [0, 32]).getD 0 0 ∧ (Nf.digs 8 48 n 6 ++ [0, 32]).getD 0 0 ≤ 55 := by
    rw [Nf.digs, List.cons_append, List.getD_cons_zero]; omega
  have hw : Nf.wide ((Nf.digs 8 48 n 6 ++ [0, 32]).length : Int) = true := by
    rw [List.length_append, Nf.len_digs]; rfl
  unfold Nf.getS
  rw [hw, if_neg (by simp), if_neg (by omega), if_neg (by omega), hg]
/-- What is laid tells its sum, whatever byte besides is turned. -/
theorem told_field (xs ys : List Int) (_h : xs.length = 512) (hy : ys.length = 512) (hf : field ys = Nf.digs 8 48 (psum xs 512) 6 ++ [0, 32]) (hx : Byt xs) : toldS ys = (psum xs 512, 0) := by
  have hb := psum_bd xs hx 512
  unfold toldS
  rw [if_pos hy, hf, getS_back2 _ hb.1 (by omega)]
  simp only [ne_eq, not_true_eq_false, if_false]
  rw [if_neg (by omega)]
theorem check_put (xs : List Int) (h : xs.length = 512) (hx : Byt xs) : checkS (putS xs).1 = 0 := by
  unfold checkS
  rw [told_field xs _ h (len_put xs h) (field_put xs h) hx]
  simp only [ne_eq, not_true_eq_false, if_false]
  rw [if_pos (psum_congr _ _ _ fun j _ hn => (getD_put xs h j hn).symm)]
theorem put_put (xs : List Int) (h : xs.length = 512) : putS (putS xs).1 = putS xs := by
  have h1 := len_put xs h
  have hs : psum (putS xs).1 512 = psum xs 512 := psum_congr _ _ _ fun j _ hn => getD_put xs h j hn
  have hd := Nf.len_digs 8 48 (psum xs 512) 6
  generalize hp : (putS xs).1 = p at *
  have e : putS xs = (p, 0) := by rw [← hp]; unfold putS; rw [if_pos h]
  unfold putS at hp
  rw [if_pos h] at hp
  rw [e]
  unfold putS
  rw [if_pos h1, hs]
  refine Prod.ext ?_ rfl
  simp only
  have e1 : p.take 148 = xs.take 148 := by rw [← hp]; simp only [List.append_assoc]; rw [List.take_append_of_le_length (by simp [h])]; simp [List.take_take]
  have e2 : p.drop 156 = xs.drop 156 := by
    rw [← hp, List.drop_append, List.drop_of_length_le (by simp [h, hd])]
    simp [h, hd]
  rw [e1, e2, ← hp]
theorem check_set (xs : List Int) (h : xs.length = 512) (hx : Byt xs) (i : Nat) (hi : i < 512) (hn : ¬ (148 ≤ i ∧ i < 156)) (y : Int) (hy : y ≠ (putS xs).1.getD i 0) : checkS ((putS xs).1.set i y) = 9 := by
  have hl := len_put xs h
  have hf : field ((putS xs).1.set i y) = field (putS xs).1 := by
    unfold field
    apply List.ext_getElem?
    intro j
    simp only [List.getElem?_take, List.getElem?_drop]
    split
    · rw [List.getElem?_set, if_neg (by omega)]
    · rfl
  unfold checkS
  rw [told_field xs _ h (by rw [List.length_set, hl]) (by rw [hf, field_put xs h]) hx]
  simp only [ne_eq, not_true_eq_false, if_false]
  rw [if_neg]
  rw [psum_set _ i y (by omega) 512, if_pos ⟨hi, hn⟩]
  have hs : psum (putS xs).1 512 = psum xs 512 := psum_congr _ _ _ fun j _ hn => getD_put xs h j hn
  rw [hs]
  omega
theorem oct6 (xs : List Int) (hx : Byt xs) : Nf.octS (psum xs 512) 6 = (Nf.digs 8 48 (psum xs 512) 6, 0) := by
  have hb := psum_bd xs hx 512
  have hm : Nf.most 6 = 262143 := by decide
  unfold Nf.octS
  rw [if_neg (by omega), if_neg (by omega)]
  rfl
/-- A block of some bytes, over and over. -/
def blk (xs : List Int) : List Int := (List.range 512).map fun i => if 0 < xs.length then xs.getD (i % xs.length) 0 else 0
theorem len_blk (xs : List Int) : (blk xs).length = 512 := by simp [blk]
theorem byt_blk (xs : List Int) (hx : Byt xs) : Byt (blk xs) := by
  intro j
  unfold blk
  by_cases h : j < 512
  · simp only [List.getD, List.getElem?_map, List.getElem?_range h, Option.map_some, Option.getD_some]
    split
    · exact hx _
    · simp
  · simp [List.getD, h]
end Go.Proofs.YtjofdgjcbjdhbaaGreatDoor.Hs
