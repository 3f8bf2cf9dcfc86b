/- PLAIN MATHEMATICS OF LAYER 11 (check): a register of 32 bits behind bytes, the sum, its four bytes; why four turned bytes in a row are found. No Go text is named. -/
import Derived.Test.YtjiafpmcibokbaaBase
import Derived.Laws.BitsAllLaws
namespace Go.Proofs.Ytjiafpmcibokbaa
open Go.RowKit
set_option linter.unusedVariables false
namespace Ck
/-- One turn of the register. -/
def T (r : Nat) : Nat := if r % 2 = 1 then (r / 2) ^^^ 3988292384 else r / 2
def it : Nat → Nat → Nat
  | 0, r => r
  | k + 1, r => it k (T r)
/-- The register behind a byte. -/
def step (r c : Nat) : Nat := it 8 (r ^^^ c)
/-- The register behind bytes. -/
def reg (r : Nat) : List Int → Nat
  | [] => r
  | x :: xs => reg (step r x.toNat) xs
def sum (xs : List Int) : Nat := 4294967295 - reg 4294967295 xs
/-- A number's four bytes, the lowest first. -/
def lay (s : Nat) : List Int := [((s % 256 : Nat) : Int), ((s / 256 % 256 : Nat) : Int), ((s / 65536 % 256 : Nat) : Int), ((s / 16777216 : Nat) : Int)]
def sealed (xs : List Int) : List Int := xs ++ lay (sum xs)
def ok (xs : List Int) : Bool := decide (xs.drop (xs.length - 4) = lay (sum (xs.take (xs.length - 4))))
def err (xs : List Int) : Int := if xs.length < 4 then 4 else if ok xs then 0 else 9
def open_ (xs : List Int) : List Int := if err xs = 0 then xs.take (xs.length - 4) else []

theorem T_odd {r : Nat} (h : r % 2 = 1) : T r = (r / 2) ^^^ 3988292384 := if_pos h
theorem T_even {r : Nat} (h : r % 2 = 0) : T r = r / 2 := if_neg (by omega)
theorem T_lt {r : Nat} (h : r < 4294967296) : T r < 4294967296 := by
  unfold T
  split
  · exact Nat.xor_lt_two_pow (n := 32) (by omega) (by omega)
  · omega
theorem T_double (x : Nat) : T (2 * x) = x := by
  unfold T
  rw [if_neg (by omega)]
  omega
theorem xor_mod (a b : Nat) : (a ^^^ b) % 2 = (a + b) % 2 := by
  have h := Nat.testBit_xor a b 0
  simp only [Nat.testBit_zero] at h
  rcases Nat.mod_two_eq_zero_or_one a with ha | ha <;> rcases Nat.mod_two_eq_zero_or_one b with hb | hb <;> rcases Nat.mod_two_eq_zero_or_one (a ^^^ b) with hc | hc <;> simp [ha, hb, hc] at h <;> omega
theorem xor_half (a b : Nat) : (a ^^^ b) / 2 = a / 2 ^^^ b / 2 := by
  apply Nat.eq_of_testBit_eq
  intro i
  rw [Nat.testBit_xor, Nat.testBit_div_two, Nat.testBit_div_two, Nat.testBit_div_two, Nat.testBit_xor]
theorem T_xor (a b : Nat) : T (a ^^^ b) = T a ^^^ T b := by
  have h1 := xor_mod a b
  have h2 := xor_half a b
  unfold T
  rw [h2]
  rcases Nat.mod_two_eq_zero_or_one a with ha | ha <;> rcases Nat.mod_two_eq_zero_or_one b with hb | hb
  · rw [if_neg (by omega), if_neg (by omega), if_neg (by omega)]
  · rw [if_pos (by omega), if_neg (by omega), if_pos hb, Nat.xor_assoc]
  · rw [if_pos (by omega), if_pos ha, if_neg (by omega), Nat.xor_assoc, Nat.xor_assoc, Nat.xor_comm 3988292384]
  · rw [if_neg (by omega), if_pos ha, if_pos hb]
    rw [Nat.xor_assoc, Nat.xor_comm (b / 2), ← Nat.xor_assoc 3988292384, Nat.xor_self, Nat.zero_xor]
theorem xor_top {x : Nat} (h : x < 2147483648) : 2147483648 ≤ x ^^^ 3988292384 := by
  have h1 : (x ^^^ 3988292384).testBit 31 = true := by
    rw [Nat.testBit_xor, Nat.testBit_lt_two_pow (by omega : x < 2 ^ 31)]
    decide
  exact Nat.ge_two_pow_of_testBit h1
theorem xor_can {a b c : Nat} (h : a ^^^ c = b ^^^ c) : a = b := by
  have := congrArg (fun x => x ^^^ c) h
  simpa [Nat.xor_assoc] using this
theorem T_inj {r s : Nat} (hr : r < 4294967296) (hs : s < 4294967296) (h : T r = T s) : r = s := by
  unfold T at h
  rcases Nat.mod_two_eq_zero_or_one r with ha | ha <;> rcases Nat.mod_two_eq_zero_or_one s with hb | hb
  · rw [if_neg (by omega), if_neg (by omega)] at h
    omega
  · rw [if_neg (by omega), if_pos hb] at h
    have := xor_top (x := s / 2) (by omega)
    omega
  · rw [if_pos ha, if_neg (by omega)] at h
    have := xor_top (x := r / 2) (by omega)
    omega
  · rw [if_pos ha, if_pos hb] at h
    have := xor_can h
    omega
theorem it_lt (k : Nat) : ∀ {r : Nat}, r < 4294967296 → it k r < 4294967296 := by
  induction k with
  | zero => exact fun h => h
  | succ k ih => exact fun h => ih (T_lt h)
theorem it_xor (k : Nat) : ∀ a b : Nat, it k (a ^^^ b) = it k a ^^^ it k b := by
  induction k with
  | zero => exact fun _ _ => rfl
  | succ k ih => intro a b; show it k (T (a ^^^ b)) = it k (T a) ^^^ it k (T b); rw [T_xor, ih]
theorem it_inj (k : Nat) : ∀ {r s : Nat}, r < 4294967296 → s < 4294967296 → it k r = it k s → r = s := by
  induction k with
  | zero => exact fun _ _ h => h
  | succ k ih => exact fun hr hs h => T_inj hr hs (ih (T_lt hr) (T_lt hs) h)
theorem it_add (k : Nat) : ∀ (j r : Nat), it j (it k r) = it (k + j) r := by
  induction k with
  | zero => intro j r; rw [Nat.zero_add]; rfl
  | succ k ih => intro j r; rw [show k + 1 + j = (k + j) + 1 from by omega]; exact ih j (T r)
theorem it_snoc (k r : Nat) : it (k + 1) r = T (it k r) := (it_add k 1 r).symm
theorem it_byte (x : Nat) : it 8 (256 * x) = x := by
  show T (T (T (T (T (T (T (T (256 * x)))))))) = x
  rw [show 256 * x = 2 * (128 * x) from by omega, T_double, show 128 * x = 2 * (64 * x) from by omega, T_double, show 64 * x = 2 * (32 * x) from by omega, T_double, show 32 * x = 2 * (16 * x) from by omega, T_double,
    show 16 * x = 2 * (8 * x) from by omega, T_double, show 8 * x = 2 * (4 * x) from by omega, T_double, show 4 * x = 2 * (2 * x) from by omega, T_double, T_double]
theorem step_lt {r c : Nat} (hr : r < 4294967296) (hc : c < 256) : step r c < 4294967296 := it_lt 8 (Nat.xor_lt_two_pow (n := 32) (by omega) (by omega))
theorem step_inj {r s c : Nat} (hr : r < 4294967296) (hs : s < 4294967296) (hc : c < 256) (h : step r c = step s c) : r = s :=
  xor_can (it_inj 8 (Nat.xor_lt_two_pow (n := 32) (by omega) (by omega)) (Nat.xor_lt_two_pow (n := 32) (by omega) (by omega)) h)
theorem byt_nat {xs : List Int} (h : Byt xs) (j : Nat) : (xs.getD j 0).toNat < 256 := by have := h j; omega
theorem Byt.head {x : Int} {xs : List Int} (h : Byt (x :: xs)) : x.toNat < 256 := by have := h 0; simp at this; omega
theorem Byt.tail {x : Int} {xs : List Int} (h : Byt (x :: xs)) : Byt xs := fun j => by have := h (j + 1); simpa using this
theorem reg_lt : ∀ {xs : List Int} {r : Nat}, Byt xs → r < 4294967296 → reg r xs < 4294967296
  | [], _, _, h => h
  | x :: xs, r, hb, h => reg_lt (xs := xs) (r := step r x.toNat) (Byt.tail hb) (step_lt h (Byt.head hb))
theorem reg_inj : ∀ {xs : List Int} {r s : Nat}, Byt xs → r < 4294967296 → s < 4294967296 → reg r xs = reg s xs → r = s
  | [], _, _, _, _, _, h => h
  | x :: xs, r, s, hb, hr, hs, h => step_inj hr hs (Byt.head hb) (reg_inj (xs := xs) (r := step r x.toNat) (s := step s x.toNat) (Byt.tail hb) (step_lt hr (Byt.head hb)) (step_lt hs (Byt.head hb)) h)
theorem reg_append : ∀ (xs : List Int) (r : Nat) (ys : List Int), reg r (xs ++ ys) = reg (reg r xs) ys
  | [], _, _ => rfl
  | _ :: xs, _, ys => reg_append xs _ ys
theorem reg_snoc (xs : List Int) (r : Nat) (x : Int) : reg r (xs ++ [x]) = step (reg r xs) x.toNat := reg_append xs r [x]
theorem join {a b : Nat} (ha : a < 256) : a ^^^ (256 * b) = a + 256 * b := by
  have h : (a ||| 256 * b) = a + 256 * b := by
    have := Nat.two_pow_add_eq_or_of_lt (i := 8) (b := a) (by omega) b
    rw [Nat.or_comm, Nat.add_comm]
    exact this.symm
  rw [← h]
  apply Nat.eq_of_testBit_eq
  intro i
  rw [Nat.testBit_xor, Nat.testBit_or]
  by_cases hi : i < 8
  · have : (256 * b).testBit i = false := by
      rw [show 256 * b = 2 ^ 8 * b from rfl, Nat.testBit_two_pow_mul]
      simp; omega
    simp [this]
  · have : a.testBit i = false := Nat.testBit_lt_two_pow (Nat.lt_of_lt_of_le (show a < 2 ^ 8 from ha) (Nat.pow_le_pow_right (by omega) (by omega)))
    simp [this]
/-- Four bytes as one number. -/
def word (a b c d : Nat) : Nat := a + 256 * (b + 256 * (c + 256 * d))
theorem step_two {r a k : Nat} (m : Nat) (ha : a < 256) : it (8 + k) (r ^^^ (a + 256 * m)) = it k (step r a ^^^ m) := by
  rw [← it_add 8 k, ← join ha, ← Nat.xor_assoc, it_xor 8, it_byte]
  rfl
theorem four {r a b c d : Nat} (ha : a < 256) (hb : b < 256) (hc : c < 256) : step (step (step (step r a) b) c) d = it 32 (r ^^^ word a b c d) := by
  unfold word
  rw [step_two (r := r) (k := 24) _ ha, step_two (k := 16) _ hb, step_two (k := 8) _ hc]
  rfl
theorem word_lt {a b c d : Nat} (ha : a < 256) (hb : b < 256) (hc : c < 256) (hd : d < 256) : word a b c d < 4294967296 := by unfold word; omega
theorem comp {r : Nat} (h : r < 4294967296) : r ^^^ 4294967295 = 4294967295 - r := by
  have h1 : (BitVec.ofNat 32 r ^^^ BitVec.allOnes 32).toNat = (~~~ BitVec.ofNat 32 r).toNat := by rw [BitVec.xor_allOnes]
  rw [BitVec.toNat_xor, BitVec.toNat_not, BitVec.toNat_ofNat, BitVec.toNat_allOnes, Nat.mod_eq_of_lt (by omega)] at h1
  exact h1
theorem lay_len (s : Nat) : (lay s).length = 4 := rfl
theorem lay_byt {s : Nat} (h : s < 4294967296) : Byt (lay s) := Byt.cons (by omega) (Byt.cons (by omega) (Byt.cons (by omega) (Byt.cons (by omega) Byt.nil)))
theorem lay_word {s a b c d : Nat} (hs : s < 4294967296) (ha : a < 256) (hb : b < 256) (hc : c < 256) (hd : d < 256) : [(a : Int), b, c, d] = lay s ↔ s = word a b c d := by
  unfold lay word
  constructor
  · intro h
    simp at h
    omega
  · intro h
    simp
    omega
theorem sum_lt {xs : List Int} (h : Byt xs) : sum xs < 4294967296 := by unfold sum; omega
theorem four_of {q : List Int} (hq : Byt q) (hl : q.length = 4) : ∃ a b c d : Nat, a < 256 ∧ b < 256 ∧ c < 256 ∧ d < 256 ∧ q = [(a : Int), b, c, d] := by
  match q, hl with
  | [x, y, z, u], _ =>
    have h0 := hq 0; have h1 := hq 1; have h2 := hq 2; have h3 := hq 3
    simp at h0 h1 h2 h3
    exact ⟨x.toNat, y.toNat, z.toNat, u.toNat, by omega, by omega, by omega, by omega, by simp; omega⟩
theorem reg_four {r a b c d : Nat} (ha : a < 256) (hb : b < 256) (hc : c < 256) : reg r [(a : Int), b, c, d] = it 32 (r ^^^ word a b c d) := by
  rw [← four ha hb hc]
  rfl
theorem Byt.take {xs : List Int} (h : Byt xs) (k : Nat) : Byt (xs.take k) := fun j => by
  by_cases hj : j < k
  · have := h j
    simpa [List.getD, List.getElem?_take, hj] using this
  · simp [List.getD, List.getElem?_take, hj]
theorem xor_eq {r w : Nat} (hr : r < 4294967296) : r ^^^ w = 4294967295 ↔ w = 4294967295 - r := by
  rw [← comp hr]
  constructor
  · intro h
    rw [← h, ← Nat.xor_assoc, Nat.xor_self, Nat.zero_xor]
  · intro h
    rw [h, ← Nat.xor_assoc, Nat.xor_self, Nat.zero_xor]
/-- What is sealed just if the register behind all of it is one certain number. -/
theorem ok_iff {xs : List Int} (hb : Byt xs) (hn : 4 ≤ xs.length) : ok xs = true ↔ reg 4294967295 xs = it 32 4294967295 := by
  obtain ⟨a, b, c, d, ha, hb2, hc, hd, hq⟩ := four_of (q := xs.drop (xs.length - 4)) (hb.drop _) (by simp; omega)
  have hp : Byt (xs.take (xs.length - 4)) := Byt.take hb _
  have hR := reg_lt (r := 4294967295) hp (by omega)
  have hw := word_lt ha hb2 hc hd
  have e : reg 4294967295 xs = it 32 (reg 4294967295 (xs.take (xs.length - 4)) ^^^ word a b c d) := by
    rw [← reg_four ha hb2 hc, ← hq, ← reg_append, List.take_append_drop]
  unfold ok
  rw [decide_eq_true_iff, hq, lay_word (sum_lt hp) ha hb2 hc hd, e]
  unfold sum
  generalize reg 4294967295 (xs.take (xs.length - 4)) = R at *
  constructor
  · intro h
    rw [(xor_eq hR).2 h.symm]
  · intro h
    exact ((xor_eq hR).1 (it_inj 32 (Nat.xor_lt_two_pow (n := 32) (by omega) (by omega)) (by omega) h)).symm
theorem ext {xs ys : List Int} (hl : ys.length = xs.length) (h : ∀ j, j < xs.length → ys.getD j 0 = xs.getD j 0) : ys = xs := by
  apply List.ext_getElem hl
  intro j h1 h2
  have := h j h2
  simpa [List.getD, h1, h2] using this
/-- OF WHAT IS SEALED, four in a row being turned: it is sealed still just if none was turned. -/
theorem finds {xs ys : List Int} {k : Nat} (hx : Byt xs) (hy : Byt ys) (hl : ys.length = xs.length) (hk : k + 4 ≤ xs.length) (h : ∀ j, j < k ∨ k + 4 ≤ j → ys.getD j 0 = xs.getD j 0) (hok : ok xs = true) :
    ok ys = true ↔ ys = xs := by
  constructor
  · intro ho
    rw [ok_iff hx (by omega)] at hok
    rw [ok_iff hy (by omega), ← hok] at ho
    have t1 : ys.take k = xs.take k := ext (by simp; omega) fun j hj => by
      have hjk : j < k := by simp at hj; omega
      have := h j (.inl hjk)
      simpa [List.getD, List.getElem?_take, hjk] using this
    have t2 : ys.drop (k + 4) = xs.drop (k + 4) := ext (by simp; omega) fun j hj => by
      have := h (k + 4 + j) (.inr (by omega))
      simpa [List.getD, List.getElem?_drop] using this
    have pa : ∀ zs : List Int, zs = zs.take k ++ ((zs.drop k).take 4 ++ zs.drop (k + 4)) := fun zs => by
      rw [← List.drop_drop, List.take_append_drop, List.take_append_drop]
    rw [pa ys, pa xs, t1, t2, reg_append, reg_append, reg_append, reg_append] at ho
    have hR := reg_lt (r := 4294967295) (Byt.take hx k) (by omega)
    generalize reg 4294967295 (xs.take k) = R at *
    have hu := Byt.take (hy.drop k) 4
    have hv := Byt.take (hx.drop k) 4
    have e := reg_inj (hx.drop (k + 4)) (reg_lt hu hR) (reg_lt hv hR) ho
    obtain ⟨a, b, c, d, ha, hb, hc, hd, q1⟩ := four_of hu (by simp; omega)
    obtain ⟨a', b', c', d', ha', hb', hc', hd', q2⟩ := four_of hv (by simp; omega)
    rw [q1, q2, reg_four ha hb hc, reg_four ha' hb' hc'] at e
    have w1 := word_lt ha hb hc hd
    have w2 := word_lt ha' hb' hc' hd'
    have e2 := it_inj 32 (Nat.xor_lt_two_pow (n := 32) (by omega) (by omega)) (Nat.xor_lt_two_pow (n := 32) (by omega) (by omega)) e
    rw [Nat.xor_comm R, Nat.xor_comm R] at e2
    have e3 := xor_can e2
    have e4 : (ys.drop k).take 4 = (xs.drop k).take 4 := by
      rw [q1, q2]
      unfold word at e3
      simp
      omega
    rw [pa ys, pa xs, t1, t2, e4]
  · intro e
    rw [e]
    exact hok
theorem sealed_len (xs : List Int) : (sealed xs).length = xs.length + 4 := by unfold sealed; simp [lay_len]
theorem sealed_byt {xs : List Int} (h : Byt xs) : Byt (sealed xs) := h.append (lay_byt (sum_lt h))
theorem sealed_take (xs : List Int) : (sealed xs).take ((sealed xs).length - 4) = xs := by rw [sealed_len]; unfold sealed; simp
theorem sealed_drop (xs : List Int) : (sealed xs).drop ((sealed xs).length - 4) = lay (sum xs) := by rw [sealed_len]; unfold sealed; simp
theorem sealed_ok (xs : List Int) : ok (sealed xs) = true := by unfold ok; rw [sealed_take, sealed_drop]; simp
theorem err_of {xs : List Int} (h : 4 ≤ xs.length) : err xs = if ok xs then 0 else 9 := by unfold err; rw [if_neg (by omega)]
theorem sealed_err (xs : List Int) : err (sealed xs) = 0 := by rw [err_of (by rw [sealed_len]; omega), sealed_ok]; rfl
theorem sealed_open (xs : List Int) : open_ (sealed xs) = xs := by unfold open_; rw [if_pos (sealed_err xs), sealed_take]
/-- Turned at i places from k on. -/
def tw (xs : List Int) (k : Nat) (bs : List Int) : Nat → List Int
  | 0 => xs
  | i + 1 => (tw xs k bs i).set (k + i) (((xs.getD (k + i) 0).toNat ^^^ (bs.getD i 0).toNat : Nat) : Int)
/-- Whether one of the first i is not 0. -/
def tn (bs : List Int) : Nat → Bool
  | 0 => false
  | i + 1 => tn bs i || (bs.getD i 0 != 0)
theorem tw_len (xs : List Int) (k : Nat) (bs : List Int) : ∀ i, (tw xs k bs i).length = xs.length
  | 0 => rfl
  | i + 1 => by show ((tw xs k bs i).set _ _).length = _; rw [List.length_set]; exact tw_len xs k bs i
theorem getD_set (l : List Int) (i j : Nat) (x : Int) : (l.set i x).getD j 0 = if i = j ∧ i < l.length then x else l.getD j 0 := by
  simp only [List.getD_eq_getElem?_getD, List.getElem?_set]
  by_cases h : i = j
  · subst h
    by_cases h2 : i < l.length <;> simp [h2]
  · simp [h]
theorem tw_other (xs : List Int) (k : Nat) (bs : List Int) : ∀ (i j : Nat), j < k ∨ k + i ≤ j → (tw xs k bs i).getD j 0 = xs.getD j 0
  | 0, _, _ => rfl
  | i + 1, j, h => by
    show ((tw xs k bs i).set _ _).getD j 0 = _
    rw [getD_set, if_neg (by omega)]
    exact tw_other xs k bs i j (by omega)
theorem tw_in (xs : List Int) (k : Nat) (bs : List Int) : ∀ (i j : Nat), j < i → k + i ≤ xs.length → (tw xs k bs i).getD (k + j) 0 = (((xs.getD (k + j) 0).toNat ^^^ (bs.getD j 0).toNat : Nat) : Int)
  | 0, _, h, _ => absurd h (by omega)
  | i + 1, j, h, hl => by
    show ((tw xs k bs i).set _ _).getD (k + j) 0 = _
    rw [getD_set, tw_len]
    by_cases e : j = i
    · subst e
      rw [if_pos ⟨rfl, by omega⟩]
    · rw [if_neg (by omega)]
      exact tw_in xs k bs i j (by omega) (by omega)
theorem tw_byt {xs : List Int} {k : Nat} {bs : List Int} (hx : Byt xs) (hb : Byt bs) : ∀ i, Byt (tw xs k bs i)
  | 0 => hx
  | i + 1 => fun j => by
    show 0 ≤ ((tw xs k bs i).set _ _).getD j 0 ∧ ((tw xs k bs i).set _ _).getD j 0 ≤ 255
    rw [getD_set]
    split
    · have := Nat.xor_lt_two_pow (n := 8) (byt_nat hx (k + i)) (byt_nat hb i)
      omega
    · exact tw_byt hx hb i j
theorem tn_iff {bs : List Int} : ∀ {i : Nat}, tn bs i = false ↔ ∀ j, j < i → bs.getD j 0 = 0
  | 0 => ⟨fun _ j h => absurd h (by omega), fun _ => rfl⟩
  | i + 1 => by
    show (tn bs i || (bs.getD i 0 != 0)) = false ↔ _
    rw [Bool.or_eq_false_iff, tn_iff]
    constructor
    · rintro ⟨h1, h2⟩ j hj
      by_cases e : j = i
      · subst e
        simpa using h2
      · exact h1 j (by omega)
    · intro h
      exact ⟨fun j hj => h j (by omega), by have := h i (by omega); simp only [this]; rfl⟩
theorem xor_same {a b : Nat} : a ^^^ b = a ↔ b = 0 := by
  constructor
  · intro h
    have := congrArg (fun x => a ^^^ x) h
    simpa [← Nat.xor_assoc] using this
  · intro h
    rw [h, Nat.xor_zero]
theorem tw_same {xs : List Int} {k : Nat} {bs : List Int} (hx : Byt xs) (hb : Byt bs) {i : Nat} (hl : k + i ≤ xs.length) : tw xs k bs i = xs ↔ tn bs i = false := by
  rw [tn_iff]
  constructor
  · intro h j hj
    have e := tw_in xs k bs i j hj hl
    rw [h] at e
    have h1 := hx (k + j)
    have h2 := hb j
    have e2 := (xor_same (a := (xs.getD (k + j) 0).toNat) (b := (bs.getD j 0).toNat)).1 (by omega)
    omega
  · intro h
    refine ext (tw_len ..) fun j hj => ?_
    by_cases hk : j < k ∨ k + i ≤ j
    · exact tw_other xs k bs i j hk
    · have e := tw_in xs k bs i (j - k) (by omega) hl
      rw [show k + (j - k) = j from by omega, h (j - k) (by omega)] at e
      have h1 := hx j
      rw [show Int.toNat 0 = 0 from rfl, Nat.xor_zero] at e
      omega
/-- WHAT IS SEALED, TURNED AT FOUR PLACES IN A ROW: it is opened, or not. -/
theorem turned_err {xs bs : List Int} {k : Nat} (hx : Byt xs) (hb : Byt bs) (hk : k + 4 ≤ xs.length + 4) : err (tw (sealed xs) k bs 4) = if tn bs 4 then 9 else 0 := by
  have hs := sealed_byt hx
  have hl := sealed_len xs
  have h := finds hs (tw_byt (k := k) hs hb 4) (tw_len (sealed xs) k bs 4) (k := k) (by omega) (fun j hj => tw_other _ _ _ _ _ hj) (sealed_ok xs)
  rw [tw_same hs hb (by omega)] at h
  rw [err_of (by rw [tw_len]; omega)]
  cases ht : tn bs 4
  · rw [h.2 ht]
    rfl
  · cases ho : ok (tw (sealed xs) k bs 4)
    · rfl
    · rw [h.1 ho] at ht
      cases ht
def nine : List Int := [49, 50, 51, 52, 53, 54, 55, 56, 57]
theorem nine_sum : sum nine = 3421780262 := by decide +kernel
theorem nine_byt : Byt nine := by
  unfold nine
  refine Byt.cons (by omega) (Byt.cons (by omega) (Byt.cons (by omega) (Byt.cons (by omega) (Byt.cons (by omega) (Byt.cons (by omega) (Byt.cons (by omega) (Byt.cons (by omega) (Byt.cons (by omega) Byt.nil))))))))
theorem nine_len : (sealed nine).length = 13 := by rw [sealed_len]; rfl
theorem nine_at : (sealed nine).getD 9 0 = 38 := by unfold sealed; rw [nine_sum]; rfl
end Ck
end Go.Proofs.Ytjiafpmcibokbaa
