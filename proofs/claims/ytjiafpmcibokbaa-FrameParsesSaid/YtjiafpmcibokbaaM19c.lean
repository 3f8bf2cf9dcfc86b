/- LAYER 19, plain, third part: a datagram's frame; what is laid is parsed, what is parsed is laid. -/
import Derived.Test.YtjiafpmcibokbaaM19b
import Derived.Test.YtjiafpmcibokbaaR19f
namespace Go.Proofs.Ytjiafpmcibokbaa
open Go Go.RowKit
set_option linter.unusedVariables false
namespace Fm
/-- The frame of what was sealed, and what speaks against it. -/
def pars (b : List Int) : Fr × Int :=
  if b.length < 28 then (nul, 4)
  else if b.getD 0 0 ≠ 84 ∨ b.getD 1 0 ≠ 87 then (nul, 3)
  else if b.getD 2 0 < 1 ∨ 7 < b.getD 2 0 then (nul, 11)
  else if b.getD 3 0 ≠ (((ofL ((b.drop 20).take 4)) % 4 + (ofL ((b.drop 24).take 4)) % 4) % 4 : Nat) then (nul, 16)
  else if (fieldsP (b.getD 2 0) ((b.drop 4).take 16) (ofL ((b.drop 20).take 4)) (ofL ((b.drop 24).take 4)) (b.drop 28)).2 ≠ 0 then (nul, (fieldsP (b.getD 2 0) ((b.drop 4).take 16) (ofL ((b.drop 20).take 4)) (ofL ((b.drop 24).take 4)) (b.drop 28)).2)
  else fieldsP (b.getD 2 0) ((b.drop 4).take 16) (ofL ((b.drop 20).take 4)) (ofL ((b.drop 24).take 4)) (b.drop 28)
def parse (b : List Int) : Fr × Int := if Ck.err b ≠ 0 then (nul, Ck.err b) else pars (Ck.open_ b)
theorem len4 {l : List Int} (h : l.length = 4) : ∃ a b c d, l = [a, b, c, d] := by
  match l, h with
  | [a, b, c, d], _ => exact ⟨_, _, _, _, rfl⟩
theorem head_parts {k m : Int} {tok S R fl : List Int} (ht : tok.length = 16) (hS : S.length = 4) (hR : R.length = 4) (b : List Int) (hb : b = [84, 87, k, m] ++ tok ++ S ++ R ++ fl) :
    b.length = 28 + fl.length ∧ b.getD 0 0 = 84 ∧ b.getD 1 0 = 87 ∧ b.getD 2 0 = k ∧ b.getD 3 0 = m ∧ (b.drop 4).take 16 = tok ∧ (b.drop 20).take 4 = S ∧ (b.drop 24).take 4 = R ∧ b.drop 28 = fl := by
  obtain ⟨a0, a1, a2, a3, a4, a5, a6, a7, a8, a9, aa, ab, ac, ad, ae, af, rfl⟩ := row16 ht
  obtain ⟨s0, s1, s2, s3, rfl⟩ := len4 hS
  obtain ⟨r0, r1, r2, r3, rfl⟩ := len4 hR
  subst hb
  refine ⟨?_, rfl, rfl, rfl, rfl, rfl, rfl, rfl, rfl⟩
  simp
  omega
theorem rgsOf_rgs : ∀ (l : List (Nat × Nat)), (∀ p ∈ l, p.1 < 18446744073709551616 ∧ p.2 < 18446744073709551616) → rgsOf l.length (rgs l) = l
  | [], _ => rfl
  | (x, y) :: l, h => by
    have hx := h (x, y) (by simp)
    have ih := rgsOf_rgs l fun p hp => h p (by simp [hp])
    have lx := num_len 8 x
    have ly := num_len 8 y
    rw [List.length_cons, rgsOf, rgs, List.append_assoc, List.take_left' lx, List.drop_left' lx, List.take_left' ly, ofL_num 8 x (by have := hx.1; omega), ofL_num 8 y (by have := hx.2; omega)]
    rw [← List.append_assoc, List.drop_left' (by rw [List.length_append, lx, ly]), ih]
theorem rgs_rgsOf : ∀ (j : Nat) (b : List Int), Byt b → b.length = 16 * j → rgs (rgsOf j b) = b
  | 0, b, _, h => by
    have : b = [] := List.length_eq_zero_iff.1 (by omega)
    subst this
    rfl
  | j + 1, b, hb, h => by
    have ih := rgs_rgsOf j (b.drop 16) (Byt.dropF hb 16) (by rw [List.length_drop]; omega)
    rw [rgsOf, rgs, ih, num_ofL 8 _ (Ck.Byt.take hb 8) (by rw [List.length_take]; omega), num_ofL 8 _ (Ck.Byt.take (Byt.dropF hb 8) 8) (by rw [List.length_take, List.length_drop]; omega)]
    rw [List.append_assoc, show b.drop 16 = (b.drop 8).drop 8 by rw [List.drop_drop], List.take_append_drop, List.take_append_drop]
/-- A frame as an argument may be. -/
structure Fr.fit (f : Fr) : Prop where
  ln : f.ln
  s : f.s < 4294967296
  r : f.r < 4294967296
  off : f.off < 18446744073709551616
  tot : f.tot < 18446744073709551616
  rs : ∀ p ∈ f.rs, p.1 < 18446744073709551616 ∧ p.2 < 18446744073709551616
  n : f.xs.length = f.n
  m : f.rs.length = f.m
theorem fields_flds {f : Fr} (h : f.fit) (hm : may f = 0) : fieldsP f.k f.tok f.s f.r (flds f) = (er (bare f), 0) := by
  obtain ⟨hk, h3, h4, h7⟩ := may_zero hm
  have lo := num_len 8 f.off
  have lt := num_len 8 f.tot
  have oo := ofL_num 8 f.off (by have := h.off; omega)
  have ot := ofL_num 8 f.tot (by have := h.tot; omega)
  have l2 := h.ln.2
  have hn := h.n
  have hmm := h.m
  have hrl := rgs_len f.rs
  have hrr := rgsOf_rgs f.rs h.rs
  have c : f.k = 1 ∨ f.k = 2 ∨ f.k = 3 ∨ f.k = 4 ∨ f.k = 5 ∨ f.k = 6 ∨ f.k = 7 := by omega
  unfold fieldsP
  rcases c with c | c | c | c | c | c | c
  · have e : flds f = num 8 f.tot ++ f.sum := by unfold flds; rw [if_pos (by omega)]
    rw [c, e, if_neg (by rw [List.length_append, lt, l2]; unfold need; simp), if_neg (by rw [List.length_append, lt, l2]; unfold need; simp)]
    have g : getF 1 f.tok f.s f.r (num 8 f.tot ++ f.sum) = er (bare f) := by
      unfold getF bare
      rw [if_pos (.inl rfl), if_pos (.inl c), List.take_left' lt, List.drop_left' lt, ot, List.take_of_length_le (by omega), c]
      rfl
    rw [g]
    unfold bare
    rw [if_pos (.inl c), c]
    rfl
  · have e : flds f = num 8 f.off := by unfold flds; rw [if_neg (by omega), if_pos c]
    rw [c, e, if_neg (by rw [lo]; unfold need; simp), if_neg (by rw [lo]; unfold need; simp)]
    have g : getF 2 f.tok f.s f.r (num 8 f.off) = er (bare f) := by
      unfold getF bare
      rw [if_neg (by omega), if_pos rfl, if_neg (by omega), if_pos c, oo, c]
      rfl
    rw [g]
    unfold bare
    rw [if_neg (by omega), if_pos c, c]
    rfl
  · obtain ⟨h0, h256⟩ := h3 c
    have e : flds f = num 8 f.off ++ f.xs := by unfold flds; rw [if_neg (by omega), if_neg (by omega), if_pos c]
    rw [c, e, if_neg (by rw [List.length_append, lo, show need 3 = 9 from rfl]; omega), if_neg (by simp)]
    have g : getF 3 f.tok f.s f.r (num 8 f.off ++ f.xs) = er (bare f) := by
      unfold getF bare
      rw [if_neg (by omega), if_neg (by omega), if_pos rfl, if_neg (by omega), if_neg (by omega), if_pos c, List.take_left' lo, List.drop_left' lo, oo, c]
      rfl
    rw [g]
    unfold bare
    rw [if_neg (by omega), if_neg (by omega), if_pos c, c]
    have : mayP (er { mk3 3 f.tok f.s f.r with off := f.off, A := f.A, n := f.n, c := f.c, xs := f.xs }) = 0 := by
      unfold mayP mayE er mk3
      rw [if_neg (by simp), if_neg (by rintro ⟨_, q⟩; exact h0 (by rw [← hn]; exact q)), if_neg (by rintro ⟨_, q⟩; have q : 256 < f.xs.length := q; omega), if_neg (by simp), if_neg (by simp)]
    rw [this]
  · obtain ⟨h0, hri⟩ := h4 c
    have e : flds f = num 8 f.off ++ rgs f.rs := by unfold flds; rw [if_neg (by omega), if_neg (by omega), if_neg (by omega), if_pos c]
    have el : (num 8 f.off ++ rgs f.rs).length = 8 + 16 * f.rs.length := by rw [List.length_append, lo, hrl]
    rw [c, e, if_neg (by rw [el, show need 4 = 8 from rfl]; omega), if_neg (by simp)]
    have g : getF 4 f.tok f.s f.r (num 8 f.off ++ rgs f.rs) = er (bare f) := by
      unfold getF bare
      rw [if_neg (by omega), if_neg (by omega), if_neg (by omega), if_pos rfl, if_neg (by omega), if_neg (by omega), if_neg (by omega), if_pos c, List.take_left' lo, List.drop_left' lo, oo, c, el, show (8 + 16 * f.rs.length - 8) / 16 = f.rs.length by omega, hrr]
      rfl
    rw [g]
    unfold bare
    rw [if_neg (by omega), if_neg (by omega), if_neg (by omega), if_pos c, c]
    have : mayP (er { mk3 4 f.tok f.s f.r with off := f.off, RA := f.RA, m := f.m, rc := f.rc, rs := f.rs }) = 0 := by
      unfold mayP mayE er mk3
      simp only
      rw [if_neg (by simp), if_neg (by simp), if_neg (by simp), if_neg (by simp; omega), if_neg (by simp [hri])]
    rw [this]
  · have e : flds f = num 8 f.tot ++ f.sum := by unfold flds; rw [if_pos (by omega)]
    rw [c, e, if_neg (by rw [List.length_append, lt, l2]; unfold need; simp), if_neg (by rw [List.length_append, lt, l2]; unfold need; simp)]
    have g : getF 5 f.tok f.s f.r (num 8 f.tot ++ f.sum) = er (bare f) := by
      unfold getF bare
      rw [if_pos (.inr rfl), if_pos (.inr c), List.take_left' lt, List.drop_left' lt, ot, List.take_of_length_le (by omega), c]
      rfl
    rw [g]
    unfold bare
    rw [if_pos (.inr c), c]
    rfl
  · have e : flds f = num 8 f.tot := by unfold flds; rw [if_neg (by omega), if_neg (by omega), if_neg (by omega), if_neg (by omega), if_pos c]
    rw [c, e, if_neg (by rw [lt]; unfold need; simp), if_neg (by rw [lt]; unfold need; simp)]
    have g : getF 6 f.tok f.s f.r (num 8 f.tot) = er (bare f) := by
      unfold getF bare
      rw [if_neg (by omega), if_neg (by omega), if_neg (by omega), if_neg (by omega), if_pos rfl, if_neg (by omega), if_neg (by omega), if_neg (by omega), if_neg (by omega), if_pos c, ot, c]
      rfl
    rw [g]
    unfold bare
    rw [if_neg (by omega), if_neg (by omega), if_neg (by omega), if_neg (by omega), if_pos c, c]
    rfl
  · have e : flds f = [f.cd] := by unfold flds; rw [if_neg (by omega), if_neg (by omega), if_neg (by omega), if_neg (by omega), if_neg (by omega)]
    rw [c, e, if_neg (by unfold need; simp), if_neg (by unfold need; simp)]
    have h7' := h7 c
    have g : getF 7 f.tok f.s f.r [f.cd] = er (bare f) := by
      unfold getF bare
      rw [if_neg (by omega), if_neg (by omega), if_neg (by omega), if_neg (by omega), if_neg (by omega), if_neg (by omega), if_neg (by omega), if_neg (by omega), if_neg (by omega), if_neg (by omega), if_pos c, c]
      rfl
    rw [g]
    unfold bare
    rw [if_neg (by omega), if_neg (by omega), if_neg (by omega), if_neg (by omega), if_neg (by omega), if_pos c, c]
    have : mayP (er { mk3 7 f.tok f.s f.r with cd := f.cd }) = 0 := by
      unfold mayP mayE er mk3
      simp only
      rw [if_neg (by simp), if_neg (by simp), if_neg (by simp), if_neg (by simp), if_neg (by simp; omega)]
    rw [this]
/-- WHAT IS LAID IS PARSED. -/
theorem parse_lay {f : Fr} (h : f.fit) (hm : may f = 0) : parse (Ck.sealed (body f)) = (er (bare f), 0) := by
  have hp := head_parts (fl := flds f) h.ln.1 (num_len 4 f.s) (num_len 4 f.r) (body f) rfl
  obtain ⟨p1, p2, p3, p4, p5, p6, p7, p8, p9⟩ := hp
  have hk := (may_zero hm).1
  unfold parse
  rw [Ck.sealed_err, if_neg (by decide), Ck.sealed_open]
  unfold pars
  rw [p2, p3, p4, p5, p6, p7, p8, p9, ofL_num 4 f.s (by have := h.s; omega), ofL_num 4 f.r (by have := h.r; omega), fields_flds h hm]
  rw [if_neg (by omega), if_neg (by simp), if_neg (by omega), if_neg (by simp), if_neg (by simp)]
theorem open_sealed {b : List Int} (h : Ck.err b = 0) : Ck.sealed (Ck.open_ b) = b := by
  have hl : 4 ≤ b.length := by
    rcases Nat.lt_or_ge b.length 4 with h4 | h4
    · unfold Ck.err at h
      rw [if_pos h4] at h
      cases h
    · exact h4
  have ho : Ck.ok b = true := by
    rw [Ck.err_of hl] at h
    cases he : Ck.ok b
    · rw [he] at h; cases h
    · rfl
  unfold Ck.open_ Ck.sealed
  rw [if_pos h]
  unfold Ck.ok at ho
  rw [← of_decide_eq_true ho, List.take_append_drop]
theorem body_er (g : Fr) : body (er g) = body g := rfl
theorem byt_getD {b : List Int} (h : Byt b) (j : Nat) : 0 ≤ b.getD j 0 ∧ b.getD j 0 ≤ 255 := h j
theorem split28 {b : List Int} (h : 28 ≤ b.length) : b = [b.getD 0 0, b.getD 1 0, b.getD 2 0, b.getD 3 0] ++ (b.drop 4).take 16 ++ (b.drop 20).take 4 ++ (b.drop 24).take 4 ++ b.drop 28 := by
  have h4 : b.take 4 = [b.getD 0 0, b.getD 1 0, b.getD 2 0, b.getD 3 0] := by
    match b, h with
    | a :: a1 :: a2 :: a3 :: r, _ => rfl
  rw [← h4]
  rw [List.append_assoc, List.append_assoc, List.append_assoc]
  rw [show b.drop 28 = (b.drop 24).drop 4 by rw [List.drop_drop], List.take_append_drop, show b.drop 24 = (b.drop 20).drop 4 by rw [List.drop_drop], List.take_append_drop, show b.drop 20 = (b.drop 4).drop 16 by rw [List.drop_drop], List.take_append_drop, List.take_append_drop]
theorem flds_fields {k : Int} {tok : List Int} {s r : Nat} {b : List Int} (hb : Byt b) (hk : 1 ≤ k ∧ k ≤ 7) (h : (fieldsP k tok s r b).2 = 0) :
    fieldsP k tok s r b = (getF k tok s r b, 0) ∧ mayP (getF k tok s r b) = 0 ∧ flds (getF k tok s r b) = b ∧ (getF k tok s r b).k = k ∧ (getF k tok s r b).tok = tok ∧ (getF k tok s r b).s = s ∧ (getF k tok s r b).r = r := by
  unfold fieldsP at h ⊢
  by_cases h1 : b.length < need k ∨ (k = 4 ∧ b.length % 16 ≠ 8)
  · rw [if_pos h1] at h; cases h
  by_cases h2 : need k < b.length ∧ k ≠ 3 ∧ k ≠ 4
  · rw [if_neg h1, if_pos h2] at h; cases h
  rw [if_neg h1, if_neg h2] at h ⊢
  have h' : mayP (getF k tok s r b) = 0 := h
  refine ⟨by rw [h'], h', ?_, ?_⟩
  · have c : k = 1 ∨ k = 2 ∨ k = 3 ∨ k = 4 ∨ k = 5 ∨ k = 6 ∨ k = 7 := by omega
    rcases c with rfl | rfl | rfl | rfl | rfl | rfl | rfl
    · have hl : b.length = 40 := by simp [need] at h1 h2; omega
      show num 8 (ofL (b.take 8)) ++ (b.drop 8).take 32 = b
      rw [num_ofL 8 _ (Ck.Byt.take hb 8) (by rw [List.length_take]; omega), List.take_of_length_le (show (b.drop 8).length ≤ 32 by rw [List.length_drop]; omega), List.take_append_drop]
    · have hl : b.length = 8 := by simp [need] at h1 h2; omega
      exact num_ofL 8 _ hb hl
    · have hl : 9 ≤ b.length := by simp [need] at h1 h2; omega
      show num 8 (ofL (b.take 8)) ++ b.drop 8 = b
      rw [num_ofL 8 _ (Ck.Byt.take hb 8) (by rw [List.length_take]; omega), List.take_append_drop]
    · have hl : 8 ≤ b.length ∧ b.length % 16 = 8 := by simp [need] at h1 h2; omega
      show num 8 (ofL (b.take 8)) ++ rgs (rgsOf ((b.length - 8) / 16) (b.drop 8)) = b
      rw [num_ofL 8 _ (Ck.Byt.take hb 8) (by rw [List.length_take]; omega), rgs_rgsOf _ _ (Byt.dropF hb 8) (by rw [List.length_drop]; omega), List.take_append_drop]
    · have hl : b.length = 40 := by simp [need] at h1 h2; omega
      show num 8 (ofL (b.take 8)) ++ (b.drop 8).take 32 = b
      rw [num_ofL 8 _ (Ck.Byt.take hb 8) (by rw [List.length_take]; omega), List.take_of_length_le (show (b.drop 8).length ≤ 32 by rw [List.length_drop]; omega), List.take_append_drop]
    · have hl : b.length = 8 := by simp [need] at h1 h2; omega
      exact num_ofL 8 _ hb hl
    · have hl : b.length = 1 := by
        have e : need 7 = 1 := rfl
        rw [e] at h1 h2
        omega
      show [b.getD 0 0] = b
      match b, hl with
      | [x], _ => rfl
  · unfold getF
    split
    · exact ⟨rfl, rfl, rfl, rfl⟩
    split
    · exact ⟨rfl, rfl, rfl, rfl⟩
    split
    · exact ⟨rfl, rfl, rfl, rfl⟩
    split
    · exact ⟨rfl, rfl, rfl, rfl⟩
    split <;> exact ⟨rfl, rfl, rfl, rfl⟩
/-- WHAT IS PARSED IS LAID AS THE SAME. -/
theorem lay_parse {b : List Int} (hb : Byt b) (h : (parse b).2 = 0) : mayP (parse b).1 = 0 ∧ Ck.sealed (body (parse b).1) = b := by
  unfold parse at h ⊢
  by_cases he : Ck.err b = 0
  rotate_left
  · rw [if_pos he] at h
    exact absurd h he
  rw [if_neg (by rw [he]; simp)] at h ⊢
  have hbo : Byt (Ck.open_ b) := by
    unfold Ck.open_
    rw [if_pos he]
    exact Ck.Byt.take hb _
  have hos := open_sealed he
  generalize Ck.open_ b = o at *
  unfold pars at h ⊢
  by_cases h1 : o.length < 28
  · rw [if_pos h1] at h; cases h
  by_cases h2 : o.getD 0 0 ≠ 84 ∨ o.getD 1 0 ≠ 87
  · rw [if_neg h1, if_pos h2] at h; cases h
  by_cases h3 : o.getD 2 0 < 1 ∨ 7 < o.getD 2 0
  · rw [if_neg h1, if_neg h2, if_pos h3] at h; cases h
  by_cases h4 : o.getD 3 0 ≠ (((ofL ((o.drop 20).take 4)) % 4 + (ofL ((o.drop 24).take 4)) % 4) % 4 : Nat)
  · rw [if_neg h1, if_neg h2, if_neg h3, if_pos h4] at h; cases h
  rw [if_neg h1, if_neg h2, if_neg h3, if_neg h4] at h ⊢
  by_cases h5 : (fieldsP (o.getD 2 0) ((o.drop 4).take 16) (ofL ((o.drop 20).take 4)) (ofL ((o.drop 24).take 4)) (o.drop 28)).2 ≠ 0
  · rw [if_pos h5] at h; exact absurd h h5
  rw [if_neg h5] at h ⊢
  obtain ⟨f1, f2, f3, f4, f5, f6, f7⟩ := flds_fields (Byt.dropF hbo 28) (by omega) h
  rw [f1]
  refine ⟨f2, ?_⟩
  simp only
  unfold body head
  rw [f3, f4, f5, f6, f7]
  have h20 : ((o.drop 20).take 4).length = 4 := by rw [List.length_take, List.length_drop]; omega
  have h24 : ((o.drop 24).take 4).length = 4 := by rw [List.length_take, List.length_drop]; omega
  rw [num_ofL 4 _ (Ck.Byt.take (Byt.dropF hbo 20) 4) h20, num_ofL 4 _ (Ck.Byt.take (Byt.dropF hbo 24) 4) h24]
  have hh := split28 (b := o) (by omega)
  have e0 : o.getD 0 0 = 84 := by omega
  have e1 : o.getD 1 0 = 87 := by omega
  have e3 : o.getD 3 0 = (((ofL ((o.drop 20).take 4)) % 4 + (ofL ((o.drop 24).take 4)) % 4) % 4 : Nat) := by
    rcases Int.lt_trichotomy (o.getD 3 0) (((ofL ((o.drop 20).take 4)) % 4 + (ofL ((o.drop 24).take 4)) % 4) % 4 : Nat) with q | q | q
    · exact absurd (Int.ne_of_lt q) h4
    · exact q
    · exact absurd (Int.ne_of_gt q) h4
  rw [e0, e1, e3] at hh
  rw [← hh, hos]
/-- What is not parsed gives none. -/
theorem parse_none {b : List Int} (h : (parse b).2 ≠ 0) : (parse b).1 = nul := by
  unfold parse at h ⊢
  by_cases he : Ck.err b = 0
  · rw [if_neg (by rw [he]; simp)] at h ⊢
    generalize Ck.open_ b = o at *
    unfold pars at h ⊢
    by_cases h1 : o.length < 28
    · rw [if_pos h1]
    by_cases h2 : o.getD 0 0 ≠ 84 ∨ o.getD 1 0 ≠ 87
    · rw [if_neg h1, if_pos h2]
    by_cases h3 : o.getD 2 0 < 1 ∨ 7 < o.getD 2 0
    · rw [if_neg h1, if_neg h2, if_pos h3]
    by_cases h4 : o.getD 3 0 ≠ (((ofL ((o.drop 20).take 4)) % 4 + (ofL ((o.drop 24).take 4)) % 4) % 4 : Nat)
    · rw [if_neg h1, if_neg h2, if_neg h3, if_pos h4]
    rw [if_neg h1, if_neg h2, if_neg h3, if_neg h4] at h ⊢
    by_cases h5 : (fieldsP (o.getD 2 0) ((o.drop 4).take 16) (ofL ((o.drop 20).take 4)) (ofL ((o.drop 24).take 4)) (o.drop 28)).2 ≠ 0
    · rw [if_pos h5]
    · rw [if_neg h5] at h
      exact absurd h h5
  · rw [if_pos he]
theorem body_byt {f : Fr} (hk : 0 ≤ f.k ∧ f.k ≤ 255) (ht : Byt f.tok) (hs : Byt f.sum) (hx : Byt f.xs) (hc : f.k = 7 → 0 ≤ f.cd ∧ f.cd ≤ 255) (hk7 : f.k ≤ 7 ∧ 1 ≤ f.k) : Byt (body f) := by
  have hr : ∀ l : List (Nat × Nat), Byt (rgs l) := by
    intro l
    induction l with
    | nil => exact Byt.nil
    | cons p l ih => exact ((num_byt 8 _).append (num_byt 8 _)).append ih
  unfold body head
  refine (((Byt.append (Byt.cons (by omega) (Byt.cons (by omega) (Byt.cons (by omega) (Byt.cons (by omega) Byt.nil)))) ht).append (num_byt 4 _)).append (num_byt 4 _)).append ?_
  unfold flds
  split
  · exact (num_byt 8 _).append hs
  split
  · exact num_byt 8 _
  split
  · exact (num_byt 8 _).append hx
  split
  · exact (num_byt 8 _).append (hr _)
  split
  · exact num_byt 8 _
  · exact Byt.cons (hc (by omega)) Byt.nil
end Fm
end Go.Proofs.Ytjiafpmcibokbaa
