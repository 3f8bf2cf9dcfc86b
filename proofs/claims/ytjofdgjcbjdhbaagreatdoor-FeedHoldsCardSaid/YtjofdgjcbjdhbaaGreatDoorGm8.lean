/- PLAIN MATHEMATICS OF LAYER 8 (members of an archive): what the contracts of the walks speak of; no Go text is named. -/
import Derived.Test.YtjofdgjcbjdhbaaGreatDoorGm5
import Derived.Test.YtjofdgjcbjdhbaaGreatDoorGn4
import Derived.Test.YtjofdgjcbjdhbaaGreatDoorGn6
import Derived.Test.YtjofdgjcbjdhbaaGreatDoorM7
namespace Go.Proofs.YtjofdgjcbjdhbaaGreatDoor
open Go.RowKit
set_option linter.unusedVariables false
namespace Mb
/-- May a text be a path? -/
def path (s : ByteArray) : Bool := (Pp.partsS s).2 == 0
/-- No byte of it is 0. -/
def Nz (s : ByteArray) : Prop := (0 : UInt8) ∉ s.data.toList
def has0 (s : ByteArray) : Bool := decide (Sf.zb s.data.toList < s.size)
def numOk (m u g t : Int) : Bool :=
  decide (0 ≤ m) && decide (m ≤ 4095) && decide (0 ≤ u) && decide (u ≤ 1099511627775) && decide (0 ≤ g) && decide (g ≤ 1099511627775) && decide (-1125899906842624 ≤ t) && decide (t ≤ 1125899906842624)
/-- May a link and so many bytes be, of a kind? the error's number. -/
def kindE (k : Int) (l : ByteArray) (n : Nat) : Int :=
  if k = 1 then (if 4096 < n then 10 else if l.size = 0 then 0 else 3)
  else if k = 2 then (if path l = true then (if n = 0 then 0 else 3) else 8)
  else if k = 3 then (if l.size = 0 ∨ has0 l = true then 3 else if 300 < l.size then 10 else if n = 0 then 0 else 3)
  else (if l.size = 0 ∧ n = 0 then 0 else 3)
/-- May a member be? the error's number. -/
def may (p l : ByteArray) (k m u g t : Int) (n : Nat) : Int :=
  if path p = true then (if 1 ≤ k ∧ k ≤ 4 then (if numOk m u g t = true then kindE k l n else 10) else 11) else 8
/-- A kind's type, a type's kind. -/
def typ (k : Int) : Int := if k = 1 then 48 else if k = 2 then 49 else if k = 3 then 50 else if k = 4 then 53 else 0
def kin (c : Int) : Int := if c = 48 then 1 else if c = 49 then 2 else if c = 50 then 3 else if c = 53 then 4 else 0
/-- A path parted: is it? its parts, as they are laid. -/
def fits (s : ByteArray) (k : Nat) : Bool := if s.size = 0 then false else if s.size ≤ 100 then true else if k = 0 then false else true
def first (s : ByteArray) : ByteArray := s.extract 0 (min s.size 100)
def pre (s : ByteArray) (k : Nat) : ByteArray := if s.size ≤ 100 then ⟨#[]⟩ else if k = 0 then ⟨#[]⟩ else s.extract 0 k
def nam (s : ByteArray) (k : Nat) : ByteArray := if s.size ≤ 100 then s else if k = 0 then first s else s.extract (k + 1) s.size
def kPath : ByteArray := ⟨#[112, 97, 116, 104]⟩
def kLink : ByteArray := ⟨#[108, 105, 110, 107, 112, 97, 116, 104]⟩
def kPax : ByteArray := ⟨#[112, 97, 120]⟩
/-- The records that a member needs. -/
def recsL (p l : ByteArray) (c : Nat) : List Rc.Rec := (if fits p c = true then [] else [(kPath, p)]) ++ (if 100 < l.size then [(kLink, l)] else [])
/-- The bytes filled up to whole blocks. -/
def fill (xs : List Int) : List Int := xs ++ List.replicate (if xs.length % 512 = 0 then 0 else 512 - xs.length % 512) 0
def paxB (b : Rc.Bs) : List Int := (Hh.layC ⟨#[]⟩ kPax ⟨#[]⟩ 0 0 0 0 (b.length : Int) 120).1 ++ fill (Rc.ints b)
def recB (rs : List Rc.Rec) : List Int := if rs = [] then [] else paxB (Rc.layB rs)
def hdrB (p l : ByteArray) (c : Nat) (k m u g t : Int) (n : Nat) : List Int := (Hh.layC (pre p c) (nam p c) (first l) m u g t (n : Int) (typ k)).1
def ownB (p l : ByteArray) (c : Nat) (k m u g t : Int) (xs : List Int) : List Int := hdrB p l c k m u g t xs.length ++ fill xs
/-- A member's bytes. -/
def layM (p l : ByteArray) (c : Nat) (k m u g t : Int) (xs : List Int) : List Int :=
  if may p l k m u g t xs.length = 0 then recB (recsL p l c) ++ ownB p l c k m u g t xs else []
/-- What a header and records tell. -/
def told8 (rs : List Rc.Rec) (key d : ByteArray) : ByteArray := match Rc.findR key rs with | some v => v | none => d
def join (p n : ByteArray) : ByteArray := if p.size = 0 then n else p ++ ⟨#[47]⟩ ++ n
def fP (rs : List Rc.Rec) (p nm : ByteArray) : ByteArray := told8 rs kPath (join p nm)
def fL (rs : List Rc.Rec) (k : Int) (l : ByteArray) : ByteArray := if kin k = 2 ∨ kin k = 3 then told8 rs kLink l else ⟨#[]⟩
def fX (k : Int) (xs : List Int) : List Int := if kin k = 1 then xs else []
def fE (rs : List Rc.Rec) (p nm l : ByteArray) (k m u g t : Int) (xs : List Int) : Int :=
  if kin k = 0 then 11 else may (fP rs p nm) (fL rs k l) (kin k) m u g t (fX k xs).length

theorem nz_has0 {s : ByteArray} (h : Nz s) : has0 s = false := by
  unfold has0
  rw [decide_eq_false_iff_not]
  intro hz
  apply h
  have h1 : Sf.zb s.data.toList < s.data.toList.length := hz
  have := List.findIdx_getElem (p := (· == 0)) (xs := s.data.toList) (w := h1)
  rw [← beq_iff_eq.1 this]
  exact List.getElem_mem h1
theorem nz_of {s : ByteArray} (h : has0 s = false) : Nz s := by
  unfold has0 at h
  rw [decide_eq_false_iff_not] at h
  intro hm
  apply h
  show Sf.zb s.data.toList < s.data.toList.length
  exact List.findIdx_lt_length.2 ⟨0, hm, rfl⟩
theorem nz_ext {s : ByteArray} (h : Nz s) (a b : Nat) : Nz (s.extract a b) := by
  intro hm
  rw [Lib.extract_data] at hm
  exact h (List.mem_of_mem_drop (List.mem_of_mem_take hm))
theorem nz_first {s : ByteArray} (h : Nz s) : Nz (first s) := nz_ext h _ _
theorem nz_nil : Nz ⟨#[]⟩ := by unfold Nz; decide
theorem first_size (s : ByteArray) : (first s).size ≤ 100 := by unfold first; rw [ByteArray.size_extract]; omega
theorem first_all {s : ByteArray} (h : s.size ≤ 100) : first s = s := by
  unfold first
  rw [show min s.size 100 = s.size by omega]
  exact Pp.ext_all s
theorem mem_joinL : ∀ (ps : List (List UInt8)) (x : UInt8), x ∈ Pp.joinL ps → x = 47 ∨ ∃ p ∈ ps, x ∈ p
  | [], x, h => by simp [Pp.joinL] at h
  | [p], x, h => .inr ⟨p, by simp, h⟩
  | p :: q :: ps, x, h => by
    have h' : x ∈ p ++ 47 :: Pp.joinL (q :: ps) := h
    rcases List.mem_append.1 h' with h1 | h1
    · exact .inr ⟨p, by simp, h1⟩
    · rcases List.mem_cons.1 h1 with h2 | h2
      · exact .inl h2
      · rcases mem_joinL (q :: ps) x h2 with h3 | ⟨r, hr, hx⟩
        · exact .inl h3
        · exact .inr ⟨r, List.mem_cons_of_mem _ hr, hx⟩
theorem path_facts {s : ByteArray} (h : path s = true) : 1 ≤ s.size ∧ s.size ≤ 300 ∧ Nz s := by
  obtain ⟨h1, h2⟩ := (Pp.may_iff s).1 h
  refine ⟨?_, h1, ?_⟩
  · apply Nat.pos_of_ne_zero
    intro h0
    have e : Pp.pieces s = [s] := Pp.pieces_last s (by omega)
    have := (h2 s (by rw [e]; simp)).1.1
    omega
  · intro hm
    have hj := Pp.joinL_pieces s.data.toList
    rw [← hj] at hm
    rcases mem_joinL _ _ hm with h3 | ⟨p, hp, hx⟩
    · exact absurd h3 (by decide)
    · rw [← Pp.pieces_map, List.mem_map] at hp
      obtain ⟨b, hb, rfl⟩ := hp
      exact (h2 b hb).2.1 hx
theorem may_zero {p l : ByteArray} {k m u g t : Int} {n : Nat} (h : may p l k m u g t n = 0) : path p = true ∧ 1 ≤ k ∧ k ≤ 4 ∧ numOk m u g t = true ∧ kindE k l n = 0 := by
  unfold may at h
  by_cases a : path p = true
  · rw [if_pos a] at h
    by_cases b : 1 ≤ k ∧ k ≤ 4
    · rw [if_pos b] at h
      by_cases c : numOk m u g t = true
      · rw [if_pos c] at h
        exact ⟨a, b.1, b.2, c, h⟩
      · rw [if_neg c] at h; cases h
    · rw [if_neg b] at h; cases h
  · rw [if_neg a] at h; cases h
theorem num_facts {m u g t : Int} (h : numOk m u g t = true) : 0 ≤ m ∧ m ≤ 4095 ∧ 0 ≤ u ∧ u ≤ 1099511627775 ∧ 0 ≤ g ∧ g ≤ 1099511627775 ∧ -1125899906842624 ≤ t ∧ t ≤ 1125899906842624 := by
  simpa [numOk, and_assoc] using h
/-- Of a link that may be: how long it is, that it has no 0; of what is no File there are no bytes. -/
theorem kind_facts {k : Int} {l : ByteArray} {n : Nat} (h1 : 1 ≤ k) (h4 : k ≤ 4) (h : kindE k l n = 0) : l.size ≤ 300 ∧ Nz l ∧ n ≤ 4096 ∧ (k ≠ 1 → n = 0) ∧ (k = 1 ∨ k = 4 → l.size = 0) := by
  have empty : l.size = 0 → Nz l := fun h0 => by
    have : l.data.toList = [] := List.eq_nil_of_length_eq_zero h0
    unfold Nz
    rw [this]
    simp
  unfold kindE at h
  by_cases a : k = 1
  · rw [if_pos a] at h
    by_cases b : 4096 < n
    · rw [if_pos b] at h; cases h
    · rw [if_neg b] at h
      by_cases c : l.size = 0
      · exact ⟨by omega, empty c, by omega, fun x => absurd a x, fun _ => c⟩
      · rw [if_neg c] at h; cases h
  · rw [if_neg a] at h
    by_cases b : k = 2
    · rw [if_pos b] at h
      by_cases c : path l = true
      · rw [if_pos c] at h
        by_cases d : n = 0
        · obtain ⟨_, q1, q2⟩ := path_facts c
          exact ⟨q1, q2, by omega, fun _ => d, fun x => by omega⟩
        · rw [if_neg d] at h; cases h
      · rw [if_neg c] at h; cases h
    · rw [if_neg b] at h
      by_cases c : k = 3
      · rw [if_pos c] at h
        by_cases d : l.size = 0 ∨ has0 l = true
        · rw [if_pos d] at h; cases h
        · rw [if_neg d] at h
          by_cases e : 300 < l.size
          · rw [if_pos e] at h; cases h
          · rw [if_neg e] at h
            by_cases f : n = 0
            · exact ⟨by omega, nz_of (by simpa using fun x => d (.inr x)), by omega, fun _ => f, fun x => by omega⟩
            · rw [if_neg f] at h; cases h
      · rw [if_neg c] at h
        by_cases d : l.size = 0 ∧ n = 0
        · exact ⟨by omega, empty d.1, by omega, fun _ => d.2, fun _ => d.1⟩
        · rw [if_neg d] at h; cases h
/- A HEADER THAT IS LAID. -/
theorem put_text {s : ByteArray} {k : Int} (h1 : 1 ≤ k) (h2 : k ≤ 512) (h : (s.size : Int) ≤ k) (hz : Nz s) : (Sf.putS s k).2 = 0 := by
  unfold Sf.putS
  have := nz_has0 hz
  unfold has0 at this
  rw [decide_eq_false_iff_not] at this
  rw [if_neg (by omega), if_neg this, if_neg (by omega)]
theorem put_num8 {n : Int} (h0 : 0 ≤ n) (h1 : n ≤ 1099511627775) : (Nf.putS n 8).2 = 0 := by
  unfold Nf.putS
  rw [if_neg (by decide)]
  by_cases h : Nf.plain n 8 = true
  · rw [if_pos h]
  · rw [if_neg h]
    unfold Nf.putB
    have e : n / 256 ^ ((8 : Int) - 1).toNat = Nf.sgn n := by
      rw [show (256 : Int) ^ ((8 : Int) - 1).toNat = 72057594037927936 from by decide]
      unfold Nf.sgn
      rw [if_neg (by omega)]
      omega
    rw [if_pos e]
theorem put_num12 {n : Int} (h0 : -1125899906842624 ≤ n) (h1 : n ≤ 1125899906842624) : (Nf.putS n 12).2 = 0 := by
  unfold Nf.putS
  rw [if_neg (by decide)]
  by_cases h : Nf.plain n 12 = true
  · rw [if_pos h]
  · rw [if_neg h]
    unfold Nf.putB
    have e : n / 256 ^ ((12 : Int) - 1).toNat = Nf.sgn n := by
      rw [show (256 : Int) ^ ((12 : Int) - 1).toNat = 309485009821345068724781056 from by decide]
      unfold Nf.sgn
      split <;> omega
    rw [if_pos e]
theorem lay_ok (p nm l : ByteArray) (m u g t z k : Int) (hk : Hh.isT k = true) (sp : p.size ≤ 155) (sn : nm.size ≤ 100) (sl : l.size ≤ 100) (zp : Nz p) (zn : Nz nm) (zl : Nz l) (m0 : 0 ≤ m) (m1 : m ≤ 4095) (u0 : 0 ≤ u) (u1 : u ≤ 1099511627775) (g0 : 0 ≤ g) (g1 : g ≤ 1099511627775)
    (t0 : -1125899906842624 ≤ t) (t1 : t ≤ 1125899906842624) (z0 : 0 ≤ z) (z1 : z ≤ 1000000) : (Hh.layC p nm l m u g t z k).2 = 0 := by
  rw [Hh.lay_eq p nm l m u g t z k (by omega) (by omega) (by omega) (by omega) (by omega) (by omega) (by omega) (by omega) (by omega) (by omega)]
  have a0 := put_text (s := p) (k := 155) (by omega) (by omega) (by omega) zp
  have a1 := put_text (s := nm) (k := 100) (by omega) (by omega) (by omega) zn
  have a2 := put_text (s := l) (k := 100) (by omega) (by omega) (by omega) zl
  have a3 := put_num8 (n := m) m0 (by omega)
  have a4 := put_num8 (n := u) u0 u1
  have a5 := put_num8 (n := g) g0 g1
  have a6 := put_num12 (n := z) (by omega) (by omega)
  have a7 := put_num12 (n := t) t0 t1
  have c0 := (Hh.len_putT p 155).2 a0
  have c1 := (Hh.len_putT nm 100).2 a1
  have c2 := (Hh.len_putT l 100).2 a2
  have c3 := (Hh.len_putN m 8 (by omega) (by omega)).2 a3
  have c4 := (Hh.len_putN u 8 (by omega) (by omega)).2 a4
  have c5 := (Hh.len_putN g 8 (by omega) (by omega)).2 a5
  have c6 := (Hh.len_putN z 12 (by omega) (by omega)).2 a6
  have c7 := (Hh.len_putN t 12 (by omega) (by omega)).2 a7
  have hb : ¬ Hh.bel m u g z = true := by simp [Hh.bel]; omega
  unfold Hh.layS
  rw [if_pos hk, if_pos a0, if_pos a1, if_pos a2, if_pos a3, if_pos a4, if_pos a5, if_pos a6, if_pos a7, if_neg hb]
  have hl := Hh.len_whole (Sf.putS nm 100).1 (Nf.putS m 8).1 (Nf.putS u 8).1 (Nf.putS g 8).1 (Nf.putS z 12).1 (Nf.putS t 12).1 (Sf.putS l 100).1 (Nf.putS 0 8).1 (Sf.putS p 155).1 k c1 c3 c4 c5 c6 c7 c2 Hh.zero8.2 c0
  unfold Hs.putS
  rw [if_pos hl]
theorem typ_is {k : Int} (h1 : 1 ≤ k) (h4 : k ≤ 4) : Hh.isT (typ k) = true ∧ 0 ≤ typ k ∧ typ k ≤ 255 ∧ kin (typ k) = k := by
  have : k = 1 ∨ k = 2 ∨ k = 3 ∨ k = 4 := by omega
  rcases this with rfl | rfl | rfl | rfl <;> decide
theorem kin_bd (c : Int) : 0 ≤ kin c ∧ kin c ≤ 4 := by unfold kin; split <;> (try split) <;> (try split) <;> (try split) <;> omega
theorem typ_bd (c : Int) : 0 ≤ typ c ∧ typ c ≤ 255 := by unfold typ; split <;> (try split) <;> (try split) <;> (try split) <;> omega
theorem pre_facts {s : ByteArray} {k : Nat} (hk : Sf.IsCut s k) : (pre s k).size ≤ 155 := by
  unfold pre
  by_cases h1 : s.size ≤ 100
  · rw [if_pos h1]; exact Nat.zero_le _
  · rw [if_neg h1]
    by_cases h2 : k = 0
    · rw [if_pos h2]; exact Nat.zero_le _
    · rw [if_neg h2]
      obtain ⟨b1, b2, b3, b4⟩ := Sf.cut_bd hk h2
      rw [ByteArray.size_extract]; omega
theorem nam_facts {s : ByteArray} {k : Nat} (hk : Sf.IsCut s k) : (nam s k).size ≤ 100 := by
  unfold nam
  by_cases h1 : s.size ≤ 100
  · rw [if_pos h1]; exact h1
  · rw [if_neg h1]
    by_cases h2 : k = 0
    · rw [if_pos h2]; exact first_size s
    · rw [if_neg h2]
      obtain ⟨b1, b2, b3, b4⟩ := Sf.cut_bd hk h2
      rw [ByteArray.size_extract]; omega
theorem pre_nz {s : ByteArray} {k : Nat} (h : Nz s) : Nz (pre s k) := by
  unfold pre
  split
  · exact nz_nil
  · split
    · exact nz_nil
    · exact nz_ext h _ _
theorem nam_nz {s : ByteArray} {k : Nat} (h : Nz s) : Nz (nam s k) := by
  unfold nam
  split
  · exact h
  · split
    · exact nz_first h
    · exact nz_ext h _ _
theorem join_back {s : ByteArray} {k : Nat} (hk : Sf.IsCut s k) (h : fits s k = true) : join (pre s k) (nam s k) = s := by
  unfold fits at h
  by_cases h0 : s.size = 0
  · rw [if_pos h0] at h; cases h
  · rw [if_neg h0] at h
    by_cases h1 : s.size ≤ 100
    · unfold join pre nam
      rw [if_pos h1, if_pos h1]
      exact if_pos rfl
    · rw [if_neg h1] at h
      by_cases h2 : k = 0
      · rw [if_pos h2] at h; cases h
      · unfold join pre nam
        rw [if_neg h1, if_neg h1, if_neg h2, if_neg h2]
        obtain ⟨b1, b2, b3, b4⟩ := Sf.cut_bd hk h2
        have h47 : s.data.toList[k]? = some 47 := by
          rcases hk with ⟨hh, _⟩ | ⟨⟨hh, _, _, _, e, _⟩, _⟩
          · exact absurd hh h2
          · rw [← e]; exact List.getElem?_eq_getElem (by rw [← Sf.size_eq]; exact hh)
        rw [if_neg (by rw [ByteArray.size_extract]; omega)]
        apply ByteArray.ext
        apply Array.toList_inj.1
        have hd : s.data.toList.drop k = 47 :: s.data.toList.drop (k + 1) := by
          obtain ⟨hh, e⟩ := List.getElem?_eq_some_iff.1 h47
          rw [List.drop_eq_getElem_cons hh, e]
        have e : s.data.toList = s.data.toList.take k ++ (47 :: s.data.toList.drop (k + 1)) := by rw [← hd, List.take_append_drop]
        rw [ByteArray.data_append, ByteArray.data_append, Array.toList_append, Array.toList_append, Lib.extract_data, Lib.extract_data]
        simp only [List.drop_zero, Nat.sub_zero]
        rw [List.take_of_length_le (l := List.drop (k + 1) _) (by rw [List.length_drop, ← Sf.size_eq]; omega)]
        conv => rhs; rw [e]
        simp
theorem fits_small {s : ByteArray} {k : Nat} (h : fits s k = false) (h0 : 1 ≤ s.size) : 100 < s.size ∧ k = 0 := by
  unfold fits at h
  rw [if_neg (by omega)] at h
  by_cases h1 : s.size ≤ 100
  · rw [if_pos h1] at h; cases h
  · rw [if_neg h1] at h
    by_cases h2 : k = 0
    · exact ⟨by omega, h2⟩
    · rw [if_neg h2] at h; cases h
theorem nam_first {s : ByteArray} {k : Nat} (h : fits s k = false) (h0 : 1 ≤ s.size) : pre s k = ⟨#[]⟩ ∧ nam s k = first s := by
  obtain ⟨a, b⟩ := fits_small h h0
  unfold pre nam
  rw [if_neg (by omega : ¬ s.size ≤ 100), if_neg (by omega : ¬ s.size ≤ 100), if_pos b, if_pos b]
  exact ⟨rfl, rfl⟩
/- THE RECORDS. -/
theorem recs_len (p l : ByteArray) (c : Nat) : (recsL p l c).length ≤ 2 := by
  unfold recsL
  split <;> split <;> simp
theorem recs_mem {p l : ByteArray} {c : Nat} : ∀ r ∈ recsL p l c, r = (kPath, p) ∨ r = (kLink, l) := by
  intro r hr
  unfold recsL at hr
  rcases List.mem_append.1 hr with h | h
  · split at h
    · cases h
    · exact .inl (by simpa using h)
  · split at h
    · exact .inr (by simpa using h)
    · cases h
theorem may_path {p : ByteArray} (h : p.size ≤ 2000) : Rc.mayN (kPath, p) = 0 := by
  unfold Rc.mayN
  rw [if_pos (show Rc.kOk kPath.data.toList = true by decide), if_pos h]
theorem may_link {p : ByteArray} (h : p.size ≤ 2000) : Rc.mayN (kLink, p) = 0 := by
  unfold Rc.mayN
  rw [if_pos (show Rc.kOk kLink.data.toList = true by decide), if_pos h]
theorem layE_all : ∀ rs : List Rc.Rec, (∀ r ∈ rs, Rc.mayN r = 0) → Rc.layE rs = 0
  | [], _ => rfl
  | r :: t, h => by
    unfold Rc.layE
    rw [if_pos (h r (by simp))]
    exact layE_all t fun x hx => h x (List.mem_cons_of_mem _ hx)
theorem recs_ok {p l : ByteArray} {c : Nat} (hp : p.size ≤ 2000) (hl : l.size ≤ 2000) : Rc.layE (recsL p l c) = 0 := by
  apply layE_all
  intro r hr
  rcases recs_mem r hr with rfl | rfl
  · exact may_path hp
  · exact may_link hl
theorem recs_size (p l : ByteArray) (c : Nat) : (Rc.layB (recsL p l c)).length ≤ 5000 := by
  have h1 := recs_len p l c
  have h2 := Rc.flat_len (recsL p l c)
  unfold Rc.layB
  split
  · omega
  · simp
theorem pax_ok {b : Rc.Bs} (h : b.length ≤ 5000) : (Hh.layC ⟨#[]⟩ kPax ⟨#[]⟩ 0 0 0 0 (b.length : Int) 120).2 = 0 :=
  lay_ok ⟨#[]⟩ kPax ⟨#[]⟩ 0 0 0 0 (b.length : Int) 120 (by decide) (by decide) (by decide) (by decide) nz_nil (by unfold Nz; decide) nz_nil (by omega) (by omega) (by omega) (by omega) (by omega) (by omega) (by omega) (by omega) (by omega) (by omega)
theorem own_ok {p l : ByteArray} {c : Nat} {k m u g t : Int} {n : Nat} (hc : Sf.IsCut p c) (h : may p l k m u g t n = 0) : (Hh.layC (pre p c) (nam p c) (first l) m u g t (n : Int) (typ k)).2 = 0 := by
  obtain ⟨a, b, b2, d, e⟩ := may_zero h
  obtain ⟨m0, m1, u0, u1, g0, g1, t0, t1⟩ := num_facts d
  obtain ⟨_, _, pz⟩ := path_facts a
  obtain ⟨_, lz, ln, _, _⟩ := kind_facts b b2 e
  exact lay_ok _ _ _ _ _ _ _ _ _ (typ_is b b2).1 (pre_facts hc) (nam_facts hc) (first_size l) (pre_nz pz) (nam_nz pz) (nz_first lz) m0 m1 u0 u1 g0 g1 t0 t1 (by omega) (by omega)
/-- The header of what is laid, read. -/
theorem own_back {p l : ByteArray} {c : Nat} {k m u g t : Int} {n : Nat} (hc : Sf.IsCut p c) (h : may p l k m u g t n = 0) :
    Hh.parE (hdrB p l c k m u g t n) = 0 ∧ Hh.parV (hdrB p l c k m u g t n) = Hh.hdr (pre p c) (nam p c) (first l) m u g t (n : Int) (typ k) ∧ (hdrB p l c k m u g t n).length = 512 ∧ Byt (hdrB p l c k m u g t n) := by
  obtain ⟨a, b, b2, d, e⟩ := may_zero h
  obtain ⟨m0, m1, u0, u1, g0, g1, t0, t1⟩ := num_facts d
  obtain ⟨_, _, ln, _, _⟩ := kind_facts b b2 e
  obtain ⟨x1, x2, x3, x4, _⟩ := Hh.back (pre p c) (nam p c) (first l) m u g t (n : Int) (typ k) (by omega) (by omega) (by omega) (by omega) (by omega) (by omega) (by omega) (by omega) (by omega) (by omega) (own_ok hc h)
  exact ⟨x1, x2, x3, x4⟩
theorem pax_len {b : Rc.Bs} (h : b.length ≤ 5000) : (Hh.layC ⟨#[]⟩ kPax ⟨#[]⟩ 0 0 0 0 (b.length : Int) 120).1.length = 512 :=
  (Hh.back ⟨#[]⟩ kPax ⟨#[]⟩ 0 0 0 0 (b.length : Int) 120 (by omega) (by omega) (by omega) (by omega) (by omega) (by omega) (by omega) (by omega) (by omega) (by omega) (pax_ok h)).2.2.1
theorem fill_len (xs : List Int) : (fill xs).length = (xs.length + 511) / 512 * 512 := by
  unfold fill
  rw [List.length_append, List.length_replicate]
  split <;> omega
theorem own_len {p l : ByteArray} {c : Nat} {k m u g t : Int} {xs : List Int} (hc : Sf.IsCut p c) (h : may p l k m u g t xs.length = 0) : (ownB p l c k m u g t xs).length = 512 + (xs.length + 511) / 512 * 512 := by
  unfold ownB
  rw [List.length_append, (own_back hc h).2.2.1, fill_len]
theorem recB_len (p l : ByteArray) (c : Nat) : (recB (recsL p l c)).length % 512 = 0 ∧ (recB (recsL p l c)).length ≤ 6000 ∧ ((recB (recsL p l c)).length = 0 ↔ recsL p l c = []) := by
  unfold recB
  split
  · rename_i h
    exact ⟨rfl, Nat.zero_le _, by simp [h]⟩
  · rename_i h
    have hs := recs_size p l c
    have hl := pax_len hs
    unfold paxB
    rw [List.length_append, hl, fill_len, Rc.ints_len]
    refine ⟨by omega, by omega, ?_⟩
    constructor
    · intro h2; omega
    · intro h2; exact absurd h2 h
/- FROM. -/
theorem key_ne : ¬ kLink = kPath := by decide
theorem find_path {p l : ByteArray} {c : Nat} : Rc.findR kPath (recsL p l c) = if fits p c = true then none else some p := by
  unfold recsL
  by_cases h : fits p c = true
  · rw [if_pos h, if_pos h, List.nil_append]
    by_cases h2 : 100 < l.size
    · rw [if_pos h2]
      unfold Rc.findR
      simp [Rc.findR, key_ne]
    · rw [if_neg h2]; rfl
  · rw [if_neg h, if_neg h]
    by_cases h2 : 100 < l.size
    · rw [if_pos h2]
      simp [Rc.findR, key_ne]
    · rw [if_neg h2]
      simp [Rc.findR]
theorem find_link {p l : ByteArray} {c : Nat} : Rc.findR kLink (recsL p l c) = if 100 < l.size then some l else none := by
  have key_ne2 : ¬ kPath = kLink := by decide
  unfold recsL
  by_cases h2 : 100 < l.size
  · rw [if_pos h2, if_pos h2]
    by_cases h : fits p c = true
    · rw [if_pos h]; simp [Rc.findR]
    · rw [if_neg h]; simp [Rc.findR]
  · rw [if_neg h2, if_neg h2]
    by_cases h : fits p c = true
    · rw [if_pos h]; rfl
    · rw [if_neg h]; simp [Rc.findR, key_ne2]
theorem from_back {p l : ByteArray} {c : Nat} {k m u g t : Int} {xs : List Int} (hc : Sf.IsCut p c) (h : may p l k m u g t xs.length = 0) :
    fP (recsL p l c) (pre p c) (nam p c) = p ∧ kin (typ k) = k ∧ fL (recsL p l c) (typ k) (first l) = l ∧ fX (typ k) xs = xs ∧ fE (recsL p l c) (pre p c) (nam p c) (first l) (typ k) m u g t xs = 0 := by
  obtain ⟨a, b, b2, d, e⟩ := may_zero h
  obtain ⟨ll, _, _, ln, l0⟩ := kind_facts b b2 e
  have e1 : fP (recsL p l c) (pre p c) (nam p c) = p := by
    unfold fP told8
    rw [find_path]
    by_cases hf : fits p c = true
    · rw [if_pos hf]; exact join_back hc hf
    · rw [if_neg hf]
  have e2 := (typ_is b b2).2.2.2
  have e3 : fL (recsL p l c) (typ k) (first l) = l := by
    unfold fL told8
    rw [e2, find_link]
    by_cases hf : 100 < l.size
    · rw [if_pos hf]
      by_cases hk : k = 2 ∨ k = 3
      · rw [if_pos hk]
      · rw [if_neg hk]
        have := l0 (by omega)
        omega
    · rw [if_neg hf]
      by_cases hk : k = 2 ∨ k = 3
      · rw [if_pos hk]; exact first_all (by omega)
      · rw [if_neg hk]
        have h0 := l0 (by omega)
        apply ByteArray.ext
        apply Array.toList_inj.1
        have : l.data.toList = [] := List.eq_nil_of_length_eq_zero h0
        rw [this]
  have e4 : fX (typ k) xs = xs := by
    unfold fX
    rw [e2]
    by_cases hk : k = 1
    · rw [if_pos hk]
    · rw [if_neg hk]
      exact (List.eq_nil_of_length_eq_zero (ln hk)).symm
  refine ⟨e1, e2, e3, e4, ?_⟩
  unfold fE
  rw [e1, e2, e3, e4, if_neg (by omega), h]
theorem lay_eq8 {p l : ByteArray} {c : Nat} {k m u g t : Int} {xs : List Int} (h : may p l k m u g t xs.length = 0) : layM p l c k m u g t xs = recB (recsL p l c) ++ ownB p l c k m u g t xs := by
  unfold layM; rw [if_pos h]
theorem lay_bad {p l : ByteArray} {c : Nat} {k m u g t : Int} {xs : List Int} (h : may p l k m u g t xs.length ≠ 0) : layM p l c k m u g t xs = [] := by
  unfold layM; rw [if_neg h]
end Mb
end Go.Proofs.YtjofdgjcbjdhbaaGreatDoor
/- PLAIN MATHEMATICS OF LAYER 9 (archives as bytes): what is scanned, step by step; what is laid is scanned; a beginning of what is scanned. No Go text is named. -/
namespace Go.Proofs.YtjofdgjcbjdhbaaGreatDoor
open Go.RowKit
set_option linter.unusedVariables false
set_option maxRecDepth 100000
namespace Ar
/-- A member. -/
structure Mem where
  p : ByteArray
  l : ByteArray
  k : Int
  m : Int
  u : Int
  g : Int
  t : Int
  xs : List Int
def Mem.may (x : Mem) : Int := Mb.may x.p x.l x.k x.m x.u x.g x.t x.xs.length
/-- Its bytes; q: where a path is parted. -/
def Mem.lay (q : ByteArray → Nat) (x : Mem) : List Int := Mb.layM x.p x.l (q x.p) x.k x.m x.u x.g x.t x.xs
/-- What a header's block tells. -/
def hp (x : List Int) : ByteArray := strOfNums (Sf.getS (Hh.sub x 345 155)).1
def hn (x : List Int) : ByteArray := strOfNums (Sf.getS (Hh.sub x 0 100)).1
def hl (x : List Int) : ByteArray := strOfNums (Sf.getS (Hh.sub x 157 100)).1
def hm (x : List Int) : Int := (Hh.gld x 0).1
def hu (x : List Int) : Int := (Hh.gld x 1).1
def hg (x : List Int) : Int := (Hh.gld x 2).1
def hz (x : List Int) : Int := (Hh.gld x 3).1
def ht (x : List Int) : Int := (Hh.gld x 4).1
def hk (x : List Int) : Int := Hh.kindOf x
/-- Numbers as bytes. -/
def toB (xs : List Int) : Rc.Bs := xs.map fun z => UInt8.ofNat z.toNat
/-- Where a scan stands. -/
structure S where
  at_ : Nat
  al : List Rc.Rec
  nx : List Rc.Rec
  out : List (Mem × Nat)
/-- A step: it ends with an error's number (0: none), or goes on. -/
inductive R where
  | fin (e : Int)
  | go (s : S)
def endE (b : List Int) (s : S) : Int :=
  if b.length < s.at_ + 1024 then 4
  else if Hs.zeroS ((b.drop (s.at_ + 512)).take 512) = true ∧ s.nx.length = 0 ∧ b.length ≤ s.at_ + 1024 then 0 else 3
def recsOf (s : S) : List Rc.Rec := s.al ++ s.nx
def fromE (s : S) (x d : List Int) : Int := Mb.fE (recsOf s) (hp x) (hn x) (hl x) (hk x) (hm x) (hu x) (hg x) (ht x) d
def memOf (s : S) (x d : List Int) : Mem := ⟨Mb.fP (recsOf s) (hp x) (hn x), Mb.fL (recsOf s) (hk x) (hl x), Mb.kin (hk x), hm x, hu x, hg x, ht x, Mb.fX (hk x) d⟩
def body (s : S) (x d : List Int) (a : Nat) : R :=
  if hk x = 120 then
    if (Rc.parse (toB d)).2 = 0 then (if s.nx.length = 0 then .go ⟨a, s.al, (Rc.parse (toB d)).1, s.out⟩ else .fin 3)
    else .fin (Rc.parse (toB d)).2
  else if hk x = 103 then
    if (Rc.parse (toB d)).2 = 0 then .go ⟨a, s.al ++ (Rc.parse (toB d)).1, s.nx, s.out⟩ else .fin (Rc.parse (toB d)).2
  else if fromE s x d = 0 then (if s.out.length = 64 then .fin 5 else .go ⟨a, s.al, [], s.out ++ [(memOf s x d, a)]⟩)
  else .fin (fromE s x d)
def entry (s : S) (x y : List Int) : R :=
  if Hh.parE x = 0 then
    if 4096 < hz x then .fin 10
    else if Bk.err y.length (hz x) = 0 then body s x (y.take (hz x).toNat) (s.at_ + 512 + (hz x).toNat + (Bk.pad (hz x)).toNat)
    else .fin (Bk.err y.length (hz x))
  else .fin (Hh.parE x)
def blk (b : List Int) (s : S) : List Int := (b.drop s.at_).take 512
def stp (b : List Int) (s : S) : R :=
  if b.length < s.at_ + 512 then .fin 4
  else if Hs.zeroS (blk b s) = true then .fin (endE b s)
  else entry s (blk b s) (b.drop (s.at_ + 512))
def run : Nat → List Int → S → S × Int
  | 0, _, s => (s, 4)
  | f + 1, b, s => match stp b s with
    | .fin e => (s, e)
    | .go s' => run f b s'
def scanAt (b : List Int) (s : S) : S × Int := run (b.length + 1) b s
def s0 : S := ⟨0, [], [], []⟩
def scan (b : List Int) : S × Int := scanAt b s0

theorem body_go {s s' : S} {x d : List Int} {a : Nat} (h : body s x d a = .go s') : s'.at_ = a ∧ (∃ v, s'.out = s.out ++ v) := by
  unfold body at h
  split at h
  · split at h
    · split at h
      · cases h; exact ⟨rfl, [], by simp⟩
      · cases h
    · cases h
  · split at h
    · split at h
      · cases h; exact ⟨rfl, [], by simp⟩
      · cases h
    · split at h
      · split at h
        · cases h
        · cases h; exact ⟨rfl, _, rfl⟩
      · cases h
theorem entry_go {s s' : S} {x y : List Int} (h : entry s x y = .go s') : Hh.parE x = 0 ∧ ¬ 4096 < hz x ∧ Bk.err y.length (hz x) = 0 ∧ body s x (y.take (hz x).toNat) (s.at_ + 512 + (hz x).toNat + (Bk.pad (hz x)).toNat) = .go s' := by
  unfold entry at h
  split at h
  · rename_i h1
    split at h
    · cases h
    · rename_i h2
      split at h
      · rename_i h3
        exact ⟨h1, h2, h3, h⟩
      · cases h
  · cases h
theorem stp_go {b : List Int} {s s' : S} (h : stp b s = .go s') : s.at_ + 512 ≤ b.length ∧ Hs.zeroS (blk b s) = false ∧ entry s (blk b s) (b.drop (s.at_ + 512)) = .go s' := by
  unfold stp at h
  split at h
  · cases h
  · split at h
    · cases h
    · rename_i h1 h2
      exact ⟨by omega, by simpa using h2, h⟩
theorem stp_grow {b : List Int} {s s' : S} (h : stp b s = .go s') : s.at_ + 512 ≤ s'.at_ ∧ s'.at_ ≤ b.length ∧ (∃ v, s'.out = s.out ++ v) := by
  obtain ⟨h1, _, h2⟩ := stp_go h
  obtain ⟨_, _, h3, h4⟩ := entry_go h2
  obtain ⟨h5, h6⟩ := body_go h4
  obtain ⟨h7, h8⟩ := Bk.err_zero h3
  have h9 := Bk.pad_bd (hz (blk b s))
  rw [List.length_drop] at h8
  exact ⟨by omega, by omega, h6⟩
theorem run_fuel (b : List Int) : ∀ (f f' : Nat) (s : S), b.length < f + s.at_ → b.length < f' + s.at_ → run f b s = run f' b s
  | 0, 0, s, _, _ => rfl
  | 0, f' + 1, s, h, _ => by
    have : stp b s = .fin 4 := by unfold stp; rw [if_pos (by omega)]
    show (s, (4 : Int)) = match stp b s with | .fin e => (s, e) | .go s' => run f' b s'
    rw [this]
  | f + 1, 0, s, _, h => by
    have : stp b s = .fin 4 := by unfold stp; rw [if_pos (by omega)]
    show (match stp b s with | .fin e => (s, e) | .go s' => run f b s') = (s, (4 : Int))
    rw [this]
  | f + 1, f' + 1, s, h, h' => by
    show (match stp b s with | .fin e => (s, e) | .go s' => run f b s') = match stp b s with | .fin e => (s, e) | .go s' => run f' b s'
    cases hs : stp b s with
    | fin e => rfl
    | go s' =>
      obtain ⟨h1, _, _⟩ := stp_grow hs
      exact run_fuel b f f' s' (by omega) (by omega)
theorem scan_fin {b : List Int} {s : S} {e : Int} (h : stp b s = .fin e) : scanAt b s = (s, e) := by
  show (match stp b s with | .fin e => (s, e) | .go s' => run b.length b s') = _
  rw [h]
theorem scan_go {b : List Int} {s s' : S} (h : stp b s = .go s') : scanAt b s = scanAt b s' := by
  have h1 := (stp_grow h).1
  show (match stp b s with | .fin e => (s, e) | .go s' => run b.length b s') = _
  rw [h]
  exact run_fuel b _ _ s' (by omega) (by omega)
/-- By steps. -/
theorem scan_ind {b : List Int} {P : S → Prop} (hf : ∀ s e, stp b s = .fin e → P s) (hg : ∀ s s', stp b s = .go s' → P s' → P s) : ∀ s, P s := by
  have key : ∀ n s, b.length + 1 - s.at_ ≤ n → P s := by
    intro n
    induction n with
    | zero =>
      intro s hs
      cases h : stp b s with
      | fin e => exact hf s e h
      | go s' => have := stp_grow h; omega
    | succ n ih =>
      intro s hs
      cases h : stp b s with
      | fin e => exact hf s e h
      | go s' => exact hg s s' h (ih s' (by have := stp_grow h; omega))
  exact fun s => key _ s (Nat.le_refl _)
theorem scan_out (b : List Int) (s : S) : ∃ v, (scanAt b s).1.out = s.out ++ v := by
  refine scan_ind (P := fun s => ∃ v, (scanAt b s).1.out = s.out ++ v) (fun s e h => ⟨[], by rw [scan_fin h]; simp⟩) (fun s s' h hv => ?_) s
  obtain ⟨v, hv⟩ := hv
  obtain ⟨_, _, u, hu⟩ := stp_grow h
  exact ⟨u ++ v, by rw [scan_go h, hv, hu, List.append_assoc]⟩
/- A BEGINNING. -/
theorem blk_take {b : List Int} {k : Nat} {s : S} (h : s.at_ + 512 ≤ (b.take k).length) : blk (b.take k) s = blk b s := by
  rw [List.length_take] at h
  unfold blk
  rw [List.drop_take, List.take_take, Nat.min_eq_left (by omega)]
theorem stp_mono {b : List Int} {k : Nat} {s s' : S} (h : stp (b.take k) s = .go s') : stp b s = .go s' := by
  obtain ⟨h1, h2, h3⟩ := stp_go h
  have hb := blk_take h1
  rw [hb] at h2 h3
  obtain ⟨e1, e2, e3, e4⟩ := entry_go h3
  obtain ⟨z0, z1⟩ := Bk.err_zero e3
  have zb := Bk.pad_bd (hz (blk b s))
  have hlen := h1
  rw [List.length_take] at hlen
  rw [List.length_drop, List.length_take] at z1
  unfold stp
  rw [if_neg (by omega), if_neg (by rw [h2]; simp)]
  unfold entry
  have e3' : Bk.err (b.drop (s.at_ + 512)).length (hz (blk b s)) = 0 := by
    unfold Bk.err at e3 ⊢
    rw [List.length_drop] at e3 ⊢
    rw [List.length_take] at e3
    rw [if_neg (by omega)] at e3 ⊢
    by_cases hc : (((min k b.length - (s.at_ + 512)) / 512 : Nat) : Int) < Bk.cnt (hz (blk b s))
    · rw [if_pos hc] at e3; cases e3
    · rw [if_neg]
      have : (min k b.length - (s.at_ + 512)) / 512 ≤ (b.length - (s.at_ + 512)) / 512 := Nat.div_le_div_right (by omega)
      omega
  rw [if_pos e1, if_neg e2, if_pos e3']
  rw [← e4]
  congr 1
  rw [List.drop_take, List.take_take, Nat.min_eq_left (by omega)]
theorem scan_begin (b : List Int) (k : Nat) (s : S) : ∃ v, (scanAt b s).1.out = (scanAt (b.take k) s).1.out ++ v := by
  refine scan_ind (b := b.take k) (P := fun s => ∃ v, (scanAt b s).1.out = (scanAt (b.take k) s).1.out ++ v) (fun s e h => ?_) (fun s s' h hv => ?_) s
  · rw [scan_fin h]
    exact scan_out b s
  · rw [scan_go h, scan_go (stp_mono h)]
    exact hv
/- WHAT IS SCANNED MAY BE. -/
def Good (s : S) : Prop := s.out.length ≤ 64 ∧ ∀ x ∈ s.out, x.1.may = 0
theorem fromE_zero {s : S} {x d : List Int} (h : fromE s x d = 0) : (memOf s x d).may = 0 := by
  unfold fromE Mb.fE at h
  split at h
  · cases h
  · exact h
theorem body_good {s s' : S} {x d : List Int} {a : Nat} (h : body s x d a = .go s') (hs : Good s) : Good s' := by
  unfold body at h
  split at h
  · split at h
    · split at h
      · cases h; exact hs
      · cases h
    · cases h
  · split at h
    · split at h
      · cases h; exact hs
      · cases h
    · split at h
      · rename_i he
        split at h
        · cases h
        · rename_i hl
          cases h
          refine ⟨?_, fun y hy => ?_⟩
          · have := hs.1
            show (s.out ++ [(memOf s x d, a)]).length ≤ 64
            simp; omega
          · rcases List.mem_append.1 hy with h1 | h1
            · exact hs.2 y h1
            · obtain rfl : y = (memOf s x d, a) := by simpa using h1
              exact fromE_zero he
      · cases h
theorem scan_good {b : List Int} : ∀ s, Good s → Good (scanAt b s).1 :=
  scan_ind (P := fun s => Good s → Good (scanAt b s).1) (fun s e h hs => by rw [scan_fin h]; exact hs) fun s s' h ih hs => by
    rw [scan_go h]
    obtain ⟨_, _, h2⟩ := stp_go h
    obtain ⟨_, _, _, h4⟩ := entry_go h2
    exact ih (body_good h4 hs)
theorem good_s0 : Good s0 := ⟨by decide, fun x hx => by cases hx⟩
/- WHAT IS LAID. -/
theorem toB_ints (b : Rc.Bs) : toB (Rc.ints b) = b := by
  unfold toB Rc.ints
  rw [List.map_map]
  conv => rhs; rw [← List.map_id b]
  apply List.map_congr_left
  intro c _
  simp
theorem ints_toB {xs : List Int} (h : Byt xs) : Rc.ints (toB xs) = xs := by
  obtain ⟨l, rfl⟩ := Rc.byt_ints h
  rw [toB_ints]
theorem par_magic {x : List Int} (h : Hh.parE x = 0) : Hh.sub x 257 8 = Hh.magic := by
  by_cases hc : Hs.checkS x = 0
  · by_cases hm : Hh.sub x 257 8 = Hh.magic
    · exact hm
    · rw [Hh.parE_m x hc hm] at h; cases h
  · rw [Hh.parE_c x hc] at h; exact absurd h hc
theorem par_noZero {x : List Int} (h : Hh.parE x = 0) : Hs.zeroS x = false := by
  have hm := par_magic h
  cases hz : Hs.zeroS x with
  | false => rfl
  | true =>
    exfalso
    unfold Hs.zeroS at hz
    rw [Bool.and_eq_true, decide_eq_true_eq, List.all_eq_true] at hz
    have h1 : (117 : Int) ∈ x := by
      have : (117 : Int) ∈ Hh.sub x 257 8 := by rw [hm]; decide
      exact List.mem_of_mem_drop (List.mem_of_mem_take this)
    have := hz.2 _ h1
    simp at this
theorem hdr_parts {x : List Int} {p nm l : ByteArray} {m u g t z k : Int} (h0 : Hh.parE x = 0) (h : Hh.parV x = Hh.hdr p nm l m u g t z k) :
    hp x = p ∧ hn x = nm ∧ hl x = l ∧ hm x = m ∧ hu x = u ∧ hg x = g ∧ ht x = t ∧ hz x = z ∧ hk x = k := by
  rw [Hh.parV_ok x h0] at h
  unfold Hh.hdr at h
  simp only [Value.agg.injEq, Array.mk.injEq, List.cons.injEq, Value.string.injEq, Value.int.injEq, true_and, and_true] at h
  obtain ⟨a1, a2, a3, a4, a5, a6, a7, a8, a9⟩ := h
  exact ⟨a1, a2, a9, a3, a4, a5, a6, a7, a8⟩
theorem stp_at {pre x y : List Int} {s : S} (hpl : pre.length = s.at_) (hx : x.length = 512) (h0 : Hh.parE x = 0) : stp (pre ++ (x ++ y)) s = entry s x y := by
  have hb : blk (pre ++ (x ++ y)) s = x := by
    unfold blk
    rw [← hpl, List.drop_left, ← hx, List.take_left]
  have hd : (pre ++ (x ++ y)).drop (s.at_ + 512) = y := by
    rw [← hpl, ← List.drop_drop, List.drop_left, ← hx, List.drop_left]
  unfold stp
  rw [hb, hd, if_neg (by simp; omega), if_neg (by rw [par_noZero h0]; simp)]
theorem err_fits {n : Nat} {z : Nat} (h : (z + 511) / 512 * 512 ≤ n) : Bk.err n (z : Int) = 0 ∧ ((z : Int).toNat + (Bk.pad (z : Int)).toNat) = (z + 511) / 512 * 512 := by
  have h1 := Bk.pad_bd (z : Int)
  have h2 := Bk.pad_cnt (n := (z : Int)) (by omega)
  have h3 : Bk.cnt (z : Int) = (((z + 511) / 512 : Nat) : Int) := by omega
  constructor
  · unfold Bk.err
    rw [if_neg (by omega), if_neg]
    rw [h3]
    have : (z + 511) / 512 ≤ n / 512 := by omega
    omega
  · omega
theorem fill_front (xs y : List Int) : (Mb.fill xs ++ y).take xs.length = xs := by
  unfold Mb.fill
  rw [List.append_assoc, List.take_left]
/-- The header and the bytes of a member, behind its records. -/
theorem own_step {x : Mem} {c : Nat} (hc : Sf.IsCut x.p c) (hm0 : x.may = 0) {pre y : List Int} {s : S} (hpl : pre.length = s.at_) (ha : s.al = []) (hr : s.nx = Mb.recsL x.p x.l c) (ho : s.out.length < 64) :
    stp (pre ++ (Mb.ownB x.p x.l c x.k x.m x.u x.g x.t x.xs ++ y)) s = .go ⟨s.at_ + (Mb.ownB x.p x.l c x.k x.m x.u x.g x.t x.xs).length, [], [], s.out ++ [(x, s.at_ + (Mb.ownB x.p x.l c x.k x.m x.u x.g x.t x.xs).length)]⟩ := by
  obtain ⟨p, l, k, m, u, g, t, xs⟩ := x
  unfold Mem.may at hm0
  dsimp only at *
  obtain ⟨k0, k1, k2, k3⟩ := Mb.own_back hc hm0
  have ol := Mb.own_len hc hm0
  obtain ⟨b1, b2, b3, b4, b5⟩ := Mb.from_back hc hm0
  obtain ⟨_, t1, t4, _, ke⟩ := Mb.may_zero hm0
  obtain ⟨_, _, n4, _, _⟩ := Mb.kind_facts t1 t4 ke
  rw [ol]
  unfold Mb.ownB
  rw [List.append_assoc, stp_at hpl k2 k0]
  obtain ⟨a1, a2, a3, a4, a5, a6, a7, a8, a9⟩ := hdr_parts k0 k1
  generalize Mb.hdrB p l c k m u g t xs.length = H at *
  have fl := Mb.fill_len xs
  obtain ⟨e1, e2⟩ := err_fits (n := (Mb.fill xs ++ y).length) (z := xs.length) (by rw [List.length_append, fl]; omega)
  unfold entry
  rw [a8, if_pos k0, if_neg (by omega), if_pos e1, Nat.add_assoc, e2, Int.toNat_natCast, fill_front]
  have hrs : recsOf s = Mb.recsL p l c := by unfold recsOf; rw [ha, hr]; rfl
  have hfe : fromE s H xs = 0 := by unfold fromE; rw [hrs, a1, a2, a3, a9, a4, a5, a6, a7]; exact b5
  have hme : memOf s H xs = ⟨p, l, k, m, u, g, t, xs⟩ := by unfold memOf; rw [hrs, a1, a2, a3, a9, a4, a5, a6, a7, b1, b2, b3, b4]
  have tk : Mb.typ k ≠ 120 ∧ Mb.typ k ≠ 103 := by
    have : k = 1 ∨ k = 2 ∨ k = 3 ∨ k = 4 := by omega
    rcases this with rfl | rfl | rfl | rfl <;> decide
  unfold body
  rw [a9, if_neg tk.1, if_neg tk.2, if_pos hfe, if_neg (by omega), hme, ha, ← Nat.add_assoc]
/-- A header of records. -/
theorem pax_step {rs : List Rc.Rec} (hE : Rc.layE rs = 0) (hs : (Rc.layB rs).length ≤ 5000) (hs4 : (Rc.layB rs).length ≤ 4096) {pre y : List Int} {s : S} (hpl : pre.length = s.at_) (hr : s.nx = []) :
    stp (pre ++ (Mb.paxB (Rc.layB rs) ++ y)) s = .go ⟨s.at_ + (Mb.paxB (Rc.layB rs)).length, s.al, rs, s.out⟩ := by
  obtain ⟨k0, k1, k2, k3, _⟩ := Hh.back ⟨#[]⟩ Mb.kPax ⟨#[]⟩ 0 0 0 0 ((Rc.layB rs).length : Int) 120 (by omega) (by omega) (by omega) (by omega) (by omega) (by omega) (by omega) (by omega) (by omega) (by omega) (Mb.pax_ok hs)
  have hlb : Rc.layB rs = Rc.flat rs := by unfold Rc.layB; rw [if_pos hE]
  have hlp := Rc.lay_parse rs hE
  unfold Mb.paxB
  obtain ⟨a1, a2, a3, a4, a5, a6, a7, a8, a9⟩ := hdr_parts k0 k1
  generalize (Hh.layC ⟨#[]⟩ Mb.kPax ⟨#[]⟩ 0 0 0 0 ((Rc.layB rs).length : Int) 120).1 = H at *
  have fl := Mb.fill_len (Rc.ints (Rc.layB rs))
  have il := Rc.ints_len (Rc.layB rs)
  rw [List.append_assoc, stp_at hpl k2 k0]
  obtain ⟨e1, e2⟩ := err_fits (n := (Mb.fill (Rc.ints (Rc.layB rs)) ++ y).length) (z := (Rc.layB rs).length) (by rw [List.length_append, fl, il]; omega)
  have ff := fill_front (Rc.ints (Rc.layB rs)) y
  rw [il] at ff
  unfold entry
  rw [a8, if_pos k0, if_neg (by omega), if_pos e1, Nat.add_assoc, e2, Int.toNat_natCast, ff]
  unfold body
  rw [a9, if_pos rfl, toB_ints, hlb, hlp, if_pos rfl, if_pos (by rw [hr]; rfl), ← hlb, List.length_append, k2, fl, il, Nat.add_assoc]
theorem recs_size4 {p l : ByteArray} {c : Nat} (hp : p.size ≤ 300) (hl : l.size ≤ 300) : (Rc.layB (Mb.recsL p l c)).length ≤ 4096 := by
  have h1 := Mb.recs_len p l c
  have one : ∀ r ∈ Mb.recsL p l c, (Rc.oneL r).length ≤ 400 := by
    intro r hr
    rw [Rc.one_len]
    unfold Rc.lenR
    split
    · rcases Mb.recs_mem r hr with rfl | rfl
      · have e : Rc.restN (Mb.kPath, p) = 4 + p.size + 3 := rfl
        rw [e]; unfold Rc.lenN; split <;> (try split) <;> (try split) <;> omega
      · have e : Rc.restN (Mb.kLink, l) = 8 + l.size + 3 := rfl
        rw [e]; unfold Rc.lenN; split <;> (try split) <;> (try split) <;> omega
    · omega
  have fl : ∀ rs : List Rc.Rec, (∀ r ∈ rs, (Rc.oneL r).length ≤ 400) → (Rc.flat rs).length ≤ rs.length * 400 := by
    intro rs
    induction rs with
    | nil => intro _; exact Nat.le_refl _
    | cons r t ih =>
      intro h
      have h2 := ih fun x hx => h x (List.mem_cons_of_mem _ hx)
      have h3 := h r (by simp)
      have e : Rc.flat (r :: t) = Rc.oneL r ++ Rc.flat t := rfl
      rw [e, List.length_append, List.length_cons]
      omega
  have := fl _ one
  unfold Rc.layB
  split
  · omega
  · exact Nat.zero_le _
theorem lay_of {q : ByteArray → Nat} {x : Mem} (h : x.may = 0) : x.lay q = Mb.recB (Mb.recsL x.p x.l (q x.p)) ++ Mb.ownB x.p x.l (q x.p) x.k x.m x.u x.g x.t x.xs := Mb.lay_eq8 h
/-- One member. -/
theorem mem_step {q : ByteArray → Nat} (hq : ∀ p, Sf.IsCut p (q p)) {x : Mem} (h : x.may = 0) {pre y : List Int} {out : List (Mem × Nat)} (ho : out.length < 64) :
    scanAt (pre ++ (x.lay q ++ y)) ⟨pre.length, [], [], out⟩ = scanAt (pre ++ (x.lay q ++ y)) ⟨pre.length + (x.lay q).length, [], [], out ++ [(x, pre.length + (x.lay q).length)]⟩ := by
  have hm := h
  unfold Mem.may at hm
  obtain ⟨a, b, b2, d, e⟩ := Mb.may_zero hm
  obtain ⟨_, p3, _⟩ := Mb.path_facts a
  obtain ⟨l3, _, _, _, _⟩ := Mb.kind_facts b b2 e
  rw [lay_of h]
  by_cases hr : Mb.recsL x.p x.l (q x.p) = []
  · have e0 : Mb.recB (Mb.recsL x.p x.l (q x.p)) = [] := by unfold Mb.recB; rw [if_pos hr]
    rw [e0, List.nil_append]
    exact scan_go (own_step (hq x.p) h rfl rfl hr.symm ho)
  · have e0 : Mb.recB (Mb.recsL x.p x.l (q x.p)) = Mb.paxB (Rc.layB (Mb.recsL x.p x.l (q x.p))) := by unfold Mb.recB; rw [if_neg hr]
    rw [e0, List.append_assoc]
    rw [scan_go (pax_step (Mb.recs_ok (by omega) (by omega)) (Mb.recs_size _ _ _) (recs_size4 p3 l3) rfl rfl)]
    rw [← List.append_assoc, scan_go (own_step (hq x.p) h (by simp) rfl rfl ho)]
    simp only [List.length_append, Nat.add_assoc]
def layE : List Mem → Int
  | [] => 0
  | x :: t => if x.may = 0 then layE t else x.may
def flat (q : ByteArray → Nat) (ms : List Mem) : List Int := ms.flatMap (Mem.lay q)
/-- Where members end, the first one from a on. -/
def ends (q : ByteArray → Nat) : Nat → List Mem → List Nat
  | _, [] => []
  | a, x :: t => (a + (x.lay q).length) :: ends q (a + (x.lay q).length) t
def outs (q : ByteArray → Nat) : Nat → List Mem → List (Mem × Nat)
  | _, [] => []
  | a, x :: t => (x, a + (x.lay q).length) :: outs q (a + (x.lay q).length) t
def Err (ms : List Mem) : Int := if 64 < ms.length then 5 else layE ms
def bytes (q : ByteArray → Nat) (ms : List Mem) : List Int := if Err ms = 0 then flat q ms ++ List.replicate 1024 0 else []
def endsL (q : ByteArray → Nat) (ms : List Mem) : List Nat := if Err ms = 0 then ends q 0 ms else []
theorem layE_all {ms : List Mem} (h : layE ms = 0) : ∀ x ∈ ms, x.may = 0 := by
  induction ms with
  | nil => intro x hx; cases hx
  | cons y t ih =>
    unfold layE at h
    split at h
    · rename_i hy
      intro x hx
      rcases List.mem_cons.1 hx with rfl | hx
      · exact hy
      · exact ih h x hx
    · rename_i hy; exact absurd h hy
theorem layE_of {ms : List Mem} (h : ∀ x ∈ ms, x.may = 0) : layE ms = 0 := by
  induction ms with
  | nil => rfl
  | cons y t ih =>
    unfold layE
    rw [if_pos (h y (by simp))]
    exact ih fun x hx => h x (List.mem_cons_of_mem _ hx)
theorem zeros_zero : Hs.zeroS (List.replicate 512 0) = true := by
  unfold Hs.zeroS
  rw [Bool.and_eq_true]
  exact ⟨by simp, by simp⟩
theorem scan_end (pre : List Int) (out : List (Mem × Nat)) : scanAt (pre ++ List.replicate 1024 0) ⟨pre.length, [], [], out⟩ = (⟨pre.length, [], [], out⟩, 0) := by
  apply scan_fin
  have hb : blk (pre ++ List.replicate 1024 0) ⟨pre.length, [], [], out⟩ = List.replicate 512 0 := by
    unfold blk
    dsimp only
    rw [List.drop_left, List.take_replicate]
    rfl
  have hd : ((pre ++ List.replicate 1024 (0 : Int)).drop (pre.length + 512)).take 512 = List.replicate 512 0 := by
    rw [← List.drop_drop, List.drop_left, List.drop_replicate, List.take_replicate]
    rfl
  unfold stp
  rw [hb, if_neg (by simp), if_pos zeros_zero]
  unfold endE
  dsimp only
  rw [hd, if_neg (by simp), if_pos ⟨zeros_zero, rfl, by simp⟩]
theorem scan_flat {q : ByteArray → Nat} (hq : ∀ p, Sf.IsCut p (q p)) : ∀ (ms : List Mem) (pre : List Int) (out : List (Mem × Nat)), (∀ x ∈ ms, x.may = 0) → out.length + ms.length ≤ 64 →
    ∃ a, scanAt (pre ++ (flat q ms ++ List.replicate 1024 0)) ⟨pre.length, [], [], out⟩ = (⟨a, [], [], out ++ outs q pre.length ms⟩, 0)
  | [], pre, out, _, _ => ⟨_, by rw [show flat q [] = [] from rfl, List.nil_append, scan_end, show outs q pre.length [] = [] from rfl, List.append_nil]⟩
  | x :: t, pre, out, h, hl => by
    have e : flat q (x :: t) ++ List.replicate 1024 0 = x.lay q ++ (flat q t ++ List.replicate 1024 0) := by
      show (x.lay q ++ flat q t) ++ _ = _
      rw [List.append_assoc]
    rw [List.length_cons] at hl
    rw [e, mem_step hq (h x (by simp)) (by omega)]
    obtain ⟨a, ha⟩ := scan_flat hq t (pre ++ x.lay q) (out ++ [(x, pre.length + (x.lay q).length)]) (fun y hy => h y (List.mem_cons_of_mem _ hy)) (by rw [List.length_append, List.length_singleton]; omega)
    rw [List.append_assoc, List.length_append] at ha
    refine ⟨a, ?_⟩
    rw [ha]
    show _ = ((⟨a, [], [], out ++ (x, pre.length + (x.lay q).length) :: outs q (pre.length + (x.lay q).length) t⟩ : S), (0 : Int))
    rw [List.append_assoc]
    rfl
/-- WHAT IS LAID IS SCANNED. -/
theorem scan_lay {q : ByteArray → Nat} (hq : ∀ p, Sf.IsCut p (q p)) {ms : List Mem} (h : Err ms = 0) : ∃ a, scan (bytes q ms) = (⟨a, [], [], outs q 0 ms⟩, 0) := by
  have hl : ms.length ≤ 64 := by
    unfold Err at h
    split at h
    · cases h
    · omega
  have he : layE ms = 0 := by
    unfold Err at h
    rwa [if_neg (by omega)] at h
  unfold bytes
  rw [if_pos h]
  obtain ⟨a, ha⟩ := scan_flat hq ms [] [] (layE_all he) (by simpa using hl)
  exact ⟨a, by simpa [scan, s0] using ha⟩
/-- What is scanned may be laid. -/
theorem scan_err (b : List Int) : Err ((scan b).1.out.map Prod.fst) = 0 := by
  obtain ⟨h1, h2⟩ := scan_good (b := b) s0 good_s0
  unfold Err
  rw [List.length_map, if_neg (by unfold scan; omega)]
  apply layE_of
  intro x hx
  obtain ⟨y, hy, rfl⟩ := List.mem_map.1 hx
  exact h2 y hy
theorem outs_fst (q : ByteArray → Nat) : ∀ (a : Nat) (ms : List Mem), (outs q a ms).map Prod.fst = ms
  | _, [] => rfl
  | a, x :: t => by
    show x :: (outs q _ t).map Prod.fst = _
    rw [outs_fst q _ t]
theorem outs_snd (q : ByteArray → Nat) : ∀ (a : Nat) (ms : List Mem), (outs q a ms).map Prod.snd = ends q a ms
  | _, [] => rfl
  | a, x :: t => by
    show _ :: (outs q _ t).map Prod.snd = _
    rw [outs_snd q _ t]
    rfl
/- ONE MEMBER MORE. -/
theorem lay_len {q : ByteArray → Nat} (hq : ∀ p, Sf.IsCut p (q p)) (x : Mem) : (x.lay q).length ≤ 12000 := by
  by_cases h : x.may = 0
  · have hm := h
    unfold Mem.may at hm
    obtain ⟨a, b, b2, d, e⟩ := Mb.may_zero hm
    obtain ⟨_, _, n4, _, _⟩ := Mb.kind_facts b b2 e
    have h1 := (Mb.recB_len x.p x.l (q x.p)).2.1
    have h2 := Mb.own_len (hq x.p) hm
    rw [lay_of h, List.length_append, h2]
    omega
  · unfold Mem.lay
    rw [Mb.lay_bad h]
    exact Nat.zero_le _
theorem flat_snoc (q : ByteArray → Nat) (l : List Mem) (x : Mem) : flat q (l ++ [x]) = flat q l ++ x.lay q := by
  unfold flat
  rw [List.flatMap_append]
  simp
theorem flat_len {q : ByteArray → Nat} (hq : ∀ p, Sf.IsCut p (q p)) : ∀ l : List Mem, (flat q l).length ≤ l.length * 12000
  | [] => Nat.zero_le _
  | x :: t => by
    have h1 := lay_len hq x
    have h2 := flat_len hq t
    show (x.lay q ++ flat q t).length ≤ _
    rw [List.length_append, List.length_cons]
    omega
theorem ends_snoc (q : ByteArray → Nat) : ∀ (a : Nat) (l : List Mem) (x : Mem), ends q a (l ++ [x]) = ends q a l ++ [a + (flat q (l ++ [x])).length]
  | a, [], x => by simp [ends, flat]
  | a, y :: t, x => by
    show _ :: ends q _ (t ++ [x]) = _ :: ends q _ t ++ _
    rw [ends_snoc q _ t x]
    show _ = _ :: (ends q _ t ++ [a + (y.lay q ++ flat q (t ++ [x])).length])
    rw [List.length_append, Nat.add_assoc]
theorem ends_len (q : ByteArray → Nat) : ∀ (a : Nat) (l : List Mem), (ends q a l).length = l.length
  | _, [] => rfl
  | a, x :: t => by
    show (ends q _ t).length + 1 = _
    rw [ends_len q _ t, List.length_cons]
theorem layE_snoc {l : List Mem} {x : Mem} (h : layE l = 0) : layE (l ++ [x]) = x.may := by
  induction l with
  | nil => show (if x.may = 0 then 0 else x.may) = _; split <;> simp_all
  | cons y t ih =>
    unfold layE at h
    split at h
    · rename_i hy
      show (if y.may = 0 then layE (t ++ [x]) else y.may) = _
      rw [if_pos hy]
      exact ih h
    · rename_i hy; exact absurd h hy
theorem layE_front {a b : List Mem} (h : layE a ≠ 0) : layE (a ++ b) = layE a := by
  induction a with
  | nil => exact absurd rfl h
  | cons y t ih =>
    unfold layE at h
    show (if y.may = 0 then layE (t ++ b) else y.may) = (if y.may = 0 then layE t else y.may)
    split at h
    · rename_i hy
      rw [if_pos hy, if_pos hy]
      exact ih h
    · rename_i hy; rw [if_neg hy, if_neg hy]
/-- The first one that may not be. -/
theorem layE_stop {ms : List Mem} {j : Nat} {x : Mem} (h : layE (ms.take j) = 0) (ht : ms.take (j + 1) = ms.take j ++ [x]) (hx : x.may ≠ 0) : layE ms = x.may := by
  have h1 : layE (ms.take (j + 1)) = x.may := by rw [ht]; exact layE_snoc h
  have h2 := layE_front (a := ms.take (j + 1)) (b := ms.drop (j + 1)) (by rw [h1]; exact hx)
  rw [List.take_append_drop] at h2
  rw [h2, h1]
theorem Err_many {ms : List Mem} (h : 64 < ms.length) : Err ms = 5 := if_pos h
theorem Err_few {ms : List Mem} (h : ms.length ≤ 64) : Err ms = layE ms := if_neg (by omega)
theorem bytes_bad {q : ByteArray → Nat} {ms : List Mem} (h : Err ms ≠ 0) : bytes q ms = [] := if_neg h
theorem bytes_ok {q : ByteArray → Nat} {ms : List Mem} (h : Err ms = 0) : bytes q ms = flat q ms ++ List.replicate 1024 0 := if_pos h
theorem endsL_bad {q : ByteArray → Nat} {ms : List Mem} (h : Err ms ≠ 0) : endsL q ms = [] := if_neg h
theorem endsL_ok {q : ByteArray → Nat} {ms : List Mem} (h : Err ms = 0) : endsL q ms = ends q 0 ms := if_pos h
end Ar
end Go.Proofs.YtjofdgjcbjdhbaaGreatDoor
/- PLAIN MATHEMATICS OF LAYER 9, SECOND PART: how many records a scan holds, and how long their values are. No Go text is named. -/
namespace Go.Proofs.YtjofdgjcbjdhbaaGreatDoor
open Go.RowKit
set_option linter.unusedVariables false
set_option maxRecDepth 100000
namespace Ar
theorem layE_each : ∀ {l : List Rc.Rec}, Rc.layE l = 0 → ∀ r ∈ l, Rc.mayN r = 0
  | [], _, r, hr => by cases hr
  | x :: t, h, r, hr => by
    unfold Rc.layE at h
    split at h
    · rename_i hx
      rcases List.mem_cons.1 hr with rfl | hr
      · exact hx
      · exact layE_each h r hr
    · rename_i hx; exact absurd h hx
theorem flat_ge : ∀ {l : List Rc.Rec}, (∀ r ∈ l, Rc.mayN r = 0) → 4 * l.length ≤ (Rc.flat l).length
  | [], _ => Nat.zero_le _
  | x :: t, h => by
    have h1 := flat_ge (l := t) fun r hr => h r (List.mem_cons_of_mem _ hr)
    have h2 := (Rc.lenR_bounds x).2 (h x (by simp))
    have e : Rc.flat (x :: t) = Rc.oneL x ++ Rc.flat t := rfl
    rw [e, List.length_append, Rc.one_len, List.length_cons]
    omega
/-- Records that are read: no more than bytes, and no value too long. -/
theorem parse_fits {b : Rc.Bs} (h : (Rc.parse b).2 = 0) : 4 * (Rc.parse b).1.length ≤ b.length ∧ ∀ r ∈ (Rc.parse b).1, r.2.size ≤ 2000 := by
  obtain ⟨h1, h2⟩ := Rc.parse_lay b h
  have h3 := layE_each h1
  have h4 := flat_ge h3
  rw [h2] at h4
  exact ⟨h4, fun r hr => (Rc.may_ok (h3 r hr)).2⟩
def Fits (s : S) : Prop := 4 * (s.al.length + s.nx.length) ≤ s.at_ ∧ ∀ r ∈ s.al ++ s.nx, r.2.size ≤ 2000
theorem toB_len (xs : List Int) : (toB xs).length = xs.length := by simp [toB]
theorem body_fits {s s' : S} {x d : List Int} {a : Nat} (h : body s x d a = .go s') (hs : Fits s) (ha : s.at_ + d.length ≤ a) : Fits s' := by
  obtain ⟨h1, h2⟩ := hs
  unfold body at h
  split at h
  · split at h
    · rename_i hp
      obtain ⟨p1, p2⟩ := parse_fits hp
      rw [toB_len] at p1
      split at h
      · cases h
        refine ⟨by show 4 * (s.al.length + (Rc.parse (toB d)).1.length) ≤ a; omega, fun r hr => ?_⟩
        rcases List.mem_append.1 hr with hr | hr
        · exact h2 r (List.mem_append.2 (.inl hr))
        · exact p2 r hr
      · cases h
    · cases h
  · split at h
    · split at h
      · rename_i hp
        obtain ⟨p1, p2⟩ := parse_fits hp
        rw [toB_len] at p1
        cases h
        refine ⟨by show 4 * ((s.al ++ (Rc.parse (toB d)).1).length + s.nx.length) ≤ a; rw [List.length_append]; omega, fun r hr => ?_⟩
        have hr' : r ∈ (s.al ++ (Rc.parse (toB d)).1) ++ s.nx := hr
        rcases List.mem_append.1 hr' with hr | hr
        · rcases List.mem_append.1 hr with hr | hr
          · exact h2 r (List.mem_append.2 (.inl hr))
          · exact p2 r hr
        · exact h2 r (List.mem_append.2 (.inr hr))
      · cases h
    · split at h
      · split at h
        · cases h
        · cases h
          refine ⟨by show 4 * (s.al.length + 0) ≤ a; omega, fun r hr => h2 r ?_⟩
          have hr' : r ∈ s.al ++ [] := hr
          rw [List.append_nil] at hr'
          exact List.mem_append.2 (.inl hr')
      · cases h
theorem stp_fits {b : List Int} {s s' : S} (h : stp b s = .go s') (hs : Fits s) : Fits s' := by
  obtain ⟨h1, _, h2⟩ := stp_go h
  obtain ⟨_, _, h3, h4⟩ := entry_go h2
  obtain ⟨z0, z1⟩ := Bk.err_zero h3
  refine body_fits h4 hs ?_
  rw [List.length_take]
  omega
theorem fits_s0 : Fits s0 := ⟨Nat.le_refl _, fun r hr => by cases hr⟩
end Ar
end Go.Proofs.YtjofdgjcbjdhbaaGreatDoor
/- PLAIN MATHEMATICS OF LAYER 9, THIRD PART: what a header's block tells is short, and its numbers are numbers. No Go text is named. -/
namespace Go.Proofs.YtjofdgjcbjdhbaaGreatDoor
open Go.RowKit
set_option linter.unusedVariables false
set_option maxRecDepth 100000
namespace Ar
theorem getS_len (ys : List Int) : (Sf.getS ys).1.length ≤ ys.length := by
  unfold Sf.getS
  split
  · unfold Sf.looseS
    rw [List.length_take]
    omega
  · exact Nat.zero_le _
theorem sub_len (x : List Int) (a n : Nat) : (Hh.sub x a n).length ≤ n := by
  unfold Hh.sub
  rw [List.length_take]
  omega
theorem hd_sizes (x : List Int) : (hp x).size ≤ 155 ∧ (hn x).size ≤ 100 ∧ (hl x).size ≤ 100 := by
  unfold hp hn hl
  rw [Sf.size_strOfNums, Sf.size_strOfNums, Sf.size_strOfNums]
  have h1 := getS_len (Hh.sub x 345 155)
  have h2 := getS_len (Hh.sub x 0 100)
  have h3 := getS_len (Hh.sub x 157 100)
  have k1 := sub_len x 345 155
  have k2 := sub_len x 0 100
  have k3 := sub_len x 157 100
  omega
theorem hz_bd {x : List Int} (h : Byt x) : -9223372036854775808 ≤ hz x ∧ hz x ≤ 9223372036854775807 := Nf.getS_in _ (Hh.byt_sub h _ _)
end Ar
end Go.Proofs.YtjofdgjcbjdhbaaGreatDoor
/- PLAIN MATHEMATICS OF LAYER 9, FOURTH PART: what is laid are bytes, and how many at most; an archive of one directory. No Go text is named. -/
namespace Go.Proofs.YtjofdgjcbjdhbaaGreatDoor
open Go.RowKit
set_option linter.unusedVariables false
set_option maxRecDepth 100000
namespace Ar
theorem byt_zeros (n : Nat) : Byt (List.replicate n (0 : Int)) := fun j => by
  rw [List.getD_eq_getElem?_getD, List.getElem?_replicate]
  by_cases h : j < n <;> simp [h]
theorem byt_fill {xs : List Int} (h : Byt xs) : Byt (Mb.fill xs) := by
  unfold Mb.fill
  exact h.append (byt_zeros _)
theorem pax_all {rs : List Rc.Rec} (hs : (Rc.layB rs).length ≤ 5000) : Byt (Mb.paxB (Rc.layB rs)) ∧ (Mb.paxB (Rc.layB rs)).length = 512 + ((Rc.layB rs).length + 511) / 512 * 512 := by
  obtain ⟨_, _, k2, k3, _⟩ := Hh.back ⟨#[]⟩ Mb.kPax ⟨#[]⟩ 0 0 0 0 ((Rc.layB rs).length : Int) 120 (by omega) (by omega) (by omega) (by omega) (by omega) (by omega) (by omega) (by omega) (by omega) (by omega) (Mb.pax_ok hs)
  unfold Mb.paxB
  refine ⟨k3.append (byt_fill (Rc.ints_byt _)), ?_⟩
  rw [List.length_append, k2, Mb.fill_len, Rc.ints_len]
theorem recs_size8 {p l : ByteArray} {c : Nat} (hp : p.size ≤ 300) (hl : l.size ≤ 300) : (Rc.layB (Mb.recsL p l c)).length ≤ 800 := by
  have h1 := Mb.recs_len p l c
  have one : ∀ r ∈ Mb.recsL p l c, (Rc.oneL r).length ≤ 400 := by
    intro r hr
    rw [Rc.one_len]
    unfold Rc.lenR
    split
    · rcases Mb.recs_mem r hr with rfl | rfl
      · have e : Rc.restN (Mb.kPath, p) = 4 + p.size + 3 := rfl
        rw [e]; unfold Rc.lenN; split <;> (try split) <;> (try split) <;> omega
      · have e : Rc.restN (Mb.kLink, l) = 8 + l.size + 3 := rfl
        rw [e]; unfold Rc.lenN; split <;> (try split) <;> (try split) <;> omega
    · omega
  have fl : ∀ rs : List Rc.Rec, (∀ r ∈ rs, (Rc.oneL r).length ≤ 400) → (Rc.flat rs).length ≤ rs.length * 400 := by
    intro rs
    induction rs with
    | nil => intro _; exact Nat.le_refl _
    | cons r t ih =>
      intro h
      have h2 := ih fun x hx => h x (List.mem_cons_of_mem _ hx)
      have h3 := h r (by simp)
      have e : Rc.flat (r :: t) = Rc.oneL r ++ Rc.flat t := rfl
      rw [e, List.length_append, List.length_cons]
      omega
  have := fl _ one
  unfold Rc.layB
  split
  · omega
  · exact Nat.zero_le _
/-- A member's bytes are bytes, and so many at most. -/
theorem lay_all {q : ByteArray → Nat} (hq : ∀ p, Sf.IsCut p (q p)) {x : Mem} (hb : Byt x.xs) : Byt (x.lay q) ∧ (x.lay q).length ≤ 6144 := by
  by_cases h : x.may = 0
  · have hm := h
    unfold Mem.may at hm
    obtain ⟨a, b, b2, d, e⟩ := Mb.may_zero hm
    obtain ⟨_, p3, _⟩ := Mb.path_facts a
    obtain ⟨l3, _, n4, _, _⟩ := Mb.kind_facts b b2 e
    obtain ⟨_, _, _, k3⟩ := Mb.own_back (hq x.p) hm
    have ol := Mb.own_len (hq x.p) hm
    have r8 := recs_size8 (c := q x.p) (show x.p.size ≤ 300 by omega) (show x.l.size ≤ 300 by omega)
    obtain ⟨q1, q2⟩ := pax_all (rs := Mb.recsL x.p x.l (q x.p)) (by omega)
    rw [lay_of h, List.length_append, ol]
    have rb : Byt (Mb.recB (Mb.recsL x.p x.l (q x.p))) ∧ (Mb.recB (Mb.recsL x.p x.l (q x.p))).length ≤ 1536 := by
      unfold Mb.recB
      split
      · exact ⟨Byt.nil, Nat.zero_le _⟩
      · exact ⟨q1, by omega⟩
    refine ⟨rb.1.append ?_, by have := rb.2; omega⟩
    unfold Mb.ownB
    exact k3.append (byt_fill hb)
  · unfold Mem.lay
    rw [Mb.lay_bad h]
    exact ⟨Byt.nil, Nat.zero_le _⟩
theorem flat_all {q : ByteArray → Nat} (hq : ∀ p, Sf.IsCut p (q p)) : ∀ l : List Mem, (∀ x ∈ l, Byt x.xs) → Byt (flat q l) ∧ (flat q l).length ≤ l.length * 6144
  | [], _ => ⟨Byt.nil, Nat.zero_le _⟩
  | x :: t, h => by
    obtain ⟨h1, h2⟩ := lay_all hq (h x (by simp))
    obtain ⟨h3, h4⟩ := flat_all hq t fun y hy => h y (List.mem_cons_of_mem _ hy)
    have e : flat q (x :: t) = x.lay q ++ flat q t := rfl
    rw [e, List.length_append, List.length_cons]
    exact ⟨h1.append h3, by omega⟩
theorem bytes_all {q : ByteArray → Nat} (hq : ∀ p, Sf.IsCut p (q p)) (l : List Mem) (h : ∀ x ∈ l, Byt x.xs) : Byt (bytes q l) ∧ (bytes q l).length ≤ 400000 ∧ (Err l ≠ 0 → (bytes q l).length = 0) := by
  by_cases hE : Err l = 0
  · rw [bytes_ok hE]
    obtain ⟨h1, h2⟩ := flat_all hq l h
    have hl : l.length ≤ 64 := by
      unfold Err at hE
      split at hE
      · cases hE
      · omega
    refine ⟨h1.append (byt_zeros _), ?_, fun h => absurd hE h⟩
    · rw [List.length_append, List.length_replicate]
      omega
  · rw [bytes_bad hE]
    exact ⟨Byt.nil, Nat.zero_le _, fun _ => rfl⟩
/- AN ARCHIVE OF ONE DIRECTORY. -/
def mA : Mem := ⟨⟨#[97]⟩, ⟨#[]⟩, 4, 0, 0, 0, 0, []⟩
theorem pathA : Mb.path ⟨#[97]⟩ = true := by
  unfold Mb.path
  rw [Pp.parts_yes (by decide) (by rw [Pp.pieces_last _ (by decide +kernel)]; decide +kernel)]
  rfl
theorem mA_may : mA.may = 0 := by
  show Mb.may ⟨#[97]⟩ ⟨#[]⟩ 4 0 0 0 0 0 = 0
  unfold Mb.may
  rw [if_pos pathA, if_pos (by decide), if_pos (by decide)]
  decide
theorem cutA : Sf.IsCut ⟨#[97]⟩ 0 := .inl ⟨rfl, fun j ⟨_, a, b, _⟩ => by
  have : (⟨#[97]⟩ : ByteArray).size = 1 := rfl
  omega⟩
theorem cuts_ex : ∃ q : ByteArray → Nat, (∀ p, Sf.IsCut p (q p)) ∧ q ⟨#[97]⟩ = 0 := by
  classical
  refine ⟨fun p => if p = ⟨#[97]⟩ then 0 else Classical.choose (Sf.cut_ex p), fun p => ?_, if_pos rfl⟩
  dsimp only
  split
  · rename_i h; rw [h]; exact cutA
  · exact Classical.choose_spec (Sf.cut_ex p)
theorem mA_lay {q : ByteArray → Nat} (h0 : q ⟨#[97]⟩ = 0) : mA.lay q = Mb.ownB ⟨#[97]⟩ ⟨#[]⟩ 0 4 0 0 0 0 [] ∧ Mb.recsL ⟨#[97]⟩ ⟨#[]⟩ 0 = [] := by
  have e : Mb.recsL ⟨#[97]⟩ ⟨#[]⟩ 0 = [] := by decide +kernel
  refine ⟨?_, e⟩
  rw [lay_of mA_may]
  show Mb.recB (Mb.recsL ⟨#[97]⟩ ⟨#[]⟩ (q ⟨#[97]⟩)) ++ Mb.ownB ⟨#[97]⟩ ⟨#[]⟩ (q ⟨#[97]⟩) 4 0 0 0 0 [] = _
  rw [h0, e]
  rfl
theorem alive_facts {q : ByteArray → Nat} (hq : ∀ p, Sf.IsCut p (q p)) (h0 : q ⟨#[97]⟩ = 0) : Err [mA] = 0 ∧ (bytes q [mA]).length = 1536 ∧ Byt (bytes q [mA]) ∧
    (scan (bytes q [mA])).2 = 0 ∧ (scan (bytes q [mA])).1.out = [(mA, 512)] ∧ (scan ((bytes q [mA]).take 600)).2 = 4 ∧ (scan ((bytes q [mA]).take 600)).1.out = [(mA, 512)] := by
  obtain ⟨e1, e2⟩ := mA_lay h0
  have hE : Err [mA] = 0 := by
    rw [Err_few (by decide)]
    show (if mA.may = 0 then layE [] else mA.may) = 0
    rw [if_pos mA_may]
    rfl
  have ol : (Mb.ownB ⟨#[97]⟩ ⟨#[]⟩ 0 4 0 0 0 0 []).length = 512 := Mb.own_len cutA mA_may
  have hb : bytes q [mA] = Mb.ownB ⟨#[97]⟩ ⟨#[]⟩ 0 4 0 0 0 0 [] ++ List.replicate 1024 0 := by
    rw [bytes_ok hE]
    show (mA.lay q ++ []) ++ _ = _
    rw [e1, List.append_nil]
  obtain ⟨a, hs⟩ := scan_lay hq hE
  have ho : outs q 0 [mA] = [(mA, 512)] := by
    show [(mA, 0 + (mA.lay q).length)] = _
    rw [e1, ol]
  have h6 : scan ((bytes q [mA]).take 600) = (⟨512, [], [], [(mA, 512)]⟩, 4) := by
    rw [hb]
    have ht : (Mb.ownB ⟨#[97]⟩ ⟨#[]⟩ 0 4 0 0 0 0 [] ++ List.replicate 1024 (0 : Int)).take 600 = [] ++ (Mb.ownB mA.p mA.l 0 mA.k mA.m mA.u mA.g mA.t mA.xs ++ List.replicate 88 (0 : Int)) := by
      rw [List.take_append, ol, List.take_of_length_le (by omega), List.take_replicate]
      rfl
    rw [ht]
    unfold scan
    have st := own_step (x := mA) (c := 0) cutA mA_may (pre := []) (y := List.replicate 88 (0 : Int)) (s := s0) rfl rfl e2.symm (by decide)
    have e3 : s0.at_ + (Mb.ownB mA.p mA.l 0 mA.k mA.m mA.u mA.g mA.t mA.xs).length = 512 := by
      show 0 + (Mb.ownB ⟨#[97]⟩ ⟨#[]⟩ 0 4 0 0 0 0 []).length = 512
      rw [ol]
    have e4 : ([] ++ (Mb.ownB mA.p mA.l 0 mA.k mA.m mA.u mA.g mA.t mA.xs ++ List.replicate 88 (0 : Int))).length = 600 := by
      show (Mb.ownB ⟨#[97]⟩ ⟨#[]⟩ 0 4 0 0 0 0 [] ++ List.replicate 88 (0 : Int)).length = 600
      rw [List.length_append, ol, List.length_replicate]
    rw [e3] at st
    rw [scan_go st]
    apply scan_fin
    unfold stp
    exact if_pos (by rw [e4]; show 600 < 512 + 512; decide)
  refine ⟨hE, ?_, ?_, by rw [hs], by rw [hs, ho], by rw [h6], by rw [h6]⟩
  · rw [hb, List.length_append, ol, List.length_replicate]
  · exact (bytes_all hq [mA] fun x hx => by
      obtain rfl : x = mA := by simpa using hx
      exact Byt.nil).1
/- WHAT IS SCANNED ARE BYTES. -/
def BytOut (s : S) : Prop := ∀ x ∈ s.out, Byt x.1.xs
theorem byt_cut {xs : List Int} (h : Byt xs) (k n : Nat) : Byt ((xs.drop k).take n) := fun j => by
  by_cases hj : j < n
  · have := (h.drop k) j
    simpa [List.getD_eq_getElem?_getD, List.getElem?_take, hj] using this
  · simp [List.getD_eq_getElem?_getD, List.getElem?_take, hj]
theorem fx_byt (k : Int) {d : List Int} (h : Byt d) : Byt (Mb.fX k d) := by
  unfold Mb.fX
  split
  · exact h
  · exact Byt.nil
theorem body_byt {s s' : S} {x d : List Int} {a : Nat} (h : body s x d a = .go s') (hs : BytOut s) (hd : Byt d) : BytOut s' := by
  unfold body at h
  split at h
  · split at h
    · split at h
      · cases h; exact hs
      · cases h
    · cases h
  · split at h
    · split at h
      · cases h; exact hs
      · cases h
    · split at h
      · split at h
        · cases h
        · cases h
          intro y hy
          rcases List.mem_append.1 hy with h1 | h1
          · exact hs y h1
          · obtain rfl : y = (memOf s x d, a) := by simpa using h1
            exact fx_byt _ hd
      · cases h
theorem scan_byt {b : List Int} (hb : Byt b) : ∀ s, BytOut s → BytOut (scanAt b s).1 :=
  scan_ind (P := fun s => BytOut s → BytOut (scanAt b s).1) (fun s e h hs => by rw [scan_fin h]; exact hs) fun s s' h ih hs => by
    rw [scan_go h]
    obtain ⟨_, _, h2⟩ := stp_go h
    obtain ⟨_, _, _, h4⟩ := entry_go h2
    exact ih (body_byt h4 hs (byt_cut hb _ _))
theorem scan_mem {b : List Int} (hb : Byt b) {x : Mem} (h : x ∈ (scan b).1.out.map Prod.fst) : Byt x.xs ∧ x.p.size ≤ 1000 ∧ x.l.size ≤ 1000 ∧ x.xs.length ≤ 100000 := by
  obtain ⟨y, hy, rfl⟩ := List.mem_map.1 h
  have h1 := (scan_good (b := b) s0 good_s0).2 y hy
  have h2 := scan_byt hb s0 (fun x hx => by cases hx) y hy
  unfold Mem.may at h1
  obtain ⟨a, b1, b2, d, e⟩ := Mb.may_zero h1
  obtain ⟨_, p3, _⟩ := Mb.path_facts a
  obtain ⟨l3, _, n4, _, _⟩ := Mb.kind_facts b1 b2 e
  exact ⟨h2, by omega, by omega, by omega⟩
theorem scan_few (b : List Int) : (scan b).1.out.length ≤ 64 := (scan_good (b := b) s0 good_s0).1
end Ar
end Go.Proofs.YtjofdgjcbjdhbaaGreatDoor
