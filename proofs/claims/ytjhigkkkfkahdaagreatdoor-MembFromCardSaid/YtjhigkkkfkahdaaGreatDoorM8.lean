/- PLAIN MATHEMATICS OF LAYER 8 (members of an archive): what the contracts of the walks speak of; no Go text is named. -/
import Derived.Test.YtjhigkkkfkahdaaGreatDoorGm5
import Derived.Test.YtjhigkkkfkahdaaGreatDoorGn4
import Derived.Test.YtjhigkkkfkahdaaGreatDoorGn6
namespace Go.Proofs.YtjhigkkkfkahdaaGreatDoor
open Go.RowKit
set_option linter.unusedVariables false
namespace Mb
/-- May a text be a path? -/
def path (s : ByteArray) : Bool := (Pp.partsS s).2 == 0
/-- No byte of it is 0. -/
def Nz (s : ByteArray) : Prop := (0 : UInt8) ∉ s.data.toList
def has0 (s : ByteArray) : Bool := decide (Sf.zb s.data.toList < s.size)
def numOk (m u g t : Int) : Bool :=
  decide (0 ≤ m) && decide (m ≤ 4095) && decide (0 ≤ u) && decide (u ≤ 1099511627775) && decide (0 ≤ g) && decide (g ≤ 1099511627775) && decide (-1125899906842624 ≤ t) && decide (t ≤ 1125899906842624)
/-- May a link and so many bytes be, of a kind? the error's number. -/
def kindE (k : Int) (l : ByteArray) (n : Nat) : Int :=
  if k = 1 then (if 4096 < n then 10 else if l.size = 0 then 0 else 3)
  else if k = 2 then (if path l = true then (if n = 0 then 0 else 3) else 8)
  else if k = 3 then (if l.size = 0 ∨ has0 l = true then 3 else if 300 < l.size then 10 else if n = 0 then 0 else 3)
  else (if l.size = 0 ∧ n = 0 then 0 else 3)
/-- May a member be? the error's number. -/
def may (p l : ByteArray) (k m u g t : Int) (n : Nat) : Int :=
  if path p = true then (if 1 ≤ k ∧ k ≤ 4 then (if numOk m u g t = true then kindE k l n else 10) else 11) else 8
/-- A kind's type, a type's kind. -/
def typ (k : Int) : Int := if k = 1 then 48 else if k = 2 then 49 else if k = 3 then 50 else if k = 4 then 53 else 0
def kin (c : Int) : Int := if c = 48 then 1 else if c = 49 then 2 else if c = 50 then 3 else if c = 53 then 4 else 0
/-- A path parted: is it? its parts, as they are laid. -/
def fits (s : ByteArray) (k : Nat) : Bool := if s.size = 0 then false else if s.size ≤ 100 then true else if k = 0 then false else true
def first (s : ByteArray) : ByteArray := s.extract 0 (min s.size 100)
def pre (s : ByteArray) (k : Nat) : ByteArray := if s.size ≤ 100 then ⟨#[]⟩ else if k = 0 then ⟨#[]⟩ else s.extract 0 k
def nam (s : ByteArray) (k : Nat) : ByteArray := if s.size ≤ 100 then s else if k = 0 then first s else s.extract (k + 1) s.size
def kPath : ByteArray := ⟨#[112, 97, 116, 104]⟩
def kLink : ByteArray := ⟨#[108, 105, 110, 107, 112, 97, 116, 104]⟩
def kPax : ByteArray := ⟨#[112, 97, 120]⟩
/-- The records that a member needs. -/
def recsL (p l : ByteArray) (c : Nat) : List Rc.Rec := (if fits p c = true then [] else [(kPath, p)]) ++ (if 100 < l.size then [(kLink, l)] else [])
/-- The bytes filled up to whole blocks. -/
def fill (xs : List Int) : List Int := xs ++ List.replicate (if xs.length % 512 = 0 then 0 else 512 - xs.length % 512) 0
def paxB (b : Rc.Bs) : List Int := (Hh.layC ⟨#[]⟩ kPax ⟨#[]⟩ 0 0 0 0 (b.length : Int) 120).1 ++ fill (Rc.ints b)
def recB (rs : List Rc.Rec) : List Int := if rs = [] then [] else paxB (Rc.layB rs)
def hdrB (p l : ByteArray) (c : Nat) (k m u g t : Int) (n : Nat) : List Int := (Hh.layC (pre p c) (nam p c) (first l) m u g t (n : Int) (typ k)).1
def ownB (p l : ByteArray) (c : Nat) (k m u g t : Int) (xs : List Int) : List Int := hdrB p l c k m u g t xs.length ++ fill xs
/-- A member's bytes. -/
def layM (p l : ByteArray) (c : Nat) (k m u g t : Int) (xs : List Int) : List Int :=
  if may p l k m u g t xs.length = 0 then recB (recsL p l c) ++ ownB p l c k m u g t xs else []
/-- What a header and records tell. -/
def told8 (rs : List Rc.Rec) (key d : ByteArray) : ByteArray := match Rc.findR key rs with | some v => v | none => d
def join (p n : ByteArray) : ByteArray := if p.size = 0 then n else p ++ ⟨#[47]⟩ ++ n
def fP (rs : List Rc.Rec) (p nm : ByteArray) : ByteArray := told8 rs kPath (join p nm)
def fL (rs : List Rc.Rec) (k : Int) (l : ByteArray) : ByteArray := if kin k = 2 ∨ kin k = 3 then told8 rs kLink l else ⟨#[]⟩
def fX (k : Int) (xs : List Int) : List Int := if kin k = 1 then xs else []
def fE (rs : List Rc.Rec) (p nm l : ByteArray) (k m u g t : Int) (xs : List Int) : Int :=
  if kin k = 0 then 11 else may (fP rs p nm) (fL rs k l) (kin k) m u g t (fX k xs).length

theorem nz_has0 {s : ByteArray} (h : Nz s) : has0 s = false := by
  unfold has0
  rw [decide_eq_false_iff_not]
  intro hz
  apply h
  have h1 : Sf.zb s.data.toList < s.data.toList.length := hz
  have := List.findIdx_getElem (p := (· == 0)) (xs := s.data.toList) (w := h1)
  rw [← beq_iff_eq.1 this]
  exact List.getElem_mem h1
theorem nz_of {s : ByteArray} (h : has0 s = false) : Nz s := by
  unfold has0 at h
  rw [decide_eq_false_iff_not] at h
  intro hm
  apply h
  show Sf.zb s.data.toList < s.data.toList.length
  exact List.findIdx_lt_length.2 ⟨0, hm, rfl⟩
theorem nz_ext {s : ByteArray} (h : Nz s) (a b : Nat) : Nz (s.extract a b) := by
  intro hm
  rw [Lib.extract_data] at hm
  exact h (List.mem_of_mem_drop (List.mem_of_mem_take hm))
theorem nz_first {s : ByteArray} (h : Nz s) : Nz (first s) := nz_ext h _ _
theorem nz_nil : Nz ⟨#[]⟩ := by unfold Nz; decide
theorem first_size (s : ByteArray) : (first s).size ≤ 100 := by unfold first; rw [ByteArray.size_extract]; omega
theorem first_all {s : ByteArray} (h : s.size ≤ 100) : first s = s := by
  unfold first
  rw [show min s.size 100 = s.size by omega]
  exact Pp.ext_all s
theorem mem_joinL : ∀ (ps : List (List UInt8)) (x : UInt8), x ∈ Pp.joinL ps → x = 47 ∨ ∃ p ∈ ps, x ∈ p
  | [], x, h => by simp [Pp.joinL] at h
  | [p], x, h => .inr ⟨p, by simp, h⟩
  | p :: q :: ps, x, h => by
    have h' : x ∈ p ++ 47 :: Pp.joinL (q :: ps) := h
    rcases List.mem_append.1 h' with h1 | h1
    · exact .inr ⟨p, by simp, h1⟩
    · rcases List.mem_cons.1 h1 with h2 | h2
      · exact .inl h2
      · rcases mem_joinL (q :: ps) x h2 with h3 | ⟨r, hr, hx⟩
        · exact .inl h3
        · exact .inr ⟨r, List.mem_cons_of_mem _ hr, hx⟩
theorem path_facts {s : ByteArray} (h : path s = true) : 1 ≤ s.size ∧ s.size ≤ 300 ∧ Nz s := by
  obtain ⟨h1, h2⟩ := (Pp.may_iff s).1 h
  refine ⟨?_, h1, ?_⟩
  · apply Nat.pos_of_ne_zero
    intro h0
    have e : Pp.pieces s = [s] := Pp.pieces_last s (by omega)
    have := (h2 s (by rw [e]; simp)).1.1
    omega
  · intro hm
    have hj := Pp.joinL_pieces s.data.toList
    rw [← hj] at hm
    rcases mem_joinL _ _ hm with h3 | ⟨p, hp, hx⟩
    · exact absurd h3 (by decide)
    · rw [← Pp.pieces_map, List.mem_map] at hp
      obtain ⟨b, hb, rfl⟩ := hp
      exact (h2 b hb).2.1 hx
theorem may_zero {p l : ByteArray} {k m u g t : Int} {n : Nat} (h : may p l k m u g t n = 0) : path p = true ∧ 1 ≤ k ∧ k ≤ 4 ∧ numOk m u g t = true ∧ kindE k l n = 0 := by
  unfold may at h
  by_cases a : path p = true
  · rw [if_pos a] at h
    by_cases b : 1 ≤ k ∧ k ≤ 4
    · rw [if_pos b] at h
      by_cases c : numOk m u g t = true
      · rw [if_pos c] at h
        exact ⟨a, b.1, b.2, c, h⟩
      · rw [if_neg c] at h; cases h
    · rw [if_neg b] at h; cases h
  · rw [if_neg a] at h; cases h
theorem num_facts {m u g t : Int} (h : numOk m u g t = true) : 0 ≤ m ∧ m ≤ 4095 ∧ 0 ≤ u ∧ u ≤ 1099511627775 ∧ 0 ≤ g ∧ g ≤ 1099511627775 ∧ -1125899906842624 ≤ t ∧ t ≤ 1125899906842624 := by
  simpa [numOk, and_assoc] using h
/-- Of a link that may be: how long it is, that it has no 0; of what is no File there are no bytes. -/
theorem kind_facts {k : Int} {l : ByteArray} {n : Nat} (h1 : 1 ≤ k) (h4 : k ≤ 4) (h : kindE k l n = 0) : l.size ≤ 300 ∧ Nz l ∧ n ≤ 4096 ∧ (k ≠ 1 → n = 0) ∧ (k = 1 ∨ k = 4 → l.size = 0) := by
  have empty : l.size = 0 → Nz l := fun h0 => by
    have : l.data.toList = [] := List.eq_nil_of_length_eq_zero h0
    unfold Nz
    rw [this]
    simp
  unfold kindE at h
  by_cases a : k = 1
  · rw [if_pos a] at h
    by_cases b : 4096 < n
    · rw [if_pos b] at h; cases h
    · rw [if_neg b] at h
      by_cases c : l.size = 0
      · exact ⟨by omega, empty c, by omega, fun x => absurd a x, fun _ => c⟩
      · rw [if_neg c] at h; cases h
  · rw [if_neg a] at h
    by_cases b : k = 2
    · rw [if_pos b] at h
      by_cases c : path l = true
      · rw [if_pos c] at h
        by_cases d : n = 0
        · obtain ⟨_, q1, q2⟩ := path_facts c
          exact ⟨q1, q2, by omega, fun _ => d, fun x => by omega⟩
        · rw [if_neg d] at h; cases h
      · rw [if_neg c] at h; cases h
    · rw [if_neg b] at h
      by_cases c : k = 3
      · rw [if_pos c] at h
        by_cases d : l.size = 0 ∨ has0 l = true
        · rw [if_pos d] at h; cases h
        · rw [if_neg d] at h
          by_cases e : 300 < l.size
          · rw [if_pos e] at h; cases h
          · rw [if_neg e] at h
            by_cases f : n = 0
            · exact ⟨by omega, nz_of (by simpa using fun x => d (.inr x)), by omega, fun _ => f, fun x => by omega⟩
            · rw [if_neg f] at h; cases h
      · rw [if_neg c] at h
        by_cases d : l.size = 0 ∧ n = 0
        · exact ⟨by omega, empty d.1, by omega, fun _ => d.2, fun _ => d.1⟩
        · rw [if_neg d] at h; cases h
/- A HEADER THAT IS LAID. -/
theorem put_text {s : ByteArray} {k : Int} (h1 : 1 ≤ k) (h2 : k ≤ 512) (h : (s.size : Int) ≤ k) (hz : Nz s) : (Sf.putS s k).2 = 0 := by
  unfold Sf.putS
  have := nz_has0 hz
  unfold has0 at this
  rw [decide_eq_false_iff_not] at this
  rw [if_neg (by omega), if_neg this, if_neg (by omega)]
theorem put_num8 {n : Int} (h0 : 0 ≤ n) (h1 : n ≤ 1099511627775) : (Nf.putS n 8).2 = 0 := by
  unfold Nf.putS
  rw [if_neg (by decide)]
  by_cases h : Nf.plain n 8 = true
  · rw [if_pos h]
  · rw [if_neg h]
    unfold Nf.putB
    have e : n / 256 ^ ((8 : Int) - 1).toNat = Nf.sgn n := by
      rw [show (256 : Int) ^ ((8 : Int) - 1).toNat = 72057594037927936 from by decide]
      unfold Nf.sgn
      rw [if_neg (by omega)]
      omega
    rw [if_pos e]
theorem put_num12 {n : Int} (h0 : -1125899906842624 ≤ n) (h1 : n ≤ 1125899906842624) : (Nf.putS n 12).2 = 0 := by
  unfold Nf.putS
  rw [if_neg (by decide)]
  by_cases h : Nf.plain n 12 = true
  · rw [if_pos h]
  · rw [if_neg h]
    unfold Nf.putB
    have e : n / 256 ^ ((12 : Int) - 1).toNat = Nf.sgn n := by
      rw [show (256 : Int) ^ ((12 : Int) - 1).toNat = 309485009821345068724781056 from by decide]
      unfold Nf.sgn
      split <;> omega
    rw [if_pos e]
theorem lay_ok (p nm l : ByteArray) (m u g t z k : Int) (hk : Hh.isT k = true) (sp : p.size ≤ 155) (sn : nm.size ≤ 100) (sl : l.size ≤ 100) (zp : Nz p) (zn : Nz nm) (zl : Nz l) (m0 : 0 ≤ m) (m1 : m ≤ 4095) (u0 : 0 ≤ u) (u1 : u ≤ 1099511627775) (g0 : 0 ≤ g) (g1 : g ≤ 1099511627775)
    (t0 : -1125899906842624 ≤ t) (t1 : t ≤ 1125899906842624) (z0 : 0 ≤ z) (z1 : z ≤ 1000000) : (Hh.layC p nm l m u g t z k).2 = 0 := by
  rw [Hh.lay_eq p nm l m u g t z k (by omega) (by omega) (by omega) (by omega) (by omega) (by omega) (by omega) (by omega) (by omega) (by omega)]
  have a0 := put_text (s := p) (k := 155) (by omega) (by omega) (by omega) zp
  have a1 := put_text (s := nm) (k := 100) (by omega) (by omega) (by omega) zn
  have a2 := put_text (s := l) (k := 100) (by omega) (by omega) (by omega) zl
  have a3 := put_num8 (n := m) m0 (by omega)
  have a4 := put_num8 (n := u) u0 u1
  have a5 := put_num8 (n := g) g0 g1
  have a6 := put_num12 (n := z) (by omega) (by omega)
  have a7 := put_num12 (n := t) t0 t1
  have c0 := (Hh.len_putT p 155).2 a0
  have c1 := (Hh.len_putT nm 100).2 a1
  have c2 := (Hh.len_putT l 100).2 a2
  have c3 := (Hh.len_putN m 8 (by omega) (by omega)).2 a3
  have c4 := (Hh.len_putN u 8 (by omega) (by omega)).2 a4
  have c5 := (Hh.len_putN g 8 (by omega) (by omega)).2 a5
  have c6 := (Hh.len_putN z 12 (by omega) (by omega)).2 a6
  have c7 := (Hh.len_putN t 12 (by omega) (by omega)).2 a7
  have hb : ¬ Hh.bel m u g z = true := by simp [Hh.bel]; omega
  unfold Hh.layS
  rw [if_pos hk, if_pos a0, if_pos a1, if_pos a2, if_pos a3, if_pos a4, if_pos a5, if_pos a6, if_pos a7, if_neg hb]
  have hl := Hh.len_whole (Sf.putS nm 100).1 (Nf.putS m 8).1 (Nf.putS u 8).1 (Nf.putS g 8).1 (Nf.putS z 12).1 (Nf.putS t 12).1 (Sf.putS l 100).1 (Nf.putS 0 8).1 (Sf.putS p 155).1 k c1 c3 c4 c5 c6 c7 c2 Hh.zero8.2 c0
  unfold Hs.putS
  rw [if_pos hl]
theorem typ_is {k : Int} (h1 : 1 ≤ k) (h4 : k ≤ 4) : Hh.isT (typ k) = true ∧ 0 ≤ typ k ∧ typ k ≤ 255 ∧ kin (typ k) = k := by
  have : k = 1 ∨ k = 2 ∨ k = 3 ∨ k = 4 := by omega
  rcases this with rfl | rfl | rfl | rfl <;> decide
theorem kin_bd (c : Int) : 0 ≤ kin c ∧ kin c ≤ 4 := by unfold kin; split <;> (try split) <;> (try split) <;> (try split) <;> omega
theorem typ_bd (c : Int) : 0 ≤ typ c ∧ typ c ≤ 255 := by unfold typ; split <;> (try split) <;> (try split) <;> (try split) <;> omega
theorem pre_facts {s : ByteArray} {k : Nat} (hk : Sf.IsCut s k) : (pre s k).size ≤ 155 := by
  unfold pre
  by_cases h1 : s.size ≤ 100
  · rw [if_pos h1]; exact Nat.zero_le _
  · rw [if_neg h1]
    by_cases h2 : k = 0
    · rw [if_pos h2]; exact Nat.zero_le _
    · rw [if_neg h2]
      obtain ⟨b1, b2, b3, b4⟩ := Sf.cut_bd hk h2
      rw [ByteArray.size_extract]; omega
theorem nam_facts {s : ByteArray} {k : Nat} (hk : Sf.IsCut s k) : (nam s k).size ≤ 100 := by
  unfold nam
  by_cases h1 : s.size ≤ 100
  · rw [if_pos h1]; exact h1
  · rw [if_neg h1]
    by_cases h2 : k = 0
    · rw [if_pos h2]; exact first_size s
    · rw [if_neg h2]
      obtain ⟨b1, b2, b3, b4⟩ := Sf.cut_bd hk h2
      rw [ByteArray.size_extract]; omega
theorem pre_nz {s : ByteArray} {k : Nat} (h : Nz s) : Nz (pre s k) := by
  unfold pre
  split
  · exact nz_nil
  · split
    · exact nz_nil
    · exact nz_ext h _ _
theorem nam_nz {s : ByteArray} {k : Nat} (h : Nz s) : Nz (nam s k) := by
  unfold nam
  split
  · exact h
  · split
    · exact nz_first h
    · exact nz_ext h _ _
theorem join_back {s : ByteArray} {k : Nat} (hk : Sf.IsCut s k) (h : fits s k = true) : join (pre s k) (nam s k) = s := by
  unfold fits at h
  by_cases h0 : s.size = 0
  · rw [if_pos h0] at h; cases h
  · rw [if_neg h0] at h
    by_cases h1 : s.size ≤ 100
    · unfold join pre nam
      rw [if_pos h1, if_pos h1]
      exact if_pos rfl
    · rw [if_neg h1] at h
      by_cases h2 : k = 0
      · rw [if_pos h2] at h; cases h
      · unfold join pre nam
        rw [if_neg h1, if_neg h1, if_neg h2, if_neg h2]
        obtain ⟨b1, b2, b3, b4⟩ := Sf.cut_bd hk h2
        have h47 : s.data.toList[k]? = some 47 := by
          rcases hk with ⟨hh, _⟩ | ⟨⟨hh, _, _, _, e, _⟩, _⟩
          · exact absurd hh h2
          · rw [← e]; exact List.getElem?_eq_getElem (by rw [← Sf.size_eq]; exact hh)
        rw [if_neg (by rw [ByteArray.size_extract]; omega)]
        apply ByteArray.ext
        apply Array.toList_inj.1
        have hd : s.data.toList.drop k = 47 :: s.data.toList.drop (k + 1) := by
          obtain ⟨hh, e⟩ := List.getElem?_eq_some_iff.1 h47
          rw [List.drop_eq_getElem_cons hh, e]
        have e : s.data.toList = s.data.toList.take k ++ (47 :: s.data.toList.drop (k + 1)) := by rw [← hd, List.take_append_drop]
        rw [ByteArray.data_append, ByteArray.data_append, Array.toList_append, Array.toList_append, Lib.extract_data, Lib.extract_data]
        simp only [List.drop_zero, Nat.sub_zero]
        rw [List.take_of_length_le (l := List.drop (k + 1) _) (by rw [List.length_drop, ← Sf.size_eq]; omega)]
        conv => rhs; rw [e]
        simp
theorem fits_small {s : ByteArray} {k : Nat} (h : fits s k = false) (h0 : 1 ≤ s.size) : 100 < s.size ∧ k = 0 := by
  unfold fits at h
  rw [if_neg (by omega)] at h
  by_cases h1 : s.size ≤ 100
  · rw [if_pos h1] at h; cases h
  · rw [if_neg h1] at h
    by_cases h2 : k = 0
    · exact ⟨by omega, h2⟩
    · rw [if_neg h2] at h; cases h
theorem nam_first {s : ByteArray} {k : Nat} (h : fits s k = false) (h0 : 1 ≤ s.size) : pre s k = ⟨#[]⟩ ∧ nam s k = first s := by
  obtain ⟨a, b⟩ := fits_small h h0
  unfold pre nam
  rw [if_neg (by omega : ¬ s.size ≤ 100), if_neg (by omega : ¬ s.size ≤ 100), if_pos b, if_pos b]
  exact ⟨rfl, rfl⟩
/- THE RECORDS. -/
theorem recs_len (p l : ByteArray) (c : Nat) : (recsL p l c).length ≤ 2 := by
  unfold recsL
  split <;> split <;> simp
theorem recs_mem {p l : ByteArray} {c : Nat} : ∀ r ∈ recsL p l c, r = (kPath, p) ∨ r = (kLink, l) := by
  intro r hr
  unfold recsL at hr
  rcases List.mem_append.1 hr with h | h
  · split at h
    · cases h
    · exact .inl (by simpa using h)
  · split at h
    · exact .inr (by simpa using h)
    · cases h
theorem may_path {p : ByteArray} (h : p.size ≤ 2000) : Rc.mayN (kPath, p) = 0 := by
  unfold Rc.mayN
  rw [if_pos (show Rc.kOk kPath.data.toList = true by decide), if_pos h]
theorem may_link {p : ByteArray} (h : p.size ≤ 2000) : Rc.mayN (kLink, p) = 0 := by
  unfold Rc.mayN
  rw [if_pos (show Rc.kOk kLink.data.toList = true by decide), if_pos h]
theorem layE_all : ∀ rs : List Rc.Rec, (∀ r ∈ rs, Rc.mayN r = 0) → Rc.layE rs = 0
  | [], _ => rfl
  | r :: t, h => by
    unfold Rc.layE
    rw [if_pos (h r (by simp))]
    exact layE_all t fun x hx => h x (List.mem_cons_of_mem _ hx)
theorem recs_ok {p l : ByteArray} {c : Nat} (hp : p.size ≤ 2000) (hl : l.size ≤ 2000) : Rc.layE (recsL p l c) = 0 := by
  apply layE_all
  intro r hr
  rcases recs_mem r hr with rfl | rfl
  · exact may_path hp
  · exact may_link hl
theorem recs_size (p l : ByteArray) (c : Nat) : (Rc.layB (recsL p l c)).length ≤ 5000 := by
  have h1 := recs_len p l c
  have h2 := Rc.flat_len (recsL p l c)
  unfold Rc.layB
  split
  · omega
  · simp
theorem pax_ok {b : Rc.Bs} (h : b.length ≤ 5000) : (Hh.layC ⟨#[]⟩ kPax ⟨#[]⟩ 0 0 0 0 (b.length : Int) 120).2 = 0 :=
  lay_ok ⟨#[]⟩ kPax ⟨#[]⟩ 0 0 0 0 (b.length : Int) 120 (by decide) (by decide) (by decide) (by decide) nz_nil (by unfold Nz; decide) nz_nil (by omega) (by omega) (by omega) (by omega) (by omega) (by omega) (by omega) (by omega) (by omega) (by omega)
theorem own_ok {p l : ByteArray} {c : Nat} {k m u g t : Int} {n : Nat} (hc : Sf.IsCut p c) (h : may p l k m u g t n = 0) : (Hh.layC (pre p c) (nam p c) (first l) m u g t (n : Int) (typ k)).2 = 0 := by
  obtain ⟨a, b, b2, d, e⟩ := may_zero h
  obtain ⟨m0, m1, u0, u1, g0, g1, t0, t1⟩ := num_facts d
  obtain ⟨_, _, pz⟩ := path_facts a
  obtain ⟨_, lz, ln, _, _⟩ := kind_facts b b2 e
  exact lay_ok _ _ _ _ _ _ _ _ _ (typ_is b b2).1 (pre_facts hc) (nam_facts hc) (first_size l) (pre_nz pz) (nam_nz pz) (nz_first lz) m0 m1 u0 u1 g0 g1 t0 t1 (by omega) (by omega)
/-- The header of what is laid, read. -/
theorem own_back {p l : ByteArray} {c : Nat} {k m u g t : Int} {n : Nat} (hc : Sf.IsCut p c) (h : may p l k m u g t n = 0) :
    Hh.parE (hdrB p l c k m u g t n) = 0 ∧ Hh.parV (hdrB p l c k m u g t n) = Hh.hdr (pre p c) (nam p c) (first l) m u g t (n : Int) (typ k) ∧ (hdrB p l c k m u g t n).length = 512 ∧ Byt (hdrB p l c k m u g t n) := by
  obtain ⟨a, b, b2, d, e⟩ := may_zero h
  obtain ⟨m0, m1, u0, u1, g0, g1, t0, t1⟩ := num_facts d
  obtain ⟨_, _, ln, _, _⟩ := kind_facts b b2 e
  obtain ⟨x1, x2, x3, x4, _⟩ := Hh.back (pre p c) (nam p c) (first l) m u g t (n : Int) (typ k) (by omega) (by omega) (by omega) (by omega) (by omega) (by omega) (by omega) (by omega) (by omega) (by omega) (own_ok hc h)
  exact ⟨x1, x2, x3, x4⟩
theorem pax_len {b : Rc.Bs} (h : b.length ≤ 5000) : (Hh.layC ⟨#[]⟩ kPax ⟨#[]⟩ 0 0 0 0 (b.length : Int) 120).1.length = 512 :=
  (Hh.back ⟨#[]⟩ kPax ⟨#[]⟩ 0 0 0 0 (b.length : Int) 120 (by omega) (by omega) (by omega) (by omega) (by omega) (by omega) (by omega) (by omega) (by omega) (by omega) (pax_ok h)).2.2.1
theorem fill_len (xs : List Int) : (fill xs).length = (xs.length + 511) / 512 * 512 := by
  unfold fill
  rw [List.length_append, List.length_replicate]
  split <;> omega
theorem own_len {p l : ByteArray} {c : Nat} {k m u g t : Int} {xs : List Int} (hc : Sf.IsCut p c) (h : may p l k m u g t xs.length = 0) : (ownB p l c k m u g t xs).length = 512 + (xs.length + 511) / 512 * 512 := by
  unfold ownB
  rw [List.length_append, (own_back hc h).2.2.1, fill_len]
theorem recB_len (p l : ByteArray) (c : Nat) : (recB (recsL p l c)).length % 512 = 0 ∧ (recB (recsL p l c)).length ≤ 6000 ∧ ((recB (recsL p l c)).length = 0 ↔ recsL p l c = []) := by
  unfold recB
  split
  · rename_i h
    exact ⟨rfl, Nat.zero_le _, by simp [h]⟩
  · rename_i h
    have hs := recs_size p l c
    have hl := pax_len hs
    unfold paxB
    rw [List.length_append, hl, fill_len, Rc.ints_len]
    refine ⟨by omega, by omega, ?_⟩
    constructor
    · intro h2; omega
    · intro h2; exact absurd h2 h
/- FROM. -/
theorem key_ne : ¬ kLink = kPath := by decide
theorem find_path {p l : ByteArray} {c : Nat} : Rc.findR kPath (recsL p l c) = if fits p c = true then none else some p := by
  unfold recsL
  by_cases h : fits p c = true
  · rw [if_pos h, if_pos h, List.nil_append]
    by_cases h2 : 100 < l.size
    · rw [if_pos h2]
      unfold Rc.findR
      simp [Rc.findR, key_ne]
    · rw [if_neg h2]; rfl
  · rw [if_neg h, if_neg h]
    by_cases h2 : 100 < l.size
    · rw [if_pos h2]
      simp [Rc.findR, key_ne]
    · rw [if_neg h2]
      simp [Rc.findR]
theorem find_link {p l : ByteArray} {c : Nat} : Rc.findR kLink (recsL p l c) = if 100 < l.size then some l else none := by
  have key_ne2 : ¬ kPath = kLink := by decide
  unfold recsL
  by_cases h2 : 100 < l.size
  · rw [if_pos h2, if_pos h2]
    by_cases h : fits p c = true
    · rw [if_pos h]; simp [Rc.findR]
    · rw [if_neg h]; simp [Rc.findR]
  · rw [if_neg h2, if_neg h2]
    by_cases h : fits p c = true
    · rw [if_pos h]; rfl
    · rw [if_neg h]; simp [Rc.findR, key_ne2]
theorem from_back {p l : ByteArray} {c : Nat} {k m u g t : Int} {xs : List Int} (hc : Sf.IsCut p c) (h : may p l k m u g t xs.length = 0) :
    fP (recsL p l c) (pre p c) (nam p c) = p ∧ kin (typ k) = k ∧ fL (recsL p l c) (typ k) (first l) = l ∧ fX (typ k) xs = xs ∧ fE (recsL p l c) (pre p c) (nam p c) (first l) (typ k) m u g t xs = 0 := by
  obtain ⟨a, b, b2, d, e⟩ := may_zero h
  obtain ⟨ll, _, _, ln, l0⟩ := kind_facts b b2 e
  have e1 : fP (recsL p l c) (pre p c) (nam p c) = p := by
    unfold fP told8
    rw [find_path]
    by_cases hf : fits p c = true
    · rw [if_pos hf]; exact join_back hc hf
    · rw [if_neg hf]
  have e2 := (typ_is b b2).2.2.2
  have e3 : fL (recsL p l c) (typ k) (first l) = l := by
    unfold fL told8
    rw [e2, find_link]
    by_cases hf : 100 < l.size
    · rw [if_pos hf]
      by_cases hk : k = 2 ∨ k = 3
      · rw [if_pos hk]
      · rw [if_neg hk]
        have := l0 (by omega)
        omega
    · rw [if_neg hf]
      by_cases hk : k = 2 ∨ k = 3
      · rw [if_pos hk]; exact first_all (by omega)
      · rw [if_neg hk]
        have h0 := l0 (by omega)
        apply ByteArray.ext
        apply Array.toList_inj.1
        have : l.data.toList = [] := List.eq_nil_of_length_eq_zero h0
        rw [this]
  have e4 : fX (typ k) xs = xs := by
    unfold fX
    rw [e2]
    by_cases hk : k = 1
    · rw [if_pos hk]
    · rw [if_neg hk]
      exact (List.eq_nil_of_length_eq_zero (ln hk)).symm
  refine ⟨e1, e2, e3, e4, ?_⟩
  unfold fE
  rw [e1, e2, e3, e4, if_neg (by omega), h]
theorem lay_eq8 {p l : ByteArray} {c : Nat} {k m u g t : Int} {xs : List Int} (h : may p l k m u g t xs.length = 0) : layM p l c k m u g t xs = recB (recsL p l c) ++ ownB p l c k m u g t xs := by
  unfold layM; rw [if_pos h]
theorem lay_bad {p l : ByteArray} {c : Nat} {k m u g t : Int} {xs : List Int} (h : may p l k m u g t xs.length ≠ 0) : layM p l c k m u g t xs = [] := by
  unfold layM; rw [if_neg h]
end Mb
end Go.Proofs.YtjhigkkkfkahdaaGreatDoor
