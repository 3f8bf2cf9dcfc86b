/- PLAIN MATHEMATICS OF LAYER 10 (archives that come in pieces): where a feed stands, what a piece comes to. No Go text is named. -/
import Derived.Test.YtjofdgjcbjdhbaaGreatDoorGm8
namespace Go.Proofs.YtjofdgjcbjdhbaaGreatDoor
open Go.RowKit
set_option linter.unusedVariables false
set_option maxRecDepth 100000
namespace Fd
/-- A header. -/
structure Hd where
  p : ByteArray
  nm : ByteArray
  l : ByteArray
  m : Int
  u : Int
  g : Int
  t : Int
  z : Int
  k : Int
def h0 : Hd := ⟨⟨#[]⟩, ⟨#[]⟩, ⟨#[]⟩, 0, 0, 0, 0, 0, 0⟩
def hE : Hd := ⟨⟨#[]⟩, ⟨#[]⟩, ⟨#[]⟩, 0, 0, 0, 0, 512, 0⟩
def hOf (x : List Int) : Hd := ⟨Ar.hp x, Ar.hn x, Ar.hl x, Ar.hm x, Ar.hu x, Ar.hg x, Ar.ht x, Ar.hz x, Ar.hk x⟩
/-- Where a feed stands. -/
structure S where
  at_ : Nat
  fr : Nat
  mrk : Nat
  ct : Nat
  dn : Bool
  st : Int
  ys : List Int
  has : Nat
  nd : Nat
  h : Hd
  al : List Rc.Rec
  nx : List Rc.Rec
def new : S := ⟨0, 0, 0, 0, false, 0, List.replicate 4608 0, 0, 512, h0, [], []⟩
def clr (s : S) : S := { s with has := 0, nd := 512, h := h0 }
def halt (s : S) (e : Int) : S := { s with st := e, has := 0, nd := 512, h := h0, al := [], nx := [] }
def ans (e : Int) : Int := if e = 4 then 0 else e
def brk (s : S) : Prop := s.st ≠ 0 ∧ s.st ≠ 4
/-- How many bytes of a piece are taken. -/
def tk (s : S) (xs : List Int) : Nat := min (s.nd - s.has) xs.length
def take (s : S) (xs : List Int) : S := { s with ys := s.ys.take s.has ++ xs.take (tk s xs) ++ s.ys.drop (s.has + tk s xs), has := s.has + tk s xs }
def blk (s : S) : List Int := s.ys.take 512
def meas (s : S) : S × Int :=
  if 512 < s.has then (s, 0)
  else if Hs.zeroS (blk s) = true then ({ s with h := hE, nd := s.nd + 512 }, 0)
  else if Hh.parE (blk s) = 0 then
    (if 4096 < Ar.hz (blk s) then ({ s with h := hE }, 10) else ({ s with h := hOf (blk s), nd := s.nd + (Bk.cnt (Ar.hz (blk s))).toNat * 512 }, 0))
  else ({ s with h := hE }, Hh.parE (blk s))
def dat (s : S) : List Int := (s.ys.drop 512).take s.h.z.toNat
def next (s : S) : S := { s with fr := s.fr + s.has, has := 0, nd := 512, h := h0 }
def kPath : ByteArray := ⟨#[112, 97, 116, 104]⟩
def kLink : ByteArray := ⟨#[108, 105, 110, 107, 112, 97, 116, 104]⟩
def one (k : ByteArray) (l : List Rc.Rec) : List Rc.Rec := match Rc.findR k l with
  | some v => [(k, v)]
  | none => []
def lasting (l : List Rc.Rec) : List Rc.Rec := one kPath l ++ one kLink l
def endS (s : S) (d : List Int) : S × Int := if Hs.zeroS d = true ∧ s.nx.length = 0 then ({ s with dn := true, al := [] }, 0) else (s, 3)
def waitS (s : S) (d : List Int) : S × Int :=
  if (Rc.parse (Ar.toB d)).2 = 0 then (if s.nx.length = 0 then ({ s with nx := (Rc.parse (Ar.toB d)).1 }, 0) else (s, 3)) else (s, (((Rc.parse (Ar.toB d)).2 : Nat) : Int))
def shareS (s : S) (d : List Int) : S × Int := ({ s with al := lasting (s.al ++ (Rc.parse (Ar.toB d)).1) }, (((Rc.parse (Ar.toB d)).2 : Nat) : Int))
def fE (s : S) (h : Hd) (d : List Int) : Int := Mb.fE (s.al ++ s.nx) h.p h.nm h.l h.k h.m h.u h.g h.t d
def fP (s : S) (h : Hd) : ByteArray := Mb.fP (s.al ++ s.nx) h.p h.nm
def tellS (s : S) (h : Hd) (d : List Int) : S × List ByteArray × Int :=
  if fE s h d = 0 then (if s.ct = 64 then (s, [], 5) else ({ s with nx := [], ct := s.ct + 1, mrk := s.fr }, [fP s h], 0)) else (s, [], fE s h d)
/-- What a header and its bytes, that are there, come to. -/
def body (s : S) (h : Hd) (d : List Int) : S × List ByteArray × Int :=
  if h.k = 0 then ((endS s d).1, [], (endS s d).2)
  else if h.k = 120 then ((waitS s d).1, [], (waitS s d).2)
  else if h.k = 103 then ((shareS s d).1, [], (shareS s d).2)
  else tellS s h d
def scan (s : S) : S × List ByteArray × Int :=
  if (meas s).2 = 0 then (if (meas s).1.has < (meas s).1.nd then ((meas s).1, [], 0) else body (next (meas s).1) (meas s).1.h (dat (meas s).1)) else ((meas s).1, [], (meas s).2)
/-- A step: it ends, or goes on with what is left of the piece. -/
inductive R where
  | fin (s : S) (m : List ByteArray) (e : Int)
  | go (s : S) (xs : List Int) (m : List ByteArray)
def stp (s : S) (xs : List Int) : R :=
  if s.dn = true ∧ 0 < xs.length then .fin (halt s 3) [] 3
  else if (take s xs).has < (take s xs).nd then .fin (take s xs) [] 0
  else if (scan (take s xs)).2.2 = 0 then .go (scan (take s xs)).1 (xs.drop (tk s xs)) (scan (take s xs)).2.1
  else .fin (halt (scan (take s xs)).1 (scan (take s xs)).2.2) (scan (take s xs)).2.1 (ans (scan (take s xs)).2.2)
inductive Wr : S → List Int → S → List ByteArray → Int → Prop
  | fin {s : S} {xs : List Int} {s' : S} {m : List ByteArray} {e : Int} : stp s xs = .fin s' m e → Wr s xs s' m e
  | go {s : S} {xs : List Int} {s1 : S} {ys : List Int} {m1 : List ByteArray} {s' : S} {m : List ByteArray} {e : Int} : stp s xs = .go s1 ys m1 → Wr s1 ys s' m e → Wr s xs s' (m1 ++ m) e
/- WHAT ALWAYS HOLDS. -/
def Hok (h : Hd) : Prop := 0 ≤ h.z ∧ h.z ≤ 4096 ∧ h.p.size ≤ 1000 ∧ h.nm.size ≤ 1000 ∧ h.l.size ≤ 1000
def Rok (l : List Rc.Rec) (n : Nat) : Prop := l.length ≤ n ∧ ∀ r ∈ l, r.2.size ≤ 2000
/-- N: how many bytes came at most. -/
structure Ok (N : Nat) (s : S) : Prop where
  len : s.ys.length = 4608
  byt : Byt s.ys
  hh : s.has ≤ s.nd
  nn : 512 ≤ s.nd ∧ s.nd ≤ 4608
  mf : s.mrk ≤ s.fr
  fa : s.fr + s.has ≤ s.at_
  an : s.at_ ≤ N
  ct : s.ct ≤ 64
  hd : 512 < s.nd → Hok s.h
  low : s.nd ≤ 512 → s.nd = 512
  zn : 512 < s.nd → s.h.z + 512 ≤ (s.nd : Int)
  al : Rok s.al 2
  nx : Rok s.nx 4096
theorem hE_ok : Hok hE := ⟨by decide, by decide, by decide, by decide, by decide⟩
theorem h0_ok : Hok h0 := ⟨by decide, by decide, by decide, by decide, by decide⟩
theorem rok_nil (n : Nat) : Rok [] n := ⟨Nat.zero_le _, fun r h => by cases h⟩
theorem hz_nn {x : List Int} (h : Hh.parE x = 0) : 0 ≤ Ar.hz x ∧ Ar.hk x ≠ 0 := by
  unfold Hh.parE at h
  by_cases h1 : Hs.checkS x = 0
  · rw [if_pos h1] at h
    repeat' split at h
    all_goals first
      | (exfalso; omega)
      | skip
    all_goals first
      | (exfalso; assumption)
      | skip
    all_goals
      rename_i hT hb
      constructor
      · unfold Hh.bel at hb
        show 0 ≤ (Nf.getS (Hh.sub x 124 12)).1
        simp at hb
        omega
      · intro hk
        have hk' : Hh.kindOf x = 0 := hk
        rw [hk'] at hT
        revert hT
        decide
  · rw [if_neg h1] at h
    exact absurd h h1
theorem rep_zero (n j : Nat) : (List.replicate n (0 : Int)).getD j 0 = 0 := by
  rw [List.getD_eq_getElem?_getD, List.getElem?_replicate]
  split <;> rfl
theorem ok_new : Ok 0 new :=
  { len := by simp [new], byt := fun j => by rw [show (new.ys).getD j 0 = 0 from rep_zero 4608 j]; exact ⟨Int.le_refl _, by decide⟩, hh := by decide, nn := by decide, mf := Nat.le_refl _, fa := Nat.le_refl _, an := Nat.le_refl _, ct := by decide, hd := fun h => absurd h (by decide), low := fun _ => rfl, zn := fun h => absurd h (by decide), al := rok_nil _, nx := rok_nil _ }
end Fd
end Go.Proofs.YtjofdgjcbjdhbaaGreatDoor
/- PLAIN MATHEMATICS OF LAYER 10, SECOND PART: what holds through each step of a feed. No Go text is named. -/
namespace Go.Proofs.YtjofdgjcbjdhbaaGreatDoor
open Go.RowKit
set_option linter.unusedVariables false
set_option maxRecDepth 100000
namespace Fd
theorem byt_tk {xs : List Int} (h : Byt xs) (k : Nat) : Byt (xs.take k) := fun j => by
  by_cases hj : j < k
  · have := h j
    simpa [List.getD_eq_getElem?_getD, List.getElem?_take, hj] using this
  · simp [List.getD_eq_getElem?_getD, List.getElem?_take, hj]
theorem take_same {s : S} {xs : List Int} : (take s xs).st = s.st ∧ (take s xs).dn = s.dn ∧ (take s xs).ct = s.ct ∧ (take s xs).nd = s.nd ∧ (take s xs).at_ = s.at_ ∧ (take s xs).has = s.has + tk s xs := ⟨rfl, rfl, rfl, rfl, rfl, rfl⟩
theorem meas_st (s : S) : (meas s).1.st = s.st ∧ (meas s).1.has = s.has := by
  unfold meas
  split
  · exact ⟨rfl, rfl⟩
  · split
    · exact ⟨rfl, rfl⟩
    · split
      · split
        · exact ⟨rfl, rfl⟩
        · exact ⟨rfl, rfl⟩
      · exact ⟨rfl, rfl⟩
theorem body_st (s : S) (h : Hd) (d : List Int) : (body s h d).1.st = s.st ∧ (body s h d).1.has = s.has ∧ (body s h d).1.nd = s.nd := by
  unfold body
  split
  · unfold endS; dsimp only; split <;> exact ⟨rfl, rfl, rfl⟩
  · split
    · unfold waitS; dsimp only; split
      · split <;> exact ⟨rfl, rfl, rfl⟩
      · exact ⟨rfl, rfl, rfl⟩
    · split
      · exact ⟨rfl, rfl, rfl⟩
      · unfold tellS; split
        · split <;> exact ⟨rfl, rfl, rfl⟩
        · exact ⟨rfl, rfl, rfl⟩
theorem scan_st (s : S) : (scan s).1.st = s.st := by
  unfold scan
  split
  · split
    · exact (meas_st s).1
    · rw [(body_st _ _ _).1]; exact (meas_st s).1
  · exact (meas_st s).1
theorem scan_lt {s : S} (h : (scan s).2.2 = 0) : (scan s).1.has < (scan s).1.nd := by
  unfold scan at h ⊢
  split
  · split
    · assumption
    · obtain ⟨_, h2, h3⟩ := body_st (next (meas s).1) (meas s).1.h (dat (meas s).1)
      rw [h2, h3]
      show 0 < 512
      decide
  · rename_i hne
    rw [if_neg hne] at h
    exact absurd h hne
theorem ok_take {N : Nat} {s : S} {xs : List Int} (h : Ok N s) (hx : Byt xs) (hr : s.fr + s.has + xs.length ≤ s.at_) : Ok N (take s xs) ∧ (take s xs).fr + (take s xs).has + (xs.drop (tk s xs)).length ≤ (take s xs).at_ := by
  have h1 := h.hh
  have h2 := h.nn
  have h3 := h.len
  have ht : tk s xs ≤ s.nd - s.has := Nat.min_le_left _ _
  have ht2 : tk s xs ≤ xs.length := Nat.min_le_right _ _
  refine ⟨{ len := ?_, byt := ?_, hh := ?_, nn := h.nn, mf := h.mf, fa := ?_, an := h.an, ct := h.ct, hd := h.hd, low := h.low, zn := h.zn, al := h.al, nx := h.nx }, ?_⟩
  · show (s.ys.take s.has ++ xs.take (tk s xs) ++ s.ys.drop (s.has + tk s xs)).length = 4608
    simp only [List.length_append, List.length_take, List.length_drop]
    omega
  · exact ((byt_tk h.byt _).append (byt_tk hx _)).append (h.byt.drop _)
  · show s.has + tk s xs ≤ s.nd
    omega
  · show s.fr + (s.has + tk s xs) ≤ s.at_
    omega
  · show s.fr + (s.has + tk s xs) + (xs.drop (tk s xs)).length ≤ s.at_
    rw [List.length_drop]
    omega
theorem cnt8 {z : Int} (h0 : 0 ≤ z) (h : z ≤ 4096) : 0 ≤ Bk.cnt z ∧ Bk.cnt z ≤ 8 ∧ z ≤ 512 * Bk.cnt z := by
  have h1 := Bk.pad_cnt h0
  have h2 := Bk.pad_bd z
  omega
theorem hof_ok {x : List Int} (h : Hh.parE x = 0) (hz : ¬ 4096 < Ar.hz x) : Hok (hOf x) := by
  obtain ⟨a, b, c⟩ := Ar.hd_sizes x
  exact ⟨(hz_nn h).1, by show Ar.hz x ≤ 4096; omega, by show (Ar.hp x).size ≤ 1000; omega, by show (Ar.hn x).size ≤ 1000; omega, by show (Ar.hl x).size ≤ 1000; omega⟩
theorem ok_meas {N : Nat} {s : S} (h : Ok N s) (hw : s.has = s.nd) : Ok N (meas s).1 ∧ ((meas s).2 = 0 → Hok (meas s).1.h ∧ (meas s).1.h.z + 512 ≤ (meas s).1.nd) ∧ (meas s).1.fr = s.fr ∧ (meas s).1.at_ = s.at_ := by
  have h2 := h.nn
  unfold meas
  split
  · rename_i h1
    have hd := h.hd (by omega)
    refine ⟨h, fun _ => ⟨hd, ?_⟩, rfl, rfl⟩
    exact h.zn (by omega)
  · rename_i h1
    have hl := h.low (by omega)
    split
    · refine ⟨{ len := h.len, byt := h.byt, hh := ?_, nn := ?_, mf := h.mf, fa := h.fa, an := h.an, ct := h.ct, hd := fun _ => hE_ok, low := ?_, zn := ?_, al := h.al, nx := h.nx }, fun _ => ⟨hE_ok, ?_⟩, rfl, rfl⟩
      · show s.has ≤ s.nd + 512; omega
      · show 512 ≤ s.nd + 512 ∧ s.nd + 512 ≤ 4608; omega
      · show s.nd + 512 ≤ 512 → s.nd + 512 = 512; omega
      · intro _; show (512 : Int) + 512 ≤ ((s.nd + 512 : Nat) : Int); omega
      · show (512 : Int) + 512 ≤ ((s.nd + 512 : Nat) : Int); omega
    · split
      · rename_i hp
        split
        · refine ⟨{ len := h.len, byt := h.byt, hh := h.hh, nn := h.nn, mf := h.mf, fa := h.fa, an := h.an, ct := h.ct, hd := fun _ => hE_ok, low := h.low, zn := ?_, al := h.al, nx := h.nx }, fun h => absurd h (show (10 : Int) ≠ 0 by decide), rfl, rfl⟩
          show 512 < s.nd → (512 : Int) + 512 ≤ (s.nd : Int)
          omega
        · rename_i hz
          have hok := hof_ok hp hz
          have hc := cnt8 (hz_nn hp).1 (show Ar.hz (blk s) ≤ 4096 by omega)
          refine ⟨{ len := h.len, byt := h.byt, hh := ?_, nn := ?_, mf := h.mf, fa := h.fa, an := h.an, ct := h.ct, hd := fun _ => hok, low := ?_, zn := ?_, al := h.al, nx := h.nx }, fun _ => ⟨hok, ?_⟩, rfl, rfl⟩
          · show s.has ≤ s.nd + _; omega
          · show 512 ≤ s.nd + (Bk.cnt (Ar.hz (blk s))).toNat * 512 ∧ s.nd + (Bk.cnt (Ar.hz (blk s))).toNat * 512 ≤ 4608; omega
          · show s.nd + (Bk.cnt (Ar.hz (blk s))).toNat * 512 ≤ 512 → s.nd + (Bk.cnt (Ar.hz (blk s))).toNat * 512 = 512; omega
          · intro _; show Ar.hz (blk s) + 512 ≤ ((s.nd + (Bk.cnt (Ar.hz (blk s))).toNat * 512 : Nat) : Int); omega
          · show Ar.hz (blk s) + 512 ≤ ((s.nd + (Bk.cnt (Ar.hz (blk s))).toNat * 512 : Nat) : Int); omega
      · rename_i hp
        refine ⟨{ len := h.len, byt := h.byt, hh := h.hh, nn := h.nn, mf := h.mf, fa := h.fa, an := h.an, ct := h.ct, hd := fun _ => hE_ok, low := h.low, zn := ?_, al := h.al, nx := h.nx }, fun h => absurd h hp, rfl, rfl⟩
        show 512 < s.nd → (512 : Int) + 512 ≤ (s.nd : Int)
        omega
theorem findR_mem {k v : ByteArray} : ∀ {l : List Rc.Rec}, Rc.findR k l = some v → ∃ r ∈ l, r.2 = v
  | [], h => by cases h
  | r :: t, h => by
    unfold Rc.findR at h
    split at h
    · rename_i v2 h2
      obtain ⟨r2, h3, h4⟩ := findR_mem h2
      exact ⟨r2, List.mem_cons_of_mem _ h3, h4.trans (by injection h)⟩
    · split at h
      · exact ⟨r, by simp, by injection h⟩
      · cases h
theorem one_ok (k : ByteArray) {l : List Rc.Rec} (h : ∀ r ∈ l, r.2.size ≤ 2000) : Rok (one k l) 1 := by
  unfold one
  split
  · rename_i v hv
    obtain ⟨r, hr, rfl⟩ := findR_mem hv
    exact ⟨Nat.le_refl _, fun x hx => by
      have hx' := List.mem_singleton.1 hx
      subst hx'
      exact h r hr⟩
  · exact rok_nil _
theorem lasting_ok {l : List Rc.Rec} (h : ∀ r ∈ l, r.2.size ≤ 2000) : Rok (lasting l) 2 := by
  obtain ⟨a1, a2⟩ := one_ok kPath h
  obtain ⟨b1, b2⟩ := one_ok kLink h
  refine ⟨by unfold lasting; rw [List.length_append]; omega, fun r hr => ?_⟩
  rcases List.mem_append.1 hr with h | h
  · exact a2 r h
  · exact b2 r h
theorem par_ok (d : List Int) (hd : d.length ≤ 4096) : Rok (Rc.parse (Ar.toB d)).1 4096 := by
  by_cases h : (Rc.parse (Ar.toB d)).2 = 0
  · obtain ⟨h1, h2⟩ := Ar.parse_fits h
    rw [Ar.toB_len] at h1
    exact ⟨by omega, h2⟩
  · rw [Rc.parse_shape _ h]
    exact rok_nil _
theorem ok_body {N : Nat} {s : S} {h : Hd} {d : List Int} (o : Ok N s) (hd : d.length ≤ 4096) (hw : s.has = 0) : Ok N (body s h d).1 ∧ (body s h d).1.fr = s.fr ∧ (body s h d).1.at_ = s.at_ := by
  obtain ⟨p1, p2⟩ := par_ok d hd
  have oo := o
  obtain ⟨a1, a2, a3, a4, a5, a6, a7, a8, a9, a10, a11, a12, a13⟩ := o
  unfold body
  split
  · unfold endS; dsimp only; split
    · exact ⟨⟨a1, a2, a3, a4, a5, a6, a7, a8, a9, a10, a11, rok_nil _, a13⟩, rfl, rfl⟩
    · exact ⟨oo, rfl, rfl⟩
  · split
    · unfold waitS; dsimp only; split
      · split
        · exact ⟨⟨a1, a2, a3, a4, a5, a6, a7, a8, a9, a10, a11, a12, ⟨p1, p2⟩⟩, rfl, rfl⟩
        · exact ⟨oo, rfl, rfl⟩
      · exact ⟨oo, rfl, rfl⟩
    · split
      · unfold shareS
        refine ⟨⟨a1, a2, a3, a4, a5, a6, a7, a8, a9, a10, a11, lasting_ok fun r hr => ?_, a13⟩, rfl, rfl⟩
        rcases List.mem_append.1 hr with h | h
        · exact a12.2 r h
        · exact p2 r h
      · unfold tellS; split
        · split
          · exact ⟨oo, rfl, rfl⟩
          · refine ⟨⟨a1, a2, a3, a4, Nat.le_refl _, a6, a7, ?_, a9, a10, a11, a12, rok_nil _⟩, rfl, rfl⟩
            show s.ct + 1 ≤ 64
            omega
        · exact ⟨oo, rfl, rfl⟩
theorem ok_next {N : Nat} {s : S} (o : Ok N s) : Ok N (next s) := by
  obtain ⟨a1, a2, a3, a4, a5, a6, a7, a8, a9, a10, a11, a12, a13⟩ := o
  exact ⟨a1, a2, Nat.zero_le _, ⟨Nat.le_refl _, by show 512 ≤ 4608; decide⟩, by show s.mrk ≤ s.fr + s.has; omega, by show s.fr + s.has + 0 ≤ s.at_; omega, a7, a8, fun h => absurd h (by show ¬ 512 < 512; omega), fun _ => rfl, fun h => absurd h (by show ¬ 512 < 512; omega), a12, a13⟩
theorem ok_halt {N : Nat} {s : S} (o : Ok N s) (e : Int) : Ok N (halt s e) := by
  obtain ⟨a1, a2, a3, a4, a5, a6, a7, a8, a9, a10, a11, a12, a13⟩ := o
  exact ⟨a1, a2, Nat.zero_le _, ⟨Nat.le_refl _, by show 512 ≤ 4608; decide⟩, a5, by show s.fr + 0 ≤ s.at_; omega, a7, a8, fun h => absurd h (by show ¬ 512 < 512; omega), fun _ => rfl, fun h => absurd h (by show ¬ 512 < 512; omega), rok_nil _, rok_nil _⟩
theorem dat_len (s : S) (h : s.h.z ≤ 4096) : (dat s).length ≤ 4096 := by
  unfold dat
  rw [List.length_take]
  omega
theorem ok_scan {N : Nat} {s : S} (o : Ok N s) (hw : s.has = s.nd) (r : Nat) (hr : s.fr + s.has + r ≤ s.at_) : Ok N (scan s).1 ∧ ((scan s).2.2 = 0 → (scan s).1.fr + (scan s).1.has + r ≤ (scan s).1.at_) := by
  obtain ⟨m1, m2, m3, m4⟩ := ok_meas o hw
  have ms := (meas_st s).2
  unfold scan
  split
  · rename_i he
    obtain ⟨k1, k2⟩ := m2 he
    split
    · exact ⟨m1, fun _ => by rw [m3, m4, ms]; exact hr⟩
    · obtain ⟨b1, b2, b3⟩ := ok_body (h := (meas s).1.h) (ok_next m1) (dat_len _ k1.2.1) rfl
      refine ⟨b1, fun _ => ?_⟩
      rw [b2, b3, (body_st _ _ _).2.1]
      show (meas s).1.fr + (meas s).1.has + 0 + r ≤ (meas s).1.at_
      rw [m3, m4, ms]
      omega
  · exact ⟨m1, fun h => absurd h (by assumption)⟩
/-- What a piece leaves. -/
def Fin (N : Nat) (s : S) (e : Int) : Prop := Ok N s ∧ (e ≠ 0 → s.st = e ∧ e ≠ 4) ∧ (s.st ≠ 0 → s.has = 0) ∧ (s.st = 0 → s.has < s.nd)
theorem stp_fin {N : Nat} {s s' : S} {xs : List Int} {m : List ByteArray} {e : Int} (h : stp s xs = .fin s' m e) (o : Ok N s) (hx : Byt xs) (hr : s.fr + s.has + xs.length ≤ s.at_) (hst : s.st = 0) (hlt : s.has < s.nd) : Fin N s' e := by
  unfold stp at h
  split at h
  · cases h
    exact ⟨ok_halt o 3, fun _ => ⟨rfl, by decide⟩, fun _ => rfl, fun h => absurd h (show (3 : Int) ≠ 0 by decide)⟩
  · obtain ⟨t1, t2⟩ := ok_take o hx hr
    split at h
    · rename_i hl
      cases h
      exact ⟨t1, fun h => absurd rfl h, fun h => absurd hst h, fun _ => hl⟩
    · rename_i hl
      have hw : (take s xs).has = (take s xs).nd := by have := t1.hh; omega
      obtain ⟨k1, _⟩ := ok_scan t1 hw 0 (by omega)
      split at h
      · cases h
      · rename_i he
        cases h
        refine ⟨ok_halt k1 _, fun h => ?_, fun _ => rfl, fun h => absurd h he⟩
        unfold ans at h ⊢
        split at h
        · exact absurd rfl h
        · rename_i h4
          rw [if_neg h4]
          exact ⟨rfl, h4⟩
theorem stp_go {N : Nat} {s s1 : S} {xs ys : List Int} {m : List ByteArray} (h : stp s xs = .go s1 ys m) (o : Ok N s) (hx : Byt xs) (hr : s.fr + s.has + xs.length ≤ s.at_) (hst : s.st = 0) (hlt : s.has < s.nd) :
    Ok N s1 ∧ Byt ys ∧ s1.fr + s1.has + ys.length ≤ s1.at_ ∧ s1.st = 0 ∧ s1.has < s1.nd ∧ ys.length < xs.length ∧ ys = xs.drop (tk s xs) ∧ tk s xs ≤ xs.length := by
  unfold stp at h
  split at h
  · cases h
  · obtain ⟨t1, t2⟩ := ok_take o hx hr
    split at h
    · cases h
    · rename_i hl
      have hw : (take s xs).has = (take s xs).nd := by have := t1.hh; omega
      split at h
      · rename_i he
        cases h
        obtain ⟨k1, k2⟩ := ok_scan t1 hw _ t2
        have h1 : (take s xs).has = s.has + tk s xs := rfl
        have h2 : (take s xs).nd = s.nd := rfl
        have h3 : tk s xs ≤ xs.length := Nat.min_le_right _ _
        exact ⟨k1, hx.drop _, k2 he, (scan_st _).trans hst, scan_lt he, by rw [List.length_drop]; omega, rfl, h3⟩
      · cases h
theorem wr_fin {N : Nat} {s s' : S} {xs : List Int} {m : List ByteArray} {e : Int} (h : Wr s xs s' m e) : Ok N s → Byt xs → s.fr + s.has + xs.length ≤ s.at_ → s.st = 0 → s.has < s.nd → Fin N s' e := by
  induction h with
  | fin h => exact fun o hx hr hst hlt => stp_fin h o hx hr hst hlt
  | go h _ ih =>
    intro o hx hr hst hlt
    obtain ⟨a1, a2, a3, a4, a5, _⟩ := stp_go h o hx hr hst hlt
    exact ih a1 a2 a3 a4 a5
/-- A whole piece: what Write comes to. -/
def come (s : S) (n : Nat) : S := { s with at_ := s.at_ + n }
inductive WrT : S → List Int → S → List ByteArray → Int → Prop
  | broken {s : S} {xs : List Int} : s.st ≠ 0 → s.st ≠ 4 → WrT s xs s [] s.st
  | over {s : S} {xs : List Int} : s.st = 4 → WrT s xs (come s xs.length) [] 0
  | on {s : S} {xs : List Int} {s' : S} {m : List ByteArray} {e : Int} : s.st = 0 → Wr (come s xs.length) xs s' m e → WrT s xs s' m e
/-- Between pieces. -/
def Wst (N : Nat) (s : S) : Prop := Ok N s ∧ (s.st ≠ 0 → s.has = 0) ∧ (s.st = 0 → s.has < s.nd)
theorem ok_come {N n : Nat} {s : S} (o : Ok N s) : Ok (N + n) (come s n) := by
  obtain ⟨a1, a2, a3, a4, a5, a6, a7, a8, a9, a10, a11, a12, a13⟩ := o
  exact ⟨a1, a2, a3, a4, a5, by show s.fr + s.has ≤ s.at_ + n; omega, by show s.at_ + n ≤ N + n; omega, a8, a9, a10, a11, a12, a13⟩
theorem ok_more {N M : Nat} {s : S} (o : Ok N s) (h : N ≤ M) : Ok M s := by
  obtain ⟨a1, a2, a3, a4, a5, a6, a7, a8, a9, a10, a11, a12, a13⟩ := o
  exact ⟨a1, a2, a3, a4, a5, a6, by omega, a8, a9, a10, a11, a12, a13⟩
theorem wrt_st {N : Nat} {s s' : S} {xs : List Int} {m : List ByteArray} {e : Int} (h : WrT s xs s' m e) (w : Wst N s) (hx : Byt xs) : Wst (N + xs.length) s' ∧ (e ≠ 0 → s'.st = e ∧ e ≠ 4) ∧ s'.has ≤ 4607 ∧ (e ≠ 0 → s'.has = 0) ∧ s'.mrk ≤ s'.at_ := by
  obtain ⟨o, w1, w2⟩ := w
  have fin : ∀ {s2 : S} {N2 : Nat}, Ok N2 s2 → (s2.st ≠ 0 → s2.has = 0) → (s2.st = 0 → s2.has < s2.nd) → s2.has ≤ 4607 ∧ s2.mrk ≤ s2.at_ := fun {s2 N2} o2 k1 k2 => by
    have h1 := o2.nn; have h2 := o2.mf; have h3 := o2.fa
    by_cases hs : s2.st = 0
    · have := k2 hs; omega
    · have := k1 hs; omega
  cases h with
  | broken b1 b2 =>
    obtain ⟨f1, f2⟩ := fin o w1 w2
    exact ⟨⟨ok_more o (by omega), w1, w2⟩, fun _ => ⟨rfl, b2⟩, f1, fun _ => w1 b1, f2⟩
  | over b1 =>
    have o2 := ok_come (n := xs.length) o
    obtain ⟨f1, f2⟩ := fin o2 w1 w2
    exact ⟨⟨o2, w1, w2⟩, fun h => absurd rfl h, f1, fun h => absurd rfl h, f2⟩
  | on b1 b2 =>
    have o2 := ok_come (n := xs.length) o
    have h6 := o.fa
    obtain ⟨g1, g2, g3, g4⟩ := wr_fin b2 o2 hx (by show s.fr + s.has + xs.length ≤ s.at_ + xs.length; omega) b1 (w2 b1)
    obtain ⟨f1, f2⟩ := fin g1 g3 g4
    exact ⟨⟨g1, g3, g4⟩, g2, f1, fun h => g3 (by rw [(g2 h).1]; exact h), f2⟩
/-- What broke it stays. -/
theorem wrt_broken {s s' : S} {xs : List Int} {m : List ByteArray} {e : Int} (h : WrT s xs s' m e) (h0 : s.st ≠ 0) (h4 : s.st ≠ 4) : s' = s ∧ m = [] ∧ e = s.st := by
  cases h with
  | broken _ _ => exact ⟨rfl, rfl, rfl⟩
  | over b => exact absurd b h4
  | on b _ => exact absurd b h0
end Fd
end Go.Proofs.YtjofdgjcbjdhbaaGreatDoor
/- PLAIN MATHEMATICS OF LAYER 10, THIRD PART: a directory's header in two pieces. No Go text is named. -/
namespace Go.Proofs.YtjofdgjcbjdhbaaGreatDoor
open Go.RowKit
set_option linter.unusedVariables false
set_option maxRecDepth 100000
namespace Fd
def yA : List Int := Mb.hdrB ⟨#[97]⟩ ⟨#[]⟩ 0 4 0 0 0 0 0
theorem yA_facts : yA.length = 512 ∧ Byt yA ∧ Hs.zeroS yA = false ∧ Hh.parE yA = 0 ∧ Ar.hz yA = 0 ∧ Ar.hk yA = 53 ∧ Mb.fE [] (Ar.hp yA) (Ar.hn yA) (Ar.hl yA) (Ar.hk yA) (Ar.hm yA) (Ar.hu yA) (Ar.hg yA) (Ar.ht yA) [] = 0 ∧ Mb.fP [] (Ar.hp yA) (Ar.hn yA) = ⟨#[97]⟩ := by
  obtain ⟨k0, k1, k2, k3⟩ := Mb.own_back (l := ⟨#[]⟩) (k := 4) (m := 0) (u := 0) (g := 0) (t := 0) (n := 0) Ar.cutA Ar.mA_may
  obtain ⟨b1, b2, b3, b4, b5⟩ := Mb.from_back (xs := []) Ar.cutA Ar.mA_may
  obtain ⟨a1, a2, a3, a4, a5, a6, a7, a8, a9⟩ := Ar.hdr_parts k0 k1
  have e : Mb.recsL ⟨#[97]⟩ ⟨#[]⟩ 0 = [] := by decide +kernel
  have b1' : Mb.fP (Mb.recsL ⟨#[97]⟩ ⟨#[]⟩ 0) (Mb.pre ⟨#[97]⟩ 0) (Mb.nam ⟨#[97]⟩ 0) = ⟨#[97]⟩ := b1
  have b5' : Mb.fE (Mb.recsL ⟨#[97]⟩ ⟨#[]⟩ 0) (Mb.pre ⟨#[97]⟩ 0) (Mb.nam ⟨#[97]⟩ 0) (Mb.first ⟨#[]⟩) (Mb.typ 4) 0 0 0 0 [] = 0 := b5
  rw [e] at b1' b5'
  unfold yA
  refine ⟨k2, k3, Ar.par_noZero k0, k0, by rw [a8]; rfl, by rw [a9]; rfl, ?_, ?_⟩
  · rw [a1, a2, a3, a4, a5, a6, a7, a9]; exact b5'
  · rw [a1, a2]; exact b1'
theorem wr_det_fin {s s1 s2 : S} {xs : List Int} {m m2 : List ByteArray} {e e2 : Int} (h : stp s xs = .fin s1 m e) (w : Wr s xs s2 m2 e2) : s2 = s1 ∧ m2 = m ∧ e2 = e := by
  cases w with
  | fin h2 => rw [h] at h2; cases h2; exact ⟨rfl, rfl, rfl⟩
  | go h2 _ => rw [h] at h2; cases h2
theorem wr_det_go {s s1 s2 : S} {xs ys : List Int} {m m2 : List ByteArray} {e2 : Int} (h : stp s xs = .go s1 ys m) (w : Wr s xs s2 m2 e2) : ∃ m3, m2 = m ++ m3 ∧ Wr s1 ys s2 m3 e2 := by
  cases w with
  | fin h2 => rw [h] at h2; cases h2
  | go h2 h3 => rw [h] at h2; cases h2; exact ⟨_, rfl, h3⟩
theorem alive_first {s1 : S} {m1 : List ByteArray} {E1 : Int} (h1 : WrT new (yA.take 100) s1 m1 E1) : m1 = [] ∧ E1 = 0 := by
  obtain ⟨yl, _⟩ := yA_facts
  generalize yA = Y at *
  have l1 : (Y.take 100).length = 100 := by rw [List.length_take, yl]; rfl
  have tk1 : tk (come new (Y.take 100).length) (Y.take 100) = 100 := by unfold tk; rw [l1]; rfl
  have st1 : stp (come new (Y.take 100).length) (Y.take 100) = .fin (take (come new (Y.take 100).length) (Y.take 100)) [] 0 := by
    unfold stp
    rw [if_neg (fun h => by cases h.1), if_pos]
    show 0 + tk (come new (Y.take 100).length) (Y.take 100) < 512
    rw [tk1]; decide
  cases h1 with
  | broken b _ => exact absurd rfl b
  | over b => exact absurd b (show (0 : Int) ≠ 4 by decide)
  | on _ w => exact (wr_det_fin st1 w).2
theorem alive_feed {s1 s2 : S} {m1 m2 : List ByteArray} {E1 E2 : Int} (h1 : WrT new (yA.take 100) s1 m1 E1) (h2 : WrT s1 (yA.drop 100) s2 m2 E2) : m1 = [] ∧ E1 = 0 ∧ m2 = [⟨#[97]⟩] ∧ E2 = 0 ∧ s2.mrk = 512 ∧ s2.st = 0 ∧ s2.dn = false := by
  obtain ⟨yl, yb, yz, yp, yh, yk, ye, yP⟩ := yA_facts
  generalize yA = Y at *
  have l1 : (Y.take 100).length = 100 := by rw [List.length_take, yl]; rfl
  have l2 : (Y.drop 100).length = 412 := by rw [List.length_drop, yl]
  have tk1 : tk (come new (Y.take 100).length) (Y.take 100) = 100 := by unfold tk; rw [l1]; rfl
  have st1 : stp (come new (Y.take 100).length) (Y.take 100) = .fin (take (come new (Y.take 100).length) (Y.take 100)) [] 0 := by
    unfold stp
    rw [if_neg (fun h => by cases h.1), if_pos]
    show 0 + tk (come new (Y.take 100).length) (Y.take 100) < 512
    rw [tk1]; decide
  have r1 : s1 = take (come new (Y.take 100).length) (Y.take 100) ∧ m1 = [] ∧ E1 = 0 := by
    cases h1 with
    | broken b _ => exact absurd rfl b
    | over b => exact absurd b (show (0 : Int) ≠ 4 by decide)
    | on _ w => exact wr_det_fin st1 w
  obtain ⟨rfl, rfl, rfl⟩ := r1
  obtain ⟨S1, hS1⟩ : ∃ S1, S1 = come (take (come new (Y.take 100).length) (Y.take 100)) (Y.drop 100).length := ⟨_, rfl⟩
  have f1 : S1.has = 100 ∧ S1.nd = 512 ∧ S1.dn = false ∧ S1.st = 0 ∧ S1.al = [] ∧ S1.nx = [] ∧ S1.ct = 0 ∧ S1.fr = 0 ∧ S1.ys.take 100 = Y.take 100 ∧ S1.ys.length = 4608 := by
    subst hS1
    refine ⟨?_, rfl, rfl, rfl, rfl, rfl, rfl, rfl, ?_, ?_⟩
    · show 0 + tk (come new (Y.take 100).length) (Y.take 100) = 100
      rw [tk1]
    · show (([] : List Int) ++ (Y.take 100).take (tk (come new (Y.take 100).length) (Y.take 100)) ++ (List.replicate 4608 (0 : Int)).drop (0 + tk (come new (Y.take 100).length) (Y.take 100))).take 100 = Y.take 100
      rw [tk1, List.nil_append, List.take_take, Nat.min_self, List.take_append_of_le_length (by rw [l1]; decide), List.take_take, Nat.min_self]
    · show (([] : List Int) ++ (Y.take 100).take (tk (come new (Y.take 100).length) (Y.take 100)) ++ (List.replicate 4608 (0 : Int)).drop (0 + tk (come new (Y.take 100).length) (Y.take 100))).length = 4608
      rw [tk1, List.nil_append, List.length_append, List.length_take, l1, List.length_drop, List.length_replicate]
      rfl
  obtain ⟨g1, g2, g3, g4, g5, g6, g7, g8, g9, g10⟩ := f1
  have w2 : Wr S1 (Y.drop 100) s2 m2 E2 := by
    rw [hS1]
    cases h2 with
    | broken b _ => exact absurd rfl b
    | over b => exact absurd b (show (0 : Int) ≠ 4 by decide)
    | on _ w => exact w
  clear hS1 h1 h2 st1 tk1
  have tk2 : tk S1 (Y.drop 100) = 412 := by unfold tk; rw [g1, g2, l2]; rfl
  obtain ⟨S2, hS2⟩ : ∃ S2, S2 = take S1 (Y.drop 100) := ⟨_, rfl⟩
  have e2 : S2.has = 512 ∧ S2.nd = 512 ∧ S2.al = [] ∧ S2.nx = [] ∧ S2.ct = 0 ∧ S2.fr = 0 ∧ S2.st = 0 ∧ S2.dn = false ∧ blk S2 = Y := by
    subst hS2
    refine ⟨?_, g2, g5, g6, g7, g8, g4, g3, ?_⟩
    · show S1.has + tk S1 (Y.drop 100) = 512
      rw [g1, tk2]
    · show (S1.ys.take S1.has ++ (Y.drop 100).take (tk S1 (Y.drop 100)) ++ S1.ys.drop (S1.has + tk S1 (Y.drop 100))).take 512 = Y
      rw [g1, tk2, g9, List.take_of_length_le (l := Y.drop 100) (by rw [l2]; decide), List.take_append_drop, List.take_append_of_le_length (by rw [yl]; decide), List.take_of_length_le (by rw [yl]; decide)]
  obtain ⟨c1, c2, c3, c4, c5, c6, c7, c8, c9⟩ := e2
  have hms : meas S2 = ({ S2 with h := hOf Y, nd := 512 }, 0) := by
    unfold meas
    rw [if_neg (by rw [c1]; decide), c9, if_neg (by rw [yz]; simp), if_pos yp, if_neg (by rw [yh]; decide), yh, c2]
    rfl
  have hbd : scan S2 = ({ next { S2 with h := hOf Y, nd := 512 } with nx := [], ct := 1, mrk := 512 }, [⟨#[97]⟩], 0) := by
    unfold scan
    rw [hms]
    dsimp only
    rw [if_pos rfl, if_neg (by rw [c1]; decide)]
    have hd : dat { S2 with h := hOf Y, nd := 512 } = [] := by
      unfold dat
      show (S2.ys.drop 512).take (Ar.hz Y).toNat = []
      rw [yh]
      rfl
    rw [hd]
    unfold body
    have hk : (hOf Y).k = 53 := yk
    rw [if_neg (by rw [hk]; decide), if_neg (by rw [hk]; decide), if_neg (by rw [hk]; decide)]
    unfold tellS
    have he : fE (next { S2 with h := hOf Y, nd := 512 }) (hOf Y) [] = 0 := by
      unfold fE
      show Mb.fE (S2.al ++ S2.nx) _ _ _ _ _ _ _ _ [] = 0
      rw [c3, c4]
      exact ye
    have hp : fP (next { S2 with h := hOf Y, nd := 512 }) (hOf Y) = ⟨#[97]⟩ := by
      unfold fP
      show Mb.fP (S2.al ++ S2.nx) _ _ = _
      rw [c3, c4]
      exact yP
    rw [if_pos he, if_neg (by show ¬ S2.ct = 64; rw [c5]; decide), hp]
    have h1 : (next { S2 with h := hOf Y, nd := 512 }).ct + 1 = 1 := by show S2.ct + 1 = 1; rw [c5]
    have h2 : (next { S2 with h := hOf Y, nd := 512 }).fr = 512 := by show S2.fr + S2.has = 512; rw [c6, c1]
    rw [h1, h2]
  have st2 : stp S1 (Y.drop 100) = .go { next { S2 with h := hOf Y, nd := 512 } with nx := [], ct := 1, mrk := 512 } [] [⟨#[97]⟩] := by
    unfold stp
    rw [if_neg (fun h => by rw [g3] at h; cases h.1), ← hS2, if_neg (by rw [c1, c2]; decide), hbd, tk2]
    dsimp only
    rw [if_pos rfl, List.drop_drop, List.drop_eq_nil_of_le (by rw [yl]; decide)]
  obtain ⟨m3, rfl, w3⟩ := wr_det_go st2 w2
  have st3 : stp { next { S2 with h := hOf Y, nd := 512 } with nx := [], ct := 1, mrk := 512 } [] = .fin (take { next { S2 with h := hOf Y, nd := 512 } with nx := [], ct := 1, mrk := 512 } []) [] 0 := by
    unfold stp
    rw [if_neg (fun h => by cases h.2), if_pos]
    show 0 + min (512 - 0) 0 < 512
    decide
  obtain ⟨rfl, rfl, rfl⟩ := wr_det_fin st3 w3
  exact ⟨rfl, rfl, rfl, rfl, rfl, c7, c8⟩
end Fd
end Go.Proofs.YtjofdgjcbjdhbaaGreatDoor
