/- PLAIN MATHEMATICS OF LAYER 13 (trees of files): a tree as a list of paths, each of a node of a list; its operations. No Go text is named. -/
import Derived.Test.YtihaeggeeeihnaaDoorM4
namespace Go.Proofs.YtihaeggeeeihnaaDoor
set_option linter.unusedVariables false
open Go.RowKit
namespace Nt
abbrev Path := List ByteArray
/-- A node; (A, n, c): the slice that its bytes xs came in. -/
structure Nd where
  kind : Int
  mode : Int
  uid : Int
  gid : Int
  mtime : Int
  link : ByteArray
  A : Option Addr
  n : Nat
  c : Nat
  xs : List Int
def Nd.zero : Nd := ⟨0, 0, 0, 0, 0, ⟨#[]⟩, none, 0, 0, []⟩
abbrev Ps := List (Path × Nat)
structure Tr where
  nodes : List Nd
  paths : Ps
  room : Int
  vol : Int
def Tr.nd (T : Tr) (n : Nat) : Nd := T.nodes.getD n Nd.zero
def at_ : Ps → Path → Option Nat
  | [], _ => none
  | x :: r, p => if x.1 = p then some x.2 else at_ r p
def cnt (R : Ps) (n : Nat) : Nat := (R.filter (fun x => x.2 == n)).length
def sum (g : Nat → Nat) : Nat → Nat
  | 0 => 0
  | k + 1 => sum g k + g k
/-- What the nodes beside the root that R reaches have together. -/
def used (R : Ps) (f : Nd → Nat) (l : List Nd) : Nat := sum (fun i => if i = 0 then 0 else if cnt R i = 0 then 0 else f (l.getD i Nd.zero)) l.length
def Tr.usedN (T : Tr) : Nat := used T.paths (fun _ => 1) T.nodes
def Tr.usedB (T : Tr) : Nat := used T.paths (fun x => x.xs.length) T.nodes
def nms (p : ByteArray) : Path := if p.size = 0 then [] else Pp.pieces p
def isP (p : ByteArray) : Bool := (Pp.partsS p).2 == 0
def Tr.fnd (T : Tr) : Path → Nat → Path → Nat × Int
  | _, n, [] => (n, 0)
  | pre, n, x :: r => if (T.nd n).kind ≠ 4 then (0, 12) else match at_ T.paths (pre ++ [x]) with
    | none => (0, 6)
    | some k => T.fnd (pre ++ [x]) k r
def Tr.find (T : Tr) (p : ByteArray) : Nat × Int := if p.size = 0 then (0, 0) else if isP p then T.fnd [] 0 (Pp.pieces p) else (0, 8)
def Tr.parE (T : Tr) (p : ByteArray) : Int :=
  if isP p then (let x := T.fnd [] 0 (Pp.pieces p).dropLast; if x.2 ≠ 0 then x.2 else if (T.nd x.1).kind ≠ 4 then 12 else 0) else 8
def Tr.fresh (T : Tr) (p : ByteArray) : Int := if T.parE p ≠ 0 then T.parE p else if (at_ T.paths (Pp.pieces p)).isSome then 7 else 0
def metaOk (a b c d : Int) : Bool :=
  decide (0 ≤ a) && decide (a ≤ 4095) && decide (0 ≤ b) && decide (b ≤ 1099511627775) && decide (0 ≤ c) && decide (c ≤ 1099511627775) && decide (-1125899906842624 ≤ d) && decide (d ≤ 1125899906842624)
def linkE (l : ByteArray) : Int := if l.size = 0 then 3 else if (0 : UInt8) ∈ l.data.toList then 3 else if 300 < l.size then 10 else 0
def Tr.roomy (T : Tr) (a b : Int) : Bool := decide (T.usedN + a ≤ T.room) && decide (T.usedB + b ≤ T.vol)
def Tr.mk1 (T : Tr) (p : ByteArray) (x : Nd) : Tr := { T with nodes := T.nodes ++ [x], paths := T.paths ++ [(Pp.pieces p, T.nodes.length)] }
def Tr.mkE (T : Tr) (p : ByteArray) (x : Nd) : Int :=
  if T.fresh p ≠ 0 then T.fresh p else if metaOk x.mode x.uid x.gid x.mtime = false then 10 else if x.kind = 1 ∧ 4096 < x.n then 10
  else if x.kind = 3 ∧ linkE x.link ≠ 0 then linkE x.link else if T.roomy 1 x.n = false then 14 else 0
def Tr.mk' (T : Tr) (p : ByteArray) (x : Nd) : Tr × Int := if T.mkE p x = 0 then (T.mk1 p x, 0) else (T, T.mkE p x)
def Tr.lnkE (T : Tr) (p old : ByteArray) : Int := if T.fresh p ≠ 0 then T.fresh p else if (T.find old).2 ≠ 0 then (T.find old).2 else if (T.nd (T.find old).1).kind ≠ 1 then 11 else 0
def Tr.lnk1 (T : Tr) (p : ByteArray) (n : Nat) : Tr := { T with paths := T.paths ++ [(Pp.pieces p, n)] }
def Tr.lnk (T : Tr) (p old : ByteArray) : Tr × Int := if T.lnkE p old = 0 then (T.lnk1 p (T.find old).1, 0) else (T, T.lnkE p old)
def Tr.with_ (T : Tr) (n : Nat) (x : Nd) : Tr := { T with nodes := T.nodes.set n x }
def Tr.wrE (T : Tr) (p : ByteArray) (n : Nat) : Int :=
  if (T.find p).2 ≠ 0 then (T.find p).2 else if (T.nd (T.find p).1).kind = 4 then 13 else if (T.nd (T.find p).1).kind = 3 then 11 else if 4096 < n then 10
  else if T.roomy 0 ((n : Int) - (T.nd (T.find p).1).n) = false then 14 else 0
def Tr.wr1 (T : Tr) (m : Nat) (A : Option Addr) (n c : Nat) (xs : List Int) : Tr := T.with_ m { T.nd m with A := A, n := n, c := c, xs := xs }
def Tr.wr (T : Tr) (p : ByteArray) (A : Option Addr) (n c : Nat) (xs : List Int) : Tr × Int := if T.wrE p n = 0 then (T.wr1 (T.find p).1 A n c xs, 0) else (T, T.wrE p n)
def Tr.stE (T : Tr) (p : ByteArray) (a b c d : Int) : Int := if (T.find p).2 ≠ 0 then (T.find p).2 else if metaOk a b c d = false then 10 else 0
def Tr.st1 (T : Tr) (m : Nat) (a b c d : Int) : Tr := T.with_ m { T.nd m with mode := a, uid := b, gid := c, mtime := d }
def Tr.st (T : Tr) (p : ByteArray) (a b c d : Int) : Tr × Int := if T.stE p a b c d = 0 then (T.st1 (T.find p).1 a b c d, 0) else (T, T.stE p a b c d)
def cut (R : Ps) (p : Path) : Ps := R.filter (fun x => decide (¬ p <+: x.1))
def Tr.clr1 (T : Tr) (p : Path) : Tr := { T with paths := cut T.paths p }
def Tr.clrE (T : Tr) (p : ByteArray) : Int := if (T.find p).2 ≠ 0 then (T.find p).2 else if p.size = 0 then 1 else 0
def Tr.clr (T : Tr) (p : ByteArray) : Tr × Int := if T.clrE p = 0 then (T.clr1 (Pp.pieces p), 0) else (T, T.clrE p)
def isKid (R : Ps) (p : Path) (s : ByteArray) : Bool := (at_ R (p ++ [s])).isSome
def noKids (R : Ps) (p : Path) : Bool := R.all (fun x => decide (¬ (x.1 ≠ [] ∧ x.1.dropLast = p)))
def Tr.rmE (T : Tr) (p : ByteArray) : Int := if T.clrE p ≠ 0 then T.clrE p else if noKids T.paths (nms p) = false then 18 else 0
def Tr.rm (T : Tr) (p : ByteArray) : Tr × Int := if T.rmE p = 0 then (T.clr1 (Pp.pieces p), 0) else (T, T.rmE p)
def mv (f t : Path) (x : Path × Nat) : Path × Nat := if f <+: x.1 then (t ++ x.1.drop f.length, x.2) else x
def Tr.rn1 (T : Tr) (f t : Path) : Tr := { T with paths := (cut T.paths t).map (mv f t) }
/-- 0: it is done; -1: nothing is to be done. -/
def Tr.rnE (T : Tr) (f t : ByteArray) : Int :=
  if (T.find f).2 ≠ 0 then (T.find f).2 else if (T.find f).1 = 0 then 1 else if T.parE t ≠ 0 then T.parE t
  else match at_ T.paths (Pp.pieces t) with
    | some k => if k = (T.find f).1 then -1 else if (T.nd (T.find f).1).kind = 4 then 7 else if (T.nd k).kind = 4 then 13 else 0
    | none => if (T.nd (T.find f).1).kind = 4 then (if Pp.pieces f <+: Pp.pieces t then 1 else 0) else 0
def Tr.rn (T : Tr) (f t : ByteArray) : Tr × Int := if T.rnE f t = 0 then (T.rn1 (Pp.pieces f) (Pp.pieces t), 0) else if T.rnE f t = -1 then (T, 0) else (T, T.rnE f t)
def new (a b : Int) : Tr := ⟨[{ Nd.zero with kind := 4 }], [([], 0)], max a 0, max b 0⟩
/-- A path as a text. -/
def txt : Path → ByteArray
  | [] => ⟨#[]⟩
  | [x] => x
  | x :: y :: r => x ++ ⟨#[47]⟩ ++ txt (y :: r)

def Nd.ok (x : Nd) : Prop := (x.kind = 1 ∨ x.kind = 3 ∨ x.kind = 4) ∧ x.xs.length = x.n ∧ x.n ≤ 4096 ∧ (x.kind ≠ 1 → x.n = 0) ∧ (x.kind ≠ 3 → x.link = ⟨#[]⟩)
/-- What all trees keep; K: how long a path's text may be. -/
structure WF (T : Tr) (K : Nat) : Prop where
  root : ([], 0) ∈ T.paths
  rootk : (T.nd 0).kind = 4
  nodup : (T.paths.map (·.1)).Nodup
  lt : ∀ p n, (p, n) ∈ T.paths → n < T.nodes.length
  up : ∀ p x n, (p ++ [x], n) ∈ T.paths → n ≠ 0 ∧ Pp.Nm x ∧ ∃ m, (p, m) ∈ T.paths ∧ (T.nd m).kind = 4
  one : ∀ p q n, (p, n) ∈ T.paths → (q, n) ∈ T.paths → (T.nd n).kind ≠ 1 → p = q
  kinds : ∀ x ∈ T.nodes, x.ok
  long : ∀ p n, (p, n) ∈ T.paths → (txt p).size ≤ K
  few : T.nodes.length ≤ K
  many : T.paths.length ≤ K
  rms : (0 ≤ T.room ∧ T.room ≤ 9223372036854775807) ∧ 0 ≤ T.vol ∧ T.vol ≤ 9223372036854775807

/-! ### look-ups -/
theorem at_mem : ∀ {R : Ps} {p : Path} {n : Nat}, at_ R p = some n → (p, n) ∈ R
  | x :: r, p, n, h => by
    unfold at_ at h
    split at h
    · rename_i e
      cases h
      subst e
      simp
    · exact List.mem_cons_of_mem _ (at_mem h)
theorem at_none : ∀ {R : Ps} {p : Path}, at_ R p = none → ∀ n, (p, n) ∉ R
  | [], p, _, n => by simp
  | x :: r, p, h, n => by
    unfold at_ at h
    split at h
    · cases h
    · rename_i e
      intro hm
      rcases List.mem_cons.1 hm with h1 | h1
      · exact e (by rw [← h1])
      · exact at_none h n h1
theorem nodup_one {R : Ps} (hd : (R.map (·.1)).Nodup) {p : Path} {n m : Nat} (h : (p, n) ∈ R) (h' : (p, m) ∈ R) : n = m := by
  induction R with
  | nil => cases h
  | cons x r ih =>
    rw [List.map_cons, List.nodup_cons] at hd
    rcases List.mem_cons.1 h with h1 | h1 <;> rcases List.mem_cons.1 h' with h2 | h2
    · rw [← h1] at h2; cases h2; rfl
    · exact absurd (List.mem_map.2 ⟨_, h2, by rw [← h1]⟩) hd.1
    · exact absurd (List.mem_map.2 ⟨_, h1, by rw [← h2]⟩) hd.1
    · exact ih hd.2 h1 h2
theorem at_iff {R : Ps} (hd : (R.map (·.1)).Nodup) {p : Path} {n : Nat} : at_ R p = some n ↔ (p, n) ∈ R := by
  constructor
  · exact at_mem
  · intro h
    cases e : at_ R p with
    | none => exact absurd h (at_none e n)
    | some m => rw [nodup_one hd h (at_mem e)]
theorem at_app (R S : Ps) (p : Path) : at_ (R ++ S) p = (at_ R p).or (at_ S p) := by
  induction R with
  | nil => simp [at_]
  | cons x r ih =>
    rw [List.cons_append, at_, at_]
    split
    · rfl
    · exact ih
theorem at_filter {R : Ps} {f : Path × Nat → Bool} {p : Path} (h : ∀ n, f (p, n) = true) : at_ (R.filter f) p = at_ R p := by
  induction R with
  | nil => rfl
  | cons x r ih =>
    rw [List.filter_cons]
    by_cases e : x.1 = p
    · have hx : f x = true := by have := h x.2; rw [← e] at this; exact this
      rw [if_pos hx]
      unfold at_
      rw [if_pos e, if_pos e]
    · by_cases hx : f x = true
      · rw [if_pos hx]
        conv => lhs; unfold at_
        conv => rhs; unfold at_
        rw [if_neg e, if_neg e, ih]
      · rw [if_neg hx]
        conv => rhs; unfold at_
        rw [if_neg e, ih]
theorem at_filter_none {R : Ps} {f : Path × Nat → Bool} {p : Path} (h : ∀ n, f (p, n) = false) : at_ (R.filter f) p = none := by
  cases e : at_ (R.filter f) p with
  | none => rfl
  | some n =>
    have := (List.mem_filter.1 (at_mem e)).2
    rw [h n] at this
    cases this

/-! ### how many paths a node has -/
theorem cnt_pos {R : Ps} {n : Nat} : 0 < cnt R n ↔ ∃ p, (p, n) ∈ R := by
  unfold cnt
  rw [List.length_pos_iff_exists_mem]
  constructor
  · rintro ⟨⟨p, m⟩, h⟩
    obtain ⟨h1, h2⟩ := List.mem_filter.1 h
    obtain rfl : m = n := by simpa using h2
    exact ⟨p, h1⟩
  · rintro ⟨p, h⟩
    exact ⟨(p, n), List.mem_filter.2 ⟨h, by simp⟩⟩
theorem cnt_app (R S : Ps) (n : Nat) : cnt (R ++ S) n = cnt R n + cnt S n := by unfold cnt; rw [List.filter_append, List.length_append]
theorem cnt_one (p : Path) (m n : Nat) : cnt [(p, m)] n = if m = n then 1 else 0 := by
  unfold cnt
  by_cases h : m = n <;> simp [h]
theorem cnt_le (R : Ps) (n : Nat) : cnt R n ≤ R.length := List.length_filter_le _ _
theorem cnt_map {R : Ps} {f : Path × Nat → Path × Nat} (h : ∀ x, (f x).2 = x.2) (n : Nat) : cnt (R.map f) n = cnt R n := by
  unfold cnt
  rw [List.filter_map, List.length_map]
  congr 2
  funext x
  simp [h]
/-- One path less. -/
theorem cnt_drop {R : Ps} (hd : (R.map (·.1)).Nodup) {p : Path} {m : Nat} (h : (p, m) ∈ R) (n : Nat) : cnt R n = cnt (R.filter (fun x => decide (x.1 ≠ p))) n + (if m = n then 1 else 0) := by
  induction R with
  | nil => cases h
  | cons x r ih =>
    rw [List.map_cons, List.nodup_cons] at hd
    have ec : ∀ (y : Path × Nat) (l : Ps), cnt (y :: l) n = (if y.2 = n then 1 else 0) + cnt l n := fun y l => by
      have := cnt_app [y] l n
      rw [cnt_one] at this
      exact this
    rcases List.mem_cons.1 h with h1 | h1
    · subst h1
      have e : r.filter (fun x => decide (x.1 ≠ p)) = r := List.filter_eq_self.2 fun y hy => by
        have : y.1 ≠ p := fun e => hd.1 (List.mem_map.2 ⟨y, hy, e⟩)
        simpa using this
      rw [List.filter_cons]
      simp only [ne_eq, not_true_eq_false, decide_false, Bool.false_eq_true, if_false]
      rw [ec]
      simp only [ne_eq] at e
      rw [e]
      exact Nat.add_comm _ _
    · have hne : x.1 ≠ p := fun e => hd.1 (List.mem_map.2 ⟨_, h1, e.symm⟩)
      have := ih hd.2 h1
      rw [List.filter_cons, if_pos (by simpa using hne), ec, ec, this]
      omega

/-! ### sums -/
theorem sum_same {g g' : Nat → Nat} : ∀ {k : Nat}, (∀ i, i < k → g i = g' i) → sum g k = sum g' k
  | 0, _ => rfl
  | k + 1, h => by
    unfold sum
    rw [sum_same fun i hi => h i (by omega), h k (by omega)]
theorem sum_one {g g' : Nat → Nat} {m : Nat} : ∀ {k : Nat}, m < k → (∀ i, i < k → i ≠ m → g i = g' i) → sum g k + g' m = sum g' k + g m
  | 0, h, _ => by omega
  | k + 1, h, hs => by
    unfold sum
    by_cases e : m = k
    · subst e
      rw [sum_same fun i hi => hs i (by omega) (by omega)]
      omega
    · have := sum_one (m := m) (k := k) (by omega) fun i hi hn => hs i (by omega) hn
      rw [hs k (by omega) (by omega)]
      omega
theorem sum_le {g : Nat → Nat} {b : Nat} : ∀ {k : Nat}, (∀ i, i < k → g i ≤ b) → sum g k ≤ k * b
  | 0, _ => by simp [sum]
  | k + 1, h => by
    unfold sum
    have := sum_le (b := b) (k := k) fun i hi => h i (by omega)
    have := h k (by omega)
    rw [Nat.succ_mul]
    omega
theorem getD_snoc {l : List Nd} {x : Nd} {i : Nat} : (l ++ [x]).getD i Nd.zero = if i = l.length then x else l.getD i Nd.zero := by
  simp only [List.getD, List.getElem?_append]
  by_cases h : i < l.length
  · rw [if_pos h, if_neg (by omega)]
  · rw [if_neg h]
    by_cases e : i = l.length
    · subst e; simp
    · rw [if_neg e]
      have h1 : ([x] : List Nd)[i - l.length]? = none := by simp; omega
      have h2 : l[i]? = none := by simp; omega
      rw [h1, h2]
theorem getD_set {l : List Nd} {x : Nd} {i m : Nat} (hm : m < l.length) : (l.set m x).getD i Nd.zero = if i = m then x else l.getD i Nd.zero := by
  simp only [List.getD, List.getElem?_set]
  by_cases h : m = i
  · subst h; simp [hm]
  · rw [if_neg h, if_neg (fun e => h e.symm)]
/-- The same nodes are reached. -/
theorem used_same {R R' : Ps} (f : Nd → Nat) (l : List Nd) (h : ∀ i, i < l.length → i ≠ 0 → (cnt R i = 0 ↔ cnt R' i = 0)) : used R f l = used R' f l := by
  unfold used
  refine sum_same fun i hi => ?_
  by_cases h0 : i = 0
  · simp [h0]
  · rw [if_neg h0, if_neg h0]
    by_cases h1 : cnt R i = 0
    · rw [if_pos h1, if_pos ((h i hi h0).1 h1)]
    · rw [if_neg h1, if_neg fun e => h1 ((h i hi h0).2 e)]
/-- A new node. -/
theorem used_new {R : Ps} (f : Nd → Nat) (l : List Nd) (x : Nd) (p : Path) (hl : 0 < l.length) (hR : ∀ q n, (q, n) ∈ R → n < l.length) : used (R ++ [(p, l.length)]) f (l ++ [x]) = used R f l + f x := by
  unfold used
  rw [List.length_append, List.length_singleton]
  show sum _ l.length + _ = _
  congr 1
  · refine sum_same fun i hi => ?_
    rw [cnt_app, cnt_one, if_neg (by omega : ¬ l.length = i), Nat.add_zero, getD_snoc, if_neg (by omega : ¬ i = l.length)]
  · simp only
    rw [if_neg (by omega : ¬ l.length = 0), cnt_app, cnt_one, if_pos rfl, if_neg (by omega), getD_snoc, if_pos rfl]
/-- Another node in a node's place. -/
theorem used_set {R : Ps} (f : Nd → Nat) (l : List Nd) (x : Nd) {m : Nat} (hm : m < l.length) (h0 : m ≠ 0) (hc : 0 < cnt R m) : used R f (l.set m x) + f (l.getD m Nd.zero) = used R f l + f x := by
  unfold used
  rw [List.length_set]
  have := sum_one (g := fun i => if i = 0 then 0 else if cnt R i = 0 then 0 else f ((l.set m x).getD i Nd.zero)) (g' := fun i => if i = 0 then 0 else if cnt R i = 0 then 0 else f (l.getD i Nd.zero)) hm (fun i hi hn => by
    rw [getD_set hm, if_neg hn])
  rw [if_neg h0, if_neg (by omega), if_neg h0, if_neg (by omega), getD_set hm, if_pos rfl] at this
  exact this
theorem used_set0 {R : Ps} (f : Nd → Nat) (l : List Nd) (x : Nd) {m : Nat} (hm : m < l.length) (hx : f x = f (l.getD m Nd.zero)) : used R f (l.set m x) = used R f l := by
  unfold used
  rw [List.length_set]
  refine sum_same fun i hi => ?_
  rw [getD_set hm]
  by_cases e : i = m
  · subst e; rw [if_pos rfl, hx]
  · rw [if_neg e]
/-- One path less. -/
theorem used_drop {R : Ps} (hd : (R.map (·.1)).Nodup) (f : Nd → Nat) (l : List Nd) {p : Path} {m : Nat} (h : (p, m) ∈ R) (hm : m < l.length) (h0 : m ≠ 0) :
    used R f l = used (R.filter (fun x => decide (x.1 ≠ p))) f l + (if cnt R m = 1 then f (l.getD m Nd.zero) else 0) := by
  have hc := cnt_drop hd h
  have := sum_one (g := fun i => if i = 0 then 0 else if cnt R i = 0 then 0 else f (l.getD i Nd.zero)) (g' := fun i => if i = 0 then 0 else if cnt (R.filter (fun x => decide (x.1 ≠ p))) i = 0 then 0 else f (l.getD i Nd.zero)) hm (fun i hi hn => by
    have := hc i
    rw [if_neg (fun e => hn e.symm), Nat.add_zero] at this
    simp only [this])
  have hm' := hc m
  rw [if_pos rfl] at hm'
  rw [if_neg h0, if_neg h0, if_neg (by omega : ¬ cnt R m = 0)] at this
  unfold used
  by_cases h1 : cnt R m = 1
  · rw [if_pos h1]
    rw [if_pos (by omega)] at this
    omega
  · rw [if_neg h1]
    rw [if_neg (by omega)] at this
    omega
theorem used_le {R : Ps} (f : Nd → Nat) (l : List Nd) (b : Nat) (h : ∀ x ∈ l, f x ≤ b) : used R f l ≤ l.length * b := by
  unfold used
  refine sum_le fun i hi => ?_
  split
  · omega
  · split
    · omega
    · have : l.getD i Nd.zero ∈ l := by simp [List.getD, hi]
      exact h _ this
end Nt
end Go.Proofs.YtihaeggeeeihnaaDoor
