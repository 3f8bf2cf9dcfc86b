/- A MAP FROM NAMES TO NODES IN MEMORY, as a function; its laws. No Go text is named. -/
import Derived.Test.YthgbncpiehcghaaGreatDoorCm
import Derived.Test.YthgbncpiehcghaaGreatDoorBx
import Derived.Test.YthgbncpiehcghaaGreatDoorGn4
import Derived.Test.YthgbncpiehcghaaGreatDoorGy2
import Derived.Maps.OwnSet
import Derived.Sort.KeysCollected
import Derived.LaidEqlPtr
namespace Go.Proofs.YthgbncpiehcghaaGreatDoor
set_option linter.unusedVariables false
open Go Go.RowKit Go.Maps
set_option maxRecDepth 100000
/-- A pointer to a block's first cell; nil. -/
def ptrv : Option Nat → Value
  | none => .pointer none
  | some b => .pointer (some ⟨b, 0, none⟩)
theorem ptrv_none : ptrv none = .pointer none := rfl
theorem ptrv_some (b : Nat) : ptrv (some b) = .pointer (some ⟨b, 0, none⟩) := rfl
theorem ptrv_inj {a b : Option Nat} (h : ptrv a = ptrv b) : a = b := by
  cases a <;> cases b <;> simp [ptrv] at h <;> simp [h]
abbrev RV : Value → Option (DataW Value × List MemPlace) := fun v => some (.held v, [])
theorem law_str : Keyed Tryz.prog 9 := string_keyed Tryz.underlying9
theorem zero_ptr (w : World) : (zeroValue 104).run Tryz.prog w = .ok (.pointer none) w := by kernel_rfl
abbrev keyL (s : ByteArray) : Lit := .string s.data.toList
/-- BLOCK b IS A MAP OF AT MOST n NAMES, EACH s OF THE NODE f s. -/
def MapAt (w : World) (b n : Nat) (f : ByteArray → Option Nat) : Prop :=
  ∃ D, w.ownsMap Tryz.prog 9 RV b n D ∧ ∀ s : ByteArray, s.size ≤ maxLen → D.atKey (keyL s) (.held (.pointer none)) = .held (ptrv (f s)) ∧ Maps.has D (keyL s) = (f s).isSome
section
variable {w w' : World} {b n : Nat} {f g : ByteArray → Option Nat} {s : ByteArray} {D : DataW Value}
theorem hkey_of (hs : s.size ≤ maxLen) : keyOf Tryz.prog 9 (.string s) = some (keyL s) := Go.WideMaps.keyOf_string_mk Tryz.underlying9 hs
theorem keyL_inj {s t : ByteArray} (h : keyL s = keyL t) : s = t := by
  simp only [Lit.string.injEq] at h
  exact ByteArray.ext (Array.toList_inj.1 h)
theorem MapAt.made (w : World) : MapAt (w.alloc (.map #[] 0)) w.heap.size 0 (fun _ => none) :=
  ⟨_, World.ownsMap_made w _ _ _, fun s _ => ⟨rfl, rfl⟩⟩
theorem MapAt.mono (h : MapAt w b n f) {m : Nat} (hm : n ≤ m) : MapAt w b m f := let ⟨D, h1, h2⟩ := h; ⟨D, h1.mono hm, h2⟩
theorem MapAt.cong (h : MapAt w b n f) (hfg : ∀ s, s.size ≤ maxLen → f s = g s) : MapAt w b n g := let ⟨D, h1, h2⟩ := h; ⟨D, h1, fun s hs => by rw [← hfg s hs]; exact h2 s hs⟩
theorem MapAt.lt (h : MapAt w b n f) : b < w.heap.size := let ⟨_, h1, _⟩ := h; h1.lt
theorem MapAt.of_block (h : MapAt w b n f) (hb : w'.heap[b]? = w.heap[b]?) : MapAt w' b n f := by
  obtain ⟨D, ⟨es, clock, h1, F, h2, h3⟩, h4⟩ := h
  exact ⟨D, ⟨es, clock, hb.trans h1, F, h2, h3⟩, h4⟩
theorem MapAt.alloc (h : MapAt w b n f) (o : Obj) : MapAt (w.alloc o) b n f := h.of_block (heap_alloc_old _ _ h.lt)
theorem MapAt.drewN (h : MapAt w b n f) (k : Nat) : MapAt (w.drewN k) b n f := h
theorem MapAt.drew (h : MapAt w b n f) : MapAt w.drew b n f := h
theorem MapAt.ne_bx (h : MapAt w b n f) {a : Nat} {T : TypeId} {cs : Array Value} (hx : BX w a T cs) : a ≠ b := by
  rintro rfl
  obtain ⟨D, ⟨es, clock, h1, _⟩, _⟩ := h
  unfold BX at hx
  rw [h1] at hx
  cases hx
theorem MapAt.setCell (h : MapAt w b n f) {a : Addr} (ha : b ≠ a.block) (u : Value) : MapAt (w.setCell a u) b n f := h.of_block (Below.heap_setCell _ _ _ _ ha)
theorem MapAt.look (h : MapAt w b n f) (hs : s.size ≤ maxLen) : (Instr.lookup 106 (.map (some b)) (.string s) false).run Tryz.prog w = .ok (ptrv (f s)) w := by
  obtain ⟨D, h1, h2⟩ := h
  obtain ⟨v, ps, hr, hv⟩ := h1.lookup law_str Tryz.underlying106 (zero_ptr w) (zd := .held (.pointer none)) rfl (hkey_of hs)
  rw [(h2 s hs).1] at hv
  obtain rfl : v = ptrv (f s) := by simpa using congrArg (fun z => z.map Prod.fst) hv
  exact hr
theorem MapAt.look_ok (h : MapAt w b n f) (hs : s.size ≤ maxLen) : (Instr.lookup 106 (.map (some b)) (.string s) true).run Tryz.prog w = .ok (.tuple #[ptrv (f s), .bool (f s).isSome]) w := by
  obtain ⟨D, h1, h2⟩ := h
  obtain ⟨v, ps, hr, hv⟩ := h1.look_ok law_str Tryz.underlying106 (zero_ptr w) (zd := .held (.pointer none)) rfl (hkey_of hs)
  rw [(h2 s hs).1] at hv
  obtain rfl : v = ptrv (f s) := by simpa using congrArg (fun z => z.map Prod.fst) hv
  rw [(h2 s hs).2] at hr
  exact hr
theorem MapAt.put (h : MapAt w b n f) (hn : n < maxLen) (hs : s.size ≤ maxLen) (a : Nat) : ∃ w', (Instr.mapUpdate 106 (.map (some b)) (.string s) (.pointer (some ⟨a, 0, none⟩))).run Tryz.prog w = .ok () w' ∧
    MapAt w' b (n + 1) (fun x => if x = s then some a else f x) ∧ w.mapTurned w' b := by
  obtain ⟨D, h1, h2⟩ := h
  obtain ⟨w', hr, ho, ht⟩ := h1.store law_str Tryz.underlying106 hn (hkey_of hs) (val := .pointer (some ⟨a, 0, none⟩)) rfl
  refine ⟨w', hr, ⟨_, ho, fun x hx => ?_⟩, ht⟩
  by_cases e : x = s
  · subst e
    rw [atKey_put_same h1.isMap (show WideAt.IsKeyLit (keyL x) from trivial), has_put_same h1.isMap (show WideAt.IsKeyLit (keyL x) from trivial)]
    simp [ptrv]
  · have hne : keyL x ≠ keyL s := fun h => e (keyL_inj h)
    rw [atKey_put_other hne, has_put_other hne]
    simp only [if_neg e]
    exact h2 x hx
theorem MapAt.del (h : MapAt w b n f) (hs : s.size ≤ maxLen) (ty : TypeId) : ∃ w', (Builtin.delete_ #[106, 9] ty #[.map (some b), .string s]).run Tryz.prog w = .ok (.tuple #[]) w' ∧
    MapAt w' b n (fun x => if x = s then none else f x) ∧ w.mapTurned w' b := by
  obtain ⟨D, h1, h2⟩ := h
  obtain ⟨w', hr, ho, ht⟩ := h1.drop law_str Tryz.underlying106 (hkey_of hs) ty
  refine ⟨w', hr, ⟨_, ho, fun x hx => ?_⟩, ht⟩
  by_cases e : x = s
  · subst e
    rw [atKey_del_same, has_del_same]
    simp [ptrv]
  · have hne : keyL x ≠ keyL s := fun h => e (keyL_inj h)
    rw [atKey_del_other hne, has_del_other hne]
    simp only [if_neg e]
    exact h2 x hx
theorem mturn_oth (h : w.mapTurned w' b) : Oth b w w' := ⟨h.grown.os, h.grown.tape, h.grown.output, h.grown.size, fun k hk hn => h.grown.block k hk fun e => hn (by cases e; rfl)⟩
theorem mturn_size (h : w.mapTurned w' b) : w'.heap.size = w.heap.size := by
  obtain ⟨es, c, es', c', h1, rfl⟩ := h
  simp [Go.ChangeMaps.setBlock]
theorem MapAt.later (h : MapAt w b n f) (hb : Below w.heap.size w w') : MapAt w' b n f := h.of_block (hb.block b h.lt)
theorem MapAt.oth (h : MapAt w b n f) {a : Nat} (ho : Oth a w w') (hne : b ≠ a) : MapAt w' b n f := h.of_block (ho.2.2.2.2 b h.lt hne)
/-- The names of f, rising. -/
def Kids (L : List ByteArray) (f : ByteArray → Option Nat) : Prop := L.Pairwise (fun x y => Pp.lt x y = true) ∧ ∀ s, s ∈ L ↔ s.size ≤ maxLen ∧ (f s).isSome = true
theorem bytesLess_lt : ∀ {x y : List UInt8}, x < y → Op.bytesLess x y = true
  | [], [], h => absurd h (List.lt_irrefl _)
  | [], _ :: _, _ => rfl
  | _ :: _, [], h => by cases h
  | a :: x, b :: y, h => by
    rw [List.cons_lt_cons_iff] at h
    simp only [Op.bytesLess, Bool.or_eq_true, decide_eq_true_eq, Bool.and_eq_true, beq_iff_eq]
    rcases h with h | ⟨h1, h2⟩
    · exact .inl h
    · exact .inr ⟨h1, bytesLess_lt h2⟩
theorem keys_rise {ss D0 : List (List UInt8)} (hp : ss.Perm D0) (hd : D0.Nodup) : ((ss.mergeSort (fun x y => decide (x ≤ y))).map fun l : List UInt8 => (⟨l.toArray⟩ : ByteArray)).Pairwise (fun x y => Pp.lt x y = true) := by
  have tr : ∀ a b c : List UInt8, leB a b = true → leB b c = true → leB a c = true := fun a b c h1 h2 => by simp only [leB, decide_eq_true_eq] at *; exact List.le_trans h1 h2
  have tot : ∀ a b : List UInt8, (leB a b || leB b a) = true := fun a b => by simp only [leB, Bool.or_eq_true, decide_eq_true_eq]; exact List.le_total a b
  have h1 := List.pairwise_mergeSort tr tot ss
  have h2 : (ss.mergeSort leB).Nodup := ((List.mergeSort_perm ss leB).nodup_iff.2 (hp.nodup_iff.2 hd))
  rw [List.pairwise_map]
  refine (h1.and h2).imp ?_
  rintro a b ⟨h3, h4⟩
  unfold Pp.lt
  rw [Lib.toList_data, Lib.toList_data]
  apply bytesLess_lt
  simp only [leB, decide_eq_true_eq] at h3
  by_cases h5 : a < b
  · exact h5
  · exact absurd (List.le_antisymm h3 (List.not_lt.1 h5)) h4
theorem strKeys_nodup (h : w.ownsMap Tryz.prog 9 RV b n D) : (strKeys D).Nodup := by
  obtain ⟨es, hD, hpw, _⟩ := h.entries law_str
  obtain ⟨es', hD', hko⟩ := h.keysOf
  obtain rfl : es = es' := by rw [hD] at hD'; simpa using hD'
  subst hD
  show (es.map fun p => strOf p.1).Nodup
  refine List.pairwise_map.2 (hpw.imp_of_mem fun {p q} hp' hq' hne e => hne ?_)
  obtain ⟨v, hv⟩ := hko p hp'
  obtain ⟨u, hu⟩ := hko q hq'
  obtain ⟨x, _, hx, _⟩ := Maps.keyOf_str Tryz.underlying9 hv
  obtain ⟨y, _, hy, _⟩ := Maps.keyOf_str Tryz.underlying9 hu
  rw [hx, hy] at e ⊢
  exact congrArg _ e
theorem mem_strKeys (h : w.ownsMap Tryz.prog 9 RV b n D) (x : List UInt8) : x ∈ strKeys D ↔ Maps.has D (.string x) = true := by
  obtain ⟨es, rfl, hko⟩ := h.keysOf
  rw [has_eq, List.any_eq_true]
  show x ∈ es.map (fun p => strOf p.1) ↔ _
  rw [List.mem_map]
  constructor
  · rintro ⟨p, hp', rfl⟩
    obtain ⟨v, hv⟩ := hko p hp'
    obtain ⟨a, _, ha, _⟩ := Maps.keyOf_str Tryz.underlying9 hv
    exact ⟨p, hp', by rw [ha]; simp [Lit.sameKey, strOf]⟩
  · rintro ⟨p, hp', hs⟩
    obtain ⟨v, hv⟩ := hko p hp'
    obtain ⟨a, _, ha, _⟩ := Maps.keyOf_str Tryz.underlying9 hv
    rw [ha] at hs
    exact ⟨p, hp', by rw [ha]; simpa [Lit.sameKey, strOf] using hs⟩
/-- What the sorted keys are. -/
theorem MapAt.kids (h1 : w.ownsMap Tryz.prog 9 RV b n D) (h2 : ∀ s : ByteArray, s.size ≤ maxLen → D.atKey (keyL s) (.held (.pointer none)) = .held (ptrv (f s)) ∧ Maps.has D (keyL s) = (f s).isSome) {ss : List (List UInt8)} (hp : ss.Perm (strKeys D)) :
    Kids ((ss.mergeSort (fun x y => decide (x ≤ y))).map fun l : List UInt8 => (⟨l.toArray⟩ : ByteArray)) f := by
  refine ⟨keys_rise hp (strKeys_nodup h1), fun s => ?_⟩
  have hm : s ∈ (ss.mergeSort (fun x y => decide (x ≤ y))).map (fun l : List UInt8 => (⟨l.toArray⟩ : ByteArray)) ↔ s.data.toList ∈ strKeys D := by
    rw [List.mem_map, ← hp.mem_iff]
    constructor
    · rintro ⟨a, ha, rfl⟩
      simpa using ha
    · intro ha
      exact ⟨s.data.toList, by simpa using ha, rfl⟩
  rw [hm]
  constructor
  · intro hx
    have hl := strKeys_le h1 Tryz.underlying9 _ hx
    have hs : s.size ≤ maxLen := by rw [Pp.size_eq]; exact hl
    refine ⟨hs, ?_⟩
    rw [← (h2 s hs).2]
    exact (mem_strKeys h1 _).1 hx
  · rintro ⟨hs, hx⟩
    rw [← (h2 s hs).2] at hx
    exact (mem_strKeys h1 _).2 hx
/-- 'len' of a map. -/
theorem MapAt.len (h : MapAt w b n f) (ty : TypeId) : ∃ k : Nat, (Builtin.len_ #[106] ty #[.map (some b)]).run Tryz.prog w = .ok (.int .i64 k) w ∧ (k = 0 ↔ ∀ s : ByteArray, s.size ≤ maxLen → f s = none) := by
  obtain ⟨D, h1, h2⟩ := h
  refine ⟨_, h1.len Tryz.underlying106 ty, ?_⟩
  have hl : Maps.size D = (strKeys D).length := by
    obtain ⟨es, rfl, _⟩ := h1.keysOf
    simp [Maps.size, strKeys]
  rw [hl, List.length_eq_zero_iff]
  constructor
  · intro e s hs
    cases hf : f s with
    | none => rfl
    | some a =>
      have := (mem_strKeys h1 s.data.toList).2 (by rw [(h2 s hs).2, hf]; rfl)
      rw [e] at this
      cases this
  · intro e
    apply List.eq_nil_iff_forall_not_mem.2
    intro x hx
    have hl := strKeys_le h1 Tryz.underlying9 _ hx
    have hs : (⟨x.toArray⟩ : ByteArray).size ≤ maxLen := by rw [Pp.size_eq]; simpa using hl
    have h3 := (h2 ⟨x.toArray⟩ hs).2
    rw [e _ hs] at h3
    have h4 := (mem_strKeys h1 x).1 hx
    simp only [keyL] at h3
    rw [h4] at h3
    cases h3
end
/-- Two lists of names, rising, of the same names. -/
theorem rise_one : ∀ {L M : List ByteArray}, L.Pairwise (fun x y => Pp.lt x y = true) → M.Pairwise (fun x y => Pp.lt x y = true) → (∀ s, s ∈ L ↔ s ∈ M) → L = M
  | [], [], _, _, _ => rfl
  | [], y :: M, _, _, h => absurd ((h y).2 (by simp)) (by simp)
  | x :: L, [], _, _, h => absurd ((h x).1 (by simp)) (by simp)
  | x :: L, y :: M, hL, hM, h => by
    rw [List.pairwise_cons] at hL hM
    have hxy : x = y := by
      rcases List.mem_cons.1 ((h x).1 (by simp)) with e | e
      · exact e
      · rcases List.mem_cons.1 ((h y).2 (by simp)) with e2 | e2
        · exact e2.symm
        · have a := hM.1 x e
          have b := hL.1 y e2
          have := Pp.lt_trans a b
          rw [Pp.lt_irrefl] at this
          cases this
    subst hxy
    congr 1
    refine rise_one hL.2 hM.2 fun s => ?_
    have hn1 : x ∉ L := fun e => by have := hL.1 x e; rw [Pp.lt_irrefl] at this; cases this
    have hn2 : x ∉ M := fun e => by have := hM.1 x e; rw [Pp.lt_irrefl] at this; cases this
    have := h s
    simp only [List.mem_cons] at this
    constructor
    · intro hs
      rcases this.1 (.inr hs) with e | e
      · subst e; exact absurd hs hn1
      · exact e
    · intro hs
      rcases this.2 (.inr hs) with e | e
      · subst e; exact absurd hs hn2
      · exact e
theorem Kids.one {L M : List ByteArray} {f : ByteArray → Option Nat} (h : Kids L f) (h' : Kids M f) : L = M := rise_one h.1 h'.1 fun s => (h.2 s).trans (h'.2 s).symm
end Go.Proofs.YthgbncpiehcghaaGreatDoor
