/- ARGUMENTS OPENED: a slice of the document's deeds. -/
import Derived.Test.YthgbncpiehcghaaGreatDoorN14q
import Derived.Test.YthgbncpiehcghaaGreatDoorChecked
import Derived.Deep.SlicePairs
import Derived.ChangeSame
import Derived.ChangeOld
import Derived.Lay
namespace Go.Proofs.YthgbncpiehcghaaGreatDoor
open Go.ChangeShapes Go.WideShapes Go.RowKit Go.Deep
open Go.ChangeMaps (open_string shut_string)
set_option linter.unusedVariables false
open Nt (Dd)
instance : Inhabited Dd := ⟨⟨0, ⟨#[]⟩, ⟨#[]⟩, 0, 0, 0, 0, none, 0, 0, []⟩⟩
/-- What is known of a deed that came from without. -/
def DdOk (y : Dd) : Prop := (-9223372036854775808 ≤ y.kd ∧ y.kd ≤ 9223372036854775807) ∧ y.p.size ≤ maxLen ∧ y.q.size ≤ maxLen ∧ (-9223372036854775808 ≤ y.a ∧ y.a ≤ 9223372036854775807) ∧ (-9223372036854775808 ≤ y.b ∧ y.b ≤ 9223372036854775807) ∧ (-9223372036854775808 ≤ y.c ∧ y.c ≤ 9223372036854775807) ∧ (-9223372036854775808 ≤ y.d ∧ y.d ≤ 9223372036854775807) ∧ Byt y.xs ∧ y.n ≤ y.k ∧ y.k ≤ maxLen
theorem openedBytes14 {H : Type} {enc : TypeId × Value → H} {W : World} {fuel : Nat} {v : Value} {x : DataW H × List MemPlace} (hf : DataW.trod enc Tryz.prog W 0 (fun _ => true) true fuel 36 [v] = some x) :
    ∃ a len cap zs, v = .slice a len cap ∧ RB W W.heap.size a len zs ∧ Byt zs ∧ len ≤ cap ∧ cap ≤ maxLen := by
  rcases open_ints Tryz.underlying36 Tryz.underlying5 (by kernel_rfl) hf with ⟨hcs, _⟩ | ⟨x, l, c, zs, hcs, _, hl, hm, hz, _, hcell, hwz⟩
  · obtain rfl : v = .slice none 0 0 := by simpa using hcs
    exact ⟨none, 0, 0, [], rfl, RB.nil, Byt.nil, Nat.le_refl _, Nat.zero_le _⟩
  · obtain rfl : v = .slice (some x) l c := by simpa using hcs
    exact ⟨some x, l, c, zs.take l, rfl, rb_open hl (by simpa using hz) hcell, byt_open hwz _, hl, hm⟩

set_option maxRecDepth 100000 in
theorem deedCells14 {H : Type} {enc : TypeId × Value → H} {W : World} {fuel : Nat} {c0 c1 c2 c3 c4 c5 c6 c7 : Value} {x : DataW H × List MemPlace} (hf : DataW.trod enc Tryz.prog W 0 (fun _ => true) true fuel 60 [c0, c1, c2, c3, c4, c5, c6, c7] = some x) :
    ∃ y : Dd, #[c0, c1, c2, c3, c4, c5, c6, c7] = DdC y ∧ RB W W.heap.size y.A y.n y.xs ∧ DdOk y := by
  obtain ⟨ys, n, _, _, _, hl, hy⟩ := DataW.trod_struct Tryz.underlying60 hf
  have hl5 : ys.length = 5 := hl
  have fld : ∀ (i : Nat) (T : TypeId) (off cnt : Nat) (f : Field), (#[f] : Array Field).size = 1 → T = f.type → off = f.offset → cnt = Tryz.prog.cellsOf T → DataW.trod enc Tryz.prog W 0 (fun _ => true) true n f.type (([c0, c1, c2, c3, c4, c5, c6, c7].drop f.offset).take (Tryz.prog.cellsOf f.type)) = ys[i]? →
      DataW.trod enc Tryz.prog W 0 (fun _ => true) true n T (([c0, c1, c2, c3, c4, c5, c6, c7].drop off).take cnt) = ys[i]? := fun i T off cnt f _ h1 h2 h3 h => by
    subst h1
    subst h2
    subst h3
    exact h
  have e0 := fld 0 3 0 1 _ rfl rfl rfl (by kernel_rfl) (hy 0 _ rfl)
  have e1 := fld 1 9 1 1 _ rfl rfl rfl (by kernel_rfl) (hy 1 _ rfl)
  have e2 := fld 2 9 2 1 _ rfl rfl rfl (by kernel_rfl) (hy 2 _ rfl)
  have e3 := fld 3 35 3 4 _ rfl rfl rfl (by kernel_rfl) (hy 3 _ rfl)
  have e4 := fld 4 36 7 1 _ rfl rfl rfl (by kernel_rfl) (hy 4 _ rfl)
  simp only [List.drop_zero, List.drop_succ_cons, List.take_succ_cons, List.take_zero] at e0 e1 e2 e3 e4
  rw [List.getElem?_eq_getElem (by omega)] at e0 e1 e2 e3 e4
  obtain ⟨ms, n2, _, _, _, hm, hz⟩ := DataW.trod_struct Tryz.underlying35 e3
  have hm4 : ms.length = 4 := hm
  have gld : ∀ (i : Nat) (T : TypeId) (off cnt : Nat) (f : Field), (#[f] : Array Field).size = 1 → T = f.type → off = f.offset → cnt = Tryz.prog.cellsOf T → DataW.trod enc Tryz.prog W 0 (fun _ => true) true n2 f.type (([c3, c4, c5, c6].drop f.offset).take (Tryz.prog.cellsOf f.type)) = ms[i]? →
      DataW.trod enc Tryz.prog W 0 (fun _ => true) true n2 T (([c3, c4, c5, c6].drop off).take cnt) = ms[i]? := fun i T off cnt f _ h1 h2 h3 h => by
    subst h1
    subst h2
    subst h3
    exact h
  have i0 := gld 0 2 0 1 _ rfl rfl rfl (by kernel_rfl) (hz 0 _ rfl)
  have i1 := gld 1 2 1 1 _ rfl rfl rfl (by kernel_rfl) (hz 1 _ rfl)
  have i2 := gld 2 2 2 1 _ rfl rfl rfl (by kernel_rfl) (hz 2 _ rfl)
  have i3 := gld 3 2 3 1 _ rfl rfl rfl (by kernel_rfl) (hz 3 _ rfl)
  simp only [List.drop_zero, List.drop_succ_cons, List.take_succ_cons, List.take_zero] at i0 i1 i2 i3
  rw [List.getElem?_eq_getElem (by omega)] at i0 i1 i2 i3
  obtain ⟨p, hp, _, bp⟩ := DataW.trod_string Tryz.underlying9 e1
  obtain ⟨l, hl, _, bl⟩ := DataW.trod_string Tryz.underlying9 e2
  obtain ⟨k, hk, _, bk⟩ := DataW.trod_int Tryz.underlying3 e0
  obtain ⟨m, hm0, _, bm⟩ := DataW.trod_int Tryz.underlying2 i0
  obtain ⟨u, hu, _, bu⟩ := DataW.trod_int Tryz.underlying2 i1
  obtain ⟨g, hg, _, bg⟩ := DataW.trod_int Tryz.underlying2 i2
  obtain ⟨t, ht, _, bt⟩ := DataW.trod_int Tryz.underlying2 i3
  obtain ⟨A, len, cap, zs, rfl, r2, r3, r4, r5⟩ := openedBytes14 e4
  have wk : -9223372036854775808 ≤ k ∧ k ≤ 9223372036854775807 := by simpa [Lit.wf, IntKind.min, IntKind.max, IntKind.signed, IntKind.bits] using bk
  have wm : -9223372036854775808 ≤ m ∧ m ≤ 9223372036854775807 := by simpa [Lit.wf, IntKind.min, IntKind.max, IntKind.signed, IntKind.bits] using bm
  have wu : -9223372036854775808 ≤ u ∧ u ≤ 9223372036854775807 := by simpa [Lit.wf, IntKind.min, IntKind.max, IntKind.signed, IntKind.bits] using bu
  have wg : -9223372036854775808 ≤ g ∧ g ≤ 9223372036854775807 := by simpa [Lit.wf, IntKind.min, IntKind.max, IntKind.signed, IntKind.bits] using bg
  have wt : -9223372036854775808 ≤ t ∧ t ≤ 9223372036854775807 := by simpa [Lit.wf, IntKind.min, IntKind.max, IntKind.signed, IntKind.bits] using bt
  refine ⟨⟨k, p, l, m, u, g, t, A, len, cap, zs⟩, ?_, r2, wk, bp, bl, wm, wu, wg, wt, r3, r4, r5⟩
  simp_all
theorem openedDeeds14 {H : Type} {enc : TypeId × Value → H} {W : World} {fuel : Nat} {v : Value} {x : DataW H × List MemPlace} (hf : DataW.trod enc Tryz.prog W 0 (fun _ => true) true fuel 54 [v] = some x) :
    ∃ a len cap its, v = .slice a len cap ∧ QL W W.heap.size a len its ∧ len ≤ cap ∧ cap ≤ maxLen ∧ ∀ y ∈ its, DdOk y := by
  rcases open_slice Tryz.underlying54 hf with ⟨hcs, _⟩ | ⟨a, len, cap, m, n, D, Pl, hcs, hb, hl, hm, hmm, _, hx⟩
  · obtain rfl : v = .slice none 0 0 := by simpa using hcs
    exact ⟨none, 0, 0, [], rfl, QL.nil, Nat.le_refl _, Nat.zero_le _, fun y hy => by cases hy⟩
  · obtain rfl : v = .slice (some a) len cap := by simpa using hcs
    have hlm : len ≤ m := by rw [hmm]; split <;> omega
    have each : ∀ i, i < len → ∃ y : Dd, (∀ (j : Nat) u, (DdC y)[j]? = some u → W.cell? (a.add (i * 8 + j)) = some u) ∧ RB W W.heap.size y.A y.n y.xs ∧ DdOk y := by
      intro i hi
      obtain ⟨cs', h1, h2⟩ := hx i (by omega)
      rw [show Tryz.prog.cellsOf 60 = 8 by kernel_rfl] at h1
      obtain ⟨_, hlen, hcell⟩ := World.cells?_some h1
      obtain ⟨c0, c1, c2, c3, c4, c5, c6, c7, rfl⟩ : ∃ c0 c1 c2 c3 c4 c5 c6 c7, cs' = [c0, c1, c2, c3, c4, c5, c6, c7] := by
        match cs', hlen with
        | [c0, c1, c2, c3, c4, c5, c6, c7], _ => exact ⟨_, _, _, _, _, _, _, _, rfl⟩
      obtain ⟨y, hy, hr⟩ := deedCells14 h2
      refine ⟨y, fun j u hj => ?_, hr⟩
      rw [← hy] at hj
      have hj8 : j < 8 := (Array.getElem?_eq_some_iff.1 hj).1
      have e := hcell j hj8
      rw [add_add] at e
      rw [e]
      simpa using hj
    obtain ⟨q, hq⟩ := choose_lt each
    refine ⟨some a, len, cap, (List.range len).map q, rfl, ⟨⟨by simp, fun hn => ?_⟩, fun y hy => ?_⟩, hl, hm, fun y hy => ?_⟩
    · obtain ⟨b, o, s⟩ := a
      have h0 := (hq 0 hn).1 0 _ rfl
      have hs : s = none := by have := World.cell?_spot h0; simpa [Addr.add] using this
      subst hs
      have hadd : ∀ j, ((⟨b, o, none⟩ : Addr).add j) = ⟨b, o + j, none⟩ := fun j => by
        unfold Addr.add
        by_cases h0 : j = 0 <;> simp [h0]
      refine ⟨b, o, rfl, ?_, fun j y hj i u hu => ?_⟩
      · have := World.block_lt_of_cell? W _ h0
        simpa [Addr.add] using this
      · have hjl : j < len := by have := (List.getElem?_eq_some_iff.1 hj).1; simpa using this
        have hr : y = q j := by
          rw [List.getElem?_map, List.getElem?_range hjl] at hj
          exact (Option.some.inj hj).symm
        subst hr
        have h := (hq j hjl).1 i u hu
        rw [hadd, ← Nat.add_assoc] at h
        exact h
    · obtain ⟨i, hi, rfl⟩ := List.mem_map.1 hy
      exact (hq i (List.mem_range.1 hi)).2.1
    · obtain ⟨i, hi, rfl⟩ := List.mem_map.1 hy
      exact (hq i (List.mem_range.1 hi)).2.2
end Go.Proofs.YthgbncpiehcghaaGreatDoor
