/- ARGUMENTS OPENED: a frame of the document's. -/
import Derived.Test.YtmpmldoapfddeaaN19b
import Derived.Test.YtmpmldoapfddeaaR19e
import Derived.Test.YtmpmldoapfddeaaM19c
import Derived.Test.YtmpmldoapfddeaaChecked
import Derived.Deep.SlicePairs
import Derived.ChangeSame
import Derived.ChangeOld
import Derived.Lay
namespace Go.Proofs.Ytmpmldoapfddeaa
open Go.ChangeShapes Go.WideShapes Go.RowKit Go.Deep
open Go.ChangeMaps (open_string shut_string)
set_option linter.unusedVariables false
set_option maxRecDepth 100000
instance : Inhabited (Nat × Nat) := ⟨(0, 0)⟩
theorem openedBytes19 {H : Type} {enc : TypeId × Value → H} {W : World} {fuel : Nat} {v : Value} {x : DataW H × List MemPlace} (hf : DataW.trod enc Try.prog W 0 (fun _ => true) true fuel 28 [v] = some x) :
    ∃ a len cap zs, v = .slice a len cap ∧ RB W W.heap.size a len zs ∧ Byt zs ∧ len ≤ cap ∧ cap ≤ maxLen := by
  rcases open_ints Try.underlying28 Try.underlying5 (by kernel_rfl) hf with ⟨hcs, _⟩ | ⟨x, l, c, zs, hcs, _, hl, hm, hz, _, hcell, hwz⟩
  · obtain rfl : v = .slice none 0 0 := by simpa using hcs
    exact ⟨none, 0, 0, [], rfl, RB.nil, Byt.nil, Nat.le_refl _, Nat.zero_le _⟩
  · obtain rfl : v = .slice (some x) l c := by simpa using hcs
    exact ⟨some x, l, c, zs.take l, rfl, rb_open hl (by simpa using hz) hcell, byt_open hwz _, hl, hm⟩
theorem one_of {cs : List Value} {i : Nat} {v : Value} (h : (cs.drop i).take 1 = [v]) : cs[i]? = some v := by
  rw [List.take_one, List.head?_drop] at h
  cases e : cs[i]? with
  | none => rw [e] at h; simp at h
  | some u => rw [e] at h; simpa using h
theorem openedArr19 {H : Type} {enc : TypeId × Value → H} {W : World} {fuel n : Nat} {t : TypeId} {cs : List Value} {x : DataW H × List MemPlace} (hu : Try.prog.underlying t = some (.array n 5)) (hn : Try.prog.cellsOf t = n) (hf : DataW.trod enc Try.prog W 0 (fun _ => true) true fuel t cs = some x) :
    ∃ xs : List Int, cs = xs.map Fm.ub ∧ xs.length = n ∧ Byt xs := by
  obtain ⟨ys, m, _, _, hcl, hl, hy⟩ := DataW.trod_array hu hf
  rw [hn] at hcl
  have each : ∀ i, i < n → ∃ z : Int, cs[i]? = some (.int .u8 z) ∧ (0 ≤ z ∧ z ≤ 255) := by
    intro i hi
    have e := hy i hi
    rw [show Try.prog.cellsOf 5 = 1 by kernel_rfl, Nat.mul_one, List.getElem?_eq_getElem (by omega)] at e
    obtain ⟨z, hz, _, wz⟩ := DataW.trod_int Try.underlying5 e
    exact ⟨z, one_of hz, by simpa [Lit.wf, IntKind.min, IntKind.max, IntKind.signed, IntKind.bits] using wz⟩
  obtain ⟨q, hq⟩ := choose_lt each
  refine ⟨(List.range n).map q, ?_, by simp, fun j => ?_⟩
  · apply List.ext_getElem?
    intro i
    by_cases hi : i < n
    · rw [(hq i hi).1]
      simp [hi, Fm.ub]
    · rw [List.getElem?_eq_none (by omega), List.getElem?_eq_none (by simp; omega)]
  · by_cases hj : j < n
    · have := (hq j hj).2
      simpa [List.getD_eq_getElem?_getD, hj] using this
    · simp [List.getD_eq_getElem?_getD, hj]
theorem openedRgs19 {H : Type} {enc : TypeId × Value → H} {W : World} {fuel : Nat} {v : Value} {x : DataW H × List MemPlace} (hf : DataW.trod enc Try.prog W 0 (fun _ => true) true fuel 29 [v] = some x) :
    ∃ a len cap l, v = .slice a len cap ∧ RG W W.heap.size a len l ∧ len ≤ cap ∧ cap ≤ maxLen := by
  rcases open_slice Try.underlying29 hf with ⟨hcs, _⟩ | ⟨a, len, cap, m, n, D, Pl, hcs, hb, hl, hm, hmm, _, hx⟩
  · obtain rfl : v = .slice none 0 0 := by simpa using hcs
    exact ⟨none, 0, 0, [], rfl, ⟨⟨rfl, by simp⟩, fun h => absurd h (by omega)⟩, Nat.le_refl _, Nat.zero_le _⟩
  · obtain rfl : v = .slice (some a) len cap := by simpa using hcs
    have hlm : len ≤ m := by rw [hmm]; split <;> omega
    have each : ∀ i, i < len → ∃ y : Nat × Nat, W.cell? (a.add (i * 2)) = some (.int .u64 (y.1 : Int)) ∧ W.cell? (a.add (i * 2 + 1)) = some (.int .u64 (y.2 : Int)) ∧ y.1 < 18446744073709551616 ∧ y.2 < 18446744073709551616 := by
      intro i hi
      obtain ⟨cs', h1, h2⟩ := hx i (by omega)
      rw [show Try.prog.cellsOf 71 = 2 by kernel_rfl] at h1
      obtain ⟨_, hlen, hcell⟩ := World.cells?_some h1
      obtain ⟨c0, c1, rfl⟩ : ∃ c0 c1, cs' = [c0, c1] := by
        match cs', hlen with
        | [c0, c1], _ => exact ⟨_, _, rfl⟩
      obtain ⟨ys, n2, _, _, _, hl2, hy⟩ := DataW.trod_struct Try.underlying71 h2
      have hl5 : ys.length = 2 := hl2
      have fld : ∀ (i : Nat) (T : TypeId) (off cnt : Nat) (f : Field), (#[f] : Array Field).size = 1 → T = f.type → off = f.offset → cnt = Try.prog.cellsOf T → DataW.trod enc Try.prog W 0 (fun _ => true) true n2 f.type (([c0, c1].drop f.offset).take (Try.prog.cellsOf f.type)) = ys[i]? →
          DataW.trod enc Try.prog W 0 (fun _ => true) true n2 T (([c0, c1].drop off).take cnt) = ys[i]? := fun i T off cnt f _ h1 h2 h3 h => by
        subst h1
        subst h2
        subst h3
        exact h
      have e0 := fld 0 26 0 1 _ rfl rfl rfl (by kernel_rfl) (hy 0 _ rfl)
      have e1 := fld 1 26 1 1 _ rfl rfl rfl (by kernel_rfl) (hy 1 _ rfl)
      simp only [List.drop_zero, List.drop_succ_cons, List.take_succ_cons, List.take_zero] at e0 e1
      rw [List.getElem?_eq_getElem (by omega)] at e0 e1
      obtain ⟨p, hp, _, bp⟩ := DataW.trod_int Try.underlying26 e0
      obtain ⟨r, hr, _, br⟩ := DataW.trod_int Try.underlying26 e1
      have wp : 0 ≤ p ∧ p ≤ 18446744073709551615 := by simpa [Lit.wf, IntKind.min, IntKind.max, IntKind.signed, IntKind.bits] using bp
      have wr : 0 ≤ r ∧ r ≤ 18446744073709551615 := by simpa [Lit.wf, IntKind.min, IntKind.max, IntKind.signed, IntKind.bits] using br
      obtain ⟨p, rfl⟩ : ∃ z : Nat, p = (z : Int) := ⟨p.toNat, by omega⟩
      obtain ⟨r, rfl⟩ : ∃ z : Nat, r = (z : Int) := ⟨r.toNat, by omega⟩
      obtain rfl : c0 = .int .u64 (p : Int) := by simpa using hp
      obtain rfl : c1 = .int .u64 (r : Int) := by simpa using hr
      have k0 := hcell 0 (by omega)
      have k1 := hcell 1 (by omega)
      rw [add_add] at k0 k1
      exact ⟨(p, r), by simpa using k0, by simpa using k1, by show p < _; omega, by show r < _; omega⟩
    obtain ⟨q, hq⟩ := choose_lt each
    refine ⟨some a, len, cap, (List.range len).map q, rfl, ⟨⟨by simp, fun y hy => ?_⟩, fun hn => ?_⟩, hl, hm⟩
    · obtain ⟨i, hi, rfl⟩ := List.mem_map.1 hy
      exact (hq i (List.mem_range.1 hi)).2.2
    · obtain ⟨b, o, s⟩ := a
      have h0 := (hq 0 hn).1
      have hs : s = none := by have := World.cell?_spot h0; simpa [Addr.add] using this
      subst hs
      have hadd : ∀ j, ((⟨b, o, none⟩ : Addr).add j) = ⟨b, o + j, none⟩ := fun j => by
        unfold Addr.add
        by_cases h0 : j = 0 <;> simp [h0]
      refine ⟨b, o, rfl, ?_, fun j y hj => ?_⟩
      · have := World.block_lt_of_cell? W _ h0
        simpa [Addr.add] using this
      · have hjl : j < len := by have := (List.getElem?_eq_some_iff.1 hj).1; simpa using this
        have hr : y = q j := by
          rw [List.getElem?_map, List.getElem?_range hjl] at hj
          exact (Option.some.inj hj).symm
        subst hr
        have h := hq j hjl
        rw [hadd, hadd, ← Nat.add_assoc] at h
        exact ⟨h.1, h.2.1⟩
/-- What is known of a frame that came from without. -/
structure FrOk (W : World) (f : Fm.Fr) : Prop where
  fit : f.fit
  k : -9223372036854775808 ≤ f.k ∧ f.k ≤ 9223372036854775807
  tok : Byt f.tok
  sum : Byt f.sum
  rb : RB W W.heap.size f.A f.n f.xs
  xs : Byt f.xs
  nc : f.n ≤ f.c
  cm : f.c ≤ maxLen
  rg : RG W W.heap.size f.RA f.m f.rs
theorem openedFr {H : Type} {enc : TypeId × Value → H} {W : World} {v : Value} {d : DataW H} {q : List MemPlace} (hv : Value.okWide Try.prog W .any 0 31 v) (h : DataW.Trod enc Try.prog W 0 (fun _ => true) true 31 v d q) :
    ∃ f : Fm.Fr, v = .agg (Fm.FC f) ∧ FrOk W f := by
  obtain ⟨cs, rfl, hsz⟩ := okWide_struct Try.underlying31 hv
  rw [show Try.prog.cellsOf 31 = 56 by kernel_rfl] at hsz
  obtain ⟨L⟩ := cs
  have hL : L.length = 56 := hsz
  obtain ⟨fuel, hf⟩ := h
  obtain ⟨ys, n, _, _, _, hl, hy⟩ := DataW.trod_struct Try.underlying31 hf
  have hl9 : ys.length = 9 := hl
  have fld : ∀ (i : Nat) (T : TypeId) (off cnt : Nat) (f : Field), (#[f] : Array Field).size = 1 → T = f.type → off = f.offset → cnt = Try.prog.cellsOf T → DataW.trod enc Try.prog W 0 (fun _ => true) true n f.type ((L.drop f.offset).take (Try.prog.cellsOf f.type)) = ys[i]? →
      DataW.trod enc Try.prog W 0 (fun _ => true) true n T ((L.drop off).take cnt) = ys[i]? := fun i T off cnt f _ h1 h2 h3 h => by
    subst h1
    subst h2
    subst h3
    exact h
  have e0 := fld 0 3 0 1 _ rfl rfl rfl (by kernel_rfl) (hy 0 _ rfl)
  have e1 := fld 1 22 1 16 _ rfl rfl rfl (by kernel_rfl) (hy 1 _ rfl)
  have e2 := fld 2 25 17 2 _ rfl rfl rfl (by kernel_rfl) (hy 2 _ rfl)
  have e3 := fld 3 26 19 1 _ rfl rfl rfl (by kernel_rfl) (hy 3 _ rfl)
  have e4 := fld 4 26 20 1 _ rfl rfl rfl (by kernel_rfl) (hy 4 _ rfl)
  have e5 := fld 5 27 21 32 _ rfl rfl rfl (by kernel_rfl) (hy 5 _ rfl)
  have e6 := fld 6 28 53 1 _ rfl rfl rfl (by kernel_rfl) (hy 6 _ rfl)
  have e7 := fld 7 29 54 1 _ rfl rfl rfl (by kernel_rfl) (hy 7 _ rfl)
  have e8 := fld 8 3 55 1 _ rfl rfl rfl (by kernel_rfl) (hy 8 _ rfl)
  rw [List.getElem?_eq_getElem (by omega)] at e0 e1 e2 e3 e4 e5 e6 e7 e8
  obtain ⟨k, hk, _, bk⟩ := DataW.trod_int Try.underlying3 e0
  obtain ⟨off, ho, _, bo⟩ := DataW.trod_int Try.underlying26 e3
  obtain ⟨tot, ht, _, bt⟩ := DataW.trod_int Try.underlying26 e4
  obtain ⟨cd, hc, _, bc⟩ := DataW.trod_int Try.underlying3 e8
  obtain ⟨tok, htok, ltok, ytok⟩ := openedArr19 (by kernel_rfl) (by kernel_rfl) e1
  obtain ⟨sum, hsum, lsum, ysum⟩ := openedArr19 (by kernel_rfl) (by kernel_rfl) e5
  have t53 : (L.drop 53).take 1 = [L[53]] := by rw [List.take_one, List.head?_drop, List.getElem?_eq_getElem (by omega)]; rfl
  have t54 : (L.drop 54).take 1 = [L[54]] := by rw [List.take_one, List.head?_drop, List.getElem?_eq_getElem (by omega)]; rfl
  rw [t53] at e6
  rw [t54] at e7
  obtain ⟨A, an, ac, xs, hA, rbA, yx, anc, acm⟩ := openedBytes19 e6
  obtain ⟨RA, m, rc, rs, hR, rgR, _, _⟩ := openedRgs19 e7
  obtain ⟨zs, n2, _, _, hel, hzl, hz⟩ := DataW.trod_struct Try.underlying25 e2
  have hz2 : zs.length = 2 := hzl
  have t17 : (L.drop 17).take 2 = [L[17], L[18]] := by
    rw [List.drop_eq_getElem_cons (by omega), List.drop_eq_getElem_cons (by omega)]
    rfl
  rw [t17] at hz
  have gld : ∀ (i : Nat) (T : TypeId) (off cnt : Nat) (f : Field), (#[f] : Array Field).size = 1 → T = f.type → off = f.offset → cnt = Try.prog.cellsOf T → DataW.trod enc Try.prog W 0 (fun _ => true) true n2 f.type (([L[17], L[18]].drop f.offset).take (Try.prog.cellsOf f.type)) = zs[i]? →
      DataW.trod enc Try.prog W 0 (fun _ => true) true n2 T (([L[17], L[18]].drop off).take cnt) = zs[i]? := fun i T off cnt f _ h1 h2 h3 h => by
    subst h1
    subst h2
    subst h3
    exact h
  have i0 := gld 0 23 0 1 _ rfl rfl rfl (by kernel_rfl) (hz 0 _ rfl)
  have i1 := gld 1 23 1 1 _ rfl rfl rfl (by kernel_rfl) (hz 1 _ rfl)
  simp only [List.drop_zero, List.drop_succ_cons, List.take_succ_cons, List.take_zero] at i0 i1
  rw [List.getElem?_eq_getElem (by omega)] at i0 i1
  obtain ⟨s, hs, _, bs⟩ := DataW.trod_int Try.underlying23 i0
  obtain ⟨r, hr, _, br⟩ := DataW.trod_int Try.underlying23 i1
  have wk : -9223372036854775808 ≤ k ∧ k ≤ 9223372036854775807 := by simpa [Lit.wf, IntKind.min, IntKind.max, IntKind.signed, IntKind.bits] using bk
  have wo : 0 ≤ off ∧ off ≤ 18446744073709551615 := by simpa [Lit.wf, IntKind.min, IntKind.max, IntKind.signed, IntKind.bits] using bo
  have wt : 0 ≤ tot ∧ tot ≤ 18446744073709551615 := by simpa [Lit.wf, IntKind.min, IntKind.max, IntKind.signed, IntKind.bits] using bt
  have ws : 0 ≤ s ∧ s ≤ 4294967295 := by simpa [Lit.wf, IntKind.min, IntKind.max, IntKind.signed, IntKind.bits] using bs
  have wr : 0 ≤ r ∧ r ≤ 4294967295 := by simpa [Lit.wf, IntKind.min, IntKind.max, IntKind.signed, IntKind.bits] using br
  obtain ⟨off, rfl⟩ : ∃ z : Nat, off = (z : Int) := ⟨off.toNat, by omega⟩
  obtain ⟨tot, rfl⟩ : ∃ z : Nat, tot = (z : Int) := ⟨tot.toNat, by omega⟩
  obtain ⟨s, rfl⟩ : ∃ z : Nat, s = (z : Int) := ⟨s.toNat, by omega⟩
  obtain ⟨r, rfl⟩ : ∃ z : Nat, r = (z : Int) := ⟨r.toNat, by omega⟩
  refine ⟨⟨k, tok, s, r, off, tot, sum, A, an, ac, xs, RA, m, rc, rs, cd⟩, ?_, ⟨⟨⟨ltok, lsum⟩, by show s < _; omega, by show r < _; omega, by show off < _; omega, by show tot < _; omega, rgR.1.2, rbA.1, rgR.1.1⟩, wk, ytok, ysum, rbA, yx, anc, acm, rgR⟩⟩
  have h17 : L[17] = .int .u32 (s : Int) := by simpa using hs
  have h18 : L[18] = .int .u32 (r : Int) := by simpa using hr
  have hsplit : L = (L.drop 0).take 1 ++ (L.drop 1).take 16 ++ ((L.drop 17).take 2 ++ (L.drop 19).take 1 ++ (L.drop 20).take 1 ++ (L.drop 21).take 32 ++ ((L.drop 53).take 1 ++ (L.drop 54).take 1 ++ (L.drop 55).take 1)) := by
    have d : ∀ a b : Nat, L.drop (a + b) = (L.drop a).drop b := fun a b => by rw [List.drop_drop]
    have e56 : (L.drop 55).take 1 = L.drop 55 := List.take_of_length_le (by rw [List.length_drop]; omega)
    rw [e56]
    simp only [List.append_assoc]
    rw [d 54 1, List.take_append_drop, d 53 1, List.take_append_drop, d 21 32, List.take_append_drop, d 20 1, List.take_append_drop, d 19 1, List.take_append_drop, d 17 2, List.take_append_drop, d 1 16, List.take_append_drop, d 0 1, List.take_append_drop]
    rfl
  congr 1
  unfold Fm.FC
  congr 1
  rw [hsplit, hk, htok, t17, h17, h18, ho, ht, hsum, t53, hA, t54, hR, hc]
  simp [Fm.L1, Fm.L2, Fm.L3]
end Go.Proofs.Ytmpmldoapfddeaa
