/- THE LAW 'HeadBack': for every input it answers true, whatever the memory that it is called in; each argument reads behind the call as before. The card: the package-level variables that its row lists hold what the program's text lays. -/
import Derived.Test.YtfkhemlaohkhkaaDoorL5c
import Derived.Test.YtfkhemlaohkhkaaDoorCards
import Derived.Test.YtfkhemlaohkhkaaDoorTie
import Derived.ChangeOld
import Derived.Lay
import Derived.MakeChecks
import Derived.SevenTiedAt
namespace Go.Proofs.YtfkhemlaohkhkaaDoor.headBackDone
open Go.ChangeShapes Go.WideShapes Go.ChangeAt Go.RowKit
open Go.ChangeMaps (open_string shut_string)
open Go.Proofs.YtfkhemlaohkhkaaDoor
set_option linter.unusedVariables false
theorem own : ownKnob Tryd.prog.godebug = none := by kernel_rfl
theorem laidOut : laidOutB Tryd.prog = true := by kernel_rfl
set_option maxRecDepth 100000 in
theorem openedHdr {H : Type} {enc : TypeId × Value → H} {W : World} {v : Value} {d : DataW H} {q : List MemPlace} (hv : Value.okWide Tryd.prog W .any 0 25 v) (h : DataW.Trod enc Tryd.prog W 0 (fun _ => true) true 25 v d q) :
    ∃ p nm l m u g t z k, v = .agg #[.string p, .string nm, .int .i64 m, .int .i64 u, .int .i64 g, .int .i64 t, .int .i64 z, .int .u8 k, .string l] ∧ p.size ≤ maxLen ∧ nm.size ≤ maxLen ∧ l.size ≤ maxLen ∧ 0 ≤ k ∧ k ≤ 255 ∧ -9223372036854775808 ≤ m ∧ m ≤ 9223372036854775807 ∧ -9223372036854775808 ≤ u ∧ u ≤ 9223372036854775807 ∧ -9223372036854775808 ≤ g ∧ g ≤ 9223372036854775807 ∧ -9223372036854775808 ≤ t ∧ t ≤ 9223372036854775807 ∧ -9223372036854775808 ≤ z ∧ z ≤ 9223372036854775807 := by
  obtain ⟨cs, rfl, hsz⟩ := okWide_struct Tryd.underlying25 hv
  rw [show Tryd.prog.cellsOf 25 = 9 by kernel_rfl] at hsz
  obtain ⟨L⟩ := cs
  obtain ⟨c0, c1, c2, c3, c4, c5, c6, c7, c8, rfl⟩ : ∃ c0 c1 c2 c3 c4 c5 c6 c7 c8, L = [c0, c1, c2, c3, c4, c5, c6, c7, c8] := by
    match L, hsz with
    | [c0, c1, c2, c3, c4, c5, c6, c7, c8], _ => exact ⟨_, _, _, _, _, _, _, _, _, rfl⟩
  obtain ⟨fuel, hf⟩ := h
  obtain ⟨ys, n, _, _, _, hl, hy⟩ := DataW.trod_struct Tryd.underlying25 hf
  have hl6 : ys.length = 6 := hl
  have fld : ∀ (i : Nat) (T : TypeId) (off cnt : Nat) (f : Field), (#[f] : Array Field).size = 1 → T = f.type → off = f.offset → cnt = Tryd.prog.cellsOf T → DataW.trod enc Tryd.prog W 0 (fun _ => true) true n f.type (([c0, c1, c2, c3, c4, c5, c6, c7, c8].drop f.offset).take (Tryd.prog.cellsOf f.type)) = ys[i]? →
      DataW.trod enc Tryd.prog W 0 (fun _ => true) true n T (([c0, c1, c2, c3, c4, c5, c6, c7, c8].drop off).take cnt) = ys[i]? := fun i T off cnt f _ h1 h2 h3 h => by
    subst h1
    subst h2
    subst h3
    exact h
  have e0 := fld 0 9 0 1 _ rfl rfl rfl (by kernel_rfl) (hy 0 _ rfl)
  have e1 := fld 1 9 1 1 _ rfl rfl rfl (by kernel_rfl) (hy 1 _ rfl)
  have e2 := fld 2 23 2 4 _ rfl rfl rfl (by kernel_rfl) (hy 2 _ rfl)
  have e3 := fld 3 2 6 1 _ rfl rfl rfl (by kernel_rfl) (hy 3 _ rfl)
  have e4 := fld 4 5 7 1 _ rfl rfl rfl (by kernel_rfl) (hy 4 _ rfl)
  have e5 := fld 5 9 8 1 _ rfl rfl rfl (by kernel_rfl) (hy 5 _ rfl)
  simp only [List.drop_zero, List.drop_succ_cons, List.take_succ_cons, List.take_zero] at e0 e1 e2 e3 e4 e5
  rw [List.getElem?_eq_getElem (by omega)] at e0 e1 e2 e3 e4 e5
  obtain ⟨ms, n2, _, _, _, hm, hz⟩ := DataW.trod_struct Tryd.underlying23 e2
  have hm4 : ms.length = 4 := hm
  have gld : ∀ (i : Nat) (T : TypeId) (off cnt : Nat) (f : Field), (#[f] : Array Field).size = 1 → T = f.type → off = f.offset → cnt = Tryd.prog.cellsOf T → DataW.trod enc Tryd.prog W 0 (fun _ => true) true n2 f.type (([c2, c3, c4, c5].drop f.offset).take (Tryd.prog.cellsOf f.type)) = ms[i]? →
      DataW.trod enc Tryd.prog W 0 (fun _ => true) true n2 T (([c2, c3, c4, c5].drop off).take cnt) = ms[i]? := fun i T off cnt f _ h1 h2 h3 h => by
    subst h1
    subst h2
    subst h3
    exact h
  have i0 := gld 0 2 0 1 _ rfl rfl rfl (by kernel_rfl) (hz 0 _ rfl)
  have i1 := gld 1 2 1 1 _ rfl rfl rfl (by kernel_rfl) (hz 1 _ rfl)
  have i2 := gld 2 2 2 1 _ rfl rfl rfl (by kernel_rfl) (hz 2 _ rfl)
  have i3 := gld 3 2 3 1 _ rfl rfl rfl (by kernel_rfl) (hz 3 _ rfl)
  simp only [List.drop_zero, List.drop_succ_cons, List.take_succ_cons, List.take_zero] at i0 i1 i2 i3
  rw [List.getElem?_eq_getElem (by omega)] at i0 i1 i2 i3
  obtain ⟨p, hp, _, bp⟩ := DataW.trod_string Tryd.underlying9 e0
  obtain ⟨nm, hn, _, bn⟩ := DataW.trod_string Tryd.underlying9 e1
  obtain ⟨l, hl, _, bl⟩ := DataW.trod_string Tryd.underlying9 e5
  obtain ⟨z, hz6, _, bz⟩ := DataW.trod_int Tryd.underlying2 e3
  obtain ⟨k, hk, _, bk⟩ := DataW.trod_int Tryd.underlying5 e4
  obtain ⟨m, hm0, _, bm⟩ := DataW.trod_int Tryd.underlying2 i0
  obtain ⟨u, hu, _, bu⟩ := DataW.trod_int Tryd.underlying2 i1
  obtain ⟨g, hg, _, bg⟩ := DataW.trod_int Tryd.underlying2 i2
  obtain ⟨t, ht, _, bt⟩ := DataW.trod_int Tryd.underlying2 i3
  have wk : 0 ≤ k ∧ k ≤ 255 := by simpa [Lit.wf, IntKind.min, IntKind.max, IntKind.signed, IntKind.bits] using bk
  have wm : -9223372036854775808 ≤ m ∧ m ≤ 9223372036854775807 := by simpa [Lit.wf, IntKind.min, IntKind.max, IntKind.signed, IntKind.bits] using bm
  have wu : -9223372036854775808 ≤ u ∧ u ≤ 9223372036854775807 := by simpa [Lit.wf, IntKind.min, IntKind.max, IntKind.signed, IntKind.bits] using bu
  have wg : -9223372036854775808 ≤ g ∧ g ≤ 9223372036854775807 := by simpa [Lit.wf, IntKind.min, IntKind.max, IntKind.signed, IntKind.bits] using bg
  have wt : -9223372036854775808 ≤ t ∧ t ≤ 9223372036854775807 := by simpa [Lit.wf, IntKind.min, IntKind.max, IntKind.signed, IntKind.bits] using bt
  have wz : -9223372036854775808 ≤ z ∧ z ≤ 9223372036854775807 := by simpa [Lit.wf, IntKind.min, IntKind.max, IntKind.signed, IntKind.bits] using bz
  refine ⟨p, nm, l, m, u, g, t, z, k, ?_, bp, bn, bl, wk.1, wk.2, wm.1, wm.2, wu.1, wu.2, wg.1, wg.2, wt.1, wt.2, wz.1, wz.2⟩
  simp_all
set_option maxHeartbeats 400000 in
set_option maxRecDepth 100000 in
theorem lifted (os : Os) (started : os.Started) (H : Type) (enc : TypeId × Value → H) :
    ReturnsInHanded {} Tryd.checked os 5 .any (fun w args => (Rows.headBackSpec.pre enc Tryd.prog Tryd.f5 [] false w args ∧ laidMetH Tryd.prog Rows.headBackRow.laid w) ∧ sizedMet enc Tryd.prog Tryd.f5 (OpenSpec.ofChange Rows.headBackSpec) false w args)
      (Rows.headBackSpec.post enc Tryd.prog Tryd.f5 false true false false) := by
  refine returnsInHanded_of_change_and (C := Tryd.checked) (X := fun w _ => laidMetH Tryd.prog Rows.headBackRow.laid w) (fun _ _ _ hh h => h.of_heap hh) own started (by kernel_rfl) Tryd.func5
    (ChangeSpec.witness_shaped (enc := enc) (C := Tryd.checked) (os := os) (X := fun w _ => laidMetH Tryd.prog Rows.headBackRow.laid w) false (World.laidAll Tryd.prog os Rows.headBackRow.laid) #[.agg #[.string .empty, .string .empty, .int .i64 0, .int .i64 0, .int .i64 0, .int .i64 0, .int .i64 0, .int .u8 0, .string .empty], .agg #[.string .empty, .string .empty, .int .i64 0, .int .i64 0, .int .i64 0, .int .i64 0, .int .i64 0, .int .u8 0, .string .empty]] 8 (World.laidAll_os _ _ _)
      (World.shaped_of_ZipB (by kernel_rfl) (by kernel_rfl)) (by kernel_rfl) (by kernel_rfl) (by kernel_rfl)
      (by rw [MakeChecks.laidMetH_plain _ _ _ (by kernel_rfl)]; exact laidMet_laidAll _ (by kernel_rfl) (by kernel_rfl))) ?_
  intro W base args ds gs before hval0 hW _ _ hL _
  have hval : ∀ (j : Nat) t v, Tryd.f5.params[j]? = some t → args[j]? = some v → Value.okWide Tryd.prog W .any base t v := hval0
  have hW' := hW
  obtain ⟨p, q, hA0, hV, rfl, hfz, hnd⟩ := hW
  have hA : DataW.TrodAll enc Tryd.prog W 0 (fun _ => true) true Tryd.f5.params.toList args.toList ds p := hA0
  rw [Tryd.params5] at hA hval
  obtain ⟨v0, vs0, d0, ds0, p0, q0, hargs, rfl, rfl, h0, r0⟩ := trodAll_cons hA
  obtain ⟨v1, vs1, d1, ds1, p1, q1, rfl, rfl, rfl, h1, r1⟩ := trodAll_cons r0
  obtain ⟨rfl, rfl, rfl⟩ := trodAll_nil r1
  obtain rfl : args = #[v0, v1] := by cases args; simp_all
  obtain ⟨rfl, rfl⟩ := trodVars_none hV
  have k0 := h0
  have lt0 : ∀ x ∈ p0, x.block < W.heap.size := by obtain ⟨m, hm⟩ := k0; exact DataW.trod_lt m _ _ _ hm
  obtain ⟨p0', nm0, l0, m0, u0, g0, t0, z0, kk0, rfl, a00, a01, a02, a03, a04, a05, a06, a07, a08, a09, a0a, a0b, a0c, a0d, a0e⟩ := openedHdr (hval 0 25 v0 rfl rfl) h0
  have k1 := h1
  have lt1 : ∀ x ∈ p1, x.block < W.heap.size := by obtain ⟨m, hm⟩ := k1; exact DataW.trod_lt m _ _ _ hm
  obtain ⟨p1', nm1, l1, m1, u1, g1, t1, z1, kk1, rfl, a10, a11, a12, a13, a14, a15, a16, a17, a18, a19, a1a, a1b, a1c, a1d, a1e⟩ := openedHdr (hval 1 25 v1 rfl rfl) h1
  clear hA0 hval0
  refine (hback_walk p0' nm0 l0 m0 u0 g0 t0 z0 kk0 p1' nm1 l1 m1 u1 g1 t1 z1 kk1 W a00 a01 a02 a03 a04 a05 a06 a07 a08 a09 a0a a0b a0c a0d a0e a10 a11 a12 a13 a14 a15 a16 a17 a18 a19 a1a a1b a1c a1d a1e).mono fun e W' ⟨he, bel⟩ => ?_
  subst he
  exact ⟨_, rfl, _, _, _, [], _, [], hW', trodAll_mk1 (shut_bool Tryd.underlying4 _), (trodAll_cons_mk (Below.trod laidOut (by kernel_rfl) (of_decide_eq_true (by kernel_rfl)) k0 bel lt0) (trodAll_cons_mk (Below.trod laidOut (by kernel_rfl) (of_decide_eq_true (by kernel_rfl)) k1 bel lt1) trodAll_mk0)), rfl, bel.frame _, fun h => by cases h⟩
theorem said : Rows.HeadBackSaid :=
  OpenClaim.holds_of_wide 5 Tryd.f5 rfl rfl rfl rfl rfl rfl rfl ⟨rfl, rfl, rfl, rfl, rfl⟩ rfl rfl rfl rfl rfl (by kernel_rfl) Tryd.func5 (by kernel_rfl)
    (of_decide_eq_true (by kernel_rfl)) (by unfold Func.isWrapper; first | (rw [if_pos (by decide +kernel)]; kernel_rfl) | (rw [if_neg (by decide +kernel)]; exact ⟨rfl, rfl⟩))
    (fun os started H enc _ => lifted os started H enc)
theorem plain (f : FuncId) (fn : Func) (hf : Tryd.pinned.checked.prog.funcNamed Rows.headBackRow.func = some f) (hfn : Tryd.pinned.checked.prog.funcs[f]? = some fn) :
    false = Tryd.pinned.checked.prog.looks [] ∧ ∀ (j : Nat) t, fn.params[j]? = some t → Tryd.pinned.checked.prog.wantsStandIn t = false := by
  obtain rfl : f = 5 := Option.some.inj ((show Tryd.prog.funcNamed Rows.headBackRow.func = some 5 by kernel_rfl).symm.trans hf) |>.symm
  obtain rfl : fn = Tryd.f5 := (Option.some.inj (Tryd.func5.symm.trans hfn)).symm
  refine ⟨by kernel_rfl, fun j t ht => ?_⟩
  rw [Tryd.params5] at ht
  have hm : t ∈ [25, 25] := by simpa using Array.mem_of_getElem? ht
  have hall : ([25, 25].all fun u => !Tryd.prog.wantsStandIn u) = true := by kernel_rfl
  exact (show Tryd.prog.wantsStandIn t = false by simpa using List.all_eq_true.1 hall t hm)
theorem proved : Rows.HeadBackCardSaid :=
  Claim7.holds_tied_plain_at .later [] _ _ _ _ said (fun _ h => by cases h) (by kernel_rfl) (fun _ h => by cases h) headBack_row_tie rfl ⟨rfl, rfl⟩ (by kernel_rfl) rfl plain (by kernel_rfl)
#print axioms proved
end Go.Proofs.YtfkhemlaohkhkaaDoor.headBackDone
