/- THE LAW 'DiskNobody': for every input it answers true, whatever the memory that it is called in; each argument reads behind the call as before. The card: the package-level variables that its row lists hold what the program's text lays. -/
import Derived.Test.YtbianfjennnofaaGreatDoorL14a
import Derived.Test.YtbianfjennnofaaGreatDoorCards
import Derived.Test.YtbianfjennnofaaGreatDoorTie
import Derived.ChangeOld
import Derived.Lay
import Derived.MakeChecks
import Derived.SevenTiedAt
namespace Go.Proofs.YtbianfjennnofaaGreatDoor.diskNobodyDone
open Go.ChangeShapes Go.WideShapes Go.ChangeAt Go.RowKit
open Go.ChangeMaps (open_string shut_string)
open Go.Proofs.YtbianfjennnofaaGreatDoor
set_option linter.unusedVariables false
theorem own : ownKnob Tryz.prog.godebug = none := by kernel_rfl
theorem laidOut : laidOutB Tryz.prog = true := by kernel_rfl
theorem openedBytes {H : Type} {enc : TypeId × Value → H} {W : World} {fuel : Nat} {v : Value} {x : DataW H × List MemPlace} (hf : DataW.trod enc Tryz.prog W 0 (fun _ => true) true fuel 36 [v] = some x) :
    ∃ a len cap zs, v = .slice a len cap ∧ RB W W.heap.size a len zs ∧ Byt zs ∧ len ≤ cap ∧ cap ≤ maxLen := by
  rcases open_ints Tryz.underlying36 Tryz.underlying5 (by kernel_rfl) hf with ⟨hcs, _⟩ | ⟨x, l, c, zs, hcs, _, hl, hm, hz, _, hcell, hwz⟩
  · obtain rfl : v = .slice none 0 0 := by simpa using hcs
    exact ⟨none, 0, 0, [], rfl, RB.nil, Byt.nil, Nat.le_refl _, Nat.zero_le _⟩
  · obtain rfl : v = .slice (some x) l c := by simpa using hcs
    exact ⟨some x, l, c, zs.take l, rfl, rb_open hl (by simpa using hz) hcell, byt_open hwz _, hl, hm⟩
set_option maxRecDepth 100000 in
theorem openedDeed {H : Type} {enc : TypeId × Value → H} {W : World} {v : Value} {d : DataW H} {q : List MemPlace} (hv : Value.okWide Tryz.prog W .any 0 60 v) (h : DataW.Trod enc Tryz.prog W 0 (fun _ => true) true 60 v d q) :
    ∃ k p l m u g t A n c xs, v = .agg #[.int .i64 k, .string p, .string l, .int .i64 m, .int .i64 u, .int .i64 g, .int .i64 t, .slice A n c] ∧ (-9223372036854775808 ≤ k ∧ k ≤ 9223372036854775807) ∧ p.size ≤ maxLen ∧ l.size ≤ maxLen ∧ (-9223372036854775808 ≤ m ∧ m ≤ 9223372036854775807) ∧ (-9223372036854775808 ≤ u ∧ u ≤ 9223372036854775807) ∧ (-9223372036854775808 ≤ g ∧ g ≤ 9223372036854775807) ∧ (-9223372036854775808 ≤ t ∧ t ≤ 9223372036854775807) ∧ RB W W.heap.size A n xs ∧ Byt xs ∧ n ≤ c ∧ c ≤ maxLen := by
  obtain ⟨cs, rfl, hsz⟩ := okWide_struct Tryz.underlying60 hv
  rw [show Tryz.prog.cellsOf 60 = 8 by kernel_rfl] at hsz
  obtain ⟨L⟩ := cs
  obtain ⟨c0, c1, c2, c3, c4, c5, c6, c7, rfl⟩ : ∃ c0 c1 c2 c3 c4 c5 c6 c7, L = [c0, c1, c2, c3, c4, c5, c6, c7] := by
    match L, hsz with
    | [c0, c1, c2, c3, c4, c5, c6, c7], _ => exact ⟨_, _, _, _, _, _, _, _, rfl⟩
  obtain ⟨fuel, hf⟩ := h
  obtain ⟨ys, n, _, _, _, hl, hy⟩ := DataW.trod_struct Tryz.underlying60 hf
  have hl5 : ys.length = 5 := hl
  have fld : ∀ (i : Nat) (T : TypeId) (off cnt : Nat) (f : Field), (#[f] : Array Field).size = 1 → T = f.type → off = f.offset → cnt = Tryz.prog.cellsOf T → DataW.trod enc Tryz.prog W 0 (fun _ => true) true n f.type (([c0, c1, c2, c3, c4, c5, c6, c7].drop f.offset).take (Tryz.prog.cellsOf f.type)) = ys[i]? →
      DataW.trod enc Tryz.prog W 0 (fun _ => true) true n T (([c0, c1, c2, c3, c4, c5, c6, c7].drop off).take cnt) = ys[i]? := fun i T off cnt f _ h1 h2 h3 h => by
    subst h1
    subst h2
    subst h3
    exact h
  have e0 := fld 0 3 0 1 _ rfl rfl rfl (by kernel_rfl) (hy 0 _ rfl)
  have e1 := fld 1 9 1 1 _ rfl rfl rfl (by kernel_rfl) (hy 1 _ rfl)
  have e2 := fld 2 9 2 1 _ rfl rfl rfl (by kernel_rfl) (hy 2 _ rfl)
  have e3 := fld 3 35 3 4 _ rfl rfl rfl (by kernel_rfl) (hy 3 _ rfl)
  have e4 := fld 4 36 7 1 _ rfl rfl rfl (by kernel_rfl) (hy 4 _ rfl)
  simp only [List.drop_zero, List.drop_succ_cons, List.take_succ_cons, List.take_zero] at e0 e1 e2 e3 e4
  rw [List.getElem?_eq_getElem (by omega)] at e0 e1 e2 e3 e4
  obtain ⟨ms, n2, _, _, _, hm, hz⟩ := DataW.trod_struct Tryz.underlying35 e3
  have hm4 : ms.length = 4 := hm
  have gld : ∀ (i : Nat) (T : TypeId) (off cnt : Nat) (f : Field), (#[f] : Array Field).size = 1 → T = f.type → off = f.offset → cnt = Tryz.prog.cellsOf T → DataW.trod enc Tryz.prog W 0 (fun _ => true) true n2 f.type (([c3, c4, c5, c6].drop f.offset).take (Tryz.prog.cellsOf f.type)) = ms[i]? →
      DataW.trod enc Tryz.prog W 0 (fun _ => true) true n2 T (([c3, c4, c5, c6].drop off).take cnt) = ms[i]? := fun i T off cnt f _ h1 h2 h3 h => by
    subst h1
    subst h2
    subst h3
    exact h
  have i0 := gld 0 2 0 1 _ rfl rfl rfl (by kernel_rfl) (hz 0 _ rfl)
  have i1 := gld 1 2 1 1 _ rfl rfl rfl (by kernel_rfl) (hz 1 _ rfl)
  have i2 := gld 2 2 2 1 _ rfl rfl rfl (by kernel_rfl) (hz 2 _ rfl)
  have i3 := gld 3 2 3 1 _ rfl rfl rfl (by kernel_rfl) (hz 3 _ rfl)
  simp only [List.drop_zero, List.drop_succ_cons, List.take_succ_cons, List.take_zero] at i0 i1 i2 i3
  rw [List.getElem?_eq_getElem (by omega)] at i0 i1 i2 i3
  obtain ⟨p, hp, _, bp⟩ := DataW.trod_string Tryz.underlying9 e1
  obtain ⟨l, hl, _, bl⟩ := DataW.trod_string Tryz.underlying9 e2
  obtain ⟨k, hk, _, bk⟩ := DataW.trod_int Tryz.underlying3 e0
  obtain ⟨m, hm0, _, bm⟩ := DataW.trod_int Tryz.underlying2 i0
  obtain ⟨u, hu, _, bu⟩ := DataW.trod_int Tryz.underlying2 i1
  obtain ⟨g, hg, _, bg⟩ := DataW.trod_int Tryz.underlying2 i2
  obtain ⟨t, ht, _, bt⟩ := DataW.trod_int Tryz.underlying2 i3
  obtain ⟨A, len, cap, zs, rfl, r2, r3, r4, r5⟩ := openedBytes e4
  have wk : -9223372036854775808 ≤ k ∧ k ≤ 9223372036854775807 := by simpa [Lit.wf, IntKind.min, IntKind.max, IntKind.signed, IntKind.bits] using bk
  have wm : -9223372036854775808 ≤ m ∧ m ≤ 9223372036854775807 := by simpa [Lit.wf, IntKind.min, IntKind.max, IntKind.signed, IntKind.bits] using bm
  have wu : -9223372036854775808 ≤ u ∧ u ≤ 9223372036854775807 := by simpa [Lit.wf, IntKind.min, IntKind.max, IntKind.signed, IntKind.bits] using bu
  have wg : -9223372036854775808 ≤ g ∧ g ≤ 9223372036854775807 := by simpa [Lit.wf, IntKind.min, IntKind.max, IntKind.signed, IntKind.bits] using bg
  have wt : -9223372036854775808 ≤ t ∧ t ≤ 9223372036854775807 := by simpa [Lit.wf, IntKind.min, IntKind.max, IntKind.signed, IntKind.bits] using bt
  refine ⟨k, p, l, m, u, g, t, A, len, cap, zs, ?_, wk, bp, bl, wm, wu, wg, wt, r2, r3, r4, r5⟩
  simp_all
set_option maxHeartbeats 400000 in
set_option maxRecDepth 100000 in
theorem lifted (os : Os) (started : os.Started) (H : Type) (enc : TypeId × Value → H) :
    ReturnsInHanded {} Tryz.checked os 6 .any (fun w args => (Rows.diskNobodySpec.pre enc Tryz.prog Tryz.f6 [] false w args ∧ laidMetH Tryz.prog Rows.diskNobodyRow.laid w) ∧ sizedMet enc Tryz.prog Tryz.f6 (OpenSpec.ofChange Rows.diskNobodySpec) false w args)
      (Rows.diskNobodySpec.post enc Tryz.prog Tryz.f6 false true false false) := by
  refine returnsInHanded_of_change_and (C := Tryz.checked) (X := fun w _ => laidMetH Tryz.prog Rows.diskNobodyRow.laid w) (fun _ _ _ hh h => h.of_heap hh) own started (by kernel_rfl) Tryz.func6
    (ChangeSpec.witness_shaped (enc := enc) (C := Tryz.checked) (os := os) (X := fun w _ => laidMetH Tryz.prog Rows.diskNobodyRow.laid w) false (World.laidAll Tryz.prog os Rows.diskNobodyRow.laid) #[.agg #[.int .i64 0, .string .empty, .string .empty, .int .i64 0, .int .i64 0, .int .i64 0, .int .i64 0, .slice none 0 0], .int .i64 0] 8 (World.laidAll_os _ _ _)
      (World.shaped_of_ZipB (by kernel_rfl) (by kernel_rfl)) (by kernel_rfl) (by kernel_rfl) (by kernel_rfl)
      (by rw [MakeChecks.laidMetH_plain _ _ _ (by kernel_rfl)]; exact laidMet_laidAll _ (by kernel_rfl) (by kernel_rfl))) ?_
  intro W base args ds gs before hval0 hW _ _ hL _
  have hval : ∀ (j : Nat) t v, Tryz.f6.params[j]? = some t → args[j]? = some v → Value.okWide Tryz.prog W .any base t v := hval0
  have hW' := hW
  obtain ⟨p, q, hA0, hV, rfl, hfz, hnd⟩ := hW
  have hA : DataW.TrodAll enc Tryz.prog W 0 (fun _ => true) true Tryz.f6.params.toList args.toList ds p := hA0
  rw [Tryz.params6] at hA hval
  obtain ⟨v0, vs0, d0, ds0, p0, q0, hargs, rfl, rfl, h0, r0⟩ := trodAll_cons hA
  obtain ⟨v1, vs1, d1, ds1, p1, q1, rfl, rfl, rfl, h1, r1⟩ := trodAll_cons r0
  obtain ⟨rfl, rfl, rfl⟩ := trodAll_nil r1
  obtain rfl : args = #[v0, v1] := by cases args; simp_all
  obtain ⟨rfl, rfl⟩ := trodVars_none hV
  have k0 := h0
  have lt0 : ∀ x ∈ p0, x.block < W.heap.size := by obtain ⟨m, hm⟩ := k0; exact DataW.trod_lt m _ _ _ hm
  obtain ⟨kk0, pp0, ll0, mm0, uu0, gg0, tt0, AA0, nn0, cc0, xx0, rfl, a00, a01, a02, a03, a04, a05, a06, a07, a08, a09, a0a⟩ := openedDeed (hval 0 60 v0 rfl rfl) h0
  obtain ⟨a1, rfl, rfl, rfl, w1⟩ := open_int Tryz.underlying3 (hval 1 3 v1 rfl rfl) h1
  have bd1 : -9223372036854775808 ≤ a1 ∧ a1 ≤ 9223372036854775807 := by simpa [Lit.wf, IntKind.min, IntKind.max, IntKind.signed, IntKind.bits] using w1
  clear hA0 hval0
  refine (disknobody_walk kk0 pp0 ll0 mm0 uu0 gg0 tt0 AA0 nn0 cc0 xx0 a1 W a00 a01 a02 a03 a04 a05 a06 a07 a08 a09 a0a).mono fun e W' ⟨he, bel⟩ => ?_
  subst he
  exact ⟨_, rfl, _, _, _, [], _, [], hW', trodAll_mk1 (shut_bool Tryz.underlying4 _), (trodAll_cons_mk (Below.trod laidOut (by kernel_rfl) (of_decide_eq_true (by kernel_rfl)) k0 bel lt0) (trodAll_cons_mk (shut_int Tryz.underlying3 w1) trodAll_mk0)), rfl, bel.frame _, fun h => by cases h⟩
theorem said : Rows.DiskNobodySaid :=
  OpenClaim.holds_of_wide 6 Tryz.f6 rfl rfl rfl rfl rfl rfl rfl ⟨rfl, rfl, rfl, rfl, rfl⟩ rfl rfl rfl rfl rfl (by kernel_rfl) Tryz.func6 (by kernel_rfl)
    (of_decide_eq_true (by kernel_rfl)) (by unfold Func.isWrapper; first | (rw [if_pos (by decide +kernel)]; kernel_rfl) | (rw [if_neg (by decide +kernel)]; exact ⟨rfl, rfl⟩))
    (fun os started H enc _ => lifted os started H enc)
theorem plain (f : FuncId) (fn : Func) (hf : Tryz.pinned.checked.prog.funcNamed Rows.diskNobodyRow.func = some f) (hfn : Tryz.pinned.checked.prog.funcs[f]? = some fn) :
    false = Tryz.pinned.checked.prog.looks [] ∧ ∀ (j : Nat) t, fn.params[j]? = some t → Tryz.pinned.checked.prog.wantsStandIn t = false := by
  obtain rfl : f = 6 := Option.some.inj ((show Tryz.prog.funcNamed Rows.diskNobodyRow.func = some 6 by kernel_rfl).symm.trans hf) |>.symm
  obtain rfl : fn = Tryz.f6 := (Option.some.inj (Tryz.func6.symm.trans hfn)).symm
  refine ⟨by kernel_rfl, fun j t ht => ?_⟩
  rw [Tryz.params6] at ht
  have hm : t ∈ [60, 3] := by simpa using Array.mem_of_getElem? ht
  have hall : ([60, 3].all fun u => !Tryz.prog.wantsStandIn u) = true := by kernel_rfl
  exact (show Tryz.prog.wantsStandIn t = false by simpa using List.all_eq_true.1 hall t hm)
theorem proved : Rows.DiskNobodyCardSaid :=
  Claim7.holds_tied_plain_at .later [] _ _ _ _ said (fun _ h => by cases h) (by kernel_rfl) (fun _ h => by cases h) diskNobody_row_tie rfl ⟨rfl, rfl⟩ (by kernel_rfl) rfl plain (by kernel_rfl)
#print axioms proved
end Go.Proofs.YtbianfjennnofaaGreatDoor.diskNobodyDone
