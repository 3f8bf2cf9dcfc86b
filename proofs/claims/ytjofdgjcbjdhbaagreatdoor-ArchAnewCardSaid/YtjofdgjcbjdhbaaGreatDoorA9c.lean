/- WALKS OF LAYER 9, THIRD PART: arch.lay, Lay, Len, Ends; the reference's Lay. By gen_a9c.py. -/
import Derived.Test.YtjofdgjcbjdhbaaGreatDoorA9b
import Derived.Test.YtjofdgjcbjdhbaaGreatDoorE8h
import Derived.Test.YtjofdgjcbjdhbaaGreatDoorGe2
namespace Go.Proofs.YtjofdgjcbjdhbaaGreatDoor
open Go Go.RowKit
set_option maxHeartbeats 8000000
set_option maxRecDepth 100000
set_option linter.unusedVariables false
theorem map_take {its : List It} (j : Nat) : (its.map It.mem).take j = (its.take j).map It.mem := List.map_take.symm
theorem ne_types : (3 : TypeId) ≠ 5 := by decide
/-- Where a row of where members end, of the j first ones, comes to with one more. -/
theorem ends_step {q : ByteArray → Nat} {ms : List Ar.Mem} {j : Nat} {x : Ar.Mem} (ht : ms.take (j + 1) = ms.take j ++ [x]) : Ar.flat q (ms.take (j + 1)) = Ar.flat q (ms.take j) ++ x.lay q ∧ Ar.ends q 0 (ms.take (j + 1)) = Ar.ends q 0 (ms.take j) ++ [(Ar.flat q (ms.take j)).length + (x.lay q).length] := by
  rw [ht]
  refine ⟨Ar.flat_snoc q _ x, ?_⟩
  rw [Ar.ends_snoc, Ar.flat_snoc, List.length_append, Nat.zero_add]
theorem alay_any9 (q : ByteArray → Nat) (hq : ∀ p, Sf.IsCut p (q p)) (B : Option Addr) (nl cl : Nat) (its : List It) (w : World) (tb : Tab w) (hl : ML w w.heap.size B nl its) (hn : nl ≤ 100000) (hs : ∀ x ∈ its, x.p.size ≤ 1000 ∧ x.l.size ≤ 1000 ∧ x.n ≤ 100000) :
    Calls Tryz.prog 29 #[.slice B nl cl] w fun e w' => ∃ v v2, e = .returned (.tuple #[v, v2, .int .i64 (Ar.Err (its.map It.mem))]) ∧ OB w' w.heap.size 5 v (Ar.bytes q (its.map It.mem)) ∧ w'.ownsRow w.heap.size 3 1 v2 (Ar.endsL q (its.map It.mem)).length (nums (Ar.endsL q (its.map It.mem))) ∧ Below w.heap.size w w' := by
  obtain ⟨i0, hi, hz0, hz1, hz2⟩ := info_parts info_u8
  obtain ⟨i1, hi1, hy0, hy1, hy2⟩ := info_parts info_int
  have hll := hl.len
  have hml : (its.map It.mem).length = nl := by rw [List.length_map, hll]
  have HMP := Lib.hid (fun j => map_take (its := its) j)
  have HIX := Lib.hid (fun (j : Nat) (x : It) (h : its[j]? = some x) => (show (its.map It.mem)[j]? = some x.mem by rw [List.getElem?_map, h]; rfl))
  have HSS := Lib.hid hs; clear hs
  generalize its.map It.mem = ms at *
  by_cases hmany : 64 < nl
  · have hE := Ar.Err_many (ms := ms) (by omega)
    have hB := Ar.bytes_bad (q := q) (ms := ms) (by rw [hE]; decide)
    have hD := Ar.endsL_bad (q := q) (ms := ms) (by rw [hE]; decide)
    rw [hE, hB, hD]
    have hm' : (64 : Int) < nl := by omega
    clear HSS HIX HMP
    go_enter Tryz.func29, Tryz.ntmps29
    go_wp2
    refine bodyPost_ret (v := .tuple #[.slice none 0 0, .slice none 0 0, .int .i64 5]) (by simp [results, Tryz.f29, go_sem]) rfl ?_
    exact ⟨_, _, rfl, OB.nil _ _ _, World.ownsRow_nil _ _ _ _, Below.refl _ _⟩
  · have hE := Ar.Err_few (ms := ms) (by omega)
    have hm' : ¬ (64 : Int) < nl := by omega
    have HEE := Lib.hid hE; clear hE
    have HML := Lib.hid hml; clear hml
    go_enter Tryz.func29, Tryz.ntmps29
    go_wp2
    go_loopw [5, 6, 16] (fun v v2 i wr => ∃ j : Nat, j ≤ nl ∧ i = .int .i64 j ∧ Hid (Ar.layE (ms.take j) = 0) ∧ Hid (OBn wr w.heap.size 5 v (Ar.flat q (ms.take j)).length (Ar.flat q (ms.take j))) ∧ Hid (wr.ownsRow w.heap.size 3 1 v2 j (nums (Ar.ends q 0 (ms.take j)))) ∧ Below w.heap.size w wr) (fun _ _ i _ => nl - (intOf i).toNat)
    case atStart => exact ⟨0, by omega, rfl, rfl, World.ownsRow_nil _ _ _ _, World.ownsRow_nil _ _ _ _, Below.refl _ _⟩
    case round =>
      obtain ⟨j, hj, rfl, HE, HO, HD, hb⟩ := hrel
      by_cases hlt : j < nl
      · have hlt' : (j : Int) < nl := by omega
        obtain ⟨b, o, p, l, k, m, u, g, t, A, n, c, xs, z, rfl, hbl, hjl, q0, q1, q2, q3, q4, q5, q6, q7, hrb, hnc, hcm⟩ := (hl.below hb).at_ hlt
        have hms : ms[j]? = some ⟨p, l, k, m, u, g, t, xs⟩ := HIX.out _ _ hjl
        have hss := HSS.out _ (List.mem_of_getElem? hjl)
        dsimp only at hss
        obtain ⟨hp, hlk, hnn⟩ := hss
        have htk := Rc.take_next hms
        have hxl := hrb.1
        have hlen := Ar.lay_len hq (⟨p, l, k, m, u, g, t, xs⟩ : Ar.Mem)
        have hfl := Ar.flat_len hq (ms.take j)
        have hfl2 : (ms.take j).length ≤ 64 := by rw [List.length_take]; omega
        obtain ⟨hst1, hst2⟩ := ends_step (q := q) htk
        have h0 := fun W (h : Below wr.heap.size wr W) => hb.trans (h.mono hb.size)
        have ON := fun W (h : Below wr.heap.size wr W) => mlay_any p l k m u g t A n c (q p) xs W (tb.on (h0 W h)) ((hrb.below (h.mono hb.size)).more (h0 W h).size) hp hlk hnn (hq p)
        have eM : Mb.may p l k m u g t n = (⟨p, l, k, m, u, g, t, xs⟩ : Ar.Mem).may := by unfold Ar.Mem.may; rw [hxl]
        have eL : Mb.layM p l (q p) k m u g t xs = (⟨p, l, k, m, u, g, t, xs⟩ : Ar.Mem).lay q := rfl
        rw [eM, eL] at ON
        by_cases hE : (⟨p, l, k, m, u, g, t, xs⟩ : Ar.Mem).may = 0
        · have HE2 := Lib.hid (show Ar.layE (ms.take (j + 1)) = 0 by rw [htk]; exact (Ar.layE_snoc HE.out).trans hE)
          rw [hE] at ON
          have HS1 := Lib.hid hst1; have HS2 := Lib.hid hst2
          clear hms hjl hrb hxl eM eL hE htk hst1 hst2 hnc hcm hp hlk hnn
          clear h0
          generalize Ar.Mem.lay q ⟨p, l, k, m, u, g, t, xs⟩ = one at *
          generalize Ar.flat q (ms.take j) = fl at *
          generalize Ar.ends q 0 (ms.take j) = en at *
          have HON := Lib.hid ON; clear ON
          obtain ⟨Af, cf, rfl, hrf, hcf⟩ := HO.out.slice
          clear hrf
          obtain ⟨Ae, ce, rfl, hce⟩ := owns_slice HD.out
          have BX1 := Lib.hid (mb_new wr (.cells #[.string p, .int .i64 k, .int .i64 m, .int .i64 u, .int .i64 g, .int .i64 t, .string l, .slice A n c] 44))
          have HB1 := Lib.hid (hb.trans (BX1.out.mono hb.size))
          go_wp2_with (first
            | (go_at_call 33; (with_reducible refine (HON.out _ BX1.out).mono ?_); rintro e w2 ⟨v2, rfl, ho2, hb2⟩; have HB2 := Lib.hid (HB1.out.trans (hb2.mono HB1.out.size)); have HO2 := Lib.hid ((HO.out.later BX1.out).later hb2); have HD2 := Lib.hid (owns_below (owns_below HD.out BX1.out) hb2); obtain ⟨A2, c2, rfl, hr2, _, _⟩ := ho2.rb; have HR2 := Lib.hid hr2; clear ho2 hb2 hr2)
            | (at_builtin; obtain ⟨v6, w6, hrun, hown, hgrow⟩ := run_append_rb (P := Tryz.prog) w.heap.size w2.heap.size 25 25 5 i0 Tryz.underlying25 hi hz0 hz1 hz2 _ fl.length fl HO2.out A2 one.length c2 one HR2.out (by omega) HB2.out.size; have HO6 := Lib.hid hown; have HD6 := Lib.hid (owns_other HD2.out HO2.out ne_types hgrow); have HB6 := Lib.hid (below_app6 HB2.out (Nat.le_refl _) HO2.out hgrow); obtain ⟨A6, c6, rfl, _, _⟩ := hown.slice; refine Lib.wpList_append_run _ rfl _ _ 25 25 rfl _ _ rfl rfl _ _ hrun ?_; clear hrun hown hgrow)
            | (at_builtin; refine wpList_append_own _ rfl _ _ 31 rfl w.heap.size 3 i1 (.int .i64 0) 1 8 Tryz.underlying31 hi1 hy0 hy1 hy2 rfl (by decide) (.slice Ae j ce) j (nums en) rfl (owns_below HD6.out (mb_new w6 (.cells #[.int .i64 ((fl.length + one.length : Nat) : Int)] 3))) ⟨w6.heap.size, 0, none⟩ 1 1 [.int .i64 ((fl.length + one.length : Nat) : Int)] rfl rfl (num_news w6 3 ((fl.length + one.length : Nat) : Int)) (num_one _) (by unfold maxLen; omega) (by omega) (by have := HB6.out.size; simp; omega) ?_; intro v7 w7 hown7 hgrow7 hnil7; have HD7 := Lib.hid hown7; have HO7 := Lib.hid (owns_other (HO6.out.later (mb_new w6 (.cells #[.int .i64 ((fl.length + one.length : Nat) : Int)] 3))) (owns_below HD6.out (mb_new w6 (.cells #[.int .i64 ((fl.length + one.length : Nat) : Int)] 3))) ne_types.symm hgrow7); have HB7 := Lib.hid (below_app6 (HB6.out.alloc HB6.out.size _) (Nat.le_refl _) (owns_below HD6.out (mb_new w6 (.cells #[.int .i64 ((fl.length + one.length : Nat) : Int)] 3))) hgrow7); clear hown7 hgrow7 hnil7))
          go_roundw
          case rel =>
            refine ⟨j + 1, by omega, by go_num, HE2.out, ?_, ?_, HB7.out⟩
            · show OBn _ _ _ _ _ _
              rw [HS1.out, List.length_append]
              exact HO7.out
            · show World.ownsRow _ _ _ _ _ _ _
              rw [HS2.out, nums_snoc]
              exact HD7.out
          case measure => simp [intOf]; omega
        · have hst := Ar.layE_stop HE.out htk hE
          have hbad : Ar.Err ms = (⟨p, l, k, m, u, g, t, xs⟩ : Ar.Mem).may := HEE.out.trans hst
          have hB := Lib.hid (Ar.bytes_bad (q := q) (ms := ms) (by rw [hbad]; exact hE))
          have hD := Lib.hid (Ar.endsL_bad (q := q) (ms := ms) (by rw [hbad]; exact hE))
          have HBAD := Lib.hid hbad
          clear hms hjl hrb hxl eM eL htk hst1 hst2 hnc hcm hp hlk hnn hst hbad
          clear h0
          generalize (⟨p, l, k, m, u, g, t, xs⟩ : Ar.Mem).may = E at *
          have hE' : (E != 0) = true := by simpa using hE
          have HON := Lib.hid ON; clear ON
          have BX1 := Lib.hid (mb_new wr (.cells #[.string p, .int .i64 k, .int .i64 m, .int .i64 u, .int .i64 g, .int .i64 t, .string l, .slice A n c] 44))
          have HB1 := Lib.hid (hb.trans (BX1.out.mono hb.size))
          go_wp2_with (go_at_call 33; (with_reducible refine (HON.out _ BX1.out).mono ?_); rintro e w2 ⟨v2, rfl, ho2, hb2⟩; have HB2 := Lib.hid (HB1.out.trans (hb2.mono HB1.out.size)); clear ho2 hb2)
          refine bodyPost_ret (v := .tuple #[.slice none 0 0, .slice none 0 0, .int .i64 E]) (by simp [results, Tryz.f29, go_sem]) rfl ?_
          rw [HBAD.out, hB.out, hD.out]
          exact ⟨_, _, rfl, OB.nil _ _ _, World.ownsRow_nil _ _ _ _, HB2.out⟩
      · obtain rfl : j = nl := by omega
        have hfl := Ar.flat_len hq (ms.take j)
        have hfl2 : (ms.take j).length ≤ 64 := by rw [List.length_take]; omega
        have htk : ms.take j = ms := List.take_of_length_le (by have := HML.out; omega)
        rw [htk] at HE HO HD hfl hfl2
        have HERR := Lib.hid (HEE.out.trans HE.out)
        have hB := Lib.hid (Ar.bytes_ok (q := q) HERR.out)
        have hD := Lib.hid (Ar.endsL_ok (q := q) HERR.out)
        have HEL := Lib.hid ((Ar.ends_len q 0 ms).trans HML.out)
        clear htk
        generalize Ar.flat q ms = fl at *
        generalize Ar.ends q 0 ms = en at *
        obtain ⟨Af, cf, rfl, hrf, hcf⟩ := HO.out.slice
        clear hrf
        obtain ⟨Ae, ce, rfl, hce⟩ := owns_slice HD.out
        have hlt' : ¬ (j : Int) < j := by omega
        go_wp2_with (first
          | (go_at_call 41; (with_reducible refine (end_any _).mono ?_); rintro e w2 ⟨v2, rfl, ho2, hb2⟩; have HB2 := Lib.hid (hb.trans (hb2.mono hb.size)); have HO2 := Lib.hid (HO.out.later hb2); have HD2 := Lib.hid (owns_below HD.out hb2); obtain ⟨A2, c2, rfl, hr2, _, _⟩ := ho2.slice; have HR2 := Lib.hid hr2; clear ho2 hb2 hr2)
          | (at_builtin; obtain ⟨v6, w6, hrun, hown, hgrow⟩ := run_append_rb (P := Tryz.prog) w.heap.size w2.heap.size 25 25 5 i0 Tryz.underlying25 hi hz0 hz1 hz2 _ fl.length fl HO2.out A2 1024 c2 (List.replicate 1024 0) HR2.out (by omega) HB2.out.size; have HO6 := Lib.hid hown; have HD6 := Lib.hid (owns_other HD2.out HO2.out ne_types hgrow); have HB6 := Lib.hid (below_app6 HB2.out (Nat.le_refl _) HO2.out hgrow); refine Lib.wpList_append_run _ rfl _ _ 25 25 rfl _ _ rfl rfl _ _ hrun ?_; clear hrun hown hgrow))
        refine bodyPost_ret (v := .tuple #[v6, .slice Ae j ce, .int .i64 0]) (by simp [results, Tryz.f29, go_sem]) rfl ?_
        rw [HERR.out, hB.out, hD.out, HEL.out]
        exact ⟨_, _, rfl, HO6.out.ob, HD6.out, HB6.out⟩
theorem reflay_any9 (q : ByteArray → Nat) (hq : ∀ p, Sf.IsCut p (q p)) (B : Option Addr) (nl cl : Nat) (its : List It) (w : World) (hl : ML w w.heap.size B nl its) (hn : nl ≤ 100000) (hs : ∀ x ∈ its, x.p.size ≤ 1000 ∧ x.l.size ≤ 1000 ∧ x.n ≤ 100000) (hk : ∀ x ∈ its, -9223372036854775808 ≤ x.k ∧ x.k ≤ 9223372036854775807) :
    Calls Tryz.prog 11 #[.slice B nl cl] w fun e w' => ∃ v v2, e = .returned (.tuple #[v, v2, .int .i64 (Ar.Err (its.map It.mem))]) ∧ OB w' w.heap.size 5 v (Ar.bytes q (its.map It.mem)) ∧ w'.ownsRow w.heap.size 3 1 v2 (Ar.endsL q (its.map It.mem)).length (nums (Ar.endsL q (its.map It.mem))) ∧ Below w.heap.size w w' := by
  obtain ⟨i0, hi, hz0, hz1, hz2⟩ := info_parts info_u8
  obtain ⟨i1, hi1, hy0, hy1, hy2⟩ := info_parts info_int
  have hll := hl.len
  have hml : (its.map It.mem).length = nl := by rw [List.length_map, hll]
  have HMP := Lib.hid (fun j => map_take (its := its) j)
  have HIX := Lib.hid (fun (j : Nat) (x : It) (h : its[j]? = some x) => (show (its.map It.mem)[j]? = some x.mem by rw [List.getElem?_map, h]; rfl))
  have HSS := Lib.hid hs; clear hs
  have HKB := Lib.hid hk; clear hk
  generalize its.map It.mem = ms at *
  by_cases hmany : 64 < nl
  · have hE := Ar.Err_many (ms := ms) (by omega)
    have hB := Ar.bytes_bad (q := q) (ms := ms) (by rw [hE]; decide)
    have hD := Ar.endsL_bad (q := q) (ms := ms) (by rw [hE]; decide)
    rw [hE, hB, hD]
    have hm' : (64 : Int) < nl := by omega
    clear HSS HIX HMP
    go_enter Tryz.func11, Tryz.ntmps11
    go_wp2
    refine bodyPost_ret (v := .tuple #[.slice none 0 0, .slice none 0 0, .int .i64 5]) (by simp [results, Tryz.f11, go_sem]) rfl ?_
    exact ⟨_, _, rfl, OB.nil _ _ _, World.ownsRow_nil _ _ _ _, Below.refl _ _⟩
  · have hE := Ar.Err_few (ms := ms) (by omega)
    have hm' : ¬ (64 : Int) < nl := by omega
    have HEE := Lib.hid hE; clear hE
    have HML := Lib.hid hml; clear hml
    go_enter Tryz.func11, Tryz.ntmps11
    go_wp2
    go_loopw [5, 6, 7] (fun v v2 i wr => ∃ j : Nat, j ≤ nl ∧ i = .int .i64 j ∧ Hid (Ar.layE (ms.take j) = 0) ∧ Hid (OBn wr w.heap.size 5 v (Ar.flat q (ms.take j)).length (Ar.flat q (ms.take j))) ∧ Hid (wr.ownsRow w.heap.size 3 1 v2 j (nums (Ar.ends q 0 (ms.take j)))) ∧ Below w.heap.size w wr) (fun _ _ i _ => nl - (intOf i).toNat)
    case atStart => exact ⟨0, by omega, rfl, rfl, World.ownsRow_nil _ _ _ _, World.ownsRow_nil _ _ _ _, Below.refl _ _⟩
    case round =>
      obtain ⟨j, hj, rfl, HE, HO, HD, hb⟩ := hrel
      by_cases hlt : j < nl
      · have hlt' : (j : Int) < nl := by omega
        obtain ⟨b, o, p, l, k, m, u, g, t, A, n, c, xs, z, rfl, hbl, hjl, q0, q1, q2, q3, q4, q5, q6, q7, hrb, hnc, hcm⟩ := (hl.below hb).at_ hlt
        have hms : ms[j]? = some ⟨p, l, k, m, u, g, t, xs⟩ := HIX.out _ _ hjl
        have hss := HSS.out _ (List.mem_of_getElem? hjl)
        dsimp only at hss
        obtain ⟨hp, hlk, hnn⟩ := hss
        obtain ⟨hk0, hk1⟩ := HKB.out _ (List.mem_of_getElem? hjl)
        dsimp only at hk0 hk1
        have htk := Rc.take_next hms
        have hxl := hrb.1
        have hlen := Ar.lay_len hq (⟨p, l, k, m, u, g, t, xs⟩ : Ar.Mem)
        have hfl := Ar.flat_len hq (ms.take j)
        have hfl2 : (ms.take j).length ≤ 64 := by rw [List.length_take]; omega
        obtain ⟨hst1, hst2⟩ := ends_step (q := q) htk
        have h0 := fun W (h : Below wr.heap.size wr W) => hb.trans (h.mono hb.size)
        have ON := fun W (h : Below wr.heap.size wr W) => refmlay_any p l k m u g t A n c (q p) xs W ((hrb.below (h.mono hb.size)).more (h0 W h).size) hp hlk hnn (hq p) hk0 hk1
        have eM : Mb.may p l k m u g t n = (⟨p, l, k, m, u, g, t, xs⟩ : Ar.Mem).may := by unfold Ar.Mem.may; rw [hxl]
        have eL : Mb.layM p l (q p) k m u g t xs = (⟨p, l, k, m, u, g, t, xs⟩ : Ar.Mem).lay q := rfl
        rw [eM, eL] at ON
        by_cases hE : (⟨p, l, k, m, u, g, t, xs⟩ : Ar.Mem).may = 0
        · have HE2 := Lib.hid (show Ar.layE (ms.take (j + 1)) = 0 by rw [htk]; exact (Ar.layE_snoc HE.out).trans hE)
          rw [hE] at ON
          have HS1 := Lib.hid hst1; have HS2 := Lib.hid hst2
          clear hms hjl hrb hxl eM eL hE htk hst1 hst2 hnc hcm hp hlk hnn hk0 hk1
          clear h0
          generalize Ar.Mem.lay q ⟨p, l, k, m, u, g, t, xs⟩ = one at *
          generalize Ar.flat q (ms.take j) = fl at *
          generalize Ar.ends q 0 (ms.take j) = en at *
          have HON := Lib.hid ON; clear ON
          obtain ⟨Af, cf, rfl, hrf, hcf⟩ := HO.out.slice
          clear hrf
          obtain ⟨Ae, ce, rfl, hce⟩ := owns_slice HD.out
          have BX1 := Lib.hid (Below.refl wr.heap.size wr)
          have HB1 := Lib.hid (hb.trans (BX1.out.mono hb.size))
          go_wp2_with (first
            | (go_at_call 30; (with_reducible refine (HON.out _ BX1.out).mono ?_); rintro e w2 ⟨v2, rfl, ho2, hb2⟩; have HB2 := Lib.hid (HB1.out.trans (hb2.mono HB1.out.size)); have HO2 := Lib.hid ((HO.out.later BX1.out).later hb2); have HD2 := Lib.hid (owns_below (owns_below HD.out BX1.out) hb2); obtain ⟨A2, c2, rfl, hr2, _, _⟩ := ho2.rb; have HR2 := Lib.hid hr2; clear ho2 hb2 hr2)
            | (at_builtin; obtain ⟨v6, w6, hrun, hown, hgrow⟩ := run_append_rb (P := Tryz.prog) w.heap.size w2.heap.size 25 25 5 i0 Tryz.underlying25 hi hz0 hz1 hz2 _ fl.length fl HO2.out A2 one.length c2 one HR2.out (by omega) HB2.out.size; have HO6 := Lib.hid hown; have HD6 := Lib.hid (owns_other HD2.out HO2.out ne_types hgrow); have HB6 := Lib.hid (below_app6 HB2.out (Nat.le_refl _) HO2.out hgrow); obtain ⟨A6, c6, rfl, _, _⟩ := hown.slice; refine Lib.wpList_append_run _ rfl _ _ 25 25 rfl _ _ rfl rfl _ _ hrun ?_; clear hrun hown hgrow)
            | (at_builtin; refine wpList_append_own _ rfl _ _ 31 rfl w.heap.size 3 i1 (.int .i64 0) 1 8 Tryz.underlying31 hi1 hy0 hy1 hy2 rfl (by decide) (.slice Ae j ce) j (nums en) rfl (owns_below HD6.out (mb_new w6 (.cells #[.int .i64 ((fl.length + one.length : Nat) : Int)] 3))) ⟨w6.heap.size, 0, none⟩ 1 1 [.int .i64 ((fl.length + one.length : Nat) : Int)] rfl rfl (num_news w6 3 ((fl.length + one.length : Nat) : Int)) (num_one _) (by unfold maxLen; omega) (by omega) (by have := HB6.out.size; simp; omega) ?_; intro v7 w7 hown7 hgrow7 hnil7; have HD7 := Lib.hid hown7; have HO7 := Lib.hid (owns_other (HO6.out.later (mb_new w6 (.cells #[.int .i64 ((fl.length + one.length : Nat) : Int)] 3))) (owns_below HD6.out (mb_new w6 (.cells #[.int .i64 ((fl.length + one.length : Nat) : Int)] 3))) ne_types.symm hgrow7); have HB7 := Lib.hid (below_app6 (HB6.out.alloc HB6.out.size _) (Nat.le_refl _) (owns_below HD6.out (mb_new w6 (.cells #[.int .i64 ((fl.length + one.length : Nat) : Int)] 3))) hgrow7); clear hown7 hgrow7 hnil7))
          go_roundw
          case rel =>
            refine ⟨j + 1, by omega, by go_num, HE2.out, ?_, ?_, HB7.out⟩
            · show OBn _ _ _ _ _ _
              rw [HS1.out, List.length_append]
              exact HO7.out
            · show World.ownsRow _ _ _ _ _ _ _
              rw [HS2.out, nums_snoc]
              exact HD7.out
          case measure => simp [intOf]; omega
        · have hst := Ar.layE_stop HE.out htk hE
          have hbad : Ar.Err ms = (⟨p, l, k, m, u, g, t, xs⟩ : Ar.Mem).may := HEE.out.trans hst
          have hB := Lib.hid (Ar.bytes_bad (q := q) (ms := ms) (by rw [hbad]; exact hE))
          have hD := Lib.hid (Ar.endsL_bad (q := q) (ms := ms) (by rw [hbad]; exact hE))
          have HBAD := Lib.hid hbad
          clear hms hjl hrb hxl eM eL htk hst1 hst2 hnc hcm hp hlk hnn hst hbad hk0 hk1
          clear h0
          generalize (⟨p, l, k, m, u, g, t, xs⟩ : Ar.Mem).may = E at *
          have hE' : (E != 0) = true := by simpa using hE
          have HON := Lib.hid ON; clear ON
          have BX1 := Lib.hid (Below.refl wr.heap.size wr)
          have HB1 := Lib.hid (hb.trans (BX1.out.mono hb.size))
          go_wp2_with (go_at_call 30; (with_reducible refine (HON.out _ BX1.out).mono ?_); rintro e w2 ⟨v2, rfl, ho2, hb2⟩; have HB2 := Lib.hid (HB1.out.trans (hb2.mono HB1.out.size)); clear ho2 hb2)
          refine bodyPost_ret (v := .tuple #[.slice none 0 0, .slice none 0 0, .int .i64 E]) (by simp [results, Tryz.f11, go_sem]) rfl ?_
          rw [HBAD.out, hB.out, hD.out]
          exact ⟨_, _, rfl, OB.nil _ _ _, World.ownsRow_nil _ _ _ _, HB2.out⟩
      · obtain rfl : j = nl := by omega
        have hfl := Ar.flat_len hq (ms.take j)
        have hfl2 : (ms.take j).length ≤ 64 := by rw [List.length_take]; omega
        have htk : ms.take j = ms := List.take_of_length_le (by have := HML.out; omega)
        rw [htk] at HE HO HD hfl hfl2
        have HERR := Lib.hid (HEE.out.trans HE.out)
        have hB := Lib.hid (Ar.bytes_ok (q := q) HERR.out)
        have hD := Lib.hid (Ar.endsL_ok (q := q) HERR.out)
        have HEL := Lib.hid ((Ar.ends_len q 0 ms).trans HML.out)
        clear htk
        generalize Ar.flat q ms = fl at *
        generalize Ar.ends q 0 ms = en at *
        obtain ⟨Af, cf, rfl, hrf, hcf⟩ := HO.out.slice
        clear hrf
        obtain ⟨Ae, ce, rfl, hce⟩ := owns_slice HD.out
        have hlt' : ¬ (j : Int) < j := by omega
        go_wp2_with (at_builtin; obtain ⟨v6, w6, hrun, hown, hgrow⟩ := run_append_zeros7 (P := Tryz.prog) w.heap.size 25 3 25 5 i0 .i64 .i64 Tryz.underlying25 Tryz.underlying3 hi hz0 hz1 hz2 _ fl.length fl HO.out 1024 (by omega) (by omega) hb.size; have HO6 := Lib.hid hown; have HD6 := Lib.hid (owns_other HD.out HO.out ne_types hgrow); have HB6 := Lib.hid (below_app6 hb (Nat.le_refl _) HO.out hgrow); refine Lib.wpList_append_run _ rfl _ _ 25 3 rfl _ _ rfl rfl _ _ hrun ?_; clear hrun hown hgrow)
        refine bodyPost_ret (v := .tuple #[v6, .slice Ae j ce, .int .i64 0]) (by simp [results, Tryz.f11, go_sem]) rfl ?_
        rw [HERR.out, hB.out, hD.out, HEL.out]
        exact ⟨_, _, rfl, HO6.out.ob, HD6.out, HB6.out⟩
theorem aLay_any9 (q : ByteArray → Nat) (hq : ∀ p, Sf.IsCut p (q p)) (B : Option Addr) (nl cl : Nat) (its : List It) (w : World) (tb : Tab w) (hl : ML w w.heap.size B nl its) (hn : nl ≤ 100000) (hs : ∀ x ∈ its, x.p.size ≤ 1000 ∧ x.l.size ≤ 1000 ∧ x.n ≤ 100000) :
    Calls Tryz.prog 9 #[.slice B nl cl] w fun e w' => ∃ v, e = .returned (.tuple #[v, .int .i64 (Ar.Err (its.map It.mem))]) ∧ OB w' w.heap.size 5 v (Ar.bytes q (its.map It.mem)) ∧ Below w.heap.size w w' := by
  have LAY := Lib.hid (alay_any9 q hq B nl cl its w tb hl hn hs)
  generalize Ar.Err (its.map It.mem) = E at *
  clear hl hs hn
  go_enter Tryz.func9, Tryz.ntmps9
  go_wp2_with (go_at_call 29; (with_reducible refine LAY.out.mono ?_); rintro e w2 ⟨v2, v3, rfl, ho2, hd2, hb2⟩)
  go_ret2
  exact ⟨_, rfl, ho2, hb2⟩
theorem aLen_any9 (q : ByteArray → Nat) (hq : ∀ p, Sf.IsCut p (q p)) (B : Option Addr) (nl cl : Nat) (its : List It) (w : World) (tb : Tab w) (hl : ML w w.heap.size B nl its) (hn : nl ≤ 100000) (hs : ∀ x ∈ its, x.p.size ≤ 1000 ∧ x.l.size ≤ 1000 ∧ x.n ≤ 100000) :
    Calls Tryz.prog 14 #[.slice B nl cl] w fun e w' => e = .returned (.int .i64 ((Ar.bytes q (its.map It.mem)).length : Int)) ∧ Below w.heap.size w w' := by
  have LAY := Lib.hid (alay_any9 q hq B nl cl its w tb hl hn hs)
  generalize Ar.Err (its.map It.mem) = E at *
  generalize Ar.bytes q (its.map It.mem) = Y at *
  clear hl hs hn
  go_enter Tryz.func14, Tryz.ntmps14
  go_wp2_with (go_at_call 29; (with_reducible refine LAY.out.mono ?_); rintro e w2 ⟨v2, v3, rfl, ho2, hd2, hb2⟩; obtain ⟨A2, c2, rfl, _, _, _⟩ := ho2.rb)
  go_ret
  exact ⟨rfl, hb2⟩
theorem aEnds_any9 (q : ByteArray → Nat) (hq : ∀ p, Sf.IsCut p (q p)) (B : Option Addr) (nl cl : Nat) (its : List It) (w : World) (tb : Tab w) (hl : ML w w.heap.size B nl its) (hn : nl ≤ 100000) (hs : ∀ x ∈ its, x.p.size ≤ 1000 ∧ x.l.size ≤ 1000 ∧ x.n ≤ 100000) :
    Calls Tryz.prog 12 #[.slice B nl cl] w fun e w' => ∃ v, e = .returned v ∧ w'.ownsRow w.heap.size 3 1 v (Ar.endsL q (its.map It.mem)).length (nums (Ar.endsL q (its.map It.mem))) ∧ Below w.heap.size w w' := by
  have LAY := Lib.hid (alay_any9 q hq B nl cl its w tb hl hn hs)
  generalize Ar.Err (its.map It.mem) = E at *
  clear hl hs hn
  go_enter Tryz.func12, Tryz.ntmps12
  go_wp2_with (go_at_call 29; (with_reducible refine LAY.out.mono ?_); rintro e w2 ⟨v2, v3, rfl, ho2, hd2, hb2⟩)
  go_ret
  exact ⟨_, rfl, hd2, hb2⟩
end Go.Proofs.YtjofdgjcbjdhbaaGreatDoor
