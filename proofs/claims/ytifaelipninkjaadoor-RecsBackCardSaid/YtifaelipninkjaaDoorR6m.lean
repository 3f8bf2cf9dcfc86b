/- WALKS OF LAYER 6, THIRTEENTH PART: the reference's first. -/
import Derived.Test.YtifaelipninkjaaDoorR6l
import Derived.Deep.RegionLaw
namespace Go.Proofs.YtifaelipninkjaaDoor
open Go Go.RowKit
set_option linter.unusedVariables false
set_option maxHeartbeats 2000000
theorem lead_none {bs : Rc.Bs} (h : Rc.lead bs = 0 ∨ 4 < Rc.lead bs ∨ bs.getD 0 0 = 48 ∨ bs[Rc.lead bs]? ≠ some 32) : Rc.told bs = none := by
  unfold Rc.told
  apply if_neg
  rintro ⟨h1, h2, h3, h4⟩
  rcases h with h | h | h | h
  · omega
  · omega
  · exact h3 h
  · exact h h4
theorem lead_some {bs : Rc.Bs} (h1 : 1 ≤ Rc.lead bs) (h2 : Rc.lead bs ≤ 4) (h3 : bs.getD 0 0 ≠ 48) (h4 : bs[Rc.lead bs]? = some 32) : Rc.told bs = some (Rc.val (bs.take (Rc.lead bs)), Rc.lead bs) := by
  unfold Rc.told
  rw [if_pos ⟨h1, h2, h3, h4⟩]
set_option maxRecDepth 100000 in
theorem reffirst_any (A : Option Addr) (n c : Nat) (bs : Rc.Bs) (w : World) (ha : RB w w.heap.size A n (Rc.ints bs)) (hc : n ≤ c) (hn : n ≤ 10000) :
    Calls Tryd.prog 27 #[.slice A n c] w fun e w' => e = .returned (firstV (Rc.firstL bs)) ∧ Below w.heap.size w w' := by
  have hl : bs.length = n := by have := ha.1; rwa [Rc.ints_len] at this
  have hln := Rc.lead_le bs
  obtain ⟨q, hq⟩ : ∃ q : Nat, q = min (Rc.lead bs) 5 := ⟨_, rfl⟩
  have hqn : q ≤ n := by omega
  have hq5 : q ≤ 5 := by omega
  have hdig : ∀ i, i < q → Rc.isD (bs.getD i 0) = true := fun i hi => Rc.lead_lt (by omega)
  have hend : q = 5 ∨ q = n ∨ Rc.isD (bs.getD q 0) = false := by
    by_cases h : Rc.lead bs < bs.length
    · have := Rc.lead_at h
      by_cases h5 : 5 ≤ Rc.lead bs
      · left; omega
      · right; right; rw [show q = Rc.lead bs by omega]; exact this
    · omega
  have tn : (q = 0 ∨ q = 5 ∨ bs.getD 0 0 = 48 ∨ bs[q]? ≠ some 32) → Rc.told bs = none := fun h => by
    apply lead_none
    by_cases h5 : 5 ≤ Rc.lead bs
    · right; left; omega
    · rw [show q = Rc.lead bs by omega] at h
      rcases h with h | h | h | h
      · exact .inl h
      · omega
      · exact .inr (.inr (.inl h))
      · exact .inr (.inr (.inr h))
  have ts : 1 ≤ q → q ≠ 5 → bs.getD 0 0 ≠ 48 → bs[q]? = some 32 → Rc.told bs = some (Rc.val (bs.take q), q) := fun h1 h2 h3 h4 => by
    have e : q = Rc.lead bs := by omega
    rw [e] at h4 ⊢
    exact lead_some (by omega) (by omega) h3 h4
  have hval : ∀ j, j ≤ q → Rc.val (bs.take j) < 100000 := fun j hj => by
    have := val_lt _ (digs_mem (b := bs) (j := j) (by omega) (fun i hi => hdig i (by omega)))
    rw [show (bs.take j).length = j by rw [List.length_take]; omega] at this
    exact Nat.lt_of_lt_of_le this (Nat.le_trans (Nat.pow_le_pow_right (by omega) (show j ≤ 5 by omega)) (by decide))
  have TN := Lib.hid tn; have TS := Lib.hid ts; have HD := Lib.hid hdig; have HE := Lib.hid hend; have HV := Lib.hid hval
  clear tn ts hdig hend hq hln hval
  have UN := Lib.hid fun W (hb : Below (w.alloc (.cells #[.string ⟨#[]⟩, .string ⟨#[]⟩] 37)).heap.size (w.alloc (.cells #[.string ⟨#[]⟩, .string ⟨#[]⟩] 37)) W) => unbox hb
  have hw : Below w.heap.size w (w.alloc (.cells #[.string ⟨#[]⟩, .string ⟨#[]⟩] 37)) := (Below.refl _ _).alloc (Nat.le_refl _) _
  have ha1 := ha.below hw
  go_enter Tryd.func27, Tryd.ntmps27
  go_upto_block 0 with fail
  go_cut [5, 6] (fun L k wx => L = .int .i64 (Rc.val (bs.take q)) ∧ k = .int .i64 q ∧ (w.alloc (.cells #[.string ⟨#[]⟩, .string ⟨#[]⟩] 37)) = wx)
  case first =>
    go_wp2_with fail
    go_loop [5, 6] (fun L k => ∃ j : Nat, j ≤ q ∧ L = .int .i64 (Rc.val (bs.take j)) ∧ k = .int .i64 j) (fun _ k => n - (intOf k).toNat)
    case atStart => exact ⟨0, by omega, rfl, rfl⟩
    case round =>
      obtain ⟨j, hj, rfl, rfl⟩ := hrel
      by_cases hlt : j < q
      · have hd := HD.out j hlt
        obtain ⟨b, o, rfl, hbl, hcell⟩ := ha1.at_ (show j < n by omega)
        rw [Rc.ints_getD] at hcell
        have HVV := Lib.hid (take_val (b := bs) (j := j) (by omega))
        have hv5 := HV.out j hj
        obtain ⟨h48, h57⟩ := Rc.isD_iff.1 hd
        clear hd
        generalize bs.getD j 0 = x at *
        generalize hxn : x.toNat = y at *
        clear hxn
        generalize Rc.val (bs.take j) = L at *
        have g1 : (j : Int) < n := by omega
        have g2 : (j : Int) < 5 := by omega
        have g3 : (48 : Int) ≤ y := by omega
        have g4 : (y : Int) ≤ 57 := by omega
        have w1 : IntKind.u8.wrap ((y : Int) - 48) = (y : Int) - 48 := by rw [IntKind.wrap_u8]; omega
        have w2 : IntKind.i64.wrap (10 * (L : Int)) = 10 * (L : Int) := IntWalk.i64_in _ (by omega)
        have w3 : IntKind.i64.wrap (10 * (L : Int) + ((y : Int) - 48)) = 10 * (L : Int) + ((y : Int) - 48) := IntWalk.i64_in _ (by omega)
        go_wp2
        go_round
        case rel => exact ⟨j + 1, by omega, by rw [HVV.out]; congr 1; omega, by go_num⟩
        case measure => simp [intOf]; omega
      · obtain rfl : j = q := by omega
        by_cases hn1 : j = n
        · have g1 : ¬ (j : Int) < n := by omega
          clear hlt
          go_wp2
          go_meet
          exact ⟨by rw [hn1], by rw [hn1], rfl⟩
        · have g1 : (j : Int) < n := by omega
          by_cases h5 : j = 5
          · have g2 : ¬ (j : Int) < 5 := by omega
            clear hlt
            go_wp2
            go_meet
            exact ⟨by rw [h5], by rw [h5]; rfl, rfl⟩
          · have g2 : (j : Int) < 5 := by omega
            have hnd : Rc.isD (bs.getD j 0) = false := by
              rcases HE.out with h | h | h
              · exact absurd h h5
              · exact absurd h hn1
              · exact h
            obtain ⟨b, o, rfl, hbl, hcell⟩ := ha1.at_ (show j < n by omega)
            rw [Rc.ints_getD] at hcell
            have hdd : ¬ (48 ≤ (bs.getD j 0).toNat ∧ (bs.getD j 0).toNat ≤ 57) := fun h => by rw [Rc.isD_iff.2 h] at hnd; cases hnd
            generalize (bs.getD j 0).toNat = y at *
            clear hlt hnd
            by_cases h48 : 48 ≤ y
            · have g3 : (48 : Int) ≤ y := by omega
              have g4 : ¬ (y : Int) ≤ 57 := by omega
              clear hdd
              go_wp2
              go_meet
              exact ⟨rfl, rfl, rfl⟩
            · have g3 : ¬ (48 : Int) ≤ y := by omega
              clear hdd
              go_wp2
              go_meet
              exact ⟨rfl, rfl, rfl⟩
  case rest =>
    obtain ⟨rfl, rfl, rfl⟩ := hcut
    have hv := HV.out q (Nat.le_refl _)
    have f0 : (w.alloc (.cells #[.string ⟨#[]⟩, .string ⟨#[]⟩] 37)).frozen? ⟨w.heap.size, 0, none⟩ = false := (BX.new w _ _).free 0
    have f1 : (w.alloc (.cells #[.string ⟨#[]⟩, .string ⟨#[]⟩] 37)).frozen? ⟨w.heap.size, 1, none⟩ = false := (BX.new w _ _).free 1
    have c0 : (w.alloc (.cells #[.string ⟨#[]⟩, .string ⟨#[]⟩] 37)).cell? ⟨w.heap.size, 0, none⟩ = some (.string ⟨#[]⟩) := (BX.new w _ _).cell rfl
    have c1 : (w.alloc (.cells #[.string ⟨#[]⟩, .string ⟨#[]⟩] 37)).cell? ⟨w.heap.size, 1, none⟩ = some (.string ⟨#[]⟩) := (BX.new w _ _).cell rfl
    clear HV HE HD
    by_cases k0 : q = 0
    · have E := Lib.hid (first_none (TN.out (.inl k0)))
      have g : (q : Int) < 1 := by omega
      go_wp2
      refine bodyPost_ret (v := .tuple #[.agg #[.string ⟨#[]⟩, .string ⟨#[]⟩], .int .i64 0, .int .i64 3]) (by simp [results, Tryd.f27, go_sem, *]) rfl ?_
      rw [E.out]
      exact ⟨rfl, hw⟩
    have g0 : ¬ (q : Int) < 1 := by omega
    by_cases k5 : q = 5
    · have E := Lib.hid (first_none (TN.out (.inr (.inl k5))))
      have g : (4 : Int) < q := by omega
      go_wp2
      refine bodyPost_ret (v := .tuple #[.agg #[.string ⟨#[]⟩, .string ⟨#[]⟩], .int .i64 0, .int .i64 3]) (by simp [results, Tryd.f27, go_sem, *]) rfl ?_
      rw [E.out]
      exact ⟨rfl, hw⟩
    have g5 : ¬ (4 : Int) < q := by omega
    obtain ⟨b, o, rfl, hbl, hc0⟩ := ha1.at0 (show 0 < n by omega)
    rw [Rc.ints_getD] at hc0
    by_cases k48 : bs.getD 0 0 = 48
    · have E := Lib.hid (first_none (TN.out (.inr (.inr (.inl k48)))))
      rw [k48] at hc0
      clear k48
      go_wp2
      refine bodyPost_ret (v := .tuple #[.agg #[.string ⟨#[]⟩, .string ⟨#[]⟩], .int .i64 0, .int .i64 3]) (by simp [results, Tryd.f27, go_sem, *]) rfl ?_
      rw [E.out]
      exact ⟨rfl, hw⟩
    have g48 : (((bs.getD 0 0).toNat : Int) == 48) = false := by
      rw [beq_eq_false_iff_ne]
      intro e
      exact k48 (UInt8.toNat_inj.1 (by show (bs.getD 0 0).toNat = 48; omega))
    by_cases kn : q = n
    · have E := Lib.hid (first_none (TN.out (.inr (.inr (.inr (by rw [Ne, get_some]; omega))))))
      have g : ((q : Int) == (n : Int)) = true := by simp [kn]
      clear k48
      generalize (bs.getD 0 0).toNat = z at *
      subst kn
      go_wp2
      refine bodyPost_ret (v := .tuple #[.agg #[.string ⟨#[]⟩, .string ⟨#[]⟩], .int .i64 0, .int .i64 3]) (by simp [results, Tryd.f27, go_sem, *]) rfl ?_
      rw [E.out]
      exact ⟨rfl, hw⟩
    have gn : ((q : Int) == (n : Int)) = false := by simp; omega
    obtain ⟨b', o', hA', _, hcq⟩ := ha1.at_ (show q < n by omega)
    obtain ⟨rfl, rfl⟩ : b = b' ∧ o = o' := by cases hA'; exact ⟨rfl, rfl⟩
    clear hA'
    rw [Rc.ints_getD] at hcq
    by_cases k32 : bs.getD q 0 = 32
    · have hT := TS.out (by omega) k5 k48 (get_some.2 ⟨by omega, k32⟩)
      rw [k32] at hcq
      have E := Lib.hid (first_some hT)
      clear hT TN TS k48 k32
      generalize (bs.getD 0 0).toNat = z at *
      generalize Rc.val (bs.take q) = L at *
      by_cases h1 : n < L
      · have h1' : (n : Int) < L := by omega
        have E2 := Lib.hid (firstB_long (bs := bs) (L := L) (d := q) (by omega))
        go_wp2
        refine bodyPost_ret (v := .tuple #[.agg #[.string ⟨#[]⟩, .string ⟨#[]⟩], .int .i64 0, .int .i64 4]) (by simp [results, Tryd.f27, go_sem, *]) rfl ?_
        rw [E.out, E2.out]
        exact ⟨rfl, hw⟩
      have h1' : ¬ (n : Int) < L := by omega
      have w2 : IntKind.i64.wrap ((q : Int) + 2) = (q : Int) + 2 := IntWalk.i64_in _ (by omega)
      have w1' : IntKind.i64.wrap ((q : Int) + 1) = (q : Int) + 1 := IntWalk.i64_in _ (by omega)
      by_cases h2 : L < q + 2
      · have h2' : (L : Int) < (q : Int) + 2 := by omega
        have E2 := Lib.hid (firstB_short (bs := bs) (L := L) (d := q) (by omega) h2)
        go_wp2
        refine bodyPost_ret (v := .tuple #[.agg #[.string ⟨#[]⟩, .string ⟨#[]⟩], .int .i64 0, .int .i64 3]) (by simp [results, Tryd.f27, go_sem, *]) rfl ?_
        rw [E.out, E2.out]
        exact ⟨rfl, hw⟩
      have h2' : ¬ (L : Int) < (q : Int) + 2 := by omega
      obtain ⟨b', o', hA', _, hcl⟩ := ha1.at_ (show L - 1 < n by omega)
      obtain ⟨rfl, rfl⟩ : b = b' ∧ o = o' := by cases hA'; exact ⟨rfl, rfl⟩
      clear hA'
      rw [Rc.ints_getD] at hcl
      have v1 : IntKind.i64.wrap ((L : Int) - 1) = (L : Int) - 1 := IntWalk.i64_in _ (by omega)
      have v2 : ((L : Int) - 1).toNat = L - 1 := by omega
      have v3 : (0 : Int) ≤ (L : Int) - 1 := by omega
      have v4 : (L : Int) - 1 < n := by omega
      by_cases h3 : bs.getD (L - 1) 0 = 10
      · rw [h3] at hcl
        have E3 := Lib.hid (fun h4 => firstB_cut (bs := bs) (L := L) (d := q) (by omega) h2 h3 h4)
        have E4 := Lib.hid (fun r h4 => firstB_rec (bs := bs) (L := L) (d := q) (r := r) (by omega) h2 h3 h4)
        have g1 : ¬ c = q + 1 := by omega
        have g2 : q + 1 ≤ L - 1 := by omega
        have g3 : L - 1 ≤ c := by omega
        have g4 : ((q : Int) + 1).toNat = q + 1 := by omega
        have g5' : (0 : Int) ≤ (q : Int) + 1 := by omega
        have g6 : (q : Int) + 1 ≤ (L : Int) - 1 := by omega
        have g7 : (L : Int) - 1 ≤ c := by omega
        have hrb := rb_front (ha1.cutAt (k := q + 1) (by omega) hc (by omega)) (k := L - 1 - (q + 1)) (by omega)
        rw [if_neg g1, ← Rc.ints_drop, ← Rc.ints_take, ← List.drop_take] at hrb
        have cv := hrb.conv (c - (q + 1))
        rw [Rc.strOf_ints] at cv
        have hml : ((bs.take (L - 1)).drop (q + 1)).length ≤ 10000 := by simp; omega
        generalize (bs.take (L - 1)).drop (q + 1) = mid at *
        generalize Rc.firstB bs L q = out at *
        have hsz : (Rc.S mid).size = mid.length := Rc.size_S mid
        have hdat : (Rc.S mid).data.toList = mid := Rc.data_S mid
        rw [← hdat] at E3 E4
        obtain ⟨i0, hi0⟩ : ∃ i0 : Nat, i0 = (Rc.S mid).data.toList.findIdx (· == 61) := ⟨_, rfl⟩
        have hlo : ∀ j (hj : j < (Rc.S mid).size), j < i0 → (((Rc.S mid)[j].toNat : Int) == 61) = false := fun j hj hji => by
          have := List.not_of_lt_findIdx (p := (· == (61 : UInt8))) (xs := (Rc.S mid).data.toList) (by rw [← hi0]; exact hji)
          rw [(byte_eqs _).1]
          exact this
        have hat : ∀ hj : i0 < (Rc.S mid).size, (((Rc.S mid)[i0].toNat : Int) == 61) = true := fun hj => by
          subst hi0
          have := List.findIdx_getElem (p := (· == (61 : UInt8))) (xs := (Rc.S mid).data.toList) (w := hj)
          rw [(byte_eqs _).1]
          exact this
        have hcut : ∀ hj : i0 < (Rc.S mid).size, Rc.cutS (Rc.S mid).data.toList = some ((Rc.S mid).extract 0 i0, (Rc.S mid).extract (i0 + 1) (Rc.S mid).size) := fun hj => by
          have h := cutV6_hit hi0.symm hj
          unfold cutV6 at h
          split at h
          · rename_i r hr
            rw [hr]
            obtain ⟨r1, r2⟩ := r
            simp at h
            rw [h.1, h.2]
          · simp at h
        have hmiss : ¬ i0 < (Rc.S mid).size → Rc.cutS (Rc.S mid).data.toList = none := fun h => by
          unfold Rc.cutS; rw [if_neg (by rw [← hi0]; exact h)]
        have hile : i0 ≤ (Rc.S mid).size := by rw [hi0]; exact List.findIdx_le_length
        have LO := Lib.hid hlo; have AT := Lib.hid hat; have CT := Lib.hid hcut; have MI := Lib.hid hmiss
        clear hrb h2 h3 hlo hat hcut hmiss hi0 hdat
        generalize Rc.S mid = sb at *
        have hsb : sb.size ≤ 10000 := by omega
        clear hsz hml
        go_wp2
        go_loop [8] (fun i => ∃ j : Nat, j ≤ i0 ∧ i = .int .i64 j) (fun i => sb.size - (intOf i).toNat)
        case atStart => exact ⟨0, by omega, rfl⟩
        case round =>
          obtain ⟨j, hj, rfl⟩ := hrel
          by_cases hlt : j < i0
          · have hjs : j < sb.size := by omega
            have hjs' : (j : Int) < sb.size := by omega
            have g61 := LO.out j hjs hlt
            go_wp2
            go_round
            case rel => exact ⟨j + 1, by omega, by go_num⟩
            case measure => simp [intOf]; omega
          · obtain rfl : j = i0 := by omega
            by_cases hjs : j < sb.size
            · have hjs' : (j : Int) < sb.size := by omega
              have g61 := AT.out hjs
              have hc4 := E4.out _ (CT.out hjs)
              have z1 : IntKind.i64.wrap ((j : Int) + 1) = (j : Int) + 1 := IntWalk.i64_in _ (by omega)
              have z2 : ((j : Int) + 1).toNat = j + 1 := by omega
              have z3 : (0 : Int) ≤ (j : Int) + 1 := by omega
              have z4 : j + 1 ≤ sb.size := by omega
              have z5 : (j : Int) ≤ sb.size := by omega
              have z6 : (0 : Int) ≤ (j : Int) := by omega
              have z8 : j ≤ sb.size := by omega
              have z9 : (j : Int) + 1 ≤ sb.size := by omega
              have y1 : (sb.extract 0 j).size ≤ 10000 := by rw [ByteArray.size_extract]; omega
              have y2 : (sb.extract (j + 1) sb.size).size ≤ 10000 := by rw [ByteArray.size_extract]; omega
              have ON := Lib.hid fun W => refone6_any (sb.extract 0 j) (sb.extract (j + 1) sb.size) W y1 y2
              have hol := Rc.one_len (sb.extract 0 j, sb.extract (j + 1) sb.size)
              have C4 := Lib.hid hc4
              clear hc4 hlt
              go_wp2
              go_region_law (fail)
              obtain ⟨W2, hW2⟩ : ∃ W2, W2 = ((w.alloc (.cells #[.string ⟨#[]⟩, .string ⟨#[]⟩] 37)).alloc (.cells #[.string (sb.extract 0 j), .string (sb.extract (j + 1) sb.size)] 37)).drew := ⟨_, rfl⟩
              rw [← hW2]
              have hb2 : Below (w.alloc (.cells #[.string ⟨#[]⟩, .string ⟨#[]⟩] 37)).heap.size (w.alloc (.cells #[.string ⟨#[]⟩, .string ⟨#[]⟩] 37)) W2 := by rw [hW2]; exact ((Below.refl _ _).alloc (Nat.le_refl _) _).drew
              have bx : BX W2 (w.heap.size + 1) 37 #[.string (sb.extract 0 j), .string (sb.extract (j + 1) sb.size)] := by
                have h := (BX.new (w.alloc (.cells #[.string ⟨#[]⟩, .string ⟨#[]⟩] 37)) 37 #[.string (sb.extract 0 j), .string (sb.extract (j + 1) sb.size)]).drew
                rw [show (w.alloc (.cells #[.string ⟨#[]⟩, .string ⟨#[]⟩] 37)).heap.size = w.heap.size + 1 by simp, ← hW2] at h
                exact h
              have x0 := bx.cell (j := 0) rfl
              have x1 := bx.cell (j := 1) rfl
              have fx : ∀ W, Below (w.alloc (.cells #[.string ⟨#[]⟩, .string ⟨#[]⟩] 37)).heap.size (w.alloc (.cells #[.string ⟨#[]⟩, .string ⟨#[]⟩] 37)) W → Below W2.heap.size W2 W → W.cell? ⟨w.heap.size + 1, 0, none⟩ = some (.string (sb.extract 0 j)) ∧ W.cell? ⟨w.heap.size + 1, 1, none⟩ = some (.string (sb.extract (j + 1) sb.size)) ∧ W.cell? ⟨w.heap.size, 0, none⟩ = some (.string ⟨#[]⟩) ∧ W.cell? ⟨w.heap.size, 1, none⟩ = some (.string ⟨#[]⟩) ∧ W.frozen? ⟨w.heap.size, 0, none⟩ = false ∧ W.frozen? ⟨w.heap.size, 1, none⟩ = false := fun W h1 h2 =>
                ⟨(bx.later h2).cell rfl, (bx.later h2).cell rfl, (box0 h1).1, (box0 h1).2.1, (box0 h1).2.2.1, (box0 h1).2.2.2⟩
              have FX := Lib.hid fx
              have BXX := Lib.hid bx
              clear hW2 bx fx f0 f1 c0 c1
              have hlr : Rc.mayN (sb.extract 0 j, sb.extract (j + 1) sb.size) ≠ 0 → Rc.lenR (sb.extract 0 j, sb.extract (j + 1) sb.size) = 0 := fun h => by unfold Rc.lenR; rw [if_neg h]
              generalize Rc.oneL (sb.extract 0 j, sb.extract (j + 1) sb.size) = one at *
              generalize Rc.lenR (sb.extract 0 j, sb.extract (j + 1) sb.size) = z at *
              generalize Rc.mayN (sb.extract 0 j, sb.extract (j + 1) sb.size) = m at *
              generalize sb.extract 0 j = rk at *
              generalize sb.extract (j + 1) sb.size = rv at *
              by_cases hm : m = 0
              · subst hm
                clear hlr
                by_cases hz : z = L
                · have hzz : ((one.length : Int) != (L : Int)) = false := by simp; omega
                  have C5 := C4.out
                  rw [if_pos hz] at C5
                  have C5 := Lib.hid C5
                  subst hz
                  clear C4
                  go_wp2_with (first | (go_at_call 14; (with_reducible refine (ON.out _).mono ?_); rintro e w5 ⟨u, rfl, ⟨A1, d1, rfl, hrb, _, _⟩, hb5⟩; obtain ⟨p0, p1, p2, p3, p4, p5⟩ := FX.out _ (bthen hb2 hb5) hb5))
                  refine bodyPost_ret (v := .tuple #[.agg #[.string rk, .string rv], .int .i64 z, .int .i64 0]) (by simp [results, Tryd.f27, go_sem, *]) rfl ?_
                  rw [E.out, C5.out]
                  exact ⟨rfl, ((UN.out _ (bthen hb2 hb5)).setCell (Nat.le_refl _) _).setCell (Nat.le_refl _) _⟩
                · have hzz : ((one.length : Int) != (L : Int)) = true := by simp; omega
                  have C5 := C4.out
                  rw [if_neg hz] at C5
                  have C5 := Lib.hid C5
                  clear C4 hz
                  go_wp2_with (first | (go_at_call 14; (with_reducible refine (ON.out _).mono ?_); rintro e w5 ⟨u, rfl, ⟨A1, d1, rfl, hrb, _, _⟩, hb5⟩; obtain ⟨p0, p1, p2, p3, p4, p5⟩ := FX.out _ (bthen hb2 hb5) hb5))
                  refine bodyPost_ret (v := .tuple #[.agg #[.string ⟨#[]⟩, .string ⟨#[]⟩], .int .i64 0, .int .i64 3]) (by simp [results, Tryd.f27, go_sem, *]) rfl ?_
                  rw [E.out, C5.out]
                  exact ⟨rfl, ((UN.out _ (bthen hb2 hb5)).setCell (Nat.le_refl _) _).setCell (Nat.le_refl _) _⟩
              · have hmm : ((m : Int) != 0) = true := by simp; omega
                have C5 := C4.out
                rw [if_neg (by have := hlr hm; omega)] at C5
                have C5 := Lib.hid C5
                clear C4 hm hlr
                go_wp2_with (first | (go_at_call 14; (with_reducible refine (ON.out _).mono ?_); rintro e w5 ⟨u, rfl, ⟨A1, d1, rfl, hrb, _, _⟩, hb5⟩; obtain ⟨p0, p1, p2, p3, p4, p5⟩ := FX.out _ (bthen hb2 hb5) hb5))
                refine bodyPost_ret (v := .tuple #[.agg #[.string ⟨#[]⟩, .string ⟨#[]⟩], .int .i64 0, .int .i64 3]) (by simp [results, Tryd.f27, go_sem, *]) rfl ?_
                rw [E.out, C5.out]
                exact ⟨rfl, ((UN.out _ (bthen hb2 hb5)).setCell (Nat.le_refl _) _).setCell (Nat.le_refl _) _⟩
            · have hjs' : ¬ (j : Int) < sb.size := by omega
              have E5 := Lib.hid (E3.out (MI.out hjs))
              clear hlt
              go_wp2
              refine bodyPost_ret (v := .tuple #[.agg #[.string ⟨#[]⟩, .string ⟨#[]⟩], .int .i64 0, .int .i64 3]) (by simp [results, Tryd.f27, go_sem, *]) rfl ?_
              rw [E.out, E5.out]
              exact ⟨rfl, hw⟩
      · have E2 := Lib.hid (firstB_end (bs := bs) (L := L) (d := q) (by omega) h2 h3)
        have g10 : (((bs.getD (L - 1) 0).toNat : Int) != 10) = true := by
          simp only [bne_iff_ne, ne_eq]
          intro e
          exact h3 (UInt8.toNat_inj.1 (by show (bs.getD (L - 1) 0).toNat = 10; omega))
        clear h3
        generalize (bs.getD (L - 1) 0).toNat = y at *
        go_wp2
        refine bodyPost_ret (v := .tuple #[.agg #[.string ⟨#[]⟩, .string ⟨#[]⟩], .int .i64 0, .int .i64 3]) (by simp [results, Tryd.f27, go_sem, *]) rfl ?_
        rw [E.out, E2.out]
        exact ⟨rfl, hw⟩
    · have E := Lib.hid (first_none (TN.out (.inr (.inr (.inr (by rw [Ne, get_some]; intro h; exact k32 h.2))))))
      have g32 : (((bs.getD q 0).toNat : Int) != 32) = true := by
        simp only [bne_iff_ne, ne_eq]
        intro e
        exact k32 (UInt8.toNat_inj.1 (by show (bs.getD q 0).toNat = 32; omega))
      clear k48 k32
      generalize (bs.getD 0 0).toNat = z at *
      generalize (bs.getD q 0).toNat = y at *
      go_wp2
      refine bodyPost_ret (v := .tuple #[.agg #[.string ⟨#[]⟩, .string ⟨#[]⟩], .int .i64 0, .int .i64 3]) (by simp [results, Tryd.f27, go_sem, *]) rfl ?_
      rw [E.out]
      exact ⟨rfl, hw⟩
end Go.Proofs.YtifaelipninkjaaDoor
