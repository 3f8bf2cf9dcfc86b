/- WALKS OF LAYER 6, ELEVENTH PART: recs.first. -/
import Derived.Test.YtifaelipninkjaaDoorR6j
namespace Go.Proofs.YtifaelipninkjaaDoor
open Go Go.RowKit
set_option linter.unusedVariables false
set_option maxHeartbeats 2000000
theorem rb_front {w : World} {B n : Nat} {A : Option Addr} {xs : List Int} (h : RB w B A n xs) {k : Nat} (hk : k ≤ n) : RB w B A k (xs.take k) := by
  refine ⟨by rw [List.length_take, h.1]; omega, fun h0 => ?_⟩
  obtain ⟨b, o, e, hb, hc⟩ := h.2 (by omega)
  refine ⟨b, o, e, hb, fun j hj => ?_⟩
  have e : (xs.take k).getD j 0 = xs.getD j 0 := by simp [List.getD, hj]
  rw [hc j (by omega), e]
/-- What 'first' answers. -/
def firstV (r : Rc.Rec × Nat × Nat) : Value := .tuple #[.agg #[.string r.1.1, .string r.1.2], .int .i64 r.2.1, .int .i64 r.2.2]
theorem first_none {bs : Rc.Bs} (h : Rc.told bs = none) : Rc.firstL bs = (Rc.noRec, 0, 3) := by unfold Rc.firstL; rw [h]
theorem first_some {bs : Rc.Bs} {L d : Nat} (h : Rc.told bs = some (L, d)) : Rc.firstL bs = Rc.firstB bs L d := by unfold Rc.firstL; rw [h]
theorem firstB_long {bs : Rc.Bs} {L d : Nat} (h : bs.length < L) : Rc.firstB bs L d = (Rc.noRec, 0, 4) := by unfold Rc.firstB; rw [if_pos h]
theorem firstB_short {bs : Rc.Bs} {L d : Nat} (h : ¬ bs.length < L) (h2 : L < d + 2) : Rc.firstB bs L d = (Rc.noRec, 0, 3) := by unfold Rc.firstB; rw [if_neg h, if_pos h2]
theorem firstB_end {bs : Rc.Bs} {L d : Nat} (h : ¬ bs.length < L) (h2 : ¬ L < d + 2) (h3 : bs.getD (L - 1) 0 ≠ 10) : Rc.firstB bs L d = (Rc.noRec, 0, 3) := by unfold Rc.firstB; rw [if_neg h, if_neg h2, if_pos h3]
theorem firstB_cut {bs : Rc.Bs} {L d : Nat} (h : ¬ bs.length < L) (h2 : ¬ L < d + 2) (h3 : bs.getD (L - 1) 0 = 10) (h4 : Rc.cutS ((bs.take (L - 1)).drop (d + 1)) = none) : Rc.firstB bs L d = (Rc.noRec, 0, 3) := by
  unfold Rc.firstB; rw [if_neg h, if_neg h2, if_neg (by simpa using h3), h4]
theorem firstB_rec {bs : Rc.Bs} {L d : Nat} {r : Rc.Rec} (h : ¬ bs.length < L) (h2 : ¬ L < d + 2) (h3 : bs.getD (L - 1) 0 = 10) (h4 : Rc.cutS ((bs.take (L - 1)).drop (d + 1)) = some r) : Rc.firstB bs L d = if Rc.lenR r = L then (r, L, 0) else (Rc.noRec, 0, 3) := by
  unfold Rc.firstB; rw [if_neg h, if_neg h2, if_neg (by simpa using h3), h4]
theorem mid_snoc {bs : Rc.Bs} {L d : Nat} (h : L ≤ bs.length) (h2 : d + 2 ≤ L) : (bs.drop (d + 1)).take (L - (d + 1)) = (bs.take (L - 1)).drop (d + 1) ++ [bs.getD (L - 1) 0] := by
  apply List.ext_getElem
  · simp; omega
  · intro i h1 h3
    have hi : i < L - (d + 1) := by simp at h1; omega
    rw [List.getElem_take, List.getElem_drop]
    by_cases e : i < L - 1 - (d + 1)
    · rw [List.getElem_append_left (by simp; omega), List.getElem_drop, List.getElem_take]
    · have e2 : i = L - 1 - (d + 1) := by omega
      rw [List.getElem_append_right (by simp; omega)]
      have e3 : d + 1 + i = L - 1 := by omega
      simp [e3, List.getD, show L - 1 < bs.length by omega]
theorem cut_sizes {s : Rc.Bs} {r : Rc.Rec} (h : Rc.cutS s = some r) : r.1.size ≤ s.length ∧ r.2.size ≤ s.length := by
  unfold Rc.cutS at h
  split at h
  · cases h
    rw [Rc.size_S, Rc.size_S, List.length_take, List.length_drop]
    omega
  · cases h
/-- The box of a named result, before it is stored to. -/
theorem box0 {w w' : World} {T : TypeId} (h : Below (w.alloc (.cells #[.string ⟨#[]⟩, .string ⟨#[]⟩] T)).heap.size (w.alloc (.cells #[.string ⟨#[]⟩, .string ⟨#[]⟩] T)) w') :
    w'.cell? ⟨w.heap.size, 0, none⟩ = some (.string ⟨#[]⟩) ∧ w'.cell? ⟨w.heap.size, 1, none⟩ = some (.string ⟨#[]⟩) ∧ w'.frozen? ⟨w.heap.size, 0, none⟩ = false ∧ w'.frozen? ⟨w.heap.size, 1, none⟩ = false :=
  ⟨((BX.new w T _).later h).cell rfl, ((BX.new w T _).later h).cell rfl, ((BX.new w T _).later h).free 0, ((BX.new w T _).later h).free 1⟩
set_option maxRecDepth 100000 in
theorem first_any (A : Option Addr) (n c : Nat) (bs : Rc.Bs) (w : World) (tb : Tab w) (ha : RB w w.heap.size A n (Rc.ints bs)) (hc : n ≤ c) (hn : n ≤ 1000000) :
    Calls Tryd.prog 26 #[.slice A n c] w fun e w' => e = .returned (firstV (Rc.firstL bs)) ∧ Below w.heap.size w w' := by
  have hl : bs.length = n := by have := ha.1; rwa [Rc.ints_len] at this
  have B0 := Lib.hid fun W (hb : Below (w.alloc (.cells #[.string ⟨#[]⟩, .string ⟨#[]⟩] 39)).heap.size (w.alloc (.cells #[.string ⟨#[]⟩, .string ⟨#[]⟩] 39)) W) => box0 hb
  have UN := Lib.hid fun W (hb : Below (w.alloc (.cells #[.string ⟨#[]⟩, .string ⟨#[]⟩] 39)).heap.size (w.alloc (.cells #[.string ⟨#[]⟩, .string ⟨#[]⟩] 39)) W) => unbox hb
  have TO := told_any A n c bs (w.alloc (.cells #[.string ⟨#[]⟩, .string ⟨#[]⟩] 39)) ((ha.alloc (Nat.le_refl _) _).more (by simp)) hc (by omega)
  unfold ToldPost at TO
  have TO := Lib.hid TO
  go_enter Tryd.func26, Tryd.ntmps26
  go_upto_block 0 with (go_at_call 30; (with_reducible refine (TO.out).mono ?_); rintro e w1 ⟨L, d, ok, rfl, hok, hb1⟩; obtain ⟨c0, c1, f0, f1⟩ := B0.out _ hb1)
  have tb1 := tb.on (UN.out _ hb1)
  have hbw := UN.out _ hb1
  have HOK := Lib.hid hok; clear hok TO
  have tb0 := Lib.hid tb; clear tb
  cases ok
  · have E := Lib.hid (first_none (HOK.out.2 rfl))
    clear HOK
    go_wp2
    refine bodyPost_ret (v := .tuple #[.agg #[.string ⟨#[]⟩, .string ⟨#[]⟩], .int .i64 0, .int .i64 3]) (by simp [results, Tryd.f26, go_sem, *]) rfl ?_
    rw [E.out]
    exact ⟨rfl, (hbw.setCell (Nat.le_refl _) _).setCell (Nat.le_refl _) _⟩
  · have ht := HOK.out.1 rfl
    have E := Lib.hid (first_some ht)
    obtain ⟨hd1, hd2, hd3, hd4, hd5, hd6⟩ := Rc.told_inv ht
    have hL : L < 10000 := by
      rw [hd6]
      have := val_lt _ (digs_mem (b := bs) (j := d) (by have := (get_some.1 hd5).1; omega) (fun i hi => Rc.lead_lt (by omega)))
      rw [show (bs.take d).length = d by rw [List.length_take]; have := (get_some.1 hd5).1; omega] at this
      exact Nat.lt_of_lt_of_le this (Nat.le_trans (Nat.pow_le_pow_right (by omega) hd3) (by decide))
    clear ht HOK hd1 hd4 hd5 hd6
    have w2 : IntKind.i64.wrap ((d : Int) + 2) = (d : Int) + 2 := IntWalk.i64_in _ (by omega)
    have w1' : IntKind.i64.wrap ((d : Int) + 1) = (d : Int) + 1 := IntWalk.i64_in _ (by omega)
    by_cases h1 : n < L
    · have h1' : (n : Int) < L := by omega
      have E2 := Lib.hid (firstB_long (bs := bs) (L := L) (d := d) (by omega))
      go_wp2
      refine bodyPost_ret (v := .tuple #[.agg #[.string ⟨#[]⟩, .string ⟨#[]⟩], .int .i64 0, .int .i64 4]) (by simp [results, Tryd.f26, go_sem, *]) rfl ?_
      rw [E.out, E2.out]
      exact ⟨rfl, (hbw.setCell (Nat.le_refl _) _).setCell (Nat.le_refl _) _⟩
    · have h1' : ¬ (n : Int) < L := by omega
      by_cases h2 : L < d + 2
      · have h2' : (L : Int) < (d : Int) + 2 := by omega
        have E2 := Lib.hid (firstB_short (bs := bs) (L := L) (d := d) (by omega) h2)
        go_wp2
        refine bodyPost_ret (v := .tuple #[.agg #[.string ⟨#[]⟩, .string ⟨#[]⟩], .int .i64 0, .int .i64 3]) (by simp [results, Tryd.f26, go_sem, *]) rfl ?_
        rw [E.out, E2.out]
        exact ⟨rfl, (hbw.setCell (Nat.le_refl _) _).setCell (Nat.le_refl _) _⟩
      · have h2' : ¬ (L : Int) < (d : Int) + 2 := by omega
        obtain ⟨b, o, rfl, hbl, _⟩ := ha.at0 (show 0 < n by omega)
        have g1 : ¬ c = d + 1 := by omega
        have g2 : d + 1 ≤ L := by omega
        have g3 : L ≤ c := by omega
        have g4 : ((d : Int) + 1).toNat = d + 1 := by omega
        have g5 : (0 : Int) ≤ (d : Int) + 1 := by omega
        have g6 : (d : Int) + 1 ≤ (L : Int) := by omega
        have hrb := rb_front ((ha.below hbw).cutAt (k := d + 1) (by omega) hc (by omega)) (k := L - (d + 1)) (by omega)
        rw [if_neg g1, ← Rc.ints_drop, ← Rc.ints_take, mid_snoc (by omega) (by omega)] at hrb
        have cv := hrb.conv (c - (d + 1))
        rw [Rc.strOf_ints] at cv
        have hml : ((bs.take (L - 1)).drop (d + 1)).length ≤ 10000 := by simp; omega
        have E3 := Lib.hid (fun h3 => firstB_end (bs := bs) (L := L) (d := d) (by omega) h2 h3)
        have E4 := Lib.hid (fun h3 h4 => firstB_cut (bs := bs) (L := L) (d := d) (by omega) h2 h3 h4)
        have E5 := Lib.hid (fun r h3 h4 => firstB_rec (bs := bs) (L := L) (d := d) (r := r) (by omega) h2 h3 h4)
        have SF := Lib.hid (suffix6_any ((bs.take (L - 1)).drop (d + 1)) (bs.getD (L - 1) 0))
        generalize (bs.take (L - 1)).drop (d + 1) = mid at *
        generalize bs.getD (L - 1) 0 = x at *
        generalize Rc.firstB bs L d = out at *
        clear hrb h2 hl hd2 hd3
        by_cases hx : x = 10
        · subst hx
          rw [if_pos rfl, show ((10 : UInt8) == 10) = true from rfl] at SF
          have CU := fun W => cut6_below (Rc.S mid) W (by rw [Rc.size_S]; omega)
          cases hcs : Rc.cutS mid with
          | none =>
            have hcu : cutV6 (Rc.S mid) = .tuple #[.string (Rc.S mid), .string ⟨#[]⟩, .bool false] := by unfold cutV6; rw [Rc.data_S, hcs]
            rw [hcu] at CU
            have E6 := Lib.hid (E4.out rfl hcs)
            clear hcs hcu E3 E4 E5
            have SF := Lib.hid SF.out; have CU := Lib.hid CU
            generalize Rc.S (mid ++ [10]) = tx at *
            generalize Rc.S mid = ty at *
            go_wp2_with (first | (go_at_call 31; (with_reducible refine (SF.out _ (by omega)).mono ?_); rintro e w3 ⟨rfl, rfl⟩) | (go_at_call 32; (with_reducible refine (CU.out _).mono ?_); rintro e w4 ⟨rfl, hb4⟩; replace hb4 := bthen hb1 hb4; obtain ⟨c0, c1, f0, f1⟩ := B0.out _ (hb4.alloc hb4.size (.cells #[.string ty, .string ⟨#[]⟩] 39))))
            refine bodyPost_ret (v := .tuple #[.agg #[.string ⟨#[]⟩, .string ⟨#[]⟩], .int .i64 0, .int .i64 3]) (by simp [results, Tryd.f26, go_sem, *]) rfl ?_
            rw [E.out, E6.out]
            exact ⟨rfl, ((((UN.out _ hb4).alloc (UN.out _ hb4).size _).setCell (Nat.le_refl _) _).setCell (Nat.le_refl _) _)⟩
          | some r =>
            obtain ⟨rk, rv⟩ := r
            have hcu : cutV6 (Rc.S mid) = .tuple #[.string rk, .string rv, .bool true] := by unfold cutV6; rw [Rc.data_S, hcs]
            rw [hcu] at CU
            have E6 := E5.out _ rfl hcs
            obtain ⟨z1, z2⟩ := cut_sizes hcs
            have LE := Lib.hid fun W (hW : Below w.heap.size w W) => len6_any rk rv W (tb0.out.on hW) (by have : rk.size ≤ mid.length := z1; omega) (by have : rv.size ≤ mid.length := z2; omega)
            clear hcs hcu E3 E4 E5 z1 z2
            have SF := Lib.hid fun W => SF.out W (by omega)
            have CU := Lib.hid CU
            generalize Rc.S (mid ++ [10]) = tx at *
            generalize Rc.S mid = ty at *
            generalize Rc.lenR (rk, rv) = z at *
            by_cases hz : z = L
            · have hz2 : ((z : Int) != (L : Int)) = false := by simp [hz]
              rw [if_pos hz] at E6
              have E6 := Lib.hid E6
              subst hz
              go_wp2_with (first | (go_at_call 31; (with_reducible refine (SF.out _).mono ?_); rintro e w3 ⟨rfl, rfl⟩) | (go_at_call 32; (with_reducible refine (CU.out _).mono ?_); rintro e w4 ⟨rfl, hb4⟩; replace hb4 := bthen hb1 hb4; obtain ⟨c0, c1, f0, f1⟩ := B0.out _ (hb4.alloc hb4.size (.cells #[.string rk, .string rv] 39))) | (go_at_call 18; (with_reducible refine (LE.out _ (UN.out _ (hb4.alloc hb4.size _))).mono ?_); rintro e w5 ⟨rfl, hb5⟩; obtain ⟨q0, q1⟩ := box2 hb5; have hb6 := (hb4.alloc hb4.size (.cells #[.string rk, .string rv] 39)).trans (hb5.mono (by have := hb4.size; simp at this ⊢; omega)); obtain ⟨c2, c3, f2, f3⟩ := B0.out _ hb6))
              refine bodyPost_ret (v := .tuple #[.agg #[.string rk, .string rv], .int .i64 z, .int .i64 0]) (by simp [results, Tryd.f26, go_sem, *]) rfl ?_
              rw [E.out, E6.out]
              exact ⟨rfl, ((UN.out _ hb6).setCell (Nat.le_refl _) _).setCell (Nat.le_refl _) _⟩
            · have hz2 : ((z : Int) != (L : Int)) = true := by simp; omega
              rw [if_neg hz] at E6
              have E6 := Lib.hid E6
              clear hz
              go_wp2_with (first | (go_at_call 31; (with_reducible refine (SF.out _).mono ?_); rintro e w3 ⟨rfl, rfl⟩) | (go_at_call 32; (with_reducible refine (CU.out _).mono ?_); rintro e w4 ⟨rfl, hb4⟩; replace hb4 := bthen hb1 hb4; obtain ⟨c0, c1, f0, f1⟩ := B0.out _ (hb4.alloc hb4.size (.cells #[.string rk, .string rv] 39))) | (go_at_call 18; (with_reducible refine (LE.out _ (UN.out _ (hb4.alloc hb4.size _))).mono ?_); rintro e w5 ⟨rfl, hb5⟩; obtain ⟨q0, q1⟩ := box2 hb5; have hb6 := (hb4.alloc hb4.size (.cells #[.string rk, .string rv] 39)).trans (hb5.mono (by have := hb4.size; simp at this ⊢; omega)); obtain ⟨c2, c3, f2, f3⟩ := B0.out _ hb6))
              refine bodyPost_ret (v := .tuple #[.agg #[.string ⟨#[]⟩, .string ⟨#[]⟩], .int .i64 0, .int .i64 3]) (by simp [results, Tryd.f26, go_sem, *]) rfl ?_
              rw [E.out, E6.out]
              exact ⟨rfl, ((UN.out _ hb6).setCell (Nat.le_refl _) _).setCell (Nat.le_refl _) _⟩
        · have hx2 : (x == 10) = false := by simp [hx]
          rw [if_neg hx, hx2] at SF
          have E6 := Lib.hid (E3.out hx)
          have CU := fun W => cut6_below (Rc.S (mid ++ [x])) W (by rw [Rc.size_S, List.length_append]; simp; omega)
          obtain ⟨kk, vv, pp, hcu⟩ : ∃ kk vv pp, cutV6 (Rc.S (mid ++ [x])) = .tuple #[.string kk, .string vv, .bool pp] := by
            unfold cutV6
            split
            · exact ⟨_, _, _, rfl⟩
            · exact ⟨_, _, _, rfl⟩
          rw [hcu] at CU
          clear hx hx2 hcu E3 E4 E5
          have CU := Lib.hid CU
          generalize Rc.S (mid ++ [x]) = tx at *
          go_wp2_with (first | (go_at_call 31; (with_reducible refine (SF.out _ (by omega)).mono ?_); rintro e w3 ⟨rfl, rfl⟩) | (go_at_call 32; (with_reducible refine (CU.out _).mono ?_); rintro e w4 ⟨rfl, hb4⟩; replace hb4 := bthen hb1 hb4; obtain ⟨c0, c1, f0, f1⟩ := B0.out _ (hb4.alloc hb4.size (.cells #[.string kk, .string vv] 39))))
          refine bodyPost_ret (v := .tuple #[.agg #[.string ⟨#[]⟩, .string ⟨#[]⟩], .int .i64 0, .int .i64 3]) (by simp [results, Tryd.f26, go_sem, *]) rfl ?_
          rw [E.out, E6.out]
          exact ⟨rfl, ((((UN.out _ hb4).alloc (UN.out _ hb4).size _).setCell (Nat.le_refl _) _).setCell (Nat.le_refl _) _)⟩
end Go.Proofs.YtifaelipninkjaaDoor
