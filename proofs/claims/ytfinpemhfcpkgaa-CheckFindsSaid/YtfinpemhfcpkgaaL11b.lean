/- THE WALK OF THE LAW CheckFinds: it answers true, whatever it is given, and turns nothing that was there. -/
import Derived.Test.YtfinpemhfcpkgaaL11a
namespace Go.Proofs.Ytfinpemhfcpkgaa
open Go.RowKit
set_option maxHeartbeats 1600000
set_option maxRecDepth 100000
set_option linter.unusedVariables false
theorem xor_u8 {y b : Int} (h0 : 0 ≤ y ∧ y ≤ 255) (h1 : 0 ≤ b ∧ b ≤ 255) : bits .xor .u8 y b = ((y.toNat ^^^ b.toNat : Nat) : Int) := u8_xor y b h0.1 (by omega) h1.1 (by omega)
theorem checkFinds_any (A : Option Addr) (n c : Nat) (xs : List Int) (at_ b0 b1 b2 b3 : Int) (w : World) (ha : RB w w.heap.size A n xs) (hy : Byt xs) (hn : n ≤ c) (hc : c ≤ maxLen) (t0 : 0 ≤ at_) (t1 : at_ ≤ 65535)
    (p0 : 0 ≤ b0 ∧ b0 ≤ 255) (p1 : 0 ≤ b1 ∧ b1 ≤ 255) (p2 : 0 ≤ b2 ∧ b2 ≤ 255) (p3 : 0 ≤ b3 ∧ b3 ≤ 255) :
    Calls Try.prog 6 #[.slice A n c, .int .u16 at_, .agg #[.int .u8 b0, .int .u8 b1, .int .u8 b2, .int .u8 b3]] w fun e w' => e = .returned (.bool true) ∧ Below w.heap.size w w' := by
  have al := Lib.hid alive11_any
  have nb : n ≤ 9223372036854775807 := by unfold maxLen at hc; omega
  obtain ⟨W, hW⟩ : ∃ W, w.alloc (.cells #[.int .u8 b0, .int .u8 b1, .int .u8 b2, .int .u8 b3] 40) = W := ⟨_, rfl⟩
  have hb : Below w.heap.size w W := by rw [← hW]; exact (Below.refl _ w).alloc (Nat.le_refl _) _
  have hs : w.heap.size < W.heap.size := by rw [← hW]; simp
  have hrow : W.heap[w.heap.size]? = some (.cells #[.int .u8 b0, .int .u8 b1, .int .u8 b2, .int .u8 b3] 40 (0, 0)) := by rw [← hW]; exact heap_alloc_new _ _
  by_cases h : n ≤ 1000
  · have hxl := ha.1
    have se := Lib.hid (seal_any A n c xs W ((ha.below hb).more hb.size) hy hn hc (by omega))
    have hsb := Ck.sealed_byt hy
    have hsl := Ck.sealed_len xs
    have hBs : Byt [b0, b1, b2, b3] := Byt.cons p0 (Byt.cons p1 (Byt.cons p2 (Byt.cons p3 Byt.nil)))
    have te := fun k (hk : k + 4 ≤ xs.length + 4) => Ck.turned_err (xs := xs) (bs := [b0, b1, b2, b3]) (k := k) hy hBs hk
    rw [hxl] at hsl te
    obtain ⟨a, rfl⟩ : ∃ z : Nat, at_ = (z : Int) := ⟨at_.toNat, by omega⟩
    obtain ⟨p, hp⟩ : ∃ p, n + 1 = p := ⟨_, rfl⟩
    obtain ⟨m, hm⟩ : ∃ m, n + 4 = m := ⟨_, rfl⟩
    obtain ⟨k, hk⟩ : ∃ k, a % p = k := ⟨_, rfl⟩
    have hkp : k < p := by rw [← hk]; exact Nat.mod_lt _ (by omega)
    have tm : (a : Int).tmod (p : Int) = (k : Int) := by rw [← hk]; exact Int.tmod_eq_emod_of_nonneg (by omega)
    have s1 : IntKind.i64.wrap ((n : Int) + 4) = (m : Int) := by rw [IntWalk.i64_in _ (by omega)]; omega
    have s2 : IntKind.i64.wrap ((m : Int) - 3) = (p : Int) := by rw [IntWalk.i64_in _ (by omega)]; omega
    have s3 : IntKind.i64.wrap (a : Int) = (a : Int) := IntWalk.i64_in _ (by omega)
    have s4 : IntKind.i64.wrap (k : Int) = (k : Int) := IntWalk.i64_in _ (by omega)
    have gm : ((m : Int) != (m : Int)) = false := by simp
    have gp : ((p : Int) == 0) = false := by simp; omega
    have gp2 : ¬ (p : Int) = 0 := by omega
    have TE := Lib.hid (te k (by omega))
    have HSB := Lib.hid hsb; have HBS := Lib.hid hBs
    rw [hm] at se hsl
    have HSL := Lib.hid hsl
    have HB := Lib.hid hb; have HROW := Lib.hid hrow; have HS := Lib.hid hs
    have hkm : k + 3 < m := by omega
    have hm1 : m ≤ 1004 := by omega
    have HXL := Lib.hid hxl
    generalize hsx : Ck.sealed xs = sx at *
    have cells : Hid (∀ W2, Below W.heap.size W W2 → W2.cell? ⟨w.heap.size, 0, none⟩ = some (.int .u8 b0) ∧ W2.cell? ⟨w.heap.size, 1, none⟩ = some (.int .u8 b1) ∧ W2.cell? ⟨w.heap.size, 2, none⟩ = some (.int .u8 b2) ∧ W2.cell? ⟨w.heap.size, 3, none⟩ = some (.int .u8 b3)) := fun W2 h2 => by
      refine ⟨?_, ?_, ?_, ?_⟩
      · exact (h2.cell (p := ⟨w.heap.size, 0, none⟩) hs).trans (cell_of_row W w.heap.size 0 _ _ _ hrow)
      · exact (h2.cell (p := ⟨w.heap.size, 1, none⟩) hs).trans (cell_of_row W w.heap.size 1 _ _ _ hrow)
      · exact (h2.cell (p := ⟨w.heap.size, 2, none⟩) hs).trans (cell_of_row W w.heap.size 2 _ _ _ hrow)
      · exact (h2.cell (p := ⟨w.heap.size, 3, none⟩) hs).trans (cell_of_row W w.heap.size 3 _ _ _ hrow)
    have op := Lib.hid (fun (W : World) B d ys (hr : RB W W.heap.size B m ys) (hy : Byt ys) (h1 : m ≤ d) (h2 : d ≤ maxLen) => copen_any B m d ys W hr hy h1 h2 (by omega))
    clear ha hy hc te hk hsx hsb hBs hsl hb hrow hs hxl hp hm
    go_enter Try.func6, Try.ntmps6
    go_wp2_with (first
      | (go_at_call 15; (with_reducible refine se.out.mono ?_); rintro e w1 ⟨v1, rfl, ho1, hb1⟩; obtain ⟨g, c1, cur, rfl, hg1, hg2, _, hc1, hm2, _, _⟩ := ho1.shape (by omega); obtain ⟨y0, y1, y2, y3⟩ := cells.out _ hb1; have HO1 := Lib.hid (OBn.low ho1 (Nat.le_of_lt HS.out)); have HB1 := Lib.hid (bthen' HB.out hb1); have HM2 := Lib.hid hm2; have hgw : w.heap.size ≤ g := (by have := HS.out; omega); clear ho1 hb1 hm2 hg1 hg2))
    go_loopw [9, 33] (fun v i wr => ∃ j : Nat, j ≤ 4 ∧ i = .int .i64 j ∧ v = .bool (Ck.tn [b0, b1, b2, b3] j) ∧ OBn wr w.heap.size 5 (.slice (some ⟨g, 0, none⟩) m c1) m (Ck.tw sx k [b0, b1, b2, b3] j) ∧ Below w.heap.size w wr) (fun _ i _ => 4 - (intOf i).toNat)
    case atStart => exact ⟨0, by omega, rfl, rfl, HO1.out, HB1.out⟩
    case round =>
      obtain ⟨j, hj, rfl, rfl, ho, hb⟩ := hrel
      have HO := Lib.hid ho; have HB2 := Lib.hid hb
      clear ho hb
      rcases (by omega : j = 0 ∨ j = 1 ∨ j = 2 ∨ j = 3 ∨ j = 4) with rfl | rfl | rfl | rfl | rfl
      · rw [show ((0 : Nat) : Int) = 0 from rfl]
        have ix : ∀ W : World, (Instr.index 40 (.agg #[.int .u8 b0, .int .u8 b1, .int .u8 b2, .int .u8 b3]) (.int .i64 0)).run Try.prog W = .ok (.int .u8 b0) W := fun W => by kernel_rfl
        have htm : k < m := by omega
        have hcl := HO.out.cell k htm
        have hf := HO.out.free k
        have hot := Ck.tw_other sx k [b0, b1, b2, b3] 0 k (by omega)
        rw [hot] at hcl
        have hx := xor_u8 (HSB.out k) p0
        have hst := HO.out.stored k (((sx.getD k 0).toNat ^^^ b0.toNat : Nat) : Int)
        have htw : Ck.tw sx k [b0, b1, b2, b3] (0 + 1) = (Ck.tw sx k [b0, b1, b2, b3] 0).set k (((sx.getD k 0).toNat ^^^ b0.toNat : Nat) : Int) := rfl
        rw [← htw] at hst
        have HST := Lib.hid hst
        have hbl : Below w.heap.size w (wr.setCell ⟨g, k, none⟩ (.int .u8 (((sx.getD k 0).toNat ^^^ b0.toNat : Nat) : Int))) := HB2.out.setCell hgw _
        have HBL := Lib.hid hbl
        have htn : Hid (Ck.tn [b0, b1, b2, b3] (0 + 1) = (Ck.tn [b0, b1, b2, b3] 0 || (b0 != 0))) := rfl
        generalize (((sx.getD k 0).toNat ^^^ b0.toNat : Nat) : Int) = z at *
        generalize sx.getD k 0 = y at *
        obtain ⟨r, hr⟩ : ∃ r, Ck.tn [b0, b1, b2, b3] 0 = r := ⟨_, rfl⟩
        rw [hr] at htn ⊢
        clear hot htw hst hbl hr
        cases r
        · go_wp2
          go_roundw
          case rel => exact ⟨0 + 1, by omega, by go_num, by rw [htn.out]; simp, HST.out, HBL.out⟩
          case measure => simp [intOf]
        · go_wp2
          go_roundw
          case rel => exact ⟨0 + 1, by omega, by go_num, by rw [htn.out]; simp, HST.out, HBL.out⟩
          case measure => simp [intOf]
      · rw [show ((1 : Nat) : Int) = 1 from rfl]
        obtain ⟨t, ht⟩ : ∃ t, k + 1 = t := ⟨_, rfl⟩
        have ix : ∀ W : World, (Instr.index 40 (.agg #[.int .u8 b0, .int .u8 b1, .int .u8 b2, .int .u8 b3]) (.int .i64 1)).run Try.prog W = .ok (.int .u8 b1) W := fun W => by kernel_rfl
        have htm : t < m := by omega
        have sI : IntKind.i64.wrap ((k : Int) + 1) = (t : Int) := by rw [IntWalk.i64_in _ (by omega)]; omega
        have hcl := HO.out.cell t htm
        have hf := HO.out.free t
        have hot := Ck.tw_other sx k [b0, b1, b2, b3] 1 t (by omega)
        rw [hot] at hcl
        have hx := xor_u8 (HSB.out t) p1
        have hst := HO.out.stored t (((sx.getD t 0).toNat ^^^ b1.toNat : Nat) : Int)
        have htw : Ck.tw sx k [b0, b1, b2, b3] (1 + 1) = (Ck.tw sx k [b0, b1, b2, b3] 1).set t (((sx.getD t 0).toNat ^^^ b1.toNat : Nat) : Int) := by rw [← ht]; rfl
        rw [← htw] at hst
        have HST := Lib.hid hst
        have hbl : Below w.heap.size w (wr.setCell ⟨g, t, none⟩ (.int .u8 (((sx.getD t 0).toNat ^^^ b1.toNat : Nat) : Int))) := HB2.out.setCell hgw _
        have HBL := Lib.hid hbl
        have htn : Hid (Ck.tn [b0, b1, b2, b3] (1 + 1) = (Ck.tn [b0, b1, b2, b3] 1 || (b1 != 0))) := rfl
        generalize (((sx.getD t 0).toNat ^^^ b1.toNat : Nat) : Int) = z at *
        generalize sx.getD t 0 = y at *
        obtain ⟨r, hr⟩ : ∃ r, Ck.tn [b0, b1, b2, b3] 1 = r := ⟨_, rfl⟩
        rw [hr] at htn ⊢
        clear hot htw hst hbl ht hr
        cases r
        · go_wp2
          go_roundw
          case rel => exact ⟨1 + 1, by omega, by go_num, by rw [htn.out]; simp, HST.out, HBL.out⟩
          case measure => simp [intOf]
        · go_wp2
          go_roundw
          case rel => exact ⟨1 + 1, by omega, by go_num, by rw [htn.out]; simp, HST.out, HBL.out⟩
          case measure => simp [intOf]
      · rw [show ((2 : Nat) : Int) = 2 from rfl]
        obtain ⟨t, ht⟩ : ∃ t, k + 2 = t := ⟨_, rfl⟩
        have ix : ∀ W : World, (Instr.index 40 (.agg #[.int .u8 b0, .int .u8 b1, .int .u8 b2, .int .u8 b3]) (.int .i64 2)).run Try.prog W = .ok (.int .u8 b2) W := fun W => by kernel_rfl
        have htm : t < m := by omega
        have sI : IntKind.i64.wrap ((k : Int) + 2) = (t : Int) := by rw [IntWalk.i64_in _ (by omega)]; omega
        have hcl := HO.out.cell t htm
        have hf := HO.out.free t
        have hot := Ck.tw_other sx k [b0, b1, b2, b3] 2 t (by omega)
        rw [hot] at hcl
        have hx := xor_u8 (HSB.out t) p2
        have hst := HO.out.stored t (((sx.getD t 0).toNat ^^^ b2.toNat : Nat) : Int)
        have htw : Ck.tw sx k [b0, b1, b2, b3] (2 + 1) = (Ck.tw sx k [b0, b1, b2, b3] 2).set t (((sx.getD t 0).toNat ^^^ b2.toNat : Nat) : Int) := by rw [← ht]; rfl
        rw [← htw] at hst
        have HST := Lib.hid hst
        have hbl : Below w.heap.size w (wr.setCell ⟨g, t, none⟩ (.int .u8 (((sx.getD t 0).toNat ^^^ b2.toNat : Nat) : Int))) := HB2.out.setCell hgw _
        have HBL := Lib.hid hbl
        have htn : Hid (Ck.tn [b0, b1, b2, b3] (2 + 1) = (Ck.tn [b0, b1, b2, b3] 2 || (b2 != 0))) := rfl
        generalize (((sx.getD t 0).toNat ^^^ b2.toNat : Nat) : Int) = z at *
        generalize sx.getD t 0 = y at *
        obtain ⟨r, hr⟩ : ∃ r, Ck.tn [b0, b1, b2, b3] 2 = r := ⟨_, rfl⟩
        rw [hr] at htn ⊢
        clear hot htw hst hbl ht hr
        cases r
        · go_wp2
          go_roundw
          case rel => exact ⟨2 + 1, by omega, by go_num, by rw [htn.out]; simp, HST.out, HBL.out⟩
          case measure => simp [intOf]
        · go_wp2
          go_roundw
          case rel => exact ⟨2 + 1, by omega, by go_num, by rw [htn.out]; simp, HST.out, HBL.out⟩
          case measure => simp [intOf]
      · rw [show ((3 : Nat) : Int) = 3 from rfl]
        obtain ⟨t, ht⟩ : ∃ t, k + 3 = t := ⟨_, rfl⟩
        have ix : ∀ W : World, (Instr.index 40 (.agg #[.int .u8 b0, .int .u8 b1, .int .u8 b2, .int .u8 b3]) (.int .i64 3)).run Try.prog W = .ok (.int .u8 b3) W := fun W => by kernel_rfl
        have htm : t < m := by omega
        have sI : IntKind.i64.wrap ((k : Int) + 3) = (t : Int) := by rw [IntWalk.i64_in _ (by omega)]; omega
        have hcl := HO.out.cell t htm
        have hf := HO.out.free t
        have hot := Ck.tw_other sx k [b0, b1, b2, b3] 3 t (by omega)
        rw [hot] at hcl
        have hx := xor_u8 (HSB.out t) p3
        have hst := HO.out.stored t (((sx.getD t 0).toNat ^^^ b3.toNat : Nat) : Int)
        have htw : Ck.tw sx k [b0, b1, b2, b3] (3 + 1) = (Ck.tw sx k [b0, b1, b2, b3] 3).set t (((sx.getD t 0).toNat ^^^ b3.toNat : Nat) : Int) := by rw [← ht]; rfl
        rw [← htw] at hst
        have HST := Lib.hid hst
        have hbl : Below w.heap.size w (wr.setCell ⟨g, t, none⟩ (.int .u8 (((sx.getD t 0).toNat ^^^ b3.toNat : Nat) : Int))) := HB2.out.setCell hgw _
        have HBL := Lib.hid hbl
        have htn : Hid (Ck.tn [b0, b1, b2, b3] (3 + 1) = (Ck.tn [b0, b1, b2, b3] 3 || (b3 != 0))) := rfl
        generalize (((sx.getD t 0).toNat ^^^ b3.toNat : Nat) : Int) = z at *
        generalize sx.getD t 0 = y at *
        obtain ⟨r, hr⟩ : ∃ r, Ck.tn [b0, b1, b2, b3] 3 = r := ⟨_, rfl⟩
        rw [hr] at htn ⊢
        clear hot htw hst hbl ht hr
        cases r
        · go_wp2
          go_roundw
          case rel => exact ⟨3 + 1, by omega, by go_num, by rw [htn.out]; simp, HST.out, HBL.out⟩
          case measure => simp [intOf]
        · go_wp2
          go_roundw
          case rel => exact ⟨3 + 1, by omega, by go_num, by rw [htn.out]; simp, HST.out, HBL.out⟩
          case measure => simp [intOf]
      · obtain ⟨A3, c3, e3, hr3, hc3, hm3⟩ := HO.out.slice
        cases e3
        have o4 := op.out wr _ c1 _ hr3 (Ck.tw_byt HSB.out HBS.out 4) hc1 HM2.out
        rw [TE.out] at o4
        obtain ⟨r, hr⟩ : ∃ r, Ck.tn [b0, b1, b2, b3] 4 = r := ⟨_, rfl⟩
        rw [hr] at o4 ⊢
        cases r
        · rw [if_neg (by decide)] at o4
          have O4 := Lib.hid o4
          clear o4 hr hr3 hc3 hm3
          go_wp2_with (first
            | (go_at_call 12; (with_reducible refine O4.out.mono ?_); rintro e w4 ⟨v4, rfl, ho4, hb4⟩; obtain ⟨A4, c4, rfl, _, _, _⟩ := ho4.rb; have HB4 := Lib.hid (bthen' HB2.out hb4); clear hb4 ho4)
            | (go_at_call 7; (with_reducible refine (al.out _).mono ?_); rintro e w5 ⟨rfl, hb5⟩; have HB5 := Lib.hid (bthen' HB4.out hb5); clear hb5))
          go_ret
          exact ⟨rfl, HB5.out⟩
        · rw [if_pos rfl] at o4
          have O4 := Lib.hid o4
          clear o4 hr hr3 hc3 hm3
          go_wp2_with (first
            | (go_at_call 12; (with_reducible refine O4.out.mono ?_); rintro e w4 ⟨v4, rfl, ho4, hb4⟩; obtain ⟨A4, c4, rfl, _, _, _⟩ := ho4.rb; have HB4 := Lib.hid (bthen' HB2.out hb4); clear hb4 ho4)
            | (go_at_call 7; (with_reducible refine (al.out _).mono ?_); rintro e w5 ⟨rfl, hb5⟩; have HB5 := Lib.hid (bthen' HB4.out hb5); clear hb5))
          go_ret
          exact ⟨rfl, HB5.out⟩
  · have HB := Lib.hid hb
    clear ha hy hc hrow hs hb
    go_enter Try.func6, Try.ntmps6
    go_wp2_with (go_at_call 7; (with_reducible refine (al.out _).mono ?_); rintro e w2 ⟨rfl, hb2⟩)
    go_ret
    exact ⟨rfl, bthen' HB.out hb2⟩
end Go.Proofs.Ytfinpemhfcpkgaa
