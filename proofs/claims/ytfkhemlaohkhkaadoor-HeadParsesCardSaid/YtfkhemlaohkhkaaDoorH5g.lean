/- WALKS OF LAYER 5, SEVENTH PART: the reference's Parse. By gen_h5g.py. -/
import Derived.Test.YtfkhemlaohkhkaaDoorH5e
import Derived.Test.YtfkhemlaohkhkaaDoorM5d
import Derived.Test.YtfkhemlaohkhkaaDoorW4
import Derived.Deep.RegionHeld3
namespace Go.Proofs.YtfkhemlaohkhkaaDoor
open Go.RowKit
set_option maxHeartbeats 60000000
set_option maxRecDepth 100000

theorem below_undrew' {B : Nat} {w w' : World} (h : Below B w.drew w') : Below B w w' := ⟨h.os, h.tape, h.output, h.size, h.block⟩
theorem refhparse_any (A : Option Addr) (n c : Nat) (xs : List Int) (w : World) (ha : RB w w.heap.size A n xs) (hx : Byt xs) (hc : n ≤ c) (hc2 : c ≤ maxLen) :
    Calls Tryd.prog 17 #[.slice A n c] w fun e w' => e = .returned (.tuple #[Hh.parV xs, .int .i64 (Hh.parE xs)]) ∧ Below w.heap.size w w' := by
  have chk := fun W (hW : Below w.heap.size w W) => refcheck_any A n c xs W ((ha.below hW).more hW.size) hx hc hc2
  have start : ∀ w1, Below (w.alloc (.cells #[.string ⟨#[]⟩, .string ⟨#[]⟩, .int .i64 0, .int .i64 0, .int .i64 0, .int .i64 0, .int .i64 0, .int .u8 0, .string ⟨#[]⟩] 25)).heap.size (w.alloc (.cells #[.string ⟨#[]⟩, .string ⟨#[]⟩, .int .i64 0, .int .i64 0, .int .i64 0, .int .i64 0, .int .i64 0, .int .u8 0, .string ⟨#[]⟩] 25)) w1 → Below w.heap.size w w1 ∧ BX w1 w.heap.size 25 #[.string ⟨#[]⟩, .string ⟨#[]⟩, .int .i64 0, .int .i64 0, .int .i64 0, .int .i64 0, .int .i64 0, .int .u8 0, .string ⟨#[]⟩] ∧ w.heap.size < w1.heap.size := fun w1 hb =>
    ⟨((Below.refl _ w).alloc (Nat.le_refl _) _).trans (hb.mono (by simp)), (BX.new w _ _).later hb, by have := hb.size; simp at this; omega⟩
  have START := Lib.hid start; clear start
  by_cases hck : Hs.checkS xs = 0
  · have hn := parE_len xs hck
    rw [ha.1] at hn
    subst hn
    rw [hck] at chk
    have CHK := Lib.hid chk; clear chk
    obtain ⟨b, o, rfl, hbl, _⟩ := ha.at_ (k := 0) (by omega)
    have conv := fun W (hW : Below w.heap.size w W) => (((ha.below hW).back (k := 257) (by omega)).front (k := 8) (by omega)).conv (c - 257)
    have CONV := Lib.hid conv; clear conv
    have f1 : ¬ c = 257 := by omega
    have f2 : 265 ≤ c := by omega
    have f3 : 257 ≤ c := by omega
    by_cases hm : Hh.sub xs 257 8 = Hh.magic
    · have eP := Hh.parE_p xs hck hm
      have eN := Hh.parE_n xs hck hm
      have eL := Hh.parE_l xs hck hm
      have eA := Hh.parE_at xs hck hm
      have eE := Hh.parE_end xs hck hm
      have eB := Hh.parV_bad xs
      have eO := Hh.parV_ok xs
      have conv := CONV.out
      rw [show ((xs.drop 257).take 8) = Hh.magic from hm, show strOfNums Hh.magic = ⟨#[117, 115, 116, 97, 114, 0, 48, 48]⟩ from by decide +kernel] at conv
      have CONV := Lib.hid conv; clear conv
      have q0 : ∀ W, Below w.heap.size w W → Calls Tryd.prog 34 #[.slice (some ⟨b, o + 345, none⟩) 155 (c - 345)] W fun e w' => e = .returned (.tuple #[.string (strOfNums (Sf.getS (Hh.sub xs 345 155)).1), .int .i64 (Sf.getS (Hh.sub xs 345 155)).2]) ∧ W = w' := fun W hW =>
        refget_any2 _ 155 (c - 345) (Hh.sub xs 345 155) W ((((ha.below hW).more hW.size).back (k := 345) (by omega)).front (k := 155) (by omega)) (Hh.byt_sub hx _ _) (by omega)
      have q1 : ∀ W, Below w.heap.size w W → Calls Tryd.prog 34 #[.slice (some ⟨b, o, none⟩) 100 c] W fun e w' => e = .returned (.tuple #[.string (strOfNums (Sf.getS (Hh.sub xs 0 100)).1), .int .i64 (Sf.getS (Hh.sub xs 0 100)).2]) ∧ W = w' := fun W hW =>
        refget_any2 _ 100 c (Hh.sub xs 0 100) W (((ha.below hW).more hW.size).front (k := 100) (by omega)) (Hh.byt_sub hx _ _) (by omega)
      have q2 : ∀ W, Below w.heap.size w W → Calls Tryd.prog 34 #[.slice (some ⟨b, o + 157, none⟩) 100 (c - 157)] W fun e w' => e = .returned (.tuple #[.string (strOfNums (Sf.getS (Hh.sub xs 157 100)).1), .int .i64 (Sf.getS (Hh.sub xs 157 100)).2]) ∧ W = w' := fun W hW =>
        refget_any2 _ 100 (c - 157) (Hh.sub xs 157 100) W ((((ha.below hW).more hW.size).back (k := 157) (by omega)).front (k := 100) (by omega)) (Hh.byt_sub hx _ _) (by omega)
      have q3 : ∀ (j : Nat) (W : World), j < 5 → Below w.heap.size w W → Calls Tryd.prog 35 #[.slice (some ⟨b, o + Hh.frl.getD j 0, none⟩) (Hh.tol.getD j 0 - Hh.frl.getD j 0) (c - Hh.frl.getD j 0)] W fun e w' => e = .returned (.tuple #[.int .i64 (Hh.gld xs j).1, .int .i64 (Hh.gld xs j).2]) ∧ Below W.heap.size W w' := fun j W hj hW => by
        have he := Hh.ends j hj
        exact refget_any _ _ _ (Hh.sub xs (Hh.frl.getD j 0) (Hh.tol.getD j 0 - Hh.frl.getD j 0)) W ((((ha.below hW).more hW.size).back (k := Hh.frl.getD j 0) (by omega)).front (k := Hh.tol.getD j 0 - Hh.frl.getD j 0) (by omega)) (Hh.byt_sub hx _ _) (by omega) (by omega)
      have atB := fun W (hW : Below w.heap.size w W) => (ha.below hW).at_' (k := 156) (by omega)
      have kb := hx 156
      have ist := fun W => refhist_any (Hh.kindOf xs) W
      have bel := fun (p nm l : ByteArray) (m u g t z k : Int) W => refhbel_any p nm l m u g t z k W
      have hkd : Hh.kindOf xs = Hh.rd (xs.getD 156 0) := rfl
      generalize Hh.kindOf xs = K at *
      generalize xs.getD 156 0 = y at *
      generalize Hh.parE xs = PE at *
      generalize Hh.parV xs = PV at *
      generalize strOfNums (Sf.getS (Hh.sub xs 345 155)).1 = a0 at *
      generalize strOfNums (Sf.getS (Hh.sub xs 0 100)).1 = a1 at *
      generalize strOfNums (Sf.getS (Hh.sub xs 157 100)).1 = a2 at *
      generalize (Sf.getS (Hh.sub xs 345 155)).2 = e0 at *
      generalize (Sf.getS (Hh.sub xs 0 100)).2 = e1 at *
      generalize (Sf.getS (Hh.sub xs 157 100)).2 = e2 at *
      have Q0 := Lib.hid q0; have Q1 := Lib.hid q1; have Q2 := Lib.hid q2; have Q3 := Lib.hid q3; have ATB := Lib.hid atB; have IST := Lib.hid ist; have BEL := Lib.hid bel
      have EP := Lib.hid eP; have EN := Lib.hid eN; have EL := Lib.hid eL; have EA := Lib.hid eA; have EE := Lib.hid eE; have EB := Lib.hid eB; have EO := Lib.hid eO
      have f4 : ¬ c = 345 := by omega
      have f5 : 500 ≤ c := by omega
      have f6 : 345 ≤ c := by omega
      have f7 : ¬ c = 157 := by omega
      have f8 : 257 ≤ c := by omega
      have f9 : 157 ≤ c := by omega
      have f10 : 100 ≤ c := by omega
      unfold maxLen at hc2
      clear q0 q1 q2 q3 atB ist bel eP eN eL eA eE eB eO hck hm ha hx hbl kb
      have HKD := Lib.hid hkd; clear hkd
      go_enter Tryd.func17, Tryd.ntmps17
      go_upto_if 31 with (first
        | (go_at_call 33; (with_reducible refine (CHK.out _ ((Below.refl _ _).alloc (Nat.le_refl _) _)).mono ?_); rintro e w1 ⟨rfl, hb1⟩
           obtain ⟨hbw, rX, hlt1⟩ := START.out w1 hb1
           have rc0 : w1.cell? ⟨w.heap.size, 0, none⟩ = some (.string ⟨#[]⟩) := rX.cell rfl
           have rf0 : w1.frozen? ⟨w.heap.size, 0, none⟩ = false := rX.free 0
           have rc1 : w1.cell? ⟨w.heap.size, 1, none⟩ = some (.string ⟨#[]⟩) := rX.cell rfl
           have rf1 : w1.frozen? ⟨w.heap.size, 1, none⟩ = false := rX.free 1
           have rc2 : w1.cell? ⟨w.heap.size, 2, none⟩ = some (.int .i64 0) := rX.cell rfl
           have rf2 : w1.frozen? ⟨w.heap.size, 2, none⟩ = false := rX.free 2
           have rc3 : w1.cell? ⟨w.heap.size, 3, none⟩ = some (.int .i64 0) := rX.cell rfl
           have rf3 : w1.frozen? ⟨w.heap.size, 3, none⟩ = false := rX.free 3
           have rc4 : w1.cell? ⟨w.heap.size, 4, none⟩ = some (.int .i64 0) := rX.cell rfl
           have rf4 : w1.frozen? ⟨w.heap.size, 4, none⟩ = false := rX.free 4
           have rc5 : w1.cell? ⟨w.heap.size, 5, none⟩ = some (.int .i64 0) := rX.cell rfl
           have rf5 : w1.frozen? ⟨w.heap.size, 5, none⟩ = false := rX.free 5
           have rc6 : w1.cell? ⟨w.heap.size, 6, none⟩ = some (.int .i64 0) := rX.cell rfl
           have rf6 : w1.frozen? ⟨w.heap.size, 6, none⟩ = false := rX.free 6
           have rc7 : w1.cell? ⟨w.heap.size, 7, none⟩ = some (.int .u8 0) := rX.cell rfl
           have rf7 : w1.frozen? ⟨w.heap.size, 7, none⟩ = false := rX.free 7
           have rc8 : w1.cell? ⟨w.heap.size, 8, none⟩ = some (.string ⟨#[]⟩) := rX.cell rfl
           have rf8 : w1.frozen? ⟨w.heap.size, 8, none⟩ = false := rX.free 8
           have cv := CONV.out w1 hbw
           have cb := ATB.out w1 hbw
           have RX := Lib.hid rX; have HBW := Lib.hid hbw; clear rX hb1 hbw))
      go_cut [5] (fun h wx => h = .pointer (some ⟨w1.heap.size, 0, none⟩) ∧ wx = (w1.alloc (.cells #[.string ⟨#[]⟩, .string ⟨#[]⟩, .int .i64 0, .int .i64 0, .int .i64 0, .int .i64 0, .int .i64 0, .int .u8 K, .string ⟨#[]⟩] 25)))
      case first =>
        by_cases hy : y = 0
        · subst hy
          obtain rfl : K = 48 := HKD.out
          go_wp2
          go_meet
          exact ⟨rfl, rfl⟩
        · obtain rfl : K = y := by rw [HKD.out]; unfold Hh.rd; rw [if_neg hy]
          have hy2 : (K == 0) = false := by simp [hy]
          go_wp2
          go_meet
          exact ⟨rfl, rfl⟩
      case rest =>
      obtain ⟨rfl, rfl⟩ := hcut
      clear cv cb
      by_cases h0 : e0 = 0
      · subst h0
        by_cases h1 : e1 = 0
        · subst h1
          by_cases h2 : e2 = 0
          · subst h2
            have EA1 := Lib.hid (EA.out rfl rfl rfl)
            have EE1 := Lib.hid (EE.out rfl rfl rfl)
            clear EP EN EL EA EE
            go_wp2_with (first
              | (go_at_call 34; (with_reducible refine (Q0.out _ (HBW.out.alloc (by omega) _)).mono ?_); rintro e w2 ⟨rfl, rfl⟩)
              | (go_at_call 34; (with_reducible refine (Q1.out _ (HBW.out.alloc (by omega) _)).mono ?_); rintro e w2 ⟨rfl, rfl⟩)
              | (go_at_call 34; (with_reducible refine (Q2.out _ (HBW.out.alloc (by omega) _)).mono ?_); rintro e w2 ⟨rfl, rfl⟩))
            
            have wl : ∃ WL, WL = ((((w1.alloc (.cells #[.string a0, .string a1, .int .i64 0, .int .i64 0, .int .i64 0, .int .i64 0, .int .i64 0, .int .u8 K, .string a2] 25)).alloc (.cells #[.int .i64 100, .int .i64 108, .int .i64 116, .int .i64 124, .int .i64 136] 3)).alloc (.cells #[.int .i64 108, .int .i64 116, .int .i64 124, .int .i64 136, .int .i64 148] 3)).alloc (.cells #[.int .i64 0, .int .i64 0, .int .i64 0, .int .i64 0, .int .i64 0] 68)) := ⟨_, rfl⟩
            obtain ⟨WL, hWL⟩ := wl
            have hbL : Below w.heap.size w WL := by
              rw [hWL]
              exact (((HBW.out.alloc (by omega) _).alloc (by simp; omega) _).alloc (by simp; omega) _).alloc (by simp; omega) _
            have n0 : BX WL (w1.heap.size + 1 + 1 + 1) 68 (Hh.arr5 xs 0) := by
              rw [hWL]
              have h := BX.new (((w1.alloc (.cells #[.string a0, .string a1, .int .i64 0, .int .i64 0, .int .i64 0, .int .i64 0, .int .i64 0, .int .u8 K, .string a2] 25)).alloc (.cells #[.int .i64 100, .int .i64 108, .int .i64 116, .int .i64 124, .int .i64 136] 3)).alloc (.cells #[.int .i64 108, .int .i64 116, .int .i64 124, .int .i64 136, .int .i64 148] 3)) 68 #[.int .i64 0, .int .i64 0, .int .i64 0, .int .i64 0, .int .i64 0]
              simpa [Hh.arr5] using h
            have rows0 : BX WL (w1.heap.size + 1) 3 #[.int .i64 100, .int .i64 108, .int .i64 116, .int .i64 124, .int .i64 136] ∧ BX WL (w1.heap.size + 1 + 1) 3 #[.int .i64 108, .int .i64 116, .int .i64 124, .int .i64 136, .int .i64 148] ∧ BX WL w1.heap.size 25 #[.string a0, .string a1, .int .i64 0, .int .i64 0, .int .i64 0, .int .i64 0, .int .i64 0, .int .u8 K, .string a2] ∧ BX WL w.heap.size 25 #[.string ⟨#[]⟩, .string ⟨#[]⟩, .int .i64 0, .int .i64 0, .int .i64 0, .int .i64 0, .int .i64 0, .int .u8 0, .string ⟨#[]⟩] ∧ w.heap.size < (w1.heap.size + 1 + 1 + 1) := by
              rw [hWL]
              refine ⟨?_, ?_, (((BX.new w1 _ _).alloc _).alloc _).alloc _, (((RX.out.alloc _).alloc _).alloc _).alloc _, by omega⟩
              · have h := ((BX.new (w1.alloc (.cells #[.string a0, .string a1, .int .i64 0, .int .i64 0, .int .i64 0, .int .i64 0, .int .i64 0, .int .u8 K, .string a2] 25)) 3 #[.int .i64 100, .int .i64 108, .int .i64 116, .int .i64 124, .int .i64 136]).alloc (.cells #[.int .i64 108, .int .i64 116, .int .i64 124, .int .i64 136, .int .i64 148] 3)).alloc (.cells #[.int .i64 0, .int .i64 0, .int .i64 0, .int .i64 0, .int .i64 0] 68)
                simpa using h
              · have h := (BX.new ((w1.alloc (.cells #[.string a0, .string a1, .int .i64 0, .int .i64 0, .int .i64 0, .int .i64 0, .int .i64 0, .int .u8 K, .string a2] 25)).alloc (.cells #[.int .i64 100, .int .i64 108, .int .i64 116, .int .i64 124, .int .i64 136] 3)) 3 #[.int .i64 108, .int .i64 116, .int .i64 124, .int .i64 136, .int .i64 148]).alloc (.cells #[.int .i64 0, .int .i64 0, .int .i64 0, .int .i64 0, .int .i64 0] 68)
                simpa using h
            obtain ⟨n1, n2, n3, n4, n5⟩ := rows0
            have rows : ∀ W, Below (w1.heap.size + 1 + 1 + 1) WL W → BX W w1.heap.size 25 #[.string a0, .string a1, .int .i64 0, .int .i64 0, .int .i64 0, .int .i64 0, .int .i64 0, .int .u8 K, .string a2] ∧ BX W w.heap.size 25 #[.string ⟨#[]⟩, .string ⟨#[]⟩, .int .i64 0, .int .i64 0, .int .i64 0, .int .i64 0, .int .i64 0, .int .u8 0, .string ⟨#[]⟩] ∧ Below w.heap.size w W := fun W hW => ⟨n3.below hW (by omega), n4.below hW n5, hbL.trans (hW.mono (by omega))⟩
            have at5 : ∀ (W : World) (j : Nat), j < 5 → Below (w1.heap.size + 1 + 1 + 1) WL W → W.cell? ⟨w1.heap.size + 1, j, none⟩ = some (.int .i64 ((Hh.frl.getD j 0 : Nat) : Int)) ∧ W.cell? ⟨w1.heap.size + 1 + 1, j, none⟩ = some (.int .i64 ((Hh.tol.getD j 0 : Nat) : Int)) := fun W j hj hW => by
              have r1 := n1.below hW (by omega)
              have r2 := n2.below hW (by omega)
              match j, hj with
              | 0, _ => exact ⟨r1.cell rfl, r2.cell rfl⟩
              | 1, _ => exact ⟨r1.cell rfl, r2.cell rfl⟩
              | 2, _ => exact ⟨r1.cell rfl, r2.cell rfl⟩
              | 3, _ => exact ⟨r1.cell rfl, r2.cell rfl⟩
              | 4, _ => exact ⟨r1.cell rfl, r2.cell rfl⟩
            have ROWS := Lib.hid rows; have AT5 := Lib.hid at5
            rw [← hWL]
            clear rows at5 n1 n2 n3 n4 hWL hbL rc0 rf0 rc1 rf1 rc2 rf2 rc3 rf3 rc4 rf4 rc5 rf5 rc6 rf6 rc7 rf7 rc8 rf8
            go_loopw [13] (fun iv wr => ∃ j : Nat, j ≤ 5 ∧ iv = .int .i64 j ∧ BX wr (w1.heap.size + 1 + 1 + 1) 68 (Hh.arr5 xs j) ∧ Below (w1.heap.size + 1 + 1 + 1) WL wr ∧ Hid (∀ i, i < j → (Hh.gld xs i).2 = 0)) (fun i _ => 5 - (intOf i).toNat)
            case atStart => exact ⟨0, by omega, rfl, n0, Below.refl _ _, fun i hi => absurd hi (by omega)⟩
            case round =>
              obtain ⟨j, hj, rfl, hn, hbel, HOK⟩ := hrel
              by_cases hlt : j < 5
              · obtain ⟨cF, cT⟩ := AT5.out _ j hlt hbel
                obtain ⟨hj1, hj2⟩ := Hh.ends j hlt
                have cft := fun W hW => AT5.out W j hlt hW
                have q3 := fun W hW => Q3.out j W hlt hW
                have eA := EA1.out j hlt HOK
                have hset := Hh.arr5_set xs j hlt
                obtain ⟨cv, hcv⟩ := Hh.arr5_get xs j j hlt
                have hgd : ∀ i, i < j + 1 → (Hh.gld xs j).2 = 0 → (Hh.gld xs i).2 = 0 := fun i hi h => by
                  by_cases hij : i < j
                  · exact HOK i hij
                  · obtain rfl : i = j := by omega
                    exact h
                generalize Hh.frl.getD j 0 = fj at *
                generalize Hh.tol.getD j 0 = tj at *
                obtain ⟨⟨gv, ge⟩, hG⟩ : ∃ G, Hh.gld xs j = G := ⟨_, rfl⟩
                rw [hG] at q3 eA hset hgd
                simp only at q3 eA hset hgd
                have t1 : (fj : Int) ≤ (tj : Int) := by omega
                have t2 : tj ≤ c := by omega
                have t3 : fj ≤ c := by omega
                have t4 : ¬ c = fj := by omega
                have t5 : fj ≤ tj := by omega
                have t6 := (ROWS.out _ hbel).2.2
                have cN : wr.cell? ⟨w1.heap.size + 1 + 1 + 1, j, none⟩ = some cv := hn.cell hcv
                have cNf := hn.free j
                have step : ∀ W, Below wr.heap.size wr W → BX W (w1.heap.size + 1 + 1 + 1) 68 (Hh.arr5 xs j) ∧ Below (w1.heap.size + 1 + 1 + 1) WL W := fun W hW => ⟨hn.later hW, hbel.trans (hW.mono (by have := hn.lt; omega))⟩
                have CFT := Lib.hid cft; clear cft
                have Q3' := Lib.hid q3; have EA' := Lib.hid eA; have HSET := Lib.hid hset; have HCV := Lib.hid hcv; have HGD := Lib.hid hgd; have STEP := Lib.hid step; have T6 := Lib.hid t6; have HN := Lib.hid hn
                clear q3 eA hset hcv hgd hG step t6 hn
                go_wp2
                go_region_held3 (fun w' => w'.cell? ⟨w1.heap.size + 1, j, none⟩ = some (.int .i64 (fj : Int)) ∧ w'.cell? ⟨w1.heap.size + 1 + 1, j, none⟩ = some (.int .i64 (tj : Int)))
                  (first | (refine CFT.out _ ?_; (first | (with_reducible exact K2.out) | (with_reducible exact K2.out.setCell (p := ⟨w1.heap.size + 1 + 1 + 1, j, none⟩) (Nat.le_refl _) _))) | go_keep)
                  (first
                    | (go_at_call 35; (with_reducible refine (Q3'.out _ T6.out.drew).mono ?_); rintro e w5 ⟨rfl, bq⟩; have bq := below_undrew' bq; obtain ⟨k1, k2⟩ := STEP.out _ bq; have kc : w5.cell? ⟨w1.heap.size + 1 + 1 + 1, j, none⟩ = some cv := k1.cell HCV.out; have kf := k1.free j; have K1 := Lib.hid k1; have K2 := Lib.hid k2; clear k1 k2 bq)
                    | (go_at_call 35; (with_reducible refine (Q3'.out _ T6.out).mono ?_); rintro e w5 ⟨rfl, bq⟩; obtain ⟨k1, k2⟩ := STEP.out _ bq; have kc : w5.cell? ⟨w1.heap.size + 1 + 1 + 1, j, none⟩ = some cv := k1.cell HCV.out; have kf := k1.free j; have K1 := Lib.hid k1; have K2 := Lib.hid k2; clear k1 k2 bq))
                all_goals
                  have M := K1.out.set j (.int .i64 gv)
                  rw [HSET.out] at M
                  have K2' := K2.out.setCell (p := ⟨w1.heap.size + 1 + 1 + 1, j, none⟩) (Nat.le_refl _) (.int .i64 gv)
                  obtain ⟨_, rX, hBW⟩ := ROWS.out _ K2'
                  have M' := Lib.hid M; have K3 := Lib.hid K2'; have HBW5 := Lib.hid hBW
                  clear M K2' hBW
                  by_cases h5 : ge = 0
                  · subst h5
                    clear rX
                    go_wp2
                    go_roundw
                    case rel => exact ⟨j + 1, by omega, by go_num, M'.out, K3.out, fun i hi => HGD.out i hi rfl⟩
                    case measure => simp [intOf]; omega
                  · have hgg : (ge != 0) = true := by simp [h5]
                    have pe := EA'.out h5
                    have pv := EB.out (by rw [pe]; exact h5)
                    unfold Hh.hdr at pv
                    have PEE := Lib.hid pe; have PVV := Lib.hid pv
                    clear pe pv h5        
                    have rc0 : (w5.setCell ⟨w1.heap.size + 1 + 1 + 1, j, none⟩ (.int .i64 gv)).cell? ⟨w.heap.size, 0, none⟩ = some (.string ⟨#[]⟩) := rX.cell rfl
                    have rf0 : (w5.setCell ⟨w1.heap.size + 1 + 1 + 1, j, none⟩ (.int .i64 gv)).frozen? ⟨w.heap.size, 0, none⟩ = false := rX.free 0
                    have rc1 : (w5.setCell ⟨w1.heap.size + 1 + 1 + 1, j, none⟩ (.int .i64 gv)).cell? ⟨w.heap.size, 1, none⟩ = some (.string ⟨#[]⟩) := rX.cell rfl
                    have rf1 : (w5.setCell ⟨w1.heap.size + 1 + 1 + 1, j, none⟩ (.int .i64 gv)).frozen? ⟨w.heap.size, 1, none⟩ = false := rX.free 1
                    have rc2 : (w5.setCell ⟨w1.heap.size + 1 + 1 + 1, j, none⟩ (.int .i64 gv)).cell? ⟨w.heap.size, 2, none⟩ = some (.int .i64 0) := rX.cell rfl
                    have rf2 : (w5.setCell ⟨w1.heap.size + 1 + 1 + 1, j, none⟩ (.int .i64 gv)).frozen? ⟨w.heap.size, 2, none⟩ = false := rX.free 2
                    have rc3 : (w5.setCell ⟨w1.heap.size + 1 + 1 + 1, j, none⟩ (.int .i64 gv)).cell? ⟨w.heap.size, 3, none⟩ = some (.int .i64 0) := rX.cell rfl
                    have rf3 : (w5.setCell ⟨w1.heap.size + 1 + 1 + 1, j, none⟩ (.int .i64 gv)).frozen? ⟨w.heap.size, 3, none⟩ = false := rX.free 3
                    have rc4 : (w5.setCell ⟨w1.heap.size + 1 + 1 + 1, j, none⟩ (.int .i64 gv)).cell? ⟨w.heap.size, 4, none⟩ = some (.int .i64 0) := rX.cell rfl
                    have rf4 : (w5.setCell ⟨w1.heap.size + 1 + 1 + 1, j, none⟩ (.int .i64 gv)).frozen? ⟨w.heap.size, 4, none⟩ = false := rX.free 4
                    have rc5 : (w5.setCell ⟨w1.heap.size + 1 + 1 + 1, j, none⟩ (.int .i64 gv)).cell? ⟨w.heap.size, 5, none⟩ = some (.int .i64 0) := rX.cell rfl
                    have rf5 : (w5.setCell ⟨w1.heap.size + 1 + 1 + 1, j, none⟩ (.int .i64 gv)).frozen? ⟨w.heap.size, 5, none⟩ = false := rX.free 5
                    have rc6 : (w5.setCell ⟨w1.heap.size + 1 + 1 + 1, j, none⟩ (.int .i64 gv)).cell? ⟨w.heap.size, 6, none⟩ = some (.int .i64 0) := rX.cell rfl
                    have rf6 : (w5.setCell ⟨w1.heap.size + 1 + 1 + 1, j, none⟩ (.int .i64 gv)).frozen? ⟨w.heap.size, 6, none⟩ = false := rX.free 6
                    have rc7 : (w5.setCell ⟨w1.heap.size + 1 + 1 + 1, j, none⟩ (.int .i64 gv)).cell? ⟨w.heap.size, 7, none⟩ = some (.int .u8 0) := rX.cell rfl
                    have rf7 : (w5.setCell ⟨w1.heap.size + 1 + 1 + 1, j, none⟩ (.int .i64 gv)).frozen? ⟨w.heap.size, 7, none⟩ = false := rX.free 7
                    have rc8 : (w5.setCell ⟨w1.heap.size + 1 + 1 + 1, j, none⟩ (.int .i64 gv)).cell? ⟨w.heap.size, 8, none⟩ = some (.string ⟨#[]⟩) := rX.cell rfl
                    have rf8 : (w5.setCell ⟨w1.heap.size + 1 + 1 + 1, j, none⟩ (.int .i64 gv)).frozen? ⟨w.heap.size, 8, none⟩ = false := rX.free 8
                    have RXH := Lib.hid rX; clear rX
                    go_wp2
                    (try simp only [Exit.inBlock, Exit.then])
                    refine bodyPost_ret (v := .tuple #[.agg #[.string ⟨#[]⟩, .string ⟨#[]⟩, .int .i64 0, .int .i64 0, .int .i64 0, .int .i64 0, .int .i64 0, .int .u8 0, .string ⟨#[]⟩], .int .i64 ge]) (by simp [results, Tryd.f17, go_sem, *]) rfl ?_
                    rw [PVV.out, PEE.out]
                    exact ⟨rfl, (((((((((HBW5.out).setCell (Nat.le_refl _) _).setCell (Nat.le_refl _) _).setCell (Nat.le_refl _) _).setCell (Nat.le_refl _) _).setCell (Nat.le_refl _) _).setCell (Nat.le_refl _) _).setCell (Nat.le_refl _) _).setCell (Nat.le_refl _) _).setCell (Nat.le_refl _) _⟩
              · obtain rfl : j = 5 := by omega
                have pe := EE1.out (fun i hi => HOK i hi)
                have eO := EO.out
                have n0 : wr.cell? ⟨w1.heap.size + 1 + 1 + 1, 0, none⟩ = some (.int .i64 (Hh.gld xs 0).1) := hn.cell rfl
                have n1 : wr.cell? ⟨w1.heap.size + 1 + 1 + 1, 1, none⟩ = some (.int .i64 (Hh.gld xs 1).1) := hn.cell rfl
                have n2 : wr.cell? ⟨w1.heap.size + 1 + 1 + 1, 2, none⟩ = some (.int .i64 (Hh.gld xs 2).1) := hn.cell rfl
                have n3 : wr.cell? ⟨w1.heap.size + 1 + 1 + 1, 3, none⟩ = some (.int .i64 (Hh.gld xs 3).1) := hn.cell rfl
                have n4 : wr.cell? ⟨w1.heap.size + 1 + 1 + 1, 4, none⟩ = some (.int .i64 (Hh.gld xs 4).1) := hn.cell rfl
                have hn5 : BX wr (w1.heap.size + 1 + 1 + 1) 68 #[.int .i64 (Hh.gld xs 0).1, .int .i64 (Hh.gld xs 1).1, .int .i64 (Hh.gld xs 2).1, .int .i64 (Hh.gld xs 3).1, .int .i64 (Hh.gld xs 4).1] := hn
                generalize (Hh.gld xs 0).1 = d0 at *
                generalize (Hh.gld xs 1).1 = d1 at *
                generalize (Hh.gld xs 2).1 = d2 at *
                generalize (Hh.gld xs 3).1 = d3 at *
                generalize (Hh.gld xs 4).1 = d4 at *
                obtain ⟨hX, rX, hBW⟩ := ROWS.out _ hbel    
                have hc0 : wr.cell? ⟨w1.heap.size, 0, none⟩ = some (.string a0) := hX.cell rfl
                have hf0 : wr.frozen? ⟨w1.heap.size, 0, none⟩ = false := hX.free 0
                have hc1 : wr.cell? ⟨w1.heap.size, 1, none⟩ = some (.string a1) := hX.cell rfl
                have hf1 : wr.frozen? ⟨w1.heap.size, 1, none⟩ = false := hX.free 1
                have hc2 : wr.cell? ⟨w1.heap.size, 2, none⟩ = some (.int .i64 0) := hX.cell rfl
                have hf2 : wr.frozen? ⟨w1.heap.size, 2, none⟩ = false := hX.free 2
                have hc3 : wr.cell? ⟨w1.heap.size, 3, none⟩ = some (.int .i64 0) := hX.cell rfl
                have hf3 : wr.frozen? ⟨w1.heap.size, 3, none⟩ = false := hX.free 3
                have hc4 : wr.cell? ⟨w1.heap.size, 4, none⟩ = some (.int .i64 0) := hX.cell rfl
                have hf4 : wr.frozen? ⟨w1.heap.size, 4, none⟩ = false := hX.free 4
                have hc5 : wr.cell? ⟨w1.heap.size, 5, none⟩ = some (.int .i64 0) := hX.cell rfl
                have hf5 : wr.frozen? ⟨w1.heap.size, 5, none⟩ = false := hX.free 5
                have hc6 : wr.cell? ⟨w1.heap.size, 6, none⟩ = some (.int .i64 0) := hX.cell rfl
                have hf6 : wr.frozen? ⟨w1.heap.size, 6, none⟩ = false := hX.free 6
                have hc7 : wr.cell? ⟨w1.heap.size, 7, none⟩ = some (.int .u8 K) := hX.cell rfl
                have hf7 : wr.frozen? ⟨w1.heap.size, 7, none⟩ = false := hX.free 7
                have hc8 : wr.cell? ⟨w1.heap.size, 8, none⟩ = some (.string a2) := hX.cell rfl
                have hf8 : wr.frozen? ⟨w1.heap.size, 8, none⟩ = false := hX.free 8
                have ns : ∀ W, BX W (w1.heap.size + 1 + 1 + 1) 68 #[.int .i64 d0, .int .i64 d1, .int .i64 d2, .int .i64 d3, .int .i64 d4] → W.cell? ⟨w1.heap.size + 1 + 1 + 1, 0, none⟩ = some (.int .i64 d0) ∧ W.cell? ⟨w1.heap.size + 1 + 1 + 1, 1, none⟩ = some (.int .i64 d1) ∧ W.cell? ⟨w1.heap.size + 1 + 1 + 1, 2, none⟩ = some (.int .i64 d2) ∧ W.cell? ⟨w1.heap.size + 1 + 1 + 1, 3, none⟩ = some (.int .i64 d3) ∧ W.cell? ⟨w1.heap.size + 1 + 1 + 1, 4, none⟩ = some (.int .i64 d4) := fun W h => ⟨h.cell rfl, h.cell rfl, h.cell rfl, h.cell rfl, h.cell rfl⟩
                have HN5 := Lib.hid hn5; have NS := Lib.hid ns; clear hn5 ns
                have hne : w1.heap.size + 1 + 1 + 1 ≠ w1.heap.size := by omega
                have HNE := Lib.hid hne; clear hne
                have HX := Lib.hid hX; have RX2 := Lib.hid rX; have HBW5 := Lib.hid hBW; have PEE := Lib.hid pe; have EO2 := Lib.hid eO; have HBEL := Lib.hid hbel
                clear hX rX hBW pe eO hn hbel EO EE1 EA1
                go_wp2
                go_region_held3 (fun w' => w'.cell? ⟨w1.heap.size + 1 + 1 + 1, 0, none⟩ = some (.int .i64 d0) ∧ w'.cell? ⟨w1.heap.size + 1 + 1 + 1, 1, none⟩ = some (.int .i64 d1) ∧ w'.cell? ⟨w1.heap.size + 1 + 1 + 1, 2, none⟩ = some (.int .i64 d2) ∧ w'.cell? ⟨w1.heap.size + 1 + 1 + 1, 3, none⟩ = some (.int .i64 d3) ∧ w'.cell? ⟨w1.heap.size + 1 + 1 + 1, 4, none⟩ = some (.int .i64 d4))
                  (first | (refine NS.out _ ?_; repeat (first | (with_reducible exact HN5.out) | (with_reducible refine BX.drew ?_) | (with_reducible refine BX.other ?_ HNE.out _))) | go_keep)
                  (fail)
                have kk := (((((HX.out.set 2 (.int .i64 d0)).set 3 (.int .i64 d1)).set 4 (.int .i64 d2)).set 5 (.int .i64 d4)).set 6 (.int .i64 d3)).drew
                have kr := ((((((RX2.out.other (b := w1.heap.size) (j := 2) (by omega) (.int .i64 d0)).other (b := w1.heap.size) (j := 3) (by omega) (.int .i64 d1)).other (b := w1.heap.size) (j := 4) (by omega) (.int .i64 d2)).other (b := w1.heap.size) (j := 5) (by omega) (.int .i64 d4)).other (b := w1.heap.size) (j := 6) (by omega) (.int .i64 d3))).drew
                have kb := (((((HBW5.out.setCell (p := ⟨w1.heap.size, 2, none⟩) (by simp only []; omega) (.int .i64 d0)).setCell (p := ⟨w1.heap.size, 3, none⟩) (by simp only []; omega) (.int .i64 d1)).setCell (p := ⟨w1.heap.size, 4, none⟩) (by simp only []; omega) (.int .i64 d2)).setCell (p := ⟨w1.heap.size, 5, none⟩) (by simp only []; omega) (.int .i64 d4)).setCell (p := ⟨w1.heap.size, 6, none⟩) (by simp only []; omega) (.int .i64 d3)).drew
                clear n0 n1 n2 n3 n4 hc0 hf0 hc1 hf1 hc2 hf2 hc3 hf3 hc4 hf4 hc5 hf5 hc6 hf6 hc7 hf7 hc8 hf8 HX RX2
                generalize (((((wr.setCell ⟨w1.heap.size, 2, none⟩ (.int .i64 d0)).setCell ⟨w1.heap.size, 3, none⟩ (.int .i64 d1)).setCell ⟨w1.heap.size, 4, none⟩ (.int .i64 d2)).setCell ⟨w1.heap.size, 5, none⟩ (.int .i64 d4)).setCell ⟨w1.heap.size, 6, none⟩ (.int .i64 d3)).drew = W at *
                have kX : BX W w1.heap.size 25 #[.string a0, .string a1, .int .i64 d0, .int .i64 d1, .int .i64 d2, .int .i64 d4, .int .i64 d3, .int .u8 K, .string a2] := by simpa using kk
                have c7 : W.cell? ⟨w1.heap.size, 7, none⟩ = some (.int .u8 K) := kX.cell rfl
                have ist := IST.out
                have bel := BEL.out a0 a1 a2 d0 d1 d2 d4 d3 K
                have pe := PEE.out
                have KB := Lib.hid kb
                clear kk kb PEE BEL IST
                cases hI : Hh.isT K
                · rw [hI] at ist pe
                  rw [if_neg (by decide)] at pe
                  have pv := EB.out (by rw [pe]; decide)
                  unfold Hh.hdr at pv
                  have IST2 := Lib.hid ist; have PE2 := Lib.hid pe; have PV2 := Lib.hid pv
                  have rX := kr            
                  have rc0 : W.cell? ⟨w.heap.size, 0, none⟩ = some (.string ⟨#[]⟩) := rX.cell rfl
                  have rf0 : W.frozen? ⟨w.heap.size, 0, none⟩ = false := rX.free 0
                  have rc1 : W.cell? ⟨w.heap.size, 1, none⟩ = some (.string ⟨#[]⟩) := rX.cell rfl
                  have rf1 : W.frozen? ⟨w.heap.size, 1, none⟩ = false := rX.free 1
                  have rc2 : W.cell? ⟨w.heap.size, 2, none⟩ = some (.int .i64 0) := rX.cell rfl
                  have rf2 : W.frozen? ⟨w.heap.size, 2, none⟩ = false := rX.free 2
                  have rc3 : W.cell? ⟨w.heap.size, 3, none⟩ = some (.int .i64 0) := rX.cell rfl
                  have rf3 : W.frozen? ⟨w.heap.size, 3, none⟩ = false := rX.free 3
                  have rc4 : W.cell? ⟨w.heap.size, 4, none⟩ = some (.int .i64 0) := rX.cell rfl
                  have rf4 : W.frozen? ⟨w.heap.size, 4, none⟩ = false := rX.free 4
                  have rc5 : W.cell? ⟨w.heap.size, 5, none⟩ = some (.int .i64 0) := rX.cell rfl
                  have rf5 : W.frozen? ⟨w.heap.size, 5, none⟩ = false := rX.free 5
                  have rc6 : W.cell? ⟨w.heap.size, 6, none⟩ = some (.int .i64 0) := rX.cell rfl
                  have rf6 : W.frozen? ⟨w.heap.size, 6, none⟩ = false := rX.free 6
                  have rc7 : W.cell? ⟨w.heap.size, 7, none⟩ = some (.int .u8 0) := rX.cell rfl
                  have rf7 : W.frozen? ⟨w.heap.size, 7, none⟩ = false := rX.free 7
                  have rc8 : W.cell? ⟨w.heap.size, 8, none⟩ = some (.string ⟨#[]⟩) := rX.cell rfl
                  have rf8 : W.frozen? ⟨w.heap.size, 8, none⟩ = false := rX.free 8
                  clear ist pe pv bel kX EB EO2 rX kr hI
                  go_wp2_with (go_at_call 14; (with_reducible refine (IST2.out _).mono ?_); rintro e w9 ⟨rfl, rfl⟩)
                  (try simp only [Exit.inBlock, Exit.then])
                  refine bodyPost_ret (v := .tuple #[.agg #[.string ⟨#[]⟩, .string ⟨#[]⟩, .int .i64 0, .int .i64 0, .int .i64 0, .int .i64 0, .int .i64 0, .int .u8 0, .string ⟨#[]⟩], .int .i64 11]) (by simp [results, Tryd.f17, go_sem, *]) rfl ?_
                  rw [PV2.out, PE2.out]
                  exact ⟨rfl, (((((((((KB.out).setCell (Nat.le_refl _) _).setCell (Nat.le_refl _) _).setCell (Nat.le_refl _) _).setCell (Nat.le_refl _) _).setCell (Nat.le_refl _) _).setCell (Nat.le_refl _) _).setCell (Nat.le_refl _) _).setCell (Nat.le_refl _) _).setCell (Nat.le_refl _) _⟩
                · rw [hI] at ist pe
                  rw [if_pos rfl] at pe
                  have IST2 := Lib.hid ist
                  clear ist hI
                  have hall : ∀ u1, Below W.heap.size W u1 → BX u1 w1.heap.size 25 #[.string a0, .string a1, .int .i64 d0, .int .i64 d1, .int .i64 d2, .int .i64 d4, .int .i64 d3, .int .u8 K, .string a2] ∧ BX u1 w.heap.size 25 #[.string ⟨#[]⟩, .string ⟨#[]⟩, .int .i64 0, .int .i64 0, .int .i64 0, .int .i64 0, .int .i64 0, .int .u8 0, .string ⟨#[]⟩] := fun u1 hb => ⟨kX.later hb, kr.later hb⟩
                  have HALL := Lib.hid hall            
                  have h0c : W.cell? ⟨w1.heap.size, 0, none⟩ = some (.string a0) := kX.cell rfl
                  have h1c : W.cell? ⟨w1.heap.size, 1, none⟩ = some (.string a1) := kX.cell rfl
                  have h2c : W.cell? ⟨w1.heap.size, 2, none⟩ = some (.int .i64 d0) := kX.cell rfl
                  have h3c : W.cell? ⟨w1.heap.size, 3, none⟩ = some (.int .i64 d1) := kX.cell rfl
                  have h4c : W.cell? ⟨w1.heap.size, 4, none⟩ = some (.int .i64 d2) := kX.cell rfl
                  have h5c : W.cell? ⟨w1.heap.size, 5, none⟩ = some (.int .i64 d4) := kX.cell rfl
                  have h6c : W.cell? ⟨w1.heap.size, 6, none⟩ = some (.int .i64 d3) := kX.cell rfl
                  have h7c : W.cell? ⟨w1.heap.size, 7, none⟩ = some (.int .u8 K) := kX.cell rfl
                  have h8c : W.cell? ⟨w1.heap.size, 8, none⟩ = some (.string a2) := kX.cell rfl
                  clear kr hall
                  cases hL : Hh.bel d0 d1 d2 d3
                  · rw [hL] at bel pe
                    rw [if_neg (by decide)] at pe
                    have pv := EO2.out pe
                    unfold Hh.hdr at pv
                    have BEL2 := Lib.hid bel; have PE2 := Lib.hid pe; have PV2 := Lib.hid pv
                    clear bel pe pv kX EB EO2 hL
                    go_wp2_with (first
                      | (go_at_call 14; (with_reducible refine (IST2.out _).mono ?_); rintro e w9 ⟨rfl, rfl⟩)
                      | (go_at_call 26; (with_reducible refine (BEL2.out _).mono ?_); rintro e u1 ⟨rfl, bu⟩
                         obtain ⟨jX, rX⟩ := HALL.out _ bu                   
                         have j0c : u1.cell? ⟨w1.heap.size, 0, none⟩ = some (.string a0) := jX.cell rfl
                         have j1c : u1.cell? ⟨w1.heap.size, 1, none⟩ = some (.string a1) := jX.cell rfl
                         have j2c : u1.cell? ⟨w1.heap.size, 2, none⟩ = some (.int .i64 d0) := jX.cell rfl
                         have j3c : u1.cell? ⟨w1.heap.size, 3, none⟩ = some (.int .i64 d1) := jX.cell rfl
                         have j4c : u1.cell? ⟨w1.heap.size, 4, none⟩ = some (.int .i64 d2) := jX.cell rfl
                         have j5c : u1.cell? ⟨w1.heap.size, 5, none⟩ = some (.int .i64 d4) := jX.cell rfl
                         have j6c : u1.cell? ⟨w1.heap.size, 6, none⟩ = some (.int .i64 d3) := jX.cell rfl
                         have j7c : u1.cell? ⟨w1.heap.size, 7, none⟩ = some (.int .u8 K) := jX.cell rfl
                         have j8c : u1.cell? ⟨w1.heap.size, 8, none⟩ = some (.string a2) := jX.cell rfl
                         have rc0 : u1.cell? ⟨w.heap.size, 0, none⟩ = some (.string ⟨#[]⟩) := rX.cell rfl
                         have rf0 : u1.frozen? ⟨w.heap.size, 0, none⟩ = false := rX.free 0
                         have rc1 : u1.cell? ⟨w.heap.size, 1, none⟩ = some (.string ⟨#[]⟩) := rX.cell rfl
                         have rf1 : u1.frozen? ⟨w.heap.size, 1, none⟩ = false := rX.free 1
                         have rc2 : u1.cell? ⟨w.heap.size, 2, none⟩ = some (.int .i64 0) := rX.cell rfl
                         have rf2 : u1.frozen? ⟨w.heap.size, 2, none⟩ = false := rX.free 2
                         have rc3 : u1.cell? ⟨w.heap.size, 3, none⟩ = some (.int .i64 0) := rX.cell rfl
                         have rf3 : u1.frozen? ⟨w.heap.size, 3, none⟩ = false := rX.free 3
                         have rc4 : u1.cell? ⟨w.heap.size, 4, none⟩ = some (.int .i64 0) := rX.cell rfl
                         have rf4 : u1.frozen? ⟨w.heap.size, 4, none⟩ = false := rX.free 4
                         have rc5 : u1.cell? ⟨w.heap.size, 5, none⟩ = some (.int .i64 0) := rX.cell rfl
                         have rf5 : u1.frozen? ⟨w.heap.size, 5, none⟩ = false := rX.free 5
                         have rc6 : u1.cell? ⟨w.heap.size, 6, none⟩ = some (.int .i64 0) := rX.cell rfl
                         have rf6 : u1.frozen? ⟨w.heap.size, 6, none⟩ = false := rX.free 6
                         have rc7 : u1.cell? ⟨w.heap.size, 7, none⟩ = some (.int .u8 0) := rX.cell rfl
                         have rf7 : u1.frozen? ⟨w.heap.size, 7, none⟩ = false := rX.free 7
                         have rc8 : u1.cell? ⟨w.heap.size, 8, none⟩ = some (.string ⟨#[]⟩) := rX.cell rfl
                         have rf8 : u1.frozen? ⟨w.heap.size, 8, none⟩ = false := rX.free 8
                         clear jX rX))
                    (try simp only [Exit.inBlock, Exit.then])
                    refine bodyPost_ret (v := .tuple #[.agg #[.string a0, .string a1, .int .i64 d0, .int .i64 d1, .int .i64 d2, .int .i64 d4, .int .i64 d3, .int .u8 K, .string a2], .int .i64 0]) (by simp [results, Tryd.f17, go_sem, *]) rfl ?_
                    rw [PV2.out, PE2.out]
                    exact ⟨rfl, (((((((((KB.out.trans (bu.mono KB.out.size)).setCell (Nat.le_refl _) _).setCell (Nat.le_refl _) _).setCell (Nat.le_refl _) _).setCell (Nat.le_refl _) _).setCell (Nat.le_refl _) _).setCell (Nat.le_refl _) _).setCell (Nat.le_refl _) _).setCell (Nat.le_refl _) _).setCell (Nat.le_refl _) _⟩
                  · rw [hL] at bel pe
                    rw [if_pos rfl] at pe
                    have pv := EB.out (by rw [pe]; decide)
                    unfold Hh.hdr at pv
                    have BEL2 := Lib.hid bel; have PE2 := Lib.hid pe; have PV2 := Lib.hid pv
                    clear bel pe pv kX EB EO2 hL
                    go_wp2_with (first
                      | (go_at_call 14; (with_reducible refine (IST2.out _).mono ?_); rintro e w9 ⟨rfl, rfl⟩)
                      | (go_at_call 26; (with_reducible refine (BEL2.out _).mono ?_); rintro e u1 ⟨rfl, bu⟩
                         obtain ⟨jX, rX⟩ := HALL.out _ bu                   
                         have j0c : u1.cell? ⟨w1.heap.size, 0, none⟩ = some (.string a0) := jX.cell rfl
                         have j1c : u1.cell? ⟨w1.heap.size, 1, none⟩ = some (.string a1) := jX.cell rfl
                         have j2c : u1.cell? ⟨w1.heap.size, 2, none⟩ = some (.int .i64 d0) := jX.cell rfl
                         have j3c : u1.cell? ⟨w1.heap.size, 3, none⟩ = some (.int .i64 d1) := jX.cell rfl
                         have j4c : u1.cell? ⟨w1.heap.size, 4, none⟩ = some (.int .i64 d2) := jX.cell rfl
                         have j5c : u1.cell? ⟨w1.heap.size, 5, none⟩ = some (.int .i64 d4) := jX.cell rfl
                         have j6c : u1.cell? ⟨w1.heap.size, 6, none⟩ = some (.int .i64 d3) := jX.cell rfl
                         have j7c : u1.cell? ⟨w1.heap.size, 7, none⟩ = some (.int .u8 K) := jX.cell rfl
                         have j8c : u1.cell? ⟨w1.heap.size, 8, none⟩ = some (.string a2) := jX.cell rfl
                         have rc0 : u1.cell? ⟨w.heap.size, 0, none⟩ = some (.string ⟨#[]⟩) := rX.cell rfl
                         have rf0 : u1.frozen? ⟨w.heap.size, 0, none⟩ = false := rX.free 0
                         have rc1 : u1.cell? ⟨w.heap.size, 1, none⟩ = some (.string ⟨#[]⟩) := rX.cell rfl
                         have rf1 : u1.frozen? ⟨w.heap.size, 1, none⟩ = false := rX.free 1
                         have rc2 : u1.cell? ⟨w.heap.size, 2, none⟩ = some (.int .i64 0) := rX.cell rfl
                         have rf2 : u1.frozen? ⟨w.heap.size, 2, none⟩ = false := rX.free 2
                         have rc3 : u1.cell? ⟨w.heap.size, 3, none⟩ = some (.int .i64 0) := rX.cell rfl
                         have rf3 : u1.frozen? ⟨w.heap.size, 3, none⟩ = false := rX.free 3
                         have rc4 : u1.cell? ⟨w.heap.size, 4, none⟩ = some (.int .i64 0) := rX.cell rfl
                         have rf4 : u1.frozen? ⟨w.heap.size, 4, none⟩ = false := rX.free 4
                         have rc5 : u1.cell? ⟨w.heap.size, 5, none⟩ = some (.int .i64 0) := rX.cell rfl
                         have rf5 : u1.frozen? ⟨w.heap.size, 5, none⟩ = false := rX.free 5
                         have rc6 : u1.cell? ⟨w.heap.size, 6, none⟩ = some (.int .i64 0) := rX.cell rfl
                         have rf6 : u1.frozen? ⟨w.heap.size, 6, none⟩ = false := rX.free 6
                         have rc7 : u1.cell? ⟨w.heap.size, 7, none⟩ = some (.int .u8 0) := rX.cell rfl
                         have rf7 : u1.frozen? ⟨w.heap.size, 7, none⟩ = false := rX.free 7
                         have rc8 : u1.cell? ⟨w.heap.size, 8, none⟩ = some (.string ⟨#[]⟩) := rX.cell rfl
                         have rf8 : u1.frozen? ⟨w.heap.size, 8, none⟩ = false := rX.free 8
                         clear jX rX))
                    (try simp only [Exit.inBlock, Exit.then])
                    refine bodyPost_ret (v := .tuple #[.agg #[.string ⟨#[]⟩, .string ⟨#[]⟩, .int .i64 0, .int .i64 0, .int .i64 0, .int .i64 0, .int .i64 0, .int .u8 0, .string ⟨#[]⟩], .int .i64 10]) (by simp [results, Tryd.f17, go_sem, *]) rfl ?_
                    rw [PV2.out, PE2.out]
                    exact ⟨rfl, (((((((((KB.out.trans (bu.mono KB.out.size)).setCell (Nat.le_refl _) _).setCell (Nat.le_refl _) _).setCell (Nat.le_refl _) _).setCell (Nat.le_refl _) _).setCell (Nat.le_refl _) _).setCell (Nat.le_refl _) _).setCell (Nat.le_refl _) _).setCell (Nat.le_refl _) _).setCell (Nat.le_refl _) _⟩
            
          · have hgg : (e2 != 0) = true := by simp [h2]
            have pe := EL.out rfl rfl h2
            have pv := EB.out (by rw [pe]; exact h2)
            unfold Hh.hdr at pv
            have PEE := Lib.hid pe; have PVV := Lib.hid pv
            clear pe pv EP EN EL EA EE EB EO h2
            obtain ⟨WA, hWA⟩ : ∃ WA, WA = (w1.alloc (.cells #[.string ⟨#[]⟩, .string ⟨#[]⟩, .int .i64 0, .int .i64 0, .int .i64 0, .int .i64 0, .int .i64 0, .int .u8 K, .string ⟨#[]⟩] 25)) := ⟨_, rfl⟩
            rw [← hWA]
            have hbA : Below w.heap.size w WA := by rw [hWA]; exact HBW.out.alloc (by omega) _
            have rA : BX WA w.heap.size 25 #[.string ⟨#[]⟩, .string ⟨#[]⟩, .int .i64 0, .int .i64 0, .int .i64 0, .int .i64 0, .int .i64 0, .int .u8 0, .string ⟨#[]⟩] := by rw [hWA]; exact RX.out.alloc _
            clear hWA rc0 rf0 rc1 rf1 rc2 rf2 rc3 rf3 rc4 rf4 rc5 rf5 rc6 rf6 rc7 rf7 rc8 rf8
            have rc0 : WA.cell? ⟨w.heap.size, 0, none⟩ = some (.string ⟨#[]⟩) := rA.cell rfl
            have rf0 : WA.frozen? ⟨w.heap.size, 0, none⟩ = false := rA.free 0
            have rc1 : WA.cell? ⟨w.heap.size, 1, none⟩ = some (.string ⟨#[]⟩) := rA.cell rfl
            have rf1 : WA.frozen? ⟨w.heap.size, 1, none⟩ = false := rA.free 1
            have rc2 : WA.cell? ⟨w.heap.size, 2, none⟩ = some (.int .i64 0) := rA.cell rfl
            have rf2 : WA.frozen? ⟨w.heap.size, 2, none⟩ = false := rA.free 2
            have rc3 : WA.cell? ⟨w.heap.size, 3, none⟩ = some (.int .i64 0) := rA.cell rfl
            have rf3 : WA.frozen? ⟨w.heap.size, 3, none⟩ = false := rA.free 3
            have rc4 : WA.cell? ⟨w.heap.size, 4, none⟩ = some (.int .i64 0) := rA.cell rfl
            have rf4 : WA.frozen? ⟨w.heap.size, 4, none⟩ = false := rA.free 4
            have rc5 : WA.cell? ⟨w.heap.size, 5, none⟩ = some (.int .i64 0) := rA.cell rfl
            have rf5 : WA.frozen? ⟨w.heap.size, 5, none⟩ = false := rA.free 5
            have rc6 : WA.cell? ⟨w.heap.size, 6, none⟩ = some (.int .i64 0) := rA.cell rfl
            have rf6 : WA.frozen? ⟨w.heap.size, 6, none⟩ = false := rA.free 6
            have rc7 : WA.cell? ⟨w.heap.size, 7, none⟩ = some (.int .u8 0) := rA.cell rfl
            have rf7 : WA.frozen? ⟨w.heap.size, 7, none⟩ = false := rA.free 7
            have rc8 : WA.cell? ⟨w.heap.size, 8, none⟩ = some (.string ⟨#[]⟩) := rA.cell rfl
            have rf8 : WA.frozen? ⟨w.heap.size, 8, none⟩ = false := rA.free 8
            have HBA := Lib.hid hbA
            clear hbA rA
            go_wp2_with (first
              | (go_at_call 34; (with_reducible refine (Q0.out _ HBA.out).mono ?_); rintro e w2 ⟨rfl, rfl⟩)
              | (go_at_call 34; (with_reducible refine (Q1.out _ HBA.out).mono ?_); rintro e w2 ⟨rfl, rfl⟩)
              | (go_at_call 34; (with_reducible refine (Q2.out _ HBA.out).mono ?_); rintro e w2 ⟨rfl, rfl⟩))
            (try simp only [Exit.inBlock, Exit.then])
            refine bodyPost_ret (v := .tuple #[.agg #[.string ⟨#[]⟩, .string ⟨#[]⟩, .int .i64 0, .int .i64 0, .int .i64 0, .int .i64 0, .int .i64 0, .int .u8 0, .string ⟨#[]⟩], .int .i64 e2]) (by simp [results, Tryd.f17, go_sem, *]) rfl ?_
            rw [PVV.out, PEE.out]
            exact ⟨rfl, ((((((((HBA.out.setCell (Nat.le_refl _) _).setCell (Nat.le_refl _) _).setCell (Nat.le_refl _) _).setCell (Nat.le_refl _) _).setCell (Nat.le_refl _) _).setCell (Nat.le_refl _) _).setCell (Nat.le_refl _) _).setCell (Nat.le_refl _) _).setCell (Nat.le_refl _) _⟩
        · have hgg : (e1 != 0) = true := by simp [h1]
          have pe := EN.out rfl h1
          have pv := EB.out (by rw [pe]; exact h1)
          unfold Hh.hdr at pv
          have PEE := Lib.hid pe; have PVV := Lib.hid pv
          clear pe pv EP EN EL EA EE EB EO h1
          obtain ⟨WA, hWA⟩ : ∃ WA, WA = (w1.alloc (.cells #[.string ⟨#[]⟩, .string ⟨#[]⟩, .int .i64 0, .int .i64 0, .int .i64 0, .int .i64 0, .int .i64 0, .int .u8 K, .string ⟨#[]⟩] 25)) := ⟨_, rfl⟩
          rw [← hWA]
          have hbA : Below w.heap.size w WA := by rw [hWA]; exact HBW.out.alloc (by omega) _
          have rA : BX WA w.heap.size 25 #[.string ⟨#[]⟩, .string ⟨#[]⟩, .int .i64 0, .int .i64 0, .int .i64 0, .int .i64 0, .int .i64 0, .int .u8 0, .string ⟨#[]⟩] := by rw [hWA]; exact RX.out.alloc _
          clear hWA rc0 rf0 rc1 rf1 rc2 rf2 rc3 rf3 rc4 rf4 rc5 rf5 rc6 rf6 rc7 rf7 rc8 rf8
          have rc0 : WA.cell? ⟨w.heap.size, 0, none⟩ = some (.string ⟨#[]⟩) := rA.cell rfl
          have rf0 : WA.frozen? ⟨w.heap.size, 0, none⟩ = false := rA.free 0
          have rc1 : WA.cell? ⟨w.heap.size, 1, none⟩ = some (.string ⟨#[]⟩) := rA.cell rfl
          have rf1 : WA.frozen? ⟨w.heap.size, 1, none⟩ = false := rA.free 1
          have rc2 : WA.cell? ⟨w.heap.size, 2, none⟩ = some (.int .i64 0) := rA.cell rfl
          have rf2 : WA.frozen? ⟨w.heap.size, 2, none⟩ = false := rA.free 2
          have rc3 : WA.cell? ⟨w.heap.size, 3, none⟩ = some (.int .i64 0) := rA.cell rfl
          have rf3 : WA.frozen? ⟨w.heap.size, 3, none⟩ = false := rA.free 3
          have rc4 : WA.cell? ⟨w.heap.size, 4, none⟩ = some (.int .i64 0) := rA.cell rfl
          have rf4 : WA.frozen? ⟨w.heap.size, 4, none⟩ = false := rA.free 4
          have rc5 : WA.cell? ⟨w.heap.size, 5, none⟩ = some (.int .i64 0) := rA.cell rfl
          have rf5 : WA.frozen? ⟨w.heap.size, 5, none⟩ = false := rA.free 5
          have rc6 : WA.cell? ⟨w.heap.size, 6, none⟩ = some (.int .i64 0) := rA.cell rfl
          have rf6 : WA.frozen? ⟨w.heap.size, 6, none⟩ = false := rA.free 6
          have rc7 : WA.cell? ⟨w.heap.size, 7, none⟩ = some (.int .u8 0) := rA.cell rfl
          have rf7 : WA.frozen? ⟨w.heap.size, 7, none⟩ = false := rA.free 7
          have rc8 : WA.cell? ⟨w.heap.size, 8, none⟩ = some (.string ⟨#[]⟩) := rA.cell rfl
          have rf8 : WA.frozen? ⟨w.heap.size, 8, none⟩ = false := rA.free 8
          have HBA := Lib.hid hbA
          clear hbA rA
          go_wp2_with (first
            | (go_at_call 34; (with_reducible refine (Q0.out _ HBA.out).mono ?_); rintro e w2 ⟨rfl, rfl⟩)
            | (go_at_call 34; (with_reducible refine (Q1.out _ HBA.out).mono ?_); rintro e w2 ⟨rfl, rfl⟩))
          (try simp only [Exit.inBlock, Exit.then])
          refine bodyPost_ret (v := .tuple #[.agg #[.string ⟨#[]⟩, .string ⟨#[]⟩, .int .i64 0, .int .i64 0, .int .i64 0, .int .i64 0, .int .i64 0, .int .u8 0, .string ⟨#[]⟩], .int .i64 e1]) (by simp [results, Tryd.f17, go_sem, *]) rfl ?_
          rw [PVV.out, PEE.out]
          exact ⟨rfl, ((((((((HBA.out.setCell (Nat.le_refl _) _).setCell (Nat.le_refl _) _).setCell (Nat.le_refl _) _).setCell (Nat.le_refl _) _).setCell (Nat.le_refl _) _).setCell (Nat.le_refl _) _).setCell (Nat.le_refl _) _).setCell (Nat.le_refl _) _).setCell (Nat.le_refl _) _⟩
      · have hgg : (e0 != 0) = true := by simp [h0]
        have pe := EP.out h0
        have pv := EB.out (by rw [pe]; exact h0)
        unfold Hh.hdr at pv
        have PEE := Lib.hid pe; have PVV := Lib.hid pv
        clear pe pv EP EN EL EA EE EB EO h0
        obtain ⟨WA, hWA⟩ : ∃ WA, WA = (w1.alloc (.cells #[.string ⟨#[]⟩, .string ⟨#[]⟩, .int .i64 0, .int .i64 0, .int .i64 0, .int .i64 0, .int .i64 0, .int .u8 K, .string ⟨#[]⟩] 25)) := ⟨_, rfl⟩
        rw [← hWA]
        have hbA : Below w.heap.size w WA := by rw [hWA]; exact HBW.out.alloc (by omega) _
        have rA : BX WA w.heap.size 25 #[.string ⟨#[]⟩, .string ⟨#[]⟩, .int .i64 0, .int .i64 0, .int .i64 0, .int .i64 0, .int .i64 0, .int .u8 0, .string ⟨#[]⟩] := by rw [hWA]; exact RX.out.alloc _
        clear hWA rc0 rf0 rc1 rf1 rc2 rf2 rc3 rf3 rc4 rf4 rc5 rf5 rc6 rf6 rc7 rf7 rc8 rf8
        have rc0 : WA.cell? ⟨w.heap.size, 0, none⟩ = some (.string ⟨#[]⟩) := rA.cell rfl
        have rf0 : WA.frozen? ⟨w.heap.size, 0, none⟩ = false := rA.free 0
        have rc1 : WA.cell? ⟨w.heap.size, 1, none⟩ = some (.string ⟨#[]⟩) := rA.cell rfl
        have rf1 : WA.frozen? ⟨w.heap.size, 1, none⟩ = false := rA.free 1
        have rc2 : WA.cell? ⟨w.heap.size, 2, none⟩ = some (.int .i64 0) := rA.cell rfl
        have rf2 : WA.frozen? ⟨w.heap.size, 2, none⟩ = false := rA.free 2
        have rc3 : WA.cell? ⟨w.heap.size, 3, none⟩ = some (.int .i64 0) := rA.cell rfl
        have rf3 : WA.frozen? ⟨w.heap.size, 3, none⟩ = false := rA.free 3
        have rc4 : WA.cell? ⟨w.heap.size, 4, none⟩ = some (.int .i64 0) := rA.cell rfl
        have rf4 : WA.frozen? ⟨w.heap.size, 4, none⟩ = false := rA.free 4
        have rc5 : WA.cell? ⟨w.heap.size, 5, none⟩ = some (.int .i64 0) := rA.cell rfl
        have rf5 : WA.frozen? ⟨w.heap.size, 5, none⟩ = false := rA.free 5
        have rc6 : WA.cell? ⟨w.heap.size, 6, none⟩ = some (.int .i64 0) := rA.cell rfl
        have rf6 : WA.frozen? ⟨w.heap.size, 6, none⟩ = false := rA.free 6
        have rc7 : WA.cell? ⟨w.heap.size, 7, none⟩ = some (.int .u8 0) := rA.cell rfl
        have rf7 : WA.frozen? ⟨w.heap.size, 7, none⟩ = false := rA.free 7
        have rc8 : WA.cell? ⟨w.heap.size, 8, none⟩ = some (.string ⟨#[]⟩) := rA.cell rfl
        have rf8 : WA.frozen? ⟨w.heap.size, 8, none⟩ = false := rA.free 8
        have HBA := Lib.hid hbA
        clear hbA rA
        go_wp2_with (first
          | (go_at_call 34; (with_reducible refine (Q0.out _ HBA.out).mono ?_); rintro e w2 ⟨rfl, rfl⟩))
        (try simp only [Exit.inBlock, Exit.then])
        refine bodyPost_ret (v := .tuple #[.agg #[.string ⟨#[]⟩, .string ⟨#[]⟩, .int .i64 0, .int .i64 0, .int .i64 0, .int .i64 0, .int .i64 0, .int .u8 0, .string ⟨#[]⟩], .int .i64 e0]) (by simp [results, Tryd.f17, go_sem, *]) rfl ?_
        rw [PVV.out, PEE.out]
        exact ⟨rfl, ((((((((HBA.out.setCell (Nat.le_refl _) _).setCell (Nat.le_refl _) _).setCell (Nat.le_refl _) _).setCell (Nat.le_refl _) _).setCell (Nat.le_refl _) _).setCell (Nat.le_refl _) _).setCell (Nat.le_refl _) _).setCell (Nat.le_refl _) _).setCell (Nat.le_refl _) _⟩
    · have e := Hh.parE_m xs hck hm
      have e2 := Hh.parV_bad xs (by rw [e]; decide)
      rw [e, e2]
      unfold Hh.hdr
      have hq := str_magic (Hh.sub xs 257 8) (Hh.byt_sub hx _ _) hm
      have conv := CONV.out
      rw [show ((xs.drop 257).take 8) = Hh.sub xs 257 8 from rfl] at conv
      generalize strOfNums (Hh.sub xs 257 8) = S at *
      have CONV := Lib.hid conv
      clear conv hck hm e e2 ha hx
      go_enter Tryd.func17, Tryd.ntmps17
      go_wp2_with (first
        | (go_at_call 33; (with_reducible refine (CHK.out _ ((Below.refl _ _).alloc (Nat.le_refl _) _)).mono ?_); rintro e w1 ⟨rfl, hb1⟩
           obtain ⟨hbw, rX, hlt1⟩ := START.out w1 hb1
           have rc0 : w1.cell? ⟨w.heap.size, 0, none⟩ = some (.string ⟨#[]⟩) := rX.cell rfl
           have rf0 : w1.frozen? ⟨w.heap.size, 0, none⟩ = false := rX.free 0
           have rc1 : w1.cell? ⟨w.heap.size, 1, none⟩ = some (.string ⟨#[]⟩) := rX.cell rfl
           have rf1 : w1.frozen? ⟨w.heap.size, 1, none⟩ = false := rX.free 1
           have rc2 : w1.cell? ⟨w.heap.size, 2, none⟩ = some (.int .i64 0) := rX.cell rfl
           have rf2 : w1.frozen? ⟨w.heap.size, 2, none⟩ = false := rX.free 2
           have rc3 : w1.cell? ⟨w.heap.size, 3, none⟩ = some (.int .i64 0) := rX.cell rfl
           have rf3 : w1.frozen? ⟨w.heap.size, 3, none⟩ = false := rX.free 3
           have rc4 : w1.cell? ⟨w.heap.size, 4, none⟩ = some (.int .i64 0) := rX.cell rfl
           have rf4 : w1.frozen? ⟨w.heap.size, 4, none⟩ = false := rX.free 4
           have rc5 : w1.cell? ⟨w.heap.size, 5, none⟩ = some (.int .i64 0) := rX.cell rfl
           have rf5 : w1.frozen? ⟨w.heap.size, 5, none⟩ = false := rX.free 5
           have rc6 : w1.cell? ⟨w.heap.size, 6, none⟩ = some (.int .i64 0) := rX.cell rfl
           have rf6 : w1.frozen? ⟨w.heap.size, 6, none⟩ = false := rX.free 6
           have rc7 : w1.cell? ⟨w.heap.size, 7, none⟩ = some (.int .u8 0) := rX.cell rfl
           have rf7 : w1.frozen? ⟨w.heap.size, 7, none⟩ = false := rX.free 7
           have rc8 : w1.cell? ⟨w.heap.size, 8, none⟩ = some (.string ⟨#[]⟩) := rX.cell rfl
           have rf8 : w1.frozen? ⟨w.heap.size, 8, none⟩ = false := rX.free 8
           have cv := CONV.out w1 hbw))
      refine bodyPost_ret (v := .tuple #[.agg #[.string ⟨#[]⟩, .string ⟨#[]⟩, .int .i64 0, .int .i64 0, .int .i64 0, .int .i64 0, .int .i64 0, .int .u8 0, .string ⟨#[]⟩], .int .i64 3]) (by simp [results, Tryd.f17, go_sem, *]) rfl ⟨rfl, ?_⟩
      exact (((((((((hbw).setCell (Nat.le_refl _) _).setCell (Nat.le_refl _) _).setCell (Nat.le_refl _) _).setCell (Nat.le_refl _) _).setCell (Nat.le_refl _) _).setCell (Nat.le_refl _) _).setCell (Nat.le_refl _) _).setCell (Nat.le_refl _) _).setCell (Nat.le_refl _) _
  · have e := Hh.parE_c xs hck
    have e2 := Hh.parV_bad xs (by rw [e]; exact hck)
    rw [e, e2]
    unfold Hh.hdr
    generalize Hs.checkS xs = E at *
    have hE : (E != 0) = true := by simp [hck]
    have CHK := Lib.hid chk; clear chk hck e e2
    go_enter Tryd.func17, Tryd.ntmps17
    go_wp2_with (first
      | (go_at_call 33; (with_reducible refine (CHK.out _ ((Below.refl _ _).alloc (Nat.le_refl _) _)).mono ?_); rintro e w1 ⟨rfl, hb1⟩
         obtain ⟨hbw, rX, hlt1⟩ := START.out w1 hb1
         have rc0 : w1.cell? ⟨w.heap.size, 0, none⟩ = some (.string ⟨#[]⟩) := rX.cell rfl
         have rf0 : w1.frozen? ⟨w.heap.size, 0, none⟩ = false := rX.free 0
         have rc1 : w1.cell? ⟨w.heap.size, 1, none⟩ = some (.string ⟨#[]⟩) := rX.cell rfl
         have rf1 : w1.frozen? ⟨w.heap.size, 1, none⟩ = false := rX.free 1
         have rc2 : w1.cell? ⟨w.heap.size, 2, none⟩ = some (.int .i64 0) := rX.cell rfl
         have rf2 : w1.frozen? ⟨w.heap.size, 2, none⟩ = false := rX.free 2
         have rc3 : w1.cell? ⟨w.heap.size, 3, none⟩ = some (.int .i64 0) := rX.cell rfl
         have rf3 : w1.frozen? ⟨w.heap.size, 3, none⟩ = false := rX.free 3
         have rc4 : w1.cell? ⟨w.heap.size, 4, none⟩ = some (.int .i64 0) := rX.cell rfl
         have rf4 : w1.frozen? ⟨w.heap.size, 4, none⟩ = false := rX.free 4
         have rc5 : w1.cell? ⟨w.heap.size, 5, none⟩ = some (.int .i64 0) := rX.cell rfl
         have rf5 : w1.frozen? ⟨w.heap.size, 5, none⟩ = false := rX.free 5
         have rc6 : w1.cell? ⟨w.heap.size, 6, none⟩ = some (.int .i64 0) := rX.cell rfl
         have rf6 : w1.frozen? ⟨w.heap.size, 6, none⟩ = false := rX.free 6
         have rc7 : w1.cell? ⟨w.heap.size, 7, none⟩ = some (.int .u8 0) := rX.cell rfl
         have rf7 : w1.frozen? ⟨w.heap.size, 7, none⟩ = false := rX.free 7
         have rc8 : w1.cell? ⟨w.heap.size, 8, none⟩ = some (.string ⟨#[]⟩) := rX.cell rfl
         have rf8 : w1.frozen? ⟨w.heap.size, 8, none⟩ = false := rX.free 8))
    refine bodyPost_ret (v := .tuple #[.agg #[.string ⟨#[]⟩, .string ⟨#[]⟩, .int .i64 0, .int .i64 0, .int .i64 0, .int .i64 0, .int .i64 0, .int .u8 0, .string ⟨#[]⟩], .int .i64 E]) (by simp [results, Tryd.f17, go_sem, *]) rfl ⟨rfl, ?_⟩
    exact (((((((((hbw).setCell (Nat.le_refl _) _).setCell (Nat.le_refl _) _).setCell (Nat.le_refl _) _).setCell (Nat.le_refl _) _).setCell (Nat.le_refl _) _).setCell (Nat.le_refl _) _).setCell (Nat.le_refl _) _).setCell (Nat.le_refl _) _).setCell (Nat.le_refl _) _
end Go.Proofs.YtfkhemlaohkhkaaDoor
