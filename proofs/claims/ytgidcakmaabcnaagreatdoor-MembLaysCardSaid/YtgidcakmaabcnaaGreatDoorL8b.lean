/- THE WALK OF THE LAW MembLays. By gen_l8b.py. -/
import Derived.Test.YtgidcakmaabcnaaGreatDoorGe2
import Derived.Test.YtgidcakmaabcnaaGreatDoorE8h
import Derived.Deep.DeepCutAuto
import Derived.Deep.RegionHeld3
namespace Go.Proofs.YtgidcakmaabcnaaGreatDoor
open Go Go.RowKit
set_option maxHeartbeats 64000000
set_option maxRecDepth 100000
set_option linter.unusedVariables false
theorem farM_no {p l : ByteArray} {n : Nat} (h : farM p l n = false) : p.size ≤ 600 ∧ l.size ≤ 600 ∧ n ≤ 5000 := by
  simp only [farM, Bool.or_eq_false_iff, decide_eq_false_iff_not] at h
  omega
theorem lays_walk8 (p l : ByteArray) (k m u g t : Int) (A : Option Addr) (n c : Nat) (xs : List Int) (w : World) (tb : Tab w) (sp : p.size ≤ maxLen) (sl : l.size ≤ maxLen) (k0 : -9223372036854775808 ≤ k) (k1 : k ≤ 9223372036854775807) (ha : RB w w.heap.size A n xs) (hx : Byt xs) (hc : n ≤ c) (hc2 : c ≤ maxLen) :
    Calls Tryz.prog 3 #[.agg #[.string p, .int .i64 k, .int .i64 m, .int .i64 u, .int .i64 g, .int .i64 t, .string l, .slice A n c]] w fun e w' => e = .returned (.bool true) ∧ Below w.heap.size w w' := by
  have AL := Lib.hid (fun W tb => alive8_any W tb)
  have TB := Lib.hid tb
  have far := fun W => mfar_any p l k m u g t A n c W sp sl (by omega)
  cases hf : farM p l n with
  | true =>
    rw [hf] at far
    have FAR := Lib.hid far
    clear far tb ha hx
    go_enter Tryz.func3, Tryz.ntmps3
    go_wp2_with (first
      | (go_at_call 7; (with_reducible refine (FAR.out _).mono ?_); rintro e w1 ⟨rfl, hb1⟩; have HB1 := Lib.hid (mb_below hb1); clear hb1)
      | (go_at_call 8; (with_reducible refine (AL.out _ (TB.out.on HB1.out)).mono ?_); rintro e w2 ⟨rfl, hb2⟩))
    go_ret
    exact ⟨rfl, bthen HB1.out hb2⟩
  | false =>
    rw [hf] at far
    have FAR := Lib.hid far
    obtain ⟨p6, l6, n5⟩ := farM_no hf
    obtain ⟨q, hq⟩ := Sf.cut_ex p
    have the := fun W => mtheirs_any p l k m u g t A n c W
    have lay := fun W (h : Below w.heap.size w W) => mlay_any p l k m u g t A n c q xs W (tb.on h) ((ha.below h).more h.size) (by omega) (by omega) (by omega) hq
    have rly := fun W (h : Below w.heap.size w W) => refmlay_any p l k m u g t A n c q xs W ((ha.below h).more h.size) (by omega) (by omega) (by omega) hq k0 k1
    have len := fun W (h : Below w.heap.size w W) => mlen_any p l k m u g t A n c q xs W (tb.on h) ((ha.below h).more h.size) (by omega) (by omega) (by omega) hq
    have crc := fun W => mrecs_any p l k m u g t A n c q W (by omega) hq (by omega)
    have rrc := fun W => refmrecs_any p l k m u g t A n c q W (by omega) hq (by omega)
    have may := fun W => mmay_any p l k m u g t A n c W (by omega) (by omega) (by omega)
    have rmy := fun W => refmmay_any p l k m u g t A n c W (by omega) (by omega) (by omega)
    have hrl := Mb.recs_len p l q
    have hyl : (Mb.layM p l q k m u g t xs).length ≤ 1000000 := by
      have hxl := ha.1
      by_cases hE : Mb.may p l k m u g t xs.length = 0
      · rw [Mb.lay_eq8 hE, List.length_append, Mb.own_len hq hE]
        have := (Mb.recB_len p l q).2.1
        omega
      · rw [Mb.lay_bad hE]; simp
    generalize Mb.layM p l q k m u g t xs = Y at *
    generalize Mb.may p l k m u g t n = E at *
    generalize Mb.recsL p l q = L at *
    have THE := Lib.hid the; have LAY := Lib.hid lay; have RLY := Lib.hid rly; have LEN := Lib.hid len; have CRC := Lib.hid crc; have RRC := Lib.hid rrc; have MAY := Lib.hid may; have RMY := Lib.hid rmy; have HYL := Lib.hid hyl; have HRL := Lib.hid hrl
    clear far the lay rly len crc rrc may rmy hyl hrl tb ha hx hf p6 l6 n5 hq
    go_enter Tryz.func3, Tryz.ntmps3
    go_upto_region 5 with (first
      | (go_at_call 7; (with_reducible refine (FAR.out _).mono ?_); rintro e w1 ⟨rfl, hb1⟩; have HA1 := Lib.hid (show Below (w.heap.size + 1) (w.alloc (.cells #[.string p, .int .i64 k, .int .i64 m, .int .i64 u, .int .i64 g, .int .i64 t, .string l, .slice A n c] 26)) w1 by simpa using hb1); have q0 : w1.cell? ⟨w.heap.size, 0, none⟩ = some (.string p) := (mbBox2 HA1.out).cell rfl; have q1 : w1.cell? ⟨w.heap.size, 1, none⟩ = some (.int .i64 k) := (mbBox2 HA1.out).cell rfl; have q2 : w1.cell? ⟨w.heap.size, 2, none⟩ = some (.int .i64 m) := (mbBox2 HA1.out).cell rfl; have q3 : w1.cell? ⟨w.heap.size, 3, none⟩ = some (.int .i64 u) := (mbBox2 HA1.out).cell rfl; have q4 : w1.cell? ⟨w.heap.size, 4, none⟩ = some (.int .i64 g) := (mbBox2 HA1.out).cell rfl; have q5 : w1.cell? ⟨w.heap.size, 5, none⟩ = some (.int .i64 t) := (mbBox2 HA1.out).cell rfl; have q6 : w1.cell? ⟨w.heap.size, 6, none⟩ = some (.string l) := (mbBox2 HA1.out).cell rfl; have q7 : w1.cell? ⟨w.heap.size, 7, none⟩ = some (.slice A n c) := (mbBox2 HA1.out).cell rfl; clear hb1)
      | (go_at_call 10; (with_reducible refine (THE.out _).mono ?_); rintro e w2 ⟨rfl, hb2⟩; have HA2 := Lib.hid (HA1.out.trans (hb2.mono (by have := HA1.out.size; simpa using this))); clear hb2)
      | (go_at_call 9; (with_reducible refine (LAY.out _ (mbLow2 HA2.out)).mono ?_); rintro e w3 ⟨v3, rfl, ho3, hb3⟩; have HA3 := Lib.hid (HA2.out.trans (hb3.mono (by have := HA2.out.size; simpa using this))); obtain ⟨A3, c3, rfl, hr3, _, _⟩ := ho3.rb; have HR3 := Lib.hid hr3; have r0 : w3.cell? ⟨w.heap.size, 0, none⟩ = some (.string p) := (mbBox2 HA3.out).cell rfl; have r1 : w3.cell? ⟨w.heap.size, 1, none⟩ = some (.int .i64 k) := (mbBox2 HA3.out).cell rfl; have r2 : w3.cell? ⟨w.heap.size, 2, none⟩ = some (.int .i64 m) := (mbBox2 HA3.out).cell rfl; have r3 : w3.cell? ⟨w.heap.size, 3, none⟩ = some (.int .i64 u) := (mbBox2 HA3.out).cell rfl; have r4 : w3.cell? ⟨w.heap.size, 4, none⟩ = some (.int .i64 g) := (mbBox2 HA3.out).cell rfl; have r5 : w3.cell? ⟨w.heap.size, 5, none⟩ = some (.int .i64 t) := (mbBox2 HA3.out).cell rfl; have r6 : w3.cell? ⟨w.heap.size, 6, none⟩ = some (.string l) := (mbBox2 HA3.out).cell rfl; have r7 : w3.cell? ⟨w.heap.size, 7, none⟩ = some (.slice A n c) := (mbBox2 HA3.out).cell rfl; clear ho3 hb3 hr3)
      | (go_at_call 11; (with_reducible refine (RLY.out _ (mbLow2 HA3.out)).mono ?_); rintro e w4 ⟨v4, rfl, ho4, hb4⟩; have HA4 := Lib.hid (HA3.out.trans (hb4.mono (by have := HA3.out.size; simpa using this))); obtain ⟨A4, c4, rfl, hr4, _, _⟩ := ho4.rb; have HR4 := Lib.hid hr4; have HS4 := Lib.hid ((HR3.out.below hb4).more hb4.size); clear ho4 hb4 hr4))
    have SZ4 := Lib.hid (show w.heap.size + 1 ≤ w4.heap.size by have := HA4.out.size; simpa using this)
    have alls : ∀ W, Below w4.heap.size w4 W → W.cell? ⟨w.heap.size, 0, none⟩ = some (.string p) ∧ W.cell? ⟨w.heap.size, 1, none⟩ = some (.int .i64 k) ∧ W.cell? ⟨w.heap.size, 2, none⟩ = some (.int .i64 m) ∧ W.cell? ⟨w.heap.size, 3, none⟩ = some (.int .i64 u) ∧ W.cell? ⟨w.heap.size, 4, none⟩ = some (.int .i64 g) ∧ W.cell? ⟨w.heap.size, 5, none⟩ = some (.int .i64 t) ∧ W.cell? ⟨w.heap.size, 6, none⟩ = some (.string l) ∧ W.cell? ⟨w.heap.size, 7, none⟩ = some (.slice A n c) := fun W hW => by
      have b := mbBox2 (HA4.out.trans (hW.mono SZ4.out))
      exact ⟨b.cell rfl, b.cell rfl, b.cell rfl, b.cell rfl, b.cell rfl, b.cell rfl, b.cell rfl, b.cell rfl⟩
    have ALLS := Lib.hid alls
    clear alls
    go_cut [7, 8] (fun a b wx => ∃ B5 c5 B6 c6, a = .slice B5 L.length c5 ∧ b = .slice B6 L.length c6 ∧ Hid (RL wx wx.heap.size B5 L.length L) ∧ Hid (RL wx wx.heap.size B6 L.length L) ∧ Hid (L.length ≤ c5 ∧ L.length ≤ c6) ∧ Hid (Below w4.heap.size w4 wx))
    case first =>
      have hacc : Below w4.heap.size w4 w4.drew := below_drewN (Below.refl _ _) 1
      obtain ⟨y0, y1, y2, y3, y4, y5, y6, y7⟩ := ALLS.out _ hacc
      go_region_held3 (fun w' => w'.cell? ⟨w.heap.size, 0, none⟩ = some (.string p) ∧ w'.cell? ⟨w.heap.size, 1, none⟩ = some (.int .i64 k) ∧ w'.cell? ⟨w.heap.size, 2, none⟩ = some (.int .i64 m) ∧ w'.cell? ⟨w.heap.size, 3, none⟩ = some (.int .i64 u) ∧ w'.cell? ⟨w.heap.size, 4, none⟩ = some (.int .i64 g) ∧ w'.cell? ⟨w.heap.size, 5, none⟩ = some (.int .i64 t) ∧ w'.cell? ⟨w.heap.size, 6, none⟩ = some (.string l) ∧ w'.cell? ⟨w.heap.size, 7, none⟩ = some (.slice A n c)) (first | go_keep | (exact ALLS.out _ hacc)) (first
        | (go_at_call 10; (with_reducible refine (THE.out _).mono ?_); rintro e w5 ⟨rfl, hb5⟩; (first | (replace HR := Lib.hid (RLV.later HR.out hb5)) | skip); replace hacc := bthen hacc hb5)
        | (go_at_call 12; (with_reducible refine (CRC.out _).mono ?_); rintro e w6 ⟨v6, rfl, ho6, hb6⟩; (first | (replace HR := Lib.hid (RLV.later HR.out hb6)) | skip); have HC := Lib.hid (RO.rlv ho6); replace hacc := bthen hacc hb6)
        | (go_at_call 13; (with_reducible refine (RRC.out _).mono ?_); rintro e w7 ⟨v7, rfl, ho7, hb7⟩; (first | (replace HC := Lib.hid (RLV.later HC.out hb7)) | skip); have HR := Lib.hid (RO.rlv ho7); replace hacc := bthen hacc hb7))
      all_goals
        go_wp2
        go_meet
        obtain ⟨B5, c5, e5, h5, h5c, _⟩ := HC.out
        obtain ⟨B6, c6, e6, h6, h6c, _⟩ := HR.out
        exact ⟨B5, c5, B6, c6, e5, e6, h5, h6, ⟨h5c, h6c⟩, hacc⟩
    case rest =>
      obtain ⟨B5, c5, B6, c6, rfl, rfl, H5, H6, HCC, H45⟩ := hcut
      have HA5 := Lib.hid (HA4.out.trans (H45.out.mono SZ4.out))
      have SZ5 := Lib.hid (show w.heap.size + 1 ≤ wc.heap.size by have := HA5.out.size; simpa using this)
      have HRA := Lib.hid (fun W (h : Below wc.heap.size wc W) => (HS4.out.below (H45.out.trans (h.mono H45.out.size))).more (B' := W.heap.size) (by have h1 := H45.out.size; have h2 := h.size; omega))
      have HRB := Lib.hid (fun W (h : Below wc.heap.size wc W) => (HR4.out.below (H45.out.trans (h.mono H45.out.size))).more (B' := W.heap.size) (by have h1 := H45.out.size; have h2 := h.size; omega))
      have SAM := Lib.hid (fun W (h : Below wc.heap.size wc W) => same_any A3 A4 Y.length Y.length c3 c4 Y Y W (HRA.out W h) (HRB.out W h) HYL.out HYL.out)
      have ALL5 := Lib.hid (fun W (h : Below wc.heap.size wc W) => ALLS.out W (H45.out.trans (h.mono H45.out.size)))
      have LOW := Lib.hid (fun W (h : Below wc.heap.size wc W) => mbLow2 (HA5.out.trans (h.mono SZ5.out)))
      obtain ⟨hcc5, hcc6⟩ := HCC.out
      go_wp2
      go_loopw [9, 36] (fun _ i wr => ∃ j : Nat, j ≤ L.length ∧ i = .int .i64 j ∧ Below wc.heap.size wc wr) (fun _ i _ => L.length - (intOf i).toNat)
      case atStart => exact ⟨0, by omega, rfl, Below.refl _ _⟩
      case round =>
        obtain ⟨j, hj, rfl, hbw⟩ := hrel
        have hl2 := HRL.out
        by_cases hlt : j < L.length
        · have hlt' : (j : Int) < L.length := by omega
          obtain ⟨b1, o1, k1, v1, rfl, hbl1, hj1, q0, q1⟩ := (H5.out.below hbw).at_ hlt
          obtain ⟨b2, o2, k2, v2, rfl, hbl2, hj2, q2, q3⟩ := (H6.out.below hbw).at_ hlt
          obtain ⟨rfl, rfl⟩ : k1 = k2 ∧ v1 = v2 := by rw [hj1] at hj2; cases hj2; exact ⟨rfl, rfl⟩
          clear hj1 hj2
          go_wp2
          go_quiet (fail)
          go_wp2
          go_roundw
          case rel => exact ⟨j + 1, by omega, by go_num, below_drewN hbw _⟩
          case measure => simp [intOf]; omega
        · have hlt' : ¬ (j : Int) < L.length := by omega
          have HBW := Lib.hid hbw
          clear hbw
          go_upto_region 14 with (fail)
          have hacc : Below wc.heap.size wc wr.drew := below_drewN HBW.out 1
          obtain ⟨y0, y1, y2, y3, y4, y5, y6, y7⟩ := ALL5.out _ hacc
          have sm : decide (Y = Y) = true := decide_eq_true rfl
          go_region_held3 (fun w' => w'.cell? ⟨w.heap.size, 0, none⟩ = some (.string p) ∧ w'.cell? ⟨w.heap.size, 1, none⟩ = some (.int .i64 k) ∧ w'.cell? ⟨w.heap.size, 2, none⟩ = some (.int .i64 m) ∧ w'.cell? ⟨w.heap.size, 3, none⟩ = some (.int .i64 u) ∧ w'.cell? ⟨w.heap.size, 4, none⟩ = some (.int .i64 g) ∧ w'.cell? ⟨w.heap.size, 5, none⟩ = some (.int .i64 t) ∧ w'.cell? ⟨w.heap.size, 6, none⟩ = some (.string l) ∧ w'.cell? ⟨w.heap.size, 7, none⟩ = some (.slice A n c)) (first | go_keep | (exact ALL5.out _ hacc)) (first
            | (go_at_call 14; (with_reducible refine (SAM.out _ hacc).mono ?_); rintro e w8 ⟨rfl, hb8⟩; replace hacc := bthen hacc hb8)
            | (go_at_call 10; (with_reducible refine (THE.out _).mono ?_); rintro e w9 ⟨rfl, hb9⟩; replace hacc := bthen hacc hb9)
            | (go_at_call 15; (with_reducible refine (MAY.out _).mono ?_); rintro e w10 ⟨rfl, hb10⟩; replace hacc := bthen hacc hb10)
            | (go_at_call 16; (with_reducible refine (RMY.out _).mono ?_); rintro e w11 ⟨rfl, hb11⟩; replace hacc := bthen hacc hb11)
            | (go_at_call 17; (with_reducible refine (LEN.out _ (LOW.out _ hacc)).mono ?_); rintro e w12 ⟨rfl, hb12⟩; replace hacc := bthen hacc hb12)
            | (go_at_call 8; (with_reducible refine (AL.out _ (TB.out.on (LOW.out _ hacc))).mono ?_); rintro e w13 ⟨rfl, hb13⟩; replace hacc := bthen hacc hb13))
          all_goals
            go_wp2
            go_ret
            exact ⟨ret_bool (by simp), LOW.out _ hacc⟩
end Go.Proofs.YtgidcakmaabcnaaGreatDoor
