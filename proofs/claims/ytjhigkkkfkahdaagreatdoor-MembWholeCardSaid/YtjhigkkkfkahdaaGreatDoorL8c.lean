/- THE WALK OF THE LAW MembWhole. By gen_l8c.py. -/
import Derived.Test.YtjhigkkkfkahdaaGreatDoorGe2
import Derived.Deep.DeepCutAuto
import Derived.Deep.RegionHeld3
import Derived.IntWalk
namespace Go.Proofs.YtjhigkkkfkahdaaGreatDoor
open Go Go.RowKit
set_option maxHeartbeats 64000000
set_option maxRecDepth 100000
set_option linter.unusedVariables false
theorem farM_no {p l : ByteArray} {n : Nat} (h : farM p l n = false) : p.size ≤ 600 ∧ l.size ≤ 600 ∧ n ≤ 5000 := by
  simp only [farM, Bool.or_eq_false_iff, decide_eq_false_iff_not] at h
  omega
theorem zero_cells8 : ∀ (i : Nat) x, (#[.string ⟨#[]⟩, .int .i64 0, .int .i64 0, .int .i64 0, .int .i64 0, .int .i64 0, .string ⟨#[]⟩, .slice none 0 0] : Array Value)[i]? ≠ some (.int .u8 x) := by
  intro i x
  match i with
  | 0 => simp
  | 1 => simp
  | 2 => simp
  | 3 => simp
  | 4 => simp
  | 5 => simp
  | 6 => simp
  | 7 => simp
  | i + 8 => simp
theorem RB.aside8 {w : World} {B n a : Nat} {A : Option Addr} {xs : List Int} (h : RB w B A n xs) (hne : 0 < n → ∀ b o, A = some ⟨b, o, none⟩ → b ≠ a) (j : Nat) (v : Value) : RB (w.setCell ⟨a, j, none⟩ v) B A n xs :=
  ⟨h.1, fun hn => by
    obtain ⟨b, o, e, hb, hc⟩ := h.2 hn
    exact ⟨b, o, e, hb, fun i hi => (World.cell?_of_block (a := ⟨b, o + i, none⟩) (heap_setCell_other w ⟨a, j, none⟩ b v (hne hn b o e))).trans (hc i hi)⟩⟩
theorem RB.apart8 {w : World} {B n a : Nat} {A : Option Addr} {xs : List Int} {T : TypeId} {cs : Array Value} (h : RB w B A n xs) (hb : BX w a T cs) (hcs : ∀ (i : Nat) x, cs[i]? ≠ some (.int .u8 x)) : 0 < n → ∀ b o, A = some ⟨b, o, none⟩ → b ≠ a := fun hn b o e hba => by
  subst hba
  obtain ⟨b2, o2, e2, _, hc⟩ := h.2 hn
  rw [e] at e2
  cases e2
  have h0 := hc 0 hn
  unfold BX at hb
  rw [show o + 0 = o from rfl, cell_of_row w b o cs T (0, 0) hb] at h0
  exact hcs o _ h0
theorem size_setC (w : World) (p : Addr) (v : Value) : (w.setCell p v).heap.size = w.heap.size := by simp [World.setCell]
theorem BX.set8 {w : World} {a : Nat} {T : TypeId} {z0 z1 z2 z3 z4 z5 z6 z7 : Value} (h : BX w a T #[z0, z1, z2, z3, z4, z5, z6, z7]) (v0 v1 v2 v3 v4 v5 v6 v7 : Value) : BX ((((((((w.setCell ⟨a, 0, none⟩ v0).setCell ⟨a, 1, none⟩ v1).setCell ⟨a, 2, none⟩ v2).setCell ⟨a, 3, none⟩ v3).setCell ⟨a, 4, none⟩ v4).setCell ⟨a, 5, none⟩ v5).setCell ⟨a, 6, none⟩ v6).setCell ⟨a, 7, none⟩ v7) a T #[v0, v1, v2, v3, v4, v5, v6, v7] := by
  have h8 := ((((((((((((((((h).set 0 v0)).set 1 v1)).set 2 v2)).set 3 v3)).set 4 v4)).set 5 v5)).set 6 v6)).set 7 v7)
  simpa using h8
theorem RB.set8 {w : World} {a n : Nat} {A : Option Addr} {xs : List Int} (h : RB w w.heap.size A n xs) (hne : 0 < n → ∀ b o, A = some ⟨b, o, none⟩ → b ≠ a) (v0 v1 v2 v3 v4 v5 v6 v7 : Value) : RB ((((((((w.setCell ⟨a, 0, none⟩ v0).setCell ⟨a, 1, none⟩ v1).setCell ⟨a, 2, none⟩ v2).setCell ⟨a, 3, none⟩ v3).setCell ⟨a, 4, none⟩ v4).setCell ⟨a, 5, none⟩ v5).setCell ⟨a, 6, none⟩ v6).setCell ⟨a, 7, none⟩ v7) ((((((((w.setCell ⟨a, 0, none⟩ v0).setCell ⟨a, 1, none⟩ v1).setCell ⟨a, 2, none⟩ v2).setCell ⟨a, 3, none⟩ v3).setCell ⟨a, 4, none⟩ v4).setCell ⟨a, 5, none⟩ v5).setCell ⟨a, 6, none⟩ v6).setCell ⟨a, 7, none⟩ v7).heap.size A n xs := by
  have h8 := (RB.aside8 (RB.aside8 (RB.aside8 (RB.aside8 (RB.aside8 (RB.aside8 (RB.aside8 (RB.aside8 h hne 0 v0) hne 1 v1) hne 2 v2) hne 3 v3) hne 4 v4) hne 5 v5) hne 6 v6) hne 7 v7)
  refine h8.more ?_
  rw [size_setC, size_setC, size_setC, size_setC, size_setC, size_setC, size_setC, size_setC]
  exact Nat.le_refl _
theorem below_set8 {w0 w : World} {B a : Nat} (h : Below B w0 w) (hB : B ≤ a) (v0 v1 v2 v3 v4 v5 v6 v7 : Value) : Below B w0 ((((((((w.setCell ⟨a, 0, none⟩ v0).setCell ⟨a, 1, none⟩ v1).setCell ⟨a, 2, none⟩ v2).setCell ⟨a, 3, none⟩ v3).setCell ⟨a, 4, none⟩ v4).setCell ⟨a, 5, none⟩ v5).setCell ⟨a, 6, none⟩ v6).setCell ⟨a, 7, none⟩ v7) := (Below.setCell (Below.setCell (Below.setCell (Below.setCell (Below.setCell (Below.setCell (Below.setCell (Below.setCell h (p := ⟨a, 0, none⟩) hB v0) (p := ⟨a, 1, none⟩) hB v1) (p := ⟨a, 2, none⟩) hB v2) (p := ⟨a, 3, none⟩) hB v3) (p := ⟨a, 4, none⟩) hB v4) (p := ⟨a, 5, none⟩) hB v5) (p := ⟨a, 6, none⟩) hB v6) (p := ⟨a, 7, none⟩) hB v7)
theorem whole_walk8 (p l : ByteArray) (k m u g t : Int) (A : Option Addr) (n c : Nat) (xs : List Int) (w : World) (tb : Tab w) (sp : p.size ≤ maxLen) (sl : l.size ≤ maxLen) (k0 : -9223372036854775808 ≤ k) (k1 : k ≤ 9223372036854775807) (ha : RB w w.heap.size A n xs) (hx : Byt xs) (hc : n ≤ c) (hc2 : c ≤ maxLen) :
    Calls Tryz.prog 4 #[.agg #[.string p, .int .i64 k, .int .i64 m, .int .i64 u, .int .i64 g, .int .i64 t, .string l, .slice A n c]] w fun e w' => e = .returned (.bool true) ∧ Below w.heap.size w w' := by
  have AL := Lib.hid (fun W tb => alive8_any W tb)
  have TB := Lib.hid tb
  have far := fun W => mfar_any p l k m u g t A n c W sp sl (by omega)
  have the := fun W => mtheirs_any p l k m u g t A n c W
  have THE := Lib.hid the
  clear the
  cases hf : farM p l n with
  | true =>
    rw [hf] at far
    have FAR := Lib.hid far
    clear far tb ha hx
    go_enter Tryz.func4, Tryz.ntmps4
    go_wp2_with (first
      | (go_at_call 13; (with_reducible refine (FAR.out _).mono ?_); rintro e w1 ⟨rfl, hb1⟩; have HB1 := Lib.hid (mb_below hb1); clear hb1)
      | (go_at_call 8; (with_reducible refine (AL.out _ (TB.out.on HB1.out)).mono ?_); rintro e w2 ⟨rfl, hb2⟩))
    go_ret
    exact ⟨rfl, bthen HB1.out hb2⟩
  | false =>
    rw [hf] at far
    have FAR := Lib.hid far
    obtain ⟨p6, l6, n5⟩ := farM_no hf
    obtain ⟨q, hq⟩ := Sf.cut_ex p
    have hxl := ha.1
    have lay := fun W (h : Below w.heap.size w W) => mlay_any p l k m u g t A n c q xs W (tb.on h) ((ha.below h).more h.size) (by omega) (by omega) (by omega) hq
    by_cases hE : Mb.may p l k m u g t n = 0
    · have hE1 := hE
      rw [← hxl] at hE1
      have crc := fun W => mrecs_any p l k m u g t A n c q W (by omega) hq (by omega)
      obtain ⟨k5, k6, k7, k8⟩ := Mb.own_back hq hE1
      obtain ⟨r1, r2, r3⟩ := Mb.recB_len p l q
      obtain ⟨b1, b2, b3, b4, b5⟩ := Mb.from_back (xs := xs) hq hE1
      obtain ⟨_, h1, h4, hno, _⟩ := Mb.may_zero hE1
      obtain ⟨m0, m1, u0, u1, g0, g1, t0, t1⟩ := Mb.num_facts hno
      have rm := Mb.recs_mem (p := p) (l := l) (c := q)
      have rl := Mb.recs_len p l q
      have ol := Mb.own_len hq hE1
      have fl := Mb.fill_len xs
      have prs := Mb.pre_facts hq
      have nas := Mb.nam_facts hq
      have fis := Mb.first_size l
      have fro := fun (A2 B5 : Option Addr) (c2 c5 : Nat) W (hr : RL W W.heap.size B5 (Mb.recsL p l q).length (Mb.recsL p l q)) (hd : RB W W.heap.size A2 n xs) => mfrom_any (Mb.pre p q) (Mb.nam p q) (Mb.first l) m u g t (n : Int) (Mb.typ k) B5 (Mb.recsL p l q).length c5 (Mb.recsL p l q) A2 n c2 xs W hr (by omega) hd (by omega) (by omega) (by omega) (by omega) (fun r hr => by
        rcases rm r hr with rfl | rfl
        · show p.size ≤ 100000; omega
        · show l.size ≤ 100000; omega)
      unfold FromOk at fro
      rw [b1, b2, b3, b4, b5] at fro
      simp only [Mb.rS, Mb.rI, Mb.rX, if_true] at fro
      rw [hE, Mb.lay_eq8 hE1] at lay
      rw [hxl] at k5 k6 k7 k8
      unfold Hh.hdr at k6
      have hOe : Mb.ownB p l q k m u g t xs = Mb.hdrB p l q k m u g t n ++ Mb.fill xs := by unfold Mb.ownB; rw [hxl]
      rw [hOe] at lay ol
      have hfx : (Mb.fill xs).take n = xs := by unfold Mb.fill; rw [← hxl]; exact List.take_left
      clear hOe b1 b2 b3 b4 b5 rm hno h1 h4 m0 m1 u0 u1 g0 g1 t0 t1 prs nas fis hE1 hE hq
      generalize Mb.recB (Mb.recsL p l q) = RB8 at *
      generalize Mb.hdrB p l q k m u g t n = H8 at *
      generalize Mb.fill xs = F8 at *
      obtain ⟨R, hR⟩ : ∃ R, R = RB8.length := ⟨_, rfl⟩
      obtain ⟨d, hd⟩ : ∃ d, d = (n + 511) / 512 := ⟨_, rfl⟩
      obtain ⟨own, how⟩ : ∃ own, own = 512 + d * 512 := ⟨_, rfl⟩
      obtain ⟨T, hT⟩ : ∃ T, T = R + own := ⟨_, rfl⟩
      have hYL : (RB8 ++ (H8 ++ F8)).length = T := by rw [List.length_append, ← hR, hT, ol]; rw [hxl]; omega
      have hF8 : F8.length = d * 512 := by rw [fl, hxl, hd]
      -- what the two parts read as
      have ph := fun (W : World) (b o c3 : Nat) (hr : RB W W.heap.size (some ⟨b, o, none⟩) T (RB8 ++ (H8 ++ F8))) => (show RB W W.heap.size (some ⟨b, o + R, none⟩) 512 H8 from by
        have h := (hr.back (k := R) (by omega)).front (k := 512) (by omega)
        rw [hR, List.drop_left, ← k7, List.take_left] at h
        rw [hR, ← k7]
        exact h)
      have pd := fun (W : World) (b o c3 : Nat) (hr : RB W W.heap.size (some ⟨b, o, none⟩) T (RB8 ++ (H8 ++ F8))) => (show RB W W.heap.size (some ⟨b, o + (R + 512), none⟩) n xs from by
        have h := (hr.back (k := R + 512) (by omega)).front (k := n) (by omega)
        rw [← List.append_assoc, show R + 512 = (RB8 ++ H8).length from by rw [List.length_append, k7, hR], List.drop_left, hfx] at h
        rw [show R + 512 = (RB8 ++ H8).length from by rw [List.length_append, k7, hR]]
        exact h)
      have par := fun (A3 : Option Addr) (c3 : Nat) (W : World) (hr : RB W W.heap.size A3 512 H8) (h1 : 512 ≤ c3) (h2 : c3 ≤ maxLen) => hparse_any A3 512 c3 H8 W hr k8 h1 h2
      rw [k5, k6] at par
      have ow1 : ((n : Int) + 511).tdiv 512 = (d : Int) := by rw [Int.tdiv_eq_ediv_of_nonneg (by omega)]; omega
      have tm0 : ((T : Int)).tmod 512 = 0 := by rw [Int.tmod_eq_emod_of_nonneg (by omega)]; omega
      have tl : ¬ (T : Int) < ((512 : Int) + (d : Int) * 512) := by omega
      have fa1 : (T : Int) - ((512 : Int) + (d : Int) * 512) = (R : Int) := by omega
      have hd20 : d ≤ 20 := by omega
      have hRl : R ≤ 6000 := by omega
      have hTo : T ≤ 20000 := by omega
      have hg : (((512 : Int) + (d : Int) * 512) < T) ↔ (0 < ((Mb.recsL p l q).length : Int)) := by
        by_cases hL : Mb.recsL p l q = []
        · have := r3.2 hL
          rw [hL]
          simp
          omega
        · have h0 : ¬ RB8.length = 0 := fun h => hL (r3.1 h)
          have : 0 < (Mb.recsL p l q).length := List.length_pos_iff.2 hL
          constructor
          · intro _; omega
          · intro _; omega
      have smt : ∀ (A2 : Option Addr) (c2 : Nat) (W : World), Below w.heap.size w W → RB W W.heap.size A2 n xs → Calls Tryz.prog 12 #[.agg #[.string p, .int .i64 k, .int .i64 m, .int .i64 u, .int .i64 g, .int .i64 t, .string l, .slice A2 n c2], .agg #[.string p, .int .i64 k, .int .i64 m, .int .i64 u, .int .i64 g, .int .i64 t, .string l, .slice A n c]] W fun e w' => e = .returned (.bool true) ∧ Below W.heap.size W w' := fun A2 c2 W h hr => by
        have hh := msame_any p l k m u g t A2 n c2 p l k m u g t A n c xs xs W hr ((ha.below h).more h.size) hx hx (by omega) (by omega)
        rw [show sameM p l p l k m u g t k m u g t xs xs = true from by simp [sameM]] at hh
        exact hh
      have hdl : T - R = own := by omega
      generalize RB8 ++ (H8 ++ F8) = Y at *
      generalize Mb.recsL p l q = L at *
      have LAY := Lib.hid lay; have CRC := Lib.hid crc; have FRO := Lib.hid fro; have PH := Lib.hid ph; have PD := Lib.hid pd; have PAR := Lib.hid par; have SMT := Lib.hid smt; have HYL := Lib.hid hYL; have HG := Lib.hid hg.1; have HGB := Lib.hid hg.2; have HXL := Lib.hid hxl; have HT3 := Lib.hid (show R + 512 + n ≤ T by omega); have HOW := Lib.hid how; have HTR := Lib.hid hT
      have hTp : 0 < T := by omega
      have HTP := Lib.hid hTp
      clear far lay crc fro ph pd par smt hYL hg tb ha hx hf p6 l6 k5 k6 k7 k8 r1 r2 r3 rl ol fl hfx hF8 hdl hTp hR hT how hd
      go_enter Tryz.func4, Tryz.ntmps4
      go_upto_region 7 with (first
        | (go_at_call 13; (with_reducible refine (FAR.out _).mono ?_); rintro e w1 ⟨rfl, hb1⟩; have HA1 := Lib.hid (show Below (w.heap.size + 1) (w.alloc (.cells #[.string p, .int .i64 k, .int .i64 m, .int .i64 u, .int .i64 g, .int .i64 t, .string l, .slice A n c] 42)) w1 by simpa using hb1); have q0 : w1.cell? ⟨w.heap.size, 0, none⟩ = some (.string p) := (mbBox2 HA1.out).cell rfl; have q1 : w1.cell? ⟨w.heap.size, 1, none⟩ = some (.int .i64 k) := (mbBox2 HA1.out).cell rfl; have q2 : w1.cell? ⟨w.heap.size, 2, none⟩ = some (.int .i64 m) := (mbBox2 HA1.out).cell rfl; have q3 : w1.cell? ⟨w.heap.size, 3, none⟩ = some (.int .i64 u) := (mbBox2 HA1.out).cell rfl; have q4 : w1.cell? ⟨w.heap.size, 4, none⟩ = some (.int .i64 g) := (mbBox2 HA1.out).cell rfl; have q5 : w1.cell? ⟨w.heap.size, 5, none⟩ = some (.int .i64 t) := (mbBox2 HA1.out).cell rfl; have q6 : w1.cell? ⟨w.heap.size, 6, none⟩ = some (.string l) := (mbBox2 HA1.out).cell rfl; have q7 : w1.cell? ⟨w.heap.size, 7, none⟩ = some (.slice A n c) := (mbBox2 HA1.out).cell rfl; clear hb1)
        | (go_at_call 14; (with_reducible refine (LAY.out _ (mbLow2 HA2.out)).mono ?_); rintro e w3 ⟨v3, rfl, ho3, hb3⟩; have HA3 := Lib.hid (HA2.out.trans (hb3.mono (by have := HA2.out.size; simpa using this))); obtain ⟨A3, c3, rfl, hr3, hc3, hm3⟩ := ho3.rb; rw [HYL.out] at hr3 hc3 ⊢; obtain ⟨bb, oo, rfl, _, _⟩ := hr3.at0 HTP.out; have HR3 := Lib.hid hr3; have HC3 := Lib.hid hc3; have HM3 := Lib.hid hm3; have r0 : w3.cell? ⟨w.heap.size, 0, none⟩ = some (.string p) := (mbBox2 HA3.out).cell rfl; have r1 : w3.cell? ⟨w.heap.size, 1, none⟩ = some (.int .i64 k) := (mbBox2 HA3.out).cell rfl; have r2 : w3.cell? ⟨w.heap.size, 2, none⟩ = some (.int .i64 m) := (mbBox2 HA3.out).cell rfl; have r3 : w3.cell? ⟨w.heap.size, 3, none⟩ = some (.int .i64 u) := (mbBox2 HA3.out).cell rfl; have r4 : w3.cell? ⟨w.heap.size, 4, none⟩ = some (.int .i64 g) := (mbBox2 HA3.out).cell rfl; have r5 : w3.cell? ⟨w.heap.size, 5, none⟩ = some (.int .i64 t) := (mbBox2 HA3.out).cell rfl; have r6 : w3.cell? ⟨w.heap.size, 6, none⟩ = some (.string l) := (mbBox2 HA3.out).cell rfl; have r7 : w3.cell? ⟨w.heap.size, 7, none⟩ = some (.slice A n c) := (mbBox2 HA3.out).cell rfl; clear ho3 hb3 hr3 hc3 hm3)
        | (go_at_call 15; (with_reducible refine (CRC.out _).mono ?_); rintro e w5 ⟨v5, rfl, ho5, hb5⟩; have HA5 := Lib.hid (HA4.out.trans (hb5.mono (by have := HA4.out.size; simpa using this))); obtain ⟨B5, c5, rfl, hr5, hc5, _⟩ := RO.rlv ho5; have HR5 := Lib.hid hr5; have HS5 := Lib.hid ((HS4.out.below hb5).more hb5.size); have s0 : w5.cell? ⟨w.heap.size, 0, none⟩ = some (.string p) := (mbBox2 HA5.out).cell rfl; have s1 : w5.cell? ⟨w.heap.size, 1, none⟩ = some (.int .i64 k) := (mbBox2 HA5.out).cell rfl; have s2 : w5.cell? ⟨w.heap.size, 2, none⟩ = some (.int .i64 m) := (mbBox2 HA5.out).cell rfl; have s3 : w5.cell? ⟨w.heap.size, 3, none⟩ = some (.int .i64 u) := (mbBox2 HA5.out).cell rfl; have s4 : w5.cell? ⟨w.heap.size, 4, none⟩ = some (.int .i64 g) := (mbBox2 HA5.out).cell rfl; have s5 : w5.cell? ⟨w.heap.size, 5, none⟩ = some (.int .i64 t) := (mbBox2 HA5.out).cell rfl; have s6 : w5.cell? ⟨w.heap.size, 6, none⟩ = some (.string l) := (mbBox2 HA5.out).cell rfl; have s7 : w5.cell? ⟨w.heap.size, 7, none⟩ = some (.slice A n c) := (mbBox2 HA5.out).cell rfl; clear ho5 hb5 hr5)
        | (go_at_call 11; (first
            | ((with_reducible refine (THE.out w3).mono ?_); rintro e w4 ⟨rfl, hb4⟩; have HA4 := Lib.hid (HA3.out.trans (hb4.mono (by have := HA3.out.size; simpa using this))); have HS4 := Lib.hid ((HR3.out.below hb4).more hb4.size); clear hb4)
            | ((with_reducible refine (THE.out _).mono ?_); rintro e w2 ⟨rfl, hb2⟩; have HA2 := Lib.hid (HA1.out.trans (hb2.mono (by have := HA1.out.size; simpa using this))); clear hb2))))
      have hT1 : R + 512 ≤ T := by have h1 := HTR.out; have h2 := HOW.out; omega
      have hT3 : R + 512 + n ≤ T := HT3.out
      have hC3 := HC3.out
      have hM3 := HM3.out
      unfold maxLen at hM3
      by_cases hgt : ((512 : Int) + (d : Int) * 512) < (T : Int)
      · have hLp : decide (0 < L.length) = true := decide_eq_true (by have := HG.out hgt; omega)
        rcases Nat.eq_zero_or_pos n with hn0 | hn0
        · subst hn0
          have hd0 : (d : Int) = 0 := ow1.symm.trans (by decide)
          obtain rfl : d = 0 := by omega
          have fr0 := FRO.out
          rw [show ((0 : Nat) : Int) = 0 from rfl] at fr0
          have FRZ := Lib.hid fr0
          clear fr0 FRO
          have hgt2 : (512 : Int) < (T : Int) := by omega
          have fa0 : (T : Int) - 512 = (R : Int) := by omega
          have tl2 : ¬ (T : Int) < 512 := by omega
          clear ow1 hd0 fa1 tl hgt
          by_cases hcc : c3 = R + 512
          · have fa2 : ¬ c3 = R := by omega
            go_upto_region 11 with (go_at_call 16; (with_reducible refine (PAR.out _ _ _ (PH.out _ bb oo c3 HS5.out) (by omega) (by unfold maxLen; omega)).mono ?_); rintro e w6 ⟨rfl, hb6⟩; have HB6 := Lib.hid hb6; clear hb6)
            clear q0 q1 q2 q3 q4 q5 q6 q7 r0 r1 r2 r3 r4 r5 r6 r7 s0 s1 s2 s3 s4 s5 s6 s7
            obtain ⟨gh, hgh⟩ : ∃ gh, gh = w6.heap.size := ⟨_, rfl⟩
            obtain ⟨W7, hW7⟩ : ∃ W7, W7 = w6.alloc (.cells #[.string (Mb.pre p q), .string (Mb.nam p q), .int .i64 m, .int .i64 u, .int .i64 g, .int .i64 t, .int .i64 0, .int .u8 (Mb.typ k), .string (Mb.first l)] 40) := ⟨_, rfl⟩
            have BH7 := Lib.hid (show BX W7 gh 40 #[.string (Mb.pre p q), .string (Mb.nam p q), .int .i64 m, .int .i64 u, .int .i64 g, .int .i64 t, .int .i64 0, .int .u8 (Mb.typ k), .string (Mb.first l)] by rw [hW7, hgh]; exact BX.new _ _ _)
            have B57 := Lib.hid (show Below w5.heap.size w5 W7 by rw [hW7]; exact HB6.out.alloc HB6.out.size _)
            rw [← hW7, ← hgh]
            clear hW7 hgh HB6
            have SZ5 := Lib.hid (show w.heap.size + 1 ≤ w5.heap.size by have := HA5.out.size; simpa using this)
            have HA7 := Lib.hid (HA5.out.trans (B57.out.mono SZ5.out))
            have SZ7 := Lib.hid (show w.heap.size + 1 ≤ W7.heap.size by have := HA7.out.size; simpa using this)
            have HR7 := Lib.hid (fun W (h : Below W7.heap.size W7 W) => (HR5.out.below (B57.out.trans (h.mono B57.out.size))).more (B' := W.heap.size) (by have h1 := B57.out.size; have h2 := h.size; omega))
            have HS7 := Lib.hid (fun W (h : Below W7.heap.size W7 W) => (HS5.out.below (B57.out.trans (h.mono B57.out.size))).more (B' := W.heap.size) (by have h1 := B57.out.size; have h2 := h.size; omega))
            have DAT := Lib.hid (fun (W : World) (A2 : Option Addr) => (show RB W W.heap.size A2 0 xs from ⟨HXL.out, fun h => absurd h (by omega)⟩))
            have fa3 : IntKind.i64.wrap (R : Int) = (R : Int) := by exact IntWalk.i64_in _ (by omega)
            have fa4 : IntKind.i64.wrap ((R : Int) + 512) = (R : Int) + 512 := IntWalk.i64_in _ (by omega)
            have fa5 : ((R : Int) + 512).toNat = R + 512 := by omega
            have fa6 : (0 : Int) ≤ (R : Int) + 512 := by omega
            have fa7 : R + 512 ≤ T := by omega
            have fa8 : R + 512 ≤ c3 := by omega
            have fa9 : R + 512 + 0 ≤ c3 := by omega
            have fa10 : (0 : Nat) ≤ c3 - (R + 512) := by omega
            have fa11 : (R : Int) + 512 ≤ (T : Int) := by omega
            have fa12 : (R : Int) + 512 ≤ (c3 : Int) := by omega
            have fa13 : ((0 : Nat) : Int) ≤ ((c3 - (R + 512) : Nat) : Int) := by omega
            have alls : ∀ W, Below W7.heap.size W7 W → W.cell? ⟨w.heap.size, 7, none⟩ = some (.slice A 0 c) ∧ W.cell? ⟨gh, 0, none⟩ = some (.string (Mb.pre p q)) ∧ W.cell? ⟨gh, 1, none⟩ = some (.string (Mb.nam p q)) ∧ W.cell? ⟨gh, 2, none⟩ = some (.int .i64 m) ∧ W.cell? ⟨gh, 3, none⟩ = some (.int .i64 u) ∧ W.cell? ⟨gh, 4, none⟩ = some (.int .i64 g) ∧ W.cell? ⟨gh, 5, none⟩ = some (.int .i64 t) ∧ W.cell? ⟨gh, 6, none⟩ = some (.int .i64 0) ∧ W.cell? ⟨gh, 7, none⟩ = some (.int .u8 (Mb.typ k)) ∧ W.cell? ⟨gh, 8, none⟩ = some (.string (Mb.first l)) := fun W hW => by
              have b := mbBox2 (HA7.out.trans (hW.mono SZ7.out))
              have d := BH7.out.later hW
              exact ⟨b.cell rfl, d.cell rfl, d.cell rfl, d.cell rfl, d.cell rfl, d.cell rfl, d.cell rfl, d.cell rfl, d.cell rfl, d.cell rfl⟩
            have ALLS := Lib.hid alls
            clear alls
            go_cut [9, 10] (fun v e wx => ∃ gx A8 c8, v = .pointer (some ⟨gx, 0, none⟩) ∧ e = .int .i64 0 ∧ Hid (BX wx gx 35 #[.string p, .int .i64 k, .int .i64 m, .int .i64 u, .int .i64 g, .int .i64 t, .string l, .slice A8 0 c8]) ∧ Hid (RB wx wx.heap.size A8 0 xs) ∧ Hid (Below W7.heap.size W7 wx))
            case first =>
              have hacc : Below W7.heap.size W7 W7.drew := below_drewN (Below.refl _ _) 1
              obtain ⟨y0, y1, y2, y3, y4, y5, y6, y7, y8, y9⟩ := ALLS.out _ hacc
              obtain ⟨x0, x1, x2, x3, x4, x5, x6, x7, x8, x9⟩ := ALLS.out _ (Below.refl W7.heap.size W7)
              have hne0 : W7.heap.size ≠ w.heap.size := by have := SZ7.out; omega
              have hne1 : W7.heap.size ≠ gh := by have := BH7.out.lt; omega
              go_region_held3 (fun w' => w'.cell? ⟨w.heap.size, 7, none⟩ = some (.slice A 0 c) ∧ w'.cell? ⟨gh, 0, none⟩ = some (.string (Mb.pre p q)) ∧ w'.cell? ⟨gh, 1, none⟩ = some (.string (Mb.nam p q)) ∧ w'.cell? ⟨gh, 2, none⟩ = some (.int .i64 m) ∧ w'.cell? ⟨gh, 3, none⟩ = some (.int .i64 u) ∧ w'.cell? ⟨gh, 4, none⟩ = some (.int .i64 g) ∧ w'.cell? ⟨gh, 5, none⟩ = some (.int .i64 t) ∧ w'.cell? ⟨gh, 6, none⟩ = some (.int .i64 0) ∧ w'.cell? ⟨gh, 7, none⟩ = some (.int .u8 (Mb.typ k)) ∧ w'.cell? ⟨gh, 8, none⟩ = some (.string (Mb.first l))) (first | go_keep | (exact ALLS.out _ hacc) | (exact ALLS.out _ (hacc.alloc hacc.size _))) (first
                | (go_at_call 9; (with_reducible refine (FRZ.out _ _ _ _ _ (by first | exact HR7.out _ hacc | exact HR7.out _ (mb_new W7 _).drew | exact HR7.out _ (hacc.alloc hacc.size _)) (DAT.out _ _)).mono ?_); rintro e w8 ⟨A8, n8, c8, rfl, hr8, hc8, hm8, hb8⟩; obtain rfl : n8 = 0 := (by have h1 := hr8.1; have h2 := HXL.out; omega); have HR8 := Lib.hid hr8; (first | (replace hacc := bthen hacc hb8; have hne2 : w8.heap.size ≠ w.heap.size := (by have h1 := hacc.size; have h2 := SZ7.out; omega); have hne3 : w8.heap.size ≠ gh := (by have h1 := hacc.size; have h2 := BH7.out.lt; omega)) | (have bz : BX w8 W7.heap.size 35 #[.string ⟨#[]⟩, .int .i64 0, .int .i64 0, .int .i64 0, .int .i64 0, .int .i64 0, .string ⟨#[]⟩, .slice none 0 0] := (by have h := (BX.drew (BX.new _ _ _)).later hb8; simpa using h); have apt := Lib.hid (RB.apart8 hr8 bz zero_cells8); replace hacc := ((mb_new W7 (.cells #[.string ⟨#[]⟩, .int .i64 0, .int .i64 0, .int .i64 0, .int .i64 0, .int .i64 0, .string ⟨#[]⟩, .slice none 0 0] 35)).drew).trans (Below.mono hb8 (by simp <;> omega)); have z0 : w8.cell? ⟨W7.heap.size, 0, none⟩ = some (.string ⟨#[]⟩) := bz.cell rfl; have f0 := bz.free 0; have z1 : w8.cell? ⟨W7.heap.size, 1, none⟩ = some (.int .i64 0) := bz.cell rfl; have f1 := bz.free 1; have z2 : w8.cell? ⟨W7.heap.size, 2, none⟩ = some (.int .i64 0) := bz.cell rfl; have f2 := bz.free 2; have z3 : w8.cell? ⟨W7.heap.size, 3, none⟩ = some (.int .i64 0) := bz.cell rfl; have f3 := bz.free 3; have z4 : w8.cell? ⟨W7.heap.size, 4, none⟩ = some (.int .i64 0) := bz.cell rfl; have f4 := bz.free 4; have z5 : w8.cell? ⟨W7.heap.size, 5, none⟩ = some (.int .i64 0) := bz.cell rfl; have f5 := bz.free 5; have z6 : w8.cell? ⟨W7.heap.size, 6, none⟩ = some (.string ⟨#[]⟩) := bz.cell rfl; have f6 := bz.free 6; have z7 : w8.cell? ⟨W7.heap.size, 7, none⟩ = some (.slice none 0 0) := bz.cell rfl; have f7 := bz.free 7)); clear hb8 hr8))
              all_goals
                go_wp2
                go_meet
                first
                  | exact ⟨W7.heap.size, A8, c8, rfl, rfl, bz.set8 _ _ _ _ _ _ _ _, HR8.out.set8 apt.out _ _ _ _ _ _ _ _, below_set8 hacc (Nat.le_refl _) _ _ _ _ _ _ _ _⟩
                  | exact ⟨w8.heap.size, A8, c8, rfl, rfl, BX.new _ _ _, (HR8.out.alloc (Nat.le_refl _) _).more (by simp), hacc.alloc hacc.size _⟩
            case rest =>
              obtain ⟨gx, A8, c8, rfl, rfl, BX8, RB9, B78⟩ := hcut
              have SZc := Lib.hid (show w.heap.size + 1 ≤ wc.heap.size by have h1 := B78.out.size; have h2 := SZ7.out; omega)
              have HAc := Lib.hid (HA7.out.trans (B78.out.mono SZ7.out))
              have alls : ∀ W, Below wc.heap.size wc W → W.cell? ⟨gx, 0, none⟩ = some (.string p) ∧ W.cell? ⟨gx, 1, none⟩ = some (.int .i64 k) ∧ W.cell? ⟨gx, 2, none⟩ = some (.int .i64 m) ∧ W.cell? ⟨gx, 3, none⟩ = some (.int .i64 u) ∧ W.cell? ⟨gx, 4, none⟩ = some (.int .i64 g) ∧ W.cell? ⟨gx, 5, none⟩ = some (.int .i64 t) ∧ W.cell? ⟨gx, 6, none⟩ = some (.string l) ∧ W.cell? ⟨gx, 7, none⟩ = some (.slice A8 0 c8) ∧ W.cell? ⟨w.heap.size, 0, none⟩ = some (.string p) ∧ W.cell? ⟨w.heap.size, 1, none⟩ = some (.int .i64 k) ∧ W.cell? ⟨w.heap.size, 2, none⟩ = some (.int .i64 m) ∧ W.cell? ⟨w.heap.size, 3, none⟩ = some (.int .i64 u) ∧ W.cell? ⟨w.heap.size, 4, none⟩ = some (.int .i64 g) ∧ W.cell? ⟨w.heap.size, 5, none⟩ = some (.int .i64 t) ∧ W.cell? ⟨w.heap.size, 6, none⟩ = some (.string l) ∧ W.cell? ⟨w.heap.size, 7, none⟩ = some (.slice A 0 c) ∧ W.cell? ⟨gh, 6, none⟩ = some (.int .i64 0) := fun W hW => by
                have a := BX8.out.later hW
                have b := mbBox2 (HAc.out.trans (hW.mono SZc.out))
                have d := BH7.out.later (B78.out.trans (hW.mono B78.out.size))
                exact ⟨a.cell rfl, a.cell rfl, a.cell rfl, a.cell rfl, a.cell rfl, a.cell rfl, a.cell rfl, a.cell rfl, b.cell rfl, b.cell rfl, b.cell rfl, b.cell rfl, b.cell rfl, b.cell rfl, b.cell rfl, b.cell rfl, d.cell rfl⟩
              have ALLC := Lib.hid alls
              clear alls
              have LOW := Lib.hid (fun W (h : Below wc.heap.size wc W) => mbLow2 (HAc.out.trans (h.mono SZc.out)))
              go_upto_region 12 with (fail)
              have hacc : Below wc.heap.size wc wc.drew := below_drewN (Below.refl _ _) 1
              obtain ⟨y0, y1, y2, y3, y4, y5, y6, y7, y8, y9, y10, y11, y12, y13, y14, y15, y16⟩ := ALLC.out _ hacc
              go_region_held3 (fun w' => w'.cell? ⟨gx, 0, none⟩ = some (.string p) ∧ w'.cell? ⟨gx, 1, none⟩ = some (.int .i64 k) ∧ w'.cell? ⟨gx, 2, none⟩ = some (.int .i64 m) ∧ w'.cell? ⟨gx, 3, none⟩ = some (.int .i64 u) ∧ w'.cell? ⟨gx, 4, none⟩ = some (.int .i64 g) ∧ w'.cell? ⟨gx, 5, none⟩ = some (.int .i64 t) ∧ w'.cell? ⟨gx, 6, none⟩ = some (.string l) ∧ w'.cell? ⟨gx, 7, none⟩ = some (.slice A8 0 c8) ∧ w'.cell? ⟨w.heap.size, 0, none⟩ = some (.string p) ∧ w'.cell? ⟨w.heap.size, 1, none⟩ = some (.int .i64 k) ∧ w'.cell? ⟨w.heap.size, 2, none⟩ = some (.int .i64 m) ∧ w'.cell? ⟨w.heap.size, 3, none⟩ = some (.int .i64 u) ∧ w'.cell? ⟨w.heap.size, 4, none⟩ = some (.int .i64 g) ∧ w'.cell? ⟨w.heap.size, 5, none⟩ = some (.int .i64 t) ∧ w'.cell? ⟨w.heap.size, 6, none⟩ = some (.string l) ∧ w'.cell? ⟨w.heap.size, 7, none⟩ = some (.slice A 0 c) ∧ w'.cell? ⟨gh, 6, none⟩ = some (.int .i64 0)) (first | go_keep | (exact ALLC.out _ hacc)) (first
                | (go_at_call 11; (with_reducible refine (THE.out _).mono ?_); rintro e w9 ⟨rfl, hb9⟩; replace hacc := bthen hacc hb9)
                | (go_at_call 12; (with_reducible refine (SMT.out _ _ _ (LOW.out _ hacc) ((RB9.out.below hacc).more hacc.size)).mono ?_); rintro e w10 ⟨rfl, hb10⟩; replace hacc := bthen hacc hb10)
                | (go_at_call 8; (with_reducible refine (AL.out _ (TB.out.on (LOW.out _ hacc))).mono ?_); rintro e w11 ⟨rfl, hb11⟩; replace hacc := bthen hacc hb11))
              all_goals
                go_wp2
                go_ret
                exact ⟨ret_bool (by simp), LOW.out _ hacc⟩
          · have fa2 : ¬ c3 = R := by omega
            go_upto_region 11 with (go_at_call 16; (with_reducible refine (PAR.out _ _ _ (PH.out _ bb oo c3 HS5.out) (by omega) (by unfold maxLen; omega)).mono ?_); rintro e w6 ⟨rfl, hb6⟩; have HB6 := Lib.hid hb6; clear hb6)
            clear q0 q1 q2 q3 q4 q5 q6 q7 r0 r1 r2 r3 r4 r5 r6 r7 s0 s1 s2 s3 s4 s5 s6 s7
            obtain ⟨gh, hgh⟩ : ∃ gh, gh = w6.heap.size := ⟨_, rfl⟩
            obtain ⟨W7, hW7⟩ : ∃ W7, W7 = w6.alloc (.cells #[.string (Mb.pre p q), .string (Mb.nam p q), .int .i64 m, .int .i64 u, .int .i64 g, .int .i64 t, .int .i64 0, .int .u8 (Mb.typ k), .string (Mb.first l)] 40) := ⟨_, rfl⟩
            have BH7 := Lib.hid (show BX W7 gh 40 #[.string (Mb.pre p q), .string (Mb.nam p q), .int .i64 m, .int .i64 u, .int .i64 g, .int .i64 t, .int .i64 0, .int .u8 (Mb.typ k), .string (Mb.first l)] by rw [hW7, hgh]; exact BX.new _ _ _)
            have B57 := Lib.hid (show Below w5.heap.size w5 W7 by rw [hW7]; exact HB6.out.alloc HB6.out.size _)
            rw [← hW7, ← hgh]
            clear hW7 hgh HB6
            have SZ5 := Lib.hid (show w.heap.size + 1 ≤ w5.heap.size by have := HA5.out.size; simpa using this)
            have HA7 := Lib.hid (HA5.out.trans (B57.out.mono SZ5.out))
            have SZ7 := Lib.hid (show w.heap.size + 1 ≤ W7.heap.size by have := HA7.out.size; simpa using this)
            have HR7 := Lib.hid (fun W (h : Below W7.heap.size W7 W) => (HR5.out.below (B57.out.trans (h.mono B57.out.size))).more (B' := W.heap.size) (by have h1 := B57.out.size; have h2 := h.size; omega))
            have HS7 := Lib.hid (fun W (h : Below W7.heap.size W7 W) => (HS5.out.below (B57.out.trans (h.mono B57.out.size))).more (B' := W.heap.size) (by have h1 := B57.out.size; have h2 := h.size; omega))
            have DAT := Lib.hid (fun (W : World) (A2 : Option Addr) => (show RB W W.heap.size A2 0 xs from ⟨HXL.out, fun h => absurd h (by omega)⟩))
            have fa3 : IntKind.i64.wrap (R : Int) = (R : Int) := by exact IntWalk.i64_in _ (by omega)
            have fa4 : IntKind.i64.wrap ((R : Int) + 512) = (R : Int) + 512 := IntWalk.i64_in _ (by omega)
            have fa5 : ((R : Int) + 512).toNat = R + 512 := by omega
            have fa6 : (0 : Int) ≤ (R : Int) + 512 := by omega
            have fa7 : R + 512 ≤ T := by omega
            have fa8 : R + 512 ≤ c3 := by omega
            have fa9 : R + 512 + 0 ≤ c3 := by omega
            have fa10 : (0 : Nat) ≤ c3 - (R + 512) := by omega
            have fa11 : (R : Int) + 512 ≤ (T : Int) := by omega
            have fa12 : (R : Int) + 512 ≤ (c3 : Int) := by omega
            have fa13 : ((0 : Nat) : Int) ≤ ((c3 - (R + 512) : Nat) : Int) := by omega
            have alls : ∀ W, Below W7.heap.size W7 W → W.cell? ⟨w.heap.size, 7, none⟩ = some (.slice A 0 c) ∧ W.cell? ⟨gh, 0, none⟩ = some (.string (Mb.pre p q)) ∧ W.cell? ⟨gh, 1, none⟩ = some (.string (Mb.nam p q)) ∧ W.cell? ⟨gh, 2, none⟩ = some (.int .i64 m) ∧ W.cell? ⟨gh, 3, none⟩ = some (.int .i64 u) ∧ W.cell? ⟨gh, 4, none⟩ = some (.int .i64 g) ∧ W.cell? ⟨gh, 5, none⟩ = some (.int .i64 t) ∧ W.cell? ⟨gh, 6, none⟩ = some (.int .i64 0) ∧ W.cell? ⟨gh, 7, none⟩ = some (.int .u8 (Mb.typ k)) ∧ W.cell? ⟨gh, 8, none⟩ = some (.string (Mb.first l)) := fun W hW => by
              have b := mbBox2 (HA7.out.trans (hW.mono SZ7.out))
              have d := BH7.out.later hW
              exact ⟨b.cell rfl, d.cell rfl, d.cell rfl, d.cell rfl, d.cell rfl, d.cell rfl, d.cell rfl, d.cell rfl, d.cell rfl, d.cell rfl⟩
            have ALLS := Lib.hid alls
            clear alls
            go_cut [9, 10] (fun v e wx => ∃ gx A8 c8, v = .pointer (some ⟨gx, 0, none⟩) ∧ e = .int .i64 0 ∧ Hid (BX wx gx 35 #[.string p, .int .i64 k, .int .i64 m, .int .i64 u, .int .i64 g, .int .i64 t, .string l, .slice A8 0 c8]) ∧ Hid (RB wx wx.heap.size A8 0 xs) ∧ Hid (Below W7.heap.size W7 wx))
            case first =>
              have hacc : Below W7.heap.size W7 W7.drew := below_drewN (Below.refl _ _) 1
              obtain ⟨y0, y1, y2, y3, y4, y5, y6, y7, y8, y9⟩ := ALLS.out _ hacc
              obtain ⟨x0, x1, x2, x3, x4, x5, x6, x7, x8, x9⟩ := ALLS.out _ (Below.refl W7.heap.size W7)
              have hne0 : W7.heap.size ≠ w.heap.size := by have := SZ7.out; omega
              have hne1 : W7.heap.size ≠ gh := by have := BH7.out.lt; omega
              go_region_held3 (fun w' => w'.cell? ⟨w.heap.size, 7, none⟩ = some (.slice A 0 c) ∧ w'.cell? ⟨gh, 0, none⟩ = some (.string (Mb.pre p q)) ∧ w'.cell? ⟨gh, 1, none⟩ = some (.string (Mb.nam p q)) ∧ w'.cell? ⟨gh, 2, none⟩ = some (.int .i64 m) ∧ w'.cell? ⟨gh, 3, none⟩ = some (.int .i64 u) ∧ w'.cell? ⟨gh, 4, none⟩ = some (.int .i64 g) ∧ w'.cell? ⟨gh, 5, none⟩ = some (.int .i64 t) ∧ w'.cell? ⟨gh, 6, none⟩ = some (.int .i64 0) ∧ w'.cell? ⟨gh, 7, none⟩ = some (.int .u8 (Mb.typ k)) ∧ w'.cell? ⟨gh, 8, none⟩ = some (.string (Mb.first l))) (first | go_keep | (exact ALLS.out _ hacc) | (exact ALLS.out _ (hacc.alloc hacc.size _))) (first
                | (go_at_call 9; (with_reducible refine (FRZ.out _ _ _ _ _ (by first | exact HR7.out _ hacc | exact HR7.out _ (mb_new W7 _).drew | exact HR7.out _ (hacc.alloc hacc.size _)) (DAT.out _ _)).mono ?_); rintro e w8 ⟨A8, n8, c8, rfl, hr8, hc8, hm8, hb8⟩; obtain rfl : n8 = 0 := (by have h1 := hr8.1; have h2 := HXL.out; omega); have HR8 := Lib.hid hr8; (first | (replace hacc := bthen hacc hb8; have hne2 : w8.heap.size ≠ w.heap.size := (by have h1 := hacc.size; have h2 := SZ7.out; omega); have hne3 : w8.heap.size ≠ gh := (by have h1 := hacc.size; have h2 := BH7.out.lt; omega)) | (have bz : BX w8 W7.heap.size 35 #[.string ⟨#[]⟩, .int .i64 0, .int .i64 0, .int .i64 0, .int .i64 0, .int .i64 0, .string ⟨#[]⟩, .slice none 0 0] := (by have h := (BX.drew (BX.new _ _ _)).later hb8; simpa using h); have apt := Lib.hid (RB.apart8 hr8 bz zero_cells8); replace hacc := ((mb_new W7 (.cells #[.string ⟨#[]⟩, .int .i64 0, .int .i64 0, .int .i64 0, .int .i64 0, .int .i64 0, .string ⟨#[]⟩, .slice none 0 0] 35)).drew).trans (Below.mono hb8 (by simp <;> omega)); have z0 : w8.cell? ⟨W7.heap.size, 0, none⟩ = some (.string ⟨#[]⟩) := bz.cell rfl; have f0 := bz.free 0; have z1 : w8.cell? ⟨W7.heap.size, 1, none⟩ = some (.int .i64 0) := bz.cell rfl; have f1 := bz.free 1; have z2 : w8.cell? ⟨W7.heap.size, 2, none⟩ = some (.int .i64 0) := bz.cell rfl; have f2 := bz.free 2; have z3 : w8.cell? ⟨W7.heap.size, 3, none⟩ = some (.int .i64 0) := bz.cell rfl; have f3 := bz.free 3; have z4 : w8.cell? ⟨W7.heap.size, 4, none⟩ = some (.int .i64 0) := bz.cell rfl; have f4 := bz.free 4; have z5 : w8.cell? ⟨W7.heap.size, 5, none⟩ = some (.int .i64 0) := bz.cell rfl; have f5 := bz.free 5; have z6 : w8.cell? ⟨W7.heap.size, 6, none⟩ = some (.string ⟨#[]⟩) := bz.cell rfl; have f6 := bz.free 6; have z7 : w8.cell? ⟨W7.heap.size, 7, none⟩ = some (.slice none 0 0) := bz.cell rfl; have f7 := bz.free 7)); clear hb8 hr8))
              all_goals
                go_wp2
                go_meet
                first
                  | exact ⟨W7.heap.size, A8, c8, rfl, rfl, bz.set8 _ _ _ _ _ _ _ _, HR8.out.set8 apt.out _ _ _ _ _ _ _ _, below_set8 hacc (Nat.le_refl _) _ _ _ _ _ _ _ _⟩
                  | exact ⟨w8.heap.size, A8, c8, rfl, rfl, BX.new _ _ _, (HR8.out.alloc (Nat.le_refl _) _).more (by simp), hacc.alloc hacc.size _⟩
            case rest =>
              obtain ⟨gx, A8, c8, rfl, rfl, BX8, RB9, B78⟩ := hcut
              have SZc := Lib.hid (show w.heap.size + 1 ≤ wc.heap.size by have h1 := B78.out.size; have h2 := SZ7.out; omega)
              have HAc := Lib.hid (HA7.out.trans (B78.out.mono SZ7.out))
              have alls : ∀ W, Below wc.heap.size wc W → W.cell? ⟨gx, 0, none⟩ = some (.string p) ∧ W.cell? ⟨gx, 1, none⟩ = some (.int .i64 k) ∧ W.cell? ⟨gx, 2, none⟩ = some (.int .i64 m) ∧ W.cell? ⟨gx, 3, none⟩ = some (.int .i64 u) ∧ W.cell? ⟨gx, 4, none⟩ = some (.int .i64 g) ∧ W.cell? ⟨gx, 5, none⟩ = some (.int .i64 t) ∧ W.cell? ⟨gx, 6, none⟩ = some (.string l) ∧ W.cell? ⟨gx, 7, none⟩ = some (.slice A8 0 c8) ∧ W.cell? ⟨w.heap.size, 0, none⟩ = some (.string p) ∧ W.cell? ⟨w.heap.size, 1, none⟩ = some (.int .i64 k) ∧ W.cell? ⟨w.heap.size, 2, none⟩ = some (.int .i64 m) ∧ W.cell? ⟨w.heap.size, 3, none⟩ = some (.int .i64 u) ∧ W.cell? ⟨w.heap.size, 4, none⟩ = some (.int .i64 g) ∧ W.cell? ⟨w.heap.size, 5, none⟩ = some (.int .i64 t) ∧ W.cell? ⟨w.heap.size, 6, none⟩ = some (.string l) ∧ W.cell? ⟨w.heap.size, 7, none⟩ = some (.slice A 0 c) ∧ W.cell? ⟨gh, 6, none⟩ = some (.int .i64 0) := fun W hW => by
                have a := BX8.out.later hW
                have b := mbBox2 (HAc.out.trans (hW.mono SZc.out))
                have d := BH7.out.later (B78.out.trans (hW.mono B78.out.size))
                exact ⟨a.cell rfl, a.cell rfl, a.cell rfl, a.cell rfl, a.cell rfl, a.cell rfl, a.cell rfl, a.cell rfl, b.cell rfl, b.cell rfl, b.cell rfl, b.cell rfl, b.cell rfl, b.cell rfl, b.cell rfl, b.cell rfl, d.cell rfl⟩
              have ALLC := Lib.hid alls
              clear alls
              have LOW := Lib.hid (fun W (h : Below wc.heap.size wc W) => mbLow2 (HAc.out.trans (h.mono SZc.out)))
              go_upto_region 12 with (fail)
              have hacc : Below wc.heap.size wc wc.drew := below_drewN (Below.refl _ _) 1
              obtain ⟨y0, y1, y2, y3, y4, y5, y6, y7, y8, y9, y10, y11, y12, y13, y14, y15, y16⟩ := ALLC.out _ hacc
              go_region_held3 (fun w' => w'.cell? ⟨gx, 0, none⟩ = some (.string p) ∧ w'.cell? ⟨gx, 1, none⟩ = some (.int .i64 k) ∧ w'.cell? ⟨gx, 2, none⟩ = some (.int .i64 m) ∧ w'.cell? ⟨gx, 3, none⟩ = some (.int .i64 u) ∧ w'.cell? ⟨gx, 4, none⟩ = some (.int .i64 g) ∧ w'.cell? ⟨gx, 5, none⟩ = some (.int .i64 t) ∧ w'.cell? ⟨gx, 6, none⟩ = some (.string l) ∧ w'.cell? ⟨gx, 7, none⟩ = some (.slice A8 0 c8) ∧ w'.cell? ⟨w.heap.size, 0, none⟩ = some (.string p) ∧ w'.cell? ⟨w.heap.size, 1, none⟩ = some (.int .i64 k) ∧ w'.cell? ⟨w.heap.size, 2, none⟩ = some (.int .i64 m) ∧ w'.cell? ⟨w.heap.size, 3, none⟩ = some (.int .i64 u) ∧ w'.cell? ⟨w.heap.size, 4, none⟩ = some (.int .i64 g) ∧ w'.cell? ⟨w.heap.size, 5, none⟩ = some (.int .i64 t) ∧ w'.cell? ⟨w.heap.size, 6, none⟩ = some (.string l) ∧ w'.cell? ⟨w.heap.size, 7, none⟩ = some (.slice A 0 c) ∧ w'.cell? ⟨gh, 6, none⟩ = some (.int .i64 0)) (first | go_keep | (exact ALLC.out _ hacc)) (first
                | (go_at_call 11; (with_reducible refine (THE.out _).mono ?_); rintro e w9 ⟨rfl, hb9⟩; replace hacc := bthen hacc hb9)
                | (go_at_call 12; (with_reducible refine (SMT.out _ _ _ (LOW.out _ hacc) ((RB9.out.below hacc).more hacc.size)).mono ?_); rintro e w10 ⟨rfl, hb10⟩; replace hacc := bthen hacc hb10)
                | (go_at_call 8; (with_reducible refine (AL.out _ (TB.out.on (LOW.out _ hacc))).mono ?_); rintro e w11 ⟨rfl, hb11⟩; replace hacc := bthen hacc hb11))
              all_goals
                go_wp2
                go_ret
                exact ⟨ret_bool (by simp), LOW.out _ hacc⟩
        · have hcc : ¬ c3 = R + 512 := by omega
          have fa2 : ¬ c3 = R := by omega
          go_upto_region 11 with (go_at_call 16; (with_reducible refine (PAR.out _ _ _ (PH.out _ bb oo c3 HS5.out) (by omega) (by unfold maxLen; omega)).mono ?_); rintro e w6 ⟨rfl, hb6⟩; have HB6 := Lib.hid hb6; clear hb6)
          clear q0 q1 q2 q3 q4 q5 q6 q7 r0 r1 r2 r3 r4 r5 r6 r7 s0 s1 s2 s3 s4 s5 s6 s7
          obtain ⟨gh, hgh⟩ : ∃ gh, gh = w6.heap.size := ⟨_, rfl⟩
          obtain ⟨W7, hW7⟩ : ∃ W7, W7 = w6.alloc (.cells #[.string (Mb.pre p q), .string (Mb.nam p q), .int .i64 m, .int .i64 u, .int .i64 g, .int .i64 t, .int .i64 n, .int .u8 (Mb.typ k), .string (Mb.first l)] 40) := ⟨_, rfl⟩
          have BH7 := Lib.hid (show BX W7 gh 40 #[.string (Mb.pre p q), .string (Mb.nam p q), .int .i64 m, .int .i64 u, .int .i64 g, .int .i64 t, .int .i64 n, .int .u8 (Mb.typ k), .string (Mb.first l)] by rw [hW7, hgh]; exact BX.new _ _ _)
          have B57 := Lib.hid (show Below w5.heap.size w5 W7 by rw [hW7]; exact HB6.out.alloc HB6.out.size _)
          rw [← hW7, ← hgh]
          clear hW7 hgh HB6
          have SZ5 := Lib.hid (show w.heap.size + 1 ≤ w5.heap.size by have := HA5.out.size; simpa using this)
          have HA7 := Lib.hid (HA5.out.trans (B57.out.mono SZ5.out))
          have SZ7 := Lib.hid (show w.heap.size + 1 ≤ W7.heap.size by have := HA7.out.size; simpa using this)
          have HR7 := Lib.hid (fun W (h : Below W7.heap.size W7 W) => (HR5.out.below (B57.out.trans (h.mono B57.out.size))).more (B' := W.heap.size) (by have h1 := B57.out.size; have h2 := h.size; omega))
          have HS7 := Lib.hid (fun W (h : Below W7.heap.size W7 W) => (HS5.out.below (B57.out.trans (h.mono B57.out.size))).more (B' := W.heap.size) (by have h1 := B57.out.size; have h2 := h.size; omega))
          have DAT := Lib.hid (fun W (h : Below W7.heap.size W7 W) => PD.out W bb oo c3 (HS7.out W h))
          have fa3 : IntKind.i64.wrap (R : Int) = (R : Int) := by exact IntWalk.i64_in _ (by omega)
          have fa4 : IntKind.i64.wrap ((R : Int) + 512) = (R : Int) + 512 := IntWalk.i64_in _ (by omega)
          have fa5 : ((R : Int) + 512).toNat = R + 512 := by omega
          have fa6 : (0 : Int) ≤ (R : Int) + 512 := by omega
          have fa7 : R + 512 ≤ T := by omega
          have fa8 : R + 512 ≤ c3 := by omega
          have fa9 : R + 512 + n ≤ c3 := by omega
          have fa10 : (n : Nat) ≤ c3 - (R + 512) := by omega
          have fa11 : (R : Int) + 512 ≤ (T : Int) := by omega
          have fa12 : (R : Int) + 512 ≤ (c3 : Int) := by omega
          have fa13 : ((n : Nat) : Int) ≤ ((c3 - (R + 512) : Nat) : Int) := by omega
          have alls : ∀ W, Below W7.heap.size W7 W → W.cell? ⟨w.heap.size, 7, none⟩ = some (.slice A n c) ∧ W.cell? ⟨gh, 0, none⟩ = some (.string (Mb.pre p q)) ∧ W.cell? ⟨gh, 1, none⟩ = some (.string (Mb.nam p q)) ∧ W.cell? ⟨gh, 2, none⟩ = some (.int .i64 m) ∧ W.cell? ⟨gh, 3, none⟩ = some (.int .i64 u) ∧ W.cell? ⟨gh, 4, none⟩ = some (.int .i64 g) ∧ W.cell? ⟨gh, 5, none⟩ = some (.int .i64 t) ∧ W.cell? ⟨gh, 6, none⟩ = some (.int .i64 n) ∧ W.cell? ⟨gh, 7, none⟩ = some (.int .u8 (Mb.typ k)) ∧ W.cell? ⟨gh, 8, none⟩ = some (.string (Mb.first l)) := fun W hW => by
            have b := mbBox2 (HA7.out.trans (hW.mono SZ7.out))
            have d := BH7.out.later hW
            exact ⟨b.cell rfl, d.cell rfl, d.cell rfl, d.cell rfl, d.cell rfl, d.cell rfl, d.cell rfl, d.cell rfl, d.cell rfl, d.cell rfl⟩
          have ALLS := Lib.hid alls
          clear alls
          go_cut [9, 10] (fun v e wx => ∃ gx A8 c8, v = .pointer (some ⟨gx, 0, none⟩) ∧ e = .int .i64 0 ∧ Hid (BX wx gx 35 #[.string p, .int .i64 k, .int .i64 m, .int .i64 u, .int .i64 g, .int .i64 t, .string l, .slice A8 n c8]) ∧ Hid (RB wx wx.heap.size A8 n xs) ∧ Hid (Below W7.heap.size W7 wx))
          case first =>
            have hacc : Below W7.heap.size W7 W7.drew := below_drewN (Below.refl _ _) 1
            obtain ⟨y0, y1, y2, y3, y4, y5, y6, y7, y8, y9⟩ := ALLS.out _ hacc
            obtain ⟨x0, x1, x2, x3, x4, x5, x6, x7, x8, x9⟩ := ALLS.out _ (Below.refl W7.heap.size W7)
            have hne0 : W7.heap.size ≠ w.heap.size := by have := SZ7.out; omega
            have hne1 : W7.heap.size ≠ gh := by have := BH7.out.lt; omega
            go_region_held3 (fun w' => w'.cell? ⟨w.heap.size, 7, none⟩ = some (.slice A n c) ∧ w'.cell? ⟨gh, 0, none⟩ = some (.string (Mb.pre p q)) ∧ w'.cell? ⟨gh, 1, none⟩ = some (.string (Mb.nam p q)) ∧ w'.cell? ⟨gh, 2, none⟩ = some (.int .i64 m) ∧ w'.cell? ⟨gh, 3, none⟩ = some (.int .i64 u) ∧ w'.cell? ⟨gh, 4, none⟩ = some (.int .i64 g) ∧ w'.cell? ⟨gh, 5, none⟩ = some (.int .i64 t) ∧ w'.cell? ⟨gh, 6, none⟩ = some (.int .i64 n) ∧ w'.cell? ⟨gh, 7, none⟩ = some (.int .u8 (Mb.typ k)) ∧ w'.cell? ⟨gh, 8, none⟩ = some (.string (Mb.first l))) (first | go_keep | (exact ALLS.out _ hacc) | (exact ALLS.out _ (hacc.alloc hacc.size _))) (first
              | (go_at_call 9; (with_reducible refine (FRO.out _ _ _ _ _ (by first | exact HR7.out _ hacc | exact HR7.out _ (mb_new W7 _).drew | exact HR7.out _ (hacc.alloc hacc.size _)) (by first | exact DAT.out _ hacc | exact DAT.out _ (mb_new W7 _).drew | exact DAT.out _ (hacc.alloc hacc.size _))).mono ?_); rintro e w8 ⟨A8, n8, c8, rfl, hr8, hc8, hm8, hb8⟩; obtain rfl : n8 = n := (by have h1 := hr8.1; have h2 := HXL.out; omega); have HR8 := Lib.hid hr8; (first | (replace hacc := bthen hacc hb8; have hne2 : w8.heap.size ≠ w.heap.size := (by have h1 := hacc.size; have h2 := SZ7.out; omega); have hne3 : w8.heap.size ≠ gh := (by have h1 := hacc.size; have h2 := BH7.out.lt; omega)) | (have bz : BX w8 W7.heap.size 35 #[.string ⟨#[]⟩, .int .i64 0, .int .i64 0, .int .i64 0, .int .i64 0, .int .i64 0, .string ⟨#[]⟩, .slice none 0 0] := (by have h := (BX.drew (BX.new _ _ _)).later hb8; simpa using h); have apt := Lib.hid (RB.apart8 hr8 bz zero_cells8); replace hacc := ((mb_new W7 (.cells #[.string ⟨#[]⟩, .int .i64 0, .int .i64 0, .int .i64 0, .int .i64 0, .int .i64 0, .string ⟨#[]⟩, .slice none 0 0] 35)).drew).trans (Below.mono hb8 (by simp <;> omega)); have z0 : w8.cell? ⟨W7.heap.size, 0, none⟩ = some (.string ⟨#[]⟩) := bz.cell rfl; have f0 := bz.free 0; have z1 : w8.cell? ⟨W7.heap.size, 1, none⟩ = some (.int .i64 0) := bz.cell rfl; have f1 := bz.free 1; have z2 : w8.cell? ⟨W7.heap.size, 2, none⟩ = some (.int .i64 0) := bz.cell rfl; have f2 := bz.free 2; have z3 : w8.cell? ⟨W7.heap.size, 3, none⟩ = some (.int .i64 0) := bz.cell rfl; have f3 := bz.free 3; have z4 : w8.cell? ⟨W7.heap.size, 4, none⟩ = some (.int .i64 0) := bz.cell rfl; have f4 := bz.free 4; have z5 : w8.cell? ⟨W7.heap.size, 5, none⟩ = some (.int .i64 0) := bz.cell rfl; have f5 := bz.free 5; have z6 : w8.cell? ⟨W7.heap.size, 6, none⟩ = some (.string ⟨#[]⟩) := bz.cell rfl; have f6 := bz.free 6; have z7 : w8.cell? ⟨W7.heap.size, 7, none⟩ = some (.slice none 0 0) := bz.cell rfl; have f7 := bz.free 7)); clear hb8 hr8))
            all_goals
              go_wp2
              go_meet
              first
                | exact ⟨W7.heap.size, A8, c8, rfl, rfl, bz.set8 _ _ _ _ _ _ _ _, HR8.out.set8 apt.out _ _ _ _ _ _ _ _, below_set8 hacc (Nat.le_refl _) _ _ _ _ _ _ _ _⟩
                | exact ⟨w8.heap.size, A8, c8, rfl, rfl, BX.new _ _ _, (HR8.out.alloc (Nat.le_refl _) _).more (by simp), hacc.alloc hacc.size _⟩
          case rest =>
            obtain ⟨gx, A8, c8, rfl, rfl, BX8, RB9, B78⟩ := hcut
            have SZc := Lib.hid (show w.heap.size + 1 ≤ wc.heap.size by have h1 := B78.out.size; have h2 := SZ7.out; omega)
            have HAc := Lib.hid (HA7.out.trans (B78.out.mono SZ7.out))
            have alls : ∀ W, Below wc.heap.size wc W → W.cell? ⟨gx, 0, none⟩ = some (.string p) ∧ W.cell? ⟨gx, 1, none⟩ = some (.int .i64 k) ∧ W.cell? ⟨gx, 2, none⟩ = some (.int .i64 m) ∧ W.cell? ⟨gx, 3, none⟩ = some (.int .i64 u) ∧ W.cell? ⟨gx, 4, none⟩ = some (.int .i64 g) ∧ W.cell? ⟨gx, 5, none⟩ = some (.int .i64 t) ∧ W.cell? ⟨gx, 6, none⟩ = some (.string l) ∧ W.cell? ⟨gx, 7, none⟩ = some (.slice A8 n c8) ∧ W.cell? ⟨w.heap.size, 0, none⟩ = some (.string p) ∧ W.cell? ⟨w.heap.size, 1, none⟩ = some (.int .i64 k) ∧ W.cell? ⟨w.heap.size, 2, none⟩ = some (.int .i64 m) ∧ W.cell? ⟨w.heap.size, 3, none⟩ = some (.int .i64 u) ∧ W.cell? ⟨w.heap.size, 4, none⟩ = some (.int .i64 g) ∧ W.cell? ⟨w.heap.size, 5, none⟩ = some (.int .i64 t) ∧ W.cell? ⟨w.heap.size, 6, none⟩ = some (.string l) ∧ W.cell? ⟨w.heap.size, 7, none⟩ = some (.slice A n c) ∧ W.cell? ⟨gh, 6, none⟩ = some (.int .i64 n) := fun W hW => by
              have a := BX8.out.later hW
              have b := mbBox2 (HAc.out.trans (hW.mono SZc.out))
              have d := BH7.out.later (B78.out.trans (hW.mono B78.out.size))
              exact ⟨a.cell rfl, a.cell rfl, a.cell rfl, a.cell rfl, a.cell rfl, a.cell rfl, a.cell rfl, a.cell rfl, b.cell rfl, b.cell rfl, b.cell rfl, b.cell rfl, b.cell rfl, b.cell rfl, b.cell rfl, b.cell rfl, d.cell rfl⟩
            have ALLC := Lib.hid alls
            clear alls
            have LOW := Lib.hid (fun W (h : Below wc.heap.size wc W) => mbLow2 (HAc.out.trans (h.mono SZc.out)))
            go_upto_region 12 with (fail)
            have hacc : Below wc.heap.size wc wc.drew := below_drewN (Below.refl _ _) 1
            obtain ⟨y0, y1, y2, y3, y4, y5, y6, y7, y8, y9, y10, y11, y12, y13, y14, y15, y16⟩ := ALLC.out _ hacc
            go_region_held3 (fun w' => w'.cell? ⟨gx, 0, none⟩ = some (.string p) ∧ w'.cell? ⟨gx, 1, none⟩ = some (.int .i64 k) ∧ w'.cell? ⟨gx, 2, none⟩ = some (.int .i64 m) ∧ w'.cell? ⟨gx, 3, none⟩ = some (.int .i64 u) ∧ w'.cell? ⟨gx, 4, none⟩ = some (.int .i64 g) ∧ w'.cell? ⟨gx, 5, none⟩ = some (.int .i64 t) ∧ w'.cell? ⟨gx, 6, none⟩ = some (.string l) ∧ w'.cell? ⟨gx, 7, none⟩ = some (.slice A8 n c8) ∧ w'.cell? ⟨w.heap.size, 0, none⟩ = some (.string p) ∧ w'.cell? ⟨w.heap.size, 1, none⟩ = some (.int .i64 k) ∧ w'.cell? ⟨w.heap.size, 2, none⟩ = some (.int .i64 m) ∧ w'.cell? ⟨w.heap.size, 3, none⟩ = some (.int .i64 u) ∧ w'.cell? ⟨w.heap.size, 4, none⟩ = some (.int .i64 g) ∧ w'.cell? ⟨w.heap.size, 5, none⟩ = some (.int .i64 t) ∧ w'.cell? ⟨w.heap.size, 6, none⟩ = some (.string l) ∧ w'.cell? ⟨w.heap.size, 7, none⟩ = some (.slice A n c) ∧ w'.cell? ⟨gh, 6, none⟩ = some (.int .i64 n)) (first | go_keep | (exact ALLC.out _ hacc)) (first
              | (go_at_call 11; (with_reducible refine (THE.out _).mono ?_); rintro e w9 ⟨rfl, hb9⟩; replace hacc := bthen hacc hb9)
              | (go_at_call 12; (with_reducible refine (SMT.out _ _ _ (LOW.out _ hacc) ((RB9.out.below hacc).more hacc.size)).mono ?_); rintro e w10 ⟨rfl, hb10⟩; replace hacc := bthen hacc hb10)
              | (go_at_call 8; (with_reducible refine (AL.out _ (TB.out.on (LOW.out _ hacc))).mono ?_); rintro e w11 ⟨rfl, hb11⟩; replace hacc := bthen hacc hb11))
            all_goals
              go_wp2
              go_ret
              exact ⟨ret_bool (by simp), LOW.out _ hacc⟩
      · have hLp : decide (0 < L.length) = false := decide_eq_false (fun h => hgt (HGB.out (by omega)))
        rcases Nat.eq_zero_or_pos n with hn0 | hn0
        · subst hn0
          have hd0 : (d : Int) = 0 := ow1.symm.trans (by decide)
          obtain rfl : d = 0 := by omega
          have fr0 := FRO.out
          rw [show ((0 : Nat) : Int) = 0 from rfl] at fr0
          have FRZ := Lib.hid fr0
          clear fr0 FRO
          have hgt2 : ¬ (512 : Int) < (T : Int) := by omega
          have fa0 : (T : Int) - 512 = (R : Int) := by omega
          have tl2 : ¬ (T : Int) < 512 := by omega
          clear ow1 hd0 fa1 tl hgt
          by_cases hcc : c3 = R + 512
          · have fa2 : ¬ c3 = R := by omega
            go_upto_region 11 with (go_at_call 16; (with_reducible refine (PAR.out _ _ _ (PH.out _ bb oo c3 HS5.out) (by omega) (by unfold maxLen; omega)).mono ?_); rintro e w6 ⟨rfl, hb6⟩; have HB6 := Lib.hid hb6; clear hb6)
            clear q0 q1 q2 q3 q4 q5 q6 q7 r0 r1 r2 r3 r4 r5 r6 r7 s0 s1 s2 s3 s4 s5 s6 s7
            obtain ⟨gh, hgh⟩ : ∃ gh, gh = w6.heap.size := ⟨_, rfl⟩
            obtain ⟨W7, hW7⟩ : ∃ W7, W7 = w6.alloc (.cells #[.string (Mb.pre p q), .string (Mb.nam p q), .int .i64 m, .int .i64 u, .int .i64 g, .int .i64 t, .int .i64 0, .int .u8 (Mb.typ k), .string (Mb.first l)] 40) := ⟨_, rfl⟩
            have BH7 := Lib.hid (show BX W7 gh 40 #[.string (Mb.pre p q), .string (Mb.nam p q), .int .i64 m, .int .i64 u, .int .i64 g, .int .i64 t, .int .i64 0, .int .u8 (Mb.typ k), .string (Mb.first l)] by rw [hW7, hgh]; exact BX.new _ _ _)
            have B57 := Lib.hid (show Below w5.heap.size w5 W7 by rw [hW7]; exact HB6.out.alloc HB6.out.size _)
            rw [← hW7, ← hgh]
            clear hW7 hgh HB6
            have SZ5 := Lib.hid (show w.heap.size + 1 ≤ w5.heap.size by have := HA5.out.size; simpa using this)
            have HA7 := Lib.hid (HA5.out.trans (B57.out.mono SZ5.out))
            have SZ7 := Lib.hid (show w.heap.size + 1 ≤ W7.heap.size by have := HA7.out.size; simpa using this)
            have HR7 := Lib.hid (fun W (h : Below W7.heap.size W7 W) => (HR5.out.below (B57.out.trans (h.mono B57.out.size))).more (B' := W.heap.size) (by have h1 := B57.out.size; have h2 := h.size; omega))
            have HS7 := Lib.hid (fun W (h : Below W7.heap.size W7 W) => (HS5.out.below (B57.out.trans (h.mono B57.out.size))).more (B' := W.heap.size) (by have h1 := B57.out.size; have h2 := h.size; omega))
            have DAT := Lib.hid (fun (W : World) (A2 : Option Addr) => (show RB W W.heap.size A2 0 xs from ⟨HXL.out, fun h => absurd h (by omega)⟩))
            have fa3 : IntKind.i64.wrap (R : Int) = (R : Int) := by exact IntWalk.i64_in _ (by omega)
            have fa4 : IntKind.i64.wrap ((R : Int) + 512) = (R : Int) + 512 := IntWalk.i64_in _ (by omega)
            have fa5 : ((R : Int) + 512).toNat = R + 512 := by omega
            have fa6 : (0 : Int) ≤ (R : Int) + 512 := by omega
            have fa7 : R + 512 ≤ T := by omega
            have fa8 : R + 512 ≤ c3 := by omega
            have fa9 : R + 512 + 0 ≤ c3 := by omega
            have fa10 : (0 : Nat) ≤ c3 - (R + 512) := by omega
            have fa11 : (R : Int) + 512 ≤ (T : Int) := by omega
            have fa12 : (R : Int) + 512 ≤ (c3 : Int) := by omega
            have fa13 : ((0 : Nat) : Int) ≤ ((c3 - (R + 512) : Nat) : Int) := by omega
            have alls : ∀ W, Below W7.heap.size W7 W → W.cell? ⟨w.heap.size, 7, none⟩ = some (.slice A 0 c) ∧ W.cell? ⟨gh, 0, none⟩ = some (.string (Mb.pre p q)) ∧ W.cell? ⟨gh, 1, none⟩ = some (.string (Mb.nam p q)) ∧ W.cell? ⟨gh, 2, none⟩ = some (.int .i64 m) ∧ W.cell? ⟨gh, 3, none⟩ = some (.int .i64 u) ∧ W.cell? ⟨gh, 4, none⟩ = some (.int .i64 g) ∧ W.cell? ⟨gh, 5, none⟩ = some (.int .i64 t) ∧ W.cell? ⟨gh, 6, none⟩ = some (.int .i64 0) ∧ W.cell? ⟨gh, 7, none⟩ = some (.int .u8 (Mb.typ k)) ∧ W.cell? ⟨gh, 8, none⟩ = some (.string (Mb.first l)) := fun W hW => by
              have b := mbBox2 (HA7.out.trans (hW.mono SZ7.out))
              have d := BH7.out.later hW
              exact ⟨b.cell rfl, d.cell rfl, d.cell rfl, d.cell rfl, d.cell rfl, d.cell rfl, d.cell rfl, d.cell rfl, d.cell rfl, d.cell rfl⟩
            have ALLS := Lib.hid alls
            clear alls
            go_cut [9, 10] (fun v e wx => ∃ gx A8 c8, v = .pointer (some ⟨gx, 0, none⟩) ∧ e = .int .i64 0 ∧ Hid (BX wx gx 35 #[.string p, .int .i64 k, .int .i64 m, .int .i64 u, .int .i64 g, .int .i64 t, .string l, .slice A8 0 c8]) ∧ Hid (RB wx wx.heap.size A8 0 xs) ∧ Hid (Below W7.heap.size W7 wx))
            case first =>
              have hacc : Below W7.heap.size W7 W7.drew := below_drewN (Below.refl _ _) 1
              obtain ⟨y0, y1, y2, y3, y4, y5, y6, y7, y8, y9⟩ := ALLS.out _ hacc
              obtain ⟨x0, x1, x2, x3, x4, x5, x6, x7, x8, x9⟩ := ALLS.out _ (Below.refl W7.heap.size W7)
              have hne0 : W7.heap.size ≠ w.heap.size := by have := SZ7.out; omega
              have hne1 : W7.heap.size ≠ gh := by have := BH7.out.lt; omega
              go_region_held3 (fun w' => w'.cell? ⟨w.heap.size, 7, none⟩ = some (.slice A 0 c) ∧ w'.cell? ⟨gh, 0, none⟩ = some (.string (Mb.pre p q)) ∧ w'.cell? ⟨gh, 1, none⟩ = some (.string (Mb.nam p q)) ∧ w'.cell? ⟨gh, 2, none⟩ = some (.int .i64 m) ∧ w'.cell? ⟨gh, 3, none⟩ = some (.int .i64 u) ∧ w'.cell? ⟨gh, 4, none⟩ = some (.int .i64 g) ∧ w'.cell? ⟨gh, 5, none⟩ = some (.int .i64 t) ∧ w'.cell? ⟨gh, 6, none⟩ = some (.int .i64 0) ∧ w'.cell? ⟨gh, 7, none⟩ = some (.int .u8 (Mb.typ k)) ∧ w'.cell? ⟨gh, 8, none⟩ = some (.string (Mb.first l))) (first | go_keep | (exact ALLS.out _ hacc) | (exact ALLS.out _ (hacc.alloc hacc.size _))) (first
                | (go_at_call 9; (with_reducible refine (FRZ.out _ _ _ _ _ (by first | exact HR7.out _ hacc | exact HR7.out _ (mb_new W7 _).drew | exact HR7.out _ (hacc.alloc hacc.size _)) (DAT.out _ _)).mono ?_); rintro e w8 ⟨A8, n8, c8, rfl, hr8, hc8, hm8, hb8⟩; obtain rfl : n8 = 0 := (by have h1 := hr8.1; have h2 := HXL.out; omega); have HR8 := Lib.hid hr8; (first | (replace hacc := bthen hacc hb8; have hne2 : w8.heap.size ≠ w.heap.size := (by have h1 := hacc.size; have h2 := SZ7.out; omega); have hne3 : w8.heap.size ≠ gh := (by have h1 := hacc.size; have h2 := BH7.out.lt; omega)) | (have bz : BX w8 W7.heap.size 35 #[.string ⟨#[]⟩, .int .i64 0, .int .i64 0, .int .i64 0, .int .i64 0, .int .i64 0, .string ⟨#[]⟩, .slice none 0 0] := (by have h := (BX.drew (BX.new _ _ _)).later hb8; simpa using h); have apt := Lib.hid (RB.apart8 hr8 bz zero_cells8); replace hacc := ((mb_new W7 (.cells #[.string ⟨#[]⟩, .int .i64 0, .int .i64 0, .int .i64 0, .int .i64 0, .int .i64 0, .string ⟨#[]⟩, .slice none 0 0] 35)).drew).trans (Below.mono hb8 (by simp <;> omega)); have z0 : w8.cell? ⟨W7.heap.size, 0, none⟩ = some (.string ⟨#[]⟩) := bz.cell rfl; have f0 := bz.free 0; have z1 : w8.cell? ⟨W7.heap.size, 1, none⟩ = some (.int .i64 0) := bz.cell rfl; have f1 := bz.free 1; have z2 : w8.cell? ⟨W7.heap.size, 2, none⟩ = some (.int .i64 0) := bz.cell rfl; have f2 := bz.free 2; have z3 : w8.cell? ⟨W7.heap.size, 3, none⟩ = some (.int .i64 0) := bz.cell rfl; have f3 := bz.free 3; have z4 : w8.cell? ⟨W7.heap.size, 4, none⟩ = some (.int .i64 0) := bz.cell rfl; have f4 := bz.free 4; have z5 : w8.cell? ⟨W7.heap.size, 5, none⟩ = some (.int .i64 0) := bz.cell rfl; have f5 := bz.free 5; have z6 : w8.cell? ⟨W7.heap.size, 6, none⟩ = some (.string ⟨#[]⟩) := bz.cell rfl; have f6 := bz.free 6; have z7 : w8.cell? ⟨W7.heap.size, 7, none⟩ = some (.slice none 0 0) := bz.cell rfl; have f7 := bz.free 7)); clear hb8 hr8))
              all_goals
                go_wp2
                go_meet
                first
                  | exact ⟨W7.heap.size, A8, c8, rfl, rfl, bz.set8 _ _ _ _ _ _ _ _, HR8.out.set8 apt.out _ _ _ _ _ _ _ _, below_set8 hacc (Nat.le_refl _) _ _ _ _ _ _ _ _⟩
                  | exact ⟨w8.heap.size, A8, c8, rfl, rfl, BX.new _ _ _, (HR8.out.alloc (Nat.le_refl _) _).more (by simp), hacc.alloc hacc.size _⟩
            case rest =>
              obtain ⟨gx, A8, c8, rfl, rfl, BX8, RB9, B78⟩ := hcut
              have SZc := Lib.hid (show w.heap.size + 1 ≤ wc.heap.size by have h1 := B78.out.size; have h2 := SZ7.out; omega)
              have HAc := Lib.hid (HA7.out.trans (B78.out.mono SZ7.out))
              have alls : ∀ W, Below wc.heap.size wc W → W.cell? ⟨gx, 0, none⟩ = some (.string p) ∧ W.cell? ⟨gx, 1, none⟩ = some (.int .i64 k) ∧ W.cell? ⟨gx, 2, none⟩ = some (.int .i64 m) ∧ W.cell? ⟨gx, 3, none⟩ = some (.int .i64 u) ∧ W.cell? ⟨gx, 4, none⟩ = some (.int .i64 g) ∧ W.cell? ⟨gx, 5, none⟩ = some (.int .i64 t) ∧ W.cell? ⟨gx, 6, none⟩ = some (.string l) ∧ W.cell? ⟨gx, 7, none⟩ = some (.slice A8 0 c8) ∧ W.cell? ⟨w.heap.size, 0, none⟩ = some (.string p) ∧ W.cell? ⟨w.heap.size, 1, none⟩ = some (.int .i64 k) ∧ W.cell? ⟨w.heap.size, 2, none⟩ = some (.int .i64 m) ∧ W.cell? ⟨w.heap.size, 3, none⟩ = some (.int .i64 u) ∧ W.cell? ⟨w.heap.size, 4, none⟩ = some (.int .i64 g) ∧ W.cell? ⟨w.heap.size, 5, none⟩ = some (.int .i64 t) ∧ W.cell? ⟨w.heap.size, 6, none⟩ = some (.string l) ∧ W.cell? ⟨w.heap.size, 7, none⟩ = some (.slice A 0 c) ∧ W.cell? ⟨gh, 6, none⟩ = some (.int .i64 0) := fun W hW => by
                have a := BX8.out.later hW
                have b := mbBox2 (HAc.out.trans (hW.mono SZc.out))
                have d := BH7.out.later (B78.out.trans (hW.mono B78.out.size))
                exact ⟨a.cell rfl, a.cell rfl, a.cell rfl, a.cell rfl, a.cell rfl, a.cell rfl, a.cell rfl, a.cell rfl, b.cell rfl, b.cell rfl, b.cell rfl, b.cell rfl, b.cell rfl, b.cell rfl, b.cell rfl, b.cell rfl, d.cell rfl⟩
              have ALLC := Lib.hid alls
              clear alls
              have LOW := Lib.hid (fun W (h : Below wc.heap.size wc W) => mbLow2 (HAc.out.trans (h.mono SZc.out)))
              go_upto_region 12 with (fail)
              have hacc : Below wc.heap.size wc wc.drew := below_drewN (Below.refl _ _) 1
              obtain ⟨y0, y1, y2, y3, y4, y5, y6, y7, y8, y9, y10, y11, y12, y13, y14, y15, y16⟩ := ALLC.out _ hacc
              go_region_held3 (fun w' => w'.cell? ⟨gx, 0, none⟩ = some (.string p) ∧ w'.cell? ⟨gx, 1, none⟩ = some (.int .i64 k) ∧ w'.cell? ⟨gx, 2, none⟩ = some (.int .i64 m) ∧ w'.cell? ⟨gx, 3, none⟩ = some (.int .i64 u) ∧ w'.cell? ⟨gx, 4, none⟩ = some (.int .i64 g) ∧ w'.cell? ⟨gx, 5, none⟩ = some (.int .i64 t) ∧ w'.cell? ⟨gx, 6, none⟩ = some (.string l) ∧ w'.cell? ⟨gx, 7, none⟩ = some (.slice A8 0 c8) ∧ w'.cell? ⟨w.heap.size, 0, none⟩ = some (.string p) ∧ w'.cell? ⟨w.heap.size, 1, none⟩ = some (.int .i64 k) ∧ w'.cell? ⟨w.heap.size, 2, none⟩ = some (.int .i64 m) ∧ w'.cell? ⟨w.heap.size, 3, none⟩ = some (.int .i64 u) ∧ w'.cell? ⟨w.heap.size, 4, none⟩ = some (.int .i64 g) ∧ w'.cell? ⟨w.heap.size, 5, none⟩ = some (.int .i64 t) ∧ w'.cell? ⟨w.heap.size, 6, none⟩ = some (.string l) ∧ w'.cell? ⟨w.heap.size, 7, none⟩ = some (.slice A 0 c) ∧ w'.cell? ⟨gh, 6, none⟩ = some (.int .i64 0)) (first | go_keep | (exact ALLC.out _ hacc)) (first
                | (go_at_call 11; (with_reducible refine (THE.out _).mono ?_); rintro e w9 ⟨rfl, hb9⟩; replace hacc := bthen hacc hb9)
                | (go_at_call 12; (with_reducible refine (SMT.out _ _ _ (LOW.out _ hacc) ((RB9.out.below hacc).more hacc.size)).mono ?_); rintro e w10 ⟨rfl, hb10⟩; replace hacc := bthen hacc hb10)
                | (go_at_call 8; (with_reducible refine (AL.out _ (TB.out.on (LOW.out _ hacc))).mono ?_); rintro e w11 ⟨rfl, hb11⟩; replace hacc := bthen hacc hb11))
              all_goals
                go_wp2
                go_ret
                exact ⟨ret_bool (by simp), LOW.out _ hacc⟩
          · have fa2 : ¬ c3 = R := by omega
            go_upto_region 11 with (go_at_call 16; (with_reducible refine (PAR.out _ _ _ (PH.out _ bb oo c3 HS5.out) (by omega) (by unfold maxLen; omega)).mono ?_); rintro e w6 ⟨rfl, hb6⟩; have HB6 := Lib.hid hb6; clear hb6)
            clear q0 q1 q2 q3 q4 q5 q6 q7 r0 r1 r2 r3 r4 r5 r6 r7 s0 s1 s2 s3 s4 s5 s6 s7
            obtain ⟨gh, hgh⟩ : ∃ gh, gh = w6.heap.size := ⟨_, rfl⟩
            obtain ⟨W7, hW7⟩ : ∃ W7, W7 = w6.alloc (.cells #[.string (Mb.pre p q), .string (Mb.nam p q), .int .i64 m, .int .i64 u, .int .i64 g, .int .i64 t, .int .i64 0, .int .u8 (Mb.typ k), .string (Mb.first l)] 40) := ⟨_, rfl⟩
            have BH7 := Lib.hid (show BX W7 gh 40 #[.string (Mb.pre p q), .string (Mb.nam p q), .int .i64 m, .int .i64 u, .int .i64 g, .int .i64 t, .int .i64 0, .int .u8 (Mb.typ k), .string (Mb.first l)] by rw [hW7, hgh]; exact BX.new _ _ _)
            have B57 := Lib.hid (show Below w5.heap.size w5 W7 by rw [hW7]; exact HB6.out.alloc HB6.out.size _)
            rw [← hW7, ← hgh]
            clear hW7 hgh HB6
            have SZ5 := Lib.hid (show w.heap.size + 1 ≤ w5.heap.size by have := HA5.out.size; simpa using this)
            have HA7 := Lib.hid (HA5.out.trans (B57.out.mono SZ5.out))
            have SZ7 := Lib.hid (show w.heap.size + 1 ≤ W7.heap.size by have := HA7.out.size; simpa using this)
            have HR7 := Lib.hid (fun W (h : Below W7.heap.size W7 W) => (HR5.out.below (B57.out.trans (h.mono B57.out.size))).more (B' := W.heap.size) (by have h1 := B57.out.size; have h2 := h.size; omega))
            have HS7 := Lib.hid (fun W (h : Below W7.heap.size W7 W) => (HS5.out.below (B57.out.trans (h.mono B57.out.size))).more (B' := W.heap.size) (by have h1 := B57.out.size; have h2 := h.size; omega))
            have DAT := Lib.hid (fun (W : World) (A2 : Option Addr) => (show RB W W.heap.size A2 0 xs from ⟨HXL.out, fun h => absurd h (by omega)⟩))
            have fa3 : IntKind.i64.wrap (R : Int) = (R : Int) := by exact IntWalk.i64_in _ (by omega)
            have fa4 : IntKind.i64.wrap ((R : Int) + 512) = (R : Int) + 512 := IntWalk.i64_in _ (by omega)
            have fa5 : ((R : Int) + 512).toNat = R + 512 := by omega
            have fa6 : (0 : Int) ≤ (R : Int) + 512 := by omega
            have fa7 : R + 512 ≤ T := by omega
            have fa8 : R + 512 ≤ c3 := by omega
            have fa9 : R + 512 + 0 ≤ c3 := by omega
            have fa10 : (0 : Nat) ≤ c3 - (R + 512) := by omega
            have fa11 : (R : Int) + 512 ≤ (T : Int) := by omega
            have fa12 : (R : Int) + 512 ≤ (c3 : Int) := by omega
            have fa13 : ((0 : Nat) : Int) ≤ ((c3 - (R + 512) : Nat) : Int) := by omega
            have alls : ∀ W, Below W7.heap.size W7 W → W.cell? ⟨w.heap.size, 7, none⟩ = some (.slice A 0 c) ∧ W.cell? ⟨gh, 0, none⟩ = some (.string (Mb.pre p q)) ∧ W.cell? ⟨gh, 1, none⟩ = some (.string (Mb.nam p q)) ∧ W.cell? ⟨gh, 2, none⟩ = some (.int .i64 m) ∧ W.cell? ⟨gh, 3, none⟩ = some (.int .i64 u) ∧ W.cell? ⟨gh, 4, none⟩ = some (.int .i64 g) ∧ W.cell? ⟨gh, 5, none⟩ = some (.int .i64 t) ∧ W.cell? ⟨gh, 6, none⟩ = some (.int .i64 0) ∧ W.cell? ⟨gh, 7, none⟩ = some (.int .u8 (Mb.typ k)) ∧ W.cell? ⟨gh, 8, none⟩ = some (.string (Mb.first l)) := fun W hW => by
              have b := mbBox2 (HA7.out.trans (hW.mono SZ7.out))
              have d := BH7.out.later hW
              exact ⟨b.cell rfl, d.cell rfl, d.cell rfl, d.cell rfl, d.cell rfl, d.cell rfl, d.cell rfl, d.cell rfl, d.cell rfl, d.cell rfl⟩
            have ALLS := Lib.hid alls
            clear alls
            go_cut [9, 10] (fun v e wx => ∃ gx A8 c8, v = .pointer (some ⟨gx, 0, none⟩) ∧ e = .int .i64 0 ∧ Hid (BX wx gx 35 #[.string p, .int .i64 k, .int .i64 m, .int .i64 u, .int .i64 g, .int .i64 t, .string l, .slice A8 0 c8]) ∧ Hid (RB wx wx.heap.size A8 0 xs) ∧ Hid (Below W7.heap.size W7 wx))
            case first =>
              have hacc : Below W7.heap.size W7 W7.drew := below_drewN (Below.refl _ _) 1
              obtain ⟨y0, y1, y2, y3, y4, y5, y6, y7, y8, y9⟩ := ALLS.out _ hacc
              obtain ⟨x0, x1, x2, x3, x4, x5, x6, x7, x8, x9⟩ := ALLS.out _ (Below.refl W7.heap.size W7)
              have hne0 : W7.heap.size ≠ w.heap.size := by have := SZ7.out; omega
              have hne1 : W7.heap.size ≠ gh := by have := BH7.out.lt; omega
              go_region_held3 (fun w' => w'.cell? ⟨w.heap.size, 7, none⟩ = some (.slice A 0 c) ∧ w'.cell? ⟨gh, 0, none⟩ = some (.string (Mb.pre p q)) ∧ w'.cell? ⟨gh, 1, none⟩ = some (.string (Mb.nam p q)) ∧ w'.cell? ⟨gh, 2, none⟩ = some (.int .i64 m) ∧ w'.cell? ⟨gh, 3, none⟩ = some (.int .i64 u) ∧ w'.cell? ⟨gh, 4, none⟩ = some (.int .i64 g) ∧ w'.cell? ⟨gh, 5, none⟩ = some (.int .i64 t) ∧ w'.cell? ⟨gh, 6, none⟩ = some (.int .i64 0) ∧ w'.cell? ⟨gh, 7, none⟩ = some (.int .u8 (Mb.typ k)) ∧ w'.cell? ⟨gh, 8, none⟩ = some (.string (Mb.first l))) (first | go_keep | (exact ALLS.out _ hacc) | (exact ALLS.out _ (hacc.alloc hacc.size _))) (first
                | (go_at_call 9; (with_reducible refine (FRZ.out _ _ _ _ _ (by first | exact HR7.out _ hacc | exact HR7.out _ (mb_new W7 _).drew | exact HR7.out _ (hacc.alloc hacc.size _)) (DAT.out _ _)).mono ?_); rintro e w8 ⟨A8, n8, c8, rfl, hr8, hc8, hm8, hb8⟩; obtain rfl : n8 = 0 := (by have h1 := hr8.1; have h2 := HXL.out; omega); have HR8 := Lib.hid hr8; (first | (replace hacc := bthen hacc hb8; have hne2 : w8.heap.size ≠ w.heap.size := (by have h1 := hacc.size; have h2 := SZ7.out; omega); have hne3 : w8.heap.size ≠ gh := (by have h1 := hacc.size; have h2 := BH7.out.lt; omega)) | (have bz : BX w8 W7.heap.size 35 #[.string ⟨#[]⟩, .int .i64 0, .int .i64 0, .int .i64 0, .int .i64 0, .int .i64 0, .string ⟨#[]⟩, .slice none 0 0] := (by have h := (BX.drew (BX.new _ _ _)).later hb8; simpa using h); have apt := Lib.hid (RB.apart8 hr8 bz zero_cells8); replace hacc := ((mb_new W7 (.cells #[.string ⟨#[]⟩, .int .i64 0, .int .i64 0, .int .i64 0, .int .i64 0, .int .i64 0, .string ⟨#[]⟩, .slice none 0 0] 35)).drew).trans (Below.mono hb8 (by simp <;> omega)); have z0 : w8.cell? ⟨W7.heap.size, 0, none⟩ = some (.string ⟨#[]⟩) := bz.cell rfl; have f0 := bz.free 0; have z1 : w8.cell? ⟨W7.heap.size, 1, none⟩ = some (.int .i64 0) := bz.cell rfl; have f1 := bz.free 1; have z2 : w8.cell? ⟨W7.heap.size, 2, none⟩ = some (.int .i64 0) := bz.cell rfl; have f2 := bz.free 2; have z3 : w8.cell? ⟨W7.heap.size, 3, none⟩ = some (.int .i64 0) := bz.cell rfl; have f3 := bz.free 3; have z4 : w8.cell? ⟨W7.heap.size, 4, none⟩ = some (.int .i64 0) := bz.cell rfl; have f4 := bz.free 4; have z5 : w8.cell? ⟨W7.heap.size, 5, none⟩ = some (.int .i64 0) := bz.cell rfl; have f5 := bz.free 5; have z6 : w8.cell? ⟨W7.heap.size, 6, none⟩ = some (.string ⟨#[]⟩) := bz.cell rfl; have f6 := bz.free 6; have z7 : w8.cell? ⟨W7.heap.size, 7, none⟩ = some (.slice none 0 0) := bz.cell rfl; have f7 := bz.free 7)); clear hb8 hr8))
              all_goals
                go_wp2
                go_meet
                first
                  | exact ⟨W7.heap.size, A8, c8, rfl, rfl, bz.set8 _ _ _ _ _ _ _ _, HR8.out.set8 apt.out _ _ _ _ _ _ _ _, below_set8 hacc (Nat.le_refl _) _ _ _ _ _ _ _ _⟩
                  | exact ⟨w8.heap.size, A8, c8, rfl, rfl, BX.new _ _ _, (HR8.out.alloc (Nat.le_refl _) _).more (by simp), hacc.alloc hacc.size _⟩
            case rest =>
              obtain ⟨gx, A8, c8, rfl, rfl, BX8, RB9, B78⟩ := hcut
              have SZc := Lib.hid (show w.heap.size + 1 ≤ wc.heap.size by have h1 := B78.out.size; have h2 := SZ7.out; omega)
              have HAc := Lib.hid (HA7.out.trans (B78.out.mono SZ7.out))
              have alls : ∀ W, Below wc.heap.size wc W → W.cell? ⟨gx, 0, none⟩ = some (.string p) ∧ W.cell? ⟨gx, 1, none⟩ = some (.int .i64 k) ∧ W.cell? ⟨gx, 2, none⟩ = some (.int .i64 m) ∧ W.cell? ⟨gx, 3, none⟩ = some (.int .i64 u) ∧ W.cell? ⟨gx, 4, none⟩ = some (.int .i64 g) ∧ W.cell? ⟨gx, 5, none⟩ = some (.int .i64 t) ∧ W.cell? ⟨gx, 6, none⟩ = some (.string l) ∧ W.cell? ⟨gx, 7, none⟩ = some (.slice A8 0 c8) ∧ W.cell? ⟨w.heap.size, 0, none⟩ = some (.string p) ∧ W.cell? ⟨w.heap.size, 1, none⟩ = some (.int .i64 k) ∧ W.cell? ⟨w.heap.size, 2, none⟩ = some (.int .i64 m) ∧ W.cell? ⟨w.heap.size, 3, none⟩ = some (.int .i64 u) ∧ W.cell? ⟨w.heap.size, 4, none⟩ = some (.int .i64 g) ∧ W.cell? ⟨w.heap.size, 5, none⟩ = some (.int .i64 t) ∧ W.cell? ⟨w.heap.size, 6, none⟩ = some (.string l) ∧ W.cell? ⟨w.heap.size, 7, none⟩ = some (.slice A 0 c) ∧ W.cell? ⟨gh, 6, none⟩ = some (.int .i64 0) := fun W hW => by
                have a := BX8.out.later hW
                have b := mbBox2 (HAc.out.trans (hW.mono SZc.out))
                have d := BH7.out.later (B78.out.trans (hW.mono B78.out.size))
                exact ⟨a.cell rfl, a.cell rfl, a.cell rfl, a.cell rfl, a.cell rfl, a.cell rfl, a.cell rfl, a.cell rfl, b.cell rfl, b.cell rfl, b.cell rfl, b.cell rfl, b.cell rfl, b.cell rfl, b.cell rfl, b.cell rfl, d.cell rfl⟩
              have ALLC := Lib.hid alls
              clear alls
              have LOW := Lib.hid (fun W (h : Below wc.heap.size wc W) => mbLow2 (HAc.out.trans (h.mono SZc.out)))
              go_upto_region 12 with (fail)
              have hacc : Below wc.heap.size wc wc.drew := below_drewN (Below.refl _ _) 1
              obtain ⟨y0, y1, y2, y3, y4, y5, y6, y7, y8, y9, y10, y11, y12, y13, y14, y15, y16⟩ := ALLC.out _ hacc
              go_region_held3 (fun w' => w'.cell? ⟨gx, 0, none⟩ = some (.string p) ∧ w'.cell? ⟨gx, 1, none⟩ = some (.int .i64 k) ∧ w'.cell? ⟨gx, 2, none⟩ = some (.int .i64 m) ∧ w'.cell? ⟨gx, 3, none⟩ = some (.int .i64 u) ∧ w'.cell? ⟨gx, 4, none⟩ = some (.int .i64 g) ∧ w'.cell? ⟨gx, 5, none⟩ = some (.int .i64 t) ∧ w'.cell? ⟨gx, 6, none⟩ = some (.string l) ∧ w'.cell? ⟨gx, 7, none⟩ = some (.slice A8 0 c8) ∧ w'.cell? ⟨w.heap.size, 0, none⟩ = some (.string p) ∧ w'.cell? ⟨w.heap.size, 1, none⟩ = some (.int .i64 k) ∧ w'.cell? ⟨w.heap.size, 2, none⟩ = some (.int .i64 m) ∧ w'.cell? ⟨w.heap.size, 3, none⟩ = some (.int .i64 u) ∧ w'.cell? ⟨w.heap.size, 4, none⟩ = some (.int .i64 g) ∧ w'.cell? ⟨w.heap.size, 5, none⟩ = some (.int .i64 t) ∧ w'.cell? ⟨w.heap.size, 6, none⟩ = some (.string l) ∧ w'.cell? ⟨w.heap.size, 7, none⟩ = some (.slice A 0 c) ∧ w'.cell? ⟨gh, 6, none⟩ = some (.int .i64 0)) (first | go_keep | (exact ALLC.out _ hacc)) (first
                | (go_at_call 11; (with_reducible refine (THE.out _).mono ?_); rintro e w9 ⟨rfl, hb9⟩; replace hacc := bthen hacc hb9)
                | (go_at_call 12; (with_reducible refine (SMT.out _ _ _ (LOW.out _ hacc) ((RB9.out.below hacc).more hacc.size)).mono ?_); rintro e w10 ⟨rfl, hb10⟩; replace hacc := bthen hacc hb10)
                | (go_at_call 8; (with_reducible refine (AL.out _ (TB.out.on (LOW.out _ hacc))).mono ?_); rintro e w11 ⟨rfl, hb11⟩; replace hacc := bthen hacc hb11))
              all_goals
                go_wp2
                go_ret
                exact ⟨ret_bool (by simp), LOW.out _ hacc⟩
        · have hcc : ¬ c3 = R + 512 := by omega
          have fa2 : ¬ c3 = R := by omega
          go_upto_region 11 with (go_at_call 16; (with_reducible refine (PAR.out _ _ _ (PH.out _ bb oo c3 HS5.out) (by omega) (by unfold maxLen; omega)).mono ?_); rintro e w6 ⟨rfl, hb6⟩; have HB6 := Lib.hid hb6; clear hb6)
          clear q0 q1 q2 q3 q4 q5 q6 q7 r0 r1 r2 r3 r4 r5 r6 r7 s0 s1 s2 s3 s4 s5 s6 s7
          obtain ⟨gh, hgh⟩ : ∃ gh, gh = w6.heap.size := ⟨_, rfl⟩
          obtain ⟨W7, hW7⟩ : ∃ W7, W7 = w6.alloc (.cells #[.string (Mb.pre p q), .string (Mb.nam p q), .int .i64 m, .int .i64 u, .int .i64 g, .int .i64 t, .int .i64 n, .int .u8 (Mb.typ k), .string (Mb.first l)] 40) := ⟨_, rfl⟩
          have BH7 := Lib.hid (show BX W7 gh 40 #[.string (Mb.pre p q), .string (Mb.nam p q), .int .i64 m, .int .i64 u, .int .i64 g, .int .i64 t, .int .i64 n, .int .u8 (Mb.typ k), .string (Mb.first l)] by rw [hW7, hgh]; exact BX.new _ _ _)
          have B57 := Lib.hid (show Below w5.heap.size w5 W7 by rw [hW7]; exact HB6.out.alloc HB6.out.size _)
          rw [← hW7, ← hgh]
          clear hW7 hgh HB6
          have SZ5 := Lib.hid (show w.heap.size + 1 ≤ w5.heap.size by have := HA5.out.size; simpa using this)
          have HA7 := Lib.hid (HA5.out.trans (B57.out.mono SZ5.out))
          have SZ7 := Lib.hid (show w.heap.size + 1 ≤ W7.heap.size by have := HA7.out.size; simpa using this)
          have HR7 := Lib.hid (fun W (h : Below W7.heap.size W7 W) => (HR5.out.below (B57.out.trans (h.mono B57.out.size))).more (B' := W.heap.size) (by have h1 := B57.out.size; have h2 := h.size; omega))
          have HS7 := Lib.hid (fun W (h : Below W7.heap.size W7 W) => (HS5.out.below (B57.out.trans (h.mono B57.out.size))).more (B' := W.heap.size) (by have h1 := B57.out.size; have h2 := h.size; omega))
          have DAT := Lib.hid (fun W (h : Below W7.heap.size W7 W) => PD.out W bb oo c3 (HS7.out W h))
          have fa3 : IntKind.i64.wrap (R : Int) = (R : Int) := by exact IntWalk.i64_in _ (by omega)
          have fa4 : IntKind.i64.wrap ((R : Int) + 512) = (R : Int) + 512 := IntWalk.i64_in _ (by omega)
          have fa5 : ((R : Int) + 512).toNat = R + 512 := by omega
          have fa6 : (0 : Int) ≤ (R : Int) + 512 := by omega
          have fa7 : R + 512 ≤ T := by omega
          have fa8 : R + 512 ≤ c3 := by omega
          have fa9 : R + 512 + n ≤ c3 := by omega
          have fa10 : (n : Nat) ≤ c3 - (R + 512) := by omega
          have fa11 : (R : Int) + 512 ≤ (T : Int) := by omega
          have fa12 : (R : Int) + 512 ≤ (c3 : Int) := by omega
          have fa13 : ((n : Nat) : Int) ≤ ((c3 - (R + 512) : Nat) : Int) := by omega
          have alls : ∀ W, Below W7.heap.size W7 W → W.cell? ⟨w.heap.size, 7, none⟩ = some (.slice A n c) ∧ W.cell? ⟨gh, 0, none⟩ = some (.string (Mb.pre p q)) ∧ W.cell? ⟨gh, 1, none⟩ = some (.string (Mb.nam p q)) ∧ W.cell? ⟨gh, 2, none⟩ = some (.int .i64 m) ∧ W.cell? ⟨gh, 3, none⟩ = some (.int .i64 u) ∧ W.cell? ⟨gh, 4, none⟩ = some (.int .i64 g) ∧ W.cell? ⟨gh, 5, none⟩ = some (.int .i64 t) ∧ W.cell? ⟨gh, 6, none⟩ = some (.int .i64 n) ∧ W.cell? ⟨gh, 7, none⟩ = some (.int .u8 (Mb.typ k)) ∧ W.cell? ⟨gh, 8, none⟩ = some (.string (Mb.first l)) := fun W hW => by
            have b := mbBox2 (HA7.out.trans (hW.mono SZ7.out))
            have d := BH7.out.later hW
            exact ⟨b.cell rfl, d.cell rfl, d.cell rfl, d.cell rfl, d.cell rfl, d.cell rfl, d.cell rfl, d.cell rfl, d.cell rfl, d.cell rfl⟩
          have ALLS := Lib.hid alls
          clear alls
          go_cut [9, 10] (fun v e wx => ∃ gx A8 c8, v = .pointer (some ⟨gx, 0, none⟩) ∧ e = .int .i64 0 ∧ Hid (BX wx gx 35 #[.string p, .int .i64 k, .int .i64 m, .int .i64 u, .int .i64 g, .int .i64 t, .string l, .slice A8 n c8]) ∧ Hid (RB wx wx.heap.size A8 n xs) ∧ Hid (Below W7.heap.size W7 wx))
          case first =>
            have hacc : Below W7.heap.size W7 W7.drew := below_drewN (Below.refl _ _) 1
            obtain ⟨y0, y1, y2, y3, y4, y5, y6, y7, y8, y9⟩ := ALLS.out _ hacc
            obtain ⟨x0, x1, x2, x3, x4, x5, x6, x7, x8, x9⟩ := ALLS.out _ (Below.refl W7.heap.size W7)
            have hne0 : W7.heap.size ≠ w.heap.size := by have := SZ7.out; omega
            have hne1 : W7.heap.size ≠ gh := by have := BH7.out.lt; omega
            go_region_held3 (fun w' => w'.cell? ⟨w.heap.size, 7, none⟩ = some (.slice A n c) ∧ w'.cell? ⟨gh, 0, none⟩ = some (.string (Mb.pre p q)) ∧ w'.cell? ⟨gh, 1, none⟩ = some (.string (Mb.nam p q)) ∧ w'.cell? ⟨gh, 2, none⟩ = some (.int .i64 m) ∧ w'.cell? ⟨gh, 3, none⟩ = some (.int .i64 u) ∧ w'.cell? ⟨gh, 4, none⟩ = some (.int .i64 g) ∧ w'.cell? ⟨gh, 5, none⟩ = some (.int .i64 t) ∧ w'.cell? ⟨gh, 6, none⟩ = some (.int .i64 n) ∧ w'.cell? ⟨gh, 7, none⟩ = some (.int .u8 (Mb.typ k)) ∧ w'.cell? ⟨gh, 8, none⟩ = some (.string (Mb.first l))) (first | go_keep | (exact ALLS.out _ hacc) | (exact ALLS.out _ (hacc.alloc hacc.size _))) (first
              | (go_at_call 9; (with_reducible refine (FRO.out _ _ _ _ _ (by first | exact HR7.out _ hacc | exact HR7.out _ (mb_new W7 _).drew | exact HR7.out _ (hacc.alloc hacc.size _)) (by first | exact DAT.out _ hacc | exact DAT.out _ (mb_new W7 _).drew | exact DAT.out _ (hacc.alloc hacc.size _))).mono ?_); rintro e w8 ⟨A8, n8, c8, rfl, hr8, hc8, hm8, hb8⟩; obtain rfl : n8 = n := (by have h1 := hr8.1; have h2 := HXL.out; omega); have HR8 := Lib.hid hr8; (first | (replace hacc := bthen hacc hb8; have hne2 : w8.heap.size ≠ w.heap.size := (by have h1 := hacc.size; have h2 := SZ7.out; omega); have hne3 : w8.heap.size ≠ gh := (by have h1 := hacc.size; have h2 := BH7.out.lt; omega)) | (have bz : BX w8 W7.heap.size 35 #[.string ⟨#[]⟩, .int .i64 0, .int .i64 0, .int .i64 0, .int .i64 0, .int .i64 0, .string ⟨#[]⟩, .slice none 0 0] := (by have h := (BX.drew (BX.new _ _ _)).later hb8; simpa using h); have apt := Lib.hid (RB.apart8 hr8 bz zero_cells8); replace hacc := ((mb_new W7 (.cells #[.string ⟨#[]⟩, .int .i64 0, .int .i64 0, .int .i64 0, .int .i64 0, .int .i64 0, .string ⟨#[]⟩, .slice none 0 0] 35)).drew).trans (Below.mono hb8 (by simp <;> omega)); have z0 : w8.cell? ⟨W7.heap.size, 0, none⟩ = some (.string ⟨#[]⟩) := bz.cell rfl; have f0 := bz.free 0; have z1 : w8.cell? ⟨W7.heap.size, 1, none⟩ = some (.int .i64 0) := bz.cell rfl; have f1 := bz.free 1; have z2 : w8.cell? ⟨W7.heap.size, 2, none⟩ = some (.int .i64 0) := bz.cell rfl; have f2 := bz.free 2; have z3 : w8.cell? ⟨W7.heap.size, 3, none⟩ = some (.int .i64 0) := bz.cell rfl; have f3 := bz.free 3; have z4 : w8.cell? ⟨W7.heap.size, 4, none⟩ = some (.int .i64 0) := bz.cell rfl; have f4 := bz.free 4; have z5 : w8.cell? ⟨W7.heap.size, 5, none⟩ = some (.int .i64 0) := bz.cell rfl; have f5 := bz.free 5; have z6 : w8.cell? ⟨W7.heap.size, 6, none⟩ = some (.string ⟨#[]⟩) := bz.cell rfl; have f6 := bz.free 6; have z7 : w8.cell? ⟨W7.heap.size, 7, none⟩ = some (.slice none 0 0) := bz.cell rfl; have f7 := bz.free 7)); clear hb8 hr8))
            all_goals
              go_wp2
              go_meet
              first
                | exact ⟨W7.heap.size, A8, c8, rfl, rfl, bz.set8 _ _ _ _ _ _ _ _, HR8.out.set8 apt.out _ _ _ _ _ _ _ _, below_set8 hacc (Nat.le_refl _) _ _ _ _ _ _ _ _⟩
                | exact ⟨w8.heap.size, A8, c8, rfl, rfl, BX.new _ _ _, (HR8.out.alloc (Nat.le_refl _) _).more (by simp), hacc.alloc hacc.size _⟩
          case rest =>
            obtain ⟨gx, A8, c8, rfl, rfl, BX8, RB9, B78⟩ := hcut
            have SZc := Lib.hid (show w.heap.size + 1 ≤ wc.heap.size by have h1 := B78.out.size; have h2 := SZ7.out; omega)
            have HAc := Lib.hid (HA7.out.trans (B78.out.mono SZ7.out))
            have alls : ∀ W, Below wc.heap.size wc W → W.cell? ⟨gx, 0, none⟩ = some (.string p) ∧ W.cell? ⟨gx, 1, none⟩ = some (.int .i64 k) ∧ W.cell? ⟨gx, 2, none⟩ = some (.int .i64 m) ∧ W.cell? ⟨gx, 3, none⟩ = some (.int .i64 u) ∧ W.cell? ⟨gx, 4, none⟩ = some (.int .i64 g) ∧ W.cell? ⟨gx, 5, none⟩ = some (.int .i64 t) ∧ W.cell? ⟨gx, 6, none⟩ = some (.string l) ∧ W.cell? ⟨gx, 7, none⟩ = some (.slice A8 n c8) ∧ W.cell? ⟨w.heap.size, 0, none⟩ = some (.string p) ∧ W.cell? ⟨w.heap.size, 1, none⟩ = some (.int .i64 k) ∧ W.cell? ⟨w.heap.size, 2, none⟩ = some (.int .i64 m) ∧ W.cell? ⟨w.heap.size, 3, none⟩ = some (.int .i64 u) ∧ W.cell? ⟨w.heap.size, 4, none⟩ = some (.int .i64 g) ∧ W.cell? ⟨w.heap.size, 5, none⟩ = some (.int .i64 t) ∧ W.cell? ⟨w.heap.size, 6, none⟩ = some (.string l) ∧ W.cell? ⟨w.heap.size, 7, none⟩ = some (.slice A n c) ∧ W.cell? ⟨gh, 6, none⟩ = some (.int .i64 n) := fun W hW => by
              have a := BX8.out.later hW
              have b := mbBox2 (HAc.out.trans (hW.mono SZc.out))
              have d := BH7.out.later (B78.out.trans (hW.mono B78.out.size))
              exact ⟨a.cell rfl, a.cell rfl, a.cell rfl, a.cell rfl, a.cell rfl, a.cell rfl, a.cell rfl, a.cell rfl, b.cell rfl, b.cell rfl, b.cell rfl, b.cell rfl, b.cell rfl, b.cell rfl, b.cell rfl, b.cell rfl, d.cell rfl⟩
            have ALLC := Lib.hid alls
            clear alls
            have LOW := Lib.hid (fun W (h : Below wc.heap.size wc W) => mbLow2 (HAc.out.trans (h.mono SZc.out)))
            go_upto_region 12 with (fail)
            have hacc : Below wc.heap.size wc wc.drew := below_drewN (Below.refl _ _) 1
            obtain ⟨y0, y1, y2, y3, y4, y5, y6, y7, y8, y9, y10, y11, y12, y13, y14, y15, y16⟩ := ALLC.out _ hacc
            go_region_held3 (fun w' => w'.cell? ⟨gx, 0, none⟩ = some (.string p) ∧ w'.cell? ⟨gx, 1, none⟩ = some (.int .i64 k) ∧ w'.cell? ⟨gx, 2, none⟩ = some (.int .i64 m) ∧ w'.cell? ⟨gx, 3, none⟩ = some (.int .i64 u) ∧ w'.cell? ⟨gx, 4, none⟩ = some (.int .i64 g) ∧ w'.cell? ⟨gx, 5, none⟩ = some (.int .i64 t) ∧ w'.cell? ⟨gx, 6, none⟩ = some (.string l) ∧ w'.cell? ⟨gx, 7, none⟩ = some (.slice A8 n c8) ∧ w'.cell? ⟨w.heap.size, 0, none⟩ = some (.string p) ∧ w'.cell? ⟨w.heap.size, 1, none⟩ = some (.int .i64 k) ∧ w'.cell? ⟨w.heap.size, 2, none⟩ = some (.int .i64 m) ∧ w'.cell? ⟨w.heap.size, 3, none⟩ = some (.int .i64 u) ∧ w'.cell? ⟨w.heap.size, 4, none⟩ = some (.int .i64 g) ∧ w'.cell? ⟨w.heap.size, 5, none⟩ = some (.int .i64 t) ∧ w'.cell? ⟨w.heap.size, 6, none⟩ = some (.string l) ∧ w'.cell? ⟨w.heap.size, 7, none⟩ = some (.slice A n c) ∧ w'.cell? ⟨gh, 6, none⟩ = some (.int .i64 n)) (first | go_keep | (exact ALLC.out _ hacc)) (first
              | (go_at_call 11; (with_reducible refine (THE.out _).mono ?_); rintro e w9 ⟨rfl, hb9⟩; replace hacc := bthen hacc hb9)
              | (go_at_call 12; (with_reducible refine (SMT.out _ _ _ (LOW.out _ hacc) ((RB9.out.below hacc).more hacc.size)).mono ?_); rintro e w10 ⟨rfl, hb10⟩; replace hacc := bthen hacc hb10)
              | (go_at_call 8; (with_reducible refine (AL.out _ (TB.out.on (LOW.out _ hacc))).mono ?_); rintro e w11 ⟨rfl, hb11⟩; replace hacc := bthen hacc hb11))
            all_goals
              go_wp2
              go_ret
              exact ⟨ret_bool (by simp), LOW.out _ hacc⟩
    · have hE1 : Mb.may p l k m u g t xs.length ≠ 0 := by rw [hxl]; exact hE
      rw [Mb.lay_bad hE1] at lay
      generalize Mb.may p l k m u g t n = E at *
      have hE' : (E == 0) = false := by simp [hE]
      have hE2 : (E != 0) = true := by simp [hE]
      have LAY := Lib.hid lay
      clear lay hE1 hE tb ha hx hxl
      go_enter Tryz.func4, Tryz.ntmps4
      go_wp2_with (first
        | (go_at_call 13; (with_reducible refine (FAR.out _).mono ?_); rintro e w1 ⟨rfl, hb1⟩; have HA1 := Lib.hid (show Below (w.heap.size + 1) (w.alloc (.cells #[.string p, .int .i64 k, .int .i64 m, .int .i64 u, .int .i64 g, .int .i64 t, .string l, .slice A n c] 42)) w1 by simpa using hb1); have q0 : w1.cell? ⟨w.heap.size, 0, none⟩ = some (.string p) := (mbBox2 HA1.out).cell rfl; have q1 : w1.cell? ⟨w.heap.size, 1, none⟩ = some (.int .i64 k) := (mbBox2 HA1.out).cell rfl; have q2 : w1.cell? ⟨w.heap.size, 2, none⟩ = some (.int .i64 m) := (mbBox2 HA1.out).cell rfl; have q3 : w1.cell? ⟨w.heap.size, 3, none⟩ = some (.int .i64 u) := (mbBox2 HA1.out).cell rfl; have q4 : w1.cell? ⟨w.heap.size, 4, none⟩ = some (.int .i64 g) := (mbBox2 HA1.out).cell rfl; have q5 : w1.cell? ⟨w.heap.size, 5, none⟩ = some (.int .i64 t) := (mbBox2 HA1.out).cell rfl; have q6 : w1.cell? ⟨w.heap.size, 6, none⟩ = some (.string l) := (mbBox2 HA1.out).cell rfl; have q7 : w1.cell? ⟨w.heap.size, 7, none⟩ = some (.slice A n c) := (mbBox2 HA1.out).cell rfl; clear hb1)
        | (go_at_call 11; (with_reducible refine (THE.out _).mono ?_); rintro e w2 ⟨rfl, hb2⟩; have HA2 := Lib.hid (HA1.out.trans (hb2.mono (by have := HA1.out.size; simpa using this))); clear hb2)
        | (go_at_call 14; (with_reducible refine (LAY.out _ (mbLow2 HA2.out)).mono ?_); rintro e w3 ⟨v3, rfl, ho3, hb3⟩; have HA3 := Lib.hid (HA2.out.trans (hb3.mono (by have := HA2.out.size; simpa using this))); obtain ⟨A3, c3, rfl, _, _, _⟩ := ho3.rb; clear ho3 hb3)
        | (go_at_call 8; (with_reducible refine (AL.out _ (TB.out.on (mbLow2 HA3.out))).mono ?_); rintro e w4 ⟨rfl, hb4⟩))
      go_ret
      exact ⟨rfl, (mbLow2 HA3.out).trans (hb4.mono (mbLow2 HA3.out).size)⟩
end Go.Proofs.YtjhigkkkfkahdaaGreatDoor
