/- WALKS OF LAYER 9, SIXTEENTH PART: the gathering's run. -/
import Derived.Test.YtjofdgjcbjdhbaaGreatDoorGa4
import Derived.Test.YtjofdgjcbjdhbaaGreatDoorGm8
import Derived.Test.YtjofdgjcbjdhbaaGreatDoorA9c
namespace Go.Proofs.YtjofdgjcbjdhbaaGreatDoor
open Go Go.RowKit
set_option maxHeartbeats 8000000
set_option maxRecDepth 100000
set_option linter.unusedVariables false
/-- Where a scan stands, as its box tells. -/
def atOf (w : World) (a : Nat) : Nat := (intOf ((w.cell? ⟨a, 1, none⟩).getD (.int .i64 0))).toNat
theorem stp_good {b : List Int} {s s' : Ar.S} (h : Ar.stp b s = .go s') (hs : Ar.Good s) : Ar.Good s' := by
  obtain ⟨_, _, h2⟩ := Ar.stp_go h
  obtain ⟨_, _, _, h4⟩ := Ar.entry_go h2
  exact Ar.body_good h4 hs
section
variable {w : World} {B a : Nat} {bA : Option Addr} {bn bc : Nat} {xs : List Int} {al nx it : Value} {s : Ar.S} {its : List It}
theorem Gs.stands (h : Gs w B a bA bn bc xs al nx it s its) : atOf w a = s.at_ := by
  have h1 : w.cell? ⟨a, 1, none⟩ = some (.int .i64 (s.at_ : Int)) := h.box.cell rfl
  unfold atOf
  rw [h1]
  simp [intOf]
theorem entered_go {w' : World} {e : Ending} {s' : Ar.S} (h : Entered w' B a bA bn bc xs it its (.go s') e) : e = .returned (.int .i64 0) ∧ ∃ al' nx' it' its', Gs w' B a bA bn bc xs al' nx' it' s' its' := by
  obtain ⟨E, h1, ⟨h2, s2, h3, h4⟩ | ⟨h2, h3, _⟩⟩ := h
  · cases h3
    subst h2
    exact ⟨h1, h4⟩
  · cases h3
theorem entered_fin {w' : World} {e : Ending} {E : Int} (h : Entered w' B a bA bn bc xs it its (.fin E) e) : e = .returned (.int .i64 E) ∧ E ≠ 0 ∧ Left w' B a bA bn bc xs it its := by
  obtain ⟨E2, h1, ⟨h2, s2, h3, h4⟩ | ⟨h2, h3, h4⟩⟩ := h
  · cases h3
  · cases h3
    exact ⟨h1, h2, h4⟩
/-- What a run leaves. -/
def Ran (w' : World) (B a : Nat) (bA : Option Addr) (bn bc : Nat) (xs : List Int) (out : List (Ar.Mem × Nat)) : Prop := ∃ it its, Left w' B a bA bn bc xs it its ∧ its.map (fun x => (x.mem, x.z)) = out
theorem run_any9 (h : Gs w B a bA bn bc xs al nx it s its) (hB : B ≤ w.heap.size) (tb : ∀ W, Below B w W → Tab W) (hxs : Byt xs) (hbn : bn ≤ 400000) (hat : s.at_ ≤ bn) (hbc : bn ≤ bc) (hbc2 : bc ≤ maxLen) (hfit : Ar.Fits s) (hgood : Ar.Good s) :
    Calls Tryz.prog 31 #[.pointer (some ⟨a, 0, none⟩)] w fun e w' => e = .returned (.int .i64 (Ar.scanAt xs s).2) ∧ Ran w' B a bA bn bc xs (Ar.scanAt xs s).1.out ∧ Below B w w' := by
  have H := Lib.hid (show ∃ al nx it s' its, Gs w B a bA bn bc xs al nx it s' its ∧ Ar.scanAt xs s' = Ar.scanAt xs s ∧ s'.at_ ≤ bn ∧ Ar.Fits s' ∧ Ar.Good s' from ⟨_, _, _, _, _, h, rfl, hat, hfit, hgood⟩)
  have HXS := Lib.hid hxs; have TB := Lib.hid tb
  generalize Ar.scanAt xs s = SC at *
  clear h hat hfit hgood hxs tb
  go_enter Tryz.func31, Tryz.ntmps31
  go_wp2
  go_loopw [] (fun wr => Hid (∃ al nx it s' its, Gs wr B a bA bn bc xs al nx it s' its ∧ Ar.scanAt xs s' = SC ∧ s'.at_ ≤ bn ∧ Ar.Fits s' ∧ Ar.Good s') ∧ Below B w wr) (fun wr => bn + 1 - atOf wr a)
  case atStart => exact ⟨H.out, Below.refl _ _⟩
  case round =>
    obtain ⟨HS, hb⟩ := hrel
    obtain ⟨al, nx, it, s, its, hg, hsc, hat, hfit, hgood⟩ := HS.out
    clear HS H
    have hAT := hg.stands
    have HG := Lib.hid hg
    by_cases h1 : bn < s.at_ + 512
    · have hst : Ar.stp xs s = .fin 4 := by unfold Ar.stp; rw [if_pos (by rw [hg.len]; omega)]
      have HF := Lib.hid ((Ar.scan_fin hst).symm.trans hsc)
      have BE := Lib.hid (block_end9 hg (by omega) h1 (by omega))
      clear hg hsc hat hfit hgood hst h1 hAT
      go_wp2_with (go_at_call 49; (with_reducible refine (BE.out).mono ?_); rintro e w2 ⟨rfl, rfl⟩)
      go_ret
      exact ⟨(by rw [← HF.out]; rfl), ⟨_, _, ⟨_, _, _, HG.out⟩, by rw [HG.out.out, ← HF.out]⟩, hb⟩
    · have BO := Lib.hid (block_ok9 hg (by omega) (show s.at_ + 512 ≤ bn by omega) hbc hbc2)
      have hbz : (Ar.blk xs s).length = 512 := by unfold Ar.blk; rw [List.length_take, List.length_drop, hg.len]; omega
      have hbb : Byt (Ar.blk xs s) := byt_take9 (HXS.out.drop _) _
      have hxl := hg.len
      have hst : Ar.stp xs s = if Hs.zeroS (Ar.blk xs s) = true then .fin (Ar.endE xs s) else Ar.entry s (Ar.blk xs s) (xs.drop (s.at_ + 512)) := by unfold Ar.stp; rw [if_neg (by omega)]
      have END := Lib.hid (fun (W : World) (hg2 : Gs W B a bA bn bc xs al nx it { s with at_ := s.at_ + 512 } its) => end_any9 hg2 (by omega) (by omega) hbc hbc2)
      have ENT := Lib.hid (fun (W : World) (hbW : Below B wr W) (hg2 : Gs W B a bA bn bc xs al nx it { s with at_ := s.at_ + 512 } its) (A' : Option Addr) (hr : RB W B A' 512 (Ar.blk xs s)) => entry_any9 hg2 (Nat.le_trans hB (hb.trans hbW).size) (fun W2 h2 => TB.out W2 ((hb.trans hbW).trans h2)) HXS.out hbn (by omega) hbc hbc2 hfit hgood.1 A' (bc - s.at_) _ hr hbb (by omega) (by omega))
      have HZA := Lib.hid (fun (A' : Option Addr) (c : Nat) (W : World) (hr : RB W W.heap.size A' 512 (Ar.blk xs s)) => hzero_any A' 512 c _ W hr)
      have HFI := Lib.hid hfit; have HGO := Lib.hid hgood; have HSC := Lib.hid hsc; have HBB := Lib.hid hB
      obtain ⟨sz, hsz⟩ : ∃ sz, sz = bc - s.at_ := ⟨_, rfl⟩
      rw [← hsz] at BO
      have ENT2 := Lib.hid (hsz ▸ ENT.out)
      clear hsz ENT
      cases hz : Hs.zeroS (Ar.blk xs s) with
      | true =>
        rw [hz, if_pos rfl] at hst
        have HF := Lib.hid ((Ar.scan_fin hst).symm.trans hsc)
        have HZ := Lib.hid hz
        clear hg hsc hat hfit hgood hst h1 hAT hbz hbb hxl hz ENT2
        generalize Ar.blk xs s = X at *
        rw [HZ.out] at HZA
        generalize Ar.endE xs s = E0 at *
        go_wp2_with (first
          | (go_at_call 49; (with_reducible refine (BO.out).mono ?_); rintro e w2 ⟨A', rfl, hr2, hg2, hb2⟩; have HG2 := Lib.hid hg2; have HB2 := Lib.hid (hb.trans hb2); have HR2 := Lib.hid (hr2.more (Nat.le_trans HBB.out HB2.out.size)); clear hr2 hg2 hb2)
          | (go_at_call 50; (with_reducible refine (HZA.out _ _ _ HR2.out).mono ?_); rintro e w3 ⟨rfl, rfl⟩)
          | (go_at_call 51; (with_reducible refine (END.out _ HG2.out).mono ?_); rintro e w4 ⟨rfl, hl4, hb4⟩; have HL4 := Lib.hid hl4; have HB4 := Lib.hid (HB2.out.trans hb4); clear hl4 hb4))
        go_ret
        exact ⟨(by rw [← HF.out]; rfl), ⟨_, _, HL4.out, by rw [HG.out.out, ← HF.out]⟩, HB4.out⟩
      | false =>
        rw [hz, if_neg (by simp)] at hst
        have HZ := Lib.hid hz
        cases hen : Ar.entry s (Ar.blk xs s) (xs.drop (s.at_ + 512)) with
        | fin E =>
          rw [hen] at hst
          have ENT3 := Lib.hid (fun (W : World) (hbW : Below B wr W) (hg2 : Gs W B a bA bn bc xs al nx it { s with at_ := s.at_ + 512 } its) (A' : Option Addr) (hr : RB W B A' 512 (Ar.blk xs s)) => (show Calls Tryz.prog 52 #[.pointer (some ⟨a, 0, none⟩), .slice A' 512 sz] W fun e w' => (e = .returned (.int .i64 E) ∧ E ≠ 0 ∧ Left w' B a bA bn bc xs it its) ∧ Below B W w' from (ENT2.out W hbW hg2 A' hr).mono fun e w' h => And.intro (entered_fin (by rw [← hen]; exact h.1)) h.2))
          have HF := Lib.hid ((Ar.scan_fin hst).symm.trans hsc)
          clear hg hsc hat hfit hgood hst h1 hAT hbz hbb hxl hz ENT2 hen END
          generalize Ar.blk xs s = X at *
          rw [HZ.out] at HZA
          go_wp2_with (first
            | (go_at_call 49; (with_reducible refine (BO.out).mono ?_); rintro e w2 ⟨A', rfl, hr2, hg2, hb2⟩; have HG2 := Lib.hid hg2; have HBX2 := Lib.hid hb2; have HB2 := Lib.hid (hb.trans hb2); have HR0 := Lib.hid hr2; have HR2 := Lib.hid (hr2.more (Nat.le_trans HBB.out HB2.out.size)); clear hr2 hg2 hb2)
            | (go_at_call 50; (with_reducible refine (HZA.out _ _ _ HR2.out).mono ?_); rintro e w3 ⟨rfl, rfl⟩)
            | fail)
          go_at_call 52
          (with_reducible refine (ENT3.out _ HBX2.out HG2.out _ HR0.out).mono ?_); rintro e w4 ⟨⟨rfl, hne, hl4⟩, hb4⟩
          have hne' : (E != 0) = true := by simpa using hne
          have HL4 := Lib.hid hl4; have HB4 := Lib.hid (HB2.out.trans hb4)
          clear hl4 hb4 hne
          go_wp2
          go_ret
          exact ⟨(by rw [← HF.out]; rfl), ⟨_, _, HL4.out, by rw [HG.out.out, ← HF.out]⟩, HB4.out⟩
        | go s2 =>
          rw [hen] at hst
          have ENT3 := Lib.hid (fun (W : World) (hbW : Below B wr W) (hg2 : Gs W B a bA bn bc xs al nx it { s with at_ := s.at_ + 512 } its) (A' : Option Addr) (hr : RB W B A' 512 (Ar.blk xs s)) => (show Calls Tryz.prog 52 #[.pointer (some ⟨a, 0, none⟩), .slice A' 512 sz] W fun e w' => (e = .returned (.int .i64 0) ∧ ∃ al' nx' it' its', Gs w' B a bA bn bc xs al' nx' it' s2 its') ∧ Below B W w' from (ENT2.out W hbW hg2 A' hr).mono fun e w' h => And.intro (entered_go (by rw [← hen]; exact h.1)) h.2))
          obtain ⟨g1, g2, _⟩ := Ar.stp_grow hst
          rw [hxl] at g2
          have HREL := Lib.hid (And.intro ((Ar.scan_go hst).symm.trans hsc) (And.intro g2 (And.intro (Ar.stp_fits hst hfit) (stp_good hst hgood))))
          have HME := Lib.hid (show bn + 1 - s2.at_ < bn + 1 - atOf wr a by omega)
          clear hg hsc hat hfit hgood hst h1 hAT hbz hbb hxl hz ENT2 hen END g1 g2
          generalize Ar.blk xs s = X at *
          rw [HZ.out] at HZA
          go_wp2_with (first
            | (go_at_call 49; (with_reducible refine (BO.out).mono ?_); rintro e w2 ⟨A', rfl, hr2, hg2, hb2⟩; have HG2 := Lib.hid hg2; have HBX2 := Lib.hid hb2; have HB2 := Lib.hid (hb.trans hb2); have HR0 := Lib.hid hr2; have HR2 := Lib.hid (hr2.more (Nat.le_trans HBB.out HB2.out.size)); clear hr2 hg2 hb2)
            | (go_at_call 50; (with_reducible refine (HZA.out _ _ _ HR2.out).mono ?_); rintro e w3 ⟨rfl, rfl⟩)
            | fail)
          go_at_call 52
          (with_reducible refine (ENT3.out _ HBX2.out HG2.out _ HR0.out).mono ?_); rintro e w4 ⟨⟨rfl, al4, nx4, it4, its4, hg4⟩, hb4⟩
          have HG4 := Lib.hid hg4; have HB4 := Lib.hid (HB2.out.trans hb4)
          clear hg4 hb4
          go_wp2
          go_roundw
          case rel => exact ⟨⟨_, _, _, _, _, HG4.out, HREL.out⟩, HB4.out⟩
          case measure => rw [HG4.out.stands]; exact HME.out
end
end Go.Proofs.YtjofdgjcbjdhbaaGreatDoor
/- WALKS OF LAYER 9, SEVENTEENTH PART: arch.Scan, arch.Parse; rows of numbers. -/
namespace Go.Proofs.YtjofdgjcbjdhbaaGreatDoor
open Go Go.RowKit
set_option maxHeartbeats 8000000
set_option maxRecDepth 100000
set_option linter.unusedVariables false
/-- What was gathered, read. -/
theorem left_ilv {w : World} {B a bn bc : Nat} {bA : Option Addr} {xs : List Int} {it : Value} {its : List It} (h : Left w B a bA bn bc xs it its) : ILV w it its := by
  obtain ⟨al, nx, s, hg⟩ := h
  obtain ⟨A, c, e, h1, h2, h3⟩ := owns_rs c9_len hg.hit
  exact ⟨A, c, e, ⟨h1, fun x hx => ⟨(hg.dat x hx).1, (hg.dat x hx).2.1, (hg.dat x hx).2.2.1⟩⟩, h2, h3⟩
theorem scan_any9 (A : Option Addr) (n c : Nat) (xs : List Int) (w : World) (tb : Tab w) (hd : RB w w.heap.size A n xs) (hx : Byt xs) (hc : n ≤ c) (hc2 : c ≤ maxLen) (hn : n ≤ 400000) :
    Calls Tryz.prog 15 #[.slice A n c] w fun e w' => ∃ v its, e = .returned (.tuple #[v, .int .i64 (Ar.scan xs).2]) ∧ ILV w' v its ∧ its.map (fun x => (x.mem, x.z)) = (Ar.scan xs).1.out ∧ Below w.heap.size w w' := by
  have hb1 := mb_new w (.cells #[.slice A n c, .int .i64 0, .slice none 0 0, .slice none 0 0, .slice none 0 0] 79)
  have hg : Gs (w.alloc (.cells #[.slice A n c, .int .i64 0, .slice none 0 0, .slice none 0 0, .slice none 0 0] 79)) w.heap.size w.heap.size A n c xs (.slice none 0 0) (.slice none 0 0) (.slice none 0 0) Ar.s0 [] :=
    { box := BX.new w 79 _, ba := Nat.le_refl _, bytes := hd.below hb1, hal := World.ownsRow_nil _ _ _ _, hnx := World.ownsRow_nil _ _ _ _, hit := World.ownsRow_nil _ _ _ _, dat := fun x hx => (by cases hx), out := rfl, apart := fun k hk => by simp [Value.ownBlock] at hk }
  have RUN := Lib.hid (run_any9 hg hb1.size (fun W h => tb.on (hb1.trans h)) hx hn (Nat.zero_le _) hc hc2 Ar.fits_s0 Ar.good_s0)
  have HB1 := Lib.hid hb1
  rw [show Ar.scanAt xs Ar.s0 = Ar.scan xs from rfl] at RUN
  generalize Ar.scan xs = SC at *
  clear hg hb1 hd hx tb
  go_enter Tryz.func15, Tryz.ntmps15
  go_wp2_with (go_at_call 31; (with_reducible refine (RUN.out).mono ?_); rintro e w2 ⟨rfl, ⟨it, its, hl, ho⟩, hb2⟩; have HL := Lib.hid hl; have HO := Lib.hid ho; have HB2 := Lib.hid (HB1.out.trans hb2); obtain ⟨al, nx, s, hg2⟩ := hl; have c4 : w2.cell? ⟨w.heap.size, 4, none⟩ = some it := hg2.box.cell rfl; clear hg2 ho hb2)
  go_ret2
  exact ⟨_, its, rfl, left_ilv HL.out, HO.out, HB2.out⟩
theorem parse_any9 (A : Option Addr) (n c : Nat) (xs : List Int) (w : World) (tb : Tab w) (hd : RB w w.heap.size A n xs) (hx : Byt xs) (hc : n ≤ c) (hc2 : c ≤ maxLen) (hn : n ≤ 400000) :
    Calls Tryz.prog 18 #[.slice A n c] w fun e w' => ∃ v its, e = .returned (.tuple #[v, .int .i64 (Ar.scan xs).2]) ∧ MLV w' v its ∧ its.map It.mem = (if (Ar.scan xs).2 = 0 then (Ar.scan xs).1.out.map Prod.fst else []) ∧ Below w.heap.size w w' := by
  obtain ⟨i0, hi, hz0, hz1, hz2⟩ := info_parts info_mem
  have SCN := Lib.hid (scan_any9 A n c xs w tb hd hx hc hc2 hn)
  have hol : (Ar.scan xs).1.out.length ≤ 64 := (Ar.scan_good (b := xs) Ar.s0 Ar.good_s0).1
  generalize Ar.scan xs = SC at *
  obtain ⟨S, E⟩ := SC
  dsimp only at *
  clear hd hx tb
  by_cases hE : E = 0
  · subst hE
    rw [if_pos rfl]
    go_enter Tryz.func18, Tryz.ntmps18
    go_wp2_with (go_at_call 15; (with_reducible refine (SCN.out).mono ?_); rintro e w2 ⟨v2, its, rfl, hv2, ho2, hb2⟩; obtain ⟨A2, c2, rfl, hl2, _, hcm2⟩ := hv2; have HL2 := Lib.hid hl2; have HO2 := Lib.hid ho2; have HB2 := Lib.hid hb2; have hlen : its.length ≤ 64 := (by rw [← ho2, List.length_map] at hol; exact hol); clear hl2 ho2 hb2)
    obtain ⟨nl, hnl⟩ : ∃ nl, nl = its.length := ⟨_, rfl⟩
    have HNL := Lib.hid hnl
    rw [← hnl] at hlen HL2 ⊢
    clear hnl
    go_loopw [6, 19] (fun v i wr => ∃ j : Nat, j ≤ nl ∧ i = .int .i64 j ∧ Hid (wr.ownsRow w2.heap.size 44 8 v j ((its.take j).flatMap c8)) ∧ Below w2.heap.size w2 wr) (fun _ i _ => nl - (intOf i).toNat)
    case atStart => exact ⟨0, by omega, rfl, World.ownsRow_nil _ _ _ _, Below.refl _ _⟩
    case round =>
      obtain ⟨j, hj, rfl, HO, hb⟩ := hrel
      by_cases hlt : j < nl
      · have hlt' : (j : Int) < nl := by omega
        obtain ⟨b, o, p, l, k, m, u, g, t, A, n, c, xs, z, rfl, hbl, hjl, q0, q1, q2, q3, q4, q5, q6, q7, q8, hrb, hnc, hcm⟩ := (HL2.out.below hb).at_ hlt
        have HS := Lib.hid (c8_snoc (Rc.take_next hjl))
        clear hjl hrb hnc hcm
        obtain ⟨Au, cu, rfl, hcu⟩ := owns_slice HO.out
        generalize (its.take j).flatMap c8 = XS at *
        have HB3 := Lib.hid (hb.alloc hb.size (.cells #[.string p, .int .i64 k, .int .i64 m, .int .i64 u, .int .i64 g, .int .i64 t, .string l, .slice A n c, .int .i64 (z : Int)] 46))
        have HO3 := Lib.hid (owns_below HO.out (Below.alloc (Below.refl _ _) (Nat.le_refl _) (.cells #[.string p, .int .i64 k, .int .i64 m, .int .i64 u, .int .i64 g, .int .i64 t, .string l, .slice A n c, .int .i64 (z : Int)] 46)))
        have HO4 := Lib.hid (owns_below HO3.out (mb_new (wr.alloc (.cells #[.string p, .int .i64 k, .int .i64 m, .int .i64 u, .int .i64 g, .int .i64 t, .string l, .slice A n c, .int .i64 (z : Int)] 46)) (.cells #[.string p, .int .i64 k, .int .i64 m, .int .i64 u, .int .i64 g, .int .i64 t, .string l, .slice A n c] 44)))
        have HB4 := Lib.hid (HB3.out.alloc HB3.out.size (.cells #[.string p, .int .i64 k, .int .i64 m, .int .i64 u, .int .i64 g, .int .i64 t, .string l, .slice A n c] 44))
        have NEWS := Lib.hid (mem_news (wr.alloc (.cells #[.string p, .int .i64 k, .int .i64 m, .int .i64 u, .int .i64 g, .int .i64 t, .string l, .slice A n c, .int .i64 (z : Int)] 46)) 44 p l k m u g t A n c)
        rw [show (wr.alloc (.cells #[.string p, .int .i64 k, .int .i64 m, .int .i64 u, .int .i64 g, .int .i64 t, .string l, .slice A n c, .int .i64 (z : Int)] 46)).heap.size = wr.heap.size + 1 by simp] at NEWS
        go_wp2_with (at_builtin; refine wpList_append_own _ rfl _ _ 29 rfl w2.heap.size 44 i0 (.agg #[.string ⟨#[]⟩, .int .i64 0, .int .i64 0, .int .i64 0, .int .i64 0, .int .i64 0, .string ⟨#[]⟩, .slice none 0 0]) 8 96 Tryz.underlying29 hi hz0 hz1 hz2 rfl (by decide) (.slice Au j cu) j XS rfl HO4.out ⟨wr.heap.size + 1, 0, none⟩ 1 1 [.string p, .int .i64 k, .int .i64 m, .int .i64 u, .int .i64 g, .int .i64 t, .string l, .slice A n c] rfl rfl NEWS.out (mem_one p l k m u g t A n c) (by unfold maxLen; omega) (by omega) (by have := HB4.out.size; simp at this ⊢; omega) ?_; intro v5 w5 hown5 hgrow5 hnil5; have HO5 := Lib.hid hown5; have HB5 := Lib.hid (below_app6 HB4.out (Nat.le_refl _) HO4.out hgrow5); clear hown5 hgrow5 hnil5)
        go_roundw
        case rel => exact ⟨j + 1, by omega, by go_num, by show World.ownsRow _ _ _ _ _ _ _; rw [HS.out]; exact HO5.out, HB5.out⟩
        case measure => simp [intOf]; omega
      · obtain rfl : j = nl := by omega
        have HR := Lib.hid HO.out
        have hle := HNL.out
        rw [List.take_of_length_le (by omega)] at HR
        have HD := Lib.hid ((HL2.out.2.below hb).more hb.size)
        have hlt' : ¬ (j : Int) < j := by omega
        have HRR := Lib.hid (show MO wr w2.heap.size 44 _ its from ⟨HNL.out ▸ HR.out, HD.out⟩)
        clear hle
        go_wp2
        go_ret2
        have HMM := Lib.hid (show its.map It.mem = S.out.map Prod.fst by rw [← HO2.out, List.map_map]; rfl)
        have HBF := Lib.hid (HB2.out.trans (hb.mono HB2.out.size))
        first
          | exact ⟨_, its, rfl, HRR.out.mlv, HMM.out, HBF.out⟩
          | exact ⟨_, rfl, its, HRR.out.mlv, HMM.out, HBF.out⟩
          | exact ⟨_, rfl, ⟨its, HRR.out.mlv, HMM.out⟩, HBF.out⟩
  · rw [if_neg hE]
    have hE' : (E != 0) = true := by simpa using hE
    go_enter Tryz.func18, Tryz.ntmps18
    go_wp2_with (go_at_call 15; (with_reducible refine (SCN.out).mono ?_); rintro e w2 ⟨v2, its, rfl, hv2, ho2, hb2⟩; have HB2 := Lib.hid hb2; clear hv2 ho2 hb2)
    go_ret2
    exact ⟨_, [], rfl, ⟨none, 0, rfl, ML.nil, Nat.le_refl _, Nat.zero_le _⟩, rfl, HB2.out⟩
/- ROWS OF NUMBERS. -/
/-- THE SLICE VALUE '.slice A n c' READS AS NUMBERS. -/
def NR (w : World) (B : Nat) (A : Option Addr) (n : Nat) (l : List Nat) : Prop :=
  l.length = n ∧ (0 < n → ∃ b o, A = some ⟨b, o, none⟩ ∧ b < B ∧ ∀ j, j < n → w.cell? ⟨b, o + j, none⟩ = some (.int .i64 ((l.getD j 0 : Nat) : Int)))
theorem NR.below {w w' : World} {B n : Nat} {A : Option Addr} {l : List Nat} (h : NR w B A n l) (hb : Below B w w') : NR w' B A n l :=
  ⟨h.1, fun hn => by
    obtain ⟨b, o, e, hlt, hc⟩ := h.2 hn
    exact ⟨b, o, e, hlt, fun j hj => (hb.cell (p := ⟨b, o + j, none⟩) hlt).trans (hc j hj)⟩⟩
theorem NR.more {w : World} {B B' n : Nat} {A : Option Addr} {l : List Nat} (h : NR w B A n l) (hB : B ≤ B') : NR w B' A n l :=
  ⟨h.1, fun hn => by
    obtain ⟨b, o, e, hlt, hc⟩ := h.2 hn
    exact ⟨b, o, e, by omega, hc⟩⟩
theorem NR.at_ {w : World} {B n : Nat} {A : Option Addr} {l : List Nat} (h : NR w B A n l) {j : Nat} (hj : j < n) : ∃ b o, A = some ⟨b, o, none⟩ ∧ b < B ∧ w.cell? ⟨b, o + j, none⟩ = some (.int .i64 ((l.getD j 0 : Nat) : Int)) := by
  obtain ⟨b, o, e, hlt, hc⟩ := h.2 (by omega)
  exact ⟨b, o, e, hlt, hc j hj⟩
theorem nums_len (l : List Nat) : (nums l).length = l.length := by simp [nums]
theorem owns_nr {w : World} {base : Nat} {e : TypeId} {v : Value} {l : List Nat} (h : w.ownsRow base e 1 v l.length (nums l)) : ∃ A c, v = .slice A l.length c ∧ NR w w.heap.size A l.length l ∧ l.length ≤ c ∧ c ≤ maxLen := by
  have hh := h
  rcases h.2 with ⟨rfl, h0⟩ | ⟨g, cap, cur, rfl, hb, hg, hnc, hcm, hcs, htake⟩
  · rw [h0]
    exact ⟨none, 0, rfl, ⟨h0, fun h => absurd h (by simp)⟩, Nat.le_refl _, Nat.zero_le _⟩
  · refine ⟨_, cap, rfl, ⟨rfl, fun hn => ⟨g, 0, rfl, (World.ownsRow.lt hh g rfl).2, fun j hj => ?_⟩⟩, hnc, hcm⟩
    have a0 := World.ownsRow.cellAt hh j (by omega)
    rw [Nat.zero_add, a0]
    simp [nums, List.getD_eq_getElem?_getD, List.getElem?_eq_getElem hj]
end Go.Proofs.YtjofdgjcbjdhbaaGreatDoor
/- WALKS OF LAYER 9, EIGHTEENTH PART: alive. -/
namespace Go.Proofs.YtjofdgjcbjdhbaaGreatDoor
open Go Go.RowKit
set_option maxHeartbeats 8000000
set_option maxRecDepth 100000
set_option linter.unusedVariables false
theorem one_mem {its : List It} (h : its.map It.mem = [Ar.mA]) : ∃ y, its = [y] ∧ y.p = ⟨#[97]⟩ := by
  obtain ⟨y, rfl⟩ : ∃ y, its = [y] := List.length_eq_one_iff.1 (by have := congrArg List.length h; simpa using this)
  have h1 : y.mem = Ar.mA := by simpa using h
  exact ⟨y, rfl, congrArg Ar.Mem.p h1⟩
theorem one_item {its : List It} (h : its.map (fun x => (x.mem, x.z)) = [(Ar.mA, 512)]) : ∃ y, its = [y] ∧ y.z = 512 := by
  obtain ⟨y, rfl⟩ : ∃ y, its = [y] := List.length_eq_one_iff.1 (by have := congrArg List.length h; simpa using this)
  have h1 : y.mem = Ar.mA ∧ y.z = 512 := by simpa using h
  exact ⟨y, rfl, h1.2⟩
/-- The first member's path, the first item's end. -/
theorem mlv_first {w : World} {v : Value} {its : List It} (h : MLV w v its) (hm : its.map It.mem = [Ar.mA]) : ∃ b o c, v = .slice (some ⟨b, o, none⟩) 1 c ∧ b < w.heap.size ∧ w.cell? ⟨b, o, none⟩ = some (.string ⟨#[97]⟩) := by
  obtain ⟨y, rfl, hp⟩ := one_mem hm
  obtain ⟨A, c, rfl, h1, _, _⟩ := h
  obtain ⟨b, o, rfl, hb, hc⟩ := h1.1.2 (by simp)
  have h0 := hc 0 y rfl 0 _ rfl
  rw [hp] at h0
  exact ⟨b, o, c, rfl, hb, by simpa using h0⟩
theorem ilv_first {w : World} {v : Value} {its : List It} (h : ILV w v its) (hm : its.map (fun x => (x.mem, x.z)) = [(Ar.mA, 512)]) : ∃ b o c, v = .slice (some ⟨b, o, none⟩) 1 c ∧ b < w.heap.size ∧ w.cell? ⟨b, o + 8, none⟩ = some (.int .i64 512) := by
  obtain ⟨y, rfl, hp⟩ := one_item hm
  obtain ⟨A, c, rfl, h1, _, _⟩ := h
  obtain ⟨b, o, rfl, hb, hc⟩ := h1.1.2 (by simp)
  have h0 := hc 0 y rfl 8 _ rfl
  rw [hp] at h0
  exact ⟨b, o, c, rfl, hb, by simpa using h0⟩
theorem alive9_any (w : World) (tb : Tab w) : Calls Tryz.prog 8 #[] w fun e w' => e = .returned (.bool true) ∧ Below w.heap.size w w' := by
  obtain ⟨q, hq, h0⟩ := Ar.cuts_ex
  obtain ⟨f1, f2, f3, f4, f5, f6, f7⟩ := Ar.alive_facts hq h0
  have hb1 := mb_new w (.cells #[.string ⟨#[97]⟩, .int .i64 4, .int .i64 0, .int .i64 0, .int .i64 0, .int .i64 0, .string ⟨#[]⟩, .slice none 0 0] 44)
  have hml : ML (w.alloc (.cells #[.string ⟨#[97]⟩, .int .i64 4, .int .i64 0, .int .i64 0, .int .i64 0, .int .i64 0, .string ⟨#[]⟩, .slice none 0 0] 44)) (w.alloc (.cells #[.string ⟨#[97]⟩, .int .i64 4, .int .i64 0, .int .i64 0, .int .i64 0, .int .i64 0, .string ⟨#[]⟩, .slice none 0 0] 44)).heap.size (some ⟨w.heap.size, 0, none⟩) 1 [⟨⟨#[97]⟩, ⟨#[]⟩, 4, 0, 0, 0, 0, none, 0, 0, [], 0⟩] := by
    refine ⟨⟨rfl, fun _ => ⟨w.heap.size, 0, rfl, by simp, fun j x hj i v hv => ?_⟩⟩, fun x hx => ?_⟩
    · have hj1 := (List.getElem?_eq_some_iff.1 hj).1
      obtain rfl : j = 0 := by simpa using hj1
      · obtain rfl : (⟨⟨#[97]⟩, ⟨#[]⟩, 4, 0, 0, 0, 0, none, 0, 0, [], 0⟩ : It) = x := by simpa using hj
        rw [Nat.zero_mul, Nat.zero_add]
        exact (BX.new w _ _).cell (by simpa [c8] using hv)
    · obtain rfl : x = (⟨⟨#[97]⟩, ⟨#[]⟩, 4, 0, 0, 0, 0, none, 0, 0, [], 0⟩ : It) := by simpa using hx
      exact ⟨RB.nil, Nat.le_refl _, Nat.zero_le _⟩
  have lay := aLay_any9 q hq (some ⟨w.heap.size, 0, none⟩) 1 1 _ _ (tb.on hb1) hml (by omega) (fun x hx => by
    obtain rfl : x = (⟨⟨#[97]⟩, ⟨#[]⟩, 4, 0, 0, 0, 0, none, 0, 0, [], 0⟩ : It) := by simpa using hx
    exact ⟨by decide, by decide, by decide⟩)
  rw [show ([⟨⟨#[97]⟩, ⟨#[]⟩, 4, 0, 0, 0, 0, none, 0, 0, [], 0⟩] : List It).map It.mem = [Ar.mA] from rfl, f1] at lay
  generalize Ar.bytes q [Ar.mA] = Y at *
  have LAY := Lib.hid lay
  have HB1 := Lib.hid hb1
  have PAR := Lib.hid (fun (A : Option Addr) (c : Nat) (W : World) (hb : Below w.heap.size w W) (hr : RB W W.heap.size A 1536 Y) (h1 : 1536 ≤ c) (h2 : c ≤ maxLen) => parse_any9 A 1536 c Y W (tb.on hb) hr f3 h1 h2 (by omega))
  have SCN := Lib.hid (fun (A : Option Addr) (c : Nat) (W : World) (hb : Below w.heap.size w W) (hr : RB W W.heap.size A 600 (Y.take 600)) (h1 : 600 ≤ c) (h2 : c ≤ maxLen) => scan_any9 A 600 c (Y.take 600) W (tb.on hb) hr (byt_take9 f3 _) h1 h2 (by omega))
  rw [f4, f5, if_pos rfl] at PAR
  rw [f6, f7] at SCN
  have F2 := Lib.hid f2
  clear lay hml hb1 f1 f2 f3 f4 f5 f6 f7 hq h0 tb
  go_enter Tryz.func8, Tryz.ntmps8
  go_wp2_with (first
    | (go_at_call 9; (with_reducible refine (LAY.out).mono ?_); rintro e w1 ⟨v1, rfl, ho1, hb2⟩; have HB2 := Lib.hid (HB1.out.trans (hb2.mono HB1.out.size)); obtain ⟨A1, c1, rfl, hr1, hc1, hm1⟩ := ho1.rb; rw [F2.out] at hr1 hc1 ⊢; have hne : ¬ c1 = 0 := (by omega); have HR1 := Lib.hid hr1; have HC1 := Lib.hid hc1; have HM1 := Lib.hid hm1; clear ho1 hb2 hr1 hm1)
    | (go_at_call 18; (with_reducible refine (PAR.out _ _ _ HB2.out HR1.out HC1.out HM1.out).mono ?_); rintro e w2 ⟨v2, its2, rfl, hv2, hm2, hb3⟩; have HB3 := Lib.hid (HB2.out.trans (hb3.mono HB2.out.size)); have HR3 := Lib.hid ((HR1.out.below hb3).more hb3.size); obtain ⟨gb, go, gc, rfl, hgl, hcell⟩ := mlv_first hv2 hm2; have HGL := Lib.hid hgl; have HCE := Lib.hid hcell; clear hv2 hm2 hb3 hgl hcell))
  go_at_call 15
  rw [show (min (1536 : Int) 600).toNat = 600 from by decide]
  refine (SCN.out _ _ _ HB3.out (by obtain ⟨b9, o9, rfl, _⟩ := HR3.out.2 (by omega); exact HR3.out.front (k := 600) (by omega)) (by omega) HM1.out).mono ?_
  rintro e w3 ⟨v3, its3, rfl, hv3, hm3, hb4⟩
  have HB4 := Lib.hid (HB3.out.trans (hb4.mono HB3.out.size))
  have q1 := (hb4.cell (p := ⟨gb, go, none⟩) HGL.out).trans HCE.out
  obtain ⟨xb, xo, xc, rfl, hxl, q2⟩ := ilv_first hv3 hm3
  clear hv3 hm3 hb4 hxl
  go_wp2
  go_ret
  exact ⟨rfl, HB4.out⟩
end Go.Proofs.YtjofdgjcbjdhbaaGreatDoor
