/- WALKS OF LAYER 10, SIXTH PART: join, lasting, end, wait, share. -/
import Derived.Test.YtjofdgjcbjdhbaaGreatDoorGf2
import Derived.Test.YtjofdgjcbjdhbaaGreatDoorGr7
import Derived.Test.YtjofdgjcbjdhbaaGreatDoorGa1
import Derived.Test.YtjofdgjcbjdhbaaGreatDoorGa2
namespace Go.Proofs.YtjofdgjcbjdhbaaGreatDoor
open Go Go.RowKit
set_option maxHeartbeats 16000000
set_option maxRecDepth 100000
set_option linter.unusedVariables false
theorem join_any10 (A : Option Addr) (n c : Nat) (B2 : Option Addr) (m c2 : Nat) (l1 l2 : List Rc.Rec) (w : World) (h1 : RL w w.heap.size A n l1) (h2 : RL w w.heap.size B2 m l2) (hn : n ≤ 50000) (hm : m ≤ 50000) :
    Calls Tryz.prog 92 #[.slice A n c, .slice B2 m c2] w fun e w' => ∃ v, e = .returned v ∧ RO w' w.heap.size 128 v (l1 ++ l2) ∧ Below w.heap.size w w' := by
  obtain ⟨i0, hi, hz0, hz1, hz2⟩ := info_parts info_rec
  have n1 := h1.1
  have n2 := h2.1
  have H1 := Lib.hid h1; have H2 := Lib.hid h2
  have N1 := Lib.hid n1; have N2 := Lib.hid n2
  have own0 : w.ownsRow w.heap.size 128 2 (.slice none 0 0) 0 [] := World.ownsRow_nil _ _ _ _
  have l1c : (cells2 l1).length = n * 2 := by rw [cells2_len, n1]
  have l2c : (cells2 l2).length = m * 2 := by rw [cells2_len, n2]
  obtain ⟨v3, w3, hrun3, hown3, hgrow3, _⟩ := run_append_rows (P := Tryz.prog) w.heap.size 67 67 128 i0 (.agg #[.string ⟨#[]⟩, .string ⟨#[]⟩]) 2 32 Tryz.underlying67 hi hz0 hz1 hz2 rfl (by decide) (.slice none 0 0) 0 [] own0 A n c (cells2 l1) l1c (fun hn => RL.src h1 hn) (cells2_one l1) (by unfold maxLen; omega) (by omega) (Nat.le_refl _)
  have hb3 := below_app6 (Below.refl w.heap.size w) (Nat.le_refl _) own0 hgrow3
  obtain ⟨v4, w4, hrun4, hown4, hgrow4, _⟩ := run_append_rows (P := Tryz.prog) w.heap.size 67 67 128 i0 (.agg #[.string ⟨#[]⟩, .string ⟨#[]⟩]) 2 32 Tryz.underlying67 hi hz0 hz1 hz2 rfl (by decide) v3 (0 + n) _ hown3 B2 m c2 (cells2 l2) l2c (fun hn => RL.src (h2.below hb3) hn) (cells2_one l2) (by unfold maxLen; omega) (by omega) hb3.size
  have HB4 := Lib.hid (below_app6 hb3 (Nat.le_refl _) hown3 hgrow4)
  rw [Nat.zero_add] at hown4
  have HO4 := Lib.hid hown4; have R3 := Lib.hid hrun3; have R4 := Lib.hid hrun4
  obtain ⟨A3, c3, rfl, _⟩ := owns_slice hown3
  rw [Nat.zero_add] at R3 R4
  clear h1 h2 n1 n2 own0 l1c l2c hrun3 hown3 hgrow3 hb3 hrun4 hown4 hgrow4 hi hz0 hz1 hz2 H1 H2
  go_enter Tryz.func92, Tryz.ntmps92
  go_wp2_with (at_builtin; first
    | (refine Lib.wpList_append_run _ rfl _ _ 67 67 rfl _ _ rfl rfl _ _ R4.out ?_)
    | (refine Lib.wpList_append_run _ rfl _ _ 67 67 rfl _ _ rfl rfl _ _ R3.out ?_))
  go_ret
  refine ⟨_, rfl, ?_, HB4.out⟩
  unfold RO
  rw [cells2_app, List.length_append, N1.out, N2.out]
  have := HO4.out
  rwa [List.nil_append] at this
theorem findV_none {key : ByteArray} {l : List Rc.Rec} (h : Rc.findR key l = none) : findV key l = .tuple #[.string ⟨#[]⟩, .bool false] := by unfold findV; rw [h]
theorem findV_some {key v : ByteArray} {l : List Rc.Rec} (h : Rc.findR key l = some v) : findV key l = .tuple #[.string v, .bool true] := by unfold findV; rw [h]
theorem one_none {key : ByteArray} {l : List Rc.Rec} (h : Rc.findR key l = none) : Fd.one key l = [] := by unfold Fd.one; rw [h]
theorem one_some {key v : ByteArray} {l : List Rc.Rec} (h : Rc.findR key l = some v) : Fd.one key l = [(key, v)] := by unfold Fd.one; rw [h]
theorem lasting_any10 (A : Option Addr) (n c : Nat) (l : List Rc.Rec) (w : World) (h : RL w w.heap.size A n l) (hn : n ≤ 100000) :
    Calls Tryz.prog 91 #[.slice A n c] w fun e w' => ∃ v, e = .returned v ∧ RO w' w.heap.size 128 v (Fd.lasting l) ∧ Below w.heap.size w w' := by
  obtain ⟨i0, hi, hz0, hz1, hz2⟩ := info_parts info_rec
  have FND := Lib.hid (fun (key : ByteArray) (W : World) (hb : Below w.heap.size w W) => find6_any A n c l key W ((h.below hb).more hb.size) hn)
  have HL := Lib.hid (show Fd.lasting l = Fd.one Fd.kPath l ++ Fd.one Fd.kLink l from rfl)
  have H1 := Lib.hid (show (Fd.one Fd.kPath l).length ≤ 1 by unfold Fd.one; split <;> simp)
  clear h
  have i0x : ∀ W : World, (Instr.index 165 (.agg #[.string ⟨#[112, 97, 116, 104]⟩, .string ⟨#[108, 105, 110, 107, 112, 97, 116, 104]⟩]) (.int .i64 0)).run Tryz.prog W = .ok (.string ⟨#[112, 97, 116, 104]⟩) W := fun W => by kernel_rfl
  have i1x : ∀ W : World, (Instr.index 165 (.agg #[.string ⟨#[112, 97, 116, 104]⟩, .string ⟨#[108, 105, 110, 107, 112, 97, 116, 104]⟩]) (.int .i64 1)).run Tryz.prog W = .ok (.string ⟨#[108, 105, 110, 107, 112, 97, 116, 104]⟩) W := fun W => by kernel_rfl
  go_enter Tryz.func91, Tryz.ntmps91
  go_wp2
  go_loopw [3, 9] (fun v i wr => Hid (Below w.heap.size w wr) ∧ ((i = .int .i64 0 ∧ Hid (wr.ownsRow w.heap.size 128 2 v 0 [])) ∨ (i = .int .i64 1 ∧ Hid (wr.ownsRow w.heap.size 128 2 v (Fd.one Fd.kPath l).length (cells2 (Fd.one Fd.kPath l)))) ∨ (i = .int .i64 2 ∧ Hid (wr.ownsRow w.heap.size 128 2 v (Fd.lasting l).length (cells2 (Fd.lasting l)))))) (fun _ i _ => 2 - (intOf i).toNat)
  case atStart => exact ⟨Below.refl _ _, .inl ⟨rfl, World.ownsRow_nil _ _ _ _⟩⟩
  case round =>
    obtain ⟨HB, hrel⟩ := hrel
    have hb : Below w.heap.size w wr := HB.out
    rcases hrel with ⟨rfl, HO⟩ | ⟨rfl, HO⟩ | ⟨rfl, HO⟩
    · rcases hfp : Rc.findR Fd.kPath l with _ | v
      · have fv := FND.out Fd.kPath wr hb
        rw [findV_none hfp] at fv
        rw [show Fd.kPath = ⟨#[112, 97, 116, 104]⟩ from rfl] at fv
        have FV := Lib.hid fv
        have HE := Lib.hid (one_none hfp)
        clear fv hfp
        go_wp2_with (go_at_call 124; (with_reducible refine (FV.out).mono ?_); rintro e w2 ⟨rfl, rfl⟩)
        go_roundw
        case rel => exact ⟨HB.out, .inr (.inl ⟨rfl, by show World.ownsRow _ _ _ _ _ _ _; rw [HE.out]; exact HO.out⟩)⟩
        case measure => simp [intOf]
      · have fv := FND.out Fd.kPath wr hb
        rw [findV_some hfp] at fv
        rw [show Fd.kPath = ⟨#[112, 97, 116, 104]⟩ from rfl] at fv
        have FV := Lib.hid fv
        have HE := Lib.hid (one_some hfp)
        clear fv hfp
        obtain ⟨Au, cu, rfl, hcu⟩ := owns_slice HO.out
        have HB2 := Lib.hid (hb.alloc hb.size (.cells #[.string ⟨#[112, 97, 116, 104]⟩, .string v] 128))
        have HO2 := Lib.hid (owns_below HO.out (mb_new wr (.cells #[.string ⟨#[112, 97, 116, 104]⟩, .string v] 128)))
        have NEWS := Lib.hid (news2 wr 128 ⟨#[112, 97, 116, 104]⟩ v)
        go_wp2_with (first
          | (go_at_call 124; (with_reducible refine (FV.out).mono ?_); rintro e w2 ⟨rfl, rfl⟩)
          | (at_builtin; refine wpList_append_own _ rfl _ _ 67 rfl w.heap.size 128 i0 (.agg #[.string ⟨#[]⟩, .string ⟨#[]⟩]) 2 32 Tryz.underlying67 hi hz0 hz1 hz2 rfl (by decide) (.slice Au 0 cu) 0 [] rfl HO2.out ⟨wr.heap.size, 0, none⟩ 1 1 [.string ⟨#[112, 97, 116, 104]⟩, .string v] rfl rfl NEWS.out (two_cells _ v) (by unfold maxLen; omega) (by omega) (by have := HB2.out.size; simp at this ⊢; omega) ?_; intro v3 w3 hown3 hgrow3 hnil3; have HO3 := Lib.hid hown3; have HB3 := Lib.hid (below_app6 HB2.out (Nat.le_refl _) HO2.out hgrow3); clear hown3 hgrow3 hnil3))
        go_roundw
        case rel => exact ⟨HB3.out, .inr (.inl ⟨rfl, by show World.ownsRow _ _ _ _ _ _ _; rw [HE.out]; exact HO3.out⟩)⟩
        case measure => simp [intOf]
    · have h1 := H1.out
      have HLL := Lib.hid (show cells2 (Fd.lasting l) = cells2 (Fd.one Fd.kPath l) ++ cells2 (Fd.one Fd.kLink l) by rw [HL.out, cells2_app])
      have HLN := Lib.hid (show (Fd.lasting l).length = (Fd.one Fd.kPath l).length + (Fd.one Fd.kLink l).length by rw [HL.out, List.length_append])
      generalize cells2 (Fd.one Fd.kPath l) = X at *
      generalize (Fd.one Fd.kPath l).length = x at *
      rcases hfp : Rc.findR Fd.kLink l with _ | v
      · have fv := FND.out Fd.kLink wr hb
        rw [findV_none hfp] at fv
        rw [show Fd.kLink = ⟨#[108, 105, 110, 107, 112, 97, 116, 104]⟩ from rfl] at fv
        have FV := Lib.hid fv
        have HE := Lib.hid (one_none hfp)
        clear fv hfp
        go_wp2_with (go_at_call 124; (with_reducible refine (FV.out).mono ?_); rintro e w2 ⟨rfl, rfl⟩)
        go_roundw
        case rel => exact ⟨HB.out, .inr (.inr ⟨rfl, by show World.ownsRow _ _ _ _ _ _ _; rw [HLL.out, HLN.out, HE.out]; simpa [cells2] using HO.out⟩)⟩
        case measure => simp [intOf]
      · have fv := FND.out Fd.kLink wr hb
        rw [findV_some hfp] at fv
        rw [show Fd.kLink = ⟨#[108, 105, 110, 107, 112, 97, 116, 104]⟩ from rfl] at fv
        have FV := Lib.hid fv
        have HE := Lib.hid (one_some hfp)
        clear fv hfp
        obtain ⟨Au, cu, rfl, hcu⟩ := owns_slice HO.out
        have HB2 := Lib.hid (hb.alloc hb.size (.cells #[.string ⟨#[108, 105, 110, 107, 112, 97, 116, 104]⟩, .string v] 128))
        have HO2 := Lib.hid (owns_below HO.out (mb_new wr (.cells #[.string ⟨#[108, 105, 110, 107, 112, 97, 116, 104]⟩, .string v] 128)))
        have NEWS := Lib.hid (news2 wr 128 ⟨#[108, 105, 110, 107, 112, 97, 116, 104]⟩ v)
        go_wp2_with (first
          | (go_at_call 124; (with_reducible refine (FV.out).mono ?_); rintro e w2 ⟨rfl, rfl⟩)
          | (at_builtin; refine wpList_append_own _ rfl _ _ 67 rfl w.heap.size 128 i0 (.agg #[.string ⟨#[]⟩, .string ⟨#[]⟩]) 2 32 Tryz.underlying67 hi hz0 hz1 hz2 rfl (by decide) (.slice Au x cu) x X rfl HO2.out ⟨wr.heap.size, 0, none⟩ 1 1 [.string ⟨#[108, 105, 110, 107, 112, 97, 116, 104]⟩, .string v] rfl rfl NEWS.out (two_cells _ v) (by unfold maxLen; omega) (by omega) (by have := HB2.out.size; simp at this ⊢; omega) ?_; intro v3 w3 hown3 hgrow3 hnil3; have HO3 := Lib.hid hown3; have HB3 := Lib.hid (below_app6 HB2.out (Nat.le_refl _) HO2.out hgrow3); clear hown3 hgrow3 hnil3))
        go_roundw
        case rel => exact ⟨HB3.out, .inr (.inr ⟨rfl, by show World.ownsRow _ _ _ _ _ _ _; rw [HLL.out, HLN.out, HE.out]; exact HO3.out⟩)⟩
        case measure => simp [intOf]
    · go_wp2
      go_ret
      exact ⟨_, rfl, HO.out, hb⟩
end Go.Proofs.YtjofdgjcbjdhbaaGreatDoor
/- WALKS OF LAYER 10, SEVENTH PART: end, wait, share. -/
namespace Go.Proofs.YtjofdgjcbjdhbaaGreatDoor
open Go Go.RowKit
set_option maxHeartbeats 16000000
set_option maxRecDepth 100000
set_option linter.unusedVariables false
section
variable {w : World} {B a : Nat} {al nx : Value} {s : Fd.S}
theorem fend_any10 (h : Fs w B a al nx s) (hB : B ≤ w.heap.size) (A : Option Addr) (n c : Nat) (d : List Int) (hd : RB w w.heap.size A n d) :
    Calls Tryz.prog 60 #[.pointer (some ⟨a, 0, none⟩), .slice A n c] w fun e w' => e = .returned (.int .i64 (Fd.endS s d).2) ∧ (∃ al', Fs w' B a al' nx (Fd.endS s d).1) ∧ Oth a w w' := by
  have HZA := Lib.hid (hzero_any A n c d w hd)
  obtain ⟨An, cn, hnv, _⟩ := owns_slice h.hnx
  subst hnv
  have hba := h.ba
  have k9 := h.top.2.2.2
  have k5 := h.lo.2.2.2.2.2.1
  have k8 := h.top.2.2.1
  have f5 := h.box.free 5
  have f8 := h.box.free 4626
  have hfin : Fs ((w.setCell ⟨a, 5, none⟩ (.bool true)).setCell ⟨a, 4626, none⟩ (.slice none 0 0)) B a (.slice none 0 0) (.slice An s.nx.length cn) { s with dn := true, al := [] } :=
    (h.set_lo 5 (.bool true) { s with dn := true } (by decide) rfl rfl rfl rfl rfl).set_al (.slice none 0 0) [] (World.ownsRow_nil _ _ _ _)
  have FIN := Lib.hid (And.intro hfin (((Oth.refl a w).setCell 5 (.bool true)).setCell 4626 (.slice none 0 0)))
  have HH := Lib.hid h
  clear h hfin hd
  cases hz : Hs.zeroS d with
  | false =>
    have HE := Lib.hid (show Fd.endS s d = (s, 3) by unfold Fd.endS; rw [if_neg (by rw [hz]; simp)])
    rw [hz] at HZA
    rw [HE.out]
    clear hz
    go_enter Tryz.func60, Tryz.ntmps60
    go_wp2_with (go_at_call 50; (with_reducible refine (HZA.out).mono ?_); rintro e w2 ⟨rfl, rfl⟩)
    go_ret
    exact ⟨rfl, ⟨_, HH.out⟩, Oth.refl _ _⟩
  | true =>
    rw [hz] at HZA
    by_cases hn : s.nx.length = 0
    · have HE := Lib.hid (show Fd.endS s d = ({ s with dn := true, al := [] }, 0) by unfold Fd.endS; rw [if_pos ⟨hz, hn⟩])
      rw [HE.out]
      have hn1 : decide (0 < s.nx.length) = false := decide_eq_false (by omega)
      have hn2 : ¬ (0 : Int) < (s.nx.length : Int) := by omega
      clear hz hn
      generalize s.nx.length = nn at *
      go_enter Tryz.func60, Tryz.ntmps60
      go_wp2_with (go_at_call 50; (with_reducible refine (HZA.out).mono ?_); rintro e w2 ⟨rfl, rfl⟩)
      go_ret
      exact ⟨rfl, ⟨_, FIN.out.1⟩, FIN.out.2⟩
    · have HE := Lib.hid (show Fd.endS s d = (s, 3) by unfold Fd.endS; rw [if_neg (fun h => hn h.2)])
      rw [HE.out]
      have hn1 : decide (0 < s.nx.length) = true := decide_eq_true (by omega)
      have hn2 : (0 : Int) < (s.nx.length : Int) := by omega
      clear hz hn
      generalize s.nx.length = nn at *
      go_enter Tryz.func60, Tryz.ntmps60
      go_wp2_with (go_at_call 50; (with_reducible refine (HZA.out).mono ?_); rintro e w2 ⟨rfl, rfl⟩)
      go_ret
      exact ⟨rfl, ⟨_, HH.out⟩, Oth.refl _ _⟩
theorem fwait_any10 (h : Fs w B a al nx s) (hB : B ≤ w.heap.size) (tb : Tab w) (A : Option Addr) (n c : Nat) (d : List Int) (hd : RB w w.heap.size A n d) (hbd : Byt d) (hc : n ≤ c) (hc2 : c ≤ maxLen) (hn : n ≤ 1000000) :
    Calls Tryz.prog 61 #[.pointer (some ⟨a, 0, none⟩), .slice A n c] w fun e w' => e = .returned (.int .i64 (Fd.waitS s d).2) ∧ (∃ nx', Fs w' B a al nx' (Fd.waitS s d).1) ∧ Oth a w w' := by
  have PA := Lib.hid (parse_any A n c (Ar.toB d) w tb (by rw [Ar.ints_toB hbd]; exact hd) hc hc2 hn)
  obtain ⟨An, cn, hnv, _⟩ := owns_slice h.hnx
  subst hnv
  have HH := Lib.hid h
  have HBZ := Lib.hid hB
  have hx : Fd.waitS s d = if (Rc.parse (Ar.toB d)).2 = 0 then (if s.nx.length = 0 then ({ s with nx := (Rc.parse (Ar.toB d)).1 }, 0) else (s, 3)) else (s, (((Rc.parse (Ar.toB d)).2 : Nat) : Int)) := rfl
  rw [hx]
  clear hx h hd tb hbd
  generalize (Rc.parse (Ar.toB d)).1 = L at *
  generalize (Rc.parse (Ar.toB d)).2 = E at *
  obtain ⟨nn, hnn⟩ : ∃ nn, nn = s.nx.length := ⟨_, rfl⟩
  rw [← hnn]
  have HNN := Lib.hid hnn
  have HF := Lib.hid (fun (W : World) (hb : Below w.heap.size w W) => (show W.cell? ⟨a, 4627, none⟩ = some (.slice An nn cn) ∧ W.frozen? ⟨a, 4627, none⟩ = false from ⟨by rw [hnn]; exact (HH.out.below hb).top.2.2.2, (HH.out.below hb).box.free _⟩))
  clear hnn
  by_cases hE : E = 0
  · subst hE
    rw [if_pos rfl]
    by_cases hl : nn = 0
    · rw [if_pos hl]
      have hl1 : decide (0 < nn) = false := decide_eq_false (by omega)
      have hl2 : ¬ (0 : Int) < (nn : Int) := by omega
      clear hl
      go_enter Tryz.func61, Tryz.ntmps61
      go_wp2_with (go_at_call 90; (with_reducible refine (PA.out).mono ?_); rintro e w2 ⟨u, rfl, ho2, hb2⟩; obtain ⟨Au, cu, rfl, _, _, _⟩ := RO.rlv ho2; obtain ⟨q1, q2⟩ := HF.out _ hb2; have HO := Lib.hid (RO.low ho2 HBZ.out); have HFS := Lib.hid (HH.out.below hb2); have HB2 := Lib.hid (Oth.ofBelow (a := a) hb2); clear ho2 hb2)
      go_ret
      exact ⟨rfl, ⟨_, HFS.out.set_nx _ L HO.out⟩, HB2.out.setCell 4627 _⟩
    · rw [if_neg hl]
      have hl1 : decide (0 < nn) = true := decide_eq_true (by omega)
      have hl2 : (0 : Int) < (nn : Int) := by omega
      clear hl
      go_enter Tryz.func61, Tryz.ntmps61
      go_wp2_with (go_at_call 90; (with_reducible refine (PA.out).mono ?_); rintro e w2 ⟨u, rfl, ho2, hb2⟩; obtain ⟨q1, q2⟩ := HF.out _ hb2; have HFS := Lib.hid (HH.out.below hb2); have HB2 := Lib.hid (Oth.ofBelow (a := a) hb2); clear ho2 hb2)
      go_ret
      exact ⟨rfl, ⟨_, HFS.out⟩, HB2.out⟩
  · rw [if_neg hE]
    have hE' : (((E : Nat) : Int) != 0) = true := by simp; omega
    clear hE
    go_enter Tryz.func61, Tryz.ntmps61
    go_wp2_with (go_at_call 90; (with_reducible refine (PA.out).mono ?_); rintro e w2 ⟨u, rfl, ho2, hb2⟩; have HFS := Lib.hid (HH.out.below hb2); have HB2 := Lib.hid (Oth.ofBelow (a := a) hb2); clear ho2 hb2)
    go_ret
    exact ⟨rfl, ⟨_, HFS.out⟩, HB2.out⟩
theorem fshare_any10 (h : Fs w B a al nx s) (hB : B ≤ w.heap.size) (tb : Tab w) (A : Option Addr) (n c : Nat) (d : List Int) (hd : RB w w.heap.size A n d) (hbd : Byt d) (hc : n ≤ c) (hc2 : c ≤ maxLen) (hn : n ≤ 1000000) (hal : s.al.length ≤ 50000) (hln : (Rc.parse (Ar.toB d)).1.length ≤ 50000) :
    Calls Tryz.prog 62 #[.pointer (some ⟨a, 0, none⟩), .slice A n c] w fun e w' => e = .returned (.int .i64 (Fd.shareS s d).2) ∧ (∃ al', Fs w' B a al' nx (Fd.shareS s d).1) ∧ Oth a w w' := by
  have PA := Lib.hid (parse_any A n c (Ar.toB d) w tb (by rw [Ar.ints_toB hbd]; exact hd) hc hc2 hn)
  obtain ⟨Aa, ca, hav, hra, _⟩ := owns_rl h.hal
  subst hav
  have HH := Lib.hid h
  have HBZ := Lib.hid hB
  have HRA := Lib.hid hra
  have hx : Fd.shareS s d = ({ s with al := Fd.lasting (s.al ++ (Rc.parse (Ar.toB d)).1) }, (((Rc.parse (Ar.toB d)).2 : Nat) : Int)) := rfl
  rw [hx]
  clear hx h hd tb hbd hra
  generalize (Rc.parse (Ar.toB d)).1 = L at *
  generalize (Rc.parse (Ar.toB d)).2 = E at *
  have JO := Lib.hid (fun (W : World) (Au : Option Addr) (cu : Nat) (hb : Below w.heap.size w W) (hr : RL W W.heap.size Au L.length L) => join_any10 Aa s.al.length ca Au L.length cu s.al L W ((HRA.out.below hb).more hb.size) hr hal hln)
  have LA := Lib.hid (fun (W : World) (Au : Option Addr) (cu : Nat) (hr : RL W W.heap.size Au (s.al ++ L).length (s.al ++ L)) => lasting_any10 Au (s.al ++ L).length cu (s.al ++ L) W hr (by rw [List.length_append]; omega))
  obtain ⟨JL, hJL⟩ : ∃ JL, JL = s.al ++ L := ⟨_, rfl⟩
  rw [← hJL] at JO LA ⊢
  clear hJL
  obtain ⟨na, hna⟩ : ∃ na, na = s.al.length := ⟨_, rfl⟩
  rw [← hna] at JO
  have HF := Lib.hid (fun (W : World) (hb : Below w.heap.size w W) => (show W.cell? ⟨a, 4626, none⟩ = some (.slice Aa na ca) ∧ W.frozen? ⟨a, 4626, none⟩ = false from ⟨by rw [hna]; exact (HH.out.below hb).top.2.2.1, (HH.out.below hb).box.free _⟩))
  clear hna
  go_enter Tryz.func62, Tryz.ntmps62
  go_wp2_with (first
    | (go_at_call 90; (with_reducible refine (PA.out).mono ?_); rintro e w2 ⟨u, rfl, ho2, hb2⟩; obtain ⟨Au, cu, rfl, hrl, _, _⟩ := RO.rlv ho2; obtain ⟨q1, q2⟩ := HF.out _ hb2; have HRL := Lib.hid hrl; have HB2 := Lib.hid hb2; clear ho2 hb2 hrl)
    | (go_at_call 92; (with_reducible refine (JO.out _ _ _ HB2.out HRL.out).mono ?_); rintro e w3 ⟨v3, rfl, ho3, hb3⟩; obtain ⟨A3, c3, rfl, hr3, _, _⟩ := RO.rlv ho3; have HR3 := Lib.hid hr3; have HB3 := Lib.hid (bthen HB2.out hb3); clear ho3 hb3 hr3)
    | (go_at_call 91; (with_reducible refine (LA.out _ _ _ HR3.out).mono ?_); rintro e w4 ⟨v4, rfl, ho4, hb4⟩; obtain ⟨A4, c4, rfl, _, _, _⟩ := RO.rlv ho4; have HO4 := Lib.hid (RO.low ho4 (Nat.le_trans HBZ.out HB3.out.size)); have HB4 := Lib.hid (bthen HB3.out hb4); have HFS := Lib.hid (HH.out.below HB4.out); obtain ⟨q3, q4⟩ := HF.out _ HB4.out; clear ho4 hb4))
  go_ret
  exact ⟨rfl, ⟨_, HFS.out.set_al _ _ HO4.out⟩, (Oth.ofBelow HB4.out).setCell 4626 _⟩
end
end Go.Proofs.YtjofdgjcbjdhbaaGreatDoor
