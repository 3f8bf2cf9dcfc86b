/- WALKS OF LAYER 9, SIXTH PART: the scanner's end, wait, share, records, data. -/
import Derived.Test.YtjofdgjcbjdhbaaGreatDoorGa1
import Derived.Test.YtjofdgjcbjdhbaaGreatDoorGr7
import Derived.Test.YtjofdgjcbjdhbaaGreatDoorGb7
import Derived.Test.YtjofdgjcbjdhbaaGreatDoorGe2
namespace Go.Proofs.YtjofdgjcbjdhbaaGreatDoor
open Go Go.RowKit
set_option maxHeartbeats 8000000
set_option maxRecDepth 100000
set_option linter.unusedVariables false
theorem row_base {w : World} {B B' size n : Nat} {e : TypeId} {v : Value} {xs : List Value} (h : w.ownsRow B e size v n xs) (hb : B' ≤ B) : w.ownsRow B' e size v n xs := by
  refine ⟨h.1, ?_⟩
  rcases h.2 with h0 | ⟨g, cap, cur, h1, h2, h3⟩
  · exact .inl h0
  · exact .inr ⟨g, cap, cur, h1, by omega, h3⟩
theorem RO.low {w : World} {B B' : Nat} {e : TypeId} {v : Value} {l : List Rc.Rec} (h : RO w B e v l) (hb : B' ≤ B) : RO w B' e v l := row_base h hb
section
variable {w : World} {B a : Nat} {bA : Option Addr} {bn bc : Nat} {xs : List Int} {al nx it : Value} {s : Ar.S} {its : List It}
/-- Some state with what was gathered: what is left behind an error. -/
def Left (w : World) (B a : Nat) (bA : Option Addr) (bn bc : Nat) (xs : List Int) (it : Value) (its : List It) : Prop := ∃ al nx s, Gs w B a bA bn bc xs al nx it s its
theorem end_any9 (h : Gs w B a bA bn bc xs al nx it { s with at_ := s.at_ + 512 } its) (hbn : bn ≤ 400000) (hat : s.at_ + 512 ≤ bn) (hbc : bn ≤ bc) (hbc2 : bc ≤ maxLen) :
    Calls Tryz.prog 51 #[.pointer (some ⟨a, 0, none⟩)] w fun e w' => e = .returned (.int .i64 (Ar.endE xs s)) ∧ Left w' B a bA bn bc xs it its ∧ Below B w w' := by
  have hxl := h.len
  by_cases h1 : bn < s.at_ + 1024
  · have hE : Ar.endE xs s = 4 := by unfold Ar.endE; rw [if_pos (by omega)]
    have BE := Lib.hid (block_end9 h hbn (by show bn < s.at_ + 512 + 512; omega) (by show s.at_ + 512 ≤ 900000; omega))
    have HL := Lib.hid (show Left w B a bA bn bc xs it its from ⟨_, _, _, h⟩)
    rw [hE]
    clear h hE
    go_enter Tryz.func51, Tryz.ntmps51
    go_wp2_with (go_at_call 49; (with_reducible refine (BE.out).mono ?_); rintro e w2 ⟨rfl, rfl⟩)
    go_ret
    exact ⟨rfl, HL.out, Below.refl _ _⟩
  · have BO := Lib.hid (block_ok9 h hbn (by show s.at_ + 512 + 512 ≤ bn; omega) hbc hbc2)
    obtain ⟨An, cn, hnx, _⟩ := owns_slice h.hnx
    have hblk : Ar.blk xs { s with at_ := s.at_ + 512 } = (xs.drop (s.at_ + 512)).take 512 := rfl
    rw [hblk] at BO
    have hE : Ar.endE xs s = if Hs.zeroS ((xs.drop (s.at_ + 512)).take 512) = true ∧ s.nx.length = 0 ∧ bn ≤ s.at_ + 1024 then 0 else 3 := by unfold Ar.endE; rw [if_neg (by omega), hxl]
    have HXT := Lib.hid hE
    have hat2 : s.at_ + 512 + 512 = s.at_ + 1024 := by omega
    clear h hblk hxl hE
    subst hnx
    have hza := fun (A' : Option Addr) (c : Nat) (W : World) (hr : RB W W.heap.size A' 512 ((xs.drop (s.at_ + 512)).take 512)) => hzero_any A' 512 c _ W hr
    generalize (xs.drop (s.at_ + 512)).take 512 = X at *
    generalize Hs.zeroS X = z at *
    dsimp only at BO
    rw [hat2] at BO
    obtain ⟨e0, he0⟩ : ∃ e0, e0 = Ar.endE xs s := ⟨_, rfl⟩
    rw [← he0] at HXT ⊢
    clear he0
    obtain ⟨sA, sal, snx, sout⟩ := s
    dsimp only at *
    obtain ⟨nn, hnn⟩ : ∃ nn, nn = snx.length := ⟨_, rfl⟩
    rw [← hnn] at BO HXT
    have HZA := Lib.hid hza
    clear hza hat2
    go_enter Tryz.func51, Tryz.ntmps51
    go_upto_region 4 with (go_at_call 49; (with_reducible refine (BO.out).mono ?_); rintro e w2 ⟨A', rfl, hr2, hg2, hb2⟩; have HG2 := Lib.hid hg2; have HB2 := Lib.hid hb2; have HR2 := Lib.hid (fun j => RB.drewN (hr2.more (show B ≤ w2.heap.size by have h1 := hg2.ba; have h2 := hg2.box.lt; omega)) j); clear hr2 hg2 hb2)
    have b0 : w2.cell? ⟨a, 0, none⟩ = some (.slice bA bn bc) := HG2.out.box.cell rfl
    have b1 : w2.cell? ⟨a, 1, none⟩ = some (.int .i64 ((sA + 1024 : Nat) : Int)) := HG2.out.box.cell rfl
    have b3 : w2.cell? ⟨a, 3, none⟩ = some (.slice An nn cn) := HG2.out.box.cell rfl
    have fin : ∀ j, Left (w2.drewN j) B a bA bn bc xs it its ∧ Below B w (w2.drewN j) := fun j => ⟨⟨_, _, _, HG2.out.below (below_drewN (Below.refl _ _) j)⟩, below_drewN HB2.out j⟩
    have FIN := Lib.hid fin
    clear fin
    cases z with
    | false =>
      have hx := HXT.out
      rw [if_neg (by simp)] at hx
      subst hx
      go_quiet ((go_at_call 50; exact quiet_left (HZA.out _ _ _ (HR2.out _))))
      go_wp2
      go_ret
      exact ⟨rfl, FIN.out _⟩
    | true =>
      by_cases hn : nn = 0
      · by_cases hl : bn ≤ sA + 1024
        · have hx := HXT.out
          rw [if_pos ⟨rfl, hn, hl⟩] at hx
          subst hx
          have hn1 : decide (0 < nn) = false := decide_eq_false (by omega)
          have hl1 : decide (sA + 1024 < bn) = false := decide_eq_false (by omega)
          have hl2 : decide ((sA : Int) + 1024 < (bn : Int)) = false := decide_eq_false (by omega)
          clear hn hl hnn
          go_quiet ((go_at_call 50; exact quiet_left (HZA.out _ _ _ (HR2.out _))))
          go_wp2
          go_ret
          exact ⟨rfl, FIN.out _⟩
        · have hx := HXT.out
          rw [if_neg (by omega)] at hx
          subst hx
          have hn1 : decide (0 < nn) = false := decide_eq_false (by omega)
          have hl1 : decide (sA + 1024 < bn) = true := decide_eq_true (by omega)
          have hl2 : decide ((sA : Int) + 1024 < (bn : Int)) = true := decide_eq_true (by omega)
          clear hn hl hnn
          go_quiet ((go_at_call 50; exact quiet_left (HZA.out _ _ _ (HR2.out _))))
          go_wp2
          go_ret
          exact ⟨rfl, FIN.out _⟩
      · have hx := HXT.out
        rw [if_neg (by omega)] at hx
        subst hx
        have hn1 : decide (0 < nn) = true := decide_eq_true (by omega)
        clear hn hnn
        go_quiet ((go_at_call 50; exact quiet_left (HZA.out _ _ _ (HR2.out _))))
        go_wp2
        go_ret
        exact ⟨rfl, FIN.out _⟩
/-- The box with another cell. -/
theorem Gs.nexts {w' : World} {nx' : Value} {l : List Rc.Rec} (h : Gs w B a bA bn bc xs al nx it s its) (hb : Below w.heap.size w w') (ho : w'.ownsRow w.heap.size 128 2 nx' l.length (cells2 l)) (hB : B ≤ w.heap.size) :
    Gs (w'.setCell ⟨a, 3, none⟩ nx') B a bA bn bc xs al nx' it { s with nx := l } its := by
  have h1 := h.below hb
  have hb3 := h1.box.set 3 nx'
  have hoth : Oth a w' (w'.setCell ⟨a, 3, none⟩ nx') := Oth.setCell (Oth.refl a w') 3 _
  have ho' : w'.ownsRow B 128 2 nx' l.length (cells2 l) := row_base ho hB
  exact
  { box := by simpa using hb3
    ba := h.ba
    bytes := h1.bytes.keep fun p hp => World.cell?_of_block (hoth.2.2.2.2 _ (by have := h1.box.lt; have := h.ba; omega) (by have := h.ba; omega))
    hal := owns_keep h1.hal fun k hk => hoth.2.2.2.2 k (owns_lt h1.hal hk) (owns_box h1.hal h1.box ne_rec_box hk)
    hnx := owns_keep ho' fun k hk => hoth.2.2.2.2 k (owns_lt ho' hk) (owns_box ho' h1.box ne_rec_box hk)
    hit := owns_keep h1.hit fun k hk => hoth.2.2.2.2 k (owns_lt h1.hit hk) (owns_box h1.hit h1.box ne_item_box hk)
    dat := dat_keep h1.dat fun v n ys k h2 hk => hoth.2.2.2.2 k (owns_lt h2 hk) (owns_box h2 h1.box ne_u8_box hk)
    out := h.out
    apart := fun k hk hk2 => by
      have e1 := owns_lt h.hal hk
      have e2 := (World.ownsRow.lt ho k hk2).1
      omega }
theorem wait_any9 (h : Gs w B a bA bn bc xs al nx it s its) (hB : B ≤ w.heap.size) (tb : Tab w) (A : Option Addr) (n c : Nat) (d : List Int) (hd : RB w w.heap.size A n d) (hbd : Byt d) (hc : n ≤ c) (hc2 : c ≤ maxLen) (hn : n ≤ 1000000) :
    Calls Tryz.prog 76 #[.pointer (some ⟨a, 0, none⟩), .slice A n c] w fun e w' =>
      (if (Rc.parse (Ar.toB d)).2 = 0 then (if s.nx.length = 0 then e = .returned (.int .i64 0) ∧ ∃ nx', Gs w' B a bA bn bc xs al nx' it { s with nx := (Rc.parse (Ar.toB d)).1 } its else e = .returned (.int .i64 3) ∧ Left w' B a bA bn bc xs it its) else e = .returned (.int .i64 (((Rc.parse (Ar.toB d)).2 : Nat) : Int)) ∧ Left w' B a bA bn bc xs it its) ∧ Below B w w' := by
  have PA := Lib.hid (parse_any A n c (Ar.toB d) w tb (by rw [Ar.ints_toB hbd]; exact hd) hc hc2 hn)
  obtain ⟨An, cn, hnx, _⟩ := owns_slice h.hnx
  subst hnx
  have H := Lib.hid h
  have HLF := Lib.hid (fun w' (hb : Below w.heap.size w w') => (show Left w' B a bA bn bc xs it its from ⟨_, _, _, h.below hb⟩))
  have HLB := Lib.hid (fun w' (hb : Below w.heap.size w w') => hb.mono hB)
  clear h hd tb
  by_cases hp : (Rc.parse (Ar.toB d)).2 = 0
  · rw [hp] at PA
    by_cases hl : s.nx.length = 0
    · have hl1 : decide (0 < s.nx.length) = false := decide_eq_false (by omega)
      have hl2 : ¬ (0 : Int) < (s.nx.length : Int) := by omega
      refine Calls.mono (R := fun e w' => (e = .returned (.int .i64 0) ∧ ∃ nx', Gs w' B a bA bn bc xs al nx' it { s with nx := (Rc.parse (Ar.toB d)).1 } its) ∧ Below B w w') ?_ fun e w' h => by rw [if_pos hp, if_pos hl]; exact h
      clear hl hp
      generalize (Rc.parse (Ar.toB d)).1 = L at *
      have FIN := Lib.hid (fun w' nx' hb ho => And.intro (H.out.nexts (w' := w') (nx' := nx') (l := L) hb ho hB) (Below.setCell (hb.mono hB) (p := ⟨a, 3, none⟩) H.out.ba nx'))
      go_enter Tryz.func76, Tryz.ntmps76
      go_wp2_with (go_at_call 90; (with_reducible refine (PA.out).mono ?_); rintro e w2 ⟨u, rfl, ho2, hb2⟩; obtain ⟨Au, cu, rfl, _⟩ := owns_slice ho2; have HO2 := Lib.hid ho2; have HB2 := Lib.hid hb2; have hg2 := H.out.below hb2; have b3 : w2.cell? ⟨a, 3, none⟩ = some (.slice An s.nx.length cn) := hg2.box.cell rfl; have f3 := hg2.box.free 3; clear hg2 ho2 hb2)
      go_ret
      exact ⟨⟨rfl, _, (FIN.out _ _ HB2.out HO2.out).1⟩, (FIN.out _ _ HB2.out HO2.out).2⟩
    · have hl1 : decide (0 < s.nx.length) = true := decide_eq_true (by omega)
      have hl2 : (0 : Int) < (s.nx.length : Int) := by omega
      refine Calls.mono (R := fun e w' => (e = .returned (.int .i64 3) ∧ Left w' B a bA bn bc xs it its) ∧ Below B w w') ?_ fun e w' h => by rw [if_pos hp, if_neg hl]; exact h
      clear hl hp
      generalize (Rc.parse (Ar.toB d)).1 = L at *
      go_enter Tryz.func76, Tryz.ntmps76
      go_wp2_with (go_at_call 90; (with_reducible refine (PA.out).mono ?_); rintro e w2 ⟨u, rfl, ho2, hb2⟩; obtain ⟨Au, cu, rfl, _⟩ := owns_slice ho2; have HB2 := Lib.hid hb2; have hg2 := H.out.below hb2; have b3 : w2.cell? ⟨a, 3, none⟩ = some (.slice An s.nx.length cn) := hg2.box.cell rfl; clear hg2 ho2 hb2)
      go_ret
      exact ⟨⟨rfl, HLF.out _ HB2.out⟩, HLB.out _ HB2.out⟩
  · refine Calls.mono (R := fun e w' => (e = .returned (.int .i64 (((Rc.parse (Ar.toB d)).2 : Nat) : Int)) ∧ Left w' B a bA bn bc xs it its) ∧ Below B w w') ?_ fun e w' h => by rw [if_neg hp]; exact h
    generalize (Rc.parse (Ar.toB d)).1 = L at *
    generalize (Rc.parse (Ar.toB d)).2 = E at *
    have hE : ((E : Int) != 0) = true := by simp; omega
    clear hp
    go_enter Tryz.func76, Tryz.ntmps76
    go_wp2_with (go_at_call 90; (with_reducible refine (PA.out).mono ?_); rintro e w2 ⟨u, rfl, ho2, hb2⟩; obtain ⟨Au, cu, rfl, _⟩ := owns_slice ho2; have HB2 := Lib.hid hb2; clear ho2 hb2)
    go_ret
    exact ⟨⟨rfl, HLF.out _ HB2.out⟩, HLB.out _ HB2.out⟩
theorem Gs.shared {w3 : World} {al3 : Value} {l : List Rc.Rec} (h : Gs w B a bA bn bc xs al nx it s its) (hg : w.grownBy w3 al.ownBlock) (ho : w3.ownsRow B 128 2 al3 (s.al ++ l).length (cells2 (s.al ++ l))) (hk3 : ∀ k, al3.ownBlock = some k → al.ownBlock = some k ∨ w.heap.size ≤ k) (hB : B ≤ w.heap.size) :
    Gs (w3.setCell ⟨a, 2, none⟩ al3) B a bA bn bc xs al3 nx it { s with al := s.al ++ l } its ∧ Below B w (w3.setCell ⟨a, 2, none⟩ al3) := by
  have hne : some a ≠ al.ownBlock := fun e => owns_box h.hal h.box ne_rec_box e.symm rfl
  have hb3 : BX w3 a 79 #[.slice bA bn bc, .int .i64 (s.at_ : Int), al, nx, it] := (hg.block a h.box.lt hne).trans h.box
  have hset : BX (w3.setCell ⟨a, 2, none⟩ al3) a 79 #[.slice bA bn bc, .int .i64 (s.at_ : Int), al3, nx, it] := by have h2 := hb3.set 2 al3; simpa using h2
  have hkk : ∀ k, k < w.heap.size → k ≠ a → al.ownBlock ≠ some k → (w3.setCell ⟨a, 2, none⟩ al3).heap[k]? = w.heap[k]? := fun k h1 h2 h3 =>
    (heap_setCell_other w3 ⟨a, 2, none⟩ k al3 h2).trans (hg.block k h1 (fun e => h3 e.symm))
  have hbe : Below B w w3 := (Below.refl B w).grown hg hB fun k hk => (World.ownsRow.lt h.hal k hk).1
  refine ⟨?_, Below.setCell hbe (p := ⟨a, 2, none⟩) h.ba al3⟩
  exact
  { box := hset
    ba := h.ba
    bytes := h.bytes.keep fun p hp => World.cell?_of_block (hkk _ (by have := h.box.lt; have := h.ba; omega) (by have := h.ba; omega) (fun e => by have := (World.ownsRow.lt h.hal _ e).1; omega))
    hal := owns_keep ho fun k hk => heap_setCell_other w3 ⟨a, 2, none⟩ k al3 (owns_box ho hb3 ne_rec_box hk)
    hnx := owns_keep h.hnx fun k hk => hkk k (owns_lt h.hnx hk) (owns_box h.hnx h.box ne_rec_box hk) (fun e => h.apart k e hk)
    hit := owns_keep h.hit fun k hk => hkk k (owns_lt h.hit hk) (owns_box h.hit h.box ne_item_box hk) (owns_apart h.hit h.hal ne_rec_item.symm hk)
    dat := dat_keep h.dat fun v n ys k h2 hk => hkk k (owns_lt h2 hk) (owns_box h2 h.box ne_u8_box hk) (owns_apart h2 h.hal ne_rec_u8.symm hk)
    out := h.out
    apart := fun k hk hk2 => by
      rcases hk3 k hk with e | e
      · exact h.apart k e hk2
      · have := owns_lt h.hnx hk2
        omega }
theorem share_any9 (h : Gs w B a bA bn bc xs al nx it s its) (hB : B ≤ w.heap.size) (tb : Tab w) (A : Option Addr) (n c : Nat) (d : List Int) (hd : RB w w.heap.size A n d) (hbd : Byt d) (hc : n ≤ c) (hc2 : c ≤ maxLen) (hn : n ≤ 1000000) (hal : s.al.length ≤ 100000) (hln : (Rc.parse (Ar.toB d)).1.length ≤ 100000) :
    Calls Tryz.prog 77 #[.pointer (some ⟨a, 0, none⟩), .slice A n c] w fun e w' => e = .returned (.int .i64 (((Rc.parse (Ar.toB d)).2 : Nat) : Int)) ∧ (∃ al', Gs w' B a bA bn bc xs al' nx it { s with al := s.al ++ (Rc.parse (Ar.toB d)).1 } its) ∧ Below B w w' := by
  obtain ⟨i0, hi, hz0, hz1, hz2⟩ := info_parts info_rec
  have PA := Lib.hid (parse_any A n c (Ar.toB d) w tb (by rw [Ar.ints_toB hbd]; exact hd) hc hc2 hn)
  obtain ⟨Aa, ca, hav, _⟩ := owns_slice h.hal
  subst hav
  have H := Lib.hid h
  clear h hd tb
  generalize (Rc.parse (Ar.toB d)).1 = L at *
  generalize (Rc.parse (Ar.toB d)).2 = E at *
  generalize hna : s.al.length = na at *
  have HNA := Lib.hid hna
  clear hna
  go_enter Tryz.func77, Tryz.ntmps77
  go_wp2_with (first
    | (go_at_call 90; (with_reducible refine (PA.out).mono ?_); rintro e w2 ⟨u, rfl, ho2, hb2⟩; obtain ⟨Au, cu, rfl, hrl, _, _⟩ := RO.rlv ho2; have HRL := Lib.hid hrl; have HG2 := Lib.hid (H.out.below hb2); have HB2 := Lib.hid hb2; have b2 : w2.cell? ⟨a, 2, none⟩ = some (.slice Aa na ca) := HG2.out.box.cell rfl; clear ho2 hb2 hrl)
    | (at_builtin; obtain ⟨v3, w3, hrun, hown3, hgrow3, hblk⟩ := run_append_rows (P := Tryz.prog) B 67 67 128 i0 (.agg #[.string ⟨#[]⟩, .string ⟨#[]⟩]) 2 32 Tryz.underlying67 hi hz0 hz1 hz2 rfl (by decide) (.slice Aa na ca) na (cells2 s.al) (by have h1 := HG2.out.hal; rwa [HNA.out] at h1) Au L.length cu (cells2 L) (cells2_len L) (fun hn => RL.src HRL.out hn) (cells2_one L) (by unfold maxLen; omega) (by omega) (by have h1 := HB2.out.size; omega); have HFIN := Lib.hid (HG2.out.shared (l := L) hgrow3 (by rw [List.length_append, HNA.out, cells2_app]; exact hown3) hblk (by have h1 := HB2.out.size; omega)); have HBX := Lib.hid (show BX w3 a 79 #[.slice bA bn bc, .int .i64 (s.at_ : Int), .slice Aa na ca, nx, it] from (hgrow3.block a HG2.out.box.lt (fun e => owns_box HG2.out.hal HG2.out.box ne_rec_box e.symm rfl)).trans HG2.out.box); have f2 := HBX.out.free 2; have b2' : w3.cell? ⟨a, 2, none⟩ = some (.slice Aa na ca) := HBX.out.cell rfl; obtain ⟨A3, c3, rfl, _⟩ := owns_slice hown3; refine Lib.wpList_append_run _ rfl _ _ 67 67 rfl _ _ rfl rfl _ _ hrun ?_; clear hrun hown3 hgrow3 hblk))
  go_ret
  exact ⟨rfl, ⟨_, HFIN.out.1⟩, (HB2.out.mono hB).trans HFIN.out.2⟩
theorem records_any9 (h : Gs w B a bA bn bc xs al nx it s its) (hB : B ≤ w.heap.size) (hal : s.al.length ≤ 100000) (hnl : s.nx.length ≤ 100000) :
    Calls Tryz.prog 114 #[.pointer (some ⟨a, 0, none⟩)] w fun e w' => ∃ v, e = .returned v ∧ RLV w' v (s.al ++ s.nx) ∧ Gs w' B a bA bn bc xs al (.slice none 0 0) it { s with nx := [] } its ∧ Oth a w w' := by
  obtain ⟨Aa, ca, hav, ha, hac, _⟩ := owns_rl h.hal
  obtain ⟨An, cn, hnv, hn, hnc, _⟩ := owns_rl h.hnx
  subst hav
  subst hnv
  have H := Lib.hid h
  have CC := Lib.hid (fun (g : Nat) (W : World) (hb : Below w.heap.size w W) (hg : g < W.heap.size) k0 k1 => concat_any9 g Aa s.al.length ca An s.nx.length cn s.al s.nx W hg k0 k1 ((ha.below hb).more hb.size) ((hn.below hb).more hb.size) hal hnl)
  have alls : ∀ W, Below w.heap.size w W → W.cell? ⟨a, 2, none⟩ = some (.slice Aa s.al.length ca) ∧ W.cell? ⟨a, 3, none⟩ = some (.slice An s.nx.length cn) := fun W hW => by
    have b := h.box.later hW
    exact ⟨b.cell rfl, b.cell rfl⟩
  have ALLS := Lib.hid alls
  have HLT := Lib.hid h.box.lt
  have FIN := Lib.hid (fun W (hb : Below w.heap.size w W) => And.intro (h.nexts (l := []) (nx' := .slice none 0 0) hb (World.ownsRow_nil _ _ _ _) hB) ((Oth.ofBelow (a := a) hb).setCell 3 (.slice none 0 0)))
  have FREE := Lib.hid (fun W (hb : Below w.heap.size w W) => (h.box.later hb).free 3)
  have RLL := Lib.hid (fun W v (hb : Below w.heap.size w W) (hr : RO W w.heap.size 128 v (s.al ++ s.nx)) => (show RLV (W.setCell ⟨a, 3, none⟩ (.slice none 0 0)) v (s.al ++ s.nx) from RO.rlv (show RO (W.setCell ⟨a, 3, none⟩ (.slice none 0 0)) w.heap.size 128 v (s.al ++ s.nx) from owns_keep hr fun k hk => heap_setCell_other W ⟨a, 3, none⟩ k _ (by have h1 := (World.ownsRow.lt hr k hk).1; have h2 := h.box.lt; show k ≠ a; omega))))
  clear h ha hn alls
  generalize s.al.length = na at *
  generalize s.nx.length = nn at *
  go_enter Tryz.func114, Tryz.ntmps114
  go_upto_region 1 with (fail)
  have hacc : Below w.heap.size w w.drew := below_drewN (Below.refl _ _) 1
  obtain ⟨y0, y1⟩ := ALLS.out _ hacc
  obtain ⟨x0, x1⟩ := ALLS.out _ (Below.refl w.heap.size w)
  have hne : w.heap.size ≠ a := by have := HLT.out; omega
  have hs1 : w.heap.size < ((w.alloc (.cells #[.slice Aa na ca, .slice An nn cn] 67)).drew).heap.size := by
    show w.heap.size < (w.alloc (.cells #[.slice Aa na ca, .slice An nn cn] 67)).heap.size
    rw [World.size_alloc]
    omega
  have hs2 : w.heap.size ≤ ((w.alloc (.cells #[.slice Aa na ca, .slice An nn cn] 67)).drew).heap.size := Nat.le_of_lt hs1
  have HS1 := Lib.hid hs1; have HS2 := Lib.hid hs2
  clear hs1 hs2
  go_region_held3 (fun w' => w'.cell? ⟨a, 2, none⟩ = some (.slice Aa na ca) ∧ w'.cell? ⟨a, 3, none⟩ = some (.slice An nn cn)) (first | go_keep | (exact ALLS.out _ hacc) | (exact ALLS.out _ (hacc.alloc hacc.size _)) | (exact ALLS.out _ (mb_new w _).drew)) (first
    | (go_at_call 136; (with_reducible refine (CC.out w.heap.size _ (mb_new w _).drew HS1.out ((BX.drew (BX.new w _ _)).cell rfl) ((BX.drew (BX.new w _ _)).cell rfl)).mono ?_); rintro e w2 ⟨v2, rfl, ho2, hb2⟩; obtain ⟨A2, c2, hv2, _⟩ := RO.rlv ho2; rw [List.length_append] at hv2; subst hv2; have HB2 := Lib.hid ((mb_new w (.cells #[.slice Aa na ca, .slice An nn cn] 67)).drew.trans (hb2.mono HS2.out)); have HO2 := Lib.hid (RO.low ho2 HS2.out); replace hacc := HB2.out; clear ho2 hb2))
  all_goals
    have f3 := FREE.out _ HB2.out
    have b3 := (ALLS.out _ HB2.out).2
    go_wp2
    go_ret
    exact ⟨_, rfl, RLL.out _ _ HB2.out HO2.out, (FIN.out _ HB2.out).1, (FIN.out _ HB2.out).2⟩
end
end Go.Proofs.YtjofdgjcbjdhbaaGreatDoor
/- WALKS OF LAYER 9, SEVENTH PART: the scanner's data. By gen_a9g.py. -/
namespace Go.Proofs.YtjofdgjcbjdhbaaGreatDoor
open Go Go.RowKit
set_option maxHeartbeats 8000000
set_option maxRecDepth 100000
set_option linter.unusedVariables false
section
variable {w : World} {B a : Nat} {bA : Option Addr} {bn bc : Nat} {xs : List Int} {al nx it : Value} {s : Ar.S} {its : List It}
theorem data_big9 (h : Gs w B a bA bn bc xs al nx it s its) (hB : B ≤ w.heap.size) (p nm l : ByteArray) (m u g t z k : Int) (hz : 4096 < z) :
    Calls Tryz.prog 75 #[.pointer (some ⟨a, 0, none⟩), .agg #[.string p, .string nm, .int .i64 m, .int .i64 u, .int .i64 g, .int .i64 t, .int .i64 z, .int .u8 k, .string l]] w fun e w' => e = .returned (.tuple #[.slice none 0 0, .int .i64 10]) ∧ Gs w' B a bA bn bc xs al nx it s its ∧ Oth a w w' := by
  have hb0 := mb_new w (.cells #[.string p, .string nm, .int .i64 m, .int .i64 u, .int .i64 g, .int .i64 t, .int .i64 z, .int .u8 k, .string l] 64)
  have HG := Lib.hid (h.below hb0)
  have HB0 := Lib.hid (Oth.ofBelow (a := a) hb0)
  clear h hb0
  go_enter Tryz.func75, Tryz.ntmps75
  go_wp2
  go_ret2
  exact ⟨rfl, HG.out, HB0.out⟩
theorem data_ok9 (h : Gs w B a bA bn bc xs al nx it s its) (hB : B ≤ w.heap.size) (hbn : bn ≤ 400000) (hat : s.at_ ≤ bn) (h0 : 0 < bn) (hbc : bn ≤ bc) (hbc2 : bc ≤ maxLen) (p nm l : ByteArray) (m u g t z k : Int) (hz : ¬ 4096 < z) (z0 : -9223372036854775808 ≤ z) (he : Bk.err (bn - s.at_) z = 0) :
    Calls Tryz.prog 75 #[.pointer (some ⟨a, 0, none⟩), .agg #[.string p, .string nm, .int .i64 m, .int .i64 u, .int .i64 g, .int .i64 t, .int .i64 z, .int .u8 k, .string l]] w fun e w' => (∃ v, e = .returned (.tuple #[v, .int .i64 0]) ∧ OBn w' w.heap.size 5 v z.toNat ((xs.drop s.at_).take z.toNat)) ∧ Gs w' B a bA bn bc xs al nx it { s with at_ := s.at_ + z.toNat + (Bk.pad z).toNat } its ∧ Oth a w w' := by
  unfold maxLen at hbc2
  obtain ⟨b, o, hA, hbB, _⟩ := h.bytes.at0 h0
  subst hA
  have hxl := h.len
  have HA := Lib.hid h.ba
  have HLT := Lib.hid h.box.lt
  obtain ⟨W0, hW0⟩ : ∃ W0, W0 = w.alloc (.cells #[.string p, .string nm, .int .i64 m, .int .i64 u, .int .i64 g, .int .i64 t, .int .i64 z, .int .u8 k, .string l] 64) := ⟨_, rfl⟩
  have hb0 : Below w.heap.size w W0 := by rw [hW0]; exact mb_new _ _
  have HSZ := Lib.hid (show W0.heap.size = w.heap.size + 1 by rw [hW0]; simp)
  have HG0 := Lib.hid (h.below hb0)
  have HBX := Lib.hid (show BX W0 w.heap.size 64 #[.string p, .string nm, .int .i64 m, .int .i64 u, .int .i64 g, .int .i64 t, .int .i64 z, .int .u8 k, .string l] by rw [hW0]; exact BX.new _ _ _)
  have HB0 := Lib.hid hb0
  have opn := fun (W : World) (hb : Below W0.heap.size W0 W) (A' : Option Addr) (hr : RB W W.heap.size A' (bn - s.at_) (xs.drop s.at_)) => open_any A' (bn - s.at_) (bc - s.at_) (xs.drop s.at_) z W hr (by omega) (by unfold maxLen; omega) (by omega) z0 (by omega)
  obtain ⟨zz0, zz1⟩ := Bk.err_zero he
  have zpb := Bk.pad_bd z
  have hop : Bk.open_ (xs.drop s.at_) z = (xs.drop s.at_).take z.toNat := by unfold Bk.open_; rw [List.length_drop, hxl, if_pos he]
  have hol : ((xs.drop s.at_).take z.toNat).length = z.toNat := by rw [List.length_take, List.length_drop, hxl]; omega
  rw [he, hop] at opn
  have PAD := Lib.hid (fun W => pad_any z W (by omega) (by omega))
  obtain ⟨kz, hkz⟩ : ∃ kz : Nat, z = (kz : Int) := ⟨z.toNat, by omega⟩
  obtain ⟨kp, hkp⟩ : ∃ kp : Nat, Bk.pad z = (kp : Int) := ⟨(Bk.pad z).toNat, by omega⟩
  rw [hkp] at PAD zz1 zpb ⊢
  rw [Int.toNat_natCast]
  clear he hop hkp
  subst hkz
  simp only [Int.toNat_natCast] at hol opn ⊢
  generalize (xs.drop s.at_).take kz = Y at *
  have OPN := Lib.hid opn
  have CUT := Lib.hid (fun (W : World) (hb : Below W0.heap.size W0 W) => RB.cut (((HG0.out.below hb).bytes).more (B' := W.heap.size) (by have h1 := hb.size; have h2 := HSZ.out; omega)) hat hbc)
  have alls : ∀ W, Below W0.heap.size W0 W → W.cell? ⟨a, 0, none⟩ = some (.slice (some ⟨b, o, none⟩) bn bc) ∧ W.cell? ⟨a, 1, none⟩ = some (.int .i64 (s.at_ : Int)) ∧ W.cell? ⟨w.heap.size, 6, none⟩ = some (.int .i64 (kz : Int)) := fun W hW =>
    ⟨(HG0.out.below hW).box.cell rfl, (HG0.out.below hW).box.cell rfl, (HBX.out.later hW).cell rfl⟩
  have ALLS := Lib.hid alls
  have H := Lib.hid h
  clear h opn alls hb0
  generalize hatt : s.at_ = at_ at *
  have HATT := Lib.hid hatt
  clear hatt
  go_enter Tryz.func75, Tryz.ntmps75
  go_upto_region 3 with (fail)
  rw [← hW0]
  clear hW0
  have hacc : Below W0.heap.size W0 W0.drew := below_drewN (Below.refl _ _) 1
  obtain ⟨y0, y1, y2⟩ := ALLS.out _ hacc
  have hi0 : (0 : Int) ≤ (at_ : Int) := by omega
  have hi1 : (at_ : Int) ≤ (bn : Int) := by omega
  by_cases hcc : bc = at_
  · have CT := CUT.out
    rw [if_pos hcc] at CT
    obtain rfl : bn = bc := by omega
    subst hcc
    have CTH := Lib.hid CT
    clear CT CUT
    rw [Nat.sub_self] at OPN CTH
    go_region_held3 (fun w' => w'.cell? ⟨a, 0, none⟩ = some (.slice (some ⟨b, o, none⟩) bn bn) ∧ w'.cell? ⟨a, 1, none⟩ = some (.int .i64 (bn : Int)) ∧ w'.cell? ⟨w.heap.size, 6, none⟩ = some (.int .i64 (kz : Int))) (first | go_keep | (exact ALLS.out _ hacc)) (first
      | (go_at_call 112; (with_reducible refine (OPN.out _ hacc _ (CTH.out _ hacc)).mono ?_); rintro e w2 ⟨v2, rfl, ho2, hb2⟩; have HB2 := Lib.hid (hacc.trans (hb2.mono hacc.size)); have HO2 := Lib.hid ho2; obtain ⟨A2, c2, hv2, _, _, _⟩ := ho2.rb; rw [hol] at hv2; subst hv2; have SZ2 := Lib.hid (show W0.heap.size ≤ _ from hacc.size); replace hacc := HB2.out; clear ho2 hb2))
    all_goals
      go_upto_region 6 with (fail)
      obtain ⟨y0, y1, y2⟩ := ALLS.out _ hacc
      go_still_tail 13, (by kernel_rfl)
      repeat still_step
      still_call (quiet_r (PAD.out _))
      repeat still_step
      refine wpStill_nil ?_
      have HB3 := Lib.hid (show Below W0.heap.size W0 w2.drew from below_drewN HB2.out 1)
      have HO3 := Lib.hid (OBn.base8 (OB.obn (OB.drewN HO2.out 1)) (show w.heap.size + 1 ≤ _ by have h1 := HSZ.out; have h2 := SZ2.out; omega))
      change wpList _ _ _ _ _ w2.drew
      clear y0 y1 y2 hacc
      change Hid (OBn w2.drew (w.heap.size + 1) 5 (.slice A2 kz c2) Y.length Y) at HO3
      rw [hol] at HO3
      generalize w2.drew = W1 at *
      have HG1 := HG0.out.below HB3.out
      have x1 : W1.cell? ⟨a, 1, none⟩ = some (.int .i64 (bn : Int)) := by have h2 : W1.cell? ⟨a, 1, none⟩ = some (.int .i64 (s.at_ : Int)) := HG1.box.cell rfl; rw [HATT.out] at h2; exact h2
      have f1 := HG1.box.free 1
      have FIN := Lib.hid (HG1.oth (at' := bn + kz + kp) (Oth.setCell (Oth.refl a W1) 1 (.int .i64 ((bn : Int) + ((kz : Int) + (kp : Int))))) (by have h2 := HG1.box.set 1 (.int .i64 ((bn : Int) + ((kz : Int) + (kp : Int)))); rw [show ((bn : Int) + ((kz : Int) + (kp : Int))) = ((bn + kz + kp : Nat) : Int) by omega] at h2 ⊢; simpa using h2))
      have FOB := Lib.hid (OBn.base8 (OBn.aside HO3.out (show a < w.heap.size + 1 by have := HLT.out; omega) 1 (.int .i64 ((bn : Int) + ((kz : Int) + (kp : Int))))) (show w.heap.size ≤ w.heap.size + 1 by omega))
      have FBE := Lib.hid ((Oth.ofBelow (a := a) (HB0.out.trans (HB3.out.mono (show w.heap.size ≤ W0.heap.size by have := HSZ.out; omega)))).setCell 1 (.int .i64 ((bn : Int) + ((kz : Int) + (kp : Int)))))
      clear HG1
      go_wp2
      go_ret2
      exact ⟨⟨_, rfl, FOB.out⟩, FIN.out, FBE.out⟩
  · have CT := CUT.out
    rw [if_neg hcc] at CT
    simp only [Option.map_some, Lib.add_plain] at CT
    have CTH := Lib.hid CT
    clear CT CUT
    go_region_held3 (fun w' => w'.cell? ⟨a, 0, none⟩ = some (.slice (some ⟨b, o, none⟩) bn bc) ∧ w'.cell? ⟨a, 1, none⟩ = some (.int .i64 (at_ : Int)) ∧ w'.cell? ⟨w.heap.size, 6, none⟩ = some (.int .i64 (kz : Int))) (first | go_keep | (exact ALLS.out _ hacc)) (first
      | (go_at_call 112; (with_reducible refine (OPN.out _ hacc _ (CTH.out _ hacc)).mono ?_); rintro e w2 ⟨v2, rfl, ho2, hb2⟩; have HB2 := Lib.hid (hacc.trans (hb2.mono hacc.size)); have HO2 := Lib.hid ho2; obtain ⟨A2, c2, hv2, _, _, _⟩ := ho2.rb; rw [hol] at hv2; subst hv2; have SZ2 := Lib.hid (show W0.heap.size ≤ _ from hacc.size); replace hacc := HB2.out; clear ho2 hb2))
    all_goals
      go_upto_region 6 with (fail)
      obtain ⟨y0, y1, y2⟩ := ALLS.out _ hacc
      go_still_tail 13, (by kernel_rfl)
      repeat still_step
      still_call (quiet_r (PAD.out _))
      repeat still_step
      refine wpStill_nil ?_
      have HB3 := Lib.hid (show Below W0.heap.size W0 w2.drew from below_drewN HB2.out 1)
      have HO3 := Lib.hid (OBn.base8 (OB.obn (OB.drewN HO2.out 1)) (show w.heap.size + 1 ≤ _ by have h1 := HSZ.out; have h2 := SZ2.out; omega))
      change wpList _ _ _ _ _ w2.drew
      clear y0 y1 y2 hacc
      change Hid (OBn w2.drew (w.heap.size + 1) 5 (.slice A2 kz c2) Y.length Y) at HO3
      rw [hol] at HO3
      generalize w2.drew = W1 at *
      have HG1 := HG0.out.below HB3.out
      have x1 : W1.cell? ⟨a, 1, none⟩ = some (.int .i64 (at_ : Int)) := by have h2 : W1.cell? ⟨a, 1, none⟩ = some (.int .i64 (s.at_ : Int)) := HG1.box.cell rfl; rw [HATT.out] at h2; exact h2
      have f1 := HG1.box.free 1
      have FIN := Lib.hid (HG1.oth (at' := at_ + kz + kp) (Oth.setCell (Oth.refl a W1) 1 (.int .i64 ((at_ : Int) + ((kz : Int) + (kp : Int))))) (by have h2 := HG1.box.set 1 (.int .i64 ((at_ : Int) + ((kz : Int) + (kp : Int)))); rw [show ((at_ : Int) + ((kz : Int) + (kp : Int))) = ((at_ + kz + kp : Nat) : Int) by omega] at h2 ⊢; simpa using h2))
      have FOB := Lib.hid (OBn.base8 (OBn.aside HO3.out (show a < w.heap.size + 1 by have := HLT.out; omega) 1 (.int .i64 ((at_ : Int) + ((kz : Int) + (kp : Int))))) (show w.heap.size ≤ w.heap.size + 1 by omega))
      have FBE := Lib.hid ((Oth.ofBelow (a := a) (HB0.out.trans (HB3.out.mono (show w.heap.size ≤ W0.heap.size by have := HSZ.out; omega)))).setCell 1 (.int .i64 ((at_ : Int) + ((kz : Int) + (kp : Int)))))
      clear HG1
      go_wp2
      go_ret2
      exact ⟨⟨_, rfl, FOB.out⟩, FIN.out, FBE.out⟩
theorem data_bad9 (h : Gs w B a bA bn bc xs al nx it s its) (hB : B ≤ w.heap.size) (hbn : bn ≤ 400000) (hat : s.at_ ≤ bn) (h0 : 0 < bn) (hbc : bn ≤ bc) (hbc2 : bc ≤ maxLen) (p nm l : ByteArray) (m u g t z k : Int) (hz : ¬ 4096 < z) (z0 : -9223372036854775808 ≤ z) (he : ¬ Bk.err (bn - s.at_) z = 0) :
    Calls Tryz.prog 75 #[.pointer (some ⟨a, 0, none⟩), .agg #[.string p, .string nm, .int .i64 m, .int .i64 u, .int .i64 g, .int .i64 t, .int .i64 z, .int .u8 k, .string l]] w fun e w' => e = .returned (.tuple #[.slice none 0 0, .int .i64 (Bk.err (bn - s.at_) z)]) ∧ Gs w' B a bA bn bc xs al nx it s its ∧ Oth a w w' := by
  unfold maxLen at hbc2
  obtain ⟨b, o, hA, hbB, _⟩ := h.bytes.at0 h0
  subst hA
  have hxl := h.len
  have HA := Lib.hid h.ba
  have HLT := Lib.hid h.box.lt
  obtain ⟨W0, hW0⟩ : ∃ W0, W0 = w.alloc (.cells #[.string p, .string nm, .int .i64 m, .int .i64 u, .int .i64 g, .int .i64 t, .int .i64 z, .int .u8 k, .string l] 64) := ⟨_, rfl⟩
  have hb0 : Below w.heap.size w W0 := by rw [hW0]; exact mb_new _ _
  have HSZ := Lib.hid (show W0.heap.size = w.heap.size + 1 by rw [hW0]; simp)
  have HG0 := Lib.hid (h.below hb0)
  have HBX := Lib.hid (show BX W0 w.heap.size 64 #[.string p, .string nm, .int .i64 m, .int .i64 u, .int .i64 g, .int .i64 t, .int .i64 z, .int .u8 k, .string l] by rw [hW0]; exact BX.new _ _ _)
  have HB0 := Lib.hid hb0
  have opn := fun (W : World) (hb : Below W0.heap.size W0 W) (A' : Option Addr) (hr : RB W W.heap.size A' (bn - s.at_) (xs.drop s.at_)) => open_any A' (bn - s.at_) (bc - s.at_) (xs.drop s.at_) z W hr (by omega) (by unfold maxLen; omega) (by omega) z0 (by omega)
  generalize Bk.err (bn - s.at_) z = E at *
  have hE : (E != 0) = true := by simp [he]
  clear he
  have OPN := Lib.hid opn
  have CUT := Lib.hid (fun (W : World) (hb : Below W0.heap.size W0 W) => RB.cut (((HG0.out.below hb).bytes).more (B' := W.heap.size) (by have h1 := hb.size; have h2 := HSZ.out; omega)) hat hbc)
  have alls : ∀ W, Below W0.heap.size W0 W → W.cell? ⟨a, 0, none⟩ = some (.slice (some ⟨b, o, none⟩) bn bc) ∧ W.cell? ⟨a, 1, none⟩ = some (.int .i64 (s.at_ : Int)) ∧ W.cell? ⟨w.heap.size, 6, none⟩ = some (.int .i64 z) := fun W hW =>
    ⟨(HG0.out.below hW).box.cell rfl, (HG0.out.below hW).box.cell rfl, (HBX.out.later hW).cell rfl⟩
  have ALLS := Lib.hid alls
  have H := Lib.hid h
  clear h opn alls hb0
  generalize hatt : s.at_ = at_ at *
  have HATT := Lib.hid hatt
  clear hatt
  go_enter Tryz.func75, Tryz.ntmps75
  go_upto_region 3 with (fail)
  rw [← hW0]
  clear hW0
  have hacc : Below W0.heap.size W0 W0.drew := below_drewN (Below.refl _ _) 1
  obtain ⟨y0, y1, y2⟩ := ALLS.out _ hacc
  have hi0 : (0 : Int) ≤ (at_ : Int) := by omega
  have hi1 : (at_ : Int) ≤ (bn : Int) := by omega
  by_cases hcc : bc = at_
  · have CT := CUT.out
    rw [if_pos hcc] at CT
    obtain rfl : bn = bc := by omega
    subst hcc
    have CTH := Lib.hid CT
    clear CT CUT
    rw [Nat.sub_self] at OPN CTH
    go_region_held3 (fun w' => w'.cell? ⟨a, 0, none⟩ = some (.slice (some ⟨b, o, none⟩) bn bn) ∧ w'.cell? ⟨a, 1, none⟩ = some (.int .i64 (bn : Int)) ∧ w'.cell? ⟨w.heap.size, 6, none⟩ = some (.int .i64 z)) (first | go_keep | (exact ALLS.out _ hacc)) (first
      | (go_at_call 112; (with_reducible refine (OPN.out _ hacc _ (CTH.out _ hacc)).mono ?_); rintro e w2 ⟨v2, rfl, ho2, hb2⟩; have HB2 := Lib.hid (hacc.trans (hb2.mono hacc.size)); have HO2 := Lib.hid ho2; have SZ2 := Lib.hid (show W0.heap.size ≤ _ from hacc.size); replace hacc := HB2.out; clear ho2 hb2))
    all_goals
      go_wp2
      go_ret2
      exact ⟨rfl, HG0.out.below HB2.out, Oth.ofBelow (HB0.out.trans (HB2.out.mono (show w.heap.size ≤ W0.heap.size by have := HSZ.out; omega)))⟩
  · have CT := CUT.out
    rw [if_neg hcc] at CT
    simp only [Option.map_some, Lib.add_plain] at CT
    have CTH := Lib.hid CT
    clear CT CUT
    go_region_held3 (fun w' => w'.cell? ⟨a, 0, none⟩ = some (.slice (some ⟨b, o, none⟩) bn bc) ∧ w'.cell? ⟨a, 1, none⟩ = some (.int .i64 (at_ : Int)) ∧ w'.cell? ⟨w.heap.size, 6, none⟩ = some (.int .i64 z)) (first | go_keep | (exact ALLS.out _ hacc)) (first
      | (go_at_call 112; (with_reducible refine (OPN.out _ hacc _ (CTH.out _ hacc)).mono ?_); rintro e w2 ⟨v2, rfl, ho2, hb2⟩; have HB2 := Lib.hid (hacc.trans (hb2.mono hacc.size)); have HO2 := Lib.hid ho2; have SZ2 := Lib.hid (show W0.heap.size ≤ _ from hacc.size); replace hacc := HB2.out; clear ho2 hb2))
    all_goals
      go_wp2
      go_ret2
      exact ⟨rfl, HG0.out.below HB2.out, Oth.ofBelow (HB0.out.trans (HB2.out.mono (show w.heap.size ≤ W0.heap.size by have := HSZ.out; omega)))⟩
end
end Go.Proofs.YtjofdgjcbjdhbaaGreatDoor
/- WALKS OF LAYER 9, EIGHTH PART: the gathering's gather. -/
namespace Go.Proofs.YtjofdgjcbjdhbaaGreatDoor
open Go Go.RowKit
set_option maxHeartbeats 16000000
set_option maxRecDepth 100000
set_option linter.unusedVariables false
theorem info_item : (Tryz.prog.info? 46).map (fun i => (i.zero, i.size, i.bytes)) = some (some (.agg #[.string ⟨#[]⟩, .int .i64 0, .int .i64 0, .int .i64 0, .int .i64 0, .int .i64 0, .string ⟨#[]⟩, .slice none 0 0, .int .i64 0]), 9, 104) := by kernel_rfl
theorem zero_cells8 : ∀ (i : Nat) x, (#[.string ⟨#[]⟩, .int .i64 0, .int .i64 0, .int .i64 0, .int .i64 0, .int .i64 0, .string ⟨#[]⟩, .slice none 0 0] : Array Value)[i]? ≠ some (.int .u8 x) := by
  intro i x
  match i with
  | 0 => simp
  | 1 => simp
  | 2 => simp
  | 3 => simp
  | 4 => simp
  | 5 => simp
  | 6 => simp
  | 7 => simp
  | i + 8 => simp
theorem RB.aside8 {w : World} {B n a : Nat} {A : Option Addr} {xs : List Int} (h : RB w B A n xs) (hne : 0 < n → ∀ b o, A = some ⟨b, o, none⟩ → b ≠ a) (j : Nat) (v : Value) : RB (w.setCell ⟨a, j, none⟩ v) B A n xs :=
  ⟨h.1, fun hn => by
    obtain ⟨b, o, e, hb, hc⟩ := h.2 hn
    exact ⟨b, o, e, hb, fun i hi => (World.cell?_of_block (a := ⟨b, o + i, none⟩) (heap_setCell_other w ⟨a, j, none⟩ b v (hne hn b o e))).trans (hc i hi)⟩⟩
theorem RB.apart8 {w : World} {B n a : Nat} {A : Option Addr} {xs : List Int} {T : TypeId} {cs : Array Value} (h : RB w B A n xs) (hb : BX w a T cs) (hcs : ∀ (i : Nat) x, cs[i]? ≠ some (.int .u8 x)) : 0 < n → ∀ b o, A = some ⟨b, o, none⟩ → b ≠ a := fun hn b o e hba => by
  subst hba
  obtain ⟨b2, o2, e2, _, hc⟩ := h.2 hn
  rw [e] at e2
  cases e2
  have h0 := hc 0 hn
  unfold BX at hb
  rw [show o + 0 = o from rfl, cell_of_row w b o cs T (0, 0) hb] at h0
  exact hcs o _ h0
theorem size_setC (w : World) (p : Addr) (v : Value) : (w.setCell p v).heap.size = w.heap.size := by simp [World.setCell]
theorem BX.set8 {w : World} {a : Nat} {T : TypeId} {z0 z1 z2 z3 z4 z5 z6 z7 : Value} (h : BX w a T #[z0, z1, z2, z3, z4, z5, z6, z7]) (v0 v1 v2 v3 v4 v5 v6 v7 : Value) : BX ((((((((w.setCell ⟨a, 0, none⟩ v0).setCell ⟨a, 1, none⟩ v1).setCell ⟨a, 2, none⟩ v2).setCell ⟨a, 3, none⟩ v3).setCell ⟨a, 4, none⟩ v4).setCell ⟨a, 5, none⟩ v5).setCell ⟨a, 6, none⟩ v6).setCell ⟨a, 7, none⟩ v7) a T #[v0, v1, v2, v3, v4, v5, v6, v7] := by
  have h8 := ((((((((((((((((h).set 0 v0)).set 1 v1)).set 2 v2)).set 3 v3)).set 4 v4)).set 5 v5)).set 6 v6)).set 7 v7)
  simpa using h8
theorem RB.set8 {w : World} {a n : Nat} {A : Option Addr} {xs : List Int} (h : RB w w.heap.size A n xs) (hne : 0 < n → ∀ b o, A = some ⟨b, o, none⟩ → b ≠ a) (v0 v1 v2 v3 v4 v5 v6 v7 : Value) : RB ((((((((w.setCell ⟨a, 0, none⟩ v0).setCell ⟨a, 1, none⟩ v1).setCell ⟨a, 2, none⟩ v2).setCell ⟨a, 3, none⟩ v3).setCell ⟨a, 4, none⟩ v4).setCell ⟨a, 5, none⟩ v5).setCell ⟨a, 6, none⟩ v6).setCell ⟨a, 7, none⟩ v7) ((((((((w.setCell ⟨a, 0, none⟩ v0).setCell ⟨a, 1, none⟩ v1).setCell ⟨a, 2, none⟩ v2).setCell ⟨a, 3, none⟩ v3).setCell ⟨a, 4, none⟩ v4).setCell ⟨a, 5, none⟩ v5).setCell ⟨a, 6, none⟩ v6).setCell ⟨a, 7, none⟩ v7).heap.size A n xs := by
  have h8 := (RB.aside8 (RB.aside8 (RB.aside8 (RB.aside8 (RB.aside8 (RB.aside8 (RB.aside8 (RB.aside8 h hne 0 v0) hne 1 v1) hne 2 v2) hne 3 v3) hne 4 v4) hne 5 v5) hne 6 v6) hne 7 v7)
  refine h8.more ?_
  rw [size_setC, size_setC, size_setC, size_setC, size_setC, size_setC, size_setC, size_setC]
  exact Nat.le_refl _
theorem below_set8 {w0 w : World} {B a : Nat} (h : Below B w0 w) (hB : B ≤ a) (v0 v1 v2 v3 v4 v5 v6 v7 : Value) : Below B w0 ((((((((w.setCell ⟨a, 0, none⟩ v0).setCell ⟨a, 1, none⟩ v1).setCell ⟨a, 2, none⟩ v2).setCell ⟨a, 3, none⟩ v3).setCell ⟨a, 4, none⟩ v4).setCell ⟨a, 5, none⟩ v5).setCell ⟨a, 6, none⟩ v6).setCell ⟨a, 7, none⟩ v7) := (Below.setCell (Below.setCell (Below.setCell (Below.setCell (Below.setCell (Below.setCell (Below.setCell (Below.setCell h (p := ⟨a, 0, none⟩) hB v0) (p := ⟨a, 1, none⟩) hB v1) (p := ⟨a, 2, none⟩) hB v2) (p := ⟨a, 3, none⟩) hB v3) (p := ⟨a, 4, none⟩) hB v4) (p := ⟨a, 5, none⟩) hB v5) (p := ⟨a, 6, none⟩) hB v6) (p := ⟨a, 7, none⟩) hB v7)
theorem oth_set8 (w : World) (a : Nat) (v0 v1 v2 v3 v4 v5 v6 v7 : Value) : Oth a w ((((((((w.setCell ⟨a, 0, none⟩ v0).setCell ⟨a, 1, none⟩ v1).setCell ⟨a, 2, none⟩ v2).setCell ⟨a, 3, none⟩ v3).setCell ⟨a, 4, none⟩ v4).setCell ⟨a, 5, none⟩ v5).setCell ⟨a, 6, none⟩ v6).setCell ⟨a, 7, none⟩ v7) :=
  ((((((((Oth.refl a w).setCell 0 v0).setCell 1 v1).setCell 2 v2).setCell 3 v3).setCell 4 v4).setCell 5 v5).setCell 6 v6).setCell 7 v7
theorem Oth.beside {a g : Nat} {w w1 w2 : World} (h : Oth a w w1) (h2 : Oth g w1 w2) (hg : w.heap.size ≤ g) : Oth a w w2 :=
  ⟨h2.1.trans h.1, h2.2.1.trans h.2.1, h2.2.2.1.trans h.2.2.1, Nat.le_trans h.2.2.2.1 h2.2.2.2.1, fun k hk hn => (h2.2.2.2.2 k (Nat.lt_of_lt_of_le hk h.2.2.2.1) (by omega)).trans (h.2.2.2.2 k hk hn)⟩
theorem owns_beside {w w' : World} {B size n g : Nat} {e T : TypeId} {v : Value} {xs : List Value} {cs : Array Value} (h : w.ownsRow B e size v n xs) (ho : Oth g w w') (hb : BX w g T cs) (hne : e ≠ T) : w'.ownsRow B e size v n xs :=
  owns_keep h fun k hk => ho.2.2.2.2 k (owns_lt h hk) (owns_box h hb hne hk)
theorem RB.besideB {w w' : World} {n g : Nat} {A : Option Addr} {xs : List Int} (h : RB w w.heap.size A n xs) (ho : Oth g w w') (hne : 0 < n → ∀ b o, A = some ⟨b, o, none⟩ → b ≠ g) : RB w' w'.heap.size A n xs :=
  ⟨h.1, fun hn => by
    obtain ⟨b, o, e, hb, hc⟩ := h.2 hn
    exact ⟨b, o, e, Nat.lt_of_lt_of_le hb ho.2.2.2.1, fun i hi => (World.cell?_of_block (a := ⟨b, o + i, none⟩) (ho.2.2.2.2 b hb (hne hn b o e))).trans (hc i hi)⟩⟩
theorem ne_box_mem : (79 : TypeId) ≠ 44 := by decide
theorem ne_rec_mem : (128 : TypeId) ≠ 44 := by decide
theorem ne_item_mem : (46 : TypeId) ≠ 44 := by decide
theorem ne_u8_mem : (5 : TypeId) ≠ 44 := by decide
theorem box_ne {w : World} {a g : Nat} {T T' : TypeId} {cs cs' : Array Value} (h : BX w a T cs) (h2 : BX w g T' cs') (hne : T ≠ T') : a ≠ g := by
  rintro rfl
  unfold BX at h h2
  rw [h] at h2
  cases h2
  exact hne rfl
section
variable {w : World} {B a : Nat} {bA : Option Addr} {bn bc : Nat} {xs : List Int} {al nx it : Value} {s : Ar.S} {its : List It}
/-- One item more. -/
theorem Gs.more {w3 : World} {it3 : Value} {x : It} (h : Gs w B a bA bn bc xs al nx it s its) (hg : w.grownBy w3 it.ownBlock) (ho : w3.ownsRow B 46 9 it3 (its ++ [x]).length ((its ++ [x]).flatMap c9)) (hB : B ≤ w.heap.size)
    (hx : RB w w.heap.size x.A x.n x.xs ∧ x.n ≤ x.c ∧ x.c ≤ maxLen ∧ (0 < x.n → OBn w B 5 (.slice x.A x.n x.c) x.n x.xs)) :
    Gs (w3.setCell ⟨a, 4, none⟩ it3) B a bA bn bc xs al nx it3 { s with out := s.out ++ [(x.mem, x.z)] } (its ++ [x]) ∧ Below B w (w3.setCell ⟨a, 4, none⟩ it3) := by
  have hne : some a ≠ it.ownBlock := fun e => owns_box h.hit h.box ne_item_box e.symm rfl
  have hb3 : BX w3 a 79 #[.slice bA bn bc, .int .i64 (s.at_ : Int), al, nx, it] := (hg.block a h.box.lt hne).trans h.box
  have hset : BX (w3.setCell ⟨a, 4, none⟩ it3) a 79 #[.slice bA bn bc, .int .i64 (s.at_ : Int), al, nx, it3] := by have h2 := hb3.set 4 it3; simpa using h2
  have hkk : ∀ k, k < w.heap.size → k ≠ a → it.ownBlock ≠ some k → (w3.setCell ⟨a, 4, none⟩ it3).heap[k]? = w.heap[k]? := fun k h1 h2 h3 =>
    (heap_setCell_other w3 ⟨a, 4, none⟩ k it3 h2).trans (hg.block k h1 (fun e => h3 e.symm))
  have hbe : Below B w w3 := (Below.refl B w).grown hg hB fun k hk => (World.ownsRow.lt h.hit k hk).1
  refine ⟨?_, Below.setCell hbe (p := ⟨a, 4, none⟩) h.ba it3⟩
  exact
  { box := hset
    ba := h.ba
    bytes := h.bytes.keep fun p hp => World.cell?_of_block (hkk _ (by have := h.box.lt; have := h.ba; omega) (by have := h.ba; omega) (fun e => by have := (World.ownsRow.lt h.hit _ e).1; omega))
    hal := owns_keep h.hal fun k hk => hkk k (owns_lt h.hal hk) (owns_box h.hal h.box ne_rec_box hk) (owns_apart h.hal h.hit ne_rec_item hk)
    hnx := owns_keep h.hnx fun k hk => hkk k (owns_lt h.hnx hk) (owns_box h.hnx h.box ne_rec_box hk) (owns_apart h.hnx h.hit ne_rec_item hk)
    hit := owns_keep ho fun k hk => heap_setCell_other w3 ⟨a, 4, none⟩ k it3 (owns_box ho hb3 ne_item_box hk)
    dat := dat_keep (its := its ++ [x]) (fun y hy => by
      rcases List.mem_append.1 hy with h1 | h1
      · exact h.dat y h1
      · obtain rfl : y = x := by simpa using h1
        exact hx) fun v n ys k h2 hk => hkk k (owns_lt h2 hk) (owns_box h2 h.box ne_u8_box hk) (owns_apart h2 h.hit ne_item_u8.symm hk)
    out := by rw [List.map_append, h.out]; rfl
    apart := h.apart }
/-- A variable that holds a member is set. -/
theorem Gs.beside {w' : World} {g : Nat} {cs : Array Value} (h : Gs w B a bA bn bc xs al nx it s its) (ho : Oth g w w') (hb : BX w g 44 cs) (hg : B ≤ g) : Gs w' B a bA bn bc xs al nx it s its where
  box := h.box.oth ho (box_ne h.box hb ne_box_mem)
  ba := h.ba
  bytes := h.bytes.keep fun p hp => World.cell?_of_block (ho.2.2.2.2 _ (by have := h.box.lt; have := h.ba; omega) (by omega))
  hal := owns_beside h.hal ho hb ne_rec_mem
  hnx := owns_beside h.hnx ho hb ne_rec_mem
  hit := owns_beside h.hit ho hb ne_item_mem
  dat := dat_keep h.dat fun v n ys k h1 hk => ho.2.2.2.2 k (owns_lt h1 hk) (owns_box h1 hb ne_u8_mem hk)
  out := h.out
  apart := h.apart
theorem c9_snoc (its : List It) (x : It) : (its ++ [x]).flatMap c9 = its.flatMap c9 ++ c9 x := by rw [List.flatMap_append]; simp
end
end Go.Proofs.YtjofdgjcbjdhbaaGreatDoor
