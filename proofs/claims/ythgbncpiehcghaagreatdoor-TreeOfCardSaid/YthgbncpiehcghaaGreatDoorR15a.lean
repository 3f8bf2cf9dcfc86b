/- WALKS OF THE DOCUMENT's LIST: sorted (all paths under a root, rising). gen_r15a.py -/
import Derived.Test.YthgbncpiehcghaaGreatDoorGr2
import Derived.Test.YthgbncpiehcghaaGreatDoorM15c
import Derived.Test.YthgbncpiehcghaaGreatDoorY4f
import Derived.Deep.RegionHeld3
import Derived.BigQuiet
namespace Go.Proofs.YthgbncpiehcghaaGreatDoor
set_option linter.unusedVariables false
open Go Go.RowKit Go.Maps
set_option maxRecDepth 100000
set_option maxHeartbeats 8000000
open Nt (Tr Nd WF Ps Path at_ cnt used txt)
/-- One path more is looked at. -/
theorem srt_take {R : Ps} {j : Nat} {y : Path × Nat} {P : Path} (h : R[j]? = some y) : Nt.srt (R.take (j + 1)) P = match Nt.und1 P y with
    | some s => Nt.ins Nt.lessN s (Nt.srt (R.take j) P)
    | none => Nt.srt (R.take j) P := by
  unfold Nt.srt
  rw [List.take_add_one, h, Option.toList_some, List.filterMap_append]
  cases e : Nt.und1 P y with
  | none => simp [e]
  | some s => simp only [List.filterMap_cons, e, List.filterMap_nil]; rw [Nt.insAll_snoc]
theorem srt_len (R : Ps) (P : Path) : (Nt.srt R P).length ≤ R.length := by
  unfold Nt.srt
  rw [Nt.insAll_len]
  exact List.length_filterMap_le _ _
theorem tps_ins {T : Tr} {K j m k : Nat} {P q : Path} {l : List (ByteArray × Nat)} (hW : WF T K) (hl : l = tps (Nt.srt (T.paths.take j) P)) (hq : q ≠ []) (hN : ∀ x ∈ q, Pp.Nm x) (hk : k ≤ l.length)
    (h1 : ∀ (t : Nat) z, t < k → l[t]? = some z → Pp.lessL (Pp.pieces z.1) (Pp.pieces (txt q)) = true) (h2 : ∀ z, l[k]? = some z → Pp.lessL (Pp.pieces z.1) (Pp.pieces (txt q)) = false) :
    tps (Nt.ins Nt.lessN (q, m) (Nt.srt (T.paths.take j) P)) = l.take k ++ [(txt q, m)] ++ l.drop k := by
  subst hl
  have hkl : k ≤ (Nt.srt (T.paths.take j) P).length := by unfold tps at hk; rwa [List.length_map] at hk
  have el : ∀ (t : Nat) y, (Nt.srt (T.paths.take j) P)[t]? = some y → (tps (Nt.srt (T.paths.take j) P))[t]? = some (txt y.1, y.2) ∧ Pp.pieces (txt y.1) = y.1 := fun t y hy => by
    have hm := Nt.mem_srt.1 (List.mem_of_getElem? hy)
    have hNy : ∀ x ∈ y.1, Pp.Nm x := fun x hx => hW.names _ _ (List.mem_of_mem_take hm.2) x (List.mem_append_right _ hx)
    refine ⟨by unfold tps; rw [List.getElem?_map, hy]; rfl, Nt.pieces_txt hm.1 hNy⟩
  have eq : Pp.pieces (txt q) = q := Nt.pieces_txt hq hN
  rw [Nt.ins_eq hkl (fun t y ht hy => ?_) (fun y hy => ?_)]
  · unfold tps
    rw [List.map_append, List.map_cons, List.map_take, List.map_drop]
    simp
  · obtain ⟨e1, e2⟩ := el t y hy
    have := h1 t _ ht e1
    rw [eq] at this
    simp only [e2] at this
    exact this
  · obtain ⟨e1, e2⟩ := el k y hy
    have := h2 _ e1
    rw [eq] at this
    simp only [e2] at this
    exact this
section
variable {w : World} {B : Nat} {A1 A2 : Option Addr} {n1 c1 n2 c2 : Nat} {T : Tr}
theorem refsorted_any {K : Nat} (h : RTr w B A1 n1 c1 A2 n2 c2 T) (hW : WF T K) (hK : K ≤ 100000) (a b : Int) {P : Path} (hP : ∀ x ∈ P, Pp.Nm x) (hp : (txt P).size ≤ 100000) :
    Calls Tryz.prog 87 #[.agg (RvC A1 n1 c1 A2 n2 c2 a b), .string (txt P)] w fun e w' => ∃ v, e = .returned v ∧ w'.ownsRow w.heap.size 45 2 v (Nt.srt T.paths P).length (rl AtC (tps (Nt.srt T.paths P))) ∧ Below w.heap.size w w' := by
  obtain ⟨W1, hW1, hb1, hs1, x1⟩ := frame1 w (RvC A1 n1 c1 A2 n2 c2 a b) 29
  have HR := Lib.hid (h.paths.below hb1)
  have hn2 : n2 ≤ 100000 := by rw [← h.len2]; exact Nat.le_trans hW.many hK
  obtain ⟨p, hpp⟩ : ∃ p, txt P = p := ⟨_, rfl⟩
  rw [hpp] at hp ⊢
  have HPP := Lib.hid hpp
  have HH := Lib.hid h
  have HW := Lib.hid hW
  have CF := Lib.hid (fun W (hh : Below W1.heap.size W1 W) => show W.cell? ⟨w.heap.size, 1, none⟩ = some (.slice A2 n2 c2) from (x1.later hh).cell rfl)
  have HB1 := Lib.hid hb1
  have hc2 := h.cap2
  have y1 := CF.out _ (Below.refl _ _)
  clear h hW hpp x1 hb1
  go_enter Tryz.func87, Tryz.ntmps87
  go_wp2
  go_loopw [5, 6] (fun v i W => ∃ (j : Nat) (l : List (ByteArray × Nat)), j ≤ n2 ∧ i = .int .i64 j ∧ Hid (l = tps (Nt.srt (T.paths.take j) P)) ∧ Hid (W.ownsRow W1.heap.size 45 2 v l.length (rl AtC l)) ∧ Hid (Below W1.heap.size W1 W)) (fun _ i _ => n2 - (intOf i).toNat)
  case atStart => exact ⟨0, [], Nat.zero_le _, rfl, rfl, World.ownsRow_nil _ _ _ _, Below.refl _ _⟩
  case round =>
    revert hrel
    generalize wr = V
    intro hrel
    obtain ⟨j, l, hj, rfl, HL, HO, HB⟩ := hrel
    have q1 := CF.out _ HB.out
    obtain ⟨Av, cv, rfl, hrow, hcv1, hcv2⟩ := own_rowof AtC_size HO.out rfl
    have hlv : l.length ≤ 100000 := by
      rw [HL.out]
      unfold tps
      rw [List.length_map]
      refine Nat.le_trans (srt_len _ _) ?_
      rw [List.length_take]
      omega
    by_cases hlt : j < n2
    · have hlt' : (j : Int) < n2 := by omega
      obtain ⟨g, o, x, rfl, hx, hc⟩ := (HR.out.below HB.out).at_ hlt
      obtain ⟨Y, hY, hYt⟩ := tps_at hx
      obtain ⟨s, m⟩ := x
      replace hYt : s = txt Y := hYt
      have d0 : V.cell? ⟨g, o + j * 2, none⟩ = some (.string s) := hc 0 _ rfl
      have SS := Lib.hid (fun W (hh : Below W1.heap.size W1 W) => show W.cell? ⟨w.heap.size, 1, none⟩ = some (.slice (some ⟨g, o, none⟩) n2 c2) ∧ W.cell? ⟨g, o + j * 2 + 1, none⟩ = some (.int .i64 (m : Nat)) from by
        refine ⟨CF.out _ hh, ?_⟩
        obtain ⟨g', o', x', e', hx', hc'⟩ := (HR.out.below hh).at_ hlt
        cases e'
        rw [hx] at hx'
        cases hx'
        exact hc' 1 _ rfl)
      have hYm : (Y, m) ∈ T.paths := List.mem_of_getElem? hY
      have hYN := HW.out.names Y m hYm
      have hss : s.size ≤ 1000000 := by rw [hYt]; have := HW.out.long Y m hYm; omega
      have hst := srt_take (P := P) hY
      have hrest := rest_txt hP hYN
      rw [← hYt, HPP.out] at hrest
      have KR := Lib.hid (fun W => refrest_any s p W hss hp)
      have HYT := Lib.hid hYt
      clear hYt
      by_cases hpre : P <+: Y ∧ Y ≠ P
      · rw [if_pos hpre] at hrest
        rw [hrest] at KR
        have hu : Nt.und1 P (Y, m) = some (Y.drop P.length, m) := by unfold Nt.und1; rw [if_pos hpre]
        rw [hu] at hst
        simp only at hst
        obtain ⟨⟨r, hr⟩, hne⟩ := hpre
        have hr0 : r ≠ [] := fun e => hne (by rw [← hr, e, List.append_nil])
        have hrN : ∀ x ∈ r, Pp.Nm x := fun x hx => hYN x (by rw [← hr]; exact List.mem_append_right _ hx)
        rw [← hr, List.drop_left] at KR hst
        have hrs : (txt r).size ≤ 1000000 := by
          have h1 := Nt.txt_drop_size P r
          rw [hr] at h1
          have := HW.out.long Y m hYm
          omega
        have HINS := Lib.hid (fun k (hk : k ≤ l.length) (h1 : ∀ (t : Nat) z, t < k → l[t]? = some z → Pp.lessL (Pp.pieces z.1) (Pp.pieces (txt r)) = true) (h2 : ∀ z, l[k]? = some z → Pp.lessL (Pp.pieces z.1) (Pp.pieces (txt r)) = false) => tps_ins (m := m) HW.out HL.out hr0 hrN hk h1 h2)
        rw [← hst] at HINS
        have hls : ∀ z ∈ l, z.1.size ≤ 1000000 := fun z hz => by
          rw [HL.out] at hz
          obtain ⟨y, hy, rfl⟩ := List.mem_map.1 hz
          have h2 := (Nt.mem_srt.1 hy).2
          have h1 := Nt.txt_drop_size P y.1
          have := HW.out.long _ _ (List.mem_of_mem_take h2)
          simp only
          omega
        have KL := Lib.hid (fun z W (hz : z ∈ l) => refless_any z.1 (txt r) W (hls z hz) hrs)
        obtain ⟨rs, hrs2⟩ : ∃ rs, txt r = rs := ⟨_, rfl⟩
        rw [hrs2] at KR KL HINS hrs
        clear hst hrest hc hx hY hr hne hr0 hrN hrs2 hu hls hYN hYm
        go_wp2_with (first
          | (go_at_call 109; (with_reducible refine (KR.out _).mono ?_); rintro e w3 ⟨rfl, rfl⟩))
        go_loopw [9] (fun i W => ∃ k : Nat, k ≤ l.length ∧ i = .int .i64 k ∧ Hid (∀ (t : Nat) z, t < k → l[t]? = some z → Pp.lessL (Pp.pieces z.1) (Pp.pieces rs) = true) ∧ Hid (Below V.heap.size V W)) (fun i _ => l.length - (intOf i).toNat)
        case atStart => exact ⟨0, Nat.zero_le _, rfl, fun t y ht => absurd ht (by omega), Below.refl _ _⟩
        case round =>
          obtain ⟨k, hk, rfl, HK, HI⟩ := hrel
          have hk63 : (k : Int) ≤ 100000 := by omega
          have HRW := Lib.hid (hrow.below HI.out)
          by_cases hkl : k < l.length
          · have hkl' : (k : Int) < l.length := by omega
            obtain ⟨gs, os, y, rfl, hy, hcy⟩ := HRW.out.at_ hkl
            have e0 : wr.cell? ⟨gs, os + k * 2, none⟩ = some (.string y.1) := hcy 0 _ rfl
            have KY := Lib.hid (KL.out y wr (List.mem_of_getElem? hy))
            cases hlt9 : Pp.lessL (Pp.pieces y.1) (Pp.pieces rs) with
            | true =>
              have HKN : Hid (∀ (t : Nat) z, t < k + 1 → l[t]? = some z → Pp.lessL (Pp.pieces z.1) (Pp.pieces rs) = true) := fun t z ht hz => by
                by_cases e : t = k
                · subst e
                  rw [hy] at hz
                  cases hz
                  exact hlt9
                · exact HK.out t z (by omega) hz
              rw [hlt9] at KY
              clear hlt9 hy hcy
              go_wp2_with (go_at_call 126; (with_reducible refine KY.out.mono ?_); rintro e w5 ⟨rfl, hb5⟩; have HB5 := Lib.hid (bthen HI.out hb5); clear hb5)
              go_roundw
              case rel => exact ⟨k + 1, by omega, by go_num, HKN, HB5.out⟩
              case measure => simp [intOf]; omega
            | false =>
              have HINS2 := Lib.hid (HINS.out k hk HK.out (fun z hz => by rw [hy] at hz; cases hz; exact hlt9))
              rw [hlt9] at KY
              clear hlt9 hy hcy
              have hkc : k ≤ cv := by omega
              have hkl2 : k ≤ l.length := hk
              have hck : ¬ cv = k := by omega
              go_upto_region 10 with (go_at_call 126; (with_reducible refine KY.out.mono ?_); rintro e w5 ⟨rfl, hb5⟩; have HB5 := Lib.hid (bthen HI.out hb5); have HRW5 := Lib.hid (HRW.out.below hb5); clear hb5)
              have HBW := Lib.hid (HB.out.trans (HB5.out.mono HB.out.size))
              have S5 := Lib.hid (fun W (h : Below w5.heap.size w5 W) => SS.out W (HBW.out.trans (h.mono HBW.out.size)))
              have hD : Below w5.heap.size w5 w5.drew := (Below.refl _ _).drew
              have hDx : Below w5.heap.size w5 (w5.alloc (.cells #[.string rs, .int .i64 (m : Nat)] 45)).drew := (below_new w5 _).drew
              have hXx : BX (w5.alloc (.cells #[.string rs, .int .i64 (m : Nat)] 45)).drew w5.heap.size 45 #[.string rs, .int .i64 (m : Nat)] := BX.new w5 _ _
              have hltk : (l.take k).length = k := by rw [List.length_take]; omega
              have AP1 := Lib.hid (fun W (h : Below w5.heap.size w5 W) => app_at0 (base := w5.heap.size) ((HRW5.out.below h).pre hkl2) (cv) (by omega) h.size)
              obtain ⟨i0, i1⟩ := S5.out _ hD
              go_region_held3 (fun W => W.cell? ⟨w.heap.size, 1, none⟩ = some (.slice (some ⟨g, o, none⟩) n2 c2) ∧ W.cell? ⟨g, o + j * 2 + 1, none⟩ = some (.int .i64 (m : Nat)))
                (first | (exact S5.out _ hD) | (exact S5.out _ hDx) | (exact S5.out _ HB5x.out) | (exact S5.out _ HB6.out) | (exact S5.out _ HB7.out) | go_keep)
                (first
                  | (obtain ⟨v5, w5x, hr5, ho5, hb5⟩ := AP1.out _ hD; refine step_append_run14 rfl (.const (.slice none 0 0)) (.tmp 47) 27 27 rfl _ _ rfl (by simp [Act.eval, Act.put]) hr5 ?_; obtain ⟨A5, c5, rfl, _, _, _⟩ := own_rowof AtC_size ho5 hltk; have HB5x := Lib.hid (hD.trans (hb5.mono hD.size)); have HO5 := Lib.hid ho5; clear hr5 ho5 hb5)
                  | (obtain ⟨v5, w5x, hr5, ho5, hb5⟩ := AP1.out _ hDx; refine step_append_run14 rfl (.const (.slice none 0 0)) (.tmp 47) 27 27 rfl _ _ rfl (by simp [Act.eval]) hr5 ?_; obtain ⟨A5, c5, rfl, _, _, _⟩ := own_rowof AtC_size ho5 hltk; have HB5x := Lib.hid (hDx.trans (hb5.mono hDx.size)); have HX5 := Lib.hid (hXx.later hb5); have HO5 := Lib.hid ho5; clear hr5 ho5 hb5)
                  | (obtain ⟨v6, w6, hr6, ho6, hb6⟩ := app_atN hltk (HO5.out.alloc (.cells #[.string rs, .int .i64 (m : Nat)] 45)) (rowof_one (C := AtC) (z := 2) (x := (rs, m)) (BX.new w5x 45 #[.string rs, .int .i64 (m : Nat)])) 1 (by omega) (by have := HB5x.out.size; simp; omega); refine step_append_run14 rfl (.tmp 48) (.tmp 57) 27 27 rfl _ _ (by simp [Act.eval]) (by simp [Act.eval]) hr6 ?_; obtain ⟨A6, c6, rfl, _, _, _⟩ := own_rowof AtC_size ho6 (by rw [List.length_append, hltk]; rfl); have HB6 := Lib.hid ((HB5x.out.alloc HB5x.out.size (.cells #[.string rs, .int .i64 (m : Nat)] 45)).trans hb6); have HO6 := Lib.hid ho6; clear hr6 ho6 hb6)
                  | (obtain ⟨v6, w6, hr6, ho6, hb6⟩ := app_atN hltk HO5.out (rowof_one (C := AtC) (z := 2) (x := (rs, m)) HX5.out) 1 (by omega) HB5x.out.size; refine step_append_run14 rfl (.tmp 48) (.tmp 57) 27 27 rfl _ _ (by simp [Act.eval]) (by simp [Act.eval]) hr6 ?_; obtain ⟨A6, c6, rfl, _, _, _⟩ := own_rowof AtC_size ho6 (by rw [List.length_append, hltk]; rfl); have HB6 := Lib.hid (HB5x.out.trans hb6); have HO6 := Lib.hid ho6; clear hr6 ho6 hb6)
                  | (obtain ⟨v7, w7, hr7, ho7, hb7⟩ := app_atN (by rw [List.length_append, hltk]; rfl) HO6.out ((HRW5.out.below HB6.out).suf (k := k)) (cv - k) (by omega) HB6.out.size; refine step_append_run14 rfl (.tmp 58) (.tmp 61) 27 27 rfl _ _ (by simp [Act.eval]) (by simp [Act.eval]) hr7 ?_; have HB7 := Lib.hid (HB6.out.trans hb7); have HO7 := Lib.hid ho7; clear hr7 ho7 hb7))
              all_goals
                go_wp2
                go_roundw
                case rel =>
                  refine ⟨j + 1, l.take k ++ [(rs, m)] ++ l.drop k, by omega, by go_num, ?_, ?_, ?_⟩
                  · show _ = _
                    rw [HINS2.out]
                    try simp
                  · have h9 := HO7.out
                    have e9 : (l.take k ++ [(rs, m)] ++ l.drop k).length = k + 1 + (l.length - k) := by rw [List.length_append, List.length_append, hltk]; simp
                    show World.ownsRow _ _ _ _ _ _ _
                    rw [e9]
                    exact row_more h9 (by have := HBW.out.size; omega)
                  · exact HBW.out.trans (HB7.out.mono HBW.out.size)
                case measure => simp [intOf]; omega
          · have hkl' : ¬ (k : Int) < l.length := by omega
            obtain rfl : k = l.length := by omega
            have HINS2 := Lib.hid (HINS.out l.length (Nat.le_refl _) HK.out (fun z hz => by rw [List.getElem?_eq_none (Nat.le_refl _)] at hz; cases hz))
            have HB5 := HI
            have HRW5 := HRW
            rcases HO.out.2 with ⟨e0, hz⟩ | ⟨gb, cap, cur, e0, _, _, hcc, _⟩
            · injection e0 with e1 e2 e3
              subst e1
              subst e3
              obtain rfl : l = [] := List.eq_nil_of_length_eq_zero hz
              have HINS2 : Hid (tps (Nt.srt (List.take (j + 1) T.paths) P) = [(rs, m)]) := Lib.hid (by simpa using HINS2.out)
              go_upto_region 10 with (fail)
              have HBW := Lib.hid (HB.out.trans (HB5.out.mono HB.out.size))
              have S5 := Lib.hid (fun W (h : Below wr.heap.size wr W) => SS.out W (HBW.out.trans (h.mono HBW.out.size)))
              have hD : Below wr.heap.size wr wr.drew := (Below.refl _ _).drew
              have hDx : Below wr.heap.size wr (wr.alloc (.cells #[.string rs, .int .i64 (m : Nat)] 45)).drew := (below_new wr _).drew
              have hXx : BX (wr.alloc (.cells #[.string rs, .int .i64 (m : Nat)] 45)).drew wr.heap.size 45 #[.string rs, .int .i64 (m : Nat)] := BX.new wr _ _
              have hltk : (([] : List (ByteArray × Nat))).length = 0 := by simp
              have AP1 := Lib.hid (fun W (h : Below wr.heap.size wr W) => app_at0 (base := wr.heap.size) (RowOf.nil0 : ARow W none 0 []) (0) (by omega) h.size)
              obtain ⟨i0, i1⟩ := S5.out _ hD
              go_region_held3 (fun W => W.cell? ⟨w.heap.size, 1, none⟩ = some (.slice (some ⟨g, o, none⟩) n2 c2) ∧ W.cell? ⟨g, o + j * 2 + 1, none⟩ = some (.int .i64 (m : Nat)))
                (first | (exact S5.out _ hD) | (exact S5.out _ hDx) | (exact S5.out _ HB5x.out) | (exact S5.out _ HB6.out) | (exact S5.out _ HB7.out) | go_keep)
                (first
                  | (obtain ⟨v5, w5x, hr5, ho5, hb5⟩ := AP1.out _ hD; refine step_append_run14 rfl (.const (.slice none 0 0)) (.tmp 47) 27 27 rfl _ _ rfl (by simp [Act.eval, Act.put]) hr5 ?_; obtain ⟨A5, c5, rfl, _, _, _⟩ := own_rowof AtC_size ho5 hltk; have HB5x := Lib.hid (hD.trans (hb5.mono hD.size)); have HO5 := Lib.hid ho5; clear hr5 ho5 hb5)
                  | (obtain ⟨v5, w5x, hr5, ho5, hb5⟩ := AP1.out _ hDx; refine step_append_run14 rfl (.const (.slice none 0 0)) (.tmp 47) 27 27 rfl _ _ rfl (by simp [Act.eval]) hr5 ?_; obtain ⟨A5, c5, rfl, _, _, _⟩ := own_rowof AtC_size ho5 hltk; have HB5x := Lib.hid (hDx.trans (hb5.mono hDx.size)); have HX5 := Lib.hid (hXx.later hb5); have HO5 := Lib.hid ho5; clear hr5 ho5 hb5)
                  | (obtain ⟨v6, w6, hr6, ho6, hb6⟩ := app_atN hltk (HO5.out.alloc (.cells #[.string rs, .int .i64 (m : Nat)] 45)) (rowof_one (C := AtC) (z := 2) (x := (rs, m)) (BX.new w5x 45 #[.string rs, .int .i64 (m : Nat)])) 1 (by omega) (by have := HB5x.out.size; simp; omega); refine step_append_run14 rfl (.tmp 48) (.tmp 57) 27 27 rfl _ _ (by simp [Act.eval]) (by simp [Act.eval]) hr6 ?_; obtain ⟨A6, c6, rfl, _, _, _⟩ := own_rowof AtC_size ho6 (by rw [List.length_append, hltk]; rfl); have HB6 := Lib.hid ((HB5x.out.alloc HB5x.out.size (.cells #[.string rs, .int .i64 (m : Nat)] 45)).trans hb6); have HO6 := Lib.hid ho6; clear hr6 ho6 hb6)
                  | (obtain ⟨v6, w6, hr6, ho6, hb6⟩ := app_atN hltk HO5.out (rowof_one (C := AtC) (z := 2) (x := (rs, m)) HX5.out) 1 (by omega) HB5x.out.size; refine step_append_run14 rfl (.tmp 48) (.tmp 57) 27 27 rfl _ _ (by simp [Act.eval]) (by simp [Act.eval]) hr6 ?_; obtain ⟨A6, c6, rfl, _, _, _⟩ := own_rowof AtC_size ho6 (by rw [List.length_append, hltk]; rfl); have HB6 := Lib.hid (HB5x.out.trans hb6); have HO6 := Lib.hid ho6; clear hr6 ho6 hb6)
                  | (obtain ⟨v7, w7, hr7, ho7, hb7⟩ := app_atN (by rw [List.length_append, hltk]; rfl) HO6.out (RowOf.nil0 : ARow w6 none 0 []) (0) (by omega) HB6.out.size; refine step_append_run14 rfl (.tmp 58) (.tmp 61) 27 27 rfl _ _ (by simp [Act.eval]) (by simp [Act.eval]) hr7 ?_; have HB7 := Lib.hid (HB6.out.trans hb7); have HO7 := Lib.hid ho7; clear hr7 ho7 hb7))
              all_goals
                go_wp2
                go_roundw
                case rel =>
                  refine ⟨j + 1, ([] : List (ByteArray × Nat)) ++ [(rs, m)] ++ ([] : List (ByteArray × Nat)), by omega, by go_num, ?_, ?_, ?_⟩
                  · show _ = _
                    rw [HINS2.out]
                    try simp
                  · have h9 := HO7.out
                    have e9 : (([] : List (ByteArray × Nat)) ++ [(rs, m)] ++ ([] : List (ByteArray × Nat))).length = 0 + 1 + 0 := by rw [List.length_append, List.length_append, hltk]; simp
                    show World.ownsRow _ _ _ _ _ _ _
                    rw [e9]
                    exact row_more h9 (by have := HBW.out.size; omega)
                  · exact HBW.out.trans (HB7.out.mono HBW.out.size)
                case measure => simp [intOf]; omega
            · cases e0
              by_cases hce : cv = l.length
              · subst hce
                go_upto_region 10 with (fail)
                have HBW := Lib.hid (HB.out.trans (HB5.out.mono HB.out.size))
                have S5 := Lib.hid (fun W (h : Below wr.heap.size wr W) => SS.out W (HBW.out.trans (h.mono HBW.out.size)))
                have hD : Below wr.heap.size wr wr.drew := (Below.refl _ _).drew
                have hDx : Below wr.heap.size wr (wr.alloc (.cells #[.string rs, .int .i64 (m : Nat)] 45)).drew := (below_new wr _).drew
                have hXx : BX (wr.alloc (.cells #[.string rs, .int .i64 (m : Nat)] 45)).drew wr.heap.size 45 #[.string rs, .int .i64 (m : Nat)] := BX.new wr _ _
                have hltk : (l).length = l.length := by simp
                have AP1 := Lib.hid (fun W (h : Below wr.heap.size wr W) => app_at0 (base := wr.heap.size) (HRW5.out.below h) (l.length) (by omega) h.size)
                obtain ⟨i0, i1⟩ := S5.out _ hD
                go_region_held3 (fun W => W.cell? ⟨w.heap.size, 1, none⟩ = some (.slice (some ⟨g, o, none⟩) n2 c2) ∧ W.cell? ⟨g, o + j * 2 + 1, none⟩ = some (.int .i64 (m : Nat)))
                  (first | (exact S5.out _ hD) | (exact S5.out _ hDx) | (exact S5.out _ HB5x.out) | (exact S5.out _ HB6.out) | (exact S5.out _ HB7.out) | go_keep)
                  (first
                    | (obtain ⟨v5, w5x, hr5, ho5, hb5⟩ := AP1.out _ hD; refine step_append_run14 rfl (.const (.slice none 0 0)) (.tmp 47) 27 27 rfl _ _ rfl (by simp [Act.eval, Act.put]) hr5 ?_; obtain ⟨A5, c5, rfl, _, _, _⟩ := own_rowof AtC_size ho5 hltk; have HB5x := Lib.hid (hD.trans (hb5.mono hD.size)); have HO5 := Lib.hid ho5; clear hr5 ho5 hb5)
                    | (obtain ⟨v5, w5x, hr5, ho5, hb5⟩ := AP1.out _ hDx; refine step_append_run14 rfl (.const (.slice none 0 0)) (.tmp 47) 27 27 rfl _ _ rfl (by simp [Act.eval]) hr5 ?_; obtain ⟨A5, c5, rfl, _, _, _⟩ := own_rowof AtC_size ho5 hltk; have HB5x := Lib.hid (hDx.trans (hb5.mono hDx.size)); have HX5 := Lib.hid (hXx.later hb5); have HO5 := Lib.hid ho5; clear hr5 ho5 hb5)
                    | (obtain ⟨v6, w6, hr6, ho6, hb6⟩ := app_atN hltk (HO5.out.alloc (.cells #[.string rs, .int .i64 (m : Nat)] 45)) (rowof_one (C := AtC) (z := 2) (x := (rs, m)) (BX.new w5x 45 #[.string rs, .int .i64 (m : Nat)])) 1 (by omega) (by have := HB5x.out.size; simp; omega); refine step_append_run14 rfl (.tmp 48) (.tmp 57) 27 27 rfl _ _ (by simp [Act.eval]) (by simp [Act.eval]) hr6 ?_; obtain ⟨A6, c6, rfl, _, _, _⟩ := own_rowof AtC_size ho6 (by rw [List.length_append, hltk]; rfl); have HB6 := Lib.hid ((HB5x.out.alloc HB5x.out.size (.cells #[.string rs, .int .i64 (m : Nat)] 45)).trans hb6); have HO6 := Lib.hid ho6; clear hr6 ho6 hb6)
                    | (obtain ⟨v6, w6, hr6, ho6, hb6⟩ := app_atN hltk HO5.out (rowof_one (C := AtC) (z := 2) (x := (rs, m)) HX5.out) 1 (by omega) HB5x.out.size; refine step_append_run14 rfl (.tmp 48) (.tmp 57) 27 27 rfl _ _ (by simp [Act.eval]) (by simp [Act.eval]) hr6 ?_; obtain ⟨A6, c6, rfl, _, _, _⟩ := own_rowof AtC_size ho6 (by rw [List.length_append, hltk]; rfl); have HB6 := Lib.hid (HB5x.out.trans hb6); have HO6 := Lib.hid ho6; clear hr6 ho6 hb6)
                    | (obtain ⟨v7, w7, hr7, ho7, hb7⟩ := app_atN (by rw [List.length_append, hltk]; rfl) HO6.out (RowOf.nil0 : ARow w6 (some ⟨gb, 0, none⟩) 0 []) (0) (by omega) HB6.out.size; refine step_append_run14 rfl (.tmp 58) (.tmp 61) 27 27 rfl _ _ (by simp [Act.eval]) (by simp [Act.eval]) hr7 ?_; have HB7 := Lib.hid (HB6.out.trans hb7); have HO7 := Lib.hid ho7; clear hr7 ho7 hb7))
                all_goals
                  go_wp2
                  go_roundw
                  case rel =>
                    refine ⟨j + 1, l ++ [(rs, m)] ++ ([] : List (ByteArray × Nat)), by omega, by go_num, ?_, ?_, ?_⟩
                    · show _ = _
                      rw [HINS2.out]
                      try simp
                    · have h9 := HO7.out
                      have e9 : (l ++ [(rs, m)] ++ ([] : List (ByteArray × Nat))).length = l.length + 1 + 0 := by rw [List.length_append, List.length_append, hltk]; simp
                      show World.ownsRow _ _ _ _ _ _ _
                      rw [e9]
                      exact row_more h9 (by have := HBW.out.size; omega)
                    · exact HBW.out.trans (HB7.out.mono HBW.out.size)
                  case measure => simp [intOf]; omega
              · have hce2 : ¬ l.length = cv := fun e => hce e.symm
                go_upto_region 10 with (fail)
                have HBW := Lib.hid (HB.out.trans (HB5.out.mono HB.out.size))
                have S5 := Lib.hid (fun W (h : Below wr.heap.size wr W) => SS.out W (HBW.out.trans (h.mono HBW.out.size)))
                have hD : Below wr.heap.size wr wr.drew := (Below.refl _ _).drew
                have hDx : Below wr.heap.size wr (wr.alloc (.cells #[.string rs, .int .i64 (m : Nat)] 45)).drew := (below_new wr _).drew
                have hXx : BX (wr.alloc (.cells #[.string rs, .int .i64 (m : Nat)] 45)).drew wr.heap.size 45 #[.string rs, .int .i64 (m : Nat)] := BX.new wr _ _
                have hltk : (l).length = l.length := by simp
                have AP1 := Lib.hid (fun W (h : Below wr.heap.size wr W) => app_at0 (base := wr.heap.size) (HRW5.out.below h) (cv) (by omega) h.size)
                obtain ⟨i0, i1⟩ := S5.out _ hD
                go_region_held3 (fun W => W.cell? ⟨w.heap.size, 1, none⟩ = some (.slice (some ⟨g, o, none⟩) n2 c2) ∧ W.cell? ⟨g, o + j * 2 + 1, none⟩ = some (.int .i64 (m : Nat)))
                  (first | (exact S5.out _ hD) | (exact S5.out _ hDx) | (exact S5.out _ HB5x.out) | (exact S5.out _ HB6.out) | (exact S5.out _ HB7.out) | go_keep)
                  (first
                    | (obtain ⟨v5, w5x, hr5, ho5, hb5⟩ := AP1.out _ hD; refine step_append_run14 rfl (.const (.slice none 0 0)) (.tmp 47) 27 27 rfl _ _ rfl (by simp [Act.eval, Act.put]) hr5 ?_; obtain ⟨A5, c5, rfl, _, _, _⟩ := own_rowof AtC_size ho5 hltk; have HB5x := Lib.hid (hD.trans (hb5.mono hD.size)); have HO5 := Lib.hid ho5; clear hr5 ho5 hb5)
                    | (obtain ⟨v5, w5x, hr5, ho5, hb5⟩ := AP1.out _ hDx; refine step_append_run14 rfl (.const (.slice none 0 0)) (.tmp 47) 27 27 rfl _ _ rfl (by simp [Act.eval]) hr5 ?_; obtain ⟨A5, c5, rfl, _, _, _⟩ := own_rowof AtC_size ho5 hltk; have HB5x := Lib.hid (hDx.trans (hb5.mono hDx.size)); have HX5 := Lib.hid (hXx.later hb5); have HO5 := Lib.hid ho5; clear hr5 ho5 hb5)
                    | (obtain ⟨v6, w6, hr6, ho6, hb6⟩ := app_atN hltk (HO5.out.alloc (.cells #[.string rs, .int .i64 (m : Nat)] 45)) (rowof_one (C := AtC) (z := 2) (x := (rs, m)) (BX.new w5x 45 #[.string rs, .int .i64 (m : Nat)])) 1 (by omega) (by have := HB5x.out.size; simp; omega); refine step_append_run14 rfl (.tmp 48) (.tmp 57) 27 27 rfl _ _ (by simp [Act.eval]) (by simp [Act.eval]) hr6 ?_; obtain ⟨A6, c6, rfl, _, _, _⟩ := own_rowof AtC_size ho6 (by rw [List.length_append, hltk]; rfl); have HB6 := Lib.hid ((HB5x.out.alloc HB5x.out.size (.cells #[.string rs, .int .i64 (m : Nat)] 45)).trans hb6); have HO6 := Lib.hid ho6; clear hr6 ho6 hb6)
                    | (obtain ⟨v6, w6, hr6, ho6, hb6⟩ := app_atN hltk HO5.out (rowof_one (C := AtC) (z := 2) (x := (rs, m)) HX5.out) 1 (by omega) HB5x.out.size; refine step_append_run14 rfl (.tmp 48) (.tmp 57) 27 27 rfl _ _ (by simp [Act.eval]) (by simp [Act.eval]) hr6 ?_; obtain ⟨A6, c6, rfl, _, _, _⟩ := own_rowof AtC_size ho6 (by rw [List.length_append, hltk]; rfl); have HB6 := Lib.hid (HB5x.out.trans hb6); have HO6 := Lib.hid ho6; clear hr6 ho6 hb6)
                    | (obtain ⟨v7, w7, hr7, ho7, hb7⟩ := app_atN (by rw [List.length_append, hltk]; rfl) HO6.out (RowOf.nil0 : ARow w6 (some ⟨gb, l.length * 2, none⟩) 0 []) (cv - l.length) (by omega) HB6.out.size; refine step_append_run14 rfl (.tmp 58) (.tmp 61) 27 27 rfl _ _ (by simp [Act.eval]) (by simp [Act.eval]) hr7 ?_; have HB7 := Lib.hid (HB6.out.trans hb7); have HO7 := Lib.hid ho7; clear hr7 ho7 hb7))
                all_goals
                  go_wp2
                  go_roundw
                  case rel =>
                    refine ⟨j + 1, l ++ [(rs, m)] ++ ([] : List (ByteArray × Nat)), by omega, by go_num, ?_, ?_, ?_⟩
                    · show _ = _
                      rw [HINS2.out]
                      try simp
                    · have h9 := HO7.out
                      have e9 : (l ++ [(rs, m)] ++ ([] : List (ByteArray × Nat))).length = l.length + 1 + 0 := by rw [List.length_append, List.length_append, hltk]; simp
                      show World.ownsRow _ _ _ _ _ _ _
                      rw [e9]
                      exact row_more h9 (by have := HBW.out.size; omega)
                    · exact HBW.out.trans (HB7.out.mono HBW.out.size)
                  case measure => simp [intOf]; omega
      · rw [if_neg hpre] at hrest
        rw [hrest] at KR
        have hu : Nt.und1 P (Y, m) = none := by unfold Nt.und1; rw [if_neg hpre]
        rw [hu] at hst
        simp only at hst
        have HST := Lib.hid hst
        clear hst hrest hc hx hY hrow hu
        go_wp2_with (first
          | (go_at_call 109; (with_reducible refine (KR.out _).mono ?_); rintro e w3 ⟨rfl, rfl⟩))
        go_roundw
        case rel => exact ⟨j + 1, l, by omega, by go_num, by show _ = _; rw [HST.out]; exact HL.out, HO.out, HB.out⟩
        case measure => simp [intOf]; omega
    · have hlt' : ¬ (j : Int) < n2 := by omega
      obtain rfl : j = n2 := by omega
      have htk : T.paths.take j = T.paths := List.take_of_length_le (by rw [HH.out.len2]; exact Nat.le_refl _)
      have hl9 := HL.out
      rw [htk] at hl9
      have HL9 := Lib.hid hl9
      clear hl9 hrow
      go_wp2
      go_ret
      refine ⟨_, rfl, ?_, bthen HB1.out HB.out⟩
      have h9 := HO.out
      have h8 : l.length = (Nt.srt T.paths P).length := by rw [HL9.out]; unfold tps; rw [List.length_map]
      rw [← h8, ← HL9.out]
      exact row_more h9 HB1.out.size
end
end Go.Proofs.YthgbncpiehcghaaGreatDoor
