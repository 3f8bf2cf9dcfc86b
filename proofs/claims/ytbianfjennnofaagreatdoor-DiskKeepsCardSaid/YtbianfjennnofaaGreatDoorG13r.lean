/- WALKS OF LAYER 13, EIGHTEENTH PART: a tree is copied. -/
import Derived.Test.YtbianfjennnofaaGreatDoorG13q
import Derived.StillTailTactics
namespace Go.Proofs.YtbianfjennnofaaGreatDoor
set_option linter.unusedVariables false
open Go Go.RowKit Go.Maps
set_option maxRecDepth 100000
set_option maxHeartbeats 8000000
open Nt (Tr Nd WF Ps Path at_ cnt used)
section
variable {w W W' : World} {F : Nat → Prop} {K tb : Nat} {T : Tr} {ad mb c nm : Nat → Nat} {L S Dn : List Nat} {X : Nat → Prop} {v : Value}
theorem KeepC.map {B b n : Nat} {f : ByteArray → Option Nat} (hk : KeepC B W W') (h : MapAt W b n f) (h1 : b ≠ B) (h2 : b ≠ B + 2) : MapAt W' b n f := h.of_block (hk.block b h.lt h1 h2 fun ds e => by
  obtain ⟨D, ⟨es, k, h1, _⟩, _⟩ := h
  rw [h1] at e
  cases e)
theorem KeepC.os {B base : Nat} {l : List (Nat × Nat)} {cs : Array Value} {v : Value} {xs : List ByteArray} (hk : KeepC B W W') (h : OS W base v xs) (h1 : PM W B l) (h2 : BX W (B + 2) 168 cs) : OS W' base v xs := own_keep13 h fun k hb => by
  obtain ⟨ds, hds⟩ := own_block13 h hb
  have hx : BX W k 9 ds := hds
  exact hk.block k hx.lt (h1.ne_bx hx) (bx_ne hx h2 (by decide)) fun es e => by
    unfold BX at hx
    rw [hx] at e
    cases e
theorem os_oth {base b n : Nat} {f : ByteArray → Option Nat} {v : Value} {xs : List ByteArray} (h : OS W base v xs) (hm : MapAt W b n f) (ho : Oth b W W') : OS W' base v xs := own_keep13 h fun k hb => by
  obtain ⟨ds, hds⟩ := own_block13 h hb
  have hx : BX W k 9 ds := hds
  exact ho.2.2.2.2 k hx.lt (hm.ne_bx hx)
theorem CS.few (h : CS w W K T ad mb c nm L S Dn X v) (hW : WF T K) : S.length ≤ K := by
  have h5 : S.length ≤ (T.paths.map (·.2)).length := len_sub h.snd fun m hm => by
    obtain ⟨q, hq⟩ := h.live m (h.sub m hm).1
    exact List.mem_map.2 ⟨_, hq, rfl⟩
  have := hW.many
  simp at h5
  omega
theorem kids_len (hW : WF T K) (hK : K ≤ 100000) {p : Path} {Lk : List ByteArray} (h1 : Lk.Pairwise (fun x y => Pp.lt x y = true)) (h2 : ∀ s ∈ Lk, (at_ T.paths (p ++ [s])).isSome = true) : Lk.length ≤ K := by
  have hnd : (Lk.map fun s => (p ++ [s], kidN T p s)).Nodup := by
    refine List.pairwise_map.2 ((lt_nodup h1).imp fun {a b} hab e => hab ?_)
    have := congrArg Prod.fst e
    simpa using this
  have := len_sub hnd (l := T.paths) fun x hx => by
    obtain ⟨s, hs, rfl⟩ := List.mem_map.1 hx
    obtain ⟨j, hj⟩ := Option.isSome_iff_exists.1 (h2 s hs)
    unfold kidN
    rw [hj]
    exact Nt.at_mem hj
  have h3 := hW.many
  rw [List.length_map] at this
  omega
/-- What a copied Dir has under the names of L. -/
def tkf (T : Tr) (p : Path) (c : Nat → Nat) (L : List ByteArray) (s : ByteArray) : Option Nat := if L.any (fun x => decide (x = s)) = true then (at_ T.paths (p ++ [s])).map c else none
theorem tkf_mem {p : Path} {L : List ByteArray} {s : ByteArray} (h : s ∈ L) : tkf T p c L s = (at_ T.paths (p ++ [s])).map c := if_pos (List.any_eq_true.2 ⟨s, h, by simp⟩)
theorem tkf_not {p : Path} {L : List ByteArray} {s : ByteArray} (h : s ∉ L) : tkf T p c L s = none := if_neg fun e => by
  obtain ⟨x, hx, he⟩ := List.any_eq_true.1 e
  exact h (by rw [← of_decide_eq_true he]; exact hx)
theorem CS.dlen (h : CS w W K T ad mb c nm L S Dn X v) (hW : WF T K) : Dn.length ≤ T.nodes.length := by
  have h5 := len_sub h.dnd (l := List.range T.nodes.length) fun m hm => by
    obtain ⟨q, hq⟩ := h.live m (h.subd m hm).1
    exact List.mem_range.2 (hW.lt _ _ hq)
  rwa [List.length_range] at h5
theorem clone_any (hW : WF T K) (hK : K ≤ 100000) (hR : RepP F K w tb T ad mb) :
    Calls Tryz.prog 84 #[.pointer (some ⟨ad 0, 0, none⟩)] w fun e w' => ∃ c nm L Dn v, e = .returned (.pointer (some ⟨c 0, 0, none⟩)) ∧ CS w w' K T ad mb c nm L [] Dn (fun _ => False) v ∧ 0 ∈ L := by
  have hmm := @run_makeMap Tryz.prog
  have hmf : ∀ (fn : Fn) (first cap : Array Value) (w : World), (Instr.makeFunc fn first cap).run Tryz.prog w = .ok (.func fn first cap) w := fun _ _ _ _ => rfl
  have hpm := PM.made w
  have hb1 := bthen (bthen (below_new w (.map #[] 0)) (below_new _ (.cells #[.map (some w.heap.size)] 167))) (below_new _ (.cells #[.slice none 0 0] 168))
  have hst : Hid (CS w (((w.alloc (.map #[] 0)).alloc (.cells #[.map (some w.heap.size)] 167)).alloc (.cells #[.slice none 0 0] 168)) K T ad mb (fun _ => 0) (fun _ => 0) [] [] [] (fun _ => False) (.slice none 0 0)) := by
    refine CS.start hb1 ((hpm.alloc _).alloc _) ?_ ?_
    · have := BX.new (w.alloc (.map #[] 0)) 167 #[.map (some w.heap.size)]
      simp only [World.size_alloc] at this
      exact this.alloc _
    · have := BX.new ((w.alloc (.map #[] 0)).alloc (.cells #[.map (some w.heap.size)] 167)) 168 #[.slice none 0 0]
      simp only [World.size_alloc] at this
      exact this
  have kc0 := Lib.hid (copied_any hW hK hR hW.root hst.out (fun m h => h.elim))
  clear hpm hb1
  go_enter Tryz.func84, Tryz.ntmps84
  go_wp2_with (go_at_call 112; refine kc0.out.mono ?_; rintro e w1 ⟨c1, L1, S1, v1, rfl, hc1, h01, _, _⟩)
  obtain ⟨C0, hC0⟩ : ∃ C0, c1 0 = C0 := ⟨_, rfl⟩
  rw [hC0]
  have HC1 := Lib.hid hc1
  have HC0 := Lib.hid hC0
  clear hc1 hC0
  go_loopg [7] (T.nodes.length) (fun k x wr => ∃ c nm L S Dn v, Hid (CS w wr K T ad mb c nm L S Dn (fun _ => False) v) ∧ Hid (0 ∈ L) ∧ Hid (c 0 = C0) ∧ Hid (k + Dn.length = T.nodes.length))
  case atStart =>
    exact ⟨c1, fun _ => 0, L1, S1, [], v1, HC1, Lib.hid h01, HC0, Lib.hid rfl⟩
  case round =>
    obtain ⟨c, nm, L, S, Dn, v, HC, H0, HCC, HG⟩ := hrel
    rcases List.eq_nil_or_concat S with rfl | ⟨S1, d, rfl⟩
    · obtain ⟨A, cc, hve⟩ := HC.out.pr.slice
      simp only [List.map_nil, List.length_nil] at hve
      subst hve
      have d0 : wr.cell? ⟨w.heap.size + 1 + 1, 0, none⟩ = some (.slice A 0 cc) := HC.out.dbx.cell rfl
      go_wp2
      go_ret
      exact ⟨c, nm, L, Dn, _, by rw [HCC.out]; rfl, HC.out, H0.out⟩
    · rw [List.concat_eq_append] at HC
      obtain ⟨g, cc, rfl, hgb, hgl, hlc, hcm⟩ := HC.out.pr.shape (by simp)
      obtain ⟨N, hN⟩ : ∃ N, S1.length = N := ⟨_, rfl⟩
      have hlen : ((S1 ++ [d]).map c).length = N + 1 := by simp [hN]
      have hfew := HC.out.few hW
      have hNb : N ≤ 100000 := by simp at hfew; omega
      rw [hlen] at HC hlc
      have hcell := HC.out.pr.cell (j := N) (b := c d) (by simp [← hN])
      have hcut := HC.out.pr.cut (k := N) (by omega)
      have htk : ((S1 ++ [d]).map c).take N = S1.map c := by rw [← hN, List.map_append, List.take_left' (by simp)]
      rw [htk] at hcut
      obtain ⟨hdL, hdk, hdD, -⟩ := HC.out.sub d (by simp)
      have hsnd := HC.out.snd
      rw [List.nodup_append] at hsnd
      have hdS : d ∉ S1 := fun e => hsnd.2.2 d e d (by simp) rfl
      obtain ⟨p, hp⟩ := HC.out.live d hdL
      have HC1 := Lib.hid (show CS w (wr.setCell ⟨w.heap.size + 2, 0, none⟩ (.slice (some ⟨g, 0, none⟩) N cc)) K T ad mb c nm L S1 Dn (fun m => m = d) (.slice (some ⟨g, 0, none⟩) N cc) from
        HC.out.queue (KeepRow.refl wr) HC.out.low hcut
          (fun n hn => by
            obtain ⟨a, b, e, -⟩ := HC.out.sub n (List.mem_append_left _ hn)
            exact ⟨a, b, e, fun f => hdS (f ▸ hn)⟩)
          (fun n hn f => hdD (f ▸ hn)) hsnd.1
          (fun n hn hk => by
            rcases HC.out.cover n hn hk with h2 | h2 | h2
            · exact .inl h2
            · rcases List.mem_append.1 h2 with h3 | h3
              · exact .inr (.inl h3)
              · exact .inr (.inr (by simpa using h3))
            · exact h2.elim))
      have d0 : wr.cell? ⟨w.heap.size + 1 + 1, 0, none⟩ = some (.slice (some ⟨g, 0, none⟩) (N + 1) cc) := HC.out.dbx.cell rfl
      have df : wr.frozen? ⟨w.heap.size + 1 + 1, 0, none⟩ = false := HC.out.dbx.free 0
      have hlow := Lib.hid HC1.out.low.size
      have HDL := Lib.hid hdL
      have HDK := Lib.hid hdk
      have HDD := Lib.hid hdD
      have HDS := Lib.hid hdS
      have HPD := Lib.hid hp
      clear hcut htk hsnd hdL hdk hdD hdS hp hlen hfew hN kc0 HC0 h01
      obtain ⟨WM, hWM⟩ : ∃ WM, (wr.setCell ⟨w.heap.size + 1 + 1, 0, none⟩ (.slice (some ⟨g, 0, none⟩) N cc)).alloc (.map #[] 0) = WM := ⟨_, rfl⟩
      have hszM : wr.heap.size + 1 = WM.heap.size := by rw [← hWM]; simp [World.setCell]
      have HCM := Lib.hid (show CS w WM K T ad mb c nm L S1 Dn (fun m => m = d) (.slice (some ⟨g, 0, none⟩) N cc) from by rw [← hWM]; exact HC1.out.later (below_new _ _))
      have hmapM := Lib.hid (show MapAt WM wr.heap.size 0 (fun _ => none) from by
        rw [← hWM]
        have := MapAt.made (wr.setCell ⟨w.heap.size + 1 + 1, 0, none⟩ (.slice (some ⟨g, 0, none⟩) N cc))
        simpa [World.setCell] using this)
      have hbig : w.heap.size + 2 < wr.heap.size := HC.out.dbx.lt
      have hnmM := Lib.hid (show ∀ n ∈ Dn, nm n ≠ wr.heap.size from fun n hn e => by
        obtain ⟨q, hq⟩ := HC.out.live n (HC.out.subd n hn).1
        have := (HC.out.done q n hq hn).2.1.lt
        omega)
      have kr := Lib.hid (rising_any WM (c d) (mb d) K (T.nd d) _ _ (by
        have := HCM.out.node d HDL.out
        unfold cnv at this
        rw [if_pos HDK.out, if_neg HDD.out] at this
        exact this) ((HCM.out.old hR).map p d HPD.out HDK.out).2 (by omega))
      have hMs : (wr.setCell ⟨w.heap.size + 1 + 1, 0, none⟩ (.slice (some ⟨g, 0, none⟩) N cc)).heap.size = wr.heap.size := by simp [World.setCell]
      go_wp2_with (go_at_call 83; rw [hWM])
      refine kr.out.mono ?_
      rintro e w2 ⟨vn, Lk, rfl, ⟨hL1, hL2⟩, ho, hb1⟩
      obtain ⟨An, cn, rfl, _, hlcn, hcmn⟩ := ho.rt
      go_wp2
      have HC2 := Lib.hid (HCM.out.later hb1)
      have HM2 := Lib.hid (hmapM.out.later hb1)
      have HO2 := Lib.hid (row_more ho (by omega : w.heap.size ≤ WM.heap.size))
      have HL2 := Lib.hid hL2
      have HL1 := Lib.hid hL1
      have hLkK := kids_len hW hK hL1 fun s hs => by have := ((hL2 s).1 hs).2; rwa [Option.isSome_map] at this
      obtain ⟨nb, hnb⟩ : ∃ nb, wr.heap.size = nb := ⟨_, rfl⟩
      rw [hnb] at HM2 hnmM hbig ⊢
      clear hL1 hL2 ho hb1 kr HC HC1 HCM hmapM d0 df hcell hMs hszM hWM
      go_loopw [34] (fun i W => ∃ (k : Nat) (c' : Nat → Nat) (L' S' : List Nat) (v' : Value), k ≤ Lk.length ∧ i = .int .i64 k ∧ Hid (CS w W K T ad mb c' nm L' S' Dn (fun m => m = d) v') ∧ Hid (0 ∈ L' ∧ c' 0 = C0 ∧ d ∈ L' ∧ c' d = c d) ∧ Hid (MapAt W nb k (tkf T p c' (Lk.take k))) ∧ Hid (OS W w.heap.size (.slice An Lk.length cn) Lk) ∧ Hid (∀ s ∈ Lk.take k, ∀ j, (p ++ [s], j) ∈ T.paths → j ∈ L')) (fun i _ => Lk.length - (intOf i).toNat)
      case atStart =>
        exact ⟨0, c, L, S1, _, Nat.zero_le _, rfl, HC2, Lib.hid ⟨H0.out, HCC.out, HDL.out, rfl⟩, Lib.hid (HM2.out.cong fun s _ => (tkf_not (by simp)).symm), HO2, Lib.hid (by simp)⟩
      case round =>
        obtain ⟨k, c', L', S', v', hk, rfl, HC, HB, HM, HO, HIN⟩ := hrel
        by_cases hlt : k < Lk.length
        · have hlt' : (k : Int) < Lk.length := by omega
          obtain ⟨b, x, rfl, hx, hcx⟩ := HO.out.rt13.at_ hlt
          have hxL := List.mem_of_getElem? hx
          have h6 := ((HL2.out x).1 hxL).2
          simp only [Option.isSome_map] at h6
          obtain ⟨j, hj⟩ := Option.isSome_iff_exists.1 h6
          have hnm := (hW.up _ _ _ (Nt.at_mem hj)).2.1
          have hxm : x.size ≤ maxLen := by have := Nt.nm_le hnm; unfold maxLen; omega
          obtain ⟨h0', hc0', hd', hcd'⟩ := HB.out
          have d7 : wr.cell? ⟨c d, 7, none⟩ = some (.map (some (mb d))) := by
            have := (HC.out.node d hd').cell (j := 7) (v := .map (cnv T mb nm Dn d)) rfl
            unfold cnv at this
            rw [if_pos HDK.out, if_neg HDD.out, hcd'] at this
            exact this
          have hlook := ((HC.out.old hR).map p d HPD.out HDK.out).2.look (s := x) hxm
          rw [hj] at hlook
          replace hlook : (Instr.lookup 89 (.map (some (mb d))) (.string x) false).run Tryz.prog wr = .ok (.pointer (some ⟨ad j, 0, none⟩)) wr := hlook
          have kc := Lib.hid (copied_any hW hK hR (Nt.at_mem hj) HC.out (fun m h => by rw [h]; exact hd'))
          have HX := Lib.hid hx
          have HJ := Lib.hid hj
          clear hx hj hnm h6 hxL
          clear HL1 HO2 HC2 HM2
          go_wp2_with (go_at_call 112; refine kc.out.mono ?_; rintro e w3 ⟨c3, L3, S3, v3, rfl, hc3, hj3, hk3, hkc⟩; obtain ⟨C3, hC3⟩ : ∃ C3, c3 j = C3 := ⟨_, rfl⟩; rw [hC3]; have hm3 := hkc.map HM.out (by omega) (by omega); obtain ⟨w4, hrun, hm4, ht4⟩ := hm3.put (s := x) (by unfold maxLen; omega) hxm C3; have HC3 := Lib.hid hc3; have HKC := Lib.hid hkc; have HK3 := Lib.hid hk3; have HM4 := Lib.hid hm4; have HT4 := Lib.hid ht4; have HJ3 := Lib.hid hj3; have HCC3 := Lib.hid hC3; clear hc3 hkc hk3 hm4 ht4 hj3 hC3)
          go_roundw
          case rel =>
            have htk : Lk.take (k + 1) = Lk.take k ++ [x] := by rw [List.take_add_one, HX.out]; rfl
            refine ⟨k + 1, c3, L3, S3, v3, by omega, by go_num, ?_, ?_, ?_, ?_, ?_⟩
            · exact Lib.hid (HC3.out.beside (mturn_oth HT4.out) (by omega) (by omega) (fun a U cs hx => hm3.ne_bx hx) hnmM.out)
            · exact Lib.hid ⟨(HK3.out 0 h0').1, by rw [(HK3.out 0 h0').2, hc0'], (HK3.out d hd').1, by rw [(HK3.out d hd').2, hcd']⟩
            · refine Lib.hid (HM4.out.cong fun s _ => ?_)
              rw [htk]
              by_cases e : s = x
              · subst e
                rw [if_pos rfl, tkf_mem (by simp), HJ.out, Option.map_some, HCC3.out]
              · rw [if_neg e]
                by_cases e2 : s ∈ Lk.take k
                · rw [tkf_mem e2, tkf_mem (List.mem_append_left _ e2)]
                  cases ha : at_ T.paths (p ++ [s]) with
                  | none => rfl
                  | some m => rw [Option.map_some, Option.map_some, (HK3.out m (HIN.out s e2 m (Nt.at_mem ha))).2]
                · rw [tkf_not e2, tkf_not fun e3 => (List.mem_append.1 e3).elim e2 fun e4 => e (by simpa using e4)]
            · exact Lib.hid (os_oth (HKC.out.os HO.out HC.out.pm HC.out.dbx) hm3 (mturn_oth HT4.out))
            · refine Lib.hid fun s hs m hm => ?_
              rw [htk] at hs
              rcases List.mem_append.1 hs with e | e
              · exact (HK3.out m (HIN.out s e m hm)).1
              · obtain rfl : s = x := by simpa using e
                rw [Nt.nodup_one hW.nodup hm (Nt.at_mem HJ.out)]
                exact HJ3.out
          case measure => simp [intOf]; omega
        · have e : k = Lk.length := by omega
          subst e
          obtain ⟨h0', hc0', hd', hcd'⟩ := HB.out
          have hnd := HC.out.node d hd'
          rw [hcd'] at hnd
          have f7 := hnd.free 7
          have c7 : wr.cell? ⟨c d, 7, none⟩ = some (.map (cnv T mb nm Dn d)) := hnd.cell rfl
          have hmem : ∀ s j, (p ++ [s], j) ∈ T.paths → s ∈ Lk := fun s j hj => (HL2.out s).2 ⟨by
            have := Nt.nm_le (hW.up _ _ _ hj).2.1
            unfold maxLen; omega, by
            rw [Option.isSome_map]
            rw [(Nt.at_iff hW.nodup).2 hj]
            rfl⟩
          have hfin := HC.out.finish hW (nb := nb) (fun _ => Iff.rfl) HPD.out hd' HDK.out HDD.out (fun f => (HC.out.sub d f).2.2.2 rfl) (by omega)
            ((HM.out.mono hLkK).cong fun s hs => by
              rw [List.take_length]
              by_cases e2 : s ∈ Lk
              · exact tkf_mem e2
              · rw [tkf_not e2]
                cases ha : at_ T.paths (p ++ [s]) with
                | none => rfl
                | some m => exact absurd (hmem s m (Nt.at_mem ha)) e2) hnmM.out
            (fun s j hj => HIN.out s (by rw [List.take_length]; exact hmem s j hj) j hj)
          rw [hcd'] at hfin
          have hdl := hfin.dlen hW
          have hg := HG.out
          rw [List.length_append] at hdl
          simp only [List.length_cons, List.length_nil] at hdl
          have HF := Lib.hid hfin
          clear hfin hnd
          go_wp2
          go_roundg (gk - 1)
          case measure => omega
          case rel => exact ⟨c', _, L', S', Dn ++ [d], v', HF, Lib.hid h0', Lib.hid hc0', Lib.hid (by rw [List.length_append]; simp only [List.length_cons, List.length_nil]; omega)⟩
end
end Go.Proofs.YtbianfjennnofaaGreatDoor
