/- THE WALK OF 'NodeUsed'. -/
import Derived.Test.YtbianfjennnofaaDoorG13y
import Derived.Test.YtbianfjennnofaaDoorS13
namespace Go.Proofs.YtbianfjennnofaaDoor
set_option linter.unusedVariables false
open Go Go.RowKit Go.Maps
set_option maxRecDepth 100000
set_option maxHeartbeats 8000000
open Nt (Tr Nd WF Ps Path at_ cnt used)
theorem len_stp (T : Tr) (kd : Int) (p q : ByteArray) (a b c d : Int) (A : Option Addr) (n k : Nat) (xs : List Int) : (stp T kd p q a b c d A n k xs).1.paths.length ≤ T.paths.length + 1 := by
  unfold stp
  split
  · exact Nt.len_mk _ _
  · split
    · exact Nt.len_mk _ _
    · split
      · exact Nt.len_mk _ _
      · split
        · exact Nt.len_lnk _ _
        · split
          · exact Nt.len_wr _ _ _ _ _
          · split
            · exact Nt.len_st _ _ _ _ _
            · split
              · exact Nt.len_rm _
              · split
                · exact Nt.len_clr _
                · exact Nt.len_rn _ _
/-- A TREE AT tb, with its footprint. -/
structure AtF (F : Nat → Prop) (w0 w : World) (tb : Nat) (T : Tr) (K : Nat) : Prop where
  wf : WF T K
  low : Below w0.heap.size w0 w
  up : ∀ k, F k → w0.heap.size ≤ k
  rep : Rep F K w tb T
theorem clear_kid {F : Nat → Prop} {w0 w : World} {tb K : Nat} {T : Tr} (h : AtF F w0 w tb T K) (hK : K ≤ 100000) {s : ByteArray} {k : Nat} (ha : at_ T.paths [s] = some k) :
    Calls Tryd.prog 14 #[.pointer (some ⟨tb, 0, none⟩), .string s] w fun e w' => e = .returned (.int .i64 0) ∧ AtF (Grow F w w') w0 w' tb (T.clr1 [s]) (K + 301) ∧ Keep F w w' := by
  obtain ⟨ad, mb, hR⟩ := h.rep
  have hsz : s.size ≤ 1000000 := by have := Nt.nm_le (h.wf.up [] s k (Nt.at_mem ha)).2.1; omega
  refine (clear_any h.wf hK hR s hsz).mono ?_
  rintro e w' hd
  have hw := h.wf.clr' s
  rw [h.wf.clr_kid ha] at hd hw
  obtain ⟨rfl, hr, hk⟩ := hd
  exact ⟨rfl, ⟨hw, h.low.trans (hk.below h.up h.low.size), Grow.low h.up h.low.size, hr⟩, hk⟩
theorem AtF.at_ {F : Nat → Prop} {w0 w : World} {tb K : Nat} {T : Tr} (h : AtF F w0 w tb T K) (hF : ∀ k, F k → k < w.heap.size) : At w0 w tb T K :=
  let ⟨ad, mb, hR⟩ := h.rep
  ⟨h.wf, h.low, F, ad, mb, fun k hk => ⟨h.up k hk, hF k hk⟩, hR⟩
theorem ls_root {T : Tr} {K : Nat} (h : WF T K) : lsE T ⟨#[]⟩ = 0 := by
  have hf : T.find ⟨#[]⟩ = (0, 0) := rfl
  unfold lsE
  rw [hf, if_neg (by simp), if_neg (by rw [h.rootk]; simp)]
theorem kids_paths {T : Tr} {p : Path} {Lk : List ByteArray} (h1 : Lk.Pairwise (fun x y => Pp.lt x y = true)) (h2 : ∀ s ∈ Lk, (at_ T.paths (p ++ [s])).isSome = true) : Lk.length ≤ T.paths.length := by
  have hnd : (Lk.map fun s => (p ++ [s], kidN T p s)).Nodup := by
    refine List.pairwise_map.2 ((lt_nodup h1).imp fun {a b} hab e => hab ?_)
    have := congrArg Prod.fst e
    simpa using this
  have := len_sub hnd (l := T.paths) fun x hx => by
    obtain ⟨s, hs, rfl⟩ := List.mem_map.1 hx
    obtain ⟨j, hj⟩ := Option.isSome_iff_exists.1 (h2 s hs)
    unfold kidN
    rw [hj]
    exact Nt.at_mem hj
  rwa [List.length_map] at this
theorem no_kids {T : Tr} {L : List ByteArray} (h : IsKids T (Nt.nms ⟨#[]⟩) L) (hn : ∀ s, at_ T.paths [s] = none) : L = [] := by
  cases L with
  | nil => rfl
  | cons x L =>
    have := (h.2 x).1 (by simp)
    rw [show Nt.nms ⟨#[]⟩ = [] from rfl, List.nil_append, hn x] at this
    cases this
/-- In the middle of the clearing: what is left stands under the root. -/
structure Left (w W : World) (base tb : Nat) (v : Value) (L : List ByteArray) (K j : Nat) (F : Nat → Prop) (T : Tr) : Prop where
  tree : AtF F w W tb T (K + 301 * j)
  top : ∀ k, F k → k < W.heap.size
  row : OS W base v L
  out : ∀ k, v.ownBlock = some k → ¬ F k
  kids : ∀ s, (at_ T.paths [s]).isSome = true ↔ s ∈ L.drop j
theorem Left.step {w W W' : World} {base tb : Nat} {v : Value} {L : List ByteArray} {K j : Nat} {F : Nat → Prop} {T : Tr} (h : Left w W base tb v L K j F T) (hL : L.Nodup) {x : ByteArray} (hx : L[j]? = some x)
    (ha : AtF (Grow F W W') w W' tb (T.clr1 [x]) (K + 301 * j + 301)) (hk : Keep F W W') : Left w W' base tb v L K (j + 1) (Grow F W W') (T.clr1 [x]) := by
  obtain ⟨hjl, hxe⟩ := List.getElem?_eq_some_iff.1 hx
  have hd : L.drop j = x :: L.drop (j + 1) := by rw [List.drop_eq_getElem_cons hjl, hxe]
  refine ⟨by rw [show K + 301 * (j + 1) = K + 301 * j + 301 from by omega]; exact ha, ?_, own_keep13 h.row fun k hk2 => hk.block k (World.ownsRow.lt h.row k hk2).2 (h.out k hk2), ?_, ?_⟩
  · rintro k (h1 | h1)
    · exact Nat.lt_of_lt_of_le (h.top k h1) hk.size
    · exact h1.2
  · rintro k hk2 (h1 | h1)
    · exact h.out k hk2 h1
    · have := (World.ownsRow.lt h.row k hk2).2
      omega
  · intro s
    rw [Nt.at_clr]
    have hks := h.kids s
    rw [hd, List.mem_cons] at hks
    have hnd : (x :: L.drop (j + 1)).Nodup := by rw [← hd]; exact hL.sublist (List.drop_sublist _ _)
    rw [List.nodup_cons] at hnd
    by_cases e : x = s
    · subst e
      rw [if_pos rfl]
      simp [hnd.1]
    · rw [if_neg e, hks]
      constructor
      · rintro (h1 | h1)
        · exact absurd h1.symm e
        · exact h1
      · exact .inr
theorem used_any13 (A : Option Addr) (n k : Nat) (l : List Sp) (w : World) (hl : SL w w.heap.size A n l) (hk : n ≤ k) (hm : k ≤ maxLen) :
    Calls Tryd.prog 4 #[.slice A n k] w fun e w' => e = .returned (.bool true) ∧ Below w.heap.size w w' := by
  have hal := alive_any
  have kn := Lib.hid (at_new w 30 9000 (by decide) (by decide))
  have kf := Lib.hid (fun W (h : Below w.heap.size w W) => far_any A n k w.heap.size l W (hl.below h) h.size hk hm)
  have ks := Lib.hid (fun W => short_any A n k W hk hm)
  have HL := Lib.hid hl
  by_cases hfar : (l.take 40).any Sp.far = true
  · rw [hfar] at kf
    clear hfar hl
    go_enter Tryd.func4, Tryd.ntmps4
    go_wp2_with (first
      | (go_at_call 8; refine (hal _).mono ?_; rintro e w3 ⟨rfl, hb3⟩)
      | (go_at_call 7; refine (kf.out _ h0.out.low).mono ?_; rintro e w2 ⟨rfl, hb2⟩)
      | (go_at_call 6; refine kn.out.mono ?_; rintro e w1 ⟨tb, rfl, h0⟩; replace h0 := Lib.hid h0))
    go_ret
    exact ⟨rfl, bthen (bthen h0.out.low hb2) hb3⟩
  · have hfar' : (l.take 40).any Sp.far = false := by simpa using hfar
    rw [hfar'] at kf
    have hN40 : min n 40 ≤ 40 := by omega
    have hM := hl.take (k := min n 40) (by omega)
    have hll := hl.1.1
    have htk : l.take (min n 40) = l.take 40 := by
      by_cases h : n ≤ 40
      · rw [List.take_of_length_le (by omega), List.take_of_length_le (by omega)]
      · rw [show min n 40 = 40 from by omega]
    rw [htk] at hM
    generalize l.take 40 = M at *
    generalize min n 40 = N at *
    have HM := Lib.hid hM
    have HFAR := Lib.hid hfar'
    clear hfar hfar' hM htk hll hl
    go_enter Tryd.func4, Tryd.ntmps4
    go_wp2_with (first
      | (go_at_call 9; refine (ks.out _).mono ?_; rintro e w3 ⟨rfl, rfl⟩)
      | (go_at_call 7; refine (kf.out _ h0.out.low).mono ?_; rintro e w2 ⟨rfl, hb2⟩)
      | (go_at_call 6; refine kn.out.mono ?_; rintro e w1 ⟨tb, rfl, h0⟩; replace h0 := Lib.hid h0))
    have h1 := Lib.hid (h0.out.later hb2)
    go_loopw [29] (fun i W => ∃ (j : Nat) (T : Tr), j ≤ N ∧ i = .int .i64 j ∧ Hid (At w W tb T (1 + 301 * j)) ∧ Hid (T.paths.length ≤ 1 + j)) (fun i _ => N - (intOf i).toNat)
    case atStart => exact ⟨0, Nt.new 30 9000, Nat.zero_le _, rfl, h1, Nat.le_refl _⟩
    case round =>
      obtain ⟨j, T, hj, rfl, HT, HP⟩ := hrel
      by_cases hlt : j < N
      · have hlt' : (j : Int) < N := by omega
        obtain ⟨b, o, y, rfl, hb, hy, hrb, hc⟩ := (HM.out.below HT.out.low).at_ hlt
        obtain ⟨kd, p, q, ma, mb, mc, md, A', n', k', xs'⟩ := y
        have c0 : wr.cell? ⟨b, o + j * 8, none⟩ = some (.int .u8 kd) := hc 0 _ rfl
        have c1 : wr.cell? ⟨b, o + j * 8 + 1, none⟩ = some (.string p) := hc 1 _ rfl
        have c2 : wr.cell? ⟨b, o + j * 8 + 2, none⟩ = some (.string q) := hc 2 _ rfl
        have c3 : wr.cell? ⟨b, o + j * 8 + 3, none⟩ = some (.int .i64 ma) := hc 3 _ rfl
        have c4 : wr.cell? ⟨b, o + j * 8 + 4, none⟩ = some (.int .i64 mb) := hc 4 _ rfl
        have c5 : wr.cell? ⟨b, o + j * 8 + 5, none⟩ = some (.int .i64 mc) := hc 5 _ rfl
        have c6 : wr.cell? ⟨b, o + j * 8 + 6, none⟩ = some (.int .i64 md) := hc 6 _ rfl
        have c7 : wr.cell? ⟨b, o + j * 8 + 7, none⟩ = some (.slice A' n' k') := hc 7 _ rfl
        have hfy : Sp.far ⟨kd, p, q, ma, mb, mc, md, A', n', k', xs'⟩ = false := by
          have := HFAR.out
          rw [List.any_eq_false] at this
          simpa using this _ (List.mem_of_getElem? hy)
        have hb3 : p.size ≤ 400 ∧ q.size ≤ 400 ∧ n' ≤ 4200 := by
          simp only [Sp.far, Bool.or_eq_false_iff, decide_eq_false_iff_not] at hfy
          omega
        have hbb := below_new wr (.cells (StC kd p q ma mb mc md A' n' k') 27)
        have ka := Lib.hid (act_at (HT.out.later hbb) (by omega) kd p q (by omega) (by omega) ma mb mc md A' n' k' xs' (hrb.below (hbb.mono HT.out.low.size)) (by omega))
        have HLS := Lib.hid (len_stp T kd p q ma mb mc md A' n' k' xs')
        clear hc hy hfy hrb hbb
        go_wp2_with (go_at_call 12; refine ka.out.mono ?_; rintro e w4 ⟨rfl, h4⟩)
        go_roundw
        case rel => exact ⟨j + 1, _, by omega, by go_num, by rw [show 1 + 301 * (j + 1) = 1 + 301 * j + 301 from by omega]; exact h4, by have := HLS.out; have := HP.out; show _ ≤ _; omega⟩
        case measure => simp [intOf]; omega
      · have hlt' : ¬ (j : Int) < N := by omega
        have kl := Lib.hid (at_list HT.out (by omega) ⟨#[]⟩ (by decide))
        rw [ls_root HT.out.wf] at kl
        obtain ⟨F, ad, mb, hF, hR⟩ := HT.out.rep
        have HF := Lib.hid hF
        have HR := Lib.hid (show AtF F w wr tb T (1 + 301 * j) from ⟨HT.out.wf, HT.out.low, fun k hk => (hF k hk).1, ad, mb, hR⟩)
        clear hF hR
        go_wp2_with (go_at_call 15; refine kl.out.mono ?_; rintro e w5 ⟨v, L, rfl, ho, hki, _, hb5⟩; replace hki := hki (by trivial); obtain ⟨A6, c6, rfl, _, hl6, hm6⟩ := ho.rt)
        have hlen : L.length ≤ 41 := by
          have := kids_paths hki.1 fun s hs => (hki.2 s).1 hs
          have := HP.out
          omega
        have HND := Lib.hid (lt_nodup hki.1)
        have HLf := Lib.hid (show Left w w5 wr.heap.size tb (.slice A6 L.length c6) L (1 + 301 * j) 0 F T from
          ⟨⟨HR.out.wf, HR.out.low.trans (hb5.mono HR.out.low.size), HR.out.up, by obtain ⟨ad, mb, h⟩ := HR.out.rep; exact ⟨ad, mb, h.later hb5⟩⟩, fun k hk => Nat.lt_of_lt_of_le (HF.out k hk).2 hb5.size, ho, fun k hk hf => by
            have := (World.ownsRow.lt ho k hk).1
            have := (HF.out k hf).2
            omega, fun s => by
            rw [List.drop_zero, hki.2 s, show Nt.nms ⟨#[]⟩ = [] from rfl, List.nil_append]⟩)
        clear hki ho
        go_loopw [44] (fun i W => ∃ (m : Nat) (F : Nat → Prop) (T : Tr), m ≤ L.length ∧ i = .int .i64 m ∧ Hid (Left w W wr.heap.size tb (.slice A6 L.length c6) L (1 + 301 * j) m F T)) (fun i _ => L.length - (intOf i).toNat)
        case atStart => exact ⟨0, F, T, Nat.zero_le _, rfl, HLf⟩
        case round =>
          obtain ⟨m, F2, T2, hm2, rfl, HS⟩ := hrel
          by_cases hlt2 : m < L.length
          · have hlt2' : (m : Int) < L.length := by omega
            obtain ⟨b, x, rfl, hx, hcx⟩ := HS.out.row.rt13.at_ hlt2
            have hxk := (HS.out.kids x).2 (by
              obtain ⟨hml, hxe⟩ := List.getElem?_eq_some_iff.1 hx
              rw [List.drop_eq_getElem_cons hml, hxe]
              simp)
            obtain ⟨kk, hkk⟩ := Option.isSome_iff_exists.1 hxk
            have kc := Lib.hid (clear_kid HS.out.tree (by omega) hkk)
            have HX := Lib.hid hx
            clear hx hxk hkk
            go_wp2_with (go_at_call 14; refine kc.out.mono ?_; rintro e w6 ⟨rfl, ha6, hk6⟩)
            go_roundw
            case rel => exact ⟨m + 1, _, _, by omega, by go_num, HS.out.step HND.out HX.out ha6 hk6⟩
            case measure => simp [intOf]; omega
          · have hlt2' : ¬ (m : Int) < L.length := by omega
            have hnone : ∀ s, at_ T2.paths [s] = none := fun s => by
              have := HS.out.kids s
              rw [List.drop_eq_nil_of_le (by omega)] at this
              cases h : at_ T2.paths [s] with
              | none => rfl
              | some k => rw [h] at this; simp at this
            have hA := HS.out.tree.at_ HS.out.top
            have hbare := HS.out.tree.wf.bare hnone
            have ku := Lib.hid (at_used hA)
            rw [show T2.usedN = 0 from Nt.used_none hbare _ _, show T2.usedB = 0 from Nt.used_none hbare _ _] at ku
            have kl2 := Lib.hid (fun W (hb : Below wr.heap.size wr W) => at_list (hA.later hb) (by omega) ⟨#[]⟩ (by decide))
            rw [ls_root hA.wf] at kl2
            have HN := Lib.hid hnone
            have HLW := Lib.hid hA.low
            clear hnone hA hbare
            go_wp2_with (first
              | (go_at_call 8; refine (hal _).mono ?_; rintro e w9 ⟨rfl, hb9⟩)
              | (go_at_call 15; refine (kl2.out _ hb7).mono ?_; rintro e w8 ⟨v8, L8, rfl, ho8, hki8, _, hb8⟩; obtain rfl := no_kids (hki8 (by trivial)) HN.out; obtain ⟨A8, c8, rfl, _, _, _⟩ := ho8.rt)
              | (go_at_call 10; refine ku.out.mono ?_; rintro e w7 ⟨rfl, hb7⟩))
            go_ret
            exact ⟨rfl, bthen (bthen (bthen HLW.out hb7) hb8) hb9⟩
theorem nodeused_walk (A : Option Addr) (n k : Nat) (l : List Sp) (w : World) (hl : SL w w.heap.size A n l) (hk : n ≤ k) (hm : k ≤ maxLen) (_ok : ∀ y ∈ l, y.ok) :
    Calls Tryd.prog 4 #[.slice A n k] w fun e w' => e = .returned (.bool true) ∧ Below w.heap.size w w' := used_any13 A n k l w hl hk hm
end Go.Proofs.YtbianfjennnofaaDoor
