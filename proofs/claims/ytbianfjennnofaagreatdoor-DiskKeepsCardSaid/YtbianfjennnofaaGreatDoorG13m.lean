/- WALKS OF LAYER 13, THIRTEENTH PART: drop. -/
import Derived.Test.YtbianfjennnofaaGreatDoorG13l
import Derived.Test.YtbianfjennnofaaGreatDoorN13d
import Derived.StillTailTactics
namespace Go.Proofs.YtbianfjennnofaaGreatDoor
set_option linter.unusedVariables false
open Go Go.RowKit Go.Maps
set_option maxRecDepth 100000
set_option maxHeartbeats 1000000
open Nt (Tr Nd WF Ps Path at_ cnt used)
section
variable {F : Nat → Prop} {K tb : Nat} {w w' : World} {T : Tr} {ad mb : Nat → Nat}
/-- A node's names, rising, whatever it is. -/
theorem rising_tree (hW : WF T K) (hK : K ≤ 100000) {q : Path} {n : Nat} (hq : (q, n) ∈ T.paths) {k : Int} (hx : BX w (ad n) 91 (NC (T.nd n) (mbv T mb n) k)) (hm : (T.nd n).kind = 4 → MapAt w (mb n) K (fun s => (at_ T.paths (q ++ [s])).map ad)) :
    Calls Tryz.prog 83 #[.pointer (some ⟨ad n, 0, none⟩)] w fun e w' => ∃ v L, e = .returned v ∧ (L.Pairwise (fun x y => Pp.lt x y = true) ∧ ∀ s, s ∈ L ↔ (at_ T.paths (q ++ [s])).isSome = true) ∧ OS w' w.heap.size v L ∧ Below w.heap.size w w' := by
  by_cases hk : (T.nd n).kind = 4
  · have e : mbv T mb n = some (mb n) := by unfold mbv; rw [if_pos hk]
    rw [e] at hx
    refine (rising_any w (ad n) (mb n) K (T.nd n) k _ hx (hm hk) (by omega)).mono ?_
    rintro e w' ⟨v, L, rfl, ⟨h1, h2⟩, h3, h4⟩
    refine ⟨v, L, rfl, ⟨h1, fun s => ?_⟩, h3, h4⟩
    rw [h2, Option.isSome_map]
    constructor
    · exact fun h => h.2
    · intro h
      refine ⟨?_, h⟩
      obtain ⟨j, hj⟩ := Option.isSome_iff_exists.1 h
      have := Nt.nm_le (hW.up q s j (Nt.at_mem hj)).2.1
      unfold maxLen; omega
  · have e : mbv T mb n = none := by unfold mbv; rw [if_neg hk]
    rw [e] at hx
    refine (rising_nil w (ad n) (T.nd n) k hx).mono ?_
    rintro e w' ⟨v, rfl, h3, h4⟩
    refine ⟨v, [], rfl, ⟨List.Pairwise.nil, fun s => ?_⟩, h3, h4⟩
    constructor
    · intro h; cases h
    · intro h
      obtain ⟨j, hj⟩ := Option.isSome_iff_exists.1 h
      obtain ⟨_, _, m, h5, h6⟩ := hW.up q s j (Nt.at_mem hj)
      rw [Nt.nodup_one hW.nodup hq h5] at hk
      exact absurd h6 hk
/-- The node that stands at a name under q. -/
def kidN (T : Tr) (q : Path) (s : ByteArray) : Nat := (at_ T.paths (q ++ [s])).getD 0
theorem lt_nodup {L : List ByteArray} (h : L.Pairwise (fun x y => Pp.lt x y = true)) : L.Nodup := h.imp fun {a b} hab e => by
  subst e
  rw [Pp.lt_irrefl] at hab
  cases hab
theorem len_sub {α : Type} [DecidableEq α] : ∀ {S l : List α}, S.Nodup → (∀ x ∈ S, x ∈ l) → S.length ≤ l.length
  | [], l, _, _ => Nat.zero_le _
  | x :: S, l, hd, hs => by
    rw [List.nodup_cons] at hd
    have hx := hs x (by simp)
    have := len_sub (S := S) (l := l.erase x) hd.2 fun y hy => (List.mem_erase_of_ne fun e => hd.1 (by rw [← e]; exact hy)).2 (hs y (List.mem_cons_of_mem _ hy))
    rw [List.length_erase_of_mem hx] at this
    have := List.length_pos_of_mem hx
    simp only [List.length_cons]
    omega
theorem ac_len {S : List Path} {R : Ps} (hA : Nt.AC S) (hs : ∀ p ∈ S, ∃ n, (p, n) ∈ R) : S.length ≤ R.length := by
  have h1 : S.Nodup := hA.imp fun {a b} h e => h.1 (by rw [e]; exact List.prefix_refl _)
  have := len_sub h1 (l := R.map (·.1)) fun p hp => by
    obtain ⟨n, hn⟩ := hs p hp
    exact List.mem_map.2 ⟨_, hn, rfl⟩
  rwa [List.length_map] at this
theorem drop_any (hW : WF T K) (hK : K ≤ 100000) {P0 : Path} {n0 : Nat} (h0 : (P0, n0) ∈ T.paths) (hne : P0 ≠ []) (hD : DS w w tb T ad mb T.paths) (hinj : ∀ p q n m, (p, n) ∈ T.paths → (q, m) ∈ T.paths → ad n = ad m → n = m)
    (hmap : ∀ d n, (d, n) ∈ T.paths → (T.nd n).kind = 4 → P0 <+: d → MapAt w (mb n) K (fun s => (at_ T.paths (d ++ [s])).map ad)) :
    Calls Tryz.prog 89 #[.pointer (some ⟨tb, 0, none⟩), .pointer (some ⟨ad n0, 0, none⟩)] w fun e w' => e = .returned (.tuple #[]) ∧ DS w w' tb T ad mb (Nt.cut T.paths P0) := by
  obtain ⟨i0, hi, hz0, hz1, hz2⟩ := info_parts info_node
  have HD0 := Lib.hid hD
  have hDst : Hid (DS w (w.alloc (.cells #[.pointer (some ⟨ad n0, 0, none⟩)] 87)) tb T ad mb (Nt.rem T.paths P0 [P0])) := by
    rw [Nt.rem_start]
    exact hD.low hD (below_new w _)
  have hPR := PR.one (base := w.heap.size) w (ad n0) (Nat.le_refl _)
  have hmany := hW.many
  have HPR := Lib.hid hPR
  clear hPR
  go_enter Tryz.func89, Tryz.ntmps89
  go_wp2
  go_loopg [1, 4] T.paths.length (fun k n v wr => ∃ S : Ps, True ∧ PR wr w.heap.size v (S.map fun x => ad x.2) ∧ Hid (∀ x ∈ S, x ∈ T.paths ∧ P0 <+: x.1) ∧ Hid (Nt.AC (S.map (·.1))) ∧ Hid (DS w wr tb T ad mb (Nt.rem T.paths P0 (S.map (·.1)))) ∧ Hid (k = (Nt.rem T.paths P0 (S.map (·.1))).length))
  case atStart =>
    refine ⟨[(P0, n0)], trivial, HPR.out, ?_, ?_, hDst, ?_⟩
    · intro x hx
      obtain rfl : x = (P0, n0) := by simpa using hx
      exact ⟨h0, List.prefix_refl _⟩
    · exact List.pairwise_singleton _ _
    · show _ = _
      rw [List.map_cons, List.map_nil, Nt.rem_start]
  case round =>
    obtain ⟨S, -, hpr, HS, HA, HD, HG⟩ := hrel
    rcases List.eq_nil_or_concat S with rfl | ⟨S1, ⟨q, n⟩, rfl⟩
    · obtain ⟨A, c, rfl⟩ := hpr.slice
      simp only [List.map_nil, List.length_nil] at hpr HD ⊢
      have HD2 : Hid (DS w wr tb T ad mb (Nt.cut T.paths P0)) := by rw [← Nt.rem_end]; exact HD
      go_wp2
      refine bodyPost_end (v := .tuple #[]) (by simp [results, Tryz.f89, go_sem]) rfl ?_
      exact ⟨rfl, HD2.out⟩
    · rw [List.concat_eq_append] at hpr HS HA HD HG
      obtain ⟨g, c, rfl, hgb, hgl, hlc, hcm⟩ := hpr.shape (by simp)
      obtain ⟨N, hN⟩ : ∃ N, S1.length = N := ⟨_, rfl⟩
      have hlen : ((S1 ++ [(q, n)]).map fun x => ad x.2).length = N + 1 := by simp [hN]
      rw [hlen] at hpr hlc ⊢
      have hcell := hpr.cell (j := N) (b := ad n) (by simp [← hN])
      have hcut := Lib.hid (hpr.cut (k := N) (by omega))
      obtain ⟨hqT, hqu⟩ := HS.out (q, n) (by simp)
      have hq0 : q ≠ [] := fun e => hne (List.prefix_nil.1 (e ▸ hqu))
      have hAC := HA.out
      rw [List.map_append, List.map_cons, List.map_nil] at hAC HD HG
      obtain ⟨R, hRR⟩ : ∃ R, Nt.rem T.paths P0 (S1.map (·.1) ++ [q]) = R := ⟨_, rfl⟩
      have hRd : (R.map (·.1)).Nodup := by rw [← hRR]; exact Nt.rem_nodup hW.nodup _ _
      have hRs : ∀ x ∈ R, x ∈ T.paths := fun x hx => by rw [← hRR] at hx; exact (Nt.mem_rem.1 hx).1
      have hRq : (q, n) ∈ R := by rw [← hRR]; exact Nt.mem_rem.2 ⟨hqT, .inr ⟨q, by simp, List.prefix_refl _⟩⟩
      have hRp := fun (L : List ByteArray) (hL : ∀ s, s ∈ L ↔ (at_ T.paths (q ++ [s])).isSome = true) => Nt.rem_pop hW hqT hqu hAC hL
      rw [hRR] at HD HG hRp
      have htk : (List.map (fun x : Path × Nat => ad x.2) (S1 ++ [(q, n)])).take N = S1.map fun x => ad x.2 := by rw [← hN, List.map_append, List.take_left' (by simp)]
      rw [htk] at hcut
      have HDW := Lib.hid (fun W (hb : Below w.heap.size wr W) => HD.out.low HD0.out hb)
      have kr := Lib.hid (fun W (h : DS w W tb T ad mb R) => rising_tree hW hK hqT (h.node _ _ hqT) (fun hk => h.map HD0.out (hmap _ _ hqT hk hqu)))
      have hHRR := Lib.hid hRR
      have hS1T : ∀ p ∈ S1.map (·.1), ∃ n, (p, n) ∈ T.paths := fun p hp => by
        obtain ⟨x, hx, rfl⟩ := List.mem_map.1 hp
        exact ⟨x.2, (HS.out x (List.mem_append_left _ hx)).1⟩
      have hNb : N ≤ 100000 := by
        have := ac_len hAC (R := T.paths) fun p hp => by
          rcases List.mem_append.1 hp with h | h
          · exact hS1T p h
          · obtain rfl : p = q := by simpa using h
            exact ⟨n, hqT⟩
        simp at this
        omega
      have HS1T := Lib.hid hS1T
      clear hS1T
      have HN := Lib.hid hN
      have HC1 := Lib.hid hAC
      have HRs := Lib.hid hRs
      have HRp := Lib.hid hRp
      have HRd := Lib.hid hRd
      have hlow := Lib.hid HD.out.keep.size
      clear htk hpr hlen hRR hAC HA hRs hRp hRd HPR hDst hN
      go_wp2
      go_quiet (fail)
      go_wp2_with (go_at_call 83; refine (kr.out _ (HDW.out _ (below_drewN (Below.refl _ wr) nq |>.mono hlow.out))).mono ?_; rintro e w1 ⟨vn, L, rfl, ⟨hL1, hL2⟩, ho, hb1⟩; obtain ⟨An, cn, rfl, _, hlcn, hcmn⟩ := ho.rt)
      have ho1 : OS w1 w.heap.size (.slice An L.length cn) L := row_more ho hlow.out
      have hb2 : Below w.heap.size wr w1 := (below_drewN (Below.refl _ wr) nq).trans (hb1.mono hlow.out)
      have hp1 : PR w1 w.heap.size (.slice (some ⟨g, 0, none⟩) N c) (S1.map fun x => ad x.2) := hcut.out.later ((below_drewN (Below.refl _ wr) nq).trans hb1)
      have HAC2 := Lib.hid (HC1.out.pop (lt_nodup hL1))
      have hkid := Lib.hid (fun s (hs : s ∈ L) => show at_ T.paths (q ++ [s]) = some (kidN T q s) from by
        obtain ⟨j, hj⟩ := Option.isSome_iff_exists.1 ((hL2 s).1 hs)
        unfold kidN
        rw [hj]
        rfl)
      have hNL : N + L.length ≤ 100000 := by
        have := ac_len HAC2.out (R := T.paths) fun p hp => by
          rcases List.mem_append.1 hp with h | h
          · exact HS1T.out p h
          · obtain ⟨s, hs, rfl⟩ := List.mem_map.1 h
            exact ⟨_, Nt.at_mem (hkid.out s hs)⟩
        have := HN.out
        simp at *
        omega
      have HL2 := Lib.hid hL2
      have HL1 := Lib.hid hL1
      have HP1 := Lib.hid hp1
      have HO1 := Lib.hid ho1
      have hN2 := HN.out
      clear hL1 hL2 ho hp1 ho1 hb1 hcell
      go_loopw [4, 26] (fun v i W => ∃ k : Nat, k ≤ L.length ∧ i = .int .i64 k ∧ PR W w.heap.size v ((S1.map fun x => ad x.2) ++ (L.take k).map fun s => ad (kidN T q s)) ∧ Hid (OS W w.heap.size (.slice An L.length cn) L) ∧ Below w.heap.size wr W) (fun _ i _ => L.length - (intOf i).toNat)
      case atStart => exact ⟨0, Nat.zero_le _, rfl, by simpa using HP1.out, HO1.out, hb2⟩
      case round =>
        obtain ⟨k, hk, rfl, hpk, hok, hbk⟩ := hrel
        obtain ⟨Av, cv, rfl⟩ := hpk.slice
        have hlk : ((S1.map fun x => ad x.2) ++ (L.take k).map fun s => ad (kidN T q s)).length = N + k := by simp [hN2]; omega
        rw [hlk] at hpk ⊢
        by_cases hlt : k < L.length
        · have hlt' : (k : Int) < L.length := by omega
          obtain ⟨b, x, rfl, hx, hcx⟩ := hok.out.rt13.at_ hlt
          have hxL := List.mem_of_getElem? hx
          have hj := hkid.out x hxL
          have hnm := (hW.up _ _ _ (Nt.at_mem hj)).2.1
          have hkd : (T.nd n).kind = 4 := by
            obtain ⟨_, _, m, h5, h6⟩ := hW.up _ _ _ (Nt.at_mem hj)
            rw [Nt.nodup_one hW.nodup hqT h5]
            exact h6
          have hds := HDW.out wr hbk
          have d7 : wr.cell? ⟨ad n, 7, none⟩ = some (.map (some (mb n))) := by
            have := (hds.node _ _ hqT).cell (j := 7) (v := .map (mbv T mb n)) rfl
            rw [this]
            unfold mbv
            rw [if_pos hkd]
          have hlook := (hds.map HD0.out (hmap _ _ hqT hkd hqu)).look (s := x) (by have := Nt.nm_le hnm; unfold maxLen; omega)
          rw [hj] at hlook
          obtain ⟨J, hJ⟩ : ∃ J, kidN T q x = J := ⟨_, rfl⟩
          rw [hJ] at hlook
          replace hlook : (Instr.lookup 89 (.map (some (mb n))) (.string x) false).run Tryz.prog wr = .ok (.pointer (some ⟨ad J, 0, none⟩)) wr := hlook
          have hpk' := Lib.hid hpk
          have hsz := Nat.le_trans hlow.out hbk.size
          have htake : Hid ((L.take (k + 1)).map (fun s => ad (kidN T q s)) = (L.take k).map (fun s => ad (kidN T q s)) ++ [ad J]) := by
            show _ = _
            rw [List.take_add_one, hx, List.map_append, ← hJ]
            rfl
          have hown0 : Hid (wr.ownsRow w.heap.size 87 1 (.slice Av (N + k) cv) (N + k) (((S1.map fun x => ad x.2) ++ (L.take k).map fun s => ad (kidN T q s)).map fun b => Value.pointer (some ⟨b, 0, none⟩))) := by
            have := hpk
            unfold PR at this
            rw [hlk] at this
            exact this
          clear hx hj hnm hkd hds hJ hlk hpk hxL
          go_wp2_with (at_builtin; refine wpList_append_own _ rfl _ _ 168 rfl w.heap.size 87 i0 (.pointer none) 1 8 Tryz.underlying168 hi hz0 hz1 hz2 rfl (by decide) _ _ _ rfl (hown0.out.alloc _) ⟨wr.heap.size, 0, none⟩ 1 1 [.pointer (some ⟨ad J, 0, none⟩)] rfl rfl (cell_one_new _ _ _) (ptr_cells _) (by unfold maxLen; omega) (by omega) (by simp; omega) ?_; intro v2 w3 hown2 hgrow2 _)
          go_roundw
          case rel =>
            refine ⟨k + 1, by omega, by go_num, ?_, ?_, below_grow13 hbk hsz hown0.out hgrow2⟩
            · rw [htake.out, ← List.append_assoc]
              exact PR.snoc (by simpa using hown2)
            · exact own_other13 (World.ownsRow.alloc hok.out _) (World.ownsRow.alloc hown0.out _) (by decide) hgrow2
          case measure => simp [intOf]; omega
        · have e : k = L.length := by omega
          subst e
          rw [List.take_length] at hpk
          have hds := HDW.out wr hbk
          have hR' := HRp.out L HL2.out
          have hS' : (S1 ++ L.map fun s => (q ++ [s], kidN T q s)).map (·.1) = S1.map (·.1) ++ L.map fun s => q ++ [s] := by
            rw [List.map_append, List.map_map]; rfl
          have hS2 : (S1 ++ L.map fun s => (q ++ [s], kidN T q s)).map (fun x => ad x.2) = (S1.map fun x => ad x.2) ++ L.map fun s => ad (kidN T q s) := by
            rw [List.map_append, List.map_map]; rfl
          have hmem : ∀ x ∈ S1 ++ L.map (fun s => (q ++ [s], kidN T q s)), x ∈ T.paths ∧ P0 <+: x.1 := fun x hx => by
            rcases List.mem_append.1 hx with h | h
            · exact HS.out x (List.mem_append_left _ h)
            · obtain ⟨s, hs, rfl⟩ := List.mem_map.1 h
              exact ⟨Nt.at_mem (hkid.out s hs), hqu.trans (List.prefix_append _ _)⟩
          have hlen2 := Nt.len_drop HRd.out hRq
          have hnd := hds.node _ _ hqT
          have hn0 : n ≠ 0 := fun e => hq0 (hW.zero (e ▸ hqT))
          have hnl := hW.lt _ _ hqT
          have hnlow := (HD0.out.node _ _ hqT).lt
          have htlow := HD0.out.tree.lt
          have hnt : ad n ≠ tb := bx_ne hnd hds.tree (by decide)
          have hcl := Nt.cnt_le R n
          have hRl : R.length ≤ K := Nat.le_trans (by rw [← hHRR.out]; exact List.length_filter_le _ _) hmany
          have HPK := Lib.hid hpk
          have HREL := Lib.hid (fun (W : World) (hpW : PR W w.heap.size (.slice Av (N + L.length) cv) ((S1.map fun x => ad x.2) ++ L.map fun s => ad (kidN T q s))) (hdW : DS w W tb T ad mb (R.filter (fun x => decide (x.1 ≠ q)))) =>
            show ∃ S : Ps, True ∧ PR W w.heap.size (.slice Av (N + L.length) cv) (S.map fun x => ad x.2) ∧ Hid (∀ x ∈ S, x ∈ T.paths ∧ P0 <+: x.1) ∧ Hid (Nt.AC (S.map (·.1))) ∧ Hid (DS w W tb T ad mb (Nt.rem T.paths P0 (S.map (·.1)))) ∧ Hid ((R.filter (fun x => decide (x.1 ≠ q))).length = (Nt.rem T.paths P0 (S.map (·.1))).length) from
              ⟨S1 ++ L.map fun s => (q ++ [s], kidN T q s), trivial, by rw [hS2]; exact hpW, hmem, by rw [hS']; exact HAC2.out, by rw [hS', hR']; exact hdW, by show _ = _; rw [hS', hR']⟩)
          obtain ⟨C, hC⟩ : ∃ C, cnt R n = C + 1 := ⟨cnt R n - 1, by have := Nt.cnt_pos.2 ⟨_, hRq⟩; omega⟩
          clear hpk hS' hS2 hmem hR'
          rcases C with _ | C
          · have e1 := Nt.used_drop HRd.out (fun _ => 1) T.nodes hRq hnl hn0
            have e2 := Nt.used_drop HRd.out (fun x => x.xs.length) T.nodes hRq hnl hn0
            rw [if_pos hC] at e1 e2
            have e3 : T.nodes.getD n Nd.zero = T.nd n := rfl
            rw [e3] at e2
            have b1 : used R (fun _ => 1) T.nodes ≤ K := Nat.le_trans (Nt.used_le _ _ 1 fun _ _ => Nat.le_refl _) (by have := hW.few; omega)
            have b2 : used R (fun x => x.xs.length) T.nodes ≤ K * 4096 := Nat.le_trans (Nt.used_le _ _ 4096 fun x hx => by have := hW.kinds x hx; unfold Nd.ok at this; omega) (Nat.mul_le_mul_right _ hW.few)
            obtain ⟨u, hu⟩ : ∃ u, used (R.filter (fun x => decide (x.1 ≠ q))) (fun _ => 1) T.nodes = u := ⟨_, rfl⟩
            obtain ⟨v, hv⟩ : ∃ v, used (R.filter (fun x => decide (x.1 ≠ q))) (fun x => x.xs.length) T.nodes = v := ⟨_, rfl⟩
            rw [hu] at e1
            rw [hv] at e2
            have HP := Lib.hid (fun j => hds.popB hW hinj HRd.out HRs.out hRq hq0 hC e1 e2 j)
            obtain ⟨D, hD⟩ : ∃ D, strOfNums (T.nd n).xs = D := ⟨_, rfl⟩
            have hDs := son_size (T.nd n).xs
            rw [hD] at hDs
            obtain ⟨U, hU⟩ : ∃ U : Int, ((u + 1 : Nat) : Int) = U := ⟨_, rfl⟩
            obtain ⟨U', hU'⟩ : ∃ U' : Int, (u : Int) = U' := ⟨_, rfl⟩
            obtain ⟨V, hV⟩ : ∃ V : Int, ((v + (T.nd n).xs.length : Nat) : Int) = V := ⟨_, rfl⟩
            obtain ⟨V', hV'⟩ : ∃ V' : Int, (v : Int) = V' := ⟨_, rfl⟩
            have w1 : IntKind.i64.wrap (U - 1) = U' := by rw [wrap_small (by omega) (by omega)]; omega
            have w2 : IntKind.i64.wrap (V - (D.size : Int)) = V' := by rw [wrap_small (by omega) (by omega)]; omega
            have c8 : wr.cell? ⟨ad n, 8, none⟩ = some (.int .i64 1) := by have := hnd.cell (j := 8) (v := .int .i64 (cnt R n : Nat)) rfl; rw [this, hC]; rfl
            have f8 := hnd.free 8
            have hnd1 := Lib.hid (hnd.set 8 (.int .i64 0))
            have htr1 := Lib.hid (hds.tree.other (b := ad n) (j := 8) hnt.symm (.int .i64 0))
            have t3 : (wr.setCell ⟨ad n, 8, none⟩ (.int .i64 0)).cell? ⟨tb, 3, none⟩ = some (.int .i64 U) := by rw [← hU, ← e1]; exact htr1.out.cell rfl
            have g3 := htr1.out.free 3
            have t4 : ((wr.setCell ⟨ad n, 8, none⟩ (.int .i64 0)).setCell ⟨tb, 3, none⟩ (.int .i64 U')).cell? ⟨tb, 4, none⟩ = some (.int .i64 V) := by rw [← hV, ← e2]; exact (htr1.out.set 3 (.int .i64 U')).cell rfl
            have g4 := (htr1.out.set 3 (.int .i64 U')).free 4
            have n6 : ((wr.setCell ⟨ad n, 8, none⟩ (.int .i64 0)).setCell ⟨tb, 3, none⟩ (.int .i64 U')).cell? ⟨ad n, 6, none⟩ = some (.string D) := by rw [← hD]; exact (hnd1.out.other (b := tb) (j := 3) hnt (.int .i64 U')).cell rfl
            rw [hU', hV'] at HP
            have HPK2 := Lib.hid (fun j => (((HPK.out.setCell (a := ⟨ad n, 8, none⟩) hnlow (.int .i64 0)).setCell (a := ⟨tb, 3, none⟩) htlow (.int .i64 U')).later (below_drewN (Below.refl _ _) j)).setCell (a := ⟨tb, 4, none⟩) htlow (.int .i64 V'))
            have HGK := Lib.hid (show (R.filter (fun x => decide (x.1 ≠ q))).length < gk from by rw [HG.out, hlen2]; omega)
            clear hds hnd e1 e2 hU hU' hV hV' hDs hu hv hC hlen2 hD b1 b2 hnl hn0
            go_wp2
            have HPW := Lib.hid (show DS w ((((wr.setCell ⟨ad n, 8, none⟩ (.int .i64 0)).setCell ⟨tb, 3, none⟩ (.int .i64 U')).drew).setCell ⟨tb, 4, none⟩ (.int .i64 V')) tb T ad mb (R.filter (fun x => decide (x.1 ≠ q))) from HP.out 1)
            have HPKW := Lib.hid (show PR ((((wr.setCell ⟨ad n, 8, none⟩ (.int .i64 0)).setCell ⟨tb, 3, none⟩ (.int .i64 U')).drew).setCell ⟨tb, 4, none⟩ (.int .i64 V')) w.heap.size (.slice Av (N + L.length) cv) ((S1.map fun x => ad x.2) ++ L.map fun s => ad (kidN T q s)) from HPK2.out 1)
            clear HP HPK2 c8 f8 t3 g3 hnd1 htr1
            generalize (wr.setCell ⟨ad n, 8, none⟩ (.int .i64 0)).setCell ⟨tb, 3, none⟩ (.int .i64 U') = W2 at *
            go_still_tail 14, (by kernel_rfl)
            change wpList _ _ _ _ _ W2.drew
            have g4' : W2.drew.frozen? ⟨tb, 4, none⟩ = false := g4
            go_wp2
            go_roundg ((R.filter (fun x => decide (x.1 ≠ q))).length)
            case measure => exact HGK.out
            case rel => exact HREL.out _ HPKW.out HPW.out
          · obtain ⟨M, hM⟩ : ∃ M : Int, ((C + 1 + 1 : Nat) : Int) = M := ⟨_, rfl⟩
            obtain ⟨M', hM'⟩ : ∃ M' : Int, ((C + 1 : Nat) : Int) = M' := ⟨_, rfl⟩
            have w1 : IntKind.i64.wrap (M - 1) = M' := by rw [wrap_small (by omega) (by omega)]; omega
            have c8 : wr.cell? ⟨ad n, 8, none⟩ = some (.int .i64 M) := by have := hnd.cell (j := 8) (v := .int .i64 (cnt R n : Nat)) rfl; rw [this, hC, hM]
            have f8 := hnd.free 8
            have gz : (M' == 0) = false := by simp; omega
            have HP := Lib.hid (hds.popA hW hinj HRd.out HRs.out hRq hq0 (c := C) hC)
            rw [hM'] at HP
            have HPK2 := Lib.hid (HPK.out.setCell (a := ⟨ad n, 8, none⟩) hnlow (.int .i64 M'))
            have HGK := Lib.hid (show (R.filter (fun x => decide (x.1 ≠ q))).length < gk from by rw [HG.out, hlen2]; omega)
            clear hds hnd hM hM' hC hlen2 hnl hn0
            go_wp2
            go_roundg ((R.filter (fun x => decide (x.1 ≠ q))).length)
            case measure => exact HGK.out
            case rel => exact HREL.out _ HPK2.out HP.out
end
end Go.Proofs.YtbianfjennnofaaGreatDoor
