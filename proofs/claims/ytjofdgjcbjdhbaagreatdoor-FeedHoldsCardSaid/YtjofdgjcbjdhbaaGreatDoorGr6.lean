/- WALKS OF LAYER 6, SIXTH PART: lists of records in memory; recs.Lay, Find and the reference's. -/
import Derived.Test.YtjofdgjcbjdhbaaGreatDoorR6e
import Derived.Laws.StructEq
namespace Go.Proofs.YtjofdgjcbjdhbaaGreatDoor
open Go Go.RowKit
set_option linter.unusedVariables false
set_option maxHeartbeats 1000000
/-- THE SLICE VALUE '.slice A n c' READS AS THE RECORDS l, all in blocks below B. -/
def RL (w : World) (B : Nat) (A : Option Addr) (n : Nat) (l : List Rc.Rec) : Prop :=
  l.length = n ∧ (0 < n → ∃ b o, A = some ⟨b, o, none⟩ ∧ b < B ∧ ∀ j r, l[j]? = some r → w.cell? ⟨b, o + j * 2, none⟩ = some (.string r.1) ∧ w.cell? ⟨b, o + j * 2 + 1, none⟩ = some (.string r.2))
theorem RL.nil {w : World} {B : Nat} {A : Option Addr} : RL w B A 0 [] := ⟨rfl, fun h => absurd h (by omega)⟩
theorem RL.below {w w' : World} {B n : Nat} {A : Option Addr} {l : List Rc.Rec} (h : RL w B A n l) (hb : Below B w w') : RL w' B A n l :=
  ⟨h.1, fun hn => by
    obtain ⟨b, o, e, hlt, hc⟩ := h.2 hn
    exact ⟨b, o, e, hlt, fun j r hj => ⟨(hb.cell (p := ⟨b, o + j * 2, none⟩) hlt).trans (hc j r hj).1, (hb.cell (p := ⟨b, o + j * 2 + 1, none⟩) hlt).trans (hc j r hj).2⟩⟩⟩
theorem RL.more {w : World} {B B' n : Nat} {A : Option Addr} {l : List Rc.Rec} (h : RL w B A n l) (hB : B ≤ B') : RL w B' A n l :=
  ⟨h.1, fun hn => by
    obtain ⟨b, o, e, hlt, hc⟩ := h.2 hn
    exact ⟨b, o, e, by omega, hc⟩⟩
theorem RL.at_ {w : World} {B n : Nat} {A : Option Addr} {l : List Rc.Rec} (h : RL w B A n l) {j : Nat} (hj : j < n) :
    ∃ b o k v, A = some ⟨b, o, none⟩ ∧ b < B ∧ l[j]? = some (k, v) ∧ w.cell? ⟨b, o + j * 2, none⟩ = some (.string k) ∧ w.cell? ⟨b, o + j * 2 + 1, none⟩ = some (.string v) := by
  obtain ⟨b, o, e, hlt, hc⟩ := h.2 (by omega)
  have hx : l[j]? = some (l[j]'(by have := h.1; omega)) := List.getElem?_eq_getElem _
  exact ⟨b, o, _, _, e, hlt, hx, (hc j _ hx).1, (hc j _ hx).2⟩
theorem owns_below {w w' : World} {B size n : Nat} {e : TypeId} {v : Value} {xs : List Value} (h : w.ownsRow B e size v n xs) (hb : Below w.heap.size w w') : w'.ownsRow B e size v n xs := by
  refine ⟨h.1, ?_⟩
  have hh := h
  rcases h.2 with hl | ⟨g, cap, cur, rfl, hbg, hg, h1, h2, h3, h4⟩
  · exact .inl hl
  · exact .inr ⟨g, cap, cur, rfl, hbg, (hb.block g (World.ownsRow.lt hh g rfl).2).trans hg, h1, h2, h3, h4⟩
theorem owns_slice {w : World} {B size n : Nat} {e : TypeId} {v : Value} {xs : List Value} (h : w.ownsRow B e size v n xs) : ∃ A c, v = .slice A n c ∧ n ≤ c ∧ c ≤ maxLen := by
  rcases h.2 with ⟨rfl, h0⟩ | ⟨g, cap, cur, rfl, hbg, hg, h1, h2, h3, h4⟩
  · exact ⟨none, 0, by rw [h0], by omega, Nat.zero_le _⟩
  · exact ⟨_, cap, rfl, h1, h2⟩
/-- Bytes owned, read. -/
theorem owns_rv {w : World} {B n : Nat} {e : TypeId} {v : Value} {l : Rc.Bs} (h : w.ownsRow B e 1 v n ((Rc.ints l).map (Value.int .u8))) (hn : n = l.length) : RV w v l := by
  have ho : OB w B e v (Rc.ints l) := by unfold OB; rw [Rc.ints_len, ← hn]; exact h
  obtain ⟨A, c, e1, e2, e3, e4⟩ := ho.rb
  rw [Rc.ints_len] at e1 e2 e3
  exact ⟨A, c, e1, e2, e3, e4⟩
theorem below_app6 {w w1 w2 : World} {B size n : Nat} {e : TypeId} {v : Value} {xs : List Value} (hb : Below B w w1) (hB : B ≤ w.heap.size) (ho : w1.ownsRow B e size v n xs) (hg : w1.grownBy w2 v.ownBlock) : Below B w w2 :=
  hb.grown hg (by have := hb.size; omega) fun k hk => (World.ownsRow.lt ho k hk).1
theorem u8_cells6 (xs : List Int) : ∀ u ∈ xs.map (Value.int .u8), u.oneCell' = true := by
  intro u hu
  obtain ⟨x, _, rfl⟩ := List.mem_map.1 hu
  rfl
/-- What an append of these bytes reads. -/
theorem rb_news6 {w : World} {B n b o : Nat} {xs : List Int} (h : RB w B (some ⟨b, o, none⟩) n xs) : ∀ j u, (xs.map (Value.int .u8))[j]? = some u → w.cell? ((⟨b, o, none⟩ : Addr).add j) = some u := by
  intro j u hj
  have hjl : j < xs.length := by have := (List.getElem?_eq_some_iff.1 hj).1; simpa using this
  rw [Lib.add_plain, h.at_' (k := j) (by rw [← h.1]; exact hjl), ← hj]
  simp [List.getD, hjl]
set_option maxRecDepth 100000 in
theorem lay6_any (A : Option Addr) (n c : Nat) (l : List Rc.Rec) (w : World) (tb : Tab w) (hl : RL w w.heap.size A n l) (hn : n ≤ 10000) (hs : ∀ r ∈ l, r.1.size ≤ 10000 ∧ r.2.size ≤ 10000) :
    Calls Tryz.prog 83 #[.slice A n c] w fun e w' => ∃ u, e = .returned (.tuple #[u, .int .i64 (Rc.layE l : Nat)]) ∧ RV w' u (Rc.layB l) ∧ Below w.heap.size w w' := by
  obtain ⟨i0, hi, hz0, hz1, hz2⟩ := info_parts info_u8
  have hll := hl.1
  have HS := Lib.hid hs; clear hs
  go_enter Tryz.func83, Tryz.ntmps83
  go_wp2
  go_loopw [4, 11] (fun u i wr => ∃ j : Nat, j ≤ n ∧ i = .int .i64 j ∧ Hid (Rc.layE (l.take j) = 0) ∧ Hid (wr.ownsRow w.heap.size 5 1 u (Rc.flat (l.take j)).length ((Rc.ints (Rc.flat (l.take j))).map (Value.int .u8))) ∧ Below w.heap.size w wr) (fun _ i _ => n - (intOf i).toNat)
  case atStart => exact ⟨0, by omega, rfl, rfl, World.ownsRow_nil _ _ _ _, Below.refl _ _⟩
  case round =>
    obtain ⟨j, hj, rfl, HE, HO, hb⟩ := hrel
    have hfl := Rc.flat_len (l.take j)
    have hfl2 : (l.take j).length ≤ 10000 := by rw [List.length_take]; omega
    by_cases hlt : j < n
    · have hlt' : (j : Int) < n := by omega
      obtain ⟨b, o, k, v, rfl, hbl, hjl, q0, q1⟩ := (hl.below hb).at_ hlt
      obtain ⟨hk, hv⟩ := HS.out (k, v) (List.mem_of_getElem? hjl)
      have hbox : Below w.heap.size w (wr.alloc (.cells #[.string k, .string v] 128)) := hb.alloc hb.size _
      have ON := Lib.hid (one6_any k v _ (tb.on hbox) hk hv)
      have hlen := Rc.one_len (k, v)
      have hb5 := Rc.lenR_bounds (k, v)
      have HJL := Lib.hid hjl; clear hjl
      by_cases hm : Rc.mayN (k, v) = 0
      · have h5 := hb5.2 hm
        rw [hm] at ON
        have HE2 := Lib.hid (Rc.layE_succ HE.out HJL.out hm)
        have HF := Lib.hid (Rc.flat_succ HJL.out)
        have hm5 : 5 ≤ (Rc.oneL (k, v)).length ∧ (Rc.oneL (k, v)).length ≤ 2067 := by omega
        clear hm hb5 hlen h5
        generalize Rc.oneL (k, v) = one at *
        generalize Rc.flat (l.take j) = fl at *
        generalize hon : one.length = m at *
        generalize hfn : fl.length = N at *
        have HON := Lib.hid hon; have HFN := Lib.hid hfn; clear hon hfn
        obtain ⟨Au, cu, rfl, hcu⟩ := owns_slice HO.out
        go_wp2_with (first
          | (go_at_call 118; (with_reducible refine (ON.out).mono ?_); rintro e w2 ⟨u1, rfl, ⟨A1, c1, rfl, hrb, hc1, hc2⟩, hb2⟩; obtain ⟨b1, o1, rfl, _, _⟩ := hrb.2 (by have := HON.out; omega); rw [HON.out] at hrb hc1 ⊢; have HB2 := Lib.hid (hbox.trans (hb2.mono (by have := hb.size; simp; omega))); have HO2 := Lib.hid (owns_below (owns_below HO.out (Below.alloc (Below.refl _ _) (Nat.le_refl _) _)) hb2); have NEWS := Lib.hid (rb_news6 hrb))
          | (at_builtin; refine wpList_append_own _ rfl _ _ 25 rfl w.heap.size 5 i0 (.int .u8 0) 1 1 Tryz.underlying25 hi hz0 hz1 hz2 rfl (by decide) (.slice Au N cu) N ((Rc.ints fl).map (Value.int .u8)) rfl HO2.out ⟨b1, o1, none⟩ m c1 ((Rc.ints one).map (Value.int .u8)) rfl (by rw [List.length_map, Rc.ints_len, HON.out]; omega) NEWS.out (u8_cells6 _) (by unfold maxLen; omega) (by omega) (by have := HB2.out.size; omega) ?_; intro v3 w3 hown3 hgrow3 hnil3; have HO3 := Lib.hid hown3; have HB3 := Lib.hid (below_app6 HB2.out (Nat.le_refl _) HO2.out hgrow3); clear hown3 hgrow3 hnil3))
        go_roundw
        case rel =>
          refine ⟨j + 1, by omega, by go_num, HE2.out, ?_, HB3.out⟩
          show World.ownsRow _ _ _ _ _ _ _
          rw [HF.out, List.length_append, HFN.out, HON.out, Rc.ints_append, List.map_append]
          exact HO3.out
        case measure => simp [intOf]; omega
      · have hmi : ((Rc.mayN (k, v) : Int) != 0) = true := by simp; omega
        have HL := Lib.hid (Rc.layE_stop HE.out HJL.out hm)
        have HB := Lib.hid (show Rc.layB l = [] by unfold Rc.layB; rw [if_neg (by rw [HL.out]; exact hm)])
        clear hm hb5 hlen
        generalize Rc.mayN (k, v) = m at *
        go_wp2_with (go_at_call 118; (with_reducible refine (ON.out).mono ?_); rintro e w2 ⟨u1, rfl, hrv, hb2⟩; have HB2 := Lib.hid (hbox.trans (hb2.mono (by have := hb.size; simp; omega))))
        go_ret2
        rw [HL.out, HB.out]
        exact ⟨_, rfl, RV.nil _, HB2.out⟩
    · have hjn : j = n := by omega
      have htk : l.take j = l := List.take_of_length_le (by omega)
      have HL := Lib.hid (show Rc.layE l = 0 by have := HE.out; rwa [htk] at this)
      have HR := Lib.hid (owns_rv HO.out rfl)
      have HB := Lib.hid (show Rc.layB l = Rc.flat (l.take j) by unfold Rc.layB; rw [if_pos HL.out, htk])
      have hlt' : ¬ (j : Int) < n := by omega
      go_wp2
      go_ret2
      rw [HL.out, HB.out]
      exact ⟨_, rfl, HR.out, hb⟩
set_option maxRecDepth 100000 in
theorem reflay6_any (A : Option Addr) (n c : Nat) (l : List Rc.Rec) (w : World) (hl : RL w w.heap.size A n l) (hn : n ≤ 10000) (hs : ∀ r ∈ l, r.1.size ≤ 10000 ∧ r.2.size ≤ 10000) :
    Calls Tryz.prog 44 #[.slice A n c] w fun e w' => ∃ u, e = .returned (.tuple #[u, .int .i64 (Rc.layE l : Nat)]) ∧ RV w' u (Rc.layB l) ∧ Below w.heap.size w w' := by
  obtain ⟨i0, hi, hz0, hz1, hz2⟩ := info_parts info_u8
  have hll := hl.1
  have HS := Lib.hid hs; clear hs
  go_enter Tryz.func44, Tryz.ntmps44
  go_wp2
  go_loopw [4, 5] (fun u i wr => ∃ j : Nat, j ≤ n ∧ i = .int .i64 j ∧ Hid (Rc.layE (l.take j) = 0) ∧ Hid (wr.ownsRow w.heap.size 5 1 u (Rc.flat (l.take j)).length ((Rc.ints (Rc.flat (l.take j))).map (Value.int .u8))) ∧ Below w.heap.size w wr) (fun _ i _ => n - (intOf i).toNat)
  case atStart => exact ⟨0, by omega, rfl, rfl, World.ownsRow_nil _ _ _ _, Below.refl _ _⟩
  case round =>
    obtain ⟨j, hj, rfl, HE, HO, hb⟩ := hrel
    have hfl := Rc.flat_len (l.take j)
    have hfl2 : (l.take j).length ≤ 10000 := by rw [List.length_take]; omega
    by_cases hlt : j < n
    · have hlt' : (j : Int) < n := by omega
      obtain ⟨b, o, k, v, rfl, hbl, hjl, q0, q1⟩ := (hl.below hb).at_ hlt
      obtain ⟨hk, hv⟩ := HS.out (k, v) (List.mem_of_getElem? hjl)
      have ON := Lib.hid (refone6_any k v wr hk hv)
      have hlen := Rc.one_len (k, v)
      have hb5 := Rc.lenR_bounds (k, v)
      have HJL := Lib.hid hjl; clear hjl
      by_cases hm : Rc.mayN (k, v) = 0
      · have h5 := hb5.2 hm
        rw [hm] at ON
        have HE2 := Lib.hid (Rc.layE_succ HE.out HJL.out hm)
        have HF := Lib.hid (Rc.flat_succ HJL.out)
        have hm5 : 5 ≤ (Rc.oneL (k, v)).length ∧ (Rc.oneL (k, v)).length ≤ 2067 := by omega
        clear hm hb5 hlen h5
        generalize Rc.oneL (k, v) = one at *
        generalize Rc.flat (l.take j) = fl at *
        generalize hon : one.length = m at *
        generalize hfn : fl.length = N at *
        have HON := Lib.hid hon; have HFN := Lib.hid hfn; clear hon hfn
        obtain ⟨Au, cu, rfl, hcu⟩ := owns_slice HO.out
        go_wp2_with (first
          | (go_at_call 67; (with_reducible refine (ON.out).mono ?_); rintro e w2 ⟨u1, rfl, ⟨A1, c1, rfl, hrb, hc1, hc2⟩, hb2⟩; obtain ⟨b1, o1, rfl, _, _⟩ := hrb.2 (by have := HON.out; omega); rw [HON.out] at hrb hc1 ⊢; have HB2 := Lib.hid (hb.trans (hb2.mono hb.size)); have HO2 := Lib.hid (owns_below HO.out hb2); have NEWS := Lib.hid (rb_news6 hrb))
          | (at_builtin; refine wpList_append_own _ rfl _ _ 25 rfl w.heap.size 5 i0 (.int .u8 0) 1 1 Tryz.underlying25 hi hz0 hz1 hz2 rfl (by decide) (.slice Au N cu) N ((Rc.ints fl).map (Value.int .u8)) rfl HO2.out ⟨b1, o1, none⟩ m c1 ((Rc.ints one).map (Value.int .u8)) rfl (by rw [List.length_map, Rc.ints_len, HON.out]; omega) NEWS.out (u8_cells6 _) (by unfold maxLen; omega) (by omega) (by have := HB2.out.size; omega) ?_; intro v3 w3 hown3 hgrow3 hnil3; have HO3 := Lib.hid hown3; have HB3 := Lib.hid (below_app6 HB2.out (Nat.le_refl _) HO2.out hgrow3); clear hown3 hgrow3 hnil3))
        go_roundw
        case rel =>
          refine ⟨j + 1, by omega, by go_num, HE2.out, ?_, HB3.out⟩
          show World.ownsRow _ _ _ _ _ _ _
          rw [HF.out, List.length_append, HFN.out, HON.out, Rc.ints_append, List.map_append]
          exact HO3.out
        case measure => simp [intOf]; omega
      · have hmi : ((Rc.mayN (k, v) : Int) != 0) = true := by simp; omega
        have HL := Lib.hid (Rc.layE_stop HE.out HJL.out hm)
        have HB := Lib.hid (show Rc.layB l = [] by unfold Rc.layB; rw [if_neg (by rw [HL.out]; exact hm)])
        clear hm hb5 hlen
        generalize Rc.mayN (k, v) = m at *
        go_wp2_with (go_at_call 67; (with_reducible refine (ON.out).mono ?_); rintro e w2 ⟨u1, rfl, hrv, hb2⟩; have HB2 := Lib.hid (hb.trans (hb2.mono hb.size)))
        go_ret2
        rw [HL.out, HB.out]
        exact ⟨_, rfl, RV.nil _, HB2.out⟩
    · have hjn : j = n := by omega
      have htk : l.take j = l := List.take_of_length_le (by omega)
      have HL := Lib.hid (show Rc.layE l = 0 by have := HE.out; rwa [htk] at this)
      have HR := Lib.hid (owns_rv HO.out rfl)
      have HB := Lib.hid (show Rc.layB l = Rc.flat (l.take j) by unfold Rc.layB; rw [if_pos HL.out, htk])
      have hlt' : ¬ (j : Int) < n := by omega
      go_wp2
      go_ret2
      rw [HL.out, HB.out]
      exact ⟨_, rfl, HR.out, hb⟩
theorem findR_step {key : ByteArray} {l : List Rc.Rec} {j : Nat} {r : Rc.Rec} (h : Rc.findR key (l.drop (j + 1)) = none) (hj : l[j]? = some r) : Rc.findR key (l.drop j) = if r.1 = key then some r.2 else none := by
  obtain ⟨hl, rfl⟩ := List.getElem?_eq_some_iff.1 hj
  rw [List.drop_eq_getElem_cons hl]
  show (match Rc.findR key (l.drop (j + 1)) with | some v => some v | none => if l[j].1 = key then some l[j].2 else none) = _
  rw [h]
theorem findR_some {key v : ByteArray} : ∀ {l : List Rc.Rec} {j : Nat}, Rc.findR key (l.drop j) = some v → Rc.findR key l = some v
  | [], j, h => by simp [Rc.findR] at h
  | r :: t, 0, h => h
  | r :: t, j + 1, h => by
    have := findR_some (l := t) (j := j) h
    show (match Rc.findR key t with | some v => some v | none => if r.1 = key then some r.2 else none) = _
    rw [this]
def findV (key : ByteArray) (l : List Rc.Rec) : Value := match Rc.findR key l with | some v => .tuple #[.string v, .bool true] | none => .tuple #[.string ⟨#[]⟩, .bool false]
set_option maxRecDepth 100000 in
theorem find6_any (A : Option Addr) (n c : Nat) (l : List Rc.Rec) (key : ByteArray) (w : World) (hl : RL w w.heap.size A n l) (hn : n ≤ 100000) :
    Calls Tryz.prog 124 #[.slice A n c, .string key] w fun e w' => e = .returned (findV key l) ∧ w = w' := by
  have hll := hl.1
  have hw : IntKind.i64.wrap ((n : Int) - 1) = (n : Int) - 1 := IntWalk.i64_in _ (by omega)
  have hv0 : ∀ v, Rc.findR key l = some v → findV key l = .tuple #[.string v, .bool true] := fun v h => by unfold findV; rw [h]
  have hv1 : Rc.findR key l = none → findV key l = .tuple #[.string ⟨#[]⟩, .bool false] := fun h => by unfold findV; rw [h]
  have HV0 := Lib.hid hv0; have HV1 := Lib.hid hv1; clear hv0 hv1
  generalize findV key l = out at *
  go_enter Tryz.func124, Tryz.ntmps124
  go_wp2
  go_loop [6] (fun i => ∃ j : Nat, j ≤ n ∧ i = .int .i64 ((j : Int) - 1) ∧ Hid (Rc.findR key (l.drop j) = none)) (fun i => (intOf i + 1).toNat)
  case atStart => exact ⟨n, by omega, rfl, by show _ = _; rw [List.drop_of_length_le (by omega)]; rfl⟩
  case round =>
    obtain ⟨j, hj, rfl, HF⟩ := hrel
    cases j with
    | zero =>
      have e := HV1.out HF.out
      subst e
      go_wp2
      go_ret2
      exact ⟨rfl, rfl⟩
    | succ j =>
      have e1 : ((j + 1 : Nat) : Int) - 1 = (j : Int) := by omega
      rw [e1]
      obtain ⟨b, o, k, v, rfl, hbl, hjl, q0, q1⟩ := hl.at_ (show j < n by omega)
      have hstep := findR_step HF.out hjl
      have hlt : (j : Int) < n := by omega
      by_cases hk : k = key
      · subst hk
        rw [if_pos rfl] at hstep
        have e := HV0.out v (findR_some hstep)
        subst e
        clear hstep hjl
        go_wp2
        go_ret2
        exact ⟨rfl, rfl⟩
      · rw [if_neg hk] at hstep
        have g : (k.toList == key.toList) = false := by rw [beq_eq_false_iff_ne]; intro h; apply hk; rw [Lib.toList_data, Lib.toList_data] at h; rw [← Lib.mk_data k, ← Lib.mk_data key, h]
        have HS := Lib.hid hstep
        clear hstep hjl hk
        go_wp2
        go_round
        case rel => exact ⟨j, by omega, by go_num, HS.out⟩
        case measure => simp [intOf]
end Go.Proofs.YtjofdgjcbjdhbaaGreatDoor
/- WALKS OF LAYER 6, SEVENTH PART: theirs, far, same of the laws. -/
namespace Go.Proofs.YtjofdgjcbjdhbaaGreatDoor
open Go Go.RowKit
set_option linter.unusedVariables false
set_option maxHeartbeats 1000000
def cells2 (l : List Rc.Rec) : List Value := l.flatMap fun r => [.string r.1, .string r.2]
theorem cells2_app (a b : List Rc.Rec) : cells2 (a ++ b) = cells2 a ++ cells2 b := by simp [cells2]
theorem cells2_len (l : List Rc.Rec) : (cells2 l).length = l.length * 2 := by
  induction l with
  | nil => rfl
  | cons r t ih => simp [cells2] at ih ⊢; omega
theorem cells2_at {l : List Rc.Rec} {j : Nat} {r : Rc.Rec} (h : l[j]? = some r) : (cells2 l)[j * 2]? = some (.string r.1) ∧ (cells2 l)[j * 2 + 1]? = some (.string r.2) := by
  induction l generalizing j with
  | nil => simp at h
  | cons x t ih =>
    have e : cells2 (x :: t) = .string x.1 :: .string x.2 :: cells2 t := by simp [cells2]
    cases j with
    | zero =>
      obtain rfl : x = r := by simpa using h
      rw [e]; exact ⟨rfl, rfl⟩
    | succ j =>
      have := ih (j := j) (by simpa using h)
      rw [e, show (j + 1) * 2 = j * 2 + 1 + 1 by omega, show j * 2 + 1 + 1 + 1 = (j * 2 + 1) + 1 + 1 by omega]
      simpa using this
/-- THE SLICE VALUE v IS THE CALL's OWN AND HOLDS THE RECORDS l. -/
def RO (w : World) (base : Nat) (e : TypeId) (v : Value) (l : List Rc.Rec) : Prop := w.ownsRow base e 2 v l.length (cells2 l)
/-- THE SLICE VALUE v READS AS THE RECORDS l. -/
def RLV (w : World) (v : Value) (l : List Rc.Rec) : Prop := ∃ A c, v = .slice A l.length c ∧ RL w w.heap.size A l.length l ∧ l.length ≤ c ∧ c ≤ maxLen
theorem RLV.later {w w' : World} {v : Value} {l : List Rc.Rec} (h : RLV w v l) (hb : Below w.heap.size w w') : RLV w' v l := by
  obtain ⟨A, c, e, h1, h2, h3⟩ := h
  exact ⟨A, c, e, (h1.below hb).more hb.size, h2, h3⟩
theorem RO.rlv {w : World} {base : Nat} {e : TypeId} {v : Value} {l : List Rc.Rec} (h : RO w base e v l) : RLV w v l := by
  have hh := h
  rcases h.2 with ⟨rfl, h0⟩ | ⟨g, cap, cur, rfl, hb, hg, hnc, hcm, hcs, htake⟩
  · have : l = [] := List.eq_nil_of_length_eq_zero h0
    subst this
    exact ⟨none, 0, rfl, RL.nil, Nat.le_refl _, Nat.zero_le _⟩
  · refine ⟨_, cap, rfl, ⟨rfl, fun hn => ⟨g, 0, rfl, (World.ownsRow.lt hh g rfl).2, fun j r hj => ?_⟩⟩, hnc, hcm⟩
    obtain ⟨e0, e1⟩ := cells2_at hj
    have hjl := (List.getElem?_eq_some_iff.1 hj).1
    have hcl := cells2_len l
    have a0 := World.ownsRow.cellAt hh (j * 2) (by omega)
    have a1 := World.ownsRow.cellAt hh (j * 2 + 1) (by omega)
    rw [Nat.zero_add]
    rw [a0, a1]
    exact ⟨e0, e1⟩
/-- A new block with one record's cells. -/
theorem news2 (w : World) (e : TypeId) (k v : ByteArray) : ∀ (j : Nat) u, [Value.string k, Value.string v][j]? = some u → (w.alloc (.cells #[.string k, .string v] e)).cell? ((⟨w.heap.size, 0, none⟩ : Addr).add j) = some u := by
  intro j u hj
  rw [Lib.add_plain, Nat.zero_add]
  have : j = 0 ∨ j = 1 := by
    have := (List.getElem?_eq_some_iff.1 hj).1
    simp at this
    omega
  rcases this with rfl | rfl
  · obtain rfl : Value.string k = u := by simpa using hj
    exact (BX.new w e _).cell rfl
  · obtain rfl : Value.string v = u := by simpa using hj
    exact (BX.new w e _).cell rfl
theorem two_cells (k v : ByteArray) : ∀ u ∈ [Value.string k, Value.string v], u.oneCell' = true := by
  intro u hu
  have : u = .string k ∨ u = .string v := by simpa using hu
  rcases this with rfl | rfl <;> rfl
theorem RO.snoc {w : World} {base n : Nat} {e : TypeId} {u : Value} {l : List Rc.Rec} {k v : ByteArray} (h : w.ownsRow base e 2 u (n + 1) (cells2 l ++ [.string k, .string v])) (hn : l.length = n) : RO w base e u (l ++ [(k, v)]) := by
  unfold RO
  rw [cells2_app, List.length_append, hn]
  exact h
theorem info_rec : (Tryz.prog.info? 128).map (fun i => (i.zero, i.size, i.bytes)) = some (some (.agg #[.string ⟨#[]⟩, .string ⟨#[]⟩]), 2, 32) := by kernel_rfl
/-- Whether there is too much. -/
def farB (l : List Rc.Rec) : Bool := (l.take 10).any (fun r => decide (3000 < r.1.size) || decide (3000 < r.2.size)) || decide (10 < l.length)
end Go.Proofs.YtjofdgjcbjdhbaaGreatDoor
