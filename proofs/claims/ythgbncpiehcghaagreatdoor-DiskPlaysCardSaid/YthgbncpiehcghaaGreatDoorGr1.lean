/- WALKS OF THE DOCUMENT's TREE: with (a node as another one). -/
import Derived.Test.YthgbncpiehcghaaGreatDoorR13e
import Derived.Deep.MidRow
import Derived.Test.YthgbncpiehcghaaGreatDoorGn4
namespace Go.Proofs.YthgbncpiehcghaaGreatDoor
set_option linter.unusedVariables false
open Go Go.RowKit Go.Maps
set_option maxRecDepth 100000
set_option maxHeartbeats 4000000
open Nt (Tr Nd WF Ps Path at_ cnt used txt)
/-- Cells laid into one block: the others stay. -/
theorem BX.cells_other {w : World} {a b : Nat} {T : TypeId} {cs : Array Value} (hne : a ≠ b) : ∀ (vs : List Value) (o : Nat) (w : World), BX w a T cs → BX (w.setCells b o vs) a T cs
  | [], _, _, h => h
  | v :: r, o, w, h => BX.cells_other hne (w := w) r (o + 1) _ (h.other hne v)
theorem Oth.setCells {w : World} {a : Nat} : ∀ (vs : List Value) (o : Nat) (w' : World), Oth a w w' → Oth a w (w'.setCells a o vs)
  | [], _, _, h => h
  | v :: r, o, w', h => Oth.setCells r (o + 1) _ (h.setCell o v)
theorem BX.sets {a : Nat} {T : TypeId} : ∀ (vs : List Value) (o : Nat) (w : World) (cs : Array Value), BX w a T cs → ∃ cs', BX (w.setCells a o vs) a T cs'
  | [], _, _, cs, h => ⟨cs, h⟩
  | v :: r, o, w, cs, h => BX.sets r (o + 1) _ _ (h.set o v)
theorem info_tree13 : (Tryz.prog.info? 29).map (·.size) = some 4 := by kernel_rfl
theorem info_node13 : (Tryz.prog.info? 114).map (·.size) = some 7 := by kernel_rfl
section
variable {w w' : World} {B : Nat} {A1 A2 : Option Addr} {n1 c1 n2 c2 : Nat} {T : Tr}
theorem refwith_any (h : RTr w B A1 n1 c1 A2 n2 c2 T) (a b : Int) (m : Nat) (hm : m < n1) (hn : n1 ≤ 100000) (x : Nd) :
    Calls Tryz.prog 105 #[.agg (RvC A1 n1 c1 A2 n2 c2 a b), .int .i64 (m : Nat), .agg (NdC x)] w fun e w' => ∃ A c, e = .returned (.agg (RvC A n1 c A2 n2 c2 a b)) ∧ NRow w' A n1 (T.nodes.set m x) ∧ n1 ≤ c ∧ c ≤ maxLen ∧ Below w.heap.size w w' := by
  obtain ⟨W1, hW1⟩ : ∃ W, w.alloc (.cells (RvC A1 n1 c1 A2 n2 c2 a b) 29) = W := ⟨_, rfl⟩
  have hb1 := below_new w (.cells (RvC A1 n1 c1 A2 n2 c2 a b) 29)
  have x1 : BX W1 w.heap.size 29 (RvC A1 n1 c1 A2 n2 c2 a b) := by rw [← hW1]; exact BX.new _ _ _
  have s1 : W1.heap.size = w.heap.size + 1 := by rw [← hW1]; simp
  rw [hW1] at hb1
  obtain ⟨W2, hW2⟩ : ∃ W, W1.alloc (.cells (NdC x) 114) = W := ⟨_, rfl⟩
  have hb2 := below_new W1 (.cells (NdC x) 114)
  have x2 : BX W2 W1.heap.size 114 (NdC x) := by rw [← hW2]; exact BX.new _ _ _
  have s2 : W2.heap.size = w.heap.size + 1 + 1 := by rw [← hW2, ← s1]; simp
  rw [hW2] at hb2
  obtain ⟨W3, hW3⟩ : ∃ W, W2.alloc (.cells #[.slice none 0 0, .slice none 0 0, .int .i64 0, .int .i64 0] 29) = W := ⟨_, rfl⟩
  have hb3 := below_new W2 (.cells #[.slice none 0 0, .slice none 0 0, .int .i64 0, .int .i64 0] 29)
  have x3 : BX W3 W2.heap.size 29 #[.slice none 0 0, .slice none 0 0, .int .i64 0, .int .i64 0] := by rw [← hW3]; exact BX.new _ _ _
  have s3 : W3.heap.size = w.heap.size + 1 + 1 + 1 := by rw [← hW3, ← s2]; simp
  rw [hW3] at hb3
  rw [s1] at x2
  rw [s2] at x3
  have h3 : Below w.heap.size w W3 := bthen (bthen hb1 hb2) hb3
  have y1 := (x1.later hb2).later hb3
  have y2 := x2.later hb3
  obtain ⟨v4, W4, hrun, hown, hgr, hbk⟩ := app_nd (l1 := []) (World.ownsRow_nil W3 W3.heap.size 114 7) (h.nodes.below h3) c1 (by show 0 + n1 ≤ _; omega) (Nat.le_refl _)
  have h4 : Below W3.heap.size W3 W4 := (Below.refl W3.heap.size W3).grown hgr (Nat.le_refl _) (by intro k hk; cases hk)
  have y3 := x3.later h4
  replace y1 := y1.later h4
  replace y2 := y2.later h4
  have hown' : W4.ownsRow W3.heap.size 114 7 v4 n1 (rl NdC T.nodes) := by
    have := hown
    rw [show ([] : List Nd).length + n1 = n1 from by simp, List.nil_append] at this
    exact this
  have RUN := Lib.hid hrun
  have HN := Lib.hid h.nodes
  rcases hown'.2 with ⟨e0, hz⟩ | ⟨g, cap, cur, e0, hgb, hg, hc1, hc2, hc3, hc4⟩
  · omega
  subst e0
  have z0 : BX W4 g 114 cur := hg
  have hne1 : g ≠ w.heap.size := by omega
  have hne2 : g ≠ w.heap.size + 1 := by omega
  have hne3 : g ≠ w.heap.size + 1 + 1 := by omega
  have hm1 : (m : Int) < n1 := by omega
  have hm0 : 0 ≤ (m : Int) := by omega
  have hmt : ((m : Int)).toNat = m := by omega
  obtain ⟨W5, hW5⟩ : ∃ W, W4.setCell ⟨w.heap.size, 0, none⟩ (.slice (some ⟨g, 0, none⟩) n1 cap) = W := ⟨_, rfl⟩
  have u1 : BX W5 w.heap.size 29 (RvC (some ⟨g, 0, none⟩) n1 cap A2 n2 c2 a b) := by rw [← hW5]; exact y1.set 0 _
  have u2 : BX W5 (w.heap.size + 1) 114 (NdC x) := by rw [← hW5]; exact y2.other (by omega) _
  have u3 : BX W5 (w.heap.size + 1 + 1) 29 #[.slice none 0 0, .slice none 0 0, .int .i64 0, .int .i64 0] := by rw [← hW5]; exact y3.other (by omega) _
  have u4 : BX W5 g 114 cur := by rw [← hW5]; exact z0.other hne1 _
  have p0 : W5.cell? ⟨w.heap.size, 0, none⟩ = some (.slice (some ⟨g, 0, none⟩) n1 cap) := u1.cell rfl
  have f1 : W4.frozen? ⟨w.heap.size, 0, none⟩ = false := y1.free 0
  have q0 : W5.cell? ⟨w.heap.size + 1, 0, none⟩ = some (.int .i64 x.kind) := u2.cell rfl
  have q1 : W5.cell? ⟨w.heap.size + 1, 1, none⟩ = some (.int .i64 x.mode) := u2.cell rfl
  have q2 : W5.cell? ⟨w.heap.size + 1, 2, none⟩ = some (.int .i64 x.uid) := u2.cell rfl
  have q3 : W5.cell? ⟨w.heap.size + 1, 3, none⟩ = some (.int .i64 x.gid) := u2.cell rfl
  have q4 : W5.cell? ⟨w.heap.size + 1, 4, none⟩ = some (.int .i64 x.mtime) := u2.cell rfl
  have q5 : W5.cell? ⟨w.heap.size + 1, 5, none⟩ = some (.string x.link) := u2.cell rfl
  have q6 : W5.cell? ⟨w.heap.size + 1, 6, none⟩ = some (.slice x.A x.n x.c) := u2.cell rfl
  have hcs : m * 7 + 6 < cur.size := by omega
  have th : W5.there g (m * 7) 7 := fun i hi => ⟨by rw [u4.cell (v := cur.getD (m * 7 + i) (.int .i64 0)) (by rw [Array.getD_eq_getD_getElem?, Array.getElem?_eq_getElem (by omega)]; rfl)]; rfl, u4.free _⟩
  obtain ⟨cs6, g6⟩ : ∃ cs', BX (W5.setCells g (m * 7) (NdC x).toList) g 114 cs' := BX.sets _ _ _ _ u4
  have O5 : Hid (Oth w.heap.size W4 W5) := Lib.hid (by rw [← hW5]; exact (Oth.refl _ _).setCell 0 _)
  have TH := Lib.hid th
  have ONE1 := Lib.hid (all_oneCell_toArray (NdC_one x))
  obtain ⟨W6, hW6⟩ : ∃ W, W5.setCells g (m * 7) (NdC x).toList = W := ⟨_, rfl⟩
  have o6 : Oth g W5 W6 := by rw [← hW6]; exact Oth.setCells _ _ _ (Oth.refl _ _)
  have t1 : BX W6 w.heap.size 29 (RvC (some ⟨g, 0, none⟩) n1 cap A2 n2 c2 a b) := u1.oth o6 (by omega)
  have t3 : BX W6 (w.heap.size + 1 + 1) 29 #[.slice none 0 0, .slice none 0 0, .int .i64 0, .int .i64 0] := u3.oth o6 (by omega)
  have hin : ∀ (i : Nat) u, (NdC x)[i]? = some u → W6.cell? ⟨g, m * 7 + i, none⟩ = some u := by
    intro i u hu
    rw [← hW6]
    exact World.rangeAt_setCells_same W5 g (m * 7) (NdC x).toList th i u (by simpa using hu)
  have hout : ∀ k, (k < m * 7 ∨ m * 7 + 7 ≤ k) → W6.cell? ⟨g, k, none⟩ = W5.cell? ⟨g, k, none⟩ := by
    intro k hk
    rw [← hW6]
    exact World.cell?_setCells_out g (NdC x).toList (m * 7) W5 ⟨g, k, none⟩ (fun _ _ => by simpa using hk)
  have th2 : W6.there (w.heap.size + 1 + 1) 0 4 := fun i hi => ⟨by rw [Nat.zero_add]; rcases i with _ | _ | _ | _ | i <;> first | (rw [t3.cell rfl]; rfl) | omega, t3.free _⟩
  have TH2 := Lib.hid th2
  have ONE2 := Lib.hid (all_oneCell_toArray (cs := (RvC (some ⟨g, 0, none⟩) n1 cap A2 n2 c2 a b).toList) (by intro v hv; simp at hv; rcases hv with rfl | rfl | rfl | rfl <;> rfl))
  obtain ⟨W7, hW7⟩ : ∃ W, W6.setCells (w.heap.size + 1 + 1) 0 (RvC (some ⟨g, 0, none⟩) n1 cap A2 n2 c2 a b).toList = W := ⟨_, rfl⟩
  have o7 : Oth (w.heap.size + 1 + 1) W6 W7 := by rw [← hW7]; exact Oth.setCells _ _ _ (Oth.refl _ _)
  have r7 : ∀ (i : Nat) u, (RvC (some ⟨g, 0, none⟩) n1 cap A2 n2 c2 a b)[i]? = some u → W7.cell? ⟨w.heap.size + 1 + 1, i, none⟩ = some u := by
    intro i u hu
    rw [← hW7]
    have := World.rangeAt_setCells_same W6 (w.heap.size + 1 + 1) 0 (RvC (some ⟨g, 0, none⟩) n1 cap A2 n2 c2 a b).toList th2 i u (by simpa using hu)
    rwa [Nat.zero_add] at this
  have tp0 : W6.cell? ⟨w.heap.size, 0, none⟩ = some (.slice (some ⟨g, 0, none⟩) n1 cap) := t1.cell rfl
  have rp0 : W7.cell? ⟨w.heap.size + 1 + 1, 0, none⟩ = some (.slice (some ⟨g, 0, none⟩) n1 cap) := r7 0 _ rfl
  have tp1 : W6.cell? ⟨w.heap.size, 1, none⟩ = some (.slice A2 n2 c2) := t1.cell rfl
  have rp1 : W7.cell? ⟨w.heap.size + 1 + 1, 1, none⟩ = some (.slice A2 n2 c2) := r7 1 _ rfl
  have tp2 : W6.cell? ⟨w.heap.size, 2, none⟩ = some (.int .i64 a) := t1.cell rfl
  have rp2 : W7.cell? ⟨w.heap.size + 1 + 1, 2, none⟩ = some (.int .i64 a) := r7 2 _ rfl
  have tp3 : W6.cell? ⟨w.heap.size, 3, none⟩ = some (.int .i64 b) := t1.cell rfl
  have rp3 : W7.cell? ⟨w.heap.size + 1 + 1, 3, none⟩ = some (.int .i64 b) := r7 3 _ rfl
  have y10 : W4.cell? ⟨w.heap.size, 0, none⟩ = some (.slice A1 n1 c1) := y1.cell rfl
  have x10' : W3.cell? ⟨w.heap.size, 0, none⟩ = some (.slice A1 n1 c1) := ((x1.later hb2).later hb3).cell rfl
  have U4 := Lib.hid u4
  have O6 := Lib.hid o6
  have O7 := Lib.hid o7
  have HIN := Lib.hid hin
  have HOUT := Lib.hid hout
  have G4 := Lib.hid y1
  have H4 := Lib.hid h4
  have H3 := Lib.hid h3
  have HC2 := Lib.hid hc2
  have HC4 := Lib.hid hc4
  rw [hW6] at g6
  have G6 := Lib.hid g6
  have H6 := Lib.hid hW6
  have H7 := Lib.hid hW7
  clear g6 u1 u2 u3 u4 o6 o7 hin hout th th2 t1 t3 r7 hW6 hW7 hc4 hc2 h4 h3 hown hown' hgr hbk y1 y2 y3 x1 x2 x3 z0 hrun h hg hb1 hb2 hb3
  go_enter Tryz.func105, Tryz.ntmps105
  go_upto_region 2 with (at_builtin; refine Lib.wpList_append_run _ rfl _ _ 26 26 rfl _ _ rfl rfl _ _ RUN.out ?_)
  refine wp_region_lit ?_
  refine wpList_plain rfl (fun K hK => ?_)
  go_simp
  refine hK _ _ ?_
  clear hK K
  refine wpList_plain rfl (fun K hK => ?_)
  go_simp
  refine hK _ _ ?_
  clear hK K
  refine wpList_plain rfl (fun K hK => ?_)
  go_simp
  refine hK _ _ ?_
  clear hK K
  refine wpList_plain rfl (fun K hK => ?_)
  go_simp
  refine hK _ _ ?_
  clear hK K
  refine wpList_plain rfl (fun K hK => ?_)
  go_simp
  refine hK _ _ ?_
  clear hK K
  refine wpList_store_mid rfl 114 (.tmp 15) (.tmp 14) rfl g (m * 7) (NdC x) rfl rfl TH.out info_node13 ONE1.out ?_
  rw [H6.out]
  refine wpList_nil ?_
  go_upto_region 3 with (fail)
  refine wp_region_lit ?_
  refine wpList_plain rfl (fun K hK => ?_)
  go_simp
  refine hK _ _ ?_
  clear hK K
  refine wpList_store_mid rfl 29 (.tmp 6) (.tmp 16) rfl (w.heap.size + 1 + 1) 0 (RvC (some ⟨g, 0, none⟩) n1 cap A2 n2 c2 a b) rfl rfl TH2.out info_tree13 ONE2.out ?_
  rw [H7.out]
  refine wpList_nil ?_
  go_wp2
  refine bodyPost_ret (v := .agg (RvC (some ⟨g, 0, none⟩) n1 cap A2 n2 c2 a b)) (by simp [results, Tryz.f105, go_sem, rp0, rp1, rp2, rp3]) rfl ?_
  have g7 := G6.out.oth O7.out (by omega)
  have hs4 := H4.out.size
  have hs5 := O5.out.2.2.2.1
  have hs6 := O6.out.2.2.2.1
  have hw3 := H3.out.size
  refine ⟨_, cap, rfl, ⟨by rw [List.length_set]; exact HN.out.1, fun _ => ⟨g, 0, rfl, ⟨_, _, g7⟩, fun j y hj i u hu => ?_⟩⟩, hc1, HC2.out, ?_⟩
  · have hi7 : i < 7 := (Array.getElem?_eq_some_iff.1 hu).1
    have e67 : W7.cell? ⟨g, 0 + j * 7 + i, none⟩ = W6.cell? ⟨g, j * 7 + i, none⟩ := by
      rw [Nat.zero_add]
      exact World.cell?_of_block (a := ⟨g, j * 7 + i, none⟩) (g7.trans G6.out.symm)
    rw [e67]
    by_cases hjm : j = m
    · subst hjm
      rw [List.getElem?_set_self (by rw [HN.out.1]; exact hm)] at hj
      obtain rfl : x = y := by simpa using hj
      exact HIN.out i u hu
    · rw [List.getElem?_set_ne (fun e => hjm e.symm)] at hj
      rw [HOUT.out (j * 7 + i) (by omega)]
      have e1 := rl_at NdC_size hj hu
      rw [← HC4.out, List.getElem?_take] at e1
      split at e1
      · exact U4.out.cell (by simpa using e1)
      · cases e1
  · have k1 : Below w.heap.size w W4 := bthen H3.out H4.out
    have k2 : Below w.heap.size W4 W5 := O5.out.below (Nat.le_refl _) (by omega)
    have k3 : Below w.heap.size W5 W6 := O6.out.below (by omega) (by omega)
    have k4 : Below w.heap.size W6 W7 := O7.out.below (by omega) (by omega)
    exact ((k1.trans k2).trans k3).trans k4
end
end Go.Proofs.YthgbncpiehcghaaGreatDoor
/- WALKS OF THE DOCUMENT's TREE: may the numbers be? (thwartref08.Numbers); Get. -/
namespace Go.Proofs.YthgbncpiehcghaaGreatDoor
set_option linter.unusedVariables false
open Go Go.RowKit Go.Maps
set_option maxRecDepth 100000
set_option maxHeartbeats 4000000
open Nt (Tr Nd WF Ps Path at_ cnt used txt)
theorem refnum13 (m u g t : Int) (w : World) : Calls Tryz.prog 102 #[.agg #[.int .i64 m, .int .i64 u, .int .i64 g, .int .i64 t]] w fun e w' => e = .returned (.bool (Nt.metaOk m u g t)) ∧ Below w.heap.size w w' := by
  have e : Nt.metaOk m u g t = (decide (0 ≤ m) && decide (m ≤ 4095) && decide (0 ≤ u) && decide (u ≤ 1099511627775) && decide (0 ≤ g) && decide (g ≤ 1099511627775) && decide (-1125899906842624 ≤ t) && decide (t ≤ 1125899906842624)) := rfl
  rw [e]
  clear e
  go_enter Tryz.func102, Tryz.ntmps102
  go_wp2
  all_goals
    go_ret
    refine ⟨ret_bool ?_, (Below.refl _ _).alloc (Nat.le_refl _) _⟩
    simp_all
    try omega
end Go.Proofs.YthgbncpiehcghaaGreatDoor
/- PATHS AS TEXTS: what lies under a path, joined, cut: in words of paths. -/
namespace Go.Proofs.YthgbncpiehcghaaGreatDoor
set_option linter.unusedVariables false
open Go Go.RowKit Go.Maps
set_option maxRecDepth 100000
set_option maxHeartbeats 1000000
open Nt (Tr Nd WF Ps Path at_ cnt used txt)
theorem pieces_cat (a b : ByteArray) : Pp.pieces (a ++ ⟨#[47]⟩ ++ b) = Pp.pieces a ++ Pp.pieces b := by
  refine Pp.map_inj ?_
  rw [Pp.pieces_map, List.map_append, Pp.pieces_map, Pp.pieces_map, Nt.data_app, Nt.data_app]
  show Pp.piecesL (a.data.toList ++ [47] ++ b.data.toList) = _
  rw [List.append_assoc]
  exact Pp.piecesL_app _ _
theorem cat_get (t u : ByteArray) : ∃ h : t.size < (t ++ ⟨#[47]⟩ ++ u).size, (t ++ ⟨#[47]⟩ ++ u).extract 0 t.size = t ∧ (t ++ ⟨#[47]⟩ ++ u)[t.size] = 47 ∧ (t ++ ⟨#[47]⟩ ++ u).extract (t.size + 1) (t ++ ⟨#[47]⟩ ++ u).size = u := by
  have e : (t ++ ⟨#[47]⟩ ++ u).data.toList = t.data.toList ++ 47 :: u.data.toList := by rw [Nt.data_app, Nt.data_app]; simp
  have hs : (t ++ ⟨#[47]⟩ ++ u).size = t.size + 1 + u.size := by simp [Nt.one_slash]
  have hl : t.data.toList.length = t.size := (Pp.size_eq t).symm
  refine ⟨by omega, ?_, ?_, ?_⟩
  · apply ByteArray.ext
    apply Array.toList_inj.1
    rw [Lib.extract_data, e, List.drop_zero, Nat.sub_zero, ← hl, List.take_left]
  · have h1 : t.size < (t ++ ⟨#[47]⟩ ++ u).data.toList.length := by rw [← Pp.size_eq]; omega
    have h2 : (t ++ ⟨#[47]⟩ ++ u).data.toList[t.size]'h1 = 47 := by
      have h3 : (t ++ ⟨#[47]⟩ ++ u).data.toList[t.size]? = some 47 := by
        rw [e, List.getElem?_append_right (by omega), hl]
        simp
      rw [List.getElem?_eq_getElem h1] at h3
      exact Option.some.inj h3
    exact h2
  · apply ByteArray.ext
    apply Array.toList_inj.1
    have h5 : List.drop (t.size + 1) (t.data.toList ++ 47 :: u.data.toList) = u.data.toList := by
      rw [← hl, show t.data.toList ++ 47 :: u.data.toList = (t.data.toList ++ [47]) ++ u.data.toList from by simp]
      exact List.drop_left' (by simp)
    rw [Lib.extract_data, e, hs, h5, List.take_of_length_le]
    rw [← Pp.size_eq]
    omega
/-- Rest, in words of paths. -/
theorem rest_txt {P q : Path} (hP : ∀ x ∈ P, Pp.Nm x) (hq : ∀ x ∈ q, Pp.Nm x) : restV (txt q) (txt P) = if P <+: q ∧ q ≠ P then (txt (q.drop P.length), true) else (⟨#[]⟩, false) := by
  unfold restV
  by_cases h0 : P = []
  · subst h0
    rw [if_pos (show (txt []).size = 0 from rfl)]
    by_cases h1 : q = []
    · subst h1
      rw [if_neg (by simp)]
      rfl
    · rw [if_pos ⟨List.nil_prefix, h1⟩]
      have := Nt.txt_pos h1 hq
      rw [decide_eq_true (by omega)]
      rfl
  · have := Nt.txt_pos h0 hP
    rw [if_neg (by omega)]
    by_cases h1 : P <+: q ∧ q ≠ P
    · obtain ⟨⟨r, rfl⟩, hne⟩ := h1
      have hr : r ≠ [] := fun e => hne (by rw [e, List.append_nil])
      have hpr : P <+: P ++ r ∧ P ++ r ≠ P := ⟨⟨r, rfl⟩, hne⟩
      obtain ⟨a, b, c, d⟩ := cat_get (txt P) (txt r)
      have e := Nt.txt_app P r h0 hr
      have h1 : Pp.Pre (txt P ++ ⟨#[47]⟩) (txt (P ++ r)) := by rw [e]; exact (Pp.pre_slash _ _).2 ⟨a, b, c⟩
      have h2 : (if P <+: P ++ r ∧ P ++ r ≠ P then (txt ((P ++ r).drop P.length), true) else ((⟨#[]⟩ : ByteArray), false)) = (txt r, true) := by rw [if_pos hpr, List.drop_left]
      rw [h2, if_pos h1, e, d]
    · rw [if_neg h1, if_neg]
      intro hp
      obtain ⟨a, b, c⟩ := (Pp.pre_slash _ _).1 hp
      have e := Pp.ext_split (txt q) (txt P).size a c
      rw [b] at e
      have e2 : txt q = txt P ++ ⟨#[47]⟩ ++ (txt q).extract ((txt P).size + 1) (txt q).size := by
        apply ByteArray.ext
        apply Array.toList_inj.1
        rw [Nt.data_app, Nt.data_app]
        conv => lhs; rw [e]
        simp
      have hq0 : q ≠ [] := by
        intro e3
        subst e3
        exact absurd a (by show ¬ _ < 0; omega)
      have e4 := congrArg Pp.pieces e2
      rw [pieces_cat, Nt.pieces_txt hq0 hq, Nt.pieces_txt h0 hP] at e4
      refine h1 ⟨⟨_, e4.symm⟩, fun e5 => ?_⟩
      rw [e5] at e4
      have h7 := congrArg List.length e4
      rw [List.length_append] at h7
      have h8 := List.length_pos_iff.2 (Pp.pieces_ne ((txt q).extract ((txt P).size + 1) (txt q).size))
      rw [e5] at h8
      omega
theorem join_txt2 {P q : Path} (hP : ∀ x ∈ P, Pp.Nm x) (hq : ∀ x ∈ q, Pp.Nm x) : joinS (txt P) (txt q) = txt (P ++ q) := by
  unfold joinS
  by_cases h : P = []
  · subst h
    rw [if_pos (show (txt []).size = 0 from rfl)]
    rfl
  · have h1 := Nt.txt_pos h hP
    by_cases h2 : q = []
    · subst h2
      rw [if_neg (by omega), if_pos (show (txt []).size = 0 from rfl), List.append_nil]
    · have h3 := Nt.txt_pos h2 hq
      rw [if_neg (by omega), if_neg (by omega), Nt.txt_app P q h h2]

/-! ### the document's tree as a value; frames of its methods -/
/-- The value v is the document's tree T. -/
def Rv (w : World) (B : Nat) (v : Value) (T : Tr) : Prop := ∃ A1 n1 c1 A2 n2 c2, v = .agg (RvC A1 n1 c1 A2 n2 c2 T.room T.vol) ∧ RTr w B A1 n1 c1 A2 n2 c2 T
theorem Rv.below {w w' : World} {B : Nat} {v : Value} {T : Tr} (h : Rv w B v T) (hb : Below w.heap.size w w') : Rv w' B v T := by
  obtain ⟨A1, n1, c1, A2, n2, c2, e, h⟩ := h
  exact ⟨A1, n1, c1, A2, n2, c2, e, h.below hb⟩
abbrev Rv0 : Array Value := #[.slice none 0 0, .slice none 0 0, .int .i64 0, .int .i64 0]
theorem frame1 (w : World) (c1 : Array Value) (T1 : TypeId) : ∃ W, w.alloc (.cells c1 T1) = W ∧ Below w.heap.size w W ∧ W.heap.size = w.heap.size + 1 ∧ BX W w.heap.size T1 c1 :=
  ⟨_, rfl, below_new w _, by simp, BX.new _ _ _⟩
theorem frame2 (w : World) (c1 : Array Value) (T1 : TypeId) (c2 : Array Value) (T2 : TypeId) : ∃ W, (w.alloc (.cells c1 T1)).alloc (.cells c2 T2) = W ∧ Below w.heap.size w W ∧ W.heap.size = w.heap.size + 1 + 1 ∧ BX W w.heap.size T1 c1 ∧ BX W (w.heap.size + 1) T2 c2 := by
  have h2 := BX.new (w.alloc (.cells c1 T1)) T2 c2
  rw [World.size_alloc] at h2
  exact ⟨_, rfl, bthen (below_new w _) (below_new _ _), by simp, (BX.new w T1 c1).later (below_new _ _), h2⟩
theorem frame3 (w : World) (c1 : Array Value) (T1 : TypeId) (c2 : Array Value) (T2 : TypeId) (c3 : Array Value) (T3 : TypeId) : ∃ W, ((w.alloc (.cells c1 T1)).alloc (.cells c2 T2)).alloc (.cells c3 T3) = W ∧ Below w.heap.size w W ∧ W.heap.size = w.heap.size + 1 + 1 + 1 ∧ BX W w.heap.size T1 c1 ∧ BX W (w.heap.size + 1) T2 c2 ∧ BX W (w.heap.size + 1 + 1) T3 c3 := by
  obtain ⟨W, hW, hb, hs, x1, x2⟩ := frame2 w c1 T1 c2 T2
  rw [hW]
  have h3 := BX.new W T3 c3
  rw [hs] at h3
  exact ⟨_, rfl, bthen hb (below_new _ _), by simp [hs], x1.later (below_new _ _), x2.later (below_new _ _), h3⟩
/-- A tree laid into the result's box. -/
theorem fin4 {w W : World} {r : Nat} {T : TypeId} {c0 c1 c2 c3 : Value} (hx : BX W r T #[c0, c1, c2, c3]) (hb : Below w.heap.size w W) (hr : w.heap.size ≤ r) (v0 v1 v2 v3 : Value) :
    ∃ W9, (((W.setCell ⟨r, 0, none⟩ v0).setCell ⟨r, 1, none⟩ v1).setCell ⟨r, 2, none⟩ v2).setCell ⟨r, 3, none⟩ v3 = W9 ∧ W9.cell? ⟨r, 0, none⟩ = some v0 ∧ W9.cell? ⟨r, 1, none⟩ = some v1 ∧ W9.cell? ⟨r, 2, none⟩ = some v2 ∧ W9.cell? ⟨r, 3, none⟩ = some v3 ∧ Below w.heap.size w W9 ∧ Oth r W W9 := by
  have h9 := (((hx.set 0 v0).set 1 v1).set 2 v2).set 3 v3
  have o9 := ((((Oth.refl r W).setCell 0 v0).setCell 1 v1).setCell 2 v2).setCell 3 v3
  exact ⟨_, rfl, h9.cell rfl, h9.cell rfl, h9.cell rfl, h9.cell rfl, hb.trans (o9.below hr hb.size), o9⟩
theorem RTr.oth {w w' : World} {B r : Nat} {A1 A2 : Option Addr} {n1 c1 n2 c2 : Nat} {T : Tr} {wl : World} (h : RTr wl B A1 n1 c1 A2 n2 c2 T) (hb : Below wl.heap.size wl w) (ho : Oth r w w') (hr : wl.heap.size ≤ r) : RTr w' B A1 n1 c1 A2 n2 c2 T :=
  h.below (hb.trans (ho.below hr hb.size))
end Go.Proofs.YthgbncpiehcghaaGreatDoor
