/- A DEED MORE IN A ROW OF DEEDS. -/
import Derived.Test.YthgbncpiehcghaaGreatDoorGa3
import Derived.Test.YthgbncpiehcghaaGreatDoorAp
import Derived.Deep.AppendLies
import Derived.Lib.ItoaMem
namespace Go.Proofs.YthgbncpiehcghaaGreatDoor
set_option linter.unusedVariables false
open Go Go.RowKit Go.Maps
set_option maxRecDepth 100000
set_option maxHeartbeats 1000000
open Nt (Dd)
theorem run_append_rows14 {P : Program} {w : World} (base : Nat) (t ty e : TypeId) (i : TypeInfo) (z : Value) (size bytes : Nat) (ht : P.underlying t = some (.slice e)) (hi : P.info? e = some i) (hz : i.zero = some z) (hsize : i.size = size) (hby : i.bytes = bytes) (hzs : z.cells.size = size) (hsz : 0 < size)
    (v : Value) (n : Nat) (xs : List Value) (hown : w.ownsRow base e size v n xs) (A : Option Addr) (m c : Nat) (ys : List Value) (hl : ys.length = m * size) (hr : 0 < m → ∃ ad, A = some ad ∧ ∀ j u, ys[j]? = some u → w.cell? (ad.add j) = some u) (h1 : ∀ u ∈ ys, u.oneCell' = true)
    (h63 : n + m ≤ maxLen) (hbytes : (n + m) * bytes ≤ 140737488355328) (hbase : base ≤ w.heap.size) :
    ∃ v' w', (Builtin.append_ #[t, t] ty #[v, .slice A m c]).run P w = .ok v' w' ∧ w'.ownsRow base e size v' (n + m) (xs ++ ys) ∧ w.grownBy w' v.ownBlock ∧ (∀ k, v'.ownBlock = some k → v.ownBlock = some k ∨ w.heap.size ≤ k) := by
  by_cases h0 : m = 0
  · subst h0
    have hy : ys = [] := List.eq_nil_of_length_eq_zero (by omega)
    subst hy
    exact ⟨v, w, run_append_none7 base t ty e i size ht hi v n _ hown A c, by simpa using hown, ⟨rfl, rfl, rfl, Nat.le_refl _, fun k _ _ => rfl⟩, fun k hk => .inl hk⟩
  · obtain ⟨ad, rfl, hn⟩ := hr (by omega)
    obtain ⟨g, cap, w', h2, h3, h4, h5, _⟩ := run_append_lies (P := P) (w := w) t ty base e i z size bytes ht hi hz hsize hby hzs hsz v n xs hown ad m c ys hl hn h1 (by omega) h63 hbytes hbase _ rfl
    refine ⟨_, w', h2, h3, h4, fun k hk => ?_⟩
    obtain rfl : g = k := by simpa [Value.ownBlock] using hk
    rcases h5 with h5 | h5
    · exact .inl h5
    · exact .inr (by omega)
theorem info_deed : (Tryz.prog.info? 74).map (fun i => (i.zero, i.size, i.bytes)) = some (some (.agg Dz), 8, 96) := by kernel_rfl
theorem push_deed {w : World} {base g : Nat} {v : Value} {l : List Dd} {y : Dd} (hown : w.ownsRow base 74 8 v l.length (ddL l)) (hbx : BX w g 74 (DdC y)) (hb : base ≤ w.heap.size) (hlen : l.length ≤ 100000) :
    ∃ v' w', (Builtin.append_ #[65, 65] 65 #[v, .slice (some ⟨g, 0, none⟩) 1 1]).run Tryz.prog w = .ok v' w' ∧ w'.ownsRow base 74 8 v' (l ++ [y]).length (ddL (l ++ [y])) ∧ w.grownBy w' v.ownBlock ∧ (∀ k, v'.ownBlock = some k → v.ownBlock = some k ∨ w.heap.size ≤ k) := by
  obtain ⟨i0, hi, hz0, hz1, hz2⟩ := info_parts info_deed
  obtain ⟨v', w', h1, h2, h3, h4⟩ := run_append_rows14 (P := Tryz.prog) base 65 65 74 i0 (.agg Dz) 8 96 Tryz.underlying65 hi hz0 hz1 hz2 rfl (by decide) v l.length (ddL l) hown (some ⟨g, 0, none⟩) 1 1 (ddL [y]) (ddL_len _) (fun _ => ⟨_, rfl, fun j u hu => by
    rw [Lib.add_plain, Nat.zero_add]
    refine hbx.cell ?_
    have e : ddL [y] = (DdC y).toList := by unfold ddL; simp
    rw [e] at hu
    simpa using hu⟩) ddL_one (by unfold maxLen; omega) (by omega) hb
  exact ⟨v', w', h1, by rw [ddL_app, List.length_append]; exact h2, h3, h4⟩
end Go.Proofs.YthgbncpiehcghaaGreatDoor
/- WALKS OF LAYER 14, SEVENTH PART: Waits. -/
namespace Go.Proofs.YthgbncpiehcghaaGreatDoor
set_option linter.unusedVariables false
open Go Go.RowKit Go.Maps
set_option maxRecDepth 100000
set_option maxHeartbeats 4000000
open Nt (Tr Nd WF Ps Path at_ cnt used Dd Dk ap)
/-- A ROW OF DEEDS OF THE CALL's OWN, with their bytes. -/
structure DR (w : World) (base : Nat) (v : Value) (l : List Dd) : Prop where
  row : w.ownsRow base 74 8 v l.length (ddL l)
  data : ∀ y ∈ l, DOk w y
section
variable {w w' : World} {base : Nat} {v : Value} {l : List Dd}
theorem DR.later (h : DR w base v l) (hb : Below w.heap.size w w') : DR w' base v l :=
  ⟨own_keep13 h.row fun k hk => hb.block k (World.ownsRow.lt h.row k hk).2, fun y hy => (h.data y hy).below hb⟩
theorem row_grown (h : w.ownsRow base 74 8 v l.length (ddL l)) (hg : w.grownBy w' v.ownBlock) : KeepX (fun o => ∃ cs fz, o = .cells cs 74 fz) w w' :=
  KeepX.ofGrown hg fun a ha => by
    rcases h.2 with ⟨e1, _⟩ | ⟨g, cap, cur, e1, _, hg2, _⟩
    · rw [e1] at ha; cases ha
    · rw [e1] at ha
      obtain rfl : g = a := by simpa [Value.ownBlock] using ha
      exact ⟨_, hg2, _, _, rfl⟩
theorem deed_u8 : NoU8 (fun o => ∃ cs fz, o = Obj.cells cs 74 fz) := by
  rintro cs fz ⟨_, _, e⟩
  cases e
theorem DR.pushed {v2 : Value} {y : Dd} (h : DR w base v l) (hy : DOk w y) (h2 : w'.ownsRow base 74 8 v2 (l ++ [y]).length (ddL (l ++ [y]))) (hg : w.grownBy w' v.ownBlock) : DR w' base v2 (l ++ [y]) := by
  have hk := row_grown h.row hg
  refine ⟨h2, fun z hz => ?_⟩
  rcases List.mem_append.1 hz with hz | hz
  · exact (h.data z hz).keptX hk deed_u8
  · obtain rfl : z = y := by simpa using hz
    exact hy.keptX hk deed_u8
theorem below_grown14 {B : Nat} {w0 : World} (h : w.ownsRow base 74 8 v l.length (ddL l)) (hb : Below B w0 w) (hB : B ≤ base) (hs : B ≤ w.heap.size) (hg : w.grownBy w' v.ownBlock) : Below B w0 w' := by
  refine hb.trans ⟨hg.os, hg.tape, hg.output, hg.size, fun k hk => hg.block k (by omega) fun e => ?_⟩
  have := (World.ownsRow.lt h k e.symm).1
  omega
end
section
variable {w0 : Bs} {w : World} {db dt vt K : Nat} {D V : Tr} {v : Value} {l : List Dd} {sy fu : Int} {ad mb ad' mb' : Nat → Nat}
theorem waits14_any (h : DM w0 w db dt vt D V v l sy fu K ad mb ad' mb') (hn : l.length ≤ 1000) :
    Calls Tryz.prog 24 #[.pointer (some ⟨db, 0, none⟩)] w fun e w' => ∃ v2, e = .returned v2 ∧ ∃ ls, Hid (DR w' w.heap.size v2 ls ∧ ls.map Dd.er = l.map Dd.er ∧ Below w.heap.size w w') := by
  have km := Lib.hid (dmade_any h.box)
  obtain ⟨A, c, rfl, hdl, hc1, hc2⟩ := own_dl h.row h.data
  have c2 : w.cell? ⟨db, 2, none⟩ = some (.slice A l.length c) := h.box.cell rfl
  have HDL := Lib.hid hdl
  obtain ⟨N, hN⟩ : ∃ N, l.length = N := ⟨_, rfl⟩
  rw [hN] at hn c2 hc1 HDL
  have HN := Lib.hid hN
  have hcm : c ≤ 9223372036854775807 := hc2
  clear h hdl hN hc2
  go_enter Tryz.func24, Tryz.ntmps24
  go_wp2_with (go_at_call 78; refine km.out.mono ?_; rintro e w1 ⟨rfl, rfl⟩)
  go_loopw [3, 14] (fun u i W => ∃ (j : Nat) (ls : List Dd), j ≤ N ∧ i = .int .i64 j ∧ Hid (DR W w.heap.size u ls ∧ ls.map Dd.er = (l.take j).map Dd.er ∧ Below w.heap.size w W)) (fun _ i _ => N - (intOf i).toNat)
  case atStart => exact ⟨0, [], Nat.zero_le _, rfl, ⟨World.ownsRow_nil _ _ _ _, fun y hy => (by cases hy)⟩, by simp, Below.refl _ _⟩
  case round =>
    obtain ⟨j, ls, hj, rfl, HR⟩ := hrel
    by_cases hlt : j < N
    · have hlt' : (j : Int) < N := by omega
      obtain ⟨b, o, y, rfl, hy, hok, hcs⟩ := (HDL.out.below HR.out.2.2).at_ hlt
      have hlen : ls.length ≤ 1000 := by
        have := congrArg List.length HR.out.2.1
        rw [List.length_map, List.length_map, List.length_take] at this
        omega
      obtain ⟨A3, c3, rfl⟩ := own_shape14 HR.out.1.row
      have hb := below_new wr (.cells (DdC y) 74)
      have hok1 := hok.below hb
      have kc := Lib.hid (copied14_any y _ hok1.rb (by have := hok1.small; omega) (by have := hok1.small; omega) (by have := hok1.small; omega))
      have HB := Lib.hid hb
      have HOK := Lib.hid hok
      have HST := Lib.hid (show (l.take (j + 1)).map Dd.er = (l.take j).map Dd.er ++ [y.er] from by rw [List.take_add_one, hy, Option.toList_some, List.map_append]; rfl)
      obtain ⟨kd, p, q, a, b', c', d, A', n', k', xs'⟩ := y
      have d0 : wr.cell? ⟨b, o + j * 8, none⟩ = some (.int .i64 kd) := hcs 0 _ rfl
      have d1 : wr.cell? ⟨b, o + j * 8 + 1, none⟩ = some (.string p) := hcs 1 _ rfl
      have d2 : wr.cell? ⟨b, o + j * 8 + 2, none⟩ = some (.string q) := hcs 2 _ rfl
      have d3 : wr.cell? ⟨b, o + j * 8 + 3, none⟩ = some (.int .i64 a) := hcs 3 _ rfl
      have d4 : wr.cell? ⟨b, o + j * 8 + 4, none⟩ = some (.int .i64 b') := hcs 4 _ rfl
      have d5 : wr.cell? ⟨b, o + j * 8 + 5, none⟩ = some (.int .i64 c') := hcs 5 _ rfl
      have d6 : wr.cell? ⟨b, o + j * 8 + 6, none⟩ = some (.int .i64 d) := hcs 6 _ rfl
      have d7 : wr.cell? ⟨b, o + j * 8 + 7, none⟩ = some (.slice A' n' k') := hcs 7 _ rfl
      clear hcs hy hok hok1 hb
      go_wp2_with (first
        | (at_builtin; obtain ⟨v4, w4, hrun, hown4, hgrow4, hblk4⟩ := push_deed HR2.out.row HBX.out (HR2S.out) hlen4; have HOWN := Lib.hid hown4; have HGR := Lib.hid hgrow4; refine Lib.wpList_append_run _ rfl _ _ 65 65 rfl _ _ rfl rfl _ _ hrun ?_; clear hrun hown4 hgrow4 hblk4)
        | (go_at_call 79; refine kc.out.mono ?_; rintro e w2 ⟨A2, k2, rfl, hrb2, hk2, hm2, hb2⟩; have HB2 := Lib.hid (bthen (bthen HB.out hb2) (below_new w2 (.cells #[.int .i64 kd, .string p, .string q, .int .i64 a, .int .i64 b', .int .i64 c', .int .i64 d, .slice A2 n' k2] 74))); have HR2 := Lib.hid (HR.out.1.later HB2.out); have HBX := Lib.hid (show BX _ w2.heap.size 74 (DdC ⟨kd, p, q, a, b', c', d, A2, n', k2, xs'⟩) from BX.new w2 74 #[.int .i64 kd, .string p, .string q, .int .i64 a, .int .i64 b', .int .i64 c', .int .i64 d, .slice A2 n' k2]); have HR2S := Lib.hid (Nat.le_trans HR.out.2.2.size HB2.out.size); have hlen4 : ls.length ≤ 100000 := (by omega); have HOK2 := Lib.hid (show DOk _ ⟨kd, p, q, a, b', c', d, A2, n', k2, xs'⟩ from ⟨hrb2.below (below_new w2 (.cells #[.int .i64 kd, .string p, .string q, .int .i64 a, .int .i64 b', .int .i64 c', .int .i64 d, .slice A2 n' k2] 74)), ⟨hk2, hm2⟩, HOK.out.small⟩); clear hrb2 hb2))
      go_roundw
      case rel => exact ⟨j + 1, ls ++ [⟨kd, p, q, a, b', c', d, A2, n', k2, xs'⟩], by omega, by go_num, HR2.out.pushed HOK2.out HOWN.out HGR.out, by rw [HST.out, List.map_append, HR.out.2.1]; rfl, below_grown14 HR2.out.row (HR.out.2.2.trans (HB2.out.mono HR.out.2.2.size)) (Nat.le_refl _) HR2S.out HGR.out⟩
      case measure => simp [intOf]; omega
    · have hlt' : ¬ (j : Int) < N := by omega
      obtain rfl : j = N := by omega
      obtain ⟨A3, c3, rfl⟩ := own_shape14 HR.out.1.row
      go_wp2
      go_ret
      refine ⟨_, rfl, ls, HR.out.1, ?_, HR.out.2.2⟩
      rw [HR.out.2.1, List.take_of_length_le (by have := HN.out; omega)]
end
end Go.Proofs.YthgbncpiehcghaaGreatDoor
/- WALKS OF LAYER 14, EIGHTH PART: Do. -/
namespace Go.Proofs.YthgbncpiehcghaaGreatDoor
set_option linter.unusedVariables false
open Go Go.RowKit Go.Maps
set_option maxRecDepth 100000
set_option maxHeartbeats 4000000
open Nt (Tr Nd WF Ps Path at_ cnt used Dd Dk ap)
theorem step_append_run14 {P : Program} {w : World} {ops : Array Oper} {o : Oper} {a : Act} {K : Act → World → Prop} {Q : Exit → Act → World → Prop} {E : Prop} (hgd : o.guard = none) (s x : Operand) (t tn : TypeId)
    (ho : o.op = .call { callee := .builtin .append, args := #[s, x], argTypes := #[t, tn] }) (vs vx : Value) (hs : a.eval s = vs) (hx : a.eval x = vx) {v' : Value} {w' : World}
    (hr : (Builtin.append_ #[t, tn] o.type #[vs, vx]).run P w = .ok v' w') (h : K (a.put o.dst v') w') :
    if Region.wanted o (yielded ops a.tmps) = true then Oper.wp P o a w K Q else E := by
  have hw : Region.wanted o (yielded ops a.tmps) = true := by simp [Region.wanted, hgd]
  rw [if_pos hw]
  unfold Oper.wp execOp
  simp only [ho, resolve, invoke, builtin, Sem.run_bind, Sem.run_pure, Result.andThen_ok, List.map_toArray, List.map_cons, List.map_nil, hs, hx, hr]
  exact h
theorem cell_block {w : World} {b j : Nat} {v : Value} (h : w.cell? ⟨b, j, none⟩ = some v) : ∃ cs T fz, w.heap[b]? = some (.cells cs T fz) ∧ cs[j]? = some v := by
  unfold World.cell? at h
  split at h
  · rename_i c T fz he
    exact ⟨c, T, fz, he, by simpa using h⟩
  · cases h
theorem RB.oth13 {w w' : World} {B n a : Nat} {A : Option Addr} {xs : List Int} (h : RB w B A n xs) (hne : 0 < n → ∀ b o, A = some ⟨b, o, none⟩ → b ≠ a) (ho : Oth a w w') : RB w' B A n xs :=
  ⟨h.1, fun hn => by
    obtain ⟨b, o, e, hlt, hc⟩ := h.2 hn
    obtain ⟨cs, T, fz, h1, _⟩ := cell_block (hc 0 hn)
    exact ⟨b, o, e, hlt, fun k hk => (World.cell?_of_block (a := ⟨b, o + k, none⟩) (ho.2.2.2.2 b (lt_of_some h1) (hne hn b o e))).trans (hc k hk)⟩⟩
theorem dk_u8 {dt vt : Nat} {A : Option Addr} {n c : Nat} {sy fu : Int} : ∀ (i : Nat) z, (DkC dt vt (.slice A n c) sy fu)[i]? ≠ some (.int .u8 z) := by
  intro i z
  rcases i with _ | _ | _ | _ | _ | i <;> simp
/-- THE BLOCK db IS THE DISK M. -/
def DkR (w0 : Bs) (w : World) (db : Nat) (M : Dk) (K : Nat) : Prop := ∃ dt vt v l ad mb ad' mb', DM w0 w db dt vt M.D M.V v l M.sy M.fu K ad mb ad' mb' ∧ l.map Dd.er = M.L
theorem DkR.later {w0 : Bs} {w w' : World} {db K : Nat} {M : Dk} (h : DkR w0 w db M K) (hb : Below w.heap.size w w') : DkR w0 w' db M K :=
  let ⟨dt, vt, v, l, ad, mb, ad', mb', h, e⟩ := h
  ⟨dt, vt, v, l, ad, mb, ad', mb', h.later hb, e⟩
/-- A deed more waits. -/
theorem DM.pushed {w0 : Bs} {w w' W : World} {db dt vt K : Nat} {D V : Tr} {v v2 : Value} {l : List Dd} {sy fu : Int} {ad mb ad' mb' : Nat → Nat} {y : Dd} (h : DM w0 w db dt vt D V v l sy fu K ad mb ad' mb') (hy : DOk w y)
    (h2 : W.ownsRow w0.heap.size 74 8 v2 (l ++ [y]).length (ddL (l ++ [y]))) (hg : w.grownBy W v.ownBlock) (hbk : ∀ k, v2.ownBlock = some k → v.ownBlock = some k ∨ w.heap.size ≤ k) (hb : BX w' db 135 (DkC dt vt v2 sy fu)) (ho : Oth db W w') (hx : BX W db 135 (DkC dt vt v sy fu)) : DM w0 w' db dt vt D V v2 (l ++ [y]) sy fu K ad mb ad' mb' := by
  have hr := (DR.mk h.row h.data).pushed hy h2 hg
  have hk : ∀ k, k < w.heap.size → k ≠ db → v.ownBlock ≠ some k → w'.heap[k]? = w.heap[k]? := fun k h1 h3 h4 => (ho.2.2.2.2 k (Nat.lt_of_lt_of_le h1 hg.size) h3).trans (hg.block k h1 fun e => h4 e.symm)
  refine ⟨(below_grown14 h.row h.low (Nat.le_refl _) h.low.size hg).trans (ho.below h.dlow (Nat.le_trans h.low.size hg.size)), hb, h.dlow, h.repD.kept fun k hF hl => hk k hl (h.ne.1 k hF) fun e => (h.ne.2.2 k e).2.1 hF, h.repV.kept fun k hF hl => hk k hl (h.ne.2.1 k hF) fun e => (h.ne.2.2 k e).2.2 hF, h.lowD, h.lowV, h.apart, ?_, ?_, (h.since.push (⟨hg.os, hg.tape, hg.output, hg.size, fun k hk hn => hg.block k hk fun e => hn e.symm⟩ : Keep (fun k => v.ownBlock = some k) w W) fun k e => h.own k (.inr (.inr (.inr e)))).push (Keep.ofOth ho rfl : Keep (fun k => k = db) W w') fun k e => h.own k (.inl e), ?_⟩
  · refine own_keep13 h2 fun k hk2 => ho.2.2.2.2 k (World.ownsRow.lt h2 k hk2).2 fun e => ?_
    subst e
    rcases h2.2 with ⟨e1, _⟩ | ⟨g, cap, cur, e1, _, hg2, _⟩
    · rw [e1] at hk2; cases hk2
    · rw [e1] at hk2
      obtain rfl : g = k := by simpa [Value.ownBlock] using hk2
      unfold BX at hx
      rw [hx] at hg2
      cases hg2
  · intro z hz
    exact (hr.data z hz).keptX (KeepX.ofOth (X := fun o => o = .cells (DkC dt vt v sy fu) 135 (0, 0)) ho hx rfl) (fun cs fz e => by cases e)
  · intro k hk2
    rcases hk2 with h1 | h1 | h1 | h1
    · exact h.own k (.inl h1)
    · exact h.own k (.inr (.inl h1))
    · exact h.own k (.inr (.inr (.inl h1)))
    · rcases hbk k h1 with h3 | h3
      · exact h.own k (.inr (.inr (.inr h3)))
      · exact .inr (Nat.le_trans h.since.size h3)
theorem RepP.no8 {F : Nat → Prop} {K tb : Nat} {w : World} {T : Tr} {ad mb : Nat → Nat} (h : RepP F K w tb T ad mb) {k : Nat} (hk : Fm T tb ad mb k) (j : Nat) (x : Int) : w.cell? ⟨k, j, none⟩ ≠ some (.int .u8 x) := by
  rcases hk with rfl | ⟨p, n, hp, rfl | ⟨h4, rfl⟩⟩
  · have := h.tree
    unfold BX at this
    rw [cell_of_row w _ j _ _ _ this]
    exact tc_u8 j x
  · have := (h.node p n hp).1
    unfold BX at this
    rw [cell_of_row w _ j _ _ _ this]
    rcases j with _ | _ | _ | _ | _ | _ | _ | _ | _ | j <;> simp
  · obtain ⟨D, ⟨es, clock, h1, _⟩, _⟩ := (h.map p n hp h4).2
    unfold World.cell?
    rw [h1]
    simp
theorem RB.done {K tb : Nat} {w w' : World} {T : Tr} {ad mb : Nat → Nat} {r : Tr × Int} {e : Ending} {A : Option Addr} {n : Nat} {xs : List Int} (h : RB w w.heap.size A n xs) (hR : RepP (Fm T tb ad mb) K w tb T ad mb) (hd : Done (Fm T tb ad mb) K w w' tb r e) : RB w' w'.heap.size A n xs := by
  obtain ⟨_, _, hk⟩ := hd
  refine RB.more (B := w.heap.size) ⟨h.1, fun hn => ?_⟩ hk.size
  obtain ⟨b, o, e1, hlt, hc⟩ := h.2 hn
  exact ⟨b, o, e1, hlt, fun k hk2 => (World.cell?_of_block (a := ⟨b, o + k, none⟩) (hk.block b hlt fun hf => hR.no8 hf _ _ (hc 0 hn))).trans (hc k hk2)⟩
theorem DM.grow_box {w0 : Bs} {w w' : World} {db dt vt K : Nat} {D V : Tr} {v : Value} {l : List Dd} {sy fu : Int} {ad mb ad' mb' : Nat → Nat} (h : DM w0 w db dt vt D V v l sy fu K ad mb ad' mb') (hg : w.grownBy w' v.ownBlock) : BX w' db 135 (DkC dt vt v sy fu) :=
  (hg.block db h.box.lt fun e => (h.ne.2.2 db e.symm).1 rfl).trans h.box
end Go.Proofs.YthgbncpiehcghaaGreatDoor
