/- WALKS OF LAYER 13, FIFTH PART: what stands at a place; a new place; a place is put, cleared; a new Dir. -/
import Derived.Test.YthgbncpiehcghaaGreatDoorGs1
import Derived.Deep.RegionHeld3
namespace Go.Proofs.YthgbncpiehcghaaGreatDoor
set_option linter.unusedVariables false
open Go Go.RowKit
set_option maxRecDepth 100000
set_option maxHeartbeats 1000000
open Nt (Tr Nd WF Ps Path at_ cnt used)
section
variable {F : Nat → Prop} {K tb : Nat} {T : Tr} {ad mb : Nat → Nat}
theorem below_new (w : World) (o : Obj) : Below w.heap.size w (w.alloc o) := (Below.refl _ w).alloc (Nat.le_refl _) _
theorem pnode_any (w : World) (a b n : Nat) (x : Nd) (k : Int) (f : ByteArray → Option Nat) (s : ByteArray) (hx : BX w a 108 (NC x (some b) k)) (hm : MapAt w b n f) (hs : s.size ≤ maxLen) :
    Calls Tryz.prog 90 #[.agg #[.pointer (some ⟨a, 0, none⟩), .string s]] w fun e w' => e = .returned (ptrv (f s)) ∧ Below w.heap.size w w' := by
  have hx' := Lib.hid (hx.alloc (.cells #[.pointer (some ⟨a, 0, none⟩), .string s] 159))
  have hm' := Lib.hid (hm.alloc (.cells #[.pointer (some ⟨a, 0, none⟩), .string s] 159))
  have d7 : (w.alloc (.cells #[.pointer (some ⟨a, 0, none⟩), .string s] 159)).cell? ⟨a, 7, none⟩ = some (.map (some b)) := hx'.out.cell rfl
  have hl := fun j => (hm'.out.drewN j).look hs
  have hb0 := Lib.hid ((Below.refl _ w).alloc (Nat.le_refl _) (.cells #[.pointer (some ⟨a, 0, none⟩), .string s] 159))
  have hB := Lib.hid (BX.new w 159 #[.pointer (some ⟨a, 0, none⟩), .string s])
  have q0 : (w.alloc (.cells #[.pointer (some ⟨a, 0, none⟩), .string s] 159)).cell? ⟨w.heap.size, 0, none⟩ = some (.pointer (some ⟨a, 0, none⟩)) := hB.out.cell rfl
  have q1 : (w.alloc (.cells #[.pointer (some ⟨a, 0, none⟩), .string s] 159)).cell? ⟨w.heap.size, 1, none⟩ = some (.string s) := hB.out.cell rfl
  clear hx hm
  generalize ptrv (f s) = v at *
  go_enter Tryz.func90, Tryz.ntmps90
  go_wp2
  generalize w.alloc (.cells #[.pointer (some ⟨a, 0, none⟩), .string s] 159) = W at *
  go_quiet (fail)
  go_wp2
  go_ret
  exact ⟨rfl, below_drewN hb0.out _⟩
theorem newPlace_any {w : World} (hW : WF T K) (hR : RepP F K w tb T ad mb) (p : ByteArray) (hp : p.size ≤ 1000000) (r : Int) (hr : Pp.IsLast p p.size r) :
    Calls Tryz.prog 95 #[.pointer (some ⟨tb, 0, none⟩), .string p] w fun e w' =>
      (∃ v, e = .returned (.tuple #[v, .int .i64 (T.fresh p)]) ∧ (T.fresh p = 0 → v = .agg #[.pointer (some ⟨ad (T.fnd [] 0 (Pp.pieces p).dropLast).1, 0, none⟩), .string (baseS p r)]) ∧ (T.fresh p ≠ 0 → v = noPlace)) ∧ Below w.heap.size w w' := by
  have hRH := Lib.hid hR
  have ko := Lib.hid (fun W (h : RepP F K W tb T ad mb) => placeOf_any hW h p hp r hr)
  have HB := Lib.hid (BX.new w 159 #[.pointer none, .string ⟨#[]⟩])
  have hb0 : Below w.heap.size w (w.alloc (.cells #[.pointer none, .string ⟨#[]⟩] 159)) := (Below.refl _ w).alloc (Nat.le_refl _) _
  have HB0 := Lib.hid hb0
  by_cases he : T.parE p = 0
  · obtain ⟨h1, q, x, m, e1, hx, hm, hk, e2⟩ := hW.par_ok he
    have eb := base_last hr
    rw [e1, List.dropLast_concat] at eb
    have ebx : x = baseS p r := by
      have := List.append_cancel_left eb
      simpa using this
    have hmp := Lib.hid ((hR.map _ _ hm hk).2)
    have hfe : T.fresh p = if (at_ T.paths (q ++ [x])).isSome then 7 else 0 := by
      unfold Tr.fresh
      rw [if_neg (by simp [he]), e1]
    have hxs : x.size ≤ maxLen := by have := Nt.nm_le hx; unfold maxLen; omega
    rw [he, e1, List.dropLast_concat, e2, ← ebx] at ko
    rw [hfe, e1, List.dropLast_concat, e2, ← ebx]
    have kn := Lib.hid (fun W (h : RepP F K W tb T ad mb) => pnode_any W (ad m) (mb m) K (T.nd m) _ _ x (h.dir hm hk) (h.map _ _ hm hk).2 hxs)
    clear hfe eb ebx e1 e2 he h1 hmp
    have hne : ∀ W, Below w.heap.size w W → w.heap.size ≠ W.heap.size + 1 := fun W h => by have := h.size; omega
    cases ha : at_ T.paths (q ++ [x]) with
    | none =>
      rw [ha] at kn
      replace kn : Hid (∀ W (h : RepP F K W tb T ad mb), Calls Tryz.prog 90 #[.agg #[.pointer (some ⟨ad m, 0, none⟩), .string x]] W fun e w' => e = .returned (.pointer none) ∧ Below W.heap.size W w') := kn
      have HA := Lib.hid ha; clear ha
      simp only [Option.isSome_none, Bool.false_eq_true, if_false]
      go_enter Tryz.func95, Tryz.ntmps95
      go_wp2_with (first
        | (go_at_call 89; refine (ko.out _ (hRH.out.later HB0.out)).mono ?_; rintro e w1 ⟨⟨v, rfl, hv, _⟩, hb1⟩; obtain rfl := hv rfl; have hbx := Lib.hid (HB.out.later hb1); have q0 : w1.cell? ⟨w.heap.size, 0, none⟩ = some (.pointer none) := hbx.out.cell rfl; have q1 : w1.cell? ⟨w.heap.size, 1, none⟩ = some (.string ⟨#[]⟩) := hbx.out.cell rfl; have f0 := hbx.out.free 0; have f1 := hbx.out.free 1)
        | (go_at_call 90; refine (kn.out _ (((hRH.out.later HB0.out).later hb1).later (below_new w1 _))).mono ?_; rintro e w2 ⟨rfl, hb2⟩; have hb3 := bthen (below_new w1 _) hb2; replace hbx := Lib.hid (hbx.out.later hb3); have hbz := Lib.hid ((BX.new w1 159 #[.pointer (some ⟨ad m, 0, none⟩), .string x]).later hb2); have q0 : w2.cell? ⟨w.heap.size, 0, none⟩ = some (.pointer none) := hbx.out.cell rfl; have q1 : w2.cell? ⟨w.heap.size, 1, none⟩ = some (.string ⟨#[]⟩) := hbx.out.cell rfl; have f0 := hbx.out.free 0; have f1 := hbx.out.free 1; have p0 : w2.cell? ⟨w1.heap.size, 0, none⟩ = some (.pointer (some ⟨ad m, 0, none⟩)) := hbz.out.cell rfl; have p1 : w2.cell? ⟨w1.heap.size, 1, none⟩ = some (.string x) := hbz.out.cell rfl))
      refine bodyPost_ret (v := .tuple #[.agg #[.pointer (some ⟨ad m, 0, none⟩), .string x], .int .i64 0]) (by simp [results, Tryz.f95, go_sem, q0, q1]) rfl ?_
      exact ⟨⟨_, rfl, fun _ => rfl, fun h => absurd rfl h⟩, ((bthen (bthen hb0 hb1) hb3).setCell (p := ⟨w.heap.size, 0, none⟩) (by simp) _).setCell (p := ⟨w.heap.size, 1, none⟩) (by simp) _⟩
    | some j =>
      rw [ha] at kn
      replace kn : Hid (∀ W (h : RepP F K W tb T ad mb), Calls Tryz.prog 90 #[.agg #[.pointer (some ⟨ad m, 0, none⟩), .string x]] W fun e w' => e = .returned (.pointer (some ⟨ad j, 0, none⟩)) ∧ Below W.heap.size W w') := kn
      have HA := Lib.hid ha; clear ha
      simp only [Option.isSome_some, if_true]
      go_enter Tryz.func95, Tryz.ntmps95
      go_wp2_with (first
        | (go_at_call 89; refine (ko.out _ (hRH.out.later HB0.out)).mono ?_; rintro e w1 ⟨⟨v, rfl, hv, _⟩, hb1⟩; obtain rfl := hv rfl; have hbx := Lib.hid (HB.out.later hb1); have q0 : w1.cell? ⟨w.heap.size, 0, none⟩ = some (.pointer none) := hbx.out.cell rfl; have q1 : w1.cell? ⟨w.heap.size, 1, none⟩ = some (.string ⟨#[]⟩) := hbx.out.cell rfl; have f0 := hbx.out.free 0; have f1 := hbx.out.free 1)
        | (go_at_call 90; refine (kn.out _ (((hRH.out.later HB0.out).later hb1).later (below_new w1 _))).mono ?_; rintro e w2 ⟨rfl, hb2⟩; have hb3 := bthen (below_new w1 _) hb2; replace hbx := Lib.hid (hbx.out.later hb3); have hbz := Lib.hid ((BX.new w1 159 #[.pointer (some ⟨ad m, 0, none⟩), .string x]).later hb2); have q0 : w2.cell? ⟨w.heap.size, 0, none⟩ = some (.pointer none) := hbx.out.cell rfl; have q1 : w2.cell? ⟨w.heap.size, 1, none⟩ = some (.string ⟨#[]⟩) := hbx.out.cell rfl; have f0 := hbx.out.free 0; have f1 := hbx.out.free 1; have p0 : w2.cell? ⟨w1.heap.size, 0, none⟩ = some (.pointer (some ⟨ad m, 0, none⟩)) := hbz.out.cell rfl; have p1 : w2.cell? ⟨w1.heap.size, 1, none⟩ = some (.string x) := hbz.out.cell rfl))
      refine bodyPost_ret (v := .tuple #[noPlace, .int .i64 7]) (by simp [results, Tryz.f95, go_sem, q0, q1]) rfl ?_
      exact ⟨⟨_, rfl, fun h => absurd h (by decide), fun _ => rfl⟩, ((bthen (bthen hb0 hb1) hb3).setCell (p := ⟨w.heap.size, 0, none⟩) (by simp) _).setCell (p := ⟨w.heap.size, 1, none⟩) (by simp) _⟩
  · have hfe : T.fresh p = T.parE p := by unfold Tr.fresh; rw [if_pos he]
    rw [hfe]
    generalize T.parE p = c at *
    have g : (c != 0) = true := by simp [he]
    have HE := Lib.hid he; clear he hfe
    go_enter Tryz.func95, Tryz.ntmps95
    go_wp2_with (go_at_call 89; refine (ko.out _ (hRH.out.later HB0.out)).mono ?_; rintro e w1 ⟨⟨v, rfl, _, hv⟩, hb1⟩; obtain rfl := hv HE.out; have hbx := Lib.hid ((HB.out.later hb1).alloc (.cells #[.pointer none, .string ⟨#[]⟩] 159)); have q0 := (hbx.out.cell (j := 0) (v := .pointer none) rfl); have q1 := (hbx.out.cell (j := 1) (v := .string ⟨#[]⟩) rfl); have f0 := hbx.out.free 0; have f1 := hbx.out.free 1)
    refine bodyPost_ret (v := .tuple #[noPlace, .int .i64 c]) (by simp [results, Tryz.f95, go_sem, q0, q1]) rfl ?_
    exact ⟨⟨_, rfl, fun h => absurd h HE.out, fun _ => rfl⟩, ((bthen (bthen hb0 hb1) (below_new w1 _)).setCell (p := ⟨w.heap.size, 0, none⟩) (by simp) _).setCell (p := ⟨w.heap.size, 1, none⟩) (by simp) _⟩
end
end Go.Proofs.YthgbncpiehcghaaGreatDoor
