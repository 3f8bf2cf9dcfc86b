/- WALKS OF LAYER 13, FOURTH PART: places. -/
import Derived.Test.YtbianfjennnofaaDoorG13c
namespace Go.Proofs.YtbianfjennnofaaDoor
set_option linter.unusedVariables false
open Go Go.RowKit
set_option maxRecDepth 100000
set_option maxHeartbeats 1000000
open Nt (Tr Nd WF Ps Path at_ cnt used)
section
variable {F : Nat → Prop} {K tb : Nat} {T : Tr} {ad mb : Nat → Nat}
abbrev noPlace : Value := .agg #[.pointer none, .string ⟨#[]⟩]
theorem placeOf_any {w : World} (hW : WF T K) (hR : RepP F K w tb T ad mb) (p : ByteArray) (hp : p.size ≤ 1000000) (r : Int) (hr : Pp.IsLast p p.size r) :
    Calls Tryd.prog 30 #[.pointer (some ⟨tb, 0, none⟩), .string p] w fun e w' =>
      (∃ v, e = .returned (.tuple #[v, .int .i64 (T.parE p)]) ∧ (T.parE p = 0 → v = .agg #[.pointer (some ⟨ad (T.fnd [] 0 (Pp.pieces p).dropLast).1, 0, none⟩), .string (baseS p r)]) ∧ (T.parE p ≠ 0 → v = noPlace)) ∧ Below w.heap.size w w' := by
  have km := Lib.hid (fun W (hx : BX W tb 49 (TC T (ad 0) T.usedN T.usedB)) => made_any W tb _ (ad 0) hx rfl)
  have hX := Lib.hid hR.tree
  have hRH := Lib.hid hR
  have ky := Lib.hid (fun W => may_any p W hp)
  have kp := Lib.hid (fun W => parent_any p W hp r hr)
  have kb := Lib.hid (fun W => base_any p W hp r hr)
  have HB := Lib.hid (BX.new w 71 #[.pointer none, .string ⟨#[]⟩])
  have hb0 : Below w.heap.size w (w.alloc (.cells #[.pointer none, .string ⟨#[]⟩] 71)) := (Below.refl _ w).alloc (Nat.le_refl _) _
  have HB0 := Lib.hid hb0
  have hps : (parentS p r).size ≤ 1000000 := by unfold parentS; rw [Pp.extract_size]; omega
  by_cases h1 : Nt.isP p = true
  · have hfp := find_par (T := T) hr h1
    have kf := Lib.hid (fun W (h : RepP F K W tb T ad mb) => find_any hW h (parentS p r) hps)
    rw [hfp] at kf
    rw [show ((Pp.partsS p).2 == 0) = true from h1] at ky
    have hpe : T.parE p = if (T.fnd [] 0 (Pp.pieces p).dropLast).2 ≠ 0 then (T.fnd [] 0 (Pp.pieces p).dropLast).2 else if (T.nd (T.fnd [] 0 (Pp.pieces p).dropLast).1).kind ≠ 4 then 12 else 0 := by
      unfold Tr.parE; rw [if_pos h1]
    have hsome := hW.fnd_some (Pp.pieces p).dropLast [] 0 (T.fnd [] 0 (Pp.pieces p).dropLast).1 hW.root
    rw [hpe]
    generalize parentS p r = pp at *
    generalize baseS p r = bb at *
    generalize T.fnd [] 0 (Pp.pieces p).dropLast = x at *
    obtain ⟨m, c⟩ := x
    simp only at hsome hpe kf ⊢
    clear hfp hpe h1
    by_cases hc : c = 0
    · subst hc
      have hm := Lib.hid (hsome.1 rfl)
      clear hsome
      simp only [fv, if_pos, ptrv] at kf
      rw [if_neg (by simp)]
      by_cases hk : (T.nd m).kind = 4
      · have HD := Lib.hid (fun W (h : RepP F K W tb T ad mb) => show W.cell? ⟨ad m, 0, none⟩ = some (.int .i64 4) by rw [← hk]; exact (h.dir hm.out hk).cell rfl)
        rw [if_neg (by simp [hk])]
        clear hk
        go_enter Tryd.func30, Tryd.ntmps30
        go_wp2_with (first
          | (go_at_call 24; refine (km.out _ (hX.out.alloc _)).mono ?_; rintro e w' ⟨rfl, rfl⟩)
          | (go_at_call 45; refine (ky.out _).mono ?_; rintro e w1 ⟨rfl, hb1⟩)
          | (go_at_call 46; refine (kp.out _).mono ?_; rintro e w' ⟨rfl, rfl⟩)
          | (go_at_call 29; refine (kf.out _ ((hRH.out.later HB0.out).later hb1)).mono ?_; rintro e w2 ⟨rfl, hb2⟩; have d0 := HD.out w2 (((hRH.out.later HB0.out).later hb1).later hb2); have hbx := Lib.hid ((HB.out.later hb1).later hb2); have q0 : w2.cell? ⟨w.heap.size, 0, none⟩ = some (.pointer none) := hbx.out.cell rfl; have q1 : w2.cell? ⟨w.heap.size, 1, none⟩ = some (.string ⟨#[]⟩) := hbx.out.cell rfl; have f0 := hbx.out.free 0; have f1 := hbx.out.free 1)
          | (go_at_call 47; refine (kb.out _).mono ?_; rintro e w' ⟨rfl, rfl⟩))
        refine bodyPost_ret (v := .tuple #[.agg #[.pointer (some ⟨ad m, 0, none⟩), .string bb], .int .i64 0]) (by simp [results, Tryd.f30, go_sem, q0, q1]) rfl ?_
        exact ⟨⟨_, rfl, fun _ => rfl, fun h => absurd rfl h⟩, ((bthen (bthen hb0 hb1) hb2).setCell (p := ⟨w.heap.size, 0, none⟩) (by simp) _).setCell (p := ⟨w.heap.size, 1, none⟩) (by simp) _⟩
      · have HD := Lib.hid (fun W (h : RepP F K W tb T ad mb) => show W.cell? ⟨ad m, 0, none⟩ = some (.int .i64 (T.nd m).kind) from (h.leaf hm.out hk).cell rfl)
        rw [if_pos hk]
        obtain ⟨kd, hkk⟩ : ∃ kd, (T.nd m).kind = kd := ⟨_, rfl⟩
        rw [hkk] at HD hk
        have g : (kd != 4) = true := by simp [hk]
        clear hkk hk
        go_enter Tryd.func30, Tryd.ntmps30
        go_wp2_with (first
          | (go_at_call 24; refine (km.out _ (hX.out.alloc _)).mono ?_; rintro e w' ⟨rfl, rfl⟩)
          | (go_at_call 45; refine (ky.out _).mono ?_; rintro e w1 ⟨rfl, hb1⟩)
          | (go_at_call 46; refine (kp.out _).mono ?_; rintro e w' ⟨rfl, rfl⟩)
          | (go_at_call 29; refine (kf.out _ ((hRH.out.later HB0.out).later hb1)).mono ?_; rintro e w2 ⟨rfl, hb2⟩; have d0 := HD.out w2 (((hRH.out.later HB0.out).later hb1).later hb2); have hbx := Lib.hid ((HB.out.later hb1).later hb2); have q0 : w2.cell? ⟨w.heap.size, 0, none⟩ = some (.pointer none) := hbx.out.cell rfl; have q1 : w2.cell? ⟨w.heap.size, 1, none⟩ = some (.string ⟨#[]⟩) := hbx.out.cell rfl; have f0 := hbx.out.free 0; have f1 := hbx.out.free 1)
          | (go_at_call 47; refine (kb.out _).mono ?_; rintro e w' ⟨rfl, rfl⟩))
        refine bodyPost_ret (v := .tuple #[noPlace, .int .i64 12]) (by simp [results, Tryd.f30, go_sem, q0, q1]) rfl ?_
        exact ⟨⟨_, rfl, fun h => absurd h (by decide), fun _ => rfl⟩, ((bthen (bthen hb0 hb1) hb2).setCell (p := ⟨w.heap.size, 0, none⟩) (by simp) _).setCell (p := ⟨w.heap.size, 1, none⟩) (by simp) _⟩
    · clear hsome
      simp only [fv, if_neg hc, ptrv] at kf
      rw [if_pos hc]
      have g : (c != 0) = true := by simp [hc]
      have HC := Lib.hid hc; clear hc
      go_enter Tryd.func30, Tryd.ntmps30
      go_wp2_with (first
          | (go_at_call 24; refine (km.out _ (hX.out.alloc _)).mono ?_; rintro e w' ⟨rfl, rfl⟩)
          | (go_at_call 45; refine (ky.out _).mono ?_; rintro e w1 ⟨rfl, hb1⟩)
          | (go_at_call 46; refine (kp.out _).mono ?_; rintro e w' ⟨rfl, rfl⟩)
          | (go_at_call 29; refine (kf.out _ ((hRH.out.later HB0.out).later hb1)).mono ?_; rintro e w2 ⟨rfl, hb2⟩; have hbx := Lib.hid ((HB.out.later hb1).later hb2); have q0 : w2.cell? ⟨w.heap.size, 0, none⟩ = some (.pointer none) := hbx.out.cell rfl; have q1 : w2.cell? ⟨w.heap.size, 1, none⟩ = some (.string ⟨#[]⟩) := hbx.out.cell rfl; have f0 := hbx.out.free 0; have f1 := hbx.out.free 1)
          | (go_at_call 47; refine (kb.out _).mono ?_; rintro e w' ⟨rfl, rfl⟩))
      refine bodyPost_ret (v := .tuple #[noPlace, .int .i64 c]) (by simp [results, Tryd.f30, go_sem, q0, q1]) rfl ?_
      exact ⟨⟨_, rfl, fun h => absurd h HC.out, fun _ => rfl⟩, ((bthen (bthen hb0 hb1) hb2).setCell (p := ⟨w.heap.size, 0, none⟩) (by simp) _).setCell (p := ⟨w.heap.size, 1, none⟩) (by simp) _⟩
  · have hpe : T.parE p = 8 := by unfold Tr.parE; rw [if_neg h1]
    rw [show ((Pp.partsS p).2 == 0) = false by cases e : ((Pp.partsS p).2 == 0) with | false => rfl | true => exact absurd e h1] at ky
    rw [hpe]
    clear hpe h1
    go_enter Tryd.func30, Tryd.ntmps30
    go_wp2_with (first
      | (go_at_call 24; refine (km.out _ (hX.out.alloc _)).mono ?_; rintro e w' ⟨rfl, rfl⟩)
      | (go_at_call 45; refine (ky.out _).mono ?_; rintro e w1 ⟨rfl, hb1⟩; have hbx := Lib.hid (HB.out.later hb1); have q0 : w1.cell? ⟨w.heap.size, 0, none⟩ = some (.pointer none) := hbx.out.cell rfl; have q1 : w1.cell? ⟨w.heap.size, 1, none⟩ = some (.string ⟨#[]⟩) := hbx.out.cell rfl; have f0 := hbx.out.free 0; have f1 := hbx.out.free 1))
    refine bodyPost_ret (v := .tuple #[noPlace, .int .i64 8]) (by simp [results, Tryd.f30, go_sem, q0, q1]) rfl ?_
    exact ⟨⟨_, rfl, fun h => absurd h (by decide), fun _ => rfl⟩, ((bthen hb0 hb1).setCell (p := ⟨w.heap.size, 0, none⟩) (by simp) _).setCell (p := ⟨w.heap.size, 1, none⟩) (by simp) _⟩
end
end Go.Proofs.YtbianfjennnofaaDoor
