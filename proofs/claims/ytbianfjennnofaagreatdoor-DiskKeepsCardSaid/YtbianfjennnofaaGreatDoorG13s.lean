/- WALKS OF LAYER 13, NINETEENTH PART: Clone; a tree that nobody made. -/
import Derived.Test.YtbianfjennnofaaGreatDoorG13r
import Derived.Test.YtbianfjennnofaaGreatDoorG13p
namespace Go.Proofs.YtbianfjennnofaaGreatDoor
set_option linter.unusedVariables false
open Go Go.RowKit Go.Maps
set_option maxRecDepth 100000
set_option maxHeartbeats 1000000
open Nt (Tr Nd WF Ps Path at_ cnt used)
section
variable {w W W' : World} {F : Nat → Prop} {K tb : Nat} {T : Tr} {ad mb : Nat → Nat}
theorem clone_rep {z : Nat} (hW : WF T K) (hK : K ≤ 100000) (hR : RepP F K w tb T ad mb) (hz : w.heap.size = z) :
    Calls Tryz.prog 84 #[.pointer (some ⟨ad 0, 0, none⟩)] w fun e w' => ∃ C0, e = .returned (.pointer (some ⟨C0, 0, none⟩)) ∧
      (∀ W' tb', Below w'.heap.size w' W' → BX W' tb' 95 (TC T C0 T.usedN T.usedB) → z ≤ tb' → Rep (fun k => False ∨ (z ≤ k ∧ k < W'.heap.size)) K W' tb' T) ∧ Below z w w' := by
  subst hz
  refine (clone_any hW hK hR).mono ?_
  rintro e w' ⟨c, nm, L, Dn, v, rfl, hc, h0⟩
  exact ⟨c 0, rfl, fun W' tb' hb ht hl => (hc.later hb).rep hW h0 ht hl, hc.low⟩
theorem tclone_any (hW : WF T K) (hK : K ≤ 100000) (hR : RepP F K w tb T ad mb) :
    Calls Tryz.prog 46 #[.pointer (some ⟨tb, 0, none⟩)] w fun e w' => ∃ tb', e = .returned (.pointer (some ⟨tb', 0, none⟩)) ∧ w.heap.size ≤ tb' ∧ Rep (Grow (fun _ => False) w w') K w' tb' T ∧ Below w.heap.size w w' := by
  have HR := Lib.hid hR
  have km := Lib.hid (made_any w tb _ (ad 0) hR.tree rfl)
  have kc := Lib.hid (fun W z (hz : W.heap.size = z) (h : RepP F K W tb T ad mb) => clone_rep hW hK h hz)
  have HDS := Lib.hid (show w.drew.heap.size = w.heap.size from rfl)
  obtain ⟨a1, ha1⟩ : ∃ a : Int, T.room = a := ⟨_, rfl⟩
  obtain ⟨a2, ha2⟩ : ∃ a : Int, T.vol = a := ⟨_, rfl⟩
  obtain ⟨a3, ha3⟩ : ∃ a : Int, ((T.usedN : Nat) : Int) = a := ⟨_, rfl⟩
  obtain ⟨a4, ha4⟩ : ∃ a : Int, ((T.usedB : Nat) : Int) = a := ⟨_, rfl⟩
  have HA := Lib.hid (fun C : Nat => show TC T C T.usedN T.usedB = #[.pointer (some ⟨C, 0, none⟩), .int .i64 a1, .int .i64 a2, .int .i64 a3, .int .i64 a4] from by rw [← ha1, ← ha2, ← ha3, ← ha4])
  have ALLS := Lib.hid (fun (V : World) (h : Below w.heap.size w V) => show V.cell? ⟨tb, 0, none⟩ = some (.pointer (some ⟨ad 0, 0, none⟩)) ∧ V.cell? ⟨tb, 1, none⟩ = some (.int .i64 a1) ∧ V.cell? ⟨tb, 2, none⟩ = some (.int .i64 a2) ∧ V.cell? ⟨tb, 3, none⟩ = some (.int .i64 a3) ∧ V.cell? ⟨tb, 4, none⟩ = some (.int .i64 a4) from by
    rw [← ha1, ← ha2, ← ha3, ← ha4]
    exact ⟨(HR.out.later h).tree.cell rfl, (HR.out.later h).tree.cell rfl, (HR.out.later h).tree.cell rfl, (HR.out.later h).tree.cell rfl, (HR.out.later h).tree.cell rfl⟩)
  have HW := Lib.hid hW
  have hacc : Below w.heap.size w w := Below.refl _ _
  obtain ⟨y0, y1, y2, y3, y4⟩ := ALLS.out w hacc
  clear hR hW
  go_enter Tryz.func46, Tryz.ntmps46
  go_wp2_with (go_at_call 61; refine km.out.mono ?_; rintro e w1 ⟨rfl, rfl⟩)
  go_region_held3 (fun V => V.cell? ⟨tb, 0, none⟩ = some (.pointer (some ⟨ad 0, 0, none⟩)) ∧ V.cell? ⟨tb, 1, none⟩ = some (.int .i64 a1) ∧ V.cell? ⟨tb, 2, none⟩ = some (.int .i64 a2) ∧ V.cell? ⟨tb, 3, none⟩ = some (.int .i64 a3) ∧ V.cell? ⟨tb, 4, none⟩ = some (.int .i64 a4))
    (first | go_keep | (exact ALLS.out _ hacc))
    (first | (go_at_call 84; (with_reducible refine (kc.out _ _ HDS.out (HR.out.later hacc.drew)).mono ?_); rintro e wn ⟨C0, rfl, hrep, hbn⟩; replace hacc : Below w.heap.size w wn := hacc.drew.trans hbn))
  all_goals
    go_wp2
    go_ret
    have hb2 := below_new wn (.cells #[.pointer (some ⟨C0, 0, none⟩), .int .i64 a1, .int .i64 a2, .int .i64 a3, .int .i64 a4] 95)
    refine ⟨wn.heap.size, rfl, hacc.size, hrep _ _ hb2 ?_ hacc.size, bthen hacc hb2⟩
    rw [HA.out]
    exact BX.new _ _ _
end
end Go.Proofs.YtbianfjennnofaaGreatDoor
